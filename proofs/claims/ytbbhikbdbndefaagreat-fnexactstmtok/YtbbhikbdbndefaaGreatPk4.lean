/- How much room a term leaves: the program's roomLeft over terms, its ExprOk. Which terms are right: the model's l8Ok and ExprOk. Which statements are right: the model's l9Count, l9Ok, l9Block, StmtOk. Statements, counted: the model's l9Count; its StmtOk. What a statement's kind asks: the program's formOf, nameAsFormed, blockAsFormed, stmtTermsOk. What a statement's kind asks: the program's stmtNodeOk. What a statement's kind asks: the program's stmtNodeOk says nodeP. The small functions of the laws over terms: how great one is, a copy of it, in new blocks. -/
import Derived.Test.YtbbhikbdbndefaaGreatPk1
import Derived.Test.YtbbhikbdbndefaaGreatPlCan
import Derived.Test.YtbbhikbdbndefaaGreatPk3
import Derived.Test.YtbbhikbdbndefaaGreatStHereS
import Derived.Lib.QuietBelow
import Derived.Test.YtbbhikbdbndefaaGreatExTree
import Derived.Test.YtbbhikbdbndefaaGreatRexTo
namespace Go.Proofs.YtbbhikbdbndefaaGreat
open Go.RowKit
set_option maxRecDepth 8000

/-- A term within a term. -/
inductive InX : Ex → Ex → Prop
  | self (t : Ex) : InX t t
  | sub {x y t : Ex} (h : y ∈ t.l) (hx : InX x y) : InX x t

def RoomX (f : Nat) : Prop := ∀ (t : Ex) (B : Nat → Prop) (v : Value) (w : World) (r : Int), El w B t.l v → (∀ x, InX x t → x.s.size ≤ 1048576) → 0 ≤ r → r ≤ 100 →
  Calls Tryz.prog 42 #[xx t.k t.n t.s v, .int .i64 (f : Int), .int .i64 r, .func (.func 43) #[] #[], .func (.func 44) #[] #[]] w fun e w' => e = .returned (.int .i64 (roomX f t r)) ∧ Below w.heap.size w w'

theorem exprParts_any (k n : Int) (s : ByteArray) (v : Value) (w : World) (hv : ∃ ao L cap, v = .slice ao L cap) :
    Calls Tryz.prog 44 #[xx k n s v] w fun e w' => e = .returned v ∧ Below w.heap.size w w' := by
  obtain ⟨ao, L, cap, rfl⟩ := hv
  go_enter Tryz.func44, Tryz.ntmps44
  go_wp2
  go_ret
  exact ⟨rfl, (Below.refl _ _).alloc (Nat.le_refl _) _⟩

theorem roomX_zero : RoomX 0 := by
  intro t B v w r h hs h0 h1
  obtain ⟨ao, cap, rfl, hl1, hl2, hl3⟩ := h.len
  obtain ⟨k, hk⟩ : ∃ k, t.k = k := ⟨_, rfl⟩
  obtain ⟨n, hnn⟩ : ∃ n, t.n = n := ⟨_, rfl⟩
  obtain ⟨s, hsn⟩ : ∃ s, t.s = s := ⟨_, rfl⟩
  have HR : Hid (roomX 0 t r = -1) := rfl
  rw [hk, hnn, hsn]
  clear h
  go_enter Tryz.func42, Tryz.ntmps42
  go_wp2
  go_ret
  exact ⟨ret_i HR.out.symm, (Below.refl _ _).alloc (Nat.le_refl _) _⟩

set_option maxHeartbeats 1000000 in
theorem roomX_succ (f : Nat) (hf : f ≤ 9) (ih : RoomX f) : RoomX (f + 1) := by
  intro t B v w r h hs h0 h1
  obtain ⟨ao0, cap0, hv0, -, -, -⟩ := h.len
  have HNB := Hid.mk (fun (w' : World) => exprNodeOk_any t.k t.n t.s ao0 t.l.length cap0 w' (hs t (.self t)))
  have HSUB := Hid.mk (fun i (hi : i < t.l.length) x hx => hs x (InX.sub (List.getElem_mem hi) hx))
  rw [← nodeX_eq, ← hv0] at HNB
  clear hv0
  have HE : Hid (roomX (f + 1) t r = if r = 0 ∨ nodeX t = false then -1 else t.l.foldl (roomXG (roomX f)) (r - 1)) := rfl
  obtain ⟨R, hR⟩ : ∃ R, roomX (f + 1) t r = R := ⟨_, rfl⟩
  obtain ⟨nb, hnb⟩ : ∃ nb, nodeX t = nb := ⟨_, rfl⟩
  obtain ⟨k, hk⟩ : ∃ k, t.k = k := ⟨_, rfl⟩
  obtain ⟨n, hnn⟩ : ∃ n, t.n = n := ⟨_, rfl⟩
  obtain ⟨s, hsn⟩ : ∃ s, t.s = s := ⟨_, rfl⟩
  obtain ⟨l, hln⟩ : ∃ l, t.l = l := ⟨_, rfl⟩
  rw [hk, hnn, hsn, hnb] at HNB
  rw [hR, hnb, hln] at HE
  rw [hln] at h HSUB
  rw [hk, hnn, hsn, hR]
  clear hR hnb hk hnn hsn hln hs
  obtain ⟨ao, cap, rfl, hl1, hl2, hl3⟩ := h.len
  have hm : cap ≤ 9223372036854775807 := by unfold maxLen at hl2; omega
  have HH := Hid.mk h
  have HI := Hid.mk ih
  clear ih h hl2
  have B0 : Below w.heap.size w (w.alloc (.cells #[.int .i64 k, .int .i64 n, .string s, .slice ao l.length cap] 46)) := (Below.refl _ _).alloc (Nat.le_refl _) _
  obtain ⟨d, hd⟩ : ∃ d : Int, ((f + 1 : Nat) : Int) = d := ⟨_, rfl⟩
  rw [hd]
  have hd6 : (d == 0) = false := beq_eq_false_iff_ne.2 (by omega)
  have hd7 : d - 1 = (f : Int) := by omega
  have hd8 : 0 ≤ d := by omega
  have hd9 : d ≤ 10 := by omega
  have HPT := Hid.mk (fun w' => exprParts_any k n s (.slice ao l.length cap) w' ⟨_, _, _, rfl⟩)
  by_cases hr0 : r = 0
  · subst hr0
    have HR : Hid (R = -1) := by show _ = _; rw [HE.out, if_pos (Or.inl rfl)]
    clear HE HNB HI HH
    go_enter Tryz.func42, Tryz.ntmps42
    go_wp2
    go_ret
    exact ⟨ret_i HR.out.symm, B0⟩
  have hrb : (r == 0) = false := beq_eq_false_iff_ne.2 hr0
  cases nb with
  | false =>
    have HR : Hid (R = -1) := by show _ = _; rw [HE.out, if_pos (Or.inr rfl)]
    clear HE HI HH
    go_enter Tryz.func42, Tryz.ntmps42
    go_wp2_with fail
    refine (HNB.out _).mono ?_
    rintro e w1 ⟨rfl, hb1⟩
    have B1 := B0.trans (hb1.mono (by simp))
    clear B0 hb1 HNB
    go_wp2
    go_ret
    exact ⟨ret_i HR.out.symm, B1⟩
  | true =>
    have HR : Hid (R = l.foldl (roomXG (roomX f)) (r - 1)) := by show _ = _; rw [HE.out, if_neg (by simpa using hr0)]
    clear HE
    go_enter Tryz.func42, Tryz.ntmps42
    go_wp2_with fail
    refine (HNB.out _).mono ?_
    rintro e w1 ⟨rfl, hb1⟩
    have B1 := B0.trans (hb1.mono (by simp))
    have hc1 := fun o => hb1.cell (p := ⟨w.heap.size, o, none⟩) (by simp)
    have hs1 := hb1.size
    simp at hs1
    clear B0 hb1 HNB
    have hr1 : 0 ≤ r - 1 := by omega
    go_wp2_with fail
    refine (HPT.out _).mono ?_
    rintro e w2 ⟨rfl, hb2⟩
    have B2 := B1.trans (hb2.mono B1.size)
    clear B1 hb2 hc1 HPT
    go_wp2
    go_loopw [2, 31] (fun q i wr => ∃ (k : Nat) (m : Int), k ≤ l.length ∧ i = .int .i64 k ∧ q = .int .i64 m ∧ 0 ≤ m ∧ m ≤ 100 ∧ Hid (m = (l.take k).foldl (roomXG (roomX f)) (r - 1)) ∧ Below w.heap.size w wr) (fun _ i _ => l.length - (intOf i).toNat)
    case atStart => exact ⟨0, r - 1, Nat.zero_le _, rfl, rfl, by omega, by omega, rfl, B2⟩
    case round =>
      obtain ⟨k, m, hk, rfl, rfl, m0, m1, Hm, hbel⟩ := hrel
      clear B2
      by_cases hkl : k < l.length
      · obtain ⟨b, off, V, rfl, hel⟩ := HH.out.elems (by intro hn; rw [hn] at hkl; simp at hkl)
        obtain ⟨h3, hsub, hss⟩ := hel k hkl
        have HT := Hid.mk (roomX_take (f := f) l k (r - 1) hkl)
        have HC := Hid.mk (roomX_cut (f := f) l (k + 1) (r - 1))
        have hall := HSUB.out k hkl
        obtain ⟨t, ht⟩ : ∃ t, l[k] = t := ⟨_, rfl⟩
        rw [ht] at h3 hsub hss HT hall
        clear ht hel
        obtain ⟨c0, cn, c1, c2⟩ := h3.kept (w' := wr) (hbel.block b (World.block_lt_of_cell? w _ h3.1))
        have hs1 := hbel.size
        have HCall := Hid.mk (fun (w' : World) (hb : Below w.heap.size w w') => HI.out t B (V k) w' m (hsub.grow hb) hall m0 m1)
        obtain ⟨bd0, bd1⟩ := roomX_bd f t m m0
        obtain ⟨av, cv, hv, -, -, -⟩ := hsub.len
        rw [hv] at c2 HCall
        obtain ⟨tk, htk⟩ : ∃ tk, t.k = tk := ⟨_, rfl⟩
        obtain ⟨tn, htn⟩ : ∃ tn, t.n = tn := ⟨_, rfl⟩
        obtain ⟨ts, hts⟩ : ∃ ts, t.s = ts := ⟨_, rfl⟩
        rw [htk, htn, hts] at HCall
        rw [htk] at c0
        rw [htn] at cn
        rw [hts] at c1
        obtain ⟨q, hq⟩ : ∃ q, roomX f t m = q := ⟨_, rfl⟩
        rw [hq] at bd0 bd1 HCall
        have HQ : Hid ((l.take (k + 1)).foldl (roomXG (roomX f)) (r - 1) = q) := by
          show _ = _
          rw [HT.out, ← Hm.out, roomXG, if_neg (by omega), hq]
        have hi1 : (k : Int) < (l.length : Int) := by omega
        have B2 := hbel.alloc hs1 (.cells #[.int .i64 tk, .int .i64 tn, .string ts, .slice av t.l.length cv] 46)
        clear hsub hss h3 hv HT Hm hq htk htn hts hbel hall
        by_cases hq0 : q < 0
        · have HF : Hid (R = -1) := by show _ = _; rw [HR.out]; exact HC.out (by rw [HQ.out]; omega)
          clear HQ HC
          go_wp2_with fail
          refine (HCall.out _ B2).mono ?_
          rintro e w2 ⟨rfl, hb2⟩
          have B3 := B2.trans (hb2.mono (by simp; omega))
          clear B2 hb2 HCall
          go_wp2
          go_ret
          exact ⟨ret_i HF.out.symm, B3⟩
        · clear HC
          go_wp2_with fail
          refine (HCall.out _ B2).mono ?_
          rintro e w2 ⟨rfl, hb2⟩
          have B3 := B2.trans (hb2.mono (by simp; omega))
          clear B2 hb2 HCall
          go_wp2
          go_roundw
          case rel => exact ⟨k + 1, q, by omega, by go_num, rfl, by omega, by omega, HQ.out.symm, B3⟩
          case measure => simp [intOf]; omega
      · have e : k = l.length := by omega
        subst e
        have HF : Hid (R = m) := by show _ = _; rw [HR.out, Hm.out, List.take_length]
        clear Hm
        go_wp2
        go_ret
        exact ⟨ret_i HF.out.symm, hbel⟩

theorem implExprOk_any (t : Ex) (B : Nat → Prop) (v : Value) (w : World) (h : El w B t.l v) (hs : ∀ x, InX x t → x.s.size ≤ 1048576) :
    Calls Tryz.prog 26 #[xx t.k t.n t.s v] w fun e w' => e = .returned (.bool (okE t)) ∧ Below w.heap.size w w' := by
  have R6 : RoomX 10 := roomX_succ 9 (by omega) (roomX_succ 8 (by omega) (roomX_succ 7 (by omega) (roomX_succ 6 (by omega) (roomX_succ 5 (by omega) (roomX_succ 4 (by omega) (roomX_succ 3 (by omega) (roomX_succ 2 (by omega) (roomX_succ 1 (by omega) (roomX_succ 0 (by omega) roomX_zero)))))))))
  have HC := Hid.mk (fun (w' : World) (hb : Below w.heap.size w w') => R6 t B v w' 100 (h.grow hb) hs (by omega) (by omega))
  have HO := Hid.mk (okE_room t)
  obtain ⟨b, hb⟩ : ∃ b, okE t = b := ⟨_, rfl⟩
  obtain ⟨q, hq⟩ : ∃ q, roomX 10 t 100 = q := ⟨_, rfl⟩
  obtain ⟨k, hk⟩ : ∃ k, t.k = k := ⟨_, rfl⟩
  obtain ⟨n, hnn⟩ : ∃ n, t.n = n := ⟨_, rfl⟩
  obtain ⟨s, hsn⟩ : ∃ s, t.s = s := ⟨_, rfl⟩
  rw [hk, hnn, hsn, hq] at HC
  rw [hb, hq] at HO
  rw [hk, hnn, hsn, hb]
  obtain ⟨ao, cap, rfl, hl1, hl2, hl3⟩ := h.len
  have B0 : Below w.heap.size w (w.alloc (.cells #[.int .i64 k, .int .i64 n, .string s, .slice ao t.l.length cap] 46)) := (Below.refl _ _).alloc (Nat.le_refl _) _
  clear h hk hnn hsn hq hb R6 hl2
  go_enter Tryz.func26, Tryz.ntmps26
  go_wp2_with fail
  refine (HC.out _ B0).mono ?_
  rintro e w1 ⟨rfl, hb1⟩
  have B1 := B0.trans (hb1.mono (by simp))
  clear B0 hb1 HC
  go_wp2
  go_ret
  exact ⟨ret_b HO.out, B1⟩
end Go.Proofs.YtbbhikbdbndefaaGreat

namespace Go.Proofs.YtbbhikbdbndefaaGreat
open Go.RowKit
set_option maxRecDepth 8000

theorem okXL_no {l : List Ex} {k : Nat} (h : k < l.length) (hk : l[k].okT = false) : okXL l = false := by
  cases hb : okXL l with
  | false => rfl
  | true => have := (okXL_iff l).1 hb _ (List.getElem_mem h); rw [hk] at this; cases this
theorem okXL_yes {l : List Ex} (h : ∀ j (hj : j < l.length), l[j].okT = true) : okXL l = true := by
  rw [okXL_iff]
  intro x hx
  obtain ⟨j, hj, rfl⟩ := List.getElem_of_mem hx
  exact h j hj
/-- No text within is too long. -/
def ShX (t : Ex) : Prop := ∀ x, InX x t → x.s.size ≤ 1048576
def OkX (t : Ex) : Prop := ∀ (B : Nat → Prop) (v : Value) (w : World), El w B t.l v → ShX t →
  Calls Tryz.prog 41 #[xx t.k t.n t.s v] w fun e w' => e = .returned (.bool t.okT) ∧ Below w.heap.size w w'

set_option maxHeartbeats 2000000 in
theorem okX_step (t : Ex) (ih : ∀ x ∈ t.l, OkX x) : OkX t := by
  intro B v w h hs
  have HT := Hid.mk (okX_eq t)
  have HI := Hid.mk ih
  have HSUB := Hid.mk (fun i (hi : i < t.l.length) x hx => hs x (InX.sub (List.getElem_mem hi) hx))
  obtain ⟨ao, cap, hv, hl1, hl2, hl3⟩ := h.len
  have HN := Hid.mk (fun w' => l8Here_any t.k t.n t.s ao t.l.length cap w' (hs t (.self t)))
  rw [← nodeX_eq] at HN
  subst hv
  obtain ⟨R, hR⟩ : ∃ R, t.okT = R := ⟨_, rfl⟩
  obtain ⟨nb, hnb⟩ : ∃ nb, nodeX t = nb := ⟨_, rfl⟩
  obtain ⟨k, hk⟩ : ∃ k, t.k = k := ⟨_, rfl⟩
  obtain ⟨n, hnn⟩ : ∃ n, t.n = n := ⟨_, rfl⟩
  obtain ⟨s, hsn⟩ : ∃ s, t.s = s := ⟨_, rfl⟩
  obtain ⟨l, hln⟩ : ∃ l, t.l = l := ⟨_, rfl⟩
  rw [hk, hnn, hsn, hln, hR]
  rw [hR, hnb, hln] at HT
  rw [hk, hnn, hsn, hln, hnb] at HN
  rw [hln] at HI h hl1 HSUB
  clear hk hnn hsn hln hnb hR ih hs
  have hm : cap ≤ 9223372036854775807 := by unfold maxLen at hl2; omega
  have HH := Hid.mk h
  clear h hl2
  have B0 : Below w.heap.size w (w.alloc (.cells #[.int .i64 k, .int .i64 n, .string s, .slice ao l.length cap] 46)) := (Below.refl _ _).alloc (Nat.le_refl _) _
  have B01 : Below (w.heap.size + 1) (w.alloc (.cells #[.int .i64 k, .int .i64 n, .string s, .slice ao l.length cap] 46)) (w.alloc (.cells #[.int .i64 k, .int .i64 n, .string s, .slice ao l.length cap] 46)) := Below.refl _ _
  go_enter Tryz.func41, Tryz.ntmps41
  go_wp2
  go_loopw [3] (fun i wr => ∃ (k1 : Nat), k1 ≤ l.length ∧ i = .int .i64 k1 ∧ Hid (∀ j (hj : j < l.length), j < k1 → l[j].okT = true) ∧ Below (w.heap.size + 1) (w.alloc (.cells #[.int .i64 k, .int .i64 n, .string s, .slice ao l.length cap] 46)) wr) (fun i _ => l.length - (intOf i).toNat)
  case atStart => exact ⟨0, Nat.zero_le _, rfl, fun j _ hj => absurd hj (Nat.not_lt_zero j), B01⟩
  case round =>
    obtain ⟨k1, hk, rfl, Ho, hbel⟩ := hrel
    clear B01
    have hc1 := fun o => hbel.cell (p := ⟨w.heap.size, o, none⟩) (by simp)
    have hbw := B0.trans (hbel.mono (by omega))
    have hs1 := hbel.size
    simp at hs1
    by_cases hkl : k1 < l.length
    · have hi1 : (k1 : Int) < (l.length : Int) := by omega
      obtain ⟨b, off, V, rfl, hel⟩ := HH.out.elems (by intro hn; rw [hn] at hkl; simp at hkl)
      obtain ⟨h3, hsub, hss⟩ := hel k1 hkl
      have hokc : OkX l[k1] := HI.out _ (List.getElem_mem hkl)
      have hall : ShX l[k1] := HSUB.out k1 hkl
      have HNO := Hid.mk (fun h => okXL_no (l := l) hkl h)
      have HO2 : Hid (l[k1].okT = true → ∀ j (hj : j < l.length), j < k1 + 1 → l[j].okT = true) := by
        intro hne j hj hj1
        by_cases hj2 : j < k1
        · exact Ho.out j hj hj2
        · obtain rfl : j = k1 := by omega
          exact hne
      obtain ⟨t', ht⟩ : ∃ t, l[k1] = t := ⟨_, rfl⟩
      rw [ht] at h3 hsub hss hokc HNO HO2 hall
      clear ht hel
      obtain ⟨c0, cn, c1, c2⟩ := h3.kept (w' := wr) (hbw.block b (World.block_lt_of_cell? w _ h3.1))
      have cA := Hid.mk (hokc B (V k1) wr (hsub.grow hbw) hall)
      obtain ⟨ok, hok⟩ : ∃ ok, t'.okT = ok := ⟨_, rfl⟩
      obtain ⟨tk, htk⟩ : ∃ tk, t'.k = tk := ⟨_, rfl⟩
      obtain ⟨tn, htn⟩ : ∃ tn, t'.n = tn := ⟨_, rfl⟩
      obtain ⟨ts, hts⟩ : ∃ ts, t'.s = ts := ⟨_, rfl⟩
      obtain ⟨av, cv, hv, -, -, -⟩ := hsub.len
      rw [hok, htk, htn, hts, hv] at cA
      rw [htk] at c0
      rw [htn] at cn
      rw [hts] at c1
      rw [hv] at c2
      rw [hok] at HNO HO2
      clear hsub hss h3 hokc hok htk htn hts hv hall hbw
      cases ok with
      | false =>
        have HR : Hid (false = R) := by show _ = _; rw [HT.out, HNO.out rfl]; rfl
        clear HNO HO2 HT HI HH HN
        go_wp2_with fail
        refine cA.out.mono ?_
        rintro e w2 ⟨rfl, hb2⟩
        have B3 := B0.trans ((hbel.trans (hb2.mono (by omega))).mono (by omega))
        clear hbel hb2 cA hc1
        go_wp2
        go_ret
        exact ⟨ret_tb HR.out, B3⟩
      | true =>
        have HO3 := Hid.mk (HO2.out rfl)
        clear HNO HO2
        go_wp2_with fail
        refine cA.out.mono ?_
        rintro e w2 ⟨rfl, hb2⟩
        have B3 := hbel.trans (hb2.mono (by omega))
        clear hbel hb2 cA hc1
        go_wp2
        go_roundw
        case rel => exact ⟨k1 + 1, by omega, by go_num, HO3, B3⟩
        case measure => simp [intOf]; omega
    · have e : k1 = l.length := by omega
      subst e
      have HE : Hid (nb = R) := by show _ = _; rw [HT.out, okXL_yes (fun j hj => Ho.out j hj hj)]; rfl
      clear Ho HT HI HH
      go_wp2_with fail
      refine (HN.out _).mono ?_
      rintro e w2 ⟨rfl, hb2⟩
      have B3 := hbw.trans (hb2.mono hbw.size)
      clear hbel hb2 HN hc1 hbw
      go_wp2
      go_ret
      exact ⟨ret_tb HE.out, B3⟩

theorem specOkX_any (t : Ex) : OkX t := Ex.ind (P := OkX) okX_step t

theorem specExprOk_any (t : Ex) (B : Nat → Prop) (v : Value) (w : World) (h : El w B t.l v) (hs : ShX t) :
    Calls Tryz.prog 25 #[xx t.k t.n t.s v] w fun e w' => e = .returned (.bool (okE t)) ∧ Below w.heap.size w w' := by
  have R6 : PartsX 10 := partsX_succ 9 (by omega) (partsX_succ 8 (by omega) (partsX_succ 7 (by omega) (partsX_succ 6 (by omega) (partsX_succ 5 (by omega) (partsX_succ 4 (by omega) (partsX_succ 3 (by omega) (partsX_succ 2 (by omega) (partsX_succ 1 (by omega) (partsX_succ 0 (by omega) partsX_zero)))))))))
  have HC := Hid.mk (fun (w' : World) (hb : Below w.heap.size w w') => R6 t B v w' (h.grow hb))
  have HK := Hid.mk (fun (w' : World) (hb : Below w.heap.size w w') => specOkX_any t B v w' (h.grow hb) hs)
  have HO : Hid (okE t = (decide (partsX 10 t ≤ 100) && t.okT)) := rfl
  obtain ⟨b, hb⟩ : ∃ b, okE t = b := ⟨_, rfl⟩
  obtain ⟨q, hq⟩ : ∃ q, partsX 10 t = q := ⟨_, rfl⟩
  obtain ⟨o, ho⟩ : ∃ o, t.okT = o := ⟨_, rfl⟩
  obtain ⟨k, hk⟩ : ∃ k, t.k = k := ⟨_, rfl⟩
  obtain ⟨n, hnn⟩ : ∃ n, t.n = n := ⟨_, rfl⟩
  obtain ⟨s, hsn⟩ : ∃ s, t.s = s := ⟨_, rfl⟩
  rw [hk, hnn, hsn, hq] at HC
  rw [hk, hnn, hsn, ho] at HK
  rw [hb, hq, ho] at HO
  rw [hk, hnn, hsn, hb]
  obtain ⟨ao, cap, rfl, hl1, hl2, hl3⟩ := h.len
  have B0 : Below w.heap.size w (w.alloc (.cells #[.int .i64 k, .int .i64 n, .string s, .slice ao t.l.length cap] 46)) := (Below.refl _ _).alloc (Nat.le_refl _) _
  clear h hk hnn hsn hq hb ho R6 hl2
  by_cases h60 : q ≤ 100
  · have h60' : (q : Int) ≤ 100 := by omega
    have HR : Hid (o = b) := by show _ = _; rw [HO.out, decide_eq_true h60]; rfl
    clear HO
    go_enter Tryz.func25, Tryz.ntmps25
    go_wp2_with fail
    refine (HC.out _ B0).mono ?_
    rintro e w1 ⟨rfl, hb1⟩
    have B1 := B0.trans (hb1.mono (by simp))
    have hc1 := fun o => hb1.cell (p := ⟨w.heap.size, o, none⟩) (by simp)
    have hs1 := hb1.size
    simp at hs1
    clear B0 hb1 HC
    go_wp2_with fail
    refine (HK.out _ B1).mono ?_
    rintro e w2 ⟨rfl, hb2⟩
    have B2 := B1.trans (hb2.mono (by omega))
    clear B1 hb2 HK hc1
    go_wp2
    go_ret
    exact ⟨ret_b HR.out, B2⟩
  · have h60' : ¬ (q : Int) ≤ 100 := by omega
    have HR : Hid (false = b) := by show _ = _; rw [HO.out, decide_eq_false h60]; rfl
    clear HO HK
    go_enter Tryz.func25, Tryz.ntmps25
    go_wp2_with fail
    refine (HC.out _ B0).mono ?_
    rintro e w1 ⟨rfl, hb1⟩
    have B1 := B0.trans (hb1.mono (by simp))
    clear B0 hb1 HC
    go_wp2
    go_ret
    exact ⟨ret_b HR.out, B1⟩

end Go.Proofs.YtbbhikbdbndefaaGreat

namespace Go.Proofs.YtbbhikbdbndefaaGreat
open Go.RowKit
set_option maxRecDepth 8000

/-- A statement within a statement. -/
inductive InY : St → St → Prop
  | self (t : St) : InY t t
  | sa {x y t : St} (h : y ∈ t.a) (hx : InY x y) : InY x t
  | sb {x y t : St} (h : y ∈ t.b) (hx : InY x y) : InY x t

/-- No text within is too long. -/
def ShY (t : St) : Prop := ∀ y, InY y t → y.s.size ≤ 1048576 ∧ y.t.size ≤ 1048576 ∧ ∀ e ∈ y.x, ShX e

def OkYL (l : List St) : Prop := ∀ (B : Nat → Prop) (v : Value) (w : World), Sl w B l v → (∀ y ∈ l, ShY y) →
  Calls Tryz.prog 46 #[v] w fun e w' => e = .returned (.bool (okSL l)) ∧ Below w.heap.size w w'

def OkY (t : St) : Prop := ∀ (B : Nat → Prop) (vx va vb : Value) (w : World), El w B t.x vx → Sl w B t.a va → Sl w B t.b vb → ShY t →
  Calls Tryz.prog 29 #[st t.k t.s t.t vx va vb] w fun e w' => e = .returned (.bool t.okT) ∧ Below w.heap.size w w'

theorem okSL_no {l : List St} {k : Nat} (h : k < l.length) (hk : l[k].okT = false) : okSL l = false := by
  cases hb : okSL l with
  | false => rfl
  | true => have := (okSL_iff l).1 hb _ (List.getElem_mem h); rw [hk] at this; cases this
theorem okSL_yes {l : List St} (h : ∀ j (hj : j < l.length), l[j].okT = true) : okSL l = true := by
  rw [okSL_iff]
  intro x hx
  obtain ⟨j, hj, rfl⟩ := List.getElem_of_mem hx
  exact h j hj
theorem allE_no {l : List Ex} {k : Nat} (h : k < l.length) (hk : okE l[k] = false) : l.all okE = false := by
  cases hb : l.all okE with
  | false => rfl
  | true => have := List.all_eq_true.1 hb _ (List.getElem_mem h); rw [hk] at this; cases this
theorem allE_yes {l : List Ex} (h : ∀ j (hj : j < l.length), okE l[j] = true) : l.all okE = true := by
  rw [List.all_eq_true]
  intro x hx
  obtain ⟨j, hj, rfl⟩ := List.getElem_of_mem hx
  exact h j hj

set_option maxHeartbeats 2000000 in
theorem okYL_step (l : List St) (ih : ∀ x ∈ l, OkY x) : OkYL l := by
  intro B v w h hs
  obtain ⟨R, hR⟩ : ∃ R, okSL l = R := ⟨_, rfl⟩
  rw [hR]
  have HR0 : Hid (okSL l = R) := hR
  clear hR
  obtain ⟨ao, cap, rfl, hl1, hl2, hl3⟩ := h.len
  have hm : cap ≤ 9223372036854775807 := by unfold maxLen at hl2; omega
  have HI := Hid.mk ih
  have HH := Hid.mk h
  have HS := Hid.mk hs
  clear ih h hs hl2
  go_enter Tryz.func46, Tryz.ntmps46
  go_wp2
  go_loopw [3] (fun i wr => ∃ (k1 : Nat), k1 ≤ l.length ∧ i = .int .i64 k1 ∧ Hid (∀ j (hj : j < l.length), j < k1 → l[j].okT = true) ∧ Below w.heap.size w wr) (fun i _ => l.length - (intOf i).toNat)
  case atStart => exact ⟨0, Nat.zero_le _, rfl, fun j _ hj => absurd hj (Nat.not_lt_zero j), Below.refl _ _⟩
  case round =>
    obtain ⟨k1, hk, rfl, Ho, hbel⟩ := hrel
    by_cases hkl : k1 < l.length
    · have hi1 : (k1 : Int) < (l.length : Int) := by omega
      obtain ⟨b, off, X, Y, Z, rfl, hel⟩ := HH.out.elems (by intro hn; rw [hn] at hkl; simp at hkl)
      obtain ⟨h3, hx, ha, hz, -, -⟩ := hel k1 hkl
      have hokc : OkY l[k1] := HI.out _ (List.getElem_mem hkl)
      have hall : ShY l[k1] := HS.out _ (List.getElem_mem hkl)
      have HNO := Hid.mk (fun h => okSL_no (l := l) hkl h)
      have HO2 : Hid (l[k1].okT = true → ∀ j (hj : j < l.length), j < k1 + 1 → l[j].okT = true) := by
        intro hne j hj hj1
        by_cases hj2 : j < k1
        · exact Ho.out j hj hj2
        · obtain rfl : j = k1 := by omega
          exact hne
      obtain ⟨t', ht⟩ : ∃ t, l[k1] = t := ⟨_, rfl⟩
      rw [ht] at h3 hx ha hz hokc HNO HO2 hall
      clear ht hel
      obtain ⟨c0, c1, c2, c3, c4, c5⟩ := h3.kept (w' := wr) (hbel.block b (World.block_lt_of_cell? w _ h3.1))
      have cA := Hid.mk (hokc B (X k1) (Y k1) (Z k1) wr (hx.grow hbel) (ha.grow hbel) (hz.grow hbel) hall)
      obtain ⟨ok, hok⟩ : ∃ ok, t'.okT = ok := ⟨_, rfl⟩
      obtain ⟨tk, htk⟩ : ∃ tk, t'.k = tk := ⟨_, rfl⟩
      obtain ⟨ts, hts⟩ : ∃ ts, t'.s = ts := ⟨_, rfl⟩
      obtain ⟨tt, htt⟩ : ∃ tt, t'.t = tt := ⟨_, rfl⟩
      obtain ⟨xo, xc, hxv, -, -, -⟩ := hx.len
      obtain ⟨yo, yc, hyv, -, -, -⟩ := ha.len
      obtain ⟨zo, zc, hzv, -, -, -⟩ := hz.len
      rw [hok, htk, hts, htt, hxv, hyv, hzv] at cA
      rw [htk] at c0
      rw [hts] at c1
      rw [htt] at c2
      rw [hxv] at c3
      rw [hyv] at c4
      rw [hzv] at c5
      rw [hok] at HNO HO2
      clear hx ha hz h3 hokc hok htk hts htt hxv hyv hzv hall
      cases ok with
      | false =>
        have HR : Hid (false = R) := by show _ = _; rw [← HR0.out, HNO.out rfl]
        clear HNO HO2 HR0 HI HH HS
        go_wp2_with fail
        refine cA.out.mono ?_
        rintro e w2 ⟨rfl, hb2⟩
        have B3 := hbel.trans (hb2.mono hbel.size)
        clear hbel hb2 cA
        go_wp2
        go_ret
        exact ⟨ret_tb HR.out, B3⟩
      | true =>
        have HO3 := Hid.mk (HO2.out rfl)
        clear HNO HO2
        go_wp2_with fail
        refine cA.out.mono ?_
        rintro e w2 ⟨rfl, hb2⟩
        have B3 := hbel.trans (hb2.mono hbel.size)
        clear hbel hb2 cA
        go_wp2
        go_roundw
        case rel => exact ⟨k1 + 1, by omega, by go_num, HO3, B3⟩
        case measure => simp [intOf]; omega
    · have e : k1 = l.length := by omega
      subst e
      have HE : Hid (true = R) := by show _ = _; rw [← HR0.out, okSL_yes (fun j hj => Ho.out j hj hj)]
      clear Ho HR0 HI HH HS
      go_wp2
      go_ret
      exact ⟨ret_tb HE.out, hbel⟩

set_option maxHeartbeats 2000000 in
theorem okY_step (t : St) (iha : OkYL t.a) (ihb : OkYL t.b) : OkY t := by
  intro B vx va vb w hx ha hb hs
  have HT := Hid.mk (okT_eq2 t)
  have HX := Hid.mk (fun e (he : e ∈ t.x) => (hs t (.self t)).2.2 e he)
  have HA := Hid.mk (fun (w' : World) (hw : Below w.heap.size w w') => iha B va w' (ha.grow hw) (fun y hy z hz => hs z (.sa hy hz)))
  have HB := Hid.mk (fun (w' : World) (hw : Below w.heap.size w w') => ihb B vb w' (hb.grow hw) (fun y hy z hz => hs z (.sb hy hz)))
  obtain ⟨xo, xc, hxv, hl1, hl2, hl3⟩ := hx.len
  obtain ⟨yo, yc, hyv, -, -, -⟩ := ha.len
  obtain ⟨zo, zc, hzv, -, -, -⟩ := hb.len
  subst hxv hyv hzv
  have h1 := (hs t (.self t)).1
  have h2 := (hs t (.self t)).2.1
  have HN := Hid.mk (fun (w' : World) (hw : Below w.heap.size w w') => l9Here_any t B xo xc yo yc zo zc w' (hx.grow hw) (by unfold maxLen; omega) (by unfold maxLen; omega))
  clear iha ihb hs h1 h2 ha hb
  have hnode : Hid (nodeS t = (t.x.all okE && (hereK t.k t.s t.t t.x.length t.a.length t.b.length && callB t.k t.x))) := rfl
  rw [hnode.out] at HT
  clear hnode
  obtain ⟨R, hR⟩ : ∃ R, t.okT = R := ⟨_, rfl⟩
  obtain ⟨nb, hnb⟩ : ∃ nb, (hereK t.k t.s t.t t.x.length t.a.length t.b.length && callB t.k t.x) = nb := ⟨_, rfl⟩
  rw [hnb] at HN HT
  rw [hR] at HT
  rw [hR]
  clear hnb hR
  obtain ⟨k, hk⟩ : ∃ k, t.k = k := ⟨_, rfl⟩
  obtain ⟨s, hsn⟩ : ∃ s, t.s = s := ⟨_, rfl⟩
  obtain ⟨u, hun⟩ : ∃ u, t.t = u := ⟨_, rfl⟩
  obtain ⟨l, hln⟩ : ∃ l, t.x = l := ⟨_, rfl⟩
  obtain ⟨a, han⟩ : ∃ a, t.a = a := ⟨_, rfl⟩
  obtain ⟨b, hbn⟩ : ∃ b, t.b = b := ⟨_, rfl⟩
  rw [hk, hsn, hun, hln, han, hbn] at HN
  rw [hk, hsn, hun, hln, han, hbn]
  rw [hln, han, hbn] at HT
  rw [han] at HA
  rw [hbn] at HB
  rw [hln] at HX hx hl1
  clear hk hsn hun hln han hbn
  have hm : xc ≤ 9223372036854775807 := by unfold maxLen at hl2; omega
  have HH := Hid.mk hx
  clear hx hl2
  have B0 : Below w.heap.size w (w.alloc (.cells #[.int .i64 k, .string s, .string u, .slice xo l.length xc, .slice yo a.length yc, .slice zo b.length zc] 31)) := (Below.refl _ _).alloc (Nat.le_refl _) _
  have B01 : Below (w.heap.size + 1) (w.alloc (.cells #[.int .i64 k, .string s, .string u, .slice xo l.length xc, .slice yo a.length yc, .slice zo b.length zc] 31)) (w.alloc (.cells #[.int .i64 k, .string s, .string u, .slice xo l.length xc, .slice yo a.length yc, .slice zo b.length zc] 31)) := Below.refl _ _
  go_enter Tryz.func29, Tryz.ntmps29
  go_wp2
  go_loopw [3] (fun i wr => ∃ (k1 : Nat), k1 ≤ l.length ∧ i = .int .i64 k1 ∧ Hid (∀ j (hj : j < l.length), j < k1 → okE l[j] = true) ∧ Below (w.heap.size + 1) (w.alloc (.cells #[.int .i64 k, .string s, .string u, .slice xo l.length xc, .slice yo a.length yc, .slice zo b.length zc] 31)) wr) (fun i _ => l.length - (intOf i).toNat)
  case atStart => exact ⟨0, Nat.zero_le _, rfl, fun j _ hj => absurd hj (Nat.not_lt_zero j), B01⟩
  case round =>
    obtain ⟨k1, hk, rfl, Ho, hbel⟩ := hrel
    clear B01
    have hc1 := fun o => hbel.cell (p := ⟨w.heap.size, o, none⟩) (by simp)
    have hbw := B0.trans (hbel.mono (by omega))
    have hs1 := hbel.size
    simp at hs1
    by_cases hkl : k1 < l.length
    · have hi1 : (k1 : Int) < (l.length : Int) := by omega
      obtain ⟨bb, off, V, rfl, hel⟩ := HH.out.elems (by intro hn; rw [hn] at hkl; simp at hkl)
      obtain ⟨h3, hsub, hss⟩ := hel k1 hkl
      have hall : ShX l[k1] := HX.out _ (List.getElem_mem hkl)
      have HNO := Hid.mk (fun h => allE_no (l := l) hkl h)
      have HO2 : Hid (okE l[k1] = true → ∀ j (hj : j < l.length), j < k1 + 1 → okE l[j] = true) := by
        intro hne j hj hj1
        by_cases hj2 : j < k1
        · exact Ho.out j hj hj2
        · obtain rfl : j = k1 := by omega
          exact hne
      obtain ⟨t', ht⟩ : ∃ t, l[k1] = t := ⟨_, rfl⟩
      rw [ht] at h3 hsub hss HNO HO2 hall
      clear ht hel
      obtain ⟨c0, cn, c1, c2⟩ := h3.kept (w' := wr) (hbw.block bb (World.block_lt_of_cell? w _ h3.1))
      have cA := Hid.mk (specExprOk_any t' B (V k1) wr (hsub.grow hbw) hall)
      obtain ⟨ok, hok⟩ : ∃ ok, okE t' = ok := ⟨_, rfl⟩
      obtain ⟨tk, htk⟩ : ∃ tk, t'.k = tk := ⟨_, rfl⟩
      obtain ⟨tn, htn⟩ : ∃ tn, t'.n = tn := ⟨_, rfl⟩
      obtain ⟨ts, hts⟩ : ∃ ts, t'.s = ts := ⟨_, rfl⟩
      obtain ⟨av, cv, hv, -, -, -⟩ := hsub.len
      rw [hok, htk, htn, hts, hv] at cA
      rw [htk] at c0
      rw [htn] at cn
      rw [hts] at c1
      rw [hv] at c2
      rw [hok] at HNO HO2
      clear hsub hss h3 hok htk htn hts hv hall hbw
      cases ok with
      | false =>
        have HR : Hid (false = R) := by show _ = _; rw [HT.out, HNO.out rfl]; simp
        clear HNO HO2 HT HX HH HN HA HB
        go_wp2_with fail
        refine cA.out.mono ?_
        rintro e w2 ⟨rfl, hb2⟩
        have B3 := B0.trans ((hbel.trans (hb2.mono (by omega))).mono (by omega))
        clear hbel hb2 cA hc1
        go_wp2
        go_ret
        exact ⟨ret_tb HR.out, B3⟩
      | true =>
        have HO3 := Hid.mk (HO2.out rfl)
        clear HNO HO2
        go_wp2_with fail
        refine cA.out.mono ?_
        rintro e w2 ⟨rfl, hb2⟩
        have B3 := hbel.trans (hb2.mono (by omega))
        clear hbel hb2 cA hc1
        go_wp2
        go_roundw
        case rel => exact ⟨k1 + 1, by omega, by go_num, HO3, B3⟩
        case measure => simp [intOf]; omega
    · have e : k1 = l.length := by omega
      subst e
      have HE : Hid (R = (nb && okSL a && okSL b)) := by
        show _ = _
        rw [HT.out, allE_yes (fun j hj => Ho.out j hj hj)]
        cases nb <;> cases okSL a <;> cases okSL b <;> rfl
      obtain ⟨oa, hoa⟩ : ∃ o, okSL a = o := ⟨_, rfl⟩
      obtain ⟨ob, hob⟩ : ∃ o, okSL b = o := ⟨_, rfl⟩
      rw [hoa, hob] at HE
      rw [hoa] at HA
      rw [hob] at HB
      clear Ho HT HX HH hoa hob hbel
      cases nb with
      | false =>
        go_wp2_with fail
        refine (HN.out _ hbw).mono ?_
        rintro e w2 ⟨rfl, hb2⟩
        have B3 := hbw.trans (hb2.mono hbw.size)
        clear hb2 HN hc1 hbw HA HB
        go_wp2
        go_ret
        exact ⟨ret_tb (by rw [HE.out]; rfl), B3⟩
      | true =>
        cases oa with
        | false =>
          go_wp2_with fail
          refine (HN.out _ hbw).mono ?_
          rintro e w2 ⟨rfl, hb2⟩
          have B3 := hbw.trans (hb2.mono hbw.size)
          have hc2 := fun o => hb2.cell (p := ⟨w.heap.size, o, none⟩) (by show w.heap.size < _; omega)
          clear hb2 HN
          go_wp2_with fail
          refine (HA.out _ B3).mono ?_
          rintro e w3 ⟨rfl, hb3⟩
          have B4 := B3.trans (hb3.mono B3.size)
          clear hb3 HA HB hc1 hc2 hbw B3
          go_wp2
          go_ret
          exact ⟨ret_tb (by rw [HE.out]; rfl), B4⟩
        | true =>
          have s1 : w.heap.size < wr.heap.size := by omega
          go_wp2_with fail
          refine (HN.out _ hbw).mono ?_
          rintro e w2 ⟨rfl, hb2⟩
          have B3 := hbw.trans (hb2.mono hbw.size)
          have hc2 := fun o => hb2.cell (p := ⟨w.heap.size, o, none⟩) (by show w.heap.size < _; omega)
          have s2 : w.heap.size < w2.heap.size := Nat.lt_of_lt_of_le s1 hb2.size
          clear hb2 HN
          go_wp2_with fail
          refine (HA.out _ B3).mono ?_
          rintro e w3 ⟨rfl, hb3⟩
          have B4 := B3.trans (hb3.mono B3.size)
          have hc3 := fun o => hb3.cell (p := ⟨w.heap.size, o, none⟩) s2
          clear hb3 HA hbw B3
          go_wp2_with fail
          refine (HB.out _ B4).mono ?_
          rintro e w4 ⟨rfl, hb4⟩
          have B5 := B4.trans (hb4.mono B4.size)
          clear hb4 HB hc1 hc2 hc3 B4
          go_wp2
          go_ret
          exact ⟨ret_tb (by rw [HE.out]; cases ob <;> rfl), B5⟩

theorem okY_any (t : St) : OkY t := by
  refine St.ind (P := OkY) (fun t iha ihb => ?_) t
  exact okY_step t (okYL_step t.a iha) (okYL_step t.b ihb)
end Go.Proofs.YtbbhikbdbndefaaGreat

namespace Go.Proofs.YtbbhikbdbndefaaGreat
open Go.RowKit
set_option maxRecDepth 8000

def PartsY (f : Nat) : Prop := ∀ (t : St) (B : Nat → Prop) (vx va vb : Value) (w : World), El w B t.x vx → Sl w B t.a va → Sl w B t.b vb →
  Calls Tryz.prog 28 #[st t.k t.s t.t vx va vb, .int .i64 (6 - (f : Int))] w fun e w' => e = .returned (.int .i64 (partsS f t)) ∧ Below w.heap.size w w'

theorem partsY_zero : PartsY 0 := by
  intro t B vx va vb w hx ha hb
  obtain ⟨xo, xc, rfl, -, -, -⟩ := hx.len
  obtain ⟨yo, yc, rfl, -, -, -⟩ := ha.len
  obtain ⟨zo, zc, rfl, -, -, -⟩ := hb.len
  obtain ⟨k, hk⟩ : ∃ k, t.k = k := ⟨_, rfl⟩
  obtain ⟨s, hsn⟩ : ∃ s, t.s = s := ⟨_, rfl⟩
  obtain ⟨u, hun⟩ : ∃ u, t.t = u := ⟨_, rfl⟩
  have HR : Hid (((partsS 0 t : Nat) : Int) = 61) := rfl
  rw [hk, hsn, hun]
  clear hx ha hb
  go_enter Tryz.func28, Tryz.ntmps28
  go_wp2
  go_ret
  exact ⟨ret_j HR.out.symm, (Below.refl _ _).alloc (Nat.le_refl _) _⟩

theorem partsSL_bd (f : Nat) (l : List St) : ∀ n, n ≤ 121 + 60 * f → l.foldl (partsSG (partsS f)) n ≤ 121 + 60 * f := by
  induction l with
  | nil => intro n h; exact h
  | cons x r ih =>
    intro n h
    rw [List.foldl_cons]
    apply ih
    have := (partsS_bd f x).2
    unfold partsSG
    split <;> omega
theorem partsSL_le (f : Nat) (l : List St) : ∀ n, n ≤ l.foldl (partsSG (partsS f)) n := by
  induction l with
  | nil => intro n; exact Nat.le_refl _
  | cons x r ih =>
    intro n
    rw [List.foldl_cons]
    refine Nat.le_trans ?_ (ih _)
    unfold partsSG
    split <;> omega
theorem partsSL_take {f : Nat} (l : List St) (k n : Nat) (h : k < l.length) : (l.take (k + 1)).foldl (partsSG (partsS f)) n = partsSG (partsS f) ((l.take k).foldl (partsSG (partsS f)) n) l[k] := by
  rw [List.take_succ_eq_append_getElem h, List.foldl_append]; rfl
theorem partsSL_cut {f : Nat} (l : List St) (k n : Nat) (h : 60 < (l.take k).foldl (partsSG (partsS f)) n) : l.foldl (partsSG (partsS f)) n = (l.take k).foldl (partsSG (partsS f)) n := by
  conv => lhs; rw [← List.take_append_drop k l]
  rw [List.foldl_append]
  exact partsS_stop _ _ h

/-- GEN -/
theorem gen_parts : True := trivial

set_option maxHeartbeats 2000000 in
theorem partsY_succ (f : Nat) (hf : f ≤ 4) (ih : PartsY f) : PartsY (f + 1) := by
  intro t B vx va vb w hx ha hb
  have HE : Hid (partsS (f + 1) t = t.b.foldl (partsSG (partsS f)) (t.a.foldl (partsSG (partsS f)) 1)) := by show _ = _; rw [partsS, St.ab, List.foldl_append]
  obtain ⟨xo, xc, rfl, -, -, -⟩ := hx.len
  obtain ⟨yo, yc, rfl, hl1, hl2, -⟩ := ha.len
  obtain ⟨zo, zc, rfl, hm1, hm2, -⟩ := hb.len
  obtain ⟨R, hR⟩ : ∃ R, partsS (f + 1) t = R := ⟨_, rfl⟩
  obtain ⟨k, hk⟩ : ∃ k, t.k = k := ⟨_, rfl⟩
  obtain ⟨s, hsn⟩ : ∃ s, t.s = s := ⟨_, rfl⟩
  obtain ⟨u, hun⟩ : ∃ u, t.t = u := ⟨_, rfl⟩
  obtain ⟨x, hxn⟩ : ∃ x, t.x = x := ⟨_, rfl⟩
  obtain ⟨a, han⟩ : ∃ a, t.a = a := ⟨_, rfl⟩
  obtain ⟨b, hbn⟩ : ∃ b, t.b = b := ⟨_, rfl⟩
  rw [hR, han, hbn] at HE
  rw [hk, hsn, hun, hxn, han, hbn, hR]
  rw [han] at ha hl1
  rw [hbn] at hb hm1
  clear hR hk hsn hun hxn han hbn hx
  have hm : yc ≤ 9223372036854775807 := by unfold maxLen at hl2; omega
  have hn : zc ≤ 9223372036854775807 := by unfold maxLen at hm2; omega
  have HHA := Hid.mk ha
  have HHB := Hid.mk hb
  have HI := Hid.mk ih
  clear ih ha hb hl2 hm2
  obtain ⟨d, hd⟩ : ∃ d : Int, 6 - ((f + 1 : Nat) : Int) = d := ⟨_, rfl⟩
  rw [hd]
  have hd6 : ¬ 5 < d := by omega
  have hd7 : d + 1 = 6 - (f : Int) := by omega
  have B0 : Below w.heap.size w (w.alloc (.cells #[.int .i64 k, .string s, .string u, .slice xo x.length xc, .slice yo a.length yc, .slice zo b.length zc] 31)) := (Below.refl _ _).alloc (Nat.le_refl _) _
  have B01 : Below (w.heap.size + 1) (w.alloc (.cells #[.int .i64 k, .string s, .string u, .slice xo x.length xc, .slice yo a.length yc, .slice zo b.length zc] 31)) (w.alloc (.cells #[.int .i64 k, .string s, .string u, .slice xo x.length xc, .slice yo a.length yc, .slice zo b.length zc] 31)) := Below.refl _ _
  obtain ⟨M, hM⟩ : ∃ M, a.foldl (partsSG (partsS f)) 1 = M := ⟨_, rfl⟩
  have hM1 : M ≤ 2000 := by rw [← hM]; have := partsSL_bd f a 1 (by omega); omega
  rw [hM] at HE
  go_enter Tryz.func28, Tryz.ntmps28
  go_wp2
  go_loopw [5, 6] (fun q i wr => ∃ (k1 m : Nat), k1 ≤ a.length ∧ i = .int .i64 k1 ∧ q = .int .i64 m ∧ m ≤ 2000 ∧ Hid (m = (a.take k1).foldl (partsSG (partsS f)) 1) ∧ Below (w.heap.size + 1) (w.alloc (.cells #[.int .i64 k, .string s, .string u, .slice xo x.length xc, .slice yo a.length yc, .slice zo b.length zc] 31)) wr) (fun _ i _ => a.length - (intOf i).toNat)
  case atStart => exact ⟨0, 1, Nat.zero_le _, rfl, rfl, by omega, rfl, B01⟩
  case round =>
    obtain ⟨k1, m, hk, rfl, rfl, m1, Hm, hbel⟩ := hrel
    have hc1 := fun o => hbel.cell (p := ⟨w.heap.size, o, none⟩) (by simp)
    have hbw := B0.trans (hbel.mono (by omega))
    have hs1 := hbel.size
    simp at hs1
    by_cases hkl : k1 < a.length
    · have hi1 : (k1 : Int) < (a.length : Int) := by omega
      by_cases h60 : m ≤ 60
      · have h60' : (m : Int) ≤ 60 := by omega
        obtain ⟨bb, off, X, Y, Z, rfl, hel⟩ := HHA.out.elems (by intro hn; rw [hn] at hkl; simp at hkl)
        obtain ⟨h3, hx, ha, hz, -, -⟩ := hel k1 hkl
        have HT := Hid.mk (partsSL_take (f := f) a k1 1 hkl)
        obtain ⟨t, ht⟩ : ∃ t, a[k1] = t := ⟨_, rfl⟩
        rw [ht] at h3 hx ha hz HT
        clear ht hel
        obtain ⟨c0, c1, c2, c3, c4, c5⟩ := h3.kept (w' := wr) (hbw.block bb (World.block_lt_of_cell? w _ h3.1))
        have HCall := Hid.mk (HI.out t B (X k1) (Y k1) (Z k1) wr (hx.grow hbw) (ha.grow hbw) (hz.grow hbw))
        obtain ⟨bd0, bd1⟩ := partsS_bd f t
        obtain ⟨xo', xc', hxv, -, -, -⟩ := hx.len
        obtain ⟨yo', yc', hyv, -, -, -⟩ := ha.len
        obtain ⟨zo', zc', hzv, -, -, -⟩ := hz.len
        rw [hxv] at c3 HCall
        rw [hyv] at c4 HCall
        rw [hzv] at c5 HCall
        obtain ⟨tk, htk⟩ : ∃ tk, t.k = tk := ⟨_, rfl⟩
        obtain ⟨ts, hts⟩ : ∃ ts, t.s = ts := ⟨_, rfl⟩
        obtain ⟨tu, htu⟩ : ∃ tu, t.t = tu := ⟨_, rfl⟩
        rw [htk, hts, htu] at HCall
        rw [htk] at c0
        rw [hts] at c1
        rw [htu] at c2
        obtain ⟨q, hq⟩ : ∃ q, partsS f t = q := ⟨_, rfl⟩
        rw [hq] at bd0 bd1 HCall
        have HQ : Hid ((a.take (k1 + 1)).foldl (partsSG (partsS f)) 1 = m + q) := by
          show _ = _
          rw [HT.out, ← Hm.out, partsSG, if_pos h60, hq]
        clear hx ha hz h3 hxv hyv hzv HT Hm hq htk hts htu hbw
        go_wp2_with fail
        refine HCall.out.mono ?_
        rintro e w2 ⟨rfl, hb2⟩
        have B3 := hbel.trans (hb2.mono (by omega))
        clear hbel hb2 HCall hc1
        go_wp2
        go_roundw
        case rel => exact ⟨k1 + 1, m + q, by omega, by go_num, by go_num, by omega, HQ.out.symm, B3⟩
        case measure => simp [intOf]; omega
      · have h60' : ¬ (m : Int) ≤ 60 := by omega
        have HF : Hid (a.foldl (partsSG (partsS f)) 1 = m) := by
          show _ = _
          have e1 := Hm.out
          rw [partsSL_cut (f := f) a k1 1 (by omega), ← e1]
        clear Hm
        have hMm : M = m := by rw [← HF.out, ← hM]
        clear hM HHA HF
        subst hMm
        clear B01 hkl
        go_wp2
        go_loopw [5, 7] (fun q i wr => ∃ (k1 m : Nat), k1 ≤ b.length ∧ i = .int .i64 k1 ∧ q = .int .i64 m ∧ m ≤ 2000 ∧ Hid (m = (b.take k1).foldl (partsSG (partsS f)) M) ∧ Below (w.heap.size + 1) (w.alloc (.cells #[.int .i64 k, .string s, .string u, .slice xo x.length xc, .slice yo a.length yc, .slice zo b.length zc] 31)) wr) (fun _ i _ => b.length - (intOf i).toNat)
        case atStart => exact ⟨0, M, Nat.zero_le _, rfl, rfl, by omega, rfl, hbel⟩
        case round =>
          obtain ⟨k1, m, hk, rfl, rfl, m1, Hm, hbel⟩ := hrel
          have hc1 := fun o => hbel.cell (p := ⟨w.heap.size, o, none⟩) (by simp)
          have hbw := B0.trans (hbel.mono (by omega))
          have hs1 := hbel.size
          simp at hs1
          by_cases hkl : k1 < b.length
          · have hi1 : (k1 : Int) < (b.length : Int) := by omega
            by_cases h60 : m ≤ 60
            · have h60' : (m : Int) ≤ 60 := by omega
              obtain ⟨bb, off, X, Y, Z, rfl, hel⟩ := HHB.out.elems (by intro hn; rw [hn] at hkl; simp at hkl)
              obtain ⟨h3, hx, ha, hz, -, -⟩ := hel k1 hkl
              have HT := Hid.mk (partsSL_take (f := f) b k1 M hkl)
              obtain ⟨t, ht⟩ : ∃ t, b[k1] = t := ⟨_, rfl⟩
              rw [ht] at h3 hx ha hz HT
              clear ht hel
              obtain ⟨c0, c1, c2, c3, c4, c5⟩ := h3.kept (w' := wr) (hbw.block bb (World.block_lt_of_cell? w _ h3.1))
              have HCall := Hid.mk (HI.out t B (X k1) (Y k1) (Z k1) wr (hx.grow hbw) (ha.grow hbw) (hz.grow hbw))
              obtain ⟨bd0, bd1⟩ := partsS_bd f t
              obtain ⟨xo', xc', hxv, -, -, -⟩ := hx.len
              obtain ⟨yo', yc', hyv, -, -, -⟩ := ha.len
              obtain ⟨zo', zc', hzv, -, -, -⟩ := hz.len
              rw [hxv] at c3 HCall
              rw [hyv] at c4 HCall
              rw [hzv] at c5 HCall
              obtain ⟨tk, htk⟩ : ∃ tk, t.k = tk := ⟨_, rfl⟩
              obtain ⟨ts, hts⟩ : ∃ ts, t.s = ts := ⟨_, rfl⟩
              obtain ⟨tu, htu⟩ : ∃ tu, t.t = tu := ⟨_, rfl⟩
              rw [htk, hts, htu] at HCall
              rw [htk] at c0
              rw [hts] at c1
              rw [htu] at c2
              obtain ⟨q, hq⟩ : ∃ q, partsS f t = q := ⟨_, rfl⟩
              rw [hq] at bd0 bd1 HCall
              have HQ : Hid ((b.take (k1 + 1)).foldl (partsSG (partsS f)) M = m + q) := by
                show _ = _
                rw [HT.out, ← Hm.out, partsSG, if_pos h60, hq]
              clear hx ha hz h3 hxv hyv hzv HT Hm hq htk hts htu hbw
              go_wp2_with fail
              refine HCall.out.mono ?_
              rintro e w2 ⟨rfl, hb2⟩
              have B3 := hbel.trans (hb2.mono (by omega))
              clear hbel hb2 HCall hc1
              go_wp2
              go_roundw
              case rel => exact ⟨k1 + 1, m + q, by omega, by go_num, by go_num, by omega, HQ.out.symm, B3⟩
              case measure => simp [intOf]; omega
            · have h60' : ¬ (m : Int) ≤ 60 := by omega
              have HF : Hid (b.foldl (partsSG (partsS f)) M = m) := by
                show _ = _
                have e1 := Hm.out
                rw [partsSL_cut (f := f) b k1 M (by omega), ← e1]
              clear Hm
              have HG : Hid ((R : Int) = m) := by show _ = _; rw [HE.out, HF.out]
              clear HF HE
              go_wp2
              go_ret
              exact ⟨ret_j HG.out.symm, hbw⟩
          · have e : k1 = b.length := by omega
            subst e
            have HF : Hid (b.foldl (partsSG (partsS f)) M = m) := by show _ = _; rw [Hm.out, List.take_length]
            clear Hm
            have HG : Hid ((R : Int) = m) := by show _ = _; rw [HE.out, HF.out]
            clear HF HE
            go_wp2
            go_ret
            exact ⟨ret_j HG.out.symm, hbw⟩
    · have e : k1 = a.length := by omega
      subst e
      have HF : Hid (a.foldl (partsSG (partsS f)) 1 = m) := by show _ = _; rw [Hm.out, List.take_length]
      clear Hm
      have hMm : M = m := by rw [← HF.out, ← hM]
      clear hM HHA HF
      subst hMm
      clear B01 hkl
      go_wp2
      go_loopw [5, 7] (fun q i wr => ∃ (k1 m : Nat), k1 ≤ b.length ∧ i = .int .i64 k1 ∧ q = .int .i64 m ∧ m ≤ 2000 ∧ Hid (m = (b.take k1).foldl (partsSG (partsS f)) M) ∧ Below (w.heap.size + 1) (w.alloc (.cells #[.int .i64 k, .string s, .string u, .slice xo x.length xc, .slice yo a.length yc, .slice zo b.length zc] 31)) wr) (fun _ i _ => b.length - (intOf i).toNat)
      case atStart => exact ⟨0, M, Nat.zero_le _, rfl, rfl, by omega, rfl, hbel⟩
      case round =>
        obtain ⟨k1, m, hk, rfl, rfl, m1, Hm, hbel⟩ := hrel
        have hc1 := fun o => hbel.cell (p := ⟨w.heap.size, o, none⟩) (by simp)
        have hbw := B0.trans (hbel.mono (by omega))
        have hs1 := hbel.size
        simp at hs1
        by_cases hkl : k1 < b.length
        · have hi1 : (k1 : Int) < (b.length : Int) := by omega
          by_cases h60 : m ≤ 60
          · have h60' : (m : Int) ≤ 60 := by omega
            obtain ⟨bb, off, X, Y, Z, rfl, hel⟩ := HHB.out.elems (by intro hn; rw [hn] at hkl; simp at hkl)
            obtain ⟨h3, hx, ha, hz, -, -⟩ := hel k1 hkl
            have HT := Hid.mk (partsSL_take (f := f) b k1 M hkl)
            obtain ⟨t, ht⟩ : ∃ t, b[k1] = t := ⟨_, rfl⟩
            rw [ht] at h3 hx ha hz HT
            clear ht hel
            obtain ⟨c0, c1, c2, c3, c4, c5⟩ := h3.kept (w' := wr) (hbw.block bb (World.block_lt_of_cell? w _ h3.1))
            have HCall := Hid.mk (HI.out t B (X k1) (Y k1) (Z k1) wr (hx.grow hbw) (ha.grow hbw) (hz.grow hbw))
            obtain ⟨bd0, bd1⟩ := partsS_bd f t
            obtain ⟨xo', xc', hxv, -, -, -⟩ := hx.len
            obtain ⟨yo', yc', hyv, -, -, -⟩ := ha.len
            obtain ⟨zo', zc', hzv, -, -, -⟩ := hz.len
            rw [hxv] at c3 HCall
            rw [hyv] at c4 HCall
            rw [hzv] at c5 HCall
            obtain ⟨tk, htk⟩ : ∃ tk, t.k = tk := ⟨_, rfl⟩
            obtain ⟨ts, hts⟩ : ∃ ts, t.s = ts := ⟨_, rfl⟩
            obtain ⟨tu, htu⟩ : ∃ tu, t.t = tu := ⟨_, rfl⟩
            rw [htk, hts, htu] at HCall
            rw [htk] at c0
            rw [hts] at c1
            rw [htu] at c2
            obtain ⟨q, hq⟩ : ∃ q, partsS f t = q := ⟨_, rfl⟩
            rw [hq] at bd0 bd1 HCall
            have HQ : Hid ((b.take (k1 + 1)).foldl (partsSG (partsS f)) M = m + q) := by
              show _ = _
              rw [HT.out, ← Hm.out, partsSG, if_pos h60, hq]
            clear hx ha hz h3 hxv hyv hzv HT Hm hq htk hts htu hbw
            go_wp2_with fail
            refine HCall.out.mono ?_
            rintro e w2 ⟨rfl, hb2⟩
            have B3 := hbel.trans (hb2.mono (by omega))
            clear hbel hb2 HCall hc1
            go_wp2
            go_roundw
            case rel => exact ⟨k1 + 1, m + q, by omega, by go_num, by go_num, by omega, HQ.out.symm, B3⟩
            case measure => simp [intOf]; omega
          · have h60' : ¬ (m : Int) ≤ 60 := by omega
            have HF : Hid (b.foldl (partsSG (partsS f)) M = m) := by
              show _ = _
              have e1 := Hm.out
              rw [partsSL_cut (f := f) b k1 M (by omega), ← e1]
            clear Hm
            have HG : Hid ((R : Int) = m) := by show _ = _; rw [HE.out, HF.out]
            clear HF HE
            go_wp2
            go_ret
            exact ⟨ret_j HG.out.symm, hbw⟩
        · have e : k1 = b.length := by omega
          subst e
          have HF : Hid (b.foldl (partsSG (partsS f)) M = m) := by show _ = _; rw [Hm.out, List.take_length]
          clear Hm
          have HG : Hid ((R : Int) = m) := by show _ = _; rw [HE.out, HF.out]
          clear HF HE
          go_wp2
          go_ret
          exact ⟨ret_j HG.out.symm, hbw⟩

theorem partsY_five : PartsY 5 := partsY_succ 4 (by omega) (partsY_succ 3 (by omega) (partsY_succ 2 (by omega) (partsY_succ 1 (by omega) (partsY_succ 0 (by omega) partsY_zero))))

theorem specStmtOk_any (t : St) (B : Nat → Prop) (vx va vb : Value) (w : World) (hx : El w B t.x vx) (ha : Sl w B t.a va) (hb : Sl w B t.b vb) (hs : ShY t) :
    Calls Tryz.prog 9 #[st t.k t.s t.t vx va vb] w fun e w' => e = .returned (.bool (okS t)) ∧ Below w.heap.size w w' := by
  have HC := Hid.mk (fun (w' : World) (hw : Below w.heap.size w w') => partsY_five t B vx va vb w' (hx.grow hw) (ha.grow hw) (hb.grow hw))
  have HK := Hid.mk (fun (w' : World) (hw : Below w.heap.size w w') => okY_any t B vx va vb w' (hx.grow hw) (ha.grow hw) (hb.grow hw) hs)
  have HO : Hid (okS t = (decide (partsS 5 t ≤ 60) && t.okT)) := rfl
  obtain ⟨xo, xc, rfl, -, -, -⟩ := hx.len
  obtain ⟨yo, yc, rfl, -, -, -⟩ := ha.len
  obtain ⟨zo, zc, rfl, -, -, -⟩ := hb.len
  obtain ⟨r, hr⟩ : ∃ b, okS t = b := ⟨_, rfl⟩
  obtain ⟨q, hq⟩ : ∃ q, partsS 5 t = q := ⟨_, rfl⟩
  obtain ⟨o, ho⟩ : ∃ o, t.okT = o := ⟨_, rfl⟩
  obtain ⟨k, hk⟩ : ∃ k, t.k = k := ⟨_, rfl⟩
  obtain ⟨s, hsn⟩ : ∃ s, t.s = s := ⟨_, rfl⟩
  obtain ⟨u, hun⟩ : ∃ u, t.t = u := ⟨_, rfl⟩
  obtain ⟨x, hxn⟩ : ∃ x, t.x = x := ⟨_, rfl⟩
  obtain ⟨a, han⟩ : ∃ a, t.a = a := ⟨_, rfl⟩
  obtain ⟨b, hbn⟩ : ∃ b, t.b = b := ⟨_, rfl⟩
  rw [hk, hsn, hun, hxn, han, hbn, hq] at HC
  rw [hk, hsn, hun, hxn, han, hbn, ho] at HK
  rw [hr, hq, ho] at HO
  rw [hk, hsn, hun, hxn, han, hbn, hr]
  have B0 : Below w.heap.size w (w.alloc (.cells #[.int .i64 k, .string s, .string u, .slice xo x.length xc, .slice yo a.length yc, .slice zo b.length zc] 31)) := (Below.refl _ _).alloc (Nat.le_refl _) _
  clear hx ha hb hs hk hsn hun hxn han hbn hr hq ho
  by_cases h60 : q ≤ 60
  · have h60' : (q : Int) ≤ 60 := by omega
    have HR : Hid (o = r) := by show _ = _; rw [HO.out, decide_eq_true h60]; rfl
    clear HO
    go_enter Tryz.func9, Tryz.ntmps9
    go_wp2_with fail
    refine (HC.out _ B0).mono ?_
    rintro e w1 ⟨rfl, hb1⟩
    have B1 := B0.trans (hb1.mono (by simp))
    have hc1 := fun o => hb1.cell (p := ⟨w.heap.size, o, none⟩) (by simp)
    have hs1 := hb1.size
    simp at hs1
    clear B0 hb1 HC
    go_wp2_with fail
    refine (HK.out _ B1).mono ?_
    rintro e w2 ⟨rfl, hb2⟩
    have B2 := B1.trans (hb2.mono (by omega))
    clear B1 hb2 HK hc1
    go_wp2
    go_ret
    exact ⟨ret_b HR.out, B2⟩
  · have h60' : ¬ (q : Int) ≤ 60 := by omega
    have HR : Hid (false = r) := by show _ = _; rw [HO.out, decide_eq_false h60]; rfl
    clear HO HK
    go_enter Tryz.func9, Tryz.ntmps9
    go_wp2_with fail
    refine (HC.out _ B0).mono ?_
    rintro e w1 ⟨rfl, hb1⟩
    have B1 := B0.trans (hb1.mono (by simp))
    clear B0 hb1 HC
    go_wp2
    go_ret
    exact ⟨ret_b HR.out, B1⟩
end Go.Proofs.YtbbhikbdbndefaaGreat

namespace Go.Proofs.YtbbhikbdbndefaaGreat
open Go.RowKit
set_option maxRecDepth 8000

/-- A form as the program has it. -/
abbrev fm (s t a b : Bool) (lo hi : Int) : Value := .agg #[.bool s, .bool t, .bool a, .bool b, .int .i64 lo, .int .i64 hi]

structure Frm where
  s : Bool
  t : Bool
  a : Bool
  b : Bool
  lo : Int
  hi : Int
  ok : Bool

def frm (k : Int) : Frm :=
  if k = 1 then ⟨false, false, false, false, 1, 5, true⟩
  else if k = 2 ∨ k = 11 then ⟨true, false, false, false, 1, 1, true⟩
  else if k = 3 then ⟨true, false, false, false, 2, 2, true⟩
  else if k = 4 then ⟨false, false, false, false, 2, 2, true⟩
  else if k = 5 then ⟨false, false, true, true, 1, 1, true⟩
  else if k = 6 then ⟨false, false, true, false, 1, 1, true⟩
  else if k = 7 then ⟨true, true, true, false, 0, 0, true⟩
  else if k = 8 then ⟨false, false, false, false, 0, 0, true⟩
  else if k = 9 ∨ k = 10 ∨ k = 12 then ⟨false, false, false, false, 1, 1, true⟩
  else ⟨false, false, false, false, 0, 0, false⟩

abbrev frmV (f : Frm) : Value := .tuple #[fm f.s f.t f.a f.b f.lo f.hi, .bool f.ok]

set_option maxHeartbeats 2000000 in
theorem formOf_any (k : Int) (w : World) : Calls Tryz.prog 47 #[.int .i64 k] w fun e w' => e = .returned (frmV (frm k)) ∧ Below w.heap.size w w' := by
  by_cases k1 : k = 1
  · subst k1
    go_enter Tryz.func47, Tryz.ntmps47
    go_wp2
    refine bodyPost_ret (v := frmV (frm 1)) ?_ rfl ⟨rfl, ?_⟩
    · simp [results, Tryz.results47, go_sem, frm]
    · exact (Below.refl _ _).alloc (Nat.le_refl _) _
  by_cases k2 : k = 2
  · subst k2
    go_enter Tryz.func47, Tryz.ntmps47
    go_wp2
    refine bodyPost_ret (v := frmV (frm 2)) ?_ rfl ⟨rfl, ?_⟩
    · simp [results, Tryz.results47, go_sem, frm]
    · exact (Below.refl _ _).alloc (Nat.le_refl _) _
  by_cases k3 : k = 3
  · subst k3
    go_enter Tryz.func47, Tryz.ntmps47
    go_wp2
    refine bodyPost_ret (v := frmV (frm 3)) ?_ rfl ⟨rfl, ?_⟩
    · simp [results, Tryz.results47, go_sem, frm]
    · exact (Below.refl _ _).alloc (Nat.le_refl _) _
  by_cases k4 : k = 4
  · subst k4
    go_enter Tryz.func47, Tryz.ntmps47
    go_wp2
    refine bodyPost_ret (v := frmV (frm 4)) ?_ rfl ⟨rfl, ?_⟩
    · simp [results, Tryz.results47, go_sem, frm]
    · exact (Below.refl _ _).alloc (Nat.le_refl _) _
  by_cases k5 : k = 5
  · subst k5
    go_enter Tryz.func47, Tryz.ntmps47
    go_wp2
    refine bodyPost_ret (v := frmV (frm 5)) ?_ rfl ⟨rfl, ?_⟩
    · simp [results, Tryz.results47, go_sem, frm]
    · exact (Below.refl _ _).alloc (Nat.le_refl _) _
  by_cases k6 : k = 6
  · subst k6
    go_enter Tryz.func47, Tryz.ntmps47
    go_wp2
    refine bodyPost_ret (v := frmV (frm 6)) ?_ rfl ⟨rfl, ?_⟩
    · simp [results, Tryz.results47, go_sem, frm]
    · exact (Below.refl _ _).alloc (Nat.le_refl _) _
  by_cases k7 : k = 7
  · subst k7
    go_enter Tryz.func47, Tryz.ntmps47
    go_wp2
    refine bodyPost_ret (v := frmV (frm 7)) ?_ rfl ⟨rfl, ?_⟩
    · simp [results, Tryz.results47, go_sem, frm]
    · exact (Below.refl _ _).alloc (Nat.le_refl _) _
  by_cases k8 : k = 8
  · subst k8
    go_enter Tryz.func47, Tryz.ntmps47
    go_wp2
    refine bodyPost_ret (v := frmV (frm 8)) ?_ rfl ⟨rfl, ?_⟩
    · simp [results, Tryz.results47, go_sem, frm]
    · exact (Below.refl _ _).alloc (Nat.le_refl _) _
  by_cases k9 : k = 9
  · subst k9
    go_enter Tryz.func47, Tryz.ntmps47
    go_wp2
    refine bodyPost_ret (v := frmV (frm 9)) ?_ rfl ⟨rfl, ?_⟩
    · simp [results, Tryz.results47, go_sem, frm]
    · exact (Below.refl _ _).alloc (Nat.le_refl _) _
  by_cases k10 : k = 10
  · subst k10
    go_enter Tryz.func47, Tryz.ntmps47
    go_wp2
    refine bodyPost_ret (v := frmV (frm 10)) ?_ rfl ⟨rfl, ?_⟩
    · simp [results, Tryz.results47, go_sem, frm]
    · exact (Below.refl _ _).alloc (Nat.le_refl _) _
  by_cases k11 : k = 11
  · subst k11
    go_enter Tryz.func47, Tryz.ntmps47
    go_wp2
    refine bodyPost_ret (v := frmV (frm 11)) ?_ rfl ⟨rfl, ?_⟩
    · simp [results, Tryz.results47, go_sem, frm]
    · exact (Below.refl _ _).alloc (Nat.le_refl _) _
  by_cases k12 : k = 12
  · subst k12
    go_enter Tryz.func47, Tryz.ntmps47
    go_wp2
    refine bodyPost_ret (v := frmV (frm 12)) ?_ rfl ⟨rfl, ?_⟩
    · simp [results, Tryz.results47, go_sem, frm]
    · exact (Below.refl _ _).alloc (Nat.le_refl _) _
  have e1 : (k == 1) = false := beq_eq_false_iff_ne.2 k1
  have e2 : (k == 2) = false := beq_eq_false_iff_ne.2 k2
  have e3 : (k == 3) = false := beq_eq_false_iff_ne.2 k3
  have e4 : (k == 4) = false := beq_eq_false_iff_ne.2 k4
  have e5 : (k == 5) = false := beq_eq_false_iff_ne.2 k5
  have e6 : (k == 6) = false := beq_eq_false_iff_ne.2 k6
  have e7 : (k == 7) = false := beq_eq_false_iff_ne.2 k7
  have e8 : (k == 8) = false := beq_eq_false_iff_ne.2 k8
  have e9 : (k == 9) = false := beq_eq_false_iff_ne.2 k9
  have e10 : (k == 10) = false := beq_eq_false_iff_ne.2 k10
  have e11 : (k == 11) = false := beq_eq_false_iff_ne.2 k11
  have e12 : (k == 12) = false := beq_eq_false_iff_ne.2 k12
  have hz : frm k = ⟨false, false, false, false, 0, 0, false⟩ := by simp [frm, k1, k2, k3, k4, k5, k6, k7, k8, k9, k10, k11, k12]
  rw [hz]
  go_enter Tryz.func47, Tryz.ntmps47
  go_wp2
  refine bodyPost_ret (v := frmV ⟨false, false, false, false, 0, 0, false⟩) ?_ rfl ⟨rfl, ?_⟩
  · simp [results, Tryz.results47, go_sem]
  · exact (Below.refl _ _).alloc (Nat.le_refl _) _

theorem nameAs_any (s : ByteArray) (b : Bool) (w : World) (hs : s.size ≤ maxLen) : Calls Tryz.prog 48 #[.string s, .bool b] w fun e w' => e = .returned (.bool (if b then nmB s else s.toList.isEmpty)) ∧ w' = w := by
  cases b with
  | true =>
    have HN := Hid.mk (fun w => implNameOk_any s w hs)
    go_enter Tryz.func48, Tryz.ntmps48
    go_wp2_with fail
    refine (HN.out _).mono ?_
    rintro e w1 ⟨rfl, hw⟩
    subst hw
    go_wp2
    go_ret
    exact ⟨rfl, rfl⟩
  | false =>
    have hq : (s.toList == []) = s.toList.isEmpty := by cases s.toList <;> rfl
    go_enter Tryz.func48, Tryz.ntmps48
    go_wp2
    go_ret
    exact ⟨ret_tb (by simp), rfl⟩

theorem blockAs_any (ao : Option Addr) (n cap : Nat) (b : Bool) (w : World) : Calls Tryz.prog 49 #[.slice ao n cap, .bool b] w fun e w' => e = .returned (.bool (n == 0 || (b && decide (n < 60)))) ∧ w' = w := by
  by_cases h0 : n = 0
  · subst h0
    go_enter Tryz.func49, Tryz.ntmps49
    go_wp2
    go_ret
    exact ⟨ret_tb (by simp), rfl⟩
  · have h0' : ((n : Int) == 0) = false := beq_eq_false_iff_ne.2 (by omega)
    have h1 : (n == 0) = false := beq_eq_false_iff_ne.2 h0
    rw [h1]
    cases b with
    | false =>
      go_enter Tryz.func49, Tryz.ntmps49
      go_wp2
      go_ret
      exact ⟨ret_tb (by simp), rfl⟩
    | true =>
      by_cases h6 : n < 60
      · have h6' : (n : Int) < 60 := by omega
        go_enter Tryz.func49, Tryz.ntmps49
        go_wp2
        go_ret
        exact ⟨ret_tb (by rw [decide_eq_true h6]; rfl), rfl⟩
      · have h6' : ¬ (n : Int) < 60 := by omega
        go_enter Tryz.func49, Tryz.ntmps49
        go_wp2
        go_ret
        exact ⟨ret_tb rfl, rfl⟩

set_option maxHeartbeats 2000000 in
theorem stmtTerms_any (t : St) (B : Nat → Prop) (xo : Option Addr) (xc : Nat) (va vb : Value) (w : World) (h : El w B t.x (.slice xo t.x.length xc)) (hs : ∀ e ∈ t.x, ShX e) (hva : ∃ o n c, va = .slice o n c) (hvb : ∃ o n c, vb = .slice o n c) :
    Calls Tryz.prog 50 #[st t.k t.s t.t (.slice xo t.x.length xc) va vb] w fun e w' => e = .returned (.bool (t.x.all okE && callB t.k t.x)) ∧ Below w.heap.size w w' := by
  obtain ⟨yo, yn, yc, rfl⟩ := hva
  obtain ⟨zo, zn, zc, rfl⟩ := hvb
  have HR : Hid ((t.x.all okE && callB t.k t.x) = t.x.all fun e => okE e && (t.k != 12 || e.k == 11)) := by
    show _ = _
    unfold callB
    generalize t.x = l
    generalize (t.k != 12) = c
    induction l with
    | nil => cases c <;> rfl
    | cons e r ih =>
      simp only [List.all_cons] at ih ⊢
      rw [← ih]
      cases okE e <;> cases r.all okE <;> cases c <;> cases (e.k == 11) <;> simp
  obtain ⟨R, hR⟩ : ∃ R, (t.x.all okE && callB t.k t.x) = R := ⟨_, rfl⟩
  rw [hR] at HR ⊢
  clear hR
  obtain ⟨hq, hl2⟩ : ∃ q : t.x.length ≤ xc, xc ≤ maxLen := by obtain ⟨_, _, e, h1, h2, _⟩ := h.len; cases e; exact ⟨h1, h2⟩
  obtain ⟨k, hk⟩ : ∃ k, t.k = k := ⟨_, rfl⟩
  obtain ⟨s, hsn⟩ : ∃ s, t.s = s := ⟨_, rfl⟩
  obtain ⟨u, hun⟩ : ∃ u, t.t = u := ⟨_, rfl⟩
  obtain ⟨l, hln⟩ : ∃ l, t.x = l := ⟨_, rfl⟩
  rw [hk, hln] at HR
  rw [hk, hsn, hun, hln]
  rw [hln] at h hs hq
  clear hk hsn hun hln
  have hm : xc ≤ 9223372036854775807 := by unfold maxLen at hl2; omega
  have HH := Hid.mk h
  have HX := Hid.mk hs
  clear h hl2 hs
  have B0 : Below w.heap.size w (w.alloc (.cells #[.int .i64 k, .string s, .string u, .slice xo l.length xc, .slice yo yn yc, .slice zo zn zc] 31)) := (Below.refl _ _).alloc (Nat.le_refl _) _
  have B01 : Below (w.heap.size + 1) (w.alloc (.cells #[.int .i64 k, .string s, .string u, .slice xo l.length xc, .slice yo yn yc, .slice zo zn zc] 31)) (w.alloc (.cells #[.int .i64 k, .string s, .string u, .slice xo l.length xc, .slice yo yn yc, .slice zo zn zc] 31)) := Below.refl _ _
  go_enter Tryz.func50, Tryz.ntmps50
  go_wp2
  go_loopw [8] (fun i wr => ∃ (k1 : Nat), k1 ≤ l.length ∧ i = .int .i64 k1 ∧ Hid (∀ j (hj : j < l.length), j < k1 → (okE l[j] && (k != 12 || l[j].k == 11)) = true) ∧ Below (w.heap.size + 1) (w.alloc (.cells #[.int .i64 k, .string s, .string u, .slice xo l.length xc, .slice yo yn yc, .slice zo zn zc] 31)) wr) (fun i _ => l.length - (intOf i).toNat)
  case atStart => exact ⟨0, Nat.zero_le _, rfl, fun j _ hj => absurd hj (Nat.not_lt_zero j), B01⟩
  case round =>
    obtain ⟨k1, hk, rfl, Ho, hbel⟩ := hrel
    clear B01
    have hc1 := fun o => hbel.cell (p := ⟨w.heap.size, o, none⟩) (by simp)
    have hbw := B0.trans (hbel.mono (by omega))
    have hs1 := hbel.size
    simp at hs1
    by_cases hkl : k1 < l.length
    · have hi1 : (k1 : Int) < (l.length : Int) := by omega
      obtain ⟨bb, off, V, rfl, hel⟩ := HH.out.elems (by intro hn; rw [hn] at hkl; simp at hkl)
      obtain ⟨h3, hsub, hss⟩ := hel k1 hkl
      have hall : ShX l[k1] := HX.out _ (List.getElem_mem hkl)
      have HNO : Hid ((okE l[k1] && (k != 12 || l[k1].k == 11)) = false → R = false) := by
        intro hf
        rw [HR.out]
        cases hb : (l.all fun e => okE e && (k != 12 || e.k == 11)) with
        | false => rfl
        | true => have := List.all_eq_true.1 hb _ (List.getElem_mem hkl); rw [hf] at this; cases this
      have HO2 : Hid ((okE l[k1] && (k != 12 || l[k1].k == 11)) = true → ∀ j (hj : j < l.length), j < k1 + 1 → (okE l[j] && (k != 12 || l[j].k == 11)) = true) := by
        intro hne j hj hj1
        by_cases hj2 : j < k1
        · exact Ho.out j hj hj2
        · obtain rfl : j = k1 := by omega
          exact hne
      obtain ⟨t', ht⟩ : ∃ t, l[k1] = t := ⟨_, rfl⟩
      rw [ht] at h3 hsub hss HNO HO2 hall
      clear ht hel
      obtain ⟨c0, cn, c1, c2⟩ := h3.kept (w' := wr) (hbw.block bb (World.block_lt_of_cell? w _ h3.1))
      have HCall := Hid.mk (fun (w' : World) (hb : Below w.heap.size w w') => implExprOk_any t' B (V k1) w' (hsub.grow hb) hall)
      obtain ⟨ok, hok⟩ : ∃ ok, okE t' = ok := ⟨_, rfl⟩
      obtain ⟨tk, htk⟩ : ∃ tk, t'.k = tk := ⟨_, rfl⟩
      obtain ⟨tn, htn⟩ : ∃ tn, t'.n = tn := ⟨_, rfl⟩
      obtain ⟨ts, hts⟩ : ∃ ts, t'.s = ts := ⟨_, rfl⟩
      obtain ⟨av, cv, hv, -, -, -⟩ := hsub.len
      rw [hok, htk, htn, hts, hv] at HCall
      rw [htk] at c0
      rw [htn] at cn
      rw [hts] at c1
      rw [hv] at c2
      rw [hok, htk] at HNO HO2
      have B2 := hbw.alloc (by omega : w.heap.size ≤ wr.heap.size) (.cells #[.int .i64 tk, .int .i64 tn, .string ts, .slice av t'.l.length cv] 46)
      have D2 := hbel.alloc hs1 (.cells #[.int .i64 tk, .int .i64 tn, .string ts, .slice av t'.l.length cv] 46)
      clear hsub hss h3 hok htk htn hts hv hall hbw
      have hd : ∀ w2, Below (wr.heap.size + 1) (wr.alloc (.cells #[.int .i64 tk, .int .i64 tn, .string ts, .slice av t'.l.length cv] 46)) w2 → (∀ o, w2.cell? ⟨w.heap.size, o, none⟩ = (w.alloc (.cells #[.int .i64 k, .string s, .string u, .slice (some ⟨bb, off, none⟩) l.length xc, .slice yo yn yc, .slice zo zn zc] 31)).cell? ⟨w.heap.size, o, none⟩) ∧ ∀ o, w2.cell? ⟨wr.heap.size, o, none⟩ = (wr.alloc (.cells #[.int .i64 tk, .int .i64 tn, .string ts, .slice av t'.l.length cv] 46)).cell? ⟨wr.heap.size, o, none⟩ := by
        intro w2 hw
        refine ⟨fun o => ?_, fun o => hw.cell (p := ⟨wr.heap.size, o, none⟩) (by simp)⟩
        rw [hw.cell (p := ⟨w.heap.size, o, none⟩) (by show w.heap.size < _; omega)]
        exact D2.cell (p := ⟨w.heap.size, o, none⟩) (by simp)
      have HD := Hid.mk hd
      clear hd hbel
      cases ok with
      | false =>
        have HF : Hid (R = false) := HNO.out rfl
        clear HNO HO2 HH HX HD D2
        go_wp2_with fail
        refine (HCall.out _ B2).mono ?_
        rintro e w2 ⟨rfl, hb2⟩
        have B3 := B2.trans (hb2.mono (by simp; omega))
        clear B2 hb2 HCall hc1
        go_wp2
        go_ret
        exact ⟨ret_tb HF.out.symm, B3⟩
      | true =>
        by_cases hk12 : k = 12
        · subst hk12
          by_cases htk : tk = 11
          · subst htk
            have HO3 := Hid.mk (HO2.out rfl)
            clear HNO HO2
            go_wp2_with fail
            refine (HCall.out _ B2).mono ?_
            rintro e w2 ⟨rfl, hb2⟩
            have D3 := D2.trans (hb2.mono (by simp; omega))
            obtain ⟨hd1, hd2⟩ := HD.out w2 (hb2.mono (by simp))
            clear B2 D2 hb2 HCall hc1 HD
            go_wp2
            go_roundw
            case rel => exact ⟨k1 + 1, by omega, by go_num, HO3, D3⟩
            case measure => simp [intOf]; omega
          · have htb : (tk != 11) = true := by simpa using htk
            have HF : Hid (R = false) := HNO.out (by simp [htk])
            clear HNO HO2 HH HX
            go_wp2_with fail
            refine (HCall.out _ B2).mono ?_
            rintro e w2 ⟨rfl, hb2⟩
            have B3 := B2.trans (hb2.mono (by simp; omega))
            obtain ⟨hd1, hd2⟩ := HD.out w2 (hb2.mono (by simp))
            clear B2 D2 hb2 HCall hc1 HD
            go_wp2
            go_ret
            exact ⟨ret_tb HF.out.symm, B3⟩
        · have hkb : (k == 12) = false := beq_eq_false_iff_ne.2 hk12
          have HO3 := Hid.mk (HO2.out (by simp [hk12]))
          clear HNO HO2
          go_wp2_with fail
          refine (HCall.out _ B2).mono ?_
          rintro e w2 ⟨rfl, hb2⟩
          have D3 := D2.trans (hb2.mono (by simp; omega))
          obtain ⟨hd1, hd2⟩ := HD.out w2 (hb2.mono (by simp))
          clear B2 D2 hb2 HCall hc1 HD
          go_wp2
          go_roundw
          case rel => exact ⟨k1 + 1, by omega, by go_num, HO3, D3⟩
          case measure => simp [intOf]; omega
    · have e : k1 = l.length := by omega
      subst e
      have HE : Hid (true = R) := by
        show _ = _
        rw [HR.out, eq_comm, List.all_eq_true]
        intro x hx
        obtain ⟨j, hj, rfl⟩ := List.getElem_of_mem hx
        exact Ho.out j hj hj
      clear Ho HR HH HX
      go_wp2
      go_ret
      exact ⟨ret_tb HE.out, hbw⟩
end Go.Proofs.YtbbhikbdbndefaaGreat

namespace Go.Proofs.YtbbhikbdbndefaaGreat
open Go.RowKit
set_option maxRecDepth 8000

set_option maxHeartbeats 4000000 in
theorem nodeRun (k : Int) (s u : ByteArray) (xo : Option Addr) (nx xc : Nat) (yo : Option Addr) (na yc : Nat) (zo : Option Addr) (nb zc : Nat) (w : World) (hs : s.size ≤ maxLen) (hu : u.size ≤ maxLen) (q7 : Bool)
    (HT : ∀ w', Below w.heap.size w w' → Calls Tryz.prog 50 #[st k s u (.slice xo nx xc) (.slice yo na yc) (.slice zo nb zc)] w' fun e w'' => e = .returned (.bool q7) ∧ Below w'.heap.size w' w'') :
    Calls Tryz.prog 32 #[st k s u (.slice xo nx xc) (.slice yo na yc) (.slice zo nb zc)] w fun e w' => e = .returned (.bool ((frm k).ok && (if (frm k).s then nmB s else s.toList.isEmpty) && (if (frm k).t then nmB u else u.toList.isEmpty) && (na == 0 || ((frm k).a && decide (na < 60))) && (nb == 0 || ((frm k).b && decide (nb < 60))) && decide ((frm k).lo ≤ (nx : Int)) && decide ((nx : Int) ≤ (frm k).hi) && q7)) ∧ Below w.heap.size w w' := by
  have HF := Hid.mk (fun w' => formOf_any k w')
  have H7 := Hid.mk HT
  clear HT
  obtain ⟨f, hf⟩ : ∃ f, frm k = f := ⟨_, rfl⟩
  obtain ⟨fs, ft, fa, fb, lo, hi, ok⟩ := f
  rw [hf] at HF
  rw [hf]
  clear hf
  have H1 := Hid.mk (fun w' => nameAs_any s fs w' hs)
  have H2 := Hid.mk (fun w' => nameAs_any u ft w' hu)
  have H3 := Hid.mk (fun w' => blockAs_any yo na yc fa w')
  have H4 := Hid.mk (fun w' => blockAs_any zo nb zc fb w')
  simp only
  generalize (if fs = true then nmB s else s.toList.isEmpty) = q1 at *
  generalize (if ft = true then nmB u else u.toList.isEmpty) = q2 at *
  generalize (na == 0 || (fa && decide (na < 60))) = q3 at *
  generalize (nb == 0 || (fb && decide (nb < 60))) = q4 at *
  have A0 : Below w.heap.size w (w.alloc (.cells #[.int .i64 k, .string s, .string u, .slice xo nx xc, .slice yo na yc, .slice zo nb zc] 31)) := (Below.refl _ _).alloc (Nat.le_refl _) _
  clear hs hu
  cases ok with
  | false =>
    go_enter Tryz.func32, Tryz.ntmps32
    go_wp2_with fail
    refine (HF.out _).mono ?_
    rintro e w1 ⟨rfl, hb1⟩
    have hc1 := fun o => hb1.cell (p := ⟨w.heap.size, o, none⟩) (by simp)
    have B1 := A0.trans (hb1.mono (by simp))
    have s1 := hb1.size
    simp at s1
    have s2 : w.heap.size < w1.heap.size := s1
    have s3 : w.heap.size ≠ w1.heap.size := by omega
    have B2 := B1.alloc (by omega : w.heap.size ≤ w1.heap.size) (.cells #[.bool fs, .bool ft, .bool fa, .bool fb, .int .i64 lo, .int .i64 hi] 63)
    clear A0 hb1 HF B1
    go_wp2
    go_ret
    exact ⟨ret_tb (by simp), B2⟩
  | true =>
    cases q1 with
    | false =>
      go_enter Tryz.func32, Tryz.ntmps32
      go_wp2_with fail
      refine (HF.out _).mono ?_
      rintro e w1 ⟨rfl, hb1⟩
      have hc1 := fun o => hb1.cell (p := ⟨w.heap.size, o, none⟩) (by simp)
      have B1 := A0.trans (hb1.mono (by simp))
      have s1 := hb1.size
      simp at s1
      have s2 : w.heap.size < w1.heap.size := s1
      have s3 : w.heap.size ≠ w1.heap.size := by omega
      have B2 := B1.alloc (by omega : w.heap.size ≤ w1.heap.size) (.cells #[.bool fs, .bool ft, .bool fa, .bool fb, .int .i64 lo, .int .i64 hi] 63)
      clear A0 hb1 HF B1
      go_wp2_with fail
      refine (H1.out _).mono ?_
      rintro e w2 ⟨rfl, hw⟩
      subst hw
      clear H1
      go_wp2
      go_ret
      exact ⟨ret_tb (by simp), B2⟩
    | true =>
      cases q2 with
      | false =>
        go_enter Tryz.func32, Tryz.ntmps32
        go_wp2_with fail
        refine (HF.out _).mono ?_
        rintro e w1 ⟨rfl, hb1⟩
        have hc1 := fun o => hb1.cell (p := ⟨w.heap.size, o, none⟩) (by simp)
        have B1 := A0.trans (hb1.mono (by simp))
        have s1 := hb1.size
        simp at s1
        have s2 : w.heap.size < w1.heap.size := s1
        have s3 : w.heap.size ≠ w1.heap.size := by omega
        have B2 := B1.alloc (by omega : w.heap.size ≤ w1.heap.size) (.cells #[.bool fs, .bool ft, .bool fa, .bool fb, .int .i64 lo, .int .i64 hi] 63)
        clear A0 hb1 HF B1
        go_wp2_with fail
        refine (H1.out _).mono ?_
        rintro e w2 ⟨rfl, hw⟩
        subst hw
        clear H1
        go_wp2_with fail
        refine (H2.out _).mono ?_
        rintro e w2 ⟨rfl, hw⟩
        subst hw
        clear H2
        go_wp2
        go_ret
        exact ⟨ret_tb (by simp), B2⟩
      | true =>
        cases q3 with
        | false =>
          go_enter Tryz.func32, Tryz.ntmps32
          go_wp2_with fail
          refine (HF.out _).mono ?_
          rintro e w1 ⟨rfl, hb1⟩
          have hc1 := fun o => hb1.cell (p := ⟨w.heap.size, o, none⟩) (by simp)
          have B1 := A0.trans (hb1.mono (by simp))
          have s1 := hb1.size
          simp at s1
          have s2 : w.heap.size < w1.heap.size := s1
          have s3 : w.heap.size ≠ w1.heap.size := by omega
          have B2 := B1.alloc (by omega : w.heap.size ≤ w1.heap.size) (.cells #[.bool fs, .bool ft, .bool fa, .bool fb, .int .i64 lo, .int .i64 hi] 63)
          clear A0 hb1 HF B1
          go_wp2_with fail
          refine (H1.out _).mono ?_
          rintro e w2 ⟨rfl, hw⟩
          subst hw
          clear H1
          go_wp2_with fail
          refine (H2.out _).mono ?_
          rintro e w2 ⟨rfl, hw⟩
          subst hw
          clear H2
          go_wp2_with fail
          refine (H3.out _).mono ?_
          rintro e w2 ⟨rfl, hw⟩
          subst hw
          clear H3
          go_wp2
          go_ret
          exact ⟨ret_tb (by simp), B2⟩
        | true =>
          cases q4 with
          | false =>
            go_enter Tryz.func32, Tryz.ntmps32
            go_wp2_with fail
            refine (HF.out _).mono ?_
            rintro e w1 ⟨rfl, hb1⟩
            have hc1 := fun o => hb1.cell (p := ⟨w.heap.size, o, none⟩) (by simp)
            have B1 := A0.trans (hb1.mono (by simp))
            have s1 := hb1.size
            simp at s1
            have s2 : w.heap.size < w1.heap.size := s1
            have s3 : w.heap.size ≠ w1.heap.size := by omega
            have B2 := B1.alloc (by omega : w.heap.size ≤ w1.heap.size) (.cells #[.bool fs, .bool ft, .bool fa, .bool fb, .int .i64 lo, .int .i64 hi] 63)
            clear A0 hb1 HF B1
            go_wp2_with fail
            refine (H1.out _).mono ?_
            rintro e w2 ⟨rfl, hw⟩
            subst hw
            clear H1
            go_wp2_with fail
            refine (H2.out _).mono ?_
            rintro e w2 ⟨rfl, hw⟩
            subst hw
            clear H2
            go_wp2_with fail
            refine (H3.out _).mono ?_
            rintro e w2 ⟨rfl, hw⟩
            subst hw
            clear H3
            go_wp2_with fail
            refine (H4.out _).mono ?_
            rintro e w2 ⟨rfl, hw⟩
            subst hw
            clear H4
            go_wp2
            go_ret
            exact ⟨ret_tb (by simp), B2⟩
          | true =>
            by_cases h5 : lo ≤ (nx : Int)
            case neg =>
              have h5' : ¬ lo ≤ (nx : Int) := h5
              go_enter Tryz.func32, Tryz.ntmps32
              go_wp2_with fail
              refine (HF.out _).mono ?_
              rintro e w1 ⟨rfl, hb1⟩
              have hc1 := fun o => hb1.cell (p := ⟨w.heap.size, o, none⟩) (by simp)
              have B1 := A0.trans (hb1.mono (by simp))
              have s1 := hb1.size
              simp at s1
              have s2 : w.heap.size < w1.heap.size := s1
              have s3 : w.heap.size ≠ w1.heap.size := by omega
              have B2 := B1.alloc (by omega : w.heap.size ≤ w1.heap.size) (.cells #[.bool fs, .bool ft, .bool fa, .bool fb, .int .i64 lo, .int .i64 hi] 63)
              clear A0 hb1 HF B1
              go_wp2_with fail
              refine (H1.out _).mono ?_
              rintro e w2 ⟨rfl, hw⟩
              subst hw
              clear H1
              go_wp2_with fail
              refine (H2.out _).mono ?_
              rintro e w2 ⟨rfl, hw⟩
              subst hw
              clear H2
              go_wp2_with fail
              refine (H3.out _).mono ?_
              rintro e w2 ⟨rfl, hw⟩
              subst hw
              clear H3
              go_wp2_with fail
              refine (H4.out _).mono ?_
              rintro e w2 ⟨rfl, hw⟩
              subst hw
              clear H4
              go_wp2
              go_ret
              exact ⟨ret_tb (by rw [decide_eq_false (by omega : ¬ lo ≤ (nx : Int))]; simp), B2⟩
            by_cases h6 : (nx : Int) ≤ hi
            case neg =>
              go_enter Tryz.func32, Tryz.ntmps32
              go_wp2_with fail
              refine (HF.out _).mono ?_
              rintro e w1 ⟨rfl, hb1⟩
              have hc1 := fun o => hb1.cell (p := ⟨w.heap.size, o, none⟩) (by simp)
              have B1 := A0.trans (hb1.mono (by simp))
              have s1 := hb1.size
              simp at s1
              have s2 : w.heap.size < w1.heap.size := s1
              have s3 : w.heap.size ≠ w1.heap.size := by omega
              have B2 := B1.alloc (by omega : w.heap.size ≤ w1.heap.size) (.cells #[.bool fs, .bool ft, .bool fa, .bool fb, .int .i64 lo, .int .i64 hi] 63)
              clear A0 hb1 HF B1
              go_wp2_with fail
              refine (H1.out _).mono ?_
              rintro e w2 ⟨rfl, hw⟩
              subst hw
              clear H1
              go_wp2_with fail
              refine (H2.out _).mono ?_
              rintro e w2 ⟨rfl, hw⟩
              subst hw
              clear H2
              go_wp2_with fail
              refine (H3.out _).mono ?_
              rintro e w2 ⟨rfl, hw⟩
              subst hw
              clear H3
              go_wp2_with fail
              refine (H4.out _).mono ?_
              rintro e w2 ⟨rfl, hw⟩
              subst hw
              clear H4
              go_wp2
              go_ret
              exact ⟨ret_tb (by rw [decide_eq_false (by omega : ¬ (nx : Int) ≤ hi)]; simp), B2⟩
            go_enter Tryz.func32, Tryz.ntmps32
            go_wp2_with fail
            refine (HF.out _).mono ?_
            rintro e w1 ⟨rfl, hb1⟩
            have hc1 := fun o => hb1.cell (p := ⟨w.heap.size, o, none⟩) (by simp)
            have B1 := A0.trans (hb1.mono (by simp))
            have s1 := hb1.size
            simp at s1
            have s2 : w.heap.size < w1.heap.size := s1
            have s3 : w.heap.size ≠ w1.heap.size := by omega
            have B2 := B1.alloc (by omega : w.heap.size ≤ w1.heap.size) (.cells #[.bool fs, .bool ft, .bool fa, .bool fb, .int .i64 lo, .int .i64 hi] 63)
            clear A0 hb1 HF B1
            go_wp2_with fail
            refine (H1.out _).mono ?_
            rintro e w2 ⟨rfl, hw⟩
            subst hw
            clear H1
            go_wp2_with fail
            refine (H2.out _).mono ?_
            rintro e w2 ⟨rfl, hw⟩
            subst hw
            clear H2
            go_wp2_with fail
            refine (H3.out _).mono ?_
            rintro e w2 ⟨rfl, hw⟩
            subst hw
            clear H3
            go_wp2_with fail
            refine (H4.out _).mono ?_
            rintro e w2 ⟨rfl, hw⟩
            subst hw
            clear H4
            go_wp2_with fail
            refine (H7.out _ B2).mono ?_
            rintro e w2 ⟨rfl, hb2⟩
            have B3 := B2.trans (hb2.mono (by simp; omega))
            clear H7 B2 hb2
            go_wp2
            go_ret
            exact ⟨ret_tb (by simp [h5, h6]), B3⟩
end Go.Proofs.YtbbhikbdbndefaaGreat

namespace Go.Proofs.YtbbhikbdbndefaaGreat
open Go.RowKit
set_option maxRecDepth 8000

theorem frm_key (k : Int) (a1 a2 e1 e2 : Bool) (s u : ByteArray) (ha : nmB s = a1) (hb : nmB u = a2) (hc : s.toList.isEmpty = e1) (hd : u.toList.isEmpty = e2) (nx na nb : Nat) :
    (hereK k s u nx na nb && (decide (na < 60) && decide (nb < 60))) = ((frm k).ok && (if (frm k).s then a1 else e1) && (if (frm k).t then a2 else e2) && (na == 0 || ((frm k).a && decide (na < 60))) && (nb == 0 || ((frm k).b && decide (nb < 60))) && decide ((frm k).lo ≤ (nx : Int)) && decide ((nx : Int) ≤ (frm k).hi)) := by
  unfold hereK
  rw [ha, hb, hc, hd]
  clear ha hb hc hd
  have fin : ∀ (x y : Bool), (x = true ↔ y = true) → x = y := by decide
  by_cases k1 : k = 1
  · subst k1
    apply fin
    cases a1 <;> cases a2 <;> cases e1 <;> cases e2 <;> simp [frm] <;> omega
  by_cases k2 : k = 2
  · subst k2
    apply fin
    cases a1 <;> cases a2 <;> cases e1 <;> cases e2 <;> simp [frm] <;> omega
  by_cases k3 : k = 3
  · subst k3
    apply fin
    cases a1 <;> cases a2 <;> cases e1 <;> cases e2 <;> simp [frm] <;> omega
  by_cases k4 : k = 4
  · subst k4
    apply fin
    cases a1 <;> cases a2 <;> cases e1 <;> cases e2 <;> simp [frm] <;> omega
  by_cases k5 : k = 5
  · subst k5
    apply fin
    cases a1 <;> cases a2 <;> cases e1 <;> cases e2 <;> simp [frm] <;> omega
  by_cases k6 : k = 6
  · subst k6
    apply fin
    cases a1 <;> cases a2 <;> cases e1 <;> cases e2 <;> simp [frm] <;> omega
  by_cases k7 : k = 7
  · subst k7
    apply fin
    cases a1 <;> cases a2 <;> cases e1 <;> cases e2 <;> simp [frm] <;> omega
  by_cases k8 : k = 8
  · subst k8
    apply fin
    cases a1 <;> cases a2 <;> cases e1 <;> cases e2 <;> simp [frm] <;> omega
  by_cases k9 : k = 9
  · subst k9
    apply fin
    cases a1 <;> cases a2 <;> cases e1 <;> cases e2 <;> simp [frm] <;> omega
  by_cases k10 : k = 10
  · subst k10
    apply fin
    cases a1 <;> cases a2 <;> cases e1 <;> cases e2 <;> simp [frm] <;> omega
  by_cases k11 : k = 11
  · subst k11
    apply fin
    cases a1 <;> cases a2 <;> cases e1 <;> cases e2 <;> simp [frm] <;> omega
  by_cases k12 : k = 12
  · subst k12
    apply fin
    cases a1 <;> cases a2 <;> cases e1 <;> cases e2 <;> simp [frm] <;> omega
  have hz : frm k = ⟨false, false, false, false, 0, 0, false⟩ := by simp [frm, k1, k2, k3, k4, k5, k6, k7, k8, k9, k10, k11, k12]
  rw [hz]
  simp [k1, k2, k3, k4, k5, k6, k7, k8, k9, k10, k11, k12]

theorem nodeP_frm (t : St) : nodeP t = ((frm t.k).ok && (if (frm t.k).s then nmB t.s else t.s.toList.isEmpty) && (if (frm t.k).t then nmB t.t else t.t.toList.isEmpty) && (t.a.length == 0 || ((frm t.k).a && decide (t.a.length < 60))) && (t.b.length == 0 || ((frm t.k).b && decide (t.b.length < 60))) && decide ((frm t.k).lo ≤ (t.x.length : Int)) && decide ((t.x.length : Int) ≤ (frm t.k).hi) && (t.x.all okE && callB t.k t.x)) := by
  unfold nodeP nodeS
  rw [← frm_key t.k (nmB t.s) (nmB t.t) t.s.toList.isEmpty t.t.toList.isEmpty t.s t.t rfl rfl rfl rfl t.x.length t.a.length t.b.length]
  generalize t.x.all okE = c1
  generalize callB t.k t.x = c2
  generalize hereK t.k t.s t.t t.x.length t.a.length t.b.length = c3
  generalize decide (t.a.length < 60) = c4
  generalize decide (t.b.length < 60) = c5
  cases c1 <;> cases c2 <;> cases c3 <;> cases c4 <;> cases c5 <;> rfl

theorem stmtNode_any (t : St) (B : Nat → Prop) (xo : Option Addr) (xc : Nat) (yo : Option Addr) (yc : Nat) (zo : Option Addr) (zc : Nat) (w : World) (h : El w B t.x (.slice xo t.x.length xc)) (hs : t.s.size ≤ maxLen) (hu : t.t.size ≤ maxLen) (hx : ∀ e ∈ t.x, ShX e) :
    Calls Tryz.prog 32 #[st t.k t.s t.t (.slice xo t.x.length xc) (.slice yo t.a.length yc) (.slice zo t.b.length zc)] w fun e w' => e = .returned (.bool (nodeP t)) ∧ Below w.heap.size w w' := by
  rw [nodeP_frm]
  exact nodeRun t.k t.s t.t xo t.x.length xc yo t.a.length yc zo t.b.length zc w hs hu _ (fun w' hw => stmtTerms_any t B xo xc _ _ w' (h.grow hw) hx ⟨_, _, _, rfl⟩ ⟨_, _, _, rfl⟩)
end Go.Proofs.YtbbhikbdbndefaaGreat

namespace Go.Proofs.YtbbhikbdbndefaaGreat
open Go.RowKit
set_option maxRecDepth 8000

mutual
def Ex.sz : Ex → Nat
  | .node _ _ s l => s.size + szx l
def szx : List Ex → Nat
  | [] => 0
  | t :: r => 1 + t.sz + szx r
end

theorem Ex.sz_eq (t : Ex) : t.sz = t.s.size + szx t.l := by cases t; rw [Ex.sz]; rfl
theorem szx_take (l : List Ex) (k : Nat) (h : k < l.length) : szx (l.take (k + 1)) = szx (l.take k) + 1 + l[k].sz := by
  induction l generalizing k with
  | nil => simp at h
  | cons t r ih =>
    cases k with
    | zero => simp [szx]
    | succ k =>
      have := ih k (by simpa using h)
      simp only [List.take_succ_cons, szx, List.getElem_cons_succ]
      omega
theorem szx_take_le (l : List Ex) (k : Nat) : szx (l.take k) ≤ szx l := by
  induction l generalizing k with
  | nil => simp
  | cons t r ih =>
    cases k with
    | zero => simp [szx]
    | succ k => have := ih k; simp only [List.take_succ_cons, szx]; omega
theorem szx_length (l : List Ex) : l.length ≤ szx l := by
  induction l with
  | nil => simp
  | cons t r ih => simp only [List.length_cons, szx]; omega
theorem szx_take_length (l : List Ex) (k : Nat) (h : k ≤ l.length) : szx (l.take k) + (l.length - k) ≤ szx l := by
  induction l generalizing k with
  | nil => simp
  | cons t r ih =>
    cases k with
    | zero => have := szx_length (t :: r); simpa [szx] using this
    | succ k => have := ih k (by simpa using h); simp only [List.take_succ_cons, szx, List.length_cons]; omega

def SzX (l : List Ex) : Prop := ∀ (B : Nat → Prop) (v : Value) (w : World) (left : Int), El w B l v → 0 ≤ left → left ≤ 1048576 →
  Calls Tryz.prog 27 #[v, .int .i64 left] w fun e w' => e = .returned (.int .i64 (leftOf left (szx l))) ∧ Below w.heap.size w w'

theorem szExpr_of (t : Ex) (ih : SzX t.l) (B : Nat → Prop) (v : Value) (w : World) (left : Int) (h : El w B t.l v) (hs : t.s.size ≤ maxLen) (h0 : 0 ≤ left) (h1 : left ≤ 1048576) :
    Calls Tryz.prog 20 #[xx t.k t.n t.s v, .int .i64 left] w fun e w' => e = .returned (.int .i64 (leftOf left t.sz)) ∧ Below w.heap.size w w' := by
  have HE := Hid.mk t.sz_eq
  obtain ⟨k, hk⟩ : ∃ k, t.k = k := ⟨_, rfl⟩
  obtain ⟨n, hnn⟩ : ∃ n, t.n = n := ⟨_, rfl⟩
  obtain ⟨s, hsn⟩ : ∃ s, t.s = s := ⟨_, rfl⟩
  obtain ⟨l, hln⟩ : ∃ l, t.l = l := ⟨_, rfl⟩
  obtain ⟨z, hz⟩ : ∃ z, t.sz = z := ⟨_, rfl⟩
  rw [hk, hnn, hsn, hz]
  rw [hsn] at hs HE
  rw [hln] at h ih HE
  rw [hz] at HE
  clear hk hnn hsn hln hz
  unfold maxLen at hs
  have B0 : Below w.heap.size w (w.alloc (.cells #[.int .i64 k, .int .i64 n, .string s, v] 42)) := (Below.refl _ _).alloc (Nat.le_refl _) _
  obtain ⟨ao, cap, rfl, hl1, hl2, hl3⟩ := h.len
  by_cases hlt : left < s.size
  · have hh : left - (s.size : Int) < 0 := by omega
    have HR : Hid (leftOf left z = -1) := by show _ = _; unfold leftOf; have := HE.out; rw [if_pos (by omega)]
    clear HE
    go_enter Tryz.func20, Tryz.ntmps20
    go_wp2
    go_ret
    exact ⟨ret_int' HR.out.symm, B0⟩
  · have hh : ¬ left - (s.size : Int) < 0 := by omega
    have hh1 : 0 ≤ left - (s.size : Int) := by omega
    have hh2 : left - (s.size : Int) ≤ 1048576 := by omega
    have h' := Hid.mk (h.grow B0)
    have HI := Hid.mk ih
    clear ih h
    obtain ⟨m, Hm⟩ : ∃ m, Hid (leftOf (left - (s.size : Int)) (szx l) = m) := ⟨_, rfl⟩
    have HR : Hid (m = leftOf left z) := by
      show _ = _
      rw [← Hm.out, HE.out]
      unfold leftOf
      split <;> split <;> omega
    clear HE
    by_cases hm : m < 0
    all_goals
      have hm' := hm
      go_enter Tryz.func20, Tryz.ntmps20
      go_wp2_with fail
      refine (HI.out _ _ _ _ h'.out hh1 hh2).mono ?_
      rintro e w1 ⟨rfl, hb1⟩
      rw [Hm.out]
      have B1 := B0.trans (hb1.mono (by simp))
      clear B0 hb1 HI h'
      go_wp2
      go_ret
      exact ⟨ret_int' (by first | exact HR.out | (have := HR.out; unfold leftOf at this ⊢; split at this <;> omega)), B1⟩

theorem szExprS_step (l : List Ex) (ih : ∀ x ∈ l, SzX x.l) : SzX l := by
  intro B v w left h h0 h1
  obtain ⟨ao, cap, rfl, hl1, hl2, hl3⟩ := h.len
  have hm : cap ≤ 9223372036854775807 := by unfold maxLen at hl2; omega
  have hlen := szx_length l
  by_cases hlt : left < l.length
  · have hh : left - (l.length : Int) < 0 := by omega
    have HR : Hid (leftOf left (szx l) = -1) := by show _ = _; unfold leftOf; rw [if_pos (by omega)]
    clear h ih hl2 hlen
    go_enter Tryz.func27, Tryz.ntmps27
    go_wp2
    go_ret
    exact ⟨ret_int' HR.out.symm, Below.refl _ _⟩
  · have hh : ¬ left - (l.length : Int) < 0 := by omega
    have HI := Hid.mk ih
    have HH := Hid.mk h
    have HL := Hid.mk hlen
    clear ih h hl2 hlen
    go_enter Tryz.func27, Tryz.ntmps27
    go_wp2
    go_loopw [1, 5] (fun q i wr => ∃ (k : Nat) (r : Int), k ≤ l.length ∧ i = .int .i64 k ∧ q = .int .i64 r ∧ 0 ≤ r ∧ r ≤ 1048576 ∧ Hid (r = left - (l.length : Int) - (szx (l.take k) : Int) + (k : Int)) ∧ Below w.heap.size w wr) (fun _ i _ => l.length - (intOf i).toNat)
    case atStart => exact ⟨0, left - (l.length : Int), Nat.zero_le _, rfl, rfl, by omega, by omega, by show _ = _; simp [szx], Below.refl _ _⟩
    case round =>
      obtain ⟨k, r, hk, rfl, rfl, r0, r1, Hr, hbel⟩ := hrel
      by_cases hkl : k < l.length
      · obtain ⟨b, off, V, rfl, hel⟩ := HH.out.elems (by intro hn; rw [hn] at hkl; simp at hkl)
        obtain ⟨h3, hsub, hss⟩ := hel k hkl
        have HE := Hid.mk (szx_take l k hkl)
        have HT := Hid.mk (szx_take_le l (k + 1))
        have HZ := Hid.mk (szx_take_length l (k + 1) hkl)
        have hsz : SzX l[k].l := HI.out _ (List.getElem_mem hkl)
        obtain ⟨t, ht⟩ : ∃ t, l[k] = t := ⟨_, rfl⟩
        rw [ht] at h3 hsub hss HE hsz
        clear ht hel
        obtain ⟨c0, cn, c1, c2⟩ := h3.kept (w' := wr) (hbel.block b (World.block_lt_of_cell? w _ h3.1))
        have HC := Hid.mk (szExpr_of t hsz B (V k) wr r (hsub.grow hbel) hss r0 r1)
        have hi1 : (k : Int) < (l.length : Int) := by omega
        obtain ⟨m, Hm⟩ : ∃ m, Hid (leftOf r t.sz = m) := ⟨_, rfl⟩
        rw [Hm.out] at HC
        clear hsub hss hsz h3
        by_cases hm : m < 0
        · have HR : Hid (leftOf left (szx l) = -1) := by
            show _ = _
            have e1 := Hm.out
            have e2 := Hr.out
            have e3 := HE.out
            have e5 := HZ.out
            unfold leftOf at e1 ⊢
            split at e1 <;> split <;> omega
          clear HE HT Hr Hm HZ
          go_wp2_with fail
          refine HC.out.mono ?_
          rintro e w1 ⟨rfl, hb1⟩
          have B1 := hbel.trans (hb1.mono hbel.size)
          clear hb1 HC
          go_wp2
          go_ret
          exact ⟨ret_int' HR.out.symm, B1⟩
        · have HR : Hid (m = left - (l.length : Int) - (szx (l.take (k + 1)) : Int) + ((k + 1 : Nat) : Int)) := by
            show _ = _
            have e1 := Hm.out
            have e2 := Hr.out
            have e3 := HE.out
            unfold leftOf at e1
            split at e1 <;> omega
          have hm1 : m ≤ 1048576 := by
            have e1 := Hm.out
            unfold leftOf at e1
            split at e1 <;> omega
          clear HE HT Hr Hm HZ
          go_wp2_with fail
          refine HC.out.mono ?_
          rintro e w1 ⟨rfl, hb1⟩
          have B1 := hbel.trans (hb1.mono hbel.size)
          clear hb1 HC
          go_wp2
          go_roundw
          case rel => exact ⟨k + 1, m, by omega, by go_num, rfl, by omega, hm1, HR, B1⟩
          case measure => simp [intOf]; omega
      · have e : k = l.length := by omega
        subst e
        have HR : Hid (r = leftOf left (szx l)) := by
          show _ = _
          have e2 := Hr.out
          rw [List.take_length] at e2
          unfold leftOf
          split <;> omega
        clear Hr
        go_wp2
        go_ret
        exact ⟨ret_int' HR.out, hbel⟩

theorem szExprS_any (l : List Ex) : SzX l := (Ex.ind (P := fun t => SzX t.l) (fun t ih => szExprS_step t.l ih) (.node 0 0 ⟨#[]⟩ l))

theorem szExpr_any (t : Ex) (B : Nat → Prop) (v : Value) (w : World) (left : Int) (h : El w B t.l v) (hs : t.s.size ≤ maxLen) (h0 : 0 ≤ left) (h1 : left ≤ 1048576) :
    Calls Tryz.prog 20 #[xx t.k t.n t.s v, .int .i64 left] w fun e w' => e = .returned (.int .i64 (leftOf left t.sz)) ∧ Below w.heap.size w w' :=
  szExpr_of t (szExprS_any t.l) B v w left h hs h0 h1
end Go.Proofs.YtbbhikbdbndefaaGreat

namespace Go.Proofs.YtbbhikbdbndefaaGreat
open Go.RowKit
set_option maxRecDepth 8000

theorem El.nfgrow {w w' : World} {n : Nat} {l : List Ex} {v : Value} (h : El w (nf w n) l v) (hk : Below w.heap.size w w') : El w' (nf w' n) l v :=
  (h.imp (C := nf w' n) fun b hb hlt => ⟨hb.1, fun o => by rw [hk.frozen (p := ⟨b, o, none⟩) hlt]; exact hb.2 o⟩).grow hk

theorem El.nfset {w : World} {n : Nat} {l : List Ex} {v : Value} (h : El w (nf w n) l v) {a : Addr} (ha : a.block < n) (u : Value) : El (w.setCell a u) (nf (w.setCell a u) n) l v :=
  (h.setCell (fun hb => by have := hb.1; omega) u).imp fun b hb _ => ⟨hb.1, fun o => by rw [World.frozen?_setCell]; exact hb.2 o⟩

def ToX (l : List Ex) : Prop := ∀ (B : Nat → Prop) (v : Value) (w : World), El w B l v → szx l ≤ 1048576 →
  Calls Tryz.prog 30 #[v] w fun e w' => ∃ u, e = .returned u ∧ El w' (nf w' w.heap.size) l u ∧ Below w.heap.size w w'

theorem toExpr_of (t : Ex) (ih : ToX t.l) (B : Nat → Prop) (v : Value) (w : World) (h : El w B t.l v) (hs : szx t.l ≤ 1048576) :
    Calls Tryz.prog 22 #[xx t.k t.n t.s v] w fun e w' => ∃ u, e = .returned (xx t.k t.n t.s u) ∧ El w' (nf w' (w.heap.size + 1)) t.l u ∧ Below w.heap.size w w' := by
  obtain ⟨k, hk⟩ : ∃ k, t.k = k := ⟨_, rfl⟩
  obtain ⟨n, hnn⟩ : ∃ n, t.n = n := ⟨_, rfl⟩
  obtain ⟨s, hsn⟩ : ∃ s, t.s = s := ⟨_, rfl⟩
  obtain ⟨l, hln⟩ : ∃ l, t.l = l := ⟨_, rfl⟩
  rw [hk, hnn, hsn]
  rw [hln] at h ih hs
  rw [hln]
  clear hk hnn hsn hln
  have HI := Hid.mk ih
  have H1 := Hid.mk (fun w' (hb : Below w.heap.size w w') => h.grow hb)
  obtain ⟨ao, cap, rfl, hl1, hl2, hl3⟩ := h.len
  clear ih h hl1 hl2 hl3
  go_enter Tryz.func22, Tryz.ntmps22
  go_wp2_with fail
  refine (HI.out _ _ _ (H1.out _ ?_) hs).mono ?_
  · exact ((((Below.refl _ _).alloc (Nat.le_refl _) _).alloc (by simp) _).alloc (by simp; omega) _)
  rintro e w1 ⟨u, rfl, hr, hb1⟩
  have hc1 := fun o => hb1.cell (p := ⟨w.heap.size + 1, o, none⟩) (by simp)
  have hc2 := fun o => hb1.cell (p := ⟨w.heap.size + 1 + 1, o, none⟩) (by simp)
  have hf1 := fun o => hb1.frozen (p := ⟨w.heap.size + 1, o, none⟩) (by simp)
  have hf2 := fun o => hb1.frozen (p := ⟨w.heap.size + 1 + 1, o, none⟩) (by simp)
  obtain ⟨au, cu, rfl, -, -, -⟩ := hr.len
  have HR := Hid.mk hr
  have HB := Hid.mk hb1
  clear hr hb1 H1 HI
  go_wp2
  have f0 : (((((w1.setCell ⟨w.heap.size + 1 + 1, 3, none⟩ (.slice au l.length cu)).setCell ⟨w.heap.size + 1, 0, none⟩ (.int .i64 k)).setCell ⟨w.heap.size + 1, 1, none⟩ (.int .i64 n)).setCell ⟨w.heap.size + 1, 2, none⟩ (.string s)).setCell ⟨w.heap.size + 1, 3, none⟩ (.slice au l.length cu)).cell? ⟨w.heap.size + 1, 0, none⟩ = some (.int .i64 k) := by go_simp
  have f1 : (((((w1.setCell ⟨w.heap.size + 1 + 1, 3, none⟩ (.slice au l.length cu)).setCell ⟨w.heap.size + 1, 0, none⟩ (.int .i64 k)).setCell ⟨w.heap.size + 1, 1, none⟩ (.int .i64 n)).setCell ⟨w.heap.size + 1, 2, none⟩ (.string s)).setCell ⟨w.heap.size + 1, 3, none⟩ (.slice au l.length cu)).cell? ⟨w.heap.size + 1, 1, none⟩ = some (.int .i64 n) := by go_simp
  have f2 : (((((w1.setCell ⟨w.heap.size + 1 + 1, 3, none⟩ (.slice au l.length cu)).setCell ⟨w.heap.size + 1, 0, none⟩ (.int .i64 k)).setCell ⟨w.heap.size + 1, 1, none⟩ (.int .i64 n)).setCell ⟨w.heap.size + 1, 2, none⟩ (.string s)).setCell ⟨w.heap.size + 1, 3, none⟩ (.slice au l.length cu)).cell? ⟨w.heap.size + 1, 2, none⟩ = some (.string s) := by go_simp
  have f3 : (((((w1.setCell ⟨w.heap.size + 1 + 1, 3, none⟩ (.slice au l.length cu)).setCell ⟨w.heap.size + 1, 0, none⟩ (.int .i64 k)).setCell ⟨w.heap.size + 1, 1, none⟩ (.int .i64 n)).setCell ⟨w.heap.size + 1, 2, none⟩ (.string s)).setCell ⟨w.heap.size + 1, 3, none⟩ (.slice au l.length cu)).cell? ⟨w.heap.size + 1, 3, none⟩ = some (.slice au l.length cu) := by go_simp
  refine bodyPost_ret (v := xx k n s (.slice au l.length cu)) ?_ rfl ⟨_, rfl, ?_, ?_⟩
  · generalize (((((w1.setCell ⟨w.heap.size + 1 + 1, 3, none⟩ (.slice au l.length cu)).setCell ⟨w.heap.size + 1, 0, none⟩ (.int .i64 k)).setCell ⟨w.heap.size + 1, 1, none⟩ (.int .i64 n)).setCell ⟨w.heap.size + 1, 2, none⟩ (.string s)).setCell ⟨w.heap.size + 1, 3, none⟩ (.slice au l.length cu)) = W at f0 f1 f2 f3
    simp [results, Tryz.results22, go_sem, f0, f1, f2, f3]
  · exact (((((HR.out.nfset (by simp) _).nfset (by simp) _).nfset (by simp) _).nfset (by simp) _).nfset (by simp) _).imp (fun b hb _ => ⟨by have := hb.1; simp at this; omega, hb.2⟩)
  · exact (((((((Below.refl _ _).alloc (Nat.le_refl _) _).alloc (by simp) _).alloc (by simp; omega) _).trans (HB.out.mono (by simp; omega))).setCell (by simp; omega) _).setCell (by simp) _).setCell (by simp) _ |>.setCell (by simp) _ |>.setCell (by simp) _

/-- The first k of a row of expressions are laid. -/
def FilX (wr : World) (g : Nat) (e : TypeId) (l : List Ex) (k : Nat) : Prop :=
  ∃ (xs : List Value) (V : Nat → Value), wr.ownsRow g e 4 (.slice (some ⟨g, 0, none⟩) l.length l.length) l.length xs ∧
    ∀ i (h : i < l.length), i < k → (xs[i * 4]? = some (.int .i64 l[i].k) ∧ xs[i * 4 + 1]? = some (.int .i64 l[i].n) ∧ xs[i * 4 + 2]? = some (.string l[i].s) ∧ xs[i * 4 + 3]? = some (V i)) ∧ El wr (nf wr (g + 1)) l[i].l (V i)

theorem FilX.grow {w w' : World} {g : Nat} {e : TypeId} {l : List Ex} {k : Nat} (h : FilX w g e l k) (hk : Below w.heap.size w w') : FilX w' g e l k := by
  obtain ⟨xs, V, ho, hr⟩ := h
  exact ⟨xs, V, own_grow ho hk, fun i h1 h2 => ⟨(hr i h1 h2).1, (hr i h1 h2).2.nfgrow hk⟩⟩

theorem FilX.step {w : World} {g : Nat} {e : TypeId} {l : List Ex} {k : Nat} (h : FilX w g e l k) (hk : k < l.length) {u : Value} (hu : El w (nf w (g + 1)) l[k].l u) :
    FilX ((((w.setCell ⟨g, k * 4, none⟩ (.int .i64 l[k].k)).setCell ⟨g, k * 4 + 1, none⟩ (.int .i64 l[k].n)).setCell ⟨g, k * 4 + 2, none⟩ (.string l[k].s)).setCell ⟨g, k * 4 + 3, none⟩ u) g e l (k + 1) := by
  obtain ⟨xs, V, ho, hr⟩ := h
  have o1 := (ho.stored (k * 4) (.int .i64 l[k].k)).1
  have o2 := (o1.stored (k * 4 + 1) (.int .i64 l[k].n)).1
  have o3 := (o2.stored (k * 4 + 2) (.string l[k].s)).1
  have o4 := (o3.stored (k * 4 + 3) u).1
  have hl : xs.length = l.length * 4 := ho.1
  refine ⟨_, fun i => if i = k then u else V i, o4, fun i hi hik => ?_⟩
  have hn : g < g + 1 := by omega
  by_cases he : i = k
  · subst he
    refine ⟨⟨?_, ?_, ?_, ?_⟩, ?_⟩
    · rw [List.getElem?_set_ne (by omega), List.getElem?_set_ne (by omega), List.getElem?_set_ne (by omega), List.getElem?_set_self (by omega)]
    · rw [List.getElem?_set_ne (by omega), List.getElem?_set_ne (by omega), List.getElem?_set_self (by simp; omega)]
    · rw [List.getElem?_set_ne (by omega), List.getElem?_set_self (by simp; omega)]
    · rw [List.getElem?_set_self (by simp; omega)]; show some u = some (if i = i then u else V i); rw [if_pos rfl]
    · show El _ _ _ (if i = i then u else V i)
      rw [if_pos rfl]
      exact (((hu.nfset hn _).nfset hn _).nfset hn _).nfset hn _
  · obtain ⟨⟨x0, xn, x1, x2⟩, x3⟩ := hr i hi (by omega)
    refine ⟨⟨?_, ?_, ?_, ?_⟩, ?_⟩
    · rw [List.getElem?_set_ne (by omega), List.getElem?_set_ne (by omega), List.getElem?_set_ne (by omega), List.getElem?_set_ne (by omega)]; exact x0
    · rw [List.getElem?_set_ne (by omega), List.getElem?_set_ne (by omega), List.getElem?_set_ne (by omega), List.getElem?_set_ne (by omega)]; exact xn
    · rw [List.getElem?_set_ne (by omega), List.getElem?_set_ne (by omega), List.getElem?_set_ne (by omega), List.getElem?_set_ne (by omega)]; exact x1
    · rw [List.getElem?_set_ne (by omega), List.getElem?_set_ne (by omega), List.getElem?_set_ne (by omega), List.getElem?_set_ne (by omega)]; show xs[i * 4 + 3]? = some (if i = k then u else V i); rw [if_neg he]; exact x2
    · show El _ _ _ (if i = k then u else V i)
      rw [if_neg he]
      exact (((x3.nfset hn _).nfset hn _).nfset hn _).nfset hn _

theorem FilX.rl {w : World} {g : Nat} {e : TypeId} {l : List Ex} (h : FilX w g e l l.length) (hm : l.length ≤ maxLen) (hs : ∀ i (h : i < l.length), l[i].s.size ≤ maxLen) :
    El w (nf w g) l (.slice (some ⟨g, 0, none⟩) l.length l.length) := by
  obtain ⟨xs, V, ho, hr⟩ := h
  by_cases hl : l = []
  · subst hl
    exact .empty _ _ (by simp) fun h => by cases h
  · refine .full l g 0 l.length V ⟨Nat.le_refl _, fun o => ho.frozenAt o⟩ hl (Nat.le_refl _) hm hs (fun i hi => ?_) fun i hi => (hr i hi hi).2.imp fun b hb _ => ⟨by have := hb.1; omega, hb.2⟩
    obtain ⟨⟨x0, xn, x1, x2⟩, _⟩ := hr i hi hi
    rw [Nat.zero_add]
    exact ⟨by rw [ho.cellAt _ (by omega), x0], by rw [ho.cellAt _ (by omega), xn], by rw [ho.cellAt _ (by omega), x1], by rw [ho.cellAt _ (by omega), x2]⟩

theorem infoExpr : (Tryz.prog.info? 46).map (fun i => (i.zero, i.size, i.bytes)) = some (some (xx 0 0 ⟨#[]⟩ (.slice none 0 0)), 4, 56) := by kernel_rfl

theorem szx_sub (l : List Ex) (k : Nat) (h : k < l.length) : szx l[k].l ≤ szx l := by
  have := szx_take l k h
  have := szx_take_le l (k + 1)
  have := l[k].sz_eq
  omega

theorem toExprS_step (l : List Ex) (ih : ∀ x ∈ l, ToX x.l) : ToX l := by
  intro B v w h hsz
  have hS : l ≠ [] → ∀ i (h : i < l.length), l[i].s.size ≤ maxLen := by
    intro hl i hi
    obtain ⟨ao, cap, rfl, -⟩ := h.len
    obtain ⟨_, _, _, _, hel⟩ := h.elems hl
    exact (hel i hi).2.2
  obtain ⟨ao, cap, rfl, hl1, hl2, hl3⟩ := h.len
  have hlen := szx_length l
  obtain ⟨i0, hi, hz0, hz1, hz2⟩ := info_parts infoExpr
  have HI := Hid.mk ih
  have HH := Hid.mk h
  have HS := Hid.mk hS
  have hln : l.length ≤ 1048576 := by omega
  clear ih h hl2 hS
  go_enter Tryz.func30, Tryz.ntmps30
  go_wp2_with (at_make; refine wpList_make_full _ rfl _ _ 28 rfl w.heap.size 46 i0 _ 4 Tryz.underlying28 hi hz0 hz1 _ _ _ _ l.length rfl rfl rfl rfl (by rw [hz2]; omega) (by unfold maxLen; omega) (by simp) ?_)
  intro w1 hown hgrow
  have hbel : Below w.heap.size w w1 := (Below.refl _ _).grown hgrow (Nat.le_refl _) (by simp)
  have hg1 : w.heap.size < w1.heap.size := (World.ownsRow.lt hown _ rfl).2
  have HF : FilX w1 w.heap.size 46 l 0 := ⟨_, fun _ => .bool true, hown, fun i _ h => absurd h (Nat.not_lt_zero i)⟩
  clear hgrow hown hi hz0 hz1 hz2
  go_wp2
  go_loopw [4] (fun i wr => ∃ (k : Nat), k ≤ l.length ∧ i = .int .i64 k ∧ Hid (FilX wr w.heap.size 46 l k) ∧ Below w.heap.size w wr ∧ w.heap.size < wr.heap.size) (fun i _ => l.length - (intOf i).toNat)
  case atStart => exact ⟨0, Nat.zero_le _, rfl, HF, hbel, hg1⟩
  case round =>
    obtain ⟨k, hk, rfl, HFr, hbelr, hgr⟩ := hrel
    clear HF hbel hg1
    by_cases hkl : k < l.length
    · obtain ⟨b, off, V, rfl, hel⟩ := HH.out.elems (by intro hn; rw [hn] at hkl; simp at hkl)
      obtain ⟨h3, hsub, hss⟩ := hel k hkl
      have hto : ToX l[k].l := HI.out _ (List.getElem_mem hkl)
      have hsk := szx_sub l k hkl
      have HST := Hid.mk (fun (w2 : World) (u : Value) (h1 : FilX w2 w.heap.size 46 l k) (h2 : El w2 (nf w2 (w.heap.size + 1)) l[k].l u) => h1.step hkl h2)
      obtain ⟨t, ht⟩ : ∃ t, l[k] = t := ⟨_, rfl⟩
      rw [ht] at h3 hsub hss hto hsk HST
      clear ht hel
      obtain ⟨c0, cn, c1, c2⟩ := h3.kept (w' := wr) (hbelr.block b (World.block_lt_of_cell? w _ h3.1))
      have HC := Hid.mk (toExpr_of t hto B (V k) wr (hsub.grow hbelr) (by omega))
      have hi1 : (k : Int) < (l.length : Int) := by omega
      clear hsub hss hto h3 HI HH
      go_wp2_with fail
      refine HC.out.mono ?_
      rintro e w2 ⟨u, rfl, hr, hb2⟩
      have HF2 := HFr.out.grow hb2
      have H3 := Hid.mk (HST.out w2 u HF2 (hr.imp fun b hb _ => ⟨by have := hb.1; omega, hb.2⟩))
      have B2 := hbelr.trans (hb2.mono hbelr.size)
      have hg2 : w.heap.size < w2.heap.size := Nat.lt_of_lt_of_le hgr hb2.size
      obtain ⟨xs, V', hown2, -⟩ := HF2
      have f0 := hown2.frozenAt (k * 4)
      have f1 := hown2.frozenAt (k * 4 + 1)
      have f2 := hown2.frozenAt (k * 4 + 2)
      have f3 := hown2.frozenAt (k * 4 + 3)
      have hxl : xs.length = l.length * 4 := hown2.1
      have o0 := hown2.cellAt (k * 4) (by omega)
      have o1 := hown2.cellAt (k * 4 + 1) (by omega)
      have o2 := hown2.cellAt (k * 4 + 2) (by omega)
      have o3 := hown2.cellAt (k * 4 + 3) (by omega)
      obtain ⟨y0, e0⟩ : ∃ y, xs[k * 4]? = some y := ⟨_, List.getElem?_eq_getElem (by omega)⟩
      obtain ⟨y1, e1⟩ : ∃ y, xs[k * 4 + 1]? = some y := ⟨_, List.getElem?_eq_getElem (by omega)⟩
      obtain ⟨y2, e2⟩ : ∃ y, xs[k * 4 + 2]? = some y := ⟨_, List.getElem?_eq_getElem (by omega)⟩
      obtain ⟨y3, e3⟩ : ∃ y, xs[k * 4 + 3]? = some y := ⟨_, List.getElem?_eq_getElem (by omega)⟩
      rw [e0] at o0
      rw [e1] at o1
      rw [e2] at o2
      rw [e3] at o3
      clear e0 e1 e2 e3
      obtain ⟨au, cu, rfl, -, -, -⟩ := hr.len
      have hk0 : 0 < l.length := by omega
      clear hown2 HFr HC HST hb2 hbelr hr c0 c1 c2 hxl
      go_wp2
      go_roundw
      case rel => exact ⟨k + 1, by omega, by go_num, H3, (((B2.setCell (Nat.le_refl _) _).setCell (Nat.le_refl _) _).setCell (Nat.le_refl _) _).setCell (Nat.le_refl _) _, by simpa using hg2⟩
      case measure => simp [intOf]; omega
    · have e : k = l.length := by omega
      subst e
      have HR := Hid.mk (fun hS => HFr.out.rl (by unfold maxLen; omega) hS)
      have HR2 : Hid (El wr (nf wr w.heap.size) l (.slice (some ⟨w.heap.size, 0, none⟩) l.length l.length)) := HR.out (by
        intro i hi
        exact HS.out (by intro hn; rw [hn] at hi; simp at hi) i hi)
      clear HR HFr HS HI HH
      go_wp2
      go_ret
      exact ⟨_, rfl, HR2.out, hbelr⟩

theorem toExprS_any (l : List Ex) : ToX l := (Ex.ind (P := fun t => ToX t.l) (fun t ih => toExprS_step t.l ih) (.node 0 0 ⟨#[]⟩ l))
theorem toExprF_any (t : Ex) (B : Nat → Prop) (v : Value) (w : World) (h : El w B t.l v) (hs : szx t.l ≤ 1048576) :
    Calls Tryz.prog 22 #[xx t.k t.n t.s v] w fun e w' => ∃ u, e = .returned (xx t.k t.n t.s u) ∧ El w' (nf w' (w.heap.size + 1)) t.l u ∧ Below w.heap.size w w' := toExpr_of t (toExprS_any t.l) B v w h hs
theorem toExpr_any (t : Ex) (B : Nat → Prop) (v : Value) (w : World) (h : El w B t.l v) (hs : szx t.l ≤ 1048576) :
    Calls Tryz.prog 22 #[xx t.k t.n t.s v] w fun e w' => ∃ u, e = .returned (xx t.k t.n t.s u) ∧ El w' (newFrom (w.heap.size + 1)) t.l u ∧ Below w.heap.size w w' := by
  refine (toExprF_any t B v w h hs).mono ?_
  rintro e w' ⟨u, rfl, hr, hb⟩
  exact ⟨u, rfl, hr.imp fun b hb _ => hb.1, hb⟩
end Go.Proofs.YtbbhikbdbndefaaGreat
