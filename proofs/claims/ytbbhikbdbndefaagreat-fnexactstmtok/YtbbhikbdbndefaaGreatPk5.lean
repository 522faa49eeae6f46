/- The small functions of the laws over statements: how great one is, a copy of it, in new blocks. Rows of statements of the call's own: what they read, append onto one. Two lists of statements, one behind the other: the library's Grow and Concat at them, and the program's stmtParts. How much room a statement leaves: the program's roomLeft over statements, its StmtOk. Whether two terms are the same, by the laws' own function: two that read the same tree are. Whether two statements are the same, by the laws' own function: two that read the same tree are. A struct of six fields among the arguments, opened. How great the texts within a term are, against the term. The law FnExactStmtOk walked: at every statement the program's StmtOk answers what the document's model of it answers. -/
import Derived.Test.YtbbhikbdbndefaaGreatStTree
import Derived.Test.YtbbhikbdbndefaaGreatPk4
import Derived.Maps.AppendAt
import Derived.Laws.AppendOwnNone
import Derived.Lib.AppendZeros
import Derived.Test.YtbbhikbdbndefaaGreatStOkM
import Derived.Lib.QuietBelow
import Derived.WalkKit
import Derived.ProofKit
import Derived.OpenShut
import Derived.ChangeOld
namespace Go.Proofs.YtbbhikbdbndefaaGreat
open Go.RowKit
set_option maxRecDepth 8000

mutual
def St.sz : St → Nat
  | .node _ s t x a b => s.size + t.size + szx x + szy a + szy b
def szy : List St → Nat
  | [] => 0
  | t :: r => 1 + t.sz + szy r
end

theorem St.sz_eq (t : St) : t.sz = t.s.size + t.t.size + szx t.x + szy t.a + szy t.b := by cases t; rw [St.sz]; rfl
theorem szy_take (l : List St) (k : Nat) (h : k < l.length) : szy (l.take (k + 1)) = szy (l.take k) + 1 + l[k].sz := by
  induction l generalizing k with
  | nil => simp at h
  | cons t r ih =>
    cases k with
    | zero => simp [szy]
    | succ k =>
      have := ih k (by simpa using h)
      simp only [List.take_succ_cons, szy, List.getElem_cons_succ]
      omega
theorem szy_take_le (l : List St) (k : Nat) : szy (l.take k) ≤ szy l := by
  induction l generalizing k with
  | nil => simp
  | cons t r ih =>
    cases k with
    | zero => simp [szy]
    | succ k => have := ih k; simp only [List.take_succ_cons, szy]; omega
theorem szy_length (l : List St) : l.length ≤ szy l := by
  induction l with
  | nil => simp
  | cons t r ih => simp only [List.length_cons, szy]; omega
theorem szy_take_length (l : List St) (k : Nat) (h : k ≤ l.length) : szy (l.take k) + (l.length - k) ≤ szy l := by
  induction l generalizing k with
  | nil => simp
  | cons t r ih =>
    cases k with
    | zero => have := szy_length (t :: r); simpa [szy] using this
    | succ k => have := ih k (by simpa using h); simp only [List.take_succ_cons, szy, List.length_cons]; omega
theorem szy_mem {y : St} {l : List St} (h : y ∈ l) : y.sz + 1 ≤ szy l := by
  induction l with
  | nil => cases h
  | cons t r ih =>
    rw [szy]
    rcases List.mem_cons.1 h with rfl | h
    · omega
    · have := ih h; omega

def SzY (l : List St) : Prop := ∀ (B : Nat → Prop) (v : Value) (w : World) (left : Int), Sl w B l v → 0 ≤ left → left ≤ 1048576 →
  Calls Tryz.prog 15 #[v, .int .i64 left] w fun e w' => e = .returned (.int .i64 (leftOf left (szy l))) ∧ Below w.heap.size w w'

set_option maxHeartbeats 1000000 in
theorem szStmt_of (t : St) (iha : SzY t.a) (ihb : SzY t.b) (B : Nat → Prop) (vx va vb : Value) (w : World) (left : Int) (hx : El w B t.x vx) (ha : Sl w B t.a va) (hb : Sl w B t.b vb) (hs : t.s.size ≤ maxLen) (ht : t.t.size ≤ maxLen) (h0 : 0 ≤ left) (h1 : left ≤ 1048576) :
    Calls Tryz.prog 8 #[st t.k t.s t.t vx va vb, .int .i64 left] w fun e w' => e = .returned (.int .i64 (leftOf left t.sz)) ∧ Below w.heap.size w w' := by
  have HE := Hid.mk t.sz_eq
  obtain ⟨k, hk⟩ : ∃ k, t.k = k := ⟨_, rfl⟩
  obtain ⟨s, hsn⟩ : ∃ s, t.s = s := ⟨_, rfl⟩
  obtain ⟨u, hun⟩ : ∃ u, t.t = u := ⟨_, rfl⟩
  obtain ⟨x, hxn⟩ : ∃ x, t.x = x := ⟨_, rfl⟩
  obtain ⟨a, han⟩ : ∃ a, t.a = a := ⟨_, rfl⟩
  obtain ⟨b, hbn⟩ : ∃ b, t.b = b := ⟨_, rfl⟩
  obtain ⟨z, hz⟩ : ∃ z, t.sz = z := ⟨_, rfl⟩
  rw [hk, hsn, hun, hz]
  rw [hsn] at hs
  rw [hun] at ht
  rw [hxn] at hx
  rw [han] at ha iha
  rw [hbn] at hb ihb
  rw [hsn, hun, hxn, han, hbn, hz] at HE
  clear hk hsn hun hxn han hbn hz
  unfold maxLen at hs ht
  have B0 : Below w.heap.size w (w.alloc (.cells #[.int .i64 k, .string s, .string u, vx, va, vb] 25)) := (Below.refl _ _).alloc (Nat.le_refl _) _
  obtain ⟨xo, xcap, rfl, -, -, -⟩ := hx.len
  obtain ⟨ao, acap, rfl, -, -, -⟩ := ha.len
  obtain ⟨bo, bcap, rfl, -, -, -⟩ := hb.len
  by_cases hlt : left < s.size
  · have hh : left - (s.size : Int) < 0 := by omega
    have HR : Hid (leftOf left z = -1) := by show _ = _; unfold leftOf; have := HE.out; rw [if_pos (by omega)]
    clear HE
    go_enter Tryz.func8, Tryz.ntmps8
    go_wp2
    go_ret
    exact ⟨ret_int' HR.out.symm, B0⟩
  by_cases hlu : left - (s.size : Int) < u.size
  · have hh : ¬ left - (s.size : Int) < 0 := by omega
    have hh2 : left - (s.size : Int) - (u.size : Int) < 0 := by omega
    have HR : Hid (leftOf left z = -1) := by show _ = _; unfold leftOf; have := HE.out; rw [if_pos (by omega)]
    clear HE
    go_enter Tryz.func8, Tryz.ntmps8
    go_wp2
    go_ret
    exact ⟨ret_int' HR.out.symm, B0⟩
  have hh : ¬ left - (s.size : Int) < 0 := by omega
  have hh2 : ¬ left - (s.size : Int) - (u.size : Int) < 0 := by omega
  obtain ⟨d, hd⟩ : ∃ d, left - (s.size : Int) - (u.size : Int) = d := ⟨_, rfl⟩
  have Hd : Hid (left - (s.size : Int) - (u.size : Int) = d) := hd
  have hd0 : 0 ≤ d := by omega
  have hdm : d ≤ 1048576 := by omega
  obtain ⟨m1, Hm1⟩ : ∃ m, Hid (leftOf d (szx x) = m) := ⟨_, rfl⟩
  obtain ⟨m2, Hm2⟩ : ∃ m, Hid (leftOf m1 (szy a) = m) := ⟨_, rfl⟩
  obtain ⟨m3, Hm3⟩ : ∃ m, Hid (leftOf m2 (szy b) = m) := ⟨_, rfl⟩
  have HX := Hid.mk (fun (w' : World) (hb' : Below w.heap.size w w') => szExprS_any x B _ w' d (hx.grow hb') hd0 hdm)
  have HA := Hid.mk (fun (w' : World) (hb' : Below w.heap.size w w') (c0 : 0 ≤ m1) (c1 : m1 ≤ 1048576) => iha B _ w' m1 (ha.grow hb') c0 c1)
  have HB := Hid.mk (fun (w' : World) (hb' : Below w.heap.size w w') (c0 : 0 ≤ m2) (c1 : m2 ≤ 1048576) => ihb B _ w' m2 (hb.grow hb') c0 c1)
  rw [Hm1.out] at HX
  rw [Hm2.out] at HA
  rw [Hm3.out] at HB
  clear hx ha hb iha ihb
  rw [← hd] at HX
  clear hd hlt hlu
  go_enter Tryz.func8, Tryz.ntmps8
  go_wp2_with fail
  refine (HX.out _ B0).mono ?_
  rintro e w1 ⟨rfl, hb1⟩
  have B1 := B0.trans (hb1.mono (by simp))
  have hc1 := fun o => hb1.cell (p := ⟨w.heap.size, o, none⟩) (by simp)
  have hs1 := hb1.size
  simp at hs1
  clear B0 hb1 HX
  by_cases hm1 : m1 < 0
  · have HR : Hid (m1 = -1 ∧ leftOf left z = -1) := by
      show _ ∧ _
      have e1 := Hm1.out
      have e2 := HE.out
      have e3 := Hd.out
      unfold leftOf at e1 ⊢
      split at e1 <;> split <;> omega
    clear HE Hm1 Hm2 Hm3 Hd HA HB
    go_wp2
    go_ret
    exact ⟨ret_int' HR.out.2.symm, B1⟩
  have c0 : 0 ≤ m1 := by omega
  have c1 : m1 ≤ d := by have e1 := Hm1.out; unfold leftOf at e1; split at e1 <;> omega
  go_wp2_with fail
  refine (HA.out _ B1 c0 (by omega)).mono ?_
  rintro e w2 ⟨rfl, hb2⟩
  have B2 := B1.trans (hb2.mono (by omega))
  have hc2 : ∀ o, w2.cell? ⟨w.heap.size, o, none⟩ = w1.cell? ⟨w.heap.size, o, none⟩ := fun o => hb2.cell (p := ⟨w.heap.size, o, none⟩) (by simp; omega)
  have hs2 := Nat.le_trans hs1 hb2.size
  clear B1 hb2 HA
  by_cases hm2 : m2 < 0
  · have HR : Hid (m2 = -1 ∧ leftOf left z = -1) := by
      show _ ∧ _
      have e1 := Hm1.out
      have e2 := HE.out
      have e3 := Hd.out
      have e4 := Hm2.out
      unfold leftOf at e1 e4 ⊢
      split at e1 <;> split at e4 <;> split <;> omega
    clear HE Hm1 Hm2 Hm3 Hd HB
    go_wp2
    go_ret
    exact ⟨ret_int' HR.out.2.symm, B2⟩
  have d0 : 0 ≤ m2 := by omega
  have d2 : m2 ≤ m1 := by have e1 := Hm2.out; unfold leftOf at e1; split at e1 <;> omega
  go_wp2_with fail
  refine (HB.out _ B2 d0 (by omega)).mono ?_
  rintro e w3 ⟨rfl, hb3⟩
  have B3 := B2.trans (hb3.mono (by omega))
  clear B2 hb3 HB
  have HR : Hid ((m3 < 0 → leftOf left z = -1) ∧ (¬ m3 < 0 → leftOf left z = m3)) := by
    show _ ∧ _
    have e1 := Hm1.out
    have e2 := HE.out
    have e3 := Hd.out
    have e4 := Hm2.out
    have e5 := Hm3.out
    unfold leftOf at e1 e4 e5 ⊢
    split at e1 <;> split at e4 <;> split at e5 <;> split <;> constructor <;> omega
  clear HE Hm1 Hm2 Hm3 Hd
  by_cases hm3 : m3 < 0
  · go_wp2
    go_ret
    exact ⟨ret_int' (HR.out.1 hm3).symm, B3⟩
  · go_wp2
    go_ret
    exact ⟨ret_int' (HR.out.2 hm3).symm, B3⟩

theorem szStmtS_step (l : List St) (ih : ∀ x ∈ l, SzY x.a ∧ SzY x.b) : SzY l := by
  intro B v w left h h0 h1
  obtain ⟨ao, cap, rfl, hl1, hl2, hl3⟩ := h.len
  have hm : cap ≤ 9223372036854775807 := by unfold maxLen at hl2; omega
  have hlen := szy_length l
  by_cases hlt : left < l.length
  · have hh : left - (l.length : Int) < 0 := by omega
    have HR : Hid (leftOf left (szy l) = -1) := by show _ = _; unfold leftOf; rw [if_pos (by omega)]
    clear h ih hl2 hlen
    go_enter Tryz.func15, Tryz.ntmps15
    go_wp2
    go_ret
    exact ⟨ret_int' HR.out.symm, Below.refl _ _⟩
  · have hh : ¬ left - (l.length : Int) < 0 := by omega
    have HI := Hid.mk ih
    have HH := Hid.mk h
    have HL := Hid.mk hlen
    clear ih h hl2 hlen
    go_enter Tryz.func15, Tryz.ntmps15
    go_wp2
    go_loopw [1, 5] (fun q i wr => ∃ (k : Nat) (r : Int), k ≤ l.length ∧ i = .int .i64 k ∧ q = .int .i64 r ∧ 0 ≤ r ∧ r ≤ 1048576 ∧ Hid (r = left - (l.length : Int) - (szy (l.take k) : Int) + (k : Int)) ∧ Below w.heap.size w wr) (fun _ i _ => l.length - (intOf i).toNat)
    case atStart => exact ⟨0, left - (l.length : Int), Nat.zero_le _, rfl, rfl, by omega, by omega, by show _ = _; simp [szy], Below.refl _ _⟩
    case round =>
      obtain ⟨k, r, hk, rfl, rfl, r0, r1, Hr, hbel⟩ := hrel
      by_cases hkl : k < l.length
      · obtain ⟨b, off, X, Y, Z, rfl, hel⟩ := HH.out.elems (by intro hn; rw [hn] at hkl; simp at hkl)
        obtain ⟨h3, hx, ha, hz, hss, htt⟩ := hel k hkl
        have HE := Hid.mk (szy_take l k hkl)
        have HT := Hid.mk (szy_take_le l (k + 1))
        have HZ := Hid.mk (szy_take_length l (k + 1) hkl)
        have hsz := HI.out _ (List.getElem_mem hkl)
        obtain ⟨t, ht⟩ : ∃ t, l[k] = t := ⟨_, rfl⟩
        rw [ht] at h3 hx ha hz hss htt HE hsz
        clear ht hel
        obtain ⟨c0, c1, c2, c3, c4, c5⟩ := h3.kept (w' := wr) (hbel.block b (World.block_lt_of_cell? w _ h3.1))
        have HC := Hid.mk (szStmt_of t hsz.1 hsz.2 B (X k) (Y k) (Z k) wr r (hx.grow hbel) (ha.grow hbel) (hz.grow hbel) hss htt r0 r1)
        have hi1 : (k : Int) < (l.length : Int) := by omega
        obtain ⟨m, Hm⟩ : ∃ m, Hid (leftOf r t.sz = m) := ⟨_, rfl⟩
        rw [Hm.out] at HC
        clear hx ha hz hss htt hsz h3
        by_cases hm : m < 0
        · have HR : Hid (leftOf left (szy l) = -1) := by
            show _ = _
            have e1 := Hm.out
            have e2 := Hr.out
            have e3 := HE.out
            have e5 := HZ.out
            unfold leftOf at e1 ⊢
            split at e1 <;> split <;> omega
          clear HE HT Hr Hm HZ
          go_wp2_with fail
          refine HC.out.mono ?_
          rintro e w1 ⟨rfl, hb1⟩
          have B1 := hbel.trans (hb1.mono hbel.size)
          clear hb1 HC
          go_wp2
          go_ret
          exact ⟨ret_int' HR.out.symm, B1⟩
        · have HR : Hid (m = left - (l.length : Int) - (szy (l.take (k + 1)) : Int) + ((k + 1 : Nat) : Int)) := by
            show _ = _
            have e1 := Hm.out
            have e2 := Hr.out
            have e3 := HE.out
            unfold leftOf at e1
            split at e1 <;> omega
          have hm1 : m ≤ 1048576 := by
            have e1 := Hm.out
            unfold leftOf at e1
            split at e1 <;> omega
          clear HE HT Hr Hm HZ
          go_wp2_with fail
          refine HC.out.mono ?_
          rintro e w1 ⟨rfl, hb1⟩
          have B1 := hbel.trans (hb1.mono hbel.size)
          clear hb1 HC
          go_wp2
          go_roundw
          case rel => exact ⟨k + 1, m, by omega, by go_num, rfl, by omega, hm1, HR, B1⟩
          case measure => simp [intOf]; omega
      · have e : k = l.length := by omega
        subst e
        have HR : Hid (r = leftOf left (szy l)) := by
          show _ = _
          have e2 := Hr.out
          rw [List.take_length] at e2
          unfold leftOf
          split <;> omega
        clear Hr
        go_wp2
        go_ret
        exact ⟨ret_int' HR.out, hbel⟩

theorem szStmtS_any (l : List St) : SzY l := (St.ind (P := fun t => SzY t.a ∧ SzY t.b) (fun t iha ihb => ⟨szStmtS_step t.a iha, szStmtS_step t.b ihb⟩) (.node 0 ⟨#[]⟩ ⟨#[]⟩ [] l [])).1

theorem szStmt_any (t : St) (B : Nat → Prop) (vx va vb : Value) (w : World) (left : Int) (hx : El w B t.x vx) (ha : Sl w B t.a va) (hb : Sl w B t.b vb) (hs : t.s.size ≤ maxLen) (ht : t.t.size ≤ maxLen) (h0 : 0 ≤ left) (h1 : left ≤ 1048576) :
    Calls Tryz.prog 8 #[st t.k t.s t.t vx va vb, .int .i64 left] w fun e w' => e = .returned (.int .i64 (leftOf left t.sz)) ∧ Below w.heap.size w w' :=
  szStmt_of t (szStmtS_any t.a) (szStmtS_any t.b) B vx va vb w left hx ha hb hs ht h0 h1
end Go.Proofs.YtbbhikbdbndefaaGreat

namespace Go.Proofs.YtbbhikbdbndefaaGreat
open Go.RowKit
set_option maxRecDepth 8000

theorem Sl.nfgrow {w w' : World} {n : Nat} {l : List St} {v : Value} (h : Sl w (nf w n) l v) (hk : Below w.heap.size w w') : Sl w' (nf w' n) l v :=
  (h.imp (C := nf w' n) fun b hb hlt => ⟨hb.1, fun o => by rw [hk.frozen (p := ⟨b, o, none⟩) hlt]; exact hb.2 o⟩).grow hk

theorem Sl.nfset {w : World} {n : Nat} {l : List St} {v : Value} (h : Sl w (nf w n) l v) {a : Addr} (ha : a.block < n) (u : Value) : Sl (w.setCell a u) (nf (w.setCell a u) n) l v :=
  (h.setCell (fun hb => by have := hb.1; omega) u).imp fun b hb _ => ⟨hb.1, fun o => by rw [World.frozen?_setCell]; exact hb.2 o⟩

def ToY (l : List St) : Prop := ∀ (B : Nat → Prop) (v : Value) (w : World), Sl w B l v → szy l ≤ 1048576 →
  Calls Tryz.prog 17 #[v] w fun e w' => ∃ u, e = .returned u ∧ Sl w' (nf w' w.heap.size) l u ∧ Below w.heap.size w w'

set_option maxHeartbeats 1000000 in
theorem toStmt_of (t : St) (iha : ToY t.a) (ihb : ToY t.b) (B : Nat → Prop) (vx va vb : Value) (w : World) (hx : El w B t.x vx) (ha : Sl w B t.a va) (hb : Sl w B t.b vb) (hs : t.sz ≤ 1048576) :
    Calls Tryz.prog 10 #[st t.k t.s t.t vx va vb] w fun e w' => ∃ ux ua ub, e = .returned (st t.k t.s t.t ux ua ub) ∧ El w' (nf w' (w.heap.size + 1)) t.x ux ∧ Sl w' (nf w' (w.heap.size + 1)) t.a ua ∧ Sl w' (nf w' (w.heap.size + 1)) t.b ub ∧ Below w.heap.size w w' := by
  have hsz := t.sz_eq
  obtain ⟨k, hk⟩ : ∃ k, t.k = k := ⟨_, rfl⟩
  obtain ⟨s, hsn⟩ : ∃ s, t.s = s := ⟨_, rfl⟩
  obtain ⟨u, hun⟩ : ∃ u, t.t = u := ⟨_, rfl⟩
  obtain ⟨x, hxn⟩ : ∃ x, t.x = x := ⟨_, rfl⟩
  obtain ⟨a, han⟩ : ∃ a, t.a = a := ⟨_, rfl⟩
  obtain ⟨b, hbn⟩ : ∃ b, t.b = b := ⟨_, rfl⟩
  rw [hk, hsn, hun, hxn, han, hbn]
  rw [hxn] at hx
  rw [han] at ha iha
  rw [hbn] at hb ihb
  rw [hsn, hun, hxn, han, hbn] at hsz
  have HX := Hid.mk (fun (w' : World) (hb' : Below w.heap.size w w') => toExprS_any x B _ w' (hx.grow hb') (by omega))
  have HA := Hid.mk (fun (w' : World) (hb' : Below w.heap.size w w') => iha B _ w' (ha.grow hb') (by omega))
  have HB := Hid.mk (fun (w' : World) (hb' : Below w.heap.size w w') => ihb B _ w' (hb.grow hb') (by omega))
  obtain ⟨xo, xcap, rfl, -, -, -⟩ := hx.len
  obtain ⟨ao, acap, rfl, -, -, -⟩ := ha.len
  obtain ⟨bo, bcap, rfl, -, -, -⟩ := hb.len
  clear hk hsn hun hxn han hbn hsz hs hx ha hb iha ihb
  go_enter Tryz.func10, Tryz.ntmps10
  go_wp2_with fail
  refine (HX.out _ ?_).mono ?_
  · exact ((((Below.refl _ _).alloc (Nat.le_refl _) _).alloc (by simp) _).alloc (by simp <;> omega) _)
  rintro e w1 ⟨ux, rfl, hrx, hb1⟩
  have ha1 := fun o => hb1.cell (p := ⟨w.heap.size, o, none⟩) (by simp <;> omega)
  have hc1 := fun o => hb1.cell (p := ⟨w.heap.size + 1, o, none⟩) (by simp)
  have hd1 := fun o => hb1.cell (p := ⟨w.heap.size + 1 + 1, o, none⟩) (by simp)
  have hf1 := fun o => hb1.frozen (p := ⟨w.heap.size + 1, o, none⟩) (by simp)
  have hg1 := fun o => hb1.frozen (p := ⟨w.heap.size + 1 + 1, o, none⟩) (by simp)
  obtain ⟨xa, xc, rfl, -, -, -⟩ := hrx.len
  have s1 : w.heap.size + 3 ≤ w1.heap.size := by have := hb1.size; simp at this; omega
  have B1 : Hid (Below w.heap.size w w1) := ((((Below.refl _ _).alloc (Nat.le_refl _) _).alloc (by simp) _).alloc (by simp <;> omega) _).trans (hb1.mono (by simp <;> omega))
  have HRX := Hid.mk (hrx.imp (C := nf w1 (w.heap.size + 3)) fun b hb _ => ⟨by have := hb.1; simp at this; omega, hb.2⟩)
  clear hrx hb1 HX
  go_wp2_with fail
  refine (HA.out _ (B1.out.setCell (by simp <;> omega) _)).mono ?_
  rintro e w2 ⟨ua, rfl, hra, hb2⟩
  have ha2 := fun o => hb2.cell (p := ⟨w.heap.size, o, none⟩) (by simp <;> omega)
  have hc2 := fun o => hb2.cell (p := ⟨w.heap.size + 1, o, none⟩) (by simp <;> omega)
  have hd2 := fun o => hb2.cell (p := ⟨w.heap.size + 1 + 1, o, none⟩) (by simp <;> omega)
  have hf2 := fun o => hb2.frozen (p := ⟨w.heap.size + 1, o, none⟩) (by simp <;> omega)
  have hg2 := fun o => hb2.frozen (p := ⟨w.heap.size + 1 + 1, o, none⟩) (by simp <;> omega)
  obtain ⟨aa, ac, rfl, -, -, -⟩ := hra.len
  have s2 : w.heap.size + 3 ≤ w2.heap.size := by have := hb2.size; simp at this; omega
  have B2 : Hid (Below w.heap.size w w2) := (B1.out.setCell (by simp <;> omega) _).trans (hb2.mono (by simp <;> omega))
  have HRX2 := Hid.mk ((HRX.out.nfset (a := ⟨w.heap.size + 1 + 1, 3, none⟩) (by simp <;> omega) (.slice xa x.length xc)).nfgrow hb2)
  have HRA := Hid.mk (hra.imp (C := nf w2 (w.heap.size + 3)) fun b hb _ => ⟨by have := hb.1; simp at this; omega, hb.2⟩)
  clear hra hb2 HA HRX B1
  go_wp2_with fail
  refine (HB.out _ (B2.out.setCell (by simp <;> omega) _)).mono ?_
  rintro e w3 ⟨ub, rfl, hrb, hb3⟩
  have hc3 := fun o => hb3.cell (p := ⟨w.heap.size + 1, o, none⟩) (by simp <;> omega)
  have hd3 := fun o => hb3.cell (p := ⟨w.heap.size + 1 + 1, o, none⟩) (by simp <;> omega)
  have hf3 := fun o => hb3.frozen (p := ⟨w.heap.size + 1, o, none⟩) (by simp <;> omega)
  have hg3 := fun o => hb3.frozen (p := ⟨w.heap.size + 1 + 1, o, none⟩) (by simp <;> omega)
  obtain ⟨ba, bc, rfl, -, -, -⟩ := hrb.len
  have s3 : w.heap.size + 3 ≤ w3.heap.size := by have := hb3.size; simp at this; omega
  have B3 : Hid (Below w.heap.size w w3) := (B2.out.setCell (by simp <;> omega) _).trans (hb3.mono (by simp <;> omega))
  have HRX3 := Hid.mk ((HRX2.out.nfset (a := ⟨w.heap.size + 1 + 1, 4, none⟩) (by simp <;> omega) (.slice aa a.length ac)).nfgrow hb3)
  have HRA3 := Hid.mk ((HRA.out.nfset (a := ⟨w.heap.size + 1 + 1, 4, none⟩) (by simp <;> omega) (.slice aa a.length ac)).nfgrow hb3)
  have HRB := Hid.mk (hrb.imp (C := nf w3 (w.heap.size + 3)) fun b hb _ => ⟨by have := hb.1; simp at this; omega, hb.2⟩)
  clear hrb hb3 HB HRX2 HRA B2
  have v0 : w3.cell? ⟨w.heap.size + 1 + 1, 0, none⟩ = some (.int .i64 k) := by go_simp
  have v1 : w3.cell? ⟨w.heap.size + 1 + 1, 1, none⟩ = some (.string s) := by go_simp
  have v2 : w3.cell? ⟨w.heap.size + 1 + 1, 2, none⟩ = some (.string u) := by go_simp
  have v3 : w3.cell? ⟨w.heap.size + 1 + 1, 3, none⟩ = some (.slice xa x.length xc) := by go_simp
  have v4 : w3.cell? ⟨w.heap.size + 1 + 1, 4, none⟩ = some (.slice aa a.length ac) := by go_simp
  have v5 : w3.cell? ⟨w.heap.size + 1 + 1, 5, none⟩ = some (.slice none 0 0) := by go_simp
  have r0 : w3.cell? ⟨w.heap.size + 1, 0, none⟩ = some (.int .i64 0) := by go_simp
  have r1 : w3.cell? ⟨w.heap.size + 1, 1, none⟩ = some (.string ⟨#[]⟩) := by go_simp
  have r2 : w3.cell? ⟨w.heap.size + 1, 2, none⟩ = some (.string ⟨#[]⟩) := by go_simp
  have r3 : w3.cell? ⟨w.heap.size + 1, 3, none⟩ = some (.slice none 0 0) := by go_simp
  have r4 : w3.cell? ⟨w.heap.size + 1, 4, none⟩ = some (.slice none 0 0) := by go_simp
  have r5 : w3.cell? ⟨w.heap.size + 1, 5, none⟩ = some (.slice none 0 0) := by go_simp
  have q1 : ∀ o, w3.frozen? ⟨w.heap.size + 1, o, none⟩ = false := by intro o; go_simp
  have q2 : ∀ o, w3.frozen? ⟨w.heap.size + 1 + 1, o, none⟩ = false := by intro o; go_simp
  clear ha1 hc1 hd1 hf1 hg1 ha2 hc2 hd2 hf2 hg2 hc3 hd3 hf3 hg3 s1 s2
  go_wp2
  have f0 : (((((((w3.setCell ⟨w.heap.size + 1 + 1, 5, none⟩ (.slice ba b.length bc)).setCell ⟨w.heap.size + 1, 0, none⟩ (.int .i64 k)).setCell ⟨w.heap.size + 1, 1, none⟩ (.string s)).setCell ⟨w.heap.size + 1, 2, none⟩ (.string u)).setCell ⟨w.heap.size + 1, 3, none⟩ (.slice xa x.length xc)).setCell ⟨w.heap.size + 1, 4, none⟩ (.slice aa a.length ac)).setCell ⟨w.heap.size + 1, 5, none⟩ (.slice ba b.length bc)).cell? ⟨w.heap.size + 1, 0, none⟩ = some (.int .i64 k) := by go_simp
  have f1 : (((((((w3.setCell ⟨w.heap.size + 1 + 1, 5, none⟩ (.slice ba b.length bc)).setCell ⟨w.heap.size + 1, 0, none⟩ (.int .i64 k)).setCell ⟨w.heap.size + 1, 1, none⟩ (.string s)).setCell ⟨w.heap.size + 1, 2, none⟩ (.string u)).setCell ⟨w.heap.size + 1, 3, none⟩ (.slice xa x.length xc)).setCell ⟨w.heap.size + 1, 4, none⟩ (.slice aa a.length ac)).setCell ⟨w.heap.size + 1, 5, none⟩ (.slice ba b.length bc)).cell? ⟨w.heap.size + 1, 1, none⟩ = some (.string s) := by go_simp
  have f2 : (((((((w3.setCell ⟨w.heap.size + 1 + 1, 5, none⟩ (.slice ba b.length bc)).setCell ⟨w.heap.size + 1, 0, none⟩ (.int .i64 k)).setCell ⟨w.heap.size + 1, 1, none⟩ (.string s)).setCell ⟨w.heap.size + 1, 2, none⟩ (.string u)).setCell ⟨w.heap.size + 1, 3, none⟩ (.slice xa x.length xc)).setCell ⟨w.heap.size + 1, 4, none⟩ (.slice aa a.length ac)).setCell ⟨w.heap.size + 1, 5, none⟩ (.slice ba b.length bc)).cell? ⟨w.heap.size + 1, 2, none⟩ = some (.string u) := by go_simp
  have f3 : (((((((w3.setCell ⟨w.heap.size + 1 + 1, 5, none⟩ (.slice ba b.length bc)).setCell ⟨w.heap.size + 1, 0, none⟩ (.int .i64 k)).setCell ⟨w.heap.size + 1, 1, none⟩ (.string s)).setCell ⟨w.heap.size + 1, 2, none⟩ (.string u)).setCell ⟨w.heap.size + 1, 3, none⟩ (.slice xa x.length xc)).setCell ⟨w.heap.size + 1, 4, none⟩ (.slice aa a.length ac)).setCell ⟨w.heap.size + 1, 5, none⟩ (.slice ba b.length bc)).cell? ⟨w.heap.size + 1, 3, none⟩ = some (.slice xa x.length xc) := by go_simp
  have f4 : (((((((w3.setCell ⟨w.heap.size + 1 + 1, 5, none⟩ (.slice ba b.length bc)).setCell ⟨w.heap.size + 1, 0, none⟩ (.int .i64 k)).setCell ⟨w.heap.size + 1, 1, none⟩ (.string s)).setCell ⟨w.heap.size + 1, 2, none⟩ (.string u)).setCell ⟨w.heap.size + 1, 3, none⟩ (.slice xa x.length xc)).setCell ⟨w.heap.size + 1, 4, none⟩ (.slice aa a.length ac)).setCell ⟨w.heap.size + 1, 5, none⟩ (.slice ba b.length bc)).cell? ⟨w.heap.size + 1, 4, none⟩ = some (.slice aa a.length ac) := by go_simp
  have f5 : (((((((w3.setCell ⟨w.heap.size + 1 + 1, 5, none⟩ (.slice ba b.length bc)).setCell ⟨w.heap.size + 1, 0, none⟩ (.int .i64 k)).setCell ⟨w.heap.size + 1, 1, none⟩ (.string s)).setCell ⟨w.heap.size + 1, 2, none⟩ (.string u)).setCell ⟨w.heap.size + 1, 3, none⟩ (.slice xa x.length xc)).setCell ⟨w.heap.size + 1, 4, none⟩ (.slice aa a.length ac)).setCell ⟨w.heap.size + 1, 5, none⟩ (.slice ba b.length bc)).cell? ⟨w.heap.size + 1, 5, none⟩ = some (.slice ba b.length bc) := by go_simp
  refine bodyPost_ret (v := st k s u (.slice xa x.length xc) (.slice aa a.length ac) (.slice ba b.length bc)) ?_ rfl ⟨_, _, _, rfl, ?_, ?_, ?_, ?_⟩
  · generalize (((((((w3.setCell ⟨w.heap.size + 1 + 1, 5, none⟩ (.slice ba b.length bc)).setCell ⟨w.heap.size + 1, 0, none⟩ (.int .i64 k)).setCell ⟨w.heap.size + 1, 1, none⟩ (.string s)).setCell ⟨w.heap.size + 1, 2, none⟩ (.string u)).setCell ⟨w.heap.size + 1, 3, none⟩ (.slice xa x.length xc)).setCell ⟨w.heap.size + 1, 4, none⟩ (.slice aa a.length ac)).setCell ⟨w.heap.size + 1, 5, none⟩ (.slice ba b.length bc)) = W at f0 f1 f2 f3 f4 f5
    simp [results, Tryz.results10, go_sem, f0, f1, f2, f3, f4, f5]
  · exact (((((((HRX3.out.nfset (by simp <;> omega) _).nfset (by simp <;> omega) _).nfset (by simp <;> omega) _).nfset (by simp <;> omega) _).nfset (by simp <;> omega) _).nfset (by simp <;> omega) _).nfset (by simp <;> omega) _).imp (fun b hb _ => ⟨by have := hb.1; omega, hb.2⟩)
  · exact (((((((HRA3.out.nfset (by simp <;> omega) _).nfset (by simp <;> omega) _).nfset (by simp <;> omega) _).nfset (by simp <;> omega) _).nfset (by simp <;> omega) _).nfset (by simp <;> omega) _).nfset (by simp <;> omega) _).imp (fun b hb _ => ⟨by have := hb.1; omega, hb.2⟩)
  · exact (((((((HRB.out.nfset (by simp <;> omega) _).nfset (by simp <;> omega) _).nfset (by simp <;> omega) _).nfset (by simp <;> omega) _).nfset (by simp <;> omega) _).nfset (by simp <;> omega) _).nfset (by simp <;> omega) _).imp (fun b hb _ => ⟨by have := hb.1; omega, hb.2⟩)
  · exact (((((((B3.out.setCell (by simp <;> omega) _).setCell (by simp <;> omega) _).setCell (by simp <;> omega) _).setCell (by simp <;> omega) _).setCell (by simp <;> omega) _).setCell (by simp <;> omega) _).setCell (by simp <;> omega) _)

/-- The first k of a row of statements are laid. -/
def FilY (wr : World) (g : Nat) (e : TypeId) (l : List St) (k : Nat) : Prop :=
  ∃ (xs : List Value) (X Y Z : Nat → Value), wr.ownsRow g e 6 (.slice (some ⟨g, 0, none⟩) l.length l.length) l.length xs ∧
    ∀ i (h : i < l.length), i < k → (xs[i * 6]? = some (.int .i64 l[i].k) ∧ xs[i * 6 + 1]? = some (.string l[i].s) ∧ xs[i * 6 + 2]? = some (.string l[i].t) ∧ xs[i * 6 + 3]? = some (X i) ∧ xs[i * 6 + 4]? = some (Y i) ∧ xs[i * 6 + 5]? = some (Z i)) ∧ El wr (nf wr (g + 1)) l[i].x (X i) ∧ Sl wr (nf wr (g + 1)) l[i].a (Y i) ∧ Sl wr (nf wr (g + 1)) l[i].b (Z i)

theorem FilY.grow {w w' : World} {g : Nat} {e : TypeId} {l : List St} {k : Nat} (h : FilY w g e l k) (hk : Below w.heap.size w w') : FilY w' g e l k := by
  obtain ⟨xs, X, Y, Z, ho, hr⟩ := h
  exact ⟨xs, X, Y, Z, own_grow ho hk, fun i h1 h2 => ⟨(hr i h1 h2).1, (hr i h1 h2).2.1.nfgrow hk, (hr i h1 h2).2.2.1.nfgrow hk, (hr i h1 h2).2.2.2.nfgrow hk⟩⟩

/-- Six cells stored. -/
abbrev set6 (w : World) (g o : Nat) (k : Int) (s t : ByteArray) (x y z : Value) : World :=
  (((((w.setCell ⟨g, o, none⟩ (.int .i64 k)).setCell ⟨g, o + 1, none⟩ (.string s)).setCell ⟨g, o + 2, none⟩ (.string t)).setCell ⟨g, o + 3, none⟩ x).setCell ⟨g, o + 4, none⟩ y).setCell ⟨g, o + 5, none⟩ z

theorem El.nfset6 {w : World} {g n : Nat} {l : List Ex} {v : Value} (h : El w (nf w n) l v) (hn : g < n) (o : Nat) (k : Int) (s t : ByteArray) (x y z : Value) : El (set6 w g o k s t x y z) (nf (set6 w g o k s t x y z) n) l v :=
  (((((h.nfset hn _).nfset hn _).nfset hn _).nfset hn _).nfset hn _).nfset hn _
theorem Sl.nfset6 {w : World} {g n : Nat} {l : List St} {v : Value} (h : Sl w (nf w n) l v) (hn : g < n) (o : Nat) (k : Int) (s t : ByteArray) (x y z : Value) : Sl (set6 w g o k s t x y z) (nf (set6 w g o k s t x y z) n) l v :=
  (((((h.nfset hn _).nfset hn _).nfset hn _).nfset hn _).nfset hn _).nfset hn _

theorem set6_list {xs : List Value} {o j : Nat} (v0 v1 v2 v3 v4 v5 : Value) (h : j < o ∨ o + 5 < j) :
    ((((((xs.set o v0).set (o + 1) v1).set (o + 2) v2).set (o + 3) v3).set (o + 4) v4).set (o + 5) v5)[j]? = xs[j]? := by
  rw [List.getElem?_set_ne (by omega), List.getElem?_set_ne (by omega), List.getElem?_set_ne (by omega), List.getElem?_set_ne (by omega), List.getElem?_set_ne (by omega), List.getElem?_set_ne (by omega)]
theorem set6_at {xs : List Value} {o : Nat} (v0 v1 v2 v3 v4 v5 : Value) (h : o + 5 < xs.length) :
    ((((((xs.set o v0).set (o + 1) v1).set (o + 2) v2).set (o + 3) v3).set (o + 4) v4).set (o + 5) v5)[o]? = some v0 ∧
    ((((((xs.set o v0).set (o + 1) v1).set (o + 2) v2).set (o + 3) v3).set (o + 4) v4).set (o + 5) v5)[o + 1]? = some v1 ∧
    ((((((xs.set o v0).set (o + 1) v1).set (o + 2) v2).set (o + 3) v3).set (o + 4) v4).set (o + 5) v5)[o + 2]? = some v2 ∧
    ((((((xs.set o v0).set (o + 1) v1).set (o + 2) v2).set (o + 3) v3).set (o + 4) v4).set (o + 5) v5)[o + 3]? = some v3 ∧
    ((((((xs.set o v0).set (o + 1) v1).set (o + 2) v2).set (o + 3) v3).set (o + 4) v4).set (o + 5) v5)[o + 4]? = some v4 ∧
    ((((((xs.set o v0).set (o + 1) v1).set (o + 2) v2).set (o + 3) v3).set (o + 4) v4).set (o + 5) v5)[o + 5]? = some v5 := by
  refine ⟨?_, ?_, ?_, ?_, ?_, ?_⟩
  · rw [List.getElem?_set_ne (by omega), List.getElem?_set_ne (by omega), List.getElem?_set_ne (by omega), List.getElem?_set_ne (by omega), List.getElem?_set_ne (by omega), List.getElem?_set_self (by omega)]
  · rw [List.getElem?_set_ne (by omega), List.getElem?_set_ne (by omega), List.getElem?_set_ne (by omega), List.getElem?_set_ne (by omega), List.getElem?_set_self (by simp; omega)]
  · rw [List.getElem?_set_ne (by omega), List.getElem?_set_ne (by omega), List.getElem?_set_ne (by omega), List.getElem?_set_self (by simp; omega)]
  · rw [List.getElem?_set_ne (by omega), List.getElem?_set_ne (by omega), List.getElem?_set_self (by simp; omega)]
  · rw [List.getElem?_set_ne (by omega), List.getElem?_set_self (by simp; omega)]
  · rw [List.getElem?_set_self (by simp; omega)]

theorem FilY.step {w : World} {g : Nat} {e : TypeId} {l : List St} {k : Nat} (h : FilY w g e l k) (hk : k < l.length) {ux ua ub : Value} (hx : El w (nf w (g + 1)) l[k].x ux) (ha : Sl w (nf w (g + 1)) l[k].a ua) (hb : Sl w (nf w (g + 1)) l[k].b ub) :
    FilY (set6 w g (k * 6) l[k].k l[k].s l[k].t ux ua ub) g e l (k + 1) := by
  obtain ⟨xs, X, Y, Z, ho, hr⟩ := h
  have o1 := (ho.stored (k * 6) (.int .i64 l[k].k)).1
  have o2 := (o1.stored (k * 6 + 1) (.string l[k].s)).1
  have o3 := (o2.stored (k * 6 + 2) (.string l[k].t)).1
  have o4 := (o3.stored (k * 6 + 3) ux).1
  have o5 := (o4.stored (k * 6 + 4) ua).1
  have o6 := (o5.stored (k * 6 + 5) ub).1
  have hl : xs.length = l.length * 6 := ho.1
  refine ⟨_, fun i => if i = k then ux else X i, fun i => if i = k then ua else Y i, fun i => if i = k then ub else Z i, o6, fun i hi hik => ?_⟩
  have hn : g < g + 1 := by omega
  by_cases he : i = k
  · subst he
    simp only [if_true]
    exact ⟨set6_at _ _ _ _ _ _ (by omega), hx.nfset6 hn _ _ _ _ _ _ _, ha.nfset6 hn _ _ _ _ _ _ _, hb.nfset6 hn _ _ _ _ _ _ _⟩
  · obtain ⟨⟨x0, x1, x2, x3, x4, x5⟩, y1, y2, y3⟩ := hr i hi (by omega)
    simp only [if_neg he]
    exact ⟨⟨by rw [set6_list _ _ _ _ _ _ (by omega)]; exact x0, by rw [set6_list _ _ _ _ _ _ (by omega)]; exact x1, by rw [set6_list _ _ _ _ _ _ (by omega)]; exact x2, by rw [set6_list _ _ _ _ _ _ (by omega)]; exact x3, by rw [set6_list _ _ _ _ _ _ (by omega)]; exact x4, by rw [set6_list _ _ _ _ _ _ (by omega)]; exact x5⟩, y1.nfset6 hn _ _ _ _ _ _ _, y2.nfset6 hn _ _ _ _ _ _ _, y3.nfset6 hn _ _ _ _ _ _ _⟩

theorem FilY.sl {w : World} {g : Nat} {e : TypeId} {l : List St} (h : FilY w g e l l.length) (hm : l.length ≤ maxLen) (hs : ∀ i (h : i < l.length), l[i].s.size ≤ maxLen ∧ l[i].t.size ≤ maxLen) :
    Sl w (nf w g) l (.slice (some ⟨g, 0, none⟩) l.length l.length) := by
  obtain ⟨xs, X, Y, Z, ho, hr⟩ := h
  by_cases hl : l = []
  · subst hl
    exact .empty _ _ (by simp) fun h => by cases h
  · refine .full l g 0 l.length X Y Z ⟨Nat.le_refl _, fun o => ho.frozenAt o⟩ hl (Nat.le_refl _) hm hs (fun i hi => ?_) (fun i hi => (hr i hi hi).2.1.imp fun b hb _ => ⟨by have := hb.1; omega, hb.2⟩) (fun i hi => (hr i hi hi).2.2.1.imp fun b hb _ => ⟨by have := hb.1; omega, hb.2⟩) (fun i hi => (hr i hi hi).2.2.2.imp fun b hb _ => ⟨by have := hb.1; omega, hb.2⟩)
    obtain ⟨⟨x0, x1, x2, x3, x4, x5⟩, _⟩ := hr i hi hi
    rw [Nat.zero_add]
    exact ⟨by rw [ho.cellAt _ (by omega), x0], by rw [ho.cellAt _ (by omega), x1], by rw [ho.cellAt _ (by omega), x2], by rw [ho.cellAt _ (by omega), x3], by rw [ho.cellAt _ (by omega), x4], by rw [ho.cellAt _ (by omega), x5]⟩

theorem infoStmt : (Tryz.prog.info? 31).map (fun i => (i.zero, i.size, i.bytes)) = some (some (st 0 ⟨#[]⟩ ⟨#[]⟩ (.slice none 0 0) (.slice none 0 0) (.slice none 0 0)), 6, 112) := by kernel_rfl

set_option maxHeartbeats 1000000 in
theorem toStmtS_step (l : List St) (ih : ∀ x ∈ l, ToY x.a ∧ ToY x.b) : ToY l := by
  intro B v w h hsz
  have hS : l ≠ [] → ∀ i (h : i < l.length), l[i].s.size ≤ maxLen ∧ l[i].t.size ≤ maxLen := by
    intro hl i hi
    obtain ⟨ao, cap, rfl, -⟩ := h.len
    obtain ⟨_, _, _, _, _, _, hel⟩ := h.elems hl
    exact (hel i hi).2.2.2.2
  obtain ⟨ao, cap, rfl, hl1, hl2, hl3⟩ := h.len
  have hlen := szy_length l
  obtain ⟨i0, hi, hz0, hz1, hz2⟩ := info_parts infoStmt
  have HI := Hid.mk ih
  have HH := Hid.mk h
  have HS := Hid.mk hS
  have hln : l.length ≤ 1048576 := by omega
  clear ih h hl2 hS
  go_enter Tryz.func17, Tryz.ntmps17
  go_wp2_with (at_make; refine wpList_make_full _ rfl _ _ 29 rfl w.heap.size 31 i0 _ 6 Tryz.underlying29 hi hz0 hz1 _ _ _ _ l.length rfl rfl rfl rfl (by rw [hz2]; omega) (by unfold maxLen; omega) (by simp) ?_)
  intro w1 hown hgrow
  have hbel : Below w.heap.size w w1 := (Below.refl _ _).grown hgrow (Nat.le_refl _) (by simp)
  have hg1 : w.heap.size < w1.heap.size := (World.ownsRow.lt hown _ rfl).2
  have HF : FilY w1 w.heap.size 31 l 0 := ⟨_, fun _ => .bool true, fun _ => .bool true, fun _ => .bool true, hown, fun i _ h => absurd h (Nat.not_lt_zero i)⟩
  clear hgrow hown hi hz0 hz1 hz2
  go_wp2
  go_loopw [4] (fun i wr => ∃ (k : Nat), k ≤ l.length ∧ i = .int .i64 k ∧ Hid (FilY wr w.heap.size 31 l k) ∧ Below w.heap.size w wr ∧ w.heap.size < wr.heap.size) (fun i _ => l.length - (intOf i).toNat)
  case atStart => exact ⟨0, Nat.zero_le _, rfl, HF, hbel, hg1⟩
  case round =>
    obtain ⟨k, hk, rfl, HFr, hbelr, hgr⟩ := hrel
    clear HF hbel hg1
    by_cases hkl : k < l.length
    · obtain ⟨b, off, X, Y, Z, rfl, hel⟩ := HH.out.elems (by intro hn; rw [hn] at hkl; simp at hkl)
      obtain ⟨h3, hx, ha, hz, hss, htt⟩ := hel k hkl
      have hto := HI.out _ (List.getElem_mem hkl)
      have hsk : l[k].sz ≤ 1048576 := by have := szy_mem (List.getElem_mem hkl); omega
      have HST := Hid.mk (fun (w2 : World) (ux ua ub : Value) (h1 : FilY w2 w.heap.size 31 l k) (h2 : El w2 (nf w2 (w.heap.size + 1)) l[k].x ux) (h3 : Sl w2 (nf w2 (w.heap.size + 1)) l[k].a ua) (h4 : Sl w2 (nf w2 (w.heap.size + 1)) l[k].b ub) => h1.step hkl h2 h3 h4)
      obtain ⟨t, ht⟩ : ∃ t, l[k] = t := ⟨_, rfl⟩
      rw [ht] at h3 hx ha hz hss htt hto hsk HST
      clear ht hel
      obtain ⟨c0, c1, c2, c3, c4, c5⟩ := h3.kept (w' := wr) (hbelr.block b (World.block_lt_of_cell? w _ h3.1))
      have HC := Hid.mk (toStmt_of t hto.1 hto.2 B (X k) (Y k) (Z k) wr (hx.grow hbelr) (ha.grow hbelr) (hz.grow hbelr) hsk)
      have hi1 : (k : Int) < (l.length : Int) := by omega
      clear hx ha hz hss htt hto h3 HI HH
      go_wp2_with fail
      refine HC.out.mono ?_
      rintro e w2 ⟨ux, ua, ub, rfl, hrx, hra, hrb, hb2⟩
      have HF2 := HFr.out.grow hb2
      have H3 := Hid.mk (HST.out w2 ux ua ub HF2 (hrx.imp fun b hb _ => ⟨by have := hb.1; omega, hb.2⟩) (hra.imp fun b hb _ => ⟨by have := hb.1; omega, hb.2⟩) (hrb.imp fun b hb _ => ⟨by have := hb.1; omega, hb.2⟩))
      have B2 := hbelr.trans (hb2.mono hbelr.size)
      have hg2 : w.heap.size < w2.heap.size := Nat.lt_of_lt_of_le hgr hb2.size
      obtain ⟨xs, _, _, _, hown2, -⟩ := HF2
      have f0 := hown2.frozenAt (k * 6)
      have f1 := hown2.frozenAt (k * 6 + 1)
      have f2 := hown2.frozenAt (k * 6 + 2)
      have f3 := hown2.frozenAt (k * 6 + 3)
      have f4 := hown2.frozenAt (k * 6 + 4)
      have f5 := hown2.frozenAt (k * 6 + 5)
      have hxl : xs.length = l.length * 6 := hown2.1
      have o0 := hown2.cellAt (k * 6) (by omega)
      have o1 := hown2.cellAt (k * 6 + 1) (by omega)
      have o2 := hown2.cellAt (k * 6 + 2) (by omega)
      have o3 := hown2.cellAt (k * 6 + 3) (by omega)
      have o4 := hown2.cellAt (k * 6 + 4) (by omega)
      have o5 := hown2.cellAt (k * 6 + 5) (by omega)
      obtain ⟨y0, e0⟩ : ∃ y, xs[k * 6]? = some y := ⟨_, List.getElem?_eq_getElem (by omega)⟩
      obtain ⟨y1, e1⟩ : ∃ y, xs[k * 6 + 1]? = some y := ⟨_, List.getElem?_eq_getElem (by omega)⟩
      obtain ⟨y2, e2⟩ : ∃ y, xs[k * 6 + 2]? = some y := ⟨_, List.getElem?_eq_getElem (by omega)⟩
      obtain ⟨y3, e3⟩ : ∃ y, xs[k * 6 + 3]? = some y := ⟨_, List.getElem?_eq_getElem (by omega)⟩
      obtain ⟨y4, e4⟩ : ∃ y, xs[k * 6 + 4]? = some y := ⟨_, List.getElem?_eq_getElem (by omega)⟩
      obtain ⟨y5, e5⟩ : ∃ y, xs[k * 6 + 5]? = some y := ⟨_, List.getElem?_eq_getElem (by omega)⟩
      rw [e0] at o0
      rw [e1] at o1
      rw [e2] at o2
      rw [e3] at o3
      rw [e4] at o4
      rw [e5] at o5
      clear e0 e1 e2 e3 e4 e5
      obtain ⟨xa, xc, rfl, -, -, -⟩ := hrx.len
      obtain ⟨aa, ac, rfl, -, -, -⟩ := hra.len
      obtain ⟨ba, bc, rfl, -, -, -⟩ := hrb.len
      have hk0 : 0 < l.length := by omega
      clear hown2 HFr HC HST hb2 hbelr hrx hra hrb c0 c1 c2 c3 c4 c5 hxl
      go_wp2
      go_roundw
      case rel => exact ⟨k + 1, by omega, by go_num, H3, (((((B2.setCell (Nat.le_refl _) _).setCell (Nat.le_refl _) _).setCell (Nat.le_refl _) _).setCell (Nat.le_refl _) _).setCell (Nat.le_refl _) _).setCell (Nat.le_refl _) _, by simpa using hg2⟩
      case measure => simp [intOf]; omega
    · have e : k = l.length := by omega
      subst e
      have HR := Hid.mk (fun hS => HFr.out.sl (by unfold maxLen; omega) hS)
      have HR2 : Hid (Sl wr (nf wr w.heap.size) l (.slice (some ⟨w.heap.size, 0, none⟩) l.length l.length)) := HR.out (by
        intro i hi
        exact HS.out (by intro hn; rw [hn] at hi; simp at hi) i hi)
      clear HR HFr HS HI HH
      go_wp2
      go_ret
      exact ⟨_, rfl, HR2.out, hbelr⟩

theorem toStmtS_any (l : List St) : ToY l := (St.ind (P := fun t => ToY t.a ∧ ToY t.b) (fun t iha ihb => ⟨toStmtS_step t.a iha, toStmtS_step t.b ihb⟩) (.node 0 ⟨#[]⟩ ⟨#[]⟩ [] l [])).1
theorem toStmt_any (t : St) (B : Nat → Prop) (vx va vb : Value) (w : World) (hx : El w B t.x vx) (ha : Sl w B t.a va) (hb : Sl w B t.b vb) (hs : t.sz ≤ 1048576) :
    Calls Tryz.prog 10 #[st t.k t.s t.t vx va vb] w fun e w' => ∃ ux ua ub, e = .returned (st t.k t.s t.t ux ua ub) ∧ El w' (nf w' (w.heap.size + 1)) t.x ux ∧ Sl w' (nf w' (w.heap.size + 1)) t.a ua ∧ Sl w' (nf w' (w.heap.size + 1)) t.b ub ∧ Below w.heap.size w w' :=
  toStmt_of t (toStmtS_any t.a) (toStmtS_any t.b) B vx va vb w hx ha hb hs
end Go.Proofs.YtbbhikbdbndefaaGreat

namespace Go.Proofs.YtbbhikbdbndefaaGreat
open Go.RowKit
set_option maxRecDepth 8000

/-- A statement with the slices that are read within. -/
abbrev Sv := St × Value × Value × Value
def svCells : List Sv → List Value
  | [] => []
  | q :: r => .int .i64 q.1.k :: .string q.1.s :: .string q.1.t :: q.2.1 :: q.2.2.1 :: q.2.2.2 :: svCells r
theorem svCells_length (L : List Sv) : (svCells L).length = L.length * 6 := by
  induction L with
  | nil => rfl
  | cons q r ih => simp only [svCells, List.length_cons, ih]; omega
theorem svCells_append (L M : List Sv) : svCells (L ++ M) = svCells L ++ svCells M := by
  induction L with
  | nil => rfl
  | cons q r ih => simp only [List.cons_append, svCells, ih]
theorem svCells_at (L : List Sv) : ∀ i (h : i < L.length), (svCells L)[i * 6]? = some (.int .i64 L[i].1.k) ∧ (svCells L)[i * 6 + 1]? = some (.string L[i].1.s) ∧ (svCells L)[i * 6 + 2]? = some (.string L[i].1.t) ∧ (svCells L)[i * 6 + 3]? = some L[i].2.1 ∧ (svCells L)[i * 6 + 4]? = some L[i].2.2.1 ∧ (svCells L)[i * 6 + 5]? = some L[i].2.2.2 := by
  induction L with
  | nil => intro i h; simp at h
  | cons q r ih =>
    intro i h
    cases i with
    | zero => simp [svCells]
    | succ i =>
      have := ih i (by simpa using h)
      have e0 : (i + 1) * 6 = i * 6 + 6 := by omega
      simp only [svCells, e0, List.getElem?_cons_succ, List.getElem_cons_succ]
      exact this
theorem svCells_mem {L : List Sv} {u : Value} (h : u ∈ svCells L) : ∃ q ∈ L, u = .int .i64 q.1.k ∨ u = .string q.1.s ∨ u = .string q.1.t ∨ u = q.2.1 ∨ u = q.2.2.1 ∨ u = q.2.2.2 := by
  induction L with
  | nil => cases h
  | cons q r ih =>
    simp only [svCells, List.mem_cons] at h
    rcases h with h | h | h | h | h | h | h
    · exact ⟨q, by simp, .inl h⟩
    · exact ⟨q, by simp, .inr (.inl h)⟩
    · exact ⟨q, by simp, .inr (.inr (.inl h))⟩
    · exact ⟨q, by simp, .inr (.inr (.inr (.inl h)))⟩
    · exact ⟨q, by simp, .inr (.inr (.inr (.inr (.inl h))))⟩
    · exact ⟨q, by simp, .inr (.inr (.inr (.inr (.inr h))))⟩
    · obtain ⟨p, hp, hq⟩ := ih h
      exact ⟨p, by simp [hp], hq⟩

/-- The blocks below n. -/
def oldTo (n : Nat) : Nat → Prop := fun b => b < n
def SvOk (w : World) (n : Nat) (q : Sv) : Prop := El w (oldTo n) q.1.x q.2.1 ∧ Sl w (oldTo n) q.1.a q.2.2.1 ∧ Sl w (oldTo n) q.1.b q.2.2.2 ∧ q.1.s.size ≤ maxLen ∧ q.1.t.size ≤ maxLen
theorem SvOk.grow {w w' : World} {n : Nat} {q : Sv} (h : SvOk w n q) (hb : Below w.heap.size w w') : SvOk w' n q := ⟨h.1.grow hb, h.2.1.grow hb, h.2.2.1.grow hb, h.2.2.2⟩
theorem SvOk.kept {w w' : World} {n : Nat} {q : Sv} (h : SvOk w n q) (hk : ∀ b, b < n → b < w.heap.size → w'.heap[b]? = w.heap[b]?) : SvOk w' n q := ⟨h.1.kept hk, h.2.1.kept hk, h.2.2.1.kept hk, h.2.2.2⟩

theorem Sl.sv {w : World} {B : Nat → Prop} {l : List St} {ao : Option Addr} {n cap : Nat} (h : Sl w B l (.slice ao n cap)) :
    ∃ L : List Sv, L.map (·.1) = l ∧ (∀ q ∈ L, SvOk w w.heap.size q) ∧ ∀ ad, ao = some ad → ∀ j u, (svCells L)[j]? = some u → w.cell? (ad.add j) = some u := by
  by_cases hl : l = []
  · subst hl
    exact ⟨[], rfl, by simp, fun ad _ j u hu => by simp [svCells] at hu⟩
  · obtain ⟨b, off, X, Y, Z, rfl, hel⟩ := h.elems hl
    obtain ⟨L, hL⟩ : ∃ L : List Sv, L = (List.range l.length).map fun i => (l.getD i default, X i, Y i, Z i) := ⟨_, rfl⟩
    have hlen : L.length = l.length := by rw [hL]; simp
    have hat : ∀ i (h : i < L.length), L[i] = (l[i]'(by omega), X i, Y i, Z i) := by
      intro i hi
      subst hL
      have : i < l.length := by omega
      simp [this]
    refine ⟨L, ?_, ?_, ?_⟩
    · apply List.ext_getElem
      · simp [hlen]
      · intro i h1 h2
        simp only [List.getElem_map]
        rw [hat i (by simpa using h1)]
    · intro q hq
      obtain ⟨i, hi, rfl⟩ := List.getElem_of_mem hq
      obtain ⟨-, h1, h2, h3, h4⟩ := hel i (by omega)
      rw [hat i hi]
      exact ⟨h1.imp fun _ _ hb => hb, h2.imp fun _ _ hb => hb, h3.imp fun _ _ hb => hb, h4⟩
    · intro ad had j u hu
      obtain rfl := Option.some.inj had
      have hj : j < L.length * 6 := by have := (List.getElem?_eq_some_iff.1 hu).1; rw [svCells_length] at this; exact this
      have hi : j / 6 < L.length := by omega
      obtain ⟨s0, s1, s2, s3, s4, s5⟩ := svCells_at L (j / 6) hi
      obtain ⟨⟨c0, c1, c2, c3, c4, c5⟩, -⟩ := hel (j / 6) (by omega)
      rw [hat _ hi] at s0 s1 s2 s3 s4 s5
      rw [Addr.add_lit]
      obtain ⟨r, hr, hr6⟩ : ∃ r, j = j / 6 * 6 + r ∧ r < 6 := ⟨j % 6, by omega, by omega⟩
      obtain ⟨d, hd⟩ : ∃ d, j / 6 = d := ⟨_, rfl⟩
      rw [hd] at hr
      simp only [hd] at s0 s1 s2 s3 s4 s5 c0 c1 c2 c3 c4 c5
      subst hr
      rcases r with _ | _ | _ | _ | _ | _ | r
      · rw [Nat.add_zero] at hu ⊢; rw [hu] at s0; rw [c0]; exact s0.symm
      · rw [hu] at s1; rw [← Nat.add_assoc, c1]; exact s1.symm
      · rw [hu] at s2; rw [← Nat.add_assoc, c2]; exact s2.symm
      · rw [hu] at s3; rw [← Nat.add_assoc, c3]; exact s3.symm
      · rw [hu] at s4; rw [← Nat.add_assoc, c4]; exact s4.symm
      · rw [hu] at s5; rw [← Nat.add_assoc, c5]; exact s5.symm
      · omega

/-- A row of the call's own with these. -/
def OwnSt (w : World) (base : Nat) (v : Value) (L : List Sv) : Prop := w.ownsRow base 31 6 v L.length (svCells L) ∧ ∀ q ∈ L, SvOk w base q

theorem OwnSt.sl {w : World} {base : Nat} {v : Value} {L : List Sv} (h : OwnSt w base v L) : Sl w anyBlock (L.map (·.1)) v := by
  obtain ⟨h, hok⟩ := h
  by_cases hl : L = []
  · subst hl
    rcases h.2 with ⟨rfl, -⟩ | ⟨g, cap, cur, rfl, -, -, -, hm, -⟩
    · exact Sl.zero w _
    · exact .empty _ _ hm fun h => by cases h
  · rcases h.2 with ⟨-, h0⟩ | ⟨g, cap, cur, rfl, hb, hg, hc, hm, -⟩
    · exact absurd (List.length_eq_zero_iff.1 h0) hl
    · have hlen : (L.map (·.1)).length = L.length := by simp
      have hcell := h.cells (g := g) rfl
      have := Sl.full (w := w) (B := anyBlock) (L.map (·.1)) g 0 cap (fun i => (L.getD i default).2.1) (fun i => (L.getD i default).2.2.1) (fun i => (L.getD i default).2.2.2) trivial (by simpa using hl) (by rw [hlen]; exact hc) hm
        (fun i h => by rw [hlen] at h; simpa using (hok _ (List.getElem_mem h)).2.2.2)
        (fun i h => by
          rw [hlen] at h
          obtain ⟨s0, s1, s2, s3, s4, s5⟩ := svCells_at L i h
          have r0 := hcell _ _ s0
          have r1 := hcell _ _ s1
          have r2 := hcell _ _ s2
          have r3 := hcell _ _ s3
          have r4 := hcell _ _ s4
          have r5 := hcell _ _ s5
          simp only [Addr.add_lit] at r0 r1 r2 r3 r4 r5
          simp only [List.getElem_map, List.getD_eq_getElem?_getD, List.getElem?_eq_getElem h, Option.getD_some]
          exact ⟨r0, r1, r2, r3, r4, r5⟩)
        (fun i h => by rw [hlen] at h; simp only [List.getElem_map, List.getD_eq_getElem?_getD, List.getElem?_eq_getElem h, Option.getD_some]; exact (hok _ (List.getElem_mem h)).1.any)
        (fun i h => by rw [hlen] at h; simp only [List.getElem_map, List.getD_eq_getElem?_getD, List.getElem?_eq_getElem h, Option.getD_some]; exact (hok _ (List.getElem_mem h)).2.1.any)
        (fun i h => by rw [hlen] at h; simp only [List.getElem_map, List.getD_eq_getElem?_getD, List.getElem?_eq_getElem h, Option.getD_some]; exact (hok _ (List.getElem_mem h)).2.2.1.any)
      rwa [hlen] at this

theorem svOk_one {w : World} {n : Nat} {L : List Sv} (h : ∀ q ∈ L, SvOk w n q) : ∀ u ∈ svCells L, u.oneCell' = true := by
  intro u hu
  obtain ⟨q, hq, h1⟩ := svCells_mem hu
  obtain ⟨hx, ha, hb, -⟩ := h q hq
  obtain ⟨_, _, e1, -⟩ := hx.len
  obtain ⟨_, _, e2, -⟩ := ha.len
  obtain ⟨_, _, e3, -⟩ := hb.len
  rcases h1 with rfl | rfl | rfl | rfl | rfl | rfl
  · simp [Value.oneCell']
  · simp [Value.oneCell']
  · simp [Value.oneCell']
  · rw [e1]; simp [Value.oneCell']
  · rw [e2]; simp [Value.oneCell']
  · rw [e3]; simp [Value.oneCell']

theorem wpList_append_st {w0 w : World} {ops : Array Oper} {rest : List Oper} {o : Oper} {a : Act} {Q : Exit → Act → World → Prop} (hgd : o.guard = none) (s x : Operand)
    (ho : o.op = .call { callee := .builtin .append, args := #[s, x], argTypes := #[29, 29] })
    (base : Nat) (v u : Value) (L M : List Sv) (hs : a.eval s = v) (hown : OwnSt w base v L) (hx : a.eval x = u) (ao : Option Addr) (cap : Nat) (hu : u = .slice ao M.length cap) (hn : ao = none → cap = 0) (hcap : M.length ≤ cap)
    (hM : ∀ q ∈ M, SvOk w base q) (hcell : ∀ ad, ao = some ad → ∀ j u, (svCells M)[j]? = some u → w.cell? (ad.add j) = some u)
    (hbel : Below base w0 w) (hbase : base ≤ w.heap.size) (hlen : L.length + M.length ≤ 1000000)
    (h : ∀ v' w', OwnSt w' base v' (L ++ M) → Below base w0 w' → base ≤ w'.heap.size → wpList Tryz.prog ops Q rest (a.put o.dst v') w') :
    wpList Tryz.prog ops Q (o :: rest) a w := by
  obtain ⟨i0, hi, hz0, hz1, hz2⟩ := info_parts infoStmt
  subst hu
  cases ao with
  | none =>
    have hc0 := hn rfl
    have hm0 : M = [] := List.length_eq_zero_iff.1 (by omega)
    subst hm0
    subst hc0
    refine wpList_append_own_none hgd s x 29 ho base 31 i0 6 Tryz.underlying29 hi v L.length (svCells L) hs hown.1 hx ?_
    exact h v w (by rw [List.append_nil]; exact hown) hbel hbase
  | some ad =>
    refine wpList_append_own_at w hgd s x 29 ho base 31 i0 _ 6 112 Tryz.underlying29 hi hz0 hz1 hz2 rfl (by decide) v L.length (svCells L) hs hown.1 ad M.length cap (svCells M) hx
      (svCells_length M) (hcell ad rfl) (svOk_one hM) (by unfold maxLen; omega) (by omega) hbase ?_
    intro v' w' hown' hgr _ _
    refine h v' w' ⟨?_, fun q hq => ?_⟩ (hbel.grown hgr hbase fun k hk => (World.ownsRow.lt hown.1 k hk).1) (Nat.le_trans hbase hgr.size)
    · rw [svCells_append, List.length_append]
      exact hown'
    · have hk : ∀ b, b < base → b < w.heap.size → w'.heap[b]? = w.heap[b]? := fun b hb hlt => hgr.block b hlt fun e => by have := (World.ownsRow.lt hown.1 b e.symm).1; omega
      rcases List.mem_append.1 hq with hq | hq
      · exact (hown.2 q hq).kept hk
      · exact (hM q hq).kept hk
end Go.Proofs.YtbbhikbdbndefaaGreat

namespace Go.Proofs.YtbbhikbdbndefaaGreat
open Go.RowKit
set_option maxRecDepth 8000

set_option maxHeartbeats 1000000 in
theorem growSt (n : Nat) (w : World) (hn : n ≤ 1000) :
    Calls Tryz.prog 65 #[.slice none 0 0, .int .i64 n] w fun e w' => ∃ v, e = .returned v ∧ OwnSt w' w.heap.size v [] ∧ Below w.heap.size w w' := by
  rcases Nat.eq_zero_or_pos n with h0 | h0
  · subst h0
    go_enter Tryz.func65, Tryz.ntmps65
    go_wp2
    go_ret
    exact ⟨_, rfl, ⟨⟨rfl, .inl ⟨rfl, rfl⟩⟩, by simp⟩, Below.refl _ _⟩
  · obtain ⟨i0, hi, hz0, hz1, hz2⟩ := info_parts infoStmt
    have hr := fun ty => Lib.run_append_nil_zeros (P := Tryz.prog) w 29 3 ty 31 i0 _ .i64 .i64 Tryz.underlying29 Tryz.underlying3 hi hz0 n h0 (by rw [hz1]; omega) (by omega) (by rw [hz2]; omega)
    have hG1 : n ≤ grownCap w n 0 31 := grownCap_ge w _ _ _
    have hG2 : grownCap w n 0 31 ≤ maxLen := grownCap_le_maxLen w _ _ _ (by unfold maxLen; omega)
    have HOWN : Hid (∀ (g cap : Nat) (W : World), W = w.drew.alloc (.cells (Builtin.zeroCells (st 0 ⟨#[]⟩ ⟨#[]⟩ (.slice none 0 0) (.slice none 0 0) (.slice none 0 0)).cells n ++ Builtin.zeroCells (st 0 ⟨#[]⟩ ⟨#[]⟩ (.slice none 0 0) (.slice none 0 0) (.slice none 0 0)).cells (grownCap w n 0 31 - n)) 31) → g = w.heap.size → cap = grownCap w n 0 31 → OwnSt W w.heap.size (.slice (some ⟨g, 0, none⟩) 0 cap) []) := by
      intro g cap W hW hg hc
      refine ⟨⟨rfl, .inr ⟨g, cap, _, rfl, by omega, by rw [hW, hg]; exact heap_alloc_new w.drew _, Nat.zero_le _, by omega, ?_, rfl⟩⟩, by simp⟩
      rw [Array.size_append, size_zeroCells, size_zeroCells]
      show n * 6 + _ * 6 = cap * 6
      omega
    have HB : Hid (∀ (W : World) o, W = w.drew.alloc o → Below w.heap.size w W) := by
      intro W o hW
      subst hW
      exact (Below.drewSelf _ _ 1).alloc (by simp) _
    obtain ⟨G, hG⟩ : ∃ G, grownCap w n 0 31 = G := ⟨_, rfl⟩
    rw [hG] at hr hG1 hG2 HOWN
    unfold maxLen at hG2
    have hn1 : ¬ ((n : Int) < 0) := by omega
    have hn2 : 0 < (n : Int) := by omega
    clear hG hz0 hz1 hz2 hi
    go_enter Tryz.func65, Tryz.ntmps65
    go_wp2_with (at_builtin; refine Lib.wpList_append_run _ rfl _ _ _ _ rfl _ _ rfl rfl _ _ (hr _) ?_)
    go_ret
    exact ⟨_, rfl, HOWN.out _ _ _ rfl rfl rfl, HB.out _ _ rfl⟩

theorem OwnSt.grow {w w' : World} {base : Nat} {v : Value} {L : List Sv} (h : OwnSt w base v L) (hb : Below w.heap.size w w') : OwnSt w' base v L := ⟨own_grow h.1 hb, fun q hq => (h.2 q hq).grow hb⟩

set_option maxHeartbeats 2000000 in
theorem concatSt (la lb : List St) (B C : Nat → Prop) (ao : Option Addr) (ac : Nat) (bo : Option Addr) (bc sb : Nat) (w : World) (ha : Sl w B la (.slice ao la.length ac)) (hb : Sl w C lb (.slice bo lb.length bc)) (hna : la.length ≤ 60) (hnb : lb.length ≤ 60)
    (c0 : w.cell? ⟨sb, 0, none⟩ = some (.slice ao la.length ac)) (c1 : w.cell? ⟨sb, 1, none⟩ = some (.slice bo lb.length bc)) :
    Calls Tryz.prog 51 #[.slice (some ⟨sb, 0, none⟩) 2 2] w fun e w' => ∃ v, e = .returned v ∧ Sl w' anyBlock (la ++ lb) v ∧ Below w.heap.size w w' := by
  obtain ⟨LA, hA, okA, cA⟩ := ha.sv
  obtain ⟨LB, hB, okB, cB⟩ := hb.sv
  obtain ⟨_, _, ea, ha1, ha2, ha3⟩ := ha.len
  obtain ⟨_, _, eb, hb1, hb2, hb3⟩ := hb.len
  cases ea
  cases eb
  have hla : LA.length = la.length := by rw [← hA]; simp
  have hlb : LB.length = lb.length := by rw [← hB]; simp
  obtain ⟨na, hn1⟩ : ∃ n, la.length = n := ⟨_, rfl⟩
  obtain ⟨nb, hn2⟩ : ∃ n, lb.length = n := ⟨_, rfl⟩
  rw [hn1] at c0 ha1 hla hna
  rw [hn2] at c1 hb1 hlb hnb
  have HFIN : Hid (∀ (W : World) v, OwnSt W w.heap.size v (LA ++ LB) → Sl W anyBlock (la ++ lb) v) := by
    intro W v h
    have := h.sl
    rwa [List.map_append, hA, hB] at this
  have HCA := Hid.mk cA
  have HCB := Hid.mk cB
  have HOA := Hid.mk okA
  have HOB := Hid.mk okB
  have HG := Hid.mk (fun (w' : World) => growSt (na + nb) w' (by omega))
  have hsb := World.block_lt_of_cell? w _ c0
  clear cA cB okA okB hA hB ha hb hn1 hn2 ha2 hb2
  have e2 : ((na + nb : Nat) : Int) = (na : Int) + (nb : Int) := by omega
  go_enter Tryz.func51, Tryz.ntmps51
  go_wp2
  go_loopw [3, 11] (fun q i wr => ∃ (k m : Nat), k ≤ 2 ∧ i = .int .i64 k ∧ q = .int .i64 m ∧ (k = 0 → m = 0) ∧ (k = 1 → m = na) ∧ (k = 2 → m = na + nb) ∧ wr = w) (fun _ i _ => 2 - (intOf i).toNat)
  case atStart => exact ⟨0, 0, by omega, rfl, rfl, by omega, by omega, by omega, rfl⟩
  case round =>
    obtain ⟨k, m, hk, rfl, rfl, k0, k1, k2, hw⟩ := hrel
    have hw' := hw.symm
    clear hw
    subst hw'
    rcases k with _ | _ | _ | k
    · obtain rfl := k0 rfl
      clear k0 k1 k2
      go_wp2
      go_roundw
      case rel => exact ⟨1, na, by omega, by go_num, by go_num, by omega, by omega, by omega, trivial⟩
      case measure => simp [intOf]
    · obtain rfl := k1 rfl
      clear k0 k1 k2
      go_wp2
      go_roundw
      case rel => exact ⟨2, m + nb, by omega, by go_num, by go_num, by omega, by omega, by omega, trivial⟩
      case measure => simp [intOf]
    · obtain rfl := k2 rfl
      clear k0 k1 k2
      go_wp2_with fail
      rw [← e2]
      refine (HG.out _).mono ?_
      rintro e w2 ⟨v, rfl, hown, hb2⟩
      have HO2 := Hid.mk hown
      clear HG hown
      go_wp2
      go_loopw [6, 27] (fun q i wx => ∃ (k : Nat), k ≤ 2 ∧ i = .int .i64 k ∧ Hid ((k = 0 → OwnSt wx w.heap.size q []) ∧ (k = 1 → OwnSt wx w.heap.size q LA) ∧ (k = 2 → OwnSt wx w.heap.size q (LA ++ LB))) ∧ Below w.heap.size w wx ∧ w.heap.size ≤ wx.heap.size) (fun _ i _ => 2 - (intOf i).toNat)
      case atStart => exact ⟨0, by omega, rfl, ⟨fun _ => HO2.out, fun h => by omega, fun h => by omega⟩, hb2, hb2.size⟩
      case round =>
        obtain ⟨k, hk, rfl, HK, hbx, hsx⟩ := hrel
        clear HO2 hb2
        have d0 : wr.cell? ⟨sb, 0, none⟩ = some (.slice ao na ac) := by rw [hbx.cell (p := ⟨sb, 0, none⟩) hsb]; exact c0
        have d1 : wr.cell? ⟨sb, 1, none⟩ = some (.slice bo nb bc) := by rw [hbx.cell (p := ⟨sb, 1, none⟩) hsb]; exact c1
        have HDA : Hid (∀ ad, ao = some ad → ∀ j u, (svCells LA)[j]? = some u → wr.cell? (ad.add j) = some u) := by
          intro ad had j u hu
          have h := HCA.out ad had j u hu
          rw [hbx.cell (p := ad.add j) (World.block_lt_of_cell? w _ h)]; exact h
        have HDB : Hid (∀ ad, bo = some ad → ∀ j u, (svCells LB)[j]? = some u → wr.cell? (ad.add j) = some u) := by
          intro ad had j u hu
          have h := HCB.out ad had j u hu
          rw [hbx.cell (p := ad.add j) (World.block_lt_of_cell? w _ h)]; exact h
        have HPA : Hid (∀ q ∈ LA, SvOk wr w.heap.size q) := fun q hq => (HOA.out q hq).grow hbx
        have HPB : Hid (∀ q ∈ LB, SvOk wr w.heap.size q) := fun q hq => (HOB.out q hq).grow hbx
        rcases k with _ | _ | _ | k
        · have HO := Hid.mk (HK.out.1 rfl)
          clear HK
          go_wp2_with (at_builtin; refine wpList_append_st (w0 := w) rfl _ _ rfl w.heap.size _ _ [] LA rfl HO.out rfl ao ac (by rw [hla]; rfl) ha3 (by omega) HPA.out HDA.out hbx hsx (by simp; omega) ?_; intro v' w' hown' hb' hs')
          have HN := Hid.mk hown'
          clear hown'
          go_wp2
          go_roundw
          case rel => exact ⟨1, by omega, by go_num, ⟨fun h => by omega, fun _ => HN.out, fun h => by omega⟩, hb', hs'⟩
          case measure => simp [intOf]
        · have HO := Hid.mk (HK.out.2.1 rfl)
          clear HK
          go_wp2_with (at_builtin; refine wpList_append_st (w0 := w) rfl _ _ rfl w.heap.size _ _ LA LB rfl HO.out rfl bo bc (by rw [hlb]; rfl) hb3 (by omega) HPB.out HDB.out hbx hsx (by omega) ?_; intro v' w' hown' hb' hs')
          have HN := Hid.mk hown'
          clear hown'
          go_wp2
          go_roundw
          case rel => exact ⟨2, by omega, by go_num, ⟨fun h => by omega, fun h => by omega, fun _ => HN.out⟩, hb', hs'⟩
          case measure => simp [intOf]
        · have HO := Hid.mk (HFIN.out _ _ (HK.out.2.2 rfl))
          clear HK
          go_wp2
          go_ret
          exact ⟨_, rfl, HO.out, hbx⟩
        · omega
    · omega

theorem stmtParts_any (t : St) (B : Nat → Prop) (vx va vb : Value) (w : World) (hx : ∃ o n c, vx = .slice o n c) (ha : Sl w B t.a va) (hb : Sl w B t.b vb) (hna : t.a.length ≤ 60) (hnb : t.b.length ≤ 60) :
    Calls Tryz.prog 33 #[st t.k t.s t.t vx va vb] w fun e w' => ∃ v, e = .returned v ∧ Sl w' anyBlock t.ab v ∧ Below w.heap.size w w' := by
  obtain ⟨xo, xn, xc, rfl⟩ := hx
  obtain ⟨yo, yc, rfl, -, -, -⟩ := ha.len
  obtain ⟨zo, zc, rfl, -, -, -⟩ := hb.len
  have HC := Hid.mk (fun (w' : World) (hw : Below w.heap.size w w') (sb : Nat) c0 c1 => concatSt t.a t.b B B yo yc zo zc sb w' (ha.grow hw) (hb.grow hw) hna hnb c0 c1)
  have HAB : Hid (t.ab = t.a ++ t.b) := rfl
  obtain ⟨k, hk⟩ : ∃ k, t.k = k := ⟨_, rfl⟩
  obtain ⟨s, hsn⟩ : ∃ s, t.s = s := ⟨_, rfl⟩
  obtain ⟨u, hun⟩ : ∃ u, t.t = u := ⟨_, rfl⟩
  obtain ⟨a, han⟩ : ∃ a, t.a = a := ⟨_, rfl⟩
  obtain ⟨b, hbn⟩ : ∃ b, t.b = b := ⟨_, rfl⟩
  rw [han, hbn] at HAB HC
  rw [hk, hsn, hun, han, hbn, HAB.out]
  clear hk hsn hun han hbn HAB ha hb hna hnb
  have B0 : Below w.heap.size w ((w.alloc (.cells #[.int .i64 k, .string s, .string u, .slice xo xn xc, .slice yo a.length yc, .slice zo b.length zc] 31)).alloc (.cells #[.slice yo a.length yc, .slice zo b.length zc] 29)) := ((Below.refl _ _).alloc (Nat.le_refl _) _).alloc (by simp) _
  go_enter Tryz.func33, Tryz.ntmps33
  go_wp2_with fail
  refine (HC.out _ B0 (w.heap.size + 1) ?_ ?_).mono ?_
  · go_simp
  · go_simp
  rintro e w1 ⟨v, rfl, hr, hb1⟩
  have B1 := B0.trans (hb1.mono (by simp; omega))
  have HR := Hid.mk hr
  clear B0 hb1 HC hr
  go_wp2
  go_ret
  exact ⟨_, rfl, HR.out, B1⟩
end Go.Proofs.YtbbhikbdbndefaaGreat

namespace Go.Proofs.YtbbhikbdbndefaaGreat
open Go.RowKit
set_option maxRecDepth 8000

def RoomY (f : Nat) : Prop := ∀ (t : St) (B : Nat → Prop) (vx va vb : Value) (w : World) (r : Int), El w B t.x vx → Sl w B t.a va → Sl w B t.b vb → ShY t → 0 ≤ r → r ≤ 60 →
  Calls Tryz.prog 31 #[st t.k t.s t.t vx va vb, .int .i64 (f : Int), .int .i64 r, .func (.func 32) #[] #[], .func (.func 33) #[] #[]] w fun e w' => e = .returned (.int .i64 (roomS f t r)) ∧ Below w.heap.size w w'

theorem roomY_zero : RoomY 0 := by
  intro t B vx va vb w r hx ha hb hs h0 h1
  obtain ⟨xo, xc, rfl, -, -, -⟩ := hx.len
  obtain ⟨yo, yc, rfl, -, -, -⟩ := ha.len
  obtain ⟨zo, zc, rfl, -, -, -⟩ := hb.len
  obtain ⟨k, hk⟩ : ∃ k, t.k = k := ⟨_, rfl⟩
  obtain ⟨s, hsn⟩ : ∃ s, t.s = s := ⟨_, rfl⟩
  obtain ⟨u, hun⟩ : ∃ u, t.t = u := ⟨_, rfl⟩
  have HR : Hid (roomS 0 t r = -1) := rfl
  rw [hk, hsn, hun]
  clear hx ha hb
  go_enter Tryz.func31, Tryz.ntmps31
  go_wp2
  go_ret
  exact ⟨ret_i HR.out.symm, (Below.refl _ _).alloc (Nat.le_refl _) _⟩

theorem ShY.ab {t : St} (h : ShY t) : ∀ y ∈ t.ab, ShY y := by
  intro y hy z hz
  rcases List.mem_append.1 hy with hy | hy
  · exact h z (.sa hy hz)
  · exact h z (.sb hy hz)

theorem nodeP_len {t : St} (h : nodeP t = true) : t.a.length ≤ 60 ∧ t.b.length ≤ 60 := by
  unfold nodeP at h
  simp only [Bool.and_eq_true, decide_eq_true_eq] at h
  omega

set_option maxHeartbeats 2000000 in
theorem roomY_succ (f : Nat) (hf : f ≤ 4) (ih : RoomY f) : RoomY (f + 1) := by
  intro t B vx va vb w r hx ha hb hs h0 h1
  have HSUB := Hid.mk hs.ab
  have HLEN := Hid.mk (nodeP_len (t := t))
  have hs0 := hs t (.self t)
  have HPT := Hid.mk (fun (hl : t.a.length ≤ 60 ∧ t.b.length ≤ 60) (w' : World) (hw : Below w.heap.size w w') => stmtParts_any t B vx va vb w' (by obtain ⟨o, c, e, -⟩ := hx.len; exact ⟨o, _, c, e⟩) (ha.grow hw) (hb.grow hw) hl.1 hl.2)
  obtain ⟨xo, xc, rfl, -, -, -⟩ := hx.len
  obtain ⟨yo, yc, rfl, -, -, -⟩ := ha.len
  obtain ⟨zo, zc, rfl, -, -, -⟩ := hb.len
  have HNB := Hid.mk (fun (w' : World) (hw : Below w.heap.size w w') => stmtNode_any t B xo xc yo yc zo zc w' (hx.grow hw) (by unfold maxLen; omega) (by unfold maxLen; omega) hs0.2.2)
  have HE : Hid (roomS (f + 1) t r = if r = 0 ∨ nodeP t = false then -1 else t.ab.foldl (roomSG (roomS f)) (r - 1)) := rfl
  obtain ⟨R, hR⟩ : ∃ R, roomS (f + 1) t r = R := ⟨_, rfl⟩
  obtain ⟨nb, hnb⟩ : ∃ nb, nodeP t = nb := ⟨_, rfl⟩
  obtain ⟨k, hk⟩ : ∃ k, t.k = k := ⟨_, rfl⟩
  obtain ⟨s, hsn⟩ : ∃ s, t.s = s := ⟨_, rfl⟩
  obtain ⟨u, hun⟩ : ∃ u, t.t = u := ⟨_, rfl⟩
  obtain ⟨x, hxn⟩ : ∃ x, t.x = x := ⟨_, rfl⟩
  obtain ⟨a, han⟩ : ∃ a, t.a = a := ⟨_, rfl⟩
  obtain ⟨b, hbn⟩ : ∃ b, t.b = b := ⟨_, rfl⟩
  obtain ⟨l, hln⟩ : ∃ l, t.ab = l := ⟨_, rfl⟩
  rw [hk, hsn, hun, hxn, han, hbn, hnb] at HNB
  rw [hk, hsn, hun, hxn, han, hbn, hln] at HPT
  rw [hR, hnb, hln] at HE
  rw [hln] at HSUB
  rw [hnb, han, hbn] at HLEN
  rw [hk, hsn, hun, hxn, han, hbn, hR]
  clear hR hnb hk hsn hun hxn han hbn hln hs hs0 hx ha hb
  have HI := Hid.mk ih
  clear ih
  have B0 : Below w.heap.size w (w.alloc (.cells #[.int .i64 k, .string s, .string u, .slice xo x.length xc, .slice yo a.length yc, .slice zo b.length zc] 31)) := (Below.refl _ _).alloc (Nat.le_refl _) _
  obtain ⟨d, hd⟩ : ∃ d : Int, ((f + 1 : Nat) : Int) = d := ⟨_, rfl⟩
  rw [hd]
  have hd6 : (d == 0) = false := beq_eq_false_iff_ne.2 (by omega)
  have hd7 : d - 1 = (f : Int) := by omega
  have hd8 : 0 ≤ d := by omega
  have hd9 : d ≤ 10 := by omega
  by_cases hr0 : r = 0
  · subst hr0
    have HR : Hid (R = -1) := by show _ = _; rw [HE.out, if_pos (Or.inl rfl)]
    clear HE HNB HI HPT HSUB HLEN
    go_enter Tryz.func31, Tryz.ntmps31
    go_wp2
    go_ret
    exact ⟨ret_i HR.out.symm, B0⟩
  have hrb : (r == 0) = false := beq_eq_false_iff_ne.2 hr0
  cases nb with
  | false =>
    have HR : Hid (R = -1) := by show _ = _; rw [HE.out, if_pos (Or.inr rfl)]
    clear HE HI HPT HSUB HLEN
    go_enter Tryz.func31, Tryz.ntmps31
    go_wp2_with fail
    refine (HNB.out _ B0).mono ?_
    rintro e w1 ⟨rfl, hb1⟩
    have B1 := B0.trans (hb1.mono (by simp))
    clear B0 hb1 HNB
    go_wp2
    go_ret
    exact ⟨ret_i HR.out.symm, B1⟩
  | true =>
    have HR : Hid (R = l.foldl (roomSG (roomS f)) (r - 1)) := by show _ = _; rw [HE.out, if_neg (by simpa using hr0)]
    have HPT := Hid.mk (HPT.out (HLEN.out rfl))
    clear HE HLEN
    go_enter Tryz.func31, Tryz.ntmps31
    go_wp2_with fail
    refine (HNB.out _ B0).mono ?_
    rintro e w1 ⟨rfl, hb1⟩
    have B1 := B0.trans (hb1.mono (by simp))
    have hc1 := fun o => hb1.cell (p := ⟨w.heap.size, o, none⟩) (by simp)
    have hs1 := hb1.size
    simp at hs1
    clear B0 hb1 HNB
    have hr1 : 0 ≤ r - 1 := by omega
    go_wp2_with fail
    refine (HPT.out _ B1).mono ?_
    rintro e w2 ⟨v, rfl, hl, hb2⟩
    have B2 := B1.trans (hb2.mono B1.size)
    have s2 : w.heap.size ≤ w2.heap.size := B2.size
    obtain ⟨ao, cap, rfl, hl1, hl2, hl3⟩ := hl.len
    have hm : cap ≤ 9223372036854775807 := by unfold maxLen at hl2; omega
    have HH := Hid.mk hl
    clear B1 hb2 hc1 HPT hl hl2
    go_wp2
    go_loopw [2, 31] (fun q i wr => ∃ (k : Nat) (m : Int), k ≤ l.length ∧ i = .int .i64 k ∧ q = .int .i64 m ∧ 0 ≤ m ∧ m ≤ 60 ∧ Hid (m = (l.take k).foldl (roomSG (roomS f)) (r - 1)) ∧ Below w2.heap.size w2 wr) (fun _ i _ => l.length - (intOf i).toNat)
    case atStart => exact ⟨0, r - 1, Nat.zero_le _, rfl, rfl, by omega, by omega, rfl, Below.refl _ _⟩
    case round =>
      obtain ⟨k, m, hk, rfl, rfl, m0, m1, Hm, hbel⟩ := hrel
      by_cases hkl : k < l.length
      · obtain ⟨bb, off, X, Y, Z, rfl, hel⟩ := HH.out.elems (by intro hn; rw [hn] at hkl; simp at hkl)
        obtain ⟨h3, hx, ha, hz, -, -⟩ := hel k hkl
        have HT := Hid.mk (roomS_take (f := f) l k (r - 1) hkl)
        have HC := Hid.mk (roomS_cut (f := f) l (k + 1) (r - 1))
        have hall : ShY l[k] := HSUB.out _ (List.getElem_mem hkl)
        obtain ⟨t, ht⟩ : ∃ t, l[k] = t := ⟨_, rfl⟩
        rw [ht] at h3 hx ha hz HT hall
        clear ht hel
        obtain ⟨c0, c1, c2, c3, c4, c5⟩ := h3.kept (w' := wr) (hbel.block bb (World.block_lt_of_cell? w2 _ h3.1))
        have hs1 := hbel.size
        have HCall := Hid.mk (fun (w' : World) (hw : Below w2.heap.size w2 w') => HI.out t anyBlock (X k) (Y k) (Z k) w' m (hx.grow hw) (ha.grow hw) (hz.grow hw) hall m0 m1)
        obtain ⟨bd0, bd1⟩ := roomS_bd f t m m0
        obtain ⟨xo', xc', hxv, -, -, -⟩ := hx.len
        obtain ⟨yo', yc', hyv, -, -, -⟩ := ha.len
        obtain ⟨zo', zc', hzv, -, -, -⟩ := hz.len
        rw [hxv] at c3 HCall
        rw [hyv] at c4 HCall
        rw [hzv] at c5 HCall
        obtain ⟨tk, htk⟩ : ∃ tk, t.k = tk := ⟨_, rfl⟩
        obtain ⟨ts, hts⟩ : ∃ ts, t.s = ts := ⟨_, rfl⟩
        obtain ⟨tu, htu⟩ : ∃ tu, t.t = tu := ⟨_, rfl⟩
        obtain ⟨nx, hnx⟩ : ∃ n, t.x.length = n := ⟨_, rfl⟩
        obtain ⟨ny, hny⟩ : ∃ n, t.a.length = n := ⟨_, rfl⟩
        obtain ⟨nz, hnz⟩ : ∃ n, t.b.length = n := ⟨_, rfl⟩
        rw [htk, hts, htu, hnx, hny, hnz] at HCall
        rw [htk] at c0
        rw [hts] at c1
        rw [htu] at c2
        rw [hnx] at c3
        rw [hny] at c4
        rw [hnz] at c5
        obtain ⟨q, hq⟩ : ∃ q, roomS f t m = q := ⟨_, rfl⟩
        rw [hq] at bd0 bd1 HCall
        have HQ : Hid ((l.take (k + 1)).foldl (roomSG (roomS f)) (r - 1) = q) := by
          show _ = _
          rw [HT.out, ← Hm.out, roomSG, if_neg (by omega), hq]
        have hi1 : (k : Int) < (l.length : Int) := by omega
        have B3 := hbel.alloc hs1 (.cells #[.int .i64 tk, .string ts, .string tu, .slice xo' nx xc', .slice yo' ny yc', .slice zo' nz zc'] 31)
        clear hx ha hz h3 hxv hyv hzv HT Hm hq htk hts htu hnx hny hnz hbel hall
        by_cases hq0 : q < 0
        · have HF : Hid (R = -1) := by show _ = _; rw [HR.out]; exact HC.out (by rw [HQ.out]; omega)
          clear HQ HC
          go_wp2_with fail
          refine (HCall.out _ B3).mono ?_
          rintro e w3 ⟨rfl, hb3⟩
          have B4 := B2.trans ((B3.trans (hb3.mono (by simp; omega))).mono s2)
          clear B3 hb3 HCall B2
          go_wp2
          go_ret
          exact ⟨ret_i HF.out.symm, B4⟩
        · clear HC
          go_wp2_with fail
          refine (HCall.out _ B3).mono ?_
          rintro e w3 ⟨rfl, hb3⟩
          have B4 := B3.trans (hb3.mono (by simp; omega))
          clear B3 hb3 HCall
          go_wp2
          go_roundw
          case rel => exact ⟨k + 1, q, by omega, by go_num, rfl, by omega, by omega, HQ.out.symm, B4⟩
          case measure => simp [intOf]; omega
      · have e : k = l.length := by omega
        subst e
        have HF : Hid (R = m) := by show _ = _; rw [HR.out, Hm.out, List.take_length]
        have B4 := B2.trans (hbel.mono s2)
        clear Hm
        go_wp2
        go_ret
        exact ⟨ret_i HF.out.symm, B4⟩

theorem implStmtOk_any (t : St) (B : Nat → Prop) (vx va vb : Value) (w : World) (hx : El w B t.x vx) (ha : Sl w B t.a va) (hb : Sl w B t.b vb) (hs : ShY t) :
    Calls Tryz.prog 11 #[st t.k t.s t.t vx va vb] w fun e w' => e = .returned (.bool (okS t)) ∧ Below w.heap.size w w' := by
  have R5 : RoomY 5 := roomY_succ 4 (by omega) (roomY_succ 3 (by omega) (roomY_succ 2 (by omega) (roomY_succ 1 (by omega) (roomY_succ 0 (by omega) roomY_zero))))
  have HC := Hid.mk (fun (w' : World) (hw : Below w.heap.size w w') => R5 t B vx va vb w' 60 (hx.grow hw) (ha.grow hw) (hb.grow hw) hs (by omega) (by omega))
  have HO := Hid.mk (okS_room t)
  obtain ⟨xo, xc, rfl, -, -, -⟩ := hx.len
  obtain ⟨yo, yc, rfl, -, -, -⟩ := ha.len
  obtain ⟨zo, zc, rfl, -, -, -⟩ := hb.len
  obtain ⟨r, hr⟩ : ∃ b, okS t = b := ⟨_, rfl⟩
  obtain ⟨q, hq⟩ : ∃ q, roomS 5 t 60 = q := ⟨_, rfl⟩
  obtain ⟨k, hk⟩ : ∃ k, t.k = k := ⟨_, rfl⟩
  obtain ⟨s, hsn⟩ : ∃ s, t.s = s := ⟨_, rfl⟩
  obtain ⟨u, hun⟩ : ∃ u, t.t = u := ⟨_, rfl⟩
  obtain ⟨x, hxn⟩ : ∃ x, t.x = x := ⟨_, rfl⟩
  obtain ⟨a, han⟩ : ∃ a, t.a = a := ⟨_, rfl⟩
  obtain ⟨b, hbn⟩ : ∃ b, t.b = b := ⟨_, rfl⟩
  rw [hk, hsn, hun, hxn, han, hbn, hq] at HC
  rw [hr, hq] at HO
  rw [hk, hsn, hun, hxn, han, hbn, hr]
  have B0 : Below w.heap.size w (w.alloc (.cells #[.int .i64 k, .string s, .string u, .slice xo x.length xc, .slice yo a.length yc, .slice zo b.length zc] 31)) := (Below.refl _ _).alloc (Nat.le_refl _) _
  clear hx ha hb hs hk hsn hun hxn han hbn hr hq R5
  go_enter Tryz.func11, Tryz.ntmps11
  go_wp2_with fail
  refine (HC.out _ B0).mono ?_
  rintro e w1 ⟨rfl, hb1⟩
  have B1 := B0.trans (hb1.mono (by simp))
  clear B0 hb1 HC
  go_wp2
  go_ret
  exact ⟨ret_b HO.out, B1⟩
end Go.Proofs.YtbbhikbdbndefaaGreat

namespace Go.Proofs.YtbbhikbdbndefaaGreat
open Go.RowKit
set_option maxRecDepth 8000

def EqX (l : List Ex) : Prop := ∀ (B C : Nat → Prop) (v u : Value) (w : World), El w B l v → El w C l u →
  Calls Tryz.prog 34 #[v, u] w fun e w' => e = .returned (.bool true) ∧ Below w.heap.size w w'

theorem eqExpr_of (t : Ex) (ih : EqX t.l) (B C : Nat → Prop) (v u : Value) (w : World) (h : El w B t.l v) (h' : El w C t.l u) :
    Calls Tryz.prog 24 #[xx t.k t.n t.s v, xx t.k t.n t.s u] w fun e w' => e = .returned (.bool true) ∧ Below w.heap.size w w' := by
  obtain ⟨k, hk⟩ : ∃ k, t.k = k := ⟨_, rfl⟩
  obtain ⟨n, hnn⟩ : ∃ n, t.n = n := ⟨_, rfl⟩
  obtain ⟨s, hsn⟩ : ∃ s, t.s = s := ⟨_, rfl⟩
  obtain ⟨l, hln⟩ : ∃ l, t.l = l := ⟨_, rfl⟩
  rw [hk, hnn, hsn]
  rw [hln] at h h' ih
  clear hk hnn hsn hln
  have B0 : Below w.heap.size w ((w.alloc (.cells #[.int .i64 k, .int .i64 n, .string s, v] 46)).alloc (.cells #[.int .i64 k, .int .i64 n, .string s, u] 46)) := ((Below.refl _ _).alloc (Nat.le_refl _) _).alloc (by simp) _
  have HI := Hid.mk ih
  have H1 := Hid.mk (h.grow B0)
  have H2 := Hid.mk (h'.grow B0)
  obtain ⟨ao, cap, rfl, hl1, hl2, hl3⟩ := h.len
  obtain ⟨ao', cap', rfl, hl1', hl2', hl3'⟩ := h'.len
  have hkk : (k != k) = false := by simp
  have hn2 : (n != n) = false := by simp
  have hss : (s.toList != s.toList) = false := by simp
  clear ih h h' hl1 hl2 hl3 hl1' hl2' hl3'
  go_enter Tryz.func24, Tryz.ntmps24
  go_wp2_with fail
  refine (HI.out _ _ _ _ _ H1.out H2.out).mono ?_
  rintro e w1 ⟨rfl, hb1⟩
  have B1 := B0.trans (hb1.mono (by simp; omega))
  clear B0 hb1 HI H1 H2
  go_wp2
  go_ret
  exact ⟨rfl, B1⟩

theorem eqExprS_step (l : List Ex) (ih : ∀ x ∈ l, EqX x.l) : EqX l := by
  intro B C v u w h h'
  obtain ⟨ao, cap, rfl, hl1, hl2, hl3⟩ := h.len
  obtain ⟨ao', cap', rfl, hl1', hl2', hl3'⟩ := h'.len
  have hm : cap ≤ 9223372036854775807 := by unfold maxLen at hl2; omega
  have HI := Hid.mk ih
  have H1 := Hid.mk h
  have H2 := Hid.mk h'
  clear ih h h' hl2 hl2'
  go_enter Tryz.func34, Tryz.ntmps34
  go_wp2
  go_loopw [5] (fun i wr => ∃ (k : Nat), k ≤ l.length ∧ i = .int .i64 k ∧ Below w.heap.size w wr) (fun i _ => l.length - (intOf i).toNat)
  case atStart => exact ⟨0, Nat.zero_le _, rfl, Below.refl _ _⟩
  case round =>
    obtain ⟨k, hk, rfl, hbel⟩ := hrel
    by_cases hkl : k < l.length
    · obtain ⟨b, off, V, rfl, hel⟩ := H1.out.elems (by intro hn; rw [hn] at hkl; simp at hkl)
      obtain ⟨b', off', V', rfl, hel'⟩ := H2.out.elems (by intro hn; rw [hn] at hkl; simp at hkl)
      obtain ⟨h3, hsub, hss⟩ := hel k hkl
      obtain ⟨h3', hsub', _⟩ := hel' k hkl
      have hsz : EqX l[k].l := HI.out _ (List.getElem_mem hkl)
      obtain ⟨t, ht⟩ : ∃ t, l[k] = t := ⟨_, rfl⟩
      rw [ht] at h3 hsub h3' hsub' hsz
      clear ht hel hel' hss
      obtain ⟨c0, cn, c1, c2⟩ := h3.kept (w' := wr) (hbel.block b (World.block_lt_of_cell? w _ h3.1))
      obtain ⟨d0, dn, d1, d2⟩ := h3'.kept (w' := wr) (hbel.block b' (World.block_lt_of_cell? w _ h3'.1))
      have a0 := cell_regrown c0
      have an := cell_regrown cn
      have a1 := cell_regrown c1
      have a2 := cell_regrown c2
      have b0 := cell_regrown d0
      have bn := cell_regrown dn
      have b1 := cell_regrown d1
      have b2 := cell_regrown d2
      have hg := hsub.grow hbel
      have hg' := hsub'.grow hbel
      have cA := Hid.mk (fun d os => Calls.regrown_of (w := wr) (d := d) (os := os) (eqExpr_of t hsz B C (V k) (V' k) _ (hg.grow (below_regrown wr d os)) (hg'.grow (below_regrown wr d os))))
      have hi1 : (k : Int) < (l.length : Int) := by omega
      clear hsub hsub' hsz h3 h3' c0 cn c1 c2 d0 dn d1 d2 hg hg'
      go_wp2_with fail
      refine wp_region_quiet_below (by kernel_rfl) (by kernel_rfl) ?_
      quiet_step (fail)
      quiet_step (fail)
      quiet_step (fail)
      quiet_step (fail)
      quiet_step (fail)
      quiet_step (fail)
      quiet_step (fail)
      quiet_step (fail)
      quiet_step (exact cA.out _ _)
      quiet_step (fail)
      refine wpQuiet_nil ?_
      intro w6 hw'
      obtain ⟨⟨dq, osq⟩, hw''⟩ := hw'
      have hb6 : Below wr.heap.size wr w6 := by rw [hw'']; exact below_regrown _ _ _
      have B6 := hbel.trans (hb6.mono hbel.size)
      clear hw'' a0 an a1 a2 b0 bn b1 b2 cA hb6
      go_wp2
      go_roundw
      case rel => exact ⟨k + 1, by omega, by go_num, B6⟩
      case measure => simp [intOf]; omega
    · go_wp2
      go_ret
      exact ⟨rfl, hbel⟩

theorem eqExprS_any (l : List Ex) : EqX l := (Ex.ind (P := fun t => EqX t.l) (fun t ih => eqExprS_step t.l ih) (.node 0 0 ⟨#[]⟩ l))
theorem eqExpr_any (t : Ex) (B C : Nat → Prop) (v u : Value) (w : World) (h : El w B t.l v) (h' : El w C t.l u) :
    Calls Tryz.prog 24 #[xx t.k t.n t.s v, xx t.k t.n t.s u] w fun e w' => e = .returned (.bool true) ∧ Below w.heap.size w w' := eqExpr_of t (eqExprS_any t.l) B C v u w h h'
end Go.Proofs.YtbbhikbdbndefaaGreat

namespace Go.Proofs.YtbbhikbdbndefaaGreat
open Go.RowKit
set_option maxRecDepth 8000

def EqY (l : List St) : Prop := ∀ (B C : Nat → Prop) (v u : Value) (w : World), Sl w B l v → Sl w C l u →
  Calls Tryz.prog 19 #[v, u] w fun e w' => e = .returned (.bool true) ∧ Below w.heap.size w w'

set_option maxHeartbeats 1000000 in
theorem eqStmt_of (t : St) (iha : EqY t.a) (ihb : EqY t.b) (B C : Nat → Prop) (vx va vb ux ua ub : Value) (w : World) (hx : El w B t.x vx) (ha : Sl w B t.a va) (hb : Sl w B t.b vb) (hx' : El w C t.x ux) (ha' : Sl w C t.a ua) (hb' : Sl w C t.b ub) :
    Calls Tryz.prog 12 #[st t.k t.s t.t vx va vb, st t.k t.s t.t ux ua ub] w fun e w' => e = .returned (.bool true) ∧ Below w.heap.size w w' := by
  obtain ⟨k, hk⟩ : ∃ k, t.k = k := ⟨_, rfl⟩
  obtain ⟨s, hsn⟩ : ∃ s, t.s = s := ⟨_, rfl⟩
  obtain ⟨u, hun⟩ : ∃ u, t.t = u := ⟨_, rfl⟩
  obtain ⟨x, hxn⟩ : ∃ x, t.x = x := ⟨_, rfl⟩
  obtain ⟨a, han⟩ : ∃ a, t.a = a := ⟨_, rfl⟩
  obtain ⟨b, hbn⟩ : ∃ b, t.b = b := ⟨_, rfl⟩
  rw [hk, hsn, hun]
  rw [hxn] at hx hx'
  rw [han] at ha ha' iha
  rw [hbn] at hb hb' ihb
  clear hk hsn hun hxn han hbn
  have HX := Hid.mk (fun (w' : World) (hw : Below w.heap.size w w') => eqExprS_any x B C vx ux w' (hx.grow hw) (hx'.grow hw))
  have HA := Hid.mk (fun (w' : World) (hw : Below w.heap.size w w') => iha B C va ua w' (ha.grow hw) (ha'.grow hw))
  have HB := Hid.mk (fun (w' : World) (hw : Below w.heap.size w w') => ihb B C vb ub w' (hb.grow hw) (hb'.grow hw))
  obtain ⟨xo, xc, rfl, -, -, -⟩ := hx.len
  obtain ⟨xo', xc', rfl, -, -, -⟩ := hx'.len
  obtain ⟨ao, ac, rfl, -, -, -⟩ := ha.len
  obtain ⟨ao', ac', rfl, -, -, -⟩ := ha'.len
  obtain ⟨bo, bc, rfl, -, -, -⟩ := hb.len
  obtain ⟨bo', bc', rfl, -, -, -⟩ := hb'.len
  have B0 : Below w.heap.size w ((w.alloc (.cells #[.int .i64 k, .string s, .string u, .slice xo x.length xc, .slice ao a.length ac, .slice bo b.length bc] 31)).alloc (.cells #[.int .i64 k, .string s, .string u, .slice xo' x.length xc', .slice ao' a.length ac', .slice bo' b.length bc'] 31)) := ((Below.refl _ _).alloc (Nat.le_refl _) _).alloc (by simp) _
  have hkk : (k != k) = false := by simp
  have hss : (s.toList != s.toList) = false := by simp
  have huu : (u.toList != u.toList) = false := by simp
  clear hx hx' ha ha' hb hb' iha ihb
  go_enter Tryz.func12, Tryz.ntmps12
  go_wp2_with fail
  refine (HX.out _ B0).mono ?_
  rintro e w1 ⟨rfl, hb1⟩
  have B1 := B0.trans (hb1.mono (by simp; omega))
  have hc1 := fun o => hb1.cell (p := ⟨w.heap.size, o, none⟩) (by simp; omega)
  have hd1 := fun o => hb1.cell (p := ⟨w.heap.size + 1, o, none⟩) (by simp)
  have s1 : w.heap.size + 2 ≤ w1.heap.size := by have := hb1.size; simp at this; omega
  clear B0 hb1 HX
  go_wp2_with fail
  refine (HA.out _ B1).mono ?_
  rintro e w2 ⟨rfl, hb2⟩
  have B2 := B1.trans (hb2.mono (by omega))
  have hc2 := fun o => hb2.cell (p := ⟨w.heap.size, o, none⟩) (by simp; omega)
  have hd2 := fun o => hb2.cell (p := ⟨w.heap.size + 1, o, none⟩) (by simp; omega)
  have s2 : w.heap.size + 2 ≤ w2.heap.size := Nat.le_trans s1 hb2.size
  clear B1 hb2 HA
  go_wp2_with fail
  refine (HB.out _ B2).mono ?_
  rintro e w3 ⟨rfl, hb3⟩
  have B3 := B2.trans (hb3.mono (by omega))
  clear B2 hb3 HB hc1 hd1 hc2 hd2
  go_wp2
  go_ret
  exact ⟨rfl, B3⟩

set_option maxHeartbeats 1000000 in
theorem eqStmtS_step (l : List St) (ih : ∀ x ∈ l, EqY x.a ∧ EqY x.b) : EqY l := by
  intro B C v u w h h'
  obtain ⟨ao, cap, rfl, hl1, hl2, hl3⟩ := h.len
  obtain ⟨ao', cap', rfl, hl1', hl2', hl3'⟩ := h'.len
  have hm : cap ≤ 9223372036854775807 := by unfold maxLen at hl2; omega
  have HI := Hid.mk ih
  have H1 := Hid.mk h
  have H2 := Hid.mk h'
  clear ih h h' hl2 hl2'
  go_enter Tryz.func19, Tryz.ntmps19
  go_wp2
  go_loopw [5] (fun i wr => ∃ (k : Nat), k ≤ l.length ∧ i = .int .i64 k ∧ Below w.heap.size w wr) (fun i _ => l.length - (intOf i).toNat)
  case atStart => exact ⟨0, Nat.zero_le _, rfl, Below.refl _ _⟩
  case round =>
    obtain ⟨k, hk, rfl, hbel⟩ := hrel
    by_cases hkl : k < l.length
    · obtain ⟨b, off, X, Y, Z, rfl, hel⟩ := H1.out.elems (by intro hn; rw [hn] at hkl; simp at hkl)
      obtain ⟨b', off', X', Y', Z', rfl, hel'⟩ := H2.out.elems (by intro hn; rw [hn] at hkl; simp at hkl)
      obtain ⟨h3, hx, ha, hz, -⟩ := hel k hkl
      obtain ⟨h3', hx', ha', hz', -⟩ := hel' k hkl
      have hsz := HI.out _ (List.getElem_mem hkl)
      obtain ⟨t, ht⟩ : ∃ t, l[k] = t := ⟨_, rfl⟩
      rw [ht] at h3 hx ha hz h3' hx' ha' hz' hsz
      clear ht hel hel'
      obtain ⟨c0, c1, c2, c3, c4, c5⟩ := h3.kept (w' := wr) (hbel.block b (World.block_lt_of_cell? w _ h3.1))
      obtain ⟨d0, d1, d2, d3, d4, d5⟩ := h3'.kept (w' := wr) (hbel.block b' (World.block_lt_of_cell? w _ h3'.1))
      have a0 := cell_regrown c0
      have a1 := cell_regrown c1
      have a2 := cell_regrown c2
      have a3 := cell_regrown c3
      have a4 := cell_regrown c4
      have a5 := cell_regrown c5
      have b0 := cell_regrown d0
      have b1 := cell_regrown d1
      have b2 := cell_regrown d2
      have b3 := cell_regrown d3
      have b4 := cell_regrown d4
      have b5 := cell_regrown d5
      have cA := Hid.mk (fun d os => Calls.regrown_of (w := wr) (d := d) (os := os) (eqStmt_of t hsz.1 hsz.2 B C (X k) (Y k) (Z k) (X' k) (Y' k) (Z' k) _ ((hx.grow hbel).grow (below_regrown wr d os)) ((ha.grow hbel).grow (below_regrown wr d os)) ((hz.grow hbel).grow (below_regrown wr d os)) ((hx'.grow hbel).grow (below_regrown wr d os)) ((ha'.grow hbel).grow (below_regrown wr d os)) ((hz'.grow hbel).grow (below_regrown wr d os))))
      have hi1 : (k : Int) < (l.length : Int) := by omega
      clear hx ha hz hx' ha' hz' hsz h3 h3' c0 c1 c2 c3 c4 c5 d0 d1 d2 d3 d4 d5
      go_wp2_with fail
      refine wp_region_quiet_below (by kernel_rfl) (by kernel_rfl) ?_
      quiet_step (fail)
      quiet_step (fail)
      quiet_step (fail)
      quiet_step (fail)
      quiet_step (fail)
      quiet_step (fail)
      quiet_step (fail)
      quiet_step (fail)
      quiet_step (exact cA.out _ _)
      quiet_step (fail)
      refine wpQuiet_nil ?_
      intro w6 hw'
      obtain ⟨⟨dq, osq⟩, hw''⟩ := hw'
      have hb6 : Below wr.heap.size wr w6 := by rw [hw'']; exact below_regrown _ _ _
      have B6 := hbel.trans (hb6.mono hbel.size)
      clear hw'' a0 a1 a2 a3 a4 a5 b0 b1 b2 b3 b4 b5 cA hb6
      go_wp2
      go_roundw
      case rel => exact ⟨k + 1, by omega, by go_num, B6⟩
      case measure => simp [intOf]; omega
    · go_wp2
      go_ret
      exact ⟨rfl, hbel⟩

theorem eqStmtS_any (l : List St) : EqY l := (St.ind (P := fun t => EqY t.a ∧ EqY t.b) (fun t iha ihb => ⟨eqStmtS_step t.a iha, eqStmtS_step t.b ihb⟩) (.node 0 ⟨#[]⟩ ⟨#[]⟩ [] l [])).1
theorem eqStmt_any (t : St) (B C : Nat → Prop) (vx va vb ux ua ub : Value) (w : World) (hx : El w B t.x vx) (ha : Sl w B t.a va) (hb : Sl w B t.b vb) (hx' : El w C t.x ux) (ha' : Sl w C t.a ua) (hb' : Sl w C t.b ub) :
    Calls Tryz.prog 12 #[st t.k t.s t.t vx va vb, st t.k t.s t.t ux ua ub] w fun e w' => e = .returned (.bool true) ∧ Below w.heap.size w w' :=
  eqStmt_of t (eqStmtS_any t.a) (eqStmtS_any t.b) B C vx va vb ux ua ub w hx ha hb hx' ha' hb'
end Go.Proofs.YtbbhikbdbndefaaGreat

namespace Go.Proofs.YtbbhikbdbndefaaGreat
open Go.ChangeShapes Go.WideShapes Go.ChangeAt Go.RowKit

section
variable {H : Type} {enc : TypeId × Value → H} {P : Program} {w : World} {held : Bool}
theorem open_agg6 {r : Reach} {b0 base : Nat} {spare : Nat → Bool} {t : TypeId} {f0 f1 f2 f3 f4 f5 : Field} {v : Value} {d : DataW H} {p : List MemPlace} (hs : P.underlying t = some (.struct #[f0, f1, f2, f3, f4, f5]))
    (o0 : f0.offset = 0) (o1 : f1.offset = 1) (o2 : f2.offset = 2) (o3 : f3.offset = 3) (o4 : f4.offset = 4) (o5 : f5.offset = 5) (k0 : P.cellsOf f0.type = 1) (k1 : P.cellsOf f1.type = 1) (k2 : P.cellsOf f2.type = 1) (k3 : P.cellsOf f3.type = 1) (k4 : P.cellsOf f4.type = 1) (k5 : P.cellsOf f5.type = 1) (hC : P.cellsOf t = 6)
    (hv : Value.okWide P w r b0 t v) (h : DataW.Trod enc P w base spare held t v d p) :
    ∃ (v0 v1 v2 v3 v4 v5 : Value) (y0 y1 y2 y3 y4 y5 : DataW H × List MemPlace) (n : Nat), v = .agg #[v0, v1, v2, v3, v4, v5] ∧ DataW.trod enc P w base spare held n f0.type [v0] = some y0 ∧ DataW.trod enc P w base spare held n f1.type [v1] = some y1 ∧ DataW.trod enc P w base spare held n f2.type [v2] = some y2 ∧ DataW.trod enc P w base spare held n f3.type [v3] = some y3 ∧ DataW.trod enc P w base spare held n f4.type [v4] = some y4 ∧ DataW.trod enc P w base spare held n f5.type [v5] = some y5 := by
  obtain ⟨cs, rfl, hsz⟩ := Go.WideShapes.okWide_struct hs hv
  obtain ⟨c0, c1, c2, c3, c4, c5, rfl⟩ : ∃ c0 c1 c2 c3 c4 c5, cs = #[c0, c1, c2, c3, c4, c5] := by
    obtain ⟨l⟩ := cs
    match l, hsz.trans hC with
    | [c0, c1, c2, c3, c4, c5], _ => exact ⟨c0, c1, c2, c3, c4, c5, rfl⟩
  obtain ⟨fuel, hf⟩ := h
  obtain ⟨xs, k, hk, hxy, _, hxl, hf⟩ := DataW.trod_struct hs hf
  have g0 := hf 0 f0 rfl
  have g1 := hf 1 f1 rfl
  have g2 := hf 2 f2 rfl
  have g3 := hf 3 f3 rfl
  have g4 := hf 4 f4 rfl
  have g5 := hf 5 f5 rfl
  simp [o0, o1, o2, o3, o4, o5, k0, k1, k2, k3, k4, k5, Value.cells] at g0 g1 g2 g3 g4 g5
  have hxl' : xs.length = 6 := by simpa using hxl
  rw [List.getElem?_eq_getElem (by omega)] at g0 g1 g2 g3 g4 g5
  exact ⟨c0, c1, c2, c3, c4, c5, _, _, _, _, _, _, _, rfl, g0, g1, g2, g3, g4, g5⟩
end
end Go.Proofs.YtbbhikbdbndefaaGreat

namespace Go.Proofs.YtbbhikbdbndefaaGreat
open Go.RowKit

theorem szx_mem {y : Ex} {l : List Ex} (h : y ∈ l) : y.sz ≤ szx l := by
  induction l with
  | nil => cases h
  | cons t r ih =>
    rw [szx]
    rcases List.mem_cons.1 h with rfl | h
    · omega
    · have := ih h; omega
theorem inX_sz {x t : Ex} (h : InX x t) : x.s.size ≤ t.sz := by
  induction h with
  | self => have := x.sz_eq; omega
  | @sub y t h hx ih =>
    have := szx_mem h
    have := t.sz_eq
    omega
end Go.Proofs.YtbbhikbdbndefaaGreat

namespace Go.Proofs.YtbbhikbdbndefaaGreat
open Go.RowKit
set_option maxRecDepth 8000

theorem inY_sz {y t : St} (h : InY y t) : y.sz ≤ t.sz := by
  induction h with
  | self => exact Nat.le_refl _
  | @sa y t h hx ih => have := szy_mem h; have := t.sz_eq; omega
  | @sb y t h hx ih => have := szy_mem h; have := t.sz_eq; omega
theorem shY_of {t : St} (h : t.sz ≤ 1048576) : ShY t := by
  intro y hy
  have h1 := inY_sz hy
  have h2 := y.sz_eq
  refine ⟨by omega, by omega, fun e he x hx => ?_⟩
  have h3 := szx_mem he
  have h4 := inX_sz hx
  omega

set_option maxHeartbeats 1000000 in
theorem fnExactStmtOk_walk (t : St) (vx va vb : Value) (w : World) (hx : El w anyBlock t.x vx) (ha : Sl w anyBlock t.a va) (hb : Sl w anyBlock t.b vb) (hs : t.s.size ≤ maxLen) (hu : t.t.size ≤ maxLen) :
    Calls Tryz.prog 3 #[st t.k t.s t.t vx va vb] w fun e w' => e = .returned (.bool true) ∧ Below w.heap.size w w' := by
  have HS := Hid.mk (fun (w' : World) (hw : Below w.heap.size w w') => szStmt_any t anyBlock vx va vb w' 1048576 (hx.grow hw) (ha.grow hw) (hb.grow hw) hs hu (by omega) (by omega))
  have HT := Hid.mk (fun hz (w' : World) (hw : Below w.heap.size w w') => toStmt_any t anyBlock vx va vb w' (hx.grow hw) (ha.grow hw) (hb.grow hw) hz)
  have HSO := Hid.mk (fun (hz : ShY t) (w' : World) (B : Nat → Prop) (ux ua ub : Value) (h1 : El w' B t.x ux) (h2 : Sl w' B t.a ua) (h3 : Sl w' B t.b ub) => specStmtOk_any t B ux ua ub w' h1 h2 h3 hz)
  have HIO := Hid.mk (fun (hz : ShY t) (w' : World) (B : Nat → Prop) (ux ua ub : Value) (h1 : El w' B t.x ux) (h2 : Sl w' B t.a ua) (h3 : Sl w' B t.b ub) => implStmtOk_any t B ux ua ub w' h1 h2 h3 hz)
  have HEQ := Hid.mk (fun (w' : World) (B C : Nat → Prop) (ux ua ub yx ya yb : Value) (h1 : El w' B t.x ux) (h2 : Sl w' B t.a ua) (h3 : Sl w' B t.b ub) (g1 : El w' C t.x yx) (g2 : Sl w' C t.a ya) (g3 : Sl w' C t.b yb) => eqStmt_any t B C ux ua ub yx ya yb w' h1 h2 h3 g1 g2 g3)
  have HZ : Hid (¬ leftOf 1048576 t.sz < 0 → t.sz ≤ 1048576) := by
    intro h
    unfold leftOf at h
    split at h <;> omega
  have HZ2 : Hid (t.sz ≤ 1048576 → ShY t) := shY_of
  obtain ⟨m, hm⟩ : ∃ m, leftOf 1048576 t.sz = m := ⟨_, rfl⟩
  obtain ⟨r, hr⟩ : ∃ b, okS t = b := ⟨_, rfl⟩
  obtain ⟨k, hk⟩ : ∃ k, t.k = k := ⟨_, rfl⟩
  obtain ⟨s, hsn⟩ : ∃ s, t.s = s := ⟨_, rfl⟩
  obtain ⟨u, hun⟩ : ∃ u, t.t = u := ⟨_, rfl⟩
  obtain ⟨x, hxn⟩ : ∃ x, t.x = x := ⟨_, rfl⟩
  obtain ⟨a, han⟩ : ∃ a, t.a = a := ⟨_, rfl⟩
  obtain ⟨b, hbn⟩ : ∃ b, t.b = b := ⟨_, rfl⟩
  rw [hk, hsn, hun, hm] at HS
  rw [hk, hsn, hun, hxn, han, hbn] at HT
  rw [hk, hsn, hun, hxn, han, hbn, hr] at HSO HIO
  rw [hk, hsn, hun, hxn, han, hbn] at HEQ
  rw [hm] at HZ
  rw [hxn] at hx
  rw [han] at ha
  rw [hbn] at hb
  rw [hk, hsn, hun]
  clear hm hr hk hsn hun hxn han hbn hs hu
  obtain ⟨xo, xc, rfl, -, -, -⟩ := hx.len
  obtain ⟨yo, yc, rfl, -, -, -⟩ := ha.len
  obtain ⟨zo, zc, rfl, -, -, -⟩ := hb.len
  have B0 : Below w.heap.size w (w.alloc (.cells #[.int .i64 k, .string s, .string u, .slice xo x.length xc, .slice yo a.length yc, .slice zo b.length zc] 25)) := (Below.refl _ _).alloc (Nat.le_refl _) _
  have hbb : (r != r) = false := by simp
  clear hx ha hb
  by_cases hm : m < 0
  · clear HT HSO HIO HEQ HZ HZ2
    go_enter Tryz.func3, Tryz.ntmps3
    go_wp2_with fail
    refine (HS.out _ B0).mono ?_
    rintro e w1 ⟨rfl, hb1⟩
    have B1 := B0.trans (hb1.mono (by simp))
    clear B0 hb1 HS
    go_wp2
    go_ret
    exact ⟨rfl, B1⟩
  · have HT' := Hid.mk (HT.out (HZ.out hm))
    have HSO := Hid.mk (HSO.out (HZ2.out (HZ.out hm)))
    have HIO := Hid.mk (HIO.out (HZ2.out (HZ.out hm)))
    clear HT HZ HZ2
    go_enter Tryz.func3, Tryz.ntmps3
    go_wp2_with fail
    refine (HS.out _ B0).mono ?_
    rintro e w1 ⟨rfl, hb1⟩
    have C1 : Hid (Below (w.heap.size + 1) (w.alloc (.cells #[.int .i64 k, .string s, .string u, .slice xo x.length xc, .slice yo a.length yc, .slice zo b.length zc] 25)) w1) := hb1.mono (by simp)
    have s1 := hb1.size
    simp at s1
    have hc1 := fun o => C1.out.cell (p := ⟨w.heap.size, o, none⟩) (by simp)
    clear hb1 HS
    go_wp2_with fail
    refine (HT'.out _ (B0.trans (C1.out.mono (by omega)))).mono ?_
    rintro e w2 ⟨ux, ua, ub, rfl, hrx2, hra2, hrb2, hb2⟩
    have C2 : Hid (Below (w.heap.size + 1) (w.alloc (.cells #[.int .i64 k, .string s, .string u, .slice xo x.length xc, .slice yo a.length yc, .slice zo b.length zc] 25)) w2) := C1.out.trans (hb2.mono (by omega))
    have s2 : w.heap.size + 1 ≤ w2.heap.size := Nat.le_trans s1 hb2.size
    clear hb2 C1 hc1 s1
    go_wp2_with fail
    refine (HSO.out _ _ _ _ _ hrx2 hra2 hrb2).mono ?_
    rintro e w3 ⟨rfl, hb3⟩
    have C3 : Hid (Below (w.heap.size + 1) (w.alloc (.cells #[.int .i64 k, .string s, .string u, .slice xo x.length xc, .slice yo a.length yc, .slice zo b.length zc] 25)) w3) := C2.out.trans (hb3.mono (by omega))
    have s3 : w.heap.size + 1 ≤ w3.heap.size := Nat.le_trans s2 hb3.size
    have hc3 := fun o => C3.out.cell (p := ⟨w.heap.size, o, none⟩) (by simp)
    clear hb3 C2 s2 hrx2 hra2 hrb2 HSO
    go_wp2_with fail
    refine (HT'.out _ (B0.trans (C3.out.mono (by omega)))).mono ?_
    rintro e w4 ⟨u4, u5, u6, rfl, hrx4, hra4, hrb4, hb4⟩
    have C4 : Hid (Below (w.heap.size + 1) (w.alloc (.cells #[.int .i64 k, .string s, .string u, .slice xo x.length xc, .slice yo a.length yc, .slice zo b.length zc] 25)) w4) := C3.out.trans (hb4.mono (by omega))
    have s4 : w.heap.size + 1 ≤ w4.heap.size := Nat.le_trans s3 hb4.size
    obtain ⟨a4, c4, rfl, -, -, -⟩ := hrx4.len
    obtain ⟨a5, c5, rfl, -, -, -⟩ := hra4.len
    obtain ⟨a6, c6, rfl, -, -, -⟩ := hrb4.len
    have B5 : Below w4.heap.size w4 (w4.alloc (.cells #[.int .i64 k, .string s, .string u, .slice a4 x.length c4, .slice a5 a.length c5, .slice a6 b.length c6] 31)) := (Below.refl _ _).alloc (Nat.le_refl _) _
    have HRX5 := Hid.mk (hrx4.any.grow B5)
    have HRA5 := Hid.mk (hra4.any.grow B5)
    have HRB5 := Hid.mk (hrb4.any.grow B5)
    clear hb4 C3 hc3 s3 hrx4 hra4 hrb4
    go_wp2_with fail
    refine (HIO.out _ _ _ _ _ HRX5.out HRA5.out HRB5.out).mono ?_
    rintro e w6 ⟨rfl, hb6⟩
    have D6 : Hid (Below (w4.heap.size + 1) (w4.alloc (.cells #[.int .i64 k, .string s, .string u, .slice a4 x.length c4, .slice a5 a.length c5, .slice a6 b.length c6] 31)) w6) := hb6.mono (by simp)
    have HRX6 := Hid.mk (HRX5.out.grow hb6)
    have HRA6 := Hid.mk (HRA5.out.grow hb6)
    have HRB6 := Hid.mk (HRB5.out.grow hb6)
    have C6 : Hid (Below (w.heap.size + 1) (w.alloc (.cells #[.int .i64 k, .string s, .string u, .slice xo x.length xc, .slice yo a.length yc, .slice zo b.length zc] 25)) w6) := C4.out.trans ((B5.trans (hb6.mono (by simp))).mono (by omega))
    have s6 : w4.heap.size + 1 ≤ w6.heap.size := by have := hb6.size; simpa using this
    clear hb6 HRX5 HRA5 HRB5 B5 C4 HIO
    have S0 : Hid (Below w6.heap.size w6 w6.drew) := Below.drewSelf _ _ 1
    have hxb : ∀ w', Below w6.heap.size w6 w' → ∀ o, w'.cell? ⟨w4.heap.size, o, none⟩ = (w4.alloc (.cells #[.int .i64 k, .string s, .string u, .slice a4 x.length c4, .slice a5 a.length c5, .slice a6 b.length c6] 31)).cell? ⟨w4.heap.size, o, none⟩ := by
      intro w' hb o
      rw [hb.cell (p := ⟨w4.heap.size, o, none⟩) (by simp; omega)]
      exact D6.out.cell (p := ⟨w4.heap.size, o, none⟩) (by simp)
    have hyb : ∀ w', Below w6.heap.size w6 w' → ∀ o, w'.cell? ⟨w.heap.size, o, none⟩ = (w.alloc (.cells #[.int .i64 k, .string s, .string u, .slice xo x.length xc, .slice yo a.length yc, .slice zo b.length zc] 25)).cell? ⟨w.heap.size, o, none⟩ := by
      intro w' hb o
      rw [hb.cell (p := ⟨w.heap.size, o, none⟩) (by simp; omega)]
      exact C6.out.cell (p := ⟨w.heap.size, o, none⟩) (by simp)
    have HX := Hid.mk hxb
    have HY := Hid.mk hyb
    clear hxb hyb
    go_wp2_with fail
    refine wp_region_held_drew (S := Below w6.heap.size w6) (by kernel_rfl) S0.out (fun _ => ?_)
    refine takeHD (i := 0) (v := st k s u (.slice a4 x.length c4) (.slice a5 a.length c5) (.slice a6 b.length c6)) (some 22) rfl rfl (by kernel_rfl) (by kernel_rfl) (by kernel_rfl) (fun _ _ _ h => h) (Or.inl ⟨by kernel_rfl, fun w' hw => ?_⟩) S0.out ?_
    · have hx := HX.out w' hw
      go_simp
    simp only [Act.put, List.setIfInBounds_toArray]
    refine takeHD (i := 1) (v := st k s u (.slice xo x.length xc) (.slice yo a.length yc) (.slice zo b.length zc)) (some 23) rfl rfl (by kernel_rfl) (by kernel_rfl) (by kernel_rfl) (fun _ _ _ h => h) (Or.inl ⟨by kernel_rfl, fun w' hw => ?_⟩) S0.out ?_
    · have hy := HY.out w' hw
      go_simp
    simp only [Act.put, List.setIfInBounds_toArray]
    refine wpAnyH_ready (rs := [2]) (by kernel_rfl) (by simp) ?_
    refine AllReadyH.cons rfl (fun K hK => ?_) AllReadyH.nil
    rw [if_pos (by kernel_rfl)]
    go_wp2_with fail
    refine (HT'.out _ (B0.trans ((C6.out.trans (S0.out.mono (by omega))).mono (by omega)))).mono ?_
    rintro e w7 ⟨x7, y7, z7, rfl, hrx7, hra7, hrb7, hb7⟩
    have S7 : Hid (Below w6.heap.size w6 w7) := S0.out.trans hb7
    refine hK.out _ _ S7.out (fun _ => ?_)
    clear hK K
    have HRX7 := Hid.mk (HRX6.out.grow S7.out)
    have HRA7 := Hid.mk (HRA6.out.grow S7.out)
    have HRB7 := Hid.mk (HRB6.out.grow S7.out)
    refine wpAnyH_ready (rs := [3]) (by kernel_rfl) (by simp) ?_
    refine AllReadyH.cons rfl (fun K hK => ?_) AllReadyH.nil
    rw [if_pos (by kernel_rfl)]
    go_wp2_with fail
    refine (HEQ.out _ _ _ _ _ _ _ _ _ HRX7.out HRA7.out HRB7.out hrx7 hra7 hrb7).mono ?_
    rintro e w8 ⟨rfl, hb8⟩
    have S8 : Hid (Below w6.heap.size w6 w8) := S7.out.trans (hb8.mono S7.out.size)
    refine hK.out _ _ S8.out (fun _ => ?_)
    clear hK K hrx7 hra7 hrb7 hb7 hb8 S7 HRX7 HRA7 HRB7 HRX6 HRA6 HRB6
    refine wpAnyH_ready (rs := [4]) (by kernel_rfl) (by simp) ?_
    refine AllReadyH.cons rfl (fun K hK => ?_) AllReadyH.nil
    rw [if_pos (by kernel_rfl)]
    go_wp2_with fail
    refine hK.out _ _ S8.out (fun _ => ?_)
    clear hK K
    refine wpAnyH_done (by kernel_rfl) ?_ _
    go_wp2
    go_ret
    exact ⟨rfl, B0.trans ((C6.out.trans (S8.out.mono (by omega))).mono (by omega))⟩
end Go.Proofs.YtbbhikbdbndefaaGreat
