/- The program's layChoices: one or the other. -/
import Derived.Test.YtapniafhcagogaaArrK
namespace Go.Proofs.Ytapniafhcagogaa
open Go.RowKit
set_option maxRecDepth 8000

theorem Mkd.setNew {g c o : Nat} {a b : World} (h : Mkd g a b) (hc : a.heap.size ≤ c) (v : Value) : Mkd g a (b.setCell ⟨c, o, none⟩ v) := by
  have q : Below c b (b.setCell ⟨c, o, none⟩ v) := (Below.refl c b).setCell (p := ⟨c, o, none⟩) (Nat.le_refl c) v
  exact ⟨q.os.trans h.os, q.tape.trans h.tape, q.output.trans h.output, Nat.le_trans h.size q.size, fun x hx hn => by rw [heap_setCell_other _ ⟨c, o, none⟩ x _ (show x ≠ c by omega)]; exact h.block x hx hn⟩
theorem AB.setOther {w : World} {g c o : Nat} {N : List Nd} (h : AB w g N) (hc : g ≠ c) (v : Value) : AB (w.setCell ⟨c, o, none⟩ v) g N := h.kept (heap_setCell_other _ ⟨c, o, none⟩ g _ hc)
theorem PBk.setOther {w : World} {lb g n k c o : Nat} {ps : Nat → Nat} (h : PBk w lb g ps n k) (hc : lb ≠ c) (v : Value) : PBk (w.setCell ⟨c, o, none⟩ v) lb g ps n k := h.kept (heap_setCell_other _ ⟨c, o, none⟩ lb _ hc)

theorem AB.setMid {w : World} {g : Nat} {A Z : List Nd} {y : Nd} (h : AB w g (A ++ y :: Z)) {i : Nat} (hi : A.length = i) (a b : Int) : AB ((w.setCell ⟨g, i * 4 + 2, none⟩ (.int .i64 a)).setCell ⟨g, i * 4 + 3, none⟩ (.int .i64 b)) g (A ++ { y with a := a, b := b } :: Z) := by
  subst hi
  have hlt : A.length < (A ++ y :: Z).length := by simp
  have h1 := h.setA (i := A.length) hlt a
  rw [get_mid hlt, set_mid] at h1
  have hlt2 : A.length < (A ++ { y with a := a } :: Z).length := by simp
  have h2 := h1.setB (i := A.length) hlt2 b
  rw [get_mid hlt2, set_mid] at h2
  exact h2
theorem AB.midC {w : World} {g : Nat} {A Z : List Nd} {y : Nd} (h : AB w g (A ++ y :: Z)) {i : Nat} (hi : A.length = i) : At4 w g (i * 4) y := by
  subst hi
  have hlt : A.length < (A ++ y :: Z).length := by simp
  have := h.at4 (i := A.length) hlt
  rwa [get_mid hlt] at this

set_option maxHeartbeats 4000000 in
theorem arrChoices_any (l : List Tr) (ih : ∀ x ∈ l, ApC x) (hok : ∀ x ∈ l, x.okT = true) (h2 : 2 ≤ l.length) (h8 : l.length ≤ 8) (B : Nat → Prop) (v : Value) (g : Nat) (N : List Nd) (w : World) (hA : AB w g N) (h : Rl w B l v) (hB : ¬ B g)
    (hn : N.length + nszL l + 2 * (l.length - 1) ≤ 299) :
    Calls Try.prog 77 #[.pointer (some ⟨g, 0, none⟩), v] w fun e w' => (∃ x, e = .returned x) ∧ AB w' g (N ++ layA l N.length (N.length + (nszL l + 2 * (l.length - 1)))) ∧ Mkd g w w' := by
  obtain ⟨ao, cap, rfl, hl1, hl2, -⟩ := h.len
  unfold maxLen at hl2
  obtain ⟨n, hln⟩ : ∃ n, l.length = n + 1 := ⟨l.length - 1, by omega⟩
  have HR := Hid.mk h
  have HA := Hid.mk hA
  have hgw := hA.lt
  have HIH := Hid.mk ih
  have HKI := Hid.mk hok
  have HLE := Hid.mk (nszL_le l)
  have HTK := Hid.mk (nszL_take l)
  have HLL : Hid (∀ k p q, k ≤ l.length → (layK (l.take k) p q).length = nszL (l.take k) + 2 * k) := fun k p q hk => by
    have := layK_len (l.take k) (fun x hx => lay_len x (hok x (List.mem_of_mem_take hx))) p q
    rwa [List.length_take, Nat.min_eq_left hk] at this
  have HST : Hid (∀ k (hk : k < l.length) p q, layK (l.take (k + 1)) p q = layK (l.take k) p q ++ (split (p + nszL (l.take k) + 2 * k + 1) (p + nszL (l.take k) + 2 * k + 2 + l[k].nsz) :: (l[k].lay (p + nszL (l.take k) + 2 * k + 1) ++ [split q q]))) := fun k hk p q => by
    have := layK_snoc (l.take k) l[k] p q
    rw [List.length_take, Nat.min_eq_left (by omega)] at this
    rw [List.take_succ_eq_append_getElem hk, this]
  have HEN : Hid (∀ (hk : n < l.length) p q, layA l p q = layK (l.take n) p q ++ l[n].lay (p + nszL (l.take n) + 2 * n)) := fun hk p q => by
    have := layA_snoc (l.take n) l[n] p q
    rw [List.length_take, Nat.min_eq_left (by omega), ← List.take_succ_eq_append_getElem hk, ← hln, List.take_length] at this
    exact this
  have HZ : Hid (N = N ++ layK (l.take 0) N.length 0) := by show _ = _; rw [List.take_zero, layK, List.append_nil]
  have HQ : Hid (nszL l = nszL (l.take (n + 1))) := by show _ = _; rw [← hln, List.take_length]
  rw [hln] at hn HR hl1 ⊢
  clear h hA ih hok
  obtain ⟨i0, hi, hz0, hz1, hz2⟩ := info_parts infoPtr
  go_enter Try.func77, Try.ntmps77
  go_wp2_with (at_make; refine wpList_make_full _ rfl _ _ 109 rfl 0 75 i0 _ 1 Try.underlying109 hi hz0 hz1 _ _ _ _ n rfl rfl rfl rfl (by rw [hz2]; omega) (by unfold maxLen; omega) (by simp) ?_)
  intro w1 hown hgrow
  obtain ⟨ps, hps⟩ : ∃ ps : Nat → Nat, ∀ j, ps j = N.length + wtM l j := ⟨_, fun _ => rfl⟩
  have P1 : Hid (PBk w1 w.heap.size g ps n 0) := by
    have h := own_fullN hown
    show PBk _ _ _ _ _ _
    unfold PBk
    rw [h, ← made_pt g ps n, Nat.mul_one]
    rfl
  have B1 : Below w.heap.size w w1 := (Below.refl _ _).grown hgrow (Nat.le_refl _) (by simp)
  have A1 := Hid.mk (HA.out.grow B1)
  have M1 : Hid (Mkd g w w1) := Mkd.below B1
  have HPS := Hid.mk hps
  clear hown hgrow hi hz0 hz1 hz2 hps B1 HA
  go_wp2
  go_loopw [20] (fun i wr => ∃ (k : Nat) (M : List Nd), k ≤ n ∧ i = .int .i64 k ∧ Hid (M = N ++ layK (l.take k) N.length 0) ∧ Hid (AB wr g M) ∧ Hid (PBk wr w.heap.size g ps n k) ∧ Hid (Mkd g w wr)) (fun i _ => n - (intOf i).toNat)
  case atStart => exact ⟨0, N, Nat.zero_le _, rfl, HZ.out, A1.out, P1.out, M1.out⟩
  case round =>
    obtain ⟨k, M, hkn, rfl, HM, HAM, HP, HB⟩ := hrel
    clear A1 P1 M1 HZ
    by_cases hkl : k < n
    · have RR := Hid.mk (HB.out.tree hB HR.out)
      have hkl' : k < l.length := by omega
      obtain ⟨b, off, V, rfl, hel⟩ := RR.out.elems (by intro hn; rw [hn] at hkl'; simp at hkl')
      obtain ⟨⟨c0, c1, c2⟩, hsub, hss⟩ := hel k hkl'
      have hle := HLE.out (k + 1)
      have htk := HTK.out k hkl'
      have hml : M.length = N.length + (nszL (l.take k) + 2 * k) := by rw [HM.out, List.length_append, HLL.out k _ _ (by omega)]
      obtain ⟨m, hm⟩ : ∃ m, M.length = m := ⟨_, rfl⟩
      have hpk : ps k = m + 1 + l[k].nsz := by rw [HPS.out, wtM, ← hm, hml, htk]; omega
      have BB : Hid (∀ o, Below wr.heap.size wr (wr.alloc o)) := fun o => (Below.refl _ _).alloc (Nat.le_refl _) _
      have HF : Hid (∀ o, Calls Try.prog 79 #[.pointer (some ⟨g, 0, none⟩)] (wr.alloc o) fun e w' => e = .returned (.pointer (some ⟨g, m * 4, none⟩)) ∧ AB w' g (M ++ [⟨4, ⟨#[]⟩, (m : Int) + 1, 0⟩]) ∧ Mkd g (wr.alloc o) w') := fun o => by
        have := arrFork_any M g (wr.alloc o) (HAM.out.grow (BB.out o)) (by omega)
        rw [hm] at this
        exact this
      have HX := Hid.mk (fun w' (ha : AB w' g (M ++ [⟨4, ⟨#[]⟩, (m : Int) + 1, 0⟩])) (hr : Rl w' B l[k].l (V k)) => HIH.out l[k] (List.getElem_mem hkl') B (V k) g _ w' ha hr hB (HKI.out _ (List.getElem_mem hkl')) (by simp; omega))
      have HLX := Hid.mk (lay_len l[k] (HKI.out _ (List.getElem_mem hkl')))
      have HNX : Hid (M ++ split (m + 1) (m + 2 + l[k].nsz) :: (l[k].lay (m + 1) ++ [split 0 0]) = N ++ layK (l.take (k + 1)) N.length 0) := by
        show _ = _
        rw [HST.out k hkl' N.length 0, ← List.append_assoc, ← HM.out, show N.length + nszL (l.take k) + 2 * k = m by omega]
      have hmx : m + l[k].nsz + 2 ≤ 299 := by omega
      have HSB := Hid.mk hsub
      obtain ⟨va, vc, hv, -⟩ := hsub.len
      rw [hv] at c2 HX HSB
      clear hv
      generalize l[k].l.length = vn at c2 HX HSB
      generalize l[k] = x at c0 c1 c2 HX HNX HSB HLX hpk hmx
      have hi1 : (k : Int) < (n : Int) := by omega
      clear hel hsub hss hle htk hml RR HIH HKI HLE HTK HLL HST HEN HQ HM HAM HR
      go_wp2_with fail
      refine (HF.out _).mono ?_
      rintro e w2 ⟨rfl, h2a, m2⟩
      have X2 := Hid.mk (m2.box (Bz3.new wr (.int .i64 x.k) (.string x.s) (.slice va vn vc)) (by have := HB.out.size; omega))
      have MB2 := Hid.mk ((Mkd.below (BB.out _)).trans m2)
      have R2 := Hid.mk (MB2.out.tree hB HSB.out)
      have B2 := Hid.mk (HB.out.trans MB2.out)
      have hlw : w.heap.size < wr.heap.size := HP.out.lt
      have P2 := Hid.mk (HP.out.kept (MB2.out.block w.heap.size hlw (by omega)))
      have A2 := Hid.mk h2a
      have HX2 := Hid.mk (HX.out w2 A2.out R2.out)
      have y0 := X2.out.c0
      have y1 := X2.out.c1
      have y2 := X2.out.c2
      clear HF h2a m2 MB2 HB HP HX c0 c1 c2 BB HSB
      go_wp2_with fail
      refine HX2.out.mono ?_
      rintro e w3 ⟨⟨q, rfl⟩, h3, m3⟩
      have B3 := Hid.mk (B2.out.trans m3)
      have P3 := Hid.mk (P2.out.kept (m3.block w.heap.size P2.out.lt (by omega)))
      have e3 : M ++ [(⟨4, ⟨#[]⟩, (m : Int) + 1, 0⟩ : Nd)] ++ x.lay (M ++ [(⟨4, ⟨#[]⟩, (m : Int) + 1, 0⟩ : Nd)]).length = M ++ (⟨4, ⟨#[]⟩, (m : Int) + 1, 0⟩ : Nd) :: x.lay (m + 1) := by
        rw [List.length_append, hm, List.append_assoc]
        rfl
      rw [e3] at h3
      generalize hF : (⟨4, ⟨#[]⟩, (m : Int) + 1, 0⟩ : Nd) = F at h3
      have HFF := Hid.mk hF
      have hl3 : (M ++ F :: x.lay (m + 1)).length = m + 1 + x.nsz := by rw [List.length_append, List.length_cons, HLX.out, hm]; omega
      have HL := Hid.mk (arrLay_any _ g 4 w3 h3 (by rw [hl3]; omega))
      rw [hl3] at HL
      clear h3 m3 HX2 B2 P2 hF R2 X2 y0 y1 y2 A2 e3
      go_wp2_with fail
      refine HL.out.mono ?_
      rintro e w4 ⟨rfl, h4, m4⟩
      have B4 := B3.out.trans m4
      have P4 := P3.out.kept (m4.block w.heap.size P3.out.lt (by omega))
      have p4 := P4.cell hkl
      rw [if_neg (Nat.lt_irrefl _)] at p4
      have pf := P4.fr k
      have P5 := P4.set hkl
      rw [hpk] at P5
      have A5 := h4.setOther (c := w.heap.size) (o := k) (by omega) (.pointer (some ⟨g, (m + 1 + x.nsz) * 4, none⟩))
      have B5 := B4.setNew (c := w.heap.size) (o := k) (Nat.le_refl _) (.pointer (some ⟨g, (m + 1 + x.nsz) * 4, none⟩))
      have cn := A5.cntL hl3
      rw [show ((m + 1 + x.nsz : Nat) : Int) + 1 = ((m + 2 + x.nsz : Nat) : Int) by omega] at cn
      rw [List.append_assoc, List.cons_append] at A5
      have hlt5 : M.length < (M ++ F :: (x.lay (m + 1) ++ [(⟨4, ⟨#[]⟩, 0, 0⟩ : Nd)])).length := by simp
      obtain ⟨e0, e1, e2, e3⟩ := A5.at4 (i := M.length) hlt5
      have f5 := A5.fr (m * 4 + 3)
      have A6 := A5.setB (i := M.length) hlt5 ((m + 2 + x.nsz : Nat) : Int)
      rw [get_mid hlt5, set_mid, ← HFF.out, hm] at A6
      rw [get_mid hlt5, ← HFF.out, hm] at e0 e1 e2 e3
      have HA6 := Hid.mk A6
      have HP6 := Hid.mk (P5.setOther (c := g) (o := m * 4 + 3) (by omega) (.int .i64 ((m + 2 + x.nsz : Nat) : Int)))
      have HB6 := Hid.mk (B5.set (o := m * 4 + 3) (.int .i64 ((m + 2 + x.nsz : Nat) : Int)))
      have hlb : w.heap.size < w4.heap.size := P4.lt
      simp only at e0 e1 e2 e3
      clear h4 m4 HL B3 P3 B4 P4 P5 A5 B5 A6 HFF hlt5 hl3 HLX hm hpk e0 e1 e2
      generalize hnx : x.nsz = xn at *
      generalize hxl : x.lay (m + 1) = xl at *
      clear hnx hxl
      go_wp2
      go_roundw
      case rel => exact ⟨k + 1, _, by omega, by go_num, HNX, HA6, HP6, HB6⟩
      case measure => simp [intOf]; omega
    · have ek : k = n := by omega
      subst ek
      have hkl' : k < l.length := by omega
      have RR := Hid.mk (HB.out.tree hB HR.out)
      obtain ⟨b, off, V, rfl, hel⟩ := RR.out.elems (by intro hn; rw [hn] at hkl'; simp at hkl')
      obtain ⟨⟨c0, c1, c2⟩, hsub, hss⟩ := hel k hkl'
      have htk := HTK.out k hkl'
      have hml : M.length = N.length + (nszL (l.take k) + 2 * k) := by rw [HM.out, List.length_append, HLL.out k _ _ (by omega)]
      obtain ⟨m, hm⟩ : ∃ m, M.length = m := ⟨_, rfl⟩
      obtain ⟨q, hq⟩ : ∃ q, N.length + (nszL l + 2 * (k + 1 - 1)) = q := ⟨_, rfl⟩
      have hqm : m + l[k].nsz = q := by have h1 := HQ.out; omega
      have HX : Hid (Calls Try.prog 49 #[.pointer (some ⟨g, 0, none⟩), rx l[k].k l[k].s (V k)] wr fun e w' => (∃ x, e = .returned x) ∧ AB w' g (M ++ l[k].lay M.length) ∧ Mkd g wr w') := HIH.out l[k] (List.getElem_mem hkl') B (V k) g M wr HAM.out hsub hB (HKI.out _ (List.getElem_mem hkl')) (by omega)
      have HEN' : Hid (∀ Z, l[k].lay m = Z → N ++ layA l N.length q = N ++ layK (l.take k) N.length q ++ Z) := fun Z hZ => by rw [HEN.out hkl' N.length q, ← hZ, List.append_assoc]; congr 3; omega
      have HLX := Hid.mk (lay_len l[k] (HKI.out _ (List.getElem_mem hkl')) m)
      have HMA : Hid (∀ (j : Nat), j < k → ∀ f : Nat → Nat, ∃ P Q, (N ++ P).length = ps j ∧ ∀ f' : Nat → Nat, (∀ n, n ≠ j → f' n = f n) → layM f' (l.take k) 0 N.length = P ++ split (f' j) (f' j) :: Q) := fun j hj f => by
        obtain ⟨P, Q, h1, h2⟩ := layM_at f (l.take k) j (by simp; omega) (fun x hx => lay_len x (HKI.out x (List.mem_of_mem_take hx))) 0 N.length
        refine ⟨P, Q, ?_, fun f' hf => ?_⟩
        · rw [List.length_append, h1, HPS.out, wtM, wtM, List.take_take, Nat.min_eq_left (by omega)]
        · have := h2 f' (by simpa using hf)
          simpa using this
      have HS0 : Hid (layM (fun i => if i < 0 then q else 0) (l.take k) 0 N.length = layK (l.take k) N.length 0) := layM_const 0 _ _ _ _ fun j _ _ => if_neg (Nat.not_lt_zero j)
      have HSN : Hid (layM (fun i => if i < k then q else 0) (l.take k) 0 N.length = layK (l.take k) N.length q) := layM_const q _ _ _ _ fun j _ h2 => by
        rw [List.length_take] at h2
        exact if_pos (by omega)
      rw [hm] at HX
      have HQQ := Hid.mk hq
      have HLM : Hid (∀ f, (layM f (l.take k) 0 N.length).length = nszL (l.take k) + 2 * k) := fun f => by
        have := layM_len f (l.take k) (fun x hx => lay_len x (HKI.out x (List.mem_of_mem_take hx))) 0 N.length
        rwa [List.length_take, Nat.min_eq_left (by omega)] at this
      have hmq : N.length + (nszL (l.take k) + 2 * k) = m := by omega
      have hq300 : q ≤ 299 := by omega
      obtain ⟨va, vc, hv, -⟩ := hsub.len
      rw [hv] at c2 HX
      clear hv
      generalize l[k].l.length = vn at c2 HX
      generalize hZZ : l[k].lay m = Z at HX HEN' HLX
      have HE2 := Hid.mk (HEN'.out Z rfl)
      generalize l[k] = x at c0 c1 c2 HX HLX hqm
      clear hel hsub hss htk hml RR HIH HKI HLE HTK HST HEN HAM HR HEN' hZZ
      go_wp2_with fail
      refine HX.out.mono ?_
      rintro e w3 ⟨⟨qq, rfl⟩, h3, m3⟩
      have B3 := Hid.mk (HB.out.trans m3)
      have P3 := Hid.mk (HP.out.kept (m3.block w.heap.size HP.out.lt (by omega)))
      have A3 : Hid (AB w3 g (N ++ layM (fun i => if i < 0 then q else 0) (l.take k) 0 N.length ++ Z)) := by
        show AB _ _ _
        rw [HS0.out, ← HM.out]
        exact h3
      have HLEN : Hid (∀ f, (N ++ layM f (l.take k) 0 N.length ++ Z).length = q) := fun f => by
        rw [List.length_append, List.length_append, HLM.out, HLX.out]; omega
      clear h3 m3 HX HB HP HM c0 c1 c2 HS0 HLX HLL
      go_wp2_with fail
      go_loopw [51] (fun i wr => ∃ (j : Nat), j ≤ k ∧ i = .int .i64 j ∧ Hid (AB wr g (N ++ layM (fun i => if i < j then q else 0) (l.take k) 0 N.length ++ Z)) ∧ Hid (PBk wr w.heap.size g ps k k) ∧ Hid (Mkd g w wr)) (fun i _ => k - (intOf i).toNat)
      case atStart => exact ⟨0, Nat.zero_le _, rfl, A3, P3, B3⟩
      case round =>
        obtain ⟨j, hjk, rfl, HA, HP, HB⟩ := hrel
        clear A3 P3 B3
        by_cases hj : j < k
        · obtain ⟨P, Q, hP, hPQ⟩ := HMA.out j hj (fun i => if i < j then q else 0)
          have h0 := hPQ (fun i => if i < j then q else 0) (fun _ _ => rfl)
          have h1 := hPQ (fun i => if i < j + 1 then q else 0) (fun i hi => by
            show (if i < j + 1 then q else 0) = (if i < j then q else 0)
            by_cases h : i < j
            · rw [if_pos h, if_pos (by omega)]
            · rw [if_neg h, if_neg (by omega)])
          rw [if_neg (Nat.lt_irrefl _)] at h0
          rw [if_pos (Nat.lt_succ_self _)] at h1
          have HA0 := HA.out
          have hcn := HA0.cnt
          rw [HLEN.out] at hcn
          rw [h0, ← List.append_assoc, List.append_assoc, List.cons_append] at HA0
          obtain ⟨d0, d1, d2, d3⟩ := HA0.midC hP
          have f2 := HA0.fr (ps j * 4 + 2)
          have f3 := HA0.fr (ps j * 4 + 3)
          have HA1 : Hid (AB ((wr.drew.setCell ⟨g, ps j * 4 + 2, none⟩ (.int .i64 (q : Int))).setCell ⟨g, ps j * 4 + 3, none⟩ (.int .i64 (q : Int))) g (N ++ layM (fun i => if i < j + 1 then q else 0) (l.take k) 0 N.length ++ Z)) := by
            show AB _ _ _
            rw [h1, ← List.append_assoc, List.append_assoc, List.cons_append]
            exact (HA0.grow (Below.drewSelf wr.heap.size wr 1)).setMid hP (q : Int) (q : Int)
          have HP1 := Hid.mk (((HP.out.kept ((Below.drewSelf wr.heap.size wr 1).block _ HP.out.lt)).setOther (c := g) (o := ps j * 4 + 2) (by omega) (.int .i64 (q : Int))).setOther (c := g) (o := ps j * 4 + 3) (by omega) (.int .i64 (q : Int)))
          have HB1 := Hid.mk (((HB.out.trans (Mkd.below (Below.drewSelf wr.heap.size wr 1))).set (o := ps j * 4 + 2) (.int .i64 (q : Int))).set (o := ps j * 4 + 3) (.int .i64 (q : Int)))
          have pc := HP.out.cell hj
          rw [if_pos hj] at pc
          have hji : (j : Int) < (k : Int) := by omega
          simp only [split] at d0 d1 d2 d3
          clear HA HA0 h0 h1 hPQ HP HB HMA HLEN HLM HSN HE2 HQQ
          have hcd : wr.drew.cell? ⟨g, 1200, none⟩ = some (.int .i64 (q : Int)) := by simpa using hcn
          obtain ⟨S, hS⟩ : ∃ S : World → Prop, ∀ w', S w' ↔ w'.cell? ⟨g, 1200, none⟩ = some (.int .i64 (q : Int)) := ⟨_, fun _ => Iff.rfl⟩
          have S0 : S wr.drew := (hS _).2 hcd
          go_wp2_with fail
          refine wp_region_held_drew (S := S) (by kernel_rfl) S0 (fun _ => ?_)
          refine takeHD (i := 0) (v := .pointer (some ⟨g, ps j * 4, none⟩)) (some 55) rfl rfl (by kernel_rfl) (by kernel_rfl) (by kernel_rfl) (fun _ _ _ h => h) (Or.inl ⟨by kernel_rfl, fun w' hw => ?_⟩) S0 ?_
          · kernel_rfl
          simp only [Act.put, List.setIfInBounds_toArray]
          refine takeHD (i := 1) (v := .pointer (some ⟨g, ps j * 4, none⟩)) (some 56) rfl rfl (by kernel_rfl) (by kernel_rfl) (by kernel_rfl) (fun _ _ _ h => h) (Or.inl ⟨by kernel_rfl, fun w' hw => ?_⟩) S0 ?_
          · kernel_rfl
          simp only [Act.put, List.setIfInBounds_toArray]
          refine takeHD (i := 2) (v := .pointer (some ⟨g, 0, none⟩)) (some 57) rfl rfl (by kernel_rfl) (by kernel_rfl) (by kernel_rfl) (fun _ _ _ h => h) (Or.inl ⟨by kernel_rfl, fun w' hw => ?_⟩) S0 ?_
          · kernel_rfl
          simp only [Act.put, List.setIfInBounds_toArray]
          refine takeHD (i := 3) (v := .pointer (some ⟨g, 0, none⟩)) (some 58) rfl rfl (by kernel_rfl) (by kernel_rfl) (by kernel_rfl) (fun _ _ _ h => h) (Or.inl ⟨by kernel_rfl, fun w' hw => ?_⟩) S0 ?_
          · kernel_rfl
          simp only [Act.put, List.setIfInBounds_toArray]
          refine takeHD (i := 4) (v := .pointer (some ⟨g, 1200, none⟩)) (some 59) rfl rfl (by kernel_rfl) (by kernel_rfl) (by kernel_rfl) (fun _ _ _ h => h) (Or.inl ⟨by kernel_rfl, fun w' hw => ?_⟩) S0 ?_
          · kernel_rfl
          simp only [Act.put, List.setIfInBounds_toArray]
          refine takeHD (i := 5) (v := .int .i64 (q : Int)) (some 60) rfl rfl (by kernel_rfl) (by kernel_rfl) (by kernel_rfl) (fun _ _ _ h => h) (Or.inl ⟨by kernel_rfl, fun w' hw => ?_⟩) S0 ?_
          · have y := (hS _).1 hw; go_simp
          simp only [Act.put, List.setIfInBounds_toArray]
          refine takeHD (i := 6) (v := .pointer (some ⟨g, 0, none⟩)) (some 61) rfl rfl (by kernel_rfl) (by kernel_rfl) (by kernel_rfl) (fun _ _ _ h => h) (Or.inl ⟨by kernel_rfl, fun w' hw => ?_⟩) S0 ?_
          · kernel_rfl
          simp only [Act.put, List.setIfInBounds_toArray]
          refine takeHD (i := 7) (v := .pointer (some ⟨g, 0, none⟩)) (some 62) rfl rfl (by kernel_rfl) (by kernel_rfl) (by kernel_rfl) (fun _ _ _ h => h) (Or.inl ⟨by kernel_rfl, fun w' hw => ?_⟩) S0 ?_
          · kernel_rfl
          simp only [Act.put, List.setIfInBounds_toArray]
          refine takeHD (i := 8) (v := .pointer (some ⟨g, 1200, none⟩)) (some 63) rfl rfl (by kernel_rfl) (by kernel_rfl) (by kernel_rfl) (fun _ _ _ h => h) (Or.inl ⟨by kernel_rfl, fun w' hw => ?_⟩) S0 ?_
          · kernel_rfl
          simp only [Act.put, List.setIfInBounds_toArray]
          refine takeHD (i := 9) (v := .int .i64 (q : Int)) (some 64) rfl rfl (by kernel_rfl) (by kernel_rfl) (by kernel_rfl) (fun _ _ _ h => h) (Or.inl ⟨by kernel_rfl, fun w' hw => ?_⟩) S0 ?_
          · have y := (hS _).1 hw; go_simp
          simp only [Act.put, List.setIfInBounds_toArray]
          refine takeHD (i := 10) (v := .pointer (some ⟨g, ps j * 4, none⟩)) (some 65) rfl rfl (by kernel_rfl) (by kernel_rfl) (by kernel_rfl) (fun _ _ _ h => h) (Or.inl ⟨by kernel_rfl, fun w' hw => ?_⟩) S0 ?_
          · kernel_rfl
          simp only [Act.put, List.setIfInBounds_toArray]
          refine takeHD (i := 11) (v := .pointer (some ⟨g, ps j * 4 + 2, none⟩)) (some 66) rfl rfl (by kernel_rfl) (by kernel_rfl) (by kernel_rfl) (fun _ _ _ h => h) (Or.inl ⟨by kernel_rfl, fun w' hw => ?_⟩) S0 ?_
          · kernel_rfl
          simp only [Act.put, List.setIfInBounds_toArray]
          have e2 : wr.drew.cell? ⟨g, ps j * 4 + 2, none⟩ = some (.int .i64 ((0 : Nat) : Int)) := by simpa using d2
          have ef2 : wr.drew.frozen? ⟨g, ps j * 4 + 2, none⟩ = false := by simpa using f2
          refine wpAnyH_ready (rs := [12]) (by kernel_rfl) (by simp) ?_
          refine AllReadyH.cons rfl (fun K hK => ?_) AllReadyH.nil
          rw [if_pos (by kernel_rfl)]
          go_wp2_with fail
          have S1 : S (wr.drew.setCell ⟨g, ps j * 4 + 2, none⟩ (.int .i64 (q : Int))) := (hS _).2 ((World.cell?_setCell_other wr.drew _ _ _ (by simp)).trans hcd)
          refine hK.out _ _ S1 (fun _ => ?_)
          clear hK K
          refine takeHD (i := 13) (v := .pointer (some ⟨g, ps j * 4, none⟩)) (some 67) rfl rfl (by kernel_rfl) (by kernel_rfl) (by kernel_rfl) (fun _ _ _ h => h) (Or.inl ⟨by kernel_rfl, fun w' hw => ?_⟩) S1 ?_
          · kernel_rfl
          simp only [Act.put, List.setIfInBounds_toArray]
          refine takeHD (i := 14) (v := .pointer (some ⟨g, ps j * 4 + 3, none⟩)) (some 68) rfl rfl (by kernel_rfl) (by kernel_rfl) (by kernel_rfl) (fun _ _ _ h => h) (Or.inl ⟨by kernel_rfl, fun w' hw => ?_⟩) S1 ?_
          · kernel_rfl
          simp only [Act.put, List.setIfInBounds_toArray]
          refine wpAnyH_ready (rs := [15]) (by kernel_rfl) (by simp) ?_
          refine AllReadyH.cons rfl (fun K hK => ?_) AllReadyH.nil
          rw [if_pos (by kernel_rfl)]
          go_wp2_with fail
          have S2 : S ((wr.drew.setCell ⟨g, ps j * 4 + 2, none⟩ (.int .i64 (q : Int))).setCell ⟨g, ps j * 4 + 3, none⟩ (.int .i64 (q : Int))) := (hS _).2 ((World.cell?_setCell_other (wr.drew.setCell ⟨g, ps j * 4 + 2, none⟩ (.int .i64 (q : Int))) _ _ _ (by simp)).trans ((hS _).1 S1))
          refine hK.out _ _ S2 (fun _ => ?_)
          clear hK K
          refine wpAnyH_done (by kernel_rfl) ?_ _
          go_wp2
          go_roundw
          case rel => exact ⟨j + 1, by omega, by go_num, HA1, HP1, HB1⟩
          case measure => simp [intOf]; omega
        · have ej : j = k := by omega
          subst ej
          have HF : Hid (AB wr g (N ++ layA l N.length (N.length + (nszL l + 2 * (j + 1 - 1))))) := by
            show AB _ _ _
            rw [HQQ.out, HE2.out, ← HSN.out]
            exact HA.out
          clear HA HMA HLEN HLM HSN HE2 HQQ HP
          go_wp2
          refine bodyPost_end (v := .tuple #[]) (by simp [results, Try.results77, go_sem]) rfl ⟨⟨_, rfl⟩, HF.out, HB.out⟩
end Go.Proofs.Ytapniafhcagogaa
