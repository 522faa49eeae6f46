/- What the model's Spread answers. -/
import Derived.Test.YteomhjoodnjfbaaSpecPut
namespace Go.Proofs.Yteomhjoodnjfbaa
open Go.RowKit
set_option maxRecDepth 8000

/-- A list that has been put to by these numbers. -/
def PutsL (xs ys : List Int) (F : List Int) : Prop := Ris ys ∧ (∀ j, j ∈ ys ↔ j ∈ xs ∨ j ∈ F) ∧ xs.length ≤ ys.length ∧ (ys.length = xs.length → ∀ j ∈ ys, j ∈ xs)
theorem PutsL.nil {xs : List Int} (h : Ris xs) : PutsL xs xs [] := ⟨h, fun j => by simp, Nat.le_refl _, fun _ _ h => h⟩
theorem PutsL.put {xs ys zs : List Int} {F : List Int} {n : Int} (h : PutsL xs ys F) (k : PutL ys n zs) : PutsL xs zs (F ++ [n]) := by
  obtain ⟨h1, h2, h3, h4⟩ := h
  obtain ⟨k1, k2, k3⟩ := k
  refine ⟨k1, fun j => ?_, by omega, fun he j hj => ?_⟩
  · rw [k2, h2, List.mem_append, List.mem_singleton, or_assoc]
  · by_cases hn : n ∈ ys
    · rw [if_pos hn] at k3
      rcases (k2 j).1 hj with h | rfl
      · exact h4 (by omega) j h
      · exact h4 (by omega) _ hn
    · rw [if_neg hn] at k3
      omega
theorem PutsL.trans {xs ys zs : List Int} {F G : List Int} (h : PutsL xs ys F) (k : PutsL ys zs G) : PutsL xs zs (F ++ G) := by
  obtain ⟨h1, h2, h3, h4⟩ := h
  obtain ⟨k1, k2, k3, k4⟩ := k
  refine ⟨k1, fun j => ?_, by omega, fun he j hj => h4 (by omega) j (k4 (by omega) j hj)⟩
  rw [k2, h2, List.mem_append, or_assoc]
/-- All that the first k go on to. -/
def folK (N : List Nd) (ab ae : Bool) (xs : List Int) (k : Nat) : List Int := (xs.take k).flatMap fun p => fol ab ae (ndAt N p.toNat)
theorem folK_succ (N : List Nd) (ab ae : Bool) (xs : List Int) (k : Nat) (h : k < xs.length) : folK N ab ae xs (k + 1) = folK N ab ae xs k ++ fol ab ae (ndAt N (xs[k]).toNat) := by
  unfold folK
  rw [List.take_succ_eq_append_getElem h, List.flatMap_append]
  simp
/-- A rising list of places is no longer than there are places. -/
theorem Ris.len {ys : List Int} {n : Nat} (hr : Ris ys) (h : ∀ j ∈ ys, 0 ≤ j ∧ j < n) : ys.length ≤ n := by
  have : ∀ i (hi : i < ys.length), (i : Int) ≤ ys[i] := by
    intro i
    induction i with
    | zero => intro hi; have := (h _ (List.getElem_mem hi)).1; simpa using this
    | succ i ih =>
      intro hi
      have h1 := ih (by omega)
      have h2 := hr.lt_of (i := i) (j := i + 1) (by omega) hi
      omega
  rcases Nat.eq_zero_or_pos ys.length with h0 | h0
  · omega
  · have h1 := this (ys.length - 1) (by omega)
    have h2 := (h _ (List.getElem_mem (show ys.length - 1 < ys.length by omega))).2
    omega

/-- All of them are nodes. -/
def inN (n : Nat) (ys : List Int) : Prop := ∀ j ∈ ys, 0 ≤ j ∧ j < n
theorem inN.put {xs ys F : List Int} {n : Nat} (h : inN n xs) (hF : ∀ j ∈ F, 0 ≤ j ∧ j < n) (k : PutsL xs ys F) : inN n ys := by
  intro j hj
  rcases (k.2.1 j).1 hj with h1 | h1
  · exact h j h1
  · exact hF j h1
theorem fol_inN {N : List Nd} {ab ae : Bool} (hok : okNfa N = true) {p : Int} (h : 0 ≤ p ∧ p < N.length) : ∀ j ∈ fol ab ae (ndAt N p.toNat), 0 ≤ j ∧ j < N.length := fun j hj => fol_in hok (by omega) hj

set_option maxHeartbeats 1000000 in
theorem l5Spread_any (N : List Nd) (hok : okNfa N = true) (B : Nat → Prop) (v u : Value) (xs : List Int) (p z : Int) (w : World) (h : Nl w B N v) (hl : Iz w u xs) (hr : Ris xs) (hin : inN N.length xs) :
    Calls Try.prog 60 #[.agg #[v], u, .int .i64 p, .int .i64 z] w fun e w' => ∃ x ys, e = .returned x ∧ Iz w' x ys ∧ PutsL xs ys (folK N (p == 0) (p == z) xs xs.length) ∧ Below w.heap.size w w' := by
  obtain ⟨ao, cap, rfl, hl1, hm1, -, -, hc1⟩ := id h
  obtain ⟨lo, lc, rfl, hl2, hm2, -, hc2⟩ := id hl
  unfold maxLen at hm1 hm2
  have hn3 := okNfa_size hok
  have hxl := hr.len hin
  have HC1 := Hid.mk hc1
  have HC2 := Hid.mk hc2
  have HI := Hid.mk hl
  have HRis := Hid.mk hr
  have HIn := Hid.mk hin
  have B0 : Hid (Below w.heap.size w (w.alloc (.cells #[.slice ao N.length cap] 30))) := (Below.refl _ _).alloc (Nat.le_refl _) _
  clear hc1 hc2 hl h hr hin
  go_enter Try.func60, Try.ntmps60
  go_wp2
  go_loopw [9, 10] (fun q i wr => ∃ (k : Nat) (ys : List Int), k ≤ xs.length ∧ i = .int .i64 k ∧ Hid (Iz wr q ys) ∧ Hid (PutsL xs ys (folK N (p == 0) (p == z) xs k)) ∧ Hid (inN N.length ys) ∧ Hid (Below (w.heap.size + 1) (w.alloc (.cells #[.slice ao N.length cap] 30)) wr)) (fun _ i _ => xs.length - (intOf i).toNat)
  case atStart => exact ⟨0, xs, Nat.zero_le _, rfl, HI.out.grow B0.out, PutsL.nil HRis.out, HIn.out, Below.refl _ _⟩
  case round =>
    obtain ⟨k, ys, hk, rfl, HY, HP, HYN, HB⟩ := hrel
    have BW := Hid.mk (B0.out.trans (HB.out.mono (by omega)))
    have hsz : w.heap.size + 1 ≤ wr.heap.size := by have := HB.out.size; simpa using this
    by_cases hkl : k < xs.length
    · obtain ⟨b2, off2, rfl, hcell2⟩ := HC2.out (by intro h0; rw [h0] at hkl; simp at hkl)
      have hN0 : 0 < N.length := by omega
      obtain ⟨b, off, rfl, _, hcell⟩ := HC1.out (by intro h0; rw [h0] at hN0; simp at hN0)
      have hc := HIn.out xs[k] (List.getElem_mem hkl)
      obtain ⟨c, hcc⟩ : ∃ c : Nat, xs[k] = (c : Int) := ⟨xs[k].toNat, by omega⟩
      have hcN : c < N.length := by omega
      have d0 : wr.cell? ⟨w.heap.size, 0, none⟩ = some (.slice (some ⟨b, off, none⟩) N.length cap) := by rw [HB.out.cell (p := ⟨w.heap.size, 0, none⟩) (by simp)]; simp
      have d1 : wr.cell? ⟨b2, off2 + k, none⟩ = some (.int .i64 (c : Int)) := by
        rw [BW.out.cell (p := ⟨b2, off2 + k, none⟩) (World.block_lt_of_cell? w _ (hcell2 k hkl)), hcell2 k hkl, ← hcc]
        simp [List.getD, hkl]
      have d2 := (hcell c hcN).kept (w' := wr) (BW.out.block b (World.block_lt_of_cell? w _ (hcell c hcN).1))
      have HF : Hid (folK N (p == 0) (p == z) xs (k + 1) = folK N (p == 0) (p == z) xs k ++ fol (p == 0) (p == z) N[c]) := by
        show _ = _
        rw [folK_succ N _ _ xs k hkl, hcc, Int.toNat_natCast, ndAt_eq hcN]
      have HFN : Hid (∀ j ∈ fol (p == 0) (p == z) N[c], 0 ≤ j ∧ j < N.length) := by
        intro j hj
        exact fol_in (ab := (p == 0)) (ae := (p == z)) hok hcN (by rw [ndAt_eq hcN]; exact hj)
      generalize N[c] = x at d2 HF HFN
      obtain ⟨xk, xs', xa, xb⟩ := x
      obtain ⟨e0, e1, e2, e3⟩ := d2
      simp only at e0 e1 e2 e3
      have hkb : (k : Int) < (xs.length : Int) := by omega
      have hcb : (c : Int) < (N.length : Int) := by omega
      have hbw := World.block_lt_of_cell? wr _ e0
      have hb2w := World.block_lt_of_cell? wr _ d1
      clear hcell hcell2 hcc hc HC1 HC2
      have S0 : Hid (Below wr.heap.size wr wr.drew) := Below.drewSelf _ _ 1
      have HD0 : Hid (∀ w', Below wr.heap.size wr w' → w'.cell? ⟨w.heap.size, 0, none⟩ = some (.slice (some ⟨b, off, none⟩) N.length cap)) := fun w' hb => by rw [hb.cell (p := ⟨w.heap.size, 0, none⟩) (by simp; omega)]; exact d0
      have HD1 : Hid (∀ w', Below wr.heap.size wr w' → w'.cell? ⟨b2, off2 + k, none⟩ = some (.int .i64 (c : Int))) := fun w' hb => by rw [hb.cell (p := ⟨b2, off2 + k, none⟩) hb2w]; exact d1
      have HD2 : Hid (∀ w', Below wr.heap.size wr w' → At4 w' b (off + c * 4) ⟨xk, xs', xa, xb⟩) := fun w' hb => At4.kept (w := wr) ⟨e0, e1, e2, e3⟩ (hb.block b hbw)
      go_wp2_with fail
      refine wp_region_held_drew (S := Below wr.heap.size wr) (by kernel_rfl) S0.out (fun _ => ?_)
      refine takeHD (i := 0) (v := .pointer (some ⟨w.heap.size, 0, none⟩)) (some 19) rfl rfl (by kernel_rfl) (by kernel_rfl) (by kernel_rfl) (fun _ _ _ h => h) (Or.inl ⟨by kernel_rfl, fun w' hw => ?_⟩) S0.out ?_
      · go_simp
      simp only [Act.put, List.setIfInBounds_toArray]
      refine takeHD (i := 1) (v := .slice (some ⟨b, off, none⟩) N.length cap) (some 20) rfl rfl (by kernel_rfl) (by kernel_rfl) (by kernel_rfl) (fun _ _ _ h => h) (Or.inl ⟨by kernel_rfl, fun w' hw => ?_⟩) S0.out ?_
      · have hx := HD0.out w' hw
        go_simp
      simp only [Act.put, List.setIfInBounds_toArray]
      refine takeHD (i := 2) (v := .slice (some ⟨b2, off2, none⟩) xs.length lc) (some 21) rfl rfl (by kernel_rfl) (by kernel_rfl) (by kernel_rfl) (fun _ _ _ h => h) (Or.inl ⟨by kernel_rfl, fun w' hw => ?_⟩) S0.out ?_
      · go_simp
      simp only [Act.put, List.setIfInBounds_toArray]
      refine takeHD (i := 3) (v := .int .i64 (k : Int)) (some 22) rfl rfl (by kernel_rfl) (by kernel_rfl) (by kernel_rfl) (fun _ _ _ h => h) (Or.inl ⟨by kernel_rfl, fun w' hw => ?_⟩) S0.out ?_
      · go_simp
      simp only [Act.put, List.setIfInBounds_toArray]
      refine takeHD (i := 4) (v := .pointer (some ⟨b2, off2 + k, none⟩)) (some 23) rfl rfl (by kernel_rfl) (by kernel_rfl) (by kernel_rfl) (fun _ _ _ h => h) (Or.inl ⟨by kernel_rfl, fun w' hw => ?_⟩) S0.out ?_
      · go_simp
      simp only [Act.put, List.setIfInBounds_toArray]
      refine takeHD (i := 5) (v := .int .i64 (c : Int)) (some 24) rfl rfl (by kernel_rfl) (by kernel_rfl) (by kernel_rfl) (fun _ _ _ h => h) (Or.inl ⟨by kernel_rfl, fun w' hw => ?_⟩) S0.out ?_
      · have hx := HD1.out w' hw
        go_simp
      simp only [Act.put, List.setIfInBounds_toArray]
      refine takeHD (i := 6) (v := .pointer (some ⟨b, off + c * 4, none⟩)) (some 25) rfl rfl (by kernel_rfl) (by kernel_rfl) (by kernel_rfl) (fun _ _ _ h => h) (Or.inl ⟨by kernel_rfl, fun w' hw => ?_⟩) S0.out ?_
      · go_simp
      simp only [Act.put, List.setIfInBounds_toArray]
      refine takeHD (i := 7) (v := ndV ⟨xk, xs', xa, xb⟩) (some 26) rfl rfl (by kernel_rfl) (by kernel_rfl) (by kernel_rfl) (fun _ _ _ h => h) (Or.inl ⟨by kernel_rfl, fun w' hw => ?_⟩) S0.out ?_
      · obtain ⟨x0, x1, x2, x3⟩ := HD2.out w' hw
        simp only at x0 x1 x2 x3
        go_simp
      simp only [Act.put, List.setIfInBounds_toArray]
      refine wpAnyH_ready (rs := [8]) (by kernel_rfl) (by simp) ?_
      refine AllReadyH.cons rfl (fun K hK => ?_) AllReadyH.nil
      rw [if_pos (by kernel_rfl)]
      go_wp2_with fail
      have S8 : Hid (Below wr.heap.size wr (wr.drew.alloc (.cells #[.int .i64 0, .string ⟨#[]⟩, .int .i64 0, .int .i64 0] 82))) := S0.out.alloc (by simp) _
      refine hK.out _ _ S8.out (fun _ => ?_)
      clear hK K
      refine wpAnyH_ready (rs := [9]) (by kernel_rfl) (by simp) ?_
      refine AllReadyH.cons rfl (fun K hK => ?_) AllReadyH.nil
      rw [if_pos (by kernel_rfl)]
      go_wp2_with fail
      have S9 : Hid (Below wr.heap.size wr ((wr.alloc (.cells #[.int .i64 xk, .string xs', .int .i64 xa, .int .i64 xb] 82)).drew)) := ((Below.refl wr.heap.size wr).alloc (Nat.le_refl _) _).trans (Below.drewSelf _ _ 1)
      refine hK.out _ _ S9.out (fun _ => ?_)
      clear hK K
      refine wpAnyH_done (by kernel_rfl) ?_ _
      have f0 : ((wr.alloc (.cells #[.int .i64 xk, .string xs', .int .i64 xa, .int .i64 xb] 82)).drew).cell? ⟨wr.heap.size, 0, none⟩ = some (.int .i64 xk) := by simp
      have f2 : ((wr.alloc (.cells #[.int .i64 xk, .string xs', .int .i64 xa, .int .i64 xb] 82)).drew).cell? ⟨wr.heap.size, 2, none⟩ = some (.int .i64 xa) := by simp
      have f3 : ((wr.alloc (.cells #[.int .i64 xk, .string xs', .int .i64 xa, .int .i64 xb] 82)).drew).cell? ⟨wr.heap.size, 3, none⟩ = some (.int .i64 xb) := by simp
      have s9 : wr.heap.size < ((wr.alloc (.cells #[.int .i64 xk, .string xs', .int .i64 xa, .int .i64 xb] 82)).drew).heap.size := by simp
      generalize ((wr.alloc (.cells #[.int .i64 xk, .string xs', .int .i64 xa, .int .i64 xb] 82)).drew) = W9 at S9 f0 f2 f3 s9 ⊢
      have HY9 := Hid.mk (HY.out.grow S9.out)
      have HB9 := Hid.mk (HB.out.trans (S9.out.mono hsz))
      have hyl := HP.out.1.len HYN.out
      clear S0 S8 HD0 HD1 HD2 e0 e1 e2 e3 d0 d1 HY HB BW HI
      by_cases k4 : xk = 4
      · subst k4
        have hfol : fol (p == 0) (p == z) ⟨4, xs', xa, xb⟩ = [xa, xb] := rfl
        rw [hfol] at HF HFN
        go_wp2_with fail
        refine (l4Put_any ys xa _ _ HY9.out HP.out.1 (by omega)).mono ?_
        rintro e w10 ⟨x10, y10, rfl, ho10, hp10, hb10⟩
        have HP10 := Hid.mk (HP.out.put hp10)
        have HY10 := Hid.mk ho10.iz
        have HN10 := Hid.mk (HYN.out.put (F := [xa]) (fun j hj => HFN.out j (by simp at hj; simp [hj])) (PutsL.put (PutsL.nil HP.out.1) hp10))
        have hyl10 := hp10.1.len HN10.out
        have HR10 := Hid.mk hp10.1
        have g0 : w10.cell? ⟨wr.heap.size, 0, none⟩ = some (.int .i64 4) := by rw [hb10.cell (p := ⟨wr.heap.size, 0, none⟩) s9]; exact f0
        have g3 : w10.cell? ⟨wr.heap.size, 3, none⟩ = some (.int .i64 xb) := by rw [hb10.cell (p := ⟨wr.heap.size, 3, none⟩) s9]; exact f3
        have HB10 := Hid.mk (HB9.out.trans (hb10.mono (by omega)))
        have s10 := hb10.size
        clear ho10 hp10 hb10 HY9 HB9 HP HYN f0 f2 f3 S9
        go_wp2_with fail
        refine (l4Put_any y10 xb _ _ HY10.out HR10.out (by omega)).mono ?_
        rintro e w11 ⟨x11, y11, rfl, ho11, hp11, hb11⟩
        have HP11 : Hid (PutsL xs y11 (folK N (p == 0) (p == z) xs (k + 1))) := by
          show PutsL _ _ _
          rw [HF.out, show [xa, xb] = [xa] ++ [xb] from rfl, ← List.append_assoc]
          exact HP10.out.put hp11
        have HY11 := Hid.mk ho11.iz
        have HN11 := Hid.mk (HN10.out.put (F := [xb]) (fun j hj => HFN.out j (by simp at hj; simp [hj])) (PutsL.put (PutsL.nil HR10.out) hp11))
        have HB11 := Hid.mk (HB10.out.trans (hb11.mono (by omega)))
        clear ho11 hp11 hb11 HY10 HB10 HP10 HN10 HR10 HF HFN g0 g3
        go_wp2
        go_roundw
        case rel => exact ⟨k + 1, y11, by omega, by go_num, HY11, HP11, HN11, HB11⟩
        case measure => simp [intOf]; omega
      have k4' : (xk == 4) = false := beq_eq_false_iff_ne.2 k4
      by_cases k5 : xk = 5 ∧ (p == 0) = true
      · obtain ⟨hk5, hp0⟩ := k5
        have hfol : fol (p == 0) (p == z) ⟨xk, xs', xa, xb⟩ = [xa] := by unfold fol; rw [if_neg k4, if_pos (.inl ⟨hk5, hp0⟩)]
        rw [hfol] at HF HFN
        have hk5' : (xk == 5) = true := by rw [hk5]; rfl
        clear hk5 k4 hfol
        go_wp2_with fail
        refine (l4Put_any ys xa _ _ HY9.out HP.out.1 (by omega)).mono ?_
        rintro e w10 ⟨x10, y10, rfl, ho10, hp10, hb10⟩
        have HP10 : Hid (PutsL xs y10 (folK N (p == 0) (p == z) xs (k + 1))) := by show PutsL _ _ _; rw [HF.out]; exact HP.out.put hp10
        have HY10 := Hid.mk ho10.iz
        have HN10 := Hid.mk (HYN.out.put HFN.out (PutsL.put (PutsL.nil HP.out.1) hp10))
        have g0 : w10.cell? ⟨wr.heap.size, 0, none⟩ = some (.int .i64 xk) := by rw [hb10.cell (p := ⟨wr.heap.size, 0, none⟩) s9]; exact f0
        have HB10 := Hid.mk (HB9.out.trans (hb10.mono (by omega)))
        clear ho10 hp10 hb10 HY9 HB9 HP HF HFN HYN f0 f2 f3 S9
        go_wp2
        go_roundw
        case rel => exact ⟨k + 1, y10, by omega, by go_num, HY10, HP10, HN10, HB10⟩
        case measure => simp [intOf]; omega
      by_cases k6 : xk = 6 ∧ (p == z) = true
      · obtain ⟨hk6, hpz⟩ := k6
        have hfol : fol (p == 0) (p == z) ⟨xk, xs', xa, xb⟩ = [xa] := by unfold fol; rw [if_neg k4, if_pos (.inr ⟨hk6, hpz⟩)]
        rw [hfol] at HF HFN
        have hk5' : (xk == 5) = false := by rw [hk6]; rfl
        have hk6' : (xk == 6) = true := by rw [hk6]; rfl
        clear hk6 k4 k5 hfol
        go_wp2_with fail
        refine (l4Put_any ys xa _ _ HY9.out HP.out.1 (by omega)).mono ?_
        rintro e w10 ⟨x10, y10, rfl, ho10, hp10, hb10⟩
        have HP10 : Hid (PutsL xs y10 (folK N (p == 0) (p == z) xs (k + 1))) := by show PutsL _ _ _; rw [HF.out]; exact HP.out.put hp10
        have HY10 := Hid.mk ho10.iz
        have HN10 := Hid.mk (HYN.out.put HFN.out (PutsL.put (PutsL.nil HP.out.1) hp10))
        have g0 : w10.cell? ⟨wr.heap.size, 0, none⟩ = some (.int .i64 xk) := by rw [hb10.cell (p := ⟨wr.heap.size, 0, none⟩) s9]; exact f0
        have HB10 := Hid.mk (HB9.out.trans (hb10.mono (by omega)))
        clear ho10 hp10 hb10 HY9 HB9 HP HF HFN HYN f0 f2 f3 S9
        go_wp2
        go_roundw
        case rel => exact ⟨k + 1, y10, by omega, by go_num, HY10, HP10, HN10, HB10⟩
        case measure => simp [intOf]; omega
      have hfol : fol (p == 0) (p == z) ⟨xk, xs', xa, xb⟩ = [] := by unfold fol; rw [if_neg k4, if_neg (fun h => h.elim k5 k6)]
      rw [hfol, List.append_nil] at HF
      have HP2 : Hid (PutsL xs ys (folK N (p == 0) (p == z) xs (k + 1))) := by show PutsL _ _ _; rw [HF.out]; exact HP.out
      clear hfol HF HFN HP k4
      by_cases h5 : xk = 5
      · have hp0 : (p == 0) = false := by
          cases hc : (p == 0) with
          | false => rfl
          | true => exact absurd ⟨h5, hc⟩ k5
        have hk5' : (xk == 5) = true := by rw [h5]; rfl
        have hk6' : (xk == 6) = false := by rw [h5]; rfl
        clear h5 k5 k6
        go_wp2
        go_roundw
        case rel => exact ⟨k + 1, ys, by omega, by go_num, HY9, HP2, HYN, HB9⟩
        case measure => simp [intOf]; omega
      have hk5' : (xk == 5) = false := beq_eq_false_iff_ne.2 h5
      by_cases h6 : xk = 6
      · have hpz : (p == z) = false := by
          cases hc : (p == z) with
          | false => rfl
          | true => exact absurd ⟨h6, hc⟩ k6
        have hk6' : (xk == 6) = true := by rw [h6]; rfl
        clear h6 k5 k6
        go_wp2
        go_roundw
        case rel => exact ⟨k + 1, ys, by omega, by go_num, HY9, HP2, HYN, HB9⟩
        case measure => simp [intOf]; omega
      · have hk6' : (xk == 6) = false := beq_eq_false_iff_ne.2 h6
        clear h6 k5 k6
        go_wp2
        go_roundw
        case rel => exact ⟨k + 1, ys, by omega, by go_num, HY9, HP2, HYN, HB9⟩
        case measure => simp [intOf]; omega
    · have e : k = xs.length := by omega
      subst e
      have HI2 := HY
      clear HIn HRis HI HC1 HC2
      have hkk : ¬ ((xs.length : Int) < (xs.length : Int)) := by omega
      have hq := HY.out
      obtain ⟨yo, yc, rfl, -⟩ := hq
      go_wp2
      go_ret
      exact ⟨_, rfl, ys, HI2.out, HP.out, BW.out⟩
end Go.Proofs.Yteomhjoodnjfbaa
