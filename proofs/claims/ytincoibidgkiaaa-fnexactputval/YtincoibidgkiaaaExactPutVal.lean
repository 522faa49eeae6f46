/- The law FnExactPutVal walked: the program's PutVal answers as the document's model of it, writes into no argument and keeps nothing of one. -/
import Derived.Test.YtincoibidgkiaaaPutVal
namespace Go.Proofs.Ytincoibidgkiaaa
open Go.RowKit

/-- The box lies ahead. -/
theorem bx1 {w w' : World} {k n : Int} {s : ByteArray} {t : Nat} (h : Below (w.heap.size + 1) (boxed w k n s t) w') : w.heap.size + 1 ≤ w'.heap.size := by
  have := h.size
  simp at this
  omega

set_option maxRecDepth 4000 in
set_option maxHeartbeats 2000000 in
theorem fnExactPutVal_small (v : Value) (zs : List Int) (k n : Int) (s : ByteArray) (w : World) (h : Bs w v zs) (hlen : zs.length ≤ 1048576) (hs : s.size ≤ 1048576) :
    Calls Try.prog 16 #[v, vl k n s] w fun e w' => e = .returned (.bool true) ∧ Below w.heap.size w w' := by
  obtain ⟨L, HL⟩ : ∃ L, Hid (zs ++ vG k n s = L) := ⟨_, rfl⟩
  have hbz := h.1
  have hLb : byteList L := by rw [← HL.out]; exact hbz.append (vG_byte k n s)
  have hLl : L.length ≤ 3145728 := by rw [← HL.out]; have := vG_length k n s hs; rw [List.length_append]; omega
  have HS : Hid (∀ v w, Bs w v zs → Calls Try.prog 51 #[v, vl k n s] w fun e w' => ∃ v', e = .returned v' ∧ Own w' w.heap.size v' L ∧ Below w.heap.size w w') := by
    rw [← HL.out]; intro v w h1; exact specPutVal_any v zs k n s w h1 (by omega) hs
  have HI : Hid (∀ v w, Bs w v zs → Calls Try.prog 52 #[v, vl k n s] w fun e w' => ∃ v', e = .returned v' ∧ Own w' w.heap.size v' L ∧ Below w.heap.size w w') := by
    rw [← HL.out]; intro v w h1; exact implPutVal_any v zs k n s w h1 (by omega) hs
  clear HL
  have HZ := Hid.mk (fun w => szVal_any k n s w (by unfold maxLen; omega))
  rw [if_neg (by omega)] at HZ
  have hz1 : ¬ (1048576 : Int) - (s.size : Int) < 0 := by omega
  obtain ⟨ao, cap, hv⟩ : ∃ ao cap, v = .slice ao zs.length cap := by obtain ⟨_, ao, cap, e, _⟩ := h; exact ⟨ao, cap, e⟩
  subst hv
  have BB : Below w.heap.size w (boxed w k n s 43) := (Below.refl _ _).alloc (Nat.le_refl _) _
  have H0 := Hid.mk (h.grow BB)
  clear h
  go_enter Try.func16, Try.ntmps16
  go_wp2_with fail
  refine (HZ.out _).mono ?_
  rintro e w1 ⟨rfl, hb1⟩
  have B1 : Below (w.heap.size + 1) (boxed w k n s 43) w1 := hb1.mono (by simp)
  clear hb1 HZ
  go_wp2_with fail
  have D1 : Below (w.heap.size + 1) (boxed w k n s 43) w1.drew := B1.trans (Below.drewSelf _ _ 1)
  refine wp_region_held_drew (S := fun w' => Below (w.heap.size + 1) (boxed w k n s 43) w') (by kernel_rfl) D1 (fun _ => ?_)
  refine wpAnyH_take (i := 0) (v := .slice ao zs.length cap) rfl (by kernel_rfl) (by kernel_rfl) (by kernel_rfl) (fun _ _ _ h => h) (Or.inl ⟨by kernel_rfl, fun w _ => by kernel_rfl⟩) D1 ?_
  refine wpAnyH_take (i := 2) (v := vl k n s) rfl (by kernel_rfl) (by kernel_rfl) (by kernel_rfl) (fun _ _ _ h => h) (Or.inl ⟨by kernel_rfl, fun w' hw => ?_⟩) D1 ?_
  · have hc := fun o => hw.cell (p := ⟨w.heap.size, o, none⟩) (by simp)
    simp only [Act.put, List.setIfInBounds_toArray]
    go_simp
  refine wpAnyH_ready (rs := [1]) (by kernel_rfl) (by simp) ?_
  refine AllReadyH.cons rfl (fun K hK => ?_) AllReadyH.nil
  rw [if_pos (by kernel_rfl)]
  try simp only [Act.put, List.setIfInBounds_toArray]
  go_wp2_with fail
  refine (toByteS_any _ zs _ (H0.out.grow (D1.mono (by simp))) (by omega)).mono ?_
  rintro e wb1 ⟨rfl, howb1, hbwb1⟩
  have hOwb1 : Own wb1 w1.drew.heap.size _ zs := howb1
  have Bwb1 := D1.trans (hbwb1.mono (bx1 D1))
  have bwb1 : Below w1.heap.size w1 wb1 := (Below.drewSelf _ _ 1).trans hbwb1
  refine hK _ _ Bwb1 (fun _ => ?_)
  clear hK K howb1 hbwb1 D1
  refine wpAnyH_ready (rs := [3]) (by kernel_rfl) (by simp) ?_
  refine AllReadyH.cons rfl (fun K hK => ?_) AllReadyH.nil
  rw [if_pos (by kernel_rfl)]
  try simp only [Act.put, List.setIfInBounds_toArray]
  go_wp2_with fail
  refine (toVal_any k n s wb1).mono ?_
  rintro e wc1 ⟨rfl, hbwc1⟩
  have hOwc1 := hOwb1.grow hbwc1
  have Bwc1 := Bwb1.trans (hbwc1.mono (bx1 Bwb1))
  have bwc1 := bwb1.trans (hbwc1.mono bwb1.size)
  refine hK _ _ Bwc1 (fun _ => ?_)
  clear hK K hbwc1 hOwb1 Bwb1 bwb1
  refine wpAnyH_ready (rs := [4]) (by kernel_rfl) (by simp) ?_
  refine AllReadyH.cons rfl (fun K hK => ?_) AllReadyH.nil
  rw [if_pos (by kernel_rfl)]
  try simp only [Act.put, List.setIfInBounds_toArray]
  go_wp2_with fail
  refine (HS.out _ wc1 (hOwc1.bs hbz)).mono ?_
  rintro e wd1 ⟨v0, rfl, hW0, hbwd1⟩
  have Bwd1 := Bwc1.trans (hbwd1.mono (bx1 Bwc1))
  have bwd1 := bwc1.trans (hbwd1.mono bwc1.size)
  refine hK _ _ Bwd1 (fun _ => ?_)
  clear hK K hOwc1 Bwc1
  refine wpAnyH_take (i := 5) (v := v0) rfl (by kernel_rfl) (by kernel_rfl) (by kernel_rfl) (fun _ _ _ h => h) (Or.inl ⟨by kernel_rfl, fun w _ => by kernel_rfl⟩) Bwd1 ?_
  refine wpAnyH_done (by kernel_rfl) ?_ _
  have hW := hW0.mono (b0 := 0) (Nat.zero_le _)
  have hWlt : ∀ k, v0.ownBlock = some k → k < wd1.heap.size := fun k hk => (hW0.lt k hk).2
  clear hW0 hbwd1 B1
  go_wp2_with fail
  refine (toByteS_any _ zs _ (H0.out.grow (Bwd1.mono (by simp))) (by omega)).mono ?_
  rintro e w3 ⟨rfl, ho3, hb3⟩
  have hX : Own w3 wd1.heap.size _ zs := ho3
  have hWX := hW.grow hb3
  have B3 := Bwd1.trans (hb3.mono (bx1 Bwd1))
  have s23 : wd1.heap.size < w3.heap.size := (hX.lt _ rfl).2
  have s2 := (bx1 Bwd1)
  have hc3 := fun o => B3.cell (p := ⟨w.heap.size, o, none⟩) (by simp)
  clear ho3 hb3 hW Bwd1
  go_wp2_with fail
  refine (toVal_any k n s w3).mono ?_
  rintro e w3' ⟨rfl, hb3'⟩
  have hX' := hX.grow hb3'
  have hWX' := hWX.grow hb3'
  have B3' := B3.trans (hb3'.mono (bx1 B3))
  have s23' : w3.heap.size ≤ w3'.heap.size := hb3'.size
  clear hX hWX B3 hb3' hc3
  go_wp2_with fail
  refine (HI.out _ w3' (hX'.bs hbz)).mono ?_
  rintro e w4 ⟨g0, rfl, hG, hb4⟩
  have hW4 := hWX'.grow hb4
  have hX4 := hX'.grow hb4
  have B4 := B3'.trans (hb4.mono (bx1 B3'))
  have hGlt : ∀ k, g0.ownBlock = some k → w3'.heap.size ≤ k := fun k hk => (hG.lt k hk).1
  clear hWX' hX' hb4 B3'
  go_wp2_with fail
  refine (eqByteS_same _ _ L w4 (hG.bs hLb) (hW4.bs hLb)).mono ?_
  rintro e w5 ⟨rfl, n5, hw5⟩
  have hb5 : Below w4.heap.size w4 w5 := by rw [hw5]; exact Below.drewSelf _ _ _
  clear hw5
  have hG5 := hG.grow hb5
  have hW5 := hW4.grow hb5
  have hX5 := hX4.grow hb5
  have B5 := B4.trans (hb5.mono (bx1 B4))
  clear hG hW4 hX4 hb5 B4
  go_wp2_with fail
  refine (toByteS_any _ zs _ (H0.out.grow (B5.mono (by simp))) (by omega)).mono ?_
  rintro e w6 ⟨rfl, ho6, hb6⟩
  have hT6 : Own w6 w5.heap.size _ zs := ho6
  have hG6 := hG5.grow hb6
  have hW6 := hW5.grow hb6
  have hX6 := hX5.grow hb6
  have B6 := B5.trans (hb6.mono (bx1 B5))
  clear ho6 hG5 hW5 hX5 hb6 B5
  go_wp2_with fail
  refine (eqByteS_same _ _ zs w6 (hX6.bs hbz) (hT6.bs hbz)).mono ?_
  rintro e w7 ⟨rfl, n7, hw7⟩
  have hb7 : Below w6.heap.size w6 w7 := by rw [hw7]; exact Below.drewSelf _ _ _
  clear hw7
  have hG7 := hG6.grow hb7
  have hW7 := hW6.grow hb7
  have hX7 := hX6.grow hb7
  have B7 := B6.trans (hb7.mono (bx1 B6))
  clear hT6 hG6 hW6 hX6 hb7 B6
  go_wp2_with fail
  refine (markByteS_any wd1.heap.size _ zs w7 hX7 (by omega)).mono ?_
  rintro e w8 ⟨rfl, hx8, hg8⟩
  have hG8 := hG7.other hg8 (fun k hk => by have := hGlt k hk; simp [Value.ownBlock]; omega)
  have hW8 := hW7.other hg8 (fun k hk => by have := hWlt k hk; simp [Value.ownBlock]; omega)
  have B8 := B7.grown hg8 (bx1 B7) (fun k hk => by simp [Value.ownBlock] at hk; omega)
  clear hx8 hg8 hX7 hG7 hW7 B7
  have hk8 : ¬ (1 + (zs.length : Int) < 0) := by omega
  go_wp2_with fail
  refine (eqByteS_same _ _ L w8 (hG8.bs hLb) (hW8.bs hLb)).mono ?_
  rintro e w9 ⟨rfl, n9, hw9⟩
  have hb9 : Below w8.heap.size w8 w9 := by rw [hw9]; exact Below.drewSelf _ _ _
  clear hw9
  have hG9 := hG8.grow hb9
  have hW9 := hW8.grow hb9
  have B9 := B8.trans (hb9.mono (bx1 B8))
  clear hG8 hW8 hb9 B8
  go_wp2_with fail
  refine (markByteS_any w3'.heap.size _ L w9 hG9 (by omega)).mono ?_
  rintro e w10 ⟨rfl, hm10, hg10⟩
  have hm' : w10.ownsRow w3'.heap.size 5 1 g0 (marks 1 L.length).length (U8 (marks 1 L.length)) := by rw [marks_length]; exact hm10
  have hM10 : Own w10 w3'.heap.size g0 (marks 1 L.length) := hm'
  have hW10 := hW9.other hg10 (fun k hk e => by have h1 := hWlt k hk; have h2 := hGlt k e.symm; omega)
  have B10 := B9.grown hg10 (bx1 B9) (fun k hk => by have h2 := hGlt k hk; omega)
  clear hm10 hm' hg10 hG9 hW9 B9
  have hk10 : ¬ (1 + (L.length : Int) < 0) := by omega
  go_wp2_with fail
  refine (heldByteS_marks _ L.length w10 (hM10.bs (marks_byte _ _)) (by omega)).mono ?_
  rintro e w10' ⟨rfl, hw⟩
  obtain rfl := hw.symm
  clear hw
  go_wp2_with fail
  have D2 : Below (w.heap.size + 1) (boxed w k n s 43) w10.drew := B10.trans (Below.drewSelf _ _ 1)
  refine wp_region_held_drew (S := fun w' => Below (w.heap.size + 1) (boxed w k n s 43) w') (by kernel_rfl) D2 (fun _ => ?_)
  refine wpAnyH_take (i := 0) (v := .slice ao zs.length cap) rfl (by kernel_rfl) (by kernel_rfl) (by kernel_rfl) (fun _ _ _ h => h) (Or.inl ⟨by kernel_rfl, fun w _ => by kernel_rfl⟩) D2 ?_
  refine wpAnyH_take (i := 2) (v := vl k n s) rfl (by kernel_rfl) (by kernel_rfl) (by kernel_rfl) (fun _ _ _ h => h) (Or.inl ⟨by kernel_rfl, fun w' hw => ?_⟩) D2 ?_
  · have hc := fun o => hw.cell (p := ⟨w.heap.size, o, none⟩) (by simp)
    simp only [Act.put, List.setIfInBounds_toArray]
    go_simp
  refine wpAnyH_ready (rs := [1]) (by kernel_rfl) (by simp) ?_
  refine AllReadyH.cons rfl (fun K hK => ?_) AllReadyH.nil
  rw [if_pos (by kernel_rfl)]
  try simp only [Act.put, List.setIfInBounds_toArray]
  go_wp2_with fail
  refine (toByteS_any _ zs _ (H0.out.grow (D2.mono (by simp))) (by omega)).mono ?_
  rintro e wb2 ⟨rfl, howb2, hbwb2⟩
  have hOwb2 : Own wb2 w10.drew.heap.size _ zs := howb2
  have Bwb2 := D2.trans (hbwb2.mono (bx1 D2))
  have bwb2 : Below w10.heap.size w10 wb2 := (Below.drewSelf _ _ 1).trans hbwb2
  refine hK _ _ Bwb2 (fun _ => ?_)
  clear hK K howb2 hbwb2 D2
  refine wpAnyH_ready (rs := [3]) (by kernel_rfl) (by simp) ?_
  refine AllReadyH.cons rfl (fun K hK => ?_) AllReadyH.nil
  rw [if_pos (by kernel_rfl)]
  try simp only [Act.put, List.setIfInBounds_toArray]
  go_wp2_with fail
  refine (toVal_any k n s wb2).mono ?_
  rintro e wc2 ⟨rfl, hbwc2⟩
  have hOwc2 := hOwb2.grow hbwc2
  have Bwc2 := Bwb2.trans (hbwc2.mono (bx1 Bwb2))
  have bwc2 := bwb2.trans (hbwc2.mono bwb2.size)
  refine hK _ _ Bwc2 (fun _ => ?_)
  clear hK K hbwc2 hOwb2 Bwb2 bwb2
  refine wpAnyH_ready (rs := [4]) (by kernel_rfl) (by simp) ?_
  refine AllReadyH.cons rfl (fun K hK => ?_) AllReadyH.nil
  rw [if_pos (by kernel_rfl)]
  try simp only [Act.put, List.setIfInBounds_toArray]
  go_wp2_with fail
  refine (HI.out _ wc2 (hOwc2.bs hbz)).mono ?_
  rintro e wd2 ⟨h0, rfl, hH, hbwd2⟩
  have Bwd2 := Bwc2.trans (hbwd2.mono (bx1 Bwc2))
  have bwd2 := bwc2.trans (hbwd2.mono bwc2.size)
  refine hK _ _ Bwd2 (fun _ => ?_)
  clear hK K hOwc2 Bwc2
  refine wpAnyH_take (i := 5) (v := h0) rfl (by kernel_rfl) (by kernel_rfl) (by kernel_rfl) (fun _ _ _ h => h) (Or.inl ⟨by kernel_rfl, fun w _ => by kernel_rfl⟩) Bwd2 ?_
  refine wpAnyH_done (by kernel_rfl) ?_ _
  have hM12 := hM10.grow bwd2
  have hW12 := hW10.grow bwd2
  clear hM10 hW10 bwd2 hbwd2 B10
  go_wp2_with fail
  refine (eqByteS_same _ _ L wd2 (hH.bs hLb) (hW12.bs hLb)).mono ?_
  rintro e w13 ⟨rfl, n13, hw13⟩
  have hb13 : Below wd2.heap.size wd2 w13 := by rw [hw13]; exact Below.drewSelf _ _ _
  clear hw13
  have hM13 := hM12.grow hb13
  have B13 := BB.trans ((Bwd2.trans (hb13.mono (bx1 Bwd2))).mono (by omega))
  clear hM12 hW12 hb13 Bwd2 hH
  go_wp2_with fail
  refine (heldByteS_marks _ L.length w13 (hM13.bs (marks_byte _ _)) (by omega)).mono ?_
  rintro e w14 ⟨rfl, hw⟩
  subst hw
  go_wp2
  go_ret
  exact ⟨rfl, B13⟩

theorem fnExactPutVal_walk (v : Value) (zs : List Int) (k n : Int) (s : ByteArray) (w : World) (h : Bs w v zs) (hm : s.size ≤ maxLen) :
    Calls Try.prog 16 #[v, vl k n s] w fun e w' => e = .returned (.bool true) ∧ Below w.heap.size w w' := by
  have BB : Below w.heap.size w (boxed w k n s 43) := (Below.refl _ _).alloc (Nat.le_refl _) _
  by_cases hlen : zs.length ≤ 1048576
  · by_cases hs : s.size ≤ 1048576
    · exact fnExactPutVal_small v zs k n s w h hlen hs
    · obtain ⟨ao, cap, rfl⟩ : ∃ ao cap, v = .slice ao zs.length cap := by obtain ⟨_, ao, cap, e, _⟩ := h; exact ⟨ao, cap, e⟩
      clear h
      have h1 : ¬ (1048576 : Int) < (zs.length : Int) := by omega
      have HZ := Hid.mk (fun w => szVal_any k n s w hm)
      rw [if_pos (by omega)] at HZ
      go_enter Try.func16, Try.ntmps16
      go_wp2_with fail
      refine (HZ.out _).mono ?_
      rintro e w1 ⟨rfl, hb1⟩
      have B1 := BB.trans (hb1.mono (by simp))
      clear BB hb1
      go_wp2
      go_ret
      exact ⟨rfl, B1⟩
  · obtain ⟨ao, cap, rfl⟩ : ∃ ao cap, v = .slice ao zs.length cap := by obtain ⟨_, ao, cap, e, _⟩ := h; exact ⟨ao, cap, e⟩
    clear h
    have hlt : (1048576 : Int) < (zs.length : Int) := by omega
    go_enter Try.func16, Try.ntmps16
    go_wp2
    go_ret
    exact ⟨rfl, BB⟩
end Go.Proofs.Ytincoibidgkiaaa
