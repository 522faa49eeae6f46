/- The law FnExactPutText walked: the program's PutText answers as the document's model of it, writes into no argument and keeps nothing of one. -/
import Derived.Test.YtincoibidgkiaaaImplPutText
import Derived.Test.YtincoibidgkiaaaSpecPutText
namespace Go.Proofs.Ytincoibidgkiaaa
open Go.RowKit

theorem text_tail (s : ByteArray) (hs : s.size ≤ 1048576) : (Ma.UG (Ma.clamp (s.size : Int)) ++ txt s).length ≤ 1048581 := by
  have := Ma.UG_length (Ma.clamp (s.size : Int))
  rw [List.length_append, txt_length]
  omega

set_option maxHeartbeats 1000000 in
theorem fnExactPutText_small (v : Value) (zs : List Int) (s : ByteArray) (w : World) (h : Bs w v zs) (hlen : zs.length ≤ 1048576) (hs : s.size ≤ 1048576) :
    Calls Try.prog 11 #[v, .string s] w fun e w' => e = .returned (.bool true) ∧ Below w.heap.size w w' := by
  obtain ⟨L, HL⟩ : ∃ L, Hid (zs ++ (Ma.UG (Ma.clamp (s.size : Int)) ++ txt s) = L) := ⟨_, rfl⟩
  have hbz := h.1
  have hLb : byteList L := by rw [← HL.out]; exact hbz.append ((UG_byte 5 _ (Ma.clamp_lo _)).append (txt_byte s))
  have hLl : L.length ≤ 3145728 := by rw [← HL.out]; have := text_tail s hs; rw [List.length_append]; omega
  have HS : Hid (∀ v w, Bs w v zs → Calls Try.prog 41 #[v, .string s] w fun e w' => ∃ v', e = .returned v' ∧ Own w' w.heap.size v' L ∧ Below w.heap.size w w') := by
    rw [← HL.out]; intro v w h1; exact specPutText_any v zs s w h1 (by omega) hs
  have HI : Hid (∀ v w, Bs w v zs → Calls Try.prog 33 #[v, .string s] w fun e w' => ∃ v', e = .returned v' ∧ Own w' w.heap.size v' L ∧ Below w.heap.size w w') := by
    rw [← HL.out]; intro v w h1; exact implPutText_any v zs s w h1 (by omega) hs
  clear HL
  obtain ⟨ao, cap, hv⟩ : ∃ ao cap, v = .slice ao zs.length cap := by obtain ⟨_, ao, cap, e, _⟩ := h; exact ⟨ao, cap, e⟩
  subst hv
  go_enter Try.func11, Try.ntmps11
  go_wp2_with fail
  refine (toByteS_any _ zs _ h (by omega)).mono ?_
  rintro e w1 ⟨rfl, ho1, hb1⟩
  have hO1 : Own w1 w.heap.size _ zs := ho1
  clear ho1
  go_wp2_with fail
  refine (HS.out _ w1 (hO1.bs hbz)).mono ?_
  rintro e w2 ⟨v0, rfl, hW, hb2⟩
  have B2 : Below w.heap.size w w2 := hb1.trans (hb2.mono hb1.size)
  have hWlt : ∀ k, v0.ownBlock = some k → k < w2.heap.size := fun k hk => (hW.lt k hk).2
  clear hO1 hb1 hb2
  go_wp2_with fail
  refine (toByteS_any _ zs _ (h.grow B2) (by omega)).mono ?_
  rintro e w3 ⟨rfl, ho3, hb3⟩
  have hX : Own w3 w2.heap.size _ zs := ho3
  have hWX := hW.grow hb3
  have B3 := B2.trans (hb3.mono B2.size)
  have s23 : w2.heap.size < w3.heap.size := (hX.lt _ rfl).2
  have s2 := B2.size
  clear ho3 hb3 hW B2
  go_wp2_with fail
  refine (HI.out _ w3 (hX.bs hbz)).mono ?_
  rintro e w4 ⟨g0, rfl, hG, hb4⟩
  have hW4 := hWX.grow hb4
  have hX4 := hX.grow hb4
  have B4 := B3.trans (hb4.mono B3.size)
  have hGlt : ∀ k, g0.ownBlock = some k → w3.heap.size ≤ k := fun k hk => (hG.lt k hk).1
  clear hWX hX hb4 B3
  go_wp2_with fail
  refine (eqByteS_same _ _ L w4 (hG.bs hLb) (hW4.bs hLb)).mono ?_
  rintro e w5 ⟨rfl, n5, hw5⟩
  have hb5 : Below w4.heap.size w4 w5 := by rw [hw5]; exact Below.drewSelf _ _ _
  clear hw5
  have hG5 := hG.grow hb5
  have hW5 := hW4.grow hb5
  have hX5 := hX4.grow hb5
  have B5 := B4.trans (hb5.mono B4.size)
  clear hG hW4 hX4 hb5 B4
  go_wp2_with fail
  refine (toByteS_any _ zs _ (h.grow B5) (by omega)).mono ?_
  rintro e w6 ⟨rfl, ho6, hb6⟩
  have hT6 : Own w6 w5.heap.size _ zs := ho6
  have hG6 := hG5.grow hb6
  have hW6 := hW5.grow hb6
  have hX6 := hX5.grow hb6
  have B6 := B5.trans (hb6.mono B5.size)
  clear ho6 hG5 hW5 hX5 hb6 B5
  go_wp2_with fail
  refine (eqByteS_same _ _ zs w6 (hX6.bs hbz) (hT6.bs hbz)).mono ?_
  rintro e w7 ⟨rfl, n7, hw7⟩
  have hb7 : Below w6.heap.size w6 w7 := by rw [hw7]; exact Below.drewSelf _ _ _
  clear hw7
  have hG7 := hG6.grow hb7
  have hW7 := hW6.grow hb7
  have hX7 := hX6.grow hb7
  have B7 := B6.trans (hb7.mono B6.size)
  clear hT6 hG6 hW6 hX6 hb7 B6
  go_wp2_with fail
  refine (markByteS_any w2.heap.size _ zs w7 hX7 (by omega)).mono ?_
  rintro e w8 ⟨rfl, hx8, hg8⟩
  have hG8 := hG7.other hg8 (fun k hk => by have := hGlt k hk; simp [Value.ownBlock]; omega)
  have hW8 := hW7.other hg8 (fun k hk => by have := hWlt k hk; simp [Value.ownBlock]; omega)
  have B8 := B7.grown hg8 B7.size (fun k hk => by simp [Value.ownBlock] at hk; omega)
  clear hx8 hg8 hX7 hG7 hW7 B7
  have hk8 : ¬ (1 + (zs.length : Int) < 0) := by omega
  go_wp2_with fail
  refine (eqByteS_same _ _ L w8 (hG8.bs hLb) (hW8.bs hLb)).mono ?_
  rintro e w9 ⟨rfl, n9, hw9⟩
  have hb9 : Below w8.heap.size w8 w9 := by rw [hw9]; exact Below.drewSelf _ _ _
  clear hw9
  have hG9 := hG8.grow hb9
  have hW9 := hW8.grow hb9
  have B9 := B8.trans (hb9.mono B8.size)
  clear hG8 hW8 hb9 B8
  go_wp2_with fail
  refine (markByteS_any w3.heap.size _ L w9 hG9 (by omega)).mono ?_
  rintro e w10 ⟨rfl, hm10, hg10⟩
  have hm' : w10.ownsRow w3.heap.size 5 1 g0 (marks 1 L.length).length (U8 (marks 1 L.length)) := by rw [marks_length]; exact hm10
  have hM10 : Own w10 w3.heap.size g0 (marks 1 L.length) := hm'
  have hW10 := hW9.other hg10 (fun k hk e => by have h1 := hWlt k hk; have h2 := hGlt k e.symm; omega)
  have B10 := B9.grown hg10 B9.size (fun k hk => by have h2 := hGlt k hk; omega)
  clear hm10 hm' hg10 hG9 hW9 B9
  have hk10 : ¬ (1 + (L.length : Int) < 0) := by omega
  go_wp2_with fail
  refine (heldByteS_marks _ L.length w10 (hM10.bs (marks_byte _ _)) (by omega)).mono ?_
  rintro e w10' ⟨rfl, hw⟩
  subst hw
  go_wp2_with fail
  refine (toByteS_any _ zs _ (h.grow B10) (by omega)).mono ?_
  rintro e w11 ⟨rfl, ho11, hb11⟩
  have hT11 : Own w11 _ _ zs := ho11
  have hM11 := hM10.grow hb11
  have hW11 := hW10.grow hb11
  have B11 := B10.trans (hb11.mono B10.size)
  clear ho11 hM10 hW10 hb11 B10
  go_wp2_with fail
  refine (HI.out _ w11 (hT11.bs hbz)).mono ?_
  rintro e w12 ⟨h0, rfl, hH, hb12⟩
  have hM12 := hM11.grow hb12
  have hW12 := hW11.grow hb12
  have B12 := B11.trans (hb12.mono B11.size)
  clear hT11 hM11 hW11 hb12 B11
  go_wp2_with fail
  refine (eqByteS_same _ _ L w12 (hH.bs hLb) (hW12.bs hLb)).mono ?_
  rintro e w13 ⟨rfl, n13, hw13⟩
  have hb13 : Below w12.heap.size w12 w13 := by rw [hw13]; exact Below.drewSelf _ _ _
  clear hw13
  have hM13 := hM12.grow hb13
  have B13 := B12.trans (hb13.mono B12.size)
  clear hM12 hW12 hb13 B12 hH
  go_wp2_with fail
  refine (heldByteS_marks _ L.length w13 (hM13.bs (marks_byte _ _)) (by omega)).mono ?_
  rintro e w14 ⟨rfl, hw⟩
  subst hw
  go_wp2
  go_ret
  exact ⟨rfl, B13⟩

theorem fnExactPutText_walk (v : Value) (zs : List Int) (s : ByteArray) (w : World) (h : Bs w v zs) :
    Calls Try.prog 11 #[v, .string s] w fun e w' => e = .returned (.bool true) ∧ Below w.heap.size w w' := by
  by_cases hlen : zs.length ≤ 1048576
  · by_cases hs : s.size ≤ 1048576
    · exact fnExactPutText_small v zs s w h hlen hs
    · obtain ⟨ao, cap, rfl⟩ : ∃ ao cap, v = .slice ao zs.length cap := by obtain ⟨_, ao, cap, e, _⟩ := h; exact ⟨ao, cap, e⟩
      clear h
      have h1 : ¬ (1048576 : Int) < (zs.length : Int) := by omega
      have h2 : (1048576 : Int) < (s.size : Int) := by omega
      go_enter Try.func11, Try.ntmps11
      go_wp2
      go_ret
      exact ⟨rfl, Below.refl _ _⟩
  · obtain ⟨ao, cap, rfl⟩ : ∃ ao cap, v = .slice ao zs.length cap := by obtain ⟨_, ao, cap, e, _⟩ := h; exact ⟨ao, cap, e⟩
    clear h
    have hlt : (1048576 : Int) < (zs.length : Int) := by omega
    go_enter Try.func11, Try.ntmps11
    go_wp2
    go_ret
    exact ⟨rfl, Below.refl _ _⟩
end Go.Proofs.Ytincoibidgkiaaa
