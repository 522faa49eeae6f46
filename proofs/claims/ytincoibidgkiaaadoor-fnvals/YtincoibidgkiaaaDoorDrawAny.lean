/- Any value that a draw hands over, right or not. -/
import Derived.Test.YtincoibidgkiaaaDoorDrawVal
namespace Go.Proofs.YtincoibidgkiaaaDoor
open Go.RowKit
set_option maxRecDepth 8000

set_option maxHeartbeats 2000000 in
theorem l2Any_any (cb : Nat) (v : Value) (zs : List Int) (w : World) (h : Cur w cb v zs) :
    Calls Tryd.prog 31 #[.pointer (some ⟨cb, 0, none⟩)] w fun e w' => ∃ k n s, e = .returned (vl k n s) ∧ Fair n s ∧ Cur w' cb v zs ∧ w.grownBy w' (some cb) := by
  have hcb := h.lt
  have HV := Hid.mk fun hz => h.1.lt hz
  have H := Hid.mk (h.grow ((Below.refl _ _).alloc (Nat.le_refl _) (.cells #[.int .i64 0, .int .i64 0, .string noTxt] 25)))
  have HG0 := Hid.mk (World.grownBy_alloc w (.cells #[.int .i64 0, .int .i64 0, .string noTxt] 25) (some cb))
  clear h
  go_enter Tryd.func31, Tryd.ntmps31
  go_wp2_with fail
  refine (l2Draw_any cb v zs _ H.out).mono ?_
  rintro e w1 ⟨k, n, s, rfl, hfair, hC, hg⟩
  have s1 := hg.size
  simp at s1
  have HF := Hid.mk hfair
  have HC := Hid.mk (hC.grow ((Below.refl _ _).alloc (Nat.le_refl _) (.cells #[.int .i64 k, .int .i64 n, .string s] 25)))
  have HW := Hid.mk (grownBy_trans hg (World.grownBy_alloc w1 (.cells #[.int .i64 k, .int .i64 n, .string s] 25) (some cb)))
  clear hC hg H hfair
  go_wp2_with fail
  refine (l1Below_any cb v zs 12 _ HC.out).mono ?_
  rintro e w2 ⟨x, rfl, hx0, hx1, -, hC, hg⟩
  have s2 := hg.size
  simp at s2
  have HC2 := Hid.mk hC
  have HW2 := Hid.mk (grownBy_trans HW.out hg)
  have HB2 := Hid.mk hg
  clear hC hg HC HW
  by_cases h0 : x = 0
  · subst h0
    go_wp2_with fail
    refine (l1Below_any cb v zs 4 _ HC2.out).mono ?_
    rintro e w3 ⟨y, rfl, -, -, -, hC, hg⟩
    have s3 := hg.size
    obtain ⟨hcA, hfA⟩ := gcell (grownBy_trans HW2.out hg) w.heap.size (by simp) (by omega)
    obtain ⟨hcB, hfB⟩ := gcell (grownBy_trans HB2.out hg) w1.heap.size (by simp) (by omega)
    have HC3 := Hid.mk hC
    have HG3 := Hid.mk (grownBy_trans HG0.out (grownBy_trans HW2.out hg))
    have hne : w1.heap.size ≠ w.heap.size := by omega
    have hne' : w.heap.size ≠ w1.heap.size := by omega
    clear hC hg HC2 HW2 HB2 HG0
    go_wp2
    refine bodyPost_ret (v := vl y n s) (by simp [results, Tryd.results31, go_sem, hcA]) rfl ⟨y, n, s, rfl, HF.out, ?_⟩
    have hend := ((Below.refl w.heap.size w3).setCell (p := ⟨w1.heap.size, 0, none⟩) (by simp; omega) (.int .i64 y)).trans (below_set3 _ w.heap.size w.heap.size (Nat.le_refl _) (.int .i64 y) (.int .i64 n) (.string s))
    exact ⟨HC3.out.below hend hcb HV.out, grownBy_below HG3.out hend (Nat.le_refl _)⟩
  by_cases h1 : x = 1
  · subst h1
    go_wp2_with fail
    refine (l1Num_bd cb v zs _ HC2.out).mono ?_
    rintro e w3 ⟨y, rfl, hyb, hC, hg⟩
    have HY := Hid.mk hyb
    clear hyb
    have s3 := hg.size
    obtain ⟨hcA, hfA⟩ := gcell (grownBy_trans HW2.out hg) w.heap.size (by simp) (by omega)
    obtain ⟨hcB, hfB⟩ := gcell (grownBy_trans HB2.out hg) w1.heap.size (by simp) (by omega)
    have HC3 := Hid.mk hC
    have HG3 := Hid.mk (grownBy_trans HG0.out (grownBy_trans HW2.out hg))
    have hne : w1.heap.size ≠ w.heap.size := by omega
    have hne' : w.heap.size ≠ w1.heap.size := by omega
    clear hC hg HC2 HW2 HB2 HG0
    go_wp2
    refine bodyPost_ret (v := vl k y s) (by simp [results, Tryd.results31, go_sem, hcA]) rfl ⟨k, y, s, rfl, ⟨HY.out.1, HY.out.2, HF.out.2.2⟩, ?_⟩
    have hend := ((Below.refl w.heap.size w3).setCell (p := ⟨w1.heap.size, 1, none⟩) (by simp; omega) (.int .i64 y)).trans (below_set3 _ w.heap.size w.heap.size (Nat.le_refl _) (.int .i64 k) (.int .i64 y) (.string s))
    exact ⟨HC3.out.below hend hcb HV.out, grownBy_below HG3.out hend (Nat.le_refl _)⟩
  by_cases h2 : x = 2
  · subst h2
    obtain ⟨i0, hi, hz0, hz1, hz2⟩ := info_parts info5
    go_wp2_with fail
    refine (l1Below_any cb v zs 2 _ HC2.out).mono ?_
    rintro e w3 ⟨y, rfl, hy0, hy1, -, hC, hg⟩
    have hy2 := hy1 (by omega)
    obtain ⟨p, rfl⟩ := Int.eq_ofNat_of_zero_le hy0
    have s3 := hg.size
    have HCx := Hid.mk hC
    have HGx := Hid.mk hg
    clear hC hg hy1
    go_wp2_with (at_make; refine wpList_make_full _ rfl _ _ 22 rfl w3.heap.size 5 i0 (.int .u8 0) 1 Tryd.underlying22 hi hz0 hz1 _ _ _ _ (200 + p) rfl rfl (by first | rfl | go_num | (simp; omega)) (by first | rfl | go_num | (simp; omega)) (by rw [hz2]; omega) (by unfold maxLen; omega) (by simp) ?_)
    intro w4 hown hgrow
    rw [made_u8] at hown
    have hO : Own w4 w3.heap.size (.slice (some ⟨w3.heap.size, 0, none⟩) (200 + p) (200 + p)) (List.replicate (200 + p) 0) := by
      unfold Own
      rw [List.length_replicate]
      exact hown
    have hcv := run_strOf_any (hO.bs (by intro z hz; have := List.eq_of_mem_replicate hz; omega))
    obtain ⟨t, ht⟩ : ∃ t, strOf (List.replicate (200 + p) 0) = t := ⟨_, rfl⟩
    have HT : Hid (t.size ≤ 201) := by rw [← ht, strOf_size, List.length_replicate]; show _ ≤ _; omega
    rw [ht] at hcv
    have hgc : w3.grownBy w4 (some cb) := ⟨hgrow.os, hgrow.tape, hgrow.output, hgrow.size, fun j hj _ => hgrow.block j hj (by simp)⟩
    have hb4 : Below w3.heap.size w3 w4 := ⟨hgrow.os, hgrow.tape, hgrow.output, hgrow.size, fun j hj => hgrow.block j hj (by simp)⟩
    have hg := grownBy_trans HGx.out hgc
    have hC := HCx.out.grow hb4
    have s4 := hgrow.size
    obtain ⟨hcA, hfA⟩ := gcell (grownBy_trans HW2.out hg) w.heap.size (by simp) (by omega)
    obtain ⟨hcB, hfB⟩ := gcell (grownBy_trans HB2.out hg) w1.heap.size (by simp) (by omega)
    have HC3 := Hid.mk hC
    have HG3 := Hid.mk (grownBy_trans HG0.out (grownBy_trans HW2.out hg))
    have hne : w1.heap.size ≠ w.heap.size := by omega
    have hne' : w.heap.size ≠ w1.heap.size := by omega
    clear hC hg HC2 HW2 HB2 HG0 hown hO ht hgc hb4 hgrow HCx HGx
    go_wp2
    refine bodyPost_ret (v := vl k n t) (by simp [results, Tryd.results31, go_sem, hcA]) rfl ⟨k, n, t, rfl, ⟨HF.out.1, HF.out.2.1, HT.out⟩, ?_⟩
    have hend := ((Below.refl w.heap.size w4).setCell (p := ⟨w1.heap.size, 2, none⟩) (by simp; omega) (.string t)).trans (below_set3 _ w.heap.size w.heap.size (Nat.le_refl _) (.int .i64 k) (.int .i64 n) (.string t))
    exact ⟨HC3.out.below hend hcb HV.out, grownBy_below HG3.out hend (Nat.le_refl _)⟩
  · have hne : w1.heap.size ≠ w.heap.size := by omega
    have hne' : w.heap.size ≠ w1.heap.size := by omega
    obtain ⟨hcA, hfA⟩ := gcell HW2.out w.heap.size (by simp) (by omega)
    obtain ⟨hcB, hfB⟩ := gcell HB2.out w1.heap.size (by simp) (by omega)
    have HC3 := HC2
    have HG3 := Hid.mk (grownBy_trans HG0.out HW2.out)
    clear HC2 HW2 HB2 HG0
    go_wp2
    refine bodyPost_ret (v := vl k n s) (by simp [results, Tryd.results31, go_sem, hcA]) rfl ⟨k, n, s, rfl, HF.out, ?_⟩
    have hend := (Below.refl w.heap.size w2).trans (below_set3 _ w.heap.size w.heap.size (Nat.le_refl _) (.int .i64 k) (.int .i64 n) (.string s))
    exact ⟨HC3.out.below hend hcb HV.out, grownBy_below HG3.out hend (Nat.le_refl _)⟩
end Go.Proofs.YtincoibidgkiaaaDoor
