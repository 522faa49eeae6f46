/- Drawn regular expressions: parts without parts. -/
import Derived.Test.YtapniafhcagogaaDoorCurStr
import Derived.Test.YtapniafhcagogaaDoorRexBox
import Derived.Test.YtapniafhcagogaaDoorRexOkI
namespace Go.Proofs.YtapniafhcagogaaDoor
open Go.RowKit
set_option maxRecDepth 8000

/-- A part without parts, as it is drawn. -/
def Lf (k : Int) (s : ByteArray) : Prop := nodeB (.node k s []) = true ∧ (k ≤ 3 ∨ 9 ≤ k) ∧ s.size ≤ 3

theorem Lf.any : Lf 2 ⟨#[]⟩ := ⟨by decide +kernel, Or.inl (by omega), by decide⟩

set_option maxHeartbeats 1000000 in
theorem l3Leaf_any (cb : Nat) (v : Value) (zs : List Int) (w : World) (h : Cur w cb v zs) :
    Calls Tryd.prog 66 #[.pointer (some ⟨cb, 0, none⟩)] w fun e w' => ∃ k s, e = .returned (rx k s (.slice none 0 0)) ∧ Lf k s ∧ Cur w' cb v zs ∧ w.grownBy w' (some cb) := by
  have hlt := h.lt
  have HNE : Hid (w.heap.size ≠ cb) := by show _ ≠ _; omega
  have HV : Hid (zs ≠ [] → ∀ k, v.ownBlock = some k → k ≠ w.heap.size) := fun hz k hk => by have := h.1.lt hz k hk; omega
  have HC0 := Hid.mk (h.grow ((Below.refl _ _).alloc (Nat.le_refl _) (.cells #[.int .i64 0, .string ⟨#[]⟩, .slice none 0 0] 26)))
  have HB0 := Hid.mk (Bz3.new w (.int .i64 0) (.string ⟨#[]⟩) (.slice none 0 0))
  clear h
  go_enter Tryd.func66, Tryd.ntmps66
  go_wp2_with fail
  refine (l1Below_any cb v zs 8 _ HC0.out).mono ?_
  rintro e w1 ⟨x, rfl, hx0, -, -, hC, hg⟩
  have HB := Hid.mk (HB0.out.by hg HNE.out)
  have HG := Hid.mk (grownBy_trans (gy_alloc w cb _) hg)
  have HC := Hid.mk hC
  clear hC hg HC0 HB0
  by_cases hk0 : x = 0
  · subst hk0
    have c0 := HB.out.c0
    have c1 := HB.out.c1
    have c2 := HB.out.c2
    have f0 := HB.out.fr
    go_wp2
    have hput := HB.out.put (.int .i64 2) (.string ⟨#[]⟩) (.slice none 0 0)
    have hgp := gy_sz3 HG.out (Nat.le_refl _) (.int .i64 2) (.string ⟨#[]⟩) (.slice none 0 0)
    have hcp := HC.out.sz3 (b := w.heap.size) HNE.out HV.out (.int .i64 2) (.string ⟨#[]⟩) (.slice none 0 0)
    unfold sz3 at hput hgp hcp
    generalize ((w1.setCell ⟨w.heap.size, 0, none⟩ (.int .i64 2)).setCell ⟨w.heap.size, 1, none⟩ (.string ⟨#[]⟩)).setCell ⟨w.heap.size, 2, none⟩ (.slice none 0 0) = W at hput hgp hcp ⊢
    have r0 := hput.c0
    have r1 := hput.c1
    have r2 := hput.c2
    refine bodyPost_ret (v := rx 2 ⟨#[]⟩ (.slice none 0 0)) ?_ rfl ⟨_, _, rfl, Lf.any, hcp, hgp⟩
    simp [results, Tryd.results66, go_sem, r0, r1, r2]
  by_cases hk1 : x = 1
  · subst hk1
    go_wp2_with fail
    refine (l1Str_any cb w1.heap.size 4 v zs [⟨#[97,98]⟩, ⟨#[98]⟩, ⟨#[97,98,99]⟩, ⟨#[49,50]⟩] _ (HC.out.grow ((Below.refl _ _).alloc (Nat.le_refl _) _)) rfl (by omega) (by omega) (heap_alloc_new w1 _) (by have := HC.out.lt; omega)).mono ?_
    rintro e w2 ⟨y, rfl, hy, hC2, hg2⟩
    have HB2 := Hid.mk ((HB.out.grow ((Below.refl _ _).alloc (Nat.le_refl _) _)).by hg2 HNE.out)
    have HG2 := Hid.mk (grownBy_trans (gy_new HG.out _) hg2)
    have HC2 := Hid.mk hC2
    have HL : Hid (Lf 3 y) := by
      simp only [List.mem_cons, List.not_mem_nil, or_false] at hy
      rcases hy with rfl | rfl | rfl | rfl
      all_goals exact ⟨by decide +kernel, by omega, by decide⟩
    clear hy hC2 hg2 HB HG HC
    have c0 := HB2.out.c0
    have c1 := HB2.out.c1
    have c2 := HB2.out.c2
    have f0 := HB2.out.fr
    go_wp2
    have hput := HB2.out.put (.int .i64 3) (.string y) (.slice none 0 0)
    have hgp := gy_sz3 HG2.out (Nat.le_refl _) (.int .i64 3) (.string y) (.slice none 0 0)
    have hcp := HC2.out.sz3 (b := w.heap.size) HNE.out HV.out (.int .i64 3) (.string y) (.slice none 0 0)
    unfold sz3 at hput hgp hcp
    generalize ((w2.setCell ⟨w.heap.size, 0, none⟩ (.int .i64 3)).setCell ⟨w.heap.size, 1, none⟩ (.string y)).setCell ⟨w.heap.size, 2, none⟩ (.slice none 0 0) = W at hput hgp hcp ⊢
    have r0 := hput.c0
    have r1 := hput.c1
    have r2 := hput.c2
    refine bodyPost_ret (v := rx 3 y (.slice none 0 0)) ?_ rfl ⟨_, _, rfl, HL.out, hcp, hgp⟩
    simp [results, Tryd.results66, go_sem, r0, r1, r2]
  by_cases hk2 : x = 2
  · subst hk2
    go_wp2_with fail
    refine (l1Int_any cb w1.heap.size 4 v zs [9, 10, 11, 2] _ (HC.out.grow ((Below.refl _ _).alloc (Nat.le_refl _) _)) rfl (by omega) (by omega) (heap_alloc_new w1 _) (by have := HC.out.lt; omega)).mono ?_
    rintro e w2 ⟨y, rfl, hy, hC2, hg2⟩
    have HB2 := Hid.mk ((HB.out.grow ((Below.refl _ _).alloc (Nat.le_refl _) _)).by hg2 HNE.out)
    have HG2 := Hid.mk (grownBy_trans (gy_new HG.out _) hg2)
    have HC2 := Hid.mk hC2
    have HL : Hid (Lf y ⟨#[]⟩) := by
      simp only [List.mem_cons, List.not_mem_nil, or_false] at hy
      rcases hy with rfl | rfl | rfl | rfl
      all_goals exact ⟨by decide +kernel, by omega, by decide⟩
    clear hy hC2 hg2 HB HG HC
    have c0 := HB2.out.c0
    have c1 := HB2.out.c1
    have c2 := HB2.out.c2
    have f0 := HB2.out.fr
    go_wp2
    have hput := HB2.out.put (.int .i64 y) (.string ⟨#[]⟩) (.slice none 0 0)
    have hgp := gy_sz3 HG2.out (Nat.le_refl _) (.int .i64 y) (.string ⟨#[]⟩) (.slice none 0 0)
    have hcp := HC2.out.sz3 (b := w.heap.size) HNE.out HV.out (.int .i64 y) (.string ⟨#[]⟩) (.slice none 0 0)
    unfold sz3 at hput hgp hcp
    generalize ((w2.setCell ⟨w.heap.size, 0, none⟩ (.int .i64 y)).setCell ⟨w.heap.size, 1, none⟩ (.string ⟨#[]⟩)).setCell ⟨w.heap.size, 2, none⟩ (.slice none 0 0) = W at hput hgp hcp ⊢
    have r0 := hput.c0
    have r1 := hput.c1
    have r2 := hput.c2
    refine bodyPost_ret (v := rx y ⟨#[]⟩ (.slice none 0 0)) ?_ rfl ⟨_, _, rfl, HL.out, hcp, hgp⟩
    simp [results, Tryd.results66, go_sem, r0, r1, r2]
  · have hb0 : (x == 0) = false := beq_eq_false_iff_ne.2 hk0
    have hb1 : (x == 1) = false := beq_eq_false_iff_ne.2 hk1
    have hb2 : (x == 2) = false := beq_eq_false_iff_ne.2 hk2
    clear hk0 hk1 hk2
    go_wp2_with fail
    refine (l1Str_any cb w1.heap.size 4 v zs [⟨#[97]⟩, ⟨#[98]⟩, ⟨#[99]⟩, ⟨#[49]⟩] _ (HC.out.grow ((Below.refl _ _).alloc (Nat.le_refl _) _)) rfl (by omega) (by omega) (heap_alloc_new w1 _) (by have := HC.out.lt; omega)).mono ?_
    rintro e w2 ⟨y, rfl, hy, hC2, hg2⟩
    have HB2 := Hid.mk ((HB.out.grow ((Below.refl _ _).alloc (Nat.le_refl _) _)).by hg2 HNE.out)
    have HG2 := Hid.mk (grownBy_trans (gy_new HG.out _) hg2)
    have HC2 := Hid.mk hC2
    have HL : Hid (Lf 1 y) := by
      simp only [List.mem_cons, List.not_mem_nil, or_false] at hy
      rcases hy with rfl | rfl | rfl | rfl
      all_goals exact ⟨by decide +kernel, by omega, by decide⟩
    clear hy hC2 hg2 HB HG HC
    have c0 := HB2.out.c0
    have c1 := HB2.out.c1
    have c2 := HB2.out.c2
    have f0 := HB2.out.fr
    go_wp2
    have hput := HB2.out.put (.int .i64 1) (.string y) (.slice none 0 0)
    have hgp := gy_sz3 HG2.out (Nat.le_refl _) (.int .i64 1) (.string y) (.slice none 0 0)
    have hcp := HC2.out.sz3 (b := w.heap.size) HNE.out HV.out (.int .i64 1) (.string y) (.slice none 0 0)
    unfold sz3 at hput hgp hcp
    generalize ((w2.setCell ⟨w.heap.size, 0, none⟩ (.int .i64 1)).setCell ⟨w.heap.size, 1, none⟩ (.string y)).setCell ⟨w.heap.size, 2, none⟩ (.slice none 0 0) = W at hput hgp hcp ⊢
    have r0 := hput.c0
    have r1 := hput.c1
    have r2 := hput.c2
    refine bodyPost_ret (v := rx 1 y (.slice none 0 0)) ?_ rfl ⟨_, _, rfl, HL.out, hcp, hgp⟩
    simp [results, Tryd.results66, go_sem, r0, r1, r2]
end Go.Proofs.YtapniafhcagogaaDoor
