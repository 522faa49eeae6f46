/- Two drawn values; bytes and a drawn value. -/
import Derived.Test.YtincoibidgkiaaaDoorDrawAny
import Derived.Deep.RegionHeld3
namespace Go.Proofs.YtincoibidgkiaaaDoor
open Go.RowKit
set_option maxRecDepth 8000

theorem cell_drew (W : World) (a : Addr) : W.drew.cell? a = W.cell? a := rfl

theorem cell_set3 (W : World) (b c o : Nat) (h : b ≠ c) (x y z : Value) : (((W.setCell ⟨b, 0, none⟩ x).setCell ⟨b, 1, none⟩ y).setCell ⟨b, 2, none⟩ z).cell? ⟨c, o, none⟩ = W.cell? ⟨c, o, none⟩ := by
  rw [World.cell?_setCell_far _ _ _ _ h, World.cell?_setCell_far _ _ _ _ h, World.cell?_setCell_far _ _ _ _ h]

abbrev zeroBox (w : World) : World := boxed w 0 0 noTxt 25

set_option maxHeartbeats 2000000 in
theorem drawSameVal_any (v : Value) (zs : List Int) (w : World) (h : Bs w v zs) (hlen : zs.length ≤ 1048576) :
    Calls Tryd.prog 49 #[v] w fun e w' => ∃ k n s j m u, e = .returned (.tuple #[vl k n s, vl j m u]) ∧ Fair n s ∧ Fair m u ∧ Below w.heap.size w w' := by
  have BW : Below w.heap.size w (zeroBox (zeroBox w)) := ((Below.refl _ _).alloc (Nat.le_refl _) _).alloc (by simp) _
  have H := Hid.mk (h.grow BW)
  have eW : (zeroBox (zeroBox w)).heap.size = w.heap.size + 2 := by simp
  have HN := Hid.mk (l1New_any v zs (zeroBox (zeroBox w)) H.out hlen)
  rw [eW] at HN
  clear h eW
  go_enter Tryd.func49, Tryd.ntmps49
  go_wp2_with fail
  refine HN.out.mono ?_
  rintro e w1 ⟨rfl, hC, hb⟩
  have HC := Hid.mk hC
  have D1 := Hid.mk hb
  have s1 := hC.lt
  clear hC hb HN
  go_wp2_with fail
  refine (l2Any_any (w.heap.size + 2) v zs w1 HC.out).mono ?_
  rintro e w2 ⟨k, n, s, rfl, hfair, hC, hg⟩
  have HF := Hid.mk hfair
  have s2 := hg.size
  have HC2 := Hid.mk (hC.grow ((Below.refl _ _).alloc (Nat.le_refl _) (.cells #[.int .i64 k, .int .i64 n, .string s] 25)))
  have D2 : Hid (Below (w.heap.size + 2) (zeroBox (zeroBox w)) (boxed w2 k n s 25)) := (D1.out.grown hg (by omega) (fun j hj => by simp at hj; omega)).alloc (by omega) _
  clear hC hg HC D1 hfair
  go_wp2_with fail
  refine (l1Once_any (w.heap.size + 2) v zs 4 _ HC2.out).mono ?_
  rintro e w3 ⟨b, rfl, hC, hg⟩
  have s3 := hg.size
  simp at s3
  have HC3 := Hid.mk hC
  have D3 : Hid (Below (w.heap.size + 2) (zeroBox (zeroBox w)) w3) := D2.out.grown hg (by simp; omega) (fun j hj => by simp at hj; omega)
  obtain ⟨hcB, hfB⟩ := gcell hg w2.heap.size (by simp) (by omega)
  have HB3 := Hid.mk hg
  have hcA := fun o => D3.out.cell (p := ⟨w.heap.size, o, none⟩) (by simp)
  have hcA1 := fun o => D3.out.cell (p := ⟨w.heap.size + 1, o, none⟩) (by simp)
  have hfA := fun o => D3.out.frozen (p := ⟨w.heap.size, o, none⟩) (by simp)
  have hfA1 := fun o => D3.out.frozen (p := ⟨w.heap.size + 1, o, none⟩) (by simp)
  have hne : w2.heap.size ≠ w.heap.size := by omega
  have hne' : w.heap.size ≠ w2.heap.size := by omega
  have hne1 : w2.heap.size ≠ w.heap.size + 1 := by omega
  have hne1' : w.heap.size + 1 ≠ w2.heap.size := by omega
  clear hC hg HC2 D2
  have HS : Hid (∀ o, w3.drew.cell? ⟨w2.heap.size, o, none⟩ = (boxed w2 k n s 25).cell? ⟨w2.heap.size, o, none⟩) := fun o => hcB o
  cases b with
  | true =>
    go_wp2_with fail
    refine wp_region_held_drew (S := (fun w' => ∀ o, w'.cell? ⟨w2.heap.size, o, none⟩ = (boxed w2 k n s 25).cell? ⟨w2.heap.size, o, none⟩)) (by kernel_rfl) HS.out (fun _ => ?_)
    refine wpAnyH_take (i := 0) (v := vl k n s) rfl (by kernel_rfl) (by kernel_rfl) (by kernel_rfl) (fun _ _ _ h => h) (Or.inl ⟨by kernel_rfl, fun w' hw => ?_⟩) HS.out ?_
    · go_simp
    refine wpAnyH_take (i := 1) (v := vl k n s) rfl (by kernel_rfl) (by kernel_rfl) (by kernel_rfl) (fun _ _ _ h => h) (Or.inl ⟨by kernel_rfl, fun w' hw => ?_⟩) HS.out ?_
    · simp only [Act.put, List.setIfInBounds_toArray]
      go_simp
    refine wpAnyH_ready (rs := [2]) (by kernel_rfl) (by simp) ?_
    refine AllReadyH.cons rfl (fun K hK => ?_) AllReadyH.nil
    rw [if_pos (by kernel_rfl)]
    simp only [Act.put, List.setIfInBounds_toArray]
    go_wp2_with fail
    refine hK.out _ _ (fun o => ?_) (fun _ => ?_)
    · rw [cell_drew, cell_set3 _ _ _ _ (by omega)]
      exact hcB o
    clear hK K
    refine wpAnyH_ready (rs := [3]) (by kernel_rfl) (by simp) ?_
    refine AllReadyH.cons rfl (fun K hK => ?_) AllReadyH.nil
    rw [if_pos (by kernel_rfl)]
    go_wp2_with fail
    refine hK.out _ _ (fun o => ?_) (fun _ => ?_)
    · rw [cell_drew, cell_set3 _ _ _ _ (by omega), cell_set3 _ _ _ _ (by omega)]
      exact hcB o
    clear hK K
    refine wpAnyH_done (by kernel_rfl) ?_ _
    go_wp2
    refine bodyPost_ret (v := .tuple #[vl k n s, vl k n s]) (by simp [results, Tryd.results49, go_sem, hcA, hcA1]) rfl ⟨k, n, s, k, n, s, rfl, HF.out, HF.out, ?_⟩
    exact (((BW.trans (D3.out.mono (by omega))).trans (below_set3 w3 w.heap.size w.heap.size (Nat.le_refl _) _ _ _)).trans (below_set3 _ (w.heap.size + 1) w.heap.size (by omega) _ _ _)).trans (Below.drewSelf _ _ 1)
  | false =>
    go_wp2_with fail
    refine wp_region_held_drew (S := (fun w' => ∀ o, w'.cell? ⟨w2.heap.size, o, none⟩ = (boxed w2 k n s 25).cell? ⟨w2.heap.size, o, none⟩)) (by kernel_rfl) HS.out (fun _ => ?_)
    refine wpAnyH_take (i := 1) (v := .pointer (some ⟨w.heap.size + 2, 0, none⟩)) rfl (by kernel_rfl) (by kernel_rfl) (by kernel_rfl) (fun _ _ _ h => h) (Or.inl ⟨by kernel_rfl, fun w _ => by kernel_rfl⟩) HS.out ?_
    refine wpAnyH_take (i := 0) (v := vl k n s) rfl (by kernel_rfl) (by kernel_rfl) (by kernel_rfl) (fun _ _ _ h => h) (Or.inl ⟨by kernel_rfl, fun w' hw => ?_⟩) HS.out ?_
    · simp only [Act.put, List.setIfInBounds_toArray]
      go_simp
    refine wpAnyH_ready (rs := [2]) (by kernel_rfl) (by simp) ?_
    refine AllReadyH.cons rfl (fun K hK => ?_) AllReadyH.nil
    rw [if_pos (by kernel_rfl)]
    simp only [Act.put, List.setIfInBounds_toArray]
    go_wp2_with fail
    refine (l2Any_any (w.heap.size + 2) v zs w3.drew (HC3.out.grow (Below.drewSelf _ _ 1))).mono ?_
    rintro e w4 ⟨j, m, u, rfl, hfair, hC, hg⟩
    have HF4 := Hid.mk hfair
    obtain ⟨hc4, -⟩ := gcell hg w2.heap.size (show w2.heap.size < w3.heap.size by omega) (by omega)
    have hcB4 : ∀ o, w4.cell? ⟨w2.heap.size, o, none⟩ = (boxed w2 k n s 25).cell? ⟨w2.heap.size, o, none⟩ := fun o => (hc4 o).trans (HS.out o)
    have D4 : Hid (Below (w.heap.size + 2) (zeroBox (zeroBox w)) w4) := (D3.out.trans (Below.drewSelf _ _ 1)).grown hg (show w.heap.size + 2 ≤ w3.heap.size by omega) (fun j hj => by simp at hj; omega)
    refine hK.out _ _ hcB4 (fun _ => ?_)
    clear hK K hC hg hfair hcA hcA1 hfA hfA1 hc4 HC3 D3 HB3 hcB hfB
    have hcA := fun o => D4.out.cell (p := ⟨w.heap.size, o, none⟩) (by simp)
    have hcA1 := fun o => D4.out.cell (p := ⟨w.heap.size + 1, o, none⟩) (by simp)
    have hfA := fun o => D4.out.frozen (p := ⟨w.heap.size, o, none⟩) (by simp)
    have hfA1 := fun o => D4.out.frozen (p := ⟨w.heap.size + 1, o, none⟩) (by simp)
    refine wpAnyH_ready (rs := [3]) (by kernel_rfl) (by simp) ?_
    refine AllReadyH.cons rfl (fun K hK => ?_) AllReadyH.nil
    rw [if_pos (by kernel_rfl)]
    go_wp2_with fail
    refine hK.out _ _ (fun o => ?_) (fun _ => ?_)
    · rw [cell_set3 _ _ _ _ (by omega)]
      exact hcB4 o
    clear hK K
    refine wpAnyH_ready (rs := [4]) (by kernel_rfl) (by simp) ?_
    refine AllReadyH.cons rfl (fun K hK => ?_) AllReadyH.nil
    rw [if_pos (by kernel_rfl)]
    go_wp2_with fail
    refine hK.out _ _ (fun o => ?_) (fun _ => ?_)
    · rw [cell_set3 _ _ _ _ (by omega), cell_set3 _ _ _ _ (by omega)]
      exact hcB4 o
    clear hK K
    refine wpAnyH_done (by kernel_rfl) ?_ _
    go_wp2
    refine bodyPost_ret (v := .tuple #[vl k n s, vl j m u]) (by simp [results, Tryd.results49, go_sem, hcA, hcA1]) rfl ⟨k, n, s, j, m, u, rfl, HF.out, HF4.out, ?_⟩
    exact ((BW.trans (D4.out.mono (by omega))).trans (below_set3 w4 w.heap.size w.heap.size (Nat.le_refl _) _ _ _)).trans (below_set3 _ (w.heap.size + 1) w.heap.size (by omega) _ _ _)

set_option maxHeartbeats 1000000 in
theorem drawLessVal_any (v : Value) (zs : List Int) (w : World) (h : Bs w v zs) (hlen : zs.length ≤ 1048576) :
    Calls Tryd.prog 19 #[v] w fun e w' => ∃ k n s j m u, e = .returned (.tuple #[vl k n s, vl j m u]) ∧ Fair n s ∧ Fair m u ∧ Below w.heap.size w w' := by
  have BW : Below w.heap.size w (zeroBox (zeroBox w)) := ((Below.refl _ _).alloc (Nat.le_refl _) _).alloc (by simp) _
  have H := Hid.mk (h.grow BW)
  clear h
  go_enter Tryd.func19, Tryd.ntmps19
  go_wp2_with fail
  refine (drawSameVal_any v zs _ H.out hlen).mono ?_
  rintro e w1 ⟨k, n, s, j, m, u, rfl, hf1, hf2, hb⟩
  have HF := Hid.mk (And.intro hf1 hf2)
  have D4 : Hid (Below (w.heap.size + 2) (zeroBox (zeroBox w)) w1) := hb.mono (by simp)
  have hcA := fun o => D4.out.cell (p := ⟨w.heap.size, o, none⟩) (by simp)
  have hcA1 := fun o => D4.out.cell (p := ⟨w.heap.size + 1, o, none⟩) (by simp)
  have hfA := fun o => D4.out.frozen (p := ⟨w.heap.size, o, none⟩) (by simp)
  have hfA1 := fun o => D4.out.frozen (p := ⟨w.heap.size + 1, o, none⟩) (by simp)
  clear hf1 hf2 hb
  go_wp2
  refine bodyPost_ret (v := .tuple #[vl k n s, vl j m u]) (by simp [results, Tryd.results19, go_sem, hcA, hcA1]) rfl ⟨k, n, s, j, m, u, rfl, HF.out.1, HF.out.2, ?_⟩
  exact ((BW.trans (D4.out.mono (by omega))).trans (below_set3 w1 w.heap.size w.heap.size (Nat.le_refl _) _ _ _)).trans (below_set3 _ (w.heap.size + 1) w.heap.size (by omega) _ _ _)
end Go.Proofs.YtincoibidgkiaaaDoor
