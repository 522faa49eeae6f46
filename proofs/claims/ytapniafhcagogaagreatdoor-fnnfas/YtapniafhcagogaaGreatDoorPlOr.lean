/- A place added to a set; a set added to a set. Rows of sets of places: four words each, in one block. One or the other, the program's. -/
import Derived.Test.YtapniafhcagogaaGreatDoorMatThenM
import Derived.Test.YtapniafhcagogaaGreatDoorTake
import Derived.Test.YtapniafhcagogaaGreatDoorRexOwn
namespace Go.Proofs.YtapniafhcagogaaGreatDoor
open Go.RowKit
set_option maxRecDepth 8000

theorem bits_or (x y : Nat) (hx : x < 18446744073709551616) (hy : y < 18446744073709551616) : bits .or .u64 (x : Int) (y : Int) = ((x ||| y : Nat) : Int) := or_u64 x y hx hy

set_option maxHeartbeats 1000000 in
theorem add_any (b o a x : Nat) (ha : a ≤ 255) (hx : x < 18446744073709551616) (w : World) (hc : w.cell? ⟨b, o + a / 64, none⟩ = some (.int .u64 (x : Int))) (hf : w.frozen? ⟨b, o + a / 64, none⟩ = false) :
    Calls Tryz.prog 91 #[.pointer (some ⟨b, o, none⟩), .int .i64 (a : Int)] w fun e w' => (∃ u, e = .returned u) ∧ ∃ m, w' = (w.setCell ⟨b, o + a / 64, none⟩ (.int .u64 ((x ||| 2 ^ (a % 64) : Nat) : Int))).drewN m := by
  obtain ⟨q, hq⟩ : ∃ q, a / 64 = q := ⟨_, rfl⟩
  obtain ⟨r, hr⟩ : ∃ r, a % 64 = r := ⟨_, rfl⟩
  rw [hq] at hc hf ⊢
  rw [hr]
  have hq4 : q < 4 := by omega
  have hr64 : r < 64 := by omega
  have hqi : (a : Int).tdiv 64 = (q : Int) := by rw [Int.tdiv_eq_ediv_of_nonneg (by omega)]; omega
  have hri : (a : Int).tmod 64 = (r : Int) := by rw [Int.tmod_eq_emod_of_nonneg (by omega)]; omega
  have hwq : IntKind.i64.wrap (q : Int) = (q : Int) := by rw [IntKind.wrap_i64]; omega
  have hwr : IntKind.i64.wrap (r : Int) = (r : Int) := by rw [IntKind.wrap_i64]; omega
  obtain ⟨P, hP⟩ : ∃ P, 2 ^ r = P := ⟨_, rfl⟩
  rw [hP]
  have hPl : P < 18446744073709551616 := by rw [← hP]; exact Nat.pow_lt_pow_right (a := 2) (by omega) hr64
  have HPI : Hid ((2 : Int) ^ r = (P : Int)) := by show _ = _; rw [← hP]; simp
  have HOR := Hid.mk (bits_or x P hx hPl)
  clear hq hr hP
  go_enter Tryz.func91, Tryz.ntmps91
  go_wp2
  refine wp_region_held_drew (S := fun _ => True) (by kernel_rfl) trivial (fun _ => ?_)
  refine takeHD (i := 0) (v := .pointer (some ⟨b, o, none⟩)) (some 4) rfl rfl (by kernel_rfl) (by kernel_rfl) (by kernel_rfl) (fun _ _ _ h => h) (Or.inl ⟨by kernel_rfl, fun w' hw => ?_⟩) trivial ?_
  · kernel_rfl
  simp only [Act.put, List.setIfInBounds_toArray]
  refine takeHD (i := 1) (v := .int .i64 a) (some 5) rfl rfl (by kernel_rfl) (by kernel_rfl) (by kernel_rfl) (fun _ _ _ h => h) (Or.inl ⟨by kernel_rfl, fun w' hw => ?_⟩) trivial ?_
  · kernel_rfl
  simp only [Act.put, List.setIfInBounds_toArray]
  refine takeHD (i := 2) (v := .int .i64 q) (some 6) rfl rfl (by kernel_rfl) (by kernel_rfl) (by kernel_rfl) (fun _ _ _ h => h) (Or.inl ⟨by kernel_rfl, fun w' hw => ?_⟩) trivial ?_
  · go_simp
  simp only [Act.put, List.setIfInBounds_toArray]
  refine takeHD (i := 3) (v := .pointer (some ⟨b, o, none⟩)) (some 7) rfl rfl (by kernel_rfl) (by kernel_rfl) (by kernel_rfl) (fun _ _ _ h => h) (Or.inl ⟨by kernel_rfl, fun w' hw => ?_⟩) trivial ?_
  · go_simp
  simp only [Act.put, List.setIfInBounds_toArray]
  refine takeHD (i := 4) (v := .pointer (some ⟨b, o + q, none⟩)) (some 8) rfl rfl (by kernel_rfl) (by kernel_rfl) (by kernel_rfl) (fun _ _ _ h => h) (Or.inl ⟨by kernel_rfl, fun w' hw => ?_⟩) trivial ?_
  · first | (go_simp; done) | (go_simp; intro h; omega) | (go_simp; rw [IntKind.wrap_i64]; omega)
  simp only [Act.put, List.setIfInBounds_toArray]
  refine takeHD (i := 6) (v := .int .i64 a) (some 10) rfl rfl (by kernel_rfl) (by kernel_rfl) (by kernel_rfl) (fun _ _ _ h => h) (Or.inl ⟨by kernel_rfl, fun w' hw => ?_⟩) trivial ?_
  · kernel_rfl
  simp only [Act.put, List.setIfInBounds_toArray]
  refine takeHD (i := 7) (v := .int .i64 r) (some 11) rfl rfl (by kernel_rfl) (by kernel_rfl) (by kernel_rfl) (fun _ _ _ h => h) (Or.inl ⟨by kernel_rfl, fun w' hw => ?_⟩) trivial ?_
  · go_simp
  simp only [Act.put, List.setIfInBounds_toArray]
  refine takeHD (i := 8) (v := .int .u64 (P : Int)) (some 12) rfl rfl (by kernel_rfl) (by kernel_rfl) (by kernel_rfl) (fun _ _ _ h => h) (Or.inl ⟨by kernel_rfl, fun w' hw => ?_⟩) trivial ?_
  · go_simp
    rw [HPI.out, IntKind.wrap_u64]
    omega
  simp only [Act.put, List.setIfInBounds_toArray]
  refine takeHD (i := 10) (v := .pointer (some ⟨b, o, none⟩)) (some 14) rfl rfl (by kernel_rfl) (by kernel_rfl) (by kernel_rfl) (fun _ _ _ h => h) (Or.inl ⟨by kernel_rfl, fun w' hw => ?_⟩) trivial ?_
  · go_simp
  simp only [Act.put, List.setIfInBounds_toArray]
  refine wpAnyH_ready (rs := [5]) (by kernel_rfl) (by simp) ?_
  refine AllReadyH.cons rfl (fun K hK => ?_) AllReadyH.nil
  rw [if_pos (by kernel_rfl)]
  go_wp2_with fail
  refine hK.out _ _ trivial (fun _ => ?_)
  clear hK K
  refine takeHD (i := 9) (v := .int .u64 ((x ||| P : Nat) : Int)) (some 13) rfl rfl (by kernel_rfl) (by kernel_rfl) (by kernel_rfl) (fun _ _ _ h => h) (Or.inl ⟨by kernel_rfl, fun w' hw => ?_⟩) trivial ?_
  · go_simp
    exact HOR.out
  simp only [Act.put, List.setIfInBounds_toArray]
  refine takeHD (i := 11) (v := .pointer (some ⟨b, o + q, none⟩)) (some 15) rfl rfl (by kernel_rfl) (by kernel_rfl) (by kernel_rfl) (fun _ _ _ h => h) (Or.inl ⟨by kernel_rfl, fun w' hw => ?_⟩) trivial ?_
  · first | (go_simp; done) | (go_simp; intro h; omega) | (go_simp; rw [IntKind.wrap_i64]; omega)
  simp only [Act.put, List.setIfInBounds_toArray]
  refine wpAnyH_ready (rs := [12]) (by kernel_rfl) (by simp) ?_
  refine AllReadyH.cons rfl (fun K hK => ?_) AllReadyH.nil
  rw [if_pos (by kernel_rfl)]
  go_wp2_with fail
  refine hK.out _ _ trivial (fun _ => ?_)
  clear hK K
  refine wpAnyH_done (by kernel_rfl) ?_ _
  go_wp2
  go_end0
  exact ⟨⟨_, rfl⟩, 1, rfl⟩

/-- The first k of some cells set. -/
def putK (w : World) (b o : Nat) (z : Nat → Value) : Nat → World
  | 0 => w
  | k + 1 => (putK w b o z k).setCell ⟨b, o + k, none⟩ (z k)

theorem putK_cell (w : World) (b o : Nat) (z : Nat → Value) : ∀ k j, k ≤ j → (putK w b o z k).cell? ⟨b, o + j, none⟩ = w.cell? ⟨b, o + j, none⟩ := by
  intro k
  induction k with
  | zero => intro j _; rfl
  | succ k ih =>
    intro j hj
    rw [putK, World.cell?_setCell_other _ _ _ _ (by simp only [ne_eq, Addr.mk.injEq, not_and]; omega)]
    exact ih j (by omega)
theorem putK_frozen (w : World) (b o : Nat) (z : Nat → Value) : ∀ k p, (putK w b o z k).frozen? p = w.frozen? p := by
  intro k
  induction k with
  | zero => intro p; rfl
  | succ k ih => intro p; rw [putK, World.frozen?_setCell]; exact ih p

set_option maxHeartbeats 2000000 in
theorem addAll_any (b o : Nat) (x y : Nat → Nat) (hx : ∀ j, j < 4 → x j < 18446744073709551616) (hy : ∀ j, j < 4 → y j < 18446744073709551616) (w : World)
    (hc : ∀ j, j < 4 → w.cell? ⟨b, o + j, none⟩ = some (.int .u64 (x j : Int))) (hf : ∀ j, j < 4 → w.frozen? ⟨b, o + j, none⟩ = false) :
    Calls Tryz.prog 90 #[.pointer (some ⟨b, o, none⟩), .agg #[.int .u64 (y 0 : Int), .int .u64 (y 1 : Int), .int .u64 (y 2 : Int), .int .u64 (y 3 : Int)]] w fun e w' => (∃ u, e = .returned u) ∧ ∃ m, w' = (putK (w.alloc (.cells #[.int .u64 (y 0 : Int), .int .u64 (y 1 : Int), .int .u64 (y 2 : Int), .int .u64 (y 3 : Int)] 90)) b o (fun j => .int .u64 ((x j ||| y j : Nat) : Int)) 4).drewN m := by
  have hbl : b < w.heap.size := World.block_lt_of_cell? w _ (hc 0 (by omega))
  have HC : Hid (∀ j, j < 4 → ((w.alloc (.cells #[.int .u64 (y 0 : Int), .int .u64 (y 1 : Int), .int .u64 (y 2 : Int), .int .u64 (y 3 : Int)] 90))).cell? ⟨b, o + j, none⟩ = some (.int .u64 (x j : Int))) := fun j hj => by rw [World.cell?_alloc_lt _ _ _ (by exact hbl)]; exact hc j hj
  have HF : Hid (∀ j, j < 4 → ((w.alloc (.cells #[.int .u64 (y 0 : Int), .int .u64 (y 1 : Int), .int .u64 (y 2 : Int), .int .u64 (y 3 : Int)] 90))).frozen? ⟨b, o + j, none⟩ = false) := fun j hj => by
    have := hf j hj
    rw [World.frozen?_of_block (w := w) (Below.heap_alloc w _ b hbl)]; exact this
  have HX := Hid.mk hx
  have HY := Hid.mk hy
  clear hx hy hc hf
  go_enter Tryz.func90, Tryz.ntmps90
  go_wp2
  go_loopw [7] (fun i wr => ∃ (k m : Nat), k ≤ 4 ∧ i = .int .i64 k ∧ Hid (wr = (putK (w.alloc (.cells #[.int .u64 (y 0 : Int), .int .u64 (y 1 : Int), .int .u64 (y 2 : Int), .int .u64 (y 3 : Int)] 90)) b o (fun j => .int .u64 ((x j ||| y j : Nat) : Int)) k).drewN m)) (fun i _ => 4 - (intOf i).toNat)
  case atStart => exact ⟨0, 0, by omega, rfl, rfl⟩
  case round =>
    obtain ⟨k, m, hk, rfl, HW⟩ := hrel
    by_cases hk4 : k < 4
    · have HCL : Hid (∀ j, j < 4 → k ≤ j → wr.cell? ⟨b, o + j, none⟩ = some (.int .u64 (x j : Int))) := fun j hj hkj => by
        rw [HW.out]
        show (putK (w.alloc (.cells #[.int .u64 (y 0 : Int), .int .u64 (y 1 : Int), .int .u64 (y 2 : Int), .int .u64 (y 3 : Int)] 90)) b o (fun j => .int .u64 ((x j ||| y j : Nat) : Int)) k).cell? _ = _
        rw [putK_cell _ _ _ _ k j hkj]; exact HC.out j hj
      have HFR : Hid (∀ j, j < 4 → wr.frozen? ⟨b, o + j, none⟩ = false) := fun j hj => by
        rw [HW.out]
        show (putK (w.alloc (.cells #[.int .u64 (y 0 : Int), .int .u64 (y 1 : Int), .int .u64 (y 2 : Int), .int .u64 (y 3 : Int)] 90)) b o (fun j => .int .u64 ((x j ||| y j : Nat) : Int)) k).frozen? _ = _
        rw [putK_frozen]; exact HF.out j hj
      rcases (show k = 0 ∨ k = 1 ∨ k = 2 ∨ k = 3 by omega) with hk0 | hk1 | hk2 | hk3
      · obtain rfl : k = 0 := hk0
        have c1 : wr.cell? ⟨b, o, none⟩ = some (.int .u64 (x 0 : Int)) := HCL.out 0 (by omega) (by omega)
        have f1 : wr.frozen? ⟨b, o, none⟩ = false := HFR.out 0 (by omega)
        have hix : (Instr.index 90 (.agg #[.int .u64 (y 0 : Int), .int .u64 (y 1 : Int), .int .u64 (y 2 : Int), .int .u64 (y 3 : Int)]) (.int .i64 0)).run Tryz.prog wr = .ok (.int .u64 (y 0 : Int)) wr := by kernel_rfl
        have HOR := Hid.mk (bits_or (x 0) (y 0) (HX.out 0 (by omega)) (HY.out 0 (by omega)))
        obtain ⟨xx, hxx⟩ : ∃ xx, x 0 = xx := ⟨_, rfl⟩
        have HN : Hid (∀ q, (wr.drewN q).setCell ⟨b, o, none⟩ (.int .u64 ((xx ||| y 0 : Nat) : Int)) = (putK (w.alloc (.cells #[.int .u64 (y 0 : Int), .int .u64 (y 1 : Int), .int .u64 (y 2 : Int), .int .u64 (y 3 : Int)] 90)) b o (fun j => .int .u64 ((x j ||| y j : Nat) : Int)) (0 + 1)).drewN (m + q)) := by
          intro q
          rw [← hxx, HW.out]
          simp [putK, World.drewN, World.setCell, Nat.add_assoc]
        rw [hxx] at c1 HOR
        clear hxx HCL HFR HW
        go_wp2
        refine wp_region_held_drew (S := fun _ => True) (by kernel_rfl) trivial (fun _ => ?_)
        refine takeHD (i := 0) (v := .pointer (some ⟨b, o, none⟩)) (some 11) rfl rfl (by kernel_rfl) (by kernel_rfl) (by kernel_rfl) (fun _ _ _ h => h) (Or.inl ⟨by kernel_rfl, fun w' hw => ?_⟩) trivial ?_
        · kernel_rfl
        simp only [Act.put, List.setIfInBounds_toArray]
        refine takeHD (i := 1) (v := .int .i64 0) (some 12) rfl rfl (by kernel_rfl) (by kernel_rfl) (by kernel_rfl) (fun _ _ _ h => h) (Or.inl ⟨by kernel_rfl, fun w' hw => ?_⟩) trivial ?_
        · kernel_rfl
        simp only [Act.put, List.setIfInBounds_toArray]
        refine takeHD (i := 2) (v := .pointer (some ⟨b, o, none⟩)) (some 13) rfl rfl (by kernel_rfl) (by kernel_rfl) (by kernel_rfl) (fun _ _ _ h => h) (Or.inl ⟨by kernel_rfl, fun w' hw => ?_⟩) trivial ?_
        · go_simp
        simp only [Act.put, List.setIfInBounds_toArray]
        refine takeHD (i := 3) (v := .pointer (some ⟨b, o, none⟩)) (some 14) rfl rfl (by kernel_rfl) (by kernel_rfl) (by kernel_rfl) (fun _ _ _ h => h) (Or.inl ⟨by kernel_rfl, fun w' hw => ?_⟩) trivial ?_
        · first | (go_simp; done) | (go_simp; intro h; omega) | (go_simp; rw [IntKind.wrap_i64]; omega)
        simp only [Act.put, List.setIfInBounds_toArray]
        refine takeHD (i := 5) (v := .int .u64 (y 0 : Int)) (some 16) rfl rfl (by kernel_rfl) (by kernel_rfl) (by kernel_rfl) (fun _ _ _ h => h) (Or.inl ⟨by kernel_rfl, fun w' hw => ?_⟩) trivial ?_
        · kernel_rfl
        simp only [Act.put, List.setIfInBounds_toArray]
        refine takeHD (i := 7) (v := .pointer (some ⟨b, o, none⟩)) (some 18) rfl rfl (by kernel_rfl) (by kernel_rfl) (by kernel_rfl) (fun _ _ _ h => h) (Or.inl ⟨by kernel_rfl, fun w' hw => ?_⟩) trivial ?_
        · go_simp
        simp only [Act.put, List.setIfInBounds_toArray]
        refine wpAnyH_ready (rs := [4]) (by kernel_rfl) (by simp) ?_
        refine AllReadyH.cons rfl (fun K hK => ?_) AllReadyH.nil
        rw [if_pos (by kernel_rfl)]
        go_wp2_with fail
        refine hK.out _ _ trivial (fun _ => ?_)
        clear hK K
        refine takeHD (i := 6) (v := .int .u64 ((xx ||| y 0 : Nat) : Int)) (some 17) rfl rfl (by kernel_rfl) (by kernel_rfl) (by kernel_rfl) (fun _ _ _ h => h) (Or.inl ⟨by kernel_rfl, fun w' hw => ?_⟩) trivial ?_
        · go_simp
          exact HOR.out
        simp only [Act.put, List.setIfInBounds_toArray]
        refine takeHD (i := 8) (v := .pointer (some ⟨b, o, none⟩)) (some 19) rfl rfl (by kernel_rfl) (by kernel_rfl) (by kernel_rfl) (fun _ _ _ h => h) (Or.inl ⟨by kernel_rfl, fun w' hw => ?_⟩) trivial ?_
        · first | (go_simp; done) | (go_simp; intro h; omega) | (go_simp; rw [IntKind.wrap_i64]; omega)
        simp only [Act.put, List.setIfInBounds_toArray]
        refine wpAnyH_ready (rs := [9]) (by kernel_rfl) (by simp) ?_
        refine AllReadyH.cons rfl (fun K hK => ?_) AllReadyH.nil
        rw [if_pos (by kernel_rfl)]
        go_wp2_with fail
        refine hK.out _ _ trivial (fun _ => ?_)
        clear hK K
        refine wpAnyH_done (by kernel_rfl) ?_ _
        go_wp2
        go_roundw
        case rel => exact ⟨0 + 1, m + 1, by omega, by go_num, HN.out 1⟩
        case measure => simp [intOf]
      · obtain rfl : k = 1 := hk1
        have c1 : wr.cell? ⟨b, o + 1, none⟩ = some (.int .u64 (x 1 : Int)) := HCL.out 1 (by omega) (by omega)
        have f1 : wr.frozen? ⟨b, o + 1, none⟩ = false := HFR.out 1 (by omega)
        have hix : (Instr.index 90 (.agg #[.int .u64 (y 0 : Int), .int .u64 (y 1 : Int), .int .u64 (y 2 : Int), .int .u64 (y 3 : Int)]) (.int .i64 1)).run Tryz.prog wr = .ok (.int .u64 (y 1 : Int)) wr := by kernel_rfl
        have HOR := Hid.mk (bits_or (x 1) (y 1) (HX.out 1 (by omega)) (HY.out 1 (by omega)))
        obtain ⟨xx, hxx⟩ : ∃ xx, x 1 = xx := ⟨_, rfl⟩
        have HN : Hid (∀ q, (wr.drewN q).setCell ⟨b, o + 1, none⟩ (.int .u64 ((xx ||| y 1 : Nat) : Int)) = (putK (w.alloc (.cells #[.int .u64 (y 0 : Int), .int .u64 (y 1 : Int), .int .u64 (y 2 : Int), .int .u64 (y 3 : Int)] 90)) b o (fun j => .int .u64 ((x j ||| y j : Nat) : Int)) (1 + 1)).drewN (m + q)) := by
          intro q
          rw [← hxx, HW.out]
          simp [putK, World.drewN, World.setCell, Nat.add_assoc]
        rw [hxx] at c1 HOR
        clear hxx HCL HFR HW
        go_wp2
        refine wp_region_held_drew (S := fun _ => True) (by kernel_rfl) trivial (fun _ => ?_)
        refine takeHD (i := 0) (v := .pointer (some ⟨b, o, none⟩)) (some 11) rfl rfl (by kernel_rfl) (by kernel_rfl) (by kernel_rfl) (fun _ _ _ h => h) (Or.inl ⟨by kernel_rfl, fun w' hw => ?_⟩) trivial ?_
        · kernel_rfl
        simp only [Act.put, List.setIfInBounds_toArray]
        refine takeHD (i := 1) (v := .int .i64 1) (some 12) rfl rfl (by kernel_rfl) (by kernel_rfl) (by kernel_rfl) (fun _ _ _ h => h) (Or.inl ⟨by kernel_rfl, fun w' hw => ?_⟩) trivial ?_
        · kernel_rfl
        simp only [Act.put, List.setIfInBounds_toArray]
        refine takeHD (i := 2) (v := .pointer (some ⟨b, o, none⟩)) (some 13) rfl rfl (by kernel_rfl) (by kernel_rfl) (by kernel_rfl) (fun _ _ _ h => h) (Or.inl ⟨by kernel_rfl, fun w' hw => ?_⟩) trivial ?_
        · go_simp
        simp only [Act.put, List.setIfInBounds_toArray]
        refine takeHD (i := 3) (v := .pointer (some ⟨b, o + 1, none⟩)) (some 14) rfl rfl (by kernel_rfl) (by kernel_rfl) (by kernel_rfl) (fun _ _ _ h => h) (Or.inl ⟨by kernel_rfl, fun w' hw => ?_⟩) trivial ?_
        · first | (go_simp; done) | (go_simp; intro h; omega) | (go_simp; rw [IntKind.wrap_i64]; omega)
        simp only [Act.put, List.setIfInBounds_toArray]
        refine takeHD (i := 5) (v := .int .u64 (y 1 : Int)) (some 16) rfl rfl (by kernel_rfl) (by kernel_rfl) (by kernel_rfl) (fun _ _ _ h => h) (Or.inl ⟨by kernel_rfl, fun w' hw => ?_⟩) trivial ?_
        · kernel_rfl
        simp only [Act.put, List.setIfInBounds_toArray]
        refine takeHD (i := 7) (v := .pointer (some ⟨b, o, none⟩)) (some 18) rfl rfl (by kernel_rfl) (by kernel_rfl) (by kernel_rfl) (fun _ _ _ h => h) (Or.inl ⟨by kernel_rfl, fun w' hw => ?_⟩) trivial ?_
        · go_simp
        simp only [Act.put, List.setIfInBounds_toArray]
        refine wpAnyH_ready (rs := [4]) (by kernel_rfl) (by simp) ?_
        refine AllReadyH.cons rfl (fun K hK => ?_) AllReadyH.nil
        rw [if_pos (by kernel_rfl)]
        go_wp2_with fail
        refine hK.out _ _ trivial (fun _ => ?_)
        clear hK K
        refine takeHD (i := 6) (v := .int .u64 ((xx ||| y 1 : Nat) : Int)) (some 17) rfl rfl (by kernel_rfl) (by kernel_rfl) (by kernel_rfl) (fun _ _ _ h => h) (Or.inl ⟨by kernel_rfl, fun w' hw => ?_⟩) trivial ?_
        · go_simp
          exact HOR.out
        simp only [Act.put, List.setIfInBounds_toArray]
        refine takeHD (i := 8) (v := .pointer (some ⟨b, o + 1, none⟩)) (some 19) rfl rfl (by kernel_rfl) (by kernel_rfl) (by kernel_rfl) (fun _ _ _ h => h) (Or.inl ⟨by kernel_rfl, fun w' hw => ?_⟩) trivial ?_
        · first | (go_simp; done) | (go_simp; intro h; omega) | (go_simp; rw [IntKind.wrap_i64]; omega)
        simp only [Act.put, List.setIfInBounds_toArray]
        refine wpAnyH_ready (rs := [9]) (by kernel_rfl) (by simp) ?_
        refine AllReadyH.cons rfl (fun K hK => ?_) AllReadyH.nil
        rw [if_pos (by kernel_rfl)]
        go_wp2_with fail
        refine hK.out _ _ trivial (fun _ => ?_)
        clear hK K
        refine wpAnyH_done (by kernel_rfl) ?_ _
        go_wp2
        go_roundw
        case rel => exact ⟨1 + 1, m + 1, by omega, by go_num, HN.out 1⟩
        case measure => simp [intOf]
      · obtain rfl : k = 2 := hk2
        have c1 : wr.cell? ⟨b, o + 2, none⟩ = some (.int .u64 (x 2 : Int)) := HCL.out 2 (by omega) (by omega)
        have f1 : wr.frozen? ⟨b, o + 2, none⟩ = false := HFR.out 2 (by omega)
        have hix : (Instr.index 90 (.agg #[.int .u64 (y 0 : Int), .int .u64 (y 1 : Int), .int .u64 (y 2 : Int), .int .u64 (y 3 : Int)]) (.int .i64 2)).run Tryz.prog wr = .ok (.int .u64 (y 2 : Int)) wr := by kernel_rfl
        have HOR := Hid.mk (bits_or (x 2) (y 2) (HX.out 2 (by omega)) (HY.out 2 (by omega)))
        obtain ⟨xx, hxx⟩ : ∃ xx, x 2 = xx := ⟨_, rfl⟩
        have HN : Hid (∀ q, (wr.drewN q).setCell ⟨b, o + 2, none⟩ (.int .u64 ((xx ||| y 2 : Nat) : Int)) = (putK (w.alloc (.cells #[.int .u64 (y 0 : Int), .int .u64 (y 1 : Int), .int .u64 (y 2 : Int), .int .u64 (y 3 : Int)] 90)) b o (fun j => .int .u64 ((x j ||| y j : Nat) : Int)) (2 + 1)).drewN (m + q)) := by
          intro q
          rw [← hxx, HW.out]
          simp [putK, World.drewN, World.setCell, Nat.add_assoc]
        rw [hxx] at c1 HOR
        clear hxx HCL HFR HW
        go_wp2
        refine wp_region_held_drew (S := fun _ => True) (by kernel_rfl) trivial (fun _ => ?_)
        refine takeHD (i := 0) (v := .pointer (some ⟨b, o, none⟩)) (some 11) rfl rfl (by kernel_rfl) (by kernel_rfl) (by kernel_rfl) (fun _ _ _ h => h) (Or.inl ⟨by kernel_rfl, fun w' hw => ?_⟩) trivial ?_
        · kernel_rfl
        simp only [Act.put, List.setIfInBounds_toArray]
        refine takeHD (i := 1) (v := .int .i64 2) (some 12) rfl rfl (by kernel_rfl) (by kernel_rfl) (by kernel_rfl) (fun _ _ _ h => h) (Or.inl ⟨by kernel_rfl, fun w' hw => ?_⟩) trivial ?_
        · kernel_rfl
        simp only [Act.put, List.setIfInBounds_toArray]
        refine takeHD (i := 2) (v := .pointer (some ⟨b, o, none⟩)) (some 13) rfl rfl (by kernel_rfl) (by kernel_rfl) (by kernel_rfl) (fun _ _ _ h => h) (Or.inl ⟨by kernel_rfl, fun w' hw => ?_⟩) trivial ?_
        · go_simp
        simp only [Act.put, List.setIfInBounds_toArray]
        refine takeHD (i := 3) (v := .pointer (some ⟨b, o + 2, none⟩)) (some 14) rfl rfl (by kernel_rfl) (by kernel_rfl) (by kernel_rfl) (fun _ _ _ h => h) (Or.inl ⟨by kernel_rfl, fun w' hw => ?_⟩) trivial ?_
        · first | (go_simp; done) | (go_simp; intro h; omega) | (go_simp; rw [IntKind.wrap_i64]; omega)
        simp only [Act.put, List.setIfInBounds_toArray]
        refine takeHD (i := 5) (v := .int .u64 (y 2 : Int)) (some 16) rfl rfl (by kernel_rfl) (by kernel_rfl) (by kernel_rfl) (fun _ _ _ h => h) (Or.inl ⟨by kernel_rfl, fun w' hw => ?_⟩) trivial ?_
        · kernel_rfl
        simp only [Act.put, List.setIfInBounds_toArray]
        refine takeHD (i := 7) (v := .pointer (some ⟨b, o, none⟩)) (some 18) rfl rfl (by kernel_rfl) (by kernel_rfl) (by kernel_rfl) (fun _ _ _ h => h) (Or.inl ⟨by kernel_rfl, fun w' hw => ?_⟩) trivial ?_
        · go_simp
        simp only [Act.put, List.setIfInBounds_toArray]
        refine wpAnyH_ready (rs := [4]) (by kernel_rfl) (by simp) ?_
        refine AllReadyH.cons rfl (fun K hK => ?_) AllReadyH.nil
        rw [if_pos (by kernel_rfl)]
        go_wp2_with fail
        refine hK.out _ _ trivial (fun _ => ?_)
        clear hK K
        refine takeHD (i := 6) (v := .int .u64 ((xx ||| y 2 : Nat) : Int)) (some 17) rfl rfl (by kernel_rfl) (by kernel_rfl) (by kernel_rfl) (fun _ _ _ h => h) (Or.inl ⟨by kernel_rfl, fun w' hw => ?_⟩) trivial ?_
        · go_simp
          exact HOR.out
        simp only [Act.put, List.setIfInBounds_toArray]
        refine takeHD (i := 8) (v := .pointer (some ⟨b, o + 2, none⟩)) (some 19) rfl rfl (by kernel_rfl) (by kernel_rfl) (by kernel_rfl) (fun _ _ _ h => h) (Or.inl ⟨by kernel_rfl, fun w' hw => ?_⟩) trivial ?_
        · first | (go_simp; done) | (go_simp; intro h; omega) | (go_simp; rw [IntKind.wrap_i64]; omega)
        simp only [Act.put, List.setIfInBounds_toArray]
        refine wpAnyH_ready (rs := [9]) (by kernel_rfl) (by simp) ?_
        refine AllReadyH.cons rfl (fun K hK => ?_) AllReadyH.nil
        rw [if_pos (by kernel_rfl)]
        go_wp2_with fail
        refine hK.out _ _ trivial (fun _ => ?_)
        clear hK K
        refine wpAnyH_done (by kernel_rfl) ?_ _
        go_wp2
        go_roundw
        case rel => exact ⟨2 + 1, m + 1, by omega, by go_num, HN.out 1⟩
        case measure => simp [intOf]
      · obtain rfl : k = 3 := hk3
        have c1 : wr.cell? ⟨b, o + 3, none⟩ = some (.int .u64 (x 3 : Int)) := HCL.out 3 (by omega) (by omega)
        have f1 : wr.frozen? ⟨b, o + 3, none⟩ = false := HFR.out 3 (by omega)
        have hix : (Instr.index 90 (.agg #[.int .u64 (y 0 : Int), .int .u64 (y 1 : Int), .int .u64 (y 2 : Int), .int .u64 (y 3 : Int)]) (.int .i64 3)).run Tryz.prog wr = .ok (.int .u64 (y 3 : Int)) wr := by kernel_rfl
        have HOR := Hid.mk (bits_or (x 3) (y 3) (HX.out 3 (by omega)) (HY.out 3 (by omega)))
        obtain ⟨xx, hxx⟩ : ∃ xx, x 3 = xx := ⟨_, rfl⟩
        have HN : Hid (∀ q, (wr.drewN q).setCell ⟨b, o + 3, none⟩ (.int .u64 ((xx ||| y 3 : Nat) : Int)) = (putK (w.alloc (.cells #[.int .u64 (y 0 : Int), .int .u64 (y 1 : Int), .int .u64 (y 2 : Int), .int .u64 (y 3 : Int)] 90)) b o (fun j => .int .u64 ((x j ||| y j : Nat) : Int)) (3 + 1)).drewN (m + q)) := by
          intro q
          rw [← hxx, HW.out]
          simp [putK, World.drewN, World.setCell, Nat.add_assoc]
        rw [hxx] at c1 HOR
        clear hxx HCL HFR HW
        go_wp2
        refine wp_region_held_drew (S := fun _ => True) (by kernel_rfl) trivial (fun _ => ?_)
        refine takeHD (i := 0) (v := .pointer (some ⟨b, o, none⟩)) (some 11) rfl rfl (by kernel_rfl) (by kernel_rfl) (by kernel_rfl) (fun _ _ _ h => h) (Or.inl ⟨by kernel_rfl, fun w' hw => ?_⟩) trivial ?_
        · kernel_rfl
        simp only [Act.put, List.setIfInBounds_toArray]
        refine takeHD (i := 1) (v := .int .i64 3) (some 12) rfl rfl (by kernel_rfl) (by kernel_rfl) (by kernel_rfl) (fun _ _ _ h => h) (Or.inl ⟨by kernel_rfl, fun w' hw => ?_⟩) trivial ?_
        · kernel_rfl
        simp only [Act.put, List.setIfInBounds_toArray]
        refine takeHD (i := 2) (v := .pointer (some ⟨b, o, none⟩)) (some 13) rfl rfl (by kernel_rfl) (by kernel_rfl) (by kernel_rfl) (fun _ _ _ h => h) (Or.inl ⟨by kernel_rfl, fun w' hw => ?_⟩) trivial ?_
        · go_simp
        simp only [Act.put, List.setIfInBounds_toArray]
        refine takeHD (i := 3) (v := .pointer (some ⟨b, o + 3, none⟩)) (some 14) rfl rfl (by kernel_rfl) (by kernel_rfl) (by kernel_rfl) (fun _ _ _ h => h) (Or.inl ⟨by kernel_rfl, fun w' hw => ?_⟩) trivial ?_
        · first | (go_simp; done) | (go_simp; intro h; omega) | (go_simp; rw [IntKind.wrap_i64]; omega)
        simp only [Act.put, List.setIfInBounds_toArray]
        refine takeHD (i := 5) (v := .int .u64 (y 3 : Int)) (some 16) rfl rfl (by kernel_rfl) (by kernel_rfl) (by kernel_rfl) (fun _ _ _ h => h) (Or.inl ⟨by kernel_rfl, fun w' hw => ?_⟩) trivial ?_
        · kernel_rfl
        simp only [Act.put, List.setIfInBounds_toArray]
        refine takeHD (i := 7) (v := .pointer (some ⟨b, o, none⟩)) (some 18) rfl rfl (by kernel_rfl) (by kernel_rfl) (by kernel_rfl) (fun _ _ _ h => h) (Or.inl ⟨by kernel_rfl, fun w' hw => ?_⟩) trivial ?_
        · go_simp
        simp only [Act.put, List.setIfInBounds_toArray]
        refine wpAnyH_ready (rs := [4]) (by kernel_rfl) (by simp) ?_
        refine AllReadyH.cons rfl (fun K hK => ?_) AllReadyH.nil
        rw [if_pos (by kernel_rfl)]
        go_wp2_with fail
        refine hK.out _ _ trivial (fun _ => ?_)
        clear hK K
        refine takeHD (i := 6) (v := .int .u64 ((xx ||| y 3 : Nat) : Int)) (some 17) rfl rfl (by kernel_rfl) (by kernel_rfl) (by kernel_rfl) (fun _ _ _ h => h) (Or.inl ⟨by kernel_rfl, fun w' hw => ?_⟩) trivial ?_
        · go_simp
          exact HOR.out
        simp only [Act.put, List.setIfInBounds_toArray]
        refine takeHD (i := 8) (v := .pointer (some ⟨b, o + 3, none⟩)) (some 19) rfl rfl (by kernel_rfl) (by kernel_rfl) (by kernel_rfl) (fun _ _ _ h => h) (Or.inl ⟨by kernel_rfl, fun w' hw => ?_⟩) trivial ?_
        · first | (go_simp; done) | (go_simp; intro h; omega) | (go_simp; rw [IntKind.wrap_i64]; omega)
        simp only [Act.put, List.setIfInBounds_toArray]
        refine wpAnyH_ready (rs := [9]) (by kernel_rfl) (by simp) ?_
        refine AllReadyH.cons rfl (fun K hK => ?_) AllReadyH.nil
        rw [if_pos (by kernel_rfl)]
        go_wp2_with fail
        refine hK.out _ _ trivial (fun _ => ?_)
        clear hK K
        refine wpAnyH_done (by kernel_rfl) ?_ _
        go_wp2
        go_roundw
        case rel => exact ⟨3 + 1, m + 1, by omega, by go_num, HN.out 1⟩
        case measure => simp [intOf]
    · obtain rfl : k = 4 := by omega
      have HWW := HW
      clear HW
      go_wp2
      go_end0
      exact ⟨⟨_, rfl⟩, m, HWW.out⟩
end Go.Proofs.YtapniafhcagogaaGreatDoor

namespace Go.Proofs.YtapniafhcagogaaGreatDoor
open Go.RowKit
set_option maxRecDepth 8000

def plArr (n : Nat) (M : Mat) : Array Value := ((List.range ((n + 1) * 4)).map fun q => Value.int .u64 (wd (M (q / 4)) (q % 4) : Int)).toArray

theorem plArr_size (n : Nat) (M : Mat) : (plArr n M).size = (n + 1) * 4 := by simp [plArr]
theorem plArr_get (n : Nat) (M : Mat) (q : Nat) (h : q < (n + 1) * 4) : (plArr n M)[q]? = some (.int .u64 (wd (M (q / 4)) (q % 4) : Int)) := by
  unfold plArr
  rw [List.getElem?_toArray, List.getElem?_map, List.getElem?_range h]
  rfl
theorem plArr_ext {n : Nat} {M M' : Mat} (h : ∀ i k, i ≤ n → k < 256 → M i k = M' i k) : plArr n M = plArr n M' := by
  unfold plArr
  congr 1
  apply List.map_congr_left
  intro q hq
  have hq' := List.mem_range.1 hq
  rw [wd_ext (fun b hb => h (q / 4) (64 * (q % 4) + b) (by omega) (by omega))]

/-- The block g holds the rows of M. -/
def Pq (w : World) (g n : Nat) (M : Mat) : Prop := w.heap[g]? = some (.cells (plArr n M) 90 (0, 0))

theorem Pq.lt {w : World} {g n : Nat} {M : Mat} (h : Pq w g n M) : g < w.heap.size := (Array.getElem?_eq_some_iff.1 h).1
theorem Pq.cell {w : World} {g n : Nat} {M : Mat} (h : Pq w g n M) {i j : Nat} (hi : i ≤ n) (hj : j < 4) : w.cell? ⟨g, i * 4 + j, none⟩ = some (.int .u64 (wd (M i) j : Int)) := by
  rw [cell_of_row w g _ _ _ (0, 0) h, plArr_get n M _ (by omega)]
  rw [show (i * 4 + j) / 4 = i by omega, show (i * 4 + j) % 4 = j by omega]
theorem Pq.frozen {w : World} {g n : Nat} {M : Mat} (h : Pq w g n M) (q : Nat) : w.frozen? ⟨g, q, none⟩ = false := frozen_of_row w g q _ _ h
theorem Pq.kept {w w' : World} {g n : Nat} {M : Mat} (h : Pq w g n M) (hh : w'.heap[g]? = w.heap[g]?) : Pq w' g n M := by unfold Pq; rw [hh]; exact h
theorem Pq.grow {w w' : World} {g n : Nat} {M : Mat} (h : Pq w g n M) (hb : Below w.heap.size w w') : Pq w' g n M := h.kept (hb.block g h.lt)
theorem Pq.ext {w : World} {g n : Nat} {M M' : Mat} (h : Pq w g n M) (he : ∀ i k, i ≤ n → k < 256 → M i k = M' i k) : Pq w g n M' := by unfold Pq; rw [← plArr_ext he]; exact h

/-- One word set. -/
theorem Pq.setWord {w : World} {g n : Nat} {M M' : Mat} (h : Pq w g n M) {i j : Nat} (_hi : i ≤ n) (hj : j < 4) (x : Nat) (hx : x = wd (M' i) j)
    (hsame : ∀ i' j', i' ≤ n → j' < 4 → ¬ (i' = i ∧ j' = j) → wd (M i') j' = wd (M' i') j') : Pq (w.setCell ⟨g, i * 4 + j, none⟩ (.int .u64 (x : Int))) g n M' := by
  unfold Pq
  rw [heap_setCell_same w g _ _ _ _ h]
  congr 2
  apply Array.ext
  · simp [plArr_size]
  · intro q h1 h2
    have hq : q < (n + 1) * 4 := by rw [plArr_size] at h2; exact h2
    have e1 : (plArr n M')[q]? = some (.int .u64 (wd (M' (q / 4)) (q % 4) : Int)) := plArr_get n M' q hq
    have e2 : (plArr n M)[q]? = some (.int .u64 (wd (M (q / 4)) (q % 4) : Int)) := plArr_get n M q hq
    have e3 : ((plArr n M).setIfInBounds (i * 4 + j) (.int .u64 (x : Int)))[q]? = some (.int .u64 (wd (M' (q / 4)) (q % 4) : Int)) := by
      rw [Array.getElem?_setIfInBounds]
      by_cases he : i * 4 + j = q
      · rw [if_pos he, if_pos (by rw [plArr_size]; omega), hx, ← he, show (i * 4 + j) / 4 = i by omega, show (i * 4 + j) % 4 = j by omega]
      · rw [if_neg he, e2, hsame (q / 4) (q % 4) (by omega) (by omega) (by omega)]
    rw [Array.getElem?_eq_getElem h1] at e3
    rw [Array.getElem?_eq_getElem h2] at e1
    exact Option.some.inj (e3.trans e1.symm)

/-- A place added to a row. -/
theorem Pq.add {w : World} {g n : Nat} {M : Mat} (h : Pq w g n M) {i a : Nat} (hi : i ≤ n) (ha : a ≤ 255) :
    Pq (w.setCell ⟨g, i * 4 + a / 64, none⟩ (.int .u64 ((wd (M i) (a / 64) ||| 2 ^ (a % 64) : Nat) : Int))) g n (updM M i a true) := by
  refine h.setWord hi (by omega) _ ?_ ?_
  · rw [wd_add]
    unfold updM
    rw [if_pos rfl]
  · intro i' j' _ _ hne
    unfold updM
    by_cases he : i' = i
    · subst he
      rw [if_pos rfl]
      exact wd_add_other _ _ _ (fun e => hne ⟨rfl, e⟩)
    · rw [if_neg he]

/-- The first k words of the row i with those of f. -/
def orUpto (M : Mat) (i : Nat) (f : Nat → Bool) (k : Nat) : Mat := fun x y => if x = i then M x y || (f y && decide (y < 64 * k)) else M x y

theorem orUpto_wd (M : Mat) (i : Nat) (f : Nat → Bool) (k j : Nat) : wd (orUpto M i f k i) j = if j < k then wd (M i) j ||| wd f j else wd (M i) j := by
  by_cases h : j < k
  · rw [if_pos h, wd_or]
    apply wd_ext
    intro b hb
    simp [orUpto, show 64 * j + b < 64 * k by omega]
  · rw [if_neg h]
    apply wd_ext
    intro b hb
    simp [orUpto, show ¬ 64 * j + b < 64 * k by omega]
theorem orUpto_other (M : Mat) (i : Nat) (f : Nat → Bool) (k x j : Nat) (h : x ≠ i) : wd (orUpto M i f k x) j = wd (M x) j := by
  apply wd_ext
  intro b _
  simp [orUpto, h]

theorem Pq.puts {w : World} {g n : Nat} {M : Mat} (h : Pq w g n M) {i : Nat} (hi : i ≤ n) (f : Nat → Bool) : ∀ k, k ≤ 4 →
    Pq (putK w g (i * 4) (fun j => .int .u64 ((wd (M i) j ||| wd f j : Nat) : Int)) k) g n (orUpto M i f k) := by
  intro k
  induction k with
  | zero => intro _; exact h.ext (fun x y _ _ => by simp [orUpto])
  | succ k ih =>
    intro hk
    refine (ih (by omega)).setWord hi (by omega) _ ?_ ?_
    · rw [orUpto_wd, if_pos (by omega)]
    · intro x j hx hj hne
      by_cases he : x = i
      · subst he
        rw [orUpto_wd, orUpto_wd]
        have hjk : j ≠ k := fun e => hne ⟨rfl, e⟩
        by_cases hlt : j < k
        · rw [if_pos hlt, if_pos (by omega)]
        · rw [if_neg hlt, if_neg (by omega)]
      · rw [orUpto_other _ _ _ _ _ _ he, orUpto_other _ _ _ _ _ _ he]

/-- A set added to a row. -/
def mOr (M : Mat) (i : Nat) (f : Nat → Bool) : Mat := fun x y => if x = i then M x y || f y else M x y

theorem Pq.addAll {w : World} {g n : Nat} {M : Mat} (h : Pq w g n M) {i : Nat} (hi : i ≤ n) (f : Nat → Bool) :
    Pq (putK w g (i * 4) (fun j => .int .u64 ((wd (M i) j ||| wd f j : Nat) : Int)) 4) g n (mOr M i f) :=
  (h.puts hi f 4 (by omega)).ext (fun x y _ hy => by simp [orUpto, mOr, show y < 256 from hy])

theorem putK_block (w : World) (b o : Nat) (z : Nat → Value) (k c : Nat) (h : c ≠ b) : (putK w b o z k).heap[c]? = w.heap[c]? := by
  induction k with
  | zero => rfl
  | succ k ih => rw [Proofs.YtapniafhcagogaaGreatDoor.putK, heap_setCell_other _ _ _ _ h]; exact ih
theorem putK_size (w : World) (b o : Nat) (z : Nat → Value) (k : Nat) : (putK w b o z k).heap.size = w.heap.size := by
  induction k with
  | zero => rfl
  | succ k ih => rw [Proofs.YtapniafhcagogaaGreatDoor.putK]; simp only [World.setCell, Array.size_modify]; exact ih
theorem putK_below {w : World} {b B : Nat} (o : Nat) (z : Nat → Value) (k : Nat) (h : B ≤ b) : Below B w (putK w b o z k) := by
  induction k with
  | zero => exact Below.refl _ _
  | succ k ih => exact ih.setCell (p := ⟨b, o + k, none⟩) h _
end Go.Proofs.YtapniafhcagogaaGreatDoor

namespace Go.Proofs.YtapniafhcagogaaGreatDoor
open Go.RowKit
set_option maxRecDepth 8000

theorem infoPl : (Tryz.prog.info? 90).map (fun i => (i.zero, i.size, i.bytes)) = some (some (.agg #[.int .u64 0, .int .u64 0, .int .u64 0, .int .u64 0]), 4, 32) := by kernel_rfl

theorem own_full4 {w : World} {e : TypeId} {g m c : Nat} {xs : List Value} (h : w.ownsRow 0 e c (.slice (some ⟨g, 0, none⟩) m m) m xs) : w.heap[g]? = some (.cells xs.toArray e (0, 0)) := by
  rcases h.2 with ⟨h', _⟩ | ⟨g', cap', cur, h', hb, hg, hn, hm, hs, ht⟩
  · simp at h'
  · simp only [Value.slice.injEq, Option.some.injEq, Addr.mk.injEq, and_true, true_and] at h'
    obtain ⟨rfl, rfl⟩ := h'
    rw [hg]
    congr 2
    rw [← ht, List.take_of_length_le (by rw [Array.length_toList, hs]; exact Nat.le_refl _)]

theorem wd_none (j : Nat) : wd (fun _ => false) j = 0 := by
  apply Nat.eq_of_testBit_eq
  intro b
  rw [wd_test]
  simp

theorem made_pl (n : Nat) : (madeCells (Value.agg #[.int .u64 0, .int .u64 0, .int .u64 0, .int .u64 0]).cells ((n + 1) * 4)).toList.toArray = plArr n (fun _ _ => false) := by
  have e : (Value.agg #[.int .u64 0, .int .u64 0, .int .u64 0, .int .u64 0]).cells = #[.int .u64 0, .int .u64 0, .int .u64 0, .int .u64 0] := rfl
  rw [e]
  apply Array.ext
  · simp [madeCells, plArr_size]
  · intro q h1 h2
    have hq : q < (n + 1) * 4 := by rw [plArr_size] at h2; exact h2
    have e1 : (plArr n (fun _ _ => false))[q]? = some (.int .u64 0) := by
      rw [plArr_get n _ q hq, wd_none]; rfl
    have e2 : ((madeCells #[Value.int .u64 0, .int .u64 0, .int .u64 0, .int .u64 0] ((n + 1) * 4)).toList.toArray)[q]? = some (.int .u64 0) := by
      simp only [madeCells]
      rcases (show q % 4 = 0 ∨ q % 4 = 1 ∨ q % 4 = 2 ∨ q % 4 = 3 by omega) with h | h | h | h <;> simp [hq, h]
    rw [Array.getElem?_eq_getElem h1] at e2
    rw [Array.getElem?_eq_getElem h2] at e1
    exact Option.some.inj (e2.trans e1.symm)

/-- The first k words of the row i those of f. -/
def mixUpto (M : Mat) (i : Nat) (f : Nat → Bool) (k : Nat) : Mat := fun x y => if x = i then (if y < 64 * k then f y else M x y) else M x y
/-- The row i is f. -/
def setRow (M : Mat) (i : Nat) (f : Nat → Bool) : Mat := fun x y => if x = i then f y else M x y

theorem mixUpto_wd (M : Mat) (i : Nat) (f : Nat → Bool) (k j : Nat) : wd (mixUpto M i f k i) j = if j < k then wd f j else wd (M i) j := by
  by_cases h : j < k
  · rw [if_pos h]
    apply wd_ext
    intro b hb
    simp [mixUpto, show 64 * j + b < 64 * k by omega]
  · rw [if_neg h]
    apply wd_ext
    intro b hb
    simp [mixUpto, show ¬ 64 * j + b < 64 * k by omega]
theorem mixUpto_other (M : Mat) (i : Nat) (f : Nat → Bool) (k x j : Nat) (h : x ≠ i) : wd (mixUpto M i f k x) j = wd (M x) j := by
  apply wd_ext
  intro b _
  simp [mixUpto, h]
theorem Pq.mixes {w : World} {g n : Nat} {M : Mat} (h : Pq w g n M) {i : Nat} (hi : i ≤ n) (f : Nat → Bool) : ∀ k, k ≤ 4 →
    Pq (putK w g (i * 4) (fun j => .int .u64 (wd f j : Int)) k) g n (mixUpto M i f k) := by
  intro k
  induction k with
  | zero => intro _; exact h.ext (fun x y _ _ => by simp [mixUpto])
  | succ k ih =>
    intro hk
    refine (ih (by omega)).setWord hi (by omega) _ ?_ ?_
    · rw [mixUpto_wd, if_pos (by omega)]
    · intro x j hx hj hne
      by_cases he : x = i
      · subst he
        rw [mixUpto_wd, mixUpto_wd]
        have hjk : j ≠ k := fun e => hne ⟨rfl, e⟩
        by_cases hlt : j < k
        · rw [if_pos hlt, if_pos (by omega)]
        · rw [if_neg hlt, if_neg (by omega)]
      · rw [mixUpto_other _ _ _ _ _ _ he, mixUpto_other _ _ _ _ _ _ he]
theorem Pq.store {w : World} {g n : Nat} {M : Mat} (h : Pq w g n M) {i : Nat} (hi : i ≤ n) (f : Nat → Bool) :
    Pq (putK w g (i * 4) (fun j => .int .u64 (wd f j : Int)) 4) g n (setRow M i f) :=
  (h.mixes hi f 4 (by omega)).ext (fun x y _ hy => by simp [mixUpto, setRow, show y < 256 from hy])

/-- The slice over a block of rows. -/
abbrev plS (g n : Nat) : Value := .slice (some ⟨g, 0, none⟩) (n + 1) (n + 1)

set_option maxHeartbeats 1000000 in
theorem oneOrOther_any (n : Nat) (hn : n ≤ 200) (gf gs : Nat) (A B : Mat) (w : World) (hA : Pq w gf n A) (hB : Pq w gs n B) :
    Calls Tryz.prog 63 #[plS gf n, plS gs n] w fun e w' => ∃ g, e = .returned (plS g n) ∧ w.heap.size ≤ g ∧ Pq w' g n (fun x y => A x y || B x y) ∧ Below w.heap.size w w' := by
  obtain ⟨ip, hip, hp0, hp1, hp2⟩ := info_parts infoPl
  have HA := Hid.mk hA
  have HB := Hid.mk hB
  obtain ⟨m, hm⟩ : ∃ m, n + 1 = m := ⟨_, rfl⟩
  have hmi : (n : Int) + 1 = (m : Int) := by omega
  have HM := Hid.mk hm
  have hm2 : m ≤ 201 := by omega
  clear hA hB
  unfold plS
  rw [hm]
  clear hm
  go_enter Tryz.func63, Tryz.ntmps63
  go_wp2_with (at_make; refine wpList_make_full _ rfl _ _ 86 rfl 0 90 ip _ 4 Tryz.underlying86 hip hp0 hp1 _ _ _ _ m rfl rfl rfl rfl (by rw [hp2]; omega) (by unfold maxLen; omega) (Nat.zero_le _) ?_)
  intro w1 hown hgrow
  have HQ1 : Hid (Pq w1 w.heap.size n (fun _ _ => false)) := by
    have h := own_full4 hown
    rw [← HM.out] at h
    show Pq _ _ _ _
    unfold Pq
    rw [h]
    have := made_pl n
    rw [← this]
    rfl
  have B1 : Hid (Below w.heap.size w w1) := (Below.refl _ _).grown hgrow (Nat.le_refl _) (by simp)
  clear hown hgrow
  go_wp2
  go_loopw [12] (fun q wr => ∃ (i : Nat), i ≤ m ∧ q = .int .i64 i ∧ Hid (Pq wr w.heap.size n (fun x y => (A x y || B x y) && decide (x < i))) ∧ Hid (Below w.heap.size w wr)) (fun q _ => m - (intOf q).toNat)
  case atStart => exact ⟨0, Nat.zero_le _, rfl, HQ1.out.ext (fun x y _ _ => by simp), B1⟩
  case round =>
    obtain ⟨i, hi, rfl, HQ, HBr⟩ := hrel
    clear HQ1 B1
    by_cases him : (i : Int) < (m : Int)
    · have hil : i ≤ n := by have := HM.out; omega
      have qa := HA.out.grow HBr.out
      have qb := HB.out.grow HBr.out
      have a0 := qa.cell hil (show 0 < 4 by omega)
      have a1 := qa.cell hil (show 1 < 4 by omega)
      have a2 := qa.cell hil (show 2 < 4 by omega)
      have a3 := qa.cell hil (show 3 < 4 by omega)
      have d0 := HQ.out.cell hil (show 0 < 4 by omega)
      have d1 := HQ.out.cell hil (show 1 < 4 by omega)
      have d2 := HQ.out.cell hil (show 2 < 4 by omega)
      have d3 := HQ.out.cell hil (show 3 < 4 by omega)
      rw [Nat.add_zero] at a0 d0
      have hf := HQ.out.frozen
      have HS := Hid.mk (HQ.out.store hil (A i))
      have BS : Hid (Below w.heap.size w (putK wr w.heap.size (i * 4) (fun j => .int .u64 (wd (A i) j : Int)) 4)) := HBr.out.trans (putK_below _ _ _ (Nat.le_refl _))
      have hPK : putK wr w.heap.size (i * 4) (fun j => .int .u64 (wd (A i) j : Int)) 4 = (((wr.setCell ⟨w.heap.size, i * 4, none⟩ (.int .u64 (wd (A i) 0 : Int))).setCell ⟨w.heap.size, i * 4 + 1, none⟩ (.int .u64 (wd (A i) 1 : Int))).setCell ⟨w.heap.size, i * 4 + 2, none⟩ (.int .u64 (wd (A i) 2 : Int))).setCell ⟨w.heap.size, i * 4 + 3, none⟩ (.int .u64 (wd (A i) 3 : Int)) := rfl
      have HPK := Hid.mk hPK
      clear qa qb hPK
      go_wp2
      rw [← HPK.out]
      generalize putK wr w.heap.size (i * 4) (fun j => .int .u64 (wd (A i) j : Int)) 4 = V1 at HS BS ⊢
      clear a0 a1 a2 a3 d0 d1 d2 d3 hf HPK HQ HBr
      have qb := HB.out.grow BS.out
      have b0 := qb.cell hil (show 0 < 4 by omega)
      have b1 := qb.cell hil (show 1 < 4 by omega)
      have b2 := qb.cell hil (show 2 < 4 by omega)
      have b3 := qb.cell hil (show 3 < 4 by omega)
      rw [Nat.add_zero] at b0
      clear qb
      have HAA := Hid.mk (addAll_any w.heap.size (i * 4) (fun j => wd (A i) j) (fun j => wd (B i) j) (fun j _ => wd_lt _ _) (fun j _ => wd_lt _ _) V1.drew (fun j hj => by
        have := HS.out.cell (i := i) hil hj
        rw [wd_ext (g := A i) (fun b _ => by simp [setRow])] at this
        exact this) (fun j _ => HS.out.frozen _))
      refine wp_region_held_drew (S := fun _ => True) (by kernel_rfl) trivial (fun _ => ?_)
      refine takeHD (i := 0) (v := .slice (some ⟨w.heap.size, 0, none⟩) m m) (some 22) rfl rfl (by kernel_rfl) (by kernel_rfl) (by kernel_rfl) (fun _ _ _ h => h) (Or.inl ⟨by kernel_rfl, fun w' hw => ?_⟩) trivial ?_
      · kernel_rfl
      simp only [Act.put, List.setIfInBounds_toArray]
      refine takeHD (i := 1) (v := .int .i64 i) (some 23) rfl rfl (by kernel_rfl) (by kernel_rfl) (by kernel_rfl) (fun _ _ _ h => h) (Or.inl ⟨by kernel_rfl, fun w' hw => ?_⟩) trivial ?_
      · kernel_rfl
      simp only [Act.put, List.setIfInBounds_toArray]
      refine takeHD (i := 2) (v := .pointer (some ⟨w.heap.size, i * 4, none⟩)) (some 24) rfl rfl (by kernel_rfl) (by kernel_rfl) (by kernel_rfl) (fun _ _ _ h => h) (Or.inl ⟨by kernel_rfl, fun w' hw => ?_⟩) trivial ?_
      · first | (go_simp; done) | (go_simp; intro h; omega) | (go_simp; rw [IntKind.wrap_i64]; omega)
      simp only [Act.put, List.setIfInBounds_toArray]
      refine takeHD (i := 3) (v := .slice (some ⟨gs, 0, none⟩) m m) (some 25) rfl rfl (by kernel_rfl) (by kernel_rfl) (by kernel_rfl) (fun _ _ _ h => h) (Or.inl ⟨by kernel_rfl, fun w' hw => ?_⟩) trivial ?_
      · kernel_rfl
      simp only [Act.put, List.setIfInBounds_toArray]
      refine takeHD (i := 4) (v := .int .i64 i) (some 26) rfl rfl (by kernel_rfl) (by kernel_rfl) (by kernel_rfl) (fun _ _ _ h => h) (Or.inl ⟨by kernel_rfl, fun w' hw => ?_⟩) trivial ?_
      · kernel_rfl
      simp only [Act.put, List.setIfInBounds_toArray]
      refine takeHD (i := 5) (v := .pointer (some ⟨gs, i * 4, none⟩)) (some 27) rfl rfl (by kernel_rfl) (by kernel_rfl) (by kernel_rfl) (fun _ _ _ h => h) (Or.inl ⟨by kernel_rfl, fun w' hw => ?_⟩) trivial ?_
      · first | (go_simp; done) | (go_simp; intro h; omega) | (go_simp; rw [IntKind.wrap_i64]; omega)
      simp only [Act.put, List.setIfInBounds_toArray]
      refine wpAnyH_ready (rs := [6]) (by kernel_rfl) (by simp) ?_
      refine AllReadyH.cons rfl (fun K hK => ?_) AllReadyH.nil
      rw [if_pos (by kernel_rfl)]
      go_wp2_with fail
      refine hK.out _ _ trivial (fun _ => ?_)
      clear hK K b0 b1 b2 b3
      refine wpAnyH_ready (rs := [7]) (by kernel_rfl) (by simp) ?_
      refine AllReadyH.cons rfl (fun K hK => ?_) AllReadyH.nil
      rw [if_pos (by kernel_rfl)]
      go_wp2_with fail
      refine HAA.out.mono ?_
      rintro e w3 ⟨⟨u3, rfl⟩, q3, hw3⟩
      have hP := (HS.out.grow (Below.drewSelf _ _ 1))
      have A3 : Below V1.drew.heap.size V1.drew (V1.drew.alloc (.cells #[.int .u64 (wd (B i) 0 : Int), .int .u64 (wd (B i) 1 : Int), .int .u64 (wd (B i) 2 : Int), .int .u64 (wd (B i) 3 : Int)] 90)) := (Below.refl _ _).alloc (Nat.le_refl _) _
      have hP2 := (hP.grow A3).addAll hil (B i)
      have HQn : Hid (Pq w3 w.heap.size n (fun x y => (A x y || B x y) && decide (x < i + 1))) := by
        rw [hw3]
        refine Pq.ext (M := mOr (setRow (fun x y => (A x y || B x y) && decide (x < i)) i (A i)) i (B i)) ?_ ?_
        · have e : ∀ j, wd (setRow (fun x y => (A x y || B x y) && decide (x < i)) i (A i) i) j = wd (A i) j := fun j => wd_ext (fun b _ => by simp [setRow])
          simp only [e] at hP2
          exact hP2
        · intro x y _ _
          by_cases he : x = i
          · subst he; simp [mOr, setRow]
          · simp only [mOr, setRow, if_neg he]
            rw [show decide (x < i + 1) = decide (x < i) from decide_eq_decide.2 (by omega)]
      have HBn : Hid (Below w.heap.size w w3) := by
        rw [hw3]
        exact ((BS.out.trans ((Below.drewSelf _ _ 1).mono BS.out.size)).trans (A3.mono BS.out.size)).trans ((putK_below _ _ _ (Nat.le_refl _)).trans (Below.drewSelf _ _ _))
      refine hK.out _ _ trivial (fun _ => ?_)
      clear hK K hP A3 hP2 hw3 HAA HS BS
      refine wpAnyH_done (by kernel_rfl) ?_ _
      go_wp2
      go_roundw
      case rel => exact ⟨i + 1, by omega, by go_num, HQn, HBn⟩
      case measure => simp [intOf]; omega
    · have hie : i = m := by omega
      subst hie
      have HQn : Hid (Pq wr w.heap.size n (fun x y => A x y || B x y)) := HQ.out.ext (fun x y hx _ => by rw [decide_eq_true (by have := HM.out; omega), Bool.and_true])
      clear HQ
      go_wp2
      go_ret
      exact ⟨_, rfl, Nat.le_refl _, HQn.out, HBr.out⟩
end Go.Proofs.YtapniafhcagogaaGreatDoor
