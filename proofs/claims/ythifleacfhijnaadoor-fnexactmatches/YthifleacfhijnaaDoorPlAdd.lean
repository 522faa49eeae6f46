/- A place added to a set; a set added to a set. -/
import Derived.Test.YthifleacfhijnaaDoorPlDef
import Derived.Test.YthifleacfhijnaaDoorTake
namespace Go.Proofs.YthifleacfhijnaaDoor
open Go.RowKit
set_option maxRecDepth 8000

theorem bits_or (x y : Nat) (hx : x < 18446744073709551616) (hy : y < 18446744073709551616) : bits .or .u64 (x : Int) (y : Int) = ((x ||| y : Nat) : Int) := or_u64 x y hx hy

set_option maxHeartbeats 1000000 in
theorem add_any (b o a x : Nat) (ha : a ≤ 255) (hx : x < 18446744073709551616) (w : World) (hc : w.cell? ⟨b, o + a / 64, none⟩ = some (.int .u64 (x : Int))) (hf : w.frozen? ⟨b, o + a / 64, none⟩ = false) :
    Calls Tryd.prog 79 #[.pointer (some ⟨b, o, none⟩), .int .i64 (a : Int)] w fun e w' => (∃ u, e = .returned u) ∧ ∃ m, w' = (w.setCell ⟨b, o + a / 64, none⟩ (.int .u64 ((x ||| 2 ^ (a % 64) : Nat) : Int))).drewN m := by
  obtain ⟨q, hq⟩ : ∃ q, a / 64 = q := ⟨_, rfl⟩
  obtain ⟨r, hr⟩ : ∃ r, a % 64 = r := ⟨_, rfl⟩
  rw [hq] at hc hf ⊢
  rw [hr]
  have hq4 : q < 4 := by omega
  have hr64 : r < 64 := by omega
  have hqi : (a : Int).tdiv 64 = (q : Int) := by rw [Int.tdiv_eq_ediv_of_nonneg (by omega)]; omega
  have hri : (a : Int).tmod 64 = (r : Int) := by rw [Int.tmod_eq_emod_of_nonneg (by omega)]; omega
  have hwq : IntKind.i64.wrap (q : Int) = (q : Int) := by rw [IntKind.wrap_i64]; omega
  have hwr : IntKind.i64.wrap (r : Int) = (r : Int) := by rw [IntKind.wrap_i64]; omega
  obtain ⟨P, hP⟩ : ∃ P, 2 ^ r = P := ⟨_, rfl⟩
  rw [hP]
  have hPl : P < 18446744073709551616 := by rw [← hP]; exact Nat.pow_lt_pow_right (a := 2) (by omega) hr64
  have HPI : Hid ((2 : Int) ^ r = (P : Int)) := by show _ = _; rw [← hP]; simp
  have HOR := Hid.mk (bits_or x P hx hPl)
  clear hq hr hP
  go_enter Tryd.func79, Tryd.ntmps79
  go_wp2
  refine wp_region_held_drew (S := fun _ => True) (by kernel_rfl) trivial (fun _ => ?_)
  refine takeHD (i := 0) (v := .pointer (some ⟨b, o, none⟩)) (some 4) rfl rfl (by kernel_rfl) (by kernel_rfl) (by kernel_rfl) (fun _ _ _ h => h) (Or.inl ⟨by kernel_rfl, fun w' hw => ?_⟩) trivial ?_
  · kernel_rfl
  simp only [Act.put, List.setIfInBounds_toArray]
  refine takeHD (i := 1) (v := .int .i64 a) (some 5) rfl rfl (by kernel_rfl) (by kernel_rfl) (by kernel_rfl) (fun _ _ _ h => h) (Or.inl ⟨by kernel_rfl, fun w' hw => ?_⟩) trivial ?_
  · kernel_rfl
  simp only [Act.put, List.setIfInBounds_toArray]
  refine takeHD (i := 2) (v := .int .i64 q) (some 6) rfl rfl (by kernel_rfl) (by kernel_rfl) (by kernel_rfl) (fun _ _ _ h => h) (Or.inl ⟨by kernel_rfl, fun w' hw => ?_⟩) trivial ?_
  · go_simp
  simp only [Act.put, List.setIfInBounds_toArray]
  refine takeHD (i := 3) (v := .pointer (some ⟨b, o, none⟩)) (some 7) rfl rfl (by kernel_rfl) (by kernel_rfl) (by kernel_rfl) (fun _ _ _ h => h) (Or.inl ⟨by kernel_rfl, fun w' hw => ?_⟩) trivial ?_
  · go_simp
  simp only [Act.put, List.setIfInBounds_toArray]
  refine takeHD (i := 4) (v := .pointer (some ⟨b, o + q, none⟩)) (some 8) rfl rfl (by kernel_rfl) (by kernel_rfl) (by kernel_rfl) (fun _ _ _ h => h) (Or.inl ⟨by kernel_rfl, fun w' hw => ?_⟩) trivial ?_
  · first | (go_simp; done) | (go_simp; intro h; omega) | (go_simp; rw [IntKind.wrap_i64]; omega)
  simp only [Act.put, List.setIfInBounds_toArray]
  refine takeHD (i := 6) (v := .int .i64 a) (some 10) rfl rfl (by kernel_rfl) (by kernel_rfl) (by kernel_rfl) (fun _ _ _ h => h) (Or.inl ⟨by kernel_rfl, fun w' hw => ?_⟩) trivial ?_
  · kernel_rfl
  simp only [Act.put, List.setIfInBounds_toArray]
  refine takeHD (i := 7) (v := .int .i64 r) (some 11) rfl rfl (by kernel_rfl) (by kernel_rfl) (by kernel_rfl) (fun _ _ _ h => h) (Or.inl ⟨by kernel_rfl, fun w' hw => ?_⟩) trivial ?_
  · go_simp
  simp only [Act.put, List.setIfInBounds_toArray]
  refine takeHD (i := 8) (v := .int .u64 (P : Int)) (some 12) rfl rfl (by kernel_rfl) (by kernel_rfl) (by kernel_rfl) (fun _ _ _ h => h) (Or.inl ⟨by kernel_rfl, fun w' hw => ?_⟩) trivial ?_
  · go_simp
    rw [HPI.out, IntKind.wrap_u64]
    omega
  simp only [Act.put, List.setIfInBounds_toArray]
  refine takeHD (i := 10) (v := .pointer (some ⟨b, o, none⟩)) (some 14) rfl rfl (by kernel_rfl) (by kernel_rfl) (by kernel_rfl) (fun _ _ _ h => h) (Or.inl ⟨by kernel_rfl, fun w' hw => ?_⟩) trivial ?_
  · go_simp
  simp only [Act.put, List.setIfInBounds_toArray]
  refine wpAnyH_ready (rs := [5]) (by kernel_rfl) (by simp) ?_
  refine AllReadyH.cons rfl (fun K hK => ?_) AllReadyH.nil
  rw [if_pos (by kernel_rfl)]
  go_wp2_with fail
  refine hK.out _ _ trivial (fun _ => ?_)
  clear hK K
  refine takeHD (i := 9) (v := .int .u64 ((x ||| P : Nat) : Int)) (some 13) rfl rfl (by kernel_rfl) (by kernel_rfl) (by kernel_rfl) (fun _ _ _ h => h) (Or.inl ⟨by kernel_rfl, fun w' hw => ?_⟩) trivial ?_
  · go_simp
    exact HOR.out
  simp only [Act.put, List.setIfInBounds_toArray]
  refine takeHD (i := 11) (v := .pointer (some ⟨b, o + q, none⟩)) (some 15) rfl rfl (by kernel_rfl) (by kernel_rfl) (by kernel_rfl) (fun _ _ _ h => h) (Or.inl ⟨by kernel_rfl, fun w' hw => ?_⟩) trivial ?_
  · first | (go_simp; done) | (go_simp; intro h; omega) | (go_simp; rw [IntKind.wrap_i64]; omega)
  simp only [Act.put, List.setIfInBounds_toArray]
  refine wpAnyH_ready (rs := [12]) (by kernel_rfl) (by simp) ?_
  refine AllReadyH.cons rfl (fun K hK => ?_) AllReadyH.nil
  rw [if_pos (by kernel_rfl)]
  go_wp2_with fail
  refine hK.out _ _ trivial (fun _ => ?_)
  clear hK K
  refine wpAnyH_done (by kernel_rfl) ?_ _
  go_wp2
  go_end0
  exact ⟨⟨_, rfl⟩, 1, rfl⟩

/-- The first k of some cells set. -/
def putK (w : World) (b o : Nat) (z : Nat → Value) : Nat → World
  | 0 => w
  | k + 1 => (putK w b o z k).setCell ⟨b, o + k, none⟩ (z k)

theorem putK_cell (w : World) (b o : Nat) (z : Nat → Value) : ∀ k j, k ≤ j → (putK w b o z k).cell? ⟨b, o + j, none⟩ = w.cell? ⟨b, o + j, none⟩ := by
  intro k
  induction k with
  | zero => intro j _; rfl
  | succ k ih =>
    intro j hj
    rw [putK, World.cell?_setCell_other _ _ _ _ (by simp only [ne_eq, Addr.mk.injEq, not_and]; omega)]
    exact ih j (by omega)
theorem putK_frozen (w : World) (b o : Nat) (z : Nat → Value) : ∀ k p, (putK w b o z k).frozen? p = w.frozen? p := by
  intro k
  induction k with
  | zero => intro p; rfl
  | succ k ih => intro p; rw [putK, World.frozen?_setCell]; exact ih p

set_option maxHeartbeats 2000000 in
theorem addAll_any (b o : Nat) (x y : Nat → Nat) (hx : ∀ j, j < 4 → x j < 18446744073709551616) (hy : ∀ j, j < 4 → y j < 18446744073709551616) (w : World)
    (hc : ∀ j, j < 4 → w.cell? ⟨b, o + j, none⟩ = some (.int .u64 (x j : Int))) (hf : ∀ j, j < 4 → w.frozen? ⟨b, o + j, none⟩ = false) :
    Calls Tryd.prog 78 #[.pointer (some ⟨b, o, none⟩), .agg #[.int .u64 (y 0 : Int), .int .u64 (y 1 : Int), .int .u64 (y 2 : Int), .int .u64 (y 3 : Int)]] w fun e w' => (∃ u, e = .returned u) ∧ ∃ m, w' = (putK (w.alloc (.cells #[.int .u64 (y 0 : Int), .int .u64 (y 1 : Int), .int .u64 (y 2 : Int), .int .u64 (y 3 : Int)] 63)) b o (fun j => .int .u64 ((x j ||| y j : Nat) : Int)) 4).drewN m := by
  have hbl : b < w.heap.size := World.block_lt_of_cell? w _ (hc 0 (by omega))
  have HC : Hid (∀ j, j < 4 → ((w.alloc (.cells #[.int .u64 (y 0 : Int), .int .u64 (y 1 : Int), .int .u64 (y 2 : Int), .int .u64 (y 3 : Int)] 63))).cell? ⟨b, o + j, none⟩ = some (.int .u64 (x j : Int))) := fun j hj => by rw [World.cell?_alloc_lt _ _ _ (by exact hbl)]; exact hc j hj
  have HF : Hid (∀ j, j < 4 → ((w.alloc (.cells #[.int .u64 (y 0 : Int), .int .u64 (y 1 : Int), .int .u64 (y 2 : Int), .int .u64 (y 3 : Int)] 63))).frozen? ⟨b, o + j, none⟩ = false) := fun j hj => by
    have := hf j hj
    rw [World.frozen?_of_block (w := w) (Below.heap_alloc w _ b hbl)]; exact this
  have HX := Hid.mk hx
  have HY := Hid.mk hy
  clear hx hy hc hf
  go_enter Tryd.func78, Tryd.ntmps78
  go_wp2
  go_loopw [7] (fun i wr => ∃ (k m : Nat), k ≤ 4 ∧ i = .int .i64 k ∧ Hid (wr = (putK (w.alloc (.cells #[.int .u64 (y 0 : Int), .int .u64 (y 1 : Int), .int .u64 (y 2 : Int), .int .u64 (y 3 : Int)] 63)) b o (fun j => .int .u64 ((x j ||| y j : Nat) : Int)) k).drewN m)) (fun i _ => 4 - (intOf i).toNat)
  case atStart => exact ⟨0, 0, by omega, rfl, rfl⟩
  case round =>
    obtain ⟨k, m, hk, rfl, HW⟩ := hrel
    by_cases hk4 : k < 4
    · have HCL : Hid (∀ j, j < 4 → k ≤ j → wr.cell? ⟨b, o + j, none⟩ = some (.int .u64 (x j : Int))) := fun j hj hkj => by
        rw [HW.out]
        show (putK (w.alloc (.cells #[.int .u64 (y 0 : Int), .int .u64 (y 1 : Int), .int .u64 (y 2 : Int), .int .u64 (y 3 : Int)] 63)) b o (fun j => .int .u64 ((x j ||| y j : Nat) : Int)) k).cell? _ = _
        rw [putK_cell _ _ _ _ k j hkj]; exact HC.out j hj
      have HFR : Hid (∀ j, j < 4 → wr.frozen? ⟨b, o + j, none⟩ = false) := fun j hj => by
        rw [HW.out]
        show (putK (w.alloc (.cells #[.int .u64 (y 0 : Int), .int .u64 (y 1 : Int), .int .u64 (y 2 : Int), .int .u64 (y 3 : Int)] 63)) b o (fun j => .int .u64 ((x j ||| y j : Nat) : Int)) k).frozen? _ = _
        rw [putK_frozen]; exact HF.out j hj
      rcases (show k = 0 ∨ k = 1 ∨ k = 2 ∨ k = 3 by omega) with hk0 | hk1 | hk2 | hk3
      · obtain rfl : k = 0 := hk0
        have c1 : wr.cell? ⟨b, o, none⟩ = some (.int .u64 (x 0 : Int)) := HCL.out 0 (by omega) (by omega)
        have f1 : wr.frozen? ⟨b, o, none⟩ = false := HFR.out 0 (by omega)
        have hix : (Instr.index 63 (.agg #[.int .u64 (y 0 : Int), .int .u64 (y 1 : Int), .int .u64 (y 2 : Int), .int .u64 (y 3 : Int)]) (.int .i64 0)).run Tryd.prog wr = .ok (.int .u64 (y 0 : Int)) wr := by kernel_rfl
        have HOR := Hid.mk (bits_or (x 0) (y 0) (HX.out 0 (by omega)) (HY.out 0 (by omega)))
        obtain ⟨xx, hxx⟩ : ∃ xx, x 0 = xx := ⟨_, rfl⟩
        have HN : Hid (∀ q, (wr.drewN q).setCell ⟨b, o, none⟩ (.int .u64 ((xx ||| y 0 : Nat) : Int)) = (putK (w.alloc (.cells #[.int .u64 (y 0 : Int), .int .u64 (y 1 : Int), .int .u64 (y 2 : Int), .int .u64 (y 3 : Int)] 63)) b o (fun j => .int .u64 ((x j ||| y j : Nat) : Int)) (0 + 1)).drewN (m + q)) := by
          intro q
          rw [← hxx, HW.out]
          simp [putK, World.drewN, World.setCell, Nat.add_assoc]
        rw [hxx] at c1 HOR
        clear hxx HCL HFR HW
        go_wp2
        refine wp_region_held_drew (S := fun _ => True) (by kernel_rfl) trivial (fun _ => ?_)
        refine takeHD (i := 0) (v := .pointer (some ⟨b, o, none⟩)) (some 11) rfl rfl (by kernel_rfl) (by kernel_rfl) (by kernel_rfl) (fun _ _ _ h => h) (Or.inl ⟨by kernel_rfl, fun w' hw => ?_⟩) trivial ?_
        · kernel_rfl
        simp only [Act.put, List.setIfInBounds_toArray]
        refine takeHD (i := 1) (v := .int .i64 0) (some 12) rfl rfl (by kernel_rfl) (by kernel_rfl) (by kernel_rfl) (fun _ _ _ h => h) (Or.inl ⟨by kernel_rfl, fun w' hw => ?_⟩) trivial ?_
        · kernel_rfl
        simp only [Act.put, List.setIfInBounds_toArray]
        refine takeHD (i := 2) (v := .pointer (some ⟨b, o, none⟩)) (some 13) rfl rfl (by kernel_rfl) (by kernel_rfl) (by kernel_rfl) (fun _ _ _ h => h) (Or.inl ⟨by kernel_rfl, fun w' hw => ?_⟩) trivial ?_
        · go_simp
        simp only [Act.put, List.setIfInBounds_toArray]
        refine takeHD (i := 3) (v := .pointer (some ⟨b, o, none⟩)) (some 14) rfl rfl (by kernel_rfl) (by kernel_rfl) (by kernel_rfl) (fun _ _ _ h => h) (Or.inl ⟨by kernel_rfl, fun w' hw => ?_⟩) trivial ?_
        · first | (go_simp; done) | (go_simp; intro h; omega) | (go_simp; rw [IntKind.wrap_i64]; omega)
        simp only [Act.put, List.setIfInBounds_toArray]
        refine takeHD (i := 5) (v := .int .u64 (y 0 : Int)) (some 16) rfl rfl (by kernel_rfl) (by kernel_rfl) (by kernel_rfl) (fun _ _ _ h => h) (Or.inl ⟨by kernel_rfl, fun w' hw => ?_⟩) trivial ?_
        · kernel_rfl
        simp only [Act.put, List.setIfInBounds_toArray]
        refine takeHD (i := 7) (v := .pointer (some ⟨b, o, none⟩)) (some 18) rfl rfl (by kernel_rfl) (by kernel_rfl) (by kernel_rfl) (fun _ _ _ h => h) (Or.inl ⟨by kernel_rfl, fun w' hw => ?_⟩) trivial ?_
        · go_simp
        simp only [Act.put, List.setIfInBounds_toArray]
        refine wpAnyH_ready (rs := [4]) (by kernel_rfl) (by simp) ?_
        refine AllReadyH.cons rfl (fun K hK => ?_) AllReadyH.nil
        rw [if_pos (by kernel_rfl)]
        go_wp2_with fail
        refine hK.out _ _ trivial (fun _ => ?_)
        clear hK K
        refine takeHD (i := 6) (v := .int .u64 ((xx ||| y 0 : Nat) : Int)) (some 17) rfl rfl (by kernel_rfl) (by kernel_rfl) (by kernel_rfl) (fun _ _ _ h => h) (Or.inl ⟨by kernel_rfl, fun w' hw => ?_⟩) trivial ?_
        · go_simp
          exact HOR.out
        simp only [Act.put, List.setIfInBounds_toArray]
        refine takeHD (i := 8) (v := .pointer (some ⟨b, o, none⟩)) (some 19) rfl rfl (by kernel_rfl) (by kernel_rfl) (by kernel_rfl) (fun _ _ _ h => h) (Or.inl ⟨by kernel_rfl, fun w' hw => ?_⟩) trivial ?_
        · first | (go_simp; done) | (go_simp; intro h; omega) | (go_simp; rw [IntKind.wrap_i64]; omega)
        simp only [Act.put, List.setIfInBounds_toArray]
        refine wpAnyH_ready (rs := [9]) (by kernel_rfl) (by simp) ?_
        refine AllReadyH.cons rfl (fun K hK => ?_) AllReadyH.nil
        rw [if_pos (by kernel_rfl)]
        go_wp2_with fail
        refine hK.out _ _ trivial (fun _ => ?_)
        clear hK K
        refine wpAnyH_done (by kernel_rfl) ?_ _
        go_wp2
        go_roundw
        case rel => exact ⟨0 + 1, m + 1, by omega, by go_num, HN.out 1⟩
        case measure => simp [intOf]
      · obtain rfl : k = 1 := hk1
        have c1 : wr.cell? ⟨b, o + 1, none⟩ = some (.int .u64 (x 1 : Int)) := HCL.out 1 (by omega) (by omega)
        have f1 : wr.frozen? ⟨b, o + 1, none⟩ = false := HFR.out 1 (by omega)
        have hix : (Instr.index 63 (.agg #[.int .u64 (y 0 : Int), .int .u64 (y 1 : Int), .int .u64 (y 2 : Int), .int .u64 (y 3 : Int)]) (.int .i64 1)).run Tryd.prog wr = .ok (.int .u64 (y 1 : Int)) wr := by kernel_rfl
        have HOR := Hid.mk (bits_or (x 1) (y 1) (HX.out 1 (by omega)) (HY.out 1 (by omega)))
        obtain ⟨xx, hxx⟩ : ∃ xx, x 1 = xx := ⟨_, rfl⟩
        have HN : Hid (∀ q, (wr.drewN q).setCell ⟨b, o + 1, none⟩ (.int .u64 ((xx ||| y 1 : Nat) : Int)) = (putK (w.alloc (.cells #[.int .u64 (y 0 : Int), .int .u64 (y 1 : Int), .int .u64 (y 2 : Int), .int .u64 (y 3 : Int)] 63)) b o (fun j => .int .u64 ((x j ||| y j : Nat) : Int)) (1 + 1)).drewN (m + q)) := by
          intro q
          rw [← hxx, HW.out]
          simp [putK, World.drewN, World.setCell, Nat.add_assoc]
        rw [hxx] at c1 HOR
        clear hxx HCL HFR HW
        go_wp2
        refine wp_region_held_drew (S := fun _ => True) (by kernel_rfl) trivial (fun _ => ?_)
        refine takeHD (i := 0) (v := .pointer (some ⟨b, o, none⟩)) (some 11) rfl rfl (by kernel_rfl) (by kernel_rfl) (by kernel_rfl) (fun _ _ _ h => h) (Or.inl ⟨by kernel_rfl, fun w' hw => ?_⟩) trivial ?_
        · kernel_rfl
        simp only [Act.put, List.setIfInBounds_toArray]
        refine takeHD (i := 1) (v := .int .i64 1) (some 12) rfl rfl (by kernel_rfl) (by kernel_rfl) (by kernel_rfl) (fun _ _ _ h => h) (Or.inl ⟨by kernel_rfl, fun w' hw => ?_⟩) trivial ?_
        · kernel_rfl
        simp only [Act.put, List.setIfInBounds_toArray]
        refine takeHD (i := 2) (v := .pointer (some ⟨b, o, none⟩)) (some 13) rfl rfl (by kernel_rfl) (by kernel_rfl) (by kernel_rfl) (fun _ _ _ h => h) (Or.inl ⟨by kernel_rfl, fun w' hw => ?_⟩) trivial ?_
        · go_simp
        simp only [Act.put, List.setIfInBounds_toArray]
        refine takeHD (i := 3) (v := .pointer (some ⟨b, o + 1, none⟩)) (some 14) rfl rfl (by kernel_rfl) (by kernel_rfl) (by kernel_rfl) (fun _ _ _ h => h) (Or.inl ⟨by kernel_rfl, fun w' hw => ?_⟩) trivial ?_
        · first | (go_simp; done) | (go_simp; intro h; omega) | (go_simp; rw [IntKind.wrap_i64]; omega)
        simp only [Act.put, List.setIfInBounds_toArray]
        refine takeHD (i := 5) (v := .int .u64 (y 1 : Int)) (some 16) rfl rfl (by kernel_rfl) (by kernel_rfl) (by kernel_rfl) (fun _ _ _ h => h) (Or.inl ⟨by kernel_rfl, fun w' hw => ?_⟩) trivial ?_
        · kernel_rfl
        simp only [Act.put, List.setIfInBounds_toArray]
        refine takeHD (i := 7) (v := .pointer (some ⟨b, o, none⟩)) (some 18) rfl rfl (by kernel_rfl) (by kernel_rfl) (by kernel_rfl) (fun _ _ _ h => h) (Or.inl ⟨by kernel_rfl, fun w' hw => ?_⟩) trivial ?_
        · go_simp
        simp only [Act.put, List.setIfInBounds_toArray]
        refine wpAnyH_ready (rs := [4]) (by kernel_rfl) (by simp) ?_
        refine AllReadyH.cons rfl (fun K hK => ?_) AllReadyH.nil
        rw [if_pos (by kernel_rfl)]
        go_wp2_with fail
        refine hK.out _ _ trivial (fun _ => ?_)
        clear hK K
        refine takeHD (i := 6) (v := .int .u64 ((xx ||| y 1 : Nat) : Int)) (some 17) rfl rfl (by kernel_rfl) (by kernel_rfl) (by kernel_rfl) (fun _ _ _ h => h) (Or.inl ⟨by kernel_rfl, fun w' hw => ?_⟩) trivial ?_
        · go_simp
          exact HOR.out
        simp only [Act.put, List.setIfInBounds_toArray]
        refine takeHD (i := 8) (v := .pointer (some ⟨b, o + 1, none⟩)) (some 19) rfl rfl (by kernel_rfl) (by kernel_rfl) (by kernel_rfl) (fun _ _ _ h => h) (Or.inl ⟨by kernel_rfl, fun w' hw => ?_⟩) trivial ?_
        · first | (go_simp; done) | (go_simp; intro h; omega) | (go_simp; rw [IntKind.wrap_i64]; omega)
        simp only [Act.put, List.setIfInBounds_toArray]
        refine wpAnyH_ready (rs := [9]) (by kernel_rfl) (by simp) ?_
        refine AllReadyH.cons rfl (fun K hK => ?_) AllReadyH.nil
        rw [if_pos (by kernel_rfl)]
        go_wp2_with fail
        refine hK.out _ _ trivial (fun _ => ?_)
        clear hK K
        refine wpAnyH_done (by kernel_rfl) ?_ _
        go_wp2
        go_roundw
        case rel => exact ⟨1 + 1, m + 1, by omega, by go_num, HN.out 1⟩
        case measure => simp [intOf]
      · obtain rfl : k = 2 := hk2
        have c1 : wr.cell? ⟨b, o + 2, none⟩ = some (.int .u64 (x 2 : Int)) := HCL.out 2 (by omega) (by omega)
        have f1 : wr.frozen? ⟨b, o + 2, none⟩ = false := HFR.out 2 (by omega)
        have hix : (Instr.index 63 (.agg #[.int .u64 (y 0 : Int), .int .u64 (y 1 : Int), .int .u64 (y 2 : Int), .int .u64 (y 3 : Int)]) (.int .i64 2)).run Tryd.prog wr = .ok (.int .u64 (y 2 : Int)) wr := by kernel_rfl
        have HOR := Hid.mk (bits_or (x 2) (y 2) (HX.out 2 (by omega)) (HY.out 2 (by omega)))
        obtain ⟨xx, hxx⟩ : ∃ xx, x 2 = xx := ⟨_, rfl⟩
        have HN : Hid (∀ q, (wr.drewN q).setCell ⟨b, o + 2, none⟩ (.int .u64 ((xx ||| y 2 : Nat) : Int)) = (putK (w.alloc (.cells #[.int .u64 (y 0 : Int), .int .u64 (y 1 : Int), .int .u64 (y 2 : Int), .int .u64 (y 3 : Int)] 63)) b o (fun j => .int .u64 ((x j ||| y j : Nat) : Int)) (2 + 1)).drewN (m + q)) := by
          intro q
          rw [← hxx, HW.out]
          simp [putK, World.drewN, World.setCell, Nat.add_assoc]
        rw [hxx] at c1 HOR
        clear hxx HCL HFR HW
        go_wp2
        refine wp_region_held_drew (S := fun _ => True) (by kernel_rfl) trivial (fun _ => ?_)
        refine takeHD (i := 0) (v := .pointer (some ⟨b, o, none⟩)) (some 11) rfl rfl (by kernel_rfl) (by kernel_rfl) (by kernel_rfl) (fun _ _ _ h => h) (Or.inl ⟨by kernel_rfl, fun w' hw => ?_⟩) trivial ?_
        · kernel_rfl
        simp only [Act.put, List.setIfInBounds_toArray]
        refine takeHD (i := 1) (v := .int .i64 2) (some 12) rfl rfl (by kernel_rfl) (by kernel_rfl) (by kernel_rfl) (fun _ _ _ h => h) (Or.inl ⟨by kernel_rfl, fun w' hw => ?_⟩) trivial ?_
        · kernel_rfl
        simp only [Act.put, List.setIfInBounds_toArray]
        refine takeHD (i := 2) (v := .pointer (some ⟨b, o, none⟩)) (some 13) rfl rfl (by kernel_rfl) (by kernel_rfl) (by kernel_rfl) (fun _ _ _ h => h) (Or.inl ⟨by kernel_rfl, fun w' hw => ?_⟩) trivial ?_
        · go_simp
        simp only [Act.put, List.setIfInBounds_toArray]
        refine takeHD (i := 3) (v := .pointer (some ⟨b, o + 2, none⟩)) (some 14) rfl rfl (by kernel_rfl) (by kernel_rfl) (by kernel_rfl) (fun _ _ _ h => h) (Or.inl ⟨by kernel_rfl, fun w' hw => ?_⟩) trivial ?_
        · first | (go_simp; done) | (go_simp; intro h; omega) | (go_simp; rw [IntKind.wrap_i64]; omega)
        simp only [Act.put, List.setIfInBounds_toArray]
        refine takeHD (i := 5) (v := .int .u64 (y 2 : Int)) (some 16) rfl rfl (by kernel_rfl) (by kernel_rfl) (by kernel_rfl) (fun _ _ _ h => h) (Or.inl ⟨by kernel_rfl, fun w' hw => ?_⟩) trivial ?_
        · kernel_rfl
        simp only [Act.put, List.setIfInBounds_toArray]
        refine takeHD (i := 7) (v := .pointer (some ⟨b, o, none⟩)) (some 18) rfl rfl (by kernel_rfl) (by kernel_rfl) (by kernel_rfl) (fun _ _ _ h => h) (Or.inl ⟨by kernel_rfl, fun w' hw => ?_⟩) trivial ?_
        · go_simp
        simp only [Act.put, List.setIfInBounds_toArray]
        refine wpAnyH_ready (rs := [4]) (by kernel_rfl) (by simp) ?_
        refine AllReadyH.cons rfl (fun K hK => ?_) AllReadyH.nil
        rw [if_pos (by kernel_rfl)]
        go_wp2_with fail
        refine hK.out _ _ trivial (fun _ => ?_)
        clear hK K
        refine takeHD (i := 6) (v := .int .u64 ((xx ||| y 2 : Nat) : Int)) (some 17) rfl rfl (by kernel_rfl) (by kernel_rfl) (by kernel_rfl) (fun _ _ _ h => h) (Or.inl ⟨by kernel_rfl, fun w' hw => ?_⟩) trivial ?_
        · go_simp
          exact HOR.out
        simp only [Act.put, List.setIfInBounds_toArray]
        refine takeHD (i := 8) (v := .pointer (some ⟨b, o + 2, none⟩)) (some 19) rfl rfl (by kernel_rfl) (by kernel_rfl) (by kernel_rfl) (fun _ _ _ h => h) (Or.inl ⟨by kernel_rfl, fun w' hw => ?_⟩) trivial ?_
        · first | (go_simp; done) | (go_simp; intro h; omega) | (go_simp; rw [IntKind.wrap_i64]; omega)
        simp only [Act.put, List.setIfInBounds_toArray]
        refine wpAnyH_ready (rs := [9]) (by kernel_rfl) (by simp) ?_
        refine AllReadyH.cons rfl (fun K hK => ?_) AllReadyH.nil
        rw [if_pos (by kernel_rfl)]
        go_wp2_with fail
        refine hK.out _ _ trivial (fun _ => ?_)
        clear hK K
        refine wpAnyH_done (by kernel_rfl) ?_ _
        go_wp2
        go_roundw
        case rel => exact ⟨2 + 1, m + 1, by omega, by go_num, HN.out 1⟩
        case measure => simp [intOf]
      · obtain rfl : k = 3 := hk3
        have c1 : wr.cell? ⟨b, o + 3, none⟩ = some (.int .u64 (x 3 : Int)) := HCL.out 3 (by omega) (by omega)
        have f1 : wr.frozen? ⟨b, o + 3, none⟩ = false := HFR.out 3 (by omega)
        have hix : (Instr.index 63 (.agg #[.int .u64 (y 0 : Int), .int .u64 (y 1 : Int), .int .u64 (y 2 : Int), .int .u64 (y 3 : Int)]) (.int .i64 3)).run Tryd.prog wr = .ok (.int .u64 (y 3 : Int)) wr := by kernel_rfl
        have HOR := Hid.mk (bits_or (x 3) (y 3) (HX.out 3 (by omega)) (HY.out 3 (by omega)))
        obtain ⟨xx, hxx⟩ : ∃ xx, x 3 = xx := ⟨_, rfl⟩
        have HN : Hid (∀ q, (wr.drewN q).setCell ⟨b, o + 3, none⟩ (.int .u64 ((xx ||| y 3 : Nat) : Int)) = (putK (w.alloc (.cells #[.int .u64 (y 0 : Int), .int .u64 (y 1 : Int), .int .u64 (y 2 : Int), .int .u64 (y 3 : Int)] 63)) b o (fun j => .int .u64 ((x j ||| y j : Nat) : Int)) (3 + 1)).drewN (m + q)) := by
          intro q
          rw [← hxx, HW.out]
          simp [putK, World.drewN, World.setCell, Nat.add_assoc]
        rw [hxx] at c1 HOR
        clear hxx HCL HFR HW
        go_wp2
        refine wp_region_held_drew (S := fun _ => True) (by kernel_rfl) trivial (fun _ => ?_)
        refine takeHD (i := 0) (v := .pointer (some ⟨b, o, none⟩)) (some 11) rfl rfl (by kernel_rfl) (by kernel_rfl) (by kernel_rfl) (fun _ _ _ h => h) (Or.inl ⟨by kernel_rfl, fun w' hw => ?_⟩) trivial ?_
        · kernel_rfl
        simp only [Act.put, List.setIfInBounds_toArray]
        refine takeHD (i := 1) (v := .int .i64 3) (some 12) rfl rfl (by kernel_rfl) (by kernel_rfl) (by kernel_rfl) (fun _ _ _ h => h) (Or.inl ⟨by kernel_rfl, fun w' hw => ?_⟩) trivial ?_
        · kernel_rfl
        simp only [Act.put, List.setIfInBounds_toArray]
        refine takeHD (i := 2) (v := .pointer (some ⟨b, o, none⟩)) (some 13) rfl rfl (by kernel_rfl) (by kernel_rfl) (by kernel_rfl) (fun _ _ _ h => h) (Or.inl ⟨by kernel_rfl, fun w' hw => ?_⟩) trivial ?_
        · go_simp
        simp only [Act.put, List.setIfInBounds_toArray]
        refine takeHD (i := 3) (v := .pointer (some ⟨b, o + 3, none⟩)) (some 14) rfl rfl (by kernel_rfl) (by kernel_rfl) (by kernel_rfl) (fun _ _ _ h => h) (Or.inl ⟨by kernel_rfl, fun w' hw => ?_⟩) trivial ?_
        · first | (go_simp; done) | (go_simp; intro h; omega) | (go_simp; rw [IntKind.wrap_i64]; omega)
        simp only [Act.put, List.setIfInBounds_toArray]
        refine takeHD (i := 5) (v := .int .u64 (y 3 : Int)) (some 16) rfl rfl (by kernel_rfl) (by kernel_rfl) (by kernel_rfl) (fun _ _ _ h => h) (Or.inl ⟨by kernel_rfl, fun w' hw => ?_⟩) trivial ?_
        · kernel_rfl
        simp only [Act.put, List.setIfInBounds_toArray]
        refine takeHD (i := 7) (v := .pointer (some ⟨b, o, none⟩)) (some 18) rfl rfl (by kernel_rfl) (by kernel_rfl) (by kernel_rfl) (fun _ _ _ h => h) (Or.inl ⟨by kernel_rfl, fun w' hw => ?_⟩) trivial ?_
        · go_simp
        simp only [Act.put, List.setIfInBounds_toArray]
        refine wpAnyH_ready (rs := [4]) (by kernel_rfl) (by simp) ?_
        refine AllReadyH.cons rfl (fun K hK => ?_) AllReadyH.nil
        rw [if_pos (by kernel_rfl)]
        go_wp2_with fail
        refine hK.out _ _ trivial (fun _ => ?_)
        clear hK K
        refine takeHD (i := 6) (v := .int .u64 ((xx ||| y 3 : Nat) : Int)) (some 17) rfl rfl (by kernel_rfl) (by kernel_rfl) (by kernel_rfl) (fun _ _ _ h => h) (Or.inl ⟨by kernel_rfl, fun w' hw => ?_⟩) trivial ?_
        · go_simp
          exact HOR.out
        simp only [Act.put, List.setIfInBounds_toArray]
        refine takeHD (i := 8) (v := .pointer (some ⟨b, o + 3, none⟩)) (some 19) rfl rfl (by kernel_rfl) (by kernel_rfl) (by kernel_rfl) (fun _ _ _ h => h) (Or.inl ⟨by kernel_rfl, fun w' hw => ?_⟩) trivial ?_
        · first | (go_simp; done) | (go_simp; intro h; omega) | (go_simp; rw [IntKind.wrap_i64]; omega)
        simp only [Act.put, List.setIfInBounds_toArray]
        refine wpAnyH_ready (rs := [9]) (by kernel_rfl) (by simp) ?_
        refine AllReadyH.cons rfl (fun K hK => ?_) AllReadyH.nil
        rw [if_pos (by kernel_rfl)]
        go_wp2_with fail
        refine hK.out _ _ trivial (fun _ => ?_)
        clear hK K
        refine wpAnyH_done (by kernel_rfl) ?_ _
        go_wp2
        go_roundw
        case rel => exact ⟨3 + 1, m + 1, by omega, by go_num, HN.out 1⟩
        case measure => simp [intOf]
    · obtain rfl : k = 4 := by omega
      have HWW := HW
      clear HW
      go_wp2
      go_end0
      exact ⟨⟨_, rfl⟩, m, HWW.out⟩
end Go.Proofs.YthifleacfhijnaaDoor
