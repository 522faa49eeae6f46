/- Nodes copied by the laws; a copy is the same. -/
import Derived.Test.YtapniafhcagogaaNodeTo
namespace Go.Proofs.Ytapniafhcagogaa
open Go.RowKit
set_option maxRecDepth 8000

/-- The first k nodes are laid. -/
def filN (N : List Nd) (k : Nat) : List Nd := N.take k ++ List.replicate (N.length - k) nd0
theorem filN_len (N : List Nd) (k : Nat) (h : k ≤ N.length) : (filN N k).length = N.length := by simp [filN]; omega
theorem filN_zero (N : List Nd) : filN N 0 = List.replicate N.length nd0 := by simp [filN]
theorem filN_all (N : List Nd) : filN N N.length = N := by simp [filN]
theorem filN_set (N : List Nd) (k : Nat) (h : k < N.length) : (filN N k).set k N[k] = filN N (k + 1) := by
  unfold filN
  rw [List.set_append_right _ _ (by simp; omega), show k - (N.take k).length = 0 by simp; omega, show N.length - k = N.length - (k + 1) + 1 by omega, List.replicate_succ, List.set_cons_zero, List.take_succ_eq_append_getElem h, List.append_assoc]
  rfl

set_option maxHeartbeats 1000000 in
theorem eqNode_same (x : Nd) (w : World) : Calls Try.prog 80 #[ndV x, ndV x] w fun e w' => e = .returned (.bool true) ∧ Below w.heap.size w w' := by
  obtain ⟨k, s, a, b⟩ := x
  have h1 : (k != k) = false := by simp
  have h2 : (a != a) = false := by simp
  have h3 : (b != b) = false := by simp
  have h4 : (s.toList != s.toList) = false := by simp
  have A0 : Hid (∀ o o', Below w.heap.size w ((w.alloc o).alloc o')) := fun o o' => ((Below.refl _ _).alloc (Nat.le_refl _) _).alloc (by simp) _
  go_enter Try.func80, Try.ntmps80
  go_wp2
  go_ret
  exact ⟨rfl, A0.out _ _⟩

set_option maxHeartbeats 1000000 in
theorem eqNodeS_same (N : List Nd) (B C : Nat → Prop) (v u : Value) (w : World) (h : Nl w B N v) (h' : Nl w C N u) :
    Calls Try.prog 52 #[v, u] w fun e w' => e = .returned (.bool true) ∧ Below w.heap.size w w' := by
  obtain ⟨ao, cap, rfl, hl, hm, -, -, hc⟩ := h
  obtain ⟨ao', cap', rfl, hl', hm', -, -, hc'⟩ := h'
  unfold maxLen at hm hm'
  have HC := Hid.mk hc
  have HC' := Hid.mk hc'
  clear hc hc'
  have hll : ((N.length : Int) != (N.length : Int)) = false := by simp
  go_enter Try.func52, Try.ntmps52
  go_wp2
  go_loopw [5] (fun i wr => ∃ (k : Nat), k ≤ N.length ∧ i = .int .i64 k ∧ Hid (Below w.heap.size w wr)) (fun i _ => N.length - (intOf i).toNat)
  case atStart => exact ⟨0, Nat.zero_le _, rfl, Below.refl _ _⟩
  case round =>
    obtain ⟨k, hk, rfl, HB⟩ := hrel
    by_cases hkl : k < N.length
    · obtain ⟨b, off, rfl, _, hcell⟩ := HC.out (by intro h0; rw [h0] at hkl; simp at hkl)
      obtain ⟨b', off', rfl, _, hcell'⟩ := HC'.out (by intro h0; rw [h0] at hkl; simp at hkl)
      have h4 := hcell k hkl
      have h4' := hcell' k hkl
      obtain ⟨c0, c1, c2, c3⟩ := h4.kept (w' := wr) (HB.out.block b (World.block_lt_of_cell? w _ h4.1))
      obtain ⟨d0, d1, d2, d3⟩ := h4'.kept (w' := wr) (HB.out.block b' (World.block_lt_of_cell? w _ h4'.1))
      generalize N[k] = x at c0 c1 c2 c3 d0 d1 d2 d3
      have cA := Hid.mk (fun d os => Calls.regrown_of (w := wr) (d := d) (os := os) (eqNode_same x _))
      obtain ⟨xk, xs, xa, xb⟩ := x
      simp only at c0 c1 c2 c3 d0 d1 d2 d3 cA
      have a0 := cell_regrown c0
      have a1 := cell_regrown c1
      have a2 := cell_regrown c2
      have a3 := cell_regrown c3
      have b0 := cell_regrown d0
      have b1 := cell_regrown d1
      have b2 := cell_regrown d2
      have b3 := cell_regrown d3
      have hki : (k : Int) < (N.length : Int) := by omega
      clear hcell h4 hcell' h4' c0 c1 c2 c3 d0 d1 d2 d3
      go_wp2_with fail
      refine wp_region_quiet_below (by kernel_rfl) (by kernel_rfl) ?_
      quiet_step (fail)
      quiet_step (fail)
      quiet_step (fail)
      quiet_step (fail)
      quiet_step (fail)
      quiet_step (fail)
      quiet_step (fail)
      quiet_step (fail)
      quiet_step (exact cA.out _ _)
      quiet_step (fail)
      refine wpQuiet_nil ?_
      intro w6 hw'
      obtain ⟨⟨dq, osq⟩, hw''⟩ := hw'
      have hb6 : Below wr.heap.size wr w6 := by rw [hw'']; exact below_regrown _ _ _
      have HB2 := Hid.mk (HB.out.trans (hb6.mono HB.out.size))
      clear hw'' a0 a1 a2 a3 b0 b1 b2 b3 cA hb6 HB
      go_wp2
      go_roundw
      case rel => exact ⟨k + 1, by omega, by go_num, HB2⟩
      case measure => simp [intOf]; omega
    · go_wp2
      go_ret
      exact ⟨rfl, HB.out⟩

set_option maxHeartbeats 1000000 in
theorem eqNfa_same (N : List Nd) (B C : Nat → Prop) (v u : Value) (w : World) (h : Nl w B N v) (h' : Nl w C N u) :
    Calls Try.prog 25 #[.agg #[v], .agg #[u]] w fun e w' => e = .returned (.bool true) ∧ Below w.heap.size w w' := by
  have HC := Hid.mk (fun w' (hb : Below w.heap.size w w') => eqNodeS_same N B C v u w' (h.grow hb) (h'.grow hb))
  obtain ⟨ao, cap, rfl, -⟩ := h
  obtain ⟨ao', cap', rfl, -⟩ := h'
  go_enter Try.func25, Try.ntmps25
  go_wp2_with fail
  refine (HC.out _ (((Below.refl _ _).alloc (Nat.le_refl _) _).alloc (by simp) _)).mono ?_
  rintro e w1 ⟨rfl, hb1⟩
  have B1 := Hid.mk ((((Below.refl w.heap.size w).alloc (Nat.le_refl _) _).alloc (by simp) _).trans (hb1.mono (by simp; omega)))
  clear hb1 HC
  go_wp2
  go_ret
  exact ⟨rfl, B1.out⟩
end Go.Proofs.Ytapniafhcagogaa
