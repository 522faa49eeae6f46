/- The lowest place of a word: TrailingZeros64 at the library's table; a word without its lowest place. -/
import Derived.Test.YtapniafhcagogaaDoorMatThenM
import Derived.Shelf.Spec.TrailingZeros
import Derived.Lib.AppendIntMem
import Derived.Lib.LaidTab
namespace Go.Proofs.YtapniafhcagogaaDoor
open Go.RowKit Go.Shelf
set_option maxRecDepth 8000

/-- The library's table lies as its text lays it. -/
def TabB (w : World) : Prop := Lib.TabIs Tryd.prog w "math/bits.deBruijn64tab" .u8 (Lib.deBruijn64tab.map fun (n : Nat) => (n : Int))

theorem TabB.grow {w w' : World} (h : TabB w) (hb : Below w.heap.size w w') : TabB w' := Lib.tabBelow_of_tabIs h w' hb

theorem TabB.cell {w : World} (h : TabB w) (i : Nat) (hi : i < 64) : w.cell? ⟨0, i, none⟩ = some (.int .u8 ((Lib.deBruijn64tab.getD i 0 : Nat) : Int)) := by
  have hl : i < (Lib.deBruijn64tab.map fun (n : Nat) => (n : Int)).length := by rw [List.length_map]; exact hi
  have := Lib.TabIs.cell h (g := 0) (by kernel_rfl) i hl
  rw [this]
  simp
  cases Lib.deBruijn64tab[i]? <;> rfl

set_option maxHeartbeats 1000000 in
theorem tz64_core (x k idx : Nat) (w : World) (hx0 : ((x : Int) == 0) = false)
    (key : IntKind.u64.wrap (bits BinOp.and IntKind.u64 (x : Int) (IntKind.u64.wrap (-(x : Int))) * 285870213051353865) / 288230376151711744 = (idx : Int))
    (hi : idx < 64) (hk : k < 64) (hcell : w.cell? ⟨0, idx, none⟩ = some (.int .u8 (k : Int))) :
    Calls Tryd.prog 75 #[.int .u64 (x : Int)] w fun e w' => e = .returned (.int .i64 (k : Int)) ∧ w' = w := by
  go_enter Tryd.func75, Tryd.ntmps75
  go_wp2_with (simp only [key])
  go_ret
  exact ⟨rfl, rfl⟩

theorem tz64_any (x : Nat) (hx : x < 18446744073709551616) (hx0 : x ≠ 0) (w : World) (hT : TabB w) :
    Calls Tryd.prog 75 #[.int .u64 (x : Int)] w fun e w' => e = .returned (.int .i64 (Lib.ctz 64 x : Int)) ∧ w' = w := by
  obtain ⟨hlow, hk⟩ := Lib.lowest_bit 64 x hx0 hx
  obtain ⟨hi, htab⟩ := Lib.deBruijn64_at _ hk
  have hcell := hT.cell _ hi
  rw [htab] at hcell
  exact tz64_core x _ _ w (by simp; omega) (tz64_key x _ hx hx0 hlow) hi hk hcell

theorem ctz_low (x : Nat) (h0 : x ≠ 0) (hx : x < 2 ^ 64) : (∀ b, b < Lib.ctz 64 x → x.testBit b = false) ∧ x.testBit (Lib.ctz 64 x) = true ∧ ∀ b, (x &&& (x - 1)).testBit b = (x.testBit b && decide (b ≠ Lib.ctz 64 x)) := by
  obtain ⟨m, hm, hk⟩ := Lib.ctzFrom_spec 64 x (by omega) hx
  have e : Lib.ctz 64 x = Lib.ctzFrom 64 x := by simp [Lib.ctz, h0]
  rw [e]
  generalize Lib.ctzFrom 64 x = k at hm hk
  have hb1 : ∀ b, b < k → x.testBit b = false := by
    intro b hb
    rw [hm, Nat.testBit_two_pow_mul, decide_eq_false (by omega)]; rfl
  have hb2 : x.testBit k = true := by
    rw [hm, Nat.testBit_two_pow_mul, decide_eq_true (Nat.le_refl _), Nat.sub_self]
    simp
  have hx1 : x - 1 = 2 ^ k * (2 * m) + (2 ^ k - 1) := by
    have : 0 < 2 ^ k := Nat.two_pow_pos k
    rw [hm, Nat.mul_add, Nat.mul_one]
    omega
  have hb3 : ∀ b, k < b → (x - 1).testBit b = x.testBit b := by
    intro b hb
    have hlt : 2 ^ k - 1 < 2 ^ k := by have := Nat.two_pow_pos k; omega
    rw [hx1, Nat.testBit_two_pow_mul_add _ hlt, hm, Nat.testBit_two_pow_mul, if_neg (by omega), decide_eq_true (by omega), Bool.true_and]
    obtain ⟨c, hc⟩ : ∃ c, b - k = c + 1 := ⟨b - k - 1, by omega⟩
    rw [hc, Nat.testBit_succ, Nat.testBit_succ]
    congr 1
    omega
  have hb4 : (x - 1).testBit k = false := by
    have hlt : 2 ^ k - 1 < 2 ^ k := by have := Nat.two_pow_pos k; omega
    rw [hx1, Nat.testBit_two_pow_mul_add _ hlt, if_neg (by omega), Nat.sub_self]
    simp
  refine ⟨hb1, hb2, fun b => ?_⟩
  rw [Nat.testBit_and]
  rcases Nat.lt_trichotomy b k with h | h | h
  · rw [hb1 b h]; rfl
  · subst h; rw [hb4]; simp
  · rw [hb3 b h, Bool.and_self, decide_eq_true (by omega), Bool.and_true]

/-- What is left of a word from the place j on. -/
def restW (g : Nat → Bool) (j : Nat) : Nat := bitsN (fun b => g b && decide (j ≤ b)) 64

theorem restW_test (g : Nat → Bool) (j b : Nat) : (restW g j).testBit b = (decide (b < 64) && (g b && decide (j ≤ b))) := bitsN_test _ 64 b
theorem restW_lt (g : Nat → Bool) (j : Nat) : restW g j < 18446744073709551616 := bitsN_lt _ 64
theorem restW_zero (g : Nat → Bool) (j : Nat) (h : restW g j = 0) : ∀ b, j ≤ b → b < 64 → g b = false := by
  intro b h1 h2
  have := restW_test g j b
  rw [h, Nat.zero_testBit, decide_eq_true h2, decide_eq_true h1, Bool.and_true, Bool.true_and] at this
  exact this.symm
theorem restW_next (g : Nat → Bool) (j : Nat) (h : restW g j ≠ 0) : ∃ k, Lib.ctz 64 (restW g j) = k ∧ j ≤ k ∧ k < 64 ∧ g k = true ∧ (∀ b, j ≤ b → b < k → g b = false) ∧ restW g j &&& (restW g j - 1) = restW g (k + 1) := by
  obtain ⟨h1, h2, h3⟩ := ctz_low _ h (restW_lt g j)
  obtain ⟨_, hk⟩ := Lib.lowest_bit 64 _ h (restW_lt g j)
  refine ⟨_, rfl, ?_⟩
  generalize Lib.ctz 64 (restW g j) = k at h1 h2 h3 hk ⊢
  rw [restW_test, decide_eq_true hk, Bool.true_and, Bool.and_eq_true, decide_eq_true_iff] at h2
  have hbelow : ∀ b, j ≤ b → b < k → g b = false := by
    intro b hb1 hb2
    have := h1 b hb2
    rw [restW_test, decide_eq_true (show b < 64 by omega), decide_eq_true hb1, Bool.and_true, Bool.true_and] at this
    exact this
  refine ⟨h2.2, hk, h2.1, hbelow, ?_⟩
  apply Nat.eq_of_testBit_eq
  intro b
  rw [h3 b, restW_test, restW_test]
  by_cases hb : b < 64
  · rw [decide_eq_true hb, Bool.true_and, Bool.true_and]
    by_cases hg : g b = true
    · rw [hg, Bool.true_and, Bool.true_and, Bool.eq_iff_iff, Bool.and_eq_true, decide_eq_true_iff, decide_eq_true_iff, decide_eq_true_iff]
      constructor
      · rintro ⟨h4, h5⟩
        by_cases hlt : b < k
        · have := hbelow b h4 hlt; rw [hg] at this; cases this
        · omega
      · intro h4; exact ⟨by omega, by omega⟩
    · rw [Bool.eq_false_iff.2 hg]; rfl
  · rw [decide_eq_false hb]; rfl
theorem restW_all (f : Nat → Bool) (i : Nat) : wd f i = restW (fun b => f (64 * i + b)) 0 := by
  unfold wd restW
  congr 1
  funext b
  simp
end Go.Proofs.YtapniafhcagogaaDoor
