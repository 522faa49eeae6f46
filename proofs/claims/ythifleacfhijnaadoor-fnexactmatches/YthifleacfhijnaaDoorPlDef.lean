/- Sets of places as words of 64 bits. -/
import Derived.Test.YthifleacfhijnaaDoorMatDef
namespace Go.Proofs.YthifleacfhijnaaDoor
open Go.RowKit

/-- The number whose bits below k are those of g. -/
def bitsN (g : Nat → Bool) : Nat → Nat
  | 0 => 0
  | k + 1 => bitsN g k ||| (if g k then 2 ^ k else 0)

theorem bitsN_test (g : Nat → Bool) : ∀ k b, (bitsN g k).testBit b = (decide (b < k) && g b) := by
  intro k
  induction k with
  | zero => intro b; simp [bitsN]
  | succ k ih =>
    intro b
    rw [bitsN, Nat.testBit_or, ih]
    by_cases hb : b = k
    · subst hb
      cases hg : g b <;> simp [Nat.testBit_two_pow_self]
    · have e : (if g k then 2 ^ k else 0).testBit b = false := by
        split
        · exact Nat.testBit_two_pow_of_ne (Ne.symm hb)
        · exact Nat.zero_testBit b
      rw [e, Bool.or_false, show decide (b < k + 1) = decide (b < k) from decide_eq_decide.2 (by omega)]

theorem bitsN_lt (g : Nat → Bool) (k : Nat) : bitsN g k < 2 ^ k := by
  apply Nat.lt_pow_two_of_testBit
  intro i hi
  rw [bitsN_test, decide_eq_false (by omega), Bool.false_and]

/-- The word j of a set of places. -/
def wd (f : Nat → Bool) (j : Nat) : Nat := bitsN (fun b => f (64 * j + b)) 64

theorem wd_test (f : Nat → Bool) (j b : Nat) : (wd f j).testBit b = (decide (b < 64) && f (64 * j + b)) := bitsN_test _ 64 b
theorem wd_lt (f : Nat → Bool) (j : Nat) : wd f j < 18446744073709551616 := bitsN_lt _ 64
theorem wd_or (f g : Nat → Bool) (j : Nat) : wd f j ||| wd g j = wd (fun k => f k || g k) j := by
  apply Nat.eq_of_testBit_eq
  intro b
  rw [Nat.testBit_or, wd_test, wd_test, wd_test, Bool.and_or_distrib_left]
theorem wd_ext {f g : Nat → Bool} {j : Nat} (h : ∀ b, b < 64 → f (64 * j + b) = g (64 * j + b)) : wd f j = wd g j := by
  apply Nat.eq_of_testBit_eq
  intro b
  rw [wd_test, wd_test]
  by_cases hb : b < 64
  · rw [h b hb]
  · rw [decide_eq_false hb]; rfl
theorem wd_add (f : Nat → Bool) (a : Nat) : wd f (a / 64) ||| 2 ^ (a % 64) = wd (updR f a true) (a / 64) := by
  apply Nat.eq_of_testBit_eq
  intro b
  rw [Nat.testBit_or, wd_test, wd_test]
  by_cases hb : b = a % 64
  · subst hb
    have e : 64 * (a / 64) + a % 64 = a := by omega
    rw [Nat.testBit_two_pow_self, e]
    simp [updR]
    omega
  · rw [Nat.testBit_two_pow_of_ne (Ne.symm hb), Bool.or_false]
    by_cases hlt : b < 64
    · have : 64 * (a / 64) + b ≠ a := by omega
      simp [updR, this]
    · rw [decide_eq_false hlt]; rfl
theorem wd_add_other (f : Nat → Bool) (a j : Nat) (h : j ≠ a / 64) : wd f j = wd (updR f a true) j := by
  apply wd_ext
  intro b hb
  have : 64 * j + b ≠ a := by omega
  simp [updR, this]

/-- The four words of a set as values. -/
def w4 (f : Nat → Bool) : List Value := [.int .u64 (wd f 0 : Int), .int .u64 (wd f 1 : Int), .int .u64 (wd f 2 : Int), .int .u64 (wd f 3 : Int)]

theorem or_u64 (x y : Nat) (hx : x < 18446744073709551616) (hy : y < 18446744073709551616) : IntKind.u64.wrap ((BitVec.ofInt 64 (x : Int) ||| BitVec.ofInt 64 (y : Int)).toNat : Nat) = ((x ||| y : Nat) : Int) := by
  have e : (BitVec.ofInt 64 (x : Int) ||| BitVec.ofInt 64 (y : Int)).toNat = x ||| y := by
    rw [BitVec.toNat_or]
    simp only [BitVec.ofInt_natCast, BitVec.toNat_ofNat]
    rw [Nat.mod_eq_of_lt hx, Nat.mod_eq_of_lt hy]
  rw [e]
  have : x ||| y < 18446744073709551616 := Nat.or_lt_two_pow (n := 64) hx hy
  rw [IntKind.wrap_u64]
  omega
end Go.Proofs.YthifleacfhijnaaDoor
