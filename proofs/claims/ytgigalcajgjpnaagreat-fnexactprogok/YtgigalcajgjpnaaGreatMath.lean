/- Plain facts on numbers: wrapping to 32 bits, masks, groups of seven bits. Nothing of the program. -/
import Derived.Laws.BitsLemmas
import Derived.Laws.Bits128
namespace Go.Proofs.YtgigalcajgjpnaaGreat.Ma

theorem and_low32 (n : Int) : bits .and .i64 n 4294967295 = n % 4294967296 := by
  have hm : (BitVec.ofInt 64 4294967295).toNat = 2 ^ 32 - 1 := by decide
  have key : (BitVec.ofInt 64 n &&& BitVec.ofInt 64 4294967295).toNat = (n % ((2 ^ 64 : Nat) : Int)).toNat % 2 ^ 32 := by
    rw [BitVec.toNat_and, BitVec.toNat_ofInt, hm, Nat.and_two_pow_sub_one_eq_mod]
  show IntKind.i64.wrap ((BitVec.ofInt 64 n &&& BitVec.ofInt 64 4294967295).toNat : Nat) = n % 4294967296
  rw [key, IntKind.wrap_i64]
  omega

/-- The number modulo 2^32, from -2^31 on. -/
def wr (n : Int) : Int := (n + 2147483648) % 4294967296 - 2147483648

theorem wr_lo (n : Int) : -2147483648 ≤ wr n := by unfold wr; omega
theorem wr_hi (n : Int) : wr n ≤ 2147483647 := by unfold wr; omega
theorem wr_wr (n : Int) : wr (wr n) = wr n := by unfold wr; omega
theorem wr_id (n : Int) (h1 : -2147483648 ≤ n) (h2 : n ≤ 2147483647) : wr n = n := by unfold wr; omega
theorem wr_hiCase (n : Int) (h : 2147483647 < n % 4294967296) : n % 4294967296 - 4294967296 = wr n := by unfold wr; omega
theorem wr_loCase (n : Int) (h : n % 4294967296 ≤ 2147483647) : n % 4294967296 = wr n := by unfold wr; omega
theorem wr_cong (a b : Int) (h : a % 4294967296 = b % 4294967296) : wr a = wr b := by unfold wr; omega


theorem or128 (y : Int) (h0 : 0 ≤ y) (h1 : y < 128) : bits .or .i64 y 128 = y + 128 := by
  have hc : bits .or .i64 y 128 = bits .or .i64 128 y := by simp only [bits, BitVec.or_comm]
  rw [hc, bits_join .i64 63 (by decide) (fun n a b => by rw [IntKind.wrap_i64]; omega) 7 128 y (by decide) (by decide) (by decide) h0 h1 (by omega)]
  omega

theorem low7_128 (n : Int) : bits .or .i64 (n % 128) 128 = n % 128 + 128 := or128 _ (by omega) (by omega)

theorem and127_u8 (x : Int) (h0 : 0 ≤ x) (h1 : x < 256) : bits .and .u8 x 127 = x % 128 := bits_mask .u8 8 (by decide) wraps_u8 7 (by decide) x h0 h1

theorem and255 (n : Int) : bits .and .i64 n 255 = n % 256 := by
  have hm : (BitVec.ofInt 64 255).toNat = 2 ^ 8 - 1 := by decide
  have key : (BitVec.ofInt 64 n &&& BitVec.ofInt 64 255).toNat = (n % ((2 ^ 64 : Nat) : Int)).toNat % 2 ^ 8 := by
    rw [BitVec.toNat_and, BitVec.toNat_ofInt, hm, Nat.and_two_pow_sub_one_eq_mod]
  show IntKind.i64.wrap ((BitVec.ofInt 64 n &&& BitVec.ofInt 64 255).toNat : Nat) = n % 256
  rw [key, IntKind.wrap_i64]
  omega

/-- A number in groups of seven bits, the lowest first, 128 added but for the last. -/
def uG : Nat → Int → List Int
  | 0, _ => []
  | f + 1, n => if 127 < n then (n % 128 + 128) :: uG f (n / 128) else [n]

def UG (n : Int) : List Int := uG 5 n

theorem UG_step (m : Int) (h0 : 127 < m) (h1 : m ≤ 2147483647) : UG m = (m % 128 + 128) :: UG (m / 128) := by
  unfold UG
  simp only [uG]
  rw [if_pos h0]
  congr 1
  repeat' split
  all_goals first | rfl | omega

theorem UG_last (m : Int) (h : m ≤ 127) : UG m = [m] := by
  unfold UG
  rw [uG, if_neg (by omega)]

theorem uG_length (f : Nat) (n : Int) : (uG f n).length ≤ f := by
  induction f generalizing n with
  | zero => simp [uG]
  | succ f ih =>
    unfold uG
    split
    · have := ih (n / 128); simp; omega
    · simp

theorem UG_length (n : Int) : (UG n).length ≤ 5 := uG_length 5 n

def clamp (n : Int) : Int := if n < 0 then 0 else if 2147483647 < n then 2147483647 else n

theorem clamp_lo (n : Int) : 0 ≤ clamp n := by unfold clamp; split <;> (try split) <;> omega
theorem clamp_hi (n : Int) : clamp n ≤ 2147483647 := by unfold clamp; split <;> (try split) <;> omega

theorem clamp_cases (n : Int) : (n < 0 ∧ 0 = clamp n) ∨ (0 ≤ n ∧ 2147483647 < n ∧ 2147483647 = clamp n) ∨ (0 ≤ n ∧ n ≤ 2147483647 ∧ n = clamp n) := by
  unfold clamp; split <;> (try split) <;> omega

/-- A number with its sign in groups of seven bits. -/
def sG : Nat → Int → List Int
  | 0, _ => []
  | f + 1, n => if n < -64 ∨ 63 < n then (n % 128 + 128) :: sG f (n / 128) else [n % 128]

def SG (n : Int) : List Int := sG 5 n

theorem SG_step (m : Int) (h0 : m < -64 ∨ 63 < m) (h1 : -2147483648 ≤ m) (h2 : m ≤ 2147483647) : SG m = (m % 128 + 128) :: SG (m / 128) := by
  unfold SG
  simp only [sG]
  rw [if_pos h0]
  congr 1
  repeat' split
  all_goals first | rfl | omega

theorem SG_last (m : Int) (h0 : -64 ≤ m) (h : m ≤ 63) : SG m = [m % 128] := by
  unfold SG
  rw [sG, if_neg (by omega)]

theorem sG_length (f : Nat) (n : Int) : (sG f n).length ≤ f := by
  induction f generalizing n with
  | zero => simp [sG]
  | succ f ih =>
    unfold sG
    split
    · have := ih (n / 128); simp; omega
    · simp

theorem SG_length (n : Int) : (SG n).length ≤ 5 := sG_length 5 n

end Go.Proofs.YtgigalcajgjpnaaGreat.Ma
