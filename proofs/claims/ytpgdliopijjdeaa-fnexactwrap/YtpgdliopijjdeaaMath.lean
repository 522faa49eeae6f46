/- Plain facts on numbers: wrapping to 32 bits, masks, groups of seven bits. Nothing of the program. -/
import Derived.Laws.BitsLemmas
import Derived.Laws.Bits128
namespace Go.Proofs.Ytpgdliopijjdeaa.Ma

theorem and_low32 (n : Int) : bits .and .i64 n 4294967295 = n % 4294967296 := by
  have hm : (BitVec.ofInt 64 4294967295).toNat = 2 ^ 32 - 1 := by decide
  have key : (BitVec.ofInt 64 n &&& BitVec.ofInt 64 4294967295).toNat = (n % ((2 ^ 64 : Nat) : Int)).toNat % 2 ^ 32 := by
    rw [BitVec.toNat_and, BitVec.toNat_ofInt, hm, Nat.and_two_pow_sub_one_eq_mod]
  show IntKind.i64.wrap ((BitVec.ofInt 64 n &&& BitVec.ofInt 64 4294967295).toNat : Nat) = n % 4294967296
  rw [key, IntKind.wrap_i64]
  omega

/-- The number modulo 2^32, from -2^31 on. -/
def wr (n : Int) : Int := (n + 2147483648) % 4294967296 - 2147483648

theorem wr_lo (n : Int) : -2147483648 ≤ wr n := by unfold wr; omega
theorem wr_hi (n : Int) : wr n ≤ 2147483647 := by unfold wr; omega
theorem wr_wr (n : Int) : wr (wr n) = wr n := by unfold wr; omega
theorem wr_id (n : Int) (h1 : -2147483648 ≤ n) (h2 : n ≤ 2147483647) : wr n = n := by unfold wr; omega
theorem wr_hiCase (n : Int) (h : 2147483647 < n % 4294967296) : n % 4294967296 - 4294967296 = wr n := by unfold wr; omega
theorem wr_loCase (n : Int) (h : n % 4294967296 ≤ 2147483647) : n % 4294967296 = wr n := by unfold wr; omega
theorem wr_cong (a b : Int) (h : a % 4294967296 = b % 4294967296) : wr a = wr b := by unfold wr; omega

end Go.Proofs.Ytpgdliopijjdeaa.Ma
