/- The document's model of PutS: the bytes handed in, and behind them the wrapped number, with its sign, in groups of seven bits, in memory of its own. -/
import Derived.Test.YtapcbblfcmdbnaaDoorSpecPutU
namespace Go.Proofs.YtapcbblfcmdbnaaDoor
open Go.RowKit

theorem SG_byte (f : Nat) (m : Int) : byteList (Ma.sG f m) := by
  induction f generalizing m with
  | zero => intro z hz; simp [Ma.sG] at hz
  | succ f ih =>
    unfold Ma.sG
    split
    · intro z hz
      rcases List.mem_cons.1 hz with rfl | hz
      · omega
      · exact ih (m / 128) z hz
    · intro z hz
      simp at hz
      omega

theorem sg_round {pre : List Int} {m N : Int} (h : pre ++ Ma.SG m = Ma.SG N) (h0 : m < -64 ∨ 63 < m) (h1 : -2147483648 ≤ m) (h2 : m ≤ 2147483647) : (pre ++ [m % 128 + 128]) ++ Ma.SG (m / 128) = Ma.SG N := by
  rw [← h, Ma.SG_step m h0 h1 h2]; simp
theorem sg_pre {pre : List Int} {m N : Int} (h : pre ++ Ma.SG m = Ma.SG N) : pre.length ≤ 5 := by
  have := Ma.SG_length N
  rw [← h] at this
  simp at this
  omega

end Go.Proofs.YtapcbblfcmdbnaaDoor
