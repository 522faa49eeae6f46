/- The document's model of PutU: the bytes handed in, and behind them the number in groups of seven bits, in memory of its own. -/
import Derived.Test.YtapcbblfcmdbnaaDoorApp
namespace Go.Proofs.YtapcbblfcmdbnaaDoor
open Go.RowKit

theorem UG_byte (f : Nat) (m : Int) (h0 : 0 ≤ m) : byteList (Ma.uG f m) := by
  induction f generalizing m with
  | zero => intro z hz; simp [Ma.uG] at hz
  | succ f ih =>
    unfold Ma.uG
    split
    · intro z hz
      rcases List.mem_cons.1 hz with rfl | hz
      · omega
      · exact ih (m / 128) (by omega) z hz
    · intro z hz
      simp at hz
      omega

/-- What a round of the loop comes to, and the last byte. -/
theorem ug_round {pre : List Int} {m N : Int} (h : pre ++ Ma.UG m = Ma.UG N) (h0 : 127 < m) (h1 : m ≤ 2147483647) : (pre ++ [m % 128 + 128]) ++ Ma.UG (m / 128) = Ma.UG N := by
  rw [← h, Ma.UG_step m h0 h1]; simp
theorem ug_pre {pre : List Int} {m N : Int} (h : pre ++ Ma.UG m = Ma.UG N) : pre.length ≤ 5 := by
  have := Ma.UG_length N
  rw [← h] at this
  simp at this
  omega

end Go.Proofs.YtapcbblfcmdbnaaDoor
