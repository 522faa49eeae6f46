/- The program's PutU: a copy of the bytes handed in, and behind them the number in groups of seven bits. -/
import Derived.Test.YtapcbblfcmdbnaaDoorSpecPutU
namespace Go.Proofs.YtapcbblfcmdbnaaDoor
open Go.RowKit

/-- A number in a new block. -/
theorem cell_num (w : World) (n : Int) : (w.alloc (.cells #[.int .i64 n] 3)).cell? ⟨w.heap.size, 0, none⟩ = some (.int .i64 n) := by simp

end Go.Proofs.YtapcbblfcmdbnaaDoor
