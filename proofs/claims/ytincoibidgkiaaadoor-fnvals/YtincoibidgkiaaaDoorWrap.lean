/- What the two wrapping functions, the program's and the document's model, answer: the number modulo 2^32, from -2^31 on. -/
import Derived.Test.YtincoibidgkiaaaDoorRows
import Derived.Test.YtincoibidgkiaaaDoorMath
import Derived.WalkKit
import Derived.WalkLawsBesides
import Derived.ProofKit
import Derived.OpenShut
namespace Go.Proofs.YtincoibidgkiaaaDoor
open Go.RowKit

theorem ret_int {k : IntKind} {a b : Int} (h : a = b) : Ending.returned (.int k a) = .returned (.int k b) := by rw [h]

theorem wrap64_wrap32 (n : Int) : wrap64 (wrap32 n) = Ma.wr n := by
  unfold wrap64 wrap32 Ma.wr
  omega

theorem implWrap_any (n : Int) (w : World) :
    Calls Tryd.prog 59 #[.int .i64 n] w fun e w' => e = .returned (.int .i64 (Ma.wr n)) ∧ w' = w := by
  go_enter Tryd.func59, Tryd.ntmps59
  go_wp2
  go_ret
  exact ⟨ret_int (wrap64_wrap32 n), rfl⟩

theorem specWrap_any (n : Int) (w : World) :
    Calls Tryd.prog 32 #[.int .i64 n] w fun e w' => e = .returned (.int .i64 (Ma.wr n)) ∧ w' = w := by
  have hb := Ma.and_low32 n
  have h1 : 0 ≤ n % 4294967296 := by omega
  have h2 : n % 4294967296 < 4294967296 := by omega
  by_cases h : 2147483647 < n % 4294967296
  · have hx := Ma.wr_hiCase n h
    have HX : Hid (n % 4294967296 - 4294967296 = Ma.wr n) := hx
    clear hx
    go_enter Tryd.func32, Tryd.ntmps32
    go_wp2
    go_ret
    exact ⟨ret_int HX.out, rfl⟩
  · have hx := Ma.wr_loCase n (by omega)
    have HX : Hid (n % 4294967296 = Ma.wr n) := hx
    clear hx
    go_enter Tryd.func32, Tryd.ntmps32
    go_wp2
    go_ret
    exact ⟨ret_int HX.out, rfl⟩
end Go.Proofs.YtincoibidgkiaaaDoor
