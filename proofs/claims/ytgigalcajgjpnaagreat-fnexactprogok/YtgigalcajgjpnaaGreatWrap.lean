/- What the two wrapping functions, the program's and the document's model, answer: the number modulo 2^32, from -2^31 on. -/
import Derived.Test.YtgigalcajgjpnaaGreatRows
import Derived.Test.YtgigalcajgjpnaaGreatMath
import Derived.WalkKit
import Derived.WalkLawsBesides
import Derived.ProofKit
import Derived.OpenShut
namespace Go.Proofs.YtgigalcajgjpnaaGreat
open Go.RowKit

theorem ret_int {k : IntKind} {a b : Int} (h : a = b) : Ending.returned (.int k a) = .returned (.int k b) := by rw [h]

theorem wrap64_wrap32 (n : Int) : wrap64 (wrap32 n) = Ma.wr n := by
  unfold wrap64 wrap32 Ma.wr
  omega

end Go.Proofs.YtgigalcajgjpnaaGreat
