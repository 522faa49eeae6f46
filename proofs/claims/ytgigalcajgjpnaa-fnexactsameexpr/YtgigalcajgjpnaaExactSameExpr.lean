/- FnExactSameExpr walked: the program's own function is met by its contract. -/
import Derived.Test.YtgigalcajgjpnaaSameXI
import Derived.Test.YtgigalcajgjpnaaLawExSame
import Derived.Test.YtgigalcajgjpnaaExTrod
namespace Go.Proofs.Ytgigalcajgjpnaa
open Go.RowKit

theorem fnExactSameExpr_walk (a b : Ex) (va0 vb0 : Value) (w : World) (ha0 : El w anyBlock a.l va0) (hb0 : El w anyBlock b.l vb0) (hsa : a.s.size ≤ maxLen) (hsb : b.s.size ≤ maxLen) :
    Calls Try.prog 5 #[xx a.k a.n a.s va0, xx b.k b.n b.s vb0] w fun e w' => e = .returned (.bool true) ∧ Below w.heap.size w w' :=
  fnExactSameExpr_of (fun a b x y w hx hy hsa hsb _ hz => implSameExpr_any a b x y w hx hy hsa hsb hz) a b va0 vb0 w ha0 hb0 hsa hsb
end Go.Proofs.Ytgigalcajgjpnaa
