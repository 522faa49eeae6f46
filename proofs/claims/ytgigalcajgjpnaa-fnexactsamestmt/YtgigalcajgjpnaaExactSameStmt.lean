/- FnExactSameStmt walked: the program's own function is met by its contract. -/
import Derived.Test.YtgigalcajgjpnaaSameYI
import Derived.Test.YtgigalcajgjpnaaLawStSame
import Derived.Test.YtgigalcajgjpnaaStTrod
namespace Go.Proofs.Ytgigalcajgjpnaa
open Go.RowKit

theorem fnExactSameStmt_walk (a b : St) (va0 va1 va2 vb0 vb1 vb2 : Value) (w : World) (ha0 : El w anyBlock a.x va0) (ha1 : Sl w anyBlock a.a va1) (ha2 : Sl w anyBlock a.b va2) (hb0 : El w anyBlock b.x vb0) (hb1 : Sl w anyBlock b.a vb1) (hb2 : Sl w anyBlock b.b vb2)
    (hsa : a.s.size ≤ maxLen) (hua : a.t.size ≤ maxLen) (hsb : b.s.size ≤ maxLen) (hub : b.t.size ≤ maxLen) :
    Calls Try.prog 6 #[st a.k a.s a.t va0 va1 va2, st b.k b.s b.t vb0 vb1 vb2] w fun e w' => e = .returned (.bool true) ∧ Below w.heap.size w w' :=
  fnExactSameStmt_of (fun a b x0 x1 x2 y0 y1 y2 w g0 g1 g2 h0 h1 h2 i0 i1 i2 i3 _ hz => implSameStmt_any a b x0 x1 x2 y0 y1 y2 w g0 g1 g2 h0 h1 h2 i0 i1 i2 i3 hz) a b va0 va1 va2 vb0 vb1 vb2 w ha0 ha1 ha2 hb0 hb1 hb2 hsa hua hsb hub
end Go.Proofs.Ytgigalcajgjpnaa
