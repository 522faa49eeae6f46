/- FnExactSameProg walked: the program's own function is met by its contract. -/
import Derived.Test.YtgigalcajgjpnaaSamePI
import Derived.Test.YtgigalcajgjpnaaLawPgSame
import Derived.Test.YtgigalcajgjpnaaPgTrod
import Derived.Test.YtgigalcajgjpnaaStTrod
namespace Go.Proofs.Ytgigalcajgjpnaa
open Go.RowKit

theorem fnExactSameProg_walk (a b : Pg) (va0 va1 vb0 vb1 : Value) (w : World) (ha0 : Ul w anyBlock a.r va0) (ha1 : Fl w anyBlock a.f va1) (hb0 : Ul w anyBlock b.r vb0) (hb1 : Fl w anyBlock b.f vb1) :
    Calls Try.prog 4 #[pgV va0 va1, pgV vb0 vb1] w fun e w' => e = .returned (.bool true) ∧ Below w.heap.size w w' :=
  fnExactSameProg_of (fun a b x0 x1 y0 y1 w g0 g1 h0 h1 hza hzb => implSameProg_any a b x0 x1 y0 y1 w g0 g1 h0 h1 hza hzb) a b va0 va1 vb0 vb1 w ha0 ha1 hb0 hb1
end Go.Proofs.Ytgigalcajgjpnaa
