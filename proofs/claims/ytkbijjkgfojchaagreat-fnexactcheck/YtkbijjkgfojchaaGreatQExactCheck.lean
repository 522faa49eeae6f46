/- FnExactCheck walked: the program's own function is met by its contract. .. -/
import Derived.Test.YtkbijjkgfojchaaGreatQRun53
import Derived.Test.YtkbijjkgfojchaaGreatQPgTrod
namespace Go.Proofs.YtkbijjkgfojchaaGreat
open Go.RowKit
theorem fnExactCheck_walk (t:Pg) (vx va:Value) (w:World) (hx:Ul w anyBlock t.r vx) (ha:Fl w anyBlock t.f va) :
  Calls Tryz.prog 6 #[pgV vx va] w fun e w'=>e=.returned (.bool true)/\Below w.heap.size w w' :=
 fnExactCheck_of (fun t ux ua w h1 h2 hs hz=>implCheck_any t ux ua w h1 h2 hs hz) t vx va w hx ha
end Go.Proofs.YtkbijjkgfojchaaGreat
