/- Marks that are held. -/
import Derived.Test.YthifleacfhijnaaDoorMarkTree
namespace Go.Proofs.YthifleacfhijnaaDoor
open Go.RowKit
end Go.Proofs.YthifleacfhijnaaDoor
