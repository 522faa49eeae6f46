/- The program's PutS: a copy of the bytes handed in, and behind them the wrapped number, with its sign, in groups of seven bits. -/
import Derived.Test.YtkdjkkldnidmjaaDoorImplPutU
import Derived.Test.YtkdjkkldnidmjaaDoorSpecPutS
namespace Go.Proofs.YtkdjkkldnidmjaaDoor
open Go.RowKit

end Go.Proofs.YtkdjkkldnidmjaaDoor
