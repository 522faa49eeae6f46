/- PutText, impl: a copy of the bytes handed in, the number of the text's bytes in groups of seven bits, and these. -/
import Derived.Test.YtkdjkkldnidmjaaDoorAppStr
import Derived.Test.YtkdjkkldnidmjaaDoorImplPutU
namespace Go.Proofs.YtkdjkkldnidmjaaDoor
open Go.RowKit

end Go.Proofs.YtkdjkkldnidmjaaDoor
