/- PutText, spec: PutU of how many bytes the text has, and these. -/
import Derived.Test.YtkdjkkldnidmjaaDoorAppStr
import Derived.Test.YtkdjkkldnidmjaaDoorSpecPutU
namespace Go.Proofs.YtkdjkkldnidmjaaDoor
open Go.RowKit

end Go.Proofs.YtkdjkkldnidmjaaDoor
