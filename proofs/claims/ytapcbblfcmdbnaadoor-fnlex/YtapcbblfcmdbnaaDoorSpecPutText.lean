/- PutText, spec: PutU of how many bytes the text has, and these. -/
import Derived.Test.YtapcbblfcmdbnaaDoorAppStr
import Derived.Test.YtapcbblfcmdbnaaDoorSpecPutU
namespace Go.Proofs.YtapcbblfcmdbnaaDoor
open Go.RowKit

end Go.Proofs.YtapcbblfcmdbnaaDoor
