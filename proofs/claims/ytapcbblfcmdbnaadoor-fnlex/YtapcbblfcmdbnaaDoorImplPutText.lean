/- PutText, impl: a copy of the bytes handed in, the number of the text's bytes in groups of seven bits, and these. -/
import Derived.Test.YtapcbblfcmdbnaaDoorAppStr
import Derived.Test.YtapcbblfcmdbnaaDoorImplPutU
namespace Go.Proofs.YtapcbblfcmdbnaaDoor
open Go.RowKit

end Go.Proofs.YtapcbblfcmdbnaaDoor
