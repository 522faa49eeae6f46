/- The program's PutS: a copy of the bytes handed in, and behind them the wrapped number, with its sign, in groups of seven bits. -/
import Derived.Test.YtapcbblfcmdbnaaDoorImplPutU
import Derived.Test.YtapcbblfcmdbnaaDoorSpecPutS
namespace Go.Proofs.YtapcbblfcmdbnaaDoor
open Go.RowKit

end Go.Proofs.YtapcbblfcmdbnaaDoor
