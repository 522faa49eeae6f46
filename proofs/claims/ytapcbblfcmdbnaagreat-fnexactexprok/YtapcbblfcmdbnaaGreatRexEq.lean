/- Whether two regular expressions are the same, by the laws' own function: two that read the same tree are. -/
import Derived.Test.YtapcbblfcmdbnaaGreatRexTo
import Derived.Lib.QuietBelow
namespace Go.Proofs.YtapcbblfcmdbnaaGreat
open Go.RowKit
end Go.Proofs.YtapcbblfcmdbnaaGreat
