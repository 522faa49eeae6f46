/- Whether two regular expressions are the same, by the laws' own function: two that read the same tree are. -/
import Derived.Test.YtgigalcajgjpnaaGreatRexTo
import Derived.Lib.QuietBelow
namespace Go.Proofs.YtgigalcajgjpnaaGreat
open Go.RowKit
end Go.Proofs.YtgigalcajgjpnaaGreat
