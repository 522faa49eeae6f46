/- The words that are no names, the signs of two, names. -/
import Derived.Test.YtgigalcajgjpnaaGreatTokDef
namespace Go.Proofs.YtgigalcajgjpnaaGreat
open Go.RowKit

/-- The words that are no names. -/
def wordsL : List (List UInt8) := [[98, 101, 103, 105, 110], [101, 110, 100], [102, 117, 110, 99], [112, 114, 105, 110, 116], [105, 102], [101, 108, 115, 101], [119, 104, 105, 108, 101], [102, 111, 114], [105, 110], [110, 101, 120, 116], [101, 120, 105, 116], [114, 101, 116, 117, 114, 110], [100, 101, 108, 101, 116, 101], [108, 101, 110, 103, 116, 104], [115, 117, 98, 115, 116, 114], [105, 110, 100, 101, 120], [117, 112, 112, 101, 114], [103, 115, 117, 98], [110, 114], [110, 102]]
def wdB (s : ByteArray) : Bool := wordsL.contains s.toList
/-- The signs of two. -/
def opsL : List (List UInt8) := [[43], [45], [42], [47], [37], [46], [60], [60, 61], [61, 61], [33, 61], [62], [62, 61], [38, 38], [124, 124]]
def opB (s : ByteArray) : Bool := opsL.contains s.toList
def nmB (s : ByteArray) : Bool := nameB s && !wdB s
end Go.Proofs.YtgigalcajgjpnaaGreat
