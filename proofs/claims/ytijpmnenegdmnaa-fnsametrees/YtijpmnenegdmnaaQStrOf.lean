/- Bytes as a string; what the built-in conversion of bytes to a string comes to. -/
import Derived.Test.YtijpmnenegdmnaaQRun1
import Derived.Laws.IdiomStrings
namespace Go.Proofs.Ytijpmnenegdmnaa
open Go.RowKit

/-- Bytes as a string. -/
def strOf (l : List Int) : ByteArray := ⟨(l.map fun z => UInt8.ofNat z.toNat).toArray⟩

end Go.Proofs.Ytijpmnenegdmnaa
