/- The text of a mark: an m, and a number's digits. -/
import Derived.Test.YtijpmnenegdmnaaQRun1
import Derived.Test.YtijpmnenegdmnaaQStrOf
import Derived.Laws.AppendOwnNone
namespace Go.Proofs.Ytijpmnenegdmnaa
open Go.RowKit
set_option maxRecDepth 8000

/-- A number's digits ahead of o. -/
def mDig (n : Nat) (o : ByteArray) : ByteArray := if _h : n = 0 then o else mDig (n / 10) (strOf [48 + (n : Int) % 10] ++ o)
termination_by n
/-- What markText answers. -/
def mkS (n : Nat) : ByteArray := if n = 0 then ⟨#[109, 48]⟩ else ⟨#[109]⟩ ++ mDig n ⟨#[]⟩

end Go.Proofs.Ytijpmnenegdmnaa
