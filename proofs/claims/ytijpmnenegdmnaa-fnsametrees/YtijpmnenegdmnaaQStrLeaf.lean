/- Slices of texts: read, owned, the same, appended, copied, marked, held. -/
import Derived.Test.YtijpmnenegdmnaaQMarkT
import Derived.Test.YtijpmnenegdmnaaQQuietS
import Derived.Laws.AppendOwnNone
namespace Go.Proofs.Ytijpmnenegdmnaa
open Go.RowKit
set_option maxRecDepth 8000

/-- A slice that reads these texts. -/
def Tz (w : World) (v : Value) (xs : List ByteArray) : Prop := ∃ ao cap, v = .slice ao xs.length cap ∧ xs.length ≤ cap ∧ cap ≤ maxLen ∧ (ao = none → cap = 0) ∧ (xs ≠ [] → ∃ b off, ao = some ⟨b, off, none⟩ ∧ ∀ k, k < xs.length → w.cell? ⟨b, off + k, none⟩ = some (.string (xs.getD k ⟨#[]⟩)))
/-- A slice of the call's own with these texts. -/
def OwnT (w : World) (base : Nat) (v : Value) (xs : List ByteArray) : Prop := w.ownsRow base 9 1 v xs.length (xs.map (Value.string))

end Go.Proofs.Ytijpmnenegdmnaa
