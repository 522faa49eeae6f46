/- Old blocks stay as they lie, where a new one alone turns. -/
import Derived.Test.YtijpmnenegdmnaaQRun1
namespace Go.Proofs.Ytijpmnenegdmnaa
open Go.RowKit
theorem low_of {a b c : World} {cb : Nat} (hb : Below a.heap.size a b) (hg : b.grownBy c (some cb)) (hc : a.heap.size ≤ cb) : Below a.heap.size a c :=
  hb.trans ⟨hg.os, hg.tape, hg.output, hg.size, fun k hk => hg.block k (Nat.lt_of_lt_of_le hk hb.size) (fun e => by have := Option.some.inj e; omega)⟩
end Go.Proofs.Ytijpmnenegdmnaa
