/- The walk of a region that only reads, step by step, behind a structure: in a great frame Lean would else lay the whole rest of the region open at each step. -/
import Derived.Lib.QuietBelow
namespace Go.Proofs.Ytijpmnenegdmnaa
open Go.RowKit
variable {P : Program} {ops : Array Oper} {C : World → Prop} {Q : Act → Prop}

structure Qt (P : Program) (ops : Array Oper) (C : World → Prop) (Q : Act → Prop) (l : List Oper) (a : Act) : Prop where
  out : wpQuiet P ops C Q l a

theorem Qt.step {a : Act} {o : Oper} {rest : List Oper}
    (h : ∀ K : Act → Prop, (∀ a, Qt P ops C Q rest a → K a) → if Region.wanted o (yielded ops a.tmps) then o.quiet P a C K else K (a.put o.dst undef)) : Qt P ops C Q (o :: rest) a :=
  ⟨wpQuiet_step fun K hK => h K fun a ha => hK a ha.out⟩
theorem Qt.nil {a : Act} (h : Q a) : Qt P ops C Q [] a := ⟨wpQuiet_nil h⟩
end Go.Proofs.Ytijpmnenegdmnaa
