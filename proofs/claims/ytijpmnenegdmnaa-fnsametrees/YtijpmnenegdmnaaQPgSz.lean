/- How great rules, functions and programs are: the laws' own functions. -/
import Derived.Test.YtijpmnenegdmnaaQPgTree
import Derived.Test.YtijpmnenegdmnaaQStTo
namespace Go.Proofs.Ytijpmnenegdmnaa
open Go.RowKit
set_option maxRecDepth 8000

/-- How great a list is whose parts are that great, each counted besides. -/
def gsz {α : Type} (g : α → Nat) : List α → Nat
  | [] => 0
  | t :: r => 1 + g t + gsz g r
theorem gsz_take {α : Type} (g : α → Nat) (l : List α) (k : Nat) (h : k < l.length) : gsz g (l.take (k + 1)) = gsz g (l.take k) + 1 + g l[k] := by
  induction l generalizing k with
  | nil => simp at h
  | cons t r ih =>
    cases k with
    | zero => simp [gsz]
    | succ k =>
      have := ih k (by simpa using h)
      simp only [List.take_succ_cons, gsz, List.getElem_cons_succ]
      omega
theorem gsz_length {α : Type} (g : α → Nat) (l : List α) : l.length ≤ gsz g l := by
  induction l with
  | nil => simp
  | cons t r ih => simp only [List.length_cons, gsz]; omega
def Ru.sz (r : Ru) : Nat := r.p.sz + szy r.a
def Fu.sz (f : Fu) : Nat := f.n.size + gsz ByteArray.size f.ps + szy f.a
def Pg.sz (p : Pg) : Nat := gsz Ru.sz p.r + gsz Fu.sz p.f

end Go.Proofs.Ytijpmnenegdmnaa
