/- The small functions of the laws over statements: how great one is, a copy of it, in new blocks. -/
import Derived.Test.YtijpmnenegdmnaaQStTree
import Derived.Test.YtijpmnenegdmnaaQRun1
namespace Go.Proofs.Ytijpmnenegdmnaa
open Go.RowKit
set_option maxRecDepth 8000

mutual
def St.sz : St → Nat
  | .node _ s t x a b => s.size + t.size + szx x + szy a + szy b
def szy : List St → Nat
  | [] => 0
  | t :: r => 1 + t.sz + szy r
end

theorem St.sz_eq (t : St) : t.sz = t.s.size + t.t.size + szx t.x + szy t.a + szy t.b := by cases t; rw [St.sz]; rfl
theorem szy_take (l : List St) (k : Nat) (h : k < l.length) : szy (l.take (k + 1)) = szy (l.take k) + 1 + l[k].sz := by
  induction l generalizing k with
  | nil => simp at h
  | cons t r ih =>
    cases k with
    | zero => simp [szy]
    | succ k =>
      have := ih k (by simpa using h)
      simp only [List.take_succ_cons, szy, List.getElem_cons_succ]
      omega
theorem szy_take_le (l : List St) (k : Nat) : szy (l.take k) ≤ szy l := by
  induction l generalizing k with
  | nil => simp
  | cons t r ih =>
    cases k with
    | zero => simp [szy]
    | succ k => have := ih k; simp only [List.take_succ_cons, szy]; omega
end Go.Proofs.Ytijpmnenegdmnaa

namespace Go.Proofs.Ytijpmnenegdmnaa
open Go.RowKit
set_option maxRecDepth 8000

theorem Sl.nfgrow {w w' : World} {n : Nat} {l : List St} {v : Value} (h : Sl w (nf w n) l v) (hk : Below w.heap.size w w') : Sl w' (nf w' n) l v :=
  (h.imp (C := nf w' n) fun b hb hlt => ⟨hb.1, fun o => by rw [hk.frozen (p := ⟨b, o, none⟩) hlt]; exact hb.2 o⟩).grow hk

/-- The first k of a row of statements are laid. -/
def FilY (wr : World) (g : Nat) (e : TypeId) (l : List St) (k : Nat) : Prop :=
  ∃ (xs : List Value) (X Y Z : Nat → Value), wr.ownsRow g e 6 (.slice (some ⟨g, 0, none⟩) l.length l.length) l.length xs ∧
    ∀ i (h : i < l.length), i < k → (xs[i * 6]? = some (.int .i64 l[i].k) ∧ xs[i * 6 + 1]? = some (.string l[i].s) ∧ xs[i * 6 + 2]? = some (.string l[i].t) ∧ xs[i * 6 + 3]? = some (X i) ∧ xs[i * 6 + 4]? = some (Y i) ∧ xs[i * 6 + 5]? = some (Z i)) ∧ El wr (nf wr (g + 1)) l[i].x (X i) ∧ Sl wr (nf wr (g + 1)) l[i].a (Y i) ∧ Sl wr (nf wr (g + 1)) l[i].b (Z i)

/-- Six cells stored. -/
abbrev set6 (w : World) (g o : Nat) (k : Int) (s t : ByteArray) (x y z : Value) : World :=
  (((((w.setCell ⟨g, o, none⟩ (.int .i64 k)).setCell ⟨g, o + 1, none⟩ (.string s)).setCell ⟨g, o + 2, none⟩ (.string t)).setCell ⟨g, o + 3, none⟩ x).setCell ⟨g, o + 4, none⟩ y).setCell ⟨g, o + 5, none⟩ z

end Go.Proofs.Ytijpmnenegdmnaa
