/- Draws of chapter 4: a text; an expression, a text and a place. -/
import Derived.Test.YteomhjoodnjfbaaDoorRexAny
import Derived.Test.YteomhjoodnjfbaaDoorTake
import Derived.Test.YteomhjoodnjfbaaDoorDrawTxt
namespace Go.Proofs.YteomhjoodnjfbaaDoor
open Go.RowKit
set_option maxRecDepth 8000

/-- Whatever lay there, but the cursor and one block, lies as it lay. -/
def Kc (W : World) (cb b2 : Nat) (w' : World) : Prop := w'.os = W.os ∧ w'.tape = W.tape ∧ w'.output = W.output ∧ W.heap.size ≤ w'.heap.size ∧ ∀ b, b < W.heap.size → b ≠ cb → b ≠ b2 → w'.heap[b]? = W.heap[b]?
theorem Kc.refl (W : World) (cb b2 : Nat) : Kc W cb b2 W := ⟨rfl, rfl, rfl, Nat.le_refl _, fun _ _ _ _ => rfl⟩
theorem Kc.grown {W X Y : World} {cb b2 : Nat} (h : Kc W cb b2 X) (hg : X.grownBy Y (some cb)) : Kc W cb b2 Y := ⟨hg.os.trans h.1, hg.tape.trans h.2.1, hg.output.trans h.2.2.1, Nat.le_trans h.2.2.2.1 hg.size, fun b h1 h2 h3 => (hg.block b (Nat.lt_of_lt_of_le h1 h.2.2.2.1) (fun e => h2 (Option.some.inj e))).trans (h.2.2.2.2 b h1 h2 h3)⟩
theorem Kc.alloc {W X : World} {cb b2 : Nat} (h : Kc W cb b2 X) (o : Obj) : Kc W cb b2 (X.alloc o) := h.grown (gy_alloc X cb o)
theorem Kc.below {W X : World} {cb b2 n : Nat} (h : Kc W cb b2 X) (h1 : n ≤ cb) (h2 : n ≤ b2) (hn : n ≤ W.heap.size) : Below n W X := ⟨h.1, h.2.1, h.2.2.1, h.2.2.2.1, fun b hb => h.2.2.2.2 b (by omega) (by omega) (by omega)⟩

end Go.Proofs.YteomhjoodnjfbaaDoor
