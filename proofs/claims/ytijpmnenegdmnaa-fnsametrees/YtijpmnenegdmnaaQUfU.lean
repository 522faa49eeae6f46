/- What is read out of blocks of which no cell is frozen, in later worlds. -/
import Derived.Test.YtijpmnenegdmnaaQPgTree
import Derived.Test.YtijpmnenegdmnaaQRun1
namespace Go.Proofs.Ytijpmnenegdmnaa
open Go.RowKit
set_option maxRecDepth 8000

/-- No cell of the block is frozen. -/
def uf (w : World) (b : Nat) : Prop := ∀ o, w.frozen? ⟨b, o, none⟩ = false
theorem uf.grow {w w' : World} (hk : Below w.heap.size w w') {b : Nat} (hb : uf w b) (hlt : b < w.heap.size) : uf w' b := fun o => by rw [hk.frozen (p := ⟨b, o, none⟩) hlt]; exact hb o
theorem El.growU {w w' : World} {l : List Ex} {v : Value} (h : El w (uf w) l v) (hk : Below w.heap.size w w') : El w' (uf w') l v := (h.imp fun _ hb hlt => uf.grow hk hb hlt).grow hk
theorem Sl.growU {w w' : World} {l : List St} {v : Value} (h : Sl w (uf w) l v) (hk : Below w.heap.size w w') : Sl w' (uf w') l v := (h.imp fun _ hb hlt => uf.grow hk hb hlt).grow hk
theorem Ul.growU {w w' : World} {l : List Ru} {v : Value} (h : Ul w (uf w) l v) (hk : Below w.heap.size w w') : Ul w' (uf w') l v := (h.imp fun _ hb hlt => uf.grow hk hb hlt).grow hk
theorem Fl.growU {w w' : World} {l : List Fu} {v : Value} (h : Fl w (uf w) l v) (hk : Below w.heap.size w w') : Fl w' (uf w') l v := (h.imp fun _ hb hlt => uf.grow hk hb hlt).grow hk
theorem El.ufOf {w : World} {n : Nat} {l : List Ex} {v : Value} (h : El w (nf w n) l v) : El w (uf w) l v := h.imp fun _ hb _ => hb.2
theorem Ul.ufOf {w : World} {n : Nat} {l : List Ru} {v : Value} (h : Ul w (nf w n) l v) : Ul w (uf w) l v := h.imp fun _ hb _ => hb.2
theorem Fl.ufOf {w : World} {n : Nat} {l : List Fu} {v : Value} (h : Fl w (nf w n) l v) : Fl w (uf w) l v := h.imp fun _ hb _ => hb.2
end Go.Proofs.Ytijpmnenegdmnaa
