/- The cursor of a draw: one of some texts, and whether something comes once in so often. -/
import Derived.Test.YtgigalcajgjpnaaGreatCur
namespace Go.Proofs.YtgigalcajgjpnaaGreat
open Go.RowKit
set_option maxRecDepth 8000

/-- Blocks other than the cursor's stay. -/
theorem gcell {W w1 : World} {cb : Nat} (hg : W.grownBy w1 (some cb)) (b : Nat) (hb : b < W.heap.size) (hne : b ≠ cb) :
    (∀ o, w1.cell? ⟨b, o, none⟩ = W.cell? ⟨b, o, none⟩) ∧ (∀ o, w1.frozen? ⟨b, o, none⟩ = W.frozen? ⟨b, o, none⟩) :=
  ⟨fun o => World.cell?_of_block (a := ⟨b, o, none⟩) (hg.block b hb (fun e => hne (Option.some.inj e))), fun o => World.frozen?_of_block (a := ⟨b, o, none⟩) (hg.block b hb (fun e => hne (Option.some.inj e)))⟩

/-- A list of texts in a block of its own. -/
def Strs (w : World) (lb : Nat) (xs : List ByteArray) : Prop := w.heap[lb]? = some (.cells (xs.map Value.string).toArray 9 (0, 0))

end Go.Proofs.YtgigalcajgjpnaaGreat
