/- The cursor of a draw: a struct of the drawn bytes, a place in them and a number that is mixed on. Whatever it draws is a byte; nothing else turns. -/
import Derived.Test.YtgigalcajgjpnaaGreatLeaf
import Derived.WalkSmall
namespace Go.Proofs.YtgigalcajgjpnaaGreat
open Go.RowKit

theorem grownBy_trans {a b c : World} {row : Option Nat} (h : a.grownBy b row) (k : b.grownBy c row) : a.grownBy c row :=
  ⟨k.os.trans h.os, k.tape.trans h.tape, k.output.trans h.output, Nat.le_trans h.size k.size, fun j hj hne => (k.block j (Nat.lt_of_lt_of_le hj h.size) hne).trans (h.block j hj hne)⟩

theorem grownBy_drewN {a b : World} {row : Option Nat} (h : a.grownBy b row) (n : Nat) : a.grownBy (b.drewN n) row := ⟨h.os, h.tape, h.output, h.size, h.block⟩

theorem grownBy_setCell (w : World) (cb j : Nat) (u : Value) : w.grownBy (w.setCell ⟨cb, j, none⟩ u) (some cb) :=
  ⟨rfl, rfl, rfl, by simp [World.setCell], fun k _ hk => Below.heap_setCell w _ u k (fun e => hk (by rw [e]))⟩

theorem Bs.other' {w w' : World} {v : Value} {zs : List Int} {row : Option Nat} (h : Bs w v zs) (hg : w.grownBy w' row) (hne : zs ≠ [] → ∀ k, v.ownBlock = some k → some k ≠ row) : Bs w' v zs := by
  by_cases hz : zs = []
  · obtain ⟨hb, ao, cap, rfl, hl, hm, hn, hc⟩ := h
    exact ⟨hb, ao, cap, rfl, hl, hm, hn, fun h => absurd hz h⟩
  · exact h.other hg (hne hz)

/-- A list of numbers in a block of its own. -/
def Nums (w : World) (lb : Nat) (xs : List Int) : Prop := w.heap[lb]? = some (.cells (xs.map (Value.int .i64)).toArray 3 (0, 0))

end Go.Proofs.YtgigalcajgjpnaaGreat
