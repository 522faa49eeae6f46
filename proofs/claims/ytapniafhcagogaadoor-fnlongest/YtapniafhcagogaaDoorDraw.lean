/- What the draws of chapter 1 hand over: some number; some bytes, in memory of their own. Which ones, no law asks. -/
import Derived.Test.YtapniafhcagogaaDoorCur
import Derived.Test.YtapniafhcagogaaDoorApp
namespace Go.Proofs.YtapniafhcagogaaDoor
open Go.RowKit

theorem grownBy_below {a b c : World} {row : Option Nat} {B : Nat} (hg : a.grownBy b row) (hb : Below B b c) (hB : a.heap.size ≤ B) : a.grownBy c row :=
  ⟨hb.os.trans hg.os, hb.tape.trans hg.tape, hb.output.trans hg.output, Nat.le_trans hg.size hb.size, fun k hk hne => (hb.block k (Nat.lt_of_lt_of_le hk hB)).trans (hg.block k hk hne)⟩

theorem Cur.below {w w' : World} {cb B : Nat} {v : Value} {zs : List Int} (h : Cur w cb v zs) (hk : Below B w w') (hcb : cb < B) (hv : zs ≠ [] → ∀ k, v.ownBlock = some k → k < B) : Cur w' cb v zs := by
  obtain ⟨hbs, hlen, hne, i, q, h0, h1, hc⟩ := h
  refine ⟨?_, hlen, hne, i, q, h0, h1, by rw [hk.block cb hcb]; exact hc⟩
  by_cases hz : zs = []
  · obtain ⟨hb, ao, cap, rfl, hl, hm, hn, hc⟩ := hbs
    exact ⟨hb, ao, cap, rfl, hl, hm, hn, fun h => absurd hz h⟩
  · exact hbs.below hk (hv hz)

end Go.Proofs.YtapniafhcagogaaDoor
