/- Slices of numbers whose block stays as it was. -/
import Derived.Test.YtapniafhcagogaaIntLeaf
namespace Go.Proofs.Ytapniafhcagogaa
open Go.RowKit

/-- A slice that reads these numbers, its block (where there are any) below N. -/
def IzN (w : World) (N : Nat) (v : Value) (xs : List Int) : Prop := Iz w v xs ∧ (xs ≠ [] → ∀ b off len cap, v = .slice (some ⟨b, off, none⟩) len cap → b < N)
theorem IzN.of {w : World} {v : Value} {xs : List Int} (h : Iz w v xs) : IzN w w.heap.size v xs := by
  refine ⟨h, fun hn b off len cap e => ?_⟩
  obtain ⟨ao, cap', rfl, _, _, _, h5⟩ := h
  obtain ⟨b', off', rfl, h7⟩ := h5 hn
  simp only [Value.slice.injEq, Option.some.injEq, Addr.mk.injEq, and_true] at e
  obtain ⟨⟨rfl, rfl⟩, _⟩ := e
  exact World.block_lt_of_cell? w _ (h7 0 (List.length_pos_iff.2 hn))
theorem IzN.keep {w w' : World} {N : Nat} {v : Value} {xs : List Int} (h : IzN w N v xs) (hk : ∀ b, b < N → w'.heap[b]? = w.heap[b]?) : IzN w' N v xs := by
  obtain ⟨⟨ao, cap, h1, h2, h3, h4, h5⟩, h6⟩ := h
  refine ⟨⟨ao, cap, h1, h2, h3, h4, fun hn => ?_⟩, h6⟩
  obtain ⟨b, off, rfl, h7⟩ := h5 hn
  refine ⟨b, off, rfl, fun k hk' => ?_⟩
  rw [World.cell?_of_block (w := w) (hk b (h6 hn _ _ _ _ h1))]
  exact h7 k hk'
/-- Where it lies. -/
theorem OwnZ.lies {w : World} {base : Nat} {v : Value} {xs : List Int} (h : OwnZ w base v xs) : ∀ g, v.ownBlock = some g → base ≤ g ∧ g < w.heap.size := by
  intro g hg
  rcases h.2 with ⟨rfl, _⟩ | ⟨g', cap, cur, rfl, hb, hgb, _⟩
  · simp [Value.ownBlock] at hg
  · obtain rfl : g' = g := by simpa [Value.ownBlock] using hg
    exact ⟨hb, (Array.getElem?_eq_some_iff.1 hgb).1⟩
theorem OwnZ.keep {w w' : World} {base : Nat} {v : Value} {xs : List Int} (h : OwnZ w base v xs) (hk : ∀ g, base ≤ g → g < w.heap.size → w'.heap[g]? = w.heap[g]?) : OwnZ w' base v xs := by
  rcases h.2 with ⟨rfl, h0⟩ | ⟨g, cap, cur, rfl, hb, hg, rest⟩
  · exact ⟨h.1, .inl ⟨rfl, h0⟩⟩
  · exact ⟨h.1, .inr ⟨g, cap, cur, rfl, hb, (hk g hb (Array.getElem?_eq_some_iff.1 hg).1).trans hg, rest⟩⟩
/-- A box with one value. -/
def Bx1 (w : World) (b : Nat) (t : TypeId) (x : Value) : Prop := w.heap[b]? = some (.cells #[x] t (0, 0))
theorem Bx1.c0 {w : World} {b : Nat} {t : TypeId} {x : Value} (h : Bx1 w b t x) : w.cell? ⟨b, 0, none⟩ = some x := by rw [cell_of_row w b 0 _ _ (0, 0) h]; rfl
theorem Bx1.lt {w : World} {b : Nat} {t : TypeId} {x : Value} (h : Bx1 w b t x) : b < w.heap.size := by unfold Bx1 at h; exact (Array.getElem?_eq_some_iff.1 h).1
theorem Bx1.new (w : World) (t : TypeId) (x : Value) : Bx1 (w.alloc (.cells #[x] t)) w.heap.size t x := heap_alloc_new w _
theorem Bx1.kept {w w' : World} {b : Nat} {t : TypeId} {x : Value} (h : Bx1 w b t x) (hh : w'.heap[b]? = w.heap[b]?) : Bx1 w' b t x := by unfold Bx1; rw [hh]; exact h
theorem Bx1.grow {w w' : World} {b : Nat} {t : TypeId} {x : Value} (h : Bx1 w b t x) (hk : Below w.heap.size w w') : Bx1 w' b t x := h.kept (hk.block b h.lt)
end Go.Proofs.Ytapniafhcagogaa
