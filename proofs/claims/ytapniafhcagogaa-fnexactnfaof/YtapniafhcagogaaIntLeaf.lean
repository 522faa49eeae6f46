/- Slices of numbers: the same, marked, held. -/
import Derived.Test.YtapniafhcagogaaLeaf
namespace Go.Proofs.Ytapniafhcagogaa
open Go.RowKit

/-- A slice that reads these numbers. -/
def Iz (w : World) (v : Value) (xs : List Int) : Prop := ∃ ao cap, v = .slice ao xs.length cap ∧ xs.length ≤ cap ∧ cap ≤ maxLen ∧ (ao = none → cap = 0) ∧ (xs ≠ [] → ∃ b off, ao = some ⟨b, off, none⟩ ∧ ∀ k, k < xs.length → w.cell? ⟨b, off + k, none⟩ = some (.int .i64 (xs.getD k 0)))
/-- A slice of the call's own with these numbers. -/
def OwnZ (w : World) (base : Nat) (v : Value) (xs : List Int) : Prop := w.ownsRow base 3 1 v xs.length (xs.map (Value.int .i64))

theorem Iz.grow {w w' : World} {v : Value} {xs : List Int} (h : Iz w v xs) (hb : Below w.heap.size w w') : Iz w' v xs := by
  obtain ⟨ao, cap, h1, h2, h3, h4, h5⟩ := h
  refine ⟨ao, cap, h1, h2, h3, h4, fun hn => ?_⟩
  obtain ⟨b, off, h6, h7⟩ := h5 hn
  have h0 : 0 < xs.length := List.length_pos_iff.2 hn
  have hbl : b < w.heap.size := World.block_lt_of_cell? w _ (h7 0 h0)
  exact ⟨b, off, h6, fun k hk => by rw [hb.cell (p := ⟨b, off + k, none⟩) hbl]; exact h7 k hk⟩
theorem OwnZ.iz {w : World} {base : Nat} {v : Value} {xs : List Int} (h : OwnZ w base v xs) : Iz w v xs := by
  rcases h.2 with ⟨h1, h2⟩ | ⟨g, cap, cur, rfl, hb, hg, hn, hm, hs, ht⟩
  · obtain rfl : xs = [] := List.length_eq_zero_iff.1 h2
    exact ⟨none, 0, h1, Nat.le_refl _, by simp, fun _ => rfl, fun h => absurd rfl h⟩
  · refine ⟨some ⟨g, 0, none⟩, cap, rfl, hn, hm, (fun h => by cases h), fun _ => ⟨g, 0, rfl, fun k hk => ?_⟩⟩
    have := h.cellAt k (by omega)
    rw [Nat.zero_add, this]
    simp [hk]
theorem OwnZ.mono {w : World} {base base' : Nat} {v : Value} {xs : List Int} (h : OwnZ w base v xs) (hle : base' ≤ base) : OwnZ w base' v xs := by
  refine ⟨h.1, ?_⟩
  rcases h.2 with h' | ⟨g, cap, cur, e, hb, rest⟩
  · exact Or.inl h'
  · exact Or.inr ⟨g, cap, cur, e, Nat.le_trans hle hb, rest⟩
theorem OwnZ.grow {w w' : World} {base : Nat} {v : Value} {xs : List Int} (h : OwnZ w base v xs) (hb : Below w.heap.size w w') : OwnZ w' base v xs :=
  World.ownsRow.kept (row := none) h ⟨hb.os, hb.tape, hb.output, hb.size, fun k hk _ => hb.block k hk⟩ (by
    rcases h.2 with ⟨rfl, _⟩ | ⟨g, cap, cur, rfl, _⟩
    · exact .inl rfl
    · exact .inr (by simp [Value.ownBlock]))

/-- The marks that 'markIntS' lays. -/
def marksI (k : Int) (n : Nat) : List Int := (List.range n).map fun (i : Nat) => k + (i : Int)
theorem marksI_length (k : Int) (n : Nat) : (marksI k n).length = n := by simp [marksI]
theorem marksI_getD (k : Int) (n i : Nat) (h : i < n) : (marksI k n).getD i 0 = k + i := by simp [marksI, List.getD, h]
theorem markI_step (p : Int) (xs : List Int) (k : Nat) (hk : k < xs.length) :
    (marksI p k ++ xs.drop k).set k (p + (k : Int)) = marksI p (k + 1) ++ xs.drop (k + 1) := by
  apply List.ext_getElem?
  intro i
  by_cases h : i = k
  · subst h
    rw [List.getElem?_set_self (by simp [marksI]; omega), List.getElem?_append_left (by simp [marksI])]
    simp [marksI]
  · rw [List.getElem?_set_ne (by omega)]
    by_cases h2 : i < k
    · rw [List.getElem?_append_left (by simp [marksI]; omega), List.getElem?_append_left (by simp [marksI]; omega)]
      simp [marksI, h2, show i < k + 1 by omega]
    · rw [List.getElem?_append_right (by simp [marksI]; omega), List.getElem?_append_right (by simp [marksI]; omega)]
      simp only [marksI_length, List.getElem?_drop]
      congr 1
      omega
theorem map_set_int (xs : List Int) (k : Nat) (z : Int) : (xs.map (Value.int .i64)).set k (.int .i64 z) = (xs.set k z).map (Value.int .i64) := by
  rw [List.map_set]

end Go.Proofs.Ytapniafhcagogaa
