/- Nodes copied; nodes that are the same. -/
import Derived.Test.YtapniafhcagogaaGreatDoorNodeLeaf
namespace Go.Proofs.YtapniafhcagogaaGreatDoor
open Go.RowKit
set_option maxRecDepth 8000

def nd0 : Nd := ⟨0, ⟨#[]⟩, 0, 0⟩
/-- The cells of nodes. -/
def ndCells : List Nd → List Value
  | [] => []
  | x :: r => .int .i64 x.k :: .string x.s :: .int .i64 x.a :: .int .i64 x.b :: ndCells r

theorem ndCells_len (L : List Nd) : (ndCells L).length = L.length * 4 := by
  induction L with
  | nil => rfl
  | cons x r ih => simp only [ndCells, List.length_cons, ih]; omega
theorem ndCells_get : ∀ (L : List Nd) (i : Nat) (h : i < L.length), (ndCells L)[i * 4]? = some (.int .i64 L[i].k) ∧ (ndCells L)[i * 4 + 1]? = some (.string L[i].s) ∧ (ndCells L)[i * 4 + 2]? = some (.int .i64 L[i].a) ∧ (ndCells L)[i * 4 + 3]? = some (.int .i64 L[i].b)
  | x :: r, 0, _ => ⟨rfl, rfl, rfl, rfl⟩
  | x :: r, i + 1, h => by
    obtain ⟨h0, h1, h2, h3⟩ := ndCells_get r i (by simpa using h)
    rw [show (i + 1) * 4 = i * 4 + 4 by omega]
    exact ⟨by simpa [ndCells] using h0, by simpa [ndCells] using h1, by simpa [ndCells] using h2, by simpa [ndCells] using h3⟩
theorem ndCells_set : ∀ (L : List Nd) (i : Nat) (x : Nd), i < L.length → ((((ndCells L).set (i * 4) (.int .i64 x.k)).set (i * 4 + 1) (.string x.s)).set (i * 4 + 2) (.int .i64 x.a)).set (i * 4 + 3) (.int .i64 x.b) = ndCells (L.set i x)
  | y :: r, 0, x, _ => rfl
  | y :: r, i + 1, x, h => by
    have ih := ndCells_set r i x (by simpa using h)
    rw [show (i + 1) * 4 = i * 4 + 4 by omega]
    simp only [ndCells, List.set_cons_succ, show i * 4 + 4 + 1 = i * 4 + 1 + 4 by omega, show i * 4 + 4 + 2 = i * 4 + 2 + 4 by omega, show i * 4 + 4 + 3 = i * 4 + 3 + 4 by omega]
    rw [ih]

/-- The block g holds these nodes. -/
def NB (w : World) (g : Nat) (L : List Nd) : Prop := w.heap[g]? = some (.cells (ndCells L).toArray 43 (0, 0))
theorem NB.lt {w : World} {g : Nat} {L : List Nd} (h : NB w g L) : g < w.heap.size := (Array.getElem?_eq_some_iff.1 h).1
theorem NB.kept {w w' : World} {g : Nat} {L : List Nd} (h : NB w g L) (hh : w'.heap[g]? = w.heap[g]?) : NB w' g L := by unfold NB; rw [hh]; exact h
theorem NB.grow {w w' : World} {g : Nat} {L : List Nd} (h : NB w g L) (hb : Below w.heap.size w w') : NB w' g L := h.kept (hb.block g h.lt)
theorem NB.at4 {w : World} {g : Nat} {L : List Nd} (h : NB w g L) {i : Nat} (hi : i < L.length) : At4 w g (i * 4) L[i] := by
  obtain ⟨h0, h1, h2, h3⟩ := ndCells_get L i hi
  refine ⟨?_, ?_, ?_, ?_⟩ <;> rw [cell_of_row w g _ _ _ (0, 0) h, List.getElem?_toArray]
  · exact h0
  · exact h1
  · exact h2
  · exact h3
theorem NB.fr {w : World} {g : Nat} {L : List Nd} (h : NB w g L) (o : Nat) : w.frozen? ⟨g, o, none⟩ = false := frozen_of_row w g o _ _ h
/-- A node stored. -/
abbrev stN (w : World) (g i : Nat) (x : Nd) : World := (((w.setCell ⟨g, i * 4, none⟩ (.int .i64 x.k)).setCell ⟨g, i * 4 + 1, none⟩ (.string x.s)).setCell ⟨g, i * 4 + 2, none⟩ (.int .i64 x.a)).setCell ⟨g, i * 4 + 3, none⟩ (.int .i64 x.b)
theorem NB.set {w : World} {g : Nat} {L : List Nd} (h : NB w g L) {i : Nat} (hi : i < L.length) (x : Nd) : NB (stN w g i x) g (L.set i x) := by
  unfold NB stN
  have h1 := heap_setCell_same w g (i * 4) _ _ (.int .i64 x.k) h
  have h2 := heap_setCell_same _ g (i * 4 + 1) _ _ (.string x.s) h1
  have h3 := heap_setCell_same _ g (i * 4 + 2) _ _ (.int .i64 x.a) h2
  have h4 := heap_setCell_same _ g (i * 4 + 3) _ _ (.int .i64 x.b) h3
  rw [h4, ← ndCells_set L i x hi]
  simp only [List.setIfInBounds_toArray]
theorem stN_other (w : World) (g i b : Nat) (x : Nd) (h : b ≠ g) : (stN w g i x).heap[b]? = w.heap[b]? := by
  unfold stN
  rw [heap_setCell_other _ ⟨g, i * 4 + 3, none⟩ b _ h, heap_setCell_other _ ⟨g, i * 4 + 2, none⟩ b _ h, heap_setCell_other _ ⟨g, i * 4 + 1, none⟩ b _ h, heap_setCell_other _ ⟨g, i * 4, none⟩ b _ h]
theorem stN_size (w : World) (g i : Nat) (x : Nd) : (stN w g i x).heap.size = w.heap.size := by simp [stN]
theorem NB.nl {w : World} {g : Nat} {L : List Nd} {B : Nat → Prop} (h : NB w g L) (hB : B g) (hl : L.length ≤ maxLen) (hs : ∀ x ∈ L, x.s.size ≤ maxLen) : Nl w B L (.slice (some ⟨g, 0, none⟩) L.length L.length) :=
  ⟨some ⟨g, 0, none⟩, L.length, rfl, Nat.le_refl _, hl, (fun h => by cases h), hs, fun _ => ⟨g, 0, rfl, hB, fun i hi => by rw [Nat.zero_add]; exact h.at4 hi⟩⟩

theorem infoNode : (Tryz.prog.info? 43).map (fun i => (i.zero, i.size, i.bytes)) = some (some (.agg #[.int .i64 0, .string ⟨#[]⟩, .int .i64 0, .int .i64 0]), 4, 40) := by kernel_rfl
theorem own_fullN {w : World} {e : TypeId} {g m c : Nat} {xs : List Value} (h : w.ownsRow 0 e c (.slice (some ⟨g, 0, none⟩) m m) m xs) : w.heap[g]? = some (.cells xs.toArray e (0, 0)) := by
  rcases h.2 with ⟨h', _⟩ | ⟨g', cap', cur, h', hb, hg, hn, hm, hs, ht⟩
  · simp at h'
  · simp only [Value.slice.injEq, Option.some.injEq, Addr.mk.injEq, and_true, true_and] at h'
    obtain ⟨rfl, rfl⟩ := h'
    rw [hg]
    congr 2
    rw [← ht, List.take_of_length_le (by rw [Array.length_toList, hs]; exact Nat.le_refl _)]
theorem made_nd (n : Nat) : (madeCells (Value.agg #[.int .i64 0, .string ⟨#[]⟩, .int .i64 0, .int .i64 0]).cells (n * 4)).toList = ndCells (List.replicate n nd0) := by
  have e : (Value.agg #[.int .i64 0, .string ⟨#[]⟩, .int .i64 0, .int .i64 0]).cells = #[.int .i64 0, .string ⟨#[]⟩, .int .i64 0, .int .i64 0] := rfl
  rw [e]
  apply List.ext_getElem?
  intro q
  by_cases hq : q < n * 4
  · have hi : q / 4 < (List.replicate n nd0).length := by simp; omega
    obtain ⟨h0, h1, h2, h3⟩ := ndCells_get (List.replicate n nd0) (q / 4) hi
    simp only [List.getElem_replicate, nd0] at h0 h1 h2 h3
    rcases (show q % 4 = 0 ∨ q % 4 = 1 ∨ q % 4 = 2 ∨ q % 4 = 3 by omega) with h | h | h | h
    · rw [show (ndCells (List.replicate n nd0))[q]? = (ndCells (List.replicate n nd0))[q / 4 * 4]? by congr 1; omega, nd0, h0]; simp [madeCells, hq, h]
    · rw [show (ndCells (List.replicate n nd0))[q]? = (ndCells (List.replicate n nd0))[q / 4 * 4 + 1]? by congr 1; omega, nd0, h1]; simp [madeCells, hq, h]
    · rw [show (ndCells (List.replicate n nd0))[q]? = (ndCells (List.replicate n nd0))[q / 4 * 4 + 2]? by congr 1; omega, nd0, h2]; simp [madeCells, hq, h]
    · rw [show (ndCells (List.replicate n nd0))[q]? = (ndCells (List.replicate n nd0))[q / 4 * 4 + 3]? by congr 1; omega, nd0, h3]; simp [madeCells, hq, h]
  · rw [List.getElem?_eq_none (by simp [madeCells]; omega), List.getElem?_eq_none (by rw [ndCells_len]; simp; omega)]

end Go.Proofs.YtapniafhcagogaaGreatDoor
