/- One or the other: the nodes that wait for where they go on, and the pointers to them. -/
import Derived.Test.YtapniafhcagogaaLayH
import Derived.Test.YtapniafhcagogaaArrG
namespace Go.Proofs.Ytapniafhcagogaa
open Go.RowKit
set_option maxRecDepth 8000

/-- As layK; where the i-th goes on is told by f. -/
def layM (f : Nat → Nat) : List Tr → Nat → Nat → List Nd
  | [], _, _ => []
  | t :: r, i, p => split (p + 1) (p + 2 + t.nsz) :: (t.lay (p + 1) ++ split (f i) (f i) :: layM f r (i + 1) (p + 2 + t.nsz))
theorem layM_const (q : Nat) (f : Nat → Nat) : ∀ (l : List Tr) (i p : Nat), (∀ j, i ≤ j → j < i + l.length → f j = q) → layM f l i p = layK l p q
  | [], _, _, _ => rfl
  | t :: r, i, p, h => by
    rw [layM, layK, layM_const q f r (i + 1) _ fun j h1 h2 => h j (by omega) (by simp; omega), h i (Nat.le_refl _) (by simp)]
theorem layM_congr {f f' : Nat → Nat} : ∀ (l : List Tr) (i p : Nat), (∀ j, i ≤ j → f' j = f j) → layM f' l i p = layM f l i p
  | [], _, _, _ => rfl
  | t :: r, i, p, h => by
    rw [layM, layM, layM_congr r (i + 1) _ fun j h1 => h j (by omega), h i (Nat.le_refl _)]
theorem layM_len (f : Nat → Nat) : ∀ (l : List Tr), (∀ x ∈ l, ∀ p, (x.lay p).length = x.nsz) → ∀ i p, (layM f l i p).length = nszL l + 2 * l.length
  | [], _, i, p => by simp [layM, nszL]
  | t :: r, h, i, p => by
    have := layM_len f r (fun x hx => h x (List.mem_cons_of_mem _ hx)) (i + 1) (p + 2 + t.nsz)
    simp only [layM, nszL, List.length_cons, List.length_append, h t (List.mem_cons_self ..), this]
    omega
/-- Where the j-th that waits stands, behind the first one. -/
def wtM (l : List Tr) (j : Nat) : Nat := nszL (l.take (j + 1)) + 2 * j + 1
theorem layM_at (f : Nat → Nat) : ∀ (l : List Tr) (j : Nat), j < l.length → (∀ x ∈ l, ∀ p, (x.lay p).length = x.nsz) → ∀ (i p : Nat), ∃ P Q, P.length = wtM l j ∧ ∀ f', (∀ n, n ≠ i + j → f' n = f n) → layM f' l i p = P ++ split (f' (i + j)) (f' (i + j)) :: Q
  | t :: r, 0, _, hl, i, p => by
    refine ⟨split (p + 1) (p + 2 + t.nsz) :: t.lay (p + 1), layM f r (i + 1) (p + 2 + t.nsz), ?_, fun f' h => ?_⟩
    · simp only [List.length_cons, hl t (List.mem_cons_self ..), wtM, List.take_succ_cons, List.take_zero, nszL]
    · rw [layM, layM_congr r (i + 1) _ fun n hn => h n (by omega)]
      rfl
  | t :: r, j + 1, hj, hl, i, p => by
    obtain ⟨P, Q, hP, hQ⟩ := layM_at f r j (by simpa using hj) (fun x hx => hl x (List.mem_cons_of_mem _ hx)) (i + 1) (p + 2 + t.nsz)
    refine ⟨split (p + 1) (p + 2 + t.nsz) :: (t.lay (p + 1) ++ split (f i) (f i) :: P), Q, ?_, fun f' h => ?_⟩
    · simp only [List.length_cons, List.length_append, hl t (List.mem_cons_self ..), hP, wtM, List.take_succ_cons, nszL]; omega
    · have e : i + 1 + j = i + (j + 1) := by omega
      have := hQ f' fun n hn => h n (by omega)
      rw [e] at this
      rw [layM, this, h i (by omega)]
      simp only [List.cons_append, List.append_assoc]

/-- So many pointers, of which the first k are there. -/
def ptC (g : Nat) (ps : Nat → Nat) (n k : Nat) : List Value := (List.range n).map fun j => if j < k then .pointer (some ⟨g, ps j * 4, none⟩) else .pointer none
def PBk (w : World) (lb g : Nat) (ps : Nat → Nat) (n k : Nat) : Prop := w.heap[lb]? = some (.cells (ptC g ps n k).toArray 75 (0, 0))
theorem PBk.lt {w : World} {lb g n k : Nat} {ps : Nat → Nat} (h : PBk w lb g ps n k) : lb < w.heap.size := (Array.getElem?_eq_some_iff.1 h).1
theorem PBk.kept {w w' : World} {lb g n k : Nat} {ps : Nat → Nat} (h : PBk w lb g ps n k) (hh : w'.heap[lb]? = w.heap[lb]?) : PBk w' lb g ps n k := by unfold PBk; rw [hh]; exact h
theorem PBk.fr {w : World} {lb g n k : Nat} {ps : Nat → Nat} (h : PBk w lb g ps n k) (o : Nat) : w.frozen? ⟨lb, o, none⟩ = false := frozen_of_row w lb o _ _ h
theorem PBk.cell {w : World} {lb g n k : Nat} {ps : Nat → Nat} (h : PBk w lb g ps n k) {j : Nat} (hj : j < n) : w.cell? ⟨lb, j, none⟩ = some (if j < k then .pointer (some ⟨g, ps j * 4, none⟩) else .pointer none) := by
  rw [cell_of_row w lb _ _ _ (0, 0) h, List.getElem?_toArray]
  simp [ptC, hj]
theorem ptC_set (g : Nat) (ps : Nat → Nat) (n k : Nat) (h : k < n) : (ptC g ps n k).set k (.pointer (some ⟨g, ps k * 4, none⟩)) = ptC g ps n (k + 1) := by
  apply List.ext_getElem?
  intro j
  unfold ptC
  by_cases hj : k = j
  · subst hj
    rw [List.getElem?_set_self (by simpa using h)]
    simp [h]
  · rw [List.getElem?_set_ne hj]
    by_cases hn : j < n
    · simp only [List.getElem?_map, List.getElem?_range hn, Option.map_some]
      by_cases h1 : j < k
      · rw [if_pos h1, if_pos (by omega)]
      · rw [if_neg h1, if_neg (by omega)]
    · simp [hn]
theorem PBk.set {w : World} {lb g n k : Nat} {ps : Nat → Nat} (h : PBk w lb g ps n k) (hk : k < n) : PBk (w.setCell ⟨lb, k, none⟩ (.pointer (some ⟨g, ps k * 4, none⟩))) lb g ps n (k + 1) := by
  unfold PBk
  rw [heap_setCell_same w lb k _ _ _ h, List.setIfInBounds_toArray, ptC_set g ps n k hk]
theorem infoPtr : (Try.prog.info? 75).map (fun i => (i.zero, i.size, i.bytes)) = some (some (.pointer none), 1, 8) := by kernel_rfl
theorem made_pt (g : Nat) (ps : Nat → Nat) (n : Nat) : (madeCells (Value.pointer none).cells (n * 1)).toList = ptC g ps n 0 := by
  have e : (Value.pointer none).cells = #[.pointer none] := rfl
  rw [e]
  apply List.ext_getElem?
  intro q
  by_cases hq : q < n
  · simp [madeCells, ptC, hq, Nat.mod_one]
  · simp [madeCells, ptC, hq]
end Go.Proofs.Ytapniafhcagogaa
