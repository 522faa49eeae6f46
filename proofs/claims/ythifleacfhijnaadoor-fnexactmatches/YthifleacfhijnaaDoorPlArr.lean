/- Rows of sets of places: four words each, in one block. -/
import Derived.Test.YthifleacfhijnaaDoorPlAdd
import Derived.Test.YthifleacfhijnaaDoorRexOwn
namespace Go.Proofs.YthifleacfhijnaaDoor
open Go.RowKit
set_option maxRecDepth 8000

def plArr (n : Nat) (M : Mat) : Array Value := ((List.range ((n + 1) * 4)).map fun q => Value.int .u64 (wd (M (q / 4)) (q % 4) : Int)).toArray

theorem plArr_size (n : Nat) (M : Mat) : (plArr n M).size = (n + 1) * 4 := by simp [plArr]
theorem plArr_get (n : Nat) (M : Mat) (q : Nat) (h : q < (n + 1) * 4) : (plArr n M)[q]? = some (.int .u64 (wd (M (q / 4)) (q % 4) : Int)) := by
  unfold plArr
  rw [List.getElem?_toArray, List.getElem?_map, List.getElem?_range h]
  rfl
theorem plArr_ext {n : Nat} {M M' : Mat} (h : ∀ i k, i ≤ n → k < 256 → M i k = M' i k) : plArr n M = plArr n M' := by
  unfold plArr
  congr 1
  apply List.map_congr_left
  intro q hq
  have hq' := List.mem_range.1 hq
  rw [wd_ext (fun b hb => h (q / 4) (64 * (q % 4) + b) (by omega) (by omega))]

/-- The block g holds the rows of M. -/
def Pq (w : World) (g n : Nat) (M : Mat) : Prop := w.heap[g]? = some (.cells (plArr n M) 63 (0, 0))

theorem Pq.lt {w : World} {g n : Nat} {M : Mat} (h : Pq w g n M) : g < w.heap.size := (Array.getElem?_eq_some_iff.1 h).1
theorem Pq.cell {w : World} {g n : Nat} {M : Mat} (h : Pq w g n M) {i j : Nat} (hi : i ≤ n) (hj : j < 4) : w.cell? ⟨g, i * 4 + j, none⟩ = some (.int .u64 (wd (M i) j : Int)) := by
  rw [cell_of_row w g _ _ _ (0, 0) h, plArr_get n M _ (by omega)]
  rw [show (i * 4 + j) / 4 = i by omega, show (i * 4 + j) % 4 = j by omega]
theorem Pq.frozen {w : World} {g n : Nat} {M : Mat} (h : Pq w g n M) (q : Nat) : w.frozen? ⟨g, q, none⟩ = false := frozen_of_row w g q _ _ h
theorem Pq.kept {w w' : World} {g n : Nat} {M : Mat} (h : Pq w g n M) (hh : w'.heap[g]? = w.heap[g]?) : Pq w' g n M := by unfold Pq; rw [hh]; exact h
theorem Pq.grow {w w' : World} {g n : Nat} {M : Mat} (h : Pq w g n M) (hb : Below w.heap.size w w') : Pq w' g n M := h.kept (hb.block g h.lt)
theorem Pq.ext {w : World} {g n : Nat} {M M' : Mat} (h : Pq w g n M) (he : ∀ i k, i ≤ n → k < 256 → M i k = M' i k) : Pq w g n M' := by unfold Pq; rw [← plArr_ext he]; exact h

/-- One word set. -/
theorem Pq.setWord {w : World} {g n : Nat} {M M' : Mat} (h : Pq w g n M) {i j : Nat} (_hi : i ≤ n) (hj : j < 4) (x : Nat) (hx : x = wd (M' i) j)
    (hsame : ∀ i' j', i' ≤ n → j' < 4 → ¬ (i' = i ∧ j' = j) → wd (M i') j' = wd (M' i') j') : Pq (w.setCell ⟨g, i * 4 + j, none⟩ (.int .u64 (x : Int))) g n M' := by
  unfold Pq
  rw [heap_setCell_same w g _ _ _ _ h]
  congr 2
  apply Array.ext
  · simp [plArr_size]
  · intro q h1 h2
    have hq : q < (n + 1) * 4 := by rw [plArr_size] at h2; exact h2
    have e1 : (plArr n M')[q]? = some (.int .u64 (wd (M' (q / 4)) (q % 4) : Int)) := plArr_get n M' q hq
    have e2 : (plArr n M)[q]? = some (.int .u64 (wd (M (q / 4)) (q % 4) : Int)) := plArr_get n M q hq
    have e3 : ((plArr n M).setIfInBounds (i * 4 + j) (.int .u64 (x : Int)))[q]? = some (.int .u64 (wd (M' (q / 4)) (q % 4) : Int)) := by
      rw [Array.getElem?_setIfInBounds]
      by_cases he : i * 4 + j = q
      · rw [if_pos he, if_pos (by rw [plArr_size]; omega), hx, ← he, show (i * 4 + j) / 4 = i by omega, show (i * 4 + j) % 4 = j by omega]
      · rw [if_neg he, e2, hsame (q / 4) (q % 4) (by omega) (by omega) (by omega)]
    rw [Array.getElem?_eq_getElem h1] at e3
    rw [Array.getElem?_eq_getElem h2] at e1
    exact Option.some.inj (e3.trans e1.symm)

/-- A place added to a row. -/
theorem Pq.add {w : World} {g n : Nat} {M : Mat} (h : Pq w g n M) {i a : Nat} (hi : i ≤ n) (ha : a ≤ 255) :
    Pq (w.setCell ⟨g, i * 4 + a / 64, none⟩ (.int .u64 ((wd (M i) (a / 64) ||| 2 ^ (a % 64) : Nat) : Int))) g n (updM M i a true) := by
  refine h.setWord hi (by omega) _ ?_ ?_
  · rw [wd_add]
    unfold updM
    rw [if_pos rfl]
  · intro i' j' _ _ hne
    unfold updM
    by_cases he : i' = i
    · subst he
      rw [if_pos rfl]
      exact wd_add_other _ _ _ (fun e => hne ⟨rfl, e⟩)
    · rw [if_neg he]

/-- The first k words of the row i with those of f. -/
def orUpto (M : Mat) (i : Nat) (f : Nat → Bool) (k : Nat) : Mat := fun x y => if x = i then M x y || (f y && decide (y < 64 * k)) else M x y

theorem orUpto_wd (M : Mat) (i : Nat) (f : Nat → Bool) (k j : Nat) : wd (orUpto M i f k i) j = if j < k then wd (M i) j ||| wd f j else wd (M i) j := by
  by_cases h : j < k
  · rw [if_pos h, wd_or]
    apply wd_ext
    intro b hb
    simp [orUpto, show 64 * j + b < 64 * k by omega]
  · rw [if_neg h]
    apply wd_ext
    intro b hb
    simp [orUpto, show ¬ 64 * j + b < 64 * k by omega]
theorem orUpto_other (M : Mat) (i : Nat) (f : Nat → Bool) (k x j : Nat) (h : x ≠ i) : wd (orUpto M i f k x) j = wd (M x) j := by
  apply wd_ext
  intro b _
  simp [orUpto, h]

theorem Pq.puts {w : World} {g n : Nat} {M : Mat} (h : Pq w g n M) {i : Nat} (hi : i ≤ n) (f : Nat → Bool) : ∀ k, k ≤ 4 →
    Pq (putK w g (i * 4) (fun j => .int .u64 ((wd (M i) j ||| wd f j : Nat) : Int)) k) g n (orUpto M i f k) := by
  intro k
  induction k with
  | zero => intro _; exact h.ext (fun x y _ _ => by simp [orUpto])
  | succ k ih =>
    intro hk
    refine (ih (by omega)).setWord hi (by omega) _ ?_ ?_
    · rw [orUpto_wd, if_pos (by omega)]
    · intro x j hx hj hne
      by_cases he : x = i
      · subst he
        rw [orUpto_wd, orUpto_wd]
        have hjk : j ≠ k := fun e => hne ⟨rfl, e⟩
        by_cases hlt : j < k
        · rw [if_pos hlt, if_pos (by omega)]
        · rw [if_neg hlt, if_neg (by omega)]
      · rw [orUpto_other _ _ _ _ _ _ he, orUpto_other _ _ _ _ _ _ he]

/-- A set added to a row. -/
def mOr (M : Mat) (i : Nat) (f : Nat → Bool) : Mat := fun x y => if x = i then M x y || f y else M x y

theorem Pq.addAll {w : World} {g n : Nat} {M : Mat} (h : Pq w g n M) {i : Nat} (hi : i ≤ n) (f : Nat → Bool) :
    Pq (putK w g (i * 4) (fun j => .int .u64 ((wd (M i) j ||| wd f j : Nat) : Int)) 4) g n (mOr M i f) :=
  (h.puts hi f 4 (by omega)).ext (fun x y _ hy => by simp [orUpto, mOr, show y < 256 from hy])

theorem putK_block (w : World) (b o : Nat) (z : Nat → Value) (k c : Nat) (h : c ≠ b) : (putK w b o z k).heap[c]? = w.heap[c]? := by
  induction k with
  | zero => rfl
  | succ k ih => rw [Proofs.YthifleacfhijnaaDoor.putK, heap_setCell_other _ _ _ _ h]; exact ih
theorem putK_size (w : World) (b o : Nat) (z : Nat → Value) (k : Nat) : (putK w b o z k).heap.size = w.heap.size := by
  induction k with
  | zero => rfl
  | succ k ih => rw [Proofs.YthifleacfhijnaaDoor.putK]; simp only [World.setCell, Array.size_modify]; exact ih
theorem putK_below {w : World} {b B : Nat} (o : Nat) (z : Nat → Value) (k : Nat) (h : B ≤ b) : Below B w (putK w b o z k) := by
  induction k with
  | zero => exact Below.refl _ _
  | succ k ih => exact ih.setCell (p := ⟨b, o + k, none⟩) h _
end Go.Proofs.YthifleacfhijnaaDoor
