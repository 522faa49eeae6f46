/- Rows of rows of yes and no. -/
import Derived.Test.YthifleacfhijnaaDoorRexTo
import Derived.Maps.AppendAt
namespace Go.Proofs.YthifleacfhijnaaDoor
open Go.RowKit

abbrev Mat := Nat → Nat → Bool

def rowOf (n : Nat) (f : Nat → Bool) : Array Value := ((List.range (n + 1)).map fun k => Value.bool (f k)).toArray

theorem rowOf_get (n : Nat) (f : Nat → Bool) (k : Nat) (h : k ≤ n) : (rowOf n f)[k]? = some (.bool (f k)) := by
  unfold rowOf
  rw [List.getElem?_toArray, List.getElem?_map, List.getElem?_range (by omega)]
  rfl
theorem rowOf_size (n : Nat) (f : Nat → Bool) : (rowOf n f).size = n + 1 := by simp [rowOf]
theorem rowOf_ext {n : Nat} {f f' : Nat → Bool} (h : ∀ k, k ≤ n → f k = f' k) : rowOf n f = rowOf n f' := by
  unfold rowOf
  congr 1
  apply List.map_congr_left
  intro k hk
  rw [h k (by have := List.mem_range.1 hk; omega)]

def updR (f : Nat → Bool) (k : Nat) (b : Bool) : Nat → Bool := fun j => if j = k then b else f j
def updM (M : Mat) (i k : Nat) (b : Bool) : Mat := fun x => if x = i then updR (M i) k b else M x

theorem updM_at (M : Mat) (i k x y : Nat) (b : Bool) : updM M i k b x y = if x = i ∧ y = k then b else M x y := by
  unfold updM
  by_cases h : x = i
  · subst h
    rw [if_pos rfl]
    unfold updR
    by_cases h2 : y = k
    · rw [if_pos h2, if_pos ⟨rfl, h2⟩]
    · rw [if_neg h2, if_neg (fun h => h2 h.2)]
  · rw [if_neg h, if_neg (fun h' => h h'.1)]

theorem rowOf_set (n : Nat) (f : Nat → Bool) (k : Nat) (b : Bool) : (rowOf n f).setIfInBounds k (.bool b) = rowOf n (updR f k b) := by
  apply Array.ext
  · simp [rowOf_size]
  · intro i h1 h2
    have h3 : i ≤ n := by rw [rowOf_size] at h2; omega
    have e1 : (rowOf n (updR f k b))[i]? = some (.bool (updR f k b i)) := rowOf_get n _ i h3
    have e2 : (rowOf n f)[i]? = some (.bool (f i)) := rowOf_get n f i h3
    have e3 : ((rowOf n f).setIfInBounds k (.bool b))[i]? = some (.bool (updR f k b i)) := by
      rw [Array.getElem?_setIfInBounds]
      by_cases hk : k = i
      · subst hk
        rw [if_pos rfl, if_pos (by rw [rowOf_size]; omega)]
        simp [updR]
      · rw [if_neg hk, e2]
        simp [updR, Ne.symm hk]
    rw [Array.getElem?_eq_getElem h1] at e3
    rw [Array.getElem?_eq_getElem h2] at e1
    exact Option.some.inj (e3.trans e1.symm)

/-- The rows' blocks R, the row of them in block g. -/
structure Mq (w : World) (g : Nat) (R : Nat → Nat) (n : Nat) (M : Mat) : Prop where
  outer : ∀ i, i ≤ n → w.cell? ⟨g, i, none⟩ = some (.slice (some ⟨R i, 0, none⟩) (n + 1) (n + 1))
  inner : ∀ i, i ≤ n → w.heap[R i]? = some (.cells (rowOf n (M i)) 4 (0, 0))

/-- No two rows share a block. -/
structure Apart (B : Nat → Prop) (g : Nat) (R : Nat → Nat) (n : Nat) : Prop where
  inj : ∀ i j, i ≤ n → j ≤ n → R i = R j → i = j
  ne : ∀ i, i ≤ n → R i ≠ g
  bg : B g
  br : ∀ i, i ≤ n → B (R i)

theorem Mq.cell {w : World} {g : Nat} {R : Nat → Nat} {n : Nat} {M : Mat} (h : Mq w g R n M) {i k : Nat} (hi : i ≤ n) (hk : k ≤ n) : w.cell? ⟨R i, k, none⟩ = some (.bool (M i k)) := by
  rw [cell_of_row w (R i) k _ _ (0, 0) (h.inner i hi)]
  exact rowOf_get n _ k hk
theorem Mq.frozen {w : World} {g : Nat} {R : Nat → Nat} {n : Nat} {M : Mat} (h : Mq w g R n M) {i : Nat} (hi : i ≤ n) (k : Nat) : w.frozen? ⟨R i, k, none⟩ = false := frozen_of_row w (R i) k _ _ (h.inner i hi)
theorem Mq.lt {w : World} {g : Nat} {R : Nat → Nat} {n : Nat} {M : Mat} (h : Mq w g R n M) {i : Nat} (hi : i ≤ n) : R i < w.heap.size := (Array.getElem?_eq_some_iff.1 (h.inner i hi)).1
theorem Mq.ltg {w : World} {g : Nat} {R : Nat → Nat} {n : Nat} {M : Mat} (h : Mq w g R n M) : g < w.heap.size := World.block_lt_of_cell? w _ (h.outer 0 (Nat.zero_le _))
theorem Mq.kept {w w' : World} {g : Nat} {R : Nat → Nat} {n : Nat} {M : Mat} (h : Mq w g R n M) (hg : w'.heap[g]? = w.heap[g]?) (hr : ∀ i, i ≤ n → w'.heap[R i]? = w.heap[R i]?) : Mq w' g R n M :=
  ⟨fun i hi => by rw [World.cell?_of_block (w := w) hg]; exact h.outer i hi, fun i hi => by rw [hr i hi]; exact h.inner i hi⟩
theorem Mq.grow {w w' : World} {g : Nat} {R : Nat → Nat} {n : Nat} {M : Mat} (h : Mq w g R n M) (hk : Below w.heap.size w w') : Mq w' g R n M := h.kept (hk.block g h.ltg) fun _ hi => hk.block _ (h.lt hi)
theorem Mq.ext {w : World} {g : Nat} {R : Nat → Nat} {n : Nat} {M M' : Mat} (h : Mq w g R n M) (he : ∀ i k, i ≤ n → k ≤ n → M i k = M' i k) : Mq w g R n M' :=
  ⟨h.outer, fun i hi => by rw [h.inner i hi, rowOf_ext fun k hk => he i k hi hk]⟩
theorem Mq.set {w : World} {B : Nat → Prop} {g : Nat} {R : Nat → Nat} {n : Nat} {M : Mat} (h : Mq w g R n M) (ha : Apart B g R n) {i : Nat} (hi : i ≤ n) (k : Nat) (b : Bool) :
    Mq (w.setCell ⟨R i, k, none⟩ (.bool b)) g R n (updM M i k b) := by
  refine ⟨fun j hj => ?_, fun j hj => ?_⟩
  · rw [World.cell?_of_block (w := w) (heap_setCell_other w ⟨R i, k, none⟩ g _ (ha.ne i hi).symm)]; exact h.outer j hj
  · by_cases he : j = i
    · subst he
      rw [heap_setCell_same w (R j) k _ _ _ (h.inner j hj), rowOf_set]
      simp [updM]
    · rw [heap_setCell_other w ⟨R i, k, none⟩ (R j) _ (fun e => he (ha.inj j i hj hi e)), h.inner j hj]
      simp [updM, he]

/-- The value reads this matrix, in blocks of B that no two rows share. -/
def Mx (w : World) (B : Nat → Prop) (n : Nat) (M : Mat) (v : Value) : Prop :=
  ∃ g cap R, v = .slice (some ⟨g, 0, none⟩) (n + 1) cap ∧ n + 1 ≤ cap ∧ cap ≤ maxLen ∧ Apart B g R n ∧ Mq w g R n M

theorem Apart.imp {B C : Nat → Prop} {g : Nat} {R : Nat → Nat} {n : Nat} (h : Apart B g R n) (hk : ∀ b, B b → C b) : Apart C g R n := ⟨h.inj, h.ne, hk _ h.bg, fun i hi => hk _ (h.br i hi)⟩
theorem Mx.grow {w w' : World} {B : Nat → Prop} {n : Nat} {M : Mat} {v : Value} (h : Mx w B n M v) (hk : Below w.heap.size w w') : Mx w' B n M v := by
  obtain ⟨g, cap, R, rfl, h1, h2, ha, hq⟩ := h
  exact ⟨g, cap, R, rfl, h1, h2, ha, hq.grow hk⟩
theorem Mx.kept {w w' : World} {B : Nat → Prop} {n : Nat} {M : Mat} {v : Value} (h : Mx w B n M v) (hk : ∀ b, B b → b < w.heap.size → w'.heap[b]? = w.heap[b]?) : Mx w' B n M v := by
  obtain ⟨g, cap, R, rfl, h1, h2, ha, hq⟩ := h
  exact ⟨g, cap, R, rfl, h1, h2, ha, hq.kept (hk g ha.bg hq.ltg) fun i hi => hk _ (ha.br i hi) (hq.lt hi)⟩
theorem Mx.there {w : World} {B : Nat → Prop} {n : Nat} {M : Mat} {v : Value} (h : Mx w B n M v) : Mx w (fun b => B b ∧ b < w.heap.size) n M v := by
  obtain ⟨g, cap, R, rfl, h1, h2, ha, hq⟩ := h
  exact ⟨g, cap, R, rfl, h1, h2, ⟨ha.inj, ha.ne, ⟨ha.bg, hq.ltg⟩, fun i hi => ⟨ha.br i hi, hq.lt hi⟩⟩, hq⟩
theorem Mx.imp {w : World} {B C : Nat → Prop} {n : Nat} {M : Mat} {v : Value} (h : Mx w B n M v) (hk : ∀ b, B b → C b) : Mx w C n M v := by
  obtain ⟨g, cap, R, rfl, h1, h2, ha, hq⟩ := h
  exact ⟨g, cap, R, rfl, h1, h2, ha.imp hk, hq⟩
theorem Mx.ext {w : World} {B : Nat → Prop} {n : Nat} {M M' : Mat} {v : Value} (h : Mx w B n M v) (he : ∀ i k, i ≤ n → k ≤ n → M i k = M' i k) : Mx w B n M' v := by
  obtain ⟨g, cap, R, rfl, h1, h2, ha, hq⟩ := h
  exact ⟨g, cap, R, rfl, h1, h2, ha, hq.ext he⟩
theorem Mx.len {w : World} {B : Nat → Prop} {n : Nat} {M : Mat} {v : Value} (h : Mx w B n M v) : ∃ ao cap, v = .slice ao (n + 1) cap := by
  obtain ⟨g, cap, R, rfl, h1, h2, ha, hq⟩ := h
  exact ⟨_, _, rfl⟩

/-- A slice that is owned and full is its block. -/
theorem own_full {w : World} {e : TypeId} {g m : Nat} {xs : List Value} (h : w.ownsRow 0 e 1 (.slice (some ⟨g, 0, none⟩) m m) m xs) : w.heap[g]? = some (.cells xs.toArray e (0, 0)) := by
  rcases h.2 with ⟨h', _⟩ | ⟨g', cap', cur, h', hb, hg, hn, hm, hs, ht⟩
  · simp at h'
  · simp only [Value.slice.injEq, Option.some.injEq, Addr.mk.injEq, and_true, true_and] at h'
    obtain ⟨rfl, rfl⟩ := h'
    rw [hg]
    congr 2
    rw [← ht, List.take_of_length_le (by rw [Array.length_toList, hs]; exact Nat.le_refl _)]
end Go.Proofs.YthifleacfhijnaaDoor
