/- Rows of rows of yes and no. Sets of places as words of 64 bits. Matrices: one behind the other; as often as may be. -/
import Derived.Test.YtapniafhcagogaaGreatDoorRexTo
import Derived.Maps.AppendAt
namespace Go.Proofs.YtapniafhcagogaaGreatDoor
open Go.RowKit

abbrev Mat := Nat → Nat → Bool

def rowOf (n : Nat) (f : Nat → Bool) : Array Value := ((List.range (n + 1)).map fun k => Value.bool (f k)).toArray

theorem rowOf_get (n : Nat) (f : Nat → Bool) (k : Nat) (h : k ≤ n) : (rowOf n f)[k]? = some (.bool (f k)) := by
  unfold rowOf
  rw [List.getElem?_toArray, List.getElem?_map, List.getElem?_range (by omega)]
  rfl
theorem rowOf_size (n : Nat) (f : Nat → Bool) : (rowOf n f).size = n + 1 := by simp [rowOf]
theorem rowOf_ext {n : Nat} {f f' : Nat → Bool} (h : ∀ k, k ≤ n → f k = f' k) : rowOf n f = rowOf n f' := by
  unfold rowOf
  congr 1
  apply List.map_congr_left
  intro k hk
  rw [h k (by have := List.mem_range.1 hk; omega)]

def updR (f : Nat → Bool) (k : Nat) (b : Bool) : Nat → Bool := fun j => if j = k then b else f j
def updM (M : Mat) (i k : Nat) (b : Bool) : Mat := fun x => if x = i then updR (M i) k b else M x

theorem updM_at (M : Mat) (i k x y : Nat) (b : Bool) : updM M i k b x y = if x = i ∧ y = k then b else M x y := by
  unfold updM
  by_cases h : x = i
  · subst h
    rw [if_pos rfl]
    unfold updR
    by_cases h2 : y = k
    · rw [if_pos h2, if_pos ⟨rfl, h2⟩]
    · rw [if_neg h2, if_neg (fun h => h2 h.2)]
  · rw [if_neg h, if_neg (fun h' => h h'.1)]

theorem rowOf_set (n : Nat) (f : Nat → Bool) (k : Nat) (b : Bool) : (rowOf n f).setIfInBounds k (.bool b) = rowOf n (updR f k b) := by
  apply Array.ext
  · simp [rowOf_size]
  · intro i h1 h2
    have h3 : i ≤ n := by rw [rowOf_size] at h2; omega
    have e1 : (rowOf n (updR f k b))[i]? = some (.bool (updR f k b i)) := rowOf_get n _ i h3
    have e2 : (rowOf n f)[i]? = some (.bool (f i)) := rowOf_get n f i h3
    have e3 : ((rowOf n f).setIfInBounds k (.bool b))[i]? = some (.bool (updR f k b i)) := by
      rw [Array.getElem?_setIfInBounds]
      by_cases hk : k = i
      · subst hk
        rw [if_pos rfl, if_pos (by rw [rowOf_size]; omega)]
        simp [updR]
      · rw [if_neg hk, e2]
        simp [updR, Ne.symm hk]
    rw [Array.getElem?_eq_getElem h1] at e3
    rw [Array.getElem?_eq_getElem h2] at e1
    exact Option.some.inj (e3.trans e1.symm)

/-- The rows' blocks R, the row of them in block g. -/
structure Mq (w : World) (g : Nat) (R : Nat → Nat) (n : Nat) (M : Mat) : Prop where
  outer : ∀ i, i ≤ n → w.cell? ⟨g, i, none⟩ = some (.slice (some ⟨R i, 0, none⟩) (n + 1) (n + 1))
  inner : ∀ i, i ≤ n → w.heap[R i]? = some (.cells (rowOf n (M i)) 4 (0, 0))

/-- No two rows share a block. -/
structure Apart (B : Nat → Prop) (g : Nat) (R : Nat → Nat) (n : Nat) : Prop where
  inj : ∀ i j, i ≤ n → j ≤ n → R i = R j → i = j
  ne : ∀ i, i ≤ n → R i ≠ g
  bg : B g
  br : ∀ i, i ≤ n → B (R i)

theorem Mq.cell {w : World} {g : Nat} {R : Nat → Nat} {n : Nat} {M : Mat} (h : Mq w g R n M) {i k : Nat} (hi : i ≤ n) (hk : k ≤ n) : w.cell? ⟨R i, k, none⟩ = some (.bool (M i k)) := by
  rw [cell_of_row w (R i) k _ _ (0, 0) (h.inner i hi)]
  exact rowOf_get n _ k hk
theorem Mq.frozen {w : World} {g : Nat} {R : Nat → Nat} {n : Nat} {M : Mat} (h : Mq w g R n M) {i : Nat} (hi : i ≤ n) (k : Nat) : w.frozen? ⟨R i, k, none⟩ = false := frozen_of_row w (R i) k _ _ (h.inner i hi)
theorem Mq.lt {w : World} {g : Nat} {R : Nat → Nat} {n : Nat} {M : Mat} (h : Mq w g R n M) {i : Nat} (hi : i ≤ n) : R i < w.heap.size := (Array.getElem?_eq_some_iff.1 (h.inner i hi)).1
theorem Mq.ltg {w : World} {g : Nat} {R : Nat → Nat} {n : Nat} {M : Mat} (h : Mq w g R n M) : g < w.heap.size := World.block_lt_of_cell? w _ (h.outer 0 (Nat.zero_le _))
theorem Mq.kept {w w' : World} {g : Nat} {R : Nat → Nat} {n : Nat} {M : Mat} (h : Mq w g R n M) (hg : w'.heap[g]? = w.heap[g]?) (hr : ∀ i, i ≤ n → w'.heap[R i]? = w.heap[R i]?) : Mq w' g R n M :=
  ⟨fun i hi => by rw [World.cell?_of_block (w := w) hg]; exact h.outer i hi, fun i hi => by rw [hr i hi]; exact h.inner i hi⟩
theorem Mq.grow {w w' : World} {g : Nat} {R : Nat → Nat} {n : Nat} {M : Mat} (h : Mq w g R n M) (hk : Below w.heap.size w w') : Mq w' g R n M := h.kept (hk.block g h.ltg) fun _ hi => hk.block _ (h.lt hi)
theorem Mq.ext {w : World} {g : Nat} {R : Nat → Nat} {n : Nat} {M M' : Mat} (h : Mq w g R n M) (he : ∀ i k, i ≤ n → k ≤ n → M i k = M' i k) : Mq w g R n M' :=
  ⟨h.outer, fun i hi => by rw [h.inner i hi, rowOf_ext fun k hk => he i k hi hk]⟩
theorem Mq.set {w : World} {B : Nat → Prop} {g : Nat} {R : Nat → Nat} {n : Nat} {M : Mat} (h : Mq w g R n M) (ha : Apart B g R n) {i : Nat} (hi : i ≤ n) (k : Nat) (b : Bool) :
    Mq (w.setCell ⟨R i, k, none⟩ (.bool b)) g R n (updM M i k b) := by
  refine ⟨fun j hj => ?_, fun j hj => ?_⟩
  · rw [World.cell?_of_block (w := w) (heap_setCell_other w ⟨R i, k, none⟩ g _ (ha.ne i hi).symm)]; exact h.outer j hj
  · by_cases he : j = i
    · subst he
      rw [heap_setCell_same w (R j) k _ _ _ (h.inner j hj), rowOf_set]
      simp [updM]
    · rw [heap_setCell_other w ⟨R i, k, none⟩ (R j) _ (fun e => he (ha.inj j i hj hi e)), h.inner j hj]
      simp [updM, he]

/-- The value reads this matrix, in blocks of B that no two rows share. -/
def Mx (w : World) (B : Nat → Prop) (n : Nat) (M : Mat) (v : Value) : Prop :=
  ∃ g cap R, v = .slice (some ⟨g, 0, none⟩) (n + 1) cap ∧ n + 1 ≤ cap ∧ cap ≤ maxLen ∧ Apart B g R n ∧ Mq w g R n M

theorem Apart.imp {B C : Nat → Prop} {g : Nat} {R : Nat → Nat} {n : Nat} (h : Apart B g R n) (hk : ∀ b, B b → C b) : Apart C g R n := ⟨h.inj, h.ne, hk _ h.bg, fun i hi => hk _ (h.br i hi)⟩
theorem Mx.grow {w w' : World} {B : Nat → Prop} {n : Nat} {M : Mat} {v : Value} (h : Mx w B n M v) (hk : Below w.heap.size w w') : Mx w' B n M v := by
  obtain ⟨g, cap, R, rfl, h1, h2, ha, hq⟩ := h
  exact ⟨g, cap, R, rfl, h1, h2, ha, hq.grow hk⟩
theorem Mx.kept {w w' : World} {B : Nat → Prop} {n : Nat} {M : Mat} {v : Value} (h : Mx w B n M v) (hk : ∀ b, B b → b < w.heap.size → w'.heap[b]? = w.heap[b]?) : Mx w' B n M v := by
  obtain ⟨g, cap, R, rfl, h1, h2, ha, hq⟩ := h
  exact ⟨g, cap, R, rfl, h1, h2, ha, hq.kept (hk g ha.bg hq.ltg) fun i hi => hk _ (ha.br i hi) (hq.lt hi)⟩
theorem Mx.there {w : World} {B : Nat → Prop} {n : Nat} {M : Mat} {v : Value} (h : Mx w B n M v) : Mx w (fun b => B b ∧ b < w.heap.size) n M v := by
  obtain ⟨g, cap, R, rfl, h1, h2, ha, hq⟩ := h
  exact ⟨g, cap, R, rfl, h1, h2, ⟨ha.inj, ha.ne, ⟨ha.bg, hq.ltg⟩, fun i hi => ⟨ha.br i hi, hq.lt hi⟩⟩, hq⟩
theorem Mx.imp {w : World} {B C : Nat → Prop} {n : Nat} {M : Mat} {v : Value} (h : Mx w B n M v) (hk : ∀ b, B b → C b) : Mx w C n M v := by
  obtain ⟨g, cap, R, rfl, h1, h2, ha, hq⟩ := h
  exact ⟨g, cap, R, rfl, h1, h2, ha.imp hk, hq⟩
theorem Mx.ext {w : World} {B : Nat → Prop} {n : Nat} {M M' : Mat} {v : Value} (h : Mx w B n M v) (he : ∀ i k, i ≤ n → k ≤ n → M i k = M' i k) : Mx w B n M' v := by
  obtain ⟨g, cap, R, rfl, h1, h2, ha, hq⟩ := h
  exact ⟨g, cap, R, rfl, h1, h2, ha, hq.ext he⟩
theorem Mx.len {w : World} {B : Nat → Prop} {n : Nat} {M : Mat} {v : Value} (h : Mx w B n M v) : ∃ ao cap, v = .slice ao (n + 1) cap := by
  obtain ⟨g, cap, R, rfl, h1, h2, ha, hq⟩ := h
  exact ⟨_, _, rfl⟩

/-- A slice that is owned and full is its block. -/
theorem own_full {w : World} {e : TypeId} {g m : Nat} {xs : List Value} (h : w.ownsRow 0 e 1 (.slice (some ⟨g, 0, none⟩) m m) m xs) : w.heap[g]? = some (.cells xs.toArray e (0, 0)) := by
  rcases h.2 with ⟨h', _⟩ | ⟨g', cap', cur, h', hb, hg, hn, hm, hs, ht⟩
  · simp at h'
  · simp only [Value.slice.injEq, Option.some.injEq, Addr.mk.injEq, and_true, true_and] at h'
    obtain ⟨rfl, rfl⟩ := h'
    rw [hg]
    congr 2
    rw [← ht, List.take_of_length_le (by rw [Array.length_toList, hs]; exact Nat.le_refl _)]
end Go.Proofs.YtapniafhcagogaaGreatDoor

namespace Go.Proofs.YtapniafhcagogaaGreatDoor
open Go.RowKit

/-- The number whose bits below k are those of g. -/
def bitsN (g : Nat → Bool) : Nat → Nat
  | 0 => 0
  | k + 1 => bitsN g k ||| (if g k then 2 ^ k else 0)

theorem bitsN_test (g : Nat → Bool) : ∀ k b, (bitsN g k).testBit b = (decide (b < k) && g b) := by
  intro k
  induction k with
  | zero => intro b; simp [bitsN]
  | succ k ih =>
    intro b
    rw [bitsN, Nat.testBit_or, ih]
    by_cases hb : b = k
    · subst hb
      cases hg : g b <;> simp [Nat.testBit_two_pow_self]
    · have e : (if g k then 2 ^ k else 0).testBit b = false := by
        split
        · exact Nat.testBit_two_pow_of_ne (Ne.symm hb)
        · exact Nat.zero_testBit b
      rw [e, Bool.or_false, show decide (b < k + 1) = decide (b < k) from decide_eq_decide.2 (by omega)]

theorem bitsN_lt (g : Nat → Bool) (k : Nat) : bitsN g k < 2 ^ k := by
  apply Nat.lt_pow_two_of_testBit
  intro i hi
  rw [bitsN_test, decide_eq_false (by omega), Bool.false_and]

/-- The word j of a set of places. -/
def wd (f : Nat → Bool) (j : Nat) : Nat := bitsN (fun b => f (64 * j + b)) 64

theorem wd_test (f : Nat → Bool) (j b : Nat) : (wd f j).testBit b = (decide (b < 64) && f (64 * j + b)) := bitsN_test _ 64 b
theorem wd_lt (f : Nat → Bool) (j : Nat) : wd f j < 18446744073709551616 := bitsN_lt _ 64
theorem wd_or (f g : Nat → Bool) (j : Nat) : wd f j ||| wd g j = wd (fun k => f k || g k) j := by
  apply Nat.eq_of_testBit_eq
  intro b
  rw [Nat.testBit_or, wd_test, wd_test, wd_test, Bool.and_or_distrib_left]
theorem wd_ext {f g : Nat → Bool} {j : Nat} (h : ∀ b, b < 64 → f (64 * j + b) = g (64 * j + b)) : wd f j = wd g j := by
  apply Nat.eq_of_testBit_eq
  intro b
  rw [wd_test, wd_test]
  by_cases hb : b < 64
  · rw [h b hb]
  · rw [decide_eq_false hb]; rfl
theorem wd_add (f : Nat → Bool) (a : Nat) : wd f (a / 64) ||| 2 ^ (a % 64) = wd (updR f a true) (a / 64) := by
  apply Nat.eq_of_testBit_eq
  intro b
  rw [Nat.testBit_or, wd_test, wd_test]
  by_cases hb : b = a % 64
  · subst hb
    have e : 64 * (a / 64) + a % 64 = a := by omega
    rw [Nat.testBit_two_pow_self, e]
    simp [updR]
    omega
  · rw [Nat.testBit_two_pow_of_ne (Ne.symm hb), Bool.or_false]
    by_cases hlt : b < 64
    · have : 64 * (a / 64) + b ≠ a := by omega
      simp [updR, this]
    · rw [decide_eq_false hlt]; rfl
theorem wd_add_other (f : Nat → Bool) (a j : Nat) (h : j ≠ a / 64) : wd f j = wd (updR f a true) j := by
  apply wd_ext
  intro b hb
  have : 64 * j + b ≠ a := by omega
  simp [updR, this]

/-- The four words of a set as values. -/
def w4 (f : Nat → Bool) : List Value := [.int .u64 (wd f 0 : Int), .int .u64 (wd f 1 : Int), .int .u64 (wd f 2 : Int), .int .u64 (wd f 3 : Int)]

theorem or_u64 (x y : Nat) (hx : x < 18446744073709551616) (hy : y < 18446744073709551616) : IntKind.u64.wrap ((BitVec.ofInt 64 (x : Int) ||| BitVec.ofInt 64 (y : Int)).toNat : Nat) = ((x ||| y : Nat) : Int) := by
  have e : (BitVec.ofInt 64 (x : Int) ||| BitVec.ofInt 64 (y : Int)).toNat = x ||| y := by
    rw [BitVec.toNat_or]
    simp only [BitVec.ofInt_natCast, BitVec.toNat_ofNat]
    rw [Nat.mod_eq_of_lt hx, Nat.mod_eq_of_lt hy]
  rw [e]
  have : x ||| y < 18446744073709551616 := Nat.or_lt_two_pow (n := 64) hx hy
  rw [IntKind.wrap_u64]
  omega
end Go.Proofs.YtapniafhcagogaaGreatDoor

namespace Go.Proofs.YtapniafhcagogaaGreatDoor

/-- What the middle m brings to row x, place y. -/
def byM (a b : Mat) (x y m : Nat) : Bool := decide (x ≤ m) && decide (m ≤ y) && a x m && b m y
/-- One behind the other. -/
def mThen (n : Nat) (a b : Mat) : Mat := fun i j => (List.range (n + 1)).any fun m => byM a b i j m
/-- How far it has come: rows below i; in row i the middles below k; of the middle k the places below j. -/
def thenUpto (n : Nat) (a b : Mat) (i k j : Nat) : Mat := fun x y => (List.range (n + 1)).any fun m => byM a b x y m && (decide (x < i) || decide (x = i ∧ (m < k ∨ m = k ∧ y < j)))

theorem byM_iff {a b : Mat} {x y m : Nat} : byM a b x y m = true ↔ x ≤ m ∧ m ≤ y ∧ a x m = true ∧ b m y = true := by
  unfold byM
  simp only [Bool.and_eq_true, decide_eq_true_iff]
  constructor
  · rintro ⟨⟨⟨h1, h2⟩, h3⟩, h4⟩; exact ⟨h1, h2, h3, h4⟩
  · rintro ⟨h1, h2, h3, h4⟩; exact ⟨⟨⟨h1, h2⟩, h3⟩, h4⟩
theorem mThen_iff {n : Nat} {a b : Mat} {i j : Nat} : mThen n a b i j = true ↔ ∃ m, m ≤ n ∧ i ≤ m ∧ m ≤ j ∧ a i m = true ∧ b m j = true := by
  unfold mThen
  simp only [List.any_eq_true, List.mem_range, byM_iff]
  constructor
  · rintro ⟨m, h1, h2⟩; exact ⟨m, by omega, h2⟩
  · rintro ⟨m, h1, h2⟩; exact ⟨m, by omega, h2⟩
theorem thenUpto_iff {n : Nat} {a b : Mat} {i k j x y : Nat} : thenUpto n a b i k j x y = true ↔ ∃ m, m ≤ n ∧ (x ≤ m ∧ m ≤ y ∧ a x m = true ∧ b m y = true) ∧ (x < i ∨ x = i ∧ (m < k ∨ m = k ∧ y < j)) := by
  unfold thenUpto
  simp only [List.any_eq_true, List.mem_range, Bool.and_eq_true, Bool.or_eq_true, decide_eq_true_iff, byM_iff]
  constructor
  · rintro ⟨m, h1, h2, h3⟩; exact ⟨m, by omega, h2, h3⟩
  · rintro ⟨m, h1, h2, h3⟩; exact ⟨m, by omega, h2, h3⟩

theorem thenUpto_start (n : Nat) (a b : Mat) (x y : Nat) : false = thenUpto n a b 0 0 0 x y := by
  symm
  rw [Bool.eq_false_iff]
  intro h
  obtain ⟨m, _, _, h⟩ := thenUpto_iff.1 h
  omega
theorem thenUpto_row (n : Nat) (a b : Mat) (i x y : Nat) : thenUpto n a b i (n + 1) (n + 1) x y = thenUpto n a b (i + 1) (i + 1) (i + 1) x y := by
  rw [Bool.eq_iff_iff, thenUpto_iff, thenUpto_iff]
  constructor
  · rintro ⟨m, h1, h2, h3⟩; exact ⟨m, h1, h2, by omega⟩
  · rintro ⟨m, h1, h2, h3⟩; exact ⟨m, h1, h2, by omega⟩
theorem thenUpto_mid (n : Nat) (a b : Mat) (i k x y : Nat) (hy : y ≤ n) : thenUpto n a b i k (n + 1) x y = thenUpto n a b i (k + 1) (k + 1) x y := by
  rw [Bool.eq_iff_iff, thenUpto_iff, thenUpto_iff]
  constructor
  · rintro ⟨m, h1, h2, h3⟩; exact ⟨m, h1, h2, by omega⟩
  · rintro ⟨m, h1, h2, h3⟩; exact ⟨m, h1, h2, by omega⟩
theorem thenUpto_none (n : Nat) (a b : Mat) (i k x y : Nat) (ha : a i k = false) : thenUpto n a b i k k x y = thenUpto n a b i (k + 1) (k + 1) x y := by
  rw [Bool.eq_iff_iff, thenUpto_iff, thenUpto_iff]
  constructor
  · rintro ⟨m, h1, h2, h3⟩; exact ⟨m, h1, h2, by omega⟩
  · rintro ⟨m, h1, h2, h3⟩
    refine ⟨m, h1, h2, ?_⟩
    by_cases hx : x = i ∧ m = k
    · obtain ⟨rfl, rfl⟩ := hx
      rw [ha] at h2
      simp at h2
    · omega
theorem thenUpto_done (n : Nat) (a b : Mat) (x y : Nat) (hx : x ≤ n) : thenUpto n a b (n + 1) (n + 1) (n + 1) x y = mThen n a b x y := by
  rw [Bool.eq_iff_iff, thenUpto_iff, mThen_iff]
  constructor
  · rintro ⟨m, h1, h2, h3⟩; exact ⟨m, h1, h2⟩
  · rintro ⟨m, h1, h2⟩; exact ⟨m, h1, h2, by omega⟩
theorem thenUpto_step (n : Nat) (a b : Mat) (i k j x y : Nat) (hik : i ≤ k) (hkj : k ≤ j) (hk : k ≤ n) (ha : a i k = true) :
    updM (thenUpto n a b i k j) i j (thenUpto n a b i k j i j || b k j) x y = thenUpto n a b i k (j + 1) x y := by
  rw [updM_at, Bool.eq_iff_iff, thenUpto_iff]
  split
  · rename_i h; obtain ⟨rfl, rfl⟩ := h
    rw [Bool.or_eq_true, thenUpto_iff]
    constructor
    · rintro (⟨m, h1, h2, h3⟩ | h)
      · exact ⟨m, h1, h2, by omega⟩
      · exact ⟨k, hk, ⟨hik, hkj, ha, h⟩, by omega⟩
    · rintro ⟨m, h1, h2, h3⟩
      by_cases hm : m = k
      · subst hm; exact Or.inr h2.2.2.2
      · exact Or.inl ⟨m, h1, h2, by omega⟩
  · rename_i h
    rw [thenUpto_iff]
    constructor
    · rintro ⟨m, h1, h2, h3⟩; exact ⟨m, h1, h2, by omega⟩
    · rintro ⟨m, h1, h2, h3⟩; exact ⟨m, h1, h2, by omega⟩

/-- As often as may be, from places of at least n - d: what begins at i ends at i, or where what begins behind it ends. -/
def manyD (n : Nat) (a : Mat) : Nat → Mat
  | 0 => fun i j => i == j
  | d + 1 => fun i j => i == j || (List.range (n + 1)).any fun m => decide (i < m) && decide (m ≤ j) && a i m && manyD n a d m j
/-- As often as may be. -/
def mMany (n : Nat) (a : Mat) : Mat := fun i j => manyD n a (n - i) i j

theorem manyD_more (n : Nat) (a : Mat) : ∀ d i j, n ≤ i + d → j ≤ n → manyD n a d i j = manyD n a (d + 1) i j := by
  intro d
  induction d with
  | zero =>
    intro i j h hj
    rw [Bool.eq_iff_iff]
    simp only [manyD, Bool.or_eq_true, List.any_eq_true, List.mem_range, Bool.and_eq_true, decide_eq_true_iff]
    constructor
    · exact Or.inl
    · rintro (h1 | ⟨m, h1, ⟨⟨h2, h3⟩, _⟩, _⟩)
      · exact h1
      · omega
  | succ d ih =>
    intro i j h hj
    rw [Bool.eq_iff_iff]
    conv => lhs; rw [manyD]
    conv => rhs; rw [manyD]
    simp only [Bool.or_eq_true, List.any_eq_true, List.mem_range, Bool.and_eq_true, decide_eq_true_iff]
    constructor
    · rintro (h1 | ⟨m, h1, ⟨⟨h2, h3⟩, h4⟩, h5⟩)
      · exact Or.inl h1
      · exact Or.inr ⟨m, h1, ⟨⟨h2, h3⟩, h4⟩, by rw [← ih m j (by omega) hj]; exact h5⟩
    · rintro (h1 | ⟨m, h1, ⟨⟨h2, h3⟩, h4⟩, h5⟩)
      · exact Or.inl h1
      · exact Or.inr ⟨m, h1, ⟨⟨h2, h3⟩, h4⟩, by rw [ih m j (by omega) hj]; exact h5⟩
theorem manyD_enough (n : Nat) (a : Mat) (i j : Nat) (hj : j ≤ n) (d : Nat) (h : n ≤ i + d) : manyD n a d i j = mMany n a i j := by
  unfold mMany
  have : ∀ e, manyD n a (n - i + e) i j = manyD n a (n - i) i j := by
    intro e
    induction e with
    | zero => rfl
    | succ e ih => rw [← ih, Nat.add_succ, ← manyD_more n a (n - i + e) i j (by omega) hj]
  have e : d = n - i + (d - (n - i)) := by omega
  rw [e, this]
theorem mMany_iff {n : Nat} {a : Mat} {i j : Nat} (hj : j ≤ n) : mMany n a i j = true ↔ i = j ∨ ∃ m, m ≤ n ∧ i < m ∧ m ≤ j ∧ a i m = true ∧ mMany n a m j = true := by
  rw [← manyD_enough n a i j hj (n + 1) (by omega), manyD]
  simp only [Bool.or_eq_true, beq_iff_eq, List.any_eq_true, List.mem_range, Bool.and_eq_true, decide_eq_true_iff]
  constructor
  · rintro (h | ⟨m, h1, ⟨⟨h2, h3⟩, h4⟩, h5⟩)
    · exact Or.inl h
    · exact Or.inr ⟨m, by omega, h2, h3, h4, by rw [manyD_enough n a m j hj n (by omega)] at h5; exact h5⟩
  · rintro (h | ⟨m, h1, h2, h3, h4, h5⟩)
    · exact Or.inl h
    · exact Or.inr ⟨m, by omega, ⟨⟨h2, h3⟩, h4⟩, by rw [manyD_enough n a m j hj n (by omega)]; exact h5⟩

/-- How far it has come, from the end: rows behind i are done; in row i the middles below k; of the middle k the places below j. -/
def manyUpto (n : Nat) (a : Mat) (i k j : Nat) : Mat := fun x y =>
  if i < x then mMany n a x y else if x = i then x == y || (List.range (n + 1)).any fun m => decide (x < m) && decide (m ≤ y) && a x m && mMany n a m y && decide (m < k ∨ m = k ∧ y < j) else x == y

theorem manyUpto_row_iff {n : Nat} {a : Mat} {i k j y : Nat} : manyUpto n a i k j i y = true ↔ i = y ∨ ∃ m, m ≤ n ∧ (i < m ∧ m ≤ y ∧ a i m = true ∧ mMany n a m y = true) ∧ (m < k ∨ m = k ∧ y < j) := by
  unfold manyUpto
  rw [if_neg (by omega), if_pos rfl]
  simp only [Bool.or_eq_true, beq_iff_eq, List.any_eq_true, List.mem_range, Bool.and_eq_true, decide_eq_true_iff]
  constructor
  · rintro (h | ⟨m, h1, ⟨⟨⟨h2, h3⟩, h4⟩, h5⟩, h6⟩)
    · exact Or.inl h
    · exact Or.inr ⟨m, by omega, ⟨h2, h3, h4, h5⟩, h6⟩
  · rintro (h | ⟨m, h1, ⟨h2, h3, h4, h5⟩, h6⟩)
    · exact Or.inl h
    · exact Or.inr ⟨m, by omega, ⟨⟨⟨h2, h3⟩, h4⟩, h5⟩, h6⟩
theorem manyUpto_other (n : Nat) (a : Mat) (i k j k' j' x y : Nat) (h : x ≠ i) : manyUpto n a i k j x y = manyUpto n a i k' j' x y := by
  unfold manyUpto
  simp only [if_neg h]
theorem manyUpto_behind (n : Nat) (a : Mat) (i k j x y : Nat) (h : i < x) : manyUpto n a i k j x y = mMany n a x y := by unfold manyUpto; rw [if_pos h]
theorem manyUpto_mid (n : Nat) (a : Mat) (i k x y : Nat) (hy : y ≤ n) : manyUpto n a i k (n + 1) x y = manyUpto n a i (k + 1) (k + 1) x y := by
  by_cases h : x = i
  · subst h
    rw [Bool.eq_iff_iff, manyUpto_row_iff, manyUpto_row_iff]
    constructor
    · rintro (h | ⟨m, h1, h2, h3⟩)
      · exact Or.inl h
      · exact Or.inr ⟨m, h1, h2, by omega⟩
    · rintro (h | ⟨m, h1, h2, h3⟩)
      · exact Or.inl h
      · exact Or.inr ⟨m, h1, h2, by omega⟩
  · exact manyUpto_other _ _ _ _ _ _ _ _ _ h
theorem manyUpto_none (n : Nat) (a : Mat) (i k x y : Nat) (ha : a i k = false) : manyUpto n a i k k x y = manyUpto n a i (k + 1) (k + 1) x y := by
  by_cases h : x = i
  · subst h
    rw [Bool.eq_iff_iff, manyUpto_row_iff, manyUpto_row_iff]
    constructor
    · rintro (h | ⟨m, h1, h2, h3⟩)
      · exact Or.inl h
      · exact Or.inr ⟨m, h1, h2, by omega⟩
    · rintro (h | ⟨m, h1, h2, h3⟩)
      · exact Or.inl h
      · refine Or.inr ⟨m, h1, h2, ?_⟩
        by_cases hm : m = k
        · subst hm; rw [ha] at h2; simp at h2
        · omega
  · exact manyUpto_other _ _ _ _ _ _ _ _ _ h
theorem manyUpto_step (n : Nat) (a : Mat) (i k j x y : Nat) (hik : i < k) (hkj : k ≤ j) (hk : k ≤ n) (ha : a i k = true) :
    updM (manyUpto n a i k j) i j (manyUpto n a i k j i j || mMany n a k j) x y = manyUpto n a i k (j + 1) x y := by
  rw [updM_at]
  split
  · rename_i h; obtain ⟨rfl, rfl⟩ := h
    rw [Bool.eq_iff_iff, Bool.or_eq_true, manyUpto_row_iff, manyUpto_row_iff]
    constructor
    · rintro ((h | ⟨m, h1, h2, h3⟩) | h)
      · exact Or.inl h
      · exact Or.inr ⟨m, h1, h2, by omega⟩
      · exact Or.inr ⟨k, hk, ⟨hik, hkj, ha, h⟩, by omega⟩
    · rintro (h | ⟨m, h1, h2, h3⟩)
      · exact Or.inl (Or.inl h)
      · by_cases hm : m = k
        · subst hm; exact Or.inr h2.2.2.2
        · exact Or.inl (Or.inr ⟨m, h1, h2, by omega⟩)
  · rename_i h
    by_cases hx : x = i
    · subst hx
      rw [Bool.eq_iff_iff, manyUpto_row_iff, manyUpto_row_iff]
      constructor
      · rintro (h' | ⟨m, h1, h2, h3⟩)
        · exact Or.inl h'
        · exact Or.inr ⟨m, h1, h2, by omega⟩
      · rintro (h' | ⟨m, h1, h2, h3⟩)
        · exact Or.inl h'
        · exact Or.inr ⟨m, h1, h2, by omega⟩
    · exact manyUpto_other _ _ _ _ _ _ _ _ _ hx
theorem manyUpto_full (n : Nat) (a : Mat) (i y : Nat) (hy : y ≤ n) : manyUpto n a i (n + 1) (n + 1) i y = mMany n a i y := by
  rw [Bool.eq_iff_iff, manyUpto_row_iff, mMany_iff hy]
  constructor
  · rintro (h | ⟨m, h1, h2, h3⟩)
    · exact Or.inl h
    · exact Or.inr ⟨m, h1, h2⟩
  · rintro (h | ⟨m, h1, h2⟩)
    · exact Or.inl h
    · exact Or.inr ⟨m, h1, h2, by omega⟩
/-- The row i is done: the next one is i - 1, none of its middles yet. -/
theorem manyUpto_row (n : Nat) (a : Mat) (i x y : Nat) (hy : y ≤ n) : manyUpto n a (i + 1) (n + 1) (n + 1) x y = manyUpto n a i (i + 1) (i + 1) x y := by
  by_cases h1 : i + 1 < x
  · rw [manyUpto_behind _ _ _ _ _ _ _ h1, manyUpto_behind _ _ _ _ _ _ _ (by omega)]
  by_cases h2 : x = i + 1
  · subst h2
    rw [manyUpto_full _ _ _ _ hy, manyUpto_behind _ _ _ _ _ _ _ (by omega)]
  by_cases h3 : x = i
  · subst h3
    have e : manyUpto n a (x + 1) (n + 1) (n + 1) x y = (x == y) := by unfold manyUpto; rw [if_neg (by omega), if_neg (by omega)]
    rw [e, Bool.eq_iff_iff, manyUpto_row_iff, beq_iff_eq]
    constructor
    · exact Or.inl
    · rintro (h | ⟨m, h1, h2, h3⟩)
      · exact h
      · omega
  · unfold manyUpto
    rw [if_neg (by omega), if_neg h2, if_neg (by omega), if_neg h3]
theorem manyUpto_start (n : Nat) (a : Mat) (x y : Nat) (hx : x ≤ n) (hy : y ≤ n) : (x == y) = manyUpto n a n (n + 1) (n + 1) x y := by
  by_cases h : x = n
  · subst h
    rw [Bool.eq_iff_iff, manyUpto_row_iff, beq_iff_eq]
    constructor
    · exact Or.inl
    · rintro (h | ⟨m, h1, h2, h3⟩)
      · exact h
      · omega
  · unfold manyUpto
    rw [if_neg (by omega), if_neg h]
end Go.Proofs.YtapniafhcagogaaGreatDoor
