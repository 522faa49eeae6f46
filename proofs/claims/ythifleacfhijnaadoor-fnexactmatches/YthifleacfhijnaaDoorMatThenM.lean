/- Matrices: one behind the other; as often as may be. -/
import Derived.Test.YthifleacfhijnaaDoorMatDef
namespace Go.Proofs.YthifleacfhijnaaDoor

/-- What the middle m brings to row x, place y. -/
def byM (a b : Mat) (x y m : Nat) : Bool := decide (x ≤ m) && decide (m ≤ y) && a x m && b m y
/-- One behind the other. -/
def mThen (n : Nat) (a b : Mat) : Mat := fun i j => (List.range (n + 1)).any fun m => byM a b i j m
/-- How far it has come: rows below i; in row i the middles below k; of the middle k the places below j. -/
def thenUpto (n : Nat) (a b : Mat) (i k j : Nat) : Mat := fun x y => (List.range (n + 1)).any fun m => byM a b x y m && (decide (x < i) || decide (x = i ∧ (m < k ∨ m = k ∧ y < j)))

theorem byM_iff {a b : Mat} {x y m : Nat} : byM a b x y m = true ↔ x ≤ m ∧ m ≤ y ∧ a x m = true ∧ b m y = true := by
  unfold byM
  simp only [Bool.and_eq_true, decide_eq_true_iff]
  constructor
  · rintro ⟨⟨⟨h1, h2⟩, h3⟩, h4⟩; exact ⟨h1, h2, h3, h4⟩
  · rintro ⟨h1, h2, h3, h4⟩; exact ⟨⟨⟨h1, h2⟩, h3⟩, h4⟩
theorem mThen_iff {n : Nat} {a b : Mat} {i j : Nat} : mThen n a b i j = true ↔ ∃ m, m ≤ n ∧ i ≤ m ∧ m ≤ j ∧ a i m = true ∧ b m j = true := by
  unfold mThen
  simp only [List.any_eq_true, List.mem_range, byM_iff]
  constructor
  · rintro ⟨m, h1, h2⟩; exact ⟨m, by omega, h2⟩
  · rintro ⟨m, h1, h2⟩; exact ⟨m, by omega, h2⟩
theorem thenUpto_iff {n : Nat} {a b : Mat} {i k j x y : Nat} : thenUpto n a b i k j x y = true ↔ ∃ m, m ≤ n ∧ (x ≤ m ∧ m ≤ y ∧ a x m = true ∧ b m y = true) ∧ (x < i ∨ x = i ∧ (m < k ∨ m = k ∧ y < j)) := by
  unfold thenUpto
  simp only [List.any_eq_true, List.mem_range, Bool.and_eq_true, Bool.or_eq_true, decide_eq_true_iff, byM_iff]
  constructor
  · rintro ⟨m, h1, h2, h3⟩; exact ⟨m, by omega, h2, h3⟩
  · rintro ⟨m, h1, h2, h3⟩; exact ⟨m, by omega, h2, h3⟩

theorem thenUpto_start (n : Nat) (a b : Mat) (x y : Nat) : false = thenUpto n a b 0 0 0 x y := by
  symm
  rw [Bool.eq_false_iff]
  intro h
  obtain ⟨m, _, _, h⟩ := thenUpto_iff.1 h
  omega
theorem thenUpto_row (n : Nat) (a b : Mat) (i x y : Nat) : thenUpto n a b i (n + 1) (n + 1) x y = thenUpto n a b (i + 1) (i + 1) (i + 1) x y := by
  rw [Bool.eq_iff_iff, thenUpto_iff, thenUpto_iff]
  constructor
  · rintro ⟨m, h1, h2, h3⟩; exact ⟨m, h1, h2, by omega⟩
  · rintro ⟨m, h1, h2, h3⟩; exact ⟨m, h1, h2, by omega⟩
theorem thenUpto_mid (n : Nat) (a b : Mat) (i k x y : Nat) (hy : y ≤ n) : thenUpto n a b i k (n + 1) x y = thenUpto n a b i (k + 1) (k + 1) x y := by
  rw [Bool.eq_iff_iff, thenUpto_iff, thenUpto_iff]
  constructor
  · rintro ⟨m, h1, h2, h3⟩; exact ⟨m, h1, h2, by omega⟩
  · rintro ⟨m, h1, h2, h3⟩; exact ⟨m, h1, h2, by omega⟩
theorem thenUpto_none (n : Nat) (a b : Mat) (i k x y : Nat) (ha : a i k = false) : thenUpto n a b i k k x y = thenUpto n a b i (k + 1) (k + 1) x y := by
  rw [Bool.eq_iff_iff, thenUpto_iff, thenUpto_iff]
  constructor
  · rintro ⟨m, h1, h2, h3⟩; exact ⟨m, h1, h2, by omega⟩
  · rintro ⟨m, h1, h2, h3⟩
    refine ⟨m, h1, h2, ?_⟩
    by_cases hx : x = i ∧ m = k
    · obtain ⟨rfl, rfl⟩ := hx
      rw [ha] at h2
      simp at h2
    · omega
theorem thenUpto_done (n : Nat) (a b : Mat) (x y : Nat) (hx : x ≤ n) : thenUpto n a b (n + 1) (n + 1) (n + 1) x y = mThen n a b x y := by
  rw [Bool.eq_iff_iff, thenUpto_iff, mThen_iff]
  constructor
  · rintro ⟨m, h1, h2, h3⟩; exact ⟨m, h1, h2⟩
  · rintro ⟨m, h1, h2⟩; exact ⟨m, h1, h2, by omega⟩
theorem thenUpto_step (n : Nat) (a b : Mat) (i k j x y : Nat) (hik : i ≤ k) (hkj : k ≤ j) (hk : k ≤ n) (ha : a i k = true) :
    updM (thenUpto n a b i k j) i j (thenUpto n a b i k j i j || b k j) x y = thenUpto n a b i k (j + 1) x y := by
  rw [updM_at, Bool.eq_iff_iff, thenUpto_iff]
  split
  · rename_i h; obtain ⟨rfl, rfl⟩ := h
    rw [Bool.or_eq_true, thenUpto_iff]
    constructor
    · rintro (⟨m, h1, h2, h3⟩ | h)
      · exact ⟨m, h1, h2, by omega⟩
      · exact ⟨k, hk, ⟨hik, hkj, ha, h⟩, by omega⟩
    · rintro ⟨m, h1, h2, h3⟩
      by_cases hm : m = k
      · subst hm; exact Or.inr h2.2.2.2
      · exact Or.inl ⟨m, h1, h2, by omega⟩
  · rename_i h
    rw [thenUpto_iff]
    constructor
    · rintro ⟨m, h1, h2, h3⟩; exact ⟨m, h1, h2, by omega⟩
    · rintro ⟨m, h1, h2, h3⟩; exact ⟨m, h1, h2, by omega⟩

/-- As often as may be, from places of at least n - d: what begins at i ends at i, or where what begins behind it ends. -/
def manyD (n : Nat) (a : Mat) : Nat → Mat
  | 0 => fun i j => i == j
  | d + 1 => fun i j => i == j || (List.range (n + 1)).any fun m => decide (i < m) && decide (m ≤ j) && a i m && manyD n a d m j
/-- As often as may be. -/
def mMany (n : Nat) (a : Mat) : Mat := fun i j => manyD n a (n - i) i j

theorem manyD_more (n : Nat) (a : Mat) : ∀ d i j, n ≤ i + d → j ≤ n → manyD n a d i j = manyD n a (d + 1) i j := by
  intro d
  induction d with
  | zero =>
    intro i j h hj
    rw [Bool.eq_iff_iff]
    simp only [manyD, Bool.or_eq_true, List.any_eq_true, List.mem_range, Bool.and_eq_true, decide_eq_true_iff]
    constructor
    · exact Or.inl
    · rintro (h1 | ⟨m, h1, ⟨⟨h2, h3⟩, _⟩, _⟩)
      · exact h1
      · omega
  | succ d ih =>
    intro i j h hj
    rw [Bool.eq_iff_iff]
    conv => lhs; rw [manyD]
    conv => rhs; rw [manyD]
    simp only [Bool.or_eq_true, List.any_eq_true, List.mem_range, Bool.and_eq_true, decide_eq_true_iff]
    constructor
    · rintro (h1 | ⟨m, h1, ⟨⟨h2, h3⟩, h4⟩, h5⟩)
      · exact Or.inl h1
      · exact Or.inr ⟨m, h1, ⟨⟨h2, h3⟩, h4⟩, by rw [← ih m j (by omega) hj]; exact h5⟩
    · rintro (h1 | ⟨m, h1, ⟨⟨h2, h3⟩, h4⟩, h5⟩)
      · exact Or.inl h1
      · exact Or.inr ⟨m, h1, ⟨⟨h2, h3⟩, h4⟩, by rw [ih m j (by omega) hj]; exact h5⟩
theorem manyD_enough (n : Nat) (a : Mat) (i j : Nat) (hj : j ≤ n) (d : Nat) (h : n ≤ i + d) : manyD n a d i j = mMany n a i j := by
  unfold mMany
  have : ∀ e, manyD n a (n - i + e) i j = manyD n a (n - i) i j := by
    intro e
    induction e with
    | zero => rfl
    | succ e ih => rw [← ih, Nat.add_succ, ← manyD_more n a (n - i + e) i j (by omega) hj]
  have e : d = n - i + (d - (n - i)) := by omega
  rw [e, this]
theorem mMany_iff {n : Nat} {a : Mat} {i j : Nat} (hj : j ≤ n) : mMany n a i j = true ↔ i = j ∨ ∃ m, m ≤ n ∧ i < m ∧ m ≤ j ∧ a i m = true ∧ mMany n a m j = true := by
  rw [← manyD_enough n a i j hj (n + 1) (by omega), manyD]
  simp only [Bool.or_eq_true, beq_iff_eq, List.any_eq_true, List.mem_range, Bool.and_eq_true, decide_eq_true_iff]
  constructor
  · rintro (h | ⟨m, h1, ⟨⟨h2, h3⟩, h4⟩, h5⟩)
    · exact Or.inl h
    · exact Or.inr ⟨m, by omega, h2, h3, h4, by rw [manyD_enough n a m j hj n (by omega)] at h5; exact h5⟩
  · rintro (h | ⟨m, h1, h2, h3, h4, h5⟩)
    · exact Or.inl h
    · exact Or.inr ⟨m, by omega, ⟨⟨h2, h3⟩, h4⟩, by rw [manyD_enough n a m j hj n (by omega)]; exact h5⟩

/-- How far it has come, from the end: rows behind i are done; in row i the middles below k; of the middle k the places below j. -/
def manyUpto (n : Nat) (a : Mat) (i k j : Nat) : Mat := fun x y =>
  if i < x then mMany n a x y else if x = i then x == y || (List.range (n + 1)).any fun m => decide (x < m) && decide (m ≤ y) && a x m && mMany n a m y && decide (m < k ∨ m = k ∧ y < j) else x == y

theorem manyUpto_row_iff {n : Nat} {a : Mat} {i k j y : Nat} : manyUpto n a i k j i y = true ↔ i = y ∨ ∃ m, m ≤ n ∧ (i < m ∧ m ≤ y ∧ a i m = true ∧ mMany n a m y = true) ∧ (m < k ∨ m = k ∧ y < j) := by
  unfold manyUpto
  rw [if_neg (by omega), if_pos rfl]
  simp only [Bool.or_eq_true, beq_iff_eq, List.any_eq_true, List.mem_range, Bool.and_eq_true, decide_eq_true_iff]
  constructor
  · rintro (h | ⟨m, h1, ⟨⟨⟨h2, h3⟩, h4⟩, h5⟩, h6⟩)
    · exact Or.inl h
    · exact Or.inr ⟨m, by omega, ⟨h2, h3, h4, h5⟩, h6⟩
  · rintro (h | ⟨m, h1, ⟨h2, h3, h4, h5⟩, h6⟩)
    · exact Or.inl h
    · exact Or.inr ⟨m, by omega, ⟨⟨⟨h2, h3⟩, h4⟩, h5⟩, h6⟩
theorem manyUpto_other (n : Nat) (a : Mat) (i k j k' j' x y : Nat) (h : x ≠ i) : manyUpto n a i k j x y = manyUpto n a i k' j' x y := by
  unfold manyUpto
  simp only [if_neg h]
theorem manyUpto_behind (n : Nat) (a : Mat) (i k j x y : Nat) (h : i < x) : manyUpto n a i k j x y = mMany n a x y := by unfold manyUpto; rw [if_pos h]
theorem manyUpto_mid (n : Nat) (a : Mat) (i k x y : Nat) (hy : y ≤ n) : manyUpto n a i k (n + 1) x y = manyUpto n a i (k + 1) (k + 1) x y := by
  by_cases h : x = i
  · subst h
    rw [Bool.eq_iff_iff, manyUpto_row_iff, manyUpto_row_iff]
    constructor
    · rintro (h | ⟨m, h1, h2, h3⟩)
      · exact Or.inl h
      · exact Or.inr ⟨m, h1, h2, by omega⟩
    · rintro (h | ⟨m, h1, h2, h3⟩)
      · exact Or.inl h
      · exact Or.inr ⟨m, h1, h2, by omega⟩
  · exact manyUpto_other _ _ _ _ _ _ _ _ _ h
theorem manyUpto_none (n : Nat) (a : Mat) (i k x y : Nat) (ha : a i k = false) : manyUpto n a i k k x y = manyUpto n a i (k + 1) (k + 1) x y := by
  by_cases h : x = i
  · subst h
    rw [Bool.eq_iff_iff, manyUpto_row_iff, manyUpto_row_iff]
    constructor
    · rintro (h | ⟨m, h1, h2, h3⟩)
      · exact Or.inl h
      · exact Or.inr ⟨m, h1, h2, by omega⟩
    · rintro (h | ⟨m, h1, h2, h3⟩)
      · exact Or.inl h
      · refine Or.inr ⟨m, h1, h2, ?_⟩
        by_cases hm : m = k
        · subst hm; rw [ha] at h2; simp at h2
        · omega
  · exact manyUpto_other _ _ _ _ _ _ _ _ _ h
theorem manyUpto_step (n : Nat) (a : Mat) (i k j x y : Nat) (hik : i < k) (hkj : k ≤ j) (hk : k ≤ n) (ha : a i k = true) :
    updM (manyUpto n a i k j) i j (manyUpto n a i k j i j || mMany n a k j) x y = manyUpto n a i k (j + 1) x y := by
  rw [updM_at]
  split
  · rename_i h; obtain ⟨rfl, rfl⟩ := h
    rw [Bool.eq_iff_iff, Bool.or_eq_true, manyUpto_row_iff, manyUpto_row_iff]
    constructor
    · rintro ((h | ⟨m, h1, h2, h3⟩) | h)
      · exact Or.inl h
      · exact Or.inr ⟨m, h1, h2, by omega⟩
      · exact Or.inr ⟨k, hk, ⟨hik, hkj, ha, h⟩, by omega⟩
    · rintro (h | ⟨m, h1, h2, h3⟩)
      · exact Or.inl (Or.inl h)
      · by_cases hm : m = k
        · subst hm; exact Or.inr h2.2.2.2
        · exact Or.inl (Or.inr ⟨m, h1, h2, by omega⟩)
  · rename_i h
    by_cases hx : x = i
    · subst hx
      rw [Bool.eq_iff_iff, manyUpto_row_iff, manyUpto_row_iff]
      constructor
      · rintro (h' | ⟨m, h1, h2, h3⟩)
        · exact Or.inl h'
        · exact Or.inr ⟨m, h1, h2, by omega⟩
      · rintro (h' | ⟨m, h1, h2, h3⟩)
        · exact Or.inl h'
        · exact Or.inr ⟨m, h1, h2, by omega⟩
    · exact manyUpto_other _ _ _ _ _ _ _ _ _ hx
theorem manyUpto_full (n : Nat) (a : Mat) (i y : Nat) (hy : y ≤ n) : manyUpto n a i (n + 1) (n + 1) i y = mMany n a i y := by
  rw [Bool.eq_iff_iff, manyUpto_row_iff, mMany_iff hy]
  constructor
  · rintro (h | ⟨m, h1, h2, h3⟩)
    · exact Or.inl h
    · exact Or.inr ⟨m, h1, h2⟩
  · rintro (h | ⟨m, h1, h2⟩)
    · exact Or.inl h
    · exact Or.inr ⟨m, h1, h2, by omega⟩
/-- The row i is done: the next one is i - 1, none of its middles yet. -/
theorem manyUpto_row (n : Nat) (a : Mat) (i x y : Nat) (hy : y ≤ n) : manyUpto n a (i + 1) (n + 1) (n + 1) x y = manyUpto n a i (i + 1) (i + 1) x y := by
  by_cases h1 : i + 1 < x
  · rw [manyUpto_behind _ _ _ _ _ _ _ h1, manyUpto_behind _ _ _ _ _ _ _ (by omega)]
  by_cases h2 : x = i + 1
  · subst h2
    rw [manyUpto_full _ _ _ _ hy, manyUpto_behind _ _ _ _ _ _ _ (by omega)]
  by_cases h3 : x = i
  · subst h3
    have e : manyUpto n a (x + 1) (n + 1) (n + 1) x y = (x == y) := by unfold manyUpto; rw [if_neg (by omega), if_neg (by omega)]
    rw [e, Bool.eq_iff_iff, manyUpto_row_iff, beq_iff_eq]
    constructor
    · exact Or.inl
    · rintro (h | ⟨m, h1, h2, h3⟩)
      · exact h
      · omega
  · unfold manyUpto
    rw [if_neg (by omega), if_neg h2, if_neg (by omega), if_neg h3]
theorem manyUpto_start (n : Nat) (a : Mat) (x y : Nat) (hx : x ≤ n) (hy : y ≤ n) : (x == y) = manyUpto n a n (n + 1) (n + 1) x y := by
  by_cases h : x = n
  · subst h
    rw [Bool.eq_iff_iff, manyUpto_row_iff, beq_iff_eq]
    constructor
    · exact Or.inl
    · rintro (h | ⟨m, h1, h2, h3⟩)
      · exact h
      · omega
  · unfold manyUpto
    rw [if_neg (by omega), if_neg h]
end Go.Proofs.YthifleacfhijnaaDoor
