/- Matrices whose ends lie from the place itself to the text's end: what the program's sums come to. -/
import Derived.Test.YthifleacfhijnaaDoorSpecRow
import Derived.Test.YthifleacfhijnaaDoorPlSingle
namespace Go.Proofs.YthifleacfhijnaaDoor

/-- What begins at a place of the text ends there or behind it, within the text. -/
def UpM (n : Nat) (M : Mat) : Prop := ∀ i j, i ≤ n → M i j = true → i ≤ j ∧ j ≤ n

theorem UpM.same (n : Nat) : UpM n mSame := by
  intro i j hi h
  have : i = j := by simpa [mSame] using h
  omega
theorem UpM.then {n : Nat} {a b : Mat} (hb : UpM n b) : UpM n (mThen n a b) := by
  intro i j hi h
  obtain ⟨m, h1, h2, h3, _, h5⟩ := mThen_iff.1 h
  have := hb m j h1 h5
  omega
theorem UpM.add {n : Nat} {a b : Mat} (ha : UpM n a) (hb : UpM n b) : UpM n (mAdd a b) := by
  intro i j hi h
  simp only [mAdd, Bool.or_eq_true, Bool.and_eq_true] at h
  rcases h with h | ⟨_, h⟩
  · exact ha i j hi h
  · exact hb i j hi h
theorem manyD_up (n : Nat) (a : Mat) : ∀ d i j, i ≤ n → manyD n a d i j = true → i ≤ j ∧ j ≤ n := by
  intro d
  induction d with
  | zero =>
    intro i j hi h
    have : i = j := by simpa [manyD] using h
    omega
  | succ d ih =>
    intro i j hi h
    rw [manyD] at h
    simp only [Bool.or_eq_true, beq_iff_eq, List.any_eq_true, List.mem_range, Bool.and_eq_true, decide_eq_true_iff] at h
    rcases h with h | ⟨m, h1, ⟨⟨h2, h3⟩, _⟩, h5⟩
    · omega
    · have := ih m j (by omega) h5
      omega
theorem UpM.many (n : Nat) (a : Mat) : UpM n (mMany n a) := fun i j hi h => manyD_up n a _ i j hi h

theorem mThen_same {n : Nat} {M : Mat} (h : UpM n M) (i j : Nat) (hi : i ≤ n) : mThen n mSame M i j = M i j := by
  rw [Bool.eq_iff_iff, mThen_iff]
  constructor
  · rintro ⟨m, h1, h2, h3, h4, h5⟩
    have : i = m := by simpa [mSame] using h4
    subst this
    exact h5
  · intro h5
    have := h i j hi h5
    exact ⟨i, hi, Nat.le_refl _, this.1, by simp [mSame], h5⟩
theorem mAdd_none {n : Nat} {M : Mat} (h : UpM n M) (i j : Nat) (hi : i ≤ n) : mAdd mNone M i j = M i j := by
  rw [Bool.eq_iff_iff]
  simp only [mAdd, mNone, Bool.false_or, Bool.and_eq_true, decide_eq_true_iff]
  exact ⟨fun h => h.2, fun h5 => ⟨(h i j hi h5).1, h5⟩⟩
theorem mAdd_or {n : Nat} {a b : Mat} (hb : UpM n b) (i j : Nat) (hi : i ≤ n) : mAdd a b i j = (a i j || b i j) := by
  rw [Bool.eq_iff_iff]
  simp only [mAdd, Bool.or_eq_true, Bool.and_eq_true, decide_eq_true_iff]
  constructor
  · rintro (h | h); exact .inl h; exact .inr h.2
  · rintro (h | h); exact .inl h; exact .inr ⟨(hb i j hi h).1, h⟩

theorem mem_rowUpto (f : Nat → Bool) (k m : Nat) : m ∈ rowUpto f k ↔ m < k ∧ f m = true := by
  simp [rowUpto, List.mem_filter]

/-- One behind the other, in the order of the middles: what they bring together. -/
theorem behind_done {n : Nat} {a b : Mat} (ha : UpM n a) (hb : UpM n b) (hn : n < 256) (i y : Nat) (hi : i ≤ n) : ((rowUpto (a i) 256).any fun m => b m y) = mThen n a b i y := by
  rw [Bool.eq_iff_iff, mThen_iff]
  simp only [List.any_eq_true, mem_rowUpto]
  constructor
  · rintro ⟨m, ⟨_, h1⟩, h2⟩
    have h3 := ha i m hi h1
    exact ⟨m, h3.2, h3.1, (hb m y h3.2 h2).1, h1, h2⟩
  · rintro ⟨m, h1, _, _, h4, h5⟩
    exact ⟨m, ⟨by omega, h4⟩, h5⟩

/-- As often as may be, row i, once these middles have been added. -/
def oftU (n : Nat) (a : Mat) (i : Nat) (pre : List Nat) (y : Nat) : Bool := y == i || pre.any fun m => decide (i < m) && mMany n a m y
theorem oftU_nil (n : Nat) (a : Mat) (i y : Nat) : oftU n a i [] y = (y == i) := by simp [oftU]
/-- One's own place adds nothing. -/
theorem oftU_own (n : Nat) (a : Mat) (i : Nat) (pre : List Nat) (y : Nat) : oftU n a i (pre ++ [i]) y = (oftU n a i pre y || oftU n a i pre y) := by
  simp [oftU, List.any_append]
theorem oftU_step (n : Nat) (a : Mat) (i : Nat) (pre : List Nat) (x y : Nat) (hx : i < x) : oftU n a i (pre ++ [x]) y = (oftU n a i pre y || mMany n a x y) := by
  simp [oftU, List.any_append, hx, Bool.or_assoc]
theorem oftU_done {n : Nat} {a : Mat} (ha : UpM n a) (hn : n < 256) (i y : Nat) (hi : i ≤ n) : oftU n a i (rowUpto (a i) 256) y = mMany n a i y := by
  by_cases hy : y ≤ n
  · rw [Bool.eq_iff_iff, mMany_iff hy]
    simp only [oftU, Bool.or_eq_true, beq_iff_eq, List.any_eq_true, mem_rowUpto, Bool.and_eq_true, decide_eq_true_iff]
    constructor
    · rintro (h | ⟨m, ⟨_, h1⟩, h2, h3⟩)
      · exact .inl h.symm
      · have h4 := ha i m hi h1
        exact .inr ⟨m, h4.2, h2, (UpM.many n a m y h4.2 h3).1, h1, h3⟩
    · rintro (h | ⟨m, h1, h2, _, h4, h5⟩)
      · exact .inl h.symm
      · exact .inr ⟨m, ⟨by omega, h4⟩, h2, h5⟩
  · have h1 : mMany n a i y = false := by
      rw [Bool.eq_false_iff]
      intro h
      have := UpM.many n a i y hi h
      omega
    rw [h1, Bool.eq_false_iff]
    intro h
    simp only [oftU, Bool.or_eq_true, beq_iff_eq, List.any_eq_true, mem_rowUpto, Bool.and_eq_true, decide_eq_true_iff] at h
    rcases h with h | ⟨m, ⟨_, h2⟩, _, h3⟩
    · omega
    · have := UpM.many n a m y (ha i m hi h2).2 h3
      omega
end Go.Proofs.YthifleacfhijnaaDoor
