/- Matrices whose ends lie from the place itself to the text's end: what the program's sums come to. Every tree's matrix is bounded; single parts, the program's and the model's. Sums that begin with their first part. -/
import Derived.Test.YtapniafhcagogaaGreatDoorSpecRow
import Derived.Test.YtapniafhcagogaaGreatDoorPlSingle
namespace Go.Proofs.YtapniafhcagogaaGreatDoor

/-- What begins at a place of the text ends there or behind it, within the text. -/
def UpM (n : Nat) (M : Mat) : Prop := ∀ i j, i ≤ n → M i j = true → i ≤ j ∧ j ≤ n

theorem UpM.same (n : Nat) : UpM n mSame := by
  intro i j hi h
  have : i = j := by simpa [mSame] using h
  omega
theorem UpM.then {n : Nat} {a b : Mat} (hb : UpM n b) : UpM n (mThen n a b) := by
  intro i j hi h
  obtain ⟨m, h1, h2, h3, _, h5⟩ := mThen_iff.1 h
  have := hb m j h1 h5
  omega
theorem UpM.add {n : Nat} {a b : Mat} (ha : UpM n a) (hb : UpM n b) : UpM n (mAdd a b) := by
  intro i j hi h
  simp only [mAdd, Bool.or_eq_true, Bool.and_eq_true] at h
  rcases h with h | ⟨_, h⟩
  · exact ha i j hi h
  · exact hb i j hi h
theorem manyD_up (n : Nat) (a : Mat) : ∀ d i j, i ≤ n → manyD n a d i j = true → i ≤ j ∧ j ≤ n := by
  intro d
  induction d with
  | zero =>
    intro i j hi h
    have : i = j := by simpa [manyD] using h
    omega
  | succ d ih =>
    intro i j hi h
    rw [manyD] at h
    simp only [Bool.or_eq_true, beq_iff_eq, List.any_eq_true, List.mem_range, Bool.and_eq_true, decide_eq_true_iff] at h
    rcases h with h | ⟨m, h1, ⟨⟨h2, h3⟩, _⟩, h5⟩
    · omega
    · have := ih m j (by omega) h5
      omega
theorem UpM.many (n : Nat) (a : Mat) : UpM n (mMany n a) := fun i j hi h => manyD_up n a _ i j hi h

theorem mThen_same {n : Nat} {M : Mat} (h : UpM n M) (i j : Nat) (hi : i ≤ n) : mThen n mSame M i j = M i j := by
  rw [Bool.eq_iff_iff, mThen_iff]
  constructor
  · rintro ⟨m, h1, h2, h3, h4, h5⟩
    have : i = m := by simpa [mSame] using h4
    subst this
    exact h5
  · intro h5
    have := h i j hi h5
    exact ⟨i, hi, Nat.le_refl _, this.1, by simp [mSame], h5⟩
theorem mAdd_none {n : Nat} {M : Mat} (h : UpM n M) (i j : Nat) (hi : i ≤ n) : mAdd mNone M i j = M i j := by
  rw [Bool.eq_iff_iff]
  simp only [mAdd, mNone, Bool.false_or, Bool.and_eq_true, decide_eq_true_iff]
  exact ⟨fun h => h.2, fun h5 => ⟨(h i j hi h5).1, h5⟩⟩
theorem mAdd_or {n : Nat} {a b : Mat} (hb : UpM n b) (i j : Nat) (hi : i ≤ n) : mAdd a b i j = (a i j || b i j) := by
  rw [Bool.eq_iff_iff]
  simp only [mAdd, Bool.or_eq_true, Bool.and_eq_true, decide_eq_true_iff]
  constructor
  · rintro (h | h); exact .inl h; exact .inr h.2
  · rintro (h | h); exact .inl h; exact .inr ⟨(hb i j hi h).1, h⟩

theorem mem_rowUpto (f : Nat → Bool) (k m : Nat) : m ∈ rowUpto f k ↔ m < k ∧ f m = true := by
  simp [rowUpto, List.mem_filter]

/-- One behind the other, in the order of the middles: what they bring together. -/
theorem behind_done {n : Nat} {a b : Mat} (ha : UpM n a) (hb : UpM n b) (hn : n < 256) (i y : Nat) (hi : i ≤ n) : ((rowUpto (a i) 256).any fun m => b m y) = mThen n a b i y := by
  rw [Bool.eq_iff_iff, mThen_iff]
  simp only [List.any_eq_true, mem_rowUpto]
  constructor
  · rintro ⟨m, ⟨_, h1⟩, h2⟩
    have h3 := ha i m hi h1
    exact ⟨m, h3.2, h3.1, (hb m y h3.2 h2).1, h1, h2⟩
  · rintro ⟨m, h1, _, _, h4, h5⟩
    exact ⟨m, ⟨by omega, h4⟩, h5⟩

/-- As often as may be, row i, once these middles have been added. -/
def oftU (n : Nat) (a : Mat) (i : Nat) (pre : List Nat) (y : Nat) : Bool := y == i || pre.any fun m => decide (i < m) && mMany n a m y
theorem oftU_nil (n : Nat) (a : Mat) (i y : Nat) : oftU n a i [] y = (y == i) := by simp [oftU]
/-- One's own place adds nothing. -/
theorem oftU_own (n : Nat) (a : Mat) (i : Nat) (pre : List Nat) (y : Nat) : oftU n a i (pre ++ [i]) y = (oftU n a i pre y || oftU n a i pre y) := by
  simp [oftU, List.any_append]
theorem oftU_step (n : Nat) (a : Mat) (i : Nat) (pre : List Nat) (x y : Nat) (hx : i < x) : oftU n a i (pre ++ [x]) y = (oftU n a i pre y || mMany n a x y) := by
  simp [oftU, List.any_append, hx, Bool.or_assoc]
theorem oftU_done {n : Nat} {a : Mat} (ha : UpM n a) (hn : n < 256) (i y : Nat) (hi : i ≤ n) : oftU n a i (rowUpto (a i) 256) y = mMany n a i y := by
  by_cases hy : y ≤ n
  · rw [Bool.eq_iff_iff, mMany_iff hy]
    simp only [oftU, Bool.or_eq_true, beq_iff_eq, List.any_eq_true, mem_rowUpto, Bool.and_eq_true, decide_eq_true_iff]
    constructor
    · rintro (h | ⟨m, ⟨_, h1⟩, h2, h3⟩)
      · exact .inl h.symm
      · have h4 := ha i m hi h1
        exact .inr ⟨m, h4.2, h2, (UpM.many n a m y h4.2 h3).1, h1, h3⟩
    · rintro (h | ⟨m, h1, h2, _, h4, h5⟩)
      · exact .inl h.symm
      · exact .inr ⟨m, ⟨by omega, h4⟩, h2, h5⟩
  · have h1 : mMany n a i y = false := by
      rw [Bool.eq_false_iff]
      intro h
      have := UpM.many n a i y hi h
      omega
    rw [h1, Bool.eq_false_iff]
    intro h
    simp only [oftU, Bool.or_eq_true, beq_iff_eq, List.any_eq_true, mem_rowUpto, Bool.and_eq_true, decide_eq_true_iff] at h
    rcases h with h | ⟨m, ⟨_, h2⟩, _, h3⟩
    · omega
    · have := UpM.many n a m y (ha i m hi h2).2 h3
      omega
end Go.Proofs.YtapniafhcagogaaGreatDoor

namespace Go.Proofs.YtapniafhcagogaaGreatDoor

theorem UpM.one (s : ByteArray) (k : Int) (c : ByteArray) : UpM s.size (mOne s k c) := by
  intro i j hi h
  simp only [mOne, Bool.and_eq_true, decide_eq_true_iff] at h
  omega
theorem UpM.none (n : Nat) : UpM n mNone := fun i j _ h => by simp [mNone] at h
theorem UpM.thens {n : Nat} (L : List Mat) (hL : ∀ M ∈ L, UpM n M) : ∀ A, UpM n A → UpM n (L.foldl (mThen n) A) := by
  induction L with
  | nil => intro A hA; exact hA
  | cons M r ih =>
    intro A _
    exact ih (fun M' h => hL M' (List.mem_cons_of_mem _ h)) _ (UpM.then (hL M (List.mem_cons_self ..)))
theorem UpM.adds {n : Nat} (L : List Mat) (hL : ∀ M ∈ L, UpM n M) : ∀ A, UpM n A → UpM n (L.foldl mAdd A) := by
  induction L with
  | nil => intro A hA; exact hA
  | cons M r ih =>
    intro A hA
    exact ih (fun M' h => hL M' (List.mem_cons_of_mem _ h)) _ (UpM.add hA (hL M (List.mem_cons_self ..)))
theorem UpM.head {n : Nat} (L : List Mat) (hL : ∀ M ∈ L, UpM n M) : UpM n (L.headD mSame) := by
  cases L with
  | nil => exact UpM.same n
  | cons M r => exact hL M (List.mem_cons_self ..)
theorem UpM.node (s : ByteArray) (k : Int) (c : ByteArray) (L : List Mat) (hL : ∀ M ∈ L, UpM s.size M) : UpM s.size (nodeM s k c L) := by
  have hS : ∀ p : Nat → Bool, UpM s.size (fun i j => i == j && p i) := by
    intro p i j hi h
    simp only [Bool.and_eq_true, beq_iff_eq] at h
    omega
  unfold nodeM
  split
  · exact UpM.one s k c
  split
  · exact UpM.thens L hL _ (UpM.same _)
  split
  · exact UpM.adds L hL _ (UpM.none _)
  split
  · exact UpM.many _ _
  split
  · exact UpM.then (UpM.many _ _)
  split
  · exact UpM.add (UpM.same _) (UpM.head L hL)
  split
  · exact hS fun i => decide (i = 0)
  split
  · exact hS fun i => decide (i = s.size)
  · exact UpM.same _
theorem UpM.tree (s : ByteArray) (t : Tr) : UpM s.size (t.endM s) := by
  refine Tr.ind (P := fun t => UpM s.size (t.endM s)) ?_ t
  intro t ih
  rw [endM_eq]
  refine UpM.node s _ _ _ ?_
  intro M hM
  obtain ⟨u, hu, rfl⟩ := List.mem_map.1 hM
  exact ih u hu

/-- A single part: what the program says is what the matrix has. -/
theorem mSing_node (s : ByteArray) (k : Int) (c : ByteArray) (L : List Mat) (hk : k = 1 ∨ k = 2 ∨ k = 3 ∨ k = 9 ∨ k = 10 ∨ k = 11) (i y : Nat) : mSing s k c i y = nodeM s k c L i y := by
  rcases hk with rfl | rfl | rfl | rfl | rfl | rfl
  · rw [Bool.eq_iff_iff]; simp [mSing, nodeM, mOne, tkI, tkB, noB]; constructor <;> (intro h; simp_all)
  · rw [Bool.eq_iff_iff]; simp [mSing, nodeM, mOne, tkI, tkB, noB]; omega
  · rw [Bool.eq_iff_iff]; simp [mSing, nodeM, mOne, tkI, tkB, noB]; constructor <;> (intro h; simp_all)
  · rw [Bool.eq_iff_iff]; simp [mSing, nodeM, mSame, tkI, noB]; omega
  · rw [Bool.eq_iff_iff]; simp [mSing, nodeM, tkI, noB]; omega
  · rw [Bool.eq_iff_iff]; simp [mSing, nodeM, tkI, noB]; omega
end Go.Proofs.YtapniafhcagogaaGreatDoor

namespace Go.Proofs.YtapniafhcagogaaGreatDoor

/-- The same ends at every place of the text. -/
def EqM (n : Nat) (a b : Mat) : Prop := ∀ i j, i ≤ n → a i j = b i j

theorem EqM.refl (n : Nat) (a : Mat) : EqM n a a := fun _ _ _ => rfl
theorem EqM.symm {n : Nat} {a b : Mat} (h : EqM n a b) : EqM n b a := fun i j hi => (h i j hi).symm
theorem EqM.trans {n : Nat} {a b c : Mat} (h : EqM n a b) (k : EqM n b c) : EqM n a c := fun i j hi => (h i j hi).trans (k i j hi)
theorem EqM.up {n : Nat} {a b : Mat} (h : EqM n a b) (hb : UpM n b) : UpM n a := fun i j hi e => hb i j hi (by rw [← h i j hi]; exact e)
theorem EqM.then {n : Nat} {a b c d : Mat} (h : EqM n a b) (k : EqM n c d) : EqM n (mThen n a c) (mThen n b d) := by
  intro i j hi
  rw [Bool.eq_iff_iff, mThen_iff, mThen_iff]
  constructor
  · rintro ⟨m, h1, h2, h3, h4, h5⟩; exact ⟨m, h1, h2, h3, by rw [← h i m hi]; exact h4, by rw [← k m j h1]; exact h5⟩
  · rintro ⟨m, h1, h2, h3, h4, h5⟩; exact ⟨m, h1, h2, h3, by rw [h i m hi]; exact h4, by rw [k m j h1]; exact h5⟩
theorem EqM.add {n : Nat} {a b c d : Mat} (h : EqM n a b) (k : EqM n c d) : EqM n (mAdd a c) (mAdd b d) := by
  intro i j hi
  simp only [mAdd, h i j hi, k i j hi]
theorem EqM.many {n : Nat} {a b : Mat} (h : EqM n a b) : EqM n (mMany n a) (mMany n b) := by
  have H : ∀ d i j, i ≤ n → manyD n a d i j = manyD n b d i j := by
    intro d
    induction d with
    | zero => intro i j _; rfl
    | succ d ih =>
      intro i j hi
      rw [Bool.eq_iff_iff, manyD, manyD]
      simp only [Bool.or_eq_true, beq_iff_eq, List.any_eq_true, List.mem_range, Bool.and_eq_true, decide_eq_true_iff]
      constructor
      · rintro (h1 | ⟨m, h1, ⟨h2, h4⟩, h5⟩)
        · exact .inl h1
        · exact .inr ⟨m, h1, ⟨h2, by rw [← h i m hi]; exact h4⟩, by rw [← ih m j (by omega)]; exact h5⟩
      · rintro (h1 | ⟨m, h1, ⟨h2, h4⟩, h5⟩)
        · exact .inl h1
        · exact .inr ⟨m, h1, ⟨h2, by rw [h i m hi]; exact h4⟩, by rw [ih m j (by omega)]; exact h5⟩
  exact fun i j hi => H _ i j hi
theorem EqM.thens {n : Nat} (L : List Mat) : ∀ {a b : Mat}, EqM n a b → EqM n (L.foldl (mThen n) a) (L.foldl (mThen n) b) := by
  induction L with
  | nil => intro a b h; exact h
  | cons M r ih => intro a b h; exact ih (h.then (EqM.refl n M))
theorem EqM.adds {n : Nat} (L : List Mat) : ∀ {a b : Mat}, EqM n a b → EqM n (L.foldl mAdd a) (L.foldl mAdd b) := by
  induction L with
  | nil => intro a b h; exact h
  | cons M r ih => intro a b h; exact ih (h.add (EqM.refl n M))

/-- One behind the other, from the first part on. -/
theorem thens_first {n : Nat} {M : Mat} (r : List Mat) (h : UpM n M) : EqM n (r.foldl (mThen n) M) ((M :: r).foldl (mThen n) mSame) :=
  EqM.thens r fun i j hi => (mThen_same h i j hi).symm
/-- One or the other, from the first part on. -/
theorem adds_first {n : Nat} {M : Mat} (r : List Mat) (h : UpM n M) : EqM n (r.foldl mAdd M) ((M :: r).foldl mAdd mNone) :=
  EqM.adds r fun i j hi => (mAdd_none h i j hi).symm
/-- Once or not at all: the order makes no difference. -/
theorem opt_turned {n : Nat} {M : Mat} (h : UpM n M) : EqM n (fun i j => M i j || mSame i j) (mAdd mSame M) := by
  intro i j hi
  rw [mAdd_or h i j hi, Bool.or_comm]
end Go.Proofs.YtapniafhcagogaaGreatDoor
