/- Sums that begin with their first part. -/
import Derived.Test.YthifleacfhijnaaDoorMatUpT
namespace Go.Proofs.YthifleacfhijnaaDoor

/-- The same ends at every place of the text. -/
def EqM (n : Nat) (a b : Mat) : Prop := ∀ i j, i ≤ n → a i j = b i j

theorem EqM.refl (n : Nat) (a : Mat) : EqM n a a := fun _ _ _ => rfl
theorem EqM.symm {n : Nat} {a b : Mat} (h : EqM n a b) : EqM n b a := fun i j hi => (h i j hi).symm
theorem EqM.trans {n : Nat} {a b c : Mat} (h : EqM n a b) (k : EqM n b c) : EqM n a c := fun i j hi => (h i j hi).trans (k i j hi)
theorem EqM.up {n : Nat} {a b : Mat} (h : EqM n a b) (hb : UpM n b) : UpM n a := fun i j hi e => hb i j hi (by rw [← h i j hi]; exact e)
theorem EqM.then {n : Nat} {a b c d : Mat} (h : EqM n a b) (k : EqM n c d) : EqM n (mThen n a c) (mThen n b d) := by
  intro i j hi
  rw [Bool.eq_iff_iff, mThen_iff, mThen_iff]
  constructor
  · rintro ⟨m, h1, h2, h3, h4, h5⟩; exact ⟨m, h1, h2, h3, by rw [← h i m hi]; exact h4, by rw [← k m j h1]; exact h5⟩
  · rintro ⟨m, h1, h2, h3, h4, h5⟩; exact ⟨m, h1, h2, h3, by rw [h i m hi]; exact h4, by rw [k m j h1]; exact h5⟩
theorem EqM.add {n : Nat} {a b c d : Mat} (h : EqM n a b) (k : EqM n c d) : EqM n (mAdd a c) (mAdd b d) := by
  intro i j hi
  simp only [mAdd, h i j hi, k i j hi]
theorem EqM.many {n : Nat} {a b : Mat} (h : EqM n a b) : EqM n (mMany n a) (mMany n b) := by
  have H : ∀ d i j, i ≤ n → manyD n a d i j = manyD n b d i j := by
    intro d
    induction d with
    | zero => intro i j _; rfl
    | succ d ih =>
      intro i j hi
      rw [Bool.eq_iff_iff, manyD, manyD]
      simp only [Bool.or_eq_true, beq_iff_eq, List.any_eq_true, List.mem_range, Bool.and_eq_true, decide_eq_true_iff]
      constructor
      · rintro (h1 | ⟨m, h1, ⟨h2, h4⟩, h5⟩)
        · exact .inl h1
        · exact .inr ⟨m, h1, ⟨h2, by rw [← h i m hi]; exact h4⟩, by rw [← ih m j (by omega)]; exact h5⟩
      · rintro (h1 | ⟨m, h1, ⟨h2, h4⟩, h5⟩)
        · exact .inl h1
        · exact .inr ⟨m, h1, ⟨h2, by rw [h i m hi]; exact h4⟩, by rw [ih m j (by omega)]; exact h5⟩
  exact fun i j hi => H _ i j hi
theorem EqM.thens {n : Nat} (L : List Mat) : ∀ {a b : Mat}, EqM n a b → EqM n (L.foldl (mThen n) a) (L.foldl (mThen n) b) := by
  induction L with
  | nil => intro a b h; exact h
  | cons M r ih => intro a b h; exact ih (h.then (EqM.refl n M))
theorem EqM.adds {n : Nat} (L : List Mat) : ∀ {a b : Mat}, EqM n a b → EqM n (L.foldl mAdd a) (L.foldl mAdd b) := by
  induction L with
  | nil => intro a b h; exact h
  | cons M r ih => intro a b h; exact ih (h.add (EqM.refl n M))

/-- One behind the other, from the first part on. -/
theorem thens_first {n : Nat} {M : Mat} (r : List Mat) (h : UpM n M) : EqM n (r.foldl (mThen n) M) ((M :: r).foldl (mThen n) mSame) :=
  EqM.thens r fun i j hi => (mThen_same h i j hi).symm
/-- One or the other, from the first part on. -/
theorem adds_first {n : Nat} {M : Mat} (r : List Mat) (h : UpM n M) : EqM n (r.foldl mAdd M) ((M :: r).foldl mAdd mNone) :=
  EqM.adds r fun i j hi => (mAdd_none h i j hi).symm
/-- Once or not at all: the order makes no difference. -/
theorem opt_turned {n : Nat} {M : Mat} (h : UpM n M) : EqM n (fun i j => M i j || mSame i j) (mAdd mSame M) := by
  intro i j hi
  rw [mAdd_or h i j hi, Bool.or_comm]
end Go.Proofs.YthifleacfhijnaaDoor
