/- Every tree's matrix is bounded; single parts, the program's and the model's. -/
import Derived.Test.YthifleacfhijnaaDoorMatUp
namespace Go.Proofs.YthifleacfhijnaaDoor

theorem UpM.one (s : ByteArray) (k : Int) (c : ByteArray) : UpM s.size (mOne s k c) := by
  intro i j hi h
  simp only [mOne, Bool.and_eq_true, decide_eq_true_iff] at h
  omega
theorem UpM.none (n : Nat) : UpM n mNone := fun i j _ h => by simp [mNone] at h
theorem UpM.thens {n : Nat} (L : List Mat) (hL : ∀ M ∈ L, UpM n M) : ∀ A, UpM n A → UpM n (L.foldl (mThen n) A) := by
  induction L with
  | nil => intro A hA; exact hA
  | cons M r ih =>
    intro A _
    exact ih (fun M' h => hL M' (List.mem_cons_of_mem _ h)) _ (UpM.then (hL M (List.mem_cons_self ..)))
theorem UpM.adds {n : Nat} (L : List Mat) (hL : ∀ M ∈ L, UpM n M) : ∀ A, UpM n A → UpM n (L.foldl mAdd A) := by
  induction L with
  | nil => intro A hA; exact hA
  | cons M r ih =>
    intro A hA
    exact ih (fun M' h => hL M' (List.mem_cons_of_mem _ h)) _ (UpM.add hA (hL M (List.mem_cons_self ..)))
theorem UpM.head {n : Nat} (L : List Mat) (hL : ∀ M ∈ L, UpM n M) : UpM n (L.headD mSame) := by
  cases L with
  | nil => exact UpM.same n
  | cons M r => exact hL M (List.mem_cons_self ..)
theorem UpM.node (s : ByteArray) (k : Int) (c : ByteArray) (L : List Mat) (hL : ∀ M ∈ L, UpM s.size M) : UpM s.size (nodeM s k c L) := by
  have hS : ∀ p : Nat → Bool, UpM s.size (fun i j => i == j && p i) := by
    intro p i j hi h
    simp only [Bool.and_eq_true, beq_iff_eq] at h
    omega
  unfold nodeM
  split
  · exact UpM.one s k c
  split
  · exact UpM.thens L hL _ (UpM.same _)
  split
  · exact UpM.adds L hL _ (UpM.none _)
  split
  · exact UpM.many _ _
  split
  · exact UpM.then (UpM.many _ _)
  split
  · exact UpM.add (UpM.same _) (UpM.head L hL)
  split
  · exact hS fun i => decide (i = 0)
  split
  · exact hS fun i => decide (i = s.size)
  · exact UpM.same _
theorem UpM.tree (s : ByteArray) (t : Tr) : UpM s.size (t.endM s) := by
  refine Tr.ind (P := fun t => UpM s.size (t.endM s)) ?_ t
  intro t ih
  rw [endM_eq]
  refine UpM.node s _ _ _ ?_
  intro M hM
  obtain ⟨u, hu, rfl⟩ := List.mem_map.1 hM
  exact ih u hu

/-- A single part: what the program says is what the matrix has. -/
theorem mSing_node (s : ByteArray) (k : Int) (c : ByteArray) (L : List Mat) (hk : k = 1 ∨ k = 2 ∨ k = 3 ∨ k = 9 ∨ k = 10 ∨ k = 11) (i y : Nat) : mSing s k c i y = nodeM s k c L i y := by
  rcases hk with rfl | rfl | rfl | rfl | rfl | rfl
  · rw [Bool.eq_iff_iff]; simp [mSing, nodeM, mOne, tkI, tkB, noB]; constructor <;> (intro h; simp_all)
  · rw [Bool.eq_iff_iff]; simp [mSing, nodeM, mOne, tkI, tkB, noB]; omega
  · rw [Bool.eq_iff_iff]; simp [mSing, nodeM, mOne, tkI, tkB, noB]; constructor <;> (intro h; simp_all)
  · rw [Bool.eq_iff_iff]; simp [mSing, nodeM, mSame, tkI, noB]; omega
  · rw [Bool.eq_iff_iff]; simp [mSing, nodeM, tkI, noB]; omega
  · rw [Bool.eq_iff_iff]; simp [mSing, nodeM, tkI, noB]; omega
end Go.Proofs.YthifleacfhijnaaDoor
