/- Marked trees: each part's kind is its mark, its text the next mark's. -/
import Derived.Test.YthifleacfhijnaaDoorMarkTxt
namespace Go.Proofs.YthifleacfhijnaaDoor
open Go.RowKit

mutual
def Tr.marked : Tr → Nat → Tr
  | .node _ _ l, k => .node (k : Int) (mkS (k + 1)) (markedL l (k + 2))
def markedL : List Tr → Nat → List Tr
  | [], _ => []
  | t :: r, k => t.marked k :: markedL r (k + 2 * t.cnt)
end

theorem marked_k (t : Tr) (k : Nat) : (t.marked k).k = (k : Int) := by cases t; rw [Tr.marked]; rfl
theorem marked_s (t : Tr) (k : Nat) : (t.marked k).s = mkS (k + 1) := by cases t; rw [Tr.marked]; rfl
theorem marked_l (t : Tr) (k : Nat) : (t.marked k).l = markedL t.l (k + 2) := by cases t; rw [Tr.marked]; rfl
theorem markedL_length (l : List Tr) : ∀ k, (markedL l k).length = l.length := by
  induction l with
  | nil => intro k; rfl
  | cons t r ih => intro k; rw [markedL, List.length_cons, ih, List.length_cons]

theorem cntL_append (l r : List Tr) : cntL (l ++ r) = cntL l + cntL r := by
  induction l with
  | nil => simp [cntL]
  | cons t l ih => rw [List.cons_append, cntL, ih, cntL]; omega
theorem cntL_take (l : List Tr) (i : Nat) (h : i < l.length) : cntL (l.take (i + 1)) = cntL (l.take i) + l[i].cnt := by
  rw [List.take_succ_eq_append_getElem h, cntL_append]
  simp [cntL]
theorem cntL_take_le (l : List Tr) (i : Nat) : cntL (l.take i) ≤ cntL l := by
  have := cntL_append (l.take i) (l.drop i)
  rw [List.take_append_drop] at this
  omega

theorem markedL_get (l : List Tr) : ∀ (k i : Nat) (h : i < l.length), (markedL l k)[i]'(by rw [markedL_length]; exact h) = l[i].marked (k + 2 * cntL (l.take i)) := by
  induction l with
  | nil => intro k i h; simp at h
  | cons t r ih =>
    intro k i h
    cases i with
    | zero => simp [markedL, cntL]
    | succ i =>
      have h' : i < r.length := by simpa using h
      have e : (markedL (t :: r) k)[i + 1]'(by rw [markedL_length]; exact h) = (markedL r (k + 2 * t.cnt))[i]'(by rw [markedL_length]; exact h') := by simp [markedL]
      rw [e, ih (k + 2 * t.cnt) i h']
      simp only [List.getElem_cons_succ, List.take_succ_cons, cntL]
      congr 1
      omega

theorem mDig_size (n : Nat) : ∀ o : ByteArray, (mDig n o).size ≤ n + o.size := by
  induction n using Nat.strongRecOn with
  | _ n ih =>
    intro o
    by_cases h : n = 0
    · subst h; rw [mDig_zero]; omega
    · rw [mDig_step n (by omega)]
      have := ih (n / 10) (by omega) (strOf [48 + (n : Int) % 10] ++ o)
      rw [ByteArray.size_append, strOf_size] at this
      simp at this
      omega
theorem mkS_size (n : Nat) : (mkS n).size ≤ n + 2 := by
  unfold mkS
  split
  · exact Nat.le_add_left 2 n
  · have := mDig_size n ⟨#[]⟩
    have e : (ByteArray.mk #[] : ByteArray).size = 0 := rfl
    have e1 : (ByteArray.mk #[109] : ByteArray).size = 1 := rfl
    rw [ByteArray.size_append, e1]
    omega
end Go.Proofs.YthifleacfhijnaaDoor
