/- Nodes that are right: as the program asks it and as the document's model does. -/
import Derived.Test.YtapniafhcagogaaGreatDoorNodeTo
namespace Go.Proofs.YtapniafhcagogaaGreatDoor
open Go.RowKit
set_option maxRecDepth 8000

theorem ret_bn {a b : Bool} (h : a = b) : Ending.returned (.bool a) = .returned (.bool b) := by rw [h]

/-- A place among so many. -/
def plB (x : Int) (n : Nat) : Bool := decide (0 ≤ x) && decide (x < n)
/-- A node is right among n. -/
def okNd (x : Nd) (n : Nat) : Bool :=
  if x.k = 1 then (x.s.size == 1) && plB x.a n && decide (x.b = 0)
  else if x.k = 3 then (x.s.size != 0) && plB x.a n && decide (x.b = 0)
  else if x.k = 2 ∨ x.k = 5 ∨ x.k = 6 then (x.s.size == 0) && plB x.a n && decide (x.b = 0)
  else if x.k = 4 then (x.s.size == 0) && plB x.a n && plB x.b n
  else decide (x.k = 7) && (x.s.size == 0) && decide (x.a = 0) && decide (x.b = 0)
/-- Nodes that are a machine. -/
def okNfa (N : List Nd) : Bool := decide (1 ≤ N.length) && decide (N.length ≤ 300) && decide ((N.getLast?.map Nd.k) = some 7) && N.all fun x => okNd x N.length

theorem isNode_any (x : Int) (n : Nat) (w : World) : Calls Tryz.prog 40 #[.int .i64 x, .int .i64 n] w fun e w' => e = .returned (.bool (plB x n)) ∧ w' = w := by
  by_cases h : 0 ≤ x
  · by_cases h2 : x < (n : Int)
    · have H : Hid (plB x n = true) := by show _ = _; simp [plB, h, h2]
      go_enter Tryz.func40, Tryz.ntmps40
      go_wp2
      go_ret
      exact ⟨ret_bn H.out.symm, rfl⟩
    · have H : Hid (plB x n = false) := by show _ = _; simp [plB, h2]
      go_enter Tryz.func40, Tryz.ntmps40
      go_wp2
      go_ret
      exact ⟨ret_bn H.out.symm, rfl⟩
  · have H : Hid (plB x n = false) := by show _ = _; simp [plB, h]
    go_enter Tryz.func40, Tryz.ntmps40
    go_wp2
    go_ret
    exact ⟨ret_bn H.out.symm, rfl⟩

theorem nIn_any (x : Int) (n : Nat) (w : World) : Calls Tryz.prog 74 #[.int .i64 x, .int .i64 0, .int .i64 ((n : Int) - 1)] w fun e w' => e = .returned (.bool (plB x n)) ∧ w' = w := by
  by_cases h : 0 ≤ x
  · by_cases h2 : x ≤ (n : Int) - 1
    · have H : Hid (plB x n = true) := by show _ = _; simp [plB]; omega
      go_enter Tryz.func74, Tryz.ntmps74
      go_wp2
      go_ret
      exact ⟨ret_bn H.out.symm, rfl⟩
    · have H : Hid (plB x n = false) := by show _ = _; simp [plB]; omega
      go_enter Tryz.func74, Tryz.ntmps74
      go_wp2
      go_ret
      exact ⟨ret_bn H.out.symm, rfl⟩
  · have H : Hid (plB x n = false) := by show _ = _; simp [plB, h]
    go_enter Tryz.func74, Tryz.ntmps74
    go_wp2
    go_ret
    exact ⟨ret_bn H.out.symm, rfl⟩

theorem sEmpty (s : ByteArray) : s.toList.isEmpty = true ∧ s.size = 0 ∨ s.toList.isEmpty = false ∧ s.size ≠ 0 := by
  have h2 : s.toList = s.data.toList := ByteArray.toList_eq s
  have h3 : s.size = s.data.toList.length := by rw [Array.length_toList]; rfl
  rw [h2, h3]
  cases s.data.toList <;> simp

set_option maxHeartbeats 2000000 in
theorem nodeOk_any (x : Nd) (n g o : Nat) (w : World) (h : At4 w g o x) (hs : x.s.size ≤ maxLen) :
    Calls Tryz.prog 19 #[.pointer (some ⟨g, o, none⟩), .int .i64 n] w fun e w' => e = .returned (.bool (okNd x n)) ∧ Below w.heap.size w w' := by
  obtain ⟨r, hr⟩ : ∃ r, okNd x n = r := ⟨_, rfl⟩
  rw [hr]
  obtain ⟨k, s, a, b⟩ := x
  obtain ⟨c0, c1, c2, c3⟩ := h
  simp only at c0 c1 c2 c3 hs
  unfold maxLen at hs
  have hlt := World.block_lt_of_cell? w _ c0
  by_cases k1 : k = 1
  · subst k1
    have HR : Hid (r = ((s.size == 1) && plB a n && decide (b = 0))) := by show _ = _; rw [← hr]; rfl
    clear hr
    rcases sEmpty s with ⟨he, hz⟩ | ⟨he, hz⟩
    all_goals
      go_enter Tryz.func19, Tryz.ntmps19
      go_wp2
      all_goals
        go_ret
        exact ⟨ret_bn (by rw [HR.out, Bool.eq_iff_iff]; simp only [plB, Bool.and_eq_true, decide_eq_true_eq, beq_iff_eq, Bool.false_eq_true, false_iff]; omega), Below.refl _ _⟩
  by_cases k3 : k = 3
  · subst k3
    have HR : Hid (r = ((s.size != 0) && plB a n && decide (b = 0))) := by show _ = _; rw [← hr]; rfl
    clear hr
    rcases sEmpty s with ⟨he, hz⟩ | ⟨he, hz⟩
    all_goals
      go_enter Tryz.func19, Tryz.ntmps19
      go_wp2
      all_goals
        go_ret
        exact ⟨ret_bn (by rw [HR.out, Bool.eq_iff_iff]; simp only [plB, Bool.and_eq_true, decide_eq_true_eq, beq_iff_eq, bne_iff_ne, Bool.false_eq_true, false_iff]; omega), Below.refl _ _⟩
  by_cases k2 : k = 2
  · subst k2
    have HR : Hid (r = ((s.size == 0) && plB a n && decide (b = 0))) := by show _ = _; rw [← hr]; rfl
    clear hr
    rcases sEmpty s with ⟨he, hz⟩ | ⟨he, hz⟩
    all_goals
      go_enter Tryz.func19, Tryz.ntmps19
      go_wp2
      all_goals
        go_ret
        exact ⟨ret_bn (by rw [HR.out, Bool.eq_iff_iff]; simp only [plB, Bool.and_eq_true, decide_eq_true_eq, beq_iff_eq, Bool.false_eq_true, false_iff]; omega), Below.refl _ _⟩
  by_cases k5 : k = 5
  · subst k5
    have HR : Hid (r = ((s.size == 0) && plB a n && decide (b = 0))) := by show _ = _; rw [← hr]; rfl
    clear hr
    rcases sEmpty s with ⟨he, hz⟩ | ⟨he, hz⟩
    all_goals
      go_enter Tryz.func19, Tryz.ntmps19
      go_wp2
      all_goals
        go_ret
        exact ⟨ret_bn (by rw [HR.out, Bool.eq_iff_iff]; simp only [plB, Bool.and_eq_true, decide_eq_true_eq, beq_iff_eq, Bool.false_eq_true, false_iff]; omega), Below.refl _ _⟩
  by_cases k6 : k = 6
  · subst k6
    have HR : Hid (r = ((s.size == 0) && plB a n && decide (b = 0))) := by show _ = _; rw [← hr]; rfl
    clear hr
    rcases sEmpty s with ⟨he, hz⟩ | ⟨he, hz⟩
    all_goals
      go_enter Tryz.func19, Tryz.ntmps19
      go_wp2
      all_goals
        go_ret
        exact ⟨ret_bn (by rw [HR.out, Bool.eq_iff_iff]; simp only [plB, Bool.and_eq_true, decide_eq_true_eq, beq_iff_eq, Bool.false_eq_true, false_iff]; omega), Below.refl _ _⟩
  by_cases k4 : k = 4
  · subst k4
    have HR : Hid (r = ((s.size == 0) && plB a n && plB b n)) := by show _ = _; rw [← hr]; rfl
    clear hr
    rcases sEmpty s with ⟨he, hz⟩ | ⟨he, hz⟩
    all_goals
      go_enter Tryz.func19, Tryz.ntmps19
      go_wp2
      all_goals
        go_ret
        exact ⟨ret_bn (by rw [HR.out, Bool.eq_iff_iff]; simp only [plB, Bool.and_eq_true, decide_eq_true_eq, beq_iff_eq, Bool.false_eq_true, false_iff]; omega), Below.refl _ _⟩
  by_cases k7 : k = 7
  · subst k7
    have HR : Hid (r = ((s.size == 0) && decide (a = 0) && decide (b = 0))) := by show _ = _; rw [← hr]; rfl
    clear hr
    rcases sEmpty s with ⟨he, hz⟩ | ⟨he, hz⟩
    all_goals
      go_enter Tryz.func19, Tryz.ntmps19
      go_wp2
      all_goals
        go_ret
        exact ⟨ret_bn (by rw [HR.out, Bool.eq_iff_iff]; simp only [Bool.and_eq_true, decide_eq_true_eq, beq_iff_eq, Bool.false_eq_true, false_iff, true_iff]; omega), Below.refl _ _⟩
  have HR : Hid (r = false) := by show _ = _; rw [← hr]; simp [okNd, k1, k2, k3, k4, k5, k6, k7]
  clear hr
  go_enter Tryz.func19, Tryz.ntmps19
  go_wp2
  go_ret
  exact ⟨ret_bn HR.out.symm, Below.refl _ _⟩
theorem plCase (x : Int) (n : Nat) : plB x n = true ∧ (0 ≤ x ∧ x < n) ∨ plB x n = false ∧ ¬ (0 ≤ x ∧ x < n) := by
  by_cases h : 0 ≤ x ∧ x < n
  · exact .inl ⟨by simp [plB, h.1, h.2], h⟩
  · refine .inr ⟨?_, h⟩
    cases hp : plB x n with
    | false => rfl
    | true => simp only [plB, Bool.and_eq_true, decide_eq_true_eq] at hp; exact absurd hp h

end Go.Proofs.YtapniafhcagogaaGreatDoor
