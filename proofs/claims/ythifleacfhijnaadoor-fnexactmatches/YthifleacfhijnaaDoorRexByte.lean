/- Which bytes stand for themselves, and rising rows of them: the program's and the document's model's. -/
import Derived.Test.YthifleacfhijnaaDoorRexTree
import Derived.Test.YthifleacfhijnaaDoorAppStr
namespace Go.Proofs.YthifleacfhijnaaDoor
open Go.RowKit
set_option maxRecDepth 8000

theorem ret_b {a b : Bool} (h : a = b) : Ending.returned (.bool a) = .returned (.bool b) := by rw [h]

def inB (a b x : Int) : Bool := decide (a ≤ x) && decide (x ≤ b)
theorem inB_yes {a b x : Int} (h : a ≤ x ∧ x ≤ b) : inB a b x = true := by simp [inB, h.1, h.2]
theorem inB_no {a b x : Int} (h : ¬ (a ≤ x ∧ x ≤ b)) : inB a b x = false := by
  unfold inB
  by_cases h1 : a ≤ x
  · have h2 : ¬ x ≤ b := fun h2 => h ⟨h1, h2⟩
    simp [h1, h2]
  · simp [h1]

/-- A byte that stands for itself. -/
def rb (c : Int) : Bool := inB 97 122 c || inB 65 90 c || inB 48 57 c || c == 32 || c == 95 || c == 45 || c == 44 || c == 58

theorem l1In_any (x a b : Int) (w : World) : Calls Tryd.prog 43 #[.int .i64 x, .int .i64 a, .int .i64 b] w fun e w' => e = .returned (.bool (inB a b x)) ∧ w' = w := by
  by_cases h : a ≤ x
  · by_cases h2 : x ≤ b
    · have H := Hid.mk (inB_yes ⟨h, h2⟩)
      go_enter Tryd.func43, Tryd.ntmps43
      go_wp2
      go_ret
      exact ⟨ret_b H.out.symm, rfl⟩
    · have H := Hid.mk (inB_no (a := a) (b := b) (x := x) (fun q => h2 q.2))
      go_enter Tryd.func43, Tryd.ntmps43
      go_wp2
      go_ret
      exact ⟨ret_b H.out.symm, rfl⟩
  · have H := Hid.mk (inB_no (a := a) (b := b) (x := x) (fun q => h q.1))
    go_enter Tryd.func43, Tryd.ntmps43
    go_wp2
    go_ret
    exact ⟨ret_b H.out.symm, rfl⟩

theorem l2Digit_any (c : Int) (h0 : 0 ≤ c) (h1 : c ≤ 255) (w : World) : Calls Tryd.prog 83 #[.int .u8 c] w fun e w' => e = .returned (.bool (inB 48 57 c)) ∧ w' = w := by
  go_enter Tryd.func83, Tryd.ntmps83
  go_wp2_with (go_at_call 43; refine (l1In_any _ _ _ _).mono ?_; rintro e w' ⟨rfl, rfl⟩)
  go_ret
  exact ⟨rfl, rfl⟩

theorem specByte_any (c : Int) (h0 : 0 ≤ c) (h1 : c ≤ 255) (w : World) : Calls Tryd.prog 72 #[.int .u8 c] w fun e w' => e = .returned (.bool (rb c)) ∧ w' = w := by
  by_cases hA : 97 ≤ c ∧ c ≤ 122
  · have a1 := inB_yes hA
    have H : Hid (rb c = true) := by show _ = _; simp [rb, a1]
    clear hA
    go_enter Tryd.func72, Tryd.ntmps72
    go_wp2_with (go_at_call 43; refine (l1In_any _ _ _ _).mono ?_; rintro e w' ⟨rfl, rfl⟩)
    go_ret
    exact ⟨ret_b H.out.symm, rfl⟩
  have a1 := inB_no hA
  by_cases hB : 65 ≤ c ∧ c ≤ 90
  · have a2 := inB_yes hB
    have H : Hid (rb c = true) := by show _ = _; simp [rb, a2]
    clear hA hB
    go_enter Tryd.func72, Tryd.ntmps72
    go_wp2_with (go_at_call 43; refine (l1In_any _ _ _ _).mono ?_; rintro e w' ⟨rfl, rfl⟩)
    go_ret
    exact ⟨ret_b H.out.symm, rfl⟩
  have a2 := inB_no hB
  have hd := fun w => l2Digit_any c h0 h1 w
  by_cases hC : 48 ≤ c ∧ c ≤ 57
  · have a3 := inB_yes hC
    have H : Hid (rb c = true) := by show _ = _; simp [rb, a3]
    have HD := Hid.mk hd
    clear hA hB hC hd
    go_enter Tryd.func72, Tryd.ntmps72
    go_wp2_with (first | (go_at_call 43; refine (l1In_any _ _ _ _).mono ?_; rintro e w' ⟨rfl, rfl⟩) | (go_at_call 83; refine (HD.out _).mono ?_; rintro e w' ⟨rfl, rfl⟩))
    go_ret
    exact ⟨ret_b H.out.symm, rfl⟩
  have a3 := inB_no hC
  have HD := Hid.mk hd
  have H : Hid (rb c = (c == 32 || c == 95 || c == 45 || c == 44 || c == 58)) := by show _ = _; simp [rb, a1, a2, a3]
  clear hA hB hC hd
  by_cases e1 : c = 32
  · subst e1
    go_enter Tryd.func72, Tryd.ntmps72
    go_wp2_with (first | (go_at_call 43; refine (l1In_any _ _ _ _).mono ?_; rintro e w' ⟨rfl, rfl⟩) | (go_at_call 83; refine (HD.out _).mono ?_; rintro e w' ⟨rfl, rfl⟩))
    go_ret
    exact ⟨ret_b (H.out.trans rfl).symm, rfl⟩
  by_cases e2 : c = 95
  · subst e2
    go_enter Tryd.func72, Tryd.ntmps72
    go_wp2_with (first | (go_at_call 43; refine (l1In_any _ _ _ _).mono ?_; rintro e w' ⟨rfl, rfl⟩) | (go_at_call 83; refine (HD.out _).mono ?_; rintro e w' ⟨rfl, rfl⟩))
    go_ret
    exact ⟨ret_b (H.out.trans rfl).symm, rfl⟩
  by_cases e3 : c = 45
  · subst e3
    go_enter Tryd.func72, Tryd.ntmps72
    go_wp2_with (first | (go_at_call 43; refine (l1In_any _ _ _ _).mono ?_; rintro e w' ⟨rfl, rfl⟩) | (go_at_call 83; refine (HD.out _).mono ?_; rintro e w' ⟨rfl, rfl⟩))
    go_ret
    exact ⟨ret_b (H.out.trans rfl).symm, rfl⟩
  by_cases e4 : c = 44
  · subst e4
    go_enter Tryd.func72, Tryd.ntmps72
    go_wp2_with (first | (go_at_call 43; refine (l1In_any _ _ _ _).mono ?_; rintro e w' ⟨rfl, rfl⟩) | (go_at_call 83; refine (HD.out _).mono ?_; rintro e w' ⟨rfl, rfl⟩))
    go_ret
    exact ⟨ret_b (H.out.trans rfl).symm, rfl⟩
  have H2 : Hid (rb c = (c == 58)) := by show _ = _; rw [H.out]; simp [e1, e2, e3, e4]
  have b1 : (c == 32) = false := by simpa using e1
  have b2 : (c == 95) = false := by simpa using e2
  have b3 : (c == 45) = false := by simpa using e3
  have b4 : (c == 44) = false := by simpa using e4
  clear H e1 e2 e3 e4
  go_enter Tryd.func72, Tryd.ntmps72
  go_wp2_with (first | (go_at_call 43; refine (l1In_any _ _ _ _).mono ?_; rintro e w' ⟨rfl, rfl⟩) | (go_at_call 83; refine (HD.out _).mono ?_; rintro e w' ⟨rfl, rfl⟩))
  go_ret
  exact ⟨ret_b H2.out.symm, rfl⟩

theorem implByte_any (c : Int) (h0 : 0 ≤ c) (h1 : c ≤ 255) (w : World) : Calls Tryd.prog 88 #[.int .u8 c] w fun e w' => e = .returned (.bool (rb c)) ∧ w' = w := by
  by_cases e1 : c = 32
  · subst e1
    go_enter Tryd.func88, Tryd.ntmps88
    go_wp2
    go_ret
    exact ⟨ret_b rfl, rfl⟩
  by_cases e2 : c = 95
  · subst e2
    go_enter Tryd.func88, Tryd.ntmps88
    go_wp2
    go_ret
    exact ⟨ret_b rfl, rfl⟩
  by_cases e3 : c = 45
  · subst e3
    go_enter Tryd.func88, Tryd.ntmps88
    go_wp2
    go_ret
    exact ⟨ret_b rfl, rfl⟩
  by_cases e4 : c = 44
  · subst e4
    go_enter Tryd.func88, Tryd.ntmps88
    go_wp2
    go_ret
    exact ⟨ret_b rfl, rfl⟩
  by_cases e5 : c = 58
  · subst e5
    go_enter Tryd.func88, Tryd.ntmps88
    go_wp2
    go_ret
    exact ⟨ret_b rfl, rfl⟩
  have H : Hid (rb c = (inB 97 122 c || inB 65 90 c || inB 48 57 c)) := by show _ = _; rw [rb, beq_eq_false_iff_ne.2 e1, beq_eq_false_iff_ne.2 e2, beq_eq_false_iff_ne.2 e3, beq_eq_false_iff_ne.2 e4, beq_eq_false_iff_ne.2 e5]; simp
  by_cases hA : 97 ≤ c ∧ c ≤ 122
  · have H2 : Hid (rb c = true) := by show _ = _; rw [H.out, inB_yes hA]; rfl
    obtain ⟨p, q⟩ := hA
    clear H
    go_enter Tryd.func88, Tryd.ntmps88
    go_wp2
    go_ret
    exact ⟨ret_b H2.out.symm, rfl⟩
  by_cases hB : 65 ≤ c ∧ c ≤ 90
  · have H2 : Hid (rb c = true) := by show _ = _; rw [H.out, inB_yes hB]; simp
    have p : ¬ 97 ≤ c := by omega
    obtain ⟨p', q⟩ := hB
    clear H hA
    go_enter Tryd.func88, Tryd.ntmps88
    go_wp2
    go_ret
    exact ⟨ret_b H2.out.symm, rfl⟩
  by_cases hC : 48 ≤ c ∧ c ≤ 57
  · have H2 : Hid (rb c = true) := by show _ = _; rw [H.out, inB_yes hC]; simp
    have p : ¬ 97 ≤ c := by omega
    have p1 : ¬ 65 ≤ c := by omega
    obtain ⟨p', q⟩ := hC
    clear H hA hB
    go_enter Tryd.func88, Tryd.ntmps88
    go_wp2
    go_ret
    exact ⟨ret_b H2.out.symm, rfl⟩
  have H2 : Hid (rb c = false) := by show _ = _; rw [H.out, inB_no hA, inB_no hB, inB_no hC]; rfl
  clear H
  by_cases q1 : 97 ≤ c
  · have q2 : ¬ c ≤ 122 := by omega
    have q3 : ¬ c ≤ 90 := by omega
    have q4 : ¬ c ≤ 57 := by omega
    have q5 : 65 ≤ c := by omega
    have q6 : 48 ≤ c := by omega
    clear hA hB hC
    go_enter Tryd.func88, Tryd.ntmps88
    go_wp2
    go_ret
    exact ⟨ret_b H2.out.symm, rfl⟩
  by_cases q2 : 65 ≤ c
  · have q3 : ¬ c ≤ 90 := by omega
    have q4 : ¬ c ≤ 57 := by omega
    have q6 : 48 ≤ c := by omega
    clear hA hB hC
    go_enter Tryd.func88, Tryd.ntmps88
    go_wp2
    go_ret
    exact ⟨ret_b H2.out.symm, rfl⟩
  by_cases q3 : 48 ≤ c
  · have q4 : ¬ c ≤ 57 := by omega
    clear hA hB hC
    go_enter Tryd.func88, Tryd.ntmps88
    go_wp2
    go_ret
    exact ⟨ret_b H2.out.symm, rfl⟩
  · clear hA hB hC
    go_enter Tryd.func88, Tryd.ntmps88
    go_wp2
    go_ret
    exact ⟨ret_b H2.out.symm, rfl⟩
end Go.Proofs.YthifleacfhijnaaDoor
