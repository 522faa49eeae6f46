/- Parts of texts: SubText, of the program and of the model. -/
import Derived.Test.YteomhjoodnjfbaaTxtClone
import Derived.WalkSpells
namespace Go.Proofs.Yteomhjoodnjfbaa
open Go.RowKit
set_option maxRecDepth 8000

/-- A number, or the nearest that is taken. -/
def nearZ (n : Int) : Int := if 1000000 < n then 1000000 else if n < -1000000 then -1000000 else n
theorem nearZ_b (n : Int) : -1000000 ≤ nearZ n ∧ nearZ n ≤ 1000000 := by
  unfold nearZ
  split
  · omega
  · split <;> omega
/-- Where a part begins, and the place behind it. -/
def subA (f : Int) : Int := if nearZ f < 1 then 1 else nearZ f
def subB (s : ByteArray) (f n : Int) : Int := if (s.size : Int) + 1 < nearZ f + nearZ n then (s.size : Int) + 1 else nearZ f + nearZ n
/-- What SubText answers. -/
def subS (s : ByteArray) (f n : Int) : ByteArray := if subB s f n ≤ subA f then ⟨#[]⟩ else s.extract ((subA f).toNat - 1) ((subB s f n).toNat - 1)

theorem l6Near_any (n : Int) (w : World) : Calls Try.prog 88 #[.int .i64 n] w fun e w' => e = .returned (.int .i64 (nearZ n)) ∧ w' = w := by
  unfold nearZ
  by_cases h1 : 1000000 < n
  · rw [if_pos h1]
    go_enter Try.func88, Try.ntmps88
    go_wp2
    go_ret
    exact ⟨rfl, rfl⟩
  · rw [if_neg h1]
    by_cases h2 : n < -1000000
    · rw [if_pos h2]
      go_enter Try.func88, Try.ntmps88
      go_wp2
      go_ret
      exact ⟨rfl, rfl⟩
    · rw [if_neg h2]
      go_enter Try.func88, Try.ntmps88
      go_wp2
      go_ret
      exact ⟨rfl, rfl⟩
theorem withinReach_any (n : Int) (w : World) : Calls Try.prog 84 #[.int .i64 n] w fun e w' => e = .returned (.int .i64 (nearZ n)) ∧ w' = w := by
  have e : (min (max n (-1000000)) 1000000 : Int) = nearZ n := by
    unfold nearZ
    split
    · omega
    · split <;> omega
  go_enter Try.func84, Try.ntmps84
  go_wp2
  go_ret
  exact ⟨by simp [← e], rfl⟩

set_option maxHeartbeats 1000000 in
theorem specSubText_any (s : ByteArray) (f n : Int) (w : World) (hs : s.size ≤ 1048576) :
    Calls Try.prog 41 #[.string s, .int .i64 f, .int .i64 n] w fun e w' => e = .returned (.string (subS s f n)) ∧ w' = w := by
  have HF := Hid.mk (l6Near_any f w)
  have HN := Hid.mk (l6Near_any n w)
  have hf := nearZ_b f
  have hn := nearZ_b n
  unfold subS subB subA
  generalize nearZ f = a at *
  generalize nearZ n = b at *
  obtain ⟨hf1, hf2⟩ := hf
  obtain ⟨hn1, hn2⟩ := hn
  by_cases h1 : a < 1
  · rw [if_pos h1]
    by_cases h2 : (s.size : Int) + 1 < a + b
    · rw [if_pos h2]
      by_cases h3 : (s.size : Int) + 1 ≤ 1
      · rw [if_pos h3]
        go_enter Try.func41, Try.ntmps41
        go_wp2_with fail
        refine HF.out.mono ?_
        rintro e w1 ⟨rfl, hw1⟩
        obtain rfl := hw1.symm
        clear hw1
        go_wp2_with fail
        refine HN.out.mono ?_
        rintro e w2 ⟨rfl, hw2⟩
        obtain rfl := hw2.symm
        clear hw2 HF HN
        go_wp2
        go_ret
        exact ⟨rfl, rfl⟩
      · rw [if_neg h3]
        have hb1 : 0 ≤ 1 - 1 := by omega
        have hb2 : 1 - 1 ≤ (s.size : Int) + 1 - 1 := by omega
        have hb3 : (s.size : Int) + 1 - 1 ≤ (s.size : Int) := by omega
        go_enter Try.func41, Try.ntmps41
        go_wp2_with fail
        refine HF.out.mono ?_
        rintro e w1 ⟨rfl, hw1⟩
        obtain rfl := hw1.symm
        clear hw1
        go_wp2_with fail
        refine HN.out.mono ?_
        rintro e w2 ⟨rfl, hw2⟩
        obtain rfl := hw2.symm
        clear hw2 HF HN
        go_wp2
        go_ret
        exact ⟨by simp, rfl⟩
    · rw [if_neg h2]
      by_cases h3 : a + b ≤ 1
      · rw [if_pos h3]
        go_enter Try.func41, Try.ntmps41
        go_wp2_with fail
        refine HF.out.mono ?_
        rintro e w1 ⟨rfl, hw1⟩
        obtain rfl := hw1.symm
        clear hw1
        go_wp2_with fail
        refine HN.out.mono ?_
        rintro e w2 ⟨rfl, hw2⟩
        obtain rfl := hw2.symm
        clear hw2 HF HN
        go_wp2
        go_ret
        exact ⟨rfl, rfl⟩
      · rw [if_neg h3]
        have hb1 : 0 ≤ 1 - 1 := by omega
        have hb2 : 1 - 1 ≤ a + b - 1 := by omega
        have hb3 : a + b - 1 ≤ (s.size : Int) := by omega
        go_enter Try.func41, Try.ntmps41
        go_wp2_with fail
        refine HF.out.mono ?_
        rintro e w1 ⟨rfl, hw1⟩
        obtain rfl := hw1.symm
        clear hw1
        go_wp2_with fail
        refine HN.out.mono ?_
        rintro e w2 ⟨rfl, hw2⟩
        obtain rfl := hw2.symm
        clear hw2 HF HN
        go_wp2
        go_ret
        exact ⟨by simp, rfl⟩
  · rw [if_neg h1]
    by_cases h2 : (s.size : Int) + 1 < a + b
    · rw [if_pos h2]
      by_cases h3 : (s.size : Int) + 1 ≤ a
      · rw [if_pos h3]
        go_enter Try.func41, Try.ntmps41
        go_wp2_with fail
        refine HF.out.mono ?_
        rintro e w1 ⟨rfl, hw1⟩
        obtain rfl := hw1.symm
        clear hw1
        go_wp2_with fail
        refine HN.out.mono ?_
        rintro e w2 ⟨rfl, hw2⟩
        obtain rfl := hw2.symm
        clear hw2 HF HN
        go_wp2
        go_ret
        exact ⟨rfl, rfl⟩
      · rw [if_neg h3]
        have hb1 : 0 ≤ a - 1 := by omega
        have hb2 : a - 1 ≤ (s.size : Int) + 1 - 1 := by omega
        have hb3 : (s.size : Int) + 1 - 1 ≤ (s.size : Int) := by omega
        go_enter Try.func41, Try.ntmps41
        go_wp2_with fail
        refine HF.out.mono ?_
        rintro e w1 ⟨rfl, hw1⟩
        obtain rfl := hw1.symm
        clear hw1
        go_wp2_with fail
        refine HN.out.mono ?_
        rintro e w2 ⟨rfl, hw2⟩
        obtain rfl := hw2.symm
        clear hw2 HF HN
        go_wp2
        go_ret
        exact ⟨by simp, rfl⟩
    · rw [if_neg h2]
      by_cases h3 : a + b ≤ a
      · rw [if_pos h3]
        go_enter Try.func41, Try.ntmps41
        go_wp2_with fail
        refine HF.out.mono ?_
        rintro e w1 ⟨rfl, hw1⟩
        obtain rfl := hw1.symm
        clear hw1
        go_wp2_with fail
        refine HN.out.mono ?_
        rintro e w2 ⟨rfl, hw2⟩
        obtain rfl := hw2.symm
        clear hw2 HF HN
        go_wp2
        go_ret
        exact ⟨rfl, rfl⟩
      · rw [if_neg h3]
        have hb1 : 0 ≤ a - 1 := by omega
        have hb2 : a - 1 ≤ a + b - 1 := by omega
        have hb3 : a + b - 1 ≤ (s.size : Int) := by omega
        go_enter Try.func41, Try.ntmps41
        go_wp2_with fail
        refine HF.out.mono ?_
        rintro e w1 ⟨rfl, hw1⟩
        obtain rfl := hw1.symm
        clear hw1
        go_wp2_with fail
        refine HN.out.mono ?_
        rintro e w2 ⟨rfl, hw2⟩
        obtain rfl := hw2.symm
        clear hw2 HF HN
        go_wp2
        go_ret
        exact ⟨by simp, rfl⟩

set_option maxHeartbeats 1000000 in
theorem implSubText_any (s : ByteArray) (f n : Int) (w : World) (hs : s.size ≤ 1048576) :
    Calls Try.prog 38 #[.string s, .int .i64 f, .int .i64 n] w fun e w' => e = .returned (.string (subS s f n)) ∧ Below w.heap.size w w' := by
  have HF := Hid.mk (withinReach_any f w)
  have HN := Hid.mk (withinReach_any n w)
  have hf := nearZ_b f
  have hn := nearZ_b n
  have hA : subA f = max (nearZ f) 1 := by unfold subA; split <;> omega
  have hB : subB s f n = min (nearZ f + nearZ n) ((s.size : Int) + 1) := by unfold subB; split <;> omega
  unfold subS
  rw [hA, hB]
  clear hA hB
  generalize nearZ f = a at *
  generalize nearZ n = b at *
  obtain ⟨hf1, hf2⟩ := hf
  obtain ⟨hn1, hn2⟩ := hn
  by_cases h3 : min (a + b) ((s.size : Int) + 1) ≤ max a 1
  · rw [if_pos h3]
    go_enter Try.func38, Try.ntmps38
    go_wp2_with fail
    refine HF.out.mono ?_
    rintro e w1 ⟨rfl, hw1⟩
    obtain rfl := hw1.symm
    clear hw1
    go_wp2_with fail
    refine HN.out.mono ?_
    rintro e w2 ⟨rfl, hw2⟩
    obtain rfl := hw2.symm
    clear hw2 HF HN
    go_wp2
    go_ret
    exact ⟨rfl, Below.refl _ _⟩
  · rw [if_neg h3]
    have hb1 : 0 ≤ max a 1 - 1 := by omega
    have hb2 : max a 1 - 1 ≤ min (a + b) ((s.size : Int) + 1) - 1 := by omega
    have hb3 : min (a + b) ((s.size : Int) + 1) - 1 ≤ (s.size : Int) := by omega
    have HC : Hid (∀ x : ByteArray, x.size ≤ 1048576 → ∀ w', Calls Try.prog 85 #[.string x] w' fun e w'' => e = .returned (.string x) ∧ Below w'.heap.size w' w'') := fun x hx w' => clone_any x w' hx
    go_enter Try.func38, Try.ntmps38
    go_wp2_with fail
    refine HF.out.mono ?_
    rintro e w1 ⟨rfl, hw1⟩
    obtain rfl := hw1.symm
    clear hw1
    go_wp2_with fail
    refine HN.out.mono ?_
    rintro e w2 ⟨rfl, hw2⟩
    obtain rfl := hw2.symm
    clear hw2 HF HN
    go_wp2_with fail
    refine (HC.out _ ?_ _).mono ?_
    · simp; omega
    rintro e w3 ⟨rfl, hb⟩
    go_wp2
    go_ret
    exact ⟨by simp, hb⟩
end Go.Proofs.Yteomhjoodnjfbaa
