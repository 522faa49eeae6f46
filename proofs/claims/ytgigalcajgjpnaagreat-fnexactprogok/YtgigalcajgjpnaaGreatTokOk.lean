/- Tokens that are right: TokenOk, of the program and of the model. -/
import Derived.Test.YtgigalcajgjpnaaGreatTokMark
namespace Go.Proofs.YtgigalcajgjpnaaGreat
open Go.RowKit
set_option maxRecDepth 8000

/-- A text is one of its kind. -/
def wrB (k : Int) (s : ByteArray) : Bool :=
  if k = 2 then nameB s else if k = 3 then prB 39 s else if k = 4 then !s.toList.isEmpty && prB 47 s else if k = 5 then mkB s else false
/-- A token is right. -/
def tokB (k n : Int) (s : ByteArray) : Bool := if k = 1 then bwB 0 2147483647 n && s.toList.isEmpty else n == 0 && wrB k s
theorem pr_long {e : Int} {s : ByteArray} (h : ¬ (s.size : Int) ≤ 200) : prB e s = false := by unfold prB; rw [decide_eq_false h]; rfl
theorem pr_short {e : Int} {s : ByteArray} (h : (s.size : Int) ≤ 200) : prB e s = allB (pnB e) s := by unfold prB; rw [decide_eq_true h]; rfl

set_option maxHeartbeats 1000000 in
theorem writtenOk_any (k : Int) (s : ByteArray) (w : World) (hs : s.size ≤ maxLen) : Calls Tryz.prog 168 #[.int .i64 k, .string s] w fun r w' => r = .returned (.bool (wrB k s)) ∧ w' = w := by
  have HP := Hid.mk (fun e w => isPlain_any s e w hs)
  have HM := Hid.mk (fun w => isMark_any s w)
  have HNm := Hid.mk (fun w => isName_any s w hs)
  unfold maxLen at hs
  by_cases h2 : k = 2
  · subst h2
    go_enter Tryz.func168, Tryz.ntmps168
    go_wp2_with fail
    refine (HNm.out _).mono ?_
    rintro e w' ⟨rfl, rfl⟩
    go_wp2
    go_ret
    exact ⟨rfl, rfl⟩
  by_cases h3 : k = 3
  · subst h3
    by_cases hl : (s.size : Int) ≤ 200
    · have H : Hid (wrB 3 s = allB (pnB 39) s) := pr_short hl
      go_enter Tryz.func168, Tryz.ntmps168
      go_wp2_with fail
      refine (HP.out _ _).mono ?_
      rintro e w' ⟨rfl, rfl⟩
      go_wp2
      go_ret
      exact ⟨ret_tb H.out.symm, rfl⟩
    · have H : Hid (wrB 3 s = false) := pr_long hl
      go_enter Tryz.func168, Tryz.ntmps168
      go_wp2
      go_ret
      exact ⟨ret_tb H.out.symm, rfl⟩
  by_cases h4 : k = 4
  · subst h4
    rcases sEmp s with ⟨he, hz⟩ | ⟨he, hz⟩
    · have H : Hid (wrB 4 s = false) := by show (!s.toList.isEmpty && prB 47 s) = false; rw [he]; rfl
      go_enter Tryz.func168, Tryz.ntmps168
      go_wp2
      go_ret
      exact ⟨ret_tb H.out.symm, rfl⟩
    by_cases hl : (s.size : Int) ≤ 200
    · have H : Hid (wrB 4 s = allB (pnB 47) s) := by show (!s.toList.isEmpty && prB 47 s) = _; rw [he, pr_short hl]; rfl
      go_enter Tryz.func168, Tryz.ntmps168
      go_wp2_with fail
      refine (HP.out _ _).mono ?_
      rintro e w' ⟨rfl, rfl⟩
      go_wp2
      go_ret
      exact ⟨ret_tb H.out.symm, rfl⟩
    · have H : Hid (wrB 4 s = false) := by show (!s.toList.isEmpty && prB 47 s) = _; rw [pr_long hl]; simp
      go_enter Tryz.func168, Tryz.ntmps168
      go_wp2
      go_ret
      exact ⟨ret_tb H.out.symm, rfl⟩
  by_cases h5 : k = 5
  · subst h5
    go_enter Tryz.func168, Tryz.ntmps168
    go_wp2_with fail
    refine (HM.out _).mono ?_
    rintro e w' ⟨rfl, rfl⟩
    go_wp2
    go_ret
    exact ⟨rfl, rfl⟩
  · have H : Hid (wrB k s = false) := by show _ = _; unfold wrB; rw [if_neg h2, if_neg h3, if_neg h4, if_neg h5]
    go_enter Tryz.func168, Tryz.ntmps168
    go_wp2
    go_ret
    exact ⟨ret_tb H.out.symm, rfl⟩

set_option maxHeartbeats 1000000 in
theorem implTokenOk_any (k n : Int) (s : ByteArray) (w : World) (hs : s.size ≤ maxLen) : Calls Tryz.prog 165 #[vl k n s] w fun r w' => r = .returned (.bool (tokB k n s)) ∧ Below w.heap.size w w' := by
  have A0 : Hid (∀ o, Below w.heap.size w (w.alloc o)) := fun o => (Below.refl _ _).alloc (Nat.le_refl _) _
  have HW := Hid.mk (fun w => writtenOk_any k s w hs)
  clear hs
  by_cases h1 : k = 1
  · subst h1
    by_cases h0 : 0 ≤ n
    · by_cases hn : n ≤ 2147483647
      · have H : Hid (tokB 1 n s = s.toList.isEmpty) := by show (bwB 0 2147483647 n && s.toList.isEmpty) = _; rw [bwB_yes h0 hn]; rfl
        go_enter Tryz.func165, Tryz.ntmps165
        go_wp2
        go_ret
        exact ⟨ret_tb H.out.symm, A0.out _⟩
      · have H : Hid (tokB 1 n s = false) := by show (bwB 0 2147483647 n && s.toList.isEmpty) = _; rw [bwB_hi (by omega)]; rfl
        go_enter Tryz.func165, Tryz.ntmps165
        go_wp2
        go_ret
        exact ⟨ret_tb H.out.symm, A0.out _⟩
    · have H : Hid (tokB 1 n s = false) := by show (bwB 0 2147483647 n && s.toList.isEmpty) = _; rw [bwB_lo (by omega)]; rfl
      go_enter Tryz.func165, Tryz.ntmps165
      go_wp2
      go_ret
      exact ⟨ret_tb H.out.symm, A0.out _⟩
  by_cases hn : n = 0
  · subst hn
    have H : Hid (tokB k 0 s = wrB k s) := by show _ = _; unfold tokB; rw [if_neg h1]; simp
    go_enter Tryz.func165, Tryz.ntmps165
    go_wp2_with fail
    refine (HW.out _).mono ?_
    rintro e w' ⟨rfl, rfl⟩
    go_wp2
    go_ret
    exact ⟨ret_tb H.out.symm, A0.out _⟩
  · have H : Hid (tokB k n s = false) := by show _ = _; unfold tokB; rw [if_neg h1, beq_false_of_ne hn]; rfl
    have hn' : (n == 0) = false := beq_false_of_ne hn
    clear hn
    go_enter Tryz.func165, Tryz.ntmps165
    go_wp2
    go_ret
    exact ⟨ret_tb H.out.symm, A0.out _⟩

theorem and_zero (a : Bool) (n : Int) : (a && (n == 0)) = (n == 0 && a) := Bool.and_comm _ _
end Go.Proofs.YtgigalcajgjpnaaGreat
