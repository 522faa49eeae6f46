/- The text of a token: TokenText, of the program and of the model. -/
import Derived.Test.YtkdjkkldnidmjaaDoorTokOk
import Derived.Test.YtkdjkkldnidmjaaDoorTokLeaf
import Derived.Test.YtkdjkkldnidmjaaDoorSame
import Derived.Test.YtkdjkkldnidmjaaDoorTxtClone
namespace Go.Proofs.YtkdjkkldnidmjaaDoor
open Go.RowKit
set_option maxRecDepth 8000

/-- A token's text. -/
def tkT (k n : Int) (s : ByteArray) : ByteArray :=
  if tokB k n s = true then (if k = 1 then numS n else if k = 3 then (⟨#[39]⟩ ++ s) ++ ⟨#[39]⟩ else if k = 4 then (⟨#[47]⟩ ++ s) ++ ⟨#[47]⟩ else s) else ⟨#[]⟩
theorem tkT_no {k n : Int} {s : ByteArray} (h : tokB k n s = false) : tkT k n s = ⟨#[]⟩ := by unfold tkT; rw [h]; rfl
theorem tkT_1 {n : Int} {s : ByteArray} (h : tokB 1 n s = true) : tkT 1 n s = numS n := by unfold tkT; rw [h]; rfl
theorem tkT_3 {n : Int} {s : ByteArray} (h : tokB 3 n s = true) : tkT 3 n s = (⟨#[39]⟩ ++ s) ++ ⟨#[39]⟩ := by unfold tkT; rw [h]; rfl
theorem tkT_4 {n : Int} {s : ByteArray} (h : tokB 4 n s = true) : tkT 4 n s = (⟨#[47]⟩ ++ s) ++ ⟨#[47]⟩ := by unfold tkT; rw [h]; rfl
theorem tkT_s {k n : Int} {s : ByteArray} (h : tokB k n s = true) (h1 : k ≠ 1) (h3 : k ≠ 3) (h4 : k ≠ 4) : tkT k n s = s := by unfold tkT; rw [if_pos h, if_neg h1, if_neg h3, if_neg h4]
theorem tok_num {n : Int} {s : ByteArray} (h : tokB 1 n s = true) : 0 ≤ n ∧ n ≤ 2147483647 := by
  have h' : (bwB 0 2147483647 n && s.toList.isEmpty) = true := h
  rw [Bool.and_eq_true] at h'
  have := h'.1
  simp [bwB] at this
  exact this
/-- A token's text isn't long. -/
theorem tok_short {k n : Int} {s : ByteArray} (h : tokB k n s = true) : s.size ≤ 200 := by
  by_cases h1 : k = 1
  · subst h1
    have h' : (bwB 0 2147483647 n && s.toList.isEmpty) = true := h
    rw [Bool.and_eq_true] at h'
    rcases sEmp s with ⟨_, hz⟩ | ⟨he, _⟩
    · omega
    · rw [he] at h'; exact absurd h'.2 (by simp)
  · have h' : (n == 0 && wrB k s) = true := by unfold tokB at h; rwa [if_neg h1] at h
    rw [Bool.and_eq_true] at h'
    have hw := h'.2
    unfold wrB at hw
    split at hw
    · unfold nameB at hw
      simp [bwB] at hw
      omega
    split at hw
    · unfold prB at hw
      simp at hw
      omega
    split at hw
    · unfold prB at hw
      simp at hw
      omega
    split at hw
    · unfold mkB at hw
      have hm : s.toList ∈ tkMarks := by simpa using hw
      have h2 : ∀ l ∈ tkMarks, l.length ≤ 2 := by decide
      have h3 : s.size = s.toList.length := by rw [ByteArray.toList_eq, Array.length_toList]; rfl
      have := h2 _ hm
      omega
    · cases hw

set_option maxHeartbeats 2000000 in
theorem specTokenText_any (k n : Int) (s : ByteArray) (w : World) (hs : s.size ≤ maxLen) : Calls Tryd.prog 18 #[vl k n s] w fun e w' => e = .returned (.string (tkT k n s)) ∧ Below w.heap.size w w' := by
  have HO := Hid.mk (fun w => specTokenOk_any k n s w hs)
  have A0 : Below w.heap.size w (boxed w k n s 31) := (Below.refl _ _).alloc (Nat.le_refl _) _
  clear hs
  cases hb : tokB k n s with
  | false =>
    have H := Hid.mk (tkT_no hb)
    rw [hb] at HO
    clear hb
    go_enter Tryd.func18, Tryd.ntmps18
    go_wp2_with fail
    refine (HO.out _).mono ?_
    rintro e w1 ⟨rfl, hb1⟩
    have B1 := A0.trans (hb1.mono (by simp))
    clear hb1 HO A0
    go_wp2
    go_ret
    exact ⟨ret_str H.out.symm, B1⟩
  | true =>
    have hsz := tok_short hb
    rw [hb] at HO
    by_cases h1 : k = 1
    · subst h1
      have H := Hid.mk (tkT_1 hb)
      obtain ⟨n0, n1⟩ := tok_num hb
      have HN := Hid.mk (fun w => l2Num_ind n.natAbs n w rfl (by omega) (by omega))
      clear hb
      go_enter Tryd.func18, Tryd.ntmps18
      go_wp2_with fail
      refine (HO.out _).mono ?_
      rintro e w1 ⟨rfl, hb1⟩
      have B1 := A0.trans (hb1.mono (by simp))
      have hc1 := fun o => hb1.cell (p := ⟨w.heap.size, o, none⟩) (by simp)
      have hs1 := hb1.size
      clear hb1 HO A0
      go_wp2_with fail
      refine (HN.out _).mono ?_
      rintro e w2 ⟨rfl, hb2⟩
      have B2 := B1.trans (hb2.mono B1.size)
      clear hb2 HN hc1 B1
      go_wp2
      go_ret
      exact ⟨ret_str H.out.symm, B2⟩
    have g1 : ¬ 9223372036854775807 < 1 + s.size := by omega
    have g2 : ∀ c, (⟨#[c]⟩ : ByteArray).size = 1 := fun c => rfl
    have g3 : ∀ c, ¬ 9223372036854775807 < (⟨#[c]⟩ ++ s : ByteArray).size + 1 := fun c => by rw [ByteArray.size_append, g2]; omega
    by_cases h3 : k = 3
    · subst h3
      have H := Hid.mk (tkT_3 hb)
      have g4 := g3 39
      have g5 := g2 39
      clear hb g2 g3
      go_enter Tryd.func18, Tryd.ntmps18
      go_wp2_with fail
      refine (HO.out _).mono ?_
      rintro e w1 ⟨rfl, hb1⟩
      have B1 := A0.trans (hb1.mono (by simp))
      have hc1 := fun o => hb1.cell (p := ⟨w.heap.size, o, none⟩) (by simp)
      clear hb1 HO A0
      go_wp2
      go_ret
      exact ⟨ret_str H.out.symm, B1⟩
    by_cases h4 : k = 4
    · subst h4
      have H := Hid.mk (tkT_4 hb)
      have g4 := g3 47
      have g5 := g2 47
      clear hb g2 g3
      go_enter Tryd.func18, Tryd.ntmps18
      go_wp2_with fail
      refine (HO.out _).mono ?_
      rintro e w1 ⟨rfl, hb1⟩
      have B1 := A0.trans (hb1.mono (by simp))
      have hc1 := fun o => hb1.cell (p := ⟨w.heap.size, o, none⟩) (by simp)
      clear hb1 HO A0
      go_wp2
      go_ret
      exact ⟨ret_str H.out.symm, B1⟩
    · have H := Hid.mk (tkT_s hb h1 h3 h4)
      clear hb g2 g3 g1
      go_enter Tryd.func18, Tryd.ntmps18
      go_wp2_with fail
      refine (HO.out _).mono ?_
      rintro e w1 ⟨rfl, hb1⟩
      have B1 := A0.trans (hb1.mono (by simp))
      have hc1 := fun o => hb1.cell (p := ⟨w.heap.size, o, none⟩) (by simp)
      clear hb1 HO A0
      go_wp2
      go_ret
      exact ⟨ret_str H.out.symm, B1⟩

set_option maxHeartbeats 2000000 in
theorem implTokenText_any (k n : Int) (s : ByteArray) (w : World) (hs : s.size ≤ maxLen) (ht : Tab w) : Calls Tryd.prog 13 #[vl k n s] w fun e w' => e = .returned (.string (tkT k n s)) ∧ Below w.heap.size w w' := by
  have HO := Hid.mk (fun w => implTokenOk_any k n s w hs)
  have A0 : Below w.heap.size w (boxed w k n s 31) := (Below.refl _ _).alloc (Nat.le_refl _) _
  have HTB := Hid.mk (fun w' (hb : Below w.heap.size w w') => ht.grow hb)
  clear hs ht
  cases hb : tokB k n s with
  | false =>
    have H := Hid.mk (tkT_no hb)
    rw [hb] at HO
    clear hb
    go_enter Tryd.func13, Tryd.ntmps13
    go_wp2_with fail
    refine (HO.out _).mono ?_
    rintro e w1 ⟨rfl, hb1⟩
    have B1 := A0.trans (hb1.mono (by simp))
    clear hb1 HO A0
    go_wp2
    go_ret
    exact ⟨ret_str H.out.symm, B1⟩
  | true =>
    have hsz := tok_short hb
    rw [hb] at HO
    by_cases h1 : k = 1
    · subst h1
      have H := Hid.mk (tkT_1 hb)
      obtain ⟨n0, n1⟩ := tok_num hb
      clear hb
      go_enter Tryd.func13, Tryd.ntmps13
      go_wp2_with fail
      refine (HO.out _).mono ?_
      rintro e w1 ⟨rfl, hb1⟩
      have B1 := A0.trans (hb1.mono (by simp))
      have hc1 := fun o => hb1.cell (p := ⟨w.heap.size, o, none⟩) (by simp)
      have hs1 := hb1.size
      have HT1 := Hid.mk (HTB.out _ B1)
      clear hb1 HO A0
      go_wp2_with fail
      refine (Tryd.strconv_Itoa n (by omega) (by omega) _ HT1.out).mono ?_
      rintro e w2 ⟨rfl, kk, os, rfl⟩
      have B2 := B1.trans (Lib.below_grow w.heap.size _ B1.size kk os)
      clear hc1 B1 HT1
      go_wp2
      go_ret
      exact ⟨ret_str (by rw [H.out]; rfl), B2⟩
    have g1 : ¬ 9223372036854775807 < 1 + s.size := by omega
    have g2 : ∀ c, (⟨#[c]⟩ : ByteArray).size = 1 := fun c => rfl
    have g3 : ∀ c, ¬ 9223372036854775807 < (⟨#[c]⟩ ++ s : ByteArray).size + 1 := fun c => by rw [ByteArray.size_append, g2]; omega
    by_cases h3 : k = 3
    · subst h3
      have H := Hid.mk (tkT_3 hb)
      have g4 := g3 39
      have g5 := g2 39
      clear hb g2 g3 HTB
      go_enter Tryd.func13, Tryd.ntmps13
      go_wp2_with fail
      refine (HO.out _).mono ?_
      rintro e w1 ⟨rfl, hb1⟩
      have B1 := A0.trans (hb1.mono (by simp))
      have hc1 := fun o => hb1.cell (p := ⟨w.heap.size, o, none⟩) (by simp)
      clear hb1 HO A0
      go_wp2
      go_ret
      exact ⟨ret_str H.out.symm, B1⟩
    by_cases h4 : k = 4
    · subst h4
      have H := Hid.mk (tkT_4 hb)
      have g4 := g3 47
      have g5 := g2 47
      clear hb g2 g3 HTB
      go_enter Tryd.func13, Tryd.ntmps13
      go_wp2_with fail
      refine (HO.out _).mono ?_
      rintro e w1 ⟨rfl, hb1⟩
      have B1 := A0.trans (hb1.mono (by simp))
      have hc1 := fun o => hb1.cell (p := ⟨w.heap.size, o, none⟩) (by simp)
      clear hb1 HO A0
      go_wp2
      go_ret
      exact ⟨ret_str H.out.symm, B1⟩
    · have H := Hid.mk (tkT_s hb h1 h3 h4)
      have HC := Hid.mk (fun w => clone_any s w (by omega))
      clear hb g2 g3 g1 HTB
      go_enter Tryd.func13, Tryd.ntmps13
      go_wp2_with fail
      refine (HO.out _).mono ?_
      rintro e w1 ⟨rfl, hb1⟩
      have B1 := A0.trans (hb1.mono (by simp))
      have hc1 := fun o => hb1.cell (p := ⟨w.heap.size, o, none⟩) (by simp)
      clear hb1 HO A0
      go_wp2_with fail
      refine (HC.out _).mono ?_
      rintro e w2 ⟨rfl, hb2⟩
      have B2 := B1.trans (hb2.mono B1.size)
      clear hb2 HC hc1 B1
      go_wp2
      go_ret
      exact ⟨ret_str H.out.symm, B2⟩
end Go.Proofs.YtkdjkkldnidmjaaDoor
