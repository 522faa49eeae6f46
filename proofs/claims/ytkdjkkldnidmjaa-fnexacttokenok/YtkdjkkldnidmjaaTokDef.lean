/- Tokens: what is right, as the program asks it and as the document's model does. -/
import Derived.Test.YtkdjkkldnidmjaaVal
import Derived.Test.YtkdjkkldnidmjaaAppStr
import Derived.Test.YtkdjkkldnidmjaaRunes
namespace Go.Proofs.Ytkdjkkldnidmjaa
open Go.RowKit
set_option maxRecDepth 8000

theorem ret_tb {a b : Bool} (h : a = b) : Ending.returned (.bool a) = .returned (.bool b) := by rw [h]

/-- A number between two. -/
def inB (lo hi c : Int) : Bool := decide (lo ≤ c) && decide (c ≤ hi)
theorem inB_yes {lo hi c : Int} (h0 : lo ≤ c) (h1 : c ≤ hi) : inB lo hi c = true := by simp [inB, h0, h1]
theorem inB_lo {lo hi c : Int} (h : c < lo) : inB lo hi c = false := by simp [inB]; omega
theorem inB_hi {lo hi c : Int} (h : hi < c) : inB lo hi c = false := by simp [inB]; omega
theorem inB_case (lo hi c : Int) : (inB lo hi c = true ∧ lo ≤ c ∧ c ≤ hi) ∨ (inB lo hi c = false ∧ (c < lo ∨ hi < c)) := by
  by_cases h0 : lo ≤ c
  · by_cases h1 : c ≤ hi
    · exact .inl ⟨inB_yes h0 h1, h0, h1⟩
    · exact .inr ⟨inB_hi (by omega), by omega⟩
  · exact .inr ⟨inB_lo (by omega), by omega⟩
def smB (c : Int) : Bool := inB 97 122 c
def dgB (c : Int) : Bool := inB 48 57 c
def nbB (c : Int) : Bool := smB c || dgB c
def pnB (e c : Int) : Bool := inB 32 126 c && (c != e)
/-- All bytes. -/
def allB (p : Int → Bool) (s : ByteArray) : Bool := (txt s).all p
theorem allB_yes {p : Int → Bool} {s : ByteArray} (h : ∀ j, j < s.size → p ((txt s).getD j 0) = true) : allB p s = true := by
  unfold allB
  rw [List.all_eq_true]
  intro x hx
  obtain ⟨j, hj, rfl⟩ := List.getElem_of_mem hx
  have := h j (by rw [← txt_length]; exact hj)
  rw [List.getD, List.getElem?_eq_getElem hj] at this
  exact this
theorem allB_no {p : Int → Bool} {s : ByteArray} {j : Nat} (hj : j < s.size) (h : p ((txt s).getD j 0) = false) : allB p s = false := by
  unfold allB
  rw [List.all_eq_false]
  have hj' : j < (txt s).length := by rw [txt_length]; exact hj
  rw [List.getD, List.getElem?_eq_getElem hj'] at h
  exact ⟨_, List.getElem_mem hj', by simpa using h⟩
def nameB (s : ByteArray) : Bool := inB 1 8 s.size && smB ((txt s).getD 0 0) && allB nbB s
def tkMarks : List (List UInt8) := [[123], [125], [40], [41], [91], [93], [44], [59], [36], [43], [45], [42], [47], [37], [46], [60], [60, 61], [61, 61], [33, 61], [62], [62, 61], [38, 38], [124, 124], [33], [126], [61]]
def mkB (s : ByteArray) : Bool := tkMarks.contains s.toList
theorem byte_range (s : ByteArray) (j : Nat) (h : j < s.size) : 0 ≤ (txt s).getD j 0 ∧ (txt s).getD j 0 ≤ 255 := by
  rw [← byte_txt s j h]
  have := s[j].toNat_lt
  omega

theorem l1In_any (x lo hi : Int) (w : World) : Calls Try.prog 31 #[.int .i64 x, .int .i64 lo, .int .i64 hi] w fun e w' => e = .returned (.bool (inB lo hi x)) ∧ w' = w := by
  by_cases h0 : lo ≤ x
  · by_cases h1 : x ≤ hi
    · have H := Hid.mk (inB_yes h0 h1)
      go_enter Try.func31, Try.ntmps31
      go_wp2
      go_ret
      exact ⟨ret_tb H.out.symm, rfl⟩
    · have H := Hid.mk (inB_hi (lo := lo) (show hi < x by omega))
      go_enter Try.func31, Try.ntmps31
      go_wp2
      go_ret
      exact ⟨ret_tb H.out.symm, rfl⟩
  · have H := Hid.mk (inB_lo (hi := hi) (show x < lo by omega))
    go_enter Try.func31, Try.ntmps31
    go_wp2
    go_ret
    exact ⟨ret_tb H.out.symm, rfl⟩

theorem l7Small_any (c : Int) (w : World) (h0 : 0 ≤ c) (h1 : c ≤ 255) : Calls Try.prog 47 #[.int .u8 c] w fun e w' => e = .returned (.bool (smB c)) ∧ w' = w := by
  go_enter Try.func47, Try.ntmps47
  go_wp2_with (go_at_call 31; refine (l1In_any _ _ _ _).mono ?_; rintro e w' ⟨rfl, rfl⟩)
  go_ret
  exact ⟨rfl, rfl⟩
theorem l2Digit_any (c : Int) (w : World) (h0 : 0 ≤ c) (h1 : c ≤ 255) : Calls Try.prog 48 #[.int .u8 c] w fun e w' => e = .returned (.bool (dgB c)) ∧ w' = w := by
  go_enter Try.func48, Try.ntmps48
  go_wp2_with (go_at_call 31; refine (l1In_any _ _ _ _).mono ?_; rintro e w' ⟨rfl, rfl⟩)
  go_ret
  exact ⟨rfl, rfl⟩
theorem isSmall_any (c : Int) (w : World) : Calls Try.prog 57 #[.int .u8 c] w fun e w' => e = .returned (.bool (smB c)) ∧ w' = w := by
  rcases inB_case 97 122 c with ⟨h, h2, h3⟩ | ⟨h, h2⟩
  · have H : Hid (smB c = true) := h
    clear h
    go_enter Try.func57, Try.ntmps57
    go_wp2
    go_ret
    exact ⟨ret_tb H.out.symm, rfl⟩
  · have H : Hid (smB c = false) := h
    clear h
    rcases h2 with h2 | h2
    · go_enter Try.func57, Try.ntmps57
      go_wp2
      go_ret
      exact ⟨ret_tb H.out.symm, rfl⟩
    · have h3 : 97 ≤ c := by omega
      have H2 : Hid (decide (c ≤ 122) = smB c) := by show _ = _; rw [H.out]; simp; omega
      go_enter Try.func57, Try.ntmps57
      go_wp2
      go_ret
      exact ⟨ret_tb H2.out, rfl⟩
theorem isDigit_any (c : Int) (w : World) : Calls Try.prog 63 #[.int .u8 c] w fun e w' => e = .returned (.bool (dgB c)) ∧ w' = w := by
  rcases inB_case 48 57 c with ⟨h, h2, h3⟩ | ⟨h, h2⟩
  · have H : Hid (dgB c = true) := h
    clear h
    go_enter Try.func63, Try.ntmps63
    go_wp2
    go_ret
    exact ⟨ret_tb H.out.symm, rfl⟩
  · have H : Hid (dgB c = false) := h
    clear h
    rcases h2 with h2 | h2
    · go_enter Try.func63, Try.ntmps63
      go_wp2
      go_ret
      exact ⟨ret_tb H.out.symm, rfl⟩
    · have h3 : 48 ≤ c := by omega
      have H2 : Hid (decide (c ≤ 57) = dgB c) := by show _ = _; rw [H.out]; simp; omega
      go_enter Try.func63, Try.ntmps63
      go_wp2
      go_ret
      exact ⟨ret_tb H2.out, rfl⟩
theorem isNameByte_any (c : Int) (w : World) : Calls Try.prog 58 #[.int .u8 c] w fun e w' => e = .returned (.bool (nbB c)) ∧ w' = w := by
  have HS := Hid.mk (isSmall_any c)
  cases hs : smB c with
  | true =>
    have H : Hid (nbB c = true) := by show _ = _; simp [nbB, hs]
    rw [hs] at HS
    clear hs
    go_enter Try.func58, Try.ntmps58
    go_wp2_with fail
    refine (HS.out _).mono ?_
    rintro e w' ⟨rfl, rfl⟩
    go_wp2
    go_ret
    exact ⟨ret_tb H.out.symm, rfl⟩
  | false =>
    have H : Hid (nbB c = dgB c) := by show _ = _; simp [nbB, hs]
    rw [hs] at HS
    clear hs
    go_enter Try.func58, Try.ntmps58
    go_wp2_with fail
    refine (HS.out _).mono ?_
    rintro e w' ⟨rfl, rfl⟩
    go_wp2_with fail
    refine (isDigit_any c _).mono ?_
    rintro e w' ⟨rfl, rfl⟩
    go_wp2
    go_ret
    exact ⟨ret_tb H.out.symm, rfl⟩
end Go.Proofs.Ytkdjkkldnidmjaa
