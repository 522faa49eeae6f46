/- Tokens: what is right, as the program asks it and as the document's model does. -/
import Derived.Test.YtgigalcajgjpnaaGreatVal
import Derived.Test.YtgigalcajgjpnaaGreatAppStr
import Derived.Test.YtgigalcajgjpnaaGreatRunes
namespace Go.Proofs.YtgigalcajgjpnaaGreat
open Go.RowKit
set_option maxRecDepth 8000

theorem ret_tb {a b : Bool} (h : a = b) : Ending.returned (.bool a) = .returned (.bool b) := by rw [h]

/-- A number between two. -/
def bwB (lo hi c : Int) : Bool := decide (lo ≤ c) && decide (c ≤ hi)
theorem bwB_yes {lo hi c : Int} (h0 : lo ≤ c) (h1 : c ≤ hi) : bwB lo hi c = true := by simp [bwB, h0, h1]
theorem bwB_lo {lo hi c : Int} (h : c < lo) : bwB lo hi c = false := by simp [bwB]; omega
theorem bwB_hi {lo hi c : Int} (h : hi < c) : bwB lo hi c = false := by simp [bwB]; omega
theorem bwB_case (lo hi c : Int) : (bwB lo hi c = true ∧ lo ≤ c ∧ c ≤ hi) ∨ (bwB lo hi c = false ∧ (c < lo ∨ hi < c)) := by
  by_cases h0 : lo ≤ c
  · by_cases h1 : c ≤ hi
    · exact .inl ⟨bwB_yes h0 h1, h0, h1⟩
    · exact .inr ⟨bwB_hi (by omega), by omega⟩
  · exact .inr ⟨bwB_lo (by omega), by omega⟩
def smB (c : Int) : Bool := bwB 97 122 c
def dgB (c : Int) : Bool := bwB 48 57 c
def nbB (c : Int) : Bool := smB c || dgB c
def pnB (e c : Int) : Bool := bwB 32 126 c && (c != e)
/-- All bytes. -/
def allB (p : Int → Bool) (s : ByteArray) : Bool := (txt s).all p
theorem allB_yes {p : Int → Bool} {s : ByteArray} (h : ∀ j, j < s.size → p ((txt s).getD j 0) = true) : allB p s = true := by
  unfold allB
  rw [List.all_eq_true]
  intro x hx
  obtain ⟨j, hj, rfl⟩ := List.getElem_of_mem hx
  have := h j (by rw [← txt_length]; exact hj)
  rw [List.getD, List.getElem?_eq_getElem hj] at this
  exact this
theorem allB_no {p : Int → Bool} {s : ByteArray} {j : Nat} (hj : j < s.size) (h : p ((txt s).getD j 0) = false) : allB p s = false := by
  unfold allB
  rw [List.all_eq_false]
  have hj' : j < (txt s).length := by rw [txt_length]; exact hj
  rw [List.getD, List.getElem?_eq_getElem hj'] at h
  exact ⟨_, List.getElem_mem hj', by simpa using h⟩
def nameB (s : ByteArray) : Bool := bwB 1 8 s.size && smB ((txt s).getD 0 0) && allB nbB s
def tkMarks : List (List UInt8) := [[123], [125], [40], [41], [91], [93], [44], [59], [36], [43], [45], [42], [47], [37], [46], [60], [60, 61], [61, 61], [33, 61], [62], [62, 61], [38, 38], [124, 124], [33], [126], [61]]
def mkB (s : ByteArray) : Bool := tkMarks.contains s.toList
theorem byte_range (s : ByteArray) (j : Nat) (h : j < s.size) : 0 ≤ (txt s).getD j 0 ∧ (txt s).getD j 0 ≤ 255 := by
  rw [← byte_txt s j h]
  have := s[j].toNat_lt
  omega

theorem l1Bw_any (x lo hi : Int) (w : World) : Calls Tryz.prog 65 #[.int .i64 x, .int .i64 lo, .int .i64 hi] w fun e w' => e = .returned (.bool (bwB lo hi x)) ∧ w' = w := by
  by_cases h0 : lo ≤ x
  · by_cases h1 : x ≤ hi
    · have H := Hid.mk (bwB_yes h0 h1)
      go_enter Tryz.func65, Tryz.ntmps65
      go_wp2
      go_ret
      exact ⟨ret_tb H.out.symm, rfl⟩
    · have H := Hid.mk (bwB_hi (lo := lo) (show hi < x by omega))
      go_enter Tryz.func65, Tryz.ntmps65
      go_wp2
      go_ret
      exact ⟨ret_tb H.out.symm, rfl⟩
  · have H := Hid.mk (bwB_lo (hi := hi) (show x < lo by omega))
    go_enter Tryz.func65, Tryz.ntmps65
    go_wp2
    go_ret
    exact ⟨ret_tb H.out.symm, rfl⟩

theorem l7Small_any (c : Int) (w : World) (h0 : 0 ≤ c) (h1 : c ≤ 255) : Calls Tryz.prog 63 #[.int .u8 c] w fun e w' => e = .returned (.bool (smB c)) ∧ w' = w := by
  go_enter Tryz.func63, Tryz.ntmps63
  go_wp2_with (go_at_call 65; refine (l1Bw_any _ _ _ _).mono ?_; rintro e w' ⟨rfl, rfl⟩)
  go_ret
  exact ⟨rfl, rfl⟩
theorem l2Dig_any (c : Int) (w : World) (h0 : 0 ≤ c) (h1 : c ≤ 255) : Calls Tryz.prog 64 #[.int .u8 c] w fun e w' => e = .returned (.bool (dgB c)) ∧ w' = w := by
  go_enter Tryz.func64, Tryz.ntmps64
  go_wp2_with (go_at_call 65; refine (l1Bw_any _ _ _ _).mono ?_; rintro e w' ⟨rfl, rfl⟩)
  go_ret
  exact ⟨rfl, rfl⟩
theorem isSmall_any (c : Int) (w : World) : Calls Tryz.prog 104 #[.int .u8 c] w fun e w' => e = .returned (.bool (smB c)) ∧ w' = w := by
  rcases bwB_case 97 122 c with ⟨h, h2, h3⟩ | ⟨h, h2⟩
  · have H : Hid (smB c = true) := h
    clear h
    go_enter Tryz.func104, Tryz.ntmps104
    go_wp2
    go_ret
    exact ⟨ret_tb H.out.symm, rfl⟩
  · have H : Hid (smB c = false) := h
    clear h
    rcases h2 with h2 | h2
    · go_enter Tryz.func104, Tryz.ntmps104
      go_wp2
      go_ret
      exact ⟨ret_tb H.out.symm, rfl⟩
    · have h3 : 97 ≤ c := by omega
      have H2 : Hid (decide (c ≤ 122) = smB c) := by show _ = _; rw [H.out]; simp; omega
      go_enter Tryz.func104, Tryz.ntmps104
      go_wp2
      go_ret
      exact ⟨ret_tb H2.out, rfl⟩
theorem isDigit_any (c : Int) (w : World) : Calls Tryz.prog 120 #[.int .u8 c] w fun e w' => e = .returned (.bool (dgB c)) ∧ w' = w := by
  rcases bwB_case 48 57 c with ⟨h, h2, h3⟩ | ⟨h, h2⟩
  · have H : Hid (dgB c = true) := h
    clear h
    go_enter Tryz.func120, Tryz.ntmps120
    go_wp2
    go_ret
    exact ⟨ret_tb H.out.symm, rfl⟩
  · have H : Hid (dgB c = false) := h
    clear h
    rcases h2 with h2 | h2
    · go_enter Tryz.func120, Tryz.ntmps120
      go_wp2
      go_ret
      exact ⟨ret_tb H.out.symm, rfl⟩
    · have h3 : 48 ≤ c := by omega
      have H2 : Hid (decide (c ≤ 57) = dgB c) := by show _ = _; rw [H.out]; simp; omega
      go_enter Tryz.func120, Tryz.ntmps120
      go_wp2
      go_ret
      exact ⟨ret_tb H2.out, rfl⟩
theorem isNameByte_any (c : Int) (w : World) : Calls Tryz.prog 105 #[.int .u8 c] w fun e w' => e = .returned (.bool (nbB c)) ∧ w' = w := by
  have HS := Hid.mk (isSmall_any c)
  cases hs : smB c with
  | true =>
    have H : Hid (nbB c = true) := by show _ = _; simp [nbB, hs]
    rw [hs] at HS
    clear hs
    go_enter Tryz.func105, Tryz.ntmps105
    go_wp2_with fail
    refine (HS.out _).mono ?_
    rintro e w' ⟨rfl, rfl⟩
    go_wp2
    go_ret
    exact ⟨ret_tb H.out.symm, rfl⟩
  | false =>
    have H : Hid (nbB c = dgB c) := by show _ = _; simp [nbB, hs]
    rw [hs] at HS
    clear hs
    go_enter Tryz.func105, Tryz.ntmps105
    go_wp2_with fail
    refine (HS.out _).mono ?_
    rintro e w' ⟨rfl, rfl⟩
    go_wp2_with fail
    refine (isDigit_any c _).mono ?_
    rintro e w' ⟨rfl, rfl⟩
    go_wp2
    go_ret
    exact ⟨ret_tb H.out.symm, rfl⟩
end Go.Proofs.YtgigalcajgjpnaaGreat
