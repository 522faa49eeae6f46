/- Tokens: marks, as the program asks it and as the document's model does. -/
import Derived.Test.YtgigalcajgjpnaaGreatTokWordS
namespace Go.Proofs.YtgigalcajgjpnaaGreat
open Go.RowKit
set_option maxRecDepth 8000

theorem mk_yes {s : ByteArray} {l : List UInt8} (h : (s.toList == l) = true) (hl : tkMarks.contains l = true) : mkB s = true := by
  unfold mkB
  rw [eq_of_beq h]
  exact hl

set_option maxHeartbeats 4000000 in
theorem isMark_any (s : ByteArray) (w : World) : Calls Tryz.prog 172 #[.string s] w fun r w' => r = .returned (.bool (mkB s)) ∧ w' = w := by
  cases h0 : (s.toList == [123]) with
  | true =>
    have H := Hid.mk (mk_yes h0 rfl)
    go_enter Tryz.func172, Tryz.ntmps172
    go_wp2
    go_ret
    exact ⟨ret_tb H.out.symm, rfl⟩
  | false =>
  cases h1 : (s.toList == [125]) with
  | true =>
    have H := Hid.mk (mk_yes h1 rfl)
    go_enter Tryz.func172, Tryz.ntmps172
    go_wp2
    go_ret
    exact ⟨ret_tb H.out.symm, rfl⟩
  | false =>
  cases h2 : (s.toList == [40]) with
  | true =>
    have H := Hid.mk (mk_yes h2 rfl)
    go_enter Tryz.func172, Tryz.ntmps172
    go_wp2
    go_ret
    exact ⟨ret_tb H.out.symm, rfl⟩
  | false =>
  cases h3 : (s.toList == [41]) with
  | true =>
    have H := Hid.mk (mk_yes h3 rfl)
    go_enter Tryz.func172, Tryz.ntmps172
    go_wp2
    go_ret
    exact ⟨ret_tb H.out.symm, rfl⟩
  | false =>
  cases h4 : (s.toList == [91]) with
  | true =>
    have H := Hid.mk (mk_yes h4 rfl)
    go_enter Tryz.func172, Tryz.ntmps172
    go_wp2
    go_ret
    exact ⟨ret_tb H.out.symm, rfl⟩
  | false =>
  cases h5 : (s.toList == [93]) with
  | true =>
    have H := Hid.mk (mk_yes h5 rfl)
    go_enter Tryz.func172, Tryz.ntmps172
    go_wp2
    go_ret
    exact ⟨ret_tb H.out.symm, rfl⟩
  | false =>
  cases h6 : (s.toList == [44]) with
  | true =>
    have H := Hid.mk (mk_yes h6 rfl)
    go_enter Tryz.func172, Tryz.ntmps172
    go_wp2
    go_ret
    exact ⟨ret_tb H.out.symm, rfl⟩
  | false =>
  cases h7 : (s.toList == [59]) with
  | true =>
    have H := Hid.mk (mk_yes h7 rfl)
    go_enter Tryz.func172, Tryz.ntmps172
    go_wp2
    go_ret
    exact ⟨ret_tb H.out.symm, rfl⟩
  | false =>
  cases h8 : (s.toList == [36]) with
  | true =>
    have H := Hid.mk (mk_yes h8 rfl)
    go_enter Tryz.func172, Tryz.ntmps172
    go_wp2
    go_ret
    exact ⟨ret_tb H.out.symm, rfl⟩
  | false =>
  cases h9 : (s.toList == [43]) with
  | true =>
    have H := Hid.mk (mk_yes h9 rfl)
    go_enter Tryz.func172, Tryz.ntmps172
    go_wp2
    go_ret
    exact ⟨ret_tb H.out.symm, rfl⟩
  | false =>
  cases h10 : (s.toList == [45]) with
  | true =>
    have H := Hid.mk (mk_yes h10 rfl)
    go_enter Tryz.func172, Tryz.ntmps172
    go_wp2
    go_ret
    exact ⟨ret_tb H.out.symm, rfl⟩
  | false =>
  cases h11 : (s.toList == [42]) with
  | true =>
    have H := Hid.mk (mk_yes h11 rfl)
    go_enter Tryz.func172, Tryz.ntmps172
    go_wp2
    go_ret
    exact ⟨ret_tb H.out.symm, rfl⟩
  | false =>
  cases h12 : (s.toList == [47]) with
  | true =>
    have H := Hid.mk (mk_yes h12 rfl)
    go_enter Tryz.func172, Tryz.ntmps172
    go_wp2
    go_ret
    exact ⟨ret_tb H.out.symm, rfl⟩
  | false =>
  cases h13 : (s.toList == [37]) with
  | true =>
    have H := Hid.mk (mk_yes h13 rfl)
    go_enter Tryz.func172, Tryz.ntmps172
    go_wp2
    go_ret
    exact ⟨ret_tb H.out.symm, rfl⟩
  | false =>
  cases h14 : (s.toList == [46]) with
  | true =>
    have H := Hid.mk (mk_yes h14 rfl)
    go_enter Tryz.func172, Tryz.ntmps172
    go_wp2
    go_ret
    exact ⟨ret_tb H.out.symm, rfl⟩
  | false =>
  cases h15 : (s.toList == [60]) with
  | true =>
    have H := Hid.mk (mk_yes h15 rfl)
    go_enter Tryz.func172, Tryz.ntmps172
    go_wp2
    go_ret
    exact ⟨ret_tb H.out.symm, rfl⟩
  | false =>
  cases h16 : (s.toList == [60, 61]) with
  | true =>
    have H := Hid.mk (mk_yes h16 rfl)
    go_enter Tryz.func172, Tryz.ntmps172
    go_wp2
    go_ret
    exact ⟨ret_tb H.out.symm, rfl⟩
  | false =>
  cases h17 : (s.toList == [61, 61]) with
  | true =>
    have H := Hid.mk (mk_yes h17 rfl)
    go_enter Tryz.func172, Tryz.ntmps172
    go_wp2
    go_ret
    exact ⟨ret_tb H.out.symm, rfl⟩
  | false =>
  cases h18 : (s.toList == [33, 61]) with
  | true =>
    have H := Hid.mk (mk_yes h18 rfl)
    go_enter Tryz.func172, Tryz.ntmps172
    go_wp2
    go_ret
    exact ⟨ret_tb H.out.symm, rfl⟩
  | false =>
  cases h19 : (s.toList == [62]) with
  | true =>
    have H := Hid.mk (mk_yes h19 rfl)
    go_enter Tryz.func172, Tryz.ntmps172
    go_wp2
    go_ret
    exact ⟨ret_tb H.out.symm, rfl⟩
  | false =>
  cases h20 : (s.toList == [62, 61]) with
  | true =>
    have H := Hid.mk (mk_yes h20 rfl)
    go_enter Tryz.func172, Tryz.ntmps172
    go_wp2
    go_ret
    exact ⟨ret_tb H.out.symm, rfl⟩
  | false =>
  cases h21 : (s.toList == [38, 38]) with
  | true =>
    have H := Hid.mk (mk_yes h21 rfl)
    go_enter Tryz.func172, Tryz.ntmps172
    go_wp2
    go_ret
    exact ⟨ret_tb H.out.symm, rfl⟩
  | false =>
  cases h22 : (s.toList == [124, 124]) with
  | true =>
    have H := Hid.mk (mk_yes h22 rfl)
    go_enter Tryz.func172, Tryz.ntmps172
    go_wp2
    go_ret
    exact ⟨ret_tb H.out.symm, rfl⟩
  | false =>
  cases h23 : (s.toList == [33]) with
  | true =>
    have H := Hid.mk (mk_yes h23 rfl)
    go_enter Tryz.func172, Tryz.ntmps172
    go_wp2
    go_ret
    exact ⟨ret_tb H.out.symm, rfl⟩
  | false =>
  cases h24 : (s.toList == [126]) with
  | true =>
    have H := Hid.mk (mk_yes h24 rfl)
    go_enter Tryz.func172, Tryz.ntmps172
    go_wp2
    go_ret
    exact ⟨ret_tb H.out.symm, rfl⟩
  | false =>
  cases h25 : (s.toList == [61]) with
  | true =>
    have H := Hid.mk (mk_yes h25 rfl)
    go_enter Tryz.func172, Tryz.ntmps172
    go_wp2
    go_ret
    exact ⟨ret_tb H.out.symm, rfl⟩
  | false =>
  have H : Hid (mkB s = false) := by
    show _ = _
    unfold mkB tkMarks
    simp only [List.contains, List.elem, h0, h1, h2, h3, h4, h5, h6, h7, h8, h9, h10, h11, h12, h13, h14, h15, h16, h17, h18, h19, h20, h21, h22, h23, h24, h25]
  go_enter Tryz.func172, Tryz.ntmps172
  go_wp2
  go_ret
  exact ⟨ret_tb H.out.symm, rfl⟩

def onesB : ByteArray := ⟨#[123, 125, 40, 41, 91, 93, 44, 59, 36, 43, 45, 42, 47, 37, 46, 60, 62, 33, 126, 61]⟩
/-- A text is the k-th of the marks of one byte. -/
def oneB (s : ByteArray) (k : Nat) : Bool := s.toList == (onesB.extract k (k + 1)).toList
def onesL : List UInt8 := [123, 125, 40, 41, 91, 93, 44, 59, 36, 43, 45, 42, 47, 37, 46, 60, 62, 33, 126, 61]
theorem ones_ext (k : Nat) : (onesB.extract k (k + 1)).toList = (onesL.drop k).take 1 := by
  rw [ByteArray.toList_eq, ByteArray.data_extract, Array.toList_extract]
  simp [onesB, onesL, List.extract]
theorem ones_in : ∀ k, k < 20 → tkMarks.contains ((onesL.drop k).take 1) = true := by decide
theorem ones_get (k : Nat) (h : k < 20) : tkMarks.contains (onesB.extract k (k + 1)).toList = true := by rw [ones_ext]; exact ones_in k h
theorem one_yes {s : ByteArray} {k : Nat} (hk : k < 20) (h : oneB s k = true) : mkB s = true := mk_yes h (ones_get k hk)
theorem mk_no {s : ByteArray} (t0 : (s.toList == [60, 61]) = false) (t1 : (s.toList == [61, 61]) = false) (t2 : (s.toList == [33, 61]) = false) (t3 : (s.toList == [62, 61]) = false) (t4 : (s.toList == [38, 38]) = false) (t5 : (s.toList == [124, 124]) = false) (h : ∀ k, k < 20 → oneB s k = false) : mkB s = false := by
  have g0 : (s.toList == [123]) = false := by have := h 0 (by omega); rw [oneB, ones_ext] at this; exact this
  have g1 : (s.toList == [125]) = false := by have := h 1 (by omega); rw [oneB, ones_ext] at this; exact this
  have g2 : (s.toList == [40]) = false := by have := h 2 (by omega); rw [oneB, ones_ext] at this; exact this
  have g3 : (s.toList == [41]) = false := by have := h 3 (by omega); rw [oneB, ones_ext] at this; exact this
  have g4 : (s.toList == [91]) = false := by have := h 4 (by omega); rw [oneB, ones_ext] at this; exact this
  have g5 : (s.toList == [93]) = false := by have := h 5 (by omega); rw [oneB, ones_ext] at this; exact this
  have g6 : (s.toList == [44]) = false := by have := h 6 (by omega); rw [oneB, ones_ext] at this; exact this
  have g7 : (s.toList == [59]) = false := by have := h 7 (by omega); rw [oneB, ones_ext] at this; exact this
  have g8 : (s.toList == [36]) = false := by have := h 8 (by omega); rw [oneB, ones_ext] at this; exact this
  have g9 : (s.toList == [43]) = false := by have := h 9 (by omega); rw [oneB, ones_ext] at this; exact this
  have g10 : (s.toList == [45]) = false := by have := h 10 (by omega); rw [oneB, ones_ext] at this; exact this
  have g11 : (s.toList == [42]) = false := by have := h 11 (by omega); rw [oneB, ones_ext] at this; exact this
  have g12 : (s.toList == [47]) = false := by have := h 12 (by omega); rw [oneB, ones_ext] at this; exact this
  have g13 : (s.toList == [37]) = false := by have := h 13 (by omega); rw [oneB, ones_ext] at this; exact this
  have g14 : (s.toList == [46]) = false := by have := h 14 (by omega); rw [oneB, ones_ext] at this; exact this
  have g15 : (s.toList == [60]) = false := by have := h 15 (by omega); rw [oneB, ones_ext] at this; exact this
  have g16 : (s.toList == [62]) = false := by have := h 16 (by omega); rw [oneB, ones_ext] at this; exact this
  have g17 : (s.toList == [33]) = false := by have := h 17 (by omega); rw [oneB, ones_ext] at this; exact this
  have g18 : (s.toList == [126]) = false := by have := h 18 (by omega); rw [oneB, ones_ext] at this; exact this
  have g19 : (s.toList == [61]) = false := by have := h 19 (by omega); rw [oneB, ones_ext] at this; exact this
  unfold mkB tkMarks
  simp only [List.contains, List.elem, t0, t1, t2, t3, t4, t5, g0, g1, g2, g3, g4, g5, g6, g7, g8, g9, g10, g11, g12, g13, g14, g15, g16, g17, g18, g19]

end Go.Proofs.YtgigalcajgjpnaaGreat
