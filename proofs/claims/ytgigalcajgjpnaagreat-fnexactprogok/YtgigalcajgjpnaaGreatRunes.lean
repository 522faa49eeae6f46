/- Runes of a text: a rune is a byte below 128, or stands for bytes that are all from 128 on. -/
import Derived.Test.YtgigalcajgjpnaaGreatAppStr
import Derived.Test.YtgigalcajgjpnaaGreatStrOf
import Derived.Lib.OthersKept
namespace Go.Proofs.YtgigalcajgjpnaaGreat
open Go.RowKit

theorem get_txt (s : ByteArray) (k : Nat) : ((s.get! k).toNat : Int) = (txt s).getD k 0 := by
  by_cases h : k < s.size
  · have e : s.get! k = s[k]'h := by
      simp [ByteArray.get!, getElem!_pos, h]
      rfl
    have hl : k < (txt s).length := by rw [txt_length]; exact h
    rw [e, List.getD_eq_getElem?_getD, List.getElem?_eq_getElem hl]
    simp [txt]
    rfl
  · have hl : ¬ k < (txt s).length := by rw [txt_length]; exact h
    rw [List.getD_eq_getElem?_getD, List.getElem?_eq_none (by omega)]
    have : s.get! k = default := by
      simp only [ByteArray.get!]
      exact getElem!_neg s.data k h
    rw [this]
    rfl

theorem byte_txt (s : ByteArray) (i : Nat) (h : i < s.size) : ((s[i].toNat : Nat) : Int) = (txt s).getD i 0 := by
  have hl : i < (txt s).length := by rw [txt_length]; exact h
  rw [List.getD, List.getElem?_eq_getElem hl]
  simp [txt]
  rfl

/-- A rune from 128 on: its bytes are all from 128 on. -/
theorem decode_wide (s : ByteArray) (pos : Nat) (h : pos < s.size) (ha : 128 ≤ (s.get! pos).toNat) :
    1 ≤ (Utf8.decode s pos).2 ∧ ∀ k, pos ≤ k → k < pos + (Utf8.decode s pos).2 → k < s.size ∧ 128 ≤ (s.get! k).toNat := by
  have hn : ¬ (s.get! (pos + 0)).toNat < 128 := by simpa using ha
  have key : ∀ d, (d = 1 ∨ (d = 2 ∧ pos + 1 < s.size ∧ (s.get! (pos + 1)).toNat / 64 = 2) ∨ (d = 3 ∧ pos + 1 < s.size ∧ (s.get! (pos + 1)).toNat / 64 = 2 ∧ pos + 2 < s.size ∧ (s.get! (pos + 2)).toNat / 64 = 2) ∨ (d = 4 ∧ pos + 1 < s.size ∧ (s.get! (pos + 1)).toNat / 64 = 2 ∧ pos + 2 < s.size ∧ (s.get! (pos + 2)).toNat / 64 = 2 ∧ pos + 3 < s.size ∧ (s.get! (pos + 3)).toNat / 64 = 2)) → 1 ≤ d ∧ ∀ k, pos ≤ k → k < pos + d → k < s.size ∧ 128 ≤ (s.get! k).toNat := by
    intro d hd
    refine ⟨by omega, fun k h1 h2 => ?_⟩
    rcases (show k = pos ∨ k = pos + 1 ∨ k = pos + 2 ∨ k = pos + 3 by omega) with rfl | rfl | rfl | rfl
    · exact ⟨h, ha⟩
    · refine ⟨by omega, by omega⟩
    · refine ⟨by omega, by omega⟩
    · refine ⟨by omega, by omega⟩
  apply key
  simp only [Utf8.decode, hn, if_false]
  split
  · rename_i h1
    simp only [Bool.and_eq_true, beq_iff_eq, decide_eq_true_eq] at h1
    split
    · right; left; exact ⟨rfl, h1.2⟩
    · left; rfl
  · split
    · rename_i h1
      simp only [Bool.and_eq_true, beq_iff_eq, decide_eq_true_eq] at h1
      split
      · right; right; left; exact ⟨rfl, h1.1.2.1, h1.1.2.2, h1.2.1, h1.2.2⟩
      · left; rfl
    · split
      · rename_i h1
        simp only [Bool.and_eq_true, beq_iff_eq, decide_eq_true_eq] at h1
        split
        · right; right; right; exact ⟨rfl, h1.1.1.2.1, h1.1.1.2.2, h1.1.2.1, h1.1.2.2, h1.2.1, h1.2.2⟩
        · left; rfl
      · left; rfl

/-- What a step of a range over a text comes to. -/
theorem rune_step (s : ByteArray) (pos : Nat) (h : pos < s.size) :
    ((txt s).getD pos 0 < 128 ∧ ((Utf8.decode s pos).1 : Int) = (txt s).getD pos 0 ∧ (Utf8.decode s pos).2 = 1) ∨
    (128 ≤ ((Utf8.decode s pos).1 : Int) ∧ 1 ≤ (Utf8.decode s pos).2 ∧ pos + (Utf8.decode s pos).2 ≤ s.size ∧ ∀ k, pos ≤ k → k < pos + (Utf8.decode s pos).2 → 128 ≤ (txt s).getD k 0) := by
  have e : s.get! pos = s[pos]'h := by
    simp [ByteArray.get!, getElem!_pos, h]
    rfl
  have hg := get_txt s pos
  by_cases ha : (s[pos]'h).toNat < 128
  · left
    rw [decode_ascii s pos h ha]
    rw [e] at hg
    exact ⟨by omega, hg, rfl⟩
  · right
    have hh := decode_high s pos h (by omega)
    obtain ⟨h1, h2⟩ := decode_wide s pos h (by rw [e]; omega)
    refine ⟨by omega, h1, ?_, fun k hk1 hk2 => ?_⟩
    · have := (h2 (pos + (Utf8.decode s pos).2 - 1) (by omega) (by omega)).1
      omega
    · have := (h2 k hk1 hk2).2
      rw [← get_txt]
      omega
end Go.Proofs.YtgigalcajgjpnaaGreat
