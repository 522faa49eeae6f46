/- A number's token is the same on both sides. -/
import Derived.Test.YtapcbblfcmdbnaaDoorLexPlain
namespace Go.Proofs.YtapcbblfcmdbnaaDoor
open Go.RowKit
set_option maxRecDepth 8000

theorem bt_data {d : ByteArray} {k : Nat} (h : k < d.data.toList.length) : bt d k = ((d.data.toList[k].toNat : Nat) : Int) := by
  have hs : k < d.size := by rw [Array.length_toList] at h; exact h
  have := byte_txt d k hs
  unfold bt
  rw [← this]
  rfl
theorem dv_fv (d : ByteArray) (hd : ∀ c ∈ d.data.toList, dgU c) : ∀ k, k ≤ d.data.toList.length → dv d k = ((fv 0 (d.data.toList.take k) : Nat) : Int)
  | 0, _ => rfl
  | k + 1, hk => by
    have ih := dv_fv d hd k (by omega)
    have hc := hd _ (List.getElem_mem (show k < d.data.toList.length by omega))
    unfold dgU at hc
    rw [dv, ih, List.take_succ_eq_append_getElem (by omega), fv_snoc, bt_data (by omega)]
    omega
theorem dgU_of {d : ByteArray} (h : ∀ j, j < d.size → dgB (bt d j) = true) : ∀ c ∈ d.data.toList, dgU c := by
  intro c hc
  obtain ⟨j, hj, rfl⟩ := List.getElem_of_mem hc
  have hs : j < d.size := by rw [Array.length_toList] at hj; exact hj
  have := h j hs
  rw [bt_data hj] at this
  unfold dgB bwB at this
  rw [Bool.and_eq_true, decide_eq_true_eq, decide_eq_true_eq] at this
  unfold dgU
  omega
theorem pn_ni (d : ByteArray) (hn : 1 ≤ d.size) (hd : ∀ c ∈ d.data.toList, dgU c) : tokB 1 (pnT d) ⟨#[]⟩ = tokB 1 (niB d) ⟨#[]⟩ ∧ (tokB 1 (pnT d) ⟨#[]⟩ = true → pnT d = niB d) := by
  have hsz : d.size = d.data.toList.length := by rw [Array.length_toList]; rfl
  have hdv := dv_fv d hd d.size (by omega)
  rw [hsz, List.take_length] at hdv
  rw [← hsz] at hdv
  have hlt := fv_lt d.data.toList hd
  rw [← hsz] at hlt
  obtain ⟨c, r, hl⟩ : ∃ c r, d.data.toList = c :: r := by
    cases hl : d.data.toList with
    | nil => rw [hl, List.length_nil] at hsz; omega
    | cons c r => exact ⟨c, r, rfl⟩
  have hb0 : bt d 0 = ((c.toNat : Nat) : Int) := by
    have h0 : 0 < d.data.toList.length := by omega
    rw [bt_data h0, List.getElem_of_eq hl h0]
    rfl
  unfold pnT niB
  rw [hdv]
  rw [hl] at hd hlt hsz ⊢
  clear hdv
  have hc := hd c (List.mem_cons_self ..)
  rw [List.length_cons] at hsz
  by_cases hz : 1 < d.size ∧ bt d 0 = 48
  · have hne : ¬ (fv 0 (c :: r) < 9223372036854775808 ∧ Lib.decDigits (fv 0 (c :: r)) = c :: r) := by
      rintro ⟨_, h⟩
      have hc48 : c = 48 := by
        apply UInt8.toNat_inj.1
        have e : (48 : UInt8).toNat = 48 := rfl
        rw [e]
        omega
      subst hc48
      have := digits_head _ _ rfl r h
      subst this
      simp at hsz
      omega
    rw [if_neg hne, if_neg (fun h => h.2 hz)]
    exact ⟨rfl, fun _ => rfl⟩
  · have hback : Lib.decDigits (fv 0 (c :: r)) = c :: r := by
      by_cases h48 : c.toNat = 48
      · have hr : r = [] := by
          apply List.eq_nil_of_length_eq_zero
          have : ¬ 1 < d.size := fun h => hz ⟨h, by omega⟩
          omega
        subst hr
        have hc48 : c = 48 := by
          apply UInt8.toNat_inj.1
          rw [h48]; rfl
        subst hc48
        have e : fv 0 [48] = 0 := by simp [fv]
        rw [e, Lib.decDigits_one (by omega)]
        rfl
      · exact digits_back hc h48 _ r rfl (fun x hx => hd x (List.mem_cons_of_mem _ hx))
    by_cases h10 : d.size ≤ 10
    · have h2 : 10 ^ d.size ≤ 10 ^ 10 := Nat.pow_le_pow_right (by omega) h10
      have h3 : (10 : Nat) ^ 10 = 10000000000 := by decide
      rw [if_pos ⟨by omega, hback⟩, if_pos ⟨⟨hn, h10⟩, hz⟩]
      exact ⟨rfl, fun _ => rfl⟩
    · have h48 : c.toNat ≠ 48 := fun h => hz ⟨by omega, by omega⟩
      have hp := fv_pos (r := r) hc h48
      have h2 : 10 ^ 10 ≤ 10 ^ r.length := Nat.pow_le_pow_right (by omega) (by omega)
      have h3 : (10 : Nat) ^ 10 = 10000000000 := by decide
      rw [if_neg (fun h : (1 ≤ d.size ∧ d.size ≤ 10) ∧ _ => h10 h.1.2)]
      have hm1 : tokB 1 (-1) ⟨#[]⟩ = false := by decide
      have hbig : tokB 1 ((fv 0 (c :: r) : Nat) : Int) ⟨#[]⟩ = false := by
        show (bwB 0 2147483647 _ && _) = false
        rw [bwB_hi (by omega)]
        rfl
      split
      · rw [hbig, hm1]
        exact ⟨rfl, fun h => by cases h⟩
      · exact ⟨rfl, fun _ => rfl⟩
end Go.Proofs.YtapcbblfcmdbnaaDoor
