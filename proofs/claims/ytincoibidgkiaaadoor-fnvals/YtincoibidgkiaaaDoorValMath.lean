/- Plain facts on values and their bytes: a right value comes back of its bytes; what is read has these bytes; a number is the number of its text. -/
import Derived.Test.YtincoibidgkiaaaDoorGetVal
import Derived.Test.YtincoibidgkiaaaDoorPutVal
import Derived.Test.YtincoibidgkiaaaDoorNumOf
import Derived.Test.YtincoibidgkiaaaDoorTextOf
import Derived.Test.YtincoibidgkiaaaDoorSame
import Derived.Test.YtincoibidgkiaaaDoorAgain
import Derived.Test.YtincoibidgkiaaaDoorDrawVal
namespace Go.Proofs.YtincoibidgkiaaaDoor
open Go.RowKit

theorem noTxt_of {s : ByteArray} (h : s.toList.isEmpty = true) : s = noTxt := by
  have h1 : s.toList = [] := by simpa using h
  have h2 : s.data.toList = [] := by rw [← ByteArray.toList_eq]; exact h1
  apply ByteArray.ext
  apply Array.toList_inj.1
  simpa using h2

theorem gV_put (zs : List Int) (k n : Int) (s : ByteArray) (h : okB k n s = true) : gV (zs ++ vG k n s) zs.length = (k, n, s, ((zs ++ vG k n s).length : Int), true) := by
  by_cases h0 : k = 0
  · subst h0
    have h' := h
    rw [okB0] at h'
    simp only [Bool.and_eq_true, beq_iff_eq] at h'
    obtain ⟨rfl, h2⟩ := h'
    obtain rfl := noTxt_of h2
    rw [vGx 0 0 noTxt (by decide) (by decide)]
    have hu := gU_put zs 0 (by omega) (by omega)
    have hc : Ma.clamp 0 = 0 := clamp_id 0 (by omega) (by omega)
    rw [hc]
    rw [gV_yes hu (n := 0) (y := (zs.length : Int) + (Ma.UG 0).length) (s := noTxt) (by unfold gVk; rw [if_neg (by decide), if_neg (by decide)]) h]
    simp
  by_cases h1 : k = 1
  · subst h1
    have h' := h
    rw [okB1] at h'
    simp only [Bool.and_eq_true, beq_iff_eq] at h'
    obtain ⟨hw, h2⟩ := h'
    obtain rfl := noTxt_of h2
    have hc : Ma.clamp 1 = 1 := clamp_id 1 (by omega) (by omega)
    have hlo := Ma.wr_lo n
    have hhi := Ma.wr_hi n
    rw [vG1, hc, hw]
    have hu := gU_put_more zs (Ma.SG n) 1 (by omega) (by omega)
    have hs := gS_put (zs ++ Ma.UG 1) n (by omega) (by omega)
    rw [List.append_assoc, List.length_append] at hs
    have hk : gVk 1 (zs ++ (Ma.UG 1 ++ Ma.SG n)) ((zs.length : Int) + (Ma.UG 1).length) = (n, noTxt, ((zs.length + (Ma.UG 1).length : Nat) : Int) + (Ma.SG n).length, true) := by
      unfold gVk
      rw [if_pos rfl, show (zs.length : Int) + ((Ma.UG 1).length : Int) = ((zs.length + (Ma.UG 1).length : Nat) : Int) by omega, hs]
    rw [gV_yes hu hk h]
    simp only [List.length_append, Prod.mk.injEq, and_true, true_and]
    omega
  by_cases h2 : k = 2
  · subst h2
    have h' := h
    rw [okB2] at h'
    simp only [Bool.and_eq_true, beq_iff_eq, decide_eq_true_eq] at h'
    obtain ⟨hsz, rfl⟩ := h'
    have hc : Ma.clamp 2 = 2 := clamp_id 2 (by omega) (by omega)
    have hcs : Ma.clamp (s.size : Int) = (s.size : Int) := clamp_id _ (by omega) (by omega)
    rw [vG2, hc, hcs]
    have hu := gU_put_more zs (Ma.UG (s.size : Int) ++ txt s) 2 (by omega) (by omega)
    have ht := gT_put (zs ++ Ma.UG 2) s (by omega)
    rw [List.append_assoc, show (zs ++ Ma.UG 2).length = zs.length + (Ma.UG 2).length from List.length_append] at ht
    have hk : gVk 2 (zs ++ (Ma.UG 2 ++ (Ma.UG (s.size : Int) ++ txt s))) ((zs.length : Int) + (Ma.UG 2).length) = (0, s, ((zs ++ (Ma.UG 2 ++ (Ma.UG (s.size : Int) ++ txt s))).length : Int), true) := by
      unfold gVk
      rw [if_neg (by decide), if_pos rfl, show (zs.length : Int) + ((Ma.UG 2).length : Int) = ((zs.length + (Ma.UG 2).length : Nat) : Int) by omega, ht]
    rw [gV_yes hu hk h]
  · rw [okBx k n s h0 h1 h2] at h
    cases h

theorem txt_strOf (l : List Int) (h : byteList l) : txt (strOf l) = l := by
  unfold txt strOf
  simp only [List.map_map]
  conv => rhs; rw [← List.map_id l]
  apply List.map_congr_left
  intro z hz
  have := h z hz
  simp only [Function.comp, id]
  exact u8_back z this.1 this.2

theorem gT_again {zs : List Int} {a y : Int} {s : ByteArray} (hb : byteList zs) (h : gT zs a = (s, y, true)) :
    ∃ p m : Nat, a = p ∧ y = ((p + m : Nat) : Int) ∧ p + m ≤ zs.length ∧ s.size ≤ 2147483647 ∧ Ma.UG (s.size : Int) ++ txt s = (zs.drop p).take m := by
  unfold gT at h
  split at h
  · simp at h
  · rename_i hc
    obtain ⟨n, x, ok, hr⟩ : ∃ n x ok, gU zs a = (n, x, ok) := ⟨_, _, _, rfl⟩
    rw [hr] at h hc
    simp only [not_or] at hc
    have hok : ok = true := by simpa using hc.1
    subst hok
    obtain ⟨p, m, rfl, rfl, hm, hpos, hn0, hn1, hU⟩ := gU_again hb hr
    simp only [Prod.mk.injEq, and_true] at h
    obtain ⟨hs, hy⟩ := h
    obtain ⟨q, rfl⟩ := Int.eq_ofNat_of_zero_le hn0
    have hq : p + m + q ≤ zs.length := by have := hc.2; omega
    have e1 : (((p + m : Nat) : Int)).toNat = p + m := by omega
    have e2 : ((q : Int)).toNat = q := by omega
    rw [e1, e2] at hs
    have hl : ((zs.drop (p + m)).take q).length = q := by simp; omega
    have hsz : s.size = q := by rw [← hs, strOf_size, hl]
    refine ⟨p, m + q, rfl, by omega, by omega, by omega, ?_⟩
    rw [hsz, hU, ← hs, txt_strOf _ ((hb.drop _).take _), List.take_add, List.drop_drop]

theorem gV_again {zs : List Int} {a k n e : Int} {s : ByteArray} (hb : byteList zs) (h : gV zs a = (k, n, s, e, true)) :
    ∃ p m : Nat, a = p ∧ e = ((p + m : Nat) : Int) ∧ p + m ≤ zs.length ∧ vG k n s = (zs.drop p).take m ∧ okB k n s = true ∧ s.size ≤ 200 := by
  obtain ⟨k1, x, ok, hr⟩ : ∃ n x ok, gU zs a = (n, x, ok) := ⟨_, _, _, rfl⟩
  obtain ⟨n1, s1, y, ok2, hk⟩ : ∃ n s y ok, gVk k1 zs x = (n, s, y, ok) := ⟨_, _, _, _, rfl⟩
  cases ok with
  | false => rw [gV_no hr] at h; simp at h
  | true =>
  cases ok2 with
  | false => rw [gV_part hr hk] at h; simp at h
  | true =>
  cases hok : okB k1 n1 s1 with
  | false => rw [gV_wrong hr hk hok] at h; simp at h
  | true =>
    rw [gV_yes hr hk hok] at h
    simp only [Prod.mk.injEq, and_true] at h
    obtain ⟨rfl, rfl, rfl, rfl⟩ := h
    obtain ⟨p, m, rfl, rfl, hm, hpos, hn0, hn1, hU⟩ := gU_again hb hr
    have hc : Ma.clamp k1 = k1 := clamp_id k1 hn0 hn1
    by_cases h1 : k1 = 1
    · subst h1
      unfold gVk at hk
      rw [if_pos rfl] at hk
      obtain ⟨n2, y2, ok3, hs⟩ : ∃ n y ok, gS zs ((p + m : Nat) : Int) = (n, y, ok) := ⟨_, _, _, rfl⟩
      rw [hs] at hk
      simp only [Prod.mk.injEq] at hk
      obtain ⟨rfl, rfl, rfl, rfl⟩ := hk
      obtain ⟨p2, m2, hp2, rfl, hm2, _, hw, hS⟩ := gS_again hb hs
      obtain rfl : p2 = p + m := by omega
      refine ⟨p, m + m2, rfl, by omega, by omega, ?_, hok, by decide⟩
      rw [vG1, hc, hw, hU, hS, List.take_add, List.drop_drop]
    by_cases h2 : k1 = 2
    · subst h2
      unfold gVk at hk
      rw [if_neg (by decide), if_pos rfl] at hk
      obtain ⟨s2, y2, ok3, hs⟩ : ∃ n y ok, gT zs ((p + m : Nat) : Int) = (n, y, ok) := ⟨_, _, _, rfl⟩
      rw [hs] at hk
      simp only [Prod.mk.injEq] at hk
      obtain ⟨rfl, rfl, rfl, rfl⟩ := hk
      obtain ⟨p2, m2, hp2, rfl, hm2, hsz, hT⟩ := gT_again hb hs
      obtain rfl : p2 = p + m := by omega
      have h' := hok
      rw [okB2] at h'
      simp only [Bool.and_eq_true, beq_iff_eq, decide_eq_true_eq] at h'
      refine ⟨p, m + m2, rfl, by omega, by omega, ?_, hok, by omega⟩
      rw [vG2, hc, clamp_id _ (by omega) (by omega), hU, hT, List.take_add, List.drop_drop]
    · unfold gVk at hk
      rw [if_neg h1, if_neg h2] at hk
      simp only [Prod.mk.injEq, and_true] at hk
      obtain ⟨rfl, rfl, rfl⟩ := hk
      refine ⟨p, m, rfl, rfl, hm, ?_, hok, by decide⟩
      rw [vGx k1 0 noTxt h1 h2, hc, hU]

/-- A numeral's bytes as numbers. -/
def decI (u : Nat) : List Int := (Lib.decDigits u).map fun b => ((b.toNat : Nat) : Int)

theorem dig_back (d : Nat) (h : d < 10) : ((UInt8.ofNat (48 + d)).toNat : Int) = 48 + d := by
  rw [UInt8.toNat_ofNat']; omega

theorem dn_dec (u : Nat) : ∀ r, dn 0 (decI u ++ r) = dn (Ma.wr u) r := by
  induction u using Nat.strongRecOn with
  | ind u ih =>
    intro r
    by_cases h : u < 10
    · unfold decI
      rw [Lib.decDigits_one h]
      simp only [List.map_cons, List.map_nil, List.cons_append, List.nil_append]
      rw [dig_back u h, dn, if_pos (by omega)]
      exact congrArg (fun x => dn x r) (by unfold Ma.wr; omega)
    · have hd : decI u = decI (u / 10) ++ [48 + ((u % 10 : Nat) : Int)] := by
        unfold decI
        rw [decDigits_step u (by omega), List.map_append]
        simp only [List.map_cons, List.map_nil]
        rw [dig_back (u % 10) (by omega)]
      rw [hd, List.append_assoc, ih (u / 10) (by omega)]
      simp only [List.cons_append, List.nil_append]
      rw [dn, if_pos (by omega)]
      exact congrArg (fun x => dn x r) (Ma.wr_cong _ _ (by unfold Ma.wr; omega))

theorem decI_head (u : Nat) : minusB (decI u) = false := by
  induction u using Nat.strongRecOn with
  | ind u ih =>
    by_cases h : u < 10
    · unfold minusB decI
      rw [Lib.decDigits_one h]
      simp only [List.map_cons, List.map_nil, List.head?_cons]
      rw [dig_back u h]
      simp; omega
    · have h1 := ih (u / 10) (by omega)
      have hd : decI u = decI (u / 10) ++ [48 + ((u % 10 : Nat) : Int)] := by
        unfold decI
        rw [decDigits_step u (by omega), List.map_append]
        simp only [List.map_cons, List.map_nil]
        rw [dig_back (u % 10) (by omega)]
      rw [hd]
      cases hl : decI (u / 10) with
      | nil => unfold minusB; simp; omega
      | cons c l => rw [hl] at h1; unfold minusB at h1 ⊢; simpa using h1

theorem numT_numS (n : Int) (h0 : -2147483648 ≤ n) (h1 : n ≤ 2147483647) : numT (txt (numS n)) = n := by
  by_cases hn : n < 0
  · have e : txt (numS n) = 45 :: decI n.natAbs := by
      unfold txt numS Lib.itoa decI
      rw [if_pos hn]
      simp
    rw [e]
    unfold numT
    rw [if_pos (by simp [minusB])]
    simp only [List.drop_succ_cons, List.drop_zero]
    have := dn_dec n.natAbs []
    rw [List.append_nil] at this
    rw [this]
    simp only [dn]
    unfold Ma.wr; omega
  · have e : txt (numS n) = decI n.toNat := by
      unfold txt numS Lib.itoa decI
      rw [if_neg hn]
    rw [e]
    unfold numT
    rw [if_neg (by rw [decI_head]; simp)]
    have := dn_dec n.toNat []
    rw [List.append_nil] at this
    rw [this]
    simp only [dn]
    unfold Ma.wr; omega

theorem num_of_text (k n : Int) (s : ByteArray) (h : okB k n s = true) : numV 2 0 (txtV k n s) = numV k n s := by
  by_cases h0 : k = 0
  · subst h0
    rw [okB0] at h
    simp only [Bool.and_eq_true, beq_iff_eq] at h
    obtain ⟨rfl, h2⟩ := h
    obtain rfl := noTxt_of h2
    unfold numV txtV
    simp
    rfl
  by_cases h1 : k = 1
  · subst h1
    rw [okB1] at h
    simp only [Bool.and_eq_true, beq_iff_eq] at h
    have hlo := Ma.wr_lo n
    have hhi := Ma.wr_hi n
    unfold numV txtV
    rw [if_pos rfl, if_pos rfl, if_neg (by decide)]
    exact numT_numS n (by omega) (by omega)
  by_cases h2 : k = 2
  · subst h2
    unfold numV txtV
    rw [if_pos rfl, if_neg (by decide), if_pos rfl]
  · rw [okBx k n s h0 h1 h2] at h
    cases h

theorem text_of_text (s : ByteArray) : txtV 2 0 s = s := by unfold txtV; rw [if_neg (by decide)]
theorem txtV_size (k n : Int) (s : ByteArray) (h : Fair n s) : (txtV k n s).size ≤ 201 := by
  unfold txtV
  split
  · have := numS_size n h.1 h.2.1; omega
  · exact h.2.2
end Go.Proofs.YtincoibidgkiaaaDoor
