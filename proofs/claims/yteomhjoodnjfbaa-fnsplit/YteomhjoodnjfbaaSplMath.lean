/- What the words of a text are: parts of it, none empty, without a blank; joined they are split again the same. -/
import Derived.Test.YteomhjoodnjfbaaSplTxt
import Derived.Test.YteomhjoodnjfbaaJoinTxt
import Derived.Test.YteomhjoodnjfbaaLawSubs
namespace Go.Proofs.Yteomhjoodnjfbaa
open Go.RowKit
set_option maxRecDepth 8000

def GoodW (s x : ByteArray) : Prop := ∃ a b, x = s.extract a b ∧ a < b ∧ b ≤ s.size ∧ ∀ k, a ≤ k → k < b → blk ((txt s).getD k 0) = false
theorem spl_good (s : ByteArray) : ∀ p, p ≤ s.size → (∀ x ∈ (spl s p).2, GoodW s x) ∧ ∀ k, (spl s p).1 ≤ k → k < p → blk ((txt s).getD k 0) = false
  | 0, _ => ⟨fun x hx => by simp [spl] at hx, fun k _ h => by omega⟩
  | p + 1, hp => by
    obtain ⟨h1, h2⟩ := spl_good s p (by omega)
    by_cases hb : blk ((txt s).getD p 0) = true
    · rw [spl_blank s p hb]
      refine ⟨?_, fun k hk1 hk2 => by simp only at hk1; omega⟩
      simp only
      split
      · rename_i hlt
        intro x hx
        rcases List.mem_append.1 hx with h | h
        · exact h1 x h
        · obtain rfl := List.mem_singleton.1 h
          exact ⟨_, _, rfl, hlt, by omega, h2⟩
      · exact h1
    · have hb' : blk ((txt s).getD p 0) = false := by simpa using hb
      rw [spl_no s p hb']
      refine ⟨h1, fun k hk1 hk2 => ?_⟩
      by_cases e : k = p
      · subst e; exact hb'
      · exact h2 k hk1 (by omega)
theorem splL_good (s : ByteArray) : ∀ x ∈ splL s, GoodW s x := by
  obtain ⟨h1, h2⟩ := spl_good s s.size (Nat.le_refl _)
  unfold splL
  split
  · rename_i hlt
    intro x hx
    rcases List.mem_append.1 hx with h | h
    · exact h1 x h
    · obtain rfl := List.mem_singleton.1 h
      exact ⟨_, _, rfl, hlt, Nat.le_refl _, h2⟩
  · exact h1
theorem txt_part (s : ByteArray) (a b : Nat) : txt (s.extract a b) = ((txt s).drop a).take (b - a) := by
  unfold txt
  rw [ByteArray.data_extract, Array.toList_extract, List.extract_eq_take_drop, List.map_take, List.map_drop]
theorem GoodW.size {s x : ByteArray} (h : GoodW s x) : 0 < x.size ∧ x.size ≤ s.size := by
  obtain ⟨a, b, rfl, h1, h2, _⟩ := h
  rw [ByteArray.size_extract]
  omega
theorem GoodW.bytes {s x : ByteArray} (h : GoodW s x) : ∀ k, k < x.size → blk ((txt x).getD k 0) = false := by
  obtain ⟨a, b, rfl, h1, h2, h3⟩ := h
  intro k hk
  rw [ByteArray.size_extract] at hk
  have e : (txt (s.extract a b)).getD k 0 = (txt s).getD (a + k) 0 := by
    rw [txt_part, List.getD_eq_getElem?_getD, List.getElem?_take_of_lt (by omega), List.getElem?_drop, ← List.getD_eq_getElem?_getD]
  rw [e]
  exact h3 (a + k) (by omega) (by omega)
theorem GoodW.found {s x : ByteArray} (h : GoodW s x) : 0 < idxZ s x := by
  obtain ⟨a, b, rfl, h1, h2, _⟩ := h
  exact idx_part s a b (by omega)
/-- A byte that is not there is not found. -/
theorem idx_byte (x : ByteArray) (c : UInt8) (h : ∀ k, k < x.size → (txt x).getD k 0 ≠ ((c.toNat : Nat) : Int)) : idxZ x ⟨#[c]⟩ = 0 := by
  have hn : ∀ k, Lib.NoOcc x.data.toList (⟨#[c]⟩ : ByteArray).data.toList k := by
    intro k j hj
    have : (⟨#[c]⟩ : ByteArray).data.toList = [c] := rfl
    rw [this]
    unfold Lib.occAt
    rw [Bool.eq_false_iff]
    intro hp
    rw [List.isPrefixOf_iff_prefix] at hp
    obtain ⟨r, hr⟩ := hp
    have hl : j < x.data.toList.length := by
      rcases Nat.lt_or_ge j x.data.toList.length with h' | h'
      · exact h'
      · rw [List.drop_eq_nil_of_le h'] at hr
        simp at hr
    have hc : x.data.toList[j] = c := by
      have h3 : x.data.toList[j]? = some c := by
        have := congrArg (fun l => l[0]?) hr
        simpa using this.symm
      rw [List.getElem?_eq_getElem hl] at h3
      exact Option.some.inj h3
    apply h j (by rw [← dlen]; exact hl)
    have hl2 : j < (txt x).length := by rw [txt_length, ← dlen]; exact hl
    rw [List.getD_eq_getElem?_getD, List.getElem?_eq_getElem hl2]
    simp only [txt, List.getElem_map, Option.getD_some, hc]
  exact idx_past x ⟨#[c]⟩ x.size (hn _) (by have : (⟨#[c]⟩ : ByteArray).size = 1 := rfl; omega)
theorem GoodW.no32 {s x : ByteArray} (h : GoodW s x) : idxZ x ⟨#[32]⟩ = 0 := idx_byte x 32 (fun k hk e => by have := h.bytes k hk; rw [e] at this; simp [blk] at this)
theorem GoodW.no9 {s x : ByteArray} (h : GoodW s x) : idxZ x ⟨#[9]⟩ = 0 := idx_byte x 9 (fun k hk e => by have := h.bytes k hk; rw [e] at this; simp [blk] at this)

/-! ### Joined, and split again -/

theorem txt_app (a b : ByteArray) : txt (a ++ b) = txt a ++ txt b := by simp [txt, ByteArray.data_append]
theorem getD_left (a b : ByteArray) {k : Nat} (h : k < a.size) : (txt (a ++ b)).getD k 0 = (txt a).getD k 0 := by
  rw [txt_app, List.getD_eq_getElem?_getD, List.getElem?_append_left (by rw [txt_length]; exact h), List.getD_eq_getElem?_getD]
theorem getD_right (a b : ByteArray) (k : Nat) : (txt (a ++ b)).getD (a.size + k) 0 = (txt b).getD k 0 := by
  rw [txt_app, List.getD_eq_getElem?_getD, List.getElem?_append_right (by rw [txt_length]; omega), txt_length, show a.size + k - a.size = k by omega, List.getD_eq_getElem?_getD]
theorem extract_left (a b : ByteArray) (i j : Nat) (h : j ≤ a.size) : (a ++ b).extract i j = a.extract i j := by
  apply ByteArray.ext
  rw [ByteArray.data_extract, ByteArray.data_extract, ByteArray.data_append]
  apply Array.ext'
  rw [Array.toList_extract, Array.toList_extract, Array.toList_append, List.extract_eq_take_drop, List.extract_eq_take_drop]
  by_cases hi : i ≤ a.size
  · rw [List.drop_append_of_le_length (by rw [dlen]; exact hi), List.take_append_of_le_length (by rw [List.length_drop, dlen]; omega)]
  · rw [show j - i = 0 by omega]
    simp
theorem extract_right (a b : ByteArray) : (a ++ b).extract a.size (a ++ b).size = b := by
  apply ByteArray.ext
  rw [ByteArray.data_extract, ByteArray.data_append]
  apply Array.ext'
  rw [Array.toList_extract, Array.toList_append, List.extract_eq_take_drop, List.drop_left' (dlen a), ByteArray.size_append, List.take_of_length_le (by rw [dlen]; omega)]
theorem spl_left (a b : ByteArray) : ∀ p, p ≤ a.size → spl (a ++ b) p = spl a p
  | 0, _ => rfl
  | p + 1, h => by
    have ih := spl_left a b p (by omega)
    have hle := (spl_le a p).1
    rw [spl, spl, getD_left a b (by omega), ih, extract_left a b _ p (by omega)]
/-- A word: not empty, without a blank. -/
def Wrd (x : ByteArray) : Prop := 0 < x.size ∧ ∀ k, k < x.size → blk ((txt x).getD k 0) = false
theorem spl_word (a x : ByteArray) (h : Wrd x) : spl (a ++ x) (a.size + x.size) = spl a a.size := by
  rw [spl_skip (a ++ x) a.size x.size (fun k h1 h2 => by
    have := getD_right a x (k - a.size)
    rw [show a.size + (k - a.size) = k by omega] at this
    rw [this]
    exact h.2 _ (by omega)), spl_left a x a.size (Nat.le_refl _)]
theorem spl_space (a : ByteArray) : spl (a ++ ⟨#[32]⟩) (a.size + 1) = (a.size + 1, if (spl a a.size).1 < a.size then (spl a a.size).2 ++ [a.extract (spl a a.size).1 a.size] else (spl a a.size).2) := by
  have hb : blk ((txt (a ++ ⟨#[32]⟩)).getD a.size 0) = true := by
    have := getD_right a ⟨#[32]⟩ 0
    rw [Nat.add_zero] at this
    rw [this]
    rfl
  rw [spl_blank _ _ hb, spl_left a _ a.size (Nat.le_refl _), extract_left a _ _ _ (Nat.le_refl _)]
/-- Behind k words joined. -/
theorem spl_join (l : List ByteArray) (hw : ∀ x ∈ l, Wrd x) : ∀ k, k < l.length → spl (jn l (k + 1)) (jn l (k + 1)).size = ((jn l (k + 1)).size - (l.getD k ⟨#[]⟩).size, l.take k) ∧ (jn l (k + 1)).extract ((jn l (k + 1)).size - (l.getD k ⟨#[]⟩).size) (jn l (k + 1)).size = l.getD k ⟨#[]⟩ ∧ (l.getD k ⟨#[]⟩).size ≤ (jn l (k + 1)).size
  | 0, h => by
    have hx : Wrd (l.getD 0 ⟨#[]⟩) := hw _ (by rw [List.getD_eq_getElem?_getD, List.getElem?_eq_getElem h]; exact List.getElem_mem h)
    have e : jn l (0 + 1) = ⟨#[]⟩ ++ l.getD 0 ⟨#[]⟩ := rfl
    rw [e]
    generalize l.getD 0 ⟨#[]⟩ = x at *
    have e0 : (⟨#[]⟩ : ByteArray).size = 0 := rfl
    have hs : ((⟨#[]⟩ : ByteArray) ++ x).size = x.size := by rw [ByteArray.size_append]; omega
    have h1 := spl_word ⟨#[]⟩ x hx
    have h2 := extract_right ⟨#[]⟩ x
    rw [e0, Nat.zero_add] at h1
    rw [e0] at h2
    rw [hs] at h2 ⊢
    refine ⟨?_, by rw [Nat.sub_self]; exact h2, Nat.le_refl _⟩
    rw [h1, Nat.sub_self]
    rfl
  | k + 1, h => by
    obtain ⟨i1, i2, i3⟩ := spl_join l hw k (by omega)
    have hx : Wrd (l.getD (k + 1) ⟨#[]⟩) := hw _ (by rw [List.getD_eq_getElem?_getD, List.getElem?_eq_getElem h]; exact List.getElem_mem h)
    have hy : Wrd (l.getD k ⟨#[]⟩) := hw _ (by rw [List.getD_eq_getElem?_getD, List.getElem?_eq_getElem (by omega)]; exact List.getElem_mem (by omega))
    have e : jn l (k + 1 + 1) = (jn l (k + 1) ++ ⟨#[32]⟩) ++ l.getD (k + 1) ⟨#[]⟩ := by rw [jn, if_neg (by omega)]
    have et : l.take (k + 1) = l.take k ++ [l.getD k ⟨#[]⟩] := by
      rw [List.take_succ_eq_append_getElem (by omega)]
      simp [List.getD, show k < l.length by omega]
    rw [e, et]
    generalize l.getD (k + 1) ⟨#[]⟩ = x at *
    generalize l.getD k ⟨#[]⟩ = y at *
    generalize jn l (k + 1) = a at *
    have hsp := spl_space a
    rw [i1] at hsp
    simp only at hsp
    rw [if_pos (by have := hy.1; omega), i2] at hsp
    have e1 : (a ++ ⟨#[32]⟩ : ByteArray).size = a.size + 1 := by rw [ByteArray.size_append]; rfl
    have h1 := spl_word (a ++ ⟨#[32]⟩) x hx
    have h2 := extract_right (a ++ ⟨#[32]⟩) x
    have hs : (a ++ ⟨#[32]⟩ ++ x : ByteArray).size = (a ++ ⟨#[32]⟩ : ByteArray).size + x.size := ByteArray.size_append
    rw [hs] at h2 ⊢
    refine ⟨?_, by rw [Nat.add_sub_cancel]; exact h2, by omega⟩
    rw [h1, e1, hsp, Nat.add_sub_cancel]
theorem split_join (l : List ByteArray) (hw : ∀ x ∈ l, Wrd x) : splL (jn l l.length) = l := by
  rcases Nat.eq_zero_or_pos l.length with h0 | h0
  · have : l = [] := List.eq_nil_of_length_eq_zero h0
    subst this
    rfl
  · obtain ⟨i1, i2, i3⟩ := spl_join l hw (l.length - 1) (by omega)
    rw [show l.length - 1 + 1 = l.length by omega] at i1 i2 i3
    have hy : Wrd (l.getD (l.length - 1) ⟨#[]⟩) := hw _ (by rw [List.getD_eq_getElem?_getD, List.getElem?_eq_getElem (by omega)]; exact List.getElem_mem (by omega))
    have et : l = l.take (l.length - 1) ++ [l.getD (l.length - 1) ⟨#[]⟩] := by
      have := List.take_succ_eq_append_getElem (l := l) (i := l.length - 1) (by omega)
      rw [show l.length - 1 + 1 = l.length by omega, List.take_length] at this
      have eg : l.getD (l.length - 1) ⟨#[]⟩ = l[l.length - 1] := by
        rw [List.getD_eq_getElem?_getD, List.getElem?_eq_getElem (by omega)]
        rfl
      rw [eg]
      exact this
    unfold splL
    rw [i1]
    simp only
    rw [if_pos (by have := hy.1; omega), i2]
    exact et.symm
end Go.Proofs.Yteomhjoodnjfbaa
