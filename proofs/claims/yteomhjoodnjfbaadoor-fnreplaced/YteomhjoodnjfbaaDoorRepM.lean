/- What is replaced: where nothing matches the text stays; once, it is what is longest; all is no less often. -/
import Derived.Test.YteomhjoodnjfbaaDoorRepS
namespace Go.Proofs.YteomhjoodnjfbaaDoor
open Go.RowKit
set_option maxRecDepth 8000

theorem ext_cat (s : ByteArray) (a b c : Nat) (h1 : a ≤ b) (h2 : b ≤ c) : s.extract a b ++ s.extract b c = s.extract a c := by
  apply ByteArray.ext
  rw [ByteArray.data_append, ByteArray.data_extract, ByteArray.data_extract, ByteArray.data_extract]
  apply Array.ext'
  rw [Array.toList_append, Array.toList_extract, Array.toList_extract, Array.toList_extract, List.extract_eq_take_drop, List.extract_eq_take_drop, List.extract_eq_take_drop]
  rw [show c - a = (b - a) + (c - b) by omega, List.take_add, List.drop_drop, show a + (b - a) = b by omega]
theorem ext_nil (s : ByteArray) (a : Nat) : s.extract a a = ⟨#[]⟩ := by
  apply ByteArray.ext
  rw [ByteArray.data_extract]
  apply Array.ext'
  rw [Array.toList_extract, List.extract_eq_take_drop, Nat.sub_self]
  rfl
theorem ext_all (s : ByteArray) : s.extract 0 s.size = s := by
  apply ByteArray.ext
  rw [ByteArray.data_extract]
  apply Array.ext'
  rw [Array.toList_extract, List.extract_eq_take_drop, List.drop_zero, Nat.sub_zero, List.take_of_length_le (by rw [Array.length_toList]; exact Nat.le_refl _)]
theorem nil_app (x : ByteArray) : (⟨#[]⟩ : ByteArray) ++ x = x := by
  apply ByteArray.ext
  simp [ByteArray.data_append]
theorem app_assoc (x y z : ByteArray) : x ++ y ++ z = x ++ (y ++ z) := by
  apply ByteArray.ext
  simp [ByteArray.data_append]
/-- The byte at p, and what is behind it. -/
theorem ext_step (s : ByteArray) (p : Nat) (h : p ≤ s.size) : s.extract p (p + 1) ++ s.extract (p + 1) s.size = s.extract p s.size := by
  by_cases hlt : p < s.size
  · exact ext_cat s p (p + 1) s.size (by omega) (by omega)
  · obtain rfl : p = s.size := by omega
    have e1 := ext_end s
    rw [e1, nil_app, ext_nil]
    apply ByteArray.ext
    rw [ByteArray.data_extract]
    apply Array.ext'
    rw [Array.toList_extract, List.extract_eq_take_drop, show s.size - (s.size + 1) = 0 by omega]
    rfl
/-- Nothing matches from p on to q. -/
theorem rp_empty (s z : ByteArray) (all : Bool) (M : Mat) (c : Nat) : ∀ (d p : Nat) (x : ByteArray), p + d ≤ s.size + 1 → (∀ i, p ≤ i → i < p + d → (rowL s.size (M i)).getLast? = none) → rp s z all M p x c = rp s z all M (p + d) (x ++ s.extract p (min (p + d) s.size)) c
  | 0, p, x, h, _ => by
    have e : s.extract p (min (p + 0) s.size) = ⟨#[]⟩ := by
      apply ByteArray.ext
      rw [ByteArray.data_extract]
      apply Array.ext'
      rw [Array.toList_extract, List.extract_eq_take_drop, show min (p + 0) s.size - p = 0 by omega]
      rfl
    rw [e, app_nil]
    rfl
  | d + 1, p, x, h, hn => by
    rw [rp_none s z all M p x c (by omega) (hn p (Nat.le_refl _) (by omega)), rp_empty s z all M c d (p + 1) _ (by omega) (fun i h1 h2 => hn i (by omega) (by omega)), show p + 1 + d = p + (d + 1) by omega, app_assoc]
    congr 2
    by_cases hlt : p < s.size
    · exact ext_cat s p (p + 1) _ (by omega) (by omega)
    · have hps : p = s.size := by omega
      subst hps
      rw [ext_end, nil_app, show min (s.size + (d + 1)) s.size = s.size by omega, ext_nil]
      apply ByteArray.ext
      rw [ByteArray.data_extract]
      apply Array.ext'
      rw [Array.toList_extract, List.extract_eq_take_drop, show s.size - (s.size + 1) = 0 by omega]
      rfl
/-- Not all, and one is done: the rest stays. -/
theorem rp_rest (s z : ByteArray) (M : Mat) (c : Nat) (hc : c ≠ 0) : ∀ (d p : Nat) (x : ByteArray), p + d = s.size + 1 → rp s z false M p x c = (x ++ s.extract p s.size, c)
  | 0, p, x, h => by
    rw [rp_end s z false M p x c (by omega)]
    have e : s.extract p s.size = ⟨#[]⟩ := by
      apply ByteArray.ext
      rw [ByteArray.data_extract]
      apply Array.ext'
      rw [Array.toList_extract, List.extract_eq_take_drop, show s.size - p = 0 by omega]
      rfl
    rw [e, app_nil]
  | d + 1, p, x, h => by
    rw [rp_not s z false M p x c (by omega) (by simp [hc]), rp_rest s z M c hc d (p + 1) _ (by omega), app_assoc, ext_step s p (by omega)]
/-- It is not done less often. -/
theorem rp_more (s z : ByteArray) (all : Bool) (M : Mat) : ∀ (d p : Nat) (x : ByteArray) (c : Nat), s.size + 1 - p ≤ d → c ≤ (rp s z all M p x c).2
  | 0, p, x, c, h => by rw [rp_end s z all M p x c (by omega)]; exact Nat.le_refl _
  | d + 1, p, x, c, h => by
    by_cases hp : s.size < p
    · rw [rp_end s z all M p x c hp]; exact Nat.le_refl _
    · cases hc : (all || c == 0) with
      | false =>
        rw [rp_not s z all M p x c (by omega) hc]
        exact rp_more s z all M d (p + 1) _ c (by omega)
      | true =>
        cases he : (rowL s.size (M p)).getLast? with
        | none =>
          rw [rp_none s z all M p x c (by omega) he]
          exact rp_more s z all M d (p + 1) _ c (by omega)
        | some e =>
          by_cases hpe : p < e
          · rw [rp_far s z all M p x c e (by omega) hc he hpe]
            have := rp_more s z all M d e (x ++ z) (c + 1) (by omega)
            omega
          · rw [rp_here s z all M p x c e (by omega) hc he hpe]
            have := rp_more s z all M d (p + 1) (x ++ z ++ s.extract p (p + 1)) (c + 1) (by omega)
            omega

theorem longF_none (n : Nat) (M : Mat) : ∀ d i, longF n M i d = none → ∀ j, i ≤ j → j < i + d → (rowL n (M j)).getLast? = none
  | 0, i, _ => fun j h1 h2 => by omega
  | d + 1, i, h => by
    intro j h1 h2
    rw [longF] at h
    cases he : (rowL n (M i)).getLast? with
    | some e => rw [he] at h; cases h
    | none =>
      rw [he] at h
      by_cases e : j = i
      · subst e; exact he
      · exact longF_none n M d (i + 1) h j (by omega) (by omega)
theorem longF_some (n : Nat) (M : Mat) : ∀ d i a e, longF n M i d = some (a, e) → i ≤ a ∧ a < i + d ∧ (rowL n (M a)).getLast? = some e ∧ ∀ j, i ≤ j → j < a → (rowL n (M j)).getLast? = none
  | 0, i, a, e, h => by cases h
  | d + 1, i, a, e, h => by
    rw [longF] at h
    cases he : (rowL n (M i)).getLast? with
    | some e' =>
      rw [he] at h
      simp only [Option.some.injEq, Prod.mk.injEq] at h
      obtain ⟨rfl, rfl⟩ := h
      exact ⟨Nat.le_refl _, by omega, he, fun j h1 h2 => by omega⟩
    | none =>
      rw [he] at h
      obtain ⟨h1, h2, h3, h4⟩ := longF_some n M d (i + 1) a e h
      refine ⟨by omega, by omega, h3, fun j hj1 hj2 => ?_⟩
      by_cases e0 : j = i
      · subst e0; exact he
      · exact h4 j (by omega) hj2

/-- Where nothing matches the text stays. -/
theorem rep_none (t : Tr) (s z : ByteArray) (all : Bool) (h : longE t s = none) : repR t s z all = (s, 0) := by
  unfold repR
  split
  · rename_i hh
    unfold longE at h
    rw [if_pos ⟨hh.1, hh.2.1⟩] at h
    have hn := longF_none _ _ _ _ h
    rw [rp_empty s z all (t.endM s) 0 (s.size + 1) 0 ⟨#[]⟩ (by omega) (fun i h1 h2 => hn i h1 (by omega)), rp_end _ _ _ _ _ _ _ (by omega), nil_app, show min (0 + (s.size + 1)) s.size = s.size by omega, ext_all]
  · rfl
/-- Once: what is longest. -/
theorem rep_once (t : Tr) (s z : ByteArray) (a e : Nat) (hz : z.size ≤ 200) (h : longE t s = some (a, e)) : a ≤ e ∧ e ≤ s.size ∧ repR t s z false = (s.extract 0 a ++ z ++ s.extract e s.size, 1) ∧ 1 ≤ (repR t s z true).2 := by
  unfold longE at h
  split at h
  · rename_i hh
    obtain ⟨-, h2, h3, h4⟩ := longF_some _ _ _ _ _ _ h
    have hbd := last_bounds (UpM.tree s t) (show a ≤ s.size by omega) h3
    have hA : ∀ all, rp s z all (t.endM s) 0 ⟨#[]⟩ 0 = rp s z all (t.endM s) a (s.extract 0 a) 0 := by
      intro all
      rw [rp_empty s z all (t.endM s) 0 a 0 ⟨#[]⟩ (by omega) (fun i h1 h2 => h4 i h1 (by omega)), nil_app, Nat.zero_add, show min a s.size = a by omega]
    have hR : ∀ all, repR t s z all = rp s z all (t.endM s) a (s.extract 0 a) 0 := by
      intro all
      unfold repR
      rw [if_pos ⟨hh.1, hh.2, hz⟩, hA]
    refine ⟨hbd.1, hbd.2, ?_, ?_⟩
    · rw [hR]
      by_cases hae : a < e
      · rw [rp_far s z false _ a _ 0 e (by omega) (by rfl) h3 hae, rp_rest s z _ 1 (by omega) (s.size + 1 - e) e _ (by omega)]
      · have hea : e = a := by omega
        rw [rp_here s z false _ a _ 0 e (by omega) (by rfl) h3 hae, rp_rest s z _ 1 (by omega) (s.size + 1 - (a + 1)) (a + 1) _ (by omega), app_assoc _ (s.extract a (a + 1)), ext_step s a (by omega), hea]
    · rw [hR]
      by_cases hae : a < e
      · rw [rp_far s z true _ a _ 0 e (by omega) (by rfl) h3 hae]
        exact rp_more s z true _ (s.size + 1 - e) e _ 1 (by omega)
      · rw [rp_here s z true _ a _ 0 e (by omega) (by rfl) h3 hae]
        exact rp_more s z true _ (s.size + 1 - (a + 1)) (a + 1) _ 1 (by omega)
  · cases h
theorem rep_self (s : ByteArray) (a e : Nat) (h1 : a ≤ e) (h2 : e ≤ s.size) : s.extract 0 a ++ s.extract a e ++ s.extract e s.size = s := by
  rw [ext_cat s 0 a e (by omega) h1, ext_cat s 0 e s.size (by omega) h2, ext_all]
end Go.Proofs.YteomhjoodnjfbaaDoor
