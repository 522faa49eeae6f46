/- Numbers come back of their groups: plain facts. -/
import Derived.Test.YtincoibidgkiaaaDoorReadS
namespace Go.Proofs.YtincoibidgkiaaaDoor
open Go.RowKit

theorem jn_cons (c : Int) (r : List Int) (k : Nat) : jn (c :: r) (k + 1) = c % 128 + 128 * jn r k := by
  induction k with
  | zero => simp [jn]
  | succ k ih =>
    rw [jn, ih]
    simp only [jn, List.getD_cons_succ]
    rw [Int.pow_succ]
    grind

/-- What a list of groups must be so that it reads as m: all but the last have 128, the last has not. -/
structure Grp (l : List Int) : Prop where
  pos : 0 < l.length
  more : ∀ i, i + 1 < l.length → 128 ≤ l.getD i 0
  last : l.getD (l.length - 1) 0 < 128
  low : 0 ≤ l.getD (l.length - 1) 0

theorem Grp.one (c : Int) (h0 : 0 ≤ c) (h1 : c < 128) : Grp [c] := ⟨by simp, fun i hi => by simp at hi, by simpa using h1, by simpa using h0⟩
theorem Grp.cons {l : List Int} (h : Grp l) (c : Int) (h0 : 128 ≤ c) : Grp (c :: l) := by
  have hp := h.pos
  obtain ⟨n, hn⟩ : ∃ n, l.length = n + 1 := ⟨l.length - 1, by omega⟩
  have h2 := h.last
  have h3 := h.low
  rw [hn] at h2 h3
  refine ⟨by simp, fun i hi => ?_, ?_, ?_⟩
  · cases i with
    | zero => simpa using h0
    | succ i => simpa using h.more i (by simpa using hi)
  · simp only [List.length_cons, hn, Nat.add_sub_cancel, List.getD_cons_succ]; exact h2
  · simp only [List.length_cons, hn, Nat.add_sub_cancel, List.getD_cons_succ]; exact h3

theorem uG_grp (f : Nat) (m : Int) (h0 : 0 ≤ m) (h1 : m < 128 ^ (f + 1)) : Grp (Ma.uG (f + 1) m) ∧ jn (Ma.uG (f + 1) m) (Ma.uG (f + 1) m).length = m ∧
    (1 ≤ m → (Ma.uG (f + 1) m).getD ((Ma.uG (f + 1) m).length - 1) 0 ≠ 0) := by
  induction f generalizing m with
  | zero =>
    have h2 : m < 128 := by simpa using h1
    unfold Ma.uG
    rw [if_neg (by omega)]
    refine ⟨Grp.one m h0 h2, ?_, ?_⟩
    · simp [jn]; omega
    · intro h; simp; omega
  | succ f ih =>
    rw [Ma.uG]
    split
    · rename_i h
      rw [Int.pow_succ] at h1
      obtain ⟨a, b, c⟩ := ih (m / 128) (by omega) (by omega)
      refine ⟨a.cons _ (by omega), ?_, fun _ => ?_⟩
      · rw [List.length_cons, jn_cons, b]; omega
      · have hp := a.pos
        obtain ⟨n, hn⟩ : ∃ n, (Ma.uG (f + 1) (m / 128)).length = n + 1 := ⟨_, (Nat.succ_pred_eq_of_pos hp).symm⟩
        have := c (by omega)
        rw [hn] at this
        simp only [List.length_cons, hn, Nat.add_sub_cancel, List.getD_cons_succ]
        exact this
    · refine ⟨Grp.one m h0 (by omega), ?_, ?_⟩
      · simp [jn]; omega
      · intro h; simp; omega

theorem UG_grp (m : Int) (h0 : 0 ≤ m) (h1 : m ≤ 2147483647) : Grp (Ma.UG m) ∧ jn (Ma.UG m) (Ma.UG m).length = m ∧ (1 < (Ma.UG m).length → (Ma.UG m).getD ((Ma.UG m).length - 1) 0 ≠ 0) := by
  obtain ⟨a, b, c⟩ := uG_grp 4 m h0 (by simp; omega)
  refine ⟨a, b, fun h => c ?_⟩
  by_cases hm : 1 ≤ m
  · exact hm
  · rw [Ma.UG_last m (by omega)] at h; simp at h

theorem sgn_cons (c : Int) (r : List Int) (k : Nat) : sgn (c :: r) (k + 1) = c % 128 + 128 * sgn r k := by
  unfold sgn
  rw [jn_cons, List.getD_cons_succ]
  split
  · rw [Int.pow_succ]; omega
  · rfl

theorem sG_grp (f : Nat) (m : Int) (h0 : -64 * 128 ^ f ≤ m) (h1 : m < 64 * 128 ^ f) : Grp (Ma.sG (f + 1) m) ∧ sgn (Ma.sG (f + 1) m) ((Ma.sG (f + 1) m).length - 1) = m := by
  induction f generalizing m with
  | zero =>
    have h2 : -64 ≤ m ∧ m < 64 := by simp at h0 h1; omega
    unfold Ma.sG
    rw [if_neg (by omega)]
    refine ⟨Grp.one _ (by omega) (by omega), ?_⟩
    simp [sgn, jn]
    split <;> omega
  | succ f ih =>
    rw [Ma.sG]
    split
    · rename_i h
      rw [Int.pow_succ] at h0 h1
      obtain ⟨a, b⟩ := ih (m / 128) (by omega) (by omega)
      refine ⟨a.cons _ (by omega), ?_⟩
      have hp := a.pos
      obtain ⟨n, hn⟩ : ∃ n, (Ma.sG (f + 1) (m / 128)).length = n + 1 := ⟨_, (Nat.succ_pred_eq_of_pos hp).symm⟩
      rw [hn] at b
      simp only [List.length_cons, hn, Nat.add_sub_cancel] at b ⊢
      rw [sgn_cons, b]; omega
    · refine ⟨Grp.one _ (by omega) (by omega), ?_⟩
      simp [sgn, jn]
      split <;> omega

theorem SG_grp (m : Int) (h0 : -2147483648 ≤ m) (h1 : m ≤ 2147483647) : Grp (Ma.SG m) ∧ sgn (Ma.SG m) ((Ma.SG m).length - 1) = m :=
  sG_grp 4 m (by simp; omega) (by simp; omega)

theorem Grp.groups {l : List Int} (h : Grp l) (h5 : l.length ≤ 5) : cg 5 l = (l.length - 1) + 1 := by
  have hp := h.pos
  exact cg_full 5 l (l.length - 1) (by omega) (by omega) (fun i hi => h.more i (by omega)) h.last

theorem Grp.cutNone {l : List Int} (h : Grp l) : cg 5 (l.take (l.length - 1)) = 0 := by
  have hp := h.pos
  refine cg_none 5 _ fun i _ hi => ?_
  have hi' : i < l.length - 1 := by simp at hi; omega
  have := h.more i (by omega)
  have hl : i < l.length := by omega
  simpa [List.getD, hi', hl] using this

theorem gU_put (ys : List Int) (m : Int) (h0 : 0 ≤ m) (h1 : m ≤ 2147483647) : gU (ys ++ Ma.UG m) ys.length = (m, (ys.length : Int) + (Ma.UG m).length, true) := by
  obtain ⟨a, b, c⟩ := UG_grp m h0 h1
  have hp := a.pos
  have h5 := Ma.UG_length m
  rw [gU_in (by simp; omega), List.drop_left]
  rw [gUat_yes (a.groups h5) rfl ?_ ?_]
  · rw [show (Ma.UG m).length - 1 + 1 = (Ma.UG m).length by omega, b]
    simp only [Prod.mk.injEq, and_true, true_and]; omega
  · by_cases h : 1 < (Ma.UG m).length
    · exact Or.inr (c h)
    · exact Or.inl (by omega)
  · rw [show (Ma.UG m).length - 1 + 1 = (Ma.UG m).length by omega, b]; exact h1

theorem cut_list (ys l : List Int) (hp : 0 < l.length) : (ys ++ l).take (ys.length + l.length - 1) = ys ++ l.take (l.length - 1) := by
  rw [show ys.length + l.length - 1 = ys.length + (l.length - 1) by omega, List.take_length_add_append]

theorem gU_cut (ys : List Int) (m : Int) (h0 : 0 ≤ m) (h1 : m ≤ 2147483647) : gU ((ys ++ Ma.UG m).take (ys.length + (Ma.UG m).length - 1)) ys.length = (0, 0, false) := by
  obtain ⟨a, b, c⟩ := UG_grp m h0 h1
  rw [cut_list _ _ a.pos]
  by_cases h : ((Ma.UG m).take ((Ma.UG m).length - 1)).length = 0
  · exact gU_out (Or.inr (by rw [List.length_append]; omega))
  · rw [gU_in (by rw [List.length_append]; omega), List.drop_left]
    exact gUat_none a.cutNone

theorem gS_put (ys : List Int) (m : Int) (h0 : -2147483648 ≤ m) (h1 : m ≤ 2147483647) : gS (ys ++ Ma.SG m) ys.length = (m, (ys.length : Int) + (Ma.SG m).length, true) := by
  obtain ⟨a, b⟩ := SG_grp m h0 h1
  have hp := a.pos
  have h5 := Ma.SG_length m
  rw [gS_in (by simp; omega), List.drop_left]
  rw [gSat_yes (a.groups h5) b (Ma.wr_id m h0 h1) (by omega)]
  simp only [Prod.mk.injEq, and_true, true_and]; omega

theorem gS_cut (ys : List Int) (m : Int) (h0 : -2147483648 ≤ m) (h1 : m ≤ 2147483647) : gS ((ys ++ Ma.SG m).take (ys.length + (Ma.SG m).length - 1)) ys.length = (0, 0, false) := by
  obtain ⟨a, b⟩ := SG_grp m h0 h1
  rw [cut_list _ _ a.pos]
  by_cases h : ((Ma.SG m).take ((Ma.SG m).length - 1)).length = 0
  · exact gS_out (Or.inr (by rw [List.length_append]; omega))
  · rw [gS_in (by rw [List.length_append]; omega), List.drop_left]
    exact gSat_none a.cutNone

theorem Bs.prefix {w : World} {b off n cap m : Nat} {zs : List Int} (h : Bs w (.slice (some ⟨b, off, none⟩) n cap) zs) (hm : m ≤ zs.length) (hc : cap ≤ maxLen) (hl : zs.length ≤ cap) :
    Bs w (.slice (some ⟨b, off, none⟩) m cap) (zs.take m) := by
  have hlen : (zs.take m).length = m := by simp; omega
  refine ⟨h.1.take m, _, cap, by rw [hlen], by rw [hlen]; omega, hc, fun h => by simp at h, fun _ => ⟨b, off, rfl, fun i hi => ?_⟩⟩
  rw [hlen] at hi
  rw [h.cellAt (by omega)]
  simp [List.getD, hi]

end Go.Proofs.YtincoibidgkiaaaDoor
