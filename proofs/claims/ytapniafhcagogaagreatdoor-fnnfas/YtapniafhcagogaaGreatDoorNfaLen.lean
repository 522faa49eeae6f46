/- What a right tree has, and how many nodes it is laid in. -/
import Derived.Test.YtapniafhcagogaaGreatDoorNfaLay
import Derived.Test.YtapniafhcagogaaGreatDoorRexOkI
namespace Go.Proofs.YtapniafhcagogaaGreatDoor

/-- A tree that is right has no parts where its kind has none. -/
theorem okT_leaf {t : Tr} (h : t.okT = true) (hk : t.k = 1 ∨ t.k = 2 ∨ t.k = 3 ∨ t.k = 9 ∨ t.k = 10 ∨ t.k = 11) : t.l = [] := by
  rw [okT_eq, Bool.and_eq_true] at h
  have h2 := h.2
  unfold nodeB at h2
  rcases hk with hk | hk | hk | hk | hk | hk <;> simp [hk] at h2 <;> first | exact h2.2 | exact List.length_eq_zero_iff.1 h2.2
theorem okT_kids {t : Tr} (h : t.okT = true) : ∀ x ∈ t.l, x.okT = true := by
  rw [okT_eq, Bool.and_eq_true] at h
  exact (okL_iff _).1 h.1
theorem okT_two {t : Tr} (h : t.okT = true) (hk : t.k = 4 ∨ t.k = 5) : 2 ≤ t.l.length ∧ t.l.length ≤ 8 := by
  rw [okT_eq, Bool.and_eq_true] at h
  have h2 := h.2
  unfold nodeB at h2
  rcases hk with hk | hk <;> simp [hk] at h2 <;> omega
theorem okT_one {t : Tr} (h : t.okT = true) (hk : t.k = 6 ∨ t.k = 7 ∨ t.k = 8) : ∃ x, t.l = [x] := by
  rw [okT_eq, Bool.and_eq_true] at h
  have h2 := h.2
  unfold nodeB at h2
  rcases hk with hk | hk | hk <;> simp [hk] at h2 <;> exact List.length_eq_one_iff.1 h2.1.2
theorem okT_kinds {t : Tr} (h : t.okT = true) : t.k = 1 ∨ t.k = 2 ∨ t.k = 3 ∨ t.k = 4 ∨ t.k = 5 ∨ t.k = 6 ∨ t.k = 7 ∨ t.k = 8 ∨ t.k = 9 ∨ t.k = 10 ∨ t.k = 11 := by
  rw [okT_eq, Bool.and_eq_true] at h
  have h2 := h.2
  unfold nodeB at h2
  by_cases h1 : t.k = 1; · exact .inl h1
  by_cases h3 : t.k = 3; · simp [h3]
  by_cases h4 : t.k = 2 ∨ t.k = 9 ∨ t.k = 10 ∨ t.k = 11; · omega
  by_cases h5 : t.k = 4 ∨ t.k = 5; · omega
  by_cases h6 : t.k = 6 ∨ t.k = 7 ∨ t.k = 8; · omega
  rw [if_neg h1, if_neg h3, if_neg h4, if_neg h5, if_neg h6] at h2
  cases h2

theorem layL_len (l : List Tr) (ih : ∀ x ∈ l, ∀ p, (x.lay p).length = x.nsz) : ∀ p, (layL l p).length = nszL l := by
  induction l with
  | nil => intro p; rw [layL, nszL]; rfl
  | cons t r ihl =>
    intro p
    rw [layL, nszL, List.length_append, ih t (List.mem_cons_self ..), ihl (fun x hx => ih x (List.mem_cons_of_mem _ hx))]
theorem layA_len (l : List Tr) (ih : ∀ x ∈ l, ∀ p, (x.lay p).length = x.nsz) : ∀ p q, (layA l p q).length = nszL l + 2 * (l.length - 1) := by
  induction l with
  | nil => intro p q; rw [layA, nszL]; rfl
  | cons t r ihl =>
    intro p q
    rw [layA, nszL]
    cases r with
    | nil => simp [nszL, ih t (List.mem_cons_self ..)]
    | cons u r' =>
      have h2 := ihl (fun x hx => ih x (List.mem_cons_of_mem _ hx)) (p + 2 + t.nsz) q
      simp only [List.isEmpty_cons, Bool.false_eq_true, if_false, List.length_cons, List.length_append, ih t (List.mem_cons_self ..)] at h2 ⊢
      omega
theorem lay_len (t : Tr) (h : t.okT = true) : ∀ p, (t.lay p).length = t.nsz := by
  refine Tr.ind (P := fun t => t.okT = true → ∀ p, (t.lay p).length = t.nsz) ?_ t h
  intro t ih h p
  have ih' : ∀ x ∈ t.l, ∀ p, (x.lay p).length = x.nsz := fun x hx => ih x hx (okT_kids h x hx)
  rw [lay_eq, nsz_eq]
  rcases okT_kinds h with hk | hk | hk | hk | hk | hk | hk | hk | hk | hk | hk
  · simp [hk, okT_leaf h (by omega), nszL]
  · simp [hk, okT_leaf h (by omega), nszL]
  · simp [hk, okT_leaf h (by omega), nszL]
  · simp [hk, layL_len t.l ih']
  · simp [hk, layA_len t.l ih']
  · simp [hk, layL_len t.l ih']
  · simp [hk, layL_len t.l ih']
  · simp [hk, layL_len t.l ih']
  · simp [hk, okT_leaf h (by omega), nszL]
  · simp [hk, okT_leaf h (by omega), nszL]
  · simp [hk, okT_leaf h (by omega), nszL]
end Go.Proofs.YtapniafhcagogaaGreatDoor
