/- There is no way but where the part ends. -/
import Derived.Test.YtapniafhcagogaaGreatDoorNfaThom
namespace Go.Proofs.YtapniafhcagogaaGreatDoor

/-- From nodes p to q of N all steps stay there or go to q; what is said of them (A) goes against the steps. -/
def Cl (N : List Nd) (s : ByteArray) (p q : Nat) (A : Nat → Nat → Prop) : Prop := ∀ x i j y, p ≤ x → x < q → i ≤ s.size → St N s i x j y → (p ≤ y ∧ y ≤ q) ∧ j ≤ s.size ∧ (A y j → A x i)
/-- What is asked behind a part is told ahead of it. -/
def Tells (s : ByteArray) (t : Tr) : Prop := t.okT = true → ∀ (N : List Nd) (p : Nat), StandAt N p (t.lay p) → ∀ K : Nat → Prop, ∃ A : Nat → Nat → Prop, (∀ i, A (p + t.nsz) i ↔ K i) ∧ Cl N s p (p + t.nsz) A ∧ ∀ i, i ≤ s.size → A p i → ∃ j, j ≤ s.size ∧ t.endM s i j = true ∧ K j

theorem tells_cat (s : ByteArray) (l : List Tr) (ih : ∀ x ∈ l, Tells s x) (hok : ∀ x ∈ l, x.okT = true) : ∀ (N : List Nd) (p : Nat), StandAt N p (layL l p) → ∀ K : Nat → Prop,
    ∃ A : Nat → Nat → Prop, (∀ i, A (p + nszL l) i ↔ K i) ∧ Cl N s p (p + nszL l) A ∧ ∀ i, i ≤ s.size → A p i → ∀ (B : Mat) i0, i0 ≤ i → B i0 i = true → ∃ j, j ≤ s.size ∧ (l.map (Tr.endM s)).foldl (mThen s.size) B i0 j = true ∧ K j := by
  induction l with
  | nil =>
    intro N p _ K
    refine ⟨fun _ i => K i, fun _ => Iff.rfl, fun x i j y h1 h2 => by rw [nszL] at h2; omega, fun i hi h B i0 _ hB => ⟨i, hi, hB, h⟩⟩
  | cons t r ihl =>
    intro N p hN K
    rw [layL] at hN
    have hl : (t.lay p).length = t.nsz := lay_len t (hok t (List.mem_cons_self ..)) p
    have h2 := hN.right
    rw [hl] at h2
    obtain ⟨A2, e2, c2, f2⟩ := ihl (fun x hx => ih x (List.mem_cons_of_mem _ hx)) (fun x hx => hok x (List.mem_cons_of_mem _ hx)) N (p + t.nsz) h2 K
    obtain ⟨A1, e1, c1, f1⟩ := ih t (List.mem_cons_self ..) (hok t (List.mem_cons_self ..)) N p hN.left (A2 (p + t.nsz))
    rw [nszL, ← Nat.add_assoc]
    refine ⟨fun x i => if x < p + t.nsz then A1 x i else A2 x i, fun i => ?_, ?_, ?_⟩
    · show (if _ then _ else _) ↔ _
      rw [if_neg (by omega)]; exact e2 i
    · intro x i j y h3 h4 hi hs
      by_cases hx : x < p + t.nsz
      · obtain ⟨h5, hj, h6⟩ := c1 x i j y h3 hx hi hs
        refine ⟨⟨h5.1, by omega⟩, hj, ?_⟩
        simp only [if_pos hx]
        intro h7
        apply h6
        by_cases hy : y < p + t.nsz
        · rw [if_pos hy] at h7; exact h7
        · rw [if_neg hy] at h7
          obtain rfl : y = p + t.nsz := by omega
          exact (e1 j).2 h7
      · obtain ⟨h5, hj, h6⟩ := c2 x i j y (by omega) h4 hi hs
        refine ⟨⟨by omega, h5.2⟩, hj, ?_⟩
        simp only [if_neg hx, if_neg (show ¬ y < p + t.nsz by omega)]
        exact h6
    · intro i hi h B i0 hi0 hB
      have h3 : A1 p i := by
        by_cases hx : p < p + t.nsz
        · rw [if_pos hx] at h; exact h
        · rw [if_neg hx] at h
          have h0 : t.nsz = 0 := by omega
          have := (e1 i).2 (by rw [h0]; exact h)
          rw [h0] at this; exact this
      obtain ⟨m, hm, h4, h5⟩ := f1 i hi h3
      have hu := UpM.tree s t i m hi h4
      exact f2 m hm h5 (mThen s.size B (t.endM s)) i0 (by omega) (mThen_iff.2 ⟨i, hi, hi0, hu.1, hB, h4⟩)

theorem tells_alt (s : ByteArray) (l : List Tr) (ih : ∀ x ∈ l, Tells s x) (hok : ∀ x ∈ l, x.okT = true) : ∀ (N : List Nd) (p q : Nat), l ≠ [] → q = p + (nszL l + 2 * (l.length - 1)) → StandAt N p (layA l p q) → ∀ K : Nat → Prop,
    ∃ A : Nat → Nat → Prop, (∀ i, A q i ↔ K i) ∧ Cl N s p q A ∧ ∀ i, i ≤ s.size → A p i → ∃ x ∈ l, ∃ j, j ≤ s.size ∧ x.endM s i j = true ∧ K j := by
  induction l with
  | nil => intro N p q h; exact absurd rfl h
  | cons t r ihl =>
    intro N p q _ hq hN K
    rw [layA] at hN
    have ht := ih t (List.mem_cons_self ..) (hok t (List.mem_cons_self ..))
    cases r with
    | nil =>
      simp only [List.isEmpty_nil, if_true] at hN
      obtain ⟨A, e, c, f⟩ := ht N p hN K
      have hq' : q = p + t.nsz := by simp [nszL] at hq; exact hq
      subst hq'
      exact ⟨A, e, c, fun i hi h => ⟨t, by simp, f i hi h⟩⟩
    | cons u r' =>
      simp only [List.isEmpty_cons, Bool.false_eq_true, if_false] at hN
      have hl : (t.lay (p + 1)).length = t.nsz := lay_len t (hok t (List.mem_cons_self ..)) (p + 1)
      have h0 := hN.head
      have h1 := hN.tail.left
      have h2 := hN.tail.right
      rw [hl] at h2
      have hq2 : q = p + 2 + t.nsz + (nszL (u :: r') + 2 * ((u :: r').length - 1)) := by simp [nszL] at hq ⊢; omega
      obtain ⟨A2, e2, c2, f2⟩ := ihl (fun x hx => ih x (List.mem_cons_of_mem _ hx)) (fun x hx => hok x (List.mem_cons_of_mem _ hx)) N (p + 2 + t.nsz) q (by simp) hq2
        (by have := h2.tail; rwa [show p + 1 + t.nsz + 1 = p + 2 + t.nsz by omega] at this) K
      obtain ⟨A1, e1, c1, f1⟩ := ht N (p + 1) h1 K
      have hb := h2.head
      refine ⟨fun x i => if x = p then (A1 (p + 1) i ∨ A2 (p + 2 + t.nsz) i) else if x < p + 1 + t.nsz then A1 x i else if x = p + 1 + t.nsz then K i else A2 x i, fun i => ?_, ?_, ?_⟩
      · show (if _ then _ else _) ↔ _
        rw [if_neg (by omega), if_neg (by omega), if_neg (by omega)]; exact e2 i
      · intro x i j y h3 h4 hi hs
        by_cases hx : x = p
        · subst hx
          obtain ⟨rfl, hy⟩ := St.of_split h0 hs
          refine ⟨by omega, hi, ?_⟩
          simp only [if_true]
          rcases hy with rfl | rfl
          · intro h7
            rw [if_neg (by omega)] at h7
            by_cases hz : x + 1 < x + 1 + t.nsz
            · rw [if_pos hz] at h7; exact .inl h7
            · rw [if_neg hz, if_pos (by omega)] at h7
              have := (e1 j).2 h7
              rw [show x + 1 + t.nsz = x + 1 by omega] at this
              exact .inl this
          · intro h7
            rw [if_neg (by omega), if_neg (by omega), if_neg (by omega)] at h7
            exact .inr h7
        · by_cases hx1 : x < p + 1 + t.nsz
          · obtain ⟨h5, hj, h6⟩ := c1 x i j y (by omega) hx1 hi hs
            refine ⟨by omega, hj, ?_⟩
            simp only [if_neg hx, if_pos hx1]
            intro h7
            apply h6
            rw [if_neg (by omega)] at h7
            by_cases hy : y < p + 1 + t.nsz
            · rw [if_pos hy] at h7; exact h7
            · obtain rfl : y = p + 1 + t.nsz := by omega
              rw [if_neg hy, if_pos rfl] at h7
              exact (e1 j).2 h7
          · by_cases hx2 : x = p + 1 + t.nsz
            · subst hx2
              obtain ⟨rfl, hy⟩ := St.of_split hb hs
              have hy' : y = q := by omega
              subst hy'
              refine ⟨by omega, hi, ?_⟩
              simp only [if_neg hx, if_neg hx1, if_true]
              intro h7
              rw [if_neg (by omega), if_neg (by omega), if_neg (by omega)] at h7
              exact (e2 j).1 h7
            · obtain ⟨h5, hj, h6⟩ := c2 x i j y (by omega) h4 hi hs
              refine ⟨by omega, hj, ?_⟩
              simp only [if_neg hx, if_neg hx1, if_neg hx2]
              intro h7
              rw [if_neg (by omega), if_neg (by omega), if_neg (by omega)] at h7
              exact h6 h7
      · intro i hi h
        rw [if_pos rfl] at h
        rcases h with h | h
        · obtain ⟨j, h5⟩ := f1 i hi h
          exact ⟨t, List.mem_cons_self .., j, h5⟩
        · obtain ⟨x, hx, h5⟩ := f2 i hi h
          exact ⟨x, List.mem_cons_of_mem _ hx, h5⟩

theorem tells_leaf {s : ByteArray} {M : Mat} {N : List Nd} {p : Nat} (hU : UpM s.size M) (hS : ∀ i j y, i ≤ s.size → St N s i p j y → y = p + 1 ∧ M i j = true) (K : Nat → Prop) :
    ∃ A : Nat → Nat → Prop, (∀ i, A (p + 1) i ↔ K i) ∧ Cl N s p (p + 1) A ∧ ∀ i, i ≤ s.size → A p i → ∃ j, j ≤ s.size ∧ M i j = true ∧ K j := by
  refine ⟨fun x i => if x = p then ∃ j, j ≤ s.size ∧ M i j = true ∧ K j else K i, fun i => ?_, ?_, ?_⟩
  · show (if _ then _ else _) ↔ _
    rw [if_neg (by omega)]
  · intro x i j y h1 h2 hi hs
    obtain rfl : x = p := by omega
    obtain ⟨rfl, hM⟩ := hS i j y hi hs
    have hu := hU i j hi hM
    refine ⟨by omega, hu.2, ?_⟩
    simp only [if_neg (show ¬ x + 1 = x by omega), if_true]
    exact fun h => ⟨j, hu.2, hM, h⟩
  · intro i hi h
    rw [if_pos rfl] at h; exact h

theorem tells_star {s : ByteArray} {M : Mat} {N : List Nd} {p z : Nat} (hU : UpM s.size M) (h0 : N[p]? = some (split (p + 1) (p + (z + 2)))) (hb : N[p + 1 + z]? = some (split p p)) (K : Nat → Prop)
    (hT : ∀ K : Nat → Prop, ∃ A : Nat → Nat → Prop, (∀ i, A (p + 1 + z) i ↔ K i) ∧ Cl N s (p + 1) (p + 1 + z) A ∧ ∀ i, i ≤ s.size → A (p + 1) i → ∃ j, j ≤ s.size ∧ M i j = true ∧ K j) :
    ∃ A : Nat → Nat → Prop, (∀ i, A (p + (z + 2)) i ↔ K i) ∧ Cl N s p (p + (z + 2)) A ∧ ∀ i, i ≤ s.size → A p i → ∃ j, j ≤ s.size ∧ mMany s.size M i j = true ∧ K j := by
  obtain ⟨A1, e1, c1, f1⟩ := hT (fun i => ∃ j, j ≤ s.size ∧ mMany s.size M i j = true ∧ K j)
  have hself : ∀ i, i ≤ s.size → K i → ∃ j, j ≤ s.size ∧ mMany s.size M i j = true ∧ K j := fun i hi h => ⟨i, hi, (mMany_iff hi).2 (.inl rfl), h⟩
  have hbody : ∀ i, i ≤ s.size → A1 (p + 1) i → ∃ j, j ≤ s.size ∧ mMany s.size M i j = true ∧ K j := by
    intro i hi h
    obtain ⟨m, hm, h1, j, hj, h2, h3⟩ := f1 i hi h
    have hu := hU i m hi h1
    have hu2 := UpM.many s.size M m j hm h2
    refine ⟨j, hj, ?_, h3⟩
    by_cases he : i = m
    · subst he; exact h2
    · exact (mMany_iff hj).2 (.inr ⟨m, hm, by omega, hu2.1, h1, h2⟩)
  refine ⟨fun x i => if x = p ∨ x = p + 1 + z then ∃ j, j ≤ s.size ∧ mMany s.size M i j = true ∧ K j else if x < p + 1 + z then A1 x i else K i, fun i => ?_, ?_, ?_⟩
  · show (if _ then _ else _) ↔ _
    rw [if_neg (by omega), if_neg (by omega)]
  · intro x i j y h1 h2 hi hs
    by_cases hx : x = p
    · subst hx
      obtain ⟨rfl, hy⟩ := St.of_split h0 hs
      refine ⟨by omega, hi, ?_⟩
      simp only [true_or, if_true]
      rcases hy with rfl | rfl
      · intro h7
        by_cases hz : x + 1 = x + 1 + z
        · rw [if_pos (.inr hz)] at h7; exact h7
        · rw [if_neg (by omega), if_pos (by omega)] at h7
          exact hbody j hi h7
      · intro h7
        rw [if_neg (by omega), if_neg (by omega)] at h7
        exact hself j hi h7
    · by_cases hx2 : x = p + 1 + z
      · subst hx2
        obtain ⟨rfl, hy⟩ := St.of_split hb hs
        have hy' : y = p := by omega
        subst hy'
        refine ⟨by omega, hi, ?_⟩
        simp only [or_true, true_or, if_true]
        exact fun h => h
      · obtain ⟨h5, hj, h6⟩ := c1 x i j y (by omega) (by omega) hi hs
        refine ⟨by omega, hj, ?_⟩
        simp only [if_neg (show ¬ (x = p ∨ x = p + 1 + z) by omega), if_pos (show x < p + 1 + z by omega)]
        intro h7
        apply h6
        by_cases hy : y = p + 1 + z
        · rw [if_pos (.inr hy)] at h7
          subst hy
          exact (e1 j).2 h7
        · rw [if_neg (by omega), if_pos (by omega)] at h7
          exact h7
  · intro i hi h
    rw [if_pos (.inl rfl)] at h; exact h

theorem tells_plus {s : ByteArray} {M : Mat} {N : List Nd} {p z : Nat} (hU : UpM s.size M) (hb : N[p + z]? = some (split p (p + (z + 1)))) (K : Nat → Prop)
    (hT : ∀ K : Nat → Prop, ∃ A : Nat → Nat → Prop, (∀ i, A (p + z) i ↔ K i) ∧ Cl N s p (p + z) A ∧ ∀ i, i ≤ s.size → A p i → ∃ j, j ≤ s.size ∧ M i j = true ∧ K j) :
    ∃ A : Nat → Nat → Prop, (∀ i, A (p + (z + 1)) i ↔ K i) ∧ Cl N s p (p + (z + 1)) A ∧ ∀ i, i ≤ s.size → A p i → ∃ j, j ≤ s.size ∧ mThen s.size M (mMany s.size M) i j = true ∧ K j := by
  obtain ⟨A1, e1, c1, f1⟩ := hT (fun i => ∃ j, j ≤ s.size ∧ mMany s.size M i j = true ∧ K j)
  have hself : ∀ i, i ≤ s.size → K i → ∃ j, j ≤ s.size ∧ mMany s.size M i j = true ∧ K j := fun i hi h => ⟨i, hi, (mMany_iff hi).2 (.inl rfl), h⟩
  have hbody : ∀ i, i ≤ s.size → A1 p i → ∃ j, j ≤ s.size ∧ mMany s.size M i j = true ∧ K j := by
    intro i hi h
    obtain ⟨m, hm, h1, j, hj, h2, h3⟩ := f1 i hi h
    have hu := hU i m hi h1
    have hu2 := UpM.many s.size M m j hm h2
    refine ⟨j, hj, ?_, h3⟩
    by_cases he : i = m
    · subst he; exact h2
    · exact (mMany_iff hj).2 (.inr ⟨m, hm, by omega, hu2.1, h1, h2⟩)
  refine ⟨fun x i => if x < p + z then A1 x i else if x = p + z then ∃ j, j ≤ s.size ∧ mMany s.size M i j = true ∧ K j else K i, fun i => ?_, ?_, ?_⟩
  · show (if _ then _ else _) ↔ _
    rw [if_neg (by omega), if_neg (by omega)]
  · intro x i j y h1 h2 hi hs
    by_cases hx : x < p + z
    · obtain ⟨h5, hj, h6⟩ := c1 x i j y h1 hx hi hs
      refine ⟨by omega, hj, ?_⟩
      simp only [if_pos hx]
      intro h7
      apply h6
      by_cases hy : y < p + z
      · rw [if_pos hy] at h7; exact h7
      · have hy' : y = p + z := by omega
        rw [if_neg hy, if_pos hy'] at h7
        subst hy'
        exact (e1 j).2 h7
    · obtain rfl : x = p + z := by omega
      obtain ⟨rfl, hy⟩ := St.of_split hb hs
      refine ⟨by omega, hi, ?_⟩
      simp only [if_neg hx, if_true]
      rcases hy with rfl | rfl
      · intro h7
        by_cases hz : y < y + z
        · rw [if_pos hz] at h7; exact hbody j hi h7
        · rw [if_neg hz, if_pos (by omega)] at h7; exact h7
      · intro h7
        rw [if_neg (by omega), if_neg (by omega)] at h7
        exact hself j hi h7
  · intro i hi h
    have h3 : A1 p i := by
      by_cases hz : p < p + z
      · rw [if_pos hz] at h; exact h
      · rw [if_neg hz, if_pos (by omega)] at h
        have := (e1 i).2 h
        rw [show p + z = p by omega] at this
        exact this
    obtain ⟨m, hm, h4, j, hj, h5, h6⟩ := f1 i hi h3
    exact ⟨j, hj, mThen_iff.2 ⟨m, hm, (hU i m hi h4).1, (UpM.many s.size M m j hm h5).1, h4, h5⟩, h6⟩

theorem tells_opt {s : ByteArray} {M : Mat} {N : List Nd} {p z : Nat} (hU : UpM s.size M) (h0 : N[p]? = some (split (p + 1) (p + (z + 1)))) (K : Nat → Prop)
    (hT : ∀ K : Nat → Prop, ∃ A : Nat → Nat → Prop, (∀ i, A (p + 1 + z) i ↔ K i) ∧ Cl N s (p + 1) (p + 1 + z) A ∧ ∀ i, i ≤ s.size → A (p + 1) i → ∃ j, j ≤ s.size ∧ M i j = true ∧ K j) :
    ∃ A : Nat → Nat → Prop, (∀ i, A (p + (z + 1)) i ↔ K i) ∧ Cl N s p (p + (z + 1)) A ∧ ∀ i, i ≤ s.size → A p i → ∃ j, j ≤ s.size ∧ mAdd mSame M i j = true ∧ K j := by
  obtain ⟨A1, e1, c1, f1⟩ := hT K
  have he : p + (z + 1) = p + 1 + z := by omega
  rw [he] at h0 ⊢
  refine ⟨fun x i => if x = p then (A1 (p + 1) i ∨ K i) else A1 x i, fun i => ?_, ?_, ?_⟩
  · show (if _ then _ else _) ↔ _
    rw [if_neg (by omega)]; exact e1 i
  · intro x i j y h1 h2 hi hs
    by_cases hx : x = p
    · subst hx
      obtain ⟨rfl, hy⟩ := St.of_split h0 hs
      refine ⟨by omega, hi, ?_⟩
      simp only [if_true, if_neg (show ¬ y = x by omega)]
      rcases hy with rfl | rfl
      · exact fun h => .inl h
      · exact fun h => .inr ((e1 j).1 h)
    · obtain ⟨h5, hj, h6⟩ := c1 x i j y (by omega) h2 hi hs
      refine ⟨by omega, hj, ?_⟩
      simp only [if_neg hx, if_neg (show ¬ y = p by omega)]
      exact h6
  · intro i hi h
    rw [if_pos rfl] at h
    rcases h with h | h
    · obtain ⟨j, hj, h4, h5⟩ := f1 i hi h
      exact ⟨j, hj, by simp [mAdd, h4, (hU i j hi h4).1], h5⟩
    · exact ⟨i, hi, by simp [mAdd, mSame], h⟩

theorem St.of_node {N : List Nd} {s : ByteArray} {i p j q : Nat} {x : Nd} (h : N[p]? = some x) (hs : St N s i p j q) :
    (j = i ∧ ((x.k = 4 ∧ (x.a = q ∨ x.b = q)) ∨ (x.k = 5 ∧ i = 0 ∧ x.a = q) ∨ (x.k = 6 ∧ i = s.size ∧ x.a = q))) ∨ (j = i + 1 ∧ i < s.size ∧ tkN x (ba s i) = true ∧ x.a = q) := by
  rcases hs with ⟨h1, y, hy, h2⟩ | ⟨h1, h2, y, hy, h3, h4⟩
  · rw [h] at hy
    obtain rfl := Option.some.inj hy
    exact .inl ⟨h1, h2⟩
  · rw [h] at hy
    obtain rfl := Option.some.inj hy
    exact .inr ⟨h1, h2, h3, h4⟩

theorem tells_tree (s : ByteArray) (t : Tr) : Tells s t := by
  refine Tr.ind (P := Tells s) ?_ t
  intro t ih hok N p hN K
  have hkids := okT_kids hok
  have hkl : ∀ x ∈ t.l, ∀ p, (x.lay p).length = x.nsz := fun x hx => lay_len x (hkids x hx)
  have hU := UpM.tree s t
  rw [endM_eq] at hU ⊢
  rw [lay_eq] at hN
  rw [nsz_eq]
  rcases okT_kinds hok with hk | hk | hk | hk | hk | hk | hk | hk | hk | hk | hk
  · have e := okT_leaf hok (by omega)
    simp only [hk, e, nszL] at hU hN ⊢
    simp at hN ⊢
    refine tells_leaf hU (fun i j y hi hs => ?_) K
    rcases St.of_node hN.head hs with ⟨_, h2⟩ | ⟨rfl, h2, h3, h4⟩
    · simp at h2
    · simp only at h4 h3
      exact ⟨by omega, by simp [nodeM, mOne, h2]; rw [tkB_tkI (by omega)]; exact h3⟩
  · have e := okT_leaf hok (by omega)
    simp only [hk, e, nszL] at hU hN ⊢
    simp at hN ⊢
    refine tells_leaf hU (fun i j y hi hs => ?_) K
    rcases St.of_node hN.head hs with ⟨_, h2⟩ | ⟨rfl, h2, h3, h4⟩
    · simp at h2
    · simp only at h4 h3
      exact ⟨by omega, by simp [nodeM, mOne, h2, tkB]⟩
  · have e := okT_leaf hok (by omega)
    simp only [hk, e, nszL] at hU hN ⊢
    simp at hN ⊢
    refine tells_leaf hU (fun i j y hi hs => ?_) K
    rcases St.of_node hN.head hs with ⟨_, h2⟩ | ⟨rfl, h2, h3, h4⟩
    · simp at h2
    · simp only at h4 h3
      exact ⟨by omega, by simp [nodeM, mOne, h2]; rw [tkB_tkI (by omega)]; exact h3⟩
  · simp [hk, nodeM] at hN ⊢
    obtain ⟨A, e, c, f⟩ := tells_cat s t.l ih hkids N p hN K
    exact ⟨A, e, c, fun i hi h => f i hi h mSame i (Nat.le_refl _) (by simp [mSame])⟩
  · simp [hk, nodeM] at hN ⊢
    have hne : t.l ≠ [] := fun e => by have := okT_two hok (by omega); rw [e] at this; simp at this
    obtain ⟨A, e, c, f⟩ := tells_alt s t.l ih hkids N p _ hne rfl hN K
    refine ⟨A, e, c, fun i hi h => ?_⟩
    obtain ⟨x, hx, j, hj, h1, h2⟩ := f i hi h
    exact ⟨j, hj, adds_of_mem _ (fun M hM => by obtain ⟨u, _, rfl⟩ := List.mem_map.1 hM; exact UpM.tree s u) _ i j hi ⟨_, List.mem_map.2 ⟨x, hx, rfl⟩, h1⟩, h2⟩
  · obtain ⟨x, hx⟩ := okT_one hok (by omega)
    have hmem : x ∈ t.l := by rw [hx]; simp
    simp [hk, nodeM, hx, layL, nszL] at hN ⊢
    have hl := hkl x hmem (p + 1)
    have hb := hN.tail.right
    rw [hl] at hb
    exact tells_star (UpM.tree s x) hN.head hb.head K (fun K => ih x hmem (hkids x hmem) N (p + 1) hN.tail.left K)
  · obtain ⟨x, hx⟩ := okT_one hok (by omega)
    have hmem : x ∈ t.l := by rw [hx]; simp
    simp [hk, nodeM, hx, layL, nszL] at hN ⊢
    have hl := hkl x hmem p
    have hb := hN.right
    rw [hl] at hb
    exact tells_plus (UpM.tree s x) hb.head K (fun K => ih x hmem (hkids x hmem) N p hN.left K)
  · obtain ⟨x, hx⟩ := okT_one hok (by omega)
    have hmem : x ∈ t.l := by rw [hx]; simp
    simp [hk, nodeM, hx, layL, nszL] at hN ⊢
    exact tells_opt (UpM.tree s x) hN.head K (fun K => ih x hmem (hkids x hmem) N (p + 1) hN.tail K)
  · have e := okT_leaf hok (by omega)
    simp [hk, nodeM, e, nszL] at hN ⊢
    exact ⟨fun _ i => K i, fun _ => Iff.rfl, fun x i j y h1 h2 => by omega, fun i hi h => ⟨i, hi, by simp [mSame], h⟩⟩
  · have e := okT_leaf hok (by omega)
    simp only [hk, e, nszL] at hU hN ⊢
    simp at hN ⊢
    refine tells_leaf hU (fun i j y hi hs => ?_) K
    rcases St.of_node hN.head hs with ⟨rfl, h2⟩ | ⟨rfl, h2, h3, h4⟩
    · simp at h2
      exact ⟨by omega, by simp [nodeM, h2.1]⟩
    · simp [tkN, tkI] at h3
  · have e := okT_leaf hok (by omega)
    simp only [hk, e, nszL] at hU hN ⊢
    simp at hN ⊢
    refine tells_leaf hU (fun i j y hi hs => ?_) K
    rcases St.of_node hN.head hs with ⟨rfl, h2⟩ | ⟨rfl, h2, h3, h4⟩
    · simp at h2
      exact ⟨by omega, by simp [nodeM, h2.1]⟩
    · simp [tkN, tkI] at h3

/-- The whole machine of an expression. -/
def nfaL (t : Tr) : List Nd := t.lay 0 ++ [⟨7, noS, 0, 0⟩]

theorem nfaL_len {t : Tr} (h : t.okT = true) : (nfaL t).length = t.nsz + 1 := by simp [nfaL, lay_len t h]
theorem nfaL_last {t : Tr} (h : t.okT = true) : (nfaL t)[t.nsz]? = some ⟨7, noS, 0, 0⟩ := by
  unfold nfaL
  rw [List.getElem?_append_right (by rw [lay_len t h]; exact Nat.le_refl _), lay_len t h, Nat.sub_self]
  rfl
/-- **It is over just where the expression ends.** -/
theorem nfa_paths {t : Tr} (h : t.okT = true) (s : ByteArray) (i j : Nat) (hi : i ≤ s.size) : (Pa (nfaL t) s i 0 j t.nsz) ↔ t.endM s i j = true := by
  have hN : StandAt (nfaL t) 0 (t.lay 0) := fun d hd => by rw [Nat.zero_add]; exact List.getElem?_append_left hd
  constructor
  · intro hp
    obtain ⟨A, e, c, f⟩ := tells_tree s t h (nfaL t) 0 hN (fun k => k = j)
    rw [Nat.zero_add] at e c
    have key : ∀ {i p j' q}, Pa (nfaL t) s i p j' q → i ≤ s.size → p ≤ t.nsz → q = t.nsz → j' = j → A p i := by
      intro i p j' q hp
      induction hp with
      | refl i p => rintro _ _ rfl rfl; exact (e i).2 rfl
      | @step i1 p1 j1 q1 j2 q2 hs _ ihp =>
        intro hi hp hq hj
        by_cases hlt : p1 < t.nsz
        · obtain ⟨h5, hj1, h6⟩ := c p1 i1 j1 q1 (Nat.zero_le _) hlt hi hs
          exact h6 (ihp hj1 h5.2 hq hj)
        · obtain rfl : p1 = t.nsz := by omega
          exfalso
          rcases St.of_node (nfaL_last h) hs with ⟨_, h2⟩ | ⟨_, _, h3, _⟩
          · simp at h2
          · simp [tkN, tkI] at h3
    obtain ⟨j', _, h1, rfl⟩ := f i hi (key hp hi (Nat.zero_le _) rfl rfl)
    exact h1
  · intro he
    have := way_tree s t h (nfaL t) 0 hN i j hi he
    rwa [Nat.zero_add] at this
end Go.Proofs.YtapniafhcagogaaGreatDoor
