/- A part's nodes are gone through from its first to behind it just where the part ends. -/
import Derived.Test.YtapniafhcagogaaGreatDoorNfaDef
namespace Go.Proofs.YtapniafhcagogaaGreatDoor

theorem Ep.left {N : List Nd} {z e : Prop} {p a b : Nat} (h : N[p]? = some (split a b)) : Ep N z e p a := ⟨_, h, .inl ⟨rfl, .inl rfl⟩⟩
theorem Ep.right {N : List Nd} {z e : Prop} {p a b : Nat} (h : N[p]? = some (split a b)) : Ep N z e p b := ⟨_, h, .inl ⟨rfl, .inr rfl⟩⟩
theorem St.left {N : List Nd} {s : ByteArray} {i p a b : Nat} (h : N[p]? = some (split a b)) : St N s i p i a := .inl ⟨rfl, Ep.left h⟩
theorem St.right {N : List Nd} {s : ByteArray} {i p a b : Nat} (h : N[p]? = some (split a b)) : St N s i p i b := .inl ⟨rfl, Ep.right h⟩
theorem St.of_split {N : List Nd} {s : ByteArray} {i p a b j q : Nat} (h : N[p]? = some (split a b)) (hs : St N s i p j q) : j = i ∧ (q = a ∨ q = b) := by
  rcases hs with ⟨h1, x, hx, h2⟩ | ⟨_, _, x, hx, h2, _⟩
  · rw [h] at hx
    obtain rfl := Option.some.inj hx
    refine ⟨h1, ?_⟩
    rcases h2 with ⟨_, h2⟩ | ⟨h2, _⟩ | ⟨h2, _⟩
    · simp only [split] at h2; omega
    · simp [split] at h2
    · simp [split] at h2
  · rw [h] at hx
    obtain rfl := Option.some.inj hx
    simp [tkN, tkI, split] at h2

theorem tkB_tkI {k : Int} {c : ByteArray} {b : Int} (hk : k = 1 ∨ k = 2 ∨ k = 3) : tkB k c b = tkI k c b := by
  rcases hk with rfl | rfl | rfl <;> simp [tkB, tkI]

/-- Where it ends there is a way. -/
def Way (s : ByteArray) (t : Tr) : Prop := t.okT = true → ∀ (N : List Nd) (p : Nat), StandAt N p (t.lay p) → ∀ i j, i ≤ s.size → t.endM s i j = true → Pa N s i p j (p + t.nsz)

theorem way_cat (s : ByteArray) (l : List Tr) (ih : ∀ x ∈ l, Way s x) (hok : ∀ x ∈ l, x.okT = true) : ∀ (N : List Nd) (p : Nat) (B : Mat), StandAt N p (layL l p) → ∀ i j, i ≤ s.size → (∀ b, B i b = true → b ≤ s.size) → (l.map (Tr.endM s)).foldl (mThen s.size) B i j = true → ∃ m, m ≤ s.size ∧ B i m = true ∧ Pa N s m p j (p + nszL l) := by
  induction l with
  | nil =>
    intro N p B _ i j hi hB h
    exact ⟨j, hB j h, h, by rw [nszL]; exact .refl _ _⟩
  | cons t r ihl =>
    intro N p B hN i j hi hB h
    rw [layL] at hN
    have hl : (t.lay p).length = t.nsz := lay_len t (hok t (List.mem_cons_self ..)) p
    have h2 := hN.right
    rw [hl] at h2
    obtain ⟨m, hm, h3, h4⟩ := ihl (fun x hx => ih x (List.mem_cons_of_mem _ hx)) (fun x hx => hok x (List.mem_cons_of_mem _ hx)) N (p + t.nsz) (mThen s.size B (t.endM s)) h2 i j hi
      (fun b hab => ((UpM.then (a := B) (UpM.tree s t)) i b hi hab).2) h
    obtain ⟨m', h5, _, _, h6, h7⟩ := mThen_iff.1 h3
    have h8 := ih t (List.mem_cons_self ..) (hok t (List.mem_cons_self ..)) N p hN.left m' m h5 h7
    exact ⟨m', h5, h6, by rw [nszL, ← Nat.add_assoc]; exact h8.trans h4⟩

theorem adds_mem (L : List Mat) : ∀ (A : Mat) (i j : Nat), L.foldl mAdd A i j = true → A i j = true ∨ ∃ M ∈ L, M i j = true := by
  induction L with
  | nil => intro A i j h; exact .inl h
  | cons M r ih =>
    intro A i j h
    rcases ih _ i j h with h | ⟨M', h1, h2⟩
    · simp only [mAdd, Bool.or_eq_true, Bool.and_eq_true] at h
      rcases h with h | ⟨_, h⟩
      · exact .inl h
      · exact .inr ⟨M, List.mem_cons_self .., h⟩
    · exact .inr ⟨M', List.mem_cons_of_mem _ h1, h2⟩
theorem adds_of_left (L : List Mat) : ∀ (A : Mat) (i j : Nat), A i j = true → L.foldl mAdd A i j = true := by
  induction L with
  | nil => intro A i j h; exact h
  | cons M r ih => intro A i j h; exact ih _ i j (by simp [mAdd, h])
theorem adds_of_mem {n : Nat} (L : List Mat) (hL : ∀ M ∈ L, UpM n M) : ∀ (A : Mat) (i j : Nat), i ≤ n → (∃ M ∈ L, M i j = true) → L.foldl mAdd A i j = true := by
  induction L with
  | nil => rintro A i j _ ⟨M, h, _⟩; cases h
  | cons M r ih =>
    rintro A i j hi ⟨M', h, h2⟩
    rcases List.mem_cons.1 h with rfl | h
    · refine adds_of_left r _ i j ?_
      have := hL M' (List.mem_cons_self ..) i j hi h2
      simp [mAdd, h2, this.1]
    · exact ih (fun X hX => hL X (List.mem_cons_of_mem _ hX)) _ i j hi ⟨M', h, h2⟩

theorem way_alt (s : ByteArray) (l : List Tr) (ih : ∀ x ∈ l, Way s x) (hok : ∀ x ∈ l, x.okT = true) : ∀ (N : List Nd) (p q : Nat), q = p + (nszL l + 2 * (l.length - 1)) → StandAt N p (layA l p q) → ∀ i j, i ≤ s.size → (∃ x ∈ l, x.endM s i j = true) → Pa N s i p j q := by
  induction l with
  | nil => rintro N p q _ _ i j _ ⟨x, h, _⟩; cases h
  | cons t r ihl =>
    rintro N p q hq hN i j hi ⟨x, hx, hxe⟩
    rw [layA] at hN
    have ht := ih t (List.mem_cons_self ..) (hok t (List.mem_cons_self ..))
    cases r with
    | nil =>
      simp only [List.isEmpty_nil, if_true] at hN
      obtain rfl : x = t := by simpa using hx
      have := ht N p hN i j hi hxe
      simp [nszL] at hq
      rw [hq]; exact this
    | cons u r' =>
      simp only [List.isEmpty_cons, Bool.false_eq_true, if_false] at hN
      have hl : (t.lay (p + 1)).length = t.nsz := lay_len t (hok t (List.mem_cons_self ..)) (p + 1)
      have h0 := hN.head
      have h1 := hN.tail.left
      have h2 := hN.tail.right
      rw [hl] at h2
      rcases List.mem_cons.1 hx with rfl | hx
      · have h3 := ht N (p + 1) h1 i j hi hxe
        exact .step (St.left h0) (h3.trans (.one (St.left h2.head)))
      · have h3 := ihl (fun x hx => ih x (List.mem_cons_of_mem _ hx)) (fun x hx => hok x (List.mem_cons_of_mem _ hx)) N (p + 2 + t.nsz) q (by simp [nszL] at hq ⊢; omega)
          (by have := h2.tail; rwa [show p + 1 + t.nsz + 1 = p + 2 + t.nsz by omega] at this) i j hi ⟨x, hx, hxe⟩
        exact .step (St.right h0) h3

theorem way_star {s : ByteArray} {M : Mat} {N : List Nd} {p b q : Nat} (h0 : N[p]? = some (split (p + 1) q)) (hb : N[b]? = some (split p p))
    (hw : ∀ i j, i ≤ s.size → M i j = true → Pa N s i (p + 1) j b) : ∀ d i j, s.size - i ≤ d → i ≤ s.size → mMany s.size M i j = true → Pa N s i p j q := by
  intro d
  induction d with
  | zero =>
    intro i j hd hi h
    have hj := UpM.many s.size M i j hi h
    obtain rfl : i = j := by omega
    exact .one (St.right h0)
  | succ d ih =>
    intro i j hd hi h
    have hj := UpM.many s.size M i j hi h
    rcases (mMany_iff hj.2).1 h with rfl | ⟨m, h1, h2, _, h4, h5⟩
    · exact .one (St.right h0)
    · exact .step (St.left h0) ((hw i m hi h4).trans (.step (St.left hb) (ih m j (by omega) h1 h5)))

theorem way_plus {s : ByteArray} {M : Mat} {N : List Nd} {p b q : Nat} (hb : N[b]? = some (split p q))
    (hw : ∀ i j, i ≤ s.size → M i j = true → Pa N s i p j b) : ∀ d i j, s.size - i ≤ d → i ≤ s.size → mMany s.size M i j = true → Pa N s i b j q := by
  intro d
  induction d with
  | zero =>
    intro i j hd hi h
    have hj := UpM.many s.size M i j hi h
    obtain rfl : i = j := by omega
    exact .one (St.right hb)
  | succ d ih =>
    intro i j hd hi h
    have hj := UpM.many s.size M i j hi h
    rcases (mMany_iff hj.2).1 h with rfl | ⟨m, h1, h2, _, h4, h5⟩
    · exact .one (St.right hb)
    · exact .step (St.left hb) ((hw i m hi h4).trans (ih m j (by omega) h1 h5))

theorem way_tree (s : ByteArray) (t : Tr) : Way s t := by
  refine Tr.ind (P := Way s) ?_ t
  intro t ih hok N p hN i j hi h
  have hkids := okT_kids hok
  have hkl : ∀ x ∈ t.l, ∀ p, (x.lay p).length = x.nsz := fun x hx => lay_len x (hkids x hx)
  rw [endM_eq] at h
  rw [lay_eq] at hN
  rw [nsz_eq]
  rcases okT_kinds hok with hk | hk | hk | hk | hk | hk | hk | hk | hk | hk | hk
  · have e := okT_leaf hok (by omega)
    simp [hk, e, nodeM, mOne, nszL] at h hN ⊢
    obtain ⟨⟨h1, rfl⟩, h3⟩ := h
    exact .one (.inr ⟨rfl, h1, _, hN.head, by rw [tkB_tkI (by omega)] at h3; exact h3, rfl⟩)
  · have e := okT_leaf hok (by omega)
    simp [hk, e, nodeM, mOne, nszL] at h hN ⊢
    obtain ⟨⟨h1, rfl⟩, h3⟩ := h
    exact .one (.inr ⟨rfl, h1, _, hN.head, by simp [tkN, tkI], rfl⟩)
  · have e := okT_leaf hok (by omega)
    simp [hk, e, nodeM, mOne, nszL] at h hN ⊢
    obtain ⟨⟨h1, rfl⟩, h3⟩ := h
    exact .one (.inr ⟨rfl, h1, _, hN.head, by rw [tkB_tkI (by omega)] at h3; exact h3, rfl⟩)
  · simp [hk, nodeM] at h hN ⊢
    obtain ⟨m, hm, h1, h2⟩ := way_cat s t.l ih hkids N p mSame hN i j hi (fun b hb => (show i = b by simpa [mSame] using hb) ▸ hi) (by simpa using h)
    obtain rfl : i = m := by simpa [mSame] using h1
    exact h2
  · simp [hk, nodeM] at h hN ⊢
    rcases adds_mem _ _ i j h with h | ⟨M, h1, h2⟩
    · simp [mNone] at h
    · obtain ⟨x, hx, rfl⟩ := List.mem_map.1 h1
      exact way_alt s t.l ih hkids N p _ rfl hN i j hi ⟨x, hx, h2⟩
  · obtain ⟨x, hx⟩ := okT_one hok (by omega)
    have hmem : x ∈ t.l := by rw [hx]; simp
    simp [hk, nodeM, hx, layL, nszL] at h hN ⊢
    have hl := hkl x hmem (p + 1)
    have hb := hN.tail.right
    rw [hl] at hb
    exact way_star hN.head hb.head (fun i j hi h => ih x hmem (hkids x hmem) N (p + 1) hN.tail.left i j hi h) _ i j (Nat.le_refl _) hi h
  · obtain ⟨x, hx⟩ := okT_one hok (by omega)
    have hmem : x ∈ t.l := by rw [hx]; simp
    simp [hk, nodeM, hx, layL, nszL] at h hN ⊢
    have hl := hkl x hmem p
    have hb := hN.right
    rw [hl] at hb
    have hw := fun i j hi h => ih x hmem (hkids x hmem) N p hN.left i j hi h
    obtain ⟨m, h1, _, _, h4, h5⟩ := mThen_iff.1 h
    exact (hw i m hi h4).trans (way_plus hb.head hw _ m j (Nat.le_refl _) h1 h5)
  · obtain ⟨x, hx⟩ := okT_one hok (by omega)
    have hmem : x ∈ t.l := by rw [hx]; simp
    simp [hk, nodeM, hx, layL, nszL] at h hN ⊢
    simp only [mAdd, Bool.or_eq_true, Bool.and_eq_true] at h
    rcases h with h | ⟨_, h⟩
    · obtain rfl : i = j := by simpa [mSame] using h
      exact .one (St.right hN.head)
    · have := ih x hmem (hkids x hmem) N (p + 1) hN.tail i j hi h
      rw [show p + (x.nsz + 1) = p + 1 + x.nsz by omega]
      exact .step (St.left hN.head) this
  · have e := okT_leaf hok (by omega)
    simp [hk, nodeM, mSame, e, nszL] at h ⊢
    subst h
    exact .refl _ _
  · have e := okT_leaf hok (by omega)
    simp [hk, nodeM, e, nszL] at h hN ⊢
    obtain ⟨rfl, h⟩ := h
    exact .one (.inl ⟨rfl, _, hN.head, .inr (.inl ⟨rfl, h, rfl⟩)⟩)
  · have e := okT_leaf hok (by omega)
    simp [hk, nodeM, e, nszL] at h hN ⊢
    obtain ⟨rfl, h⟩ := h
    exact .one (.inl ⟨rfl, _, hN.head, .inr (.inr ⟨rfl, h, rfl⟩)⟩)
end Go.Proofs.YtapniafhcagogaaGreatDoor
