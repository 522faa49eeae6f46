/- Places that stand for places: ways up, what is joined. Nothing of the program. -/
import Derived.Test.YtijpmnenegdmnaaQRun1
namespace Go.Proofs.Ytijpmnenegdmnaa
open Go.RowKit

/-- A place: where a list with elements begins, and how many it has. -/
structure Plc where
  a : Addr
  n : Int
  deriving DecidableEq

/-- What a place leads to. -/
def lk : List (Plc × Plc) → Plc → Option Plc
  | [], _ => none
  | x :: E, p => if x.1 = p then some x.2 else lk E p
/-- From now on p leads to q. -/
def putP : List (Plc × Plc) → Plc → Plc → List (Plc × Plc)
  | [], p, q => [(p, q)]
  | x :: E, p, q => if x.1 = p then (p, q) :: E else x :: putP E p q

theorem lk_put (E : List (Plc × Plc)) (p q r : Plc) : lk (putP E p q) r = if p = r then some q else lk E r := by
  induction E with
  | nil => simp [putP, lk]
  | cons x E ih =>
    unfold putP
    by_cases h : x.1 = p
    · rw [if_pos h]
      by_cases hr : p = r
      · simp [lk, hr]
      · have : ¬ x.1 = r := by rw [h]; exact hr
        simp [lk, hr, this]
    · rw [if_neg h]
      simp only [lk, ih]
      by_cases hr : x.1 = r
      · have : ¬ p = r := by intro e; exact h (hr.trans e.symm)
        simp [hr, this]
      · simp [hr]

theorem lk_mem {E : List (Plc × Plc)} {p q : Plc} (h : lk E p = some q) : (p, q) ∈ E := by
  induction E with
  | nil => simp [lk] at h
  | cons x E ih =>
    unfold lk at h
    split at h
    · rename_i hx
      obtain rfl : x.2 = q := by simpa using h
      subst hx
      exact List.mem_cons_self
    · exact List.mem_cons_of_mem _ (ih h)

theorem put_mem {E : List (Plc × Plc)} {p q : Plc} {x : Plc × Plc} (h : x ∈ putP E p q) : x = (p, q) ∨ x ∈ E := by
  induction E with
  | nil => exact .inl (by simpa [putP] using h)
  | cons y E ih =>
    unfold putP at h
    split at h
    · rcases List.mem_cons.1 h with h | h
      · exact .inl h
      · exact .inr (List.mem_cons_of_mem _ h)
    · rcases List.mem_cons.1 h with h | h
      · exact .inr (h ▸ List.mem_cons_self)
      · exact (ih h).imp id (List.mem_cons_of_mem _)

/-- So many steps up from here nothing goes on. -/
inductive Up (M : Plc → Option Plc) : Plc → Nat → Prop
  | top {p : Plc} (h : M p = none) : Up M p 0
  | on {p q : Plc} {n : Nat} (h : M p = some q) (hq : Up M q n) : Up M p (n + 1)
def AllUp (M : Plc → Option Plc) : Prop := ∀ p, ∃ n, Up M p n
/-- Each step leads to one that is S to it. -/
def Ins (M : Plc → Option Plc) (S : Plc → Plc → Prop) : Prop := ∀ p q, M p = some q → S p q

theorem AllUp.nil : AllUp (lk []) := fun _ => ⟨0, .top rfl⟩
theorem Ins.nil (S : Plc → Plc → Prop) : Ins (lk []) S := fun p q h => by simp [lk] at h

theorem Up.next {M : Plc → Option Plc} {p q : Plc} {n : Nat} (h : Up M p n) (hq : M p = some q) : ∃ k, n = k + 1 ∧ Up M q k := by
  cases h with
  | top h => rw [h] at hq; cases hq
  | on h hu => rw [h] at hq; cases hq; exact ⟨_, rfl, hu⟩
/-- A way that is cut short is no longer than it was. -/
theorem up_half {M M' : Plc → Option Plc} {p q f : Plc} (hp : M p = some q) (hq : M q = some f) (hM : ∀ r, M' r = if p = r then some f else M r) :
    ∀ (n : Nat) (r : Plc), Up M r n → ∃ m, m ≤ n ∧ Up M' r m := by
  intro n
  induction n using Nat.strongRecOn with
  | _ n ih =>
    intro r h
    by_cases hr : p = r
    · subst hr
      obtain ⟨k, rfl, hk⟩ := h.next hp
      obtain ⟨j, rfl, hj⟩ := hk.next hq
      obtain ⟨m, hm, hu⟩ := ih j (by omega) f hj
      exact ⟨m + 1, by omega, .on (by rw [hM]; simp) hu⟩
    · cases h with
      | top h => exact ⟨0, Nat.le_refl _, .top (by rw [hM, if_neg hr]; exact h)⟩
      | on h hu =>
        obtain ⟨m, hm, hu'⟩ := ih _ (by omega) _ hu
        exact ⟨m + 1, by omega, .on (by rw [hM, if_neg hr]; exact h) hu'⟩

theorem ins_half {M M' : Plc → Option Plc} {p q f : Plc} (hp : M p = some q) (hq : M q = some f) (hM : ∀ r, M' r = if p = r then some f else M r) {S : Plc → Plc → Prop} (hS : Equivalence S) : Ins M' S ↔ Ins M S := by
  constructor
  · intro h r s hr
    by_cases e : p = r
    · subst e
      rw [hp] at hr
      obtain rfl : q = s := by simpa using hr
      have h1 : S p f := h p f (by rw [hM]; simp)
      by_cases e2 : p = q
      · subst e2; exact hS.refl _
      · have h2 : S q f := h q f (by rw [hM, if_neg e2]; exact hq)
        exact hS.trans h1 (hS.symm h2)
    · exact h r s (by rw [hM, if_neg e]; exact hr)
  · intro h r s hr
    rw [hM] at hr
    by_cases e : p = r
    · rw [if_pos e] at hr
      obtain rfl : f = s := by simpa using hr
      subst e
      exact hS.trans (h _ _ hp) (h _ _ hq)
    · rw [if_neg e] at hr
      exact h _ _ hr

/-- One that stands for itself may lead to another such one. -/
theorem up_join {M M' : Plc → Option Plc} {a b : Plc} (ha : M a = none) (hb : M b = none) (hab : a ≠ b) (hM : ∀ r, M' r = if a = r then some b else M r) (h : AllUp M) : AllUp M' := by
  intro p
  obtain ⟨n, hn⟩ := h p
  induction hn with
  | top h =>
    rename_i r
    by_cases e : a = r
    · exact ⟨1, .on (by rw [hM, if_pos e]) (.top (by rw [hM, if_neg hab]; exact hb))⟩
    · exact ⟨0, .top (by rw [hM, if_neg e]; exact h)⟩
  | on h hu ih =>
    obtain ⟨m, hm⟩ := ih
    rename_i r q _
    have e : a ≠ r := by rintro rfl; rw [ha] at h; cases h
    exact ⟨m + 1, .on (by rw [hM, if_neg e]; exact h) hm⟩

theorem ins_join {M M' : Plc → Option Plc} {a b : Plc} (ha : M a = none) (hM : ∀ r, M' r = if a = r then some b else M r) (S : Plc → Plc → Prop) : Ins M' S ↔ Ins M S ∧ S a b := by
  constructor
  · intro h
    refine ⟨fun r s hr => ?_, h a b (by rw [hM]; simp)⟩
    have e : a ≠ r := by rintro rfl; rw [ha] at hr; cases hr
    exact h r s (by rw [hM, if_neg e]; exact hr)
  · rintro ⟨h, hab⟩ r s hr
    rw [hM] at hr
    by_cases e : a = r
    · rw [if_pos e] at hr
      obtain rfl : b = s := by simpa using hr
      subst e
      exact hab
    · rw [if_neg e] at hr
      exact h _ _ hr

/-- Both maps join the same. -/
def Alk (E E' : List (Plc × Plc)) : Prop := ∀ S, Equivalence S → (Ins (lk E') S ↔ Ins (lk E) S)
theorem Alk.refl (E : List (Plc × Plc)) : Alk E E := fun _ _ => Iff.rfl
theorem Alk.trans {E F G : List (Plc × Plc)} (h : Alk E F) (k : Alk F G) : Alk E G := fun S hS => (k S hS).trans (h S hS)
/-- p leads up to r. -/
def Leads (E : List (Plc × Plc)) (p r : Plc) : Prop := ∀ S, Equivalence S → Ins (lk E) S → S p r
theorem Leads.refl (E : List (Plc × Plc)) (p : Plc) : Leads E p p := fun _ hS _ => hS.refl _
theorem Leads.on {E : List (Plc × Plc)} {p q r : Plc} (h : Leads E p q) (hq : lk E q = some r) : Leads E p r := fun S hS hI => hS.trans (h S hS hI) (hI _ _ hq)
theorem Leads.alk {E F : List (Plc × Plc)} {p r : Plc} (h : Leads E p r) (k : Alk E F) : Leads F p r := fun S hS hI => h S hS ((k S hS).1 hI)

theorem alk_half {E : List (Plc × Plc)} {p q f : Plc} (hp : lk E p = some q) (hq : lk E q = some f) : Alk E (putP E p f) := fun _ hS => ins_half hp hq (lk_put E p f) hS
theorem allUp_half {E : List (Plc × Plc)} {p q f : Plc} (hp : lk E p = some q) (hq : lk E q = some f) (h : AllUp (lk E)) : AllUp (lk (putP E p f)) := fun r => by
  obtain ⟨n, hn⟩ := h r
  obtain ⟨m, -, hm⟩ := up_half hp hq (lk_put E p f) n r hn
  exact ⟨m, hm⟩

/-- What a join says of the two maps. -/
def Jnd (E E' : List (Plc × Plc)) (p q : Plc) (r : Bool) : Prop :=
  (∀ S, Equivalence S → (Ins (lk E') S ↔ Ins (lk E) S ∧ S p q)) ∧ (r = false → Leads E p q)
theorem jnd_no {E E1 E2 : List (Plc × Plc)} {p q r : Plc} (h1 : Alk E E1) (l1 : Leads E1 p r) (h2 : Alk E1 E2) (l2 : Leads E2 q r) : Jnd E E2 p q false := by
  have hl : Leads E p q := fun S hS hI => by
    have i1 := (h1 S hS).2 hI
    exact hS.trans (l1 S hS i1) (hS.symm (l2 S hS ((h2 S hS).2 i1)))
  exact ⟨fun S hS => ((h2 S hS).trans (h1 S hS)).trans ⟨fun hI => ⟨hI, hl S hS hI⟩, fun h => h.1⟩, fun _ => hl⟩
theorem jnd_yes {E E1 E2 : List (Plc × Plc)} {p q r s : Plc} (h1 : Alk E E1) (l1 : Leads E1 p r) (h2 : Alk E1 E2) (l2 : Leads E2 q s) (hr : lk E2 r = none) : Jnd E (putP E2 r s) p q true := by
  refine ⟨fun S hS => (ins_join hr (lk_put E2 r s) S).trans ?_, fun h => by cases h⟩
  constructor
  · rintro ⟨hI, hrs⟩
    have i1 := (h2 S hS).1 hI
    exact ⟨(h1 S hS).1 i1, hS.trans (l1 S hS i1) (hS.trans hrs (hS.symm (l2 S hS hI)))⟩
  · rintro ⟨hI, hpq⟩
    have i1 := (h1 S hS).2 hI
    have i2 := (h2 S hS).2 i1
    exact ⟨i2, hS.trans (hS.symm (l1 S hS i1)) (hS.trans hpq (l2 S hS i2))⟩

end Go.Proofs.Ytijpmnenegdmnaa
