/- What is reached without a byte: plain mathematics. -/
import Derived.Test.YtapniafhcagogaaGreatDoorNodeOk
namespace Go.Proofs.YtapniafhcagogaaGreatDoor

/-- Where a node goes on without a byte. -/
def fol (ab ae : Bool) (x : Nd) : List Int := if x.k = 4 then [x.a, x.b] else if x.k = 5 ∧ ab = true ∨ x.k = 6 ∧ ae = true then [x.a] else []
/-- The node at a place. -/
def ndAt (N : List Nd) (i : Nat) : Nd := N.getD i default
theorem ndAt_eq {N : List Nd} {i : Nat} (h : i < N.length) : ndAt N i = N[i] := by simp [ndAt, List.getD, h]

inductive Rch (N : List Nd) (ab ae : Bool) (S : Nat → Prop) : Nat → Prop
  | start {i : Nat} : S i → Rch N ab ae S i
  | step {p q : Nat} : Rch N ab ae S p → (q : Int) ∈ fol ab ae (ndAt N p) → Rch N ab ae S q

section
variable {N : List Nd} {ab ae : Bool}

theorem Rch.mono {S T : Nat → Prop} (h : ∀ i, S i → T i) {j : Nat} (hr : Rch N ab ae S j) : Rch N ab ae T j := by
  induction hr with
  | start hs => exact .start (h _ hs)
  | step _ hq ih => exact .step ih hq
/-- From what is reached nothing new is reached. -/
theorem Rch.into {S T : Nat → Prop} (h : ∀ i, S i → Rch N ab ae T i) {j : Nat} (hr : Rch N ab ae S j) : Rch N ab ae T j := by
  induction hr with
  | start hs => exact h _ hs
  | step _ hq ih => exact .step ih hq
theorem Rch.closed {S M : Nat → Prop} (h : ∀ i, S i → M i) (hc : ∀ p q : Nat, M p → (q : Int) ∈ fol ab ae (ndAt N p) → M q) {j : Nat} (hr : Rch N ab ae S j) : M j := by
  induction hr with
  | start hs => exact h _ hs
  | step _ hq ih => exact hc _ _ ih hq

theorem okNfa_node {i : Nat} (h : okNfa N = true) (hi : i < N.length) : okNd N[i] N.length = true := by
  unfold okNfa at h
  rw [Bool.and_eq_true, List.all_eq_true] at h
  exact h.2 _ (List.getElem_mem hi)
theorem okNfa_size (h : okNfa N = true) : N.length ≤ 300 := by
  unfold okNfa at h
  simp only [Bool.and_eq_true, decide_eq_true_eq] at h
  exact h.1.1.2
theorem fol_in (h : okNfa N = true) {p : Nat} (hp : p < N.length) {z : Int} (hz : z ∈ fol ab ae (ndAt N p)) : 0 ≤ z ∧ z < N.length := by
  have ho := okNfa_node h hp
  rw [ndAt_eq hp] at hz
  unfold fol at hz
  unfold okNd at ho
  generalize N[p] = x at ho hz
  by_cases k4 : x.k = 4
  · simp [k4, plB] at ho hz
    rcases hz with rfl | rfl <;> omega
  · rw [if_neg k4] at hz
    split at hz
    · rename_i hk
      have k1 : x.k ≠ 1 := by omega
      have k3 : x.k ≠ 3 := by omega
      have k2 : x.k = 2 ∨ x.k = 5 ∨ x.k = 6 := by omega
      rw [if_neg k1, if_neg k3, if_pos k2] at ho
      simp [plB] at ho hz
      subst hz
      omega
    · cases hz
theorem Rch.lt (h : okNfa N = true) {S : Nat → Prop} (hs : ∀ i, S i → i < N.length) {j : Nat} (hr : Rch N ab ae S j) : j < N.length := by
  induction hr with
  | start h1 => exact hs _ h1
  | step _ hq ih => have := fol_in h ih hq; omega

/-- The marks have grown from M to M' by what is reached from S. -/
def Grew (N : List Nd) (ab ae : Bool) (S : Nat → Prop) (M M' : Nat → Bool) : Prop :=
  (∀ j, M j = true → M' j = true) ∧ (∀ j, S j → M' j = true) ∧ ∀ j, M' j = true → M j = true ∨ (Rch N ab ae S j ∧ ∀ q : Nat, (q : Int) ∈ fol ab ae (ndAt N j) → M' q = true)

theorem Grew.here {M : Nat → Bool} {S : Nat → Prop} (h : ∀ j, S j → M j = true) : Grew N ab ae S M M := ⟨fun _ h => h, h, fun _ h => .inl h⟩
theorem Grew.comp {S T : Nat → Prop} {M M1 M2 : Nat → Bool} (h : Grew N ab ae S M M1) (k : Grew N ab ae T M1 M2) : Grew N ab ae (fun j => S j ∨ T j) M M2 := by
  refine ⟨fun j hj => k.1 j (h.1 j hj), fun j hj => ?_, fun j hj => ?_⟩
  · rcases hj with hj | hj
    · exact k.1 j (h.2.1 j hj)
    · exact k.2.1 j hj
  · rcases k.2.2 j hj with h1 | ⟨h1, h2⟩
    · rcases h.2.2 j h1 with h3 | ⟨h3, h4⟩
      · exact .inl h3
      · exact .inr ⟨h3.mono fun i hi => .inl hi, fun q hq => k.1 q (h4 q hq)⟩
    · exact .inr ⟨h1.mono fun i hi => .inr hi, h2⟩
theorem Grew.imp {S T : Nat → Prop} {M M' : Nat → Bool} (h : Grew N ab ae S M M') (hST : ∀ j, S j ↔ T j) : Grew N ab ae T M M' :=
  ⟨h.1, fun j hj => h.2.1 j ((hST j).2 hj), fun j hj => (h.2.2 j hj).imp id fun ⟨h1, h2⟩ => ⟨h1.mono fun i hi => (hST i).1 hi, h2⟩⟩

/-- A mark more. -/
def mk1 (M : Nat → Bool) (i : Nat) : Nat → Bool := fun j => M j || j == i
theorem mk1_self (M : Nat → Bool) (i : Nat) : mk1 M i i = true := by simp [mk1]
theorem Grew.one {M M' : Nat → Bool} {i : Nat} (h : Grew N ab ae (fun q => (q : Int) ∈ fol ab ae (ndAt N i)) (mk1 M i) M') : Grew N ab ae (fun j => j = i) M M' := by
  refine ⟨fun j hj => h.1 j (by simp [mk1, hj]), (fun j hj => by subst hj; exact h.1 _ (mk1_self M j)), fun j hj => ?_⟩
  rcases h.2.2 j hj with h1 | ⟨h1, h2⟩
  · simp only [mk1, Bool.or_eq_true, beq_iff_eq] at h1
    rcases h1 with h1 | rfl
    · exact .inl h1
    · exact .inr ⟨.start rfl, fun q hq => h.2.1 q hq⟩
  · exact .inr ⟨h1.into (T := fun j => j = i) (fun q hq => .step (.start rfl) hq), h2⟩
theorem Grew.all {S : Nat → Prop} {M : Nat → Bool} (h : Grew N ab ae S (fun _ => false) M) (j : Nat) : M j = true ↔ Rch N ab ae S j := by
  constructor
  · intro hj
    rcases h.2.2 j hj with h1 | ⟨h1, _⟩
    · cases h1
    · exact h1
  · intro hr
    refine hr.closed (M := fun j => M j = true) h.2.1 fun p q hp hq => ?_
    rcases h.2.2 p hp with h1 | ⟨_, h2⟩
    · cases h1
    · exact h2 q hq

/-- How many are not marked. -/
def unM (n : Nat) (M : Nat → Bool) : Nat := ((List.range n).filter fun j => !M j).length
theorem filt_le {M M' : Nat → Bool} (h : ∀ j, M j = true → M' j = true) (L : List Nat) : (L.filter fun j => !M' j).length ≤ (L.filter fun j => !M j).length := by
  induction L with
  | nil => simp
  | cons x r ih =>
    cases hx : M x with
    | true => simpa [hx, h x hx] using ih
    | false => cases hx' : M' x <;> simp [hx, hx'] <;> omega
theorem unM_le {n : Nat} {M M' : Nat → Bool} (h : ∀ j, M j = true → M' j = true) : unM n M' ≤ unM n M := filt_le h _
theorem unM_lt {n i : Nat} {M : Nat → Bool} (hi : i < n) (h : M i = false) : unM n (mk1 M i) < unM n M := by
  unfold unM
  have hm : i ∈ List.range n := List.mem_range.2 hi
  have hn : (List.range n).Nodup := List.nodup_range
  generalize List.range n = L at hm hn
  induction L with
  | nil => cases hm
  | cons x r ih =>
    rw [List.nodup_cons] at hn
    rcases List.mem_cons.1 hm with rfl | hm'
    · have hle : ((r.filter fun j => !mk1 M i j).length) ≤ (r.filter fun j => !M j).length := filt_le (fun j hj => by simp [mk1, hj]) r
      simp [h, mk1_self]
      omega
    · have := ih hm' hn.2
      have hx : x ≠ i := by rintro rfl; exact hn.1 hm'
      cases hxm : M x <;> simp [mk1, hxm, hx] at this ⊢ <;> omega
end
end Go.Proofs.YtapniafhcagogaaGreatDoor
