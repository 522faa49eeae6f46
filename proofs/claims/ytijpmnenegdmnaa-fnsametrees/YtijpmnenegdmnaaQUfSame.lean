/- Trees held against each other by lists: what is joined is the same, as deep as one looks. Nothing of the program. -/
import Derived.Test.YtijpmnenegdmnaaQUfMath
namespace Go.Proofs.Ytijpmnenegdmnaa
open Go.RowKit

/-- A kind of tree: what lists it has, and what else of it is compared. -/
structure Lab (T : Type) where
  sons : T → List (List T)
  hd : T → T → Prop
  c : Nat
  num : ∀ t, (sons t).length = c
  eqv : Equivalence hd
  all : ∀ t u, hd t u → sons t = sons u → t = u
  wt : T → Nat
  low : ∀ t, ∀ s ∈ sons t, ∀ x ∈ s, wt x < wt t
  self : ∀ t u, t = u → hd t u

variable {T : Type}
/-- The same as deep as d. -/
def eqL (Λ : Lab T) : Nat → List T → List T → Prop
  | 0, _, _ => True
  | d + 1, l, l' => l.length = l'.length ∧ ∀ i (h : i < l.length) (h' : i < l'.length), Λ.hd l[i] l'[i] ∧
      ∀ j (k : j < (Λ.sons l[i]).length) (k' : j < (Λ.sons l'[i]).length), eqL Λ d (Λ.sons l[i])[j] (Λ.sons l'[i])[j]

theorem eqL_refl (Λ : Lab T) : ∀ (d : Nat) (l : List T), eqL Λ d l l
  | 0, _ => trivial
  | d + 1, _ => ⟨rfl, fun _ _ _ => ⟨Λ.eqv.refl _, fun _ _ _ => eqL_refl Λ d _⟩⟩
theorem eqL_symm (Λ : Lab T) : ∀ (d : Nat) {l l' : List T}, eqL Λ d l l' → eqL Λ d l' l
  | 0, _, _, _ => trivial
  | d + 1, _, _, h => ⟨h.1.symm, fun i h1 h2 => ⟨Λ.eqv.symm (h.2 i h2 h1).1, fun j k k' => eqL_symm Λ d ((h.2 i h2 h1).2 j k' k)⟩⟩
theorem eqL_trans (Λ : Lab T) : ∀ (d : Nat) {l l' l'' : List T}, eqL Λ d l l' → eqL Λ d l' l'' → eqL Λ d l l''
  | 0, _, _, _, _, _ => trivial
  | d + 1, l, l', l'', h, g => ⟨h.1.trans g.1, fun i h1 h2 => by
      have hm : i < l'.length := by rw [← h.1]; exact h1
      obtain ⟨a1, a2⟩ := h.2 i h1 hm
      obtain ⟨b1, b2⟩ := g.2 i hm h2
      exact ⟨Λ.eqv.trans a1 b1, fun j k k' => eqL_trans Λ d (a2 j k (by rw [Λ.num] at k ⊢; exact k)) (b2 j (by rw [Λ.num] at k ⊢; exact k) k')⟩⟩
theorem eqL_mono (Λ : Lab T) : ∀ (d : Nat) {l l' : List T}, eqL Λ (d + 1) l l' → eqL Λ d l l'
  | 0, _, _, _ => trivial
  | d + 1, _, _, h => ⟨h.1, fun i h1 h2 => ⟨(h.2 i h1 h2).1, fun j k k' => eqL_mono Λ d ((h.2 i h1 h2).2 j k k')⟩⟩
theorem eqL_one (Λ : Lab T) : ∀ (n : Nat) (t u : T), Λ.wt t < n → Λ.hd t u → (∀ d j (k : j < (Λ.sons t).length) (k' : j < (Λ.sons u).length), eqL Λ d (Λ.sons t)[j] (Λ.sons u)[j]) → t = u := by
  intro n
  induction n with
  | zero => intro t u h; omega
  | succ n ih =>
    intro t u hw hh hs
    refine Λ.all t u hh (List.ext_getElem (by rw [Λ.num, Λ.num]) fun j k k' => ?_)
    refine List.ext_getElem (hs 1 j k k').1 fun i h h' => ?_
    refine ih _ _ ?_ ((hs 1 j k k').2 i h h').1 fun d j2 q q' => ((hs (d + 1) j k k').2 i h h').2 j2 q q'
    have := Λ.low t _ (List.getElem_mem k) _ (List.getElem_mem h)
    omega
theorem eqL_all (Λ : Lab T) {l l' : List T} (h : ∀ d, eqL Λ d l l') : l = l' :=
  List.ext_getElem (h 1).1 fun i h1 h2 => eqL_one Λ _ _ _ (Nat.lt_succ_self _) ((h 1).2 i h1 h2).1 fun d j k k' => ((h (d + 1)).2 i h1 h2).2 j k k'

/-- Two lists held against each other, with the slices that they are read from. -/
structure Prr (T : Type) where
  a : List T
  b : List T
  u : Value
  v : Value
/-- All are the same. -/
def Sme (W : List (Prr T)) : Prop := ∀ q ∈ W, q.a = q.b
def Eql (Λ : Lab T) (d : Nat) (W : List (Prr T)) : Prop := ∀ q ∈ W, eqL Λ d q.a q.b
theorem Sme.app {W V : List (Prr T)} : Sme (W ++ V) ↔ Sme W ∧ Sme V := ⟨fun h => ⟨fun q hq => h q (List.mem_append_left _ hq), fun q hq => h q (List.mem_append_right _ hq)⟩, fun h q hq => (List.mem_append.1 hq).elim (h.1 q) (h.2 q)⟩
theorem Eql.app {Λ : Lab T} {d : Nat} {W V : List (Prr T)} : Eql Λ d (W ++ V) ↔ Eql Λ d W ∧ Eql Λ d V := ⟨fun h => ⟨fun q hq => h q (List.mem_append_left _ hq), fun q hq => h q (List.mem_append_right _ hq)⟩, fun h q hq => (List.mem_append.1 hq).elim (h.1 q) (h.2 q)⟩
theorem Sme.one {q : Prr T} : Sme [q] ↔ q.a = q.b := by simp [Sme]
theorem Eql.one {Λ : Lab T} {d : Nat} {q : Prr T} : Eql Λ d [q] ↔ eqL Λ d q.a q.b := by simp [Eql]

/-- What joins places joins lists that are the same as deep as d. -/
def SL (Λ : Lab T) (L : Plc → List T) (d : Nat) (p q : Plc) : Prop := eqL Λ d (L p) (L q)
theorem SL.eqv (Λ : Lab T) (L : Plc → List T) (d : Nat) : Equivalence (SL Λ L d) := ⟨fun _ => eqL_refl Λ d _, fun h => eqL_symm Λ d h, fun h g => eqL_trans Λ d h g⟩

/-- What holds ahead of each list that is taken: W0 is asked, W waits, E has what was joined, C is left for later. -/
structure Inv (Λ : Lab T) (L : Plc → List T) (W0 W : List (Prr T)) (E : List (Plc × Plc)) (C : Prop) : Prop where
  up : AllUp (lk E)
  a : Sme W0 → Sme W ∧ C
  b : ∀ d, C → Eql Λ d W → Ins (lk E) (SL Λ L d) → Ins (lk E) (SL Λ L (d + 1)) ∧ Eql Λ d W0
/-- .. and while the elements of q are gone through. -/
structure InvJ (Λ : Lab T) (L : Plc → List T) (W0 W : List (Prr T)) (q : Prr T) (E : List (Plc × Plc)) (C : Prop) : Prop where
  up : AllUp (lk E)
  a : Sme W0 → Sme W ∧ q.a = q.b ∧ C
  b : ∀ d, C → Eql Λ d W → eqL Λ (d + 1) q.a q.b → Ins (lk E) (SL Λ L d) → Ins (lk E) (SL Λ L (d + 1)) ∧ Eql Λ d W0

variable {Λ : Lab T} {L : Plc → List T} {W0 W : List (Prr T)} {q : Prr T} {E E' : List (Plc × Plc)} {C : Prop}
theorem Inv.start (C : Prop) (Λ : Lab T) (L : Plc → List T) (W0 : List (Prr T)) (hC : Sme W0 → C) : Inv Λ L W0 W0 [] C :=
  ⟨AllUp.nil, fun h => ⟨h, hC h⟩, fun _ _ h _ => ⟨Ins.nil _, h⟩⟩

theorem Inv.empty (h : Inv Λ L W0 (W ++ [q]) E C) (ha : q.a = []) (hb : q.b = []) : Inv Λ L W0 W E C := by
  refine ⟨h.up, fun hs => ⟨(Sme.app.1 (h.a hs).1).1, (h.a hs).2⟩, fun d hC hW hI => h.b d hC (Eql.app.2 ⟨hW, Eql.one.2 ?_⟩) hI⟩
  rw [ha, hb]
  exact eqL_refl Λ d _

theorem Inv.skip (h : Inv Λ L W0 (W ++ [q]) E C) {p p' : Plc} (hp : L p = q.a) (hp' : L p' = q.b) (hj : Jnd E E' p p' false) (hu : AllUp (lk E')) : Inv Λ L W0 W E' C := by
  refine ⟨hu, fun hs => ⟨(Sme.app.1 (h.a hs).1).1, (h.a hs).2⟩, fun d hC hW hI => ?_⟩
  obtain ⟨h1, h2⟩ := (hj.1 _ (SL.eqv Λ L d)).1 hI
  have hq : eqL Λ d q.a q.b := by rw [← hp, ← hp']; exact h2
  obtain ⟨g1, g2⟩ := h.b d hC (Eql.app.2 ⟨hW, Eql.one.2 hq⟩) h1
  exact ⟨(hj.1 _ (SL.eqv Λ L (d + 1))).2 ⟨g1, hj.2 rfl _ (SL.eqv Λ L (d + 1)) g1⟩, g2⟩

theorem Inv.join (h : Inv Λ L W0 (W ++ [q]) E C) {p p' : Plc} (hp : L p = q.a) (hp' : L p' = q.b) (hj : Jnd E E' p p' true) (hu : AllUp (lk E')) : InvJ Λ L W0 W q E' C := by
  refine ⟨hu, fun hs => ⟨(Sme.app.1 (h.a hs).1).1, Sme.one.1 (Sme.app.1 (h.a hs).1).2, (h.a hs).2⟩, fun d hC hW hq hI => ?_⟩
  obtain ⟨h1, h2⟩ := (hj.1 _ (SL.eqv Λ L d)).1 hI
  obtain ⟨g1, g2⟩ := h.b d hC (Eql.app.2 ⟨hW, Eql.one.2 (eqL_mono Λ d hq)⟩) h1
  exact ⟨(hj.1 _ (SL.eqv Λ L (d + 1))).2 ⟨g1, by show eqL Λ (d + 1) (L p) (L p'); rw [hp, hp']; exact hq⟩, g2⟩

theorem InvJ.kids {C' : Prop} {K : List (Prr T)} (h : InvJ Λ L W0 W q E C) (hl : q.a.length = q.b.length) (hC : C' → C) (hC' : q.a = q.b → C → C')
    (hh : C' → ∀ i (h : i < q.a.length) (h' : i < q.b.length), Λ.hd q.a[i] q.b[i])
    (hK : ∀ x ∈ K, ∃ i j, ∃ (h : i < q.a.length) (h' : i < q.b.length) (k : j < (Λ.sons q.a[i]).length) (k' : j < (Λ.sons q.b[i]).length), x.a = (Λ.sons q.a[i])[j] ∧ x.b = (Λ.sons q.b[i])[j])
    (hK' : ∀ i (h : i < q.a.length) (h' : i < q.b.length), ∀ j (k : j < (Λ.sons q.a[i]).length) (k' : j < (Λ.sons q.b[i]).length), ∃ x ∈ K, x.a = (Λ.sons q.a[i])[j] ∧ x.b = (Λ.sons q.b[i])[j]) :
    Inv Λ L W0 (W ++ K) E C' := by
  refine ⟨h.up, fun hs => ?_, fun d hc hW hI => ?_⟩
  · obtain ⟨h1, h2, h3⟩ := h.a hs
    refine ⟨Sme.app.2 ⟨h1, fun x hx => ?_⟩, hC' h2 h3⟩
    obtain ⟨i, j, a1, a2, a3, a4, e1, e2⟩ := hK x hx
    rw [e1, e2]
    congr 1
    simp only [h2]
  · obtain ⟨hW1, hW2⟩ := Eql.app.1 hW
    refine h.b d (hC hc) hW1 ⟨hl, fun i h1 h2 => ⟨hh hc i h1 h2, fun j k k' => ?_⟩⟩ hI
    obtain ⟨x, hx, e1, e2⟩ := hK' i h1 h2 j k k'
    rw [← e1, ← e2]
    exact hW2 x hx

theorem Inv.done (h : Inv Λ L W0 [] E C) (hC : C) : Sme W0 := by
  have hall : ∀ d, Ins (lk E) (SL Λ L d) ∧ Eql Λ d W0 := by
    intro d
    have hI : Ins (lk E) (SL Λ L d) := by
      induction d with
      | zero => exact fun _ _ _ => trivial
      | succ d ih => exact (h.b d hC (fun _ hx => by cases hx) ih).1
    exact ⟨hI, (h.b d hC (fun _ hx => by cases hx) hI).2⟩
  exact fun q hq => eqL_all Λ fun d => (hall d).2 q hq

/-- Of terms. -/
noncomputable def labX : Lab Ex where
  sons t := [t.l]
  hd a b := a.k = b.k ∧ a.n = b.n ∧ a.s = b.s
  c := 1
  num _ := rfl
  eqv := ⟨fun _ => ⟨rfl, rfl, rfl⟩, fun h => ⟨h.1.symm, h.2.1.symm, h.2.2.symm⟩, fun h g => ⟨h.1.trans g.1, h.2.1.trans g.2.1, h.2.2.trans g.2.2⟩⟩
  all t u h e := by
    have : t.l = u.l := by simpa using e
    rw [← t.eta, ← u.eta, h.1, h.2.1, h.2.2, this]
  wt t := SizeOf.sizeOf t
  low t s hs x hx := by
    obtain rfl : s = t.l := by simpa using hs
    cases t
    have := List.sizeOf_lt_of_mem hx
    simp only [Ex.l] at *
    simp only [Ex.node.sizeOf_spec]
    omega
  self t u h := by subst h; exact ⟨rfl, rfl, rfl⟩
end Go.Proofs.Ytijpmnenegdmnaa
