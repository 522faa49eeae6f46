/- What sameLists over statements keeps: the lists that wait, the terms that are left for later. -/
import Derived.Test.YtijpmnenegdmnaaQWithinY
import Derived.Test.YtijpmnenegdmnaaQListsX
import Derived.Test.YtijpmnenegdmnaaQStTo
namespace Go.Proofs.Ytijpmnenegdmnaa
open Go.RowKit
set_option maxRecDepth 8000
set_option linter.unusedVariables false

/-- How much is still to be gone through at most. -/
def my : List (Prr St) → Nat
  | [] => 0
  | q :: W => 1 + 3 * szy q.b + my W
theorem my_append (W V : List (Prr St)) : my (W ++ V) = my W + my V := by
  induction W with
  | nil => simp [my]
  | cons q W ih => simp only [List.cons_append, my, ih]; omega
theorem my_len (W : List (Prr St)) : W.length ≤ my W := by
  induction W with
  | nil => simp
  | cons q W ih => simp only [List.length_cons, my]; omega

/-- What the first kk elements of q have put behind: their lists, their terms. -/
structure KidY (w : World) (D : Nat → Prop) (q : Prr St) (K : List (Prr St)) (TK : List (Prr Ex)) (kk : Nat) : Prop where
  from_ : ∀ x ∈ K, ∃ i j, ∃ (h : i < q.a.length) (h' : i < q.b.length) (k : j < (labY.sons q.a[i]).length) (k' : j < (labY.sons q.b[i]).length), x.a = (labY.sons q.a[i])[j] ∧ x.b = (labY.sons q.b[i])[j]
  all : ∀ i, i < kk → ∀ (h : i < q.a.length) (h' : i < q.b.length), (q.a[i].k = q.b[i].k ∧ q.a[i].s = q.b[i].s ∧ q.a[i].t = q.b[i].t) ∧ (∃ x ∈ TK, x.a = q.a[i].x ∧ x.b = q.b[i].x) ∧
    ∀ j (k : j < (labY.sons q.a[i]).length) (k' : j < (labY.sons q.b[i]).length), ∃ x ∈ K, x.a = (labY.sons q.a[i])[j] ∧ x.b = (labY.sons q.b[i])[j]
  tfrom : ∀ x ∈ TK, ∃ i, ∃ (h : i < q.a.length) (h' : i < q.b.length), x.a = q.a[i].x ∧ x.b = q.b[i].x
  el : ∀ x ∈ K, Sl w D x.a x.u ∧ Sl w D x.b x.v
  tel : ∀ x ∈ TK, El w D x.a x.u ∧ El w D x.b x.v
  sz : my K + mx TK ≤ 3 * szy (q.b.take kk)

theorem KidY.start (w : World) (D : Nat → Prop) (q : Prr St) : KidY w D q [] [] 0 :=
  ⟨fun _ h => (by cases h), fun i h => absurd h (Nat.not_lt_zero i), fun _ h => (by cases h), fun _ h => (by cases h), fun _ h => (by cases h), by simp [my, mx]⟩

theorem KidY.add {w : World} {D : Nat → Prop} {q : Prr St} {K : List (Prr St)} {TK : List (Prr Ex)} {kk : Nat} (h : KidY w D q K TK kk) (h1 : kk < q.a.length) (h2 : kk < q.b.length) (x1 x2 : Prr St) (xt : Prr Ex)
    (hd : q.a[kk].k = q.b[kk].k ∧ q.a[kk].s = q.b[kk].s ∧ q.a[kk].t = q.b[kk].t) (a1 : x1.a = q.a[kk].a ∧ x1.b = q.b[kk].a) (a2 : x2.a = q.a[kk].b ∧ x2.b = q.b[kk].b) (at_ : xt.a = q.a[kk].x ∧ xt.b = q.b[kk].x)
    (e1 : Sl w D x1.a x1.u ∧ Sl w D x1.b x1.v) (e2 : Sl w D x2.a x2.u ∧ Sl w D x2.b x2.v) (et : El w D xt.a xt.u ∧ El w D xt.b xt.v) : KidY w D q (K ++ [x1, x2]) (TK ++ [xt]) (kk + 1) := by
  refine ⟨?_, ?_, ?_, ?_, ?_, ?_⟩
  · intro x hx
    rcases List.mem_append.1 hx with hx | hx
    · exact h.from_ x hx
    · have hx' : x = x1 ∨ x = x2 := by simpa using hx
      rcases hx' with rfl | rfl
      · exact ⟨kk, 0, h1, h2, by simp [labY], by simp [labY], a1.1, a1.2⟩
      · exact ⟨kk, 1, h1, h2, by simp [labY], by simp [labY], a2.1, a2.2⟩
  · intro i hi g1 g2
    by_cases e : i < kk
    · obtain ⟨b1, ⟨x, hx, b2⟩, b3⟩ := h.all i e g1 g2
      exact ⟨b1, ⟨x, List.mem_append_left _ hx, b2⟩, fun j k k' => by
        obtain ⟨y, hy, b4⟩ := b3 j k k'
        exact ⟨y, List.mem_append_left _ hy, b4⟩⟩
    · obtain rfl : i = kk := by omega
      refine ⟨hd, ⟨xt, by simp, at_⟩, fun j k k' => ?_⟩
      have hj : j = 0 ∨ j = 1 := by simp [labY] at k; omega
      rcases hj with rfl | rfl
      · exact ⟨x1, by simp, a1.1, a1.2⟩
      · exact ⟨x2, by simp, a2.1, a2.2⟩
  · intro x hx
    rcases List.mem_append.1 hx with hx | hx
    · exact h.tfrom x hx
    · obtain rfl : x = xt := by simpa using hx
      exact ⟨kk, h1, h2, at_.1, at_.2⟩
  · intro x hx
    rcases List.mem_append.1 hx with hx | hx
    · exact h.el x hx
    · have hx' : x = x1 ∨ x = x2 := by simpa using hx
      rcases hx' with rfl | rfl
      · exact e1
      · exact e2
  · intro x hx
    rcases List.mem_append.1 hx with hx | hx
    · exact h.tel x hx
    · obtain rfl : x = xt := by simpa using hx
      exact et
  · have hs := h.sz
    have hz := q.b[kk].sz_eq
    rw [szy_take _ _ h2, my_append, mx_append]
    simp only [my, mx, a1.2, a2.2, at_.2]
    omega

theorem KidY.done {w : World} {D : Nat → Prop} {q : Prr St} {K : List (Prr St)} {TK : List (Prr Ex)} {kk : Nat} (h : KidY w D q K TK kk) (ha : q.a.length = kk) (hb : q.b.length = kk) {L : Plc → List St} {W0 W : List (Prr St)} {E : List (Plc × Plc)} {TN : List (Prr Ex)}
    (hj : InvJ labY L W0 W q E (Sme TN)) : Inv labY L W0 (W ++ K) E (Sme (TN ++ TK)) := by
  refine hj.kids (ha.trans hb.symm) (fun hs => (Sme.app.1 hs).1) (fun he hs => Sme.app.2 ⟨hs, fun x hx => ?_⟩) (fun hs i g1 g2 => ?_) h.from_ (fun i g1 g2 j k k' => (h.all i (by omega) g1 g2).2.2 j k k')
  · obtain ⟨i, g1, g2, e1, e2⟩ := h.tfrom x hx
    rw [e1, e2]
    congr 1
    simp only [he]
  · obtain ⟨b1, ⟨x, hx, e1, e2⟩, -⟩ := h.all i (by omega) g1 g2
    exact ⟨b1, by rw [← e1, ← e2]; exact (Sme.app.1 hs).2 x hx⟩

/-- The terms left for later, in their box: apart from what waits and from the blocks that stay. -/
def TmY (w : World) (base : Nat) (D Dx : Nat → Prop) (T0 TN : List (Prr Ex)) (tb : Nat) (ob : Option Nat) (wr : World) : Prop :=
  ∃ tv, wr.heap[tb]? = some (.cells #[tv] 52 (0, 0)) ∧ OwnRX wr base tv (T0 ++ TN) ∧ some tb ≠ ob ∧ some tb ≠ tv.ownBlock ∧ (∀ g, ob = some g → tv.ownBlock ≠ some g) ∧
    (∀ b, Dx b → b ≠ tb ∧ some b ≠ tv.ownBlock) ∧ (∀ x ∈ TN, El w D x.a x.u ∧ El w D x.b x.v) ∧ base ≤ tb

theorem TmY.kept {w : World} {base : Nat} {D Dx : Nat → Prop} {T0 TN : List (Prr Ex)} {tb : Nat} {ob : Option Nat} {wr w' : World} (h : TmY w base D Dx T0 TN tb ob wr) (hk : ∀ b, b < wr.heap.size → ¬ Dx b → some b ≠ ob → w'.heap[b]? = wr.heap[b]?) : TmY w base D Dx T0 TN tb ob w' := by
  obtain ⟨tv, h1, h2, h3, h4, h5, h6, h7, h8⟩ := h
  refine ⟨tv, (hk tb (Array.getElem?_eq_some_iff.1 h1).1 (fun hd => (h6 tb hd).1 rfl) h3).trans h1, h2.kept fun k hk2 => hk k (h2.lt hk2).2 (fun hd => (h6 k hd).2 hk2.symm) (fun e => h5 k e.symm hk2), h3, h4, h5, h6, h7, h8⟩
theorem TmY.sub {w : World} {base : Nat} {D Dx Dy : Nat → Prop} {T0 TN : List (Prr Ex)} {tb : Nat} {ob : Option Nat} {wr : World} (h : TmY w base D Dx T0 TN tb ob wr) (hs : ∀ b, Dy b → Dx b) : TmY w base D Dy T0 TN tb ob wr := by
  obtain ⟨tv, h1, h2, h3, h4, h5, h6, h7, h8⟩ := h
  exact ⟨tv, h1, h2, h3, h4, h5, fun b hb => h6 b (hs b hb), h7, h8⟩
/-- A block made later is apart, too. -/
theorem TmY.more {w : World} {base : Nat} {D Dx : Nat → Prop} {T0 TN : List (Prr Ex)} {tb : Nat} {ob : Option Nat} {wr : World} (h : TmY w base D Dx T0 TN tb ob wr) (bx : Nat) (hb : wr.heap.size ≤ bx) : TmY w base D (fun b => Dx b ∨ b = bx) T0 TN tb ob wr := by
  obtain ⟨tv, h1, h2, h3, h4, h5, h6, h7, h8⟩ := h
  have htl := (Array.getElem?_eq_some_iff.1 h1).1
  refine ⟨tv, h1, h2, h3, h4, h5, fun b hd => ?_, h7, h8⟩
  rcases hd with hd | rfl
  · exact h6 b hd
  · exact ⟨by omega, fun e => by have := (h2.lt e.symm).2; omega⟩

/-- Where sameLists stands. -/
def LsY (w : World) (base : Nat) (D : Nat → Prop) (W0 : List (Prr St)) (T0 : List (Prr Ex)) (m tb k : Nat) (v : Value) (wr : World) : Prop :=
  ∃ W E TN, (my W = k ∧ my W + mx TN ≤ my W0) ∧ OwnRY wr base v W ∧ MapP wr D m E ∧ Inv labY (treeY w) W0 W E (Sme TN) ∧ (∀ q ∈ W, Sl w D q.a q.u ∧ Sl w D q.b q.v) ∧ (∀ b, D b → wr.heap[b]? = w.heap[b]? ∧ some b ≠ v.ownBlock) ∧ Below base w wr ∧ base ≤ m ∧ m < wr.heap.size ∧ some m ≠ v.ownBlock ∧
    TmY w base D (fun b => D b ∨ b = m) T0 TN tb v.ownBlock wr
/-- .. and within a list. -/
def InY2 (w : World) (base : Nat) (D : Nat → Prop) (W1 : List (Prr St)) (q : Prr St) (E : List (Plc × Plc)) (T0 TN : List (Prr Ex)) (m tb bx : Nat) (i v : Value) (wr : World) : Prop :=
  ∃ (kk : Nat) (K : List (Prr St)) (TK : List (Prr Ex)), i = .int .i64 kk ∧ kk ≤ q.a.length ∧ KidY w D q K TK kk ∧ OwnRY wr base v (W1 ++ K) ∧ MapP wr D m E ∧ (∀ b, D b → wr.heap[b]? = w.heap[b]? ∧ some b ≠ v.ownBlock) ∧ Below base w wr ∧ base ≤ m ∧ m < wr.heap.size ∧ some m ≠ v.ownBlock ∧
    wr.heap[bx]? = some (.cells #[q.u, q.v] 55 (0, 0)) ∧ some bx ≠ v.ownBlock ∧ base ≤ bx ∧ ¬ D bx ∧ bx ≠ m ∧
    TmY w base D (fun b => (D b ∨ b = m) ∨ b = bx) T0 (TN ++ TK) tb v.ownBlock wr
end Go.Proofs.Ytijpmnenegdmnaa
