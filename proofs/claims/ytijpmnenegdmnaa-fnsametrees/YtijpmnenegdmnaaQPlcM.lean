/- Places as the model has them: what a map of places holds; nothing on the element's type. -/
import Derived.Test.YtijpmnenegdmnaaQUfMath
import Derived.Maps.OwnOps
import Derived.Maps.AppendAt
import Derived.LaidEql
import Derived.Laws.StructEq
import Derived.Carry
import Derived.ChangeMaps5
namespace Go.Proofs.Ytijpmnenegdmnaa
open Go.RowKit Go.MapKept Go.ChangeMaps
set_option maxRecDepth 8000

def plV (p : Plc) : Value := .agg #[.pointer (some p.a), .int .i64 p.n]
theorem plc_ext {p q : Plc} (ha : p.a = q.a) (hn : p.n = q.n) : p = q := by cases p; cases q; simp at ha hn; rw [ha, hn]
def plZ : Value := .agg #[.pointer none, .int .i64 0]

/-- These blocks are cells, none of them frozen. -/
def DkS (w : World) (D : Nat → Prop) : Prop := ∀ b, D b → (∃ c e f, w.heap[b]? = some (.cells c e f)) ∧ ∀ o, w.frozen? ⟨b, o, none⟩ = false
theorem DkS.lt {w : World} {D : Nat → Prop} (h : DkS w D) {b : Nat} (hb : D b) : b < w.heap.size := by
  obtain ⟨⟨c, e, f, hc⟩, -⟩ := h b hb
  exact (Array.getElem?_eq_some_iff.1 hc).1
theorem DkS.kept {w w' : World} {D : Nat → Prop} (h : DkS w D) (hk : ∀ b, D b → w'.heap[b]? = w.heap[b]?) : DkS w' D := by
  intro b hb
  obtain ⟨⟨c, e, f, hc⟩, hf⟩ := h b hb
  have hq := hk b hb
  exact ⟨⟨c, e, f, hq.trans hc⟩, fun o => by rw [World.frozen?_of_block (w := w) (a := ⟨b, o, none⟩) hq]; exact hf o⟩
theorem run_sameAddr_far {P : Program} (w : World) {a b : Addr} {D : Nat → Prop} (hD : DkS w D) (hne : a ≠ b) (ha : D a.block) (hb : D b.block) : (sameAddr a b).run P w = .ok false w := by
  obtain ⟨⟨ca, ea, fa, h1⟩, f1⟩ := hD _ ha
  obtain ⟨⟨cb, eb, fb, h2⟩, f2⟩ := hD _ hb
  have g1 : ∀ (o : Nat) (s : Option Nat), w.frozen? ⟨a.block, o, s⟩ = false := fun o _ => f1 o
  have g2 : ∀ (o : Nat) (s : Option Nat), w.frozen? ⟨b.block, o, s⟩ = false := fun o _ => f2 o
  have g1' : w.frozen? a = false := g1 a.off a.spot
  have g2' : w.frozen? b = false := g2 b.off b.spot
  by_cases hbl : a.block = b.block
  · simp [sameAddr, hbl, hne]
  · simp [sameAddr, hbl, g1', g2', h1, h2, noView, viewAt, World.shape?, mayBeOne, stringish, g1, g2]

theorem len_two {α : Type} {L : List α} (h : L.length = 2) : ∃ a b, L = [a, b] :=
  match L, h with
  | [a, b], _ => ⟨a, b, rfl⟩

theorem sameBits_plV (d : Nat) (p : Plc) : Instr.sameBits (d + 2) (plV p) (plV p) = true := by
  unfold plV
  simp [Instr.sameBits]

/-- The entries of a map, as places. -/
def Ent : List MapEntry → List (Plc × Plc) → Prop
  | [], [] => True
  | e :: es, x :: E => e.key = plV x.1 ∧ e.val = plV x.2 ∧ Ent es E
  | _, _ => False
/-- Where the entry of p stands, and what it holds. -/
def ixP : List (Plc × Plc) → Plc → Nat → Option (Nat × Value)
  | [], _, _ => none
  | x :: E, p, i => if x.1 = p then some (i, plV x.2) else ixP E p (i + 1)

theorem ixP_none {E : List (Plc × Plc)} {p : Plc} {i : Nat} (h : lk E p = none) : ixP E p i = none := by
  induction E generalizing i with
  | nil => rfl
  | cons x E ih =>
    unfold lk at h
    unfold ixP
    split at h
    · cases h
    · rename_i hx
      rw [if_neg hx]
      exact ih h
theorem ixP_some {E : List (Plc × Plc)} {p q : Plc} {i : Nat} (h : lk E p = some q) : ∃ j, ixP E p i = some (i + j, plV q) ∧ ∃ x, E[j]? = some x ∧ x.1 = p := by
  induction E generalizing i with
  | nil => simp [lk] at h
  | cons x E ih =>
    unfold lk at h
    unfold ixP
    split at h
    · rename_i hx
      obtain rfl : x.2 = q := by simpa using h
      exact ⟨0, by rw [if_pos hx]; rfl, x, by simp, hx⟩
    · rename_i hx
      obtain ⟨j, h1, y, h2, h3⟩ := ih (i := i + 1) h
      exact ⟨j + 1, by rw [if_neg hx, h1, Nat.add_assoc, Nat.add_comm 1 j], y, by simpa using h2, h3⟩

/-- Block m is a map of places, all in these blocks. -/
def MapP (w : World) (D : Nat → Prop) (m : Nat) (E : List (Plc × Plc)) : Prop :=
  ∃ es clock, w.heap[m]? = some (.map es clock) ∧ Ent es.toList E ∧ ∀ x ∈ E, D x.1.a.block ∧ D x.2.a.block
theorem MapP.lt {w : World} {D : Nat → Prop} {m : Nat} {E : List (Plc × Plc)} (h : MapP w D m E) : m < w.heap.size := by
  obtain ⟨es, clock, hb, -⟩ := h
  exact (Array.getElem?_eq_some_iff.1 hb).1
theorem MapP.kept {w w' : World} {D : Nat → Prop} {m : Nat} {E : List (Plc × Plc)} (h : MapP w D m E) (hk : w'.heap[m]? = w.heap[m]?) : MapP w' D m E := by
  obtain ⟨es, clock, hb, h2⟩ := h
  exact ⟨es, clock, hk.trans hb, h2⟩
theorem MapP.not {w : World} {D : Nat → Prop} {m : Nat} {E : List (Plc × Plc)} (h : MapP w D m E) (hD : DkS w D) {b : Nat} (hb : D b) : b ≠ m := by
  rintro rfl
  obtain ⟨es, clock, h1, -⟩ := h
  obtain ⟨⟨c, e, f, h2⟩, -⟩ := hD _ hb
  rw [h1] at h2
  cases h2
theorem MapP.made (w : World) (D : Nat → Prop) : MapP (w.alloc (.map #[] 0)) D w.heap.size [] :=
  ⟨#[], 0, (MapKept.heap_alloc w _).1, by simp [Ent], by simp⟩

theorem ent_push {es : List MapEntry} {E : List (Plc × Plc)} (h : Ent es E) {p q : Plc} (hp : lk E p = none) (b : Nat) : Ent (es ++ [⟨plV p, plV q, b⟩]) (putP E p q) := by
  induction es generalizing E with
  | nil => cases E with
    | nil => exact ⟨rfl, rfl, trivial⟩
    | cons => exact absurd h (by simp [Ent])
  | cons e es ih => cases E with
    | nil => exact absurd h (by simp [Ent])
    | cons x E =>
      unfold lk at hp
      split at hp
      · cases hp
      · rename_i hx
        unfold putP
        rw [if_neg hx]
        exact ⟨h.1, h.2.1, ih h.2.2 hp⟩
theorem ent_modify {es : List MapEntry} {E : List (Plc × Plc)} (h : Ent es E) {p q : Plc} {i j : Nat} {v : Value} (hj : ixP E p i = some (i + j, v)) :
    Ent (es.modify j fun e => { e with key := plV p, val := plV q }) (putP E p q) := by
  induction es generalizing E i j with
  | nil => cases E with
    | nil => simp [ixP] at hj
    | cons => exact absurd h (by simp [Ent])
  | cons e es ih => cases E with
    | nil => exact absurd h (by simp [Ent])
    | cons x E =>
      unfold ixP at hj
      unfold putP
      split at hj
      · rename_i hx
        obtain rfl : j = 0 := by simp at hj; omega
        rw [if_pos hx]
        exact ⟨rfl, rfl, h.2.2⟩
      · rename_i hx
        rw [if_neg hx]
        cases j with
        | zero =>
          exfalso
          have : ∀ (E : List (Plc × Plc)) (i k : Nat) (v : Value), ixP E p i = some (k, v) → i ≤ k := by
            intro E
            induction E with
            | nil => intro i k v h; simp [ixP] at h
            | cons y E ihE =>
              intro i k v h
              unfold ixP at h
              split at h
              · simp at h; omega
              · have := ihE _ _ _ h; omega
          have := this _ _ _ _ hj
          omega
        | succ j => exact ⟨h.1, h.2.1, ih h.2.2 (i := i + 1) (j := j) (by rw [hj]; congr 2; omega)⟩
end Go.Proofs.Ytijpmnenegdmnaa
