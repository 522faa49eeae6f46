/- The nodes of an expression; paths through nodes: plain mathematics. -/
import Derived.Test.YtapniafhcagogaaGreatDoorMatFold
import Derived.Test.YtapniafhcagogaaGreatDoorNodeLeaf
import Derived.Test.YtapniafhcagogaaGreatDoorNfaLen
namespace Go.Proofs.YtapniafhcagogaaGreatDoor

/-- Does a node take a byte? -/
def tkN (x : Nd) (c : Int) : Bool := tkI x.k x.s c
/-- On without a byte, at a place that is the beginning (z), the end (e). -/
def Ep (N : List Nd) (z e : Prop) (p q : Nat) : Prop := ∃ x, N[p]? = some x ∧ ((x.k = 4 ∧ (x.a = q ∨ x.b = q)) ∨ (x.k = 5 ∧ z ∧ x.a = q) ∨ (x.k = 6 ∧ e ∧ x.a = q))
/-- One step at a text: the place and the node. -/
def St (N : List Nd) (s : ByteArray) (i p j q : Nat) : Prop := (j = i ∧ Ep N (i = 0) (i = s.size) p q) ∨ (j = i + 1 ∧ i < s.size ∧ ∃ x, N[p]? = some x ∧ tkN x (ba s i) = true ∧ x.a = q)
/-- A path at a text. -/
inductive Pa (N : List Nd) (s : ByteArray) : Nat → Nat → Nat → Nat → Prop
  | refl (i p : Nat) : Pa N s i p i p
  | step {i p j q j' q' : Nat} (h : St N s i p j q) (r : Pa N s j q j' q') : Pa N s i p j' q'

theorem Pa.trans {N : List Nd} {s : ByteArray} {i p j q k r : Nat} (h : Pa N s i p j q) (h' : Pa N s j q k r) : Pa N s i p k r := by
  induction h with
  | refl => exact h'
  | step hs _ ih => exact .step hs (ih h')
theorem Pa.one {N : List Nd} {s : ByteArray} {i p j q : Nat} (h : St N s i p j q) : Pa N s i p j q := .step h (.refl _ _)

/-- The nodes L stand in N from p on. -/
def StandAt (N : List Nd) (p : Nat) (L : List Nd) : Prop := ∀ d, d < L.length → N[p + d]? = L[d]?
theorem StandAt.left {N : List Nd} {p : Nat} {L M : List Nd} (h : StandAt N p (L ++ M)) : StandAt N p L := fun d hd => by
  rw [h d (by rw [List.length_append]; omega), List.getElem?_append_left hd]
theorem StandAt.right {N : List Nd} {p : Nat} {L M : List Nd} (h : StandAt N p (L ++ M)) : StandAt N (p + L.length) M := fun d hd => by
  have := h (L.length + d) (by rw [List.length_append]; omega)
  rw [List.getElem?_append_right (by omega), Nat.add_sub_cancel_left] at this
  rw [← this, Nat.add_assoc]
theorem StandAt.head {N : List Nd} {p : Nat} {x : Nd} {M : List Nd} (h : StandAt N p (x :: M)) : N[p]? = some x := by
  have := h 0 (by simp)
  simpa using this
theorem StandAt.tail {N : List Nd} {p : Nat} {x : Nd} {M : List Nd} (h : StandAt N p (x :: M)) : StandAt N (p + 1) M := StandAt.right (L := [x]) h
end Go.Proofs.YtapniafhcagogaaGreatDoor
