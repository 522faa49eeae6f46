/- Nodes in memory: read, copied, the same. -/
import Derived.Test.YtapniafhcagogaaGreatDoorLeaf
import Derived.Test.YtapniafhcagogaaGreatDoorQuietS
import Derived.Test.YtapniafhcagogaaGreatDoorTake
import Derived.Deep.Slices
import Derived.Deep.Strs
namespace Go.Proofs.YtapniafhcagogaaGreatDoor
open Go.RowKit
set_option maxRecDepth 8000

structure Nd where
  k : Int
  s : ByteArray
  a : Int
  b : Int

instance : Inhabited Nd := ⟨⟨0, ⟨#[]⟩, 0, 0⟩⟩

/-- A node as the program has it. -/
abbrev ndV (x : Nd) : Value := .agg #[.int .i64 x.k, .string x.s, .int .i64 x.a, .int .i64 x.b]

/-- The four cells of one. -/
def At4 (w : World) (b o : Nat) (x : Nd) : Prop :=
  w.cell? ⟨b, o, none⟩ = some (.int .i64 x.k) ∧ w.cell? ⟨b, o + 1, none⟩ = some (.string x.s) ∧ w.cell? ⟨b, o + 2, none⟩ = some (.int .i64 x.a) ∧ w.cell? ⟨b, o + 3, none⟩ = some (.int .i64 x.b)
theorem At4.kept {w w' : World} {b o : Nat} {x : Nd} (h : At4 w b o x) (hh : w'.heap[b]? = w.heap[b]?) : At4 w' b o x := by
  obtain ⟨h0, h1, h2, h3⟩ := h
  exact ⟨by rw [World.cell?_of_block (w := w) hh]; exact h0, by rw [World.cell?_of_block (w := w) hh]; exact h1, by rw [World.cell?_of_block (w := w) hh]; exact h2, by rw [World.cell?_of_block (w := w) hh]; exact h3⟩

/-- A slice that reads these nodes, in a block of B. -/
def Nl (w : World) (B : Nat → Prop) (N : List Nd) (v : Value) : Prop := ∃ ao cap, v = .slice ao N.length cap ∧ N.length ≤ cap ∧ cap ≤ maxLen ∧ (ao = none → cap = 0) ∧ (∀ x ∈ N, x.s.size ≤ maxLen) ∧
  (N ≠ [] → ∃ b off, ao = some ⟨b, off, none⟩ ∧ B b ∧ ∀ i (h : i < N.length), At4 w b (off + i * 4) N[i])
theorem Nl.kept {w w' : World} {B : Nat → Prop} {N : List Nd} {v : Value} (h : Nl w B N v) (hk : ∀ b, B b → b < w.heap.size → w'.heap[b]? = w.heap[b]?) : Nl w' B N v := by
  obtain ⟨ao, cap, h1, h2, h3, h4, h5, h6⟩ := h
  refine ⟨ao, cap, h1, h2, h3, h4, h5, fun hn => ?_⟩
  obtain ⟨b, off, h7, h8, h9⟩ := h6 hn
  have h0 : 0 < N.length := List.length_pos_iff.2 hn
  exact ⟨b, off, h7, h8, fun i hi => (h9 i hi).kept (hk b h8 (World.block_lt_of_cell? w _ (h9 0 h0).1))⟩
theorem Nl.grow {w w' : World} {B : Nat → Prop} {N : List Nd} {v : Value} (h : Nl w B N v) (hb : Below w.heap.size w w') : Nl w' B N v := h.kept fun b _ hlt => hb.block b hlt
theorem Nl.imp {w : World} {B C : Nat → Prop} {N : List Nd} {v : Value} (h : Nl w B N v) (hk : ∀ b, B b → b < w.heap.size → C b) : Nl w C N v := by
  obtain ⟨ao, cap, h1, h2, h3, h4, h5, h6⟩ := h
  refine ⟨ao, cap, h1, h2, h3, h4, h5, fun hn => ?_⟩
  obtain ⟨b, off, h7, h8, h9⟩ := h6 hn
  have h0 : 0 < N.length := List.length_pos_iff.2 hn
  exact ⟨b, off, h7, hk b h8 (World.block_lt_of_cell? w _ (h9 0 h0).1), h9⟩

/-- How many letters and nodes. -/
def szN (N : List Nd) : Nat := (N.map fun x => x.s.size).sum

end Go.Proofs.YtapniafhcagogaaGreatDoor
