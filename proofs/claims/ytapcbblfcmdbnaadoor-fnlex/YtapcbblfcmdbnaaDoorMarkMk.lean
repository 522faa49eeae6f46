/- What marks leave: all but one block is as it was. -/
import Derived.Test.YtapcbblfcmdbnaaDoorBytes
namespace Go.Proofs.YtapcbblfcmdbnaaDoor
open Go.RowKit
set_option maxRecDepth 8000

/-- What marks leave: all but the block g is as it was. -/
structure Mkd (g : Nat) (w w' : World) : Prop where
  os : w'.os = w.os
  tape : w'.tape = w.tape
  output : w'.output = w.output
  size : w.heap.size ≤ w'.heap.size
  block : ∀ b, b < w.heap.size → b ≠ g → w'.heap[b]? = w.heap[b]?
theorem Mkd.refl (g : Nat) (w : World) : Mkd g w w := ⟨rfl, rfl, rfl, Nat.le_refl _, fun _ _ _ => rfl⟩
theorem Mkd.trans {g : Nat} {a b c : World} (h : Mkd g a b) (k : Mkd g b c) : Mkd g a c :=
  ⟨k.os.trans h.os, k.tape.trans h.tape, k.output.trans h.output, Nat.le_trans h.size k.size, fun x hx hn => (k.block x (Nat.lt_of_lt_of_le hx h.size) hn).trans (h.block x hx hn)⟩
theorem Mkd.below {g : Nat} {a b : World} (h : Below a.heap.size a b) : Mkd g a b := ⟨h.os, h.tape, h.output, h.size, fun x hx _ => h.block x hx⟩
theorem Mkd.set {g o : Nat} {a b : World} (h : Mkd g a b) (v : Value) : Mkd g a (b.setCell ⟨g, o, none⟩ v) := by
  have q : Below g b (b.setCell ⟨g, o, none⟩ v) := (Below.refl g b).setCell (p := ⟨g, o, none⟩) (Nat.le_refl g) v
  exact ⟨q.os.trans h.os, q.tape.trans h.tape, q.output.trans h.output, Nat.le_trans h.size q.size, fun x hx hn => by rw [heap_setCell_other _ ⟨g, o, none⟩ x _ hn]; exact h.block x hx hn⟩
theorem Mkd.low {g n : Nat} {a b : World} (h : Mkd g a b) (hn : n ≤ g) (hs : n ≤ a.heap.size) : Below n a b := ⟨h.os, h.tape, h.output, h.size, fun x hx => h.block x (by omega) (by omega)⟩
end Go.Proofs.YtapcbblfcmdbnaaDoor
