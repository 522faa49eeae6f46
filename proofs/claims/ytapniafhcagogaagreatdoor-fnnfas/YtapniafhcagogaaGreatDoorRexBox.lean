/- A box that holds one regular expression. -/
import Derived.Test.YtapniafhcagogaaGreatDoorRexOwn
import Derived.Test.YtapniafhcagogaaGreatDoorCur
namespace Go.Proofs.YtapniafhcagogaaGreatDoor
open Go.RowKit

def Bz3 (w : World) (b : Nat) (x y z : Value) : Prop := w.heap[b]? = some (.cells #[x, y, z] 26 (0, 0))
theorem Bz3.c0 {w : World} {b : Nat} {x y z : Value} (h : Bz3 w b x y z) : w.cell? ⟨b, 0, none⟩ = some x := by rw [cell_of_row w b 0 _ _ (0, 0) h]; rfl
theorem Bz3.c1 {w : World} {b : Nat} {x y z : Value} (h : Bz3 w b x y z) : w.cell? ⟨b, 1, none⟩ = some y := by rw [cell_of_row w b 1 _ _ (0, 0) h]; rfl
theorem Bz3.c2 {w : World} {b : Nat} {x y z : Value} (h : Bz3 w b x y z) : w.cell? ⟨b, 2, none⟩ = some z := by rw [cell_of_row w b 2 _ _ (0, 0) h]; rfl
theorem Bz3.fr {w : World} {b : Nat} {x y z : Value} (h : Bz3 w b x y z) (j : Nat) : w.frozen? ⟨b, j, none⟩ = false := frozen_of_row w b j _ _ h
theorem Bz3.lt {w : World} {b : Nat} {x y z : Value} (h : Bz3 w b x y z) : b < w.heap.size := by unfold Bz3 at h; exact (Array.getElem?_eq_some_iff.1 h).1
theorem Bz3.new (w : World) (x y z : Value) : Bz3 (w.alloc (.cells #[x, y, z] 26)) w.heap.size x y z := heap_alloc_new w _
theorem Bz3.kept {w w' : World} {b : Nat} {x y z : Value} (h : Bz3 w b x y z) (hh : w'.heap[b]? = w.heap[b]?) : Bz3 w' b x y z := by unfold Bz3; rw [hh]; exact h
theorem Bz3.grow {w w' : World} {b : Nat} {x y z : Value} (h : Bz3 w b x y z) (hk : Below w.heap.size w w') : Bz3 w' b x y z := h.kept (hk.block b h.lt)
theorem Bz3.by {w w' : World} {b R : Nat} {x y z : Value} (h : Bz3 w b x y z) (hg : w.grownBy w' (some R)) (hne : b ≠ R) : Bz3 w' b x y z := h.kept (hg.block b h.lt (by simpa using hne))

abbrev sz3 (w : World) (b : Nat) (x y z : Value) : World := ((w.setCell ⟨b, 0, none⟩ x).setCell ⟨b, 1, none⟩ y).setCell ⟨b, 2, none⟩ z
theorem Bz3.put {w : World} {b : Nat} {x y z : Value} (h : Bz3 w b x y z) (x' y' z' : Value) : Bz3 (sz3 w b x' y' z') b x' y' z' := by
  unfold Bz3 at *
  have h1 := heap_setCell_same w b 0 _ _ x' h
  have h2 := heap_setCell_same _ b 1 _ _ y' h1
  have h3 := heap_setCell_same _ b 2 _ _ z' h2
  rw [h3]; rfl
theorem sz3_other (w : World) (b k : Nat) (x y z : Value) (h : k ≠ b) : (sz3 w b x y z).heap[k]? = w.heap[k]? := by
  unfold sz3
  rw [heap_setCell_other _ _ _ _ h, heap_setCell_other _ _ _ _ h, heap_setCell_other _ _ _ _ h]
theorem sz3_size (w : World) (b : Nat) (x y z : Value) : (sz3 w b x y z).heap.size = w.heap.size := by simp [sz3]
theorem gy_sz3 {w w' : World} {R b : Nat} (h : w.grownBy w' (some R)) (hb : w.heap.size ≤ b) (x y z : Value) : w.grownBy (sz3 w' b x y z) (some R) :=
  ⟨h.os, h.tape, h.output, by rw [sz3_size]; exact h.size, fun k hk hne => by rw [sz3_other _ _ _ _ _ _ (by omega)]; exact h.block k hk hne⟩
theorem gy_below {w w' w'' : World} {R : Nat} (h : w.grownBy w' (some R)) (hb : Below w'.heap.size w' w'') : w.grownBy w'' (some R) :=
  ⟨hb.os.trans h.os, hb.tape.trans h.tape, hb.output.trans h.output, Nat.le_trans h.size hb.size, fun k hk hne => (hb.block k (Nat.lt_of_lt_of_le hk h.size)).trans (h.block k hk hne)⟩
theorem gy_alloc (w : World) (R : Nat) (o : Obj) : w.grownBy (w.alloc o) (some R) := World.grownBy_alloc w o _
theorem gy_new {w w' : World} {R : Nat} (h : w.grownBy w' (some R)) (o : Obj) : w.grownBy (w'.alloc o) (some R) := gy_below h ((Below.refl _ _).alloc (Nat.le_refl _) _)
/-- A turn of a block that wasn't there. -/
theorem gy_far {w w' w'' : World} {R g : Nat} (h : w.grownBy w' (some R)) (k : w'.grownBy w'' (some g)) (hg : w.heap.size ≤ g) : w.grownBy w'' (some R) :=
  ⟨k.os.trans h.os, k.tape.trans h.tape, k.output.trans h.output, Nat.le_trans h.size k.size, fun j hj hne => (k.block j (Nat.lt_of_lt_of_le hj h.size) (by rintro e; simp at e; omega)).trans (h.block j hj hne)⟩
theorem Cur.sz3 {w : World} {cb : Nat} {v : Value} {zs : List Int} (h : Cur w cb v zs) {b : Nat} (hb : b ≠ cb) (hv : zs ≠ [] → ∀ k, v.ownBlock = some k → k ≠ b) (x y z : Value) : Cur (sz3 w b x y z) cb v zs := by
  obtain ⟨hbs, hlen, hne, i, q, h0, h1, hc⟩ := h
  refine ⟨hbs.other' (row := some b) ⟨rfl, rfl, rfl, by rw [sz3_size]; exact Nat.le_refl _, fun k _ hk => sz3_other _ _ _ _ _ _ (by rintro rfl; exact hk rfl)⟩ (fun hz k hk e => hv hz k hk (by simpa using e)), hlen, hne, i, q, h0, h1, ?_⟩
  rw [sz3_other _ _ _ _ _ _ (Ne.symm hb)]; exact hc
theorem Ow.by {w w' : World} {R : Nat} {B : Nat → Prop} {l : List Tr} {v : Value} (h : Ow w B l v) (hg : w.grownBy w' (some R)) (hne : ¬ B R) : Ow w' B l v := h.kept fun b hb hlt => hg.block b hlt (by rintro e; simp at e; subst e; exact hne hb)
theorem Ow.sz3 {w : World} {B : Nat → Prop} {l : List Tr} {v : Value} (h : Ow w B l v) {b : Nat} (hne : ¬ B b) (x y z : Value) : Ow (sz3 w b x y z) B l v := h.kept fun k hk _ => sz3_other _ _ _ _ _ _ (by rintro rfl; exact hne hk)
theorem Cur.row {w w' : World} {cb : Nat} {v : Value} {zs : List Int} {row : Option Nat} (h : Cur w cb v zs) (hg : w.grownBy w' row) (hr : ∀ g, row = some g → g ≠ cb ∧ (zs ≠ [] → ∀ k, v.ownBlock = some k → k ≠ g)) : Cur w' cb v zs := by
  have hlt := h.lt
  obtain ⟨hbs, hlen, hne, i, q, h0, h1, hc⟩ := h
  refine ⟨hbs.other' hg (fun hz k hk e => (hr k e.symm).2 hz k hk rfl), hlen, hne, i, q, h0, h1, ?_⟩
  rw [hg.block cb hlt (fun e => (hr cb e.symm).1 rfl)]; exact hc
theorem gb_set (w : World) (b o : Nat) (u : Value) : w.grownBy (w.setCell ⟨b, o, none⟩ u) (some b) := grownBy_setCell w b o u
theorem Bz3.put0 {w : World} {b : Nat} {x y z : Value} (h : Bz3 w b x y z) (x' : Value) : Bz3 (w.setCell ⟨b, 0, none⟩ x') b x' y z := by
  unfold Bz3 at *
  rw [heap_setCell_same w b 0 _ _ x' h]; rfl
theorem Bz3.put1 {w : World} {b : Nat} {x y z : Value} (h : Bz3 w b x y z) (y' : Value) : Bz3 (w.setCell ⟨b, 1, none⟩ y') b x y' z := by
  unfold Bz3 at *
  rw [heap_setCell_same w b 1 _ _ y' h]; rfl
theorem Bz3.put2 {w : World} {b : Nat} {x y z : Value} (h : Bz3 w b x y z) (z' : Value) : Bz3 (w.setCell ⟨b, 2, none⟩ z') b x y z' := by
  unfold Bz3 at *
  rw [heap_setCell_same w b 2 _ _ z' h]; rfl
theorem Bz3.row {w w' : World} {b : Nat} {x y z : Value} {row : Option Nat} (h : Bz3 w b x y z) (hg : w.grownBy w' row) (hr : ∀ g, row = some g → g ≠ b) : Bz3 w' b x y z := h.kept (hg.block b h.lt (fun e => hr b e.symm rfl))
theorem gy_row {w w' w'' : World} {R : Nat} {row : Option Nat} (h : w.grownBy w' (some R)) (k : w'.grownBy w'' row) (hr : ∀ g, row = some g → w.heap.size ≤ g) : w.grownBy w'' (some R) :=
  ⟨k.os.trans h.os, k.tape.trans h.tape, k.output.trans h.output, Nat.le_trans h.size k.size, fun j hj hne => (k.block j (Nat.lt_of_lt_of_le hj h.size) (fun e => by have := hr j e.symm; omega)).trans (h.block j hj hne)⟩
end Go.Proofs.YtapniafhcagogaaGreatDoor
