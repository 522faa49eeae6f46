/- A box with one drawn statement; a row with one drawn term, which is stored over. -/
import Derived.Test.YtijpmnenegdmnaaQStListD
namespace Go.Proofs.Ytijpmnenegdmnaa
open Go.RowKit
set_option maxRecDepth 8000

/-- A box with one statement. -/
def Bz6 (w : World) (b : Nat) (x y z u p q : Value) : Prop := w.heap[b]? = some (.cells #[x, y, z, u, p, q] 31 (0, 0))
theorem Bz6.c0 {w : World} {b : Nat} {x y z u p q : Value} (h : Bz6 w b x y z u p q) : w.cell? ⟨b, 0, none⟩ = some x := by rw [cell_of_row w b 0 _ _ (0, 0) h]; rfl
theorem Bz6.c1 {w : World} {b : Nat} {x y z u p q : Value} (h : Bz6 w b x y z u p q) : w.cell? ⟨b, 1, none⟩ = some y := by rw [cell_of_row w b 1 _ _ (0, 0) h]; rfl
theorem Bz6.c2 {w : World} {b : Nat} {x y z u p q : Value} (h : Bz6 w b x y z u p q) : w.cell? ⟨b, 2, none⟩ = some z := by rw [cell_of_row w b 2 _ _ (0, 0) h]; rfl
theorem Bz6.c3 {w : World} {b : Nat} {x y z u p q : Value} (h : Bz6 w b x y z u p q) : w.cell? ⟨b, 3, none⟩ = some u := by rw [cell_of_row w b 3 _ _ (0, 0) h]; rfl
theorem Bz6.c4 {w : World} {b : Nat} {x y z u p q : Value} (h : Bz6 w b x y z u p q) : w.cell? ⟨b, 4, none⟩ = some p := by rw [cell_of_row w b 4 _ _ (0, 0) h]; rfl
theorem Bz6.c5 {w : World} {b : Nat} {x y z u p q : Value} (h : Bz6 w b x y z u p q) : w.cell? ⟨b, 5, none⟩ = some q := by rw [cell_of_row w b 5 _ _ (0, 0) h]; rfl
theorem Bz6.fr {w : World} {b : Nat} {x y z u p q : Value} (h : Bz6 w b x y z u p q) (j : Nat) : w.frozen? ⟨b, j, none⟩ = false := frozen_of_row w b j _ _ h
theorem Bz6.lt {w : World} {b : Nat} {x y z u p q : Value} (h : Bz6 w b x y z u p q) : b < w.heap.size := by unfold Bz6 at h; exact (Array.getElem?_eq_some_iff.1 h).1
theorem Bz6.new (w : World) (x y z u p q : Value) : Bz6 (w.alloc (.cells #[x, y, z, u, p, q] 31)) w.heap.size x y z u p q := heap_alloc_new w _
theorem Bz6.kept {w w' : World} {b : Nat} {x y z u p q : Value} (h : Bz6 w b x y z u p q) (hh : w'.heap[b]? = w.heap[b]?) : Bz6 w' b x y z u p q := by unfold Bz6; rw [hh]; exact h
theorem Bz6.grow {w w' : World} {b : Nat} {x y z u p q : Value} (h : Bz6 w b x y z u p q) (hk : Below w.heap.size w w') : Bz6 w' b x y z u p q := h.kept (hk.block b h.lt)
theorem Bz6.row {w w' : World} {b : Nat} {x y z u p q : Value} {row : Option Nat} (h : Bz6 w b x y z u p q) (hg : w.grownBy w' row) (hr : ∀ g, row = some g → g ≠ b) : Bz6 w' b x y z u p q := h.kept (hg.block b h.lt (fun e => hr b e.symm rfl))
theorem Bz6.put1 {w : World} {b : Nat} {x y z u p q : Value} (h : Bz6 w b x y z u p q) (y' : Value) : Bz6 (w.setCell ⟨b, 1, none⟩ y') b x y' z u p q := by
  unfold Bz6 at *
  rw [heap_setCell_same w b 1 _ _ y' h]; rfl
theorem Bz6.put2 {w : World} {b : Nat} {x y z u p q : Value} (h : Bz6 w b x y z u p q) (z' : Value) : Bz6 (w.setCell ⟨b, 2, none⟩ z') b x y z' u p q := by
  unfold Bz6 at *
  rw [heap_setCell_same w b 2 _ _ z' h]; rfl
theorem Bz6.put3 {w : World} {b : Nat} {x y z u p q : Value} (h : Bz6 w b x y z u p q) (u' : Value) : Bz6 (w.setCell ⟨b, 3, none⟩ u') b x y z u' p q := by
  unfold Bz6 at *
  rw [heap_setCell_same w b 3 _ _ u' h]; rfl
theorem Bz6.put4 {w : World} {b : Nat} {x y z u p q : Value} (h : Bz6 w b x y z u p q) (p' : Value) : Bz6 (w.setCell ⟨b, 4, none⟩ p') b x y z u p' q := by
  unfold Bz6 at *
  rw [heap_setCell_same w b 4 _ _ p' h]; rfl
theorem Bz6.put5 {w : World} {b : Nat} {x y z u p q : Value} (h : Bz6 w b x y z u p q) (q' : Value) : Bz6 (w.setCell ⟨b, 5, none⟩ q') b x y z u p q' := by
  unfold Bz6 at *
  rw [heap_setCell_same w b 5 _ _ q' h]; rfl

/-- Six cells of a box are stored. -/
abbrev box6 (w : World) (b : Nat) (x y z u p q : Value) : World := (((((w.setCell ⟨b, 0, none⟩ x).setCell ⟨b, 1, none⟩ y).setCell ⟨b, 2, none⟩ z).setCell ⟨b, 3, none⟩ u).setCell ⟨b, 4, none⟩ p).setCell ⟨b, 5, none⟩ q
theorem box6_by (w : World) (b : Nat) (x y z u p q : Value) : w.grownBy (box6 w b x y z u p q) (some b) :=
  grownBy_trans (grownBy_trans (grownBy_trans (grownBy_trans (grownBy_trans (gb_set w b 0 x) (gb_set _ b 1 y)) (gb_set _ b 2 z)) (gb_set _ b 3 u)) (gb_set _ b 4 p)) (gb_set _ b 5 q)
theorem Cur.box6 {w : World} {cb : Nat} {v : Value} {zs : List Int} (h : Cur w cb v zs) {b : Nat} (hb : b ≠ cb) (hv : zs ≠ [] → ∀ k, v.ownBlock = some k → k ≠ b) (x y z u p q : Value) : Cur (box6 w b x y z u p q) cb v zs :=
  h.row (box6_by w b x y z u p q) (fun g e => by cases e; exact ⟨hb, hv⟩)

theorem OwnX.weak {m m' : Nat} {w : World} {base : Nat} {v : Value} {L : List Xv} (h : OwnX m w base v L) (hm : m ≤ m') : OwnX m' w base v L := ⟨h.1, fun q hq => ⟨(h.2 q hq).1, (h.2 q hq).2.mono hm⟩⟩

/-- A row of one term: the term is stored over. -/
theorem ownX_over {m m' : Nat} {w : World} {base g cap : Nat} {q : Xv} (h : OwnX m w base (.slice (some ⟨g, 0, none⟩) 1 cap) [q]) (t : Ex) (u : Value) (hu : El w (fun b => nf w base b ∧ b ≠ g) t.l u) (hd : DxS m' t) :
    OwnX m' (set4 w g (.int .i64 t.k) (.int .i64 t.n) (.string t.s) u) base (.slice (some ⟨g, 0, none⟩) 1 cap) [(t, u)] := by
  have h0 := (World.ownsRow.stored h.1 0 (.int .i64 t.k)).1
  have h1 := (World.ownsRow.stored h0 1 (.int .i64 t.n)).1
  have h2 := (World.ownsRow.stored h1 2 (.string t.s)).1
  have h3 := (World.ownsRow.stored h2 3 u).1
  refine ⟨h3, fun r hr => ?_⟩
  obtain rfl : r = (t, u) := by simpa using hr
  refine ⟨?_, hd⟩
  refine El.nfOwn (ob := some g) (hu.imp fun b hb _ => ⟨hb.1, by simpa using hb.2⟩) fun b _ hn hlt => ⟨(set4_by w g _ _ _ _).block b hlt (by simpa using hn), by simpa [Value.ownBlock] using hn⟩
/-- The only term of a row, and where it lies. -/
theorem ownX_one {m : Nat} {w : World} {base : Nat} {v : Value} {q : Xv} (h : OwnX m w base v [q]) : ∃ g cap, v = .slice (some ⟨g, 0, none⟩) 1 cap ∧ base ≤ g ∧ g < w.heap.size ∧ w.cell? ⟨g, 0, none⟩ = some (.int .i64 q.1.k) ∧ w.cell? ⟨g, 1, none⟩ = some (.int .i64 q.1.n) ∧ w.cell? ⟨g, 2, none⟩ = some (.string q.1.s) ∧ w.cell? ⟨g, 3, none⟩ = some q.2 ∧ (∀ j, w.frozen? ⟨g, j, none⟩ = false) ∧ El w (fun b => nf w base b ∧ b ≠ g) q.1.l q.2 ∧ DxS m q.1 := by
  rcases id h.1.2 with ⟨-, h0⟩ | ⟨g, cap, cur, rfl, hb, hg, hc, hm, -⟩
  · simp at h0
  · have hcell := h.1.cells (g := g) rfl
    have r0 := hcell 0 _ rfl
    have r1 := hcell 1 _ rfl
    have r2 := hcell 2 _ rfl
    have r3 := hcell 3 _ rfl
    simp only [Addr.add_lit, Nat.zero_add] at r0 r1 r2 r3
    have hq := h.2 q (by simp)
    exact ⟨g, cap, rfl, hb, (Array.getElem?_eq_some_iff.1 hg).1, r0, r1, r2, r3, fun j => frozen_of_row w g j _ _ hg, hq.1.imp fun b hb _ => ⟨hb.1, by simpa [Value.ownBlock] using hb.2⟩, hq.2⟩
/-- The same, where it is known where the row lies. -/
theorem ownX_oneG {m : Nat} {w : World} {base g cap : Nat} {q : Xv} (h : OwnX m w base (.slice (some ⟨g, 0, none⟩) 1 cap) [q]) : base ≤ g ∧ w.cell? ⟨g, 0, none⟩ = some (.int .i64 q.1.k) ∧ w.cell? ⟨g, 1, none⟩ = some (.int .i64 q.1.n) ∧ w.cell? ⟨g, 2, none⟩ = some (.string q.1.s) ∧ w.cell? ⟨g, 3, none⟩ = some q.2 ∧ (∀ j, w.frozen? ⟨g, j, none⟩ = false) ∧ El w (fun b => nf w base b ∧ b ≠ g) q.1.l q.2 ∧ DxS m q.1 := by
  obtain ⟨g1, cap1, e1, h1, -, r⟩ := ownX_one h
  cases e1
  exact ⟨h1, r⟩
/-- A slice of one term, in a block of its own. -/
theorem elOne {w : World} {base g lb : Nat} {t : Ex} {u : Value} (hc : w.heap[lb]? = some (.cells #[.int .i64 t.k, .int .i64 t.n, .string t.s, u] 26 (0, 0))) (hb : base ≤ lb) (hg : lb ≠ g) (hs : t.s.size ≤ 100) (hu : El w (fun b => nf w base b ∧ b ≠ g) t.l u) :
    El w (fun b => nf w base b ∧ b ≠ g) [t] (.slice (some ⟨lb, 0, none⟩) 1 1) := by
  refine El.full (w := w) (B := fun b => nf w base b ∧ b ≠ g) [t] lb 0 1 (fun _ => u) ⟨⟨hb, fun o => frozen_of_row w lb o _ _ hc⟩, hg⟩ (by simp) (by simp) (by unfold maxLen; omega) ?_ ?_ ?_
  · intro i h
    obtain rfl : i = 0 := by simpa using h
    simp only [List.getElem_cons_zero]
    unfold maxLen; omega
  · intro i h
    obtain rfl : i = 0 := by simpa using h
    have r0 := cell_of_row w lb 0 _ _ (0, 0) hc
    have r1 := cell_of_row w lb 1 _ _ (0, 0) hc
    have r2 := cell_of_row w lb 2 _ _ (0, 0) hc
    have r3 := cell_of_row w lb 3 _ _ (0, 0) hc
    exact ⟨r0, r1, r2, r3⟩
  · intro i h
    obtain rfl : i = 0 := by simpa using h
    exact hu
end Go.Proofs.Ytijpmnenegdmnaa
