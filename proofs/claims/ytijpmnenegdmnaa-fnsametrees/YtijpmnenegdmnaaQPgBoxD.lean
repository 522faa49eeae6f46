/- Boxes with a program, with a rule; functions that were drawn. -/
import Derived.Test.YtijpmnenegdmnaaQPgRowD
namespace Go.Proofs.Ytijpmnenegdmnaa
open Go.RowKit
set_option maxRecDepth 8000

/-- A box with one program. -/
def BzP (w : World) (b : Nat) (x y : Value) : Prop := w.heap[b]? = some (.cells #[x, y] 37 (0, 0))
theorem BzP.c0 {w : World} {b : Nat} {x y : Value} (h : BzP w b x y) : w.cell? ⟨b, 0, none⟩ = some x := by rw [cell_of_row w b 0 _ _ (0, 0) h]; rfl
theorem BzP.c1 {w : World} {b : Nat} {x y : Value} (h : BzP w b x y) : w.cell? ⟨b, 1, none⟩ = some y := by rw [cell_of_row w b 1 _ _ (0, 0) h]; rfl
theorem BzP.fr {w : World} {b : Nat} {x y : Value} (h : BzP w b x y) (j : Nat) : w.frozen? ⟨b, j, none⟩ = false := frozen_of_row w b j _ _ h
theorem BzP.lt {w : World} {b : Nat} {x y : Value} (h : BzP w b x y) : b < w.heap.size := by unfold BzP at h; exact (Array.getElem?_eq_some_iff.1 h).1
theorem BzP.new (w : World) (x y : Value) : BzP (w.alloc (.cells #[x, y] 37)) w.heap.size x y := heap_alloc_new w _
theorem BzP.kept {w w' : World} {b : Nat} {x y : Value} (h : BzP w b x y) (hh : w'.heap[b]? = w.heap[b]?) : BzP w' b x y := by unfold BzP; rw [hh]; exact h
theorem BzP.grow {w w' : World} {b : Nat} {x y : Value} (h : BzP w b x y) (hk : Below w.heap.size w w') : BzP w' b x y := h.kept (hk.block b h.lt)
theorem BzP.row {w w' : World} {b : Nat} {x y : Value} {row : Option Nat} (h : BzP w b x y) (hg : w.grownBy w' row) (hr : ∀ g, row = some g → g ≠ b) : BzP w' b x y := h.kept (hg.block b h.lt (fun e => hr b e.symm rfl))
theorem BzP.put0 {w : World} {b : Nat} {x y : Value} (h : BzP w b x y) (x' : Value) : BzP (w.setCell ⟨b, 0, none⟩ x') b x' y := by
  unfold BzP at *
  rw [heap_setCell_same w b 0 _ _ x' h]; rfl
theorem BzP.put1 {w : World} {b : Nat} {x y : Value} (h : BzP w b x y) (y' : Value) : BzP (w.setCell ⟨b, 1, none⟩ y') b x y' := by
  unfold BzP at *
  rw [heap_setCell_same w b 1 _ _ y' h]; rfl
abbrev box2 (w : World) (b : Nat) (x y : Value) : World := (w.setCell ⟨b, 0, none⟩ x).setCell ⟨b, 1, none⟩ y
theorem box2_by (w : World) (b : Nat) (x y : Value) : w.grownBy (box2 w b x y) (some b) := grownBy_trans (gb_set w b 0 x) (gb_set _ b 1 y)
theorem BzP.two {w : World} {b : Nat} {x y : Value} (h : BzP w b x y) (x' y' : Value) : BzP (box2 w b x' y') b x' y' := (h.put0 x').put1 y'

/-- A box with one rule. -/
def BzR (w : World) (b : Nat) (x y z u p q : Value) : Prop := w.heap[b]? = some (.cells #[x, y, z, u, p, q] 59 (0, 0))
theorem BzR.c0 {w : World} {b : Nat} {x y z u p q : Value} (h : BzR w b x y z u p q) : w.cell? ⟨b, 0, none⟩ = some x := by rw [cell_of_row w b 0 _ _ (0, 0) h]; rfl
theorem BzR.c1 {w : World} {b : Nat} {x y z u p q : Value} (h : BzR w b x y z u p q) : w.cell? ⟨b, 1, none⟩ = some y := by rw [cell_of_row w b 1 _ _ (0, 0) h]; rfl
theorem BzR.c2 {w : World} {b : Nat} {x y z u p q : Value} (h : BzR w b x y z u p q) : w.cell? ⟨b, 2, none⟩ = some z := by rw [cell_of_row w b 2 _ _ (0, 0) h]; rfl
theorem BzR.c3 {w : World} {b : Nat} {x y z u p q : Value} (h : BzR w b x y z u p q) : w.cell? ⟨b, 3, none⟩ = some u := by rw [cell_of_row w b 3 _ _ (0, 0) h]; rfl
theorem BzR.c4 {w : World} {b : Nat} {x y z u p q : Value} (h : BzR w b x y z u p q) : w.cell? ⟨b, 4, none⟩ = some p := by rw [cell_of_row w b 4 _ _ (0, 0) h]; rfl
theorem BzR.c5 {w : World} {b : Nat} {x y z u p q : Value} (h : BzR w b x y z u p q) : w.cell? ⟨b, 5, none⟩ = some q := by rw [cell_of_row w b 5 _ _ (0, 0) h]; rfl
theorem BzR.fr {w : World} {b : Nat} {x y z u p q : Value} (h : BzR w b x y z u p q) (j : Nat) : w.frozen? ⟨b, j, none⟩ = false := frozen_of_row w b j _ _ h
theorem BzR.lt {w : World} {b : Nat} {x y z u p q : Value} (h : BzR w b x y z u p q) : b < w.heap.size := by unfold BzR at h; exact (Array.getElem?_eq_some_iff.1 h).1
theorem BzR.new (w : World) (x y z u p q : Value) : BzR (w.alloc (.cells #[x, y, z, u, p, q] 59)) w.heap.size x y z u p q := heap_alloc_new w _
theorem BzR.kept {w w' : World} {b : Nat} {x y z u p q : Value} (h : BzR w b x y z u p q) (hh : w'.heap[b]? = w.heap[b]?) : BzR w' b x y z u p q := by unfold BzR; rw [hh]; exact h
theorem BzR.grow {w w' : World} {b : Nat} {x y z u p q : Value} (h : BzR w b x y z u p q) (hk : Below w.heap.size w w') : BzR w' b x y z u p q := h.kept (hk.block b h.lt)
theorem BzR.row {w w' : World} {b : Nat} {x y z u p q : Value} {row : Option Nat} (h : BzR w b x y z u p q) (hg : w.grownBy w' row) (hr : ∀ g, row = some g → g ≠ b) : BzR w' b x y z u p q := h.kept (hg.block b h.lt (fun e => hr b e.symm rfl))
theorem BzR.put1 {w : World} {b : Nat} {x y z u p q : Value} (h : BzR w b x y z u p q) (y' : Value) : BzR (w.setCell ⟨b, 1, none⟩ y') b x y' z u p q := by
  unfold BzR at *
  rw [heap_setCell_same w b 1 _ _ y' h]; rfl
theorem BzR.put2 {w : World} {b : Nat} {x y z u p q : Value} (h : BzR w b x y z u p q) (z' : Value) : BzR (w.setCell ⟨b, 2, none⟩ z') b x y z' u p q := by
  unfold BzR at *
  rw [heap_setCell_same w b 2 _ _ z' h]; rfl
theorem BzR.put3 {w : World} {b : Nat} {x y z u p q : Value} (h : BzR w b x y z u p q) (u' : Value) : BzR (w.setCell ⟨b, 3, none⟩ u') b x y z u' p q := by
  unfold BzR at *
  rw [heap_setCell_same w b 3 _ _ u' h]; rfl
theorem BzR.put4 {w : World} {b : Nat} {x y z u p q : Value} (h : BzR w b x y z u p q) (p' : Value) : BzR (w.setCell ⟨b, 4, none⟩ p') b x y z u p' q := by
  unfold BzR at *
  rw [heap_setCell_same w b 4 _ _ p' h]; rfl
theorem BzR.put5 {w : World} {b : Nat} {x y z u p q : Value} (h : BzR w b x y z u p q) (q' : Value) : BzR (w.setCell ⟨b, 5, none⟩ q') b x y z u p q' := by
  unfold BzR at *
  rw [heap_setCell_same w b 5 _ _ q' h]; rfl
abbrev setP (w : World) (b : Nat) (x y z u : Value) : World := (((w.setCell ⟨b, 1, none⟩ x).setCell ⟨b, 2, none⟩ y).setCell ⟨b, 3, none⟩ z).setCell ⟨b, 4, none⟩ u
theorem setP_by (w : World) (b : Nat) (x y z u : Value) : w.grownBy (setP w b x y z u) (some b) := grownBy_trans (grownBy_trans (grownBy_trans (gb_set w b 1 x) (gb_set _ b 2 y)) (gb_set _ b 3 z)) (gb_set _ b 4 u)
theorem BzR.putP {w : World} {b : Nat} {x y z u p q : Value} (h : BzR w b x y z u p q) (y' z' u' p' : Value) : BzR (setP w b y' z' u' p') b x y' z' u' p' q := (((h.put1 y').put2 z').put3 u').put4 p'

/-- A function with the slices that are read within. -/
structure Fv where
  f : Fu
  x : Value
  a : Value
def fnCells : List Fv → List Value
  | [] => []
  | q :: r => .string q.f.n :: q.x :: q.a :: fnCells r
theorem fnCells_append (L M : List Fv) : fnCells (L ++ M) = fnCells L ++ fnCells M := by
  induction L with
  | nil => rfl
  | cons q r ih => simp only [List.cons_append, fnCells, ih]
theorem fnCells_at (L : List Fv) : ∀ i (h : i < L.length), (fnCells L)[i * 3]? = some (.string L[i].f.n) ∧ (fnCells L)[i * 3 + 1]? = some L[i].x ∧ (fnCells L)[i * 3 + 2]? = some L[i].a := by
  induction L with
  | nil => intro i h; simp at h
  | cons q r ih =>
    intro i h
    cases i with
    | zero => simp [fnCells]
    | succ i =>
      have := ih i (by simpa using h)
      have e0 : (i + 1) * 3 = i * 3 + 3 := by omega
      simp only [fnCells, e0, List.getElem?_cons_succ, List.getElem_cons_succ]
      exact this
theorem Tb.bnd {w w' : World} {n0 n1 : Nat} {ob : Option Nat} {l : List ByteArray} {v : Value} (h : Tb w (bd w n0 n1 ob) v l) (hk : ∀ b, n0 ≤ b → b < n1 → b < w.heap.size → w'.heap[b]? = w.heap[b]?) : Tb w' (bd w' n0 n1 ob) v l :=
  ((h.imp (C := fun b => bd w n0 n1 ob b ∧ b < w.heap.size) fun _ hb hlt => ⟨hb, hlt⟩).kept fun b hb hlt => hk b hb.1.1.1 hb.1.2.1 hlt).imp fun _ hb _ => bd_kept hk hb.1 hb.2
/-- A row of functions, from base up to n0, with all that is within. -/
def FnI (w : World) (base n0 : Nat) (v : Value) (F : List Fv) : Prop := w.ownsRow base 63 3 v F.length (fnCells F) ∧ (∀ k, v.ownBlock = some k → k < n0) ∧ ∀ f ∈ F, Tb w (bd w base n0 v.ownBlock) f.x f.f.ps ∧ Sl w (bd w base n0 v.ownBlock) f.f.a f.a ∧ f.f.n.size ≤ 100 ∧ f.f.sz ≤ 100000000
theorem FnI.keep {w w' : World} {row : Option Nat} {base n0 : Nat} {v : Value} {F : List Fv} (h : FnI w base n0 v F) (hg : w.grownBy w' row) (hr : ∀ g, row = some g → g < base ∨ n0 ≤ g) : FnI w' base n0 v F := by
  obtain ⟨h1, h2, h3⟩ := h
  refine ⟨World.ownsRow.kept h1 hg ?_, h2, fun q hq => ⟨(h3 q hq).1.bnd (bnd_of hg hr), (h3 q hq).2.1.bnd (bnd_of hg hr), (h3 q hq).2.2⟩⟩
  cases hv : v.ownBlock with
  | none => exact .inl rfl
  | some k => exact .inr fun e => by have := hr k e.symm; have := h2 k hv; have := (World.ownsRow.lt h1 k hv).1; omega
theorem FnI.grow {w w' : World} {base n0 : Nat} {v : Value} {F : List Fv} (h : FnI w base n0 v F) (hb : Below w.heap.size w w') : FnI w' base n0 v F :=
  h.keep (row := none) ⟨hb.os, hb.tape, hb.output, hb.size, fun k h1 _ => hb.block k h1⟩ fun g e => by cases e
theorem fl_of_row {w : World} {base : Nat} {v : Value} {L : List Fv} {D : Nat → Prop} (hr : w.ownsRow base 63 3 v L.length (fnCells L)) (hD : ∀ k, v.ownBlock = some k → nf w base k → D k) (hok : ∀ u ∈ L, Tb w D u.x u.f.ps ∧ Sl w D u.f.a u.a ∧ u.f.n.size ≤ 100) : Fl w D (L.map Fv.f) v := by
  have hlen : (L.map Fv.f).length = L.length := by simp
  rcases id hr.2 with ⟨rfl, h0⟩ | ⟨g, cap, cur, rfl, hb, hg, hc, hm, -⟩
  · obtain rfl := List.length_eq_zero_iff.1 h0
    exact Fl.zero _ _
  · have hcell := hr.cells (g := g) rfl
    have hd : ∀ i (h : i < L.length), (L.getD i ⟨⟨⟨#[]⟩, [], []⟩, undef, undef⟩) = L[i] := fun i h => by simp [List.getD_eq_getElem?_getD, h]
    refine ⟨_, cap, by rw [hlen], by rw [hlen]; exact hc, hm, fun h => (by cases h), fun hne => ⟨g, 0, fun i => (L.getD i ⟨⟨⟨#[]⟩, [], []⟩, undef, undef⟩).x, fun i => (L.getD i ⟨⟨⟨#[]⟩, [], []⟩, undef, undef⟩).a, rfl, hD g rfl ⟨hb, fun o => frozen_of_row w g o _ _ hg⟩, fun i h => ?_⟩⟩
    rw [hlen] at h
    obtain ⟨s0, s1, s2⟩ := fnCells_at L i h
    have r0 := hcell _ _ s0
    have r1 := hcell _ _ s1
    have r2 := hcell _ _ s2
    simp only [Addr.add_lit] at r0 r1 r2
    obtain ⟨k1, k2, k3⟩ := hok _ (List.getElem_mem h)
    simp only [List.getElem_map, hd i h]
    exact ⟨⟨r0, r1, r2⟩, k1, k2, by unfold maxLen; omega⟩
theorem FnI.fl {w : World} {base n0 : Nat} {v : Value} {F : List Fv} (h : FnI w base n0 v F) : Fl w (bd w base n0 Option.none) (F.map Fv.f) v :=
  fl_of_row h.1 (fun k hk hn => ⟨hn, h.2.1 k hk, by simp⟩) fun u hu => ⟨(h.2.2 u hu).1.imp fun _ hb _ => ⟨hb.1, hb.2.1, by simp⟩, (h.2.2 u hu).2.1.imp fun _ hb _ => ⟨hb.1, hb.2.1, by simp⟩, (h.2.2 u hu).2.2.1⟩

theorem YB.rowA {d : Nat} {w : World} {n0 n1 : Nat} {l : List St} {v : Value} (h : YB d w n0 n1 l v) : RowA w n0 none v.ownBlock l v := by
  obtain ⟨M, e, h1, h2, h3⟩ := h
  have hi : ∀ b, bd w n0 n1 v.ownBlock b → dd w n0 none v.ownBlock b := fun _ hb => ⟨hb.1, by simp, hb.2.2⟩
  exact ⟨M, e, h1, fun k _ => by simp, fun q hq => ⟨⟨(h3 q hq).1.1.imp fun b hb _ => hi b hb, (h3 q hq).1.2.1.imp fun b hb _ => hi b hb, (h3 q hq).1.2.2.imp fun b hb _ => hi b hb⟩, (h3 q hq).2.1⟩⟩
theorem RowA.by {w w' : World} {n R : Nat} {gb : Option Nat} {l : List St} {v : Value} (h : RowA w n none gb l v) (hg : w.grownBy w' (some R)) (hR : R < n) : RowA w' n none gb l v := RowA.ddk hg (fun g e => by cases e; exact .inl hR) (fun _ _ h => h) h
theorem RowA.sh {w : World} {n : Nat} {ob gb : Option Nat} {l : List St} {v : Value} (h : RowA w n ob gb l v) : ∀ t ∈ l, ShT t := by
  obtain ⟨M, rfl, -, -, h3⟩ := h
  intro t ht
  obtain ⟨q, hq, rfl⟩ := List.mem_map.1 ht
  exact (h3 q hq).2
/-- Behind l10NoNext. -/
theorem NNr.rowA {w w' : World} {m : Nat} {l : List St} {u : Value} (h : NNr (fun b => nf w m b ∧ b < w.heap.size) w' w.heap.size l u) (hb : Below w.heap.size w w') (hm : m ≤ w.heap.size) : RowA w' m none u.ownBlock (nnL l) u := by
  obtain ⟨M, e, r1, r2⟩ := h
  have hi : ∀ b, oc (fun b => nf w m b ∧ b < w.heap.size) w' w.heap.size u.ownBlock b → dd w' m none u.ownBlock b := by
    intro b hb'
    rcases hb' with ⟨h1, h2⟩ | ⟨h1, h2⟩
    · refine ⟨⟨h1.1, fun o => by rw [hb.frozen (p := ⟨b, o, none⟩) h2]; exact h1.2 o⟩, by simp, fun e => ?_⟩
      have := (World.ownsRow.lt r1 b e.symm).1
      omega
    · exact ⟨⟨by have := h1.1; omega, h1.2⟩, by simp, h2⟩
  refine ⟨M, e, ⟨r1.1, r1.2.imp id fun ⟨g, cap, cur, e, hg, r⟩ => ⟨g, cap, cur, e, Nat.le_trans hm hg, r⟩⟩, fun k _ => by simp, fun q hq => ⟨⟨(r2 q hq).1.1.imp fun b hb' _ => hi b hb', (r2 q hq).1.2.1.imp fun b hb' _ => hi b hb', (r2 q hq).1.2.2.imp fun b hb' _ => hi b hb'⟩, (r2 q hq).2⟩⟩
theorem New0.mk {w : World} {n m : Nat} {k : Int} {p : Ex} {a : List St} {x v : Value} (hp : El w (bd w n m none) p.l x) (ha : RowA w m none v.ownBlock a v) (hn : n ≤ m) (hs : p.s.size ≤ 100) (hz : p.sz + szy a ≤ 100000000) : New0 w n ⟨⟨k, p, a⟩, x, v⟩ := by
  obtain ⟨M, e, r1, r2, r3⟩ := ha
  have hi : ∀ b, dd w m none v.ownBlock b → dd w n none v.ownBlock b := fun _ hb => ⟨⟨by have := hb.1.1; omega, hb.1.2⟩, hb.2⟩
  refine ⟨hp.imp fun b hb _ => ⟨hb.1, by simp, fun e => ?_⟩, ⟨M, e, ⟨r1.1, r1.2.imp id fun ⟨g, cap, cur, e, hg, r⟩ => ⟨g, cap, cur, e, Nat.le_trans hn hg, r⟩⟩, r2, fun q hq => ⟨⟨(r3 q hq).1.1.imp fun b hb' _ => hi b hb', (r3 q hq).1.2.1.imp fun b hb' _ => hi b hb', (r3 q hq).1.2.2.imp fun b hb' _ => hi b hb'⟩, (r3 q hq).2⟩⟩, hs, hz⟩
  have := (World.ownsRow.lt r1 b e.symm).1
  have := hb.2.1
  omega
/-- Texts that lie in a block of their own. -/
theorem tb_of {w : World} {B : Nat → Prop} {g : Nat} {xs : List ByteArray} (hc : w.heap[g]? = some (.cells (xs.map Value.string).toArray 9 (0, 0))) (hB : B g) (hs : ∀ s ∈ xs, s.size ≤ 100) (hn : xs.length ≤ 100) : Tb w B (.slice (some ⟨g, 0, none⟩) xs.length xs.length) xs := by
  refine ⟨some ⟨g, 0, none⟩, xs.length, rfl, Nat.le_refl _, (by unfold maxLen; omega), (fun h => nomatch h), (fun s h => by have := hs s h; unfold maxLen; omega), fun _ => ⟨g, 0, rfl, hB, fun k hk => ?_⟩⟩
  rw [cell_of_row w g (0 + k) _ _ (0, 0) hc]
  simp [hk]
end Go.Proofs.Ytijpmnenegdmnaa
