/- Drawn statements whose rows are owned: terms, then A, then B, each above the one before. -/
import Derived.Test.YtijpmnenegdmnaaQStRowD
namespace Go.Proofs.Ytijpmnenegdmnaa
open Go.RowKit
set_option maxRecDepth 8000

/-- New blocks from n0 up to n1, none of them ob. -/
def bd (w : World) (n0 n1 : Nat) (ob : Option Nat) (b : Nat) : Prop := nf w n0 b ∧ b < n1 ∧ some b ≠ ob
theorem bd_kept {w w' : World} {n0 n1 : Nat} {ob : Option Nat} (hk : ∀ b, n0 ≤ b → b < n1 → b < w.heap.size → w'.heap[b]? = w.heap[b]?) {b : Nat} (hb : bd w n0 n1 ob b) (hlt : b < w.heap.size) : bd w' n0 n1 ob b :=
  ⟨⟨hb.1.1, fun o => by rw [World.frozen?_of_block (w := w) (a := ⟨b, o, none⟩) (hk b hb.1.1 hb.2.1 hlt)]; exact hb.1.2 o⟩, hb.2⟩
theorem El.bnd {w w' : World} {n0 n1 : Nat} {ob : Option Nat} {l : List Ex} {v : Value} (h : El w (bd w n0 n1 ob) l v) (hk : ∀ b, n0 ≤ b → b < n1 → b < w.heap.size → w'.heap[b]? = w.heap[b]?) : El w' (bd w' n0 n1 ob) l v :=
  ((h.imp (C := fun b => bd w n0 n1 ob b ∧ b < w.heap.size) fun _ hb hlt => ⟨hb, hlt⟩).kept fun b hb hlt => hk b hb.1.1.1 hb.1.2.1 hlt).imp fun _ hb _ => bd_kept hk hb.1 hb.2
theorem Sl.bnd {w w' : World} {n0 n1 : Nat} {ob : Option Nat} {l : List St} {v : Value} (h : Sl w (bd w n0 n1 ob) l v) (hk : ∀ b, n0 ≤ b → b < n1 → b < w.heap.size → w'.heap[b]? = w.heap[b]?) : Sl w' (bd w' n0 n1 ob) l v :=
  ((h.imp (C := fun b => bd w n0 n1 ob b ∧ b < w.heap.size) fun _ hb hlt => ⟨hb, hlt⟩).kept fun b hb hlt => hk b hb.1.1.1 hb.1.2.1 hlt).imp fun _ hb _ => bd_kept hk hb.1 hb.2
theorem bnd_of {w w' : World} {row : Option Nat} {n0 n1 : Nat} (hg : w.grownBy w' row) (hr : ∀ g, row = some g → g < n0 ∨ n1 ≤ g) : ∀ b, n0 ≤ b → b < n1 → b < w.heap.size → w'.heap[b]? = w.heap[b]? :=
  fun b h0 h1 hlt => hg.block b hlt fun e => by have := hr b e.symm; omega

/-- A row of terms. -/
def XB (w : World) (n0 n1 : Nat) (l : List Ex) (v : Value) : Prop := ∃ L : List Xv, L.map (·.1) = l ∧ w.ownsRow n0 26 4 v L.length (exCells L) ∧ (∀ k, v.ownBlock = some k → k < n1) ∧ ∀ q ∈ L, El w (bd w n0 n1 v.ownBlock) q.1.l q.2 ∧ DxS 3 q.1
theorem XB.at {w : World} {n0 : Nat} {v : Value} {L : List Xv} (h : OwnX 3 w n0 v L) : XB w n0 w.heap.size (L.map (·.1)) v :=
  ⟨L, rfl, h.1, fun k hk => (World.ownsRow.lt h.1 k hk).2, fun q hq => ⟨(h.2 q hq).1.imp fun _ hb hlt => ⟨hb.1, hlt, hb.2⟩, (h.2 q hq).2⟩⟩
theorem XB.own {w : World} {n0 n1 : Nat} {l : List Ex} {v : Value} (h : XB w n0 n1 l v) : ∃ L : List Xv, L.map (·.1) = l ∧ OwnX 3 w n0 v L ∧ ∀ k, v.ownBlock = some k → k < n1 := by
  obtain ⟨L, e, h1, h2, h3⟩ := h
  exact ⟨L, e, ⟨h1, fun q hq => ⟨(h3 q hq).1.imp fun _ hb _ => ⟨hb.1, hb.2.2⟩, (h3 q hq).2⟩⟩, h2⟩
theorem XB.keep {w w' : World} {row : Option Nat} {n0 n1 : Nat} {l : List Ex} {v : Value} (h : XB w n0 n1 l v) (hg : w.grownBy w' row) (hr : ∀ g, row = some g → g < n0 ∨ n1 ≤ g) : XB w' n0 n1 l v := by
  obtain ⟨L, e, h1, h2, h3⟩ := h
  refine ⟨L, e, World.ownsRow.kept h1 hg ?_, h2, fun q hq => ⟨(h3 q hq).1.bnd (bnd_of hg hr), (h3 q hq).2⟩⟩
  cases hv : v.ownBlock with
  | none => exact .inl rfl
  | some k => exact .inr fun e => by have := hr k e.symm; have := h2 k hv; have := (World.ownsRow.lt h1 k hv).1; omega
theorem XB.by {w w' : World} {R : Nat} {n0 n1 : Nat} {l : List Ex} {v : Value} (h : XB w n0 n1 l v) (hg : w.grownBy w' (some R)) (hR : R < n0) : XB w' n0 n1 l v := h.keep hg fun g e => by cases e; exact .inl hR
theorem XB.base {w : World} {n0 n0' n1 : Nat} {l : List Ex} {v : Value} (h : XB w n0 n1 l v) (hb : n0' ≤ n0) : XB w n0' n1 l v := by
  obtain ⟨L, e, h1, h2, h3⟩ := h
  exact ⟨L, e, ⟨h1.1, h1.2.imp id fun ⟨g, cap, cur, e, hg, r⟩ => ⟨g, cap, cur, e, Nat.le_trans hb hg, r⟩⟩, h2, fun q hq => ⟨(h3 q hq).1.imp fun _ hb' _ => ⟨⟨Nat.le_trans hb hb'.1.1, hb'.1.2⟩, hb'.2⟩, (h3 q hq).2⟩⟩
theorem XB.el {w : World} {n0 n1 : Nat} {l : List Ex} {v : Value} (h : XB w n0 n1 l v) : El w (nf w n0) l v := by
  obtain ⟨L, rfl, h1, -⟩ := h.own
  exact h1.el.1
/-- A row of statements. -/
def YB (d : Nat) (w : World) (n0 n1 : Nat) (l : List St) (v : Value) : Prop := ∃ M : List Yv, M.map Yv.t = l ∧ w.ownsRow n0 31 6 v M.length (stCells M) ∧ (∀ k, v.ownBlock = some k → k < n1) ∧ ∀ q ∈ M, (El w (bd w n0 n1 v.ownBlock) q.t.x q.x ∧ Sl w (bd w n0 n1 v.ownBlock) q.t.a q.a ∧ Sl w (bd w n0 n1 v.ownBlock) q.t.b q.b) ∧ DyS d q.t
theorem YB.at {d : Nat} {w : World} {n0 : Nat} {v : Value} {M : List Yv} (h : OwnY d w n0 v M) : YB d w n0 w.heap.size (M.map Yv.t) v :=
  ⟨M, rfl, h.1, fun k hk => (World.ownsRow.lt h.1 k hk).2, fun q hq => ⟨⟨(h.2 q hq).1.1.imp fun _ hb hlt => ⟨hb.1, hlt, hb.2⟩, (h.2 q hq).1.2.1.imp fun _ hb hlt => ⟨hb.1, hlt, hb.2⟩, (h.2 q hq).1.2.2.imp fun _ hb hlt => ⟨hb.1, hlt, hb.2⟩⟩, (h.2 q hq).2⟩⟩
theorem YB.own {d : Nat} {w : World} {n0 n1 : Nat} {l : List St} {v : Value} (h : YB d w n0 n1 l v) : ∃ M : List Yv, M.map Yv.t = l ∧ OwnY d w n0 v M ∧ ∀ k, v.ownBlock = some k → k < n1 := by
  obtain ⟨M, e, h1, h2, h3⟩ := h
  exact ⟨M, e, ⟨h1, fun q hq => ⟨⟨(h3 q hq).1.1.imp fun _ hb _ => ⟨hb.1, hb.2.2⟩, (h3 q hq).1.2.1.imp fun _ hb _ => ⟨hb.1, hb.2.2⟩, (h3 q hq).1.2.2.imp fun _ hb _ => ⟨hb.1, hb.2.2⟩⟩, (h3 q hq).2⟩⟩, h2⟩
theorem YB.keep {d : Nat} {w w' : World} {row : Option Nat} {n0 n1 : Nat} {l : List St} {v : Value} (h : YB d w n0 n1 l v) (hg : w.grownBy w' row) (hr : ∀ g, row = some g → g < n0 ∨ n1 ≤ g) : YB d w' n0 n1 l v := by
  obtain ⟨M, e, h1, h2, h3⟩ := h
  refine ⟨M, e, World.ownsRow.kept h1 hg ?_, h2, fun q hq => ⟨⟨(h3 q hq).1.1.bnd (bnd_of hg hr), (h3 q hq).1.2.1.bnd (bnd_of hg hr), (h3 q hq).1.2.2.bnd (bnd_of hg hr)⟩, (h3 q hq).2⟩⟩
  cases hv : v.ownBlock with
  | none => exact .inl rfl
  | some k => exact .inr fun e => by have := hr k e.symm; have := h2 k hv; have := (World.ownsRow.lt h1 k hv).1; omega
theorem YB.by {d : Nat} {w w' : World} {R : Nat} {n0 n1 : Nat} {l : List St} {v : Value} (h : YB d w n0 n1 l v) (hg : w.grownBy w' (some R)) (hR : R < n0) : YB d w' n0 n1 l v := h.keep hg fun g e => by cases e; exact .inl hR
theorem YB.grow {d : Nat} {w w' : World} {n0 n1 : Nat} {l : List St} {v : Value} (h : YB d w n0 n1 l v) (hb : Below w.heap.size w w') : YB d w' n0 n1 l v :=
  h.keep (row := none) ⟨hb.os, hb.tape, hb.output, hb.size, fun k h1 _ => hb.block k h1⟩ fun g e => by cases e
theorem YB.base {d : Nat} {w : World} {n0 n0' n1 : Nat} {l : List St} {v : Value} (h : YB d w n0 n1 l v) (hb : n0' ≤ n0) : YB d w n0' n1 l v := by
  obtain ⟨M, e, h1, h2, h3⟩ := h
  have hi : ∀ b, bd w n0 n1 v.ownBlock b → bd w n0' n1 v.ownBlock b := fun _ hb' => ⟨⟨Nat.le_trans hb hb'.1.1, hb'.1.2⟩, hb'.2⟩
  exact ⟨M, e, ⟨h1.1, h1.2.imp id fun ⟨g, cap, cur, e, hg, r⟩ => ⟨g, cap, cur, e, Nat.le_trans hb hg, r⟩⟩, h2, fun q hq => ⟨⟨(h3 q hq).1.1.imp fun b h _ => hi b h, (h3 q hq).1.2.1.imp fun b h _ => hi b h, (h3 q hq).1.2.2.imp fun b h _ => hi b h⟩, (h3 q hq).2⟩⟩
theorem YB.weak {d d' : Nat} {w : World} {n0 n1 : Nat} {l : List St} {v : Value} (h : YB d w n0 n1 l v) (hd : d ≤ d') : YB d' w n0 n1 l v := by
  obtain ⟨M, e, h1, h2, h3⟩ := h
  exact ⟨M, e, h1, h2, fun q hq => ⟨(h3 q hq).1, (h3 q hq).2.mono hd⟩⟩
theorem YB.sl {d : Nat} {w : World} {n0 n1 : Nat} {l : List St} {v : Value} (h : YB d w n0 n1 l v) : Sl w (nf w n0) l v := by
  obtain ⟨M, rfl, h1, -⟩ := h.own
  exact h1.sl.1
theorem YB.dys {d : Nat} {w : World} {n0 n1 : Nat} {l : List St} {v : Value} (h : YB d w n0 n1 l v) : ∀ t ∈ l, DyS d t := by
  obtain ⟨M, rfl, h1, -⟩ := h.own
  exact h1.sl.2
theorem YB.zero (d : Nat) (w : World) (n0 n1 : Nat) : YB d w n0 n1 [] (.slice none 0 0) := ⟨[], rfl, ⟨rfl, .inl ⟨rfl, rfl⟩⟩, fun k h => by simp [Value.ownBlock] at h, by simp⟩

/-- Statements that are only read. -/
def SB (w : World) (n0 n1 : Nat) (l : List St) (v : Value) : Prop := Sl w (bd w n0 n1 none) l v
theorem SB.keep {w w' : World} {row : Option Nat} {n0 n1 : Nat} {l : List St} {v : Value} (h : SB w n0 n1 l v) (hg : w.grownBy w' row) (hr : ∀ g, row = some g → g < n0 ∨ n1 ≤ g) : SB w' n0 n1 l v := Sl.bnd h (bnd_of hg hr)
theorem SB.by {w w' : World} {R : Nat} {n0 n1 : Nat} {l : List St} {v : Value} (h : SB w n0 n1 l v) (hg : w.grownBy w' (some R)) (hR : R < n0) : SB w' n0 n1 l v := h.keep hg fun g e => by cases e; exact .inl hR
theorem SB.sl {w : World} {n0 n1 : Nat} {l : List St} {v : Value} (h : SB w n0 n1 l v) : Sl w (nf w n0) l v := Sl.imp h fun _ hb _ => hb.1
theorem SB.zero (w : World) (n0 n1 : Nat) : SB w n0 n1 [] (.slice none 0 0) := Sl.zero _ _
theorem SB.at {w : World} {n0 : Nat} {l : List St} {v : Value} (h : Sl w (nf w n0) l v) : SB w n0 w.heap.size l v := Sl.imp h fun _ hb hlt => ⟨hb, hlt, by simp⟩

/-- A drawn statement, with where its rows lie. -/
def Yq (d : Nat) (w : World) (n0 n1 n2 n3 : Nat) (q : Yv) : Prop := DyS d q.t ∧ (n0 ≤ n1 ∧ n1 ≤ n2 ∧ n2 ≤ n3 ∧ n3 ≤ w.heap.size) ∧ XB w n0 n1 q.t.x q.x ∧ YB d w n1 n2 q.t.a q.a ∧ SB w n2 n3 q.t.b q.b
theorem Yq.keep {d : Nat} {w w' : World} {row : Option Nat} {n0 n1 n2 n3 : Nat} {q : Yv} (h : Yq d w n0 n1 n2 n3 q) (hg : w.grownBy w' row) (hr : ∀ g, row = some g → g < n0 ∨ n3 ≤ g) : Yq d w' n0 n1 n2 n3 q := by
  obtain ⟨h1, ⟨a, b, c, e⟩, h2, h3, h4⟩ := h
  have := hg.size
  exact ⟨h1, ⟨a, b, c, by omega⟩, h2.keep hg fun g e => by have := hr g e; omega, h3.keep hg fun g e => by have := hr g e; omega, h4.keep hg fun g e => by have := hr g e; omega⟩
theorem Yq.by {d : Nat} {w w' : World} {R : Nat} {n0 n1 n2 n3 : Nat} {q : Yv} (h : Yq d w n0 n1 n2 n3 q) (hg : w.grownBy w' (some R)) (hR : R < n0) : Yq d w' n0 n1 n2 n3 q := h.keep hg fun g e => by cases e; exact .inl hR
theorem Yq.grow {d : Nat} {w w' : World} {n0 n1 n2 n3 : Nat} {q : Yv} (h : Yq d w n0 n1 n2 n3 q) (hb : Below w.heap.size w w') : Yq d w' n0 n1 n2 n3 q :=
  h.keep (row := none) ⟨hb.os, hb.tape, hb.output, hb.size, fun k h1 _ => hb.block k h1⟩ fun g e => by cases e
theorem Yq.els {d : Nat} {w : World} {n0 n1 n2 n3 : Nat} {q : Yv} (h : Yq d w n0 n1 n2 n3 q) : El w (nf w n0) q.t.x q.x ∧ Sl w (nf w n0) q.t.a q.a ∧ Sl w (nf w n0) q.t.b q.b := by
  obtain ⟨h1, ⟨a, b, c, e⟩, h2, h3, h4⟩ := h
  exact ⟨h2.el, h3.sl.imp fun _ hb _ => ⟨by have := hb.1; omega, hb.2⟩, h4.sl.imp fun _ hb _ => ⟨by have := hb.1; omega, hb.2⟩⟩
/-- The same, wherever they lie. -/
def YD (d : Nat) (w : World) (n0 : Nat) (q : Yv) : Prop := ∃ n1 n2 n3, Yq d w n0 n1 n2 n3 q
end Go.Proofs.Ytijpmnenegdmnaa
