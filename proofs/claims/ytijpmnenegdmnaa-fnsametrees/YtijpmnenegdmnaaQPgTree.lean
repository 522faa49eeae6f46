/- Rules, functions and programs: what slices of them read. -/
import Derived.Test.YtijpmnenegdmnaaQStTree
import Derived.Test.YtijpmnenegdmnaaQStrLeaf
import Derived.SliceStrings
namespace Go.Proofs.Ytijpmnenegdmnaa
open Go.RowKit

structure Ru where
  k : Int
  p : Ex
  a : List St
structure Fu where
  n : ByteArray
  ps : List ByteArray
  a : List St
structure Pg where
  r : List Ru
  f : List Fu
instance : Inhabited Ru := ⟨⟨0, default, []⟩⟩
instance : Inhabited Fu := ⟨⟨⟨#[]⟩, [], []⟩⟩

/-- A slice that reads these texts, its block in B. -/
def Tb (w : World) (B : Nat → Prop) (v : Value) (xs : List ByteArray) : Prop := ∃ ao cap, v = .slice ao xs.length cap ∧ xs.length ≤ cap ∧ cap ≤ maxLen ∧ (ao = none → cap = 0) ∧ (∀ s ∈ xs, s.size ≤ maxLen) ∧ (xs ≠ [] → ∃ b off, ao = some ⟨b, off, none⟩ ∧ B b ∧ ∀ k, k < xs.length → w.cell? ⟨b, off + k, none⟩ = some (.string (xs.getD k ⟨#[]⟩)))
theorem Tb.kept {w w' : World} {B : Nat → Prop} {v : Value} {xs : List ByteArray} (h : Tb w B v xs) (hk : ∀ b, B b → b < w.heap.size → w'.heap[b]? = w.heap[b]?) : Tb w' B v xs := by
  obtain ⟨ao, cap, h1, h2, h3, h4, h5, h6⟩ := h
  refine ⟨ao, cap, h1, h2, h3, h4, h5, fun hn => ?_⟩
  obtain ⟨b, off, e, hb, hc⟩ := h6 hn
  have h0 : 0 < xs.length := List.length_pos_iff.2 hn
  have hlt := World.block_lt_of_cell? w _ (hc 0 h0)
  exact ⟨b, off, e, hb, fun k hkl => by rw [World.cell?_of_block (w := w) (hk b hb hlt)]; exact hc k hkl⟩
theorem Tb.grow {w w' : World} {B : Nat → Prop} {v : Value} {xs : List ByteArray} (h : Tb w B v xs) (hk : Below w.heap.size w w') : Tb w' B v xs := h.kept fun b _ hb => hk.block b hb
theorem Tb.imp {w : World} {B C : Nat → Prop} {v : Value} {xs : List ByteArray} (h : Tb w B v xs) (hk : ∀ b, B b → b < w.heap.size → C b) : Tb w C v xs := by
  obtain ⟨ao, cap, h1, h2, h3, h4, h5, h6⟩ := h
  refine ⟨ao, cap, h1, h2, h3, h4, h5, fun hn => ?_⟩
  obtain ⟨b, off, e, hb, hc⟩ := h6 hn
  exact ⟨b, off, e, hk b hb (World.block_lt_of_cell? w _ (hc 0 (List.length_pos_iff.2 hn))), hc⟩
/-- The six cells of a rule, the three of a function. -/
def Ru6 (w : World) (b o : Nat) (r : Ru) (x y : Value) : Prop :=
  w.cell? ⟨b, o, none⟩ = some (.int .i64 r.k) ∧ w.cell? ⟨b, o + 1, none⟩ = some (.int .i64 r.p.k) ∧ w.cell? ⟨b, o + 2, none⟩ = some (.int .i64 r.p.n) ∧ w.cell? ⟨b, o + 3, none⟩ = some (.string r.p.s) ∧ w.cell? ⟨b, o + 4, none⟩ = some x ∧ w.cell? ⟨b, o + 5, none⟩ = some y
def Fu3 (w : World) (b o : Nat) (f : Fu) (x y : Value) : Prop :=
  w.cell? ⟨b, o, none⟩ = some (.string f.n) ∧ w.cell? ⟨b, o + 1, none⟩ = some x ∧ w.cell? ⟨b, o + 2, none⟩ = some y

/-- A rule, a function, a program as the program has it. -/
abbrev ruV (r : Ru) (x y : Value) : Value := .agg #[.int .i64 r.k, .int .i64 r.p.k, .int .i64 r.p.n, .string r.p.s, x, y]
abbrev fuV (f : Fu) (x y : Value) : Value := .agg #[.string f.n, x, y]
abbrev pgV (x y : Value) : Value := .agg #[x, y]

def Ul (w : World) (B : Nat → Prop) (l : List Ru) (v : Value) : Prop := ∃ ao cap, v = .slice ao l.length cap ∧ l.length ≤ cap ∧ cap ≤ maxLen ∧ (ao = none → cap = 0) ∧
  (l ≠ [] → ∃ (b off : Nat) (X Y : Nat → Value), ao = some ⟨b, off, none⟩ ∧ B b ∧ ∀ i (h : i < l.length), Ru6 w b (off + i * 6) l[i] (X i) (Y i) ∧ El w B l[i].p.l (X i) ∧ Sl w B l[i].a (Y i) ∧ l[i].p.s.size ≤ maxLen)
def Fl (w : World) (B : Nat → Prop) (l : List Fu) (v : Value) : Prop := ∃ ao cap, v = .slice ao l.length cap ∧ l.length ≤ cap ∧ cap ≤ maxLen ∧ (ao = none → cap = 0) ∧
  (l ≠ [] → ∃ (b off : Nat) (X Y : Nat → Value), ao = some ⟨b, off, none⟩ ∧ B b ∧ ∀ i (h : i < l.length), Fu3 w b (off + i * 3) l[i] (X i) (Y i) ∧ Tb w B (X i) l[i].ps ∧ Sl w B l[i].a (Y i) ∧ l[i].n.size ≤ maxLen)

theorem Ru6.kept {w w' : World} {b o : Nat} {r : Ru} {x y : Value} (h : Ru6 w b o r x y) (hh : w'.heap[b]? = w.heap[b]?) : Ru6 w' b o r x y := by
  obtain ⟨h0, h1, h2, h3, h4, h5⟩ := h
  exact ⟨by rw [World.cell?_of_block (w := w) hh]; exact h0, by rw [World.cell?_of_block (w := w) hh]; exact h1, by rw [World.cell?_of_block (w := w) hh]; exact h2, by rw [World.cell?_of_block (w := w) hh]; exact h3, by rw [World.cell?_of_block (w := w) hh]; exact h4, by rw [World.cell?_of_block (w := w) hh]; exact h5⟩
theorem Fu3.kept {w w' : World} {b o : Nat} {f : Fu} {x y : Value} (h : Fu3 w b o f x y) (hh : w'.heap[b]? = w.heap[b]?) : Fu3 w' b o f x y := by
  obtain ⟨h0, h1, h2⟩ := h
  exact ⟨by rw [World.cell?_of_block (w := w) hh]; exact h0, by rw [World.cell?_of_block (w := w) hh]; exact h1, by rw [World.cell?_of_block (w := w) hh]; exact h2⟩

theorem Ul.kept {w w' : World} {B : Nat → Prop} {l : List Ru} {v : Value} (h : Ul w B l v) (hk : ∀ b, B b → b < w.heap.size → w'.heap[b]? = w.heap[b]?) : Ul w' B l v := by
  obtain ⟨ao, cap, h1, h2, h3, h4, h5⟩ := h
  refine ⟨ao, cap, h1, h2, h3, h4, fun hn => ?_⟩
  obtain ⟨b, off, X, Y, e, hb, hc⟩ := h5 hn
  have hlt := World.block_lt_of_cell? w _ (hc 0 (List.length_pos_iff.2 hn)).1.1
  exact ⟨b, off, X, Y, e, hb, fun i hi => ⟨(hc i hi).1.kept (hk b hb hlt), (hc i hi).2.1.kept hk, (hc i hi).2.2.1.kept hk, (hc i hi).2.2.2⟩⟩
theorem Fl.kept {w w' : World} {B : Nat → Prop} {l : List Fu} {v : Value} (h : Fl w B l v) (hk : ∀ b, B b → b < w.heap.size → w'.heap[b]? = w.heap[b]?) : Fl w' B l v := by
  obtain ⟨ao, cap, h1, h2, h3, h4, h5⟩ := h
  refine ⟨ao, cap, h1, h2, h3, h4, fun hn => ?_⟩
  obtain ⟨b, off, X, Y, e, hb, hc⟩ := h5 hn
  have hlt := World.block_lt_of_cell? w _ (hc 0 (List.length_pos_iff.2 hn)).1.1
  exact ⟨b, off, X, Y, e, hb, fun i hi => ⟨(hc i hi).1.kept (hk b hb hlt), (hc i hi).2.1.kept hk, (hc i hi).2.2.1.kept hk, (hc i hi).2.2.2⟩⟩
theorem Ul.grow {w w' : World} {B : Nat → Prop} {l : List Ru} {v : Value} (h : Ul w B l v) (hk : Below w.heap.size w w') : Ul w' B l v := h.kept fun b _ hb => hk.block b hb
theorem Fl.grow {w w' : World} {B : Nat → Prop} {l : List Fu} {v : Value} (h : Fl w B l v) (hk : Below w.heap.size w w') : Fl w' B l v := h.kept fun b _ hb => hk.block b hb
theorem Ul.imp {w : World} {B C : Nat → Prop} {l : List Ru} {v : Value} (h : Ul w B l v) (hk : ∀ b, B b → b < w.heap.size → C b) : Ul w C l v := by
  obtain ⟨ao, cap, h1, h2, h3, h4, h5⟩ := h
  refine ⟨ao, cap, h1, h2, h3, h4, fun hn => ?_⟩
  obtain ⟨b, off, X, Y, e, hb, hc⟩ := h5 hn
  have hlt := World.block_lt_of_cell? w _ (hc 0 (List.length_pos_iff.2 hn)).1.1
  exact ⟨b, off, X, Y, e, hk b hb hlt, fun i hi => ⟨(hc i hi).1, (hc i hi).2.1.imp hk, (hc i hi).2.2.1.imp hk, (hc i hi).2.2.2⟩⟩
theorem Fl.imp {w : World} {B C : Nat → Prop} {l : List Fu} {v : Value} (h : Fl w B l v) (hk : ∀ b, B b → b < w.heap.size → C b) : Fl w C l v := by
  obtain ⟨ao, cap, h1, h2, h3, h4, h5⟩ := h
  refine ⟨ao, cap, h1, h2, h3, h4, fun hn => ?_⟩
  obtain ⟨b, off, X, Y, e, hb, hc⟩ := h5 hn
  have hlt := World.block_lt_of_cell? w _ (hc 0 (List.length_pos_iff.2 hn)).1.1
  exact ⟨b, off, X, Y, e, hk b hb hlt, fun i hi => ⟨(hc i hi).1, (hc i hi).2.1.imp hk, (hc i hi).2.2.1.imp hk, (hc i hi).2.2.2⟩⟩
theorem Ul.len {w : World} {B : Nat → Prop} {l : List Ru} {v : Value} (h : Ul w B l v) : ∃ ao cap, v = .slice ao l.length cap ∧ l.length ≤ cap ∧ cap ≤ maxLen ∧ (ao = none → cap = 0) := by
  obtain ⟨ao, cap, h1, h2, h3, h4, -⟩ := h; exact ⟨ao, cap, h1, h2, h3, h4⟩
theorem Fl.len {w : World} {B : Nat → Prop} {l : List Fu} {v : Value} (h : Fl w B l v) : ∃ ao cap, v = .slice ao l.length cap ∧ l.length ≤ cap ∧ cap ≤ maxLen ∧ (ao = none → cap = 0) := by
  obtain ⟨ao, cap, h1, h2, h3, h4, -⟩ := h; exact ⟨ao, cap, h1, h2, h3, h4⟩
theorem Tb.len {w : World} {B : Nat → Prop} {v : Value} {xs : List ByteArray} (h : Tb w B v xs) : ∃ ao cap, v = .slice ao xs.length cap ∧ xs.length ≤ cap ∧ cap ≤ maxLen ∧ (ao = none → cap = 0) := by
  obtain ⟨ao, cap, h1, h2, h3, h4, -⟩ := h; exact ⟨ao, cap, h1, h2, h3, h4⟩
theorem Ul.elems {w : World} {B : Nat → Prop} {l : List Ru} {ao : Option Addr} {n cap : Nat} (h : Ul w B l (.slice ao n cap)) (hl : l ≠ []) :
    ∃ (b off : Nat) (X Y : Nat → Value), ao = some ⟨b, off, none⟩ ∧ ∀ i (h : i < l.length), Ru6 w b (off + i * 6) l[i] (X i) (Y i) ∧ El w B l[i].p.l (X i) ∧ Sl w B l[i].a (Y i) ∧ l[i].p.s.size ≤ maxLen := by
  obtain ⟨_, _, e, -, -, -, h5⟩ := h
  cases e
  obtain ⟨b, off, X, Y, e, -, hc⟩ := h5 hl
  exact ⟨b, off, X, Y, e, hc⟩
theorem Fl.elems {w : World} {B : Nat → Prop} {l : List Fu} {ao : Option Addr} {n cap : Nat} (h : Fl w B l (.slice ao n cap)) (hl : l ≠ []) :
    ∃ (b off : Nat) (X Y : Nat → Value), ao = some ⟨b, off, none⟩ ∧ ∀ i (h : i < l.length), Fu3 w b (off + i * 3) l[i] (X i) (Y i) ∧ Tb w B (X i) l[i].ps ∧ Sl w B l[i].a (Y i) ∧ l[i].n.size ≤ maxLen := by
  obtain ⟨_, _, e, -, -, -, h5⟩ := h
  cases e
  obtain ⟨b, off, X, Y, e, -, hc⟩ := h5 hl
  exact ⟨b, off, X, Y, e, hc⟩
theorem Ul.zero (w : World) (B : Nat → Prop) : Ul w B [] (.slice none 0 0) := ⟨none, 0, rfl, Nat.le_refl _, by simp, fun _ => rfl, fun h => absurd rfl h⟩
theorem Fl.zero (w : World) (B : Nat → Prop) : Fl w B [] (.slice none 0 0) := ⟨none, 0, rfl, Nat.le_refl _, by simp, fun _ => rfl, fun h => absurd rfl h⟩
end Go.Proofs.Ytijpmnenegdmnaa
