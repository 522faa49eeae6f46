/- Statements as trees, and what a slice of them reads. -/
import Derived.Test.YtijpmnenegdmnaaQRun1
namespace Go.Proofs.Ytijpmnenegdmnaa
open Go.RowKit

inductive St where
  | node (k : Int) (s t : ByteArray) (x : List Ex) (a b : List St)

def St.k : St → Int | .node k _ _ _ _ _ => k
def St.s : St → ByteArray | .node _ s _ _ _ _ => s
def St.t : St → ByteArray | .node _ _ t _ _ _ => t
def St.x : St → List Ex | .node _ _ _ x _ _ => x
def St.a : St → List St | .node _ _ _ _ a _ => a
def St.b : St → List St | .node _ _ _ _ _ b => b

instance : Inhabited St := ⟨.node 0 ⟨#[]⟩ ⟨#[]⟩ [] [] []⟩

theorem St.eta : ∀ t : St, .node t.k t.s t.t t.x t.a t.b = t | .node _ _ _ _ _ _ => rfl

theorem St.ind {P : St → Prop} (h : ∀ t : St, (∀ y ∈ t.a, P y) → (∀ y ∈ t.b, P y) → P t) : ∀ t, P t := by
  intro t
  exact St.rec (motive_1 := P) (motive_2 := fun l => ∀ y ∈ l, P y) (fun k s t x a b iha ihb => h (.node k s t x a b) iha ihb) (by simp) (fun a l ha hl => by
    intro x hx
    rcases List.mem_cons.1 hx with rfl | hx
    · exact ha
    · exact hl x hx) t

/-- The six cells of one. -/
def St6 (w : World) (b o : Nat) (k : Int) (s t : ByteArray) (x y z : Value) : Prop :=
  w.cell? ⟨b, o, none⟩ = some (.int .i64 k) ∧ w.cell? ⟨b, o + 1, none⟩ = some (.string s) ∧ w.cell? ⟨b, o + 2, none⟩ = some (.string t) ∧ w.cell? ⟨b, o + 3, none⟩ = some x ∧ w.cell? ⟨b, o + 4, none⟩ = some y ∧ w.cell? ⟨b, o + 5, none⟩ = some z

inductive Sl (w : World) (B : Nat → Prop) : List St → Value → Prop
  | empty (ao : Option Addr) (cap : Nat) (hm : cap ≤ maxLen) (hn : ao = none → cap = 0) : Sl w B [] (.slice ao 0 cap)
  | full (l : List St) (b off cap : Nat) (X Y Z : Nat → Value) (hb : B b) (hl : l ≠ []) (hc : l.length ≤ cap) (hm : cap ≤ maxLen)
      (hs : ∀ i (h : i < l.length), l[i].s.size ≤ maxLen ∧ l[i].t.size ≤ maxLen)
      (hcell : ∀ i (h : i < l.length), St6 w b (off + i * 6) l[i].k l[i].s l[i].t (X i) (Y i) (Z i))
      (hx : ∀ i (h : i < l.length), El w B l[i].x (X i))
      (ha : ∀ i (h : i < l.length), Sl w B l[i].a (Y i))
      (hz : ∀ i (h : i < l.length), Sl w B l[i].b (Z i)) : Sl w B l (.slice (some ⟨b, off, none⟩) l.length cap)

/-- A statement as the program has it. -/
abbrev st (k : Int) (s t : ByteArray) (x y z : Value) : Value := .agg #[.int .i64 k, .string s, .string t, x, y, z]

theorem St6.kept {w w' : World} {b o : Nat} {k : Int} {s t : ByteArray} {x y z : Value} (h : St6 w b o k s t x y z) (hh : w'.heap[b]? = w.heap[b]?) : St6 w' b o k s t x y z := by
  obtain ⟨h0, h1, h2, h3, h4, h5⟩ := h
  exact ⟨by rw [World.cell?_of_block (w := w) hh]; exact h0, by rw [World.cell?_of_block (w := w) hh]; exact h1, by rw [World.cell?_of_block (w := w) hh]; exact h2, by rw [World.cell?_of_block (w := w) hh]; exact h3, by rw [World.cell?_of_block (w := w) hh]; exact h4, by rw [World.cell?_of_block (w := w) hh]; exact h5⟩

/-- Whatever leaves these blocks leaves what is read. -/
theorem Sl.kept {w w' : World} {B : Nat → Prop} {l : List St} {v : Value} (h : Sl w B l v) (hk : ∀ b, B b → b < w.heap.size → w'.heap[b]? = w.heap[b]?) : Sl w' B l v := by
  induction h with
  | empty ao cap hm hn => exact .empty ao cap hm hn
  | full l b off cap X Y Z hb hl hc hm hs hcell hx ha hz iha ihz =>
    refine .full l b off cap X Y Z hb hl hc hm hs (fun i h => (hcell i h).kept (hk b hb ?_)) (fun i h => (hx i h).kept hk) iha ihz
    have h0 : 0 < l.length := List.length_pos_iff.2 hl
    exact World.block_lt_of_cell? w _ (hcell 0 h0).1

theorem Sl.grow {w w' : World} {B : Nat → Prop} {l : List St} {v : Value} (h : Sl w B l v) (hk : Below w.heap.size w w') : Sl w' B l v :=
  h.kept fun b _ hb => hk.block b hb

theorem Sl.imp {w : World} {B C : Nat → Prop} {l : List St} {v : Value} (h : Sl w B l v) (hk : ∀ b, B b → b < w.heap.size → C b) : Sl w C l v := by
  induction h with
  | empty ao cap hm hn => exact .empty ao cap hm hn
  | full l b off cap X Y Z hb hl hc hm hs hcell hx ha hz iha ihz =>
    have h0 : 0 < l.length := List.length_pos_iff.2 hl
    exact .full l b off cap X Y Z (hk b hb (World.block_lt_of_cell? w _ (hcell 0 h0).1)) hl hc hm hs hcell (fun i h => (hx i h).imp hk) iha ihz

theorem Sl.len {w : World} {B : Nat → Prop} {l : List St} {v : Value} (h : Sl w B l v) : ∃ ao cap, v = .slice ao l.length cap ∧ l.length ≤ cap ∧ cap ≤ maxLen ∧ (ao = none → cap = 0) := by
  cases h with
  | empty ao cap hm hn => exact ⟨ao, cap, rfl, Nat.zero_le _, hm, hn⟩
  | full _ b off cap X Y Z hb hl hc hm hs hcell hx ha hz => exact ⟨_, cap, rfl, hc, hm, fun h => by cases h⟩

theorem Sl.elems {w : World} {B : Nat → Prop} {l : List St} {ao : Option Addr} {n cap : Nat} (h : Sl w B l (.slice ao n cap)) (hl : l ≠ []) :
    ∃ (b off : Nat) (X Y Z : Nat → Value), ao = some ⟨b, off, none⟩ ∧ ∀ i (h : i < l.length), St6 w b (off + i * 6) l[i].k l[i].s l[i].t (X i) (Y i) (Z i) ∧ El w B l[i].x (X i) ∧ Sl w B l[i].a (Y i) ∧ Sl w B l[i].b (Z i) ∧ l[i].s.size ≤ maxLen ∧ l[i].t.size ≤ maxLen := by
  cases h with
  | empty _ _ _ _ => exact absurd rfl hl
  | full _ b off _ X Y Z hb hl hc hm hs hcell hx ha hz => exact ⟨b, off, X, Y, Z, rfl, fun i h => ⟨hcell i h, hx i h, ha i h, hz i h, hs i h⟩⟩

theorem Sl.zero (w : World) (B : Nat → Prop) : Sl w B [] (.slice none 0 0) := .empty none 0 (by simp) fun _ => rfl

section
variable {H : Type} {enc : TypeId × Value → H} {P : Program} {w : World} {sp : Nat → Bool} {held : Bool}

end
end Go.Proofs.Ytijpmnenegdmnaa
