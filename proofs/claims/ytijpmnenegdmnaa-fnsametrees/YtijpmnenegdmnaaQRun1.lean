/- Plain facts on numbers: wrapping to 32 bits, masks, groups of seven bits. Nothing of the program. A slice of bytes and what it reads: 'Bs w v zs': the value v is a slice whose bytes in the world w are the numbers zs. Regular expressions as trees, and what a slice of them reads: 'Rl w l v': the value v is a slice whose elements in the world w are the trees l. Terms as trees, and what a slice of them reads. The small functions of the laws over slices of bytes: a copy, whether two are the same, marks, whether marks are held. The small functions of the laws over regular expressions: how great one is, a copy, whether two are the same. A copy of a regular expression, by the laws' own function: it reads the same tree, in new blocks. The small functions of the laws over terms: how great one is, a copy of it, in new blocks. A term within a term. The cursor of a draw: a struct of the drawn bytes, a place in them and a number that is mixed on. Whatever it draws is a byte; nothing else turns. The cursor of a draw: one of some texts, and whether something comes once in so often. A cursor beside boxes of the call's own: what turns, and what stays. Drawn terms: those without parts that are drawn. Rows of drawn terms: one more appended, read as a list. An operation of a region taken first, its slot written out: so that the state stays small. Drawn terms: l8Draw. -/
import Derived.Laws.BitsLemmas
import Derived.Laws.Bits128
import Derived.Test.YtijpmnenegdmnaaRows
import Derived.WalkKit
import Derived.WalkLawsBesides
import Derived.ProofKit
import Derived.OpenShut
import Derived.Deep.QuietTactic
import Derived.BigQuiet
import Derived.Deep.Slices
import Derived.Deep.Strs
import Derived.WalkSmall
import Derived.Maps.AppendAt
import Derived.Deep.RegionHeld3
import Derived.Deep.CutBlock
namespace Go.Proofs.Ytijpmnenegdmnaa.Ma

/-- The number modulo 2^32, from -2^31 on. -/
def wr (n : Int) : Int := (n + 2147483648) % 4294967296 - 2147483648

theorem and255 (n : Int) : bits .and .i64 n 255 = n % 256 := by
  have hm : (BitVec.ofInt 64 255).toNat = 2 ^ 8 - 1 := by decide
  have key : (BitVec.ofInt 64 n &&& BitVec.ofInt 64 255).toNat = (n % ((2 ^ 64 : Nat) : Int)).toNat % 2 ^ 8 := by
    rw [BitVec.toNat_and, BitVec.toNat_ofInt, hm, Nat.and_two_pow_sub_one_eq_mod]
  show IntKind.i64.wrap ((BitVec.ofInt 64 n &&& BitVec.ofInt 64 255).toNat : Nat) = n % 256
  rw [key, IntKind.wrap_i64]
  omega

/-- A number in groups of seven bits, the lowest first, 128 added but for the last. -/
def uG : Nat → Int → List Int
  | 0, _ => []
  | f + 1, n => if 127 < n then (n % 128 + 128) :: uG f (n / 128) else [n]

def UG (n : Int) : List Int := uG 5 n

def clamp (n : Int) : Int := if n < 0 then 0 else if 2147483647 < n then 2147483647 else n

/-- A number with its sign in groups of seven bits. -/
def sG : Nat → Int → List Int
  | 0, _ => []
  | f + 1, n => if n < -64 ∨ 63 < n then (n % 128 + 128) :: sG f (n / 128) else [n % 128]

def SG (n : Int) : List Int := sG 5 n

end Go.Proofs.Ytijpmnenegdmnaa.Ma

namespace Go.Proofs.Ytijpmnenegdmnaa
open Go.RowKit

theorem Hid.mk {p : Prop} (h : p) : Hid p := h

def byteList (zs : List Int) : Prop := ∀ z ∈ zs, 0 ≤ z ∧ z ≤ 255

def Bs (w : World) (v : Value) (zs : List Int) : Prop :=
  byteList zs ∧ ∃ ao cap, v = .slice ao zs.length cap ∧ zs.length ≤ cap ∧ cap ≤ maxLen ∧ (ao = none → cap = 0) ∧
    (zs ≠ [] → ∃ b off, ao = some ⟨b, off, none⟩ ∧ ∀ i, i < zs.length → w.cell? ⟨b, off + i, none⟩ = some (.int .u8 (zs.getD i 0)))

/-- The cells of a list of bytes. -/
def U8 (zs : List Int) : List Value := zs.map (Value.int .u8)

theorem byteList.getD {zs : List Int} (h : byteList zs) (i : Nat) : 0 ≤ zs.getD i 0 ∧ zs.getD i 0 ≤ 255 := by
  by_cases hi : i < zs.length
  · have : zs.getD i 0 = zs[i] := by simp [List.getD, hi]
    rw [this]; exact h _ (List.getElem_mem hi)
  · have : zs.getD i 0 = 0 := by simp [List.getD, hi]
    omega

/-- The slice v owns the bytes xs, in a block from 'base' on. -/
def Own (w : World) (base : Nat) (v : Value) (xs : List Int) : Prop := w.ownsRow base 5 1 v xs.length (U8 xs)

/-- The block of a slice that is not empty. -/
theorem Bs.kept {w w' : World} {v : Value} {zs : List Int} (h : Bs w v zs) (hk : ∀ k, v.ownBlock = some k → w'.heap[k]? = w.heap[k]?) : Bs w' v zs := by
  obtain ⟨hb, ao, cap, rfl, hl, hm, hn, hc⟩ := h
  refine ⟨hb, ao, cap, rfl, hl, hm, hn, fun hne => ?_⟩
  obtain ⟨b, off, rfl, hcell⟩ := hc hne
  refine ⟨b, off, rfl, fun i hi => ?_⟩
  rw [World.cell?_of_block (w := w) (hk b rfl)]
  exact hcell i hi

theorem Bs.below {w w' : World} {v : Value} {zs : List Int} {B : Nat} (h : Bs w v zs) (hk : Below B w w') (hlt : ∀ k, v.ownBlock = some k → k < B) : Bs w' v zs :=
  h.kept fun k hv => hk.block k (hlt k hv)

/-- A slice that reads something lies in a block that is there. -/
theorem Bs.lt {w : World} {v : Value} {zs : List Int} (h : Bs w v zs) (hne : zs ≠ []) : ∀ k, v.ownBlock = some k → k < w.heap.size := by
  obtain ⟨hb, ao, cap, rfl, hl, hm, hn, hc⟩ := h
  obtain ⟨b, off, rfl, hcell⟩ := hc hne
  intro k hk
  simp [Value.ownBlock] at hk
  subst hk
  exact World.block_lt_of_cell? w _ (hcell 0 (by cases zs <;> simp_all))

/-- What lay there when the world was w reads the same behind whatever only adds blocks. -/
theorem Bs.grow {w w' : World} {v : Value} {zs : List Int} (h : Bs w v zs) (hk : Below w.heap.size w w') : Bs w' v zs := by
  by_cases hne : zs = []
  · obtain ⟨hb, ao, cap, rfl, hl, hm, hn, hc⟩ := h
    exact ⟨hb, ao, cap, rfl, hl, hm, hn, fun h => absurd hne h⟩
  · exact h.below hk (h.lt hne)

/-- A slice that lies elsewhere reads the same behind a write into one row. -/
theorem Bs.other {w w' : World} {v : Value} {zs : List Int} {row : Option Nat} (h : Bs w v zs) (hg : w.grownBy w' row) (hne : ∀ k, v.ownBlock = some k → some k ≠ row) : Bs w' v zs := by
  by_cases hz : zs = []
  · obtain ⟨hb, ao, cap, rfl, hl, hm, hn, hc⟩ := h
    exact ⟨hb, ao, cap, rfl, hl, hm, hn, fun h => absurd hz h⟩
  · exact h.kept fun k hk => hg.block k (h.lt hz k hk) (hne k hk)

theorem Below.drewSelf (B : Nat) (w : World) (n : Nat) : Below B w (w.drewN n) := ⟨rfl, rfl, rfl, Nat.le_refl _, fun _ _ => rfl⟩

end Go.Proofs.Ytijpmnenegdmnaa

namespace Go.Proofs.Ytijpmnenegdmnaa
open Go.RowKit

inductive Tr where
  | node (k : Int) (s : ByteArray) (l : List Tr)

def Tr.k : Tr → Int | .node k _ _ => k
def Tr.s : Tr → ByteArray | .node _ s _ => s
def Tr.l : Tr → List Tr | .node _ _ l => l

instance : Inhabited Tr := ⟨.node 0 ⟨#[]⟩ []⟩

/-- The three cells of one. -/
def At3 (w : World) (b o : Nat) (k : Int) (s : ByteArray) (v : Value) : Prop :=
  w.cell? ⟨b, o, none⟩ = some (.int .i64 k) ∧ w.cell? ⟨b, o + 1, none⟩ = some (.string s) ∧ w.cell? ⟨b, o + 2, none⟩ = some v

inductive Rl (w : World) (B : Nat → Prop) : List Tr → Value → Prop
  | empty (ao : Option Addr) (cap : Nat) (hm : cap ≤ maxLen) (hn : ao = none → cap = 0) : Rl w B [] (.slice ao 0 cap)
  | full (l : List Tr) (b off cap : Nat) (V : Nat → Value) (hb : B b) (hl : l ≠ []) (hc : l.length ≤ cap) (hm : cap ≤ maxLen)
      (hs : ∀ i (h : i < l.length), l[i].s.size ≤ maxLen)
      (hcell : ∀ i (h : i < l.length), At3 w b (off + i * 3) l[i].k l[i].s (V i))
      (hsub : ∀ i (h : i < l.length), Rl w B l[i].l (V i)) : Rl w B l (.slice (some ⟨b, off, none⟩) l.length cap)

/-- A regular expression as the program has it. -/
abbrev rx (k : Int) (s : ByteArray) (v : Value) : Value := .agg #[.int .i64 k, .string s, v]

abbrev anyBlock : Nat → Prop := fun _ => True

section
variable {H : Type} {enc : TypeId × Value → H} {P : Program} {w : World} {sp : Nat → Bool} {held : Bool}

end
end Go.Proofs.Ytijpmnenegdmnaa

namespace Go.Proofs.Ytijpmnenegdmnaa
open Go.RowKit

inductive Ex where
  | node (k n : Int) (s : ByteArray) (l : List Ex)

def Ex.k : Ex → Int | .node k _ _ _ => k
def Ex.n : Ex → Int | .node _ n _ _ => n
def Ex.s : Ex → ByteArray | .node _ _ s _ => s
def Ex.l : Ex → List Ex | .node _ _ _ l => l

instance : Inhabited Ex := ⟨.node 0 0 ⟨#[]⟩ []⟩

theorem Ex.eta : ∀ t : Ex, .node t.k t.n t.s t.l = t | .node _ _ _ _ => rfl

theorem Ex.ind {P : Ex → Prop} (h : ∀ t : Ex, (∀ x ∈ t.l, P x) → P t) : ∀ t, P t := by
  intro t
  exact Ex.rec (motive_1 := P) (motive_2 := fun l => ∀ x ∈ l, P x) (fun k n s l ih => h (.node k n s l) ih) (by simp) (fun a l ha hl => by
    intro x hx
    rcases List.mem_cons.1 hx with rfl | hx
    · exact ha
    · exact hl x hx) t

/-- The four cells of one. -/
def Xt4 (w : World) (b o : Nat) (k n : Int) (s : ByteArray) (v : Value) : Prop :=
  w.cell? ⟨b, o, none⟩ = some (.int .i64 k) ∧ w.cell? ⟨b, o + 1, none⟩ = some (.int .i64 n) ∧ w.cell? ⟨b, o + 2, none⟩ = some (.string s) ∧ w.cell? ⟨b, o + 3, none⟩ = some v

inductive El (w : World) (B : Nat → Prop) : List Ex → Value → Prop
  | empty (ao : Option Addr) (cap : Nat) (hm : cap ≤ maxLen) (hn : ao = none → cap = 0) : El w B [] (.slice ao 0 cap)
  | full (l : List Ex) (b off cap : Nat) (V : Nat → Value) (hb : B b) (hl : l ≠ []) (hc : l.length ≤ cap) (hm : cap ≤ maxLen)
      (hs : ∀ i (h : i < l.length), l[i].s.size ≤ maxLen)
      (hcell : ∀ i (h : i < l.length), Xt4 w b (off + i * 4) l[i].k l[i].n l[i].s (V i))
      (hsub : ∀ i (h : i < l.length), El w B l[i].l (V i)) : El w B l (.slice (some ⟨b, off, none⟩) l.length cap)

/-- A term as the program has it. -/
abbrev xx (k n : Int) (s : ByteArray) (v : Value) : Value := .agg #[.int .i64 k, .int .i64 n, .string s, v]

theorem Xt4.kept {w w' : World} {b o : Nat} {k n : Int} {s : ByteArray} {v : Value} (h : Xt4 w b o k n s v) (hh : w'.heap[b]? = w.heap[b]?) : Xt4 w' b o k n s v := by
  obtain ⟨h0, h1, h2, h3⟩ := h
  exact ⟨by rw [World.cell?_of_block (w := w) hh]; exact h0, by rw [World.cell?_of_block (w := w) hh]; exact h1, by rw [World.cell?_of_block (w := w) hh]; exact h2, by rw [World.cell?_of_block (w := w) hh]; exact h3⟩

/-- Whatever leaves these blocks leaves what is read. -/
theorem El.kept {w w' : World} {B : Nat → Prop} {l : List Ex} {v : Value} (h : El w B l v) (hk : ∀ b, B b → b < w.heap.size → w'.heap[b]? = w.heap[b]?) : El w' B l v := by
  induction h with
  | empty ao cap hm hn => exact .empty ao cap hm hn
  | full l b off cap V hb hl hc hm hs hcell hsub ih =>
    refine .full l b off cap V hb hl hc hm hs (fun i h => (hcell i h).kept (hk b hb ?_)) ih
    have h0 : 0 < l.length := List.length_pos_iff.2 hl
    exact World.block_lt_of_cell? w _ (hcell 0 h0).1

theorem El.grow {w w' : World} {B : Nat → Prop} {l : List Ex} {v : Value} (h : El w B l v) (hk : Below w.heap.size w w') : El w' B l v :=
  h.kept fun b _ hb => hk.block b hb

theorem El.imp {w : World} {B C : Nat → Prop} {l : List Ex} {v : Value} (h : El w B l v) (hk : ∀ b, B b → b < w.heap.size → C b) : El w C l v := by
  induction h with
  | empty ao cap hm hn => exact .empty ao cap hm hn
  | full l b off cap V hb hl hc hm hs hcell hsub ih =>
    have h0 : 0 < l.length := List.length_pos_iff.2 hl
    exact .full l b off cap V (hk b hb (World.block_lt_of_cell? w _ (hcell 0 h0).1)) hl hc hm hs hcell ih

theorem El.len {w : World} {B : Nat → Prop} {l : List Ex} {v : Value} (h : El w B l v) : ∃ ao cap, v = .slice ao l.length cap ∧ l.length ≤ cap ∧ cap ≤ maxLen ∧ (ao = none → cap = 0) := by
  cases h with
  | empty ao cap hm hn => exact ⟨ao, cap, rfl, Nat.zero_le _, hm, hn⟩
  | full _ b off cap V hb hl hc hm hs hcell hsub => exact ⟨_, cap, rfl, hc, hm, fun h => by cases h⟩

theorem El.elems {w : World} {B : Nat → Prop} {l : List Ex} {ao : Option Addr} {n cap : Nat} (h : El w B l (.slice ao n cap)) (hl : l ≠ []) :
    ∃ (b off : Nat) (V : Nat → Value), ao = some ⟨b, off, none⟩ ∧ ∀ i (h : i < l.length), Xt4 w b (off + i * 4) l[i].k l[i].n l[i].s (V i) ∧ El w B l[i].l (V i) ∧ l[i].s.size ≤ maxLen := by
  cases h with
  | empty _ _ _ _ => exact absurd rfl hl
  | full _ b off _ V hb hl hc hm hs hcell hsub => exact ⟨b, off, V, rfl, fun i h => ⟨hcell i h, hsub i h, hs i h⟩⟩

theorem El.zero (w : World) (B : Nat → Prop) : El w B [] (.slice none 0 0) := .empty none 0 (by simp) fun _ => rfl

section
variable {H : Type} {enc : TypeId × Value → H} {P : Program} {w : World} {sp : Nat → Bool} {held : Bool}

end
end Go.Proofs.Ytijpmnenegdmnaa

namespace Go.Proofs.Ytijpmnenegdmnaa
open Go.RowKit

/-- The marks that 'markByteS' lays: k, k+1, .. as bytes. -/
def marks (k : Int) (n : Nat) : List Int := (List.range n).map fun (i : Nat) => (k + (i : Int)) % 256

end Go.Proofs.Ytijpmnenegdmnaa

namespace Go.Proofs.Ytijpmnenegdmnaa
open Go.RowKit
set_option maxRecDepth 8000

mutual
def Tr.sz : Tr → Nat
  | .node _ s l => s.size + szs l
def szs : List Tr → Nat
  | [] => 0
  | t :: r => 1 + t.sz + szs r
end

/-- What is left of a room behind so much. -/
def leftOf (left : Int) (n : Nat) : Int := if left < n then -1 else left - n

end Go.Proofs.Ytijpmnenegdmnaa

namespace Go.Proofs.Ytijpmnenegdmnaa
open Go.RowKit
set_option maxRecDepth 8000

def newFrom (n : Nat) : Nat → Prop := fun b => n ≤ b

/-- New blocks, none of them frozen. -/
def nf (w : World) (n b : Nat) : Prop := n ≤ b ∧ ∀ o, w.frozen? ⟨b, o, none⟩ = false

/-- The first k of a row of expressions are laid. -/
def Fill (wr : World) (g : Nat) (e : TypeId) (l : List Tr) (k : Nat) : Prop :=
  ∃ (xs : List Value) (V : Nat → Value), wr.ownsRow g e 3 (.slice (some ⟨g, 0, none⟩) l.length l.length) l.length xs ∧
    ∀ i (h : i < l.length), i < k → (xs[i * 3]? = some (.int .i64 l[i].k) ∧ xs[i * 3 + 1]? = some (.string l[i].s) ∧ xs[i * 3 + 2]? = some (V i)) ∧ Rl wr (nf wr (g + 1)) l[i].l (V i)

theorem own_grow {w w' : World} {base : Nat} {e : TypeId} {c n : Nat} {v : Value} {xs : List Value} (h : w.ownsRow base e c v n xs) (hk : Below w.heap.size w w') : w'.ownsRow base e c v n xs :=
  World.ownsRow.kept (row := none) h ⟨hk.os, hk.tape, hk.output, hk.size, fun k h1 _ => hk.block k h1⟩ (by cases hv : v.ownBlock <;> simp)

end Go.Proofs.Ytijpmnenegdmnaa

namespace Go.Proofs.Ytijpmnenegdmnaa
open Go.RowKit
set_option maxRecDepth 8000

mutual
def Ex.sz : Ex → Nat
  | .node _ _ s l => s.size + szx l
def szx : List Ex → Nat
  | [] => 0
  | t :: r => 1 + t.sz + szx r
end

theorem Ex.sz_eq (t : Ex) : t.sz = t.s.size + szx t.l := by cases t; rw [Ex.sz]; rfl
theorem szx_take (l : List Ex) (k : Nat) (h : k < l.length) : szx (l.take (k + 1)) = szx (l.take k) + 1 + l[k].sz := by
  induction l generalizing k with
  | nil => simp at h
  | cons t r ih =>
    cases k with
    | zero => simp [szx]
    | succ k =>
      have := ih k (by simpa using h)
      simp only [List.take_succ_cons, szx, List.getElem_cons_succ]
      omega
theorem szx_take_le (l : List Ex) (k : Nat) : szx (l.take k) ≤ szx l := by
  induction l generalizing k with
  | nil => simp
  | cons t r ih =>
    cases k with
    | zero => simp [szx]
    | succ k => have := ih k; simp only [List.take_succ_cons, szx]; omega
theorem szx_length (l : List Ex) : l.length ≤ szx l := by
  induction l with
  | nil => simp
  | cons t r ih => simp only [List.length_cons, szx]; omega
end Go.Proofs.Ytijpmnenegdmnaa

namespace Go.Proofs.Ytijpmnenegdmnaa
open Go.RowKit
set_option maxRecDepth 8000

theorem El.nfgrow {w w' : World} {n : Nat} {l : List Ex} {v : Value} (h : El w (nf w n) l v) (hk : Below w.heap.size w w') : El w' (nf w' n) l v :=
  (h.imp (C := nf w' n) fun b hb hlt => ⟨hb.1, fun o => by rw [hk.frozen (p := ⟨b, o, none⟩) hlt]; exact hb.2 o⟩).grow hk

/-- The first k of a row of expressions are laid. -/
def FilX (wr : World) (g : Nat) (e : TypeId) (l : List Ex) (k : Nat) : Prop :=
  ∃ (xs : List Value) (V : Nat → Value), wr.ownsRow g e 4 (.slice (some ⟨g, 0, none⟩) l.length l.length) l.length xs ∧
    ∀ i (h : i < l.length), i < k → (xs[i * 4]? = some (.int .i64 l[i].k) ∧ xs[i * 4 + 1]? = some (.int .i64 l[i].n) ∧ xs[i * 4 + 2]? = some (.string l[i].s) ∧ xs[i * 4 + 3]? = some (V i)) ∧ El wr (nf wr (g + 1)) l[i].l (V i)

theorem infoExpr : (Try.prog.info? 26).map (fun i => (i.zero, i.size, i.bytes)) = some (some (xx 0 0 ⟨#[]⟩ (.slice none 0 0)), 4, 56) := by kernel_rfl

end Go.Proofs.Ytijpmnenegdmnaa

namespace Go.Proofs.Ytijpmnenegdmnaa

/-- A term within a term. -/
inductive InX : Ex → Ex → Prop
  | self (t : Ex) : InX t t
  | sub {x y t : Ex} (h : y ∈ t.l) (hx : InX x y) : InX x t
end Go.Proofs.Ytijpmnenegdmnaa

namespace Go.Proofs.Ytijpmnenegdmnaa
open Go.RowKit

/-- The cursor in block cb over the bytes zs. -/
def Cur (w : World) (cb : Nat) (v : Value) (zs : List Int) : Prop :=
  Bs w v zs ∧ zs.length ≤ 1048576 ∧ (zs ≠ [] → ∀ k, v.ownBlock = some k → k ≠ cb) ∧
    ∃ i h : Int, 0 ≤ i ∧ i ≤ zs.length ∧ w.heap[cb]? = some (.cells #[v, .int .i64 i, .int .i64 h] 69 (0, 0))

theorem grownBy_trans {a b c : World} {row : Option Nat} (h : a.grownBy b row) (k : b.grownBy c row) : a.grownBy c row :=
  ⟨k.os.trans h.os, k.tape.trans h.tape, k.output.trans h.output, Nat.le_trans h.size k.size, fun j hj hne => (k.block j (Nat.lt_of_lt_of_le hj h.size) hne).trans (h.block j hj hne)⟩

theorem grownBy_drewN {a b : World} {row : Option Nat} (h : a.grownBy b row) (n : Nat) : a.grownBy (b.drewN n) row := ⟨h.os, h.tape, h.output, h.size, h.block⟩

theorem grownBy_setCell (w : World) (cb j : Nat) (u : Value) : w.grownBy (w.setCell ⟨cb, j, none⟩ u) (some cb) :=
  ⟨rfl, rfl, rfl, by simp [World.setCell], fun k _ hk => Below.heap_setCell w _ u k (fun e => hk (by rw [e]))⟩

theorem Bs.other' {w w' : World} {v : Value} {zs : List Int} {row : Option Nat} (h : Bs w v zs) (hg : w.grownBy w' row) (hne : zs ≠ [] → ∀ k, v.ownBlock = some k → some k ≠ row) : Bs w' v zs := by
  by_cases hz : zs = []
  · obtain ⟨hb, ao, cap, rfl, hl, hm, hn, hc⟩ := h
    exact ⟨hb, ao, cap, rfl, hl, hm, hn, fun h => absurd hz h⟩
  · exact h.other hg (hne hz)

/-- A cursor whose block has turned to this. -/
theorem Cur.turned {w w' : World} {cb : Nat} {v : Value} {zs : List Int} (h : Cur w cb v zs) (hg : w.grownBy w' (some cb)) (i q : Int) (h0 : 0 ≤ i) (h1 : i ≤ zs.length)
    (hc : w'.heap[cb]? = some (.cells #[v, .int .i64 i, .int .i64 q] 69 (0, 0))) : Cur w' cb v zs :=
  ⟨h.1.other' hg (fun hz k hk e => h.2.2.1 hz k hk (Option.some.inj e)), h.2.1, h.2.2.1, i, q, h0, h1, hc⟩

set_option maxHeartbeats 1000000 in
theorem l1Byte_any (cb : Nat) (v : Value) (zs : List Int) (w : World) (h : Cur w cb v zs) :
    Calls Try.prog 44 #[.pointer (some ⟨cb, 0, none⟩)] w fun e w' => ∃ x : Int, e = .returned (.int .i64 x) ∧ 0 ≤ x ∧ x ≤ 255 ∧ Cur w' cb v zs ∧ w.grownBy w' (some cb) := by
  have H := Hid.mk h
  obtain ⟨hbs, hlen, hne, i, q, hi0, hi1, hcb⟩ := h
  obtain ⟨hb, ao, cap, hv, hl, hm, hn, hc⟩ := hbs
  subst hv
  have c0 : w.cell? ⟨cb, 0, none⟩ = some (.slice ao zs.length cap) := by rw [cell_of_row w cb 0 _ _ _ hcb]; rfl
  have c1 : w.cell? ⟨cb, 1, none⟩ = some (.int .i64 i) := by rw [cell_of_row w cb 1 _ _ _ hcb]; rfl
  have c2 : w.cell? ⟨cb, 2, none⟩ = some (.int .i64 q) := by rw [cell_of_row w cb 2 _ _ _ hcb]; rfl
  have f1 : w.frozen? ⟨cb, 1, none⟩ = false := frozen_of_row w cb 1 _ _ hcb
  have f2 : w.frozen? ⟨cb, 2, none⟩ = false := frozen_of_row w cb 2 _ _ hcb
  have e255 := Ma.and255
  unfold maxLen at hm
  obtain ⟨X, hX⟩ : ∃ X, wrap64 (wrap64 (q * 6364136223846793005) + 1442695040888963407) = X := ⟨_, rfl⟩
  have hg2 := grownBy_setCell w cb 2 (.int .i64 X)
  have hh2 := heap_setCell_same w cb 2 _ _ (.int .i64 X) hcb
  by_cases hlt : i < zs.length
  · obtain ⟨p, rfl⟩ := Int.eq_ofNat_of_zero_le hi0
    have hz : zs ≠ [] := by intro h0; rw [h0] at hlt; simp at hlt; omega
    obtain ⟨b, off, rfl, hcell⟩ := hc hz
    have hbc : b ≠ cb := hne hz b rfl
    obtain ⟨c, Hc⟩ : ∃ c, Hid (zs.getD p 0 = c) := ⟨_, rfl⟩
    have hcb2 := hb.getD p
    rw [Hc.out] at hcb2
    obtain ⟨hc0, hc1⟩ := hcb2
    have hbyte : ∀ Y, (w.setCell ⟨cb, 2, none⟩ Y).cell? ⟨b, off + p, none⟩ = some (.int .u8 c) := fun Y => by
      rw [World.cell?_of_block (w := w) (Below.heap_setCell w _ Y b hbc), ← Hc.out]
      exact hcell p (by omega)
    have hplt : (p : Int) < (zs.length : Int) := hlt
    have hg1 := grownBy_setCell (w.setCell ⟨cb, 2, none⟩ (.int .i64 X)) cb 1 (.int .i64 ((p : Int) + 1))
    have hh1 := heap_setCell_same (w.setCell ⟨cb, 2, none⟩ (.int .i64 X)) cb 1 _ _ (.int .i64 ((p : Int) + 1)) hh2
    have HE : Hid (∀ n, Cur (((w.setCell ⟨cb, 2, none⟩ (.int .i64 X)).drewN n).setCell ⟨cb, 1, none⟩ (.int .i64 ((p : Int) + 1))) cb (.slice (some ⟨b, off, none⟩) zs.length cap) zs ∧
        w.grownBy (((w.setCell ⟨cb, 2, none⟩ (.int .i64 X)).drewN n).setCell ⟨cb, 1, none⟩ (.int .i64 ((p : Int) + 1))) (some cb)) := fun n => by
      have hg : w.grownBy (((w.setCell ⟨cb, 2, none⟩ (.int .i64 X)).drewN n).setCell ⟨cb, 1, none⟩ (.int .i64 ((p : Int) + 1))) (some cb) := grownBy_drewN (grownBy_trans hg2 hg1) n
      refine ⟨H.out.turned hg ((p : Int) + 1) X (by omega) (by omega) ?_, hg⟩
      exact hh1
    clear hc hne hcell hg1 hg2 hh1 hh2 hcb
    go_enter Try.func44, Try.ntmps44
    go_wp2
    go_quiet (fail)
    go_wp2
    go_quiet (fail)
    go_wp2
    go_quiet (fail)
    go_wp2
    go_ret
    refine ⟨_, rfl, Int.emod_nonneg _ (by decide), by omega, ?_⟩
    first | exact HE.out _ | (rw [World.drewN_drewN]; exact HE.out _)
  · have HE : Hid (∀ n, Cur ((w.setCell ⟨cb, 2, none⟩ (.int .i64 X)).drewN n) cb (.slice ao zs.length cap) zs ∧ w.grownBy ((w.setCell ⟨cb, 2, none⟩ (.int .i64 X)).drewN n) (some cb)) := fun n => by
      have hg := grownBy_drewN hg2 n
      refine ⟨H.out.turned hg i X hi0 hi1 ?_, hg⟩
      exact hh2
    clear hc hne hg2 hh2 hcb
    go_enter Try.func44, Try.ntmps44
    go_wp2
    go_quiet (fail)
    go_wp2
    go_quiet (fail)
    go_wp2
    go_ret
    refine ⟨_, rfl, Int.emod_nonneg _ (by decide), by omega, ?_⟩
    first | exact HE.out _ | (rw [World.drewN_drewN]; exact HE.out _)

set_option maxHeartbeats 1000000 in
theorem l1New_any (v : Value) (zs : List Int) (w : World) (h : Bs w v zs) (hlen : zs.length ≤ 1048576) :
    Calls Try.prog 14 #[v] w fun e w' => e = .returned (.pointer (some ⟨w.heap.size, 0, none⟩)) ∧ Cur w' w.heap.size v zs ∧ Below w.heap.size w w' := by
  have H := Hid.mk h
  have Hlt := Hid.mk h.lt
  obtain ⟨hb, ao, cap, hv, hl, hm, hn, hc⟩ := h
  subst hv
  unfold maxLen at hm
  have HE : Hid (∀ q : Int, Cur (w.alloc (.cells #[.slice ao zs.length cap, .int .i64 0, .int .i64 q] 69)) w.heap.size (.slice ao zs.length cap) zs) := fun q => by
    refine ⟨H.out.grow ((Below.refl _ _).alloc (Nat.le_refl _) _), hlen, fun hz k hk => by have := Hlt.out hz k hk; omega, 0, q, by omega, by omega, ?_⟩
    exact heap_alloc_new w _
  clear Hlt
  go_enter Try.func14, Try.ntmps14
  go_wp2
  go_loop [3, 4] (fun hq i => ∃ (k : Nat) (q : Int), k ≤ zs.length ∧ i = .int .i64 k ∧ hq = .int .i64 q) (fun _ i => zs.length - (intOf i).toNat)
  case atStart => exact ⟨0, _, Nat.zero_le _, rfl, rfl⟩
  case round =>
    obtain ⟨k, q, hk, rfl, rfl⟩ := hrel
    by_cases hlt : k < zs.length
    · by_cases h4 : (k : Int) < 4000
      · obtain ⟨b, off, rfl, hcell⟩ := hc (by intro h0; rw [h0] at hlt; simp at hlt)
        obtain ⟨c, Hc⟩ : ∃ c, Hid (zs.getD k 0 = c) := ⟨_, rfl⟩
        have h1 : w.cell? ⟨b, off + k, none⟩ = some (.int .u8 c) := by rw [← Hc.out]; exact hcell k hlt
        clear hc hcell
        go_wp2
        go_round
        case rel => exact ⟨k + 1, _, by omega, by go_num, rfl⟩
        case measure => simp [intOf]; omega
      · clear hc
        go_wp2
        go_ret
        exact ⟨rfl, HE.out q, (Below.refl _ _).alloc (Nat.le_refl _) _⟩
    · clear hc
      go_wp2
      go_ret
      exact ⟨rfl, HE.out q, (Below.refl _ _).alloc (Nat.le_refl _) _⟩

set_option maxHeartbeats 1000000 in
theorem l1Below_any (cb : Nat) (v : Value) (zs : List Int) (n : Int) (w : World) (h : Cur w cb v zs) :
    Calls Try.prog 29 #[.pointer (some ⟨cb, 0, none⟩), .int .i64 n] w fun e w' => ∃ x : Int, e = .returned (.int .i64 x) ∧ 0 ≤ x ∧ (0 < n → x < n) ∧ (n ≤ 0 → x = 0) ∧ Cur w' cb v zs ∧ w.grownBy w' (some cb) := by
  have H := Hid.mk h
  clear h
  rcases (by omega : n ≤ 0 ∨ (0 < n ∧ n ≤ 256) ∨ (0 < n ∧ 256 < n)) with hn | ⟨hn, hn2⟩ | ⟨hn, hn2⟩
  · go_enter Try.func29, Try.ntmps29
    go_wp2
    go_ret
    exact ⟨0, rfl, by omega, by omega, fun _ => rfl, H.out, World.grownBy.refl _ _⟩
  · go_enter Try.func29, Try.ntmps29
    go_wp2_with fail
    refine (l1Byte_any cb v zs w H.out).mono ?_
    rintro e w1 ⟨x, rfl, hx0, hx1, hC, hg⟩
    have HC := Hid.mk hC
    have HG := Hid.mk hg
    clear hC hg
    go_wp2
    go_ret
    exact ⟨_, rfl, Int.emod_nonneg _ (by omega), fun _ => Int.emod_lt_of_pos _ hn, by omega, HC.out, HG.out⟩
  · go_enter Try.func29, Try.ntmps29
    go_wp2_with fail
    refine (l1Byte_any cb v zs w H.out).mono ?_
    rintro e w1 ⟨x, rfl, hx0, hx1, hC, hg⟩
    have HC := Hid.mk hC
    have HG := Hid.mk hg
    clear hC hg
    go_wp2_with fail
    refine (l1Byte_any cb v zs w1 HC.out).mono ?_
    rintro e w2 ⟨y, rfl, hy0, hy1, hC, hg⟩
    have HC2 := Hid.mk hC
    have HG2 := Hid.mk (grownBy_trans HG.out hg)
    clear hC hg HC HG
    go_wp2_with fail
    refine (l1Byte_any cb v zs w2 HC2.out).mono ?_
    rintro e w3 ⟨z, rfl, hz0, hz1, hC, hg⟩
    have HC3 := Hid.mk hC
    have HG3 := Hid.mk (grownBy_trans HG2.out hg)
    clear hC hg HC2 HG2
    go_wp2
    go_ret
    exact ⟨_, rfl, Int.emod_nonneg _ (by omega), fun _ => Int.emod_lt_of_pos _ hn, by omega, HC3.out, HG3.out⟩

/-- A cursor behind whatever leaves its block and its bytes' block alone. -/
theorem Cur.grow {w w' : World} {cb : Nat} {v : Value} {zs : List Int} (h : Cur w cb v zs) (hk : Below w.heap.size w w') : Cur w' cb v zs := by
  obtain ⟨hbs, hlen, hne, i, q, h0, h1, hc⟩ := h
  refine ⟨hbs.grow hk, hlen, hne, i, q, h0, h1, ?_⟩
  rw [hk.block cb (Array.getElem?_eq_some_iff.1 hc).1]
  exact hc
theorem Cur.lt {w : World} {cb : Nat} {v : Value} {zs : List Int} (h : Cur w cb v zs) : cb < w.heap.size := by
  obtain ⟨_, _, _, i, q, _, _, hc⟩ := h
  exact (Array.getElem?_eq_some_iff.1 hc).1

/-- A list of numbers in a block of its own. -/
def Nums (w : World) (lb : Nat) (xs : List Int) : Prop := w.heap[lb]? = some (.cells (xs.map (Value.int .i64)).toArray 3 (0, 0))

set_option maxHeartbeats 1000000 in
theorem l1Int_any (cb lb n : Nat) (v : Value) (zs xs : List Int) (w : World) (h : Cur w cb v zs) (hn : n = xs.length) (hpos : 0 < n) (hbig : n ≤ 1000) (hx : Nums w lb xs) (hne : lb ≠ cb) :
    Calls Try.prog 31 #[.pointer (some ⟨cb, 0, none⟩), .slice (some ⟨lb, 0, none⟩) n n] w fun e w' => ∃ x : Int, e = .returned (.int .i64 x) ∧ x ∈ xs ∧ Cur w' cb v zs ∧ w.grownBy w' (some cb) := by
  have H := Hid.mk h
  have HX := Hid.mk hx
  clear h hx
  have Hn := Hid.mk hn
  clear hn
  go_enter Try.func31, Try.ntmps31
  go_wp2_with fail
  refine (l1Below_any cb v zs (n : Int) w H.out).mono ?_
  rintro e w1 ⟨x, rfl, hx0, hx1, -, hC, hg⟩
  obtain ⟨p, rfl⟩ := Int.eq_ofNat_of_zero_le hx0
  have hp : p < n := by have := hx1 (by omega); omega
  have hbl : w1.heap[lb]? = w.heap[lb]? := hg.block lb (Array.getElem?_eq_some_iff.1 HX.out).1 (fun e => hne (Option.some.inj e))
  obtain ⟨y, Hy⟩ : ∃ y, Hid (xs.getD p 0 = y) := ⟨_, rfl⟩
  have hcell : w1.cell? ⟨lb, p, none⟩ = some (.int .i64 y) := by
    have h1 := HX.out
    unfold Nums at h1
    rw [cell_of_row w1 lb p _ _ _ (hbl.trans h1), ← Hy.out]
    have := Hn.out
    simp [List.getD, show p < xs.length by omega]
  have hmem : y ∈ xs := by
    have := Hn.out
    rw [← Hy.out]
    have e : xs.getD p 0 = xs[p]'(by omega) := by simp [List.getD, show p < xs.length by omega]
    rw [e]; exact List.getElem_mem _
  have HC := Hid.mk hC
  have HG := Hid.mk hg
  have HM := Hid.mk hmem
  clear hC hg hx1 hbl hmem
  go_wp2
  go_ret
  exact ⟨y, rfl, HM.out, HC.out, HG.out⟩
theorem big_any (v : Value) (zs : List Int) (w : World) (h : Bs w v zs) :
    Calls Try.prog 4 #[v] w fun e w' => e = .returned (.bool (decide ((1048576 : Int) < zs.length))) ∧ w' = w := by
  obtain ⟨ao, cap, rfl⟩ : ∃ ao cap, v = .slice ao zs.length cap := by obtain ⟨_, ao, cap, e, _⟩ := h; exact ⟨ao, cap, e⟩
  clear h
  go_enter Try.func4, Try.ntmps4
  go_wp2
  go_ret
  exact ⟨rfl, rfl⟩
end Go.Proofs.Ytijpmnenegdmnaa

namespace Go.Proofs.Ytijpmnenegdmnaa
open Go.RowKit
set_option maxRecDepth 8000

/-- Blocks other than the cursor's stay. -/
theorem gcell {W w1 : World} {cb : Nat} (hg : W.grownBy w1 (some cb)) (b : Nat) (hb : b < W.heap.size) (hne : b ≠ cb) :
    (∀ o, w1.cell? ⟨b, o, none⟩ = W.cell? ⟨b, o, none⟩) ∧ (∀ o, w1.frozen? ⟨b, o, none⟩ = W.frozen? ⟨b, o, none⟩) :=
  ⟨fun o => World.cell?_of_block (a := ⟨b, o, none⟩) (hg.block b hb (fun e => hne (Option.some.inj e))), fun o => World.frozen?_of_block (a := ⟨b, o, none⟩) (hg.block b hb (fun e => hne (Option.some.inj e)))⟩

/-- A list of texts in a block of its own. -/
def Strs (w : World) (lb : Nat) (xs : List ByteArray) : Prop := w.heap[lb]? = some (.cells (xs.map Value.string).toArray 9 (0, 0))

set_option maxHeartbeats 1000000 in
theorem l1Str_any (cb lb n : Nat) (v : Value) (zs : List Int) (xs : List ByteArray) (w : World) (h : Cur w cb v zs) (hn : n = xs.length) (hpos : 0 < n) (hbig : n ≤ 1000) (hx : Strs w lb xs) (hne : lb ≠ cb) :
    Calls Try.prog 30 #[.pointer (some ⟨cb, 0, none⟩), .slice (some ⟨lb, 0, none⟩) n n] w fun e w' => ∃ x : ByteArray, e = .returned (.string x) ∧ x ∈ xs ∧ Cur w' cb v zs ∧ w.grownBy w' (some cb) := by
  have H := Hid.mk h
  have HX := Hid.mk hx
  clear h hx
  have Hn := Hid.mk hn
  clear hn
  go_enter Try.func30, Try.ntmps30
  go_wp2_with fail
  refine (l1Below_any cb v zs (n : Int) w H.out).mono ?_
  rintro e w1 ⟨x, rfl, hx0, hx1, -, hC, hg⟩
  obtain ⟨p, rfl⟩ := Int.eq_ofNat_of_zero_le hx0
  have hp : p < n := by have := hx1 (by omega); omega
  have hbl : w1.heap[lb]? = w.heap[lb]? := hg.block lb (Array.getElem?_eq_some_iff.1 HX.out).1 (fun e => hne (Option.some.inj e))
  obtain ⟨y, Hy⟩ : ∃ y, Hid (xs[p]? = some y) := ⟨_, List.getElem?_eq_getElem (by have := Hn.out; omega)⟩
  have hcell : w1.cell? ⟨lb, p, none⟩ = some (.string y) := by
    have h1 := HX.out
    unfold Strs at h1
    rw [cell_of_row w1 lb p _ _ _ (hbl.trans h1)]
    simp [Hy.out]
  have hmem : y ∈ xs := List.mem_of_getElem? Hy.out
  have HC := Hid.mk hC
  have HG := Hid.mk hg
  have HM := Hid.mk hmem
  clear hC hg hx1 hbl hmem
  go_wp2
  go_ret
  exact ⟨y, rfl, HM.out, HC.out, HG.out⟩

theorem l1Once_any (cb : Nat) (v : Value) (zs : List Int) (n : Int) (w : World) (h : Cur w cb v zs) :
    Calls Try.prog 16 #[.pointer (some ⟨cb, 0, none⟩), .int .i64 n] w fun e w' => ∃ b : Bool, e = .returned (.bool b) ∧ Cur w' cb v zs ∧ w.grownBy w' (some cb) := by
  have H := Hid.mk h
  clear h
  go_enter Try.func16, Try.ntmps16
  go_wp2_with fail
  refine (l1Below_any cb v zs n w H.out).mono ?_
  rintro e w1 ⟨x, rfl, -, -, -, hC, hg⟩
  have HC := Hid.mk hC
  have HG := Hid.mk hg
  clear hC hg
  go_wp2
  go_ret
  exact ⟨_, rfl, HC.out, HG.out⟩
end Go.Proofs.Ytijpmnenegdmnaa

namespace Go.Proofs.Ytijpmnenegdmnaa
open Go.RowKit

theorem gy_below {w w' w'' : World} {R : Nat} (h : w.grownBy w' (some R)) (hb : Below w'.heap.size w' w'') : w.grownBy w'' (some R) :=
  ⟨hb.os.trans h.os, hb.tape.trans h.tape, hb.output.trans h.output, Nat.le_trans h.size hb.size, fun k hk hne => (hb.block k (Nat.lt_of_lt_of_le hk h.size)).trans (h.block k hk hne)⟩
theorem gy_alloc (w : World) (R : Nat) (o : Obj) : w.grownBy (w.alloc o) (some R) := World.grownBy_alloc w o _
theorem gy_new {w w' : World} {R : Nat} (h : w.grownBy w' (some R)) (o : Obj) : w.grownBy (w'.alloc o) (some R) := gy_below h ((Below.refl _ _).alloc (Nat.le_refl _) _)
/-- A turn of a block that wasn't there. -/
theorem gy_far {w w' w'' : World} {R g : Nat} (h : w.grownBy w' (some R)) (k : w'.grownBy w'' (some g)) (hg : w.heap.size ≤ g) : w.grownBy w'' (some R) :=
  ⟨k.os.trans h.os, k.tape.trans h.tape, k.output.trans h.output, Nat.le_trans h.size k.size, fun j hj hne => (k.block j (Nat.lt_of_lt_of_le hj h.size) (by rintro e; simp at e; omega)).trans (h.block j hj hne)⟩
theorem Cur.row {w w' : World} {cb : Nat} {v : Value} {zs : List Int} {row : Option Nat} (h : Cur w cb v zs) (hg : w.grownBy w' row) (hr : ∀ g, row = some g → g ≠ cb ∧ (zs ≠ [] → ∀ k, v.ownBlock = some k → k ≠ g)) : Cur w' cb v zs := by
  have hlt := h.lt
  obtain ⟨hbs, hlen, hne, i, q, h0, h1, hc⟩ := h
  refine ⟨hbs.other' hg (fun hz k hk e => (hr k e.symm).2 hz k hk rfl), hlen, hne, i, q, h0, h1, ?_⟩
  rw [hg.block cb hlt (fun e => (hr cb e.symm).1 rfl)]; exact hc
theorem gb_set (w : World) (b o : Nat) (u : Value) : w.grownBy (w.setCell ⟨b, o, none⟩ u) (some b) := grownBy_setCell w b o u
theorem gy_row {w w' w'' : World} {R : Nat} {row : Option Nat} (h : w.grownBy w' (some R)) (k : w'.grownBy w'' row) (hr : ∀ g, row = some g → w.heap.size ≤ g) : w.grownBy w'' (some R) :=
  ⟨k.os.trans h.os, k.tape.trans h.tape, k.output.trans h.output, Nat.le_trans h.size k.size, fun j hj hne => (k.block j (Nat.lt_of_lt_of_le hj h.size) (fun e => by have := hr j e.symm; omega)).trans (h.block j hj hne)⟩
end Go.Proofs.Ytijpmnenegdmnaa

namespace Go.Proofs.Ytijpmnenegdmnaa
open Go.RowKit
set_option maxRecDepth 8000

/-- The texts within are short, and there are not many parts: as many as m levels may have. -/
def DxS (m : Nat) (t : Ex) : Prop := (∀ x, InX x t → x.s.size ≤ 100) ∧ t.sz ≤ 400 * 5 ^ m
theorem DxS.mono {m m' : Nat} {t : Ex} (h : DxS m t) (hm : m ≤ m') : DxS m' t := ⟨h.1, Nat.le_trans h.2 (Nat.mul_le_mul_left _ (Nat.pow_le_pow_right (by omega) hm))⟩
theorem DxS.leaf {k n : Int} {s : ByteArray} (hs : s.size ≤ 100) : DxS 0 (.node k n s []) := by
  refine ⟨fun x hx => ?_, by simp [Ex.sz, szx]; omega⟩
  cases hx with
  | self => exact hs
  | sub h hx => cases h
theorem szx_le {m : Nat} {l : List Ex} (hl : ∀ x ∈ l, DxS m x) : szx l ≤ l.length * (1 + 400 * 5 ^ m) := by
  induction l with
  | nil => simp [szx]
  | cons x l ih =>
    have h1 := (hl x (by simp)).2
    have h2 := ih fun y hy => hl y (List.mem_cons_of_mem _ hy)
    simp only [szx, List.length_cons, Nat.add_mul, Nat.one_mul]
    rw [Nat.add_comm (l.length * _)] at *
    omega
theorem DxS.node {m : Nat} {k n : Int} {s : ByteArray} {l : List Ex} (hs : s.size ≤ 100) (hn : l.length ≤ 3) (hl : ∀ x ∈ l, DxS m x) : DxS (m + 1) (.node k n s l) := by
  refine ⟨fun x hx => ?_, ?_⟩
  · cases hx with
    | self => exact hs
    | sub h hx => exact (hl _ h).1 x hx
  · have h1 := szx_le hl
    have h2 : l.length * (1 + 400 * 5 ^ m) ≤ 3 * (1 + 400 * 5 ^ m) := Nat.mul_le_mul_right _ hn
    have h3 : 1 ≤ 5 ^ m := Nat.one_le_pow _ _ (by omega)
    rw [Ex.sz, Nat.pow_succ]
    omega

/-- A list of terms that is drawn: it reads them in new blocks, none of them frozen. -/
theorem El.by {w w' : World} {R n : Nat} {l : List Ex} {v : Value} (h : El w (nf w n) l v) (hg : w.grownBy w' (some R)) (hR : R < n) : El w' (nf w' n) l v := by
  have hne : ∀ b, nf w n b → some b ≠ some R := fun b hb e => by have := hb.1; simp at e; omega
  refine ((h.imp (C := fun b => nf w n b ∧ b < w.heap.size) fun b hb hlt => ⟨hb, hlt⟩).kept fun b hb hlt => hg.block b hlt (hne b hb.1)).imp fun b hb _ => ⟨hb.1.1, fun o => ?_⟩
  rw [World.frozen?_of_block (w := w) (a := ⟨b, o, none⟩) (hg.block b hb.2 (hne b hb.1))]
  exact hb.1.2 o

theorem l8Int_any (n : Int) (w : World) : Calls Try.prog 34 #[.int .i64 n] w fun e w' => e = .returned (xx 1 n ⟨#[]⟩ (.slice none 0 0)) ∧ Below w.heap.size w w' := by
  go_enter Try.func34, Try.ntmps34
  go_wp2
  refine bodyPost_ret (v := xx 1 n ⟨#[]⟩ (.slice none 0 0)) ?_ rfl ⟨rfl, ?_⟩
  · simp [results, Try.results34, go_sem]
  · exact (Below.refl _ _).alloc (Nat.le_refl _) _
theorem l8Var_any (s : ByteArray) (w : World) : Calls Try.prog 48 #[.string s] w fun e w' => e = .returned (xx 3 0 s (.slice none 0 0)) ∧ Below w.heap.size w w' := by
  go_enter Try.func48, Try.ntmps48
  go_wp2
  refine bodyPost_ret (v := xx 3 0 s (.slice none 0 0)) ?_ rfl ⟨rfl, ?_⟩
  · simp [results, Try.results48, go_sem]
  · exact (Below.refl _ _).alloc (Nat.le_refl _) _
theorem l8Of_any (k : Int) (ao : Option Addr) (n cap : Nat) (w : World) : Calls Try.prog 32 #[.int .i64 k, .slice ao n cap] w fun e w' => e = .returned (xx k 0 ⟨#[]⟩ (.slice ao n cap)) ∧ Below w.heap.size w w' := by
  go_enter Try.func32, Try.ntmps32
  go_wp2
  refine bodyPost_ret (v := xx k 0 ⟨#[]⟩ (.slice ao n cap)) ?_ rfl ⟨rfl, ?_⟩
  · simp [results, Try.results32, go_sem]
  · exact (Below.refl _ _).alloc (Nat.le_refl _) _

/-- Four cells of a box are stored: the cursor stays, only new blocks have turned. -/
abbrev set4 (w : World) (b : Nat) (x y z u : Value) : World := (((w.setCell ⟨b, 0, none⟩ x).setCell ⟨b, 1, none⟩ y).setCell ⟨b, 2, none⟩ z).setCell ⟨b, 3, none⟩ u
theorem set4_by (w : World) (b : Nat) (x y z u : Value) : w.grownBy (set4 w b x y z u) (some b) :=
  grownBy_trans (grownBy_trans (grownBy_trans (gb_set w b 0 x) (gb_set _ b 1 y)) (gb_set _ b 2 z)) (gb_set _ b 3 u)
theorem Cur.set4 {w : World} {cb : Nat} {v : Value} {zs : List Int} (h : Cur w cb v zs) {b : Nat} (hb : b ≠ cb) (hv : zs ≠ [] → ∀ k, v.ownBlock = some k → k ≠ b) (x y z u : Value) : Cur (set4 w b x y z u) cb v zs :=
  h.row (set4_by w b x y z u) (fun g e => by cases e; exact ⟨hb, hv⟩)

def LeafX : Prop := ∀ (cb : Nat) (v : Value) (zs : List Int) (w : World), Cur w cb v zs →
  Calls Try.prog 41 #[.pointer (some ⟨cb, 0, none⟩)] w fun e w' => ∃ t u, e = .returned (xx t.k t.n t.s u) ∧ DxS 0 t ∧ El w' (nf w' (w.heap.size + 1)) t.l u ∧ Cur w' cb v zs ∧ w.grownBy w' (some cb)

set_option maxHeartbeats 2000000 in
theorem l8Leaf_any : LeafX := by
  intro cb v zs w h
  have hlt := h.lt
  have HNE : Hid (w.heap.size ≠ cb) := by show _ ≠ _; omega
  have HV : Hid (zs ≠ [] → ∀ k, v.ownBlock = some k → k ≠ w.heap.size) := fun hz k hk => by have := h.1.lt hz k hk; omega
  have HC0 := Hid.mk (h.grow ((Below.refl _ _).alloc (Nat.le_refl _) (.cells #[.int .i64 0, .int .i64 0, .string ⟨#[]⟩, .slice none 0 0] 26)))
  have HFIN : Hid (∀ (W : World) (t : Ex) (u : Value), DxS 0 t → El W (nf W (w.heap.size + 1)) t.l u → Cur W cb v zs → w.grownBy W (some cb) → DxS 0 t ∧ El (set4 W w.heap.size (.int .i64 t.k) (.int .i64 t.n) (.string t.s) u) (nf (set4 W w.heap.size (.int .i64 t.k) (.int .i64 t.n) (.string t.s) u) (w.heap.size + 1)) t.l u ∧ Cur (set4 W w.heap.size (.int .i64 t.k) (.int .i64 t.n) (.string t.s) u) cb v zs ∧ w.grownBy (set4 W w.heap.size (.int .i64 t.k) (.int .i64 t.n) (.string t.s) u) (some cb)) := by
    intro W t u h1 h2 h3 h4
    exact ⟨h1, h2.by (set4_by _ _ _ _ _ _) (by omega), h3.set4 HNE.out HV.out _ _ _ _, gy_far h4 (set4_by _ _ _ _ _ _) (Nat.le_refl _)⟩
  clear h
  go_enter Try.func41, Try.ntmps41
  go_wp2_with fail
  refine (l1Below_any cb v zs 8 _ HC0.out).mono ?_
  rintro e w1 ⟨x, rfl, hx0, hx1, -, hC, hg⟩
  obtain ⟨hc1, hf1⟩ := gcell hg w.heap.size (by simp) HNE.out
  have HG := Hid.mk (grownBy_trans (gy_alloc w cb _) hg)
  have HC := Hid.mk hC
  have hs1 : w.heap.size < w1.heap.size := by have := hg.size; simp at this; omega
  have hx8 : x < 8 := hx1 (by omega)
  clear hC hg HC0 hx1
  by_cases e0 : x = 0
  · subst e0
    go_wp2_with fail
    refine (l1Int_any cb w1.heap.size 6 v zs [0, 1, 2, 3, 10, 2147483647] _ (HC.out.grow ((Below.refl _ _).alloc (Nat.le_refl _) _)) rfl (by omega) (by omega) (heap_alloc_new w1 _) (by have := (HC.out).lt; omega)).mono ?_
    rintro e w2 ⟨y, rfl, hy, hC2, hg2⟩
    obtain ⟨hc2, hf2⟩ := gcell hg2 w.heap.size (by simp; omega) HNE.out
    go_wp2_with fail
    refine (l8Int_any y _).mono ?_
    rintro e w3 ⟨rfl, hb3⟩
    have hc3 := fun o => hb3.cell (p := ⟨w.heap.size, o, none⟩) (by have := hg2.size; simp at this; show w.heap.size < _; omega)
    have hf3 := fun o => hb3.frozen (p := ⟨w.heap.size, o, none⟩) (by have := hg2.size; simp at this; show w.heap.size < _; omega)
    have HF := Hid.mk (HFIN.out w3 (.node 1 y ⟨#[]⟩ []) (.slice none 0 0) (DxS.leaf (by decide)) (El.zero _ _) (hC2.grow hb3) (gy_below (grownBy_trans (gy_new HG.out _) hg2) hb3))
    clear HFIN HG HC
    go_wp2
    have f0 : ((((w3.setCell ⟨w.heap.size, 0, none⟩ (.int .i64 1)).setCell ⟨w.heap.size, 1, none⟩ (.int .i64 y)).setCell ⟨w.heap.size, 2, none⟩ (.string ⟨#[]⟩)).setCell ⟨w.heap.size, 3, none⟩ (.slice none 0 0)).cell? ⟨w.heap.size, 0, none⟩ = some (.int .i64 1) := by go_simp
    have f1 : ((((w3.setCell ⟨w.heap.size, 0, none⟩ (.int .i64 1)).setCell ⟨w.heap.size, 1, none⟩ (.int .i64 y)).setCell ⟨w.heap.size, 2, none⟩ (.string ⟨#[]⟩)).setCell ⟨w.heap.size, 3, none⟩ (.slice none 0 0)).cell? ⟨w.heap.size, 1, none⟩ = some (.int .i64 y) := by go_simp
    have f2 : ((((w3.setCell ⟨w.heap.size, 0, none⟩ (.int .i64 1)).setCell ⟨w.heap.size, 1, none⟩ (.int .i64 y)).setCell ⟨w.heap.size, 2, none⟩ (.string ⟨#[]⟩)).setCell ⟨w.heap.size, 3, none⟩ (.slice none 0 0)).cell? ⟨w.heap.size, 2, none⟩ = some (.string ⟨#[]⟩) := by go_simp
    have f3 : ((((w3.setCell ⟨w.heap.size, 0, none⟩ (.int .i64 1)).setCell ⟨w.heap.size, 1, none⟩ (.int .i64 y)).setCell ⟨w.heap.size, 2, none⟩ (.string ⟨#[]⟩)).setCell ⟨w.heap.size, 3, none⟩ (.slice none 0 0)).cell? ⟨w.heap.size, 3, none⟩ = some (.slice none 0 0) := by go_simp
    obtain ⟨h1, h2, h3, h4⟩ := HF.out
    refine bodyPost_ret (v := .agg #[(.int .i64 1), (.int .i64 y), (.string ⟨#[]⟩), (.slice none 0 0)]) ?_ rfl ⟨.node 1 y ⟨#[]⟩ [], _, rfl, h1, h2, h3, h4⟩
    generalize ((((w3.setCell ⟨w.heap.size, 0, none⟩ (.int .i64 1)).setCell ⟨w.heap.size, 1, none⟩ (.int .i64 y)).setCell ⟨w.heap.size, 2, none⟩ (.string ⟨#[]⟩)).setCell ⟨w.heap.size, 3, none⟩ (.slice none 0 0)) = W at f0 f1 f2 f3
    simp [results, Try.results41, go_sem, f0, f1, f2, f3]
  by_cases e1 : x = 1
  · subst e1
    go_wp2_with fail
    refine (l1Int_any cb w1.heap.size 6 v zs [0, 1, 2, 3, 10, 2147483647] _ (HC.out.grow ((Below.refl _ _).alloc (Nat.le_refl _) _)) rfl (by omega) (by omega) (heap_alloc_new w1 _) (by have := (HC.out).lt; omega)).mono ?_
    rintro e w2 ⟨y, rfl, hy, hC2, hg2⟩
    obtain ⟨hc2, hf2⟩ := gcell hg2 w.heap.size (by simp; omega) HNE.out
    go_wp2_with fail
    refine (l8Int_any y _).mono ?_
    rintro e w3 ⟨rfl, hb3⟩
    have hc3 := fun o => hb3.cell (p := ⟨w.heap.size, o, none⟩) (by have := hg2.size; simp at this; show w.heap.size < _; omega)
    have hf3 := fun o => hb3.frozen (p := ⟨w.heap.size, o, none⟩) (by have := hg2.size; simp at this; show w.heap.size < _; omega)
    have HF := Hid.mk (HFIN.out w3 (.node 1 y ⟨#[]⟩ []) (.slice none 0 0) (DxS.leaf (by decide)) (El.zero _ _) (hC2.grow hb3) (gy_below (grownBy_trans (gy_new HG.out _) hg2) hb3))
    clear HFIN HG HC
    go_wp2
    have f0 : ((((w3.setCell ⟨w.heap.size, 0, none⟩ (.int .i64 1)).setCell ⟨w.heap.size, 1, none⟩ (.int .i64 y)).setCell ⟨w.heap.size, 2, none⟩ (.string ⟨#[]⟩)).setCell ⟨w.heap.size, 3, none⟩ (.slice none 0 0)).cell? ⟨w.heap.size, 0, none⟩ = some (.int .i64 1) := by go_simp
    have f1 : ((((w3.setCell ⟨w.heap.size, 0, none⟩ (.int .i64 1)).setCell ⟨w.heap.size, 1, none⟩ (.int .i64 y)).setCell ⟨w.heap.size, 2, none⟩ (.string ⟨#[]⟩)).setCell ⟨w.heap.size, 3, none⟩ (.slice none 0 0)).cell? ⟨w.heap.size, 1, none⟩ = some (.int .i64 y) := by go_simp
    have f2 : ((((w3.setCell ⟨w.heap.size, 0, none⟩ (.int .i64 1)).setCell ⟨w.heap.size, 1, none⟩ (.int .i64 y)).setCell ⟨w.heap.size, 2, none⟩ (.string ⟨#[]⟩)).setCell ⟨w.heap.size, 3, none⟩ (.slice none 0 0)).cell? ⟨w.heap.size, 2, none⟩ = some (.string ⟨#[]⟩) := by go_simp
    have f3 : ((((w3.setCell ⟨w.heap.size, 0, none⟩ (.int .i64 1)).setCell ⟨w.heap.size, 1, none⟩ (.int .i64 y)).setCell ⟨w.heap.size, 2, none⟩ (.string ⟨#[]⟩)).setCell ⟨w.heap.size, 3, none⟩ (.slice none 0 0)).cell? ⟨w.heap.size, 3, none⟩ = some (.slice none 0 0) := by go_simp
    obtain ⟨h1, h2, h3, h4⟩ := HF.out
    refine bodyPost_ret (v := .agg #[(.int .i64 1), (.int .i64 y), (.string ⟨#[]⟩), (.slice none 0 0)]) ?_ rfl ⟨.node 1 y ⟨#[]⟩ [], _, rfl, h1, h2, h3, h4⟩
    generalize ((((w3.setCell ⟨w.heap.size, 0, none⟩ (.int .i64 1)).setCell ⟨w.heap.size, 1, none⟩ (.int .i64 y)).setCell ⟨w.heap.size, 2, none⟩ (.string ⟨#[]⟩)).setCell ⟨w.heap.size, 3, none⟩ (.slice none 0 0)) = W at f0 f1 f2 f3
    simp [results, Try.results41, go_sem, f0, f1, f2, f3]
  by_cases e2 : x = 2
  · subst e2
    go_wp2_with fail
    refine (l1Str_any cb w1.heap.size 5 v zs [⟨#[]⟩, ⟨#[97]⟩, ⟨#[97, 98]⟩, ⟨#[49, 50]⟩, ⟨#[45, 51, 120]⟩] _ (HC.out.grow ((Below.refl _ _).alloc (Nat.le_refl _) _)) rfl (by omega) (by omega) (heap_alloc_new w1 _) (by have := (HC.out).lt; omega)).mono ?_
    rintro e w2 ⟨y, rfl, hy, hC2, hg2⟩
    obtain ⟨hc2, hf2⟩ := gcell hg2 w.heap.size (by simp; omega) HNE.out
    have hys : y.size ≤ 100 := by
      simp only [List.mem_cons, List.not_mem_nil, or_false] at hy
      rcases hy with h | h | h | h | h <;> subst h <;> decide
    have HF := Hid.mk (HFIN.out w2 (.node 2 0 y []) (.slice none 0 0) (DxS.leaf (hys)) (El.zero _ _) (hC2) (grownBy_trans (gy_new HG.out _) hg2))
    clear HFIN HG HC
    go_wp2
    have f0 : ((((w2.setCell ⟨w.heap.size, 0, none⟩ (.int .i64 2)).setCell ⟨w.heap.size, 1, none⟩ (.int .i64 0)).setCell ⟨w.heap.size, 2, none⟩ (.string y)).setCell ⟨w.heap.size, 3, none⟩ (.slice none 0 0)).cell? ⟨w.heap.size, 0, none⟩ = some (.int .i64 2) := by go_simp
    have f1 : ((((w2.setCell ⟨w.heap.size, 0, none⟩ (.int .i64 2)).setCell ⟨w.heap.size, 1, none⟩ (.int .i64 0)).setCell ⟨w.heap.size, 2, none⟩ (.string y)).setCell ⟨w.heap.size, 3, none⟩ (.slice none 0 0)).cell? ⟨w.heap.size, 1, none⟩ = some (.int .i64 0) := by go_simp
    have f2 : ((((w2.setCell ⟨w.heap.size, 0, none⟩ (.int .i64 2)).setCell ⟨w.heap.size, 1, none⟩ (.int .i64 0)).setCell ⟨w.heap.size, 2, none⟩ (.string y)).setCell ⟨w.heap.size, 3, none⟩ (.slice none 0 0)).cell? ⟨w.heap.size, 2, none⟩ = some (.string y) := by go_simp
    have f3 : ((((w2.setCell ⟨w.heap.size, 0, none⟩ (.int .i64 2)).setCell ⟨w.heap.size, 1, none⟩ (.int .i64 0)).setCell ⟨w.heap.size, 2, none⟩ (.string y)).setCell ⟨w.heap.size, 3, none⟩ (.slice none 0 0)).cell? ⟨w.heap.size, 3, none⟩ = some (.slice none 0 0) := by go_simp
    obtain ⟨h1, h2, h3, h4⟩ := HF.out
    refine bodyPost_ret (v := .agg #[(.int .i64 2), (.int .i64 0), (.string y), (.slice none 0 0)]) ?_ rfl ⟨.node 2 0 y [], _, rfl, h1, h2, h3, h4⟩
    generalize ((((w2.setCell ⟨w.heap.size, 0, none⟩ (.int .i64 2)).setCell ⟨w.heap.size, 1, none⟩ (.int .i64 0)).setCell ⟨w.heap.size, 2, none⟩ (.string y)).setCell ⟨w.heap.size, 3, none⟩ (.slice none 0 0)) = W at f0 f1 f2 f3
    simp [results, Try.results41, go_sem, f0, f1, f2, f3]
  by_cases e3 : x = 3
  · subst e3
    go_wp2_with fail
    refine (l1Str_any cb w1.heap.size 3 v zs [⟨#[120]⟩, ⟨#[121]⟩, ⟨#[120]⟩] _ (HC.out.grow ((Below.refl _ _).alloc (Nat.le_refl _) _)) rfl (by omega) (by omega) (heap_alloc_new w1 _) (by have := (HC.out).lt; omega)).mono ?_
    rintro e w2 ⟨y, rfl, hy, hC2, hg2⟩
    obtain ⟨hc2, hf2⟩ := gcell hg2 w.heap.size (by simp; omega) HNE.out
    have hys : y.size ≤ 100 := by
      simp only [List.mem_cons, List.not_mem_nil, or_false] at hy
      rcases hy with h | h | h <;> subst h <;> decide
    go_wp2_with fail
    refine (l8Var_any y _).mono ?_
    rintro e w3 ⟨rfl, hb3⟩
    have hc3 := fun o => hb3.cell (p := ⟨w.heap.size, o, none⟩) (by have := hg2.size; simp at this; show w.heap.size < _; omega)
    have hf3 := fun o => hb3.frozen (p := ⟨w.heap.size, o, none⟩) (by have := hg2.size; simp at this; show w.heap.size < _; omega)
    have HF := Hid.mk (HFIN.out w3 (.node 3 0 y []) (.slice none 0 0) (DxS.leaf (hys)) (El.zero _ _) (hC2.grow hb3) (gy_below (grownBy_trans (gy_new HG.out _) hg2) hb3))
    clear HFIN HG HC
    go_wp2
    have f0 : ((((w3.setCell ⟨w.heap.size, 0, none⟩ (.int .i64 3)).setCell ⟨w.heap.size, 1, none⟩ (.int .i64 0)).setCell ⟨w.heap.size, 2, none⟩ (.string y)).setCell ⟨w.heap.size, 3, none⟩ (.slice none 0 0)).cell? ⟨w.heap.size, 0, none⟩ = some (.int .i64 3) := by go_simp
    have f1 : ((((w3.setCell ⟨w.heap.size, 0, none⟩ (.int .i64 3)).setCell ⟨w.heap.size, 1, none⟩ (.int .i64 0)).setCell ⟨w.heap.size, 2, none⟩ (.string y)).setCell ⟨w.heap.size, 3, none⟩ (.slice none 0 0)).cell? ⟨w.heap.size, 1, none⟩ = some (.int .i64 0) := by go_simp
    have f2 : ((((w3.setCell ⟨w.heap.size, 0, none⟩ (.int .i64 3)).setCell ⟨w.heap.size, 1, none⟩ (.int .i64 0)).setCell ⟨w.heap.size, 2, none⟩ (.string y)).setCell ⟨w.heap.size, 3, none⟩ (.slice none 0 0)).cell? ⟨w.heap.size, 2, none⟩ = some (.string y) := by go_simp
    have f3 : ((((w3.setCell ⟨w.heap.size, 0, none⟩ (.int .i64 3)).setCell ⟨w.heap.size, 1, none⟩ (.int .i64 0)).setCell ⟨w.heap.size, 2, none⟩ (.string y)).setCell ⟨w.heap.size, 3, none⟩ (.slice none 0 0)).cell? ⟨w.heap.size, 3, none⟩ = some (.slice none 0 0) := by go_simp
    obtain ⟨h1, h2, h3, h4⟩ := HF.out
    refine bodyPost_ret (v := .agg #[(.int .i64 3), (.int .i64 0), (.string y), (.slice none 0 0)]) ?_ rfl ⟨.node 3 0 y [], _, rfl, h1, h2, h3, h4⟩
    generalize ((((w3.setCell ⟨w.heap.size, 0, none⟩ (.int .i64 3)).setCell ⟨w.heap.size, 1, none⟩ (.int .i64 0)).setCell ⟨w.heap.size, 2, none⟩ (.string y)).setCell ⟨w.heap.size, 3, none⟩ (.slice none 0 0)) = W at f0 f1 f2 f3
    simp [results, Try.results41, go_sem, f0, f1, f2, f3]
  by_cases e4 : x = 4
  · subst e4
    go_wp2_with fail
    refine (l1Str_any cb w1.heap.size 3 v zs [⟨#[120]⟩, ⟨#[121]⟩, ⟨#[120]⟩] _ (HC.out.grow ((Below.refl _ _).alloc (Nat.le_refl _) _)) rfl (by omega) (by omega) (heap_alloc_new w1 _) (by have := (HC.out).lt; omega)).mono ?_
    rintro e w2 ⟨y, rfl, hy, hC2, hg2⟩
    obtain ⟨hc2, hf2⟩ := gcell hg2 w.heap.size (by simp; omega) HNE.out
    have hys : y.size ≤ 100 := by
      simp only [List.mem_cons, List.not_mem_nil, or_false] at hy
      rcases hy with h | h | h <;> subst h <;> decide
    go_wp2_with fail
    refine (l8Var_any y _).mono ?_
    rintro e w3 ⟨rfl, hb3⟩
    have hc3 := fun o => hb3.cell (p := ⟨w.heap.size, o, none⟩) (by have := hg2.size; simp at this; show w.heap.size < _; omega)
    have hf3 := fun o => hb3.frozen (p := ⟨w.heap.size, o, none⟩) (by have := hg2.size; simp at this; show w.heap.size < _; omega)
    have HF := Hid.mk (HFIN.out w3 (.node 3 0 y []) (.slice none 0 0) (DxS.leaf (hys)) (El.zero _ _) (hC2.grow hb3) (gy_below (grownBy_trans (gy_new HG.out _) hg2) hb3))
    clear HFIN HG HC
    go_wp2
    have f0 : ((((w3.setCell ⟨w.heap.size, 0, none⟩ (.int .i64 3)).setCell ⟨w.heap.size, 1, none⟩ (.int .i64 0)).setCell ⟨w.heap.size, 2, none⟩ (.string y)).setCell ⟨w.heap.size, 3, none⟩ (.slice none 0 0)).cell? ⟨w.heap.size, 0, none⟩ = some (.int .i64 3) := by go_simp
    have f1 : ((((w3.setCell ⟨w.heap.size, 0, none⟩ (.int .i64 3)).setCell ⟨w.heap.size, 1, none⟩ (.int .i64 0)).setCell ⟨w.heap.size, 2, none⟩ (.string y)).setCell ⟨w.heap.size, 3, none⟩ (.slice none 0 0)).cell? ⟨w.heap.size, 1, none⟩ = some (.int .i64 0) := by go_simp
    have f2 : ((((w3.setCell ⟨w.heap.size, 0, none⟩ (.int .i64 3)).setCell ⟨w.heap.size, 1, none⟩ (.int .i64 0)).setCell ⟨w.heap.size, 2, none⟩ (.string y)).setCell ⟨w.heap.size, 3, none⟩ (.slice none 0 0)).cell? ⟨w.heap.size, 2, none⟩ = some (.string y) := by go_simp
    have f3 : ((((w3.setCell ⟨w.heap.size, 0, none⟩ (.int .i64 3)).setCell ⟨w.heap.size, 1, none⟩ (.int .i64 0)).setCell ⟨w.heap.size, 2, none⟩ (.string y)).setCell ⟨w.heap.size, 3, none⟩ (.slice none 0 0)).cell? ⟨w.heap.size, 3, none⟩ = some (.slice none 0 0) := by go_simp
    obtain ⟨h1, h2, h3, h4⟩ := HF.out
    refine bodyPost_ret (v := .agg #[(.int .i64 3), (.int .i64 0), (.string y), (.slice none 0 0)]) ?_ rfl ⟨.node 3 0 y [], _, rfl, h1, h2, h3, h4⟩
    generalize ((((w3.setCell ⟨w.heap.size, 0, none⟩ (.int .i64 3)).setCell ⟨w.heap.size, 1, none⟩ (.int .i64 0)).setCell ⟨w.heap.size, 2, none⟩ (.string y)).setCell ⟨w.heap.size, 3, none⟩ (.slice none 0 0)) = W at f0 f1 f2 f3
    simp [results, Try.results41, go_sem, f0, f1, f2, f3]
  by_cases e5 : x = 5
  · subst e5
    go_wp2_with fail
    refine (l1Str_any cb w1.heap.size 3 v zs [⟨#[120]⟩, ⟨#[121]⟩, ⟨#[120]⟩] _ (HC.out.grow ((Below.refl _ _).alloc (Nat.le_refl _) _)) rfl (by omega) (by omega) (heap_alloc_new w1 _) (by have := (HC.out).lt; omega)).mono ?_
    rintro e w2 ⟨y, rfl, hy, hC2, hg2⟩
    obtain ⟨hc2, hf2⟩ := gcell hg2 w.heap.size (by simp; omega) HNE.out
    have hys : y.size ≤ 100 := by
      simp only [List.mem_cons, List.not_mem_nil, or_false] at hy
      rcases hy with h | h | h <;> subst h <;> decide
    go_wp2_with fail
    refine (l8Var_any y _).mono ?_
    rintro e w3 ⟨rfl, hb3⟩
    have hc3 := fun o => hb3.cell (p := ⟨w.heap.size, o, none⟩) (by have := hg2.size; simp at this; show w.heap.size < _; omega)
    have hf3 := fun o => hb3.frozen (p := ⟨w.heap.size, o, none⟩) (by have := hg2.size; simp at this; show w.heap.size < _; omega)
    have HF := Hid.mk (HFIN.out w3 (.node 3 0 y []) (.slice none 0 0) (DxS.leaf (hys)) (El.zero _ _) (hC2.grow hb3) (gy_below (grownBy_trans (gy_new HG.out _) hg2) hb3))
    clear HFIN HG HC
    go_wp2
    have f0 : ((((w3.setCell ⟨w.heap.size, 0, none⟩ (.int .i64 3)).setCell ⟨w.heap.size, 1, none⟩ (.int .i64 0)).setCell ⟨w.heap.size, 2, none⟩ (.string y)).setCell ⟨w.heap.size, 3, none⟩ (.slice none 0 0)).cell? ⟨w.heap.size, 0, none⟩ = some (.int .i64 3) := by go_simp
    have f1 : ((((w3.setCell ⟨w.heap.size, 0, none⟩ (.int .i64 3)).setCell ⟨w.heap.size, 1, none⟩ (.int .i64 0)).setCell ⟨w.heap.size, 2, none⟩ (.string y)).setCell ⟨w.heap.size, 3, none⟩ (.slice none 0 0)).cell? ⟨w.heap.size, 1, none⟩ = some (.int .i64 0) := by go_simp
    have f2 : ((((w3.setCell ⟨w.heap.size, 0, none⟩ (.int .i64 3)).setCell ⟨w.heap.size, 1, none⟩ (.int .i64 0)).setCell ⟨w.heap.size, 2, none⟩ (.string y)).setCell ⟨w.heap.size, 3, none⟩ (.slice none 0 0)).cell? ⟨w.heap.size, 2, none⟩ = some (.string y) := by go_simp
    have f3 : ((((w3.setCell ⟨w.heap.size, 0, none⟩ (.int .i64 3)).setCell ⟨w.heap.size, 1, none⟩ (.int .i64 0)).setCell ⟨w.heap.size, 2, none⟩ (.string y)).setCell ⟨w.heap.size, 3, none⟩ (.slice none 0 0)).cell? ⟨w.heap.size, 3, none⟩ = some (.slice none 0 0) := by go_simp
    obtain ⟨h1, h2, h3, h4⟩ := HF.out
    refine bodyPost_ret (v := .agg #[(.int .i64 3), (.int .i64 0), (.string y), (.slice none 0 0)]) ?_ rfl ⟨.node 3 0 y [], _, rfl, h1, h2, h3, h4⟩
    generalize ((((w3.setCell ⟨w.heap.size, 0, none⟩ (.int .i64 3)).setCell ⟨w.heap.size, 1, none⟩ (.int .i64 0)).setCell ⟨w.heap.size, 2, none⟩ (.string y)).setCell ⟨w.heap.size, 3, none⟩ (.slice none 0 0)) = W at f0 f1 f2 f3
    simp [results, Try.results41, go_sem, f0, f1, f2, f3]
  by_cases e6 : x = 6
  · subst e6
    go_wp2_with fail
    refine (l1Below_any cb v zs 4 _ HC.out).mono ?_
    rintro e w2 ⟨y, rfl, -, -, -, hC2, hg2⟩
    obtain ⟨hc2, hf2⟩ := gcell hg2 w.heap.size hs1 HNE.out
    have hs2 : w.heap.size < w2.heap.size := Nat.lt_of_lt_of_le hs1 hg2.size
    go_wp2_with fail
    refine (l8Int_any y _).mono ?_
    rintro e w3 ⟨rfl, hb3⟩
    have hc3 := fun o => hb3.cell (p := ⟨w.heap.size, o, none⟩) hs2
    have hf3 := fun o => hb3.frozen (p := ⟨w.heap.size, o, none⟩) hs2
    have hs3 : w.heap.size < w3.heap.size := Nat.lt_of_lt_of_le hs2 hb3.size
    have HEL := Hid.mk (El.full (w := w3.alloc (.cells #[.int .i64 1, .int .i64 y, .string ⟨#[]⟩, .slice none 0 0] 26)) (B := nf (w3.alloc (.cells #[.int .i64 1, .int .i64 y, .string ⟨#[]⟩, .slice none 0 0] 26)) (w.heap.size + 1)) [.node 1 y ⟨#[]⟩ []] w3.heap.size 0 1 (fun _ => .slice none 0 0) ⟨by omega, fun o => frozen_of_row _ w3.heap.size o _ _ (heap_alloc_new w3 (.cells #[.int .i64 1, .int .i64 y, .string ⟨#[]⟩, .slice none 0 0] 26))⟩ (by simp) (by simp) (by decide)
      (fun i hi => by obtain rfl : i = 0 := by simpa using hi
                      exact (by decide : (⟨#[]⟩ : ByteArray).size ≤ maxLen))
      (fun i hi => by obtain rfl : i = 0 := by simpa using hi
                      have hr := heap_alloc_new w3 (.cells #[.int .i64 1, .int .i64 y, .string ⟨#[]⟩, .slice none 0 0] 26)
                      exact ⟨by rw [cell_of_row _ w3.heap.size _ _ _ (0, 0) hr]; rfl, by rw [cell_of_row _ w3.heap.size _ _ _ (0, 0) hr]; rfl, by rw [cell_of_row _ w3.heap.size _ _ _ (0, 0) hr]; rfl, by rw [cell_of_row _ w3.heap.size _ _ _ (0, 0) hr]; rfl⟩)
      (fun i hi => by obtain rfl : i = 0 := by simpa using hi
                      exact El.zero _ _))
    have HDX : DxS 0 (.node 5 0 ⟨#[]⟩ [.node 1 y ⟨#[]⟩ []]) := by
      refine ⟨fun x hx => ?_, by simp [Ex.sz, szx, show (⟨#[]⟩ : ByteArray).size = 0 from rfl]⟩
      cases hx with
      | self => exact (by decide : (⟨#[]⟩ : ByteArray).size ≤ 100)
      | sub h hx =>
        obtain rfl := List.mem_singleton.1 h
        cases hx with
        | self => exact (by decide : (⟨#[]⟩ : ByteArray).size ≤ 100)
        | sub h hx => cases h
    have B4 : Below w3.heap.size w3 (w3.alloc (.cells #[.int .i64 1, .int .i64 y, .string ⟨#[]⟩, .slice none 0 0] 26)) := (Below.refl _ _).alloc (Nat.le_refl _) _
    go_wp2_with fail
    refine (l8Of_any 5 (some ⟨w3.heap.size, 0, none⟩) 1 1 _).mono ?_
    rintro e w4 ⟨rfl, hb4⟩
    have hc4 := fun o => hb4.cell (p := ⟨w.heap.size, o, none⟩) (by simp; omega)
    have hf4 := fun o => hb4.frozen (p := ⟨w.heap.size, o, none⟩) (by simp; omega)
    have hn1 : w.heap.size ≠ w3.heap.size := by omega
    have HF := Hid.mk (HFIN.out w4 (.node 5 0 ⟨#[]⟩ [.node 1 y ⟨#[]⟩ []]) (.slice (some ⟨w3.heap.size, 0, none⟩) 1 1) (HDX) (HEL.out.nfgrow hb4) ((((hC2.grow hb3).grow B4).grow hb4)) (gy_below (gy_below (gy_below (grownBy_trans HG.out hg2) hb3) B4) hb4))
    clear HFIN HG HC
    go_wp2
    have f0 : ((((w4.setCell ⟨w.heap.size, 0, none⟩ (.int .i64 5)).setCell ⟨w.heap.size, 1, none⟩ (.int .i64 0)).setCell ⟨w.heap.size, 2, none⟩ (.string ⟨#[]⟩)).setCell ⟨w.heap.size, 3, none⟩ (.slice (some ⟨w3.heap.size, 0, none⟩) 1 1)).cell? ⟨w.heap.size, 0, none⟩ = some (.int .i64 5) := by go_simp
    have f1 : ((((w4.setCell ⟨w.heap.size, 0, none⟩ (.int .i64 5)).setCell ⟨w.heap.size, 1, none⟩ (.int .i64 0)).setCell ⟨w.heap.size, 2, none⟩ (.string ⟨#[]⟩)).setCell ⟨w.heap.size, 3, none⟩ (.slice (some ⟨w3.heap.size, 0, none⟩) 1 1)).cell? ⟨w.heap.size, 1, none⟩ = some (.int .i64 0) := by go_simp
    have f2 : ((((w4.setCell ⟨w.heap.size, 0, none⟩ (.int .i64 5)).setCell ⟨w.heap.size, 1, none⟩ (.int .i64 0)).setCell ⟨w.heap.size, 2, none⟩ (.string ⟨#[]⟩)).setCell ⟨w.heap.size, 3, none⟩ (.slice (some ⟨w3.heap.size, 0, none⟩) 1 1)).cell? ⟨w.heap.size, 2, none⟩ = some (.string ⟨#[]⟩) := by go_simp
    have f3 : ((((w4.setCell ⟨w.heap.size, 0, none⟩ (.int .i64 5)).setCell ⟨w.heap.size, 1, none⟩ (.int .i64 0)).setCell ⟨w.heap.size, 2, none⟩ (.string ⟨#[]⟩)).setCell ⟨w.heap.size, 3, none⟩ (.slice (some ⟨w3.heap.size, 0, none⟩) 1 1)).cell? ⟨w.heap.size, 3, none⟩ = some (.slice (some ⟨w3.heap.size, 0, none⟩) 1 1) := by go_simp
    obtain ⟨h1, h2, h3, h4⟩ := HF.out
    refine bodyPost_ret (v := .agg #[(.int .i64 5), (.int .i64 0), (.string ⟨#[]⟩), (.slice (some ⟨w3.heap.size, 0, none⟩) 1 1)]) ?_ rfl ⟨.node 5 0 ⟨#[]⟩ [.node 1 y ⟨#[]⟩ []], _, rfl, h1, h2, h3, h4⟩
    generalize ((((w4.setCell ⟨w.heap.size, 0, none⟩ (.int .i64 5)).setCell ⟨w.heap.size, 1, none⟩ (.int .i64 0)).setCell ⟨w.heap.size, 2, none⟩ (.string ⟨#[]⟩)).setCell ⟨w.heap.size, 3, none⟩ (.slice (some ⟨w3.heap.size, 0, none⟩) 1 1)) = W at f0 f1 f2 f3
    simp [results, Try.results41, go_sem, f0, f1, f2, f3]
  obtain rfl : x = 7 := by omega
  go_wp2_with fail
  refine (l1Int_any cb w1.heap.size 2 v zs [14, 15] _ (HC.out.grow ((Below.refl _ _).alloc (Nat.le_refl _) _)) rfl (by omega) (by omega) (heap_alloc_new w1 _) (by have := (HC.out).lt; omega)).mono ?_
  rintro e w2 ⟨y, rfl, hy, hC2, hg2⟩
  obtain ⟨hc2, hf2⟩ := gcell hg2 w.heap.size (by simp; omega) HNE.out
  have HF := Hid.mk (HFIN.out w2 (.node y 0 ⟨#[]⟩ []) (.slice none 0 0) (DxS.leaf (by decide)) (El.zero _ _) (hC2) (grownBy_trans (gy_new HG.out _) hg2))
  clear HFIN HG HC
  go_wp2
  have f0 : ((((w2.setCell ⟨w.heap.size, 0, none⟩ (.int .i64 y)).setCell ⟨w.heap.size, 1, none⟩ (.int .i64 0)).setCell ⟨w.heap.size, 2, none⟩ (.string ⟨#[]⟩)).setCell ⟨w.heap.size, 3, none⟩ (.slice none 0 0)).cell? ⟨w.heap.size, 0, none⟩ = some (.int .i64 y) := by go_simp
  have f1 : ((((w2.setCell ⟨w.heap.size, 0, none⟩ (.int .i64 y)).setCell ⟨w.heap.size, 1, none⟩ (.int .i64 0)).setCell ⟨w.heap.size, 2, none⟩ (.string ⟨#[]⟩)).setCell ⟨w.heap.size, 3, none⟩ (.slice none 0 0)).cell? ⟨w.heap.size, 1, none⟩ = some (.int .i64 0) := by go_simp
  have f2 : ((((w2.setCell ⟨w.heap.size, 0, none⟩ (.int .i64 y)).setCell ⟨w.heap.size, 1, none⟩ (.int .i64 0)).setCell ⟨w.heap.size, 2, none⟩ (.string ⟨#[]⟩)).setCell ⟨w.heap.size, 3, none⟩ (.slice none 0 0)).cell? ⟨w.heap.size, 2, none⟩ = some (.string ⟨#[]⟩) := by go_simp
  have f3 : ((((w2.setCell ⟨w.heap.size, 0, none⟩ (.int .i64 y)).setCell ⟨w.heap.size, 1, none⟩ (.int .i64 0)).setCell ⟨w.heap.size, 2, none⟩ (.string ⟨#[]⟩)).setCell ⟨w.heap.size, 3, none⟩ (.slice none 0 0)).cell? ⟨w.heap.size, 3, none⟩ = some (.slice none 0 0) := by go_simp
  obtain ⟨h1, h2, h3, h4⟩ := HF.out
  refine bodyPost_ret (v := .agg #[(.int .i64 y), (.int .i64 0), (.string ⟨#[]⟩), (.slice none 0 0)]) ?_ rfl ⟨.node y 0 ⟨#[]⟩ [], _, rfl, h1, h2, h3, h4⟩
  generalize ((((w2.setCell ⟨w.heap.size, 0, none⟩ (.int .i64 y)).setCell ⟨w.heap.size, 1, none⟩ (.int .i64 0)).setCell ⟨w.heap.size, 2, none⟩ (.string ⟨#[]⟩)).setCell ⟨w.heap.size, 3, none⟩ (.slice none 0 0)) = W at f0 f1 f2 f3
  simp [results, Try.results41, go_sem, f0, f1, f2, f3]
end Go.Proofs.Ytijpmnenegdmnaa

namespace Go.Proofs.Ytijpmnenegdmnaa
open Go.RowKit
set_option maxRecDepth 8000

/-- A term with the slice that is read within. -/
abbrev Xv := Ex × Value
def exCells : List Xv → List Value
  | [] => []
  | q :: r => .int .i64 q.1.k :: .int .i64 q.1.n :: .string q.1.s :: q.2 :: exCells r
theorem exCells_append (L M : List Xv) : exCells (L ++ M) = exCells L ++ exCells M := by
  induction L with
  | nil => rfl
  | cons q r ih => simp only [List.cons_append, exCells, ih]
theorem exCells_at (L : List Xv) : ∀ i (h : i < L.length), (exCells L)[i * 4]? = some (.int .i64 L[i].1.k) ∧ (exCells L)[i * 4 + 1]? = some (.int .i64 L[i].1.n) ∧ (exCells L)[i * 4 + 2]? = some (.string L[i].1.s) ∧ (exCells L)[i * 4 + 3]? = some L[i].2 := by
  induction L with
  | nil => intro i h; simp at h
  | cons q r ih =>
    intro i h
    cases i with
    | zero => simp [exCells]
    | succ i =>
      have := ih i (by simpa using h)
      have e0 : (i + 1) * 4 = i * 4 + 4 := by omega
      simp only [exCells, e0, List.getElem?_cons_succ, List.getElem_cons_succ]
      exact this

/-- A row of drawn terms, of the call's own from base on; what is within lies from base on, too, and not in the row. -/
def OwnX (m : Nat) (w : World) (base : Nat) (v : Value) (L : List Xv) : Prop :=
  w.ownsRow base 26 4 v L.length (exCells L) ∧ ∀ q ∈ L, El w (fun b => nf w base b ∧ some b ≠ v.ownBlock) q.1.l q.2 ∧ DxS m q.1

theorem DxS.size {m : Nat} {t : Ex} (h : DxS m t) : t.s.size ≤ 100 := h.1 t (.self t)

theorem OwnX.none (m : Nat) (w : World) (base : Nat) : OwnX m w base (.slice none 0 0) [] := ⟨⟨rfl, .inl ⟨rfl, rfl⟩⟩, by simp⟩

theorem OwnX.el {m : Nat} {w : World} {base : Nat} {v : Value} {L : List Xv} (h : OwnX m w base v L) : El w (nf w base) (L.map (·.1)) v ∧ ∀ t ∈ L.map (·.1), DxS m t := by
  obtain ⟨h, hok⟩ := h
  refine ⟨?_, fun t ht => by obtain ⟨q, hq, rfl⟩ := List.mem_map.1 ht; exact (hok q hq).2⟩
  by_cases hl : L = []
  · subst hl
    rcases h.2 with ⟨rfl, -⟩ | ⟨g, cap, cur, rfl, -, -, -, hm, -⟩
    · exact El.zero w _
    · exact .empty _ _ hm fun h => by cases h
  · rcases id h.2 with ⟨-, h0⟩ | ⟨g, cap, cur, rfl, hb, hg, hc, hm, -⟩
    · exact absurd (List.length_eq_zero_iff.1 h0) hl
    · have hlen : (L.map (·.1)).length = L.length := by simp
      have hcell := h.cells (g := g) rfl
      have := El.full (w := w) (B := nf w base) (L.map (·.1)) g 0 cap (fun i => (L.getD i default).2) ⟨hb, fun o => frozen_of_row w g o _ _ hg⟩ (by simpa using hl) (by rw [hlen]; exact hc) hm
        (fun i h => by rw [hlen] at h; have := (hok _ (List.getElem_mem h)).2.size; simp only [List.getElem_map]; unfold maxLen; omega)
        (fun i h => by
          rw [hlen] at h
          obtain ⟨s0, s1, s2, s3⟩ := exCells_at L i h
          have r0 := hcell _ _ s0
          have r1 := hcell _ _ s1
          have r2 := hcell _ _ s2
          have r3 := hcell _ _ s3
          simp only [Addr.add_lit] at r0 r1 r2 r3
          simp only [List.getElem_map, List.getD_eq_getElem?_getD, List.getElem?_eq_getElem h, Option.getD_some]
          exact ⟨r0, r1, r2, r3⟩)
        (fun i h => by rw [hlen] at h; simp only [List.getElem_map, List.getD_eq_getElem?_getD, List.getElem?_eq_getElem h, Option.getD_some]; exact (hok _ (List.getElem_mem h)).1.imp fun b hb _ => hb.1)
      rwa [hlen] at this

/-- What the cursor, or a box that is neither the row nor within, turns leaves the row. -/
theorem El.nfOwn {w w' : World} {base : Nat} {ob ob' : Option Nat} {l : List Ex} {v : Value} (h : El w (fun b => nf w base b ∧ some b ≠ ob) l v) (hk : ∀ b, nf w base b → some b ≠ ob → b < w.heap.size → w'.heap[b]? = w.heap[b]? ∧ some b ≠ ob') : El w' (fun b => nf w' base b ∧ some b ≠ ob') l v := by
  refine ((h.imp (C := fun b => (nf w base b ∧ some b ≠ ob) ∧ b < w.heap.size) fun b hb hlt => ⟨hb, hlt⟩).kept fun b hb hlt => (hk b hb.1.1 hb.1.2 hlt).1).imp fun b hb _ => ⟨⟨hb.1.1.1, fun o => ?_⟩, (hk b hb.1.1 hb.1.2 hb.2).2⟩
  rw [World.frozen?_of_block (w := w) (a := ⟨b, o, none⟩) (hk b hb.1.1 hb.1.2 hb.2).1]
  exact hb.1.1.2 o
theorem OwnX.by {m : Nat} {w w' : World} {base R : Nat} {v : Value} {L : List Xv} (h : OwnX m w base v L) (hg : w.grownBy w' (some R)) (hR : R < base) : OwnX m w' base v L := by
  refine ⟨World.ownsRow.kept h.1 hg ?_, fun q hq => ⟨(h.2 q hq).1.nfOwn fun b hb hn hlt => ⟨hg.block b hlt (by have := hb.1; rintro e; simp at e; omega), hn⟩, (h.2 q hq).2⟩⟩
  cases hv : v.ownBlock with
  | none => exact .inl rfl
  | some k => exact .inr fun e => by have := (World.ownsRow.lt h.1 k hv).1; simp at e; omega
theorem OwnX.grow {m : Nat} {w w' : World} {base : Nat} {v : Value} {L : List Xv} (h : OwnX m w base v L) (hb : Below w.heap.size w w') : OwnX m w' base v L :=
  ⟨own_grow h.1 hb, fun q hq => ⟨(h.2 q hq).1.nfOwn fun b _ hn hlt => ⟨hb.block b hlt, hn⟩, (h.2 q hq).2⟩⟩

/-- One term more, whose parts lie from n on, where the row lies below n. -/
theorem wp_append_x {w : World} {o : Oper} {a : Act} {K : Act → World → Prop} {Q : Exit → Act → World → Prop} (s x : Operand)
    (ho : o.op = .call { callee := .builtin .append, args := #[s, x], argTypes := #[24, 24] })
    (m base n : Nat) (v : Value) (L : List Xv) (t : Ex) (u : Value) (hs : a.eval s = v) (hown : OwnX m w base v L) (lb : Nat) (hx : a.eval x = .slice (some ⟨lb, 0, none⟩) 1 1)
    (hc : w.heap[lb]? = some (.cells #[.int .i64 t.k, .int .i64 t.n, .string t.s, u] 26 (0, 0)))
    (ht : El w (nf w n) t.l u) (hd : DxS m t) (hn : base ≤ n) (hrow : ∀ k, v.ownBlock = some k → k < n) (hbase : base ≤ w.heap.size) (hlen : L.length ≤ 1000)
    (h : ∀ v' w', OwnX m w' base v' (L ++ [(t, u)]) → (∃ row, (∀ g, row = some g → base ≤ g) ∧ w.grownBy w' row) → K (a.put o.dst v') w') :
    o.wp Try.prog a w K Q := by
  obtain ⟨i0, hi, hz0, hz1, hz2⟩ := info_parts infoExpr
  have hu : u.oneCell' = true := by obtain ⟨_, _, e, -⟩ := ht.len; rw [e]; simp [Value.oneCell']
  have hones : ∀ q ∈ exCells [(t, u)], q.oneCell' = true := by
    intro q hq
    simp only [exCells, List.mem_cons, List.not_mem_nil, or_false] at hq
    rcases hq with rfl | rfl | rfl | rfl
    · rfl
    · rfl
    · rfl
    · exact hu
  have hnews : ∀ j q, (exCells [(t, u)])[j]? = some q → w.cell? ((⟨lb, 0, none⟩ : Addr).add j) = some q := by
    intro j q hq
    rw [Addr.add_lit, Nat.zero_add, cell_of_row w lb j _ _ (0, 0) hc]
    simpa [exCells] using hq
  obtain ⟨v', w', hr, hown', hgr, -, hv⟩ := run_append_own_at (P := Try.prog) w base 24 o.type 26 i0 _ 4 56 Try.underlying24 hi hz0 hz1 hz2 rfl (by decide) v L.length (exCells L) hown.1 ⟨lb, 0, none⟩ 1 1 (exCells [(t, u)]) rfl hnews hones (by unfold maxLen; omega) (by omega) hbase
  unfold Oper.wp execOp
  simp only [ho, resolve, invoke, builtin, Sem.run_bind, Sem.run_pure, Result.andThen_ok, List.map_toArray, List.map_cons, List.map_nil, hs, hx, hr]
  have hrow' : ∀ k, v.ownBlock = some k → base ≤ k := fun k hk => (World.ownsRow.lt hown.1 k hk).1
  refine h v' w' ⟨?_, fun q hq => ?_⟩ ⟨v.ownBlock, hrow', hgr⟩
  · rw [exCells_append, List.length_append]
    exact hown'
  · have hne : ∀ b, b < w.heap.size → some b ≠ v.ownBlock → some b ≠ v'.ownBlock := by
      intro b hb h1
      rcases hv with hv | hv
      · rw [hv]; exact h1
      · rw [hv]; intro e; simp at e; omega
    rcases List.mem_append.1 hq with hq | hq
    · obtain ⟨h1, h2⟩ := hown.2 q hq
      exact ⟨h1.nfOwn fun b _ hn hlt => ⟨hgr.block b hlt hn, hne b hlt hn⟩, h2⟩
    · obtain rfl : q = (t, u) := by simpa using hq
      have hnb : ∀ b, nf w n b → some b ≠ v.ownBlock := by
        intro b hb e
        have := hrow b e.symm
        have := hb.1
        omega
      exact ⟨(ht.imp (C := fun b => nf w base b ∧ some b ≠ v.ownBlock) fun b hb _ => ⟨⟨by have := hb.1; omega, hb.2⟩, hnb b hb⟩).nfOwn fun b _ hn hlt => ⟨hgr.block b hlt hn, hne b hlt hn⟩, hd⟩

end Go.Proofs.Ytijpmnenegdmnaa

namespace Go.Proofs.Ytijpmnenegdmnaa
variable {P : Program} {ops : Array Oper} {Q : Exit → Act → World → Prop} {md : Region.Mode} {S : World → Prop}

theorem takeHD {i : Nat} {oi : Oper} {v : Value} {fuel : Nat} {listed : Array Bool} {a : Act} {w : World} (d : Option Tmp) (hi : ops[i]? = some oi) (hd : oi.dst = d)
    (hs : Region.noSelect ops = true) (hf : Region.free md ops listed i = true) (hr : (Region.ready md ops listed).contains i = true)
    (hQ : ∀ c a w, Q (.panic c) (a.put oi.dst v) w → Q (.panic c) a w) (hy : YieldsIf P ops S oi v a) (hS : S w)
    (h : wpAnyH P md ops Q S fuel (listed.setIfInBounds i true) (a.put d v) w) : wpAnyH P md ops Q S (fuel + 1) listed a w := by
  subst hd
  exact wpAnyH_take hi hs hf hr hQ hy hS h
end Go.Proofs.Ytijpmnenegdmnaa

namespace Go.Proofs.Ytijpmnenegdmnaa
open Go.RowKit
set_option maxRecDepth 8000

/-- A box with one term. -/
def Bz4 (w : World) (b : Nat) (x y z u : Value) : Prop := w.heap[b]? = some (.cells #[x, y, z, u] 26 (0, 0))
theorem Bz4.c0 {w : World} {b : Nat} {x y z u : Value} (h : Bz4 w b x y z u) : w.cell? ⟨b, 0, none⟩ = some x := by rw [cell_of_row w b 0 _ _ (0, 0) h]; rfl
theorem Bz4.c1 {w : World} {b : Nat} {x y z u : Value} (h : Bz4 w b x y z u) : w.cell? ⟨b, 1, none⟩ = some y := by rw [cell_of_row w b 1 _ _ (0, 0) h]; rfl
theorem Bz4.c2 {w : World} {b : Nat} {x y z u : Value} (h : Bz4 w b x y z u) : w.cell? ⟨b, 2, none⟩ = some z := by rw [cell_of_row w b 2 _ _ (0, 0) h]; rfl
theorem Bz4.c3 {w : World} {b : Nat} {x y z u : Value} (h : Bz4 w b x y z u) : w.cell? ⟨b, 3, none⟩ = some u := by rw [cell_of_row w b 3 _ _ (0, 0) h]; rfl
theorem Bz4.fr {w : World} {b : Nat} {x y z u : Value} (h : Bz4 w b x y z u) (j : Nat) : w.frozen? ⟨b, j, none⟩ = false := frozen_of_row w b j _ _ h
theorem Bz4.lt {w : World} {b : Nat} {x y z u : Value} (h : Bz4 w b x y z u) : b < w.heap.size := by unfold Bz4 at h; exact (Array.getElem?_eq_some_iff.1 h).1
theorem Bz4.new (w : World) (x y z u : Value) : Bz4 (w.alloc (.cells #[x, y, z, u] 26)) w.heap.size x y z u := heap_alloc_new w _
theorem Bz4.kept {w w' : World} {b : Nat} {x y z u : Value} (h : Bz4 w b x y z u) (hh : w'.heap[b]? = w.heap[b]?) : Bz4 w' b x y z u := by unfold Bz4; rw [hh]; exact h
theorem Bz4.grow {w w' : World} {b : Nat} {x y z u : Value} (h : Bz4 w b x y z u) (hk : Below w.heap.size w w') : Bz4 w' b x y z u := h.kept (hk.block b h.lt)
theorem Bz4.row {w w' : World} {b : Nat} {x y z u : Value} {row : Option Nat} (h : Bz4 w b x y z u) (hg : w.grownBy w' row) (hr : ∀ g, row = some g → g ≠ b) : Bz4 w' b x y z u := h.kept (hg.block b h.lt (fun e => hr b e.symm rfl))
theorem Bz4.put2 {w : World} {b : Nat} {x y z u : Value} (h : Bz4 w b x y z u) (z' : Value) : Bz4 (w.setCell ⟨b, 2, none⟩ z') b x y z' u := by
  unfold Bz4 at *
  rw [heap_setCell_same w b 2 _ _ z' h]; rfl
theorem Bz4.put3 {w : World} {b : Nat} {x y z u : Value} (h : Bz4 w b x y z u) (u' : Value) : Bz4 (w.setCell ⟨b, 3, none⟩ u') b x y z u' := by
  unfold Bz4 at *
  rw [heap_setCell_same w b 3 _ _ u' h]; rfl

def opsXT : List ByteArray := [⟨#[43]⟩, ⟨#[45]⟩, ⟨#[42]⟩, ⟨#[47]⟩, ⟨#[37]⟩, ⟨#[46]⟩, ⟨#[60]⟩, ⟨#[60, 61]⟩, ⟨#[61, 61]⟩, ⟨#[33, 61]⟩, ⟨#[62]⟩, ⟨#[62, 61]⟩, ⟨#[38, 38]⟩, ⟨#[124, 124]⟩]
theorem l8Ops_any (w : World) : Calls Try.prog 42 #[] w fun e w' => e = .returned (.slice (some ⟨w.heap.size, 0, none⟩) 14 14) ∧ Strs w' w.heap.size opsXT ∧ Below w.heap.size w w' := by
  go_enter Try.func42, Try.ntmps42
  go_wp2
  go_ret
  exact ⟨rfl, heap_alloc_new w _, (Below.refl _ _).alloc (Nat.le_refl _) _⟩
theorem opsXT_size : ∀ s ∈ opsXT, s.size ≤ 100 := by decide

theorem l8RexText_any (cb : Nat) (v : Value) (zs : List Int) (w : World) (h : Cur w cb v zs) :
    Calls Try.prog 43 #[.pointer (some ⟨cb, 0, none⟩)] w fun e w' => ∃ s : ByteArray, e = .returned (.string s) ∧ s.size ≤ 100 ∧ Cur w' cb v zs ∧ w.grownBy w' (some cb) := by
  have HC := Hid.mk h
  clear h
  go_enter Try.func43, Try.ntmps43
  go_wp2_with fail
  refine (l1Str_any cb w.heap.size 6 v zs [⟨#[97]⟩, ⟨#[94, 97]⟩, ⟨#[98, 43, 36]⟩, ⟨#[97, 124, 98]⟩, ⟨#[91, 97, 98, 93, 42, 99]⟩, ⟨#[49]⟩] _ (HC.out.grow ((Below.refl _ _).alloc (Nat.le_refl _) _)) rfl (by omega) (by omega) (heap_alloc_new w _) (by have := HC.out.lt; omega)).mono ?_
  rintro e w2 ⟨y, rfl, hy, hC2, hg2⟩
  have hys : y.size ≤ 100 := by
    simp only [List.mem_cons, List.not_mem_nil, or_false] at hy
    rcases hy with h | h | h | h | h | h <;> subst h <;> decide
  have HG := Hid.mk (grownBy_trans (gy_alloc w cb _) hg2)
  have HC2 := Hid.mk hC2
  clear hC2 hg2 HC hy
  go_wp2
  go_ret
  exact ⟨y, rfl, hys, HC2.out, HG.out⟩

def DrX (d : Nat) : Prop := ∀ (cb : Nat) (v : Value) (zs : List Int) (w : World), Cur w cb v zs →
  Calls Try.prog 28 #[.pointer (some ⟨cb, 0, none⟩), .int .i64 (d : Int)] w fun e w' => ∃ t u, e = .returned (xx t.k t.n t.s u) ∧ DxS d t ∧ El w' (nf w' (w.heap.size + 1)) t.l u ∧ Cur w' cb v zs ∧ w.grownBy w' (some cb)
set_option maxHeartbeats 1000000 in
theorem drX_zero : DrX 0 := by
  intro cb v zs w h
  have hlt := h.lt
  have HNE : Hid (w.heap.size ≠ cb) := by show _ ≠ _; omega
  have HV : Hid (zs ≠ [] → ∀ k, v.ownBlock = some k → k < w.heap.size) := fun hz k hk => h.1.lt hz k hk
  have HC0 := Hid.mk (h.grow ((Below.refl _ _).alloc (Nat.le_refl _) (.cells #[.int .i64 0, .int .i64 0, .string ⟨#[]⟩, .slice none 0 0] 26)))
  have HB0 := Hid.mk (Bz4.new w (.int .i64 0) (.int .i64 0) (.string ⟨#[]⟩) (.slice none 0 0))
  have HG0 := Hid.mk (gy_alloc w cb (.cells #[.int .i64 0, .int .i64 0, .string ⟨#[]⟩, .slice none 0 0] 26))
  have HFIN : Hid (∀ (W : World) (t : Ex) (u : Value), DxS 0 t → El W (nf W (w.heap.size + 1)) t.l u → Cur W cb v zs → w.grownBy W (some cb) → DxS 0 t ∧ El (set4 W w.heap.size (.int .i64 t.k) (.int .i64 t.n) (.string t.s) u) (nf (set4 W w.heap.size (.int .i64 t.k) (.int .i64 t.n) (.string t.s) u) (w.heap.size + 1)) t.l u ∧ Cur (set4 W w.heap.size (.int .i64 t.k) (.int .i64 t.n) (.string t.s) u) cb v zs ∧ w.grownBy (set4 W w.heap.size (.int .i64 t.k) (.int .i64 t.n) (.string t.s) u) (some cb)) := by
    intro W t u h1 h2 h3 h4
    exact ⟨h1, h2.by (set4_by _ _ _ _ _ _) (by omega), h3.set4 HNE.out (fun hz k hk => by have := HV.out hz k hk; omega) _ _ _ _, gy_far h4 (set4_by _ _ _ _ _ _) (Nat.le_refl _)⟩
  clear h
  go_enter Try.func28, Try.ntmps28
  go_wp2_with fail
  refine (l8Leaf_any cb v zs _ HC0.out).mono ?_
  rintro e w9 ⟨t, u, rfl, hd9, he9, hC9, hg9⟩
  have HB9 := Hid.mk (HB0.out.row hg9 (fun g e => by cases e; exact fun e => HNE.out e.symm))
  have HG9 := Hid.mk (grownBy_trans HG0.out hg9)
  have HC9 := Hid.mk hC9
  have HE9 := Hid.mk (he9.imp (C := nf w9 (w.heap.size + 1)) fun b hb _ => ⟨by have := HB0.out.lt; have := hb.1; omega, hb.2⟩)
  have HD9 := Hid.mk hd9
  obtain ⟨uo, uc, rfl, -, -, -⟩ := he9.len
  clear hd9 he9 hC9 hg9
  have HF := Hid.mk (HFIN.out w9 (t) (.slice uo t.l.length uc) (HD9.out.mono (Nat.zero_le _)) (HE9.out) (HC9.out) (HG9.out))
  have z0 := HB9.out.c0
  have z1 := HB9.out.c1
  have z2 := HB9.out.c2
  have z3 := HB9.out.c3
  have zf := HB9.out.fr
  clear HFIN
  go_wp2
  have f0 : ((((w9.setCell ⟨w.heap.size, 0, none⟩ (.int .i64 t.k)).setCell ⟨w.heap.size, 1, none⟩ (.int .i64 t.n)).setCell ⟨w.heap.size, 2, none⟩ (.string t.s)).setCell ⟨w.heap.size, 3, none⟩ (.slice uo t.l.length uc)).cell? ⟨w.heap.size, 0, none⟩ = some (.int .i64 t.k) := by go_simp
  have f1 : ((((w9.setCell ⟨w.heap.size, 0, none⟩ (.int .i64 t.k)).setCell ⟨w.heap.size, 1, none⟩ (.int .i64 t.n)).setCell ⟨w.heap.size, 2, none⟩ (.string t.s)).setCell ⟨w.heap.size, 3, none⟩ (.slice uo t.l.length uc)).cell? ⟨w.heap.size, 1, none⟩ = some (.int .i64 t.n) := by go_simp
  have f2 : ((((w9.setCell ⟨w.heap.size, 0, none⟩ (.int .i64 t.k)).setCell ⟨w.heap.size, 1, none⟩ (.int .i64 t.n)).setCell ⟨w.heap.size, 2, none⟩ (.string t.s)).setCell ⟨w.heap.size, 3, none⟩ (.slice uo t.l.length uc)).cell? ⟨w.heap.size, 2, none⟩ = some (.string t.s) := by go_simp
  have f3 : ((((w9.setCell ⟨w.heap.size, 0, none⟩ (.int .i64 t.k)).setCell ⟨w.heap.size, 1, none⟩ (.int .i64 t.n)).setCell ⟨w.heap.size, 2, none⟩ (.string t.s)).setCell ⟨w.heap.size, 3, none⟩ (.slice uo t.l.length uc)).cell? ⟨w.heap.size, 3, none⟩ = some (.slice uo t.l.length uc) := by go_simp
  obtain ⟨h1, h2, h3, h4⟩ := HF.out
  refine bodyPost_ret (v := .agg #[(.int .i64 t.k), (.int .i64 t.n), (.string t.s), (.slice uo t.l.length uc)]) ?_ rfl ⟨t, _, rfl, h1, h2, h3, h4⟩
  generalize ((((w9.setCell ⟨w.heap.size, 0, none⟩ (.int .i64 t.k)).setCell ⟨w.heap.size, 1, none⟩ (.int .i64 t.n)).setCell ⟨w.heap.size, 2, none⟩ (.string t.s)).setCell ⟨w.heap.size, 3, none⟩ (.slice uo t.l.length uc)) = W at f0 f1 f2 f3
  simp [results, Try.results28, go_sem, f0, f1, f2, f3]

set_option maxHeartbeats 4000000 in
theorem drX_succ (d : Nat) (hd : d ≤ 100) (ih : DrX d) : DrX (d + 1) := by
  intro cb v zs w h
  have hlt := h.lt
  have HNE : Hid (w.heap.size ≠ cb) := by show _ ≠ _; omega
  have HV : Hid (zs ≠ [] → ∀ k, v.ownBlock = some k → k < w.heap.size) := fun hz k hk => h.1.lt hz k hk
  have HC0 := Hid.mk (h.grow ((Below.refl _ _).alloc (Nat.le_refl _) (.cells #[.int .i64 0, .int .i64 0, .string ⟨#[]⟩, .slice none 0 0] 26)))
  have HB0 := Hid.mk (Bz4.new w (.int .i64 0) (.int .i64 0) (.string ⟨#[]⟩) (.slice none 0 0))
  have HG0 := Hid.mk (gy_alloc w cb (.cells #[.int .i64 0, .int .i64 0, .string ⟨#[]⟩, .slice none 0 0] 26))
  have HFIN : Hid (∀ (W : World) (t : Ex) (u : Value), DxS (d + 1) t → El W (nf W (w.heap.size + 1)) t.l u → Cur W cb v zs → w.grownBy W (some cb) → DxS (d + 1) t ∧ El (set4 W w.heap.size (.int .i64 t.k) (.int .i64 t.n) (.string t.s) u) (nf (set4 W w.heap.size (.int .i64 t.k) (.int .i64 t.n) (.string t.s) u) (w.heap.size + 1)) t.l u ∧ Cur (set4 W w.heap.size (.int .i64 t.k) (.int .i64 t.n) (.string t.s) u) cb v zs ∧ w.grownBy (set4 W w.heap.size (.int .i64 t.k) (.int .i64 t.n) (.string t.s) u) (some cb)) := by
    intro W t u h1 h2 h3 h4
    exact ⟨h1, h2.by (set4_by _ _ _ _ _ _) (by omega), h3.set4 HNE.out (fun hz k hk => by have := HV.out hz k hk; omega) _ _ _ _, gy_far h4 (set4_by _ _ _ _ _ _) (Nat.le_refl _)⟩
  clear h
  have IH := Hid.mk ih
  obtain ⟨D, hD⟩ : ∃ D : Int, ((d + 1 : Nat) : Int) = D := ⟨_, rfl⟩
  rw [hD]
  have hD0 : (D == 0) = false := beq_eq_false_iff_ne.2 (by omega)
  have hD1 : D - 1 = (d : Int) := by omega
  have hdw : -9223372036854775808 ≤ (d : Int) ∧ (d : Int) ≤ 9223372036854775807 := by omega
  have hDw : -9223372036854775808 ≤ D - 1 ∧ D - 1 ≤ 9223372036854775807 := by omega
  clear ih hD
  go_enter Try.func28, Try.ntmps28
  go_wp2_with fail
  refine (l1Once_any cb v zs 4 _ HC0.out).mono ?_
  rintro e w1 ⟨b, rfl, hC, hg⟩
  have HB1 := Hid.mk (HB0.out.row hg (fun g e => by cases e; exact fun e => HNE.out e.symm))
  have HG1 := Hid.mk (grownBy_trans HG0.out hg)
  have HC1 := Hid.mk hC
  clear hC hg HB0 HG0 HC0
  cases b with
  | true =>
    go_wp2_with fail
    refine (l8Leaf_any cb v zs _ HC1.out).mono ?_
    rintro e w9 ⟨t, u, rfl, hd9, he9, hC9, hg9⟩
    have HB9 := Hid.mk (HB1.out.row hg9 (fun g e => by cases e; exact fun e => HNE.out e.symm))
    have HG9 := Hid.mk (grownBy_trans HG1.out hg9)
    have HC9 := Hid.mk hC9
    have HE9 := Hid.mk (he9.imp (C := nf w9 (w.heap.size + 1)) fun b hb _ => ⟨by have := HB1.out.lt; have := hb.1; omega, hb.2⟩)
    have HD9 := Hid.mk hd9
    obtain ⟨uo, uc, rfl, -, -, -⟩ := he9.len
    clear hd9 he9 hC9 hg9
    have HF := Hid.mk (HFIN.out w9 (t) (.slice uo t.l.length uc) (HD9.out.mono (Nat.zero_le _)) (HE9.out) (HC9.out) (HG9.out))
    have z0 := HB9.out.c0
    have z1 := HB9.out.c1
    have z2 := HB9.out.c2
    have z3 := HB9.out.c3
    have zf := HB9.out.fr
    clear HFIN
    go_wp2
    have f0 : ((((w9.setCell ⟨w.heap.size, 0, none⟩ (.int .i64 t.k)).setCell ⟨w.heap.size, 1, none⟩ (.int .i64 t.n)).setCell ⟨w.heap.size, 2, none⟩ (.string t.s)).setCell ⟨w.heap.size, 3, none⟩ (.slice uo t.l.length uc)).cell? ⟨w.heap.size, 0, none⟩ = some (.int .i64 t.k) := by go_simp
    have f1 : ((((w9.setCell ⟨w.heap.size, 0, none⟩ (.int .i64 t.k)).setCell ⟨w.heap.size, 1, none⟩ (.int .i64 t.n)).setCell ⟨w.heap.size, 2, none⟩ (.string t.s)).setCell ⟨w.heap.size, 3, none⟩ (.slice uo t.l.length uc)).cell? ⟨w.heap.size, 1, none⟩ = some (.int .i64 t.n) := by go_simp
    have f2 : ((((w9.setCell ⟨w.heap.size, 0, none⟩ (.int .i64 t.k)).setCell ⟨w.heap.size, 1, none⟩ (.int .i64 t.n)).setCell ⟨w.heap.size, 2, none⟩ (.string t.s)).setCell ⟨w.heap.size, 3, none⟩ (.slice uo t.l.length uc)).cell? ⟨w.heap.size, 2, none⟩ = some (.string t.s) := by go_simp
    have f3 : ((((w9.setCell ⟨w.heap.size, 0, none⟩ (.int .i64 t.k)).setCell ⟨w.heap.size, 1, none⟩ (.int .i64 t.n)).setCell ⟨w.heap.size, 2, none⟩ (.string t.s)).setCell ⟨w.heap.size, 3, none⟩ (.slice uo t.l.length uc)).cell? ⟨w.heap.size, 3, none⟩ = some (.slice uo t.l.length uc) := by go_simp
    obtain ⟨h1, h2, h3, h4⟩ := HF.out
    refine bodyPost_ret (v := .agg #[(.int .i64 t.k), (.int .i64 t.n), (.string t.s), (.slice uo t.l.length uc)]) ?_ rfl ⟨t, _, rfl, h1, h2, h3, h4⟩
    generalize ((((w9.setCell ⟨w.heap.size, 0, none⟩ (.int .i64 t.k)).setCell ⟨w.heap.size, 1, none⟩ (.int .i64 t.n)).setCell ⟨w.heap.size, 2, none⟩ (.string t.s)).setCell ⟨w.heap.size, 3, none⟩ (.slice uo t.l.length uc)) = W at f0 f1 f2 f3
    simp [results, Try.results28, go_sem, f0, f1, f2, f3]
  | false =>
    go_wp2_with fail
    refine (l1Int_any cb w1.heap.size 16 v zs [6, 6, 6, 6, 4, 5, 7, 8, 9, 10, 11, 12, 13, 16, 17, 18] _ (HC1.out.grow ((Below.refl _ _).alloc (Nat.le_refl _) _)) rfl (by omega) (by omega) (heap_alloc_new w1 _) (by have := HC1.out.lt; omega)).mono ?_
    rintro e w2 ⟨K, rfl, hK, hC2, hg2⟩
    have HK : Hid (K = 6 ∨ K = 4 ∨ K = 5 ∨ K = 7 ∨ K = 8 ∨ K = 9 ∨ K = 10 ∨ K = 11 ∨ K = 12 ∨ K = 13 ∨ K = 16 ∨ K = 17 ∨ K = 18) := by
      simp only [List.mem_cons, List.not_mem_nil, or_false] at hK
      show _ ∨ _
      omega
    have HB2 := Hid.mk ((HB1.out.grow ((Below.refl _ _).alloc (Nat.le_refl _) _)).row hg2 (fun g e => by cases e; exact fun e => HNE.out e.symm))
    have HG2 := Hid.mk (grownBy_trans (gy_new HG1.out _) hg2)
    have HC2 := Hid.mk hC2
    clear hK hC2 hg2 HB1 HG1 HC1
    have HX3 := Hid.mk (Bz4.new w2 (.int .i64 K) (.int .i64 0) (.string ⟨#[]⟩) (.slice none 0 0))
    have A3 : Below w2.heap.size w2 (w2.alloc (.cells #[.int .i64 K, .int .i64 0, .string ⟨#[]⟩, .slice none 0 0] 26)) := (Below.refl _ _).alloc (Nat.le_refl _) _
    have HB3 := Hid.mk (HB2.out.grow A3)
    have HG3 := Hid.mk (gy_below HG2.out A3)
    have HC3 := Hid.mk (HC2.out.grow A3)
    have hrb : w.heap.size ≤ w2.heap.size := HG2.out.size
    have hrb2 : w.heap.size < w2.heap.size := HB2.out.lt
    have hrne : w2.heap.size ≠ cb := by have := HC2.out.lt; omega
    clear HB2 HG2 HC2 A3
    go_upto_block 0 with fail
    generalize w2.alloc (.cells #[.int .i64 K, .int .i64 0, .string ⟨#[]⟩, .slice none 0 0] 26) = w3 at *
    generalize w2.heap.size = rb at *
    go_cut [7] from 23 (fun s7 wx => ∃ (N : Nat) (S : ByteArray), s7 = .int .i64 N ∧ N ≤ 3 ∧ S.size ≤ 100 ∧ Hid (Cur wx cb v zs) ∧ Hid (w.grownBy wx (some cb)) ∧ Hid (Bz4 wx rb (.int .i64 K) (.int .i64 0) (.string S) (.slice none 0 0)) ∧ Hid (Bz4 wx w.heap.size (.int .i64 0) (.int .i64 0) (.string ⟨#[]⟩) (.slice none 0 0)))
    case first =>
      rcases HK.out with hk | hk | hk | hk | hk | hk | hk | hk | hk | hk | hk | hk | hk
      · subst hk
        go_wp2_with fail
        refine (l8Ops_any _).mono ?_
        rintro e w5 ⟨rfl, hstr, hb5⟩
        go_wp2_with fail
        refine (l1Str_any cb w3.heap.size 14 v zs opsXT _ (HC3.out.grow hb5) rfl (by omega) (by omega) hstr (by have := HC3.out.lt; omega)).mono ?_
        rintro e w4 ⟨y, rfl, hy, hC4, hg4⟩
        have hys : y.size ≤ 100 := opsXT_size _ hy
        have HX4 := Hid.mk ((HX3.out.grow hb5).row hg4 (fun g e => by cases e; exact fun e => hrne e.symm))
        have HB4 := Hid.mk ((HB3.out.grow hb5).row hg4 (fun g e => by cases e; exact fun e => HNE.out e.symm))
        have HG4 := Hid.mk (grownBy_trans (gy_below HG3.out hb5) hg4)
        have HC4 := Hid.mk hC4
        clear hy hC4 hg4 hb5 hstr
        have HXs := Hid.mk (HX4.out.put2 (.string y))
        have HBs := Hid.mk (HB4.out.row (gb_set w4 rb 2 (.string y)) (fun g e => by cases e; omega))
        have HGs := Hid.mk (gy_far HG4.out (gb_set w4 rb 2 (.string y)) hrb)
        have HCs := Hid.mk (HC4.out.row (gb_set w4 rb 2 (.string y)) (fun g e => by cases e; exact ⟨hrne, fun hz k hk => by have := HV.out hz k hk; omega⟩))
        have z2 := HX4.out.c2
        have zf := HX4.out.fr
        go_wp2
        go_meet
        case rel => exact ⟨2, y, by first | rfl | go_num, by omega, hys, HCs, HGs, HXs, HBs⟩
      · subst hk
        go_wp2_with fail
        refine (l1Str_any cb w3.heap.size 2 v zs [⟨#[116]⟩, ⟨#[117]⟩] _ (HC3.out.grow ((Below.refl _ _).alloc (Nat.le_refl _) _)) rfl (by omega) (by omega) (heap_alloc_new w3 _) (by have := HC3.out.lt; omega)).mono ?_
        rintro e w4 ⟨y, rfl, hy, hC4, hg4⟩
        have hys : y.size ≤ 100 := by
          simp only [List.mem_cons, List.not_mem_nil, or_false] at hy
          rcases hy with h | h <;> subst h <;> decide
        have HX4 := Hid.mk ((HX3.out.grow ((Below.refl _ _).alloc (Nat.le_refl _) _)).row hg4 (fun g e => by cases e; exact fun e => hrne e.symm))
        have HB4 := Hid.mk ((HB3.out.grow ((Below.refl _ _).alloc (Nat.le_refl _) _)).row hg4 (fun g e => by cases e; exact fun e => HNE.out e.symm))
        have HG4 := Hid.mk (grownBy_trans (gy_new HG3.out _) hg4)
        have HC4 := Hid.mk hC4
        clear hy hC4 hg4
        have HXs := Hid.mk (HX4.out.put2 (.string y))
        have HBs := Hid.mk (HB4.out.row (gb_set w4 rb 2 (.string y)) (fun g e => by cases e; omega))
        have HGs := Hid.mk (gy_far HG4.out (gb_set w4 rb 2 (.string y)) hrb)
        have HCs := Hid.mk (HC4.out.row (gb_set w4 rb 2 (.string y)) (fun g e => by cases e; exact ⟨hrne, fun hz k hk => by have := HV.out hz k hk; omega⟩))
        have z2 := HX4.out.c2
        have zf := HX4.out.fr
        go_wp2
        go_meet
        case rel => exact ⟨1, y, by first | rfl | go_num, by omega, hys, HCs, HGs, HXs, HBs⟩
      · subst hk
        go_wp2
        go_meet
        case rel => exact ⟨1, ⟨#[]⟩, by first | rfl | go_num, by omega, by decide, HC3, HG3, HX3, HB3⟩
      · subst hk
        go_wp2
        go_meet
        case rel => exact ⟨1, ⟨#[]⟩, by first | rfl | go_num, by omega, by decide, HC3, HG3, HX3, HB3⟩
      · subst hk
        go_wp2
        go_meet
        case rel => exact ⟨1, ⟨#[]⟩, by first | rfl | go_num, by omega, by decide, HC3, HG3, HX3, HB3⟩
      · subst hk
        go_wp2_with fail
        refine (l1Str_any cb w3.heap.size 2 v zs [⟨#[116]⟩, ⟨#[117]⟩] _ (HC3.out.grow ((Below.refl _ _).alloc (Nat.le_refl _) _)) rfl (by omega) (by omega) (heap_alloc_new w3 _) (by have := HC3.out.lt; omega)).mono ?_
        rintro e w4 ⟨y, rfl, hy, hC4, hg4⟩
        have hys : y.size ≤ 100 := by
          simp only [List.mem_cons, List.not_mem_nil, or_false] at hy
          rcases hy with h | h <;> subst h <;> decide
        have HX4 := Hid.mk ((HX3.out.grow ((Below.refl _ _).alloc (Nat.le_refl _) _)).row hg4 (fun g e => by cases e; exact fun e => hrne e.symm))
        have HB4 := Hid.mk ((HB3.out.grow ((Below.refl _ _).alloc (Nat.le_refl _) _)).row hg4 (fun g e => by cases e; exact fun e => HNE.out e.symm))
        have HG4 := Hid.mk (grownBy_trans (gy_new HG3.out _) hg4)
        have HC4 := Hid.mk hC4
        clear hy hC4 hg4
        have HXs := Hid.mk (HX4.out.put2 (.string y))
        have HBs := Hid.mk (HB4.out.row (gb_set w4 rb 2 (.string y)) (fun g e => by cases e; omega))
        have HGs := Hid.mk (gy_far HG4.out (gb_set w4 rb 2 (.string y)) hrb)
        have HCs := Hid.mk (HC4.out.row (gb_set w4 rb 2 (.string y)) (fun g e => by cases e; exact ⟨hrne, fun hz k hk => by have := HV.out hz k hk; omega⟩))
        have z2 := HX4.out.c2
        have zf := HX4.out.fr
        go_wp2
        go_meet
        case rel => exact ⟨1, y, by first | rfl | go_num, by omega, hys, HCs, HGs, HXs, HBs⟩
      · subst hk
        go_wp2_with fail
        refine (l8RexText_any cb v zs _ HC3.out).mono ?_
        rintro e w4 ⟨y, rfl, hys, hC4, hg4⟩
        have HX4 := Hid.mk (HX3.out.row hg4 (fun g e => by cases e; exact fun e => hrne e.symm))
        have HB4 := Hid.mk (HB3.out.row hg4 (fun g e => by cases e; exact fun e => HNE.out e.symm))
        have HG4 := Hid.mk (grownBy_trans HG3.out hg4)
        have HC4 := Hid.mk hC4
        clear hC4 hg4
        have HXs := Hid.mk (HX4.out.put2 (.string y))
        have HBs := Hid.mk (HB4.out.row (gb_set w4 rb 2 (.string y)) (fun g e => by cases e; omega))
        have HGs := Hid.mk (gy_far HG4.out (gb_set w4 rb 2 (.string y)) hrb)
        have HCs := Hid.mk (HC4.out.row (gb_set w4 rb 2 (.string y)) (fun g e => by cases e; exact ⟨hrne, fun hz k hk => by have := HV.out hz k hk; omega⟩))
        have z2 := HX4.out.c2
        have zf := HX4.out.fr
        go_wp2
        go_meet
        case rel => exact ⟨1, y, by first | rfl | go_num, by omega, hys, HCs, HGs, HXs, HBs⟩
      · subst hk
        go_wp2_with fail
        refine (l1Str_any cb w3.heap.size 2 v zs [⟨#[102]⟩, ⟨#[103]⟩] _ (HC3.out.grow ((Below.refl _ _).alloc (Nat.le_refl _) _)) rfl (by omega) (by omega) (heap_alloc_new w3 _) (by have := HC3.out.lt; omega)).mono ?_
        rintro e w4 ⟨y, rfl, hy, hC4, hg4⟩
        have hys : y.size ≤ 100 := by
          simp only [List.mem_cons, List.not_mem_nil, or_false] at hy
          rcases hy with h | h <;> subst h <;> decide
        have HX4 := Hid.mk ((HX3.out.grow ((Below.refl _ _).alloc (Nat.le_refl _) _)).row hg4 (fun g e => by cases e; exact fun e => hrne e.symm))
        have HB4 := Hid.mk ((HB3.out.grow ((Below.refl _ _).alloc (Nat.le_refl _) _)).row hg4 (fun g e => by cases e; exact fun e => HNE.out e.symm))
        have HG4 := Hid.mk (grownBy_trans (gy_new HG3.out _) hg4)
        have HC4 := Hid.mk hC4
        clear hy hC4 hg4
        have HXs := Hid.mk (HX4.out.put2 (.string y))
        have HBs := Hid.mk (HB4.out.row (gb_set w4 rb 2 (.string y)) (fun g e => by cases e; omega))
        have HGs := Hid.mk (gy_far HG4.out (gb_set w4 rb 2 (.string y)) hrb)
        have HCs := Hid.mk (HC4.out.row (gb_set w4 rb 2 (.string y)) (fun g e => by cases e; exact ⟨hrne, fun hz k hk => by have := HV.out hz k hk; omega⟩))
        have z2 := HX4.out.c2
        have zf := HX4.out.fr
        go_wp2_with fail
        refine (l1Below_any cb v zs 3 _ HCs.out).mono ?_
        rintro e w6 ⟨n, rfl, hn0, hn1, -, hC6, hg6⟩
        have hn3 := hn1 (by omega)
        obtain ⟨N, rfl⟩ := Int.eq_ofNat_of_zero_le hn0
        have HX6 := Hid.mk (HXs.out.row hg6 (fun g e => by cases e; exact fun e => hrne e.symm))
        have HB6 := Hid.mk (HBs.out.row hg6 (fun g e => by cases e; exact fun e => HNE.out e.symm))
        have HG6 := Hid.mk (grownBy_trans HGs.out hg6)
        have HC6 := Hid.mk hC6
        clear hC6 hg6 hn1
        go_wp2
        go_meet
        case rel => exact ⟨N, y, by first | rfl | go_num, by omega, hys, HC6, HG6, HX6, HB6⟩
      · subst hk
        go_wp2
        go_meet
        case rel => exact ⟨1, ⟨#[]⟩, by first | rfl | go_num, by omega, by decide, HC3, HG3, HX3, HB3⟩
      · subst hk
        go_wp2
        go_meet
        case rel => exact ⟨3, ⟨#[]⟩, by first | rfl | go_num, by omega, by decide, HC3, HG3, HX3, HB3⟩
      · subst hk
        go_wp2
        go_meet
        case rel => exact ⟨2, ⟨#[]⟩, by first | rfl | go_num, by omega, by decide, HC3, HG3, HX3, HB3⟩
      · subst hk
        go_wp2
        go_meet
        case rel => exact ⟨1, ⟨#[]⟩, by first | rfl | go_num, by omega, by decide, HC3, HG3, HX3, HB3⟩
      · subst hk
        go_wp2_with fail
        refine (l8RexText_any cb v zs _ HC3.out).mono ?_
        rintro e w4 ⟨y, rfl, hys, hC4, hg4⟩
        have HX4 := Hid.mk (HX3.out.row hg4 (fun g e => by cases e; exact fun e => hrne e.symm))
        have HB4 := Hid.mk (HB3.out.row hg4 (fun g e => by cases e; exact fun e => HNE.out e.symm))
        have HG4 := Hid.mk (grownBy_trans HG3.out hg4)
        have HC4 := Hid.mk hC4
        clear hC4 hg4
        have HXs := Hid.mk (HX4.out.put2 (.string y))
        have HBs := Hid.mk (HB4.out.row (gb_set w4 rb 2 (.string y)) (fun g e => by cases e; omega))
        have HGs := Hid.mk (gy_far HG4.out (gb_set w4 rb 2 (.string y)) hrb)
        have HCs := Hid.mk (HC4.out.row (gb_set w4 rb 2 (.string y)) (fun g e => by cases e; exact ⟨hrne, fun hz k hk => by have := HV.out hz k hk; omega⟩))
        have z2 := HX4.out.c2
        have zf := HX4.out.fr
        go_wp2
        go_meet
        case rel => exact ⟨2, y, by first | rfl | go_num, by omega, hys, HCs, HGs, HXs, HBs⟩
    case rest =>
      obtain ⟨N, S, rfl, hN, hSs, HC5, HG5, HX5, HB5⟩ := hcut
      clear HX3 HB3 HG3 HC3
      go_wp2
      go_loopw [8] (fun i wr => ∃ (k : Nat) (L : List Xv) (V : Value), k ≤ N ∧ i = .int .i64 k ∧ Hid (L.length = k) ∧ Hid (OwnX d wr (rb + 1) V L) ∧ Hid (Bz4 wr rb (.int .i64 K) (.int .i64 0) (.string S) V) ∧ Hid (Bz4 wr w.heap.size (.int .i64 0) (.int .i64 0) (.string ⟨#[]⟩) (.slice none 0 0)) ∧ Hid (Cur wr cb v zs) ∧ Hid (w.grownBy wr (some cb)) ∧ rb < wr.heap.size) (fun i _ => N - (intOf i).toNat)
      case atStart => exact ⟨0, [], _, Nat.zero_le _, rfl, rfl, OwnX.none _ _ _, HX5, HB5, HC5, HG5, HX5.out.lt⟩
      case round =>
        obtain ⟨k, L, V, hk, rfl, HL, HO, HX, HB, HC, HG, hrl⟩ := hrel
        clear HX5 HB5 HC5 HG5
        by_cases hkn : k < N
        · have hkn' : (k : Int) < (N : Int) := by omega
          have HCd : Hid (Cur wr.drew cb v zs) := (HC.out.grow (Below.drewSelf _ _ 1))
          have HXd : Hid (Bz4 wr.drew rb (.int .i64 K) (.int .i64 0) (.string S) V) := (HX.out.grow (Below.drewSelf _ _ 1))
          have HBd : Hid (Bz4 wr.drew w.heap.size (.int .i64 0) (.int .i64 0) (.string ⟨#[]⟩) (.slice none 0 0)) := (HB.out.grow (Below.drewSelf _ _ 1))
          have HOd : Hid (OwnX d wr.drew (rb + 1) V L) := (HO.out.grow (Below.drewSelf _ _ 1))
          have HGd : Hid (w.grownBy wr.drew (some cb)) := (gy_below HG.out (Below.drewSelf _ _ 1))
          have hrd : rb < wr.drew.heap.size := hrl
          have HROW : Hid (∀ k, V.ownBlock = some k → k < wr.drew.heap.size) := fun k hk => (World.ownsRow.lt HOd.out.1 k hk).2
          clear HC HX HB HO HG hrl
          go_wp2_with fail
          refine wp_region_held_drew (S := fun _ => True) (by kernel_rfl) trivial (fun _ => ?_)
          generalize wr.drew = wd at *
          refine takeHD (i := 0) (v := .pointer (some ⟨rb, 3, none⟩)) (some 63) rfl rfl (by kernel_rfl) (by kernel_rfl) (by kernel_rfl) (fun _ _ _ h => h) (Or.inl ⟨by kernel_rfl, fun w' hw => ?_⟩) trivial ?_
          · kernel_rfl
          simp only [Act.put, List.setIfInBounds_toArray]
          refine takeHD (i := 2) (v := .pointer (some ⟨cb, 0, none⟩)) (some 65) rfl rfl (by kernel_rfl) (by kernel_rfl) (by kernel_rfl) (fun _ _ _ h => h) (Or.inl ⟨by kernel_rfl, fun w' hw => ?_⟩) trivial ?_
          · kernel_rfl
          simp only [Act.put, List.setIfInBounds_toArray]
          refine takeHD (i := 3) (v := .int .i64 D) (some 66) rfl rfl (by kernel_rfl) (by kernel_rfl) (by kernel_rfl) (fun _ _ _ h => h) (Or.inl ⟨by kernel_rfl, fun w' hw => ?_⟩) trivial ?_
          · kernel_rfl
          simp only [Act.put, List.setIfInBounds_toArray]
          refine takeHD (i := 4) (v := .int .i64 (d : Int)) (some 67) rfl rfl (by kernel_rfl) (by kernel_rfl) (by kernel_rfl) (fun _ _ _ h => h) (Or.inl ⟨by kernel_rfl, fun w' hw => ?_⟩) trivial ?_
          · go_simp; rw [IntKind.wrap_i64] <;> omega
          simp only [Act.put, List.setIfInBounds_toArray]
          refine wpAnyH_ready (rs := [1, 5]) (by kernel_rfl) (by simp) ?_
          refine AllReadyH.cons rfl (fun K hK => ?_) (AllReadyH.cons rfl (fun K hK => ?_) AllReadyH.nil)
          · have x3 := HXd.out.c3
            rw [if_pos (by kernel_rfl)]
            go_wp2_with fail
            refine hK.out _ _ trivial (fun _ => ?_)
            clear hK K
            clear x3
            refine wpAnyH_ready (rs := [5]) (by kernel_rfl) (by simp) ?_
            refine AllReadyH.cons rfl (fun K hK => ?_) AllReadyH.nil
            rw [if_pos (by kernel_rfl)]
            go_wp2_with fail

            refine (IH.out cb v zs _ HCd.out).mono ?_
            rintro e w9 ⟨t, u, rfl, hd9, he9, hC9, hg9⟩
            have HX9 := Hid.mk (HXd.out.row hg9 (fun g e => by cases e; exact fun e => hrne e.symm))
            have HB9 := Hid.mk (HBd.out.row hg9 (fun g e => by cases e; exact fun e => HNE.out e.symm))
            have HO9 := Hid.mk (HOd.out.by hg9 (by omega))
            have HG9 := Hid.mk (grownBy_trans HGd.out hg9)
            have HC9 := Hid.mk hC9
            have s9 : wd.heap.size ≤ w9.heap.size := hg9.size
            have HE9 := Hid.mk he9
            have HD9 := Hid.mk hd9
            obtain ⟨uo, uc, rfl, -, -, -⟩ := he9.len
            clear hd9 he9 hC9 hg9 HXd HBd HOd HGd HCd IH
            refine hK.out _ _ trivial (fun _ => ?_)
            clear hK K
            refine wpAnyH_ready (rs := [6]) (by kernel_rfl) (by simp) ?_
            refine AllReadyH.cons rfl (fun K hK => ?_) AllReadyH.nil
            rw [if_pos (by kernel_rfl)]
            go_wp2_with fail
            refine hK.out _ _ trivial (fun _ => ?_)
            clear hK K
            have A9 : Below w9.heap.size w9 (w9.alloc (.cells #[.int .i64 t.k, .int .i64 t.n, .string t.s, .slice uo t.l.length uc] 26)) := (Below.refl _ _).alloc (Nat.le_refl _) _
            have HN := Hid.mk (heap_alloc_new w9 (.cells #[.int .i64 t.k, .int .i64 t.n, .string t.s, .slice uo t.l.length uc] 26))
            have HX2 := Hid.mk (HX9.out.grow A9)
            have HB2 := Hid.mk (HB9.out.grow A9)
            have HO2 := Hid.mk (HO9.out.grow A9)
            have HE2 := Hid.mk (HE9.out.nfgrow A9)
            have HG2 := Hid.mk (gy_below HG9.out A9)
            have HC2 := Hid.mk (HC9.out.grow A9)
            have s2 : rb < (w9.alloc (.cells #[.int .i64 t.k, .int .i64 t.n, .string t.s, .slice uo t.l.length uc] 26)).heap.size := by have := A9.size; omega
            clear HX9 HB9 HO9 HE9 HG9 HC9 A9
            generalize w9.heap.size = lb at *
            generalize w9.alloc (.cells #[.int .i64 t.k, .int .i64 t.n, .string t.s, .slice uo t.l.length uc] 26) = w2 at *
            refine wpAnyH_ready (rs := [7]) (by kernel_rfl) (by simp) ?_
            refine AllReadyH.cons rfl (fun K hK => ?_) AllReadyH.nil
            rw [if_pos (by kernel_rfl)]
            refine wp_append_x (.tmp 64) (.tmp 69) rfl d (rb + 1) (wd.heap.size + 1) V L t (.slice uo t.l.length uc) rfl HO2.out lb rfl HN.out HE2.out HD9.out (by omega) (fun k hk => by have := HROW.out k hk; omega) (by omega) (by have := HL.out; omega) ?_
            rintro V' w4 hO4 ⟨row, hr4, hg4⟩
            obtain ⟨vo, vn, vc, rfl⟩ : ∃ vo vn vc, V' = .slice vo vn vc := by obtain ⟨o, c, h, -⟩ := hO4.el.1.len; exact ⟨_, _, _, h⟩
            have HX4 := Hid.mk (HX2.out.row hg4 (fun g e => by have := hr4 g e; omega))
            have HB4 := Hid.mk (HB2.out.row hg4 (fun g e => by have := hr4 g e; omega))
            have HC4 := Hid.mk (HC2.out.row hg4 (fun g e => by have := hr4 g e; exact ⟨by omega, fun hz k hk => by have := HV.out hz k hk; omega⟩))
            have HG4 := Hid.mk (gy_row HG2.out hg4 (fun g e => by have := hr4 g e; omega))
            have HO4 := Hid.mk hO4
            have s4 : rb < w4.heap.size := by have := hg4.size; omega
            clear HX2 HB2 HC2 HG2 HO2 HE2 HN hO4 hr4 hg4
            refine hK.out _ _ trivial (fun _ => ?_)
            clear hK K
            refine takeHD (i := 8) (v := .pointer (some ⟨rb, 3, none⟩)) (some 71) rfl rfl (by kernel_rfl) (by kernel_rfl) (by kernel_rfl) (fun _ _ _ h => h) (Or.inl ⟨by kernel_rfl, fun w' hw => ?_⟩) trivial ?_
            · kernel_rfl
            simp only [Act.put, List.setIfInBounds_toArray]
            refine wpAnyH_ready (rs := [9]) (by kernel_rfl) (by simp) ?_
            refine AllReadyH.cons rfl (fun K hK => ?_) AllReadyH.nil
            have x3 := HX4.out.c3
            have xf := HX4.out.fr
            rw [if_pos (by kernel_rfl)]
            go_wp2_with fail
            refine hK.out _ _ trivial (fun _ => ?_)
            clear hK K
            clear x3 xf
            have HX5 := Hid.mk (HX4.out.put3 (.slice vo vn vc))
            have HB5 := Hid.mk (HB4.out.row (gb_set w4 rb 3 (.slice vo vn vc)) (fun g e => by cases e; omega))
            have HG5 := Hid.mk (gy_far HG4.out (gb_set w4 rb 3 (.slice vo vn vc)) hrb)
            have HC5 := Hid.mk (HC4.out.row (gb_set w4 rb 3 (.slice vo vn vc)) (fun g e => by cases e; exact ⟨hrne, fun hz k hk => by have := HV.out hz k hk; omega⟩))
            have HO5 := Hid.mk (HO4.out.by (gb_set w4 rb 3 (.slice vo vn vc)) (by omega))
            have s5 : rb < (w4.setCell ⟨rb, 3, none⟩ (.slice vo vn vc)).heap.size := HX5.out.lt
            clear HX4 HB4 HG4 HC4 HO4
            refine wpAnyH_done (by kernel_rfl) ?_ _
            go_wp2
            go_roundw
            case rel => exact ⟨k + 1, L ++ [(t, .slice uo t.l.length uc)], (.slice vo vn vc), by omega, by first | rfl | go_num, (by show _ = _; have := HL.out; simp; omega), HO5, HX5, HB5, HC5, HG5, s5⟩
            case measure => simp [intOf]; omega
          · rw [if_pos (by kernel_rfl)]
            go_wp2_with fail

            refine (IH.out cb v zs _ HCd.out).mono ?_
            rintro e w9 ⟨t, u, rfl, hd9, he9, hC9, hg9⟩
            have HX9 := Hid.mk (HXd.out.row hg9 (fun g e => by cases e; exact fun e => hrne e.symm))
            have HB9 := Hid.mk (HBd.out.row hg9 (fun g e => by cases e; exact fun e => HNE.out e.symm))
            have HO9 := Hid.mk (HOd.out.by hg9 (by omega))
            have HG9 := Hid.mk (grownBy_trans HGd.out hg9)
            have HC9 := Hid.mk hC9
            have s9 : wd.heap.size ≤ w9.heap.size := hg9.size
            have HE9 := Hid.mk he9
            have HD9 := Hid.mk hd9
            obtain ⟨uo, uc, rfl, -, -, -⟩ := he9.len
            clear hd9 he9 hC9 hg9 HXd HBd HOd HGd HCd IH
            refine hK.out _ _ trivial (fun _ => ?_)
            clear hK K
            refine wpAnyH_ready (rs := [1, 6]) (by kernel_rfl) (by simp) ?_
            refine AllReadyH.cons rfl (fun K hK => ?_) (AllReadyH.cons rfl (fun K hK => ?_) AllReadyH.nil)
            · have x3 := HX9.out.c3
              rw [if_pos (by kernel_rfl)]
              go_wp2_with fail
              refine hK.out _ _ trivial (fun _ => ?_)
              clear hK K
              clear x3
              refine wpAnyH_ready (rs := [6]) (by kernel_rfl) (by simp) ?_
              refine AllReadyH.cons rfl (fun K hK => ?_) AllReadyH.nil
              rw [if_pos (by kernel_rfl)]
              go_wp2_with fail
              refine hK.out _ _ trivial (fun _ => ?_)
              clear hK K
              have A9 : Below w9.heap.size w9 (w9.alloc (.cells #[.int .i64 t.k, .int .i64 t.n, .string t.s, .slice uo t.l.length uc] 26)) := (Below.refl _ _).alloc (Nat.le_refl _) _
              have HN := Hid.mk (heap_alloc_new w9 (.cells #[.int .i64 t.k, .int .i64 t.n, .string t.s, .slice uo t.l.length uc] 26))
              have HX2 := Hid.mk (HX9.out.grow A9)
              have HB2 := Hid.mk (HB9.out.grow A9)
              have HO2 := Hid.mk (HO9.out.grow A9)
              have HE2 := Hid.mk (HE9.out.nfgrow A9)
              have HG2 := Hid.mk (gy_below HG9.out A9)
              have HC2 := Hid.mk (HC9.out.grow A9)
              have s2 : rb < (w9.alloc (.cells #[.int .i64 t.k, .int .i64 t.n, .string t.s, .slice uo t.l.length uc] 26)).heap.size := by have := A9.size; omega
              clear HX9 HB9 HO9 HE9 HG9 HC9 A9
              generalize w9.heap.size = lb at *
              generalize w9.alloc (.cells #[.int .i64 t.k, .int .i64 t.n, .string t.s, .slice uo t.l.length uc] 26) = w2 at *
              refine wpAnyH_ready (rs := [7]) (by kernel_rfl) (by simp) ?_
              refine AllReadyH.cons rfl (fun K hK => ?_) AllReadyH.nil
              rw [if_pos (by kernel_rfl)]
              refine wp_append_x (.tmp 64) (.tmp 69) rfl d (rb + 1) (wd.heap.size + 1) V L t (.slice uo t.l.length uc) rfl HO2.out lb rfl HN.out HE2.out HD9.out (by omega) (fun k hk => by have := HROW.out k hk; omega) (by omega) (by have := HL.out; omega) ?_
              rintro V' w4 hO4 ⟨row, hr4, hg4⟩
              obtain ⟨vo, vn, vc, rfl⟩ : ∃ vo vn vc, V' = .slice vo vn vc := by obtain ⟨o, c, h, -⟩ := hO4.el.1.len; exact ⟨_, _, _, h⟩
              have HX4 := Hid.mk (HX2.out.row hg4 (fun g e => by have := hr4 g e; omega))
              have HB4 := Hid.mk (HB2.out.row hg4 (fun g e => by have := hr4 g e; omega))
              have HC4 := Hid.mk (HC2.out.row hg4 (fun g e => by have := hr4 g e; exact ⟨by omega, fun hz k hk => by have := HV.out hz k hk; omega⟩))
              have HG4 := Hid.mk (gy_row HG2.out hg4 (fun g e => by have := hr4 g e; omega))
              have HO4 := Hid.mk hO4
              have s4 : rb < w4.heap.size := by have := hg4.size; omega
              clear HX2 HB2 HC2 HG2 HO2 HE2 HN hO4 hr4 hg4
              refine hK.out _ _ trivial (fun _ => ?_)
              clear hK K
              refine takeHD (i := 8) (v := .pointer (some ⟨rb, 3, none⟩)) (some 71) rfl rfl (by kernel_rfl) (by kernel_rfl) (by kernel_rfl) (fun _ _ _ h => h) (Or.inl ⟨by kernel_rfl, fun w' hw => ?_⟩) trivial ?_
              · kernel_rfl
              simp only [Act.put, List.setIfInBounds_toArray]
              refine wpAnyH_ready (rs := [9]) (by kernel_rfl) (by simp) ?_
              refine AllReadyH.cons rfl (fun K hK => ?_) AllReadyH.nil
              have x3 := HX4.out.c3
              have xf := HX4.out.fr
              rw [if_pos (by kernel_rfl)]
              go_wp2_with fail
              refine hK.out _ _ trivial (fun _ => ?_)
              clear hK K
              clear x3 xf
              have HX5 := Hid.mk (HX4.out.put3 (.slice vo vn vc))
              have HB5 := Hid.mk (HB4.out.row (gb_set w4 rb 3 (.slice vo vn vc)) (fun g e => by cases e; omega))
              have HG5 := Hid.mk (gy_far HG4.out (gb_set w4 rb 3 (.slice vo vn vc)) hrb)
              have HC5 := Hid.mk (HC4.out.row (gb_set w4 rb 3 (.slice vo vn vc)) (fun g e => by cases e; exact ⟨hrne, fun hz k hk => by have := HV.out hz k hk; omega⟩))
              have HO5 := Hid.mk (HO4.out.by (gb_set w4 rb 3 (.slice vo vn vc)) (by omega))
              have s5 : rb < (w4.setCell ⟨rb, 3, none⟩ (.slice vo vn vc)).heap.size := HX5.out.lt
              clear HX4 HB4 HG4 HC4 HO4
              refine wpAnyH_done (by kernel_rfl) ?_ _
              go_wp2
              go_roundw
              case rel => exact ⟨k + 1, L ++ [(t, .slice uo t.l.length uc)], (.slice vo vn vc), by omega, by first | rfl | go_num, (by show _ = _; have := HL.out; simp; omega), HO5, HX5, HB5, HC5, HG5, s5⟩
              case measure => simp [intOf]; omega
            · rw [if_pos (by kernel_rfl)]
              go_wp2_with fail
              refine hK.out _ _ trivial (fun _ => ?_)
              clear hK K
              have A9 : Below w9.heap.size w9 (w9.alloc (.cells #[.int .i64 t.k, .int .i64 t.n, .string t.s, .slice uo t.l.length uc] 26)) := (Below.refl _ _).alloc (Nat.le_refl _) _
              have HN := Hid.mk (heap_alloc_new w9 (.cells #[.int .i64 t.k, .int .i64 t.n, .string t.s, .slice uo t.l.length uc] 26))
              have HX2 := Hid.mk (HX9.out.grow A9)
              have HB2 := Hid.mk (HB9.out.grow A9)
              have HO2 := Hid.mk (HO9.out.grow A9)
              have HE2 := Hid.mk (HE9.out.nfgrow A9)
              have HG2 := Hid.mk (gy_below HG9.out A9)
              have HC2 := Hid.mk (HC9.out.grow A9)
              have s2 : rb < (w9.alloc (.cells #[.int .i64 t.k, .int .i64 t.n, .string t.s, .slice uo t.l.length uc] 26)).heap.size := by have := A9.size; omega
              clear HX9 HB9 HO9 HE9 HG9 HC9 A9
              generalize w9.heap.size = lb at *
              generalize w9.alloc (.cells #[.int .i64 t.k, .int .i64 t.n, .string t.s, .slice uo t.l.length uc] 26) = w2 at *
              refine wpAnyH_ready (rs := [1]) (by kernel_rfl) (by simp) ?_
              refine AllReadyH.cons rfl (fun K hK => ?_) AllReadyH.nil
              have x3 := HX2.out.c3
              rw [if_pos (by kernel_rfl)]
              go_wp2_with fail
              refine hK.out _ _ trivial (fun _ => ?_)
              clear hK K
              clear x3
              refine wpAnyH_ready (rs := [7]) (by kernel_rfl) (by simp) ?_
              refine AllReadyH.cons rfl (fun K hK => ?_) AllReadyH.nil
              rw [if_pos (by kernel_rfl)]
              refine wp_append_x (.tmp 64) (.tmp 69) rfl d (rb + 1) (wd.heap.size + 1) V L t (.slice uo t.l.length uc) rfl HO2.out lb rfl HN.out HE2.out HD9.out (by omega) (fun k hk => by have := HROW.out k hk; omega) (by omega) (by have := HL.out; omega) ?_
              rintro V' w4 hO4 ⟨row, hr4, hg4⟩
              obtain ⟨vo, vn, vc, rfl⟩ : ∃ vo vn vc, V' = .slice vo vn vc := by obtain ⟨o, c, h, -⟩ := hO4.el.1.len; exact ⟨_, _, _, h⟩
              have HX4 := Hid.mk (HX2.out.row hg4 (fun g e => by have := hr4 g e; omega))
              have HB4 := Hid.mk (HB2.out.row hg4 (fun g e => by have := hr4 g e; omega))
              have HC4 := Hid.mk (HC2.out.row hg4 (fun g e => by have := hr4 g e; exact ⟨by omega, fun hz k hk => by have := HV.out hz k hk; omega⟩))
              have HG4 := Hid.mk (gy_row HG2.out hg4 (fun g e => by have := hr4 g e; omega))
              have HO4 := Hid.mk hO4
              have s4 : rb < w4.heap.size := by have := hg4.size; omega
              clear HX2 HB2 HC2 HG2 HO2 HE2 HN hO4 hr4 hg4
              refine hK.out _ _ trivial (fun _ => ?_)
              clear hK K
              refine takeHD (i := 8) (v := .pointer (some ⟨rb, 3, none⟩)) (some 71) rfl rfl (by kernel_rfl) (by kernel_rfl) (by kernel_rfl) (fun _ _ _ h => h) (Or.inl ⟨by kernel_rfl, fun w' hw => ?_⟩) trivial ?_
              · kernel_rfl
              simp only [Act.put, List.setIfInBounds_toArray]
              refine wpAnyH_ready (rs := [9]) (by kernel_rfl) (by simp) ?_
              refine AllReadyH.cons rfl (fun K hK => ?_) AllReadyH.nil
              have x3 := HX4.out.c3
              have xf := HX4.out.fr
              rw [if_pos (by kernel_rfl)]
              go_wp2_with fail
              refine hK.out _ _ trivial (fun _ => ?_)
              clear hK K
              clear x3 xf
              have HX5 := Hid.mk (HX4.out.put3 (.slice vo vn vc))
              have HB5 := Hid.mk (HB4.out.row (gb_set w4 rb 3 (.slice vo vn vc)) (fun g e => by cases e; omega))
              have HG5 := Hid.mk (gy_far HG4.out (gb_set w4 rb 3 (.slice vo vn vc)) hrb)
              have HC5 := Hid.mk (HC4.out.row (gb_set w4 rb 3 (.slice vo vn vc)) (fun g e => by cases e; exact ⟨hrne, fun hz k hk => by have := HV.out hz k hk; omega⟩))
              have HO5 := Hid.mk (HO4.out.by (gb_set w4 rb 3 (.slice vo vn vc)) (by omega))
              have s5 : rb < (w4.setCell ⟨rb, 3, none⟩ (.slice vo vn vc)).heap.size := HX5.out.lt
              clear HX4 HB4 HG4 HC4 HO4
              refine wpAnyH_done (by kernel_rfl) ?_ _
              go_wp2
              go_roundw
              case rel => exact ⟨k + 1, L ++ [(t, .slice uo t.l.length uc)], (.slice vo vn vc), by omega, by first | rfl | go_num, (by show _ = _; have := HL.out; simp; omega), HO5, HX5, HB5, HC5, HG5, s5⟩
              case measure => simp [intOf]; omega
        · have hkn' : ¬ (k : Int) < (N : Int) := by omega
          have e : k = N := by omega
          subst e
          obtain ⟨HEL, HDS⟩ := HO.out.el
          have HEM := Hid.mk (HEL.imp (C := nf wr (w.heap.size + 1)) fun b hb _ => ⟨by have := hb.1; omega, hb.2⟩)
          clear HEL
          have HDX : Hid (DxS (d + 1) (.node K 0 S (L.map (·.1)))) := DxS.node hSs (by rw [List.length_map]; have := HL.out; omega) HDS
          clear HDS HO HL
          obtain ⟨M, hM⟩ : ∃ M, L.map (·.1) = M := ⟨_, rfl⟩
          rw [hM] at HEM HDX
          clear hM L
          obtain ⟨uo, uc, hu, -, -, -⟩ := HEM.out.len
          subst hu
          have x0 := HX.out.c0
          have x1 := HX.out.c1
          have x2 := HX.out.c2
          have x3 := HX.out.c3
          have HF := Hid.mk (HFIN.out wr (.node K 0 S M) (.slice uo M.length uc) (HDX.out) (HEM.out) (HC.out) (HG.out))
          have z0 := HB.out.c0
          have z1 := HB.out.c1
          have z2 := HB.out.c2
          have z3 := HB.out.c3
          have zf := HB.out.fr
          clear HFIN
          go_wp2
          have f0 : ((((wr.setCell ⟨w.heap.size, 0, none⟩ (.int .i64 K)).setCell ⟨w.heap.size, 1, none⟩ (.int .i64 0)).setCell ⟨w.heap.size, 2, none⟩ (.string S)).setCell ⟨w.heap.size, 3, none⟩ (.slice uo M.length uc)).cell? ⟨w.heap.size, 0, none⟩ = some (.int .i64 K) := by go_simp
          have f1 : ((((wr.setCell ⟨w.heap.size, 0, none⟩ (.int .i64 K)).setCell ⟨w.heap.size, 1, none⟩ (.int .i64 0)).setCell ⟨w.heap.size, 2, none⟩ (.string S)).setCell ⟨w.heap.size, 3, none⟩ (.slice uo M.length uc)).cell? ⟨w.heap.size, 1, none⟩ = some (.int .i64 0) := by go_simp
          have f2 : ((((wr.setCell ⟨w.heap.size, 0, none⟩ (.int .i64 K)).setCell ⟨w.heap.size, 1, none⟩ (.int .i64 0)).setCell ⟨w.heap.size, 2, none⟩ (.string S)).setCell ⟨w.heap.size, 3, none⟩ (.slice uo M.length uc)).cell? ⟨w.heap.size, 2, none⟩ = some (.string S) := by go_simp
          have f3 : ((((wr.setCell ⟨w.heap.size, 0, none⟩ (.int .i64 K)).setCell ⟨w.heap.size, 1, none⟩ (.int .i64 0)).setCell ⟨w.heap.size, 2, none⟩ (.string S)).setCell ⟨w.heap.size, 3, none⟩ (.slice uo M.length uc)).cell? ⟨w.heap.size, 3, none⟩ = some (.slice uo M.length uc) := by go_simp
          obtain ⟨h1, h2, h3, h4⟩ := HF.out
          refine bodyPost_ret (v := .agg #[(.int .i64 K), (.int .i64 0), (.string S), (.slice uo M.length uc)]) ?_ rfl ⟨.node K 0 S M, _, rfl, h1, h2, h3, h4⟩
          generalize ((((wr.setCell ⟨w.heap.size, 0, none⟩ (.int .i64 K)).setCell ⟨w.heap.size, 1, none⟩ (.int .i64 0)).setCell ⟨w.heap.size, 2, none⟩ (.string S)).setCell ⟨w.heap.size, 3, none⟩ (.slice uo M.length uc)) = W at f0 f1 f2 f3
          simp [results, Try.results28, go_sem, f0, f1, f2, f3]
theorem drX_any : ∀ d : Nat, d ≤ 100 → DrX d
  | 0, _ => drX_zero
  | d + 1, h => drX_succ d (by omega) (drX_any d (by omega))
end Go.Proofs.Ytijpmnenegdmnaa
