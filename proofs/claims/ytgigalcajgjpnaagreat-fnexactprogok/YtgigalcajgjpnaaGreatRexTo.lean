/- The small functions of the laws over regular expressions: how great one is, a copy, whether two are the same. A copy of a regular expression, by the laws' own function: it reads the same tree, in new blocks. -/
import Derived.Test.YtgigalcajgjpnaaGreatRexTree
import Derived.Test.YtgigalcajgjpnaaGreatLeaf
namespace Go.Proofs.YtgigalcajgjpnaaGreat
open Go.RowKit
set_option maxRecDepth 8000

mutual
def Tr.sz : Tr → Nat
  | .node _ s l => s.size + szs l
def szs : List Tr → Nat
  | [] => 0
  | t :: r => 1 + t.sz + szs r
end

theorem Tr.sz_eq (t : Tr) : t.sz = t.s.size + szs t.l := by cases t; rw [Tr.sz]; rfl
theorem szs_take (l : List Tr) (k : Nat) (h : k < l.length) : szs (l.take (k + 1)) = szs (l.take k) + 1 + l[k].sz := by
  induction l generalizing k with
  | nil => simp at h
  | cons t r ih =>
    cases k with
    | zero => simp [szs]
    | succ k =>
      have := ih k (by simpa using h)
      simp only [List.take_succ_cons, szs, List.getElem_cons_succ]
      omega
theorem szs_take_le (l : List Tr) (k : Nat) : szs (l.take k) ≤ szs l := by
  induction l generalizing k with
  | nil => simp
  | cons t r ih =>
    cases k with
    | zero => simp [szs]
    | succ k => have := ih k; simp only [List.take_succ_cons, szs]; omega
theorem szs_length (l : List Tr) : l.length ≤ szs l := by
  induction l with
  | nil => simp
  | cons t r ih => simp only [List.length_cons, szs]; omega
theorem szs_take_length (l : List Tr) (k : Nat) (h : k ≤ l.length) : szs (l.take k) + (l.length - k) ≤ szs l := by
  induction l generalizing k with
  | nil => simp
  | cons t r ih =>
    cases k with
    | zero => have := szs_length (t :: r); simpa [szs] using this
    | succ k => have := ih k (by simpa using h); simp only [List.take_succ_cons, szs, List.length_cons]; omega

/-- What is left of a room behind so much. -/
def leftOf (left : Int) (n : Nat) : Int := if left < n then -1 else left - n

theorem ret_int' {a b : Int} (h : a = b) : Ending.returned (.int .i64 a) = .returned (.int .i64 b) := by rw [h]

end Go.Proofs.YtgigalcajgjpnaaGreat

namespace Go.Proofs.YtgigalcajgjpnaaGreat
open Go.RowKit
set_option maxRecDepth 8000

def newFrom (n : Nat) : Nat → Prop := fun b => n ≤ b

/-- New blocks, none of them frozen. -/
def nf (w : World) (n b : Nat) : Prop := n ≤ b ∧ ∀ o, w.frozen? ⟨b, o, none⟩ = false

theorem Rl.nfgrow {w w' : World} {n : Nat} {l : List Tr} {v : Value} (h : Rl w (nf w n) l v) (hk : Below w.heap.size w w') : Rl w' (nf w' n) l v :=
  (h.imp (C := nf w' n) fun b hb hlt => ⟨hb.1, fun o => by rw [hk.frozen (p := ⟨b, o, none⟩) hlt]; exact hb.2 o⟩).grow hk

theorem Rl.nfset {w : World} {n : Nat} {l : List Tr} {v : Value} (h : Rl w (nf w n) l v) {a : Addr} (ha : a.block < n) (u : Value) : Rl (w.setCell a u) (nf (w.setCell a u) n) l v :=
  (h.setCell (fun hb => by have := hb.1; omega) u).imp fun b hb _ => ⟨hb.1, fun o => by rw [World.frozen?_setCell]; exact hb.2 o⟩

/-- The first k of a row of expressions are laid. -/
def Fill (wr : World) (g : Nat) (e : TypeId) (l : List Tr) (k : Nat) : Prop :=
  ∃ (xs : List Value) (V : Nat → Value), wr.ownsRow g e 3 (.slice (some ⟨g, 0, none⟩) l.length l.length) l.length xs ∧
    ∀ i (h : i < l.length), i < k → (xs[i * 3]? = some (.int .i64 l[i].k) ∧ xs[i * 3 + 1]? = some (.string l[i].s) ∧ xs[i * 3 + 2]? = some (V i)) ∧ Rl wr (nf wr (g + 1)) l[i].l (V i)

theorem own_grow {w w' : World} {base : Nat} {e : TypeId} {c n : Nat} {v : Value} {xs : List Value} (h : w.ownsRow base e c v n xs) (hk : Below w.heap.size w w') : w'.ownsRow base e c v n xs :=
  World.ownsRow.kept (row := none) h ⟨hk.os, hk.tape, hk.output, hk.size, fun k h1 _ => hk.block k h1⟩ (by cases hv : v.ownBlock <;> simp)

theorem Fill.grow {w w' : World} {g : Nat} {e : TypeId} {l : List Tr} {k : Nat} (h : Fill w g e l k) (hk : Below w.heap.size w w') : Fill w' g e l k := by
  obtain ⟨xs, V, ho, hr⟩ := h
  exact ⟨xs, V, own_grow ho hk, fun i h1 h2 => ⟨(hr i h1 h2).1, (hr i h1 h2).2.nfgrow hk⟩⟩

theorem Fill.step {w : World} {g : Nat} {e : TypeId} {l : List Tr} {k : Nat} (h : Fill w g e l k) (hk : k < l.length) {u : Value} (hu : Rl w (nf w (g + 1)) l[k].l u) :
    Fill (((w.setCell ⟨g, k * 3, none⟩ (.int .i64 l[k].k)).setCell ⟨g, k * 3 + 1, none⟩ (.string l[k].s)).setCell ⟨g, k * 3 + 2, none⟩ u) g e l (k + 1) := by
  obtain ⟨xs, V, ho, hr⟩ := h
  have o1 := (ho.stored (k * 3) (.int .i64 l[k].k)).1
  have o2 := (o1.stored (k * 3 + 1) (.string l[k].s)).1
  have o3 := (o2.stored (k * 3 + 2) u).1
  have hl : xs.length = l.length * 3 := ho.1
  refine ⟨_, fun i => if i = k then u else V i, o3, fun i hi hik => ?_⟩
  have hn : g < g + 1 := by omega
  by_cases he : i = k
  · subst he
    refine ⟨⟨?_, ?_, ?_⟩, ?_⟩
    · rw [List.getElem?_set_ne (by omega), List.getElem?_set_ne (by omega), List.getElem?_set_self (by omega)]
    · rw [List.getElem?_set_ne (by omega), List.getElem?_set_self (by simp; omega)]
    · rw [List.getElem?_set_self (by simp; omega)]; show some u = some (if i = i then u else V i); rw [if_pos rfl]
    · show Rl _ _ _ (if i = i then u else V i)
      rw [if_pos rfl]
      exact ((hu.nfset hn _).nfset hn _).nfset hn _
  · obtain ⟨⟨x0, x1, x2⟩, x3⟩ := hr i hi (by omega)
    refine ⟨⟨?_, ?_, ?_⟩, ?_⟩
    · rw [List.getElem?_set_ne (by omega), List.getElem?_set_ne (by omega), List.getElem?_set_ne (by omega)]; exact x0
    · rw [List.getElem?_set_ne (by omega), List.getElem?_set_ne (by omega), List.getElem?_set_ne (by omega)]; exact x1
    · rw [List.getElem?_set_ne (by omega), List.getElem?_set_ne (by omega), List.getElem?_set_ne (by omega)]; show xs[i * 3 + 2]? = some (if i = k then u else V i); rw [if_neg he]; exact x2
    · show Rl _ _ _ (if i = k then u else V i)
      rw [if_neg he]
      exact ((x3.nfset hn _).nfset hn _).nfset hn _

theorem Fill.rl {w : World} {g : Nat} {e : TypeId} {l : List Tr} (h : Fill w g e l l.length) (hm : l.length ≤ maxLen) (hs : ∀ i (h : i < l.length), l[i].s.size ≤ maxLen) :
    Rl w (nf w g) l (.slice (some ⟨g, 0, none⟩) l.length l.length) := by
  obtain ⟨xs, V, ho, hr⟩ := h
  by_cases hl : l = []
  · subst hl
    exact .empty _ _ (by simp) fun h => by cases h
  · refine .full l g 0 l.length V ⟨Nat.le_refl _, fun o => ho.frozenAt o⟩ hl (Nat.le_refl _) hm hs (fun i hi => ?_) fun i hi => (hr i hi hi).2.imp fun b hb _ => ⟨by have := hb.1; omega, hb.2⟩
    obtain ⟨⟨x0, x1, x2⟩, _⟩ := hr i hi hi
    rw [Nat.zero_add]
    exact ⟨by rw [ho.cellAt _ (by omega), x0], by rw [ho.cellAt _ (by omega), x1], by rw [ho.cellAt _ (by omega), x2]⟩

theorem infoRex : (Tryz.prog.info? 187).map (fun i => (i.zero, i.size, i.bytes)) = some (some (rx 0 ⟨#[]⟩ (.slice none 0 0)), 3, 48) := by kernel_rfl

theorem szs_sub (l : List Tr) (k : Nat) (h : k < l.length) : szs l[k].l ≤ szs l := by
  have := szs_take l k h
  have := szs_take_le l (k + 1)
  have := l[k].sz_eq
  omega

end Go.Proofs.YtgigalcajgjpnaaGreat
