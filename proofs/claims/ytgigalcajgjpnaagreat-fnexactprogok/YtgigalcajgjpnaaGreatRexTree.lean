/- Regular expressions as trees, and what a slice of them reads: 'Rl w l v': the value v is a slice whose elements in the world w are the trees l. -/
import Derived.Test.YtgigalcajgjpnaaGreatBytes
import Derived.Deep.Slices
import Derived.Deep.Strs
namespace Go.Proofs.YtgigalcajgjpnaaGreat
open Go.RowKit

inductive Tr where
  | node (k : Int) (s : ByteArray) (l : List Tr)

def Tr.k : Tr → Int | .node k _ _ => k
def Tr.s : Tr → ByteArray | .node _ s _ => s
def Tr.l : Tr → List Tr | .node _ _ l => l

instance : Inhabited Tr := ⟨.node 0 ⟨#[]⟩ []⟩

theorem Tr.eta : ∀ t : Tr, .node t.k t.s t.l = t | .node _ _ _ => rfl

theorem Tr.ind {P : Tr → Prop} (h : ∀ t : Tr, (∀ x ∈ t.l, P x) → P t) : ∀ t, P t := by
  intro t
  exact Tr.rec (motive_1 := P) (motive_2 := fun l => ∀ x ∈ l, P x) (fun k s l ih => h (.node k s l) ih) (by simp) (fun a l ha hl => by
    intro x hx
    rcases List.mem_cons.1 hx with rfl | hx
    · exact ha
    · exact hl x hx) t

/-- The three cells of one. -/
def At3 (w : World) (b o : Nat) (k : Int) (s : ByteArray) (v : Value) : Prop :=
  w.cell? ⟨b, o, none⟩ = some (.int .i64 k) ∧ w.cell? ⟨b, o + 1, none⟩ = some (.string s) ∧ w.cell? ⟨b, o + 2, none⟩ = some v

inductive Rl (w : World) (B : Nat → Prop) : List Tr → Value → Prop
  | empty (ao : Option Addr) (cap : Nat) (hm : cap ≤ maxLen) (hn : ao = none → cap = 0) : Rl w B [] (.slice ao 0 cap)
  | full (l : List Tr) (b off cap : Nat) (V : Nat → Value) (hb : B b) (hl : l ≠ []) (hc : l.length ≤ cap) (hm : cap ≤ maxLen)
      (hs : ∀ i (h : i < l.length), l[i].s.size ≤ maxLen)
      (hcell : ∀ i (h : i < l.length), At3 w b (off + i * 3) l[i].k l[i].s (V i))
      (hsub : ∀ i (h : i < l.length), Rl w B l[i].l (V i)) : Rl w B l (.slice (some ⟨b, off, none⟩) l.length cap)

/-- A regular expression as the program has it. -/
abbrev rx (k : Int) (s : ByteArray) (v : Value) : Value := .agg #[.int .i64 k, .string s, v]

theorem At3.grow {w w' : World} {b o : Nat} {k : Int} {s : ByteArray} {v : Value} (h : At3 w b o k s v) (hk : Below w.heap.size w w') : At3 w' b o k s v := by
  obtain ⟨h0, h1, h2⟩ := h
  have hb := World.block_lt_of_cell? w _ h0
  have hh := hk.block b hb
  exact ⟨by rw [World.cell?_of_block (w := w) hh]; exact h0, by rw [World.cell?_of_block (w := w) hh]; exact h1, by rw [World.cell?_of_block (w := w) hh]; exact h2⟩

theorem At3.kept {w w' : World} {b o : Nat} {k : Int} {s : ByteArray} {v : Value} (h : At3 w b o k s v) (hh : w'.heap[b]? = w.heap[b]?) : At3 w' b o k s v := by
  obtain ⟨h0, h1, h2⟩ := h
  exact ⟨by rw [World.cell?_of_block (w := w) hh]; exact h0, by rw [World.cell?_of_block (w := w) hh]; exact h1, by rw [World.cell?_of_block (w := w) hh]; exact h2⟩

/-- Whatever leaves these blocks leaves what is read. -/
theorem Rl.kept {w w' : World} {B : Nat → Prop} {l : List Tr} {v : Value} (h : Rl w B l v) (hk : ∀ b, B b → b < w.heap.size → w'.heap[b]? = w.heap[b]?) : Rl w' B l v := by
  induction h with
  | empty ao cap hm hn => exact .empty ao cap hm hn
  | full l b off cap V hb hl hc hm hs hcell hsub ih =>
    refine .full l b off cap V hb hl hc hm hs (fun i h => (hcell i h).kept (hk b hb ?_)) ih
    have h0 : 0 < l.length := List.length_pos_iff.2 hl
    exact World.block_lt_of_cell? w _ (hcell 0 h0).1

theorem Rl.grow {w w' : World} {B : Nat → Prop} {l : List Tr} {v : Value} (h : Rl w B l v) (hk : Below w.heap.size w w') : Rl w' B l v :=
  h.kept fun b _ hb => hk.block b hb

theorem Rl.imp {w : World} {B C : Nat → Prop} {l : List Tr} {v : Value} (h : Rl w B l v) (hk : ∀ b, B b → b < w.heap.size → C b) : Rl w C l v := by
  induction h with
  | empty ao cap hm hn => exact .empty ao cap hm hn
  | full l b off cap V hb hl hc hm hs hcell hsub ih =>
    have h0 : 0 < l.length := List.length_pos_iff.2 hl
    exact .full l b off cap V (hk b hb (World.block_lt_of_cell? w _ (hcell 0 h0).1)) hl hc hm hs hcell ih

theorem Rl.setCell {w : World} {B : Nat → Prop} {l : List Tr} {v : Value} (h : Rl w B l v) {a : Addr} (ha : ¬ B a.block) (u : Value) : Rl (w.setCell a u) B l v :=
  h.kept fun b hb _ => heap_setCell_other w a b u fun e => ha (e ▸ hb)

abbrev anyBlock : Nat → Prop := fun _ => True

theorem Rl.any {w : World} {B : Nat → Prop} {l : List Tr} {v : Value} (h : Rl w B l v) : Rl w anyBlock l v := h.imp fun _ _ _ => trivial

theorem Rl.len {w : World} {B : Nat → Prop} {l : List Tr} {v : Value} (h : Rl w B l v) : ∃ ao cap, v = .slice ao l.length cap ∧ l.length ≤ cap ∧ cap ≤ maxLen ∧ (ao = none → cap = 0) := by
  cases h with
  | empty ao cap hm hn => exact ⟨ao, cap, rfl, Nat.zero_le _, hm, hn⟩
  | full _ b off cap V hb hl hc hm hs hcell hsub => exact ⟨_, cap, rfl, hc, hm, fun h => by cases h⟩

theorem Rl.elems {w : World} {B : Nat → Prop} {l : List Tr} {ao : Option Addr} {n cap : Nat} (h : Rl w B l (.slice ao n cap)) (hl : l ≠ []) :
    ∃ (b off : Nat) (V : Nat → Value), ao = some ⟨b, off, none⟩ ∧ ∀ i (h : i < l.length), At3 w b (off + i * 3) l[i].k l[i].s (V i) ∧ Rl w B l[i].l (V i) ∧ l[i].s.size ≤ maxLen := by
  cases h with
  | empty _ _ _ _ => exact absurd rfl hl
  | full _ b off _ V hb hl hc hm hs hcell hsub => exact ⟨b, off, V, rfl, fun i h => ⟨hcell i h, hsub i h, hs i h⟩⟩

theorem Rl.zero (w : World) (B : Nat → Prop) : Rl w B [] (.slice none 0 0) := .empty none 0 (by simp) fun _ => rfl

theorem cell_of_cells3 {w : World} {a : Addr} {cs : List Value} (h : w.cells? 0 a 3 = some cs) : ∃ v0 v1 v2, cs = [v0, v1, v2] ∧ w.cell? (a.add 0) = some v0 ∧ w.cell? (a.add 1) = some v1 ∧ w.cell? (a.add 2) = some v2 := by
  obtain ⟨_, hlen, hcell⟩ := World.cells?_some h
  match cs, hlen with
  | [v0, v1, v2], _ => exact ⟨v0, v1, v2, rfl, by simpa using hcell 0 (by simp), by simpa using hcell 1 (by simp), by simpa using hcell 2 (by simp)⟩

section
variable {H : Type} {enc : TypeId × Value → H} {P : Program} {w : World} {sp : Nat → Bool} {held : Bool}

/-- What is read as data reads as trees. -/
theorem Rl.of_trod {t e ti ts : TypeId} {f0 f1 f2 : Field} (ht : P.underlying t = some (.slice e)) (he : P.underlying e = some (.struct #[f0, f1, f2]))
    (ce : P.cellsOf e = 3) (o0 : f0.offset = 0) (o1 : f1.offset = 1) (o2 : f2.offset = 2) (t0 : f0.type = ti) (t1 : f1.type = ts) (t2 : f2.type = t)
    (c0 : P.cellsOf ti = 1) (c1 : P.cellsOf ts = 1) (c2 : P.cellsOf t = 1) (hi : P.underlying ti = some (.int .i64)) (hst : P.underlying ts = some .string) :
    ∀ (fuel : Nat) (cs : List Value) (x : DataW H × List MemPlace), DataW.trod enc P w 0 sp held fuel t cs = some x → ∃ v l, cs = [v] ∧ Rl w anyBlock l v := by
  intro fuel
  induction fuel using Nat.strongRecOn with
  | _ fuel ih =>
  intro cs x h
  rcases DataW.trod_slice ht h with ⟨rfl, _⟩ | ⟨a, len, cap, elems, rest, n, hn, rfl, rfl, hb, hl, hm, hlen, hel, hsp, hns⟩
  · exact ⟨_, [], rfl, Rl.zero w _⟩
  · subst hn
    have each : ∀ i, i < len → ∃ q : Tr × Value, q.1.s.size ≤ maxLen ∧ w.cell? (a.add (i * 3)) = some (.int .i64 q.1.k) ∧ w.cell? (a.add (i * 3 + 1)) = some (.string q.1.s) ∧ w.cell? (a.add (i * 3 + 2)) = some q.2 ∧ Rl w anyBlock q.1.l q.2 := by
      intro i hi'
      have := hel i hi'
      rw [ce, List.getElem?_eq_getElem (by omega)] at this
      obtain ⟨cs', h1, h2⟩ := Option.bind_eq_some_iff.1 this
      obtain ⟨v0, v1, v2, rfl, e0, e1, e2⟩ := cell_of_cells3 h1
      obtain ⟨xs, k, hk, hxy, _, hxl, hf⟩ := DataW.trod_struct he h2
      subst hk
      have g0 := hf 0 f0 rfl
      have g1 := hf 1 f1 rfl
      have g2 := hf 2 f2 rfl
      simp [o0, o1, o2, t0, t1, t2, c0, c1, c2] at g0 g1 g2
      have hxl' : xs.length = 3 := by simpa using hxl
      rw [List.getElem?_eq_getElem (by omega)] at g0 g1 g2
      obtain ⟨k0, hk0, _, _⟩ := DataW.trod_int hi g0
      obtain ⟨s0, hs0, _, hsz⟩ := DataW.trod_string hst g1
      obtain ⟨v, l, hv, hr⟩ := ih k (by omega) _ _ g2
      simp at hk0 hs0 hv
      subst hk0 hs0 hv
      rw [Go.Deep.add_add] at e0 e1 e2
      exact ⟨(.node k0 s0 l, v2), hsz, by simpa [Tr.k] using e0, by simpa [Tr.s] using e1, by simpa using e2, hr⟩
    obtain ⟨q, hq⟩ := Go.Deep.choose_lt each
    rcases Nat.eq_zero_or_pos len with h0 | h0
    · subst h0
      exact ⟨_, [], rfl, .empty _ _ hm fun h => by cases h⟩
    · obtain ⟨b, off, spot⟩ := a
      have hspot : spot = none := by simpa [Addr.add] using World.cell?_spot (hq 0 h0).2.1
      subst hspot
      refine ⟨_, (List.range len).map fun i => (q i).1, rfl, ?_⟩
      have hll : ((List.range len).map fun i => (q i).1).length = len := by simp
      have := Rl.full (w := w) (B := anyBlock) ((List.range len).map fun i => (q i).1) b off cap (fun i => (q i).2) trivial (by intro h; rw [h] at hll; simp at hll; omega) (by rw [hll]; exact hl) hm
        (fun i h => by rw [hll] at h; simpa using (hq i h).1)
        (fun i h => by
          rw [hll] at h
          obtain ⟨_, x0, x1, x2, _⟩ := hq i h
          simp only [Addr.add_lit] at x0 x1 x2
          simp only [List.getElem_map, List.getElem_range]
          exact ⟨x0, x1, x2⟩)
        (fun i h => by rw [hll] at h; simpa using (hq i h).2.2.2.2)
      rwa [hll] at this
end
end Go.Proofs.YtgigalcajgjpnaaGreat
