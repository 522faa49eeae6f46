/- Statements as trees, and what a slice of them reads. -/
import Derived.Test.YtgigalcajgjpnaaGreatExTree
namespace Go.Proofs.YtgigalcajgjpnaaGreat
open Go.RowKit

inductive St where
  | node (k : Int) (s t : ByteArray) (x : List Ex) (a b : List St)

def St.k : St → Int | .node k _ _ _ _ _ => k
def St.s : St → ByteArray | .node _ s _ _ _ _ => s
def St.t : St → ByteArray | .node _ _ t _ _ _ => t
def St.x : St → List Ex | .node _ _ _ x _ _ => x
def St.a : St → List St | .node _ _ _ _ a _ => a
def St.b : St → List St | .node _ _ _ _ _ b => b

instance : Inhabited St := ⟨.node 0 ⟨#[]⟩ ⟨#[]⟩ [] [] []⟩

theorem St.eta : ∀ t : St, .node t.k t.s t.t t.x t.a t.b = t | .node _ _ _ _ _ _ => rfl

theorem St.ind {P : St → Prop} (h : ∀ t : St, (∀ y ∈ t.a, P y) → (∀ y ∈ t.b, P y) → P t) : ∀ t, P t := by
  intro t
  exact St.rec (motive_1 := P) (motive_2 := fun l => ∀ y ∈ l, P y) (fun k s t x a b iha ihb => h (.node k s t x a b) iha ihb) (by simp) (fun a l ha hl => by
    intro x hx
    rcases List.mem_cons.1 hx with rfl | hx
    · exact ha
    · exact hl x hx) t

/-- The six cells of one. -/
def St6 (w : World) (b o : Nat) (k : Int) (s t : ByteArray) (x y z : Value) : Prop :=
  w.cell? ⟨b, o, none⟩ = some (.int .i64 k) ∧ w.cell? ⟨b, o + 1, none⟩ = some (.string s) ∧ w.cell? ⟨b, o + 2, none⟩ = some (.string t) ∧ w.cell? ⟨b, o + 3, none⟩ = some x ∧ w.cell? ⟨b, o + 4, none⟩ = some y ∧ w.cell? ⟨b, o + 5, none⟩ = some z

inductive Sl (w : World) (B : Nat → Prop) : List St → Value → Prop
  | empty (ao : Option Addr) (cap : Nat) (hm : cap ≤ maxLen) (hn : ao = none → cap = 0) : Sl w B [] (.slice ao 0 cap)
  | full (l : List St) (b off cap : Nat) (X Y Z : Nat → Value) (hb : B b) (hl : l ≠ []) (hc : l.length ≤ cap) (hm : cap ≤ maxLen)
      (hs : ∀ i (h : i < l.length), l[i].s.size ≤ maxLen ∧ l[i].t.size ≤ maxLen)
      (hcell : ∀ i (h : i < l.length), St6 w b (off + i * 6) l[i].k l[i].s l[i].t (X i) (Y i) (Z i))
      (hx : ∀ i (h : i < l.length), El w B l[i].x (X i))
      (ha : ∀ i (h : i < l.length), Sl w B l[i].a (Y i))
      (hz : ∀ i (h : i < l.length), Sl w B l[i].b (Z i)) : Sl w B l (.slice (some ⟨b, off, none⟩) l.length cap)

/-- A statement as the program has it. -/
abbrev st (k : Int) (s t : ByteArray) (x y z : Value) : Value := .agg #[.int .i64 k, .string s, .string t, x, y, z]

theorem St6.kept {w w' : World} {b o : Nat} {k : Int} {s t : ByteArray} {x y z : Value} (h : St6 w b o k s t x y z) (hh : w'.heap[b]? = w.heap[b]?) : St6 w' b o k s t x y z := by
  obtain ⟨h0, h1, h2, h3, h4, h5⟩ := h
  exact ⟨by rw [World.cell?_of_block (w := w) hh]; exact h0, by rw [World.cell?_of_block (w := w) hh]; exact h1, by rw [World.cell?_of_block (w := w) hh]; exact h2, by rw [World.cell?_of_block (w := w) hh]; exact h3, by rw [World.cell?_of_block (w := w) hh]; exact h4, by rw [World.cell?_of_block (w := w) hh]; exact h5⟩

theorem St6.grow {w w' : World} {b o : Nat} {k : Int} {s t : ByteArray} {x y z : Value} (h : St6 w b o k s t x y z) (hk : Below w.heap.size w w') : St6 w' b o k s t x y z :=
  h.kept (hk.block b (World.block_lt_of_cell? w _ h.1))

/-- Whatever leaves these blocks leaves what is read. -/
theorem Sl.kept {w w' : World} {B : Nat → Prop} {l : List St} {v : Value} (h : Sl w B l v) (hk : ∀ b, B b → b < w.heap.size → w'.heap[b]? = w.heap[b]?) : Sl w' B l v := by
  induction h with
  | empty ao cap hm hn => exact .empty ao cap hm hn
  | full l b off cap X Y Z hb hl hc hm hs hcell hx ha hz iha ihz =>
    refine .full l b off cap X Y Z hb hl hc hm hs (fun i h => (hcell i h).kept (hk b hb ?_)) (fun i h => (hx i h).kept hk) iha ihz
    have h0 : 0 < l.length := List.length_pos_iff.2 hl
    exact World.block_lt_of_cell? w _ (hcell 0 h0).1

theorem Sl.grow {w w' : World} {B : Nat → Prop} {l : List St} {v : Value} (h : Sl w B l v) (hk : Below w.heap.size w w') : Sl w' B l v :=
  h.kept fun b _ hb => hk.block b hb

theorem Sl.imp {w : World} {B C : Nat → Prop} {l : List St} {v : Value} (h : Sl w B l v) (hk : ∀ b, B b → b < w.heap.size → C b) : Sl w C l v := by
  induction h with
  | empty ao cap hm hn => exact .empty ao cap hm hn
  | full l b off cap X Y Z hb hl hc hm hs hcell hx ha hz iha ihz =>
    have h0 : 0 < l.length := List.length_pos_iff.2 hl
    exact .full l b off cap X Y Z (hk b hb (World.block_lt_of_cell? w _ (hcell 0 h0).1)) hl hc hm hs hcell (fun i h => (hx i h).imp hk) iha ihz

theorem Sl.setCell {w : World} {B : Nat → Prop} {l : List St} {v : Value} (h : Sl w B l v) {a : Addr} (ha : ¬ B a.block) (u : Value) : Sl (w.setCell a u) B l v :=
  h.kept fun b hb _ => heap_setCell_other w a b u fun e => ha (e ▸ hb)

theorem Sl.any {w : World} {B : Nat → Prop} {l : List St} {v : Value} (h : Sl w B l v) : Sl w anyBlock l v := h.imp fun _ _ _ => trivial

theorem Sl.len {w : World} {B : Nat → Prop} {l : List St} {v : Value} (h : Sl w B l v) : ∃ ao cap, v = .slice ao l.length cap ∧ l.length ≤ cap ∧ cap ≤ maxLen ∧ (ao = none → cap = 0) := by
  cases h with
  | empty ao cap hm hn => exact ⟨ao, cap, rfl, Nat.zero_le _, hm, hn⟩
  | full _ b off cap X Y Z hb hl hc hm hs hcell hx ha hz => exact ⟨_, cap, rfl, hc, hm, fun h => by cases h⟩

theorem Sl.elems {w : World} {B : Nat → Prop} {l : List St} {ao : Option Addr} {n cap : Nat} (h : Sl w B l (.slice ao n cap)) (hl : l ≠ []) :
    ∃ (b off : Nat) (X Y Z : Nat → Value), ao = some ⟨b, off, none⟩ ∧ ∀ i (h : i < l.length), St6 w b (off + i * 6) l[i].k l[i].s l[i].t (X i) (Y i) (Z i) ∧ El w B l[i].x (X i) ∧ Sl w B l[i].a (Y i) ∧ Sl w B l[i].b (Z i) ∧ l[i].s.size ≤ maxLen ∧ l[i].t.size ≤ maxLen := by
  cases h with
  | empty _ _ _ _ => exact absurd rfl hl
  | full _ b off _ X Y Z hb hl hc hm hs hcell hx ha hz => exact ⟨b, off, X, Y, Z, rfl, fun i h => ⟨hcell i h, hx i h, ha i h, hz i h, hs i h⟩⟩

theorem Sl.zero (w : World) (B : Nat → Prop) : Sl w B [] (.slice none 0 0) := .empty none 0 (by simp) fun _ => rfl

theorem cell_of_cells6 {w : World} {a : Addr} {cs : List Value} (h : w.cells? 0 a 6 = some cs) : ∃ v0 v1 v2 v3 v4 v5, cs = [v0, v1, v2, v3, v4, v5] ∧ w.cell? (a.add 0) = some v0 ∧ w.cell? (a.add 1) = some v1 ∧ w.cell? (a.add 2) = some v2 ∧ w.cell? (a.add 3) = some v3 ∧ w.cell? (a.add 4) = some v4 ∧ w.cell? (a.add 5) = some v5 := by
  obtain ⟨_, hlen, hcell⟩ := World.cells?_some h
  match cs, hlen with
  | [v0, v1, v2, v3, v4, v5], _ => exact ⟨v0, v1, v2, v3, v4, v5, rfl, by simpa using hcell 0 (by simp), by simpa using hcell 1 (by simp), by simpa using hcell 2 (by simp), by simpa using hcell 3 (by simp), by simpa using hcell 4 (by simp), by simpa using hcell 5 (by simp)⟩

section
variable {H : Type} {enc : TypeId × Value → H} {P : Program} {w : World} {sp : Nat → Bool} {held : Bool}

/-- What is read as data reads as statements. -/
theorem Sl.of_trod {t e ti ts tx : TypeId} {f0 f1 f2 f3 f4 f5 : Field} (ht : P.underlying t = some (.slice e)) (he : P.underlying e = some (.struct #[f0, f1, f2, f3, f4, f5]))
    (ce : P.cellsOf e = 6) (o0 : f0.offset = 0) (o1 : f1.offset = 1) (o2 : f2.offset = 2) (o3 : f3.offset = 3) (o4 : f4.offset = 4) (o5 : f5.offset = 5)
    (t0 : f0.type = ti) (t1 : f1.type = ts) (t2 : f2.type = ts) (t3 : f3.type = tx) (t4 : f4.type = t) (t5 : f5.type = t)
    (c0 : P.cellsOf ti = 1) (c1 : P.cellsOf ts = 1) (cx : P.cellsOf tx = 1) (c2 : P.cellsOf t = 1) (hi : P.underlying ti = some (.int .i64)) (hst : P.underlying ts = some .string)
    (hX : ∀ (fuel : Nat) (cs : List Value) (x : DataW H × List MemPlace), DataW.trod enc P w 0 sp held fuel tx cs = some x → ∃ v l, cs = [v] ∧ El w anyBlock l v) :
    ∀ (fuel : Nat) (cs : List Value) (x : DataW H × List MemPlace), DataW.trod enc P w 0 sp held fuel t cs = some x → ∃ v l, cs = [v] ∧ Sl w anyBlock l v := by
  intro fuel
  induction fuel using Nat.strongRecOn with
  | _ fuel ih =>
  intro cs x h
  rcases DataW.trod_slice ht h with ⟨rfl, _⟩ | ⟨a, len, cap, elems, rest, n, hn, rfl, rfl, hb, hl, hm, hlen, hel, hsp, hns⟩
  · exact ⟨_, [], rfl, Sl.zero w _⟩
  · subst hn
    have each : ∀ i, i < len → ∃ q : St × Value × Value × Value, (q.1.s.size ≤ maxLen ∧ q.1.t.size ≤ maxLen) ∧ w.cell? (a.add (i * 6)) = some (.int .i64 q.1.k) ∧ w.cell? (a.add (i * 6 + 1)) = some (.string q.1.s) ∧ w.cell? (a.add (i * 6 + 2)) = some (.string q.1.t) ∧ w.cell? (a.add (i * 6 + 3)) = some q.2.1 ∧ w.cell? (a.add (i * 6 + 4)) = some q.2.2.1 ∧ w.cell? (a.add (i * 6 + 5)) = some q.2.2.2 ∧ El w anyBlock q.1.x q.2.1 ∧ Sl w anyBlock q.1.a q.2.2.1 ∧ Sl w anyBlock q.1.b q.2.2.2 := by
      intro i hi'
      have := hel i hi'
      rw [ce, List.getElem?_eq_getElem (by omega)] at this
      obtain ⟨cs', h1, h2⟩ := Option.bind_eq_some_iff.1 this
      obtain ⟨v0, v1, v2, v3, v4, v5, rfl, e0, e1, e2, e3, e4, e5⟩ := cell_of_cells6 h1
      obtain ⟨xs, k, hk, hxy, _, hxl, hf⟩ := DataW.trod_struct he h2
      subst hk
      have g0 := hf 0 f0 rfl
      have g1 := hf 1 f1 rfl
      have g2 := hf 2 f2 rfl
      have g3 := hf 3 f3 rfl
      have g4 := hf 4 f4 rfl
      have g5 := hf 5 f5 rfl
      simp [o0, o1, o2, o3, o4, o5, t0, t1, t2, t3, t4, t5, c0, c1, c2, cx] at g0 g1 g2 g3 g4 g5
      have hxl' : xs.length = 6 := by simpa using hxl
      rw [List.getElem?_eq_getElem (by omega)] at g0 g1 g2 g3 g4 g5
      obtain ⟨k0, hk0, _, _⟩ := DataW.trod_int hi g0
      obtain ⟨s0, hs0, _, hsz⟩ := DataW.trod_string hst g1
      obtain ⟨u0, hu0, _, huz⟩ := DataW.trod_string hst g2
      obtain ⟨vx, lx, hvx, hrx⟩ := hX _ _ _ g3
      obtain ⟨va, la, hva, hra⟩ := ih k (by omega) _ _ g4
      obtain ⟨vb, lb, hvb, hrb⟩ := ih k (by omega) _ _ g5
      simp at hk0 hs0 hu0 hvx hva hvb
      subst hk0 hs0 hu0 hvx hva hvb
      rw [Go.Deep.add_add] at e0 e1 e2 e3 e4 e5
      exact ⟨(.node k0 s0 u0 lx la lb, v3, v4, v5), ⟨hsz, huz⟩, by simpa [St.k] using e0, by simpa [St.s] using e1, by simpa [St.t] using e2, by simpa using e3, by simpa using e4, by simpa using e5, hrx, hra, hrb⟩
    obtain ⟨q, hq⟩ := Go.Deep.choose_lt each
    rcases Nat.eq_zero_or_pos len with h0 | h0
    · subst h0
      exact ⟨_, [], rfl, .empty _ _ hm fun h => by cases h⟩
    · obtain ⟨b, off, spot⟩ := a
      have hspot : spot = none := by simpa [Addr.add] using World.cell?_spot (hq 0 h0).2.1
      subst hspot
      refine ⟨_, (List.range len).map fun i => (q i).1, rfl, ?_⟩
      have hll : ((List.range len).map fun i => (q i).1).length = len := by simp
      have := Sl.full (w := w) (B := anyBlock) ((List.range len).map fun i => (q i).1) b off cap (fun i => (q i).2.1) (fun i => (q i).2.2.1) (fun i => (q i).2.2.2) trivial (by intro h; rw [h] at hll; simp at hll; omega) (by rw [hll]; exact hl) hm
        (fun i h => by rw [hll] at h; simpa using (hq i h).1)
        (fun i h => by
          rw [hll] at h
          obtain ⟨_, x0, x1, x2, x3, x4, x5, _⟩ := hq i h
          simp only [Addr.add_lit] at x0 x1 x2 x3 x4 x5
          simp only [List.getElem_map, List.getElem_range]
          exact ⟨x0, x1, x2, x3, x4, x5⟩)
        (fun i h => by rw [hll] at h; simpa using (hq i h).2.2.2.2.2.2.2.1)
        (fun i h => by rw [hll] at h; simpa using (hq i h).2.2.2.2.2.2.2.2.1)
        (fun i h => by rw [hll] at h; simpa using (hq i h).2.2.2.2.2.2.2.2.2)
      rwa [hll] at this
end
end Go.Proofs.YtgigalcajgjpnaaGreat
