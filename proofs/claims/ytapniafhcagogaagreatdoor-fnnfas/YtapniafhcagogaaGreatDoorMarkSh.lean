/- Marked trees: each part's kind is its mark, its text the next mark's. Marks that are held. What marks turn: kinds and texts alone; and trees that own their memory read as marked. -/
import Derived.Test.YtapniafhcagogaaGreatDoorRexTxt
import Derived.Test.YtapniafhcagogaaGreatDoorRexOwn
import Derived.Test.YtapniafhcagogaaGreatDoorQuietS
import Derived.Test.YtapniafhcagogaaGreatDoorApp
import Derived.Test.YtapniafhcagogaaGreatDoorMarkT
namespace Go.Proofs.YtapniafhcagogaaGreatDoor
open Go.RowKit
set_option maxRecDepth 8000

mutual
def Tr.marked : Tr → Nat → Tr
  | .node _ _ l, k => .node (k : Int) (mkS (k + 1)) (markedL l (k + 2))
def markedL : List Tr → Nat → List Tr
  | [], _ => []
  | t :: r, k => t.marked k :: markedL r (k + 2 * t.cnt)
end

theorem marked_k (t : Tr) (k : Nat) : (t.marked k).k = (k : Int) := by cases t; rw [Tr.marked]; rfl
theorem marked_s (t : Tr) (k : Nat) : (t.marked k).s = mkS (k + 1) := by cases t; rw [Tr.marked]; rfl
theorem marked_l (t : Tr) (k : Nat) : (t.marked k).l = markedL t.l (k + 2) := by cases t; rw [Tr.marked]; rfl
theorem markedL_length (l : List Tr) : ∀ k, (markedL l k).length = l.length := by
  induction l with
  | nil => intro k; rfl
  | cons t r ih => intro k; rw [markedL, List.length_cons, ih, List.length_cons]

theorem cntL_append (l r : List Tr) : cntL (l ++ r) = cntL l + cntL r := by
  induction l with
  | nil => simp [cntL]
  | cons t l ih => rw [List.cons_append, cntL, ih, cntL]; omega
theorem cntL_take (l : List Tr) (i : Nat) (h : i < l.length) : cntL (l.take (i + 1)) = cntL (l.take i) + l[i].cnt := by
  rw [List.take_succ_eq_append_getElem h, cntL_append]
  simp [cntL]
theorem cntL_take_le (l : List Tr) (i : Nat) : cntL (l.take i) ≤ cntL l := by
  have := cntL_append (l.take i) (l.drop i)
  rw [List.take_append_drop] at this
  omega

theorem markedL_get (l : List Tr) : ∀ (k i : Nat) (h : i < l.length), (markedL l k)[i]'(by rw [markedL_length]; exact h) = l[i].marked (k + 2 * cntL (l.take i)) := by
  induction l with
  | nil => intro k i h; simp at h
  | cons t r ih =>
    intro k i h
    cases i with
    | zero => simp [markedL, cntL]
    | succ i =>
      have h' : i < r.length := by simpa using h
      have e : (markedL (t :: r) k)[i + 1]'(by rw [markedL_length]; exact h) = (markedL r (k + 2 * t.cnt))[i]'(by rw [markedL_length]; exact h') := by simp [markedL]
      rw [e, ih (k + 2 * t.cnt) i h']
      simp only [List.getElem_cons_succ, List.take_succ_cons, cntL]
      congr 1
      omega

theorem mDig_size (n : Nat) : ∀ o : ByteArray, (mDig n o).size ≤ n + o.size := by
  induction n using Nat.strongRecOn with
  | _ n ih =>
    intro o
    by_cases h : n = 0
    · subst h; rw [mDig_zero]; omega
    · rw [mDig_step n (by omega)]
      have := ih (n / 10) (by omega) (strOf [48 + (n : Int) % 10] ++ o)
      rw [ByteArray.size_append, strOf_size] at this
      simp at this
      omega
theorem mkS_size (n : Nat) : (mkS n).size ≤ n + 2 := by
  unfold mkS
  split
  · exact Nat.le_add_left 2 n
  · have := mDig_size n ⟨#[]⟩
    have e : (ByteArray.mk #[] : ByteArray).size = 0 := rfl
    have e1 : (ByteArray.mk #[109] : ByteArray).size = 1 := rfl
    rw [ByteArray.size_append, e1]
    omega
end Go.Proofs.YtapniafhcagogaaGreatDoor

namespace Go.Proofs.YtapniafhcagogaaGreatDoor
open Go.RowKit
end Go.Proofs.YtapniafhcagogaaGreatDoor

namespace Go.Proofs.YtapniafhcagogaaGreatDoor
open Go.RowKit

/-- The shape of trees alone: each element has some kind and some text; none of the blocks is frozen. -/
inductive Sh (w : World) (B : Nat → Prop) : List Tr → Value → Prop
  | empty (ao : Option Addr) (cap : Nat) (hm : cap ≤ maxLen) (hn : ao = none → cap = 0) : Sh w B [] (.slice ao 0 cap)
  | full (l : List Tr) (b off cap : Nat) (V : Nat → Value) (hb : B b) (hl : l ≠ []) (hc : l.length ≤ cap) (hm : cap ≤ maxLen)
      (hcell : ∀ i (h : i < l.length), ∃ x y, At3 w b (off + i * 3) x y (V i)) (hfr : ∀ o, w.frozen? ⟨b, o, none⟩ = false)
      (hsub : ∀ i (h : i < l.length), Sh w B l[i].l (V i)) : Sh w B l (.slice (some ⟨b, off, none⟩) l.length cap)

/-- Numbers stay numbers, texts texts, slices what they are. -/
structure Ty (w w' : World) : Prop where
  int : ∀ p x, w.cell? p = some (.int .i64 x) → ∃ y, w'.cell? p = some (.int .i64 y)
  str : ∀ p x, w.cell? p = some (.string x) → ∃ y, w'.cell? p = some (.string y)
  slc : ∀ p ao n c, w.cell? p = some (.slice ao n c) → w'.cell? p = some (.slice ao n c)
  frz : ∀ b o, b < w.heap.size → w'.frozen? ⟨b, o, none⟩ = w.frozen? ⟨b, o, none⟩
  size : w.heap.size ≤ w'.heap.size

theorem Ty.refl (w : World) : Ty w w := ⟨fun _ x h => ⟨x, h⟩, fun _ x h => ⟨x, h⟩, fun _ _ _ _ h => h, fun _ _ _ => rfl, Nat.le_refl _⟩
theorem Ty.trans {a b c : World} (h : Ty a b) (k : Ty b c) : Ty a c :=
  ⟨fun p x e => by obtain ⟨y, e'⟩ := h.int p x e; exact k.int p y e', fun p x e => by obtain ⟨y, e'⟩ := h.str p x e; exact k.str p y e',
   fun p ao n c e => k.slc p ao n c (h.slc p ao n c e), fun b o hb => (k.frz b o (Nat.lt_of_lt_of_le hb h.size)).trans (h.frz b o hb), Nat.le_trans h.size k.size⟩
theorem Ty.below {w w' : World} (h : Below w.heap.size w w') : Ty w w' := by
  have hc : ∀ p v, w.cell? p = some v → w'.cell? p = some v := fun p v e => by rw [h.cell (World.block_lt_of_cell? w p e)]; exact e
  exact ⟨fun p x e => ⟨x, hc p _ e⟩, fun p x e => ⟨x, hc p _ e⟩, fun p ao n c e => hc p _ e, fun b o hb => h.frozen (p := ⟨b, o, none⟩) hb, h.size⟩
theorem Ty.setInt {w : World} {a : Addr} {x : Int} (ha : w.cell? a = some (.int .i64 x)) (z : Int) : Ty w (w.setCell a (.int .i64 z)) := by
  have hs : (w.setCell a (.int .i64 z)).cell? a = some (.int .i64 z) := World.cell?_setCell_same w a _ ha
  refine ⟨fun p x e => ?_, fun p x e => ?_, fun p ao n c e => ?_, fun b o _ => World.frozen?_setCell .., by simp [World.setCell]⟩
  all_goals by_cases hp : a = p
  · subst hp; exact ⟨z, hs⟩
  · exact ⟨x, by rw [World.cell?_setCell_other w a p _ hp]; exact e⟩
  · subst hp; rw [ha] at e; cases e
  · exact ⟨x, by rw [World.cell?_setCell_other w a p _ hp]; exact e⟩
  · subst hp; rw [ha] at e; cases e
  · rw [World.cell?_setCell_other w a p _ hp]; exact e
theorem Ty.setStr {w : World} {a : Addr} {x : ByteArray} (ha : w.cell? a = some (.string x)) (z : ByteArray) : Ty w (w.setCell a (.string z)) := by
  have hs : (w.setCell a (.string z)).cell? a = some (.string z) := World.cell?_setCell_same w a _ ha
  refine ⟨fun p x e => ?_, fun p x e => ?_, fun p ao n c e => ?_, fun b o _ => World.frozen?_setCell .., by simp [World.setCell]⟩
  all_goals by_cases hp : a = p
  · subst hp; rw [ha] at e; cases e
  · exact ⟨x, by rw [World.cell?_setCell_other w a p _ hp]; exact e⟩
  · subst hp; exact ⟨z, hs⟩
  · exact ⟨x, by rw [World.cell?_setCell_other w a p _ hp]; exact e⟩
  · subst hp; rw [ha] at e; cases e
  · rw [World.cell?_setCell_other w a p _ hp]; exact e

/-- Of what was there the blocks B alone have turned. -/
structure Turn (B : Nat → Prop) (w w' : World) : Prop where
  os : w'.os = w.os
  tape : w'.tape = w.tape
  output : w'.output = w.output
  size : w.heap.size ≤ w'.heap.size
  block : ∀ k, k < w.heap.size → ¬ B k → w'.heap[k]? = w.heap[k]?

theorem Turn.refl (B : Nat → Prop) (w : World) : Turn B w w := ⟨rfl, rfl, rfl, Nat.le_refl _, fun _ _ _ => rfl⟩
theorem Turn.trans {B : Nat → Prop} {a b c : World} (h : Turn B a b) (k : Turn B b c) : Turn B a c :=
  ⟨k.os.trans h.os, k.tape.trans h.tape, k.output.trans h.output, Nat.le_trans h.size k.size, fun i hi hn => (k.block i (Nat.lt_of_lt_of_le hi h.size) hn).trans (h.block i hi hn)⟩
theorem Turn.below {B : Nat → Prop} {w w' : World} (h : Below w.heap.size w w') : Turn B w w' := ⟨h.os, h.tape, h.output, h.size, fun k hk _ => h.block k hk⟩
theorem Turn.setCell {B : Nat → Prop} (w : World) {a : Addr} (ha : B a.block) (u : Value) : Turn B w (w.setCell a u) :=
  ⟨rfl, rfl, rfl, by simp [World.setCell], fun k _ hn => heap_setCell_other w a k u fun e => hn (e ▸ ha)⟩
theorem Turn.mono {B C : Nat → Prop} {w w' : World} (h : Turn B w w') (hk : ∀ b, B b → C b) : Turn C w w' := ⟨h.os, h.tape, h.output, h.size, fun k hk' hn => h.block k hk' fun hb => hn (hk k hb)⟩
/-- Where only what lies from n on has turned. -/
theorem Turn.toBelow {B : Nat → Prop} {n : Nat} {w w' : World} (h : Turn B w w') (hn : n ≤ w.heap.size) (hB : ∀ b, B b → n ≤ b) : Below n w w' :=
  ⟨h.os, h.tape, h.output, h.size, fun k hk => h.block k (by omega) fun hb => by have := hB k hb; omega⟩

theorem Sh.len {w : World} {B : Nat → Prop} {l : List Tr} {v : Value} (h : Sh w B l v) : ∃ ao cap, v = .slice ao l.length cap ∧ l.length ≤ cap ∧ cap ≤ maxLen ∧ (ao = none → cap = 0) := by
  cases h with
  | empty ao cap hm hn => exact ⟨ao, cap, rfl, Nat.zero_le _, hm, hn⟩
  | full _ b off cap V hb hl hc hm hcell hfr hsub => exact ⟨_, cap, rfl, hc, hm, fun h => by cases h⟩

theorem Sh.ty {w w' : World} {B : Nat → Prop} {l : List Tr} {v : Value} (h : Sh w B l v) (ht : Ty w w') : Sh w' B l v := by
  induction h with
  | empty ao cap hm hn => exact .empty ao cap hm hn
  | full l b off cap V hb hl hc hm hcell hfr hsub ih =>
    refine .full l b off cap V hb hl hc hm (fun i hi => ?_) (fun o => ?_) ih
    · obtain ⟨x, y, h0, h1, h2⟩ := hcell i hi
      obtain ⟨x', e0⟩ := ht.int _ _ h0
      obtain ⟨y', e1⟩ := ht.str _ _ h1
      obtain ⟨ao, c, hv, -⟩ := (hsub i hi).len
      rw [hv] at h2
      exact ⟨x', y', e0, e1, by rw [hv]; exact ht.slc _ _ _ _ h2⟩
    · obtain ⟨x, y, h0, h1, h2⟩ := hcell 0 (List.length_pos_iff.2 hl)
      rw [ht.frz b o (World.block_lt_of_cell? w _ h0)]
      exact hfr o

theorem Sh.elems {w : World} {B : Nat → Prop} {l : List Tr} {ao : Option Addr} {n cap : Nat} (h : Sh w B l (.slice ao n cap)) (hl : l ≠ []) :
    ∃ (b off : Nat) (V : Nat → Value), ao = some ⟨b, off, none⟩ ∧ B b ∧ (∀ o, w.frozen? ⟨b, o, none⟩ = false) ∧ ∀ i (h : i < l.length), (∃ x y, At3 w b (off + i * 3) x y (V i)) ∧ Sh w B l[i].l (V i) := by
  cases h with
  | empty _ _ _ _ => exact absurd rfl hl
  | full _ b off _ V hb hl hc hm hcell hfr hsub => exact ⟨b, off, V, rfl, hb, hfr, fun i h => ⟨hcell i h, hsub i h⟩⟩

theorem Rl.sh {w : World} {B : Nat → Prop} {l : List Tr} {v : Value} (h : Rl w B l v) (hf : ∀ b, B b → ∀ o, w.frozen? ⟨b, o, none⟩ = false) : Sh w B l v := by
  induction h with
  | empty ao cap hm hn => exact .empty ao cap hm hn
  | full l b off cap V hb hl hc hm hs hcell hsub ih => exact .full l b off cap V hb hl hc hm (fun i h => ⟨_, _, hcell i h⟩) (hf b hb) ih

theorem Ow.sh {w : World} {B : Nat → Prop} {l : List Tr} {v : Value} (h : Ow w B l v) : Sh w B l v := by
  have hf : Rl w (fun b => B b ∧ ∀ o, w.frozen? ⟨b, o, Option.none⟩ = false) l v := by
    induction h with
    | none => exact Rl.zero _ _
    | full B l g cap xs V Bi hl hg hown hs hx hB hd hsub ih =>
      have h := (Ow.full B l g cap xs V Bi hl hg hown hs hx hB hd hsub).rl
      have hfz := fun o => hown.frozenAt o
      cases h with
      | empty => exact absurd rfl hl
      | full _ _ _ _ V' _ _ hc hm hs' hcell _ =>
        have hV : ∀ i (h : i < l.length), V' i = V i := by
          intro i hi
          have := (hcell i hi).2.2
          rw [Nat.zero_add, hown.cellAt _ (by omega), (hx i hi).2.2] at this
          exact (Option.some.inj this).symm
        refine .full l g 0 cap V' ⟨hg, hfz⟩ hl hc hm hs' hcell fun i hi => ?_
        rw [hV i hi]
        exact (ih i hi).imp fun b hb _ => ⟨(hB i b hb.1).1, hb.2⟩
  have h2 := hf.sh (fun b hb => hb.2)
  clear hf h
  induction h2 with
  | empty ao cap hm hn => exact .empty ao cap hm hn
  | full l b off cap V hb hl hc hm hcell hfr hsub ih => exact .full l b off cap V hb.1 hl hc hm hcell hfr ih

/-- One element turned: its kind, its text, its own list. -/
theorem Ow.setAt {w : World} {B : Nat → Prop} {L : List Tr} {g off cap : Nat} (h : Ow w B L (.slice (some ⟨g, off, Option.none⟩) L.length cap)) (k : Nat) (hk : k < L.length) :
    off = 0 ∧ ∃ (Bk : Nat → Prop) (u : Value), w.cell? ⟨g, k * 3 + 2, Option.none⟩ = some u ∧ Ow w Bk L[k].l u ∧ ¬ Bk g ∧ (∀ b, Bk b → B b) ∧
    ∀ (x : Int) (s : ByteArray) (l' : List Tr) (w'' w3 : World), s.size ≤ maxLen →
      Below (w.setCell ⟨g, k * 3, Option.none⟩ (.int .i64 x)).heap.size (w.setCell ⟨g, k * 3, Option.none⟩ (.int .i64 x)) w'' →
      Turn Bk (w''.setCell ⟨g, k * 3 + 1, Option.none⟩ (.string s)) w3 → Ow w3 Bk l' u →
      Ow w3 B (L.set k (.node x s l')) (.slice (some ⟨g, 0, Option.none⟩) L.length cap) := by
  generalize hv : Value.slice (some ⟨g, off, Option.none⟩) L.length cap = v at h
  cases h with
  | none => simp at hk
  | full _ l g' cap' xs V Bi hl hg hown hs hx hB hd hsub =>
    simp only [Value.slice.injEq, Option.some.injEq, Addr.mk.injEq, and_true, true_and] at hv
    obtain ⟨⟨rfl, rfl⟩, rfl⟩ := hv
    refine ⟨rfl, Bi k, V k, by rw [hown.cellAt _ (by omega)]; exact (hx k hk).2.2, hsub k hk, fun hb => (hB k _ hb).2 rfl, fun b hb => (hB k b hb).1, ?_⟩
    intro x s l' w'' w3 hsz hb2 ht ho3
    have hl3 : xs.length = L.length * 3 := hown.1
    have hgl := own_lt hown
    have s1 : (w.setCell ⟨g, k * 3, Option.none⟩ (.int .i64 x)).heap.size = w.heap.size := by simp [World.setCell]
    have s2 : (w''.setCell ⟨g, k * 3 + 1, Option.none⟩ (.string s)).heap.size = w''.heap.size := by simp [World.setCell]
    have hsw : w.heap.size ≤ w''.heap.size := by have := hb2.size; omega
    have o1 := (hown.stored (k * 3) (.int .i64 x)).1
    have o2 := own_grow o1 hb2
    have o3 := (o2.stored (k * 3 + 1) (.string s)).1
    have o4 := own_kept (w' := w3) o3 (ht.block g (by omega) fun hb => (hB k _ hb).2 rfl)
    have hsame : ∀ b, b < w.heap.size → b ≠ g → ¬ Bi k b → w3.heap[b]? = w.heap[b]? := by
      intro b hb hne hn
      rw [ht.block b (by omega) hn, heap_setCell_other w'' ⟨g, k * 3 + 1, Option.none⟩ b _ hne, hb2.block b (by omega), heap_setCell_other w ⟨g, k * 3, Option.none⟩ b _ hne]
    have hll : (L.set k (.node x s l')).length = L.length := List.length_set ..
    rw [← hll]
    refine Ow.full B (L.set k (.node x s l')) g cap _ V Bi (by intro h0; have := congrArg List.length h0; rw [hll] at this; simp at this; rw [this] at hk; simp at hk) hg (by rw [hll]; exact o4) ?_ ?_ hB hd ?_
    · intro i hi
      by_cases he : k = i
      · subst he; rw [List.getElem_set_self]; exact hsz
      · rw [List.getElem_set_ne he]; exact hs i (by omega)
    · intro i hi
      by_cases he : k = i
      · subst he
        rw [List.getElem_set_self]
        refine ⟨?_, ?_, ?_⟩
        · rw [List.getElem?_set_ne (by omega), List.getElem?_set_self (by omega)]; rfl
        · rw [List.getElem?_set_self (by simp; omega)]; rfl
        · rw [List.getElem?_set_ne (by omega), List.getElem?_set_ne (by omega)]; exact (hx k hk).2.2
      · rw [List.getElem_set_ne he]
        obtain ⟨x0, x1, x2⟩ := hx i (by omega)
        refine ⟨?_, ?_, ?_⟩
        · rw [List.getElem?_set_ne (by omega), List.getElem?_set_ne (by omega)]; exact x0
        · rw [List.getElem?_set_ne (by omega), List.getElem?_set_ne (by omega)]; exact x1
        · rw [List.getElem?_set_ne (by omega), List.getElem?_set_ne (by omega)]; exact x2
    · intro i hi
      by_cases he : k = i
      · subst he; rw [List.getElem_set_self]; exact ho3
      · rw [List.getElem_set_ne he]
        exact (hsub i (by omega)).kept fun b hb hlt => hsame b hlt (hB i b hb).2 (hd i k b (Ne.symm he) hb)

theorem marked_set (l : List Tr) (k m : Nat) (hk : k < l.length) : (markedL (l.take k) m ++ l.drop k).set k (.node ((m + 2 * cntL (l.take k) : Nat) : Int) (mkS (m + 2 * cntL (l.take k) + 1)) (markedL l[k].l (m + 2 * cntL (l.take k) + 2))) = markedL (l.take (k + 1)) m ++ l.drop (k + 1) := by
  have h1 : (markedL (l.take k) m).length = k := by rw [markedL_length, List.length_take]; omega
  have h2 : (markedL (l.take (k + 1)) m).length = k + 1 := by rw [markedL_length, List.length_take]; omega
  apply List.ext_getElem
  · simp [h1, h2]; omega
  intro i hi1 hi2
  by_cases he : k = i
  · subst he
    rw [List.getElem_set_self, List.getElem_append_left (by omega), markedL_get _ _ _ (by rw [List.length_take]; omega)]
    simp only [List.getElem_take, List.take_take, Nat.min_eq_left (Nat.le_succ k)]
    rw [← Tr.eta (l[k].marked _), marked_k, marked_s, marked_l]
  · rw [List.getElem_set_ne he]
    by_cases hlt : i < k
    · rw [List.getElem_append_left (by omega), List.getElem_append_left (by omega), markedL_get _ _ _ (by rw [List.length_take]; omega), markedL_get _ _ _ (by rw [List.length_take]; omega)]
      simp only [List.getElem_take, List.take_take]
      rw [show min i k = i by omega, show min i (k + 1) = i by omega]
    · rw [List.getElem_append_right (by omega), List.getElem_append_right (by omega)]
      simp only [h1, h2, List.getElem_drop]
      congr 1
      omega
end Go.Proofs.YtapniafhcagogaaGreatDoor
