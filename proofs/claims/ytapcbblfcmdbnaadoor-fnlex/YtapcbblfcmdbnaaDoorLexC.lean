/- What holds at each label of the program's Lex. -/
import Derived.Test.YtapcbblfcmdbnaaDoorLexAt
import Derived.Test.YtapcbblfcmdbnaaDoorHeldTok
namespace Go.Proofs.YtapcbblfcmdbnaaDoor
open Go.RowKit
set_option maxRecDepth 8000

/-- A token begins at p, behind these. -/
def LxP (s : ByteArray) (p : Nat) (L : List Tk) : Prop := p < s.size ∧ ∃ q, LxAt s q L ∧ pas s q = p
def C1 (s : ByteArray) (p q : Nat) (L : List Tk) (k n : Int) (ts : ByteArray) : Prop := LxP s p L ∧ dgB (bt s p) = true ∧ (k = 1 ∧ n = 0 ∧ ts = ⟨#[]⟩) ∧ p < q ∧ q ≤ s.size ∧ tw (runB false) s q = tw (runB false) s p
def C2 (s : ByteArray) (p q : Nat) (L : List Tk) (k n : Int) (ts : ByteArray) : Prop := LxP s p L ∧ (dgB (bt s p) = false ∧ smB (bt s p) = true) ∧ (k = 2 ∧ n = 0 ∧ ts = ⟨#[]⟩) ∧ p < q ∧ q ≤ s.size ∧ tw (runB true) s q = tw (runB true) s p
def C3 (s : ByteArray) (p q : Nat) (L : List Tk) (k n : Int) (ts : ByteArray) : Prop := LxP s p L ∧ kdT (bt s p) (tiL L) = 5 ∧ (k = 5 ∧ n = 0 ∧ ts = ⟨#[]⟩) ∧ q = p + 1
def C4 (s : ByteArray) (p q : Nat) (L : List Tk) (k n : Int) (ts : ByteArray) : Prop := LxP s p L ∧ (kdT (bt s p) (tiL L) = k ∧ (k = 3 ∨ k = 4)) ∧ (n = 0 ∧ ts = ⟨#[]⟩) ∧ p < q ∧ q ≤ s.size ∧ tw (neB (bt s p)) s q = tw (neB (bt s p)) s (p + 1)
def C5 (s : ByteArray) (p q : Nat) (L : List Tk) (k n : Int) (ts : ByteArray) : Prop := LxP s p L ∧ q = (oneT s p (tiL L)).2 ∧ ts.size ≤ s.size ∧ tkOkB ⟨k, n, ts⟩ = tkOkB (oneT s p (tiL L)).1 ∧ (tkOkB ⟨k, n, ts⟩ = true → (⟨k, n, ts⟩ : Tk) = (oneT s p (tiL L)).1)

theorem LxP.of {s : ByteArray} {q : Nat} {L : List Tk} (h : LxAt s q L) (hp : pas s q < s.size) : LxP s (pas s q) L := ⟨hp, q, h, rfl⟩
theorem LxP.bad {s : ByteArray} {p : Nat} {L : List Tk} (h : LxP s p L) (hb : ¬ (tkOkB (oneT s p (tiL L)).1 = true ∧ L.length ≠ 2000)) : lexT s = ([], ((p : Nat) : Int)) := by
  obtain ⟨hp, q, hq, rfl⟩ := h
  exact hq.bad hp hb

theorem kd_cases (c : Int) (rex : Bool) : (kdT c rex = 1 ∧ dgB c = true) ∨ (kdT c rex = 2 ∧ dgB c = false ∧ smB c = true) ∨ (kdT c rex = 5) ∨ ((kdT c rex = 3 ∨ kdT c rex = 4)) := by
  unfold kdT
  cases hd : dgB c with
  | true => exact .inl ⟨if_pos rfl, rfl⟩
  | false =>
    rw [if_neg (by simp)]
    cases hs : smB c with
    | true => exact .inr (.inl ⟨if_pos rfl, rfl, rfl⟩)
    | false =>
      rw [if_neg (by simp)]
      split
      · exact .inr (.inr (.inr (.inl rfl)))
      · split
        · exact .inr (.inr (.inr (.inr rfl)))
        · exact .inr (.inr (.inl rfl))

-- numbers
theorem C1.start {s : ByteArray} {p : Nat} {L : List Tk} (h : LxP s p L) (hd : dgB (bt s p) = true) : C1 s p (p + 1) L 1 0 ⟨#[]⟩ := by
  have hp := h.1
  exact ⟨h, hd, ⟨rfl, rfl, rfl⟩, by omega, by omega, (tw_step hp (by simp [runB, hd])).symm⟩
theorem C1.next {s : ByteArray} {p q : Nat} {L : List Tk} {k n : Int} {ts : ByteArray} (h : C1 s p q L k n ts) (hq : q < s.size) (hd : dgB (bt s q) = true) : C1 s p (q + 1) L k n ts := by
  obtain ⟨h1, h2, h3, h4, h5, h6⟩ := h
  exact ⟨h1, h2, h3, by omega, by omega, by rw [← h6, tw_step hq (by simp [runB, hd])]⟩
theorem C1.fin {s : ByteArray} {p q : Nat} {L : List Tk} {k n : Int} {ts : ByteArray} (h : C1 s p q L k n ts) (hq : q < s.size → dgB (bt s q) = false) :
    1 ≤ (s.extract p q).size ∧ (∀ c ∈ (s.extract p q).data.toList, dgU c) ∧ C5 s p q L k (pnT (s.extract p q)) ts := by
  obtain ⟨h1, h2, ⟨rfl, rfl, rfl⟩, h4, h5, h6⟩ := h
  have hp := h1.1
  have e : q = tw (runB false) s p := by
    rw [← h6]
    by_cases hlt : q < s.size
    · rw [tw_stop hlt (by simp [runB, hq hlt])]
    · rw [tw_end (by omega)]
  have hdr := digits_run s p (by omega)
  rw [← e] at hdr
  have hz : 1 ≤ (s.extract p q).size := by rw [ByteArray.size_extract]; omega
  have hu := dgU_of hdr
  obtain ⟨a1, a2⟩ := pn_ni (s.extract p q) hz hu
  have hone : oneT s p (tiL L) = (⟨1, niB (s.extract p q), ⟨#[]⟩⟩, q) := by unfold oneT; rw [if_pos h2, ← e]
  refine ⟨hz, hu, h1, by rw [hone], Nat.zero_le _, ?_, ?_⟩
  · rw [hone]; exact a1
  · intro ht
    rw [hone]
    have := a2 ht
    rw [this]

-- names
theorem C2.start {s : ByteArray} {p : Nat} {L : List Tk} (h : LxP s p L) (hd : dgB (bt s p) = false) (hs : smB (bt s p) = true) : C2 s p (p + 1) L 2 0 ⟨#[]⟩ := by
  have hp := h.1
  exact ⟨h, ⟨hd, hs⟩, ⟨rfl, rfl, rfl⟩, by omega, by omega, (tw_step hp (by simp [runB, hs])).symm⟩
theorem nb_run (c : Int) : nbB c = runB true c := by unfold nbB runB; rw [Bool.true_and, Bool.or_comm]
theorem C2.next {s : ByteArray} {p q : Nat} {L : List Tk} {k n : Int} {ts : ByteArray} (h : C2 s p q L k n ts) (hq : q < s.size) (hd : nbB (bt s q) = true) : C2 s p (q + 1) L k n ts := by
  obtain ⟨h1, h2, h3, h4, h5, h6⟩ := h
  exact ⟨h1, h2, h3, by omega, by omega, by rw [← h6, tw_step hq (by rw [← nb_run]; exact hd)]⟩
theorem C2.fin {s : ByteArray} {p q : Nat} {L : List Tk} {k n : Int} {ts : ByteArray} (h : C2 s p q L k n ts) (hq : q < s.size → nbB (bt s q) = false) : C5 s p q L k n (s.extract p q) := by
  obtain ⟨h1, ⟨h2, h2'⟩, ⟨rfl, rfl, rfl⟩, h4, h5, h6⟩ := h
  have e : q = tw (runB true) s p := by
    rw [← h6]
    by_cases hlt : q < s.size
    · rw [tw_stop hlt (by rw [← nb_run]; exact hq hlt)]
    · rw [tw_end (by omega)]
  have hone : oneT s p (tiL L) = (⟨2, 0, s.extract p q⟩, q) := by unfold oneT; rw [if_neg (by rw [h2]; simp), if_pos h2', ← e]
  exact ⟨h1, by rw [hone], ext_sz _ _ _, by rw [hone], fun _ => by rw [hone]⟩

-- marks
theorem kd5 {c : Int} {rex : Bool} (h : kdT c rex = 5) : dgB c = false ∧ smB c = false ∧ c ≠ 39 ∧ ¬ (c = 47 ∧ rex = true) := by
  unfold kdT at h
  split at h
  · omega
  split at h
  · omega
  split at h
  · omega
  split at h
  · omega
  · rename_i a b c' d
    exact ⟨by simpa using a, by simpa using b, c', d⟩
theorem ext_ext (s : ByteArray) (p : Nat) (h : p + 2 ≤ s.size) : (s.extract p s.size).extract 0 2 = s.extract p (p + 2) := by
  rw [ByteArray.extract_extract]
  congr 1
  omega
/-- A mark's size. -/
def mkZ (s : ByteArray) (p : Nat) : Nat := if 2 ≤ (s.extract p s.size).size ∧ mkB ((s.extract p s.size).extract 0 2) = true then 2 else 1
theorem C3.start {s : ByteArray} {p : Nat} {L : List Tk} (h : LxP s p L) (hd : kdT (bt s p) (tiL L) = 5) : C3 s p (p + 1) L 5 0 ⟨#[]⟩ := ⟨h, hd, ⟨rfl, rfl, rfl⟩, rfl⟩
theorem C3.fin {s : ByteArray} {p q : Nat} {L : List Tk} {k n : Int} {ts : ByteArray} (h : C3 s p q L k n ts) : p + mkZ s p ≤ s.size ∧ 1 ≤ mkZ s p ∧ mkZ s p ≤ 2 ∧ C5 s p (p + mkZ s p) L k n (s.extract p (p + mkZ s p)) := by
  obtain ⟨h1, h2, ⟨rfl, rfl, rfl⟩, h4⟩ := h
  have hp := h1.1
  obtain ⟨k1, k2, k3, k4⟩ := kd5 h2
  have hsz : (s.extract p s.size).size = s.size - p := by rw [ByteArray.size_extract]; omega
  by_cases h2 : p + 1 < s.size ∧ mkB (s.extract p (p + 2)) = true
  · have e : mkZ s p = 2 := by unfold mkZ; rw [hsz, ext_ext s p (by omega), if_pos ⟨by omega, h2.2⟩]
    have hone : oneT s p (tiL L) = (⟨5, 0, s.extract p (p + 2)⟩, p + 2) := by unfold oneT; rw [if_neg (by rw [k1]; simp), if_neg (by rw [k2]; simp), if_neg k3, if_neg k4, if_pos h2]
    rw [e]
    exact ⟨by omega, by omega, by omega, h1, by rw [hone], ext_sz _ _ _, by rw [hone], fun _ => by rw [hone]⟩
  · have e : mkZ s p = 1 := by
      unfold mkZ
      rw [hsz, if_neg]
      rintro ⟨a, b⟩
      rw [ext_ext s p (by omega)] at b
      exact h2 ⟨by omega, b⟩
    have hone : oneT s p (tiL L) = (⟨5, 0, s.extract p (p + 1)⟩, p + 1) := by unfold oneT; rw [if_neg (by rw [k1]; simp), if_neg (by rw [k2]; simp), if_neg k3, if_neg k4, if_neg h2]
    rw [e]
    exact ⟨by omega, by omega, by omega, h1, by rw [hone], ext_sz _ _ _, by rw [hone], fun _ => by rw [hone]⟩

-- what stands between two
theorem kd34 {c : Int} {rex : Bool} {k : Int} (h : kdT c rex = k) (hk : k = 3 ∨ k = 4) : dgB c = false ∧ smB c = false ∧ ((c = 39 ∧ k = 3) ∨ (c ≠ 39 ∧ c = 47 ∧ rex = true ∧ k = 4)) := by
  unfold kdT at h
  split at h
  · omega
  split at h
  · omega
  rename_i a b
  refine ⟨by simpa using a, by simpa using b, ?_⟩
  split at h
  · rename_i c'; exact .inl ⟨c', h.symm⟩
  split at h
  · rename_i c' d; exact .inr ⟨c', d.1, d.2, h.symm⟩
  · omega
theorem one34 {s : ByteArray} {p : Nat} {rex : Bool} {k : Int} (h : kdT (bt s p) rex = k) (hk : k = 3 ∨ k = 4) : oneT s p rex = qtT s p k := by
  obtain ⟨a, b, h3⟩ := kd34 h hk
  unfold oneT
  rw [if_neg (by rw [a]; simp), if_neg (by rw [b]; simp)]
  rcases h3 with ⟨h3, rfl⟩ | ⟨h3, h4, h5, rfl⟩
  · rw [if_pos h3]
  · rw [if_neg h3, if_pos ⟨h4, h5⟩]
theorem C4.start {s : ByteArray} {p : Nat} {L : List Tk} {k : Int} (h : LxP s p L) (hd : kdT (bt s p) (tiL L) = k) (hk : k = 3 ∨ k = 4) : C4 s p (p + 1) L k 0 ⟨#[]⟩ := by
  have hp := h.1
  exact ⟨h, ⟨hd, hk⟩, ⟨rfl, rfl⟩, by omega, by omega, rfl⟩
theorem C4.next {s : ByteArray} {p q : Nat} {L : List Tk} {k n : Int} {ts : ByteArray} (h : C4 s p q L k n ts) (hq : q < s.size) (hd : bt s q ≠ bt s p) : C4 s p (q + 1) L k n ts := by
  obtain ⟨h1, h2, h3, h4, h5, h6⟩ := h
  exact ⟨h1, h2, h3, by omega, by omega, by rw [← h6, tw_step hq (by simpa [neB] using hd)]⟩
theorem C4.bad {s : ByteArray} {p : Nat} {L : List Tk} {k n : Int} {ts : ByteArray} (h : C4 s p s.size L k n ts) : lexT s = ([], ((p : Nat) : Int)) := by
  obtain ⟨h1, ⟨h2, hk⟩, h3, h4, h5, h6⟩ := h
  refine h1.bad ?_
  rintro ⟨ht, -⟩
  rw [one34 h2 hk, qtT, if_pos (by rw [← h6, tw_end (Nat.le_refl _)])] at ht
  simp [tkOkB, tokB, wrB] at ht
theorem C4.fin {s : ByteArray} {p q : Nat} {L : List Tk} {k n : Int} {ts : ByteArray} (h : C4 s p q L k n ts) (hq : q < s.size) (hd : bt s q = bt s p) : p + 1 ≤ q ∧ C5 s p (q + 1) L k n (s.extract (p + 1) q) := by
  obtain ⟨h1, ⟨h2, hk⟩, ⟨rfl, rfl⟩, h4, h5, h6⟩ := h
  have e : tw (neB (bt s p)) s (p + 1) = q := by rw [← h6, tw_stop hq (by rw [hd]; simp [neB])]
  have hone : oneT s p (tiL L) = (⟨k, 0, s.extract (p + 1) q⟩, q + 1) := by rw [one34 h2 hk, qtT, e, if_neg (by omega)]
  exact ⟨h4, h1, by rw [hone], ext_sz _ _ _, by rw [hone], fun _ => by rw [hone]⟩

-- one token whole
theorem C5.bad {s : ByteArray} {p q : Nat} {L : List Tk} {k n : Int} {ts : ByteArray} (h : C5 s p q L k n ts) (hb : tokB k n ts = false ∨ L.length = 2000) : lexT s = ([], ((p : Nat) : Int)) := by
  obtain ⟨h1, h2, h3, h4, h5⟩ := h
  refine h1.bad ?_
  rintro ⟨ht, hl⟩
  rw [← h4] at ht
  rcases hb with hb | hb
  · rw [tkOkB] at ht; simp only at ht; rw [hb] at ht; cases ht
  · exact hl hb
theorem C5.on {s : ByteArray} {p q : Nat} {L : List Tk} {k n : Int} {ts : ByteArray} (h : C5 s p q L k n ts) (hb : tokB k n ts = true) (hl : L.length ≠ 2000) : q ≤ s.size ∧ LxAt s q (L ++ [⟨k, n, ts⟩]) := by
  obtain ⟨⟨hp, q0, hq0, rfl⟩, h2, h3, h4, h5⟩ := h
  have e := h5 hb
  have ho : tkOkB (oneT s (pas s q0) (tiL L)).1 = true := h4.symm.trans hb
  rw [e, h2]
  exact ⟨(oneT_gt s _ _ hp).2, hq0.step hp ho hl⟩
theorem C5.q {s : ByteArray} {p q : Nat} {L : List Tk} {k n : Int} {ts : ByteArray} (h : C5 s p q L k n ts) : q ≤ s.size ∧ p < s.size ∧ ts.size ≤ s.size := by
  obtain ⟨h1, h2, h3, -⟩ := h
  rw [h2]
  exact ⟨(oneT_gt s _ _ h1.1).2, h1.1, h3⟩

-- the token under way, in its box; the tokens so far
/-- The box g holds this token. -/
def BxK (w : World) (g : Nat) (k n : Int) (s : ByteArray) : Prop := w.heap[g]? = some (.cells #[.int .i64 k, .int .i64 n, .string s] 31 (0, 0))
theorem BxK.lt {w : World} {g : Nat} {k n : Int} {s : ByteArray} (h : BxK w g k n s) : g < w.heap.size := (Array.getElem?_eq_some_iff.1 h).1
theorem BxK.kept {w w' : World} {g : Nat} {k n : Int} {s : ByteArray} (h : BxK w g k n s) (hh : w'.heap[g]? = w.heap[g]?) : BxK w' g k n s := by unfold BxK; rw [hh]; exact h
theorem BxK.c0 {w : World} {g : Nat} {k n : Int} {s : ByteArray} (h : BxK w g k n s) : w.cell? ⟨g, 0, none⟩ = some (.int .i64 k) := by rw [cell_of_row w g 0 _ _ (0, 0) h]; rfl
theorem BxK.c1 {w : World} {g : Nat} {k n : Int} {s : ByteArray} (h : BxK w g k n s) : w.cell? ⟨g, 1, none⟩ = some (.int .i64 n) := by rw [cell_of_row w g 1 _ _ (0, 0) h]; rfl
theorem BxK.c2 {w : World} {g : Nat} {k n : Int} {s : ByteArray} (h : BxK w g k n s) : w.cell? ⟨g, 2, none⟩ = some (.string s) := by rw [cell_of_row w g 2 _ _ (0, 0) h]; rfl
theorem BxK.fr {w : World} {g : Nat} {k n : Int} {s : ByteArray} (h : BxK w g k n s) (o : Nat) : w.frozen? ⟨g, o, none⟩ = false := frozen_of_row w g o _ _ h
theorem BxK.s0 {w : World} {g : Nat} {k n : Int} {s : ByteArray} (h : BxK w g k n s) (x : Int) : BxK (w.setCell ⟨g, 0, none⟩ (.int .i64 x)) g x n s := by unfold BxK; rw [heap_setCell_same w g 0 _ _ _ h]; rfl
theorem BxK.s1 {w : World} {g : Nat} {k n : Int} {s : ByteArray} (h : BxK w g k n s) (x : Int) : BxK (w.setCell ⟨g, 1, none⟩ (.int .i64 x)) g k x s := by unfold BxK; rw [heap_setCell_same w g 1 _ _ _ h]; rfl
theorem BxK.s2 {w : World} {g : Nat} {k n : Int} {s : ByteArray} (h : BxK w g k n s) (x : ByteArray) : BxK (w.setCell ⟨g, 2, none⟩ (.string x)) g k n x := by unfold BxK; rw [heap_setCell_same w g 2 _ _ _ h]; rfl
theorem OwnK.set {w : World} {base : Nat} {v : Value} {L : List Tk} {g : Nat} (h : OwnK w base v L) (hne : v.ownBlock ≠ some g) (o : Nat) (u : Value) : OwnK (w.setCell ⟨g, o, none⟩ u) base v L := by
  have q : Below g w (w.setCell ⟨g, o, none⟩ u) := (Below.refl g w).setCell (p := ⟨g, o, none⟩) (Nat.le_refl g) u
  exact World.ownsRow.kept (row := some g) h ⟨q.os, q.tape, q.output, q.size, fun k _ hk => heap_setCell_other _ ⟨g, o, none⟩ k _ (fun e => hk (by rw [e]))⟩ (.inr hne)

structure LxS (s : ByteArray) (w W : World) (g : Nat) (L : List Tk) (k n : Int) (ts : ByteArray) (oa : Option Addr) (oc : Nat) : Prop where
  b : Below w.heap.size w W
  own : OwnK W w.heap.size (.slice oa L.length oc) L
  ok : ∀ x ∈ L, tkOkB x = true
  sz : ∀ x ∈ L, x.s.size ≤ s.size
  len : L.length ≤ 2000
  ne : (Value.slice oa L.length oc).ownBlock ≠ some g
  bx : BxK W g k n ts
  cap : L.length ≤ oc
  ge : w.heap.size ≤ g
theorem LxS.lt {s : ByteArray} {w W : World} {g : Nat} {L : List Tk} {k n : Int} {ts : ByteArray} {oa : Option Addr} {oc : Nat} (h : LxS s w W g L k n ts oa oc) : g < W.heap.size := h.bx.lt
theorem LxS.grow {s : ByteArray} {w W W' : World} {g : Nat} {L : List Tk} {k n : Int} {ts : ByteArray} {oa : Option Addr} {oc : Nat} (h : LxS s w W g L k n ts oa oc) (hb : Below W.heap.size W W') : LxS s w W' g L k n ts oa oc :=
  { h with b := h.b.trans (hb.mono h.b.size), own := h.own.grow hb, bx := h.bx.kept (hb.block g h.lt) }
theorem LxS.set {s : ByteArray} {w W : World} {g : Nat} {L : List Tk} {k n k' n' : Int} {ts ts' : ByteArray} {oa : Option Addr} {oc : Nat} (h : LxS s w W g L k n ts oa oc) (o : Nat) (u : Value) (hx : BxK (W.setCell ⟨g, o, none⟩ u) g k' n' ts') : LxS s w (W.setCell ⟨g, o, none⟩ u) g L k' n' ts' oa oc :=
  { h with b := h.b.setCell (p := ⟨g, o, none⟩) h.ge u, own := h.own.set h.ne o u, bx := hx }
theorem LxS.s1 {s : ByteArray} {w W : World} {g : Nat} {L : List Tk} {k n : Int} {ts : ByteArray} {oa : Option Addr} {oc : Nat} (h : LxS s w W g L k n ts oa oc) (x : Int) : LxS s w (W.setCell ⟨g, 1, none⟩ (.int .i64 x)) g L k x ts oa oc := h.set 1 _ (h.bx.s1 x)
theorem LxS.s2 {s : ByteArray} {w W : World} {g : Nat} {L : List Tk} {k n : Int} {ts : ByteArray} {oa : Option Addr} {oc : Nat} (h : LxS s w W g L k n ts oa oc) (x : ByteArray) : LxS s w (W.setCell ⟨g, 2, none⟩ (.string x)) g L k n x oa oc := h.set 2 _ (h.bx.s2 x)
theorem LxS.s3 {s : ByteArray} {w W : World} {g : Nat} {L : List Tk} {k n : Int} {ts : ByteArray} {oa : Option Addr} {oc : Nat} (h : LxS s w W g L k n ts oa oc) (x y : Int) (z : ByteArray) : LxS s w (((W.setCell ⟨g, 0, none⟩ (.int .i64 x)).setCell ⟨g, 1, none⟩ (.int .i64 y)).setCell ⟨g, 2, none⟩ (.string z)) g L x y z oa oc := ((h.set 0 _ (h.bx.s0 x)).s1 y).s2 z
theorem LxS.tl {s : ByteArray} {w W : World} {g : Nat} {L : List Tk} {k n : Int} {ts : ByteArray} {oa : Option Addr} {oc : Nat} (h : LxS s w W g L k n ts oa oc) (hs : s.size ≤ maxLen) : Tl W L (.slice oa L.length oc) := h.own.tl fun x hx => Nat.le_trans (h.sz x hx) hs
theorem LxS.snoc {s : ByteArray} {w W W' : World} {g : Nat} {L : List Tk} {k n : Int} {ts : ByteArray} {oa oa' : Option Addr} {oc oc' : Nat} (h : LxS s w W g L k n ts oa oc) (ho : OwnK W' w.heap.size (.slice oa' (L ++ [(⟨k, n, ts⟩ : Tk)]).length oc') (L ++ [⟨k, n, ts⟩])) (hb : Below w.heap.size w W') (hk : Kign W W' (.slice oa L.length oc) (.slice oa' (L ++ [(⟨k, n, ts⟩ : Tk)]).length oc')) (hl : L.length ≠ 2000) (hok : tokB k n ts = true) (hz : ts.size ≤ s.size) (hc : (L ++ [(⟨k, n, ts⟩ : Tk)]).length ≤ oc') : LxS s w W' g (L ++ [⟨k, n, ts⟩]) k n ts oa' oc' := by
  have hlen := h.len
  refine ⟨hb, ho, ?_, ?_, by simp; omega, ?_, ?_, hc, h.ge⟩
  · intro x hx
    rcases List.mem_append.1 hx with hx | hx
    · exact h.ok x hx
    · rw [List.mem_singleton.1 hx]; exact hok
  · intro x hx
    rcases List.mem_append.1 hx with hx | hx
    · exact h.sz x hx
    · rw [List.mem_singleton.1 hx]; exact hz
  · rcases hk.2 with e | ⟨b, hb', e⟩
    · intro e'; rw [e] at e'; exact h.ne e'
    · rw [e]
      intro e'
      have := Option.some.inj e'
      have := h.lt
      omega
  · exact h.bx.kept (hk.1.block g h.lt (fun e => h.ne e.symm))
end Go.Proofs.YtapcbblfcmdbnaaDoor
