/- The program's reader: what its functions leave; a part within brackets, one that stands alone, one with its mark. -/
import Derived.Test.YtgigalcajgjpnaaGreatRexRdJ
import Derived.Test.YtgigalcajgjpnaaGreatRexOwn
namespace Go.Proofs.YtgigalcajgjpnaaGreat
open Go.RowKit
set_option maxRecDepth 8000

/-- What a function of the reader leaves, where the text from p on reads as r. -/
def RdOk (w w' : World) (R : Nat) (s : ByteArray) (p : Nat) (e : Ending) (r : Option (Tr × List Int)) : Prop :=
  w.grownBy w' (some R) ∧ ((r = none ∧ e = .panicked nope) ∨
    ∃ t q u p', r = some (t, q) ∧ e = .returned (rx t.k t.s u) ∧ p < p' ∧ p' ≤ s.size ∧ q = (txt s).drop p' ∧ Rds w' R s p' ∧ t.s.size ≤ maxLen ∧ Ow w' (newFrom w.heap.size) t.l u)

def RdC (f : Nat) (g : Rdr) (n : Nat) : Prop := ∀ (s : ByteArray) (R p : Nat) (w : World), Rds w R s p → p ≤ s.size → s.size ≤ 1048576 → s.size - p < n →
  Calls Tryz.prog f #[.pointer (some ⟨R, 0, none⟩)] w fun e w' => RdOk w w' R s p e (g ((txt s).drop p))

/-- Three cells in a block. -/
def Bx3 (w : World) (b : Nat) (x y z : Value) : Prop := w.heap[b]? = some (.cells #[x, y, z] 187 (0, 0))
theorem Bx3.c0 {w : World} {b : Nat} {x y z : Value} (h : Bx3 w b x y z) : w.cell? ⟨b, 0, none⟩ = some x := by rw [cell_of_row w b 0 _ _ (0, 0) h]; rfl
theorem Bx3.c1 {w : World} {b : Nat} {x y z : Value} (h : Bx3 w b x y z) : w.cell? ⟨b, 1, none⟩ = some y := by rw [cell_of_row w b 1 _ _ (0, 0) h]; rfl
theorem Bx3.c2 {w : World} {b : Nat} {x y z : Value} (h : Bx3 w b x y z) : w.cell? ⟨b, 2, none⟩ = some z := by rw [cell_of_row w b 2 _ _ (0, 0) h]; rfl
theorem Bx3.fr {w : World} {b : Nat} {x y z : Value} (h : Bx3 w b x y z) (j : Nat) : w.frozen? ⟨b, j, none⟩ = false := frozen_of_row w b j _ _ h
theorem Bx3.lt {w : World} {b : Nat} {x y z : Value} (h : Bx3 w b x y z) : b < w.heap.size := by unfold Bx3 at h; exact (Array.getElem?_eq_some_iff.1 h).1
theorem Bx3.new (w : World) (x y z : Value) : Bx3 (w.alloc (.cells #[x, y, z] 187)) w.heap.size x y z := heap_alloc_new w _
theorem Bx3.kept {w w' : World} {b : Nat} {x y z : Value} (h : Bx3 w b x y z) (hh : w'.heap[b]? = w.heap[b]?) : Bx3 w' b x y z := by unfold Bx3; rw [hh]; exact h

abbrev set3 (w : World) (b : Nat) (x y z : Value) : World := ((w.setCell ⟨b, 0, none⟩ x).setCell ⟨b, 1, none⟩ y).setCell ⟨b, 2, none⟩ z
theorem Bx3.put {w : World} {b : Nat} {x y z : Value} (h : Bx3 w b x y z) (x' y' z' : Value) : Bx3 (set3 w b x' y' z') b x' y' z' := by
  unfold Bx3 at *
  have h1 := heap_setCell_same w b 0 _ _ x' h
  have h2 := heap_setCell_same _ b 1 _ _ y' h1
  have h3 := heap_setCell_same _ b 2 _ _ z' h2
  rw [h3]; rfl
theorem set3_other (w : World) (b k : Nat) (x y z : Value) (h : k ≠ b) : (set3 w b x y z).heap[k]? = w.heap[k]? := by
  unfold set3
  rw [heap_setCell_other _ _ _ _ h, heap_setCell_other _ _ _ _ h, heap_setCell_other _ _ _ _ h]
theorem set3_size (w : World) (b : Nat) (x y z : Value) : (set3 w b x y z).heap.size = w.heap.size := by simp [set3]
theorem gb_set3 {w w' : World} {R b : Nat} (h : w.grownBy w' (some R)) (hb : w.heap.size ≤ b) (x y z : Value) : w.grownBy (set3 w' b x y z) (some R) :=
  ⟨h.os, h.tape, h.output, by rw [set3_size]; exact h.size, fun k hk hne => by rw [set3_other _ _ _ _ _ _ (by omega)]; exact h.block k hk hne⟩
theorem gb_alloc (w : World) (R : Nat) (o : Obj) : w.grownBy (w.alloc o) (some R) := gb_below (World.grownBy.refl _ _) ((Below.refl _ _).alloc (Nat.le_refl _) _)
theorem gb_trans {w w' w'' : World} {R : Nat} (h : w.grownBy w' (some R)) (k : w'.grownBy w'' (some R)) : w.grownBy w'' (some R) := World.grownBy.trans h k
theorem Bx3.gb {w w' : World} {b R : Nat} {x y z : Value} (h : Bx3 w b x y z) (hg : w.grownBy w' (some R)) (hne : b ≠ R) : Bx3 w' b x y z := h.kept (hg.block b h.lt (by simpa using hne))
theorem Rds.set3 {w : World} {R b : Nat} {s : ByteArray} {p : Nat} (h : Rds w R s p) (hne : R ≠ b) (x y z : Value) : Rds (set3 w b x y z) R s p := by unfold Rds; rw [set3_other _ _ _ _ _ _ hne]; exact h
theorem Ow.gb {w w' : World} {R : Nat} {B : Nat → Prop} {l : List Tr} {v : Value} (h : Ow w B l v) (hg : w.grownBy w' (some R)) (hne : ¬ B R) : Ow w' B l v := h.kept fun b hb hlt => hg.block b hlt (by rintro e; simp at e; subst e; exact hne hb)
theorem Ow.set3 {w : World} {B : Nat → Prop} {l : List Tr} {v : Value} (h : Ow w B l v) {b : Nat} (hne : ¬ B b) (x y z : Value) : Ow (set3 w b x y z) B l v := h.kept fun k hk _ => set3_other _ _ _ _ _ _ (by rintro rfl; exact hne hk)

/-- A new box at the front: everything else as it was. -/
theorem pre_box {w : World} {R : Nat} {s : ByteArray} {p : Nat} (h : Rds w R s p) : Rds (w.alloc (.cells #[.int .i64 0, .string ⟨#[]⟩, .slice none 0 0] 187)) R s p ∧ w.heap.size ≠ R ∧ Bx3 (w.alloc (.cells #[.int .i64 0, .string ⟨#[]⟩, .slice none 0 0] 187)) w.heap.size (.int .i64 0) (.string ⟨#[]⟩) (.slice none 0 0) ∧ w.grownBy (w.alloc (.cells #[.int .i64 0, .string ⟨#[]⟩, .slice none 0 0] 187)) (some R) :=
  ⟨h.grow ((Below.refl _ _).alloc (Nat.le_refl _) _), by have := h.lt; omega, Bx3.new _ _ _ _, gb_alloc _ _ _⟩

theorem ow_leaf (w : World) (B : Nat → Prop) (k : Int) : (leaf k).s.size ≤ maxLen ∧ Ow w B (leaf k).l (.slice none 0 0) := ⟨by show (⟨#[]⟩ : ByteArray).size ≤ maxLen; decide, Ow.none _⟩

theorem head_is {s : ByteArray} {p : Nat} {c : Int} : nextIs s p c = true ↔ ((txt s).drop p).head? = some c := by unfold nextIs; simp
theorem tail_is (s : ByteArray) (p : Nat) : ((txt s).drop p).tail = (txt s).drop (p + 1) := by simp

set_option maxHeartbeats 1000000 in
theorem bracketed_of (n : Nat) (hc : RdC 213 (rd n) n) : RdC 232 (rdGroup (rd n)) n := by
  intro s R p w h hp hs hn
  obtain ⟨h0, hne, hb0, hg0⟩ := pre_box h
  have H0 := Hid.mk h0
  have HB0 := Hid.mk hb0
  have HG0 := Hid.mk hg0
  have hRl := h.lt
  clear h h0 hb0 hg0
  cases hx : nextIs s p 41 with
  | true =>
    have hlt := nextIs_lt hx
    have HT := Hid.mk (take_any s R p 41 _ H0.out hp hs true hx)
    have HR : Hid (rdGroup (rd n) ((txt s).drop p) = some (leaf 9, (txt s).drop (p + 1))) := by show _ = _; rw [rdGroup, if_pos (head_is.1 hx), tail_is]
    rw [HR.out]
    go_enter Tryz.func232, Tryz.ntmps232
    go_wp2_with fail
    refine HT.out.mono ?_
    rintro e w1 ⟨rfl, hg1, hr1, hz1⟩
    have HB1 := Hid.mk (HB0.out.gb hg1 hne)
    have c0 := HB1.out.c0
    have c1 := HB1.out.c1
    have c2 := HB1.out.c2
    have f0 := HB1.out.fr
    have HG1 := Hid.mk (gb_trans HG0.out hg1)
    have HR1 : Hid (Rds w1 R s (p + 1)) := hr1
    clear HT hg1 hr1 HB0 HG0 H0
    go_wp2
    have hput := HB1.out.put (.int .i64 9) (.string ⟨#[]⟩) (.slice none 0 0)
    have hgp := gb_set3 HG1.out (Nat.le_refl _) (.int .i64 9) (.string ⟨#[]⟩) (.slice none 0 0)
    have hrp := HR1.out.set3 (Ne.symm hne) (.int .i64 9) (.string ⟨#[]⟩) (.slice none 0 0)
    unfold set3 at hput hgp hrp
    generalize ((w1.setCell ⟨w.heap.size, 0, none⟩ (.int .i64 9)).setCell ⟨w.heap.size, 1, none⟩ (.string ⟨#[]⟩)).setCell ⟨w.heap.size, 2, none⟩ (.slice none 0 0) = W at hput hgp hrp ⊢
    have r0 := hput.c0
    have r1 := hput.c1
    have r2 := hput.c2
    refine bodyPost_ret (v := rx 9 ⟨#[]⟩ (.slice none 0 0)) ?_ rfl ⟨hgp, Or.inr ⟨leaf 9, _, _, p + 1, rfl, rfl, by omega, by omega, rfl, hrp, ow_leaf _ _ _⟩⟩
    simp [results, Tryz.results232, go_sem, r0, r1, r2]
  | false =>
    have HT := Hid.mk (take_any s R p 41 _ H0.out hp hs false hx)
    have HN : Hid (¬ ((txt s).drop p).head? = some 41) := fun e => by rw [head_is.2 e] at hx; cases hx
    have HC := Hid.mk hc
    clear hc
    go_enter Tryz.func232, Tryz.ntmps232
    go_wp2_with fail
    refine HT.out.mono ?_
    rintro e w1 ⟨rfl, hg1, hr1, hz1⟩
    have HB1 := Hid.mk (HB0.out.gb hg1 hne)
    have HG1 := Hid.mk (gb_trans HG0.out hg1)
    have HR1 : Hid (Rds w1 R s p) := hr1
    have hz1' : w1.heap.size = w.heap.size + 1 := by rw [hz1]; simp
    clear HT hg1 hr1 HB0 HG0 H0 hz1
    go_wp2_with fail
    refine (HC.out s R p w1 HR1.out hp hs hn).mono ?_
    rintro e w2 ⟨hg2, ⟨hr0, rfl⟩ | ⟨t, q, u, p2, hrd, rfl, hp1, hp2, rfl, hr2, hsz, how⟩⟩
    · have HG2 := Hid.mk (gb_trans HG1.out hg2)
      have HE : Hid (rdGroup (rd n) ((txt s).drop p) = none) := by show _ = _; rw [rdGroup, if_neg HN.out, hr0]
      exact ⟨rfl, HG2.out, Or.inl ⟨HE.out, rfl⟩⟩
    · have HG2 := Hid.mk (gb_trans HG1.out hg2)
      have HB2 := Hid.mk (HB1.out.gb hg2 hne)
      obtain ⟨au, cu, rfl⟩ := how.value
      have hbw : Below w2.heap.size w2 (w2.alloc (.cells #[.int .i64 t.k, .string t.s, .slice au t.l.length cu] 187)) := (Below.refl _ _).alloc (Nat.le_refl _) _
      have HX := Hid.mk (Bx3.new w2 (.int .i64 t.k) (.string t.s) (.slice au t.l.length cu))
      have HR3 := Hid.mk (hr2.grow hbw)
      have HB3 := Hid.mk (HB2.out.kept (hbw.block _ HB2.out.lt))
      have HO3 := Hid.mk (how.grow hbw)
      have HG3 := Hid.mk (gb_below HG2.out hbw)
      have hxne : w2.heap.size ≠ R := by have := hr2.lt; omega
      have hs2 : w.heap.size + 1 ≤ w2.heap.size := by have := hg2.size; omega
      have HRD := Hid.mk hrd
      have HSZ := Hid.mk hsz
      obtain ⟨tk, htk⟩ : ∃ tk, t.k = tk := ⟨_, rfl⟩
      obtain ⟨ts, hts⟩ : ∃ ts, t.s = ts := ⟨_, rfl⟩
      rw [htk, hts] at HX HR3 HB3 HO3 HG3
      rw [htk, hts]
      clear hg2 hr2 how hbw HB1 HG1 HR1 HC HB2 HG2 hrd hsz
      cases hx2 : nextIs s p2 41 with
      | true =>
        have HT := Hid.mk (take_any s R p2 41 _ HR3.out hp2 hs true hx2)
        have hlt2 := nextIs_lt hx2
        have HE : Hid (rdGroup (rd n) ((txt s).drop p) = some (t, (txt s).drop (p2 + 1))) := by
          show _ = _
          rw [rdGroup, if_neg HN.out, HRD.out]
          show (if ((txt s).drop p2).head? = some 41 then _ else _) = _
          rw [if_pos (head_is.1 hx2), tail_is]
        go_wp2_with fail
        refine HT.out.mono ?_
        rintro e w4 ⟨rfl, hg4, hr4, hz4⟩
        have HB4 := Hid.mk (HB3.out.gb hg4 hne)
        have HX4 := Hid.mk (HX.out.gb hg4 hxne)
        have HO4 := Hid.mk (HO3.out.gb hg4 (by unfold newFrom; omega))
        have HG4 := Hid.mk (gb_trans HG3.out hg4)
        have HR4 : Hid (Rds w4 R s (p2 + 1)) := hr4
        have c0 := HB4.out.c0
        have c1 := HB4.out.c1
        have c2 := HB4.out.c2
        have f0 := HB4.out.fr
        have x0 := HX4.out.c0
        have x1 := HX4.out.c1
        have x2 := HX4.out.c2
        clear HT hg4 hr4 hz4 HB3 HX HO3 HG3 HR3
        go_wp2
        have hput := HB4.out.put (.int .i64 tk) (.string ts) (.slice au t.l.length cu)
        have hgp := gb_set3 HG4.out (Nat.le_refl _) (.int .i64 tk) (.string ts) (.slice au t.l.length cu)
        have hrp := HR4.out.set3 (Ne.symm hne) (.int .i64 tk) (.string ts) (.slice au t.l.length cu)
        have hop := HO4.out.set3 (b := w.heap.size) (by unfold newFrom; omega) (.int .i64 tk) (.string ts) (.slice au t.l.length cu)
        unfold set3 at hput hgp hrp hop
        generalize ((w4.setCell ⟨w.heap.size, 0, none⟩ (.int .i64 tk)).setCell ⟨w.heap.size, 1, none⟩ (.string ts)).setCell ⟨w.heap.size, 2, none⟩ (.slice au t.l.length cu) = W at hput hgp hrp hop ⊢
        have r0 := hput.c0
        have r1 := hput.c1
        have r2 := hput.c2
        refine bodyPost_ret (v := rx tk ts (.slice au t.l.length cu)) ?_ rfl ⟨hgp, Or.inr ⟨t, _, _, p2 + 1, HE.out, by rw [htk, hts], by omega, by omega, rfl, hrp, HSZ.out, hop.mono (fun b hb => by unfold newFrom at *; omega)⟩⟩
        simp [results, Tryz.results232, go_sem, r0, r1, r2]
      | false =>
        have HT := Hid.mk (take_any s R p2 41 _ HR3.out hp2 hs false hx2)
        have HE : Hid (rdGroup (rd n) ((txt s).drop p) = none) := by
          show _ = _
          rw [rdGroup, if_neg HN.out, HRD.out]
          show (if ((txt s).drop p2).head? = some 41 then _ else _) = _
          rw [if_neg (fun e => by rw [head_is.2 e] at hx2; cases hx2)]
        go_wp2_with fail
        refine HT.out.mono ?_
        rintro e w4 ⟨rfl, hg4, hr4, hz4⟩
        have HG4 := Hid.mk (gb_trans HG3.out hg4)
        clear HT hg4 hr4 hz4 HB3 HX HO3 HG3 HR3
        go_wp2
        exact ⟨rfl, HG4.out, Or.inl ⟨HE.out, rfl⟩⟩
end Go.Proofs.YtgigalcajgjpnaaGreat
