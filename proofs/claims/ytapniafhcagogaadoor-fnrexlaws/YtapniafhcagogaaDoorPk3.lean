/- Drawn regular expressions, right or not. -/
import Derived.Test.YtapniafhcagogaaDoorPk2
namespace Go.Proofs.YtapniafhcagogaaDoor
open Go.RowKit
set_option maxRecDepth 8000

/-- The cells of expressions. -/
def litCells : List (Tr × Value) → List Value
  | [] => []
  | p :: r => .int .i64 p.1.k :: .string p.1.s :: p.2 :: litCells r

theorem litCells_get : ∀ (ps : List (Tr × Value)) (i : Nat) (h : i < ps.length), (litCells ps)[i * 3]? = some (.int .i64 ps[i].1.k) ∧ (litCells ps)[i * 3 + 1]? = some (.string ps[i].1.s) ∧ (litCells ps)[i * 3 + 2]? = some ps[i].2
  | p :: r, 0, _ => ⟨rfl, rfl, rfl⟩
  | p :: r, i + 1, h => by
    have := litCells_get r i (by simpa using h)
    have e : (i + 1) * 3 = i * 3 + 3 := by omega
    rw [e]
    exact this

/-- A literal list reads what it was made of. -/
theorem Rl.lit {w : World} {B : Nat → Prop} {b : Nat} (ps : List (Tr × Value)) (hn : ps ≠ []) (hl : ps.length ≤ 1000) (hB : B b) (hb : w.heap[b]? = some (.cells (litCells ps).toArray 26 (0, 0)))
    (h : ∀ p ∈ ps, Rl w B p.1.l p.2 ∧ p.1.s.size ≤ maxLen) : Rl w B (ps.map (·.1)) (.slice (some ⟨b, 0, none⟩) ps.length ps.length) := by
  have hll : (ps.map (·.1)).length = ps.length := by simp
  rw [show ps.length = (ps.map (·.1)).length by simp]
  have hm : ∀ n, n ≤ 1000 → n ≤ maxLen := fun n hn => Nat.le_trans hn (by decide)
  refine .full (ps.map (·.1)) b 0 _ (fun i => (ps[i]?.map (·.2)).getD (.bool true)) hB (by simpa using hn) (Nat.le_refl _) (hm _ (by simpa using hl)) (fun i hi => ?_) (fun i hi => ?_) fun i hi => ?_
  · have hi' : i < ps.length := by simpa using hi
    simpa using (h _ (List.getElem_mem hi')).2
  · have hi' : i < ps.length := by simpa using hi
    obtain ⟨c0, c1, c2⟩ := litCells_get ps i hi'
    simp only [List.getElem_map, List.getElem?_eq_getElem hi', Option.map_some, Option.getD_some]
    exact ⟨by rw [cell_of_row w b _ _ _ (0, 0) hb]; simpa using c0, by rw [cell_of_row w b _ _ _ (0, 0) hb]; simpa using c1, by rw [cell_of_row w b _ _ _ (0, 0) hb]; simpa using c2⟩
  · have hi' : i < ps.length := by simpa using hi
    simp only [List.getElem_map, List.getElem?_eq_getElem hi', Option.map_some, Option.getD_some]
    exact (h _ (List.getElem_mem hi')).1

set_option maxHeartbeats 1000000 in
theorem l3Any_any (cb : Nat) (v : Value) (zs : List Int) (w : World) (h : Cur w cb v zs) :
    Calls Tryd.prog 41 #[.pointer (some ⟨cb, 0, none⟩)] w fun e w' => ∃ (t : Tr) (u : Value), e = .returned (rx t.k t.s u) ∧ t.s.size ≤ maxLen ∧ Rl w' (newFrom (w.heap.size + 1)) t.l u ∧ Cur w' cb v zs ∧ w.grownBy w' (some cb) := by
  have hlt := h.lt
  have HNE : Hid (w.heap.size ≠ cb) := by show _ ≠ _; omega
  have HV2 : Hid (zs ≠ [] → ∀ k, v.ownBlock = some k → k < w.heap.size) := fun hz k hk => h.1.lt hz k hk
  have HCC := Hid.mk (h.grow ((Below.refl _ _).alloc (Nat.le_refl _) (.cells #[.int .i64 0, .string ⟨#[]⟩, .slice none 0 0] 26)))
  have HBB := Hid.mk (Bz3.new w (.int .i64 0) (.string ⟨#[]⟩) (.slice none 0 0))
  have HGG := Hid.mk (gy_alloc w cb (.cells #[.int .i64 0, .string ⟨#[]⟩, .slice none 0 0] 26))
  clear h
  go_enter Tryd.func41, Tryd.ntmps41
  go_wp2_with fail
  refine (l3Draw_any 3 (by omega) cb v zs _ HCC.out).mono ?_
  rintro e w1 ⟨t, u, rfl, hdn, how, hC1, hg1⟩
  have hBB1 := HBB.out.by hg1 HNE.out
  have hGG1 := grownBy_trans HGG.out hg1
  have hsz := hdn.size
  have hs1 : w.heap.size + 1 ≤ w1.heap.size := by have := hg1.size; simpa using this
  obtain ⟨au, cu, rfl⟩ := how.value
  have A1 : Below w1.heap.size w1 (w1.alloc (.cells #[.int .i64 t.k, .string t.s, .slice au t.l.length cu] 26)) := (Below.refl _ _).alloc (Nat.le_refl _) _
  have hrl := ((how.rl.imp (C := fun b => w.heap.size + 1 ≤ b ∧ b < w1.heap.size) (fun b hb hl => ⟨by unfold newFrom at hb; simp at hb; omega, hl⟩)).grow A1)
  have HX := Hid.mk (Bz3.new w1 (.int .i64 t.k) (.string t.s) (.slice au t.l.length cu))
  have HB := Hid.mk (hBB1.grow A1)
  have HG := Hid.mk (gy_below hGG1 A1)
  have HC := Hid.mk (hC1.grow A1)
  have HRL := Hid.mk hrl
  have HSZ := Hid.mk hsz
  have hrc : w1.heap.size ≠ cb := by have := hC1.lt; omega
  obtain ⟨tk, htk⟩ : ∃ tk, t.k = tk := ⟨_, rfl⟩
  obtain ⟨ts, hts⟩ : ∃ ts, t.s = ts := ⟨_, rfl⟩
  obtain ⟨l, hl⟩ : ∃ l, t.l = l := ⟨_, rfl⟩
  rw [htk, hts, hl] at HX HB HG HC HRL
  rw [hts] at HSZ
  rw [htk, hts, hl]
  clear hdn how hC1 hg1 hBB1 hGG1 hsz A1 hrl htk hts hl HCC HBB HGG t
  go_wp2_with fail
  generalize w1.alloc (.cells #[.int .i64 tk, .string ts, .slice au l.length cu] 26) = W1 at HX HB HG HC HRL ⊢
  generalize w1.heap.size = rb at HX HRL hs1 hrc ⊢
  clear w1
  refine (l1Below_any cb v zs 14 W1 HC.out).mono ?_
  rintro e w2 ⟨x, rfl, hx0, -, -, hC2, hg2⟩
  have HX2 := Hid.mk (HX.out.by hg2 hrc)
  have HB2 := Hid.mk (HB.out.by hg2 HNE.out)
  have HG2 := Hid.mk (grownBy_trans HG.out hg2)
  have HC2 := Hid.mk hC2
  have HR2 := Hid.mk (HRL.out.kept (w' := w2) (fun b hb hl => hg2.block b hl (by simp; omega)))
  clear hC2 hg2 HX HB HG HC HRL W1
  by_cases hx1 : x = 0
  · subst hx1
    go_wp2_with fail
    refine (l1Below_any cb v zs 13 w2 HC2.out).mono ?_
    rintro e w3 ⟨y, rfl, -, -, -, hC3, hg3⟩
    have hX3 := HX2.out.by hg3 hrc
    have hB3 := HB2.out.by hg3 HNE.out
    have hG3 := grownBy_trans HG2.out hg3
    have hR3 := HR2.out.kept (w' := w3) (fun b hb hl => hg3.block b hl (by simp; omega))
    have HSf := HSZ
    clear hg3 HX2 HB2 HG2 HC2 HR2
    have HXf0 := Hid.mk (hX3)
    have HBf0 := Hid.mk (hB3)
    have c0 := HBf0.out.c0
    have c1 := HBf0.out.c1
    have c2 := HBf0.out.c2
    have f0 := HBf0.out.fr
    have x0 := HXf0.out.c0
    have x1 := HXf0.out.c1
    have x2 := HXf0.out.c2
    have g0 := HXf0.out.fr
    have hrl := HXf0.out.lt
    have HBf := Hid.mk (hB3.row (gb_set w3 rb 0 (.int .i64 y)) (fun g e => by simp at e; omega))
    have HGf := Hid.mk (gy_row hG3 (gb_set w3 rb 0 (.int .i64 y)) (fun g e => by simp at e; omega))
    have HCf := Hid.mk (hC3.row (gb_set w3 rb 0 (.int .i64 y)) (fun g e => by simp at e; exact ⟨by omega, fun hz k hk => by have := HV2.out hz k hk; omega⟩))
    have HRf : Hid (Rl (w3.setCell ⟨rb, 0, none⟩ (.int .i64 y)) (newFrom (w.heap.size + 1)) l (.slice au l.length cu)) := (hR3.kept (w' := (w3.setCell ⟨rb, 0, none⟩ (.int .i64 y))) (fun b hb _ => heap_setCell_other _ _ _ _ (by show b ≠ rb; omega))).imp (fun b hb _ => hb.1)
    clear hX3 hB3 hG3 hC3 hR3 HXf0 HBf0
    go_wp2
    have hput := HBf.out.put (.int .i64 y) (.string ts) (.slice au l.length cu)
    have hgp := gy_sz3 HGf.out (Nat.le_refl _) (.int .i64 y) (.string ts) (.slice au l.length cu)
    have hcp := HCf.out.sz3 (b := w.heap.size) HNE.out (fun hz k hk => by have := HV2.out hz k hk; omega) (.int .i64 y) (.string ts) (.slice au l.length cu)
    have hrp := HRf.out.kept (w' := sz3 (w3.setCell ⟨rb, 0, none⟩ (.int .i64 y)) w.heap.size (.int .i64 y) (.string ts) (.slice au l.length cu)) (fun b hb _ => sz3_other _ _ _ _ _ _ (by unfold newFrom at hb; omega))
    unfold sz3 at hput hgp hcp hrp
    generalize ((World.setCell (w3.setCell ⟨rb, 0, none⟩ (.int .i64 y)) ⟨w.heap.size, 0, none⟩ (.int .i64 y)).setCell ⟨w.heap.size, 1, none⟩ (.string ts)).setCell ⟨w.heap.size, 2, none⟩ (.slice au l.length cu) = W at hput hgp hcp hrp ⊢
    have r0 := hput.c0
    have r1 := hput.c1
    have r2 := hput.c2
    refine bodyPost_ret (v := rx y ts (.slice au l.length cu)) ?_ rfl ⟨.node y ts l, _, rfl, HSf.out, hrp, hcp, hgp⟩
    simp [results, Tryd.results41, go_sem, r0, r1, r2]
  by_cases hx2 : x = 1
  · subst hx2
    go_wp2_with fail
    refine (l1Str_any cb w2.heap.size 5 v zs [⟨#[]⟩, ⟨#[97]⟩, ⟨#[98, 97]⟩, ⟨#[42]⟩, ⟨#[97, 98]⟩] _
      (HC2.out.grow ((Below.refl _ _).alloc (Nat.le_refl _) _)) rfl (by omega) (by omega) (heap_alloc_new w2 _) (by have := HC2.out.lt; omega)).mono ?_
    rintro e w3 ⟨y, rfl, hy, hC3, hg3⟩
    have HSf : Hid (y.size ≤ maxLen) := by
      have := (List.all_eq_true.1 (show ([⟨#[]⟩, ⟨#[97]⟩, ⟨#[98, 97]⟩, ⟨#[42]⟩, ⟨#[97, 98]⟩] : List ByteArray).all (fun y => decide (y.size ≤ maxLen)) = true by decide +kernel)) y hy
      show _ ≤ _
      simpa using this
    have A2 : Below w2.heap.size w2 (w2.alloc (.cells #[.string ⟨#[]⟩, .string ⟨#[97]⟩, .string ⟨#[98, 97]⟩, .string ⟨#[42]⟩, .string ⟨#[97, 98]⟩] 9)) := (Below.refl _ _).alloc (Nat.le_refl _) _
    have hX3 := (HX2.out.grow A2).by hg3 hrc
    have hB3 := (HB2.out.grow A2).by hg3 HNE.out
    have hG3 := grownBy_trans (gy_below HG2.out A2) hg3
    have hR3 := (HR2.out.grow A2).kept (w' := w3) (fun b hb hl => hg3.block b hl (by simp; omega))
    clear hg3 hy A2 HX2 HB2 HG2 HC2 HR2
    have HXf0 := Hid.mk (hX3)
    have HBf0 := Hid.mk (hB3)
    have c0 := HBf0.out.c0
    have c1 := HBf0.out.c1
    have c2 := HBf0.out.c2
    have f0 := HBf0.out.fr
    have x0 := HXf0.out.c0
    have x1 := HXf0.out.c1
    have x2 := HXf0.out.c2
    have g0 := HXf0.out.fr
    have hrl := HXf0.out.lt
    have HBf := Hid.mk (hB3.row (gb_set w3 rb 1 (.string y)) (fun g e => by simp at e; omega))
    have HGf := Hid.mk (gy_row hG3 (gb_set w3 rb 1 (.string y)) (fun g e => by simp at e; omega))
    have HCf := Hid.mk (hC3.row (gb_set w3 rb 1 (.string y)) (fun g e => by simp at e; exact ⟨by omega, fun hz k hk => by have := HV2.out hz k hk; omega⟩))
    have HRf : Hid (Rl (w3.setCell ⟨rb, 1, none⟩ (.string y)) (newFrom (w.heap.size + 1)) l (.slice au l.length cu)) := (hR3.kept (w' := (w3.setCell ⟨rb, 1, none⟩ (.string y))) (fun b hb _ => heap_setCell_other _ _ _ _ (by show b ≠ rb; omega))).imp (fun b hb _ => hb.1)
    clear hX3 hB3 hG3 hC3 hR3 HXf0 HBf0
    go_wp2
    have hput := HBf.out.put (.int .i64 tk) (.string y) (.slice au l.length cu)
    have hgp := gy_sz3 HGf.out (Nat.le_refl _) (.int .i64 tk) (.string y) (.slice au l.length cu)
    have hcp := HCf.out.sz3 (b := w.heap.size) HNE.out (fun hz k hk => by have := HV2.out hz k hk; omega) (.int .i64 tk) (.string y) (.slice au l.length cu)
    have hrp := HRf.out.kept (w' := sz3 (w3.setCell ⟨rb, 1, none⟩ (.string y)) w.heap.size (.int .i64 tk) (.string y) (.slice au l.length cu)) (fun b hb _ => sz3_other _ _ _ _ _ _ (by unfold newFrom at hb; omega))
    unfold sz3 at hput hgp hcp hrp
    generalize ((World.setCell (w3.setCell ⟨rb, 1, none⟩ (.string y)) ⟨w.heap.size, 0, none⟩ (.int .i64 tk)).setCell ⟨w.heap.size, 1, none⟩ (.string y)).setCell ⟨w.heap.size, 2, none⟩ (.slice au l.length cu) = W at hput hgp hcp hrp ⊢
    have r0 := hput.c0
    have r1 := hput.c1
    have r2 := hput.c2
    refine bodyPost_ret (v := rx tk y (.slice au l.length cu)) ?_ rfl ⟨.node tk y l, _, rfl, HSf.out, hrp, hcp, hgp⟩
    simp [results, Tryd.results41, go_sem, r0, r1, r2]
  by_cases hx3 : x = 2
  · subst hx3
    have hrl2 := HX2.out.lt
    have c0 := HB2.out.c0
    have c1 := HB2.out.c1
    have c2 := HB2.out.c2
    have f0 := HB2.out.fr
    have x0 := HX2.out.c0
    have x1 := HX2.out.c1
    have x2 := HX2.out.c2
    have g0 := HX2.out.fr
    have hwr : w.heap.size < w2.heap.size := HB2.out.lt
    go_wp2
    have hB3 := HB2.out.kept (w' := sz3 w2 rb (.int .i64 4) (.string ⟨#[]⟩) (.slice (some ⟨w2.heap.size, 0, none⟩) 8 8)) (sz3_other _ _ _ _ _ _ (by omega))
    have hR3 := HR2.out.kept (w' := sz3 w2 rb (.int .i64 4) (.string ⟨#[]⟩) (.slice (some ⟨w2.heap.size, 0, none⟩) 8 8)) (fun b hb _ => sz3_other _ _ _ _ _ _ (by omega))
    have hC3 := HC2.out.sz3 (b := rb) hrc (fun hz k hk => by have := HV2.out hz k hk; omega) (.int .i64 4) (.string ⟨#[]⟩) (.slice (some ⟨w2.heap.size, 0, none⟩) 8 8)
    have hG3 := gy_sz3 HG2.out (by omega) (b := rb) (.int .i64 4) (.string ⟨#[]⟩) (.slice (some ⟨w2.heap.size, 0, none⟩) 8 8)
    have hz3 := sz3_size w2 rb (.int .i64 4) (.string ⟨#[]⟩) (.slice (some ⟨w2.heap.size, 0, none⟩) 8 8)
    unfold sz3 at hB3 hR3 hC3 hG3 hz3
    generalize ((w2.setCell ⟨rb, 0, none⟩ (.int .i64 4)).setCell ⟨rb, 1, none⟩ (.string ⟨#[]⟩)).setCell ⟨rb, 2, none⟩ (.slice (some ⟨w2.heap.size, 0, none⟩) 8 8) = V1 at hB3 hR3 hC3 hG3 hz3 ⊢
    have hB4 := hB3.put (.int .i64 4) (.string ⟨#[]⟩) (.slice (some ⟨w2.heap.size, 0, none⟩) 8 8)
    have hR4 := hR3.kept (w' := sz3 V1 w.heap.size (.int .i64 4) (.string ⟨#[]⟩) (.slice (some ⟨w2.heap.size, 0, none⟩) 8 8)) (fun b hb _ => sz3_other _ _ _ _ _ _ (by omega))
    have hC4 := hC3.sz3 (b := w.heap.size) HNE.out (fun hz k hk => by have := HV2.out hz k hk; omega) (.int .i64 4) (.string ⟨#[]⟩) (.slice (some ⟨w2.heap.size, 0, none⟩) 8 8)
    have hG4 := gy_sz3 hG3 (Nat.le_refl _) (.int .i64 4) (.string ⟨#[]⟩) (.slice (some ⟨w2.heap.size, 0, none⟩) 8 8)
    have hz4 := sz3_size V1 w.heap.size (.int .i64 4) (.string ⟨#[]⟩) (.slice (some ⟨w2.heap.size, 0, none⟩) 8 8)
    unfold sz3 at hB4 hR4 hC4 hG4 hz4
    generalize ((V1.setCell ⟨w.heap.size, 0, none⟩ (.int .i64 4)).setCell ⟨w.heap.size, 1, none⟩ (.string ⟨#[]⟩)).setCell ⟨w.heap.size, 2, none⟩ (.slice (some ⟨w2.heap.size, 0, none⟩) 8 8) = V2 at hB4 hR4 hC4 hG4 hz4 ⊢
    have hzz : V2.heap.size = w2.heap.size := by omega
    have A2 : Below V2.heap.size V2 (V2.alloc (.cells #[.int .i64 tk, .string ts, .slice au l.length cu, .int .i64 tk, .string ts, .slice au l.length cu, .int .i64 tk, .string ts, .slice au l.length cu, .int .i64 tk, .string ts, .slice au l.length cu, .int .i64 tk, .string ts, .slice au l.length cu, .int .i64 tk, .string ts, .slice au l.length cu, .int .i64 tk, .string ts, .slice au l.length cu, .int .i64 tk, .string ts, .slice au l.length cu] 26)) := (Below.refl _ _).alloc (Nat.le_refl _) _
    have hbl : (V2.alloc (.cells #[.int .i64 tk, .string ts, .slice au l.length cu, .int .i64 tk, .string ts, .slice au l.length cu, .int .i64 tk, .string ts, .slice au l.length cu, .int .i64 tk, .string ts, .slice au l.length cu, .int .i64 tk, .string ts, .slice au l.length cu, .int .i64 tk, .string ts, .slice au l.length cu, .int .i64 tk, .string ts, .slice au l.length cu, .int .i64 tk, .string ts, .slice au l.length cu] 26)).heap[w2.heap.size]? = some (.cells (litCells (List.replicate 8 ((Tr.node tk ts l), .slice au l.length cu))).toArray 26 (0, 0)) := by rw [← hzz]; exact heap_alloc_new V2 _
    have hB5 := hB4.grow A2
    have hG5 := gy_below hG4 A2
    have hC5 := hC4.grow A2
    have hR5 := (hR4.grow A2).imp (C := newFrom (w.heap.size + 1)) (fun b hb _ => hb.1)
    generalize V2.alloc (.cells #[.int .i64 tk, .string ts, .slice au l.length cu, .int .i64 tk, .string ts, .slice au l.length cu, .int .i64 tk, .string ts, .slice au l.length cu, .int .i64 tk, .string ts, .slice au l.length cu, .int .i64 tk, .string ts, .slice au l.length cu, .int .i64 tk, .string ts, .slice au l.length cu, .int .i64 tk, .string ts, .slice au l.length cu, .int .i64 tk, .string ts, .slice au l.length cu] 26) = V3 at hbl hB5 hG5 hC5 hR5 ⊢
    have hlit := Rl.lit (w := V3) (B := newFrom (w.heap.size + 1)) (List.replicate 8 ((Tr.node tk ts l), .slice au l.length cu)) (by simp) (by simp) (by unfold newFrom; omega) hbl (by intro p hp; rw [List.eq_of_mem_replicate hp]; exact ⟨hR5, HSZ.out⟩)
    have r0 := hB5.c0
    have r1 := hB5.c1
    have r2 := hB5.c2
    refine bodyPost_ret (v := rx 4 ⟨#[]⟩ (.slice (some ⟨w2.heap.size, 0, none⟩) 8 8)) ?_ rfl ⟨.node 4 ⟨#[]⟩ (List.replicate 8 (Tr.node tk ts l)), _, rfl, by show (⟨#[]⟩ : ByteArray).size ≤ maxLen; decide, hlit, hC5, hG5⟩
    simp [results, Tryd.results41, go_sem, r0, r1, r2]
  by_cases hx4 : x = 3
  · subst hx4
    go_wp2_with fail
    refine (l1Below_any cb v zs 8 w2 HC2.out).mono ?_
    rintro e w3 ⟨y, rfl, hy0, hy1', -, hC3, hg3⟩
    have hy1 := hy1' (by omega)
    clear hy1'
    have HX3 := Hid.mk (HX2.out.by hg3 hrc)
    have HB3 := Hid.mk (HB2.out.by hg3 HNE.out)
    have HG3 := Hid.mk (grownBy_trans HG2.out hg3)
    have HR3 := Hid.mk ((HR2.out.kept (w' := w3) (fun b hb hl => hg3.block b hl (by simp; omega))).imp (C := fun b => w.heap.size + 1 ≤ b ∧ b ≠ rb) (fun b hb _ => by omega))
    have HC3 := Hid.mk hC3
    obtain ⟨y, rfl⟩ := Int.eq_ofNat_of_zero_le hy0
    clear hg3 hC3 HX2 HB2 HG2 HC2 HR2
    go_wp2
    go_loopw [4] (fun i wr => ∃ (k : Nat) (t : Tr) (u : Value), k ≤ 8 ∧ i = .int .i64 k ∧ Hid (Bz3 wr rb (.int .i64 t.k) (.string t.s) u) ∧ Hid (Rl wr (fun b => w.heap.size + 1 ≤ b ∧ b ≠ rb) t.l u) ∧ Hid (t.s.size ≤ maxLen) ∧ Hid (Cur wr cb v zs) ∧ Hid (w.grownBy wr (some cb)) ∧ Hid (Bz3 wr w.heap.size (.int .i64 0) (.string ⟨#[]⟩) (.slice none 0 0))) (fun i _ => (intOf i).toNat)
    case atStart => exact ⟨y, .node tk ts l, _, by omega, rfl, HX3, HR3, HSZ, HC3, HG3, HB3⟩
    case round =>
      obtain ⟨k, t, u, hk8, rfl, HX, HR, HS, HC, HG, HB⟩ := hrel
      clear HX3 HR3 HC3 HG3 HB3
      obtain ⟨a', c', rfl, -⟩ := HR.out.len
      obtain ⟨tk', htk⟩ : ∃ tk, t.k = tk := ⟨_, rfl⟩
      obtain ⟨ts', hts⟩ : ∃ ts, t.s = ts := ⟨_, rfl⟩
      obtain ⟨l', hl'⟩ : ∃ l, t.l = l := ⟨_, rfl⟩
      rw [htk, hts, hl'] at HX
      rw [hl'] at HR
      rw [hts] at HS
      clear htk hts hl' t
      have c0 := HB.out.c0
      have c1 := HB.out.c1
      have c2 := HB.out.c2
      have f0 := HB.out.fr
      have x0 := HX.out.c0
      have x1 := HX.out.c1
      have x2 := HX.out.c2
      have g0 := HX.out.fr
      have hrl := HX.out.lt
      by_cases hk : (0 : Int) < (k : Int)
      · go_wp2
        have hB3 := HB.out.kept (w' := sz3 wr rb (.int .i64 4) (.string ⟨#[]⟩) (.slice (some ⟨wr.heap.size + 1, 0, none⟩) 2 2)) (sz3_other _ _ _ _ _ _ (by omega))
        have hX3 := HX.out.put (.int .i64 4) (.string ⟨#[]⟩) (.slice (some ⟨wr.heap.size + 1, 0, none⟩) 2 2)
        have hR3 := HR.out.kept (w' := sz3 wr rb (.int .i64 4) (.string ⟨#[]⟩) (.slice (some ⟨wr.heap.size + 1, 0, none⟩) 2 2)) (fun b hb _ => sz3_other _ _ _ _ _ _ hb.2)
        have hC3 := HC.out.sz3 (b := rb) hrc (fun hz k hk => by have := HV2.out hz k hk; omega) (.int .i64 4) (.string ⟨#[]⟩) (.slice (some ⟨wr.heap.size + 1, 0, none⟩) 2 2)
        have hG3 := gy_sz3 HG.out (by omega) (b := rb) (.int .i64 4) (.string ⟨#[]⟩) (.slice (some ⟨wr.heap.size + 1, 0, none⟩) 2 2)
        have hz3 := sz3_size wr rb (.int .i64 4) (.string ⟨#[]⟩) (.slice (some ⟨wr.heap.size + 1, 0, none⟩) 2 2)
        unfold sz3 at hB3 hX3 hR3 hC3 hG3 hz3
        generalize ((wr.setCell ⟨rb, 0, none⟩ (.int .i64 4)).setCell ⟨rb, 1, none⟩ (.string ⟨#[]⟩)).setCell ⟨rb, 2, none⟩ (.slice (some ⟨wr.heap.size + 1, 0, none⟩) 2 2) = V1 at hB3 hX3 hR3 hC3 hG3 hz3 ⊢
        have b1 : Below V1.heap.size V1 (V1.alloc (.cells #[.int .i64 tk', .string ts', .slice a' l'.length c'] 26)) := (Below.refl _ _).alloc (Nat.le_refl _) _
        have b2 : Below (V1.alloc (.cells #[.int .i64 tk', .string ts', .slice a' l'.length c'] 26)).heap.size (V1.alloc (.cells #[.int .i64 tk', .string ts', .slice a' l'.length c'] 26)) ((V1.alloc (.cells #[.int .i64 tk', .string ts', .slice a' l'.length c'] 26)).alloc (.cells #[.int .i64 6, .string ⟨#[]⟩, .slice (some ⟨wr.heap.size, 0, none⟩) 1 1, .int .i64 2, .string ⟨#[]⟩, .slice none 0 0] 26)) := (Below.refl _ _).alloc (Nat.le_refl _) _
        have b3 := b1.trans (b2.mono (by simp))
        have hz4 : (V1.alloc (.cells #[.int .i64 tk', .string ts', .slice a' l'.length c'] 26)).heap.size = wr.heap.size + 1 := by simp; omega
        have e1 : ((V1.alloc (.cells #[.int .i64 tk', .string ts', .slice a' l'.length c'] 26)).alloc (.cells #[.int .i64 6, .string ⟨#[]⟩, .slice (some ⟨wr.heap.size, 0, none⟩) 1 1, .int .i64 2, .string ⟨#[]⟩, .slice none 0 0] 26)).heap[wr.heap.size]? = some (.cells (litCells [((Tr.node tk' ts' l'), .slice a' l'.length c')]).toArray 26 (0, 0)) := by
          rw [b2.block _ (by omega), ← hz3]; exact heap_alloc_new V1 _
        have e2 : ((V1.alloc (.cells #[.int .i64 tk', .string ts', .slice a' l'.length c'] 26)).alloc (.cells #[.int .i64 6, .string ⟨#[]⟩, .slice (some ⟨wr.heap.size, 0, none⟩) 1 1, .int .i64 2, .string ⟨#[]⟩, .slice none 0 0] 26)).heap[wr.heap.size + 1]? = some (.cells (litCells [((Tr.node 6 ⟨#[]⟩ [Tr.node tk' ts' l']), (.slice (some ⟨wr.heap.size, 0, none⟩) 1 1)), ((Tr.node 2 ⟨#[]⟩ []), .slice none 0 0)]).toArray 26 (0, 0)) := by
          rw [← hz4]; exact heap_alloc_new (V1.alloc (.cells #[.int .i64 tk', .string ts', .slice a' l'.length c'] 26)) _
        have HB8 := Hid.mk (hB3.grow b3)
        have HX8 := Hid.mk (hX3.grow b3)
        have hR8 := hR3.grow b3
        have HC8 := Hid.mk (hC3.grow b3)
        have HG8 := Hid.mk (gy_below hG3 b3)
        generalize (V1.alloc (.cells #[.int .i64 tk', .string ts', .slice a' l'.length c'] 26)).alloc (.cells #[.int .i64 6, .string ⟨#[]⟩, .slice (some ⟨wr.heap.size, 0, none⟩) 1 1, .int .i64 2, .string ⟨#[]⟩, .slice none 0 0] 26) = V2 at e1 e2 HB8 HX8 hR8 HC8 HG8 ⊢
        have hi1 := Rl.lit (w := V2) (B := fun b => w.heap.size + 1 ≤ b ∧ b ≠ rb) [((Tr.node tk' ts' l'), .slice a' l'.length c')] (by simp) (by simp) ⟨by omega, by omega⟩ e1 (by intro p hp; obtain rfl : p = _ := List.mem_singleton.1 hp; exact ⟨hR8, HS.out⟩)
        have hi2 := Rl.lit (w := V2) (B := fun b => w.heap.size + 1 ≤ b ∧ b ≠ rb) [((Tr.node 6 ⟨#[]⟩ [Tr.node tk' ts' l']), (.slice (some ⟨wr.heap.size, 0, none⟩) 1 1)), ((Tr.node 2 ⟨#[]⟩ []), .slice none 0 0)] (by simp) (by simp) ⟨by omega, by omega⟩ e2 (by
          intro p hp
          rcases List.mem_cons.1 hp with rfl | hp
          · exact ⟨hi1, by show (⟨#[]⟩ : ByteArray).size ≤ maxLen; decide⟩
          · obtain rfl : p = _ := List.mem_singleton.1 hp
            exact ⟨Rl.zero _ _, by show (⟨#[]⟩ : ByteArray).size ≤ maxLen; decide⟩)
        go_roundw
        case rel => exact ⟨k - 1, .node 4 ⟨#[]⟩ [Tr.node 6 ⟨#[]⟩ [Tr.node tk' ts' l'], Tr.node 2 ⟨#[]⟩ []], _, by omega, by go_num, HX8, hi2, by show (⟨#[]⟩ : ByteArray).size ≤ maxLen; decide, HC8, HG8, HB8⟩
        case measure => simp [intOf]; omega
      · have HBf := HB
        have HGf := HG
        have HCf := HC
        have HSf := HS
        have HRf : Hid (Rl wr (newFrom (w.heap.size + 1)) l' (.slice a' l'.length c')) := HR.out.imp (fun b hb _ => hb.1)
        go_wp2
        have hput := HBf.out.put (.int .i64 tk') (.string ts') (.slice a' l'.length c')
        have hgp := gy_sz3 HGf.out (Nat.le_refl _) (.int .i64 tk') (.string ts') (.slice a' l'.length c')
        have hcp := HCf.out.sz3 (b := w.heap.size) HNE.out (fun hz k hk => by have := HV2.out hz k hk; omega) (.int .i64 tk') (.string ts') (.slice a' l'.length c')
        have hrp := HRf.out.kept (w' := sz3 wr w.heap.size (.int .i64 tk') (.string ts') (.slice a' l'.length c')) (fun b hb _ => sz3_other _ _ _ _ _ _ (by unfold newFrom at hb; omega))
        unfold sz3 at hput hgp hcp hrp
        generalize ((World.setCell wr ⟨w.heap.size, 0, none⟩ (.int .i64 tk')).setCell ⟨w.heap.size, 1, none⟩ (.string ts')).setCell ⟨w.heap.size, 2, none⟩ (.slice a' l'.length c') = W at hput hgp hcp hrp ⊢
        have r0 := hput.c0
        have r1 := hput.c1
        have r2 := hput.c2
        refine bodyPost_ret (v := rx tk' ts' (.slice a' l'.length c')) ?_ rfl ⟨.node tk' ts' l', _, rfl, HSf.out, hrp, hcp, hgp⟩
        simp [results, Tryd.results41, go_sem, r0, r1, r2]
  · have hb0 : (x == 0) = false := beq_eq_false_iff_ne.2 hx1
    have hb1 : (x == 1) = false := beq_eq_false_iff_ne.2 hx2
    have hb2 : (x == 2) = false := beq_eq_false_iff_ne.2 hx3
    have hb3 : (x == 3) = false := beq_eq_false_iff_ne.2 hx4
    have HXf0 := HX2
    have HBf0 := HB2
    have c0 := HBf0.out.c0
    have c1 := HBf0.out.c1
    have c2 := HBf0.out.c2
    have f0 := HBf0.out.fr
    have x0 := HXf0.out.c0
    have x1 := HXf0.out.c1
    have x2 := HXf0.out.c2
    have g0 := HXf0.out.fr
    have hrl := HXf0.out.lt
    have HBf := HB2
    have HGf := HG2
    have HCf := HC2
    have HRf : Hid (Rl w2 (newFrom (w.heap.size + 1)) l (.slice au l.length cu)) := HR2.out.imp (fun b hb _ => hb.1)
    have HSf := HSZ
    go_wp2
    have hput := HBf.out.put (.int .i64 tk) (.string ts) (.slice au l.length cu)
    have hgp := gy_sz3 HGf.out (Nat.le_refl _) (.int .i64 tk) (.string ts) (.slice au l.length cu)
    have hcp := HCf.out.sz3 (b := w.heap.size) HNE.out (fun hz k hk => by have := HV2.out hz k hk; omega) (.int .i64 tk) (.string ts) (.slice au l.length cu)
    have hrp := HRf.out.kept (w' := sz3 w2 w.heap.size (.int .i64 tk) (.string ts) (.slice au l.length cu)) (fun b hb _ => sz3_other _ _ _ _ _ _ (by unfold newFrom at hb; omega))
    unfold sz3 at hput hgp hcp hrp
    generalize ((World.setCell w2 ⟨w.heap.size, 0, none⟩ (.int .i64 tk)).setCell ⟨w.heap.size, 1, none⟩ (.string ts)).setCell ⟨w.heap.size, 2, none⟩ (.slice au l.length cu) = W at hput hgp hcp hrp ⊢
    have r0 := hput.c0
    have r1 := hput.c1
    have r2 := hput.c2
    refine bodyPost_ret (v := rx tk ts (.slice au l.length cu)) ?_ rfl ⟨.node tk ts l, _, rfl, HSf.out, hrp, hcp, hgp⟩
    simp [results, Tryd.results41, go_sem, r0, r1, r2]
end Go.Proofs.YtapniafhcagogaaDoor
