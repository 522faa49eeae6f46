/- Drawn regular expressions. Drawn regular expressions, right or not. What the draws of chapter 1 hand over: some number; some bytes, in memory of their own. Which ones, no law asks. Draws of texts: a text of chapter 4; texts of chapter 6. Draws of chapter 4: a text; an expression, a text and a place. Slices of numbers in the laws: the same, rising, whether one is there. The law FnEnds walked. The law FnLongest walked. A drawn expression that is right, and a text. The law FnNfas walked. -/
import Derived.Test.YtapniafhcagogaaGreatDoorPk7
import Derived.Test.YtapniafhcagogaaGreatDoorRexOkI
import Derived.Test.YtapniafhcagogaaGreatDoorCur
import Derived.Test.YtapniafhcagogaaGreatDoorApp
import Derived.Test.YtapniafhcagogaaGreatDoorTake
import Derived.Test.YtapniafhcagogaaGreatDoorPk1
import Derived.Test.YtapniafhcagogaaGreatDoorPk3
import Derived.Test.YtapniafhcagogaaGreatDoorPk5
namespace Go.Proofs.YtapniafhcagogaaGreatDoor
open Go.RowKit
set_option maxRecDepth 8000

def DrC (d : Nat) : Prop := ∀ (cb : Nat) (v : Value) (zs : List Int) (w : World), Cur w cb v zs →
  Calls Tryz.prog 13 #[.pointer (some ⟨cb, 0, none⟩), .int .i64 (d : Int)] w fun e w' => ∃ t u, e = .returned (rx t.k t.s u) ∧ Dn d t ∧ Ow w' (newFrom (w.heap.size + 1)) t.l u ∧ Cur w' cb v zs ∧ w.grownBy w' (some cb)

set_option maxHeartbeats 1000000 in
theorem l3Draw_zero : DrC 0 := by
  intro cb v zs w h
  have hlt := h.lt
  have HNE : Hid (w.heap.size ≠ cb) := by show _ ≠ _; omega
  have HV : Hid (zs ≠ [] → ∀ k, v.ownBlock = some k → k ≠ w.heap.size) := fun hz k hk => by have := h.1.lt hz k hk; omega
  have HV2 : Hid (zs ≠ [] → ∀ k, v.ownBlock = some k → k < w.heap.size) := fun hz k hk => h.1.lt hz k hk
  have HCC := Hid.mk (h.grow ((Below.refl _ _).alloc (Nat.le_refl _) (.cells #[.int .i64 0, .string ⟨#[]⟩, .slice none 0 0] 26)))
  have HBB := Hid.mk (Bz3.new w (.int .i64 0) (.string ⟨#[]⟩) (.slice none 0 0))
  have HGG := Hid.mk (gy_alloc w cb (.cells #[.int .i64 0, .string ⟨#[]⟩, .slice none 0 0] 26))
  clear h
  have HC0 := HCC
  have HB0 := HBB
  have HG0 := HGG
  clear HCC HBB HGG HV2
  go_enter Tryz.func13, Tryz.ntmps13
  go_wp2_with fail
  refine (l3Leaf_any cb v zs _ HC0.out).mono ?_
  rintro e w2 ⟨lk, ls, rfl, hL, hC2, hg2⟩
  have HB2 := Hid.mk (HB0.out.by hg2 HNE.out)
  have HG2 := Hid.mk (grownBy_trans HG0.out hg2)
  have HC2 := Hid.mk hC2
  have HL := Hid.mk hL
  clear hL hC2 hg2 HB0 HC0 HG0
  have c0 := HB2.out.c0
  have c1 := HB2.out.c1
  have c2 := HB2.out.c2
  have f0 := HB2.out.fr
  go_wp2
  have hput := HB2.out.put (.int .i64 lk) (.string ls) (.slice none 0 0)
  have hgp := gy_sz3 HG2.out (Nat.le_refl _) (.int .i64 lk) (.string ls) (.slice none 0 0)
  have hcp := HC2.out.sz3 (b := w.heap.size) HNE.out HV.out (.int .i64 lk) (.string ls) (.slice none 0 0)
  unfold sz3 at hput hgp hcp
  generalize ((w2.setCell ⟨w.heap.size, 0, none⟩ (.int .i64 lk)).setCell ⟨w.heap.size, 1, none⟩ (.string ls)).setCell ⟨w.heap.size, 2, none⟩ (.slice none 0 0) = W at hput hgp hcp ⊢
  have r0 := hput.c0
  have r1 := hput.c1
  have r2 := hput.c2
  refine bodyPost_ret (v := rx lk ls (.slice none 0 0)) ?_ rfl ⟨.node lk ls [], _, rfl, Dn.leaf HL.out, Ow.none _, hcp, hgp⟩
  simp [results, Tryz.results13, go_sem, r0, r1, r2]

set_option maxHeartbeats 2000000 in
theorem l3Draw_succ (d : Nat) (hd : d ≤ 100) (ih : DrC d) : DrC (d + 1) := by
  intro cb v zs w h
  have hlt := h.lt
  have HNE : Hid (w.heap.size ≠ cb) := by show _ ≠ _; omega
  have HV : Hid (zs ≠ [] → ∀ k, v.ownBlock = some k → k ≠ w.heap.size) := fun hz k hk => by have := h.1.lt hz k hk; omega
  have HV2 : Hid (zs ≠ [] → ∀ k, v.ownBlock = some k → k < w.heap.size) := fun hz k hk => h.1.lt hz k hk
  have HCC := Hid.mk (h.grow ((Below.refl _ _).alloc (Nat.le_refl _) (.cells #[.int .i64 0, .string ⟨#[]⟩, .slice none 0 0] 26)))
  have HBB := Hid.mk (Bz3.new w (.int .i64 0) (.string ⟨#[]⟩) (.slice none 0 0))
  have HGG := Hid.mk (gy_alloc w cb (.cells #[.int .i64 0, .string ⟨#[]⟩, .slice none 0 0] 26))
  clear h
  have IH := Hid.mk ih
  obtain ⟨D, hD⟩ : ∃ D : Int, ((d + 1 : Nat) : Int) = D := ⟨_, rfl⟩
  rw [hD]
  have hD0 : (D == 0) = false := beq_eq_false_iff_ne.2 (by omega)
  have hD1 : D - 1 = (d : Int) := by omega
  have hDw : -9223372036854775808 ≤ D - 1 ∧ D - 1 ≤ 9223372036854775807 := by omega
  clear ih hD
  go_enter Tryz.func13, Tryz.ntmps13
  go_wp2_with fail
  refine (l1Once_any cb v zs 4 _ HCC.out).mono ?_
  rintro e w1 ⟨b, rfl, hC, hg⟩
  have HC0 := Hid.mk hC
  have HB0 := Hid.mk (HBB.out.by hg HNE.out)
  have HG0 := Hid.mk (grownBy_trans HGG.out hg)
  clear hC hg HCC HBB HGG
  cases b with
  | true =>
    go_wp2_with fail
    refine (l3Leaf_any cb v zs _ HC0.out).mono ?_
    rintro e w2 ⟨lk, ls, rfl, hL, hC2, hg2⟩
    have HB2 := Hid.mk (HB0.out.by hg2 HNE.out)
    have HG2 := Hid.mk (grownBy_trans HG0.out hg2)
    have HC2 := Hid.mk hC2
    have HL := Hid.mk hL
    clear hL hC2 hg2 HB0 HC0 HG0
    have c0 := HB2.out.c0
    have c1 := HB2.out.c1
    have c2 := HB2.out.c2
    have f0 := HB2.out.fr
    go_wp2
    have hput := HB2.out.put (.int .i64 lk) (.string ls) (.slice none 0 0)
    have hgp := gy_sz3 HG2.out (Nat.le_refl _) (.int .i64 lk) (.string ls) (.slice none 0 0)
    have hcp := HC2.out.sz3 (b := w.heap.size) HNE.out HV.out (.int .i64 lk) (.string ls) (.slice none 0 0)
    unfold sz3 at hput hgp hcp
    generalize ((w2.setCell ⟨w.heap.size, 0, none⟩ (.int .i64 lk)).setCell ⟨w.heap.size, 1, none⟩ (.string ls)).setCell ⟨w.heap.size, 2, none⟩ (.slice none 0 0) = W at hput hgp hcp ⊢
    have r0 := hput.c0
    have r1 := hput.c1
    have r2 := hput.c2
    refine bodyPost_ret (v := rx lk ls (.slice none 0 0)) ?_ rfl ⟨.node lk ls [], _, rfl, Dn.leaf HL.out, Ow.none _, hcp, hgp⟩
    simp [results, Tryz.results13, go_sem, r0, r1, r2]
  | false =>
    go_wp2_with fail
    refine (l1Int_any cb w1.heap.size 6 v zs [4, 4, 5, 6, 7, 8] _ (HC0.out.grow ((Below.refl _ _).alloc (Nat.le_refl _) _)) rfl (by omega) (by omega) (heap_alloc_new w1 _) (by have := HC0.out.lt; omega)).mono ?_
    rintro e w2 ⟨K, rfl, hK, hC2, hg2⟩
    have HK : Hid (K = 4 ∨ K = 5 ∨ K = 6 ∨ K = 7 ∨ K = 8) := by simp at hK; show _ ∨ _; omega
    have HB2 := Hid.mk ((HB0.out.grow ((Below.refl _ _).alloc (Nat.le_refl _) _)).by hg2 HNE.out)
    have HG2 := Hid.mk (grownBy_trans (gy_new HG0.out _) hg2)
    have HC2 := Hid.mk hC2
    clear hK hC2 hg2 HB0 HG0 HC0
    go_wp2_with fail
    have hrne : w2.heap.size ≠ cb := by have := HC2.out.lt; omega
    have hrlt : w.heap.size < w2.heap.size := HB2.out.lt
    refine (l1Below_any cb v zs 2 _ (HC2.out.grow ((Below.refl _ _).alloc (Nat.le_refl _) _))).mono ?_
    rintro e w3 ⟨y, rfl, hy0, hy1', -, hC3, hg3⟩
    have hy1 := hy1' (by omega)
    have HX3 := Hid.mk ((Bz3.new w2 (.int .i64 K) (.string ⟨#[]⟩) (.slice none 0 0)).by hg3 hrne)
    have HB3 := Hid.mk ((HB2.out.grow ((Below.refl _ _).alloc (Nat.le_refl _) _)).by hg3 HNE.out)
    have HG3 := Hid.mk (grownBy_trans (gy_new HG2.out _) hg3)
    have HC3 := Hid.mk hC3
    clear hC3 hg3 hy1' HB2 HG2 HC2
    generalize w2.heap.size = rb at *
    clear w2
    cases hrep : repB K with
    | true =>
      go_wp2_with (go_at_call 31; refine (specRepeat_any _ _).mono ?_; rintro e w' ⟨rfl, rfl⟩)
      go_loopw [8] (fun i wr => ∃ (k : Nat) (L : List Tr) (vr : Value), k ≤ 1 ∧ i = .int .i64 k ∧ L.length = k ∧ Hid (Bz3 wr rb (.int .i64 K) (.string ⟨#[]⟩) vr) ∧ Hid (Ow wr (newFrom (rb + 1)) L vr) ∧ Hid (∀ x ∈ L, Dn d x ∧ Fits K x) ∧ Hid (Cur wr cb v zs) ∧ Hid (w.grownBy wr (some cb)) ∧ Hid (Bz3 wr w.heap.size (.int .i64 0) (.string ⟨#[]⟩) (.slice none 0 0))) (fun i _ => 1 - (intOf i).toNat)
      case atStart => exact ⟨0, [], _, by omega, rfl, rfl, HX3, Ow.none _, fun x hx => absurd hx (by simp), HC3, HG3, HB3⟩
      case round =>
        obtain ⟨k, L, vr, hk, rfl, hLk, HX, HO, HL, HC, HG, HB⟩ := hrel
        have HLK := Hid.mk hLk
        clear HX3 HC3 HG3 HB3 hLk
        by_cases hkn : (k : Int) < 1
        · go_wp2_with fail
          refine (IH.out cb v zs wr HC.out).mono ?_
          rintro e w4 ⟨t, u, rfl, hDn, hO4, hC4, hg4⟩
          have HTS := Hid.mk hDn.size
          have HDN := Hid.mk hDn
          have HC4 := Hid.mk hC4
          have HX4 := Hid.mk (HX.out.by hg4 hrne)
          have HO4 := Hid.mk (HO.out.there.by hg4 (fun h => by have := h.1; unfold newFrom at this; omega))
          have HB4 := Hid.mk (HB.out.by hg4 HNE.out)
          have HG4 := Hid.mk (grownBy_trans HG.out hg4)
          have HU4 := Hid.mk hO4
          have HRM : Hid (rb < wr.heap.size) := HX.out.lt
          have hs4 := hg4.size
          obtain ⟨au, cu, rfl⟩ := hO4.value
          obtain ⟨tk, htk⟩ : ∃ tk, t.k = tk := ⟨_, rfl⟩
          obtain ⟨ts, hts⟩ : ∃ ts, t.s = ts := ⟨_, rfl⟩
          rw [htk, hts]
          have HTK := Hid.mk htk
          have HTT := Hid.mk hts
          clear hDn hO4 hC4 hg4 HX HO HB HG HC htk hts
          by_cases hne : tk = K
          · have hb1 : (tk == K) = true := beq_iff_eq.2 hne
            clear hne
            have x2 := HX4.out.c2
            have xf := HX4.out.fr
            have hr4 := HX4.out.lt
            have A1 : Below w4.heap.size w4 (w4.alloc (.cells #[.int .i64 tk, .string ts, .slice au t.l.length cu] 26)) := (Below.refl _ _).alloc (Nat.le_refl _) _
            have HC5 := Hid.mk (HC4.out.grow A1)
            have hxc : w4.heap.size ≠ cb := by have := HC4.out.lt; omega
            go_wp2_with (first | (go_at_call 31; refine (specRepeat_any _ _).mono ?_; rintro e w' ⟨rfl, rfl⟩))
            refine (l3Leaf_any cb v zs _ HC5.out).mono ?_
            rintro e w5 ⟨lk, ls, rfl, hLf, hC5, hg5⟩
            have hXB5 := (Bz3.new w4 (.int .i64 tk) (.string ts) (.slice au t.l.length cu)).by hg5 hxc
            have hX5 := (HX4.out.grow A1).by hg5 hrne
            have hB5 := (HB4.out.grow A1).by hg5 HNE.out
            have hG5 := grownBy_trans (gy_below HG4.out A1) hg5
            have hO5 := (HO4.out.grow A1).by hg5 (fun h => by have := h.1; unfold newFrom at this; omega)
            have hs5 : wr.heap.size ≤ w5.heap.size := by have := hg5.size; simp at this; omega
            have y0 := hXB5.c0
            have y1 := hXB5.c1
            have y2 := hXB5.c2
            have yf := hXB5.fr
            have y2' := hX5.c2
            have yf' := hX5.fr
            have hwl : w.heap.size < w4.heap.size := HB4.out.lt
            generalize w4.heap.size = xb at *
            have hxl := hXB5.lt
            have A2 : Below (sz3 w5 xb (.int .i64 lk) (.string ls) (.slice none 0 0)).heap.size (sz3 w5 xb (.int .i64 lk) (.string ls) (.slice none 0 0)) ((sz3 w5 xb (.int .i64 lk) (.string ls) (.slice none 0 0)).alloc (.cells #[.int .i64 lk, .string ls, .slice none 0 0] 26)) := (Below.refl _ _).alloc (Nat.le_refl _) _
            have HX7 := Hid.mk ((hX5.kept (w' := sz3 w5 xb (.int .i64 lk) (.string ls) (.slice none 0 0)) (sz3_other _ _ _ _ _ _ (by omega))).grow A2)
            have HB7 := Hid.mk ((hB5.kept (w' := sz3 w5 xb (.int .i64 lk) (.string ls) (.slice none 0 0)) (sz3_other _ _ _ _ _ _ (by omega))).grow A2)
            have HG7 := Hid.mk (gy_below (gy_sz3 hG5 (by omega) (.int .i64 lk) (.string ls) (.slice none 0 0)) A2)
            have HC7 := Hid.mk ((hC5.sz3 (b := xb) hxc (fun hz k hk => by have := HV2.out hz k hk; omega) (.int .i64 lk) (.string ls) (.slice none 0 0)).grow A2)
            have HOL := Hid.mk ((hO5.sz3 (b := xb) (fun h => by have := h.2; omega) (.int .i64 lk) (.string ls) (.slice none 0 0)).grow A2)
            have HOT : Hid (Ow ((sz3 w5 xb (.int .i64 lk) (.string ls) (.slice none 0 0)).alloc (.cells #[.int .i64 lk, .string ls, .slice none 0 0] 26)) (newFrom (wr.heap.size + 1)) (Tr.node lk ls []).l (.slice none 0 0)) := Ow.none _
            have HXB : Hid (Bz3 ((sz3 w5 xb (.int .i64 lk) (.string ls) (.slice none 0 0)).alloc (.cells #[.int .i64 lk, .string ls, .slice none 0 0] 26)) w5.heap.size (.int .i64 lk) (.string ls) (.slice none 0 0)) := by
              have := Bz3.new (sz3 w5 xb (.int .i64 lk) (.string ls) (.slice none 0 0)) (.int .i64 lk) (.string ls) (.slice none 0 0)
              rw [sz3_size] at this
              exact this
            have HCN : Hid (newFrom (rb + 1) ((sz3 w5 xb (.int .i64 lk) (.string ls) (.slice none 0 0)).alloc (.cells #[.int .i64 lk, .string ls, .slice none 0 0] 26)).heap.size) := by show _ ≤ _; simp; omega
            have HLS : Hid (ls.size ≤ maxLen) := Nat.le_trans hLf.2.2 (by decide)
            have HLF := Hid.mk hLf
            unfold sz3 at HX7 HB7 HG7 HC7 HOL HXB HOT HCN
            clear A1 A2 HX4 HB4 HG4 HC4 HO4 HU4 HC5 hXB5 hX5 hB5 hG5 hO5 hC5 hg5 hLf
            have hrM : rb < wr.heap.size := HRM.out
            go_wp2_with (first | (go_at_call 31; refine (specRepeat_any _ _).mono ?_; rintro e w' ⟨rfl, rfl⟩) | (at_builtin; refine wpList_append_any rfl _ _ rfl (fun b => newFrom (rb + 1) b ∧ b < wr.heap.size) (newFrom (wr.heap.size + 1)) (newFrom (rb + 1)) _ (.slice none 0 0) L (Tr.node lk ls []) w5.heap.size rfl HOL.out rfl HXB.out HOT.out HLS.out (fun b hb hb2 => by have := hb2.2; unfold newFrom at hb; omega) (fun b hb => hb.1) (fun b hb => by have := HRM.out; unfold newFrom at *; omega) (HCN.out) (by have := HLK.out; have := hk; omega) ?_))
            intro v6 w6 ho6 row hrow hg6
            obtain ⟨a6, c6, rfl⟩ := ho6.value
            have hX6 := HX7.out.row hg6 (fun g e => by have := (hrow g e).1; unfold newFrom at this; omega)
            have hB6 := HB7.out.row hg6 (fun g e => by have := (hrow g e).1; unfold newFrom at this; omega)
            have hG6 := gy_row HG7.out hg6 (fun g e => by have := (hrow g e).1; unfold newFrom at this; omega)
            have hC6 := HC7.out.row hg6 (fun g e => ⟨by have := (hrow g e).1; unfold newFrom at this; omega, fun hz k hk => by have := HV2.out hz k hk; have := (hrow g e).1; unfold newFrom at this; omega⟩)
            have x2' := hX6.c2
            have xf' := hX6.fr
            have HX8 := Hid.mk (hX6.put2 (.slice a6 (L ++ [(Tr.node lk ls [])]).length c6))
            have HO8 := Hid.mk (ho6.kept (w' := w6.setCell ⟨rb, 2, none⟩ (.slice a6 (L ++ [(Tr.node lk ls [])]).length c6)) (fun b hb _ => heap_setCell_other _ _ _ _ (by unfold newFrom at hb; show b ≠ rb; omega)))
            have HB8 := Hid.mk (hB6.row (gb_set w6 rb 2 (.slice a6 (L ++ [(Tr.node lk ls [])]).length c6)) (fun g e => by simp at e; omega))
            have HG8 := Hid.mk (gy_row hG6 (gb_set w6 rb 2 (.slice a6 (L ++ [(Tr.node lk ls [])]).length c6)) (fun g e => by simp at e; omega))
            have HC8 := Hid.mk (hC6.row (gb_set w6 rb 2 (.slice a6 (L ++ [(Tr.node lk ls [])]).length c6)) (fun g e => by simp at e; exact ⟨by omega, fun hz k hk => by have := HV2.out hz k hk; omega⟩))
            have HL8 : Hid (∀ x ∈ L ++ [(Tr.node lk ls [])], Dn d x ∧ Fits K x) := by
              intro x hx
              rcases List.mem_append.1 hx with hx | hx
              · exact HL.out x hx
              · obtain rfl : x = (Tr.node lk ls []) := by simpa using hx
                exact ⟨Dn.leaf HLF.out, HLF.out.fits HK.out⟩
            have hll : Hid ((L ++ [(Tr.node lk ls [])]).length = k + 1) := by show _ = _; simp [HLK.out]
            generalize L ++ [(Tr.node lk ls [])] = L8 at HX8 HO8 HB8 HG8 HC8 HL8 hll ⊢
            clear ho6 hrow hg6 hX6 hB6 hG6 hC6 HX7 HB7 HG7 HC7 HOL HXB HOT HL
            go_wp2
            go_roundw
            case rel => exact ⟨k + 1, L8, _, by omega, by go_num, hll.out, HX8, HO8, HL8, HC8, HG8, HB8⟩
            case measure => simp [intOf]; omega
          · cases hb2 : repB tk with
            | true =>
              have hb1 : (tk == K) = false := beq_eq_false_iff_ne.2 hne
              have x2 := HX4.out.c2
              have xf := HX4.out.fr
              have hr4 := HX4.out.lt
              have A1 : Below w4.heap.size w4 (w4.alloc (.cells #[.int .i64 tk, .string ts, .slice au t.l.length cu] 26)) := (Below.refl _ _).alloc (Nat.le_refl _) _
              have HC5 := Hid.mk (HC4.out.grow A1)
              have hxc : w4.heap.size ≠ cb := by have := HC4.out.lt; omega
              go_wp2_with (first | (go_at_call 31; refine (specRepeat_any _ _).mono ?_; rintro e w' ⟨rfl, rfl⟩))
              refine (l3Leaf_any cb v zs _ HC5.out).mono ?_
              rintro e w5 ⟨lk, ls, rfl, hLf, hC5, hg5⟩
              have hXB5 := (Bz3.new w4 (.int .i64 tk) (.string ts) (.slice au t.l.length cu)).by hg5 hxc
              have hX5 := (HX4.out.grow A1).by hg5 hrne
              have hB5 := (HB4.out.grow A1).by hg5 HNE.out
              have hG5 := grownBy_trans (gy_below HG4.out A1) hg5
              have hO5 := (HO4.out.grow A1).by hg5 (fun h => by have := h.1; unfold newFrom at this; omega)
              have hs5 : wr.heap.size ≤ w5.heap.size := by have := hg5.size; simp at this; omega
              have y0 := hXB5.c0
              have y1 := hXB5.c1
              have y2 := hXB5.c2
              have yf := hXB5.fr
              have y2' := hX5.c2
              have yf' := hX5.fr
              have hwl : w.heap.size < w4.heap.size := HB4.out.lt
              generalize w4.heap.size = xb at *
              have hxl := hXB5.lt
              have A2 : Below (sz3 w5 xb (.int .i64 lk) (.string ls) (.slice none 0 0)).heap.size (sz3 w5 xb (.int .i64 lk) (.string ls) (.slice none 0 0)) ((sz3 w5 xb (.int .i64 lk) (.string ls) (.slice none 0 0)).alloc (.cells #[.int .i64 lk, .string ls, .slice none 0 0] 26)) := (Below.refl _ _).alloc (Nat.le_refl _) _
              have HX7 := Hid.mk ((hX5.kept (w' := sz3 w5 xb (.int .i64 lk) (.string ls) (.slice none 0 0)) (sz3_other _ _ _ _ _ _ (by omega))).grow A2)
              have HB7 := Hid.mk ((hB5.kept (w' := sz3 w5 xb (.int .i64 lk) (.string ls) (.slice none 0 0)) (sz3_other _ _ _ _ _ _ (by omega))).grow A2)
              have HG7 := Hid.mk (gy_below (gy_sz3 hG5 (by omega) (.int .i64 lk) (.string ls) (.slice none 0 0)) A2)
              have HC7 := Hid.mk ((hC5.sz3 (b := xb) hxc (fun hz k hk => by have := HV2.out hz k hk; omega) (.int .i64 lk) (.string ls) (.slice none 0 0)).grow A2)
              have HOL := Hid.mk ((hO5.sz3 (b := xb) (fun h => by have := h.2; omega) (.int .i64 lk) (.string ls) (.slice none 0 0)).grow A2)
              have HOT : Hid (Ow ((sz3 w5 xb (.int .i64 lk) (.string ls) (.slice none 0 0)).alloc (.cells #[.int .i64 lk, .string ls, .slice none 0 0] 26)) (newFrom (wr.heap.size + 1)) (Tr.node lk ls []).l (.slice none 0 0)) := Ow.none _
              have HXB : Hid (Bz3 ((sz3 w5 xb (.int .i64 lk) (.string ls) (.slice none 0 0)).alloc (.cells #[.int .i64 lk, .string ls, .slice none 0 0] 26)) w5.heap.size (.int .i64 lk) (.string ls) (.slice none 0 0)) := by
                have := Bz3.new (sz3 w5 xb (.int .i64 lk) (.string ls) (.slice none 0 0)) (.int .i64 lk) (.string ls) (.slice none 0 0)
                rw [sz3_size] at this
                exact this
              have HCN : Hid (newFrom (rb + 1) ((sz3 w5 xb (.int .i64 lk) (.string ls) (.slice none 0 0)).alloc (.cells #[.int .i64 lk, .string ls, .slice none 0 0] 26)).heap.size) := by show _ ≤ _; simp; omega
              have HLS : Hid (ls.size ≤ maxLen) := Nat.le_trans hLf.2.2 (by decide)
              have HLF := Hid.mk hLf
              unfold sz3 at HX7 HB7 HG7 HC7 HOL HXB HOT HCN
              clear A1 A2 HX4 HB4 HG4 HC4 HO4 HU4 HC5 hXB5 hX5 hB5 hG5 hO5 hC5 hg5 hLf
              have hrM : rb < wr.heap.size := HRM.out
              go_wp2_with (first | (go_at_call 31; refine (specRepeat_any _ _).mono ?_; rintro e w' ⟨rfl, rfl⟩) | (at_builtin; refine wpList_append_any rfl _ _ rfl (fun b => newFrom (rb + 1) b ∧ b < wr.heap.size) (newFrom (wr.heap.size + 1)) (newFrom (rb + 1)) _ (.slice none 0 0) L (Tr.node lk ls []) w5.heap.size rfl HOL.out rfl HXB.out HOT.out HLS.out (fun b hb hb2 => by have := hb2.2; unfold newFrom at hb; omega) (fun b hb => hb.1) (fun b hb => by have := HRM.out; unfold newFrom at *; omega) (HCN.out) (by have := HLK.out; have := hk; omega) ?_))
              intro v6 w6 ho6 row hrow hg6
              obtain ⟨a6, c6, rfl⟩ := ho6.value
              have hX6 := HX7.out.row hg6 (fun g e => by have := (hrow g e).1; unfold newFrom at this; omega)
              have hB6 := HB7.out.row hg6 (fun g e => by have := (hrow g e).1; unfold newFrom at this; omega)
              have hG6 := gy_row HG7.out hg6 (fun g e => by have := (hrow g e).1; unfold newFrom at this; omega)
              have hC6 := HC7.out.row hg6 (fun g e => ⟨by have := (hrow g e).1; unfold newFrom at this; omega, fun hz k hk => by have := HV2.out hz k hk; have := (hrow g e).1; unfold newFrom at this; omega⟩)
              have x2' := hX6.c2
              have xf' := hX6.fr
              have HX8 := Hid.mk (hX6.put2 (.slice a6 (L ++ [(Tr.node lk ls [])]).length c6))
              have HO8 := Hid.mk (ho6.kept (w' := w6.setCell ⟨rb, 2, none⟩ (.slice a6 (L ++ [(Tr.node lk ls [])]).length c6)) (fun b hb _ => heap_setCell_other _ _ _ _ (by unfold newFrom at hb; show b ≠ rb; omega)))
              have HB8 := Hid.mk (hB6.row (gb_set w6 rb 2 (.slice a6 (L ++ [(Tr.node lk ls [])]).length c6)) (fun g e => by simp at e; omega))
              have HG8 := Hid.mk (gy_row hG6 (gb_set w6 rb 2 (.slice a6 (L ++ [(Tr.node lk ls [])]).length c6)) (fun g e => by simp at e; omega))
              have HC8 := Hid.mk (hC6.row (gb_set w6 rb 2 (.slice a6 (L ++ [(Tr.node lk ls [])]).length c6)) (fun g e => by simp at e; exact ⟨by omega, fun hz k hk => by have := HV2.out hz k hk; omega⟩))
              have HL8 : Hid (∀ x ∈ L ++ [(Tr.node lk ls [])], Dn d x ∧ Fits K x) := by
                intro x hx
                rcases List.mem_append.1 hx with hx | hx
                · exact HL.out x hx
                · obtain rfl : x = (Tr.node lk ls []) := by simpa using hx
                  exact ⟨Dn.leaf HLF.out, HLF.out.fits HK.out⟩
              have hll : Hid ((L ++ [(Tr.node lk ls [])]).length = k + 1) := by show _ = _; simp [HLK.out]
              generalize L ++ [(Tr.node lk ls [])] = L8 at HX8 HO8 HB8 HG8 HC8 HL8 hll ⊢
              clear ho6 hrow hg6 hX6 hB6 hG6 hC6 HX7 HB7 HG7 HC7 HOL HXB HOT HL
              go_wp2
              go_roundw
              case rel => exact ⟨k + 1, L8, _, by omega, by go_num, hll.out, HX8, HO8, HL8, HC8, HG8, HB8⟩
              case measure => simp [intOf]; omega
            | false =>
              have hb1 : (tk == K) = false := beq_eq_false_iff_ne.2 hne
              have x2 := HX4.out.c2
              have xf := HX4.out.fr
              have hr4 := HX4.out.lt
              have A1 : Below w4.heap.size w4 ((w4.alloc (.cells #[.int .i64 tk, .string ts, .slice au t.l.length cu] 26)).alloc (.cells #[.int .i64 tk, .string ts, .slice au t.l.length cu] 26)) := ((Below.refl _ _).alloc (Nat.le_refl _) _).alloc (by simp) _
              have HX7 := Hid.mk (HX4.out.grow A1)
              have HB7 := Hid.mk (HB4.out.grow A1)
              have HG7 := Hid.mk (gy_below HG4.out A1)
              have HC7 := Hid.mk (HC4.out.grow A1)
              have HOL := Hid.mk (HO4.out.grow A1)
              have HOT := Hid.mk (HU4.out.grow A1)
              have HCN : Hid (newFrom (rb + 1) ((w4.alloc (.cells #[.int .i64 tk, .string ts, .slice au t.l.length cu] 26)).alloc (.cells #[.int .i64 tk, .string ts, .slice au t.l.length cu] 26)).heap.size) := by show _ ≤ _; simp; omega
              have HXB : Hid (Bz3 ((w4.alloc (.cells #[.int .i64 tk, .string ts, .slice au t.l.length cu] 26)).alloc (.cells #[.int .i64 tk, .string ts, .slice au t.l.length cu] 26)) (w4.heap.size + 1) (.int .i64 t.k) (.string t.s) (.slice au t.l.length cu)) := by
                have := Bz3.new (w4.alloc (.cells #[.int .i64 tk, .string ts, .slice au t.l.length cu] 26)) (.int .i64 tk) (.string ts) (.slice au t.l.length cu)
                rw [HTK.out, HTT.out]
                have e : (w4.alloc (.cells #[.int .i64 tk, .string ts, .slice au t.l.length cu] 26)).heap.size = w4.heap.size + 1 := by simp
                rw [e] at this
                exact this
              clear A1 HX4 HB4 HG4 HC4 HO4 HU4
              have hrM : rb < wr.heap.size := HRM.out
              go_wp2_with (first | (go_at_call 31; refine (specRepeat_any _ _).mono ?_; rintro e w' ⟨rfl, rfl⟩) | (at_builtin; refine wpList_append_any rfl _ _ rfl (fun b => newFrom (rb + 1) b ∧ b < wr.heap.size) (newFrom (wr.heap.size + 1)) (newFrom (rb + 1)) _ (.slice au t.l.length cu) L t (w4.heap.size + 1) rfl HOL.out rfl HXB.out HOT.out HTS.out (fun b hb hb2 => by have := hb2.2; unfold newFrom at hb; omega) (fun b hb => hb.1) (fun b hb => by have := HRM.out; unfold newFrom at *; omega) (HCN.out) (by have := HLK.out; have := hk; omega) ?_))
              intro v6 w6 ho6 row hrow hg6
              obtain ⟨a6, c6, rfl⟩ := ho6.value
              have hX6 := HX7.out.row hg6 (fun g e => by have := (hrow g e).1; unfold newFrom at this; omega)
              have hB6 := HB7.out.row hg6 (fun g e => by have := (hrow g e).1; unfold newFrom at this; omega)
              have hG6 := gy_row HG7.out hg6 (fun g e => by have := (hrow g e).1; unfold newFrom at this; omega)
              have hC6 := HC7.out.row hg6 (fun g e => ⟨by have := (hrow g e).1; unfold newFrom at this; omega, fun hz k hk => by have := HV2.out hz k hk; have := (hrow g e).1; unfold newFrom at this; omega⟩)
              have x2' := hX6.c2
              have xf' := hX6.fr
              have HX8 := Hid.mk (hX6.put2 (.slice a6 (L ++ [t]).length c6))
              have HO8 := Hid.mk (ho6.kept (w' := w6.setCell ⟨rb, 2, none⟩ (.slice a6 (L ++ [t]).length c6)) (fun b hb _ => heap_setCell_other _ _ _ _ (by unfold newFrom at hb; show b ≠ rb; omega)))
              have HB8 := Hid.mk (hB6.row (gb_set w6 rb 2 (.slice a6 (L ++ [t]).length c6)) (fun g e => by simp at e; omega))
              have HG8 := Hid.mk (gy_row hG6 (gb_set w6 rb 2 (.slice a6 (L ++ [t]).length c6)) (fun g e => by simp at e; omega))
              have HC8 := Hid.mk (hC6.row (gb_set w6 rb 2 (.slice a6 (L ++ [t]).length c6)) (fun g e => by simp at e; exact ⟨by omega, fun hz k hk => by have := HV2.out hz k hk; omega⟩))
              have HL8 : Hid (∀ x ∈ L ++ [t], Dn d x ∧ Fits K x) := by
                intro x hx
                rcases List.mem_append.1 hx with hx | hx
                · exact HL.out x hx
                · obtain rfl : x = t := by simpa using hx
                  exact ⟨HDN.out, ⟨by rw [HTK.out]; exact hne, fun _ => by rw [HTK.out]; exact hb2⟩⟩
              have hll : Hid ((L ++ [t]).length = k + 1) := by show _ = _; simp [HLK.out]
              generalize L ++ [t] = L8 at HX8 HO8 HB8 HG8 HC8 HL8 hll ⊢
              clear ho6 hrow hg6 hX6 hB6 hG6 hC6 HX7 HB7 HG7 HC7 HOL HXB HOT HL
              go_wp2
              go_roundw
              case rel => exact ⟨k + 1, L8, _, by omega, by go_num, hll.out, HX8, HO8, HL8, HC8, HG8, HB8⟩
              case measure => simp [intOf]; omega
        · have hkk : 1 ≤ k := by omega
          have HDN : Hid (Dn (d + 1) (.node K ⟨#[]⟩ L)) := Dn.node HK.out (fun h => by have := HLK.out; first | omega | (rw [hrep] at h; cases h)) (fun h => by have := HLK.out; first | omega | (rw [hrep] at h; cases h)) (by have := HLK.out; omega) HL.out
          obtain ⟨ar, cr, rfl⟩ := HO.out.value
          have x0 := HX.out.c0
          have x1 := HX.out.c1
          have x2 := HX.out.c2
          have c0 := HB.out.c0
          have c1 := HB.out.c1
          have c2 := HB.out.c2
          have f0 := HB.out.fr
          clear HL
          go_wp2
          have hput := HB.out.put (.int .i64 K) (.string ⟨#[]⟩) (.slice ar L.length cr)
          have hgp := gy_sz3 HG.out (Nat.le_refl _) (.int .i64 K) (.string ⟨#[]⟩) (.slice ar L.length cr)
          have hcp := HC.out.sz3 (b := w.heap.size) HNE.out HV.out (.int .i64 K) (.string ⟨#[]⟩) (.slice ar L.length cr)
          have hop := HO.out.sz3 (b := w.heap.size) (by unfold newFrom; omega) (.int .i64 K) (.string ⟨#[]⟩) (.slice ar L.length cr)
          unfold sz3 at hput hgp hcp hop
          generalize ((wr.setCell ⟨w.heap.size, 0, none⟩ (.int .i64 K)).setCell ⟨w.heap.size, 1, none⟩ (.string ⟨#[]⟩)).setCell ⟨w.heap.size, 2, none⟩ (.slice ar L.length cr) = W at hput hgp hcp hop ⊢
          have r0 := hput.c0
          have r1 := hput.c1
          have r2 := hput.c2
          refine bodyPost_ret (v := rx K ⟨#[]⟩ (.slice ar L.length cr)) ?_ rfl ⟨.node K ⟨#[]⟩ L, _, rfl, HDN.out, hop.mono (fun b hb => by unfold newFrom at *; omega), hcp, hgp⟩
          simp [results, Tryz.results13, go_sem, r0, r1, r2]
    | false =>
      go_wp2_with (go_at_call 31; refine (specRepeat_any _ _).mono ?_; rintro e w' ⟨rfl, rfl⟩)
      go_loopw [8] (fun i wr => ∃ (k : Nat) (L : List Tr) (vr : Value), k ≤ (2 + y).toNat ∧ i = .int .i64 k ∧ L.length = k ∧ Hid (Bz3 wr rb (.int .i64 K) (.string ⟨#[]⟩) vr) ∧ Hid (Ow wr (newFrom (rb + 1)) L vr) ∧ Hid (∀ x ∈ L, Dn d x ∧ Fits K x) ∧ Hid (Cur wr cb v zs) ∧ Hid (w.grownBy wr (some cb)) ∧ Hid (Bz3 wr w.heap.size (.int .i64 0) (.string ⟨#[]⟩) (.slice none 0 0))) (fun i _ => (2 + y).toNat - (intOf i).toNat)
      case atStart => exact ⟨0, [], _, by omega, rfl, rfl, HX3, Ow.none _, fun x hx => absurd hx (by simp), HC3, HG3, HB3⟩
      case round =>
        obtain ⟨k, L, vr, hk, rfl, hLk, HX, HO, HL, HC, HG, HB⟩ := hrel
        have HLK := Hid.mk hLk
        clear HX3 HC3 HG3 HB3 hLk
        by_cases hkn : (k : Int) < (2 + y)
        · go_wp2_with fail
          refine (IH.out cb v zs wr HC.out).mono ?_
          rintro e w4 ⟨t, u, rfl, hDn, hO4, hC4, hg4⟩
          have HTS := Hid.mk hDn.size
          have HDN := Hid.mk hDn
          have HC4 := Hid.mk hC4
          have HX4 := Hid.mk (HX.out.by hg4 hrne)
          have HO4 := Hid.mk (HO.out.there.by hg4 (fun h => by have := h.1; unfold newFrom at this; omega))
          have HB4 := Hid.mk (HB.out.by hg4 HNE.out)
          have HG4 := Hid.mk (grownBy_trans HG.out hg4)
          have HU4 := Hid.mk hO4
          have HRM : Hid (rb < wr.heap.size) := HX.out.lt
          have hs4 := hg4.size
          obtain ⟨au, cu, rfl⟩ := hO4.value
          obtain ⟨tk, htk⟩ : ∃ tk, t.k = tk := ⟨_, rfl⟩
          obtain ⟨ts, hts⟩ : ∃ ts, t.s = ts := ⟨_, rfl⟩
          rw [htk, hts]
          have HTK := Hid.mk htk
          have HTT := Hid.mk hts
          clear hDn hO4 hC4 hg4 HX HO HB HG HC htk hts
          by_cases hne : tk = K
          · have hb1 : (tk == K) = true := beq_iff_eq.2 hne
            clear hne
            have x2 := HX4.out.c2
            have xf := HX4.out.fr
            have hr4 := HX4.out.lt
            have A1 : Below w4.heap.size w4 (w4.alloc (.cells #[.int .i64 tk, .string ts, .slice au t.l.length cu] 26)) := (Below.refl _ _).alloc (Nat.le_refl _) _
            have HC5 := Hid.mk (HC4.out.grow A1)
            have hxc : w4.heap.size ≠ cb := by have := HC4.out.lt; omega
            go_wp2_with (first | (go_at_call 31; refine (specRepeat_any _ _).mono ?_; rintro e w' ⟨rfl, rfl⟩))
            refine (l3Leaf_any cb v zs _ HC5.out).mono ?_
            rintro e w5 ⟨lk, ls, rfl, hLf, hC5, hg5⟩
            have hXB5 := (Bz3.new w4 (.int .i64 tk) (.string ts) (.slice au t.l.length cu)).by hg5 hxc
            have hX5 := (HX4.out.grow A1).by hg5 hrne
            have hB5 := (HB4.out.grow A1).by hg5 HNE.out
            have hG5 := grownBy_trans (gy_below HG4.out A1) hg5
            have hO5 := (HO4.out.grow A1).by hg5 (fun h => by have := h.1; unfold newFrom at this; omega)
            have hs5 : wr.heap.size ≤ w5.heap.size := by have := hg5.size; simp at this; omega
            have y0 := hXB5.c0
            have y1 := hXB5.c1
            have y2 := hXB5.c2
            have yf := hXB5.fr
            have y2' := hX5.c2
            have yf' := hX5.fr
            have hwl : w.heap.size < w4.heap.size := HB4.out.lt
            generalize w4.heap.size = xb at *
            have hxl := hXB5.lt
            have A2 : Below (sz3 w5 xb (.int .i64 lk) (.string ls) (.slice none 0 0)).heap.size (sz3 w5 xb (.int .i64 lk) (.string ls) (.slice none 0 0)) ((sz3 w5 xb (.int .i64 lk) (.string ls) (.slice none 0 0)).alloc (.cells #[.int .i64 lk, .string ls, .slice none 0 0] 26)) := (Below.refl _ _).alloc (Nat.le_refl _) _
            have HX7 := Hid.mk ((hX5.kept (w' := sz3 w5 xb (.int .i64 lk) (.string ls) (.slice none 0 0)) (sz3_other _ _ _ _ _ _ (by omega))).grow A2)
            have HB7 := Hid.mk ((hB5.kept (w' := sz3 w5 xb (.int .i64 lk) (.string ls) (.slice none 0 0)) (sz3_other _ _ _ _ _ _ (by omega))).grow A2)
            have HG7 := Hid.mk (gy_below (gy_sz3 hG5 (by omega) (.int .i64 lk) (.string ls) (.slice none 0 0)) A2)
            have HC7 := Hid.mk ((hC5.sz3 (b := xb) hxc (fun hz k hk => by have := HV2.out hz k hk; omega) (.int .i64 lk) (.string ls) (.slice none 0 0)).grow A2)
            have HOL := Hid.mk ((hO5.sz3 (b := xb) (fun h => by have := h.2; omega) (.int .i64 lk) (.string ls) (.slice none 0 0)).grow A2)
            have HOT : Hid (Ow ((sz3 w5 xb (.int .i64 lk) (.string ls) (.slice none 0 0)).alloc (.cells #[.int .i64 lk, .string ls, .slice none 0 0] 26)) (newFrom (wr.heap.size + 1)) (Tr.node lk ls []).l (.slice none 0 0)) := Ow.none _
            have HXB : Hid (Bz3 ((sz3 w5 xb (.int .i64 lk) (.string ls) (.slice none 0 0)).alloc (.cells #[.int .i64 lk, .string ls, .slice none 0 0] 26)) w5.heap.size (.int .i64 lk) (.string ls) (.slice none 0 0)) := by
              have := Bz3.new (sz3 w5 xb (.int .i64 lk) (.string ls) (.slice none 0 0)) (.int .i64 lk) (.string ls) (.slice none 0 0)
              rw [sz3_size] at this
              exact this
            have HCN : Hid (newFrom (rb + 1) ((sz3 w5 xb (.int .i64 lk) (.string ls) (.slice none 0 0)).alloc (.cells #[.int .i64 lk, .string ls, .slice none 0 0] 26)).heap.size) := by show _ ≤ _; simp; omega
            have HLS : Hid (ls.size ≤ maxLen) := Nat.le_trans hLf.2.2 (by decide)
            have HLF := Hid.mk hLf
            unfold sz3 at HX7 HB7 HG7 HC7 HOL HXB HOT HCN
            clear A1 A2 HX4 HB4 HG4 HC4 HO4 HU4 HC5 hXB5 hX5 hB5 hG5 hO5 hC5 hg5 hLf
            have hrM : rb < wr.heap.size := HRM.out
            go_wp2_with (first | (go_at_call 31; refine (specRepeat_any _ _).mono ?_; rintro e w' ⟨rfl, rfl⟩) | (at_builtin; refine wpList_append_any rfl _ _ rfl (fun b => newFrom (rb + 1) b ∧ b < wr.heap.size) (newFrom (wr.heap.size + 1)) (newFrom (rb + 1)) _ (.slice none 0 0) L (Tr.node lk ls []) w5.heap.size rfl HOL.out rfl HXB.out HOT.out HLS.out (fun b hb hb2 => by have := hb2.2; unfold newFrom at hb; omega) (fun b hb => hb.1) (fun b hb => by have := HRM.out; unfold newFrom at *; omega) (HCN.out) (by have := HLK.out; have := hk; omega) ?_))
            intro v6 w6 ho6 row hrow hg6
            obtain ⟨a6, c6, rfl⟩ := ho6.value
            have hX6 := HX7.out.row hg6 (fun g e => by have := (hrow g e).1; unfold newFrom at this; omega)
            have hB6 := HB7.out.row hg6 (fun g e => by have := (hrow g e).1; unfold newFrom at this; omega)
            have hG6 := gy_row HG7.out hg6 (fun g e => by have := (hrow g e).1; unfold newFrom at this; omega)
            have hC6 := HC7.out.row hg6 (fun g e => ⟨by have := (hrow g e).1; unfold newFrom at this; omega, fun hz k hk => by have := HV2.out hz k hk; have := (hrow g e).1; unfold newFrom at this; omega⟩)
            have x2' := hX6.c2
            have xf' := hX6.fr
            have HX8 := Hid.mk (hX6.put2 (.slice a6 (L ++ [(Tr.node lk ls [])]).length c6))
            have HO8 := Hid.mk (ho6.kept (w' := w6.setCell ⟨rb, 2, none⟩ (.slice a6 (L ++ [(Tr.node lk ls [])]).length c6)) (fun b hb _ => heap_setCell_other _ _ _ _ (by unfold newFrom at hb; show b ≠ rb; omega)))
            have HB8 := Hid.mk (hB6.row (gb_set w6 rb 2 (.slice a6 (L ++ [(Tr.node lk ls [])]).length c6)) (fun g e => by simp at e; omega))
            have HG8 := Hid.mk (gy_row hG6 (gb_set w6 rb 2 (.slice a6 (L ++ [(Tr.node lk ls [])]).length c6)) (fun g e => by simp at e; omega))
            have HC8 := Hid.mk (hC6.row (gb_set w6 rb 2 (.slice a6 (L ++ [(Tr.node lk ls [])]).length c6)) (fun g e => by simp at e; exact ⟨by omega, fun hz k hk => by have := HV2.out hz k hk; omega⟩))
            have HL8 : Hid (∀ x ∈ L ++ [(Tr.node lk ls [])], Dn d x ∧ Fits K x) := by
              intro x hx
              rcases List.mem_append.1 hx with hx | hx
              · exact HL.out x hx
              · obtain rfl : x = (Tr.node lk ls []) := by simpa using hx
                exact ⟨Dn.leaf HLF.out, HLF.out.fits HK.out⟩
            have hll : Hid ((L ++ [(Tr.node lk ls [])]).length = k + 1) := by show _ = _; simp [HLK.out]
            generalize L ++ [(Tr.node lk ls [])] = L8 at HX8 HO8 HB8 HG8 HC8 HL8 hll ⊢
            clear ho6 hrow hg6 hX6 hB6 hG6 hC6 HX7 HB7 HG7 HC7 HOL HXB HOT HL
            go_wp2
            go_roundw
            case rel => exact ⟨k + 1, L8, _, by omega, by go_num, hll.out, HX8, HO8, HL8, HC8, HG8, HB8⟩
            case measure => simp [intOf]; omega
          · skip
            have hb1 : (tk == K) = false := beq_eq_false_iff_ne.2 hne
            have x2 := HX4.out.c2
            have xf := HX4.out.fr
            have hr4 := HX4.out.lt
            have A1 : Below w4.heap.size w4 ((w4.alloc (.cells #[.int .i64 tk, .string ts, .slice au t.l.length cu] 26)).alloc (.cells #[.int .i64 tk, .string ts, .slice au t.l.length cu] 26)) := ((Below.refl _ _).alloc (Nat.le_refl _) _).alloc (by simp) _
            have HX7 := Hid.mk (HX4.out.grow A1)
            have HB7 := Hid.mk (HB4.out.grow A1)
            have HG7 := Hid.mk (gy_below HG4.out A1)
            have HC7 := Hid.mk (HC4.out.grow A1)
            have HOL := Hid.mk (HO4.out.grow A1)
            have HOT := Hid.mk (HU4.out.grow A1)
            have HCN : Hid (newFrom (rb + 1) ((w4.alloc (.cells #[.int .i64 tk, .string ts, .slice au t.l.length cu] 26)).alloc (.cells #[.int .i64 tk, .string ts, .slice au t.l.length cu] 26)).heap.size) := by show _ ≤ _; simp; omega
            have HXB : Hid (Bz3 ((w4.alloc (.cells #[.int .i64 tk, .string ts, .slice au t.l.length cu] 26)).alloc (.cells #[.int .i64 tk, .string ts, .slice au t.l.length cu] 26)) (w4.heap.size + 1) (.int .i64 t.k) (.string t.s) (.slice au t.l.length cu)) := by
              have := Bz3.new (w4.alloc (.cells #[.int .i64 tk, .string ts, .slice au t.l.length cu] 26)) (.int .i64 tk) (.string ts) (.slice au t.l.length cu)
              rw [HTK.out, HTT.out]
              have e : (w4.alloc (.cells #[.int .i64 tk, .string ts, .slice au t.l.length cu] 26)).heap.size = w4.heap.size + 1 := by simp
              rw [e] at this
              exact this
            clear A1 HX4 HB4 HG4 HC4 HO4 HU4
            have hrM : rb < wr.heap.size := HRM.out
            go_wp2_with (first | (go_at_call 31; refine (specRepeat_any _ _).mono ?_; rintro e w' ⟨rfl, rfl⟩) | (at_builtin; refine wpList_append_any rfl _ _ rfl (fun b => newFrom (rb + 1) b ∧ b < wr.heap.size) (newFrom (wr.heap.size + 1)) (newFrom (rb + 1)) _ (.slice au t.l.length cu) L t (w4.heap.size + 1) rfl HOL.out rfl HXB.out HOT.out HTS.out (fun b hb hb2 => by have := hb2.2; unfold newFrom at hb; omega) (fun b hb => hb.1) (fun b hb => by have := HRM.out; unfold newFrom at *; omega) (HCN.out) (by have := HLK.out; have := hk; omega) ?_))
            intro v6 w6 ho6 row hrow hg6
            obtain ⟨a6, c6, rfl⟩ := ho6.value
            have hX6 := HX7.out.row hg6 (fun g e => by have := (hrow g e).1; unfold newFrom at this; omega)
            have hB6 := HB7.out.row hg6 (fun g e => by have := (hrow g e).1; unfold newFrom at this; omega)
            have hG6 := gy_row HG7.out hg6 (fun g e => by have := (hrow g e).1; unfold newFrom at this; omega)
            have hC6 := HC7.out.row hg6 (fun g e => ⟨by have := (hrow g e).1; unfold newFrom at this; omega, fun hz k hk => by have := HV2.out hz k hk; have := (hrow g e).1; unfold newFrom at this; omega⟩)
            have x2' := hX6.c2
            have xf' := hX6.fr
            have HX8 := Hid.mk (hX6.put2 (.slice a6 (L ++ [t]).length c6))
            have HO8 := Hid.mk (ho6.kept (w' := w6.setCell ⟨rb, 2, none⟩ (.slice a6 (L ++ [t]).length c6)) (fun b hb _ => heap_setCell_other _ _ _ _ (by unfold newFrom at hb; show b ≠ rb; omega)))
            have HB8 := Hid.mk (hB6.row (gb_set w6 rb 2 (.slice a6 (L ++ [t]).length c6)) (fun g e => by simp at e; omega))
            have HG8 := Hid.mk (gy_row hG6 (gb_set w6 rb 2 (.slice a6 (L ++ [t]).length c6)) (fun g e => by simp at e; omega))
            have HC8 := Hid.mk (hC6.row (gb_set w6 rb 2 (.slice a6 (L ++ [t]).length c6)) (fun g e => by simp at e; exact ⟨by omega, fun hz k hk => by have := HV2.out hz k hk; omega⟩))
            have HL8 : Hid (∀ x ∈ L ++ [t], Dn d x ∧ Fits K x) := by
              intro x hx
              rcases List.mem_append.1 hx with hx | hx
              · exact HL.out x hx
              · obtain rfl : x = t := by simpa using hx
                exact ⟨HDN.out, ⟨by rw [HTK.out]; exact hne, fun h => by rw [hrep] at h; cases h⟩⟩
            have hll : Hid ((L ++ [t]).length = k + 1) := by show _ = _; simp [HLK.out]
            generalize L ++ [t] = L8 at HX8 HO8 HB8 HG8 HC8 HL8 hll ⊢
            clear ho6 hrow hg6 hX6 hB6 hG6 hC6 HX7 HB7 HG7 HC7 HOL HXB HOT HL
            go_wp2
            go_roundw
            case rel => exact ⟨k + 1, L8, _, by omega, by go_num, hll.out, HX8, HO8, HL8, HC8, HG8, HB8⟩
            case measure => simp [intOf]; omega
        · have hkk : (2 + y).toNat ≤ k := by omega
          have HDN : Hid (Dn (d + 1) (.node K ⟨#[]⟩ L)) := Dn.node HK.out (fun h => by have := HLK.out; first | omega | (rw [hrep] at h; cases h)) (fun h => by have := HLK.out; first | omega | (rw [hrep] at h; cases h)) (by have := HLK.out; omega) HL.out
          obtain ⟨ar, cr, rfl⟩ := HO.out.value
          have x0 := HX.out.c0
          have x1 := HX.out.c1
          have x2 := HX.out.c2
          have c0 := HB.out.c0
          have c1 := HB.out.c1
          have c2 := HB.out.c2
          have f0 := HB.out.fr
          clear HL
          go_wp2
          have hput := HB.out.put (.int .i64 K) (.string ⟨#[]⟩) (.slice ar L.length cr)
          have hgp := gy_sz3 HG.out (Nat.le_refl _) (.int .i64 K) (.string ⟨#[]⟩) (.slice ar L.length cr)
          have hcp := HC.out.sz3 (b := w.heap.size) HNE.out HV.out (.int .i64 K) (.string ⟨#[]⟩) (.slice ar L.length cr)
          have hop := HO.out.sz3 (b := w.heap.size) (by unfold newFrom; omega) (.int .i64 K) (.string ⟨#[]⟩) (.slice ar L.length cr)
          unfold sz3 at hput hgp hcp hop
          generalize ((wr.setCell ⟨w.heap.size, 0, none⟩ (.int .i64 K)).setCell ⟨w.heap.size, 1, none⟩ (.string ⟨#[]⟩)).setCell ⟨w.heap.size, 2, none⟩ (.slice ar L.length cr) = W at hput hgp hcp hop ⊢
          have r0 := hput.c0
          have r1 := hput.c1
          have r2 := hput.c2
          refine bodyPost_ret (v := rx K ⟨#[]⟩ (.slice ar L.length cr)) ?_ rfl ⟨.node K ⟨#[]⟩ L, _, rfl, HDN.out, hop.mono (fun b hb => by unfold newFrom at *; omega), hcp, hgp⟩
          simp [results, Tryz.results13, go_sem, r0, r1, r2]

theorem l3Draw_any (d : Nat) (hd : d ≤ 100) : DrC d := by
  induction d with
  | zero => exact l3Draw_zero
  | succ d ih => exact l3Draw_succ d (by omega) (ih (by omega))
end Go.Proofs.YtapniafhcagogaaGreatDoor

namespace Go.Proofs.YtapniafhcagogaaGreatDoor
open Go.RowKit
set_option maxRecDepth 8000

/-- The cells of expressions. -/
def litCells : List (Tr × Value) → List Value
  | [] => []
  | p :: r => .int .i64 p.1.k :: .string p.1.s :: p.2 :: litCells r

theorem litCells_get : ∀ (ps : List (Tr × Value)) (i : Nat) (h : i < ps.length), (litCells ps)[i * 3]? = some (.int .i64 ps[i].1.k) ∧ (litCells ps)[i * 3 + 1]? = some (.string ps[i].1.s) ∧ (litCells ps)[i * 3 + 2]? = some ps[i].2
  | p :: r, 0, _ => ⟨rfl, rfl, rfl⟩
  | p :: r, i + 1, h => by
    have := litCells_get r i (by simpa using h)
    have e : (i + 1) * 3 = i * 3 + 3 := by omega
    rw [e]
    exact this

/-- A literal list reads what it was made of. -/
theorem Rl.lit {w : World} {B : Nat → Prop} {b : Nat} (ps : List (Tr × Value)) (hn : ps ≠ []) (hl : ps.length ≤ 1000) (hB : B b) (hb : w.heap[b]? = some (.cells (litCells ps).toArray 26 (0, 0)))
    (h : ∀ p ∈ ps, Rl w B p.1.l p.2 ∧ p.1.s.size ≤ maxLen) : Rl w B (ps.map (·.1)) (.slice (some ⟨b, 0, none⟩) ps.length ps.length) := by
  have hll : (ps.map (·.1)).length = ps.length := by simp
  rw [show ps.length = (ps.map (·.1)).length by simp]
  have hm : ∀ n, n ≤ 1000 → n ≤ maxLen := fun n hn => Nat.le_trans hn (by decide)
  refine .full (ps.map (·.1)) b 0 _ (fun i => (ps[i]?.map (·.2)).getD (.bool true)) hB (by simpa using hn) (Nat.le_refl _) (hm _ (by simpa using hl)) (fun i hi => ?_) (fun i hi => ?_) fun i hi => ?_
  · have hi' : i < ps.length := by simpa using hi
    simpa using (h _ (List.getElem_mem hi')).2
  · have hi' : i < ps.length := by simpa using hi
    obtain ⟨c0, c1, c2⟩ := litCells_get ps i hi'
    simp only [List.getElem_map, List.getElem?_eq_getElem hi', Option.map_some, Option.getD_some]
    exact ⟨by rw [cell_of_row w b _ _ _ (0, 0) hb]; simpa using c0, by rw [cell_of_row w b _ _ _ (0, 0) hb]; simpa using c1, by rw [cell_of_row w b _ _ _ (0, 0) hb]; simpa using c2⟩
  · have hi' : i < ps.length := by simpa using hi
    simp only [List.getElem_map, List.getElem?_eq_getElem hi', Option.map_some, Option.getD_some]
    exact (h _ (List.getElem_mem hi')).1

end Go.Proofs.YtapniafhcagogaaGreatDoor

namespace Go.Proofs.YtapniafhcagogaaGreatDoor
open Go.RowKit

theorem grownBy_below {a b c : World} {row : Option Nat} {B : Nat} (hg : a.grownBy b row) (hb : Below B b c) (hB : a.heap.size ≤ B) : a.grownBy c row :=
  ⟨hb.os.trans hg.os, hb.tape.trans hg.tape, hb.output.trans hg.output, Nat.le_trans hg.size hb.size, fun k hk hne => (hb.block k (Nat.lt_of_lt_of_le hk hB)).trans (hg.block k hk hne)⟩

theorem Cur.below {w w' : World} {cb B : Nat} {v : Value} {zs : List Int} (h : Cur w cb v zs) (hk : Below B w w') (hcb : cb < B) (hv : zs ≠ [] → ∀ k, v.ownBlock = some k → k < B) : Cur w' cb v zs := by
  obtain ⟨hbs, hlen, hne, i, q, h0, h1, hc⟩ := h
  refine ⟨?_, hlen, hne, i, q, h0, h1, by rw [hk.block cb hcb]; exact hc⟩
  by_cases hz : zs = []
  · obtain ⟨hb, ao, cap, rfl, hl, hm, hn, hc⟩ := hbs
    exact ⟨hb, ao, cap, rfl, hl, hm, hn, fun h => absurd hz h⟩
  · exact hbs.below hk (hv hz)

end Go.Proofs.YtapniafhcagogaaGreatDoor

namespace Go.Proofs.YtapniafhcagogaaGreatDoor
open Go.RowKit
set_option maxRecDepth 8000

theorem gyN {w w' : World} {R : Nat} (h : w.grownBy w' (some R)) (o : Obj) : w.grownBy (w'.alloc o) (some R) := grownBy_trans h (World.grownBy_alloc w' o _)
theorem one_size {y : ByteArray} (h : y ∈ ([⟨#[97]⟩, ⟨#[98]⟩, ⟨#[99]⟩, ⟨#[49]⟩, ⟨#[97]⟩, ⟨#[32]⟩] : List ByteArray)) : y.size = 1 := by
  have := (List.all_eq_true.1 (show ([⟨#[97]⟩, ⟨#[98]⟩, ⟨#[99]⟩, ⟨#[49]⟩, ⟨#[97]⟩, ⟨#[32]⟩] : List ByteArray).all (fun y => decide (y.size = 1)) = true by decide +kernel)) y h
  simpa using this

set_option maxHeartbeats 1000000 in
theorem l4Text_any (cb : Nat) (v : Value) (zs : List Int) (w : World) (h : Cur w cb v zs) :
    Calls Tryz.prog 14 #[.pointer (some ⟨cb, 0, none⟩)] w fun e w' => ∃ s : ByteArray, e = .returned (.string s) ∧ s.size ≤ 6 ∧ Cur w' cb v zs ∧ w.grownBy w' (some cb) := by
  have H := Hid.mk h
  clear h
  go_enter Tryz.func14, Tryz.ntmps14
  go_wp2_with fail
  refine (l1Below_any cb v zs 7 w H.out).mono ?_
  rintro e w1 ⟨x, rfl, hx0, hx7, -, hC1, hg1⟩
  have hx := hx7 (by omega)
  have HC1 := Hid.mk hC1
  have HG1 := Hid.mk hg1
  clear hC1 hg1 hx7 H
  go_wp2
  go_loopw [3, 4] (fun q i wr => ∃ (s : ByteArray) (k : Nat), q = .string s ∧ i = .int .i64 k ∧ s.size + k ≤ 6 ∧ Hid (Cur wr cb v zs) ∧ Hid (w.grownBy wr (some cb))) (fun _ i _ => (intOf i).toNat)
  case atStart => exact ⟨⟨#[]⟩, x.toNat, rfl, by rw [Int.toNat_of_nonneg hx0], by have : (⟨#[]⟩ : ByteArray).size = 0 := rfl; omega, HC1, HG1⟩
  case round =>
    obtain ⟨s, k, rfl, rfl, hsk, HC, HG⟩ := hrel
    clear HC1 HG1
    by_cases hk : (0 : Int) < (k : Int)
    · have e3 : ¬ 9223372036854775807 < s.size + 1 := by omega
      go_wp2_with fail
      have A0 : ∀ o, Below wr.heap.size wr (wr.alloc o) := fun o => (Below.refl _ _).alloc (Nat.le_refl _) _
      refine (l1Str_any cb wr.heap.size 6 v zs [⟨#[97]⟩, ⟨#[98]⟩, ⟨#[99]⟩, ⟨#[49]⟩, ⟨#[97]⟩, ⟨#[32]⟩] _ (HC.out.grow (A0 _)) rfl (by omega) (by omega) (heap_alloc_new wr _) (by have := HC.out.lt; omega)).mono ?_
      rintro e w2 ⟨y, rfl, hy, hC2, hg2⟩
      have hy1 := one_size hy
      have HC2 := Hid.mk hC2
      have HG2 := Hid.mk (grownBy_trans (gyN HG.out _) hg2)
      have e4 : ¬ 9223372036854775807 < s.size + y.size := by omega
      clear hC2 hg2 hy HC HG A0 e3
      go_wp2
      go_roundw
      case rel => exact ⟨s ++ y, k - 1, rfl, by go_num, by simp; omega, HC2, HG2⟩
      case measure => simp [intOf]; omega
    · go_wp2
      go_ret
      exact ⟨s, rfl, by omega, HC.out, HG.out⟩

theorem low_size {y : ByteArray} {L : List ByteArray} {n : Nat} (hL : L.all (fun y => decide (y.size ≤ n)) = true) (h : y ∈ L) : y.size ≤ n := by
  simpa using List.all_eq_true.1 hL y h

end Go.Proofs.YtapniafhcagogaaGreatDoor

namespace Go.Proofs.YtapniafhcagogaaGreatDoor
open Go.RowKit
set_option maxRecDepth 8000

/-- Whatever lay there, but the cursor and one block, lies as it lay. -/
def Kc (W : World) (cb b2 : Nat) (w' : World) : Prop := w'.os = W.os ∧ w'.tape = W.tape ∧ w'.output = W.output ∧ W.heap.size ≤ w'.heap.size ∧ ∀ b, b < W.heap.size → b ≠ cb → b ≠ b2 → w'.heap[b]? = W.heap[b]?
theorem Kc.refl (W : World) (cb b2 : Nat) : Kc W cb b2 W := ⟨rfl, rfl, rfl, Nat.le_refl _, fun _ _ _ _ => rfl⟩
theorem Kc.grown {W X Y : World} {cb b2 : Nat} (h : Kc W cb b2 X) (hg : X.grownBy Y (some cb)) : Kc W cb b2 Y := ⟨hg.os.trans h.1, hg.tape.trans h.2.1, hg.output.trans h.2.2.1, Nat.le_trans h.2.2.2.1 hg.size, fun b h1 h2 h3 => (hg.block b (Nat.lt_of_lt_of_le h1 h.2.2.2.1) (fun e => h2 (Option.some.inj e))).trans (h.2.2.2.2 b h1 h2 h3)⟩
theorem Kc.alloc {W X : World} {cb b2 : Nat} (h : Kc W cb b2 X) (o : Obj) : Kc W cb b2 (X.alloc o) := h.grown (gy_alloc X cb o)
theorem Kc.below {W X : World} {cb b2 n : Nat} (h : Kc W cb b2 X) (h1 : n ≤ cb) (h2 : n ≤ b2) (hn : n ≤ W.heap.size) : Below n W X := ⟨h.1, h.2.1, h.2.2.1, h.2.2.2.1, fun b hb => h.2.2.2.2 b (by omega) (by omega) (by omega)⟩

end Go.Proofs.YtapniafhcagogaaGreatDoor

namespace Go.Proofs.YtapniafhcagogaaGreatDoor
open Go.RowKit

/-- Each is less than the next. -/
def RisesZ (zs : List Int) : Prop := ∀ k, k + 1 < zs.length → zs.getD k 0 < zs.getD (k + 1) 0

end Go.Proofs.YtapniafhcagogaaGreatDoor

namespace Go.Proofs.YtapniafhcagogaaGreatDoor
open Go.RowKit
set_option maxRecDepth 8000

theorem OwnI.iz {w : World} {base : Nat} {v : Value} {xs : List Nat} (h : OwnI w base v xs) : Iz w v (xs.map fun (n : Nat) => (n : Int)) := by
  have h' : OwnZ w base v (xs.map fun (n : Nat) => (n : Int)) := by
    unfold OwnI at h
    unfold OwnZ
    rw [List.length_map, List.map_map]
    exact h
  exact h'.iz

theorem rowL_rises (n : Nat) (f : Nat → Bool) : RisesZ ((rowL n f).map fun (x : Nat) => (x : Int)) := by
  intro k hk
  rw [List.length_map] at hk
  have hp : (rowL n f).Pairwise (· < ·) := List.Pairwise.filter _ List.pairwise_lt_range
  have h1 := List.pairwise_iff_getElem.1 hp k (k + 1) (by omega) hk (by omega)
  simp only [List.getD, List.getElem?_map]
  rw [List.getElem?_eq_getElem (by omega), List.getElem?_eq_getElem hk]
  simp
  exact h1
theorem endsL_rises (t : Tr) (s : ByteArray) (at' : Int) : RisesZ ((endsL t s at').map fun (x : Nat) => (x : Int)) := by
  unfold endsL
  split
  · exact rowL_rises _ _
  · intro k hk; simp at hk
theorem endsL_bounds (t : Tr) (s : ByteArray) (at' : Int) : ∀ x ∈ endsL t s at', at' ≤ (x : Int) ∧ x ≤ s.size := by
  intro x hx
  unfold endsL at hx
  split at hx
  · rename_i h
    unfold rowL at hx
    obtain ⟨h1, h2⟩ := List.mem_filter.1 hx
    have h3 := UpM.tree s t at'.toNat x (by omega) h2
    omega
  · cases hx

end Go.Proofs.YtapniafhcagogaaGreatDoor

namespace Go.Proofs.YtapniafhcagogaaGreatDoor
open Go.RowKit
set_option maxRecDepth 8000

theorem endsL_row {t : Tr} {s : ByteArray} (hok : okR t = true ∧ s.size ≤ 200) {q : Nat} (hq : q ≤ s.size) : endsL t s (q : Int) = rowL s.size (t.endM s q) := by
  unfold endsL
  rw [if_pos ⟨hok.1, hok.2, by omega, by omega⟩]
  simp
/-- The first place with an end is what Longest says. -/
theorem first_end (t : Tr) (s : ByteArray) (p : Nat) (hp : p ≤ s.size) (hno : ∀ q, q < p → endsL t s (q : Int) = []) (e : Nat) (he : (endsL t s (p : Int)).getLast? = some e) : longE t s = some (p, e) := by
  have hok : okR t = true ∧ s.size ≤ 200 := by
    unfold endsL at he
    split at he
    · rename_i h; exact ⟨h.1, h.2.1⟩
    · cases he
  rw [endsL_row hok hp] at he
  unfold longE
  rw [if_pos hok]
  have key : ∀ j i D, i + j = p → j < D → longF s.size (t.endM s) i D = some (p, e) := by
    intro j
    induction j with
    | zero =>
      intro i D hi hD
      obtain rfl : i = p := by omega
      obtain ⟨D, rfl⟩ : ∃ D', D = D' + 1 := ⟨D - 1, by omega⟩
      rw [longF, he]
    | succ j ih =>
      intro i D hi hD
      obtain ⟨D, rfl⟩ : ∃ D', D = D' + 1 := ⟨D - 1, by omega⟩
      have h0 := hno i (by omega)
      rw [endsL_row hok (by omega)] at h0
      rw [longF, h0]
      exact ih (i + 1) D (by omega) (by omega)
  exact key p 0 _ (by omega) (by omega)
theorem no_end (t : Tr) (s : ByteArray) (hno : ∀ q, q ≤ s.size → endsL t s (q : Int) = []) : longE t s = none := by
  unfold longE
  split
  · rename_i hok
    have key : ∀ D i, i + D ≤ s.size + 1 → longF s.size (t.endM s) i D = none := by
      intro D
      induction D with
      | zero => intro i _; rfl
      | succ D ih =>
        intro i hi
        have h0 := hno i (by omega)
        rw [endsL_row hok (by omega)] at h0
        rw [longF, h0]
        exact ih (i + 1) (by omega)
    exact key _ 0 (by omega)
  · rfl

theorem map_last (y : Nat) (ys : List Nat) : (List.map (fun (n : Nat) => (n : Int)) (y :: ys)).getD ys.length 0 = (((y :: ys).getLast (by simp) : Nat) : Int) := by
  rw [List.getLast_eq_getElem, List.getD, List.getElem?_map, List.getElem?_eq_getElem (by simp)]
  rfl

end Go.Proofs.YtapniafhcagogaaGreatDoor

namespace Go.Proofs.YtapniafhcagogaaGreatDoor
open Go.RowKit
set_option maxRecDepth 8000

/-- A drawn expression is right. -/
theorem Dn.okT : ∀ {d : Nat} {t : Tr}, Dn d t → t.okT = true := by
  intro d
  induction d with
  | zero =>
    intro t h
    obtain ⟨h1, h2⟩ := h
    rw [okT_eq, h1]
    cases t with
    | node k s l => simp only [Tr.l] at h1; subst h1; rw [okL, Bool.true_and]; exact h2.1
  | succ d ih =>
    intro t h
    rcases h with ⟨h1, h2⟩ | ⟨h1, _, _, h4⟩
    · rw [okT_eq, h1]
      cases t with
      | node k s l => simp only [Tr.l] at h1; subst h1; rw [okL, Bool.true_and]; exact h2.1
    · rw [okT_eq, h1, Bool.and_true, okL_iff]
      exact fun x hx => ih (h4 x hx)
theorem cntL_le (l : List Tr) (m : Nat) (h : ∀ x ∈ l, x.cnt ≤ m) : cntL l ≤ l.length * m := by
  induction l with
  | nil => simp [cntL]
  | cons x r ih =>
    have h1 := h x (List.mem_cons_self ..)
    have h2 := ih (fun y hy => h y (List.mem_cons_of_mem _ hy))
    rw [cntL, List.length_cons, Nat.add_mul, Nat.one_mul]
    omega
theorem Dn.cnt : ∀ {d : Nat} {t : Tr}, Dn d t → d ≤ 3 → t.cnt ≤ [1, 4, 13, 40].getD d 0 := by
  intro d
  induction d with
  | zero =>
    intro t h _
    rw [cnt_eq, h.1]
    simp [cntL]
  | succ d ih =>
    intro t h hd
    have hpos : 1 ≤ [1, 4, 13, 40].getD (d + 1) 0 := by
      rcases (show d = 0 ∨ d = 1 ∨ d = 2 by omega) with rfl | rfl | rfl <;> decide
    rcases h with ⟨h1, h2⟩ | ⟨_, _, h3, h4⟩
    · rw [cnt_eq, h1]
      simp only [cntL]
      omega
    · have h5 := cntL_le t.l ([1, 4, 13, 40].getD d 0) (fun x hx => ih (h4 x hx) (by omega))
      rw [cnt_eq]
      have h6 : t.l.length * [1, 4, 13, 40].getD d 0 ≤ 3 * [1, 4, 13, 40].getD d 0 := Nat.mul_le_mul_right _ h3
      have h7 : 1 + 3 * [1, 4, 13, 40].getD d 0 = [1, 4, 13, 40].getD (d + 1) 0 := by
        rcases (show d = 0 ∨ d = 1 ∨ d = 2 by omega) with rfl | rfl | rfl <;> decide
      omega
theorem Dn.dp : ∀ {d : Nat} {t : Tr}, Dn d t → ∀ f, d < f → dpF f t = true := by
  intro d
  induction d with
  | zero =>
    intro t h f hf
    obtain ⟨f, rfl⟩ : ∃ f', f = f' + 1 := ⟨f - 1, by omega⟩
    rw [dpF, h.1]
    rfl
  | succ d ih =>
    intro t h f hf
    obtain ⟨f, rfl⟩ : ∃ f', f = f' + 1 := ⟨f - 1, by omega⟩
    rcases h with ⟨h1, h2⟩ | ⟨_, _, h3, h4⟩
    · rw [dpF, h1]; rfl
    · rw [dpF, List.all_eq_true]
      exact fun x hx => ih (h4 x hx) f (by omega)
theorem Dn.okR {t : Tr} (h : Dn 3 t) : okR t = true := by
  have h1 := h.cnt (Nat.le_refl 3)
  have h2 := h.dp 6 (by omega)
  have h3 := ((parts_spec 6 t).1).2 ⟨h2, by simp at h1; omega⟩
  unfold Proofs.YtapniafhcagogaaGreatDoor.okR
  rw [decide_eq_true h3, h.okT]
  rfl

set_option maxHeartbeats 2000000 in
theorem drawRex_any (v : Value) (zs : List Int) (w : World) (h : Bs w v zs) (hlen : zs.length ≤ 1048576) :
    Calls Tryz.prog 5 #[v] w fun e w' => ∃ (t : Tr) (u : Value) (s : ByteArray), e = .returned (.tuple #[rx t.k t.s u, .string s]) ∧ Dn 3 t ∧ s.size ≤ 6 ∧ Rl w' (newFrom w.heap.size) t.l u ∧ Below w.heap.size w w' := by
  have H := Hid.mk (h.grow ((Below.refl w.heap.size w).alloc (Nat.le_refl _) (.cells #[.int .i64 0, .string ⟨#[]⟩, .slice none 0 0] 26)))
  have Z0 := Hid.mk (Bz3.new w (.int .i64 0) (.string ⟨#[]⟩) (.slice none 0 0))
  have A0 : Hid (Below w.heap.size w (w.alloc (.cells #[.int .i64 0, .string ⟨#[]⟩, .slice none 0 0] 26))) := (Below.refl _ _).alloc (Nat.le_refl _) _
  have S0 : (w.alloc (.cells #[.int .i64 0, .string ⟨#[]⟩, .slice none 0 0] 26)).heap.size = w.heap.size + 1 := by simp
  clear h
  go_enter Tryz.func5, Tryz.ntmps5
  go_wp2_with fail
  generalize w.alloc (.cells #[.int .i64 0, .string ⟨#[]⟩, .slice none 0 0] 26) = W0 at H Z0 A0 S0 ⊢
  refine (l1New_any v zs W0 H.out hlen).mono ?_
  rintro e w1 ⟨rfl, hC1, hb1⟩
  have C1 := Hid.mk hC1
  have Z1 := Hid.mk (Z0.out.grow hb1)
  have B1 := Hid.mk (A0.out.trans (hb1.mono (by omega)))
  rw [S0] at C1 ⊢
  clear hC1 hb1 H Z0 A0 S0
  go_wp2_with fail
  refine (l3Draw_any 3 (by omega) (w.heap.size + 1) v zs w1 C1.out).mono ?_
  rintro e w2 ⟨t, u, rfl, hdn, how, hC2, hg2⟩
  obtain ⟨au, cu, rfl, -⟩ := how.rl.len
  obtain ⟨tk, htk⟩ : ∃ tk, t.k = tk := ⟨_, rfl⟩
  obtain ⟨ts, hts'⟩ : ∃ ts, t.s = ts := ⟨_, rfl⟩
  have s12 := hg2.size
  have hc1 := C1.out.lt
  have C2 := Hid.mk hC2
  have Z2 := Hid.mk (Z1.out.by hg2 (by omega))
  have R2 := Hid.mk (how.rl.imp (C := fun b => w.heap.size + 2 ≤ b ∧ b < w2.heap.size) (fun b hb hlt => ⟨by unfold newFrom at hb; omega, hlt⟩))
  have B2 : Hid (Below w.heap.size w w2) := B1.out.grown hg2 B1.out.size (fun k e => by simp at e; omega)
  have HDN := Hid.mk hdn
  rw [htk, hts']
  have HTK := Hid.mk htk
  have HTS := Hid.mk hts'
  clear hdn how hC2 hg2 htk hts' C1 Z1 B1
  go_wp2_with fail
  refine (l4Text_any (w.heap.size + 1) v zs w2 C2.out).mono ?_
  rintro e w3 ⟨s, rfl, hs6, hC3, hg3⟩
  have Z3 := Hid.mk (Z2.out.by hg3 (by omega))
  have R3 := Hid.mk (R2.out.kept (w' := w3) (fun b hb hlt => hg3.block b hlt (by simp; omega)))
  have B3 : Hid (Below w.heap.size w w3) := B2.out.grown hg3 B2.out.size (fun k e => by simp at e; omega)
  clear hC3 hg3 C2 Z2 R2 B2
  have z0 := Z3.out.c0
  have z1 := Z3.out.c1
  have z2 := Z3.out.c2
  have zf := Z3.out.fr
  have Y4 := Z3.out.put (.int .i64 tk) (.string ts) (.slice au t.l.length cu)
  have R4 := Hid.mk (R3.out.kept (w' := sz3 w3 w.heap.size (.int .i64 tk) (.string ts) (.slice au t.l.length cu)) (fun b hb _ => sz3_other _ _ _ _ _ _ (by omega)))
  have B4 : Hid (Below w.heap.size w (sz3 w3 w.heap.size (.int .i64 tk) (.string ts) (.slice au t.l.length cu))) := ⟨B3.out.os, B3.out.tape, B3.out.output, by rw [sz3_size]; exact B3.out.size, fun b hb => (sz3_other _ _ _ _ _ _ (by omega)).trans (B3.out.block b hb)⟩
  clear R3 B3 Z3
  have HY4 := Hid.mk Y4
  clear Y4
  generalize hll : t.l.length = ll at *
  go_wp2_with fail
  have q0 := HY4.out.c0
  have q1 := HY4.out.c1
  have q2 := HY4.out.c2
  refine bodyPost_ret (v := .tuple #[rx tk ts (.slice au ll cu), .string s]) (by simp [results, Tryz.results5, go_sem, q0, q1, q2]) rfl ⟨t, .slice au ll cu, s, by rw [HTK.out, HTS.out], HDN.out, hs6, R4.out.imp (fun b hb _ => by unfold newFrom; omega), B4.out⟩

end Go.Proofs.YtapniafhcagogaaGreatDoor

namespace Go.Proofs.YtapniafhcagogaaGreatDoor
open Go.RowKit
set_option maxRecDepth 8000

/-- The machine matches what the expression matches. -/
theorem mtB_long {t : Tr} {s : ByteArray} (h : okR t = true) (hs : s.size ≤ 200) : mtB (nfN t) s = (longE t s).isSome := by
  have hok : okR t = true ∧ s.size ≤ 200 := ⟨h, hs⟩
  have key : mtB (nfN t) s = true ↔ (longE t s).isSome = true := by
    rw [nfN_match h s]
    constructor
    · rintro ⟨i, j, hij, hj, hE⟩
      cases hl : longE t s with
      | some q => rfl
      | none =>
        exfalso
        have hex : ∃ p, p ≤ s.size ∧ endsL t s (p : Int) ≠ [] := by
          refine ⟨i, by omega, ?_⟩
          rw [endsL_row hok (by omega)]
          unfold rowL
          intro h0
          have : j ∈ (List.range (s.size + 1)).filter (t.endM s i) := List.mem_filter.2 ⟨List.mem_range.2 (by omega), hE⟩
          rw [h0] at this
          cases this
        have hmin : ∃ p, (p ≤ s.size ∧ endsL t s (p : Int) ≠ []) ∧ ∀ q, q < p → ¬ (q ≤ s.size ∧ endsL t s (q : Int) ≠ []) := by
          obtain ⟨p, hp⟩ := hex
          induction p using Nat.strongRecOn with
          | _ p ih =>
            by_cases hq : ∃ q, q < p ∧ (q ≤ s.size ∧ endsL t s (q : Int) ≠ [])
            · obtain ⟨q, h1, h2⟩ := hq
              exact ih q h1 h2
            · exact ⟨p, hp, fun q h1 h2 => hq ⟨q, h1, h2⟩⟩
        obtain ⟨p, ⟨hp, hne⟩, hlt⟩ := hmin
        obtain ⟨e, he⟩ : ∃ e, (endsL t s (p : Int)).getLast? = some e := by
          cases hc : endsL t s (p : Int) with
          | nil => exact absurd hc hne
          | cons y ys => exact ⟨_, List.getLast?_eq_some_getLast (by simp)⟩
        have := first_end t s p hp (fun q hq => by
          have := hlt q hq
          by_cases h0 : endsL t s (q : Int) = []
          · exact h0
          · exact absurd ⟨by omega, h0⟩ this) e he
        rw [hl] at this
        cases this
    · intro hsome
      by_cases hall : ∀ q, q ≤ s.size → endsL t s (q : Int) = []
      · rw [no_end t s hall] at hsome
        cases hsome
      · obtain ⟨q, hq⟩ := Classical.not_forall.1 hall
        obtain ⟨hq1, hq2⟩ := Classical.not_imp.1 hq
        rw [endsL_row hok hq1] at hq2
        unfold rowL at hq2
        obtain ⟨j, hj⟩ := List.exists_mem_of_ne_nil _ hq2
        rw [List.mem_filter, List.mem_range] at hj
        exact ⟨q, j, ((UpM.tree s t) q j hq1 hj.2).1, by omega, hj.2⟩
  cases h1 : mtB (nfN t) s <;> cases h2 : (longE t s).isSome <;> simp_all

theorem Dn.small {t : Tr} (h : Dn 3 t) : t.s.size ≤ maxLen := h.size

set_option maxHeartbeats 4000000 in
theorem fnNfas_walk (v : Value) (zs : List Int) (w : World) (h : Bs w v zs) (hT : TabB w) :
    Calls Tryz.prog 3 #[v] w fun e w' => e = .returned (.bool true) ∧ Below w.heap.size w w' := by
  have H := Hid.mk h
  clear h
  have HB := Hid.mk (big_any v zs w H.out)
  by_cases hlen : zs.length ≤ 1048576
  · have hd : decide ((1048576 : Int) < zs.length) = false := by simp; omega
    rw [hd] at HB
    clear hd
    go_enter Tryz.func3, Tryz.ntmps3
    go_wp2_with fail
    refine HB.out.mono ?_
    rintro e w1 ⟨rfl, hw⟩
    obtain rfl := hw.symm
    clear hw HB
    go_wp2_with fail
    refine (drawRex_any v zs w H.out hlen).mono ?_
    rintro e w1 ⟨t, u, s, rfl, hdn, hs6, hr1, hb1⟩
    have hts : t.s.size ≤ maxLen := hdn.small
    have hok := hdn.okR
    have HIN := Hid.mk (fun (w' : World) (B : Nat → Prop) (u : Value) (h : Rl w' B t.l u) => implNfaOf_any t B u w' h hts)
    have HSN := Hid.mk (fun (w' : World) (B : Nat → Prop) (u : Value) (h : Rl w' B t.l u) => specNfaOf_any t B u w' h hts)
    have HIM := Hid.mk (fun (w' : World) (hb : Below w.heap.size w w') (B : Nat → Prop) (u : Value) (h : Rl w' B t.l u) => matches_any t B u s w' h hts (hT.grow hb))
    have HSM := Hid.mk (fun (w' : World) (B : Nat → Prop) (u : Value) (h : Rl w' B t.l u) => specMatches_any t B u s w' h hts (by omega))
    have HNM := Hid.mk (fun (w' : World) (B : Nat → Prop) (u : Value) (h : Nl w' B (nfN t) u) => implNfaMatches_any (nfN t) B u s w' h (by omega))
    have HNK := Hid.mk (fun (w' : World) (B : Nat → Prop) (u : Value) (h : Nl w' B (nfN t) u) => implNfaOk_any (nfN t) B u w' h)
    have HSMA := Hid.mk (nfN_small t)
    rw [mtB_long hok (by omega)] at HNM
    rw [nfN_ok hok] at HNK
    generalize (longE t s).isSome = b at HIM HSM HNM
    generalize nfN t = E at *
    obtain ⟨au, cu, rfl, -⟩ := hr1.len
    generalize t.k = tk at *
    generalize t.s = ts at *
    generalize t.l = l at *
    have A0 : Below w1.heap.size w1 (w1.alloc (.cells #[.int .i64 tk, .string ts, .slice au l.length cu] 26)) := (Below.refl _ _).alloc (Nat.le_refl _) _
    have X2 := Hid.mk (Bz3.new w1 (.int .i64 tk) (.string ts) (.slice au l.length cu))
    have R2 := Hid.mk (hr1.grow A0)
    have B2 := Hid.mk (hb1.trans (A0.mono hb1.size))
    have hbb : (b == b) = true := by simp
    have hee : ((E.length : Int) == (E.length : Int)) = true := by simp
    clear hts hr1 hb1 A0 hok hdn t
    go_wp2_with fail
    generalize w1.alloc (.cells #[.int .i64 tk, .string ts, .slice au l.length cu] 26) = W2 at X2 R2 B2 ⊢
    generalize w1.heap.size = p0 at X2 ⊢
    clear w1
    have x0 := X2.out.c0
    have x1 := X2.out.c1
    have x2 := X2.out.c2
    refine (HIN.out W2 _ _ R2.out).mono ?_
    rintro e w3 ⟨u3, rfl, ho3, hb3⟩
    obtain ⟨a3, c3, hv3, -⟩ := ho3.lenV
    have O3 := ho3.nl HSMA.out
    subst hv3
    have A4 : Below w3.heap.size w3 (w3.alloc (.cells #[.slice a3 E.length c3] 31)) := (Below.refl _ _).alloc (Nat.le_refl _) _
    have hb34 := hb3.trans (A4.mono hb3.size)
    have G4 := Hid.mk (Bx1.new w3 31 (.slice a3 E.length c3))
    have X4 := Hid.mk (X2.out.grow hb34)
    have R4 := Hid.mk (R2.out.grow hb34)
    have B4 := Hid.mk (B2.out.trans (hb34.mono B2.out.size))
    have O4 := Hid.mk (O3.grow A4)
    clear hb3 hb34 A4 O3 ho3 X2 R2 B2 x0 x1 x2 HIN
    go_wp2_with fail
    generalize w3.alloc (.cells #[.slice a3 E.length c3] 31) = WQ at G4 X4 R4 B4 O4 ⊢
    generalize w3.heap.size = nb at G4 O4 ⊢
    have S0 : Below WQ.heap.size WQ WQ.drew := Below.drewSelf _ _ 1
    have HBW := Hid.mk (fun w' (h : Below WQ.heap.size WQ w') => B4.out.trans (h.mono B4.out.size))
    refine wp_region_held_drew (S := Below WQ.heap.size WQ) (by kernel_rfl) S0 (fun _ => ?_)
    refine takeHD (i := 0) (v := .agg #[.slice a3 E.length c3]) (some 15) rfl rfl (by kernel_rfl) (by kernel_rfl) (by kernel_rfl) (fun _ _ _ h => h) (Or.inl ⟨by kernel_rfl, fun w' hw => ?_⟩) S0 ?_
    · have y := (G4.out.grow hw).c0; go_simp
    simp only [Act.put, List.setIfInBounds_toArray]
    refine wpAnyH_ready (rs := [1]) (by kernel_rfl) (by simp) ?_
    refine AllReadyH.cons rfl (fun K hK => ?_) AllReadyH.nil
    rw [if_pos (by kernel_rfl)]
    go_wp2_with fail
    refine (HNK.out _ _ _ (O4.out.grow S0)).mono ?_
    rintro e q1 ⟨rfl, hbq1⟩
    have S1 : Below WQ.heap.size WQ q1 := S0.trans (hbq1.mono S0.size)
    refine hK.out _ _ S1 (fun _ => ?_)
    clear hK K hbq1
    refine takeHD (i := 2) (v := .bool true) (some 17) rfl rfl (by kernel_rfl) (by kernel_rfl) (by kernel_rfl) (fun _ _ _ h => h) (Or.inl ⟨by kernel_rfl, fun w' hw => ?_⟩) S1 ?_
    · kernel_rfl
    simp only [Act.put, List.setIfInBounds_toArray]
    refine takeHD (i := 3) (v := .agg #[.slice a3 E.length c3]) (some 18) rfl rfl (by kernel_rfl) (by kernel_rfl) (by kernel_rfl) (fun _ _ _ h => h) (Or.inl ⟨by kernel_rfl, fun w' hw => ?_⟩) S1 ?_
    · have y := (G4.out.grow hw).c0; go_simp
    simp only [Act.put, List.setIfInBounds_toArray]
    refine takeHD (i := 4) (v := .string s) (some 19) rfl rfl (by kernel_rfl) (by kernel_rfl) (by kernel_rfl) (fun _ _ _ h => h) (Or.inl ⟨by kernel_rfl, fun w' hw => ?_⟩) S1 ?_
    · kernel_rfl
    simp only [Act.put, List.setIfInBounds_toArray]
    refine takeHD (i := 6) (v := rx tk ts (.slice au l.length cu)) (some 21) rfl rfl (by kernel_rfl) (by kernel_rfl) (by kernel_rfl) (fun _ _ _ h => h) (Or.inl ⟨by kernel_rfl, fun w' hw => ?_⟩) S1 ?_
    · have X := X4.out.grow hw; have y0 := X.c0; have y1 := X.c1; have y2 := X.c2; go_simp
    simp only [Act.put, List.setIfInBounds_toArray]
    refine takeHD (i := 7) (v := .string s) (some 22) rfl rfl (by kernel_rfl) (by kernel_rfl) (by kernel_rfl) (fun _ _ _ h => h) (Or.inl ⟨by kernel_rfl, fun w' hw => ?_⟩) S1 ?_
    · kernel_rfl
    simp only [Act.put, List.setIfInBounds_toArray]
    refine wpAnyH_ready (rs := [5]) (by kernel_rfl) (by simp) ?_
    refine AllReadyH.cons rfl (fun K hK => ?_) AllReadyH.nil
    rw [if_pos (by kernel_rfl)]
    go_wp2_with fail
    refine (HNM.out _ _ _ (O4.out.grow S1)).mono ?_
    rintro e q2 ⟨rfl, hbq2⟩
    have S2 : Below WQ.heap.size WQ q2 := S1.trans (hbq2.mono S1.size)
    refine hK.out _ _ S2 (fun _ => ?_)
    clear hK K hbq2
    refine wpAnyH_ready (rs := [8]) (by kernel_rfl) (by simp) ?_
    refine AllReadyH.cons rfl (fun K hK => ?_) AllReadyH.nil
    rw [if_pos (by kernel_rfl)]
    go_wp2_with fail
    refine (HIM.out _ (HBW.out _ S2) _ _ (R4.out.grow S2)).mono ?_
    rintro e q3 ⟨rfl, hbq3⟩
    have S3 : Below WQ.heap.size WQ q3 := S2.trans (hbq3.mono S2.size)
    refine hK.out _ _ S3 (fun _ => ?_)
    clear hK K hbq3
    refine takeHD (i := 9) (v := .bool true) (some 24) rfl rfl (by kernel_rfl) (by kernel_rfl) (by kernel_rfl) (fun _ _ _ h => h) (Or.inl ⟨by kernel_rfl, fun w' hw => ?_⟩) S3 ?_
    · go_simp
    simp only [Act.put, List.setIfInBounds_toArray]
    refine takeHD (i := 10) (v := .bool true) (some 25) rfl rfl (by kernel_rfl) (by kernel_rfl) (by kernel_rfl) (fun _ _ _ h => h) (Or.inl ⟨by kernel_rfl, fun w' hw => ?_⟩) S3 ?_
    · kernel_rfl
    simp only [Act.put, List.setIfInBounds_toArray]
    refine takeHD (i := 11) (v := .bool true) (some 26) rfl rfl (by kernel_rfl) (by kernel_rfl) (by kernel_rfl) (fun _ _ _ h => h) (Or.inl ⟨by kernel_rfl, fun w' hw => ?_⟩) S3 ?_
    · kernel_rfl
    simp only [Act.put, List.setIfInBounds_toArray]
    refine takeHD (i := 12) (v := rx tk ts (.slice au l.length cu)) (some 27) rfl rfl (by kernel_rfl) (by kernel_rfl) (by kernel_rfl) (fun _ _ _ h => h) (Or.inl ⟨by kernel_rfl, fun w' hw => ?_⟩) S3 ?_
    · have X := X4.out.grow hw; have y0 := X.c0; have y1 := X.c1; have y2 := X.c2; go_simp
    simp only [Act.put, List.setIfInBounds_toArray]
    refine takeHD (i := 13) (v := .string s) (some 28) rfl rfl (by kernel_rfl) (by kernel_rfl) (by kernel_rfl) (fun _ _ _ h => h) (Or.inl ⟨by kernel_rfl, fun w' hw => ?_⟩) S3 ?_
    · kernel_rfl
    simp only [Act.put, List.setIfInBounds_toArray]
    refine takeHD (i := 15) (v := rx tk ts (.slice au l.length cu)) (some 30) rfl rfl (by kernel_rfl) (by kernel_rfl) (by kernel_rfl) (fun _ _ _ h => h) (Or.inl ⟨by kernel_rfl, fun w' hw => ?_⟩) S3 ?_
    · have X := X4.out.grow hw; have y0 := X.c0; have y1 := X.c1; have y2 := X.c2; go_simp
    simp only [Act.put, List.setIfInBounds_toArray]
    refine takeHD (i := 16) (v := .string s) (some 31) rfl rfl (by kernel_rfl) (by kernel_rfl) (by kernel_rfl) (fun _ _ _ h => h) (Or.inl ⟨by kernel_rfl, fun w' hw => ?_⟩) S3 ?_
    · kernel_rfl
    simp only [Act.put, List.setIfInBounds_toArray]
    refine wpAnyH_ready (rs := [14]) (by kernel_rfl) (by simp) ?_
    refine AllReadyH.cons rfl (fun K hK => ?_) AllReadyH.nil
    rw [if_pos (by kernel_rfl)]
    go_wp2_with fail
    refine (HIM.out _ (HBW.out _ S3) _ _ (R4.out.grow S3)).mono ?_
    rintro e q4 ⟨rfl, hbq4⟩
    have S4 : Below WQ.heap.size WQ q4 := S3.trans (hbq4.mono S3.size)
    refine hK.out _ _ S4 (fun _ => ?_)
    clear hK K hbq4
    refine wpAnyH_ready (rs := [17]) (by kernel_rfl) (by simp) ?_
    refine AllReadyH.cons rfl (fun K hK => ?_) AllReadyH.nil
    rw [if_pos (by kernel_rfl)]
    go_wp2_with fail
    refine (HSM.out _ _ _ (R4.out.grow S4)).mono ?_
    rintro e q5 ⟨rfl, hbq5⟩
    have S5 : Below WQ.heap.size WQ q5 := S4.trans (hbq5.mono S4.size)
    refine hK.out _ _ S5 (fun _ => ?_)
    clear hK K hbq5
    refine takeHD (i := 18) (v := .bool true) (some 33) rfl rfl (by kernel_rfl) (by kernel_rfl) (by kernel_rfl) (fun _ _ _ h => h) (Or.inl ⟨by kernel_rfl, fun w' hw => ?_⟩) S5 ?_
    · go_simp
    simp only [Act.put, List.setIfInBounds_toArray]
    refine takeHD (i := 19) (v := .bool true) (some 34) rfl rfl (by kernel_rfl) (by kernel_rfl) (by kernel_rfl) (fun _ _ _ h => h) (Or.inl ⟨by kernel_rfl, fun w' hw => ?_⟩) S5 ?_
    · kernel_rfl
    simp only [Act.put, List.setIfInBounds_toArray]
    refine takeHD (i := 20) (v := .bool true) (some 35) rfl rfl (by kernel_rfl) (by kernel_rfl) (by kernel_rfl) (fun _ _ _ h => h) (Or.inl ⟨by kernel_rfl, fun w' hw => ?_⟩) S5 ?_
    · kernel_rfl
    simp only [Act.put, List.setIfInBounds_toArray]
    refine takeHD (i := 21) (v := .pointer (some ⟨nb, 0, none⟩)) (some 36) rfl rfl (by kernel_rfl) (by kernel_rfl) (by kernel_rfl) (fun _ _ _ h => h) (Or.inl ⟨by kernel_rfl, fun w' hw => ?_⟩) S5 ?_
    · kernel_rfl
    simp only [Act.put, List.setIfInBounds_toArray]
    refine takeHD (i := 22) (v := .slice a3 E.length c3) (some 37) rfl rfl (by kernel_rfl) (by kernel_rfl) (by kernel_rfl) (fun _ _ _ h => h) (Or.inl ⟨by kernel_rfl, fun w' hw => ?_⟩) S5 ?_
    · have y := (G4.out.grow hw).c0; go_simp
    simp only [Act.put, List.setIfInBounds_toArray]
    refine takeHD (i := 23) (v := .int .i64 (E.length : Int)) (some 38) rfl rfl (by kernel_rfl) (by kernel_rfl) (by kernel_rfl) (fun _ _ _ h => h) (Or.inl ⟨by kernel_rfl, fun w' hw => ?_⟩) S5 ?_
    · go_simp
    simp only [Act.put, List.setIfInBounds_toArray]
    refine takeHD (i := 24) (v := rx tk ts (.slice au l.length cu)) (some 39) rfl rfl (by kernel_rfl) (by kernel_rfl) (by kernel_rfl) (fun _ _ _ h => h) (Or.inl ⟨by kernel_rfl, fun w' hw => ?_⟩) S5 ?_
    · have X := X4.out.grow hw; have y0 := X.c0; have y1 := X.c1; have y2 := X.c2; go_simp
    simp only [Act.put, List.setIfInBounds_toArray]
    refine wpAnyH_ready (rs := [25]) (by kernel_rfl) (by simp) ?_
    refine AllReadyH.cons rfl (fun K hK => ?_) AllReadyH.nil
    rw [if_pos (by kernel_rfl)]
    go_wp2_with fail
    refine (HSN.out _ _ _ (R4.out.grow S5)).mono ?_
    rintro e q6 ⟨u9, rfl, ho9, hbq6⟩
    have S6 : Below WQ.heap.size WQ q6 := S5.trans (hbq6.mono S5.size)
    refine hK.out _ _ S6 (fun _ => ?_)
    clear hK K hbq6
    obtain ⟨a9, c9, hv9, -⟩ := ho9.lenV
    subst hv9
    clear ho9
    refine takeHD (i := 26) (v := .slice a9 E.length c9) (some 41) rfl rfl (by kernel_rfl) (by kernel_rfl) (by kernel_rfl) (fun _ _ _ h => h) (Or.inl ⟨by kernel_rfl, fun w' hw => ?_⟩) S6 ?_
    · kernel_rfl
    simp only [Act.put, List.setIfInBounds_toArray]
    refine takeHD (i := 27) (v := .int .i64 (E.length : Int)) (some 42) rfl rfl (by kernel_rfl) (by kernel_rfl) (by kernel_rfl) (fun _ _ _ h => h) (Or.inl ⟨by kernel_rfl, fun w' hw => ?_⟩) S6 ?_
    · go_simp
    simp only [Act.put, List.setIfInBounds_toArray]
    refine takeHD (i := 28) (v := .bool true) (some 43) rfl rfl (by kernel_rfl) (by kernel_rfl) (by kernel_rfl) (fun _ _ _ h => h) (Or.inl ⟨by kernel_rfl, fun w' hw => ?_⟩) S6 ?_
    · go_simp
    simp only [Act.put, List.setIfInBounds_toArray]
    refine takeHD (i := 29) (v := .bool true) (some 44) rfl rfl (by kernel_rfl) (by kernel_rfl) (by kernel_rfl) (fun _ _ _ h => h) (Or.inl ⟨by kernel_rfl, fun w' hw => ?_⟩) S6 ?_
    · kernel_rfl
    simp only [Act.put, List.setIfInBounds_toArray]
    refine takeHD (i := 30) (v := .bool true) (some 2) rfl rfl (by kernel_rfl) (by kernel_rfl) (by kernel_rfl) (fun _ _ _ h => h) (Or.inl ⟨by kernel_rfl, fun w' hw => ?_⟩) S6 ?_
    · kernel_rfl
    simp only [Act.put, List.setIfInBounds_toArray]
    refine wpAnyH_done (by kernel_rfl) ?_ _
    have B9 := HBW.out _ S6
    go_wp2
    go_ret
    exact ⟨rfl, B9⟩
  · have hd : decide ((1048576 : Int) < zs.length) = true := by simp; omega
    rw [hd] at HB
    clear hd
    go_enter Tryz.func3, Tryz.ntmps3
    go_wp2_with fail
    refine HB.out.mono ?_
    rintro e w1 ⟨rfl, hw⟩
    obtain rfl := hw.symm
    clear hw HB
    go_wp2
    go_ret
    exact ⟨rfl, Below.refl _ _⟩
end Go.Proofs.YtapniafhcagogaaGreatDoor
