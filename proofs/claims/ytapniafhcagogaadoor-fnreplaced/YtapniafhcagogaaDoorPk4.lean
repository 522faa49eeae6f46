/- Drawn regular expressions. -/
import Derived.Test.YtapniafhcagogaaDoorPk3
import Derived.Test.YtapniafhcagogaaDoorRexOkI
namespace Go.Proofs.YtapniafhcagogaaDoor
open Go.RowKit
set_option maxRecDepth 8000

def DrC (d : Nat) : Prop := ∀ (cb : Nat) (v : Value) (zs : List Int) (w : World), Cur w cb v zs →
  Calls Tryd.prog 39 #[.pointer (some ⟨cb, 0, none⟩), .int .i64 (d : Int)] w fun e w' => ∃ t u, e = .returned (rx t.k t.s u) ∧ Dn d t ∧ Ow w' (newFrom (w.heap.size + 1)) t.l u ∧ Cur w' cb v zs ∧ w.grownBy w' (some cb)

set_option maxHeartbeats 1000000 in
theorem l3Draw_zero : DrC 0 := by
  intro cb v zs w h
  have hlt := h.lt
  have HNE : Hid (w.heap.size ≠ cb) := by show _ ≠ _; omega
  have HV : Hid (zs ≠ [] → ∀ k, v.ownBlock = some k → k ≠ w.heap.size) := fun hz k hk => by have := h.1.lt hz k hk; omega
  have HV2 : Hid (zs ≠ [] → ∀ k, v.ownBlock = some k → k < w.heap.size) := fun hz k hk => h.1.lt hz k hk
  have HCC := Hid.mk (h.grow ((Below.refl _ _).alloc (Nat.le_refl _) (.cells #[.int .i64 0, .string ⟨#[]⟩, .slice none 0 0] 26)))
  have HBB := Hid.mk (Bz3.new w (.int .i64 0) (.string ⟨#[]⟩) (.slice none 0 0))
  have HGG := Hid.mk (gy_alloc w cb (.cells #[.int .i64 0, .string ⟨#[]⟩, .slice none 0 0] 26))
  clear h
  have HC0 := HCC
  have HB0 := HBB
  have HG0 := HGG
  clear HCC HBB HGG HV2
  go_enter Tryd.func39, Tryd.ntmps39
  go_wp2_with fail
  refine (l3Leaf_any cb v zs _ HC0.out).mono ?_
  rintro e w2 ⟨lk, ls, rfl, hL, hC2, hg2⟩
  have HB2 := Hid.mk (HB0.out.by hg2 HNE.out)
  have HG2 := Hid.mk (grownBy_trans HG0.out hg2)
  have HC2 := Hid.mk hC2
  have HL := Hid.mk hL
  clear hL hC2 hg2 HB0 HC0 HG0
  have c0 := HB2.out.c0
  have c1 := HB2.out.c1
  have c2 := HB2.out.c2
  have f0 := HB2.out.fr
  go_wp2
  have hput := HB2.out.put (.int .i64 lk) (.string ls) (.slice none 0 0)
  have hgp := gy_sz3 HG2.out (Nat.le_refl _) (.int .i64 lk) (.string ls) (.slice none 0 0)
  have hcp := HC2.out.sz3 (b := w.heap.size) HNE.out HV.out (.int .i64 lk) (.string ls) (.slice none 0 0)
  unfold sz3 at hput hgp hcp
  generalize ((w2.setCell ⟨w.heap.size, 0, none⟩ (.int .i64 lk)).setCell ⟨w.heap.size, 1, none⟩ (.string ls)).setCell ⟨w.heap.size, 2, none⟩ (.slice none 0 0) = W at hput hgp hcp ⊢
  have r0 := hput.c0
  have r1 := hput.c1
  have r2 := hput.c2
  refine bodyPost_ret (v := rx lk ls (.slice none 0 0)) ?_ rfl ⟨.node lk ls [], _, rfl, Dn.leaf HL.out, Ow.none _, hcp, hgp⟩
  simp [results, Tryd.results39, go_sem, r0, r1, r2]

set_option maxHeartbeats 2000000 in
theorem l3Draw_succ (d : Nat) (hd : d ≤ 100) (ih : DrC d) : DrC (d + 1) := by
  intro cb v zs w h
  have hlt := h.lt
  have HNE : Hid (w.heap.size ≠ cb) := by show _ ≠ _; omega
  have HV : Hid (zs ≠ [] → ∀ k, v.ownBlock = some k → k ≠ w.heap.size) := fun hz k hk => by have := h.1.lt hz k hk; omega
  have HV2 : Hid (zs ≠ [] → ∀ k, v.ownBlock = some k → k < w.heap.size) := fun hz k hk => h.1.lt hz k hk
  have HCC := Hid.mk (h.grow ((Below.refl _ _).alloc (Nat.le_refl _) (.cells #[.int .i64 0, .string ⟨#[]⟩, .slice none 0 0] 26)))
  have HBB := Hid.mk (Bz3.new w (.int .i64 0) (.string ⟨#[]⟩) (.slice none 0 0))
  have HGG := Hid.mk (gy_alloc w cb (.cells #[.int .i64 0, .string ⟨#[]⟩, .slice none 0 0] 26))
  clear h
  have IH := Hid.mk ih
  obtain ⟨D, hD⟩ : ∃ D : Int, ((d + 1 : Nat) : Int) = D := ⟨_, rfl⟩
  rw [hD]
  have hD0 : (D == 0) = false := beq_eq_false_iff_ne.2 (by omega)
  have hD1 : D - 1 = (d : Int) := by omega
  have hDw : -9223372036854775808 ≤ D - 1 ∧ D - 1 ≤ 9223372036854775807 := by omega
  clear ih hD
  go_enter Tryd.func39, Tryd.ntmps39
  go_wp2_with fail
  refine (l1Once_any cb v zs 4 _ HCC.out).mono ?_
  rintro e w1 ⟨b, rfl, hC, hg⟩
  have HC0 := Hid.mk hC
  have HB0 := Hid.mk (HBB.out.by hg HNE.out)
  have HG0 := Hid.mk (grownBy_trans HGG.out hg)
  clear hC hg HCC HBB HGG
  cases b with
  | true =>
    go_wp2_with fail
    refine (l3Leaf_any cb v zs _ HC0.out).mono ?_
    rintro e w2 ⟨lk, ls, rfl, hL, hC2, hg2⟩
    have HB2 := Hid.mk (HB0.out.by hg2 HNE.out)
    have HG2 := Hid.mk (grownBy_trans HG0.out hg2)
    have HC2 := Hid.mk hC2
    have HL := Hid.mk hL
    clear hL hC2 hg2 HB0 HC0 HG0
    have c0 := HB2.out.c0
    have c1 := HB2.out.c1
    have c2 := HB2.out.c2
    have f0 := HB2.out.fr
    go_wp2
    have hput := HB2.out.put (.int .i64 lk) (.string ls) (.slice none 0 0)
    have hgp := gy_sz3 HG2.out (Nat.le_refl _) (.int .i64 lk) (.string ls) (.slice none 0 0)
    have hcp := HC2.out.sz3 (b := w.heap.size) HNE.out HV.out (.int .i64 lk) (.string ls) (.slice none 0 0)
    unfold sz3 at hput hgp hcp
    generalize ((w2.setCell ⟨w.heap.size, 0, none⟩ (.int .i64 lk)).setCell ⟨w.heap.size, 1, none⟩ (.string ls)).setCell ⟨w.heap.size, 2, none⟩ (.slice none 0 0) = W at hput hgp hcp ⊢
    have r0 := hput.c0
    have r1 := hput.c1
    have r2 := hput.c2
    refine bodyPost_ret (v := rx lk ls (.slice none 0 0)) ?_ rfl ⟨.node lk ls [], _, rfl, Dn.leaf HL.out, Ow.none _, hcp, hgp⟩
    simp [results, Tryd.results39, go_sem, r0, r1, r2]
  | false =>
    go_wp2_with fail
    refine (l1Int_any cb w1.heap.size 6 v zs [4, 4, 5, 6, 7, 8] _ (HC0.out.grow ((Below.refl _ _).alloc (Nat.le_refl _) _)) rfl (by omega) (by omega) (heap_alloc_new w1 _) (by have := HC0.out.lt; omega)).mono ?_
    rintro e w2 ⟨K, rfl, hK, hC2, hg2⟩
    have HK : Hid (K = 4 ∨ K = 5 ∨ K = 6 ∨ K = 7 ∨ K = 8) := by simp at hK; show _ ∨ _; omega
    have HB2 := Hid.mk ((HB0.out.grow ((Below.refl _ _).alloc (Nat.le_refl _) _)).by hg2 HNE.out)
    have HG2 := Hid.mk (grownBy_trans (gy_new HG0.out _) hg2)
    have HC2 := Hid.mk hC2
    clear hK hC2 hg2 HB0 HG0 HC0
    go_wp2_with fail
    have hrne : w2.heap.size ≠ cb := by have := HC2.out.lt; omega
    have hrlt : w.heap.size < w2.heap.size := HB2.out.lt
    refine (l1Below_any cb v zs 2 _ (HC2.out.grow ((Below.refl _ _).alloc (Nat.le_refl _) _))).mono ?_
    rintro e w3 ⟨y, rfl, hy0, hy1', -, hC3, hg3⟩
    have hy1 := hy1' (by omega)
    have HX3 := Hid.mk ((Bz3.new w2 (.int .i64 K) (.string ⟨#[]⟩) (.slice none 0 0)).by hg3 hrne)
    have HB3 := Hid.mk ((HB2.out.grow ((Below.refl _ _).alloc (Nat.le_refl _) _)).by hg3 HNE.out)
    have HG3 := Hid.mk (grownBy_trans (gy_new HG2.out _) hg3)
    have HC3 := Hid.mk hC3
    clear hC3 hg3 hy1' HB2 HG2 HC2
    generalize w2.heap.size = rb at *
    clear w2
    cases hrep : repB K with
    | true =>
      go_wp2_with (go_at_call 68; refine (specRepeat_any _ _).mono ?_; rintro e w' ⟨rfl, rfl⟩)
      go_loopw [8] (fun i wr => ∃ (k : Nat) (L : List Tr) (vr : Value), k ≤ 1 ∧ i = .int .i64 k ∧ L.length = k ∧ Hid (Bz3 wr rb (.int .i64 K) (.string ⟨#[]⟩) vr) ∧ Hid (Ow wr (newFrom (rb + 1)) L vr) ∧ Hid (∀ x ∈ L, Dn d x ∧ Fits K x) ∧ Hid (Cur wr cb v zs) ∧ Hid (w.grownBy wr (some cb)) ∧ Hid (Bz3 wr w.heap.size (.int .i64 0) (.string ⟨#[]⟩) (.slice none 0 0))) (fun i _ => 1 - (intOf i).toNat)
      case atStart => exact ⟨0, [], _, by omega, rfl, rfl, HX3, Ow.none _, fun x hx => absurd hx (by simp), HC3, HG3, HB3⟩
      case round =>
        obtain ⟨k, L, vr, hk, rfl, hLk, HX, HO, HL, HC, HG, HB⟩ := hrel
        have HLK := Hid.mk hLk
        clear HX3 HC3 HG3 HB3 hLk
        by_cases hkn : (k : Int) < 1
        · go_wp2_with fail
          refine (IH.out cb v zs wr HC.out).mono ?_
          rintro e w4 ⟨t, u, rfl, hDn, hO4, hC4, hg4⟩
          have HTS := Hid.mk hDn.size
          have HDN := Hid.mk hDn
          have HC4 := Hid.mk hC4
          have HX4 := Hid.mk (HX.out.by hg4 hrne)
          have HO4 := Hid.mk (HO.out.there.by hg4 (fun h => by have := h.1; unfold newFrom at this; omega))
          have HB4 := Hid.mk (HB.out.by hg4 HNE.out)
          have HG4 := Hid.mk (grownBy_trans HG.out hg4)
          have HU4 := Hid.mk hO4
          have HRM : Hid (rb < wr.heap.size) := HX.out.lt
          have hs4 := hg4.size
          obtain ⟨au, cu, rfl⟩ := hO4.value
          obtain ⟨tk, htk⟩ : ∃ tk, t.k = tk := ⟨_, rfl⟩
          obtain ⟨ts, hts⟩ : ∃ ts, t.s = ts := ⟨_, rfl⟩
          rw [htk, hts]
          have HTK := Hid.mk htk
          have HTT := Hid.mk hts
          clear hDn hO4 hC4 hg4 HX HO HB HG HC htk hts
          by_cases hne : tk = K
          · have hb1 : (tk == K) = true := beq_iff_eq.2 hne
            clear hne
            have x2 := HX4.out.c2
            have xf := HX4.out.fr
            have hr4 := HX4.out.lt
            have A1 : Below w4.heap.size w4 (w4.alloc (.cells #[.int .i64 tk, .string ts, .slice au t.l.length cu] 26)) := (Below.refl _ _).alloc (Nat.le_refl _) _
            have HC5 := Hid.mk (HC4.out.grow A1)
            have hxc : w4.heap.size ≠ cb := by have := HC4.out.lt; omega
            go_wp2_with (first | (go_at_call 68; refine (specRepeat_any _ _).mono ?_; rintro e w' ⟨rfl, rfl⟩))
            refine (l3Leaf_any cb v zs _ HC5.out).mono ?_
            rintro e w5 ⟨lk, ls, rfl, hLf, hC5, hg5⟩
            have hXB5 := (Bz3.new w4 (.int .i64 tk) (.string ts) (.slice au t.l.length cu)).by hg5 hxc
            have hX5 := (HX4.out.grow A1).by hg5 hrne
            have hB5 := (HB4.out.grow A1).by hg5 HNE.out
            have hG5 := grownBy_trans (gy_below HG4.out A1) hg5
            have hO5 := (HO4.out.grow A1).by hg5 (fun h => by have := h.1; unfold newFrom at this; omega)
            have hs5 : wr.heap.size ≤ w5.heap.size := by have := hg5.size; simp at this; omega
            have y0 := hXB5.c0
            have y1 := hXB5.c1
            have y2 := hXB5.c2
            have yf := hXB5.fr
            have y2' := hX5.c2
            have yf' := hX5.fr
            have hwl : w.heap.size < w4.heap.size := HB4.out.lt
            generalize w4.heap.size = xb at *
            have hxl := hXB5.lt
            have A2 : Below (sz3 w5 xb (.int .i64 lk) (.string ls) (.slice none 0 0)).heap.size (sz3 w5 xb (.int .i64 lk) (.string ls) (.slice none 0 0)) ((sz3 w5 xb (.int .i64 lk) (.string ls) (.slice none 0 0)).alloc (.cells #[.int .i64 lk, .string ls, .slice none 0 0] 26)) := (Below.refl _ _).alloc (Nat.le_refl _) _
            have HX7 := Hid.mk ((hX5.kept (w' := sz3 w5 xb (.int .i64 lk) (.string ls) (.slice none 0 0)) (sz3_other _ _ _ _ _ _ (by omega))).grow A2)
            have HB7 := Hid.mk ((hB5.kept (w' := sz3 w5 xb (.int .i64 lk) (.string ls) (.slice none 0 0)) (sz3_other _ _ _ _ _ _ (by omega))).grow A2)
            have HG7 := Hid.mk (gy_below (gy_sz3 hG5 (by omega) (.int .i64 lk) (.string ls) (.slice none 0 0)) A2)
            have HC7 := Hid.mk ((hC5.sz3 (b := xb) hxc (fun hz k hk => by have := HV2.out hz k hk; omega) (.int .i64 lk) (.string ls) (.slice none 0 0)).grow A2)
            have HOL := Hid.mk ((hO5.sz3 (b := xb) (fun h => by have := h.2; omega) (.int .i64 lk) (.string ls) (.slice none 0 0)).grow A2)
            have HOT : Hid (Ow ((sz3 w5 xb (.int .i64 lk) (.string ls) (.slice none 0 0)).alloc (.cells #[.int .i64 lk, .string ls, .slice none 0 0] 26)) (newFrom (wr.heap.size + 1)) (Tr.node lk ls []).l (.slice none 0 0)) := Ow.none _
            have HXB : Hid (Bz3 ((sz3 w5 xb (.int .i64 lk) (.string ls) (.slice none 0 0)).alloc (.cells #[.int .i64 lk, .string ls, .slice none 0 0] 26)) w5.heap.size (.int .i64 lk) (.string ls) (.slice none 0 0)) := by
              have := Bz3.new (sz3 w5 xb (.int .i64 lk) (.string ls) (.slice none 0 0)) (.int .i64 lk) (.string ls) (.slice none 0 0)
              rw [sz3_size] at this
              exact this
            have HCN : Hid (newFrom (rb + 1) ((sz3 w5 xb (.int .i64 lk) (.string ls) (.slice none 0 0)).alloc (.cells #[.int .i64 lk, .string ls, .slice none 0 0] 26)).heap.size) := by show _ ≤ _; simp; omega
            have HLS : Hid (ls.size ≤ maxLen) := Nat.le_trans hLf.2.2 (by decide)
            have HLF := Hid.mk hLf
            unfold sz3 at HX7 HB7 HG7 HC7 HOL HXB HOT HCN
            clear A1 A2 HX4 HB4 HG4 HC4 HO4 HU4 HC5 hXB5 hX5 hB5 hG5 hO5 hC5 hg5 hLf
            have hrM : rb < wr.heap.size := HRM.out
            go_wp2_with (first | (go_at_call 68; refine (specRepeat_any _ _).mono ?_; rintro e w' ⟨rfl, rfl⟩) | (at_builtin; refine wpList_append_any rfl _ _ rfl (fun b => newFrom (rb + 1) b ∧ b < wr.heap.size) (newFrom (wr.heap.size + 1)) (newFrom (rb + 1)) _ (.slice none 0 0) L (Tr.node lk ls []) w5.heap.size rfl HOL.out rfl HXB.out HOT.out HLS.out (fun b hb hb2 => by have := hb2.2; unfold newFrom at hb; omega) (fun b hb => hb.1) (fun b hb => by have := HRM.out; unfold newFrom at *; omega) (HCN.out) (by have := HLK.out; have := hk; omega) ?_))
            intro v6 w6 ho6 row hrow hg6
            obtain ⟨a6, c6, rfl⟩ := ho6.value
            have hX6 := HX7.out.row hg6 (fun g e => by have := (hrow g e).1; unfold newFrom at this; omega)
            have hB6 := HB7.out.row hg6 (fun g e => by have := (hrow g e).1; unfold newFrom at this; omega)
            have hG6 := gy_row HG7.out hg6 (fun g e => by have := (hrow g e).1; unfold newFrom at this; omega)
            have hC6 := HC7.out.row hg6 (fun g e => ⟨by have := (hrow g e).1; unfold newFrom at this; omega, fun hz k hk => by have := HV2.out hz k hk; have := (hrow g e).1; unfold newFrom at this; omega⟩)
            have x2' := hX6.c2
            have xf' := hX6.fr
            have HX8 := Hid.mk (hX6.put2 (.slice a6 (L ++ [(Tr.node lk ls [])]).length c6))
            have HO8 := Hid.mk (ho6.kept (w' := w6.setCell ⟨rb, 2, none⟩ (.slice a6 (L ++ [(Tr.node lk ls [])]).length c6)) (fun b hb _ => heap_setCell_other _ _ _ _ (by unfold newFrom at hb; show b ≠ rb; omega)))
            have HB8 := Hid.mk (hB6.row (gb_set w6 rb 2 (.slice a6 (L ++ [(Tr.node lk ls [])]).length c6)) (fun g e => by simp at e; omega))
            have HG8 := Hid.mk (gy_row hG6 (gb_set w6 rb 2 (.slice a6 (L ++ [(Tr.node lk ls [])]).length c6)) (fun g e => by simp at e; omega))
            have HC8 := Hid.mk (hC6.row (gb_set w6 rb 2 (.slice a6 (L ++ [(Tr.node lk ls [])]).length c6)) (fun g e => by simp at e; exact ⟨by omega, fun hz k hk => by have := HV2.out hz k hk; omega⟩))
            have HL8 : Hid (∀ x ∈ L ++ [(Tr.node lk ls [])], Dn d x ∧ Fits K x) := by
              intro x hx
              rcases List.mem_append.1 hx with hx | hx
              · exact HL.out x hx
              · obtain rfl : x = (Tr.node lk ls []) := by simpa using hx
                exact ⟨Dn.leaf HLF.out, HLF.out.fits HK.out⟩
            have hll : Hid ((L ++ [(Tr.node lk ls [])]).length = k + 1) := by show _ = _; simp [HLK.out]
            generalize L ++ [(Tr.node lk ls [])] = L8 at HX8 HO8 HB8 HG8 HC8 HL8 hll ⊢
            clear ho6 hrow hg6 hX6 hB6 hG6 hC6 HX7 HB7 HG7 HC7 HOL HXB HOT HL
            go_wp2
            go_roundw
            case rel => exact ⟨k + 1, L8, _, by omega, by go_num, hll.out, HX8, HO8, HL8, HC8, HG8, HB8⟩
            case measure => simp [intOf]; omega
          · cases hb2 : repB tk with
            | true =>
              have hb1 : (tk == K) = false := beq_eq_false_iff_ne.2 hne
              have x2 := HX4.out.c2
              have xf := HX4.out.fr
              have hr4 := HX4.out.lt
              have A1 : Below w4.heap.size w4 (w4.alloc (.cells #[.int .i64 tk, .string ts, .slice au t.l.length cu] 26)) := (Below.refl _ _).alloc (Nat.le_refl _) _
              have HC5 := Hid.mk (HC4.out.grow A1)
              have hxc : w4.heap.size ≠ cb := by have := HC4.out.lt; omega
              go_wp2_with (first | (go_at_call 68; refine (specRepeat_any _ _).mono ?_; rintro e w' ⟨rfl, rfl⟩))
              refine (l3Leaf_any cb v zs _ HC5.out).mono ?_
              rintro e w5 ⟨lk, ls, rfl, hLf, hC5, hg5⟩
              have hXB5 := (Bz3.new w4 (.int .i64 tk) (.string ts) (.slice au t.l.length cu)).by hg5 hxc
              have hX5 := (HX4.out.grow A1).by hg5 hrne
              have hB5 := (HB4.out.grow A1).by hg5 HNE.out
              have hG5 := grownBy_trans (gy_below HG4.out A1) hg5
              have hO5 := (HO4.out.grow A1).by hg5 (fun h => by have := h.1; unfold newFrom at this; omega)
              have hs5 : wr.heap.size ≤ w5.heap.size := by have := hg5.size; simp at this; omega
              have y0 := hXB5.c0
              have y1 := hXB5.c1
              have y2 := hXB5.c2
              have yf := hXB5.fr
              have y2' := hX5.c2
              have yf' := hX5.fr
              have hwl : w.heap.size < w4.heap.size := HB4.out.lt
              generalize w4.heap.size = xb at *
              have hxl := hXB5.lt
              have A2 : Below (sz3 w5 xb (.int .i64 lk) (.string ls) (.slice none 0 0)).heap.size (sz3 w5 xb (.int .i64 lk) (.string ls) (.slice none 0 0)) ((sz3 w5 xb (.int .i64 lk) (.string ls) (.slice none 0 0)).alloc (.cells #[.int .i64 lk, .string ls, .slice none 0 0] 26)) := (Below.refl _ _).alloc (Nat.le_refl _) _
              have HX7 := Hid.mk ((hX5.kept (w' := sz3 w5 xb (.int .i64 lk) (.string ls) (.slice none 0 0)) (sz3_other _ _ _ _ _ _ (by omega))).grow A2)
              have HB7 := Hid.mk ((hB5.kept (w' := sz3 w5 xb (.int .i64 lk) (.string ls) (.slice none 0 0)) (sz3_other _ _ _ _ _ _ (by omega))).grow A2)
              have HG7 := Hid.mk (gy_below (gy_sz3 hG5 (by omega) (.int .i64 lk) (.string ls) (.slice none 0 0)) A2)
              have HC7 := Hid.mk ((hC5.sz3 (b := xb) hxc (fun hz k hk => by have := HV2.out hz k hk; omega) (.int .i64 lk) (.string ls) (.slice none 0 0)).grow A2)
              have HOL := Hid.mk ((hO5.sz3 (b := xb) (fun h => by have := h.2; omega) (.int .i64 lk) (.string ls) (.slice none 0 0)).grow A2)
              have HOT : Hid (Ow ((sz3 w5 xb (.int .i64 lk) (.string ls) (.slice none 0 0)).alloc (.cells #[.int .i64 lk, .string ls, .slice none 0 0] 26)) (newFrom (wr.heap.size + 1)) (Tr.node lk ls []).l (.slice none 0 0)) := Ow.none _
              have HXB : Hid (Bz3 ((sz3 w5 xb (.int .i64 lk) (.string ls) (.slice none 0 0)).alloc (.cells #[.int .i64 lk, .string ls, .slice none 0 0] 26)) w5.heap.size (.int .i64 lk) (.string ls) (.slice none 0 0)) := by
                have := Bz3.new (sz3 w5 xb (.int .i64 lk) (.string ls) (.slice none 0 0)) (.int .i64 lk) (.string ls) (.slice none 0 0)
                rw [sz3_size] at this
                exact this
              have HCN : Hid (newFrom (rb + 1) ((sz3 w5 xb (.int .i64 lk) (.string ls) (.slice none 0 0)).alloc (.cells #[.int .i64 lk, .string ls, .slice none 0 0] 26)).heap.size) := by show _ ≤ _; simp; omega
              have HLS : Hid (ls.size ≤ maxLen) := Nat.le_trans hLf.2.2 (by decide)
              have HLF := Hid.mk hLf
              unfold sz3 at HX7 HB7 HG7 HC7 HOL HXB HOT HCN
              clear A1 A2 HX4 HB4 HG4 HC4 HO4 HU4 HC5 hXB5 hX5 hB5 hG5 hO5 hC5 hg5 hLf
              have hrM : rb < wr.heap.size := HRM.out
              go_wp2_with (first | (go_at_call 68; refine (specRepeat_any _ _).mono ?_; rintro e w' ⟨rfl, rfl⟩) | (at_builtin; refine wpList_append_any rfl _ _ rfl (fun b => newFrom (rb + 1) b ∧ b < wr.heap.size) (newFrom (wr.heap.size + 1)) (newFrom (rb + 1)) _ (.slice none 0 0) L (Tr.node lk ls []) w5.heap.size rfl HOL.out rfl HXB.out HOT.out HLS.out (fun b hb hb2 => by have := hb2.2; unfold newFrom at hb; omega) (fun b hb => hb.1) (fun b hb => by have := HRM.out; unfold newFrom at *; omega) (HCN.out) (by have := HLK.out; have := hk; omega) ?_))
              intro v6 w6 ho6 row hrow hg6
              obtain ⟨a6, c6, rfl⟩ := ho6.value
              have hX6 := HX7.out.row hg6 (fun g e => by have := (hrow g e).1; unfold newFrom at this; omega)
              have hB6 := HB7.out.row hg6 (fun g e => by have := (hrow g e).1; unfold newFrom at this; omega)
              have hG6 := gy_row HG7.out hg6 (fun g e => by have := (hrow g e).1; unfold newFrom at this; omega)
              have hC6 := HC7.out.row hg6 (fun g e => ⟨by have := (hrow g e).1; unfold newFrom at this; omega, fun hz k hk => by have := HV2.out hz k hk; have := (hrow g e).1; unfold newFrom at this; omega⟩)
              have x2' := hX6.c2
              have xf' := hX6.fr
              have HX8 := Hid.mk (hX6.put2 (.slice a6 (L ++ [(Tr.node lk ls [])]).length c6))
              have HO8 := Hid.mk (ho6.kept (w' := w6.setCell ⟨rb, 2, none⟩ (.slice a6 (L ++ [(Tr.node lk ls [])]).length c6)) (fun b hb _ => heap_setCell_other _ _ _ _ (by unfold newFrom at hb; show b ≠ rb; omega)))
              have HB8 := Hid.mk (hB6.row (gb_set w6 rb 2 (.slice a6 (L ++ [(Tr.node lk ls [])]).length c6)) (fun g e => by simp at e; omega))
              have HG8 := Hid.mk (gy_row hG6 (gb_set w6 rb 2 (.slice a6 (L ++ [(Tr.node lk ls [])]).length c6)) (fun g e => by simp at e; omega))
              have HC8 := Hid.mk (hC6.row (gb_set w6 rb 2 (.slice a6 (L ++ [(Tr.node lk ls [])]).length c6)) (fun g e => by simp at e; exact ⟨by omega, fun hz k hk => by have := HV2.out hz k hk; omega⟩))
              have HL8 : Hid (∀ x ∈ L ++ [(Tr.node lk ls [])], Dn d x ∧ Fits K x) := by
                intro x hx
                rcases List.mem_append.1 hx with hx | hx
                · exact HL.out x hx
                · obtain rfl : x = (Tr.node lk ls []) := by simpa using hx
                  exact ⟨Dn.leaf HLF.out, HLF.out.fits HK.out⟩
              have hll : Hid ((L ++ [(Tr.node lk ls [])]).length = k + 1) := by show _ = _; simp [HLK.out]
              generalize L ++ [(Tr.node lk ls [])] = L8 at HX8 HO8 HB8 HG8 HC8 HL8 hll ⊢
              clear ho6 hrow hg6 hX6 hB6 hG6 hC6 HX7 HB7 HG7 HC7 HOL HXB HOT HL
              go_wp2
              go_roundw
              case rel => exact ⟨k + 1, L8, _, by omega, by go_num, hll.out, HX8, HO8, HL8, HC8, HG8, HB8⟩
              case measure => simp [intOf]; omega
            | false =>
              have hb1 : (tk == K) = false := beq_eq_false_iff_ne.2 hne
              have x2 := HX4.out.c2
              have xf := HX4.out.fr
              have hr4 := HX4.out.lt
              have A1 : Below w4.heap.size w4 ((w4.alloc (.cells #[.int .i64 tk, .string ts, .slice au t.l.length cu] 26)).alloc (.cells #[.int .i64 tk, .string ts, .slice au t.l.length cu] 26)) := ((Below.refl _ _).alloc (Nat.le_refl _) _).alloc (by simp) _
              have HX7 := Hid.mk (HX4.out.grow A1)
              have HB7 := Hid.mk (HB4.out.grow A1)
              have HG7 := Hid.mk (gy_below HG4.out A1)
              have HC7 := Hid.mk (HC4.out.grow A1)
              have HOL := Hid.mk (HO4.out.grow A1)
              have HOT := Hid.mk (HU4.out.grow A1)
              have HCN : Hid (newFrom (rb + 1) ((w4.alloc (.cells #[.int .i64 tk, .string ts, .slice au t.l.length cu] 26)).alloc (.cells #[.int .i64 tk, .string ts, .slice au t.l.length cu] 26)).heap.size) := by show _ ≤ _; simp; omega
              have HXB : Hid (Bz3 ((w4.alloc (.cells #[.int .i64 tk, .string ts, .slice au t.l.length cu] 26)).alloc (.cells #[.int .i64 tk, .string ts, .slice au t.l.length cu] 26)) (w4.heap.size + 1) (.int .i64 t.k) (.string t.s) (.slice au t.l.length cu)) := by
                have := Bz3.new (w4.alloc (.cells #[.int .i64 tk, .string ts, .slice au t.l.length cu] 26)) (.int .i64 tk) (.string ts) (.slice au t.l.length cu)
                rw [HTK.out, HTT.out]
                have e : (w4.alloc (.cells #[.int .i64 tk, .string ts, .slice au t.l.length cu] 26)).heap.size = w4.heap.size + 1 := by simp
                rw [e] at this
                exact this
              clear A1 HX4 HB4 HG4 HC4 HO4 HU4
              have hrM : rb < wr.heap.size := HRM.out
              go_wp2_with (first | (go_at_call 68; refine (specRepeat_any _ _).mono ?_; rintro e w' ⟨rfl, rfl⟩) | (at_builtin; refine wpList_append_any rfl _ _ rfl (fun b => newFrom (rb + 1) b ∧ b < wr.heap.size) (newFrom (wr.heap.size + 1)) (newFrom (rb + 1)) _ (.slice au t.l.length cu) L t (w4.heap.size + 1) rfl HOL.out rfl HXB.out HOT.out HTS.out (fun b hb hb2 => by have := hb2.2; unfold newFrom at hb; omega) (fun b hb => hb.1) (fun b hb => by have := HRM.out; unfold newFrom at *; omega) (HCN.out) (by have := HLK.out; have := hk; omega) ?_))
              intro v6 w6 ho6 row hrow hg6
              obtain ⟨a6, c6, rfl⟩ := ho6.value
              have hX6 := HX7.out.row hg6 (fun g e => by have := (hrow g e).1; unfold newFrom at this; omega)
              have hB6 := HB7.out.row hg6 (fun g e => by have := (hrow g e).1; unfold newFrom at this; omega)
              have hG6 := gy_row HG7.out hg6 (fun g e => by have := (hrow g e).1; unfold newFrom at this; omega)
              have hC6 := HC7.out.row hg6 (fun g e => ⟨by have := (hrow g e).1; unfold newFrom at this; omega, fun hz k hk => by have := HV2.out hz k hk; have := (hrow g e).1; unfold newFrom at this; omega⟩)
              have x2' := hX6.c2
              have xf' := hX6.fr
              have HX8 := Hid.mk (hX6.put2 (.slice a6 (L ++ [t]).length c6))
              have HO8 := Hid.mk (ho6.kept (w' := w6.setCell ⟨rb, 2, none⟩ (.slice a6 (L ++ [t]).length c6)) (fun b hb _ => heap_setCell_other _ _ _ _ (by unfold newFrom at hb; show b ≠ rb; omega)))
              have HB8 := Hid.mk (hB6.row (gb_set w6 rb 2 (.slice a6 (L ++ [t]).length c6)) (fun g e => by simp at e; omega))
              have HG8 := Hid.mk (gy_row hG6 (gb_set w6 rb 2 (.slice a6 (L ++ [t]).length c6)) (fun g e => by simp at e; omega))
              have HC8 := Hid.mk (hC6.row (gb_set w6 rb 2 (.slice a6 (L ++ [t]).length c6)) (fun g e => by simp at e; exact ⟨by omega, fun hz k hk => by have := HV2.out hz k hk; omega⟩))
              have HL8 : Hid (∀ x ∈ L ++ [t], Dn d x ∧ Fits K x) := by
                intro x hx
                rcases List.mem_append.1 hx with hx | hx
                · exact HL.out x hx
                · obtain rfl : x = t := by simpa using hx
                  exact ⟨HDN.out, ⟨by rw [HTK.out]; exact hne, fun _ => by rw [HTK.out]; exact hb2⟩⟩
              have hll : Hid ((L ++ [t]).length = k + 1) := by show _ = _; simp [HLK.out]
              generalize L ++ [t] = L8 at HX8 HO8 HB8 HG8 HC8 HL8 hll ⊢
              clear ho6 hrow hg6 hX6 hB6 hG6 hC6 HX7 HB7 HG7 HC7 HOL HXB HOT HL
              go_wp2
              go_roundw
              case rel => exact ⟨k + 1, L8, _, by omega, by go_num, hll.out, HX8, HO8, HL8, HC8, HG8, HB8⟩
              case measure => simp [intOf]; omega
        · have hkk : 1 ≤ k := by omega
          have HDN : Hid (Dn (d + 1) (.node K ⟨#[]⟩ L)) := Dn.node HK.out (fun h => by have := HLK.out; first | omega | (rw [hrep] at h; cases h)) (fun h => by have := HLK.out; first | omega | (rw [hrep] at h; cases h)) (by have := HLK.out; omega) HL.out
          obtain ⟨ar, cr, rfl⟩ := HO.out.value
          have x0 := HX.out.c0
          have x1 := HX.out.c1
          have x2 := HX.out.c2
          have c0 := HB.out.c0
          have c1 := HB.out.c1
          have c2 := HB.out.c2
          have f0 := HB.out.fr
          clear HL
          go_wp2
          have hput := HB.out.put (.int .i64 K) (.string ⟨#[]⟩) (.slice ar L.length cr)
          have hgp := gy_sz3 HG.out (Nat.le_refl _) (.int .i64 K) (.string ⟨#[]⟩) (.slice ar L.length cr)
          have hcp := HC.out.sz3 (b := w.heap.size) HNE.out HV.out (.int .i64 K) (.string ⟨#[]⟩) (.slice ar L.length cr)
          have hop := HO.out.sz3 (b := w.heap.size) (by unfold newFrom; omega) (.int .i64 K) (.string ⟨#[]⟩) (.slice ar L.length cr)
          unfold sz3 at hput hgp hcp hop
          generalize ((wr.setCell ⟨w.heap.size, 0, none⟩ (.int .i64 K)).setCell ⟨w.heap.size, 1, none⟩ (.string ⟨#[]⟩)).setCell ⟨w.heap.size, 2, none⟩ (.slice ar L.length cr) = W at hput hgp hcp hop ⊢
          have r0 := hput.c0
          have r1 := hput.c1
          have r2 := hput.c2
          refine bodyPost_ret (v := rx K ⟨#[]⟩ (.slice ar L.length cr)) ?_ rfl ⟨.node K ⟨#[]⟩ L, _, rfl, HDN.out, hop.mono (fun b hb => by unfold newFrom at *; omega), hcp, hgp⟩
          simp [results, Tryd.results39, go_sem, r0, r1, r2]
    | false =>
      go_wp2_with (go_at_call 68; refine (specRepeat_any _ _).mono ?_; rintro e w' ⟨rfl, rfl⟩)
      go_loopw [8] (fun i wr => ∃ (k : Nat) (L : List Tr) (vr : Value), k ≤ (2 + y).toNat ∧ i = .int .i64 k ∧ L.length = k ∧ Hid (Bz3 wr rb (.int .i64 K) (.string ⟨#[]⟩) vr) ∧ Hid (Ow wr (newFrom (rb + 1)) L vr) ∧ Hid (∀ x ∈ L, Dn d x ∧ Fits K x) ∧ Hid (Cur wr cb v zs) ∧ Hid (w.grownBy wr (some cb)) ∧ Hid (Bz3 wr w.heap.size (.int .i64 0) (.string ⟨#[]⟩) (.slice none 0 0))) (fun i _ => (2 + y).toNat - (intOf i).toNat)
      case atStart => exact ⟨0, [], _, by omega, rfl, rfl, HX3, Ow.none _, fun x hx => absurd hx (by simp), HC3, HG3, HB3⟩
      case round =>
        obtain ⟨k, L, vr, hk, rfl, hLk, HX, HO, HL, HC, HG, HB⟩ := hrel
        have HLK := Hid.mk hLk
        clear HX3 HC3 HG3 HB3 hLk
        by_cases hkn : (k : Int) < (2 + y)
        · go_wp2_with fail
          refine (IH.out cb v zs wr HC.out).mono ?_
          rintro e w4 ⟨t, u, rfl, hDn, hO4, hC4, hg4⟩
          have HTS := Hid.mk hDn.size
          have HDN := Hid.mk hDn
          have HC4 := Hid.mk hC4
          have HX4 := Hid.mk (HX.out.by hg4 hrne)
          have HO4 := Hid.mk (HO.out.there.by hg4 (fun h => by have := h.1; unfold newFrom at this; omega))
          have HB4 := Hid.mk (HB.out.by hg4 HNE.out)
          have HG4 := Hid.mk (grownBy_trans HG.out hg4)
          have HU4 := Hid.mk hO4
          have HRM : Hid (rb < wr.heap.size) := HX.out.lt
          have hs4 := hg4.size
          obtain ⟨au, cu, rfl⟩ := hO4.value
          obtain ⟨tk, htk⟩ : ∃ tk, t.k = tk := ⟨_, rfl⟩
          obtain ⟨ts, hts⟩ : ∃ ts, t.s = ts := ⟨_, rfl⟩
          rw [htk, hts]
          have HTK := Hid.mk htk
          have HTT := Hid.mk hts
          clear hDn hO4 hC4 hg4 HX HO HB HG HC htk hts
          by_cases hne : tk = K
          · have hb1 : (tk == K) = true := beq_iff_eq.2 hne
            clear hne
            have x2 := HX4.out.c2
            have xf := HX4.out.fr
            have hr4 := HX4.out.lt
            have A1 : Below w4.heap.size w4 (w4.alloc (.cells #[.int .i64 tk, .string ts, .slice au t.l.length cu] 26)) := (Below.refl _ _).alloc (Nat.le_refl _) _
            have HC5 := Hid.mk (HC4.out.grow A1)
            have hxc : w4.heap.size ≠ cb := by have := HC4.out.lt; omega
            go_wp2_with (first | (go_at_call 68; refine (specRepeat_any _ _).mono ?_; rintro e w' ⟨rfl, rfl⟩))
            refine (l3Leaf_any cb v zs _ HC5.out).mono ?_
            rintro e w5 ⟨lk, ls, rfl, hLf, hC5, hg5⟩
            have hXB5 := (Bz3.new w4 (.int .i64 tk) (.string ts) (.slice au t.l.length cu)).by hg5 hxc
            have hX5 := (HX4.out.grow A1).by hg5 hrne
            have hB5 := (HB4.out.grow A1).by hg5 HNE.out
            have hG5 := grownBy_trans (gy_below HG4.out A1) hg5
            have hO5 := (HO4.out.grow A1).by hg5 (fun h => by have := h.1; unfold newFrom at this; omega)
            have hs5 : wr.heap.size ≤ w5.heap.size := by have := hg5.size; simp at this; omega
            have y0 := hXB5.c0
            have y1 := hXB5.c1
            have y2 := hXB5.c2
            have yf := hXB5.fr
            have y2' := hX5.c2
            have yf' := hX5.fr
            have hwl : w.heap.size < w4.heap.size := HB4.out.lt
            generalize w4.heap.size = xb at *
            have hxl := hXB5.lt
            have A2 : Below (sz3 w5 xb (.int .i64 lk) (.string ls) (.slice none 0 0)).heap.size (sz3 w5 xb (.int .i64 lk) (.string ls) (.slice none 0 0)) ((sz3 w5 xb (.int .i64 lk) (.string ls) (.slice none 0 0)).alloc (.cells #[.int .i64 lk, .string ls, .slice none 0 0] 26)) := (Below.refl _ _).alloc (Nat.le_refl _) _
            have HX7 := Hid.mk ((hX5.kept (w' := sz3 w5 xb (.int .i64 lk) (.string ls) (.slice none 0 0)) (sz3_other _ _ _ _ _ _ (by omega))).grow A2)
            have HB7 := Hid.mk ((hB5.kept (w' := sz3 w5 xb (.int .i64 lk) (.string ls) (.slice none 0 0)) (sz3_other _ _ _ _ _ _ (by omega))).grow A2)
            have HG7 := Hid.mk (gy_below (gy_sz3 hG5 (by omega) (.int .i64 lk) (.string ls) (.slice none 0 0)) A2)
            have HC7 := Hid.mk ((hC5.sz3 (b := xb) hxc (fun hz k hk => by have := HV2.out hz k hk; omega) (.int .i64 lk) (.string ls) (.slice none 0 0)).grow A2)
            have HOL := Hid.mk ((hO5.sz3 (b := xb) (fun h => by have := h.2; omega) (.int .i64 lk) (.string ls) (.slice none 0 0)).grow A2)
            have HOT : Hid (Ow ((sz3 w5 xb (.int .i64 lk) (.string ls) (.slice none 0 0)).alloc (.cells #[.int .i64 lk, .string ls, .slice none 0 0] 26)) (newFrom (wr.heap.size + 1)) (Tr.node lk ls []).l (.slice none 0 0)) := Ow.none _
            have HXB : Hid (Bz3 ((sz3 w5 xb (.int .i64 lk) (.string ls) (.slice none 0 0)).alloc (.cells #[.int .i64 lk, .string ls, .slice none 0 0] 26)) w5.heap.size (.int .i64 lk) (.string ls) (.slice none 0 0)) := by
              have := Bz3.new (sz3 w5 xb (.int .i64 lk) (.string ls) (.slice none 0 0)) (.int .i64 lk) (.string ls) (.slice none 0 0)
              rw [sz3_size] at this
              exact this
            have HCN : Hid (newFrom (rb + 1) ((sz3 w5 xb (.int .i64 lk) (.string ls) (.slice none 0 0)).alloc (.cells #[.int .i64 lk, .string ls, .slice none 0 0] 26)).heap.size) := by show _ ≤ _; simp; omega
            have HLS : Hid (ls.size ≤ maxLen) := Nat.le_trans hLf.2.2 (by decide)
            have HLF := Hid.mk hLf
            unfold sz3 at HX7 HB7 HG7 HC7 HOL HXB HOT HCN
            clear A1 A2 HX4 HB4 HG4 HC4 HO4 HU4 HC5 hXB5 hX5 hB5 hG5 hO5 hC5 hg5 hLf
            have hrM : rb < wr.heap.size := HRM.out
            go_wp2_with (first | (go_at_call 68; refine (specRepeat_any _ _).mono ?_; rintro e w' ⟨rfl, rfl⟩) | (at_builtin; refine wpList_append_any rfl _ _ rfl (fun b => newFrom (rb + 1) b ∧ b < wr.heap.size) (newFrom (wr.heap.size + 1)) (newFrom (rb + 1)) _ (.slice none 0 0) L (Tr.node lk ls []) w5.heap.size rfl HOL.out rfl HXB.out HOT.out HLS.out (fun b hb hb2 => by have := hb2.2; unfold newFrom at hb; omega) (fun b hb => hb.1) (fun b hb => by have := HRM.out; unfold newFrom at *; omega) (HCN.out) (by have := HLK.out; have := hk; omega) ?_))
            intro v6 w6 ho6 row hrow hg6
            obtain ⟨a6, c6, rfl⟩ := ho6.value
            have hX6 := HX7.out.row hg6 (fun g e => by have := (hrow g e).1; unfold newFrom at this; omega)
            have hB6 := HB7.out.row hg6 (fun g e => by have := (hrow g e).1; unfold newFrom at this; omega)
            have hG6 := gy_row HG7.out hg6 (fun g e => by have := (hrow g e).1; unfold newFrom at this; omega)
            have hC6 := HC7.out.row hg6 (fun g e => ⟨by have := (hrow g e).1; unfold newFrom at this; omega, fun hz k hk => by have := HV2.out hz k hk; have := (hrow g e).1; unfold newFrom at this; omega⟩)
            have x2' := hX6.c2
            have xf' := hX6.fr
            have HX8 := Hid.mk (hX6.put2 (.slice a6 (L ++ [(Tr.node lk ls [])]).length c6))
            have HO8 := Hid.mk (ho6.kept (w' := w6.setCell ⟨rb, 2, none⟩ (.slice a6 (L ++ [(Tr.node lk ls [])]).length c6)) (fun b hb _ => heap_setCell_other _ _ _ _ (by unfold newFrom at hb; show b ≠ rb; omega)))
            have HB8 := Hid.mk (hB6.row (gb_set w6 rb 2 (.slice a6 (L ++ [(Tr.node lk ls [])]).length c6)) (fun g e => by simp at e; omega))
            have HG8 := Hid.mk (gy_row hG6 (gb_set w6 rb 2 (.slice a6 (L ++ [(Tr.node lk ls [])]).length c6)) (fun g e => by simp at e; omega))
            have HC8 := Hid.mk (hC6.row (gb_set w6 rb 2 (.slice a6 (L ++ [(Tr.node lk ls [])]).length c6)) (fun g e => by simp at e; exact ⟨by omega, fun hz k hk => by have := HV2.out hz k hk; omega⟩))
            have HL8 : Hid (∀ x ∈ L ++ [(Tr.node lk ls [])], Dn d x ∧ Fits K x) := by
              intro x hx
              rcases List.mem_append.1 hx with hx | hx
              · exact HL.out x hx
              · obtain rfl : x = (Tr.node lk ls []) := by simpa using hx
                exact ⟨Dn.leaf HLF.out, HLF.out.fits HK.out⟩
            have hll : Hid ((L ++ [(Tr.node lk ls [])]).length = k + 1) := by show _ = _; simp [HLK.out]
            generalize L ++ [(Tr.node lk ls [])] = L8 at HX8 HO8 HB8 HG8 HC8 HL8 hll ⊢
            clear ho6 hrow hg6 hX6 hB6 hG6 hC6 HX7 HB7 HG7 HC7 HOL HXB HOT HL
            go_wp2
            go_roundw
            case rel => exact ⟨k + 1, L8, _, by omega, by go_num, hll.out, HX8, HO8, HL8, HC8, HG8, HB8⟩
            case measure => simp [intOf]; omega
          · skip
            have hb1 : (tk == K) = false := beq_eq_false_iff_ne.2 hne
            have x2 := HX4.out.c2
            have xf := HX4.out.fr
            have hr4 := HX4.out.lt
            have A1 : Below w4.heap.size w4 ((w4.alloc (.cells #[.int .i64 tk, .string ts, .slice au t.l.length cu] 26)).alloc (.cells #[.int .i64 tk, .string ts, .slice au t.l.length cu] 26)) := ((Below.refl _ _).alloc (Nat.le_refl _) _).alloc (by simp) _
            have HX7 := Hid.mk (HX4.out.grow A1)
            have HB7 := Hid.mk (HB4.out.grow A1)
            have HG7 := Hid.mk (gy_below HG4.out A1)
            have HC7 := Hid.mk (HC4.out.grow A1)
            have HOL := Hid.mk (HO4.out.grow A1)
            have HOT := Hid.mk (HU4.out.grow A1)
            have HCN : Hid (newFrom (rb + 1) ((w4.alloc (.cells #[.int .i64 tk, .string ts, .slice au t.l.length cu] 26)).alloc (.cells #[.int .i64 tk, .string ts, .slice au t.l.length cu] 26)).heap.size) := by show _ ≤ _; simp; omega
            have HXB : Hid (Bz3 ((w4.alloc (.cells #[.int .i64 tk, .string ts, .slice au t.l.length cu] 26)).alloc (.cells #[.int .i64 tk, .string ts, .slice au t.l.length cu] 26)) (w4.heap.size + 1) (.int .i64 t.k) (.string t.s) (.slice au t.l.length cu)) := by
              have := Bz3.new (w4.alloc (.cells #[.int .i64 tk, .string ts, .slice au t.l.length cu] 26)) (.int .i64 tk) (.string ts) (.slice au t.l.length cu)
              rw [HTK.out, HTT.out]
              have e : (w4.alloc (.cells #[.int .i64 tk, .string ts, .slice au t.l.length cu] 26)).heap.size = w4.heap.size + 1 := by simp
              rw [e] at this
              exact this
            clear A1 HX4 HB4 HG4 HC4 HO4 HU4
            have hrM : rb < wr.heap.size := HRM.out
            go_wp2_with (first | (go_at_call 68; refine (specRepeat_any _ _).mono ?_; rintro e w' ⟨rfl, rfl⟩) | (at_builtin; refine wpList_append_any rfl _ _ rfl (fun b => newFrom (rb + 1) b ∧ b < wr.heap.size) (newFrom (wr.heap.size + 1)) (newFrom (rb + 1)) _ (.slice au t.l.length cu) L t (w4.heap.size + 1) rfl HOL.out rfl HXB.out HOT.out HTS.out (fun b hb hb2 => by have := hb2.2; unfold newFrom at hb; omega) (fun b hb => hb.1) (fun b hb => by have := HRM.out; unfold newFrom at *; omega) (HCN.out) (by have := HLK.out; have := hk; omega) ?_))
            intro v6 w6 ho6 row hrow hg6
            obtain ⟨a6, c6, rfl⟩ := ho6.value
            have hX6 := HX7.out.row hg6 (fun g e => by have := (hrow g e).1; unfold newFrom at this; omega)
            have hB6 := HB7.out.row hg6 (fun g e => by have := (hrow g e).1; unfold newFrom at this; omega)
            have hG6 := gy_row HG7.out hg6 (fun g e => by have := (hrow g e).1; unfold newFrom at this; omega)
            have hC6 := HC7.out.row hg6 (fun g e => ⟨by have := (hrow g e).1; unfold newFrom at this; omega, fun hz k hk => by have := HV2.out hz k hk; have := (hrow g e).1; unfold newFrom at this; omega⟩)
            have x2' := hX6.c2
            have xf' := hX6.fr
            have HX8 := Hid.mk (hX6.put2 (.slice a6 (L ++ [t]).length c6))
            have HO8 := Hid.mk (ho6.kept (w' := w6.setCell ⟨rb, 2, none⟩ (.slice a6 (L ++ [t]).length c6)) (fun b hb _ => heap_setCell_other _ _ _ _ (by unfold newFrom at hb; show b ≠ rb; omega)))
            have HB8 := Hid.mk (hB6.row (gb_set w6 rb 2 (.slice a6 (L ++ [t]).length c6)) (fun g e => by simp at e; omega))
            have HG8 := Hid.mk (gy_row hG6 (gb_set w6 rb 2 (.slice a6 (L ++ [t]).length c6)) (fun g e => by simp at e; omega))
            have HC8 := Hid.mk (hC6.row (gb_set w6 rb 2 (.slice a6 (L ++ [t]).length c6)) (fun g e => by simp at e; exact ⟨by omega, fun hz k hk => by have := HV2.out hz k hk; omega⟩))
            have HL8 : Hid (∀ x ∈ L ++ [t], Dn d x ∧ Fits K x) := by
              intro x hx
              rcases List.mem_append.1 hx with hx | hx
              · exact HL.out x hx
              · obtain rfl : x = t := by simpa using hx
                exact ⟨HDN.out, ⟨by rw [HTK.out]; exact hne, fun h => by rw [hrep] at h; cases h⟩⟩
            have hll : Hid ((L ++ [t]).length = k + 1) := by show _ = _; simp [HLK.out]
            generalize L ++ [t] = L8 at HX8 HO8 HB8 HG8 HC8 HL8 hll ⊢
            clear ho6 hrow hg6 hX6 hB6 hG6 hC6 HX7 HB7 HG7 HC7 HOL HXB HOT HL
            go_wp2
            go_roundw
            case rel => exact ⟨k + 1, L8, _, by omega, by go_num, hll.out, HX8, HO8, HL8, HC8, HG8, HB8⟩
            case measure => simp [intOf]; omega
        · have hkk : (2 + y).toNat ≤ k := by omega
          have HDN : Hid (Dn (d + 1) (.node K ⟨#[]⟩ L)) := Dn.node HK.out (fun h => by have := HLK.out; first | omega | (rw [hrep] at h; cases h)) (fun h => by have := HLK.out; first | omega | (rw [hrep] at h; cases h)) (by have := HLK.out; omega) HL.out
          obtain ⟨ar, cr, rfl⟩ := HO.out.value
          have x0 := HX.out.c0
          have x1 := HX.out.c1
          have x2 := HX.out.c2
          have c0 := HB.out.c0
          have c1 := HB.out.c1
          have c2 := HB.out.c2
          have f0 := HB.out.fr
          clear HL
          go_wp2
          have hput := HB.out.put (.int .i64 K) (.string ⟨#[]⟩) (.slice ar L.length cr)
          have hgp := gy_sz3 HG.out (Nat.le_refl _) (.int .i64 K) (.string ⟨#[]⟩) (.slice ar L.length cr)
          have hcp := HC.out.sz3 (b := w.heap.size) HNE.out HV.out (.int .i64 K) (.string ⟨#[]⟩) (.slice ar L.length cr)
          have hop := HO.out.sz3 (b := w.heap.size) (by unfold newFrom; omega) (.int .i64 K) (.string ⟨#[]⟩) (.slice ar L.length cr)
          unfold sz3 at hput hgp hcp hop
          generalize ((wr.setCell ⟨w.heap.size, 0, none⟩ (.int .i64 K)).setCell ⟨w.heap.size, 1, none⟩ (.string ⟨#[]⟩)).setCell ⟨w.heap.size, 2, none⟩ (.slice ar L.length cr) = W at hput hgp hcp hop ⊢
          have r0 := hput.c0
          have r1 := hput.c1
          have r2 := hput.c2
          refine bodyPost_ret (v := rx K ⟨#[]⟩ (.slice ar L.length cr)) ?_ rfl ⟨.node K ⟨#[]⟩ L, _, rfl, HDN.out, hop.mono (fun b hb => by unfold newFrom at *; omega), hcp, hgp⟩
          simp [results, Tryd.results39, go_sem, r0, r1, r2]

theorem l3Draw_any (d : Nat) (hd : d ≤ 100) : DrC d := by
  induction d with
  | zero => exact l3Draw_zero
  | succ d ih => exact l3Draw_succ d (by omega) (ih (by omega))
end Go.Proofs.YtapniafhcagogaaDoor
