/- Two lists of terms taken as the same: the program's join. -/
import Derived.Test.YtijpmnenegdmnaaQStandX
import Derived.Test.YtijpmnenegdmnaaQRun1
namespace Go.Proofs.Ytijpmnenegdmnaa
open Go.RowKit
set_option maxRecDepth 8000
set_option linter.unusedSimpArgs false

set_option maxHeartbeats 8000000 in
theorem joinX_any (w : World) (D : Nat → Prop) (m : Nat) (E : List (Plc × Plc)) (b off n cap b' off' n' cap' : Nat) (hn : 0 < n) (hn' : 0 < n') (hD : DkS w D) (hb : D b) (hb' : D b') (hm : MapP w D m E) (hu : AllUp (lk E)) :
  Calls Try.prog 46 #[.map (some m), .agg #[.slice (some ⟨b, off, none⟩) n cap, .slice (some ⟨b', off', none⟩) n' cap']] w fun e w' =>
   ∃ r E', e = .returned (.bool r) ∧ MapP w' D m E' ∧ AllUp (lk E') ∧ Jnd E E' ⟨⟨b, off, none⟩, n⟩ ⟨⟨b', off', none⟩, n'⟩ r ∧ w.grownBy w' (some m) := by
 have hml := hm.lt
 have hDm : ∀ b, D b → b ≠ m := fun b h => hm.not hD h
 have HG0 := Hid.mk (World.grownBy_alloc w (.cells #[.slice (some ⟨b, off, none⟩) n cap, .slice (some ⟨b', off', none⟩) n' cap'] 51) (some m))
 have HB0 := Hid.mk (MapKept.heap_alloc w (.cells #[.slice (some ⟨b, off, none⟩) n cap, .slice (some ⟨b', off', none⟩) n' cap'] 51)).1
 have HS0 : Hid ((w.alloc (.cells #[.slice (some ⟨b, off, none⟩) n cap, .slice (some ⟨b', off', none⟩) n' cap'] 51)).heap.size = w.heap.size + 1) := by simp [Hid]
 have HDW : Hid (∀ W, w.grownBy W (some m) → DkS W D) := fun W h => hD.kept fun b hb => h.block b (hD.lt hb) (by intro e; exact hDm b hb (by simpa using e))
 have HU := Hid.mk hu
 have HM := Hid.mk hm
 have HN := Hid.mk (And.intro hn hn')
 have HP := Hid.mk (And.intro hb hb')
 have HM0 : Hid (MapP (w.alloc (.cells #[.slice (some ⟨b, off, none⟩) n cap, .slice (some ⟨b', off', none⟩) n' cap'] 51)) D m E) := hm.kept ((World.grownBy_alloc w _ none).block m hml (by simp))
 clear hm hu hD hDm hb hb' hn hn'
 go_enter Try.func46, Try.ntmps46
 go_wp2_with fail
 generalize w.alloc (.cells #[.slice (some ⟨b, off, none⟩) n cap, .slice (some ⟨b', off', none⟩) n' cap'] 51) = w0 at *
 rename_i KK hKK
 have REST : ∀ (g5 g6 : Nat) (r1 r2 : Plc) (E1 E2 : List (Plc × Plc)) (wz : World),
   Hid (wz.heap[g5]? = some (.cells #[.pointer (some r1.a), .int .i64 r1.n] 100 (0, 0))) → Hid (wz.heap[g6]? = some (.cells #[.pointer (some r2.a), .int .i64 r2.n] 100 (0, 0))) → Hid (w.grownBy wz (some m)) → Hid (MapP wz D m E2) → Hid (AllUp (lk E2)) →
   Hid (Alk E E1 ∧ Leads E1 ⟨⟨b, off, none⟩, n⟩ r1 ∧ D r1.a.block ∧ lk E2 r1 = none) → Hid (Alk E1 E2 ∧ Leads E2 ⟨⟨b', off', none⟩, n'⟩ r2 ∧ D r2.a.block ∧ lk E2 r2 = none) →
   KK { tmps := #[.map (some m), .agg #[.slice (some ⟨b, off, none⟩) n cap, .slice (some ⟨b', off', none⟩) n' cap'], undef, .pointer (some ⟨w.heap.size, 0, none⟩), .bool false, .pointer (some ⟨g5, 0, none⟩), .pointer (some ⟨g6, 0, none⟩),
    .map (some m), .pointer (some ⟨w.heap.size, 0, none⟩), .slice (some ⟨b, off, none⟩) n cap, .agg #[.pointer (some r1.a), .int .i64 r1.n], .map (some m), .pointer (some ⟨w.heap.size, 1, none⟩), .slice (some ⟨b', off', none⟩) n' cap', .agg #[.pointer (some r2.a), .int .i64 r2.n], undef, undef, undef, undef, undef, undef], defers := [] } wz := by
  intro g5 g6 r1 r2 E1 E2 wz h5 h6 hg hmz huz hl1 hl2
  refine hKK _ _ ?_
  clear hKK HU HM HN HP HG0 HB0 HS0
  have d50 : wz.cell? ⟨g5, 0, none⟩ = some (.pointer (some r1.a)) := by rw [cell_of_row wz _ 0 _ _ (0, 0) h5.out]; rfl
  have d51 : wz.cell? ⟨g5, 1, none⟩ = some (.int .i64 r1.n) := by rw [cell_of_row wz _ 1 _ _ (0, 0) h5.out]; rfl
  have d60 : wz.cell? ⟨g6, 0, none⟩ = some (.pointer (some r2.a)) := by rw [cell_of_row wz _ 0 _ _ (0, 0) h6.out]; rfl
  have d61 : wz.cell? ⟨g6, 1, none⟩ = some (.int .i64 r2.n) := by rw [cell_of_row wz _ 1 _ _ (0, 0) h6.out]; rfl
  have hDz := HDW.out wz hg.out
  have hpe := eqPtrX wz hDz r1 r2 hl1.out.2.2.1 hl2.out.2.2.1 9998
  by_cases hra : r1.a = r2.a
  ·rw [decide_eq_true hra] at hpe
   by_cases hrn : r1.n = r2.n
   ·have hnb : (r1.n == r2.n) = true := by simpa using hrn
    have HE := Hid.mk (plc_ext hra hrn)
    clear hra hrn
    go_wp2
    go_ret
    obtain rfl := HE.out
    exact ⟨false, E2, rfl, hmz.out, huz.out, jnd_no hl1.out.1 hl1.out.2.1 hl2.out.1 hl2.out.2.1, hg.out⟩
   ·have hnb : (r1.n == r2.n) = false := by simpa using hrn
    have HE : Hid (r1 ≠ r2) := fun e => hrn (by rw [e])
    clear hra hrn
    go_wp2_with (first | (at_mapUpdate; refine wpList_updX rfl _ _ _ rfl hDz m E2 rfl hmz.out r1 r2 rfl rfl hl1.out.2.2.1 hl2.out.2.2.1 ?_; intro w1 hm1 hg1) | go_in)
    go_ret
    exact ⟨true, putP E2 r1 r2, rfl, hm1, up_join hl1.out.2.2.2 hl2.out.2.2.2 HE.out (lk_put E2 r1 r2) huz.out, jnd_yes hl1.out.1 hl1.out.2.1 hl2.out.1 hl2.out.2.1 hl1.out.2.2.2, hg.out.trans hg1⟩
  ·rw [decide_eq_false hra] at hpe
   have HE : Hid (r1 ≠ r2) := fun e => hra (by rw [e])
   clear hra
   go_wp2_with (first | (at_mapUpdate; refine wpList_updX rfl _ _ _ rfl hDz m E2 rfl hmz.out r1 r2 rfl rfl hl1.out.2.2.1 hl2.out.2.2.1 ?_; intro w1 hm1 hg1) | go_in)
   go_ret
   exact ⟨true, putP E2 r1 r2, rfl, hm1, up_join hl1.out.2.2.2 hl2.out.2.2.2 HE.out (lk_put E2 r1 r2) huz.out, jnd_yes hl1.out.1 hl1.out.2.1 hl2.out.1 hl2.out.2.1 hl1.out.2.2.2, hg.out.trans hg1⟩
 clear hKK
 have S0 : Hid (w0.grownBy w0.drew (some m)) := ⟨rfl, rfl, rfl, Nat.le_refl _, fun _ _ _ => rfl⟩
 have HX : Hid (∀ w', w0.grownBy w' (some m) → ∀ o, w'.cell? ⟨w.heap.size, o, none⟩ = #[Value.slice (some ⟨b, off, none⟩) n cap, .slice (some ⟨b', off', none⟩) n' cap'][o]?) := by
  intro w' hb o
  exact cell_of_row w' _ o _ _ (0, 0) ((hb.block _ (by rw [HS0.out]; omega) (by intro e; simp at e; omega)).trans HB0.out)
 refine wp_region_held_drew (S := fun w' => w0.grownBy w' (some m)) (by kernel_rfl) S0.out (fun _ => ?_)
 refine takeHD (i := 0) (v := .map (some m)) (some 7) rfl rfl (by kernel_rfl) (by kernel_rfl) (by kernel_rfl) (fun _ _ _ h => h) (Or.inl ⟨by kernel_rfl, fun w' hw => ?_⟩) S0.out ?_
 ·go_simp
 simp only [Act.put, List.setIfInBounds_toArray]
 refine takeHD (i := 1) (v := .pointer (some ⟨w.heap.size, 0, none⟩)) (some 8) rfl rfl (by kernel_rfl) (by kernel_rfl) (by kernel_rfl) (fun _ _ _ h => h) (Or.inl ⟨by kernel_rfl, fun w' hw => ?_⟩) S0.out ?_
 ·go_simp
 simp only [Act.put, List.setIfInBounds_toArray]
 refine takeHD (i := 2) (v := .slice (some ⟨b, off, none⟩) n cap) (some 9) rfl rfl (by kernel_rfl) (by kernel_rfl) (by kernel_rfl) (fun _ _ _ h => h) (Or.inl ⟨by kernel_rfl, fun w' hw => ?_⟩) S0.out ?_
 ·have hq := HX.out w' hw
  go_simp
 simp only [Act.put, List.setIfInBounds_toArray]
 refine takeHD (i := 4) (v := .map (some m)) (some 11) rfl rfl (by kernel_rfl) (by kernel_rfl) (by kernel_rfl) (fun _ _ _ h => h) (Or.inl ⟨by kernel_rfl, fun w' hw => ?_⟩) S0.out ?_
 ·go_simp
 simp only [Act.put, List.setIfInBounds_toArray]
 refine takeHD (i := 5) (v := .pointer (some ⟨w.heap.size, 1, none⟩)) (some 12) rfl rfl (by kernel_rfl) (by kernel_rfl) (by kernel_rfl) (fun _ _ _ h => h) (Or.inl ⟨by kernel_rfl, fun w' hw => ?_⟩) S0.out ?_
 ·go_simp
 simp only [Act.put, List.setIfInBounds_toArray]
 refine takeHD (i := 6) (v := .slice (some ⟨b', off', none⟩) n' cap') (some 13) rfl rfl (by kernel_rfl) (by kernel_rfl) (by kernel_rfl) (fun _ _ _ h => h) (Or.inl ⟨by kernel_rfl, fun w' hw => ?_⟩) S0.out ?_
 ·have hq := HX.out w' hw
  go_simp
 simp only [Act.put, List.setIfInBounds_toArray]
 have G0_ := S0
 have M0 : Hid (MapP w0.drew D m E) := HM0.out
 clear S0
 generalize w0.drew = w0d at *
 refine wpAnyH_ready (rs := [3, 8, 9]) (by kernel_rfl) (by simp) ?_
 refine AllReadyH.cons rfl (fun K hK => ?_) (AllReadyH.cons rfl (fun K hK => ?_) (AllReadyH.cons rfl (fun K hK => ?_) (AllReadyH.nil)))
 ·skip
  rw [if_pos (by kernel_rfl)]
  go_wp2_with fail
  refine (standsX_any _ D m E b off n cap HN.out.1 (HDW.out _ (HG0.out.trans G0_.out)) HP.out.1 M0.out HU.out).mono ?_
  rintro e w1_ ⟨r1_, E1_, rfl, hm_, hu_, hal_, hle_, hno_, hd_, hro_, hg_⟩
  have G1_ : Hid (w0.grownBy w1_ (some m)) := G0_.out.trans hg_
  have M1_ := Hid.mk hm_
  have U1_ := Hid.mk hu_
  have L11_ : Hid (Alk E E1_ ∧ Leads E1_ ⟨⟨b, off, none⟩, n⟩ r1_ ∧ D r1_.a.block ∧ lk E1_ r1_ = none) := ⟨hal_, hle_, hd_, hno_⟩
  refine hK.out _ _ G1_.out (fun _ => ?_)
  clear hK K hm_ hu_ hal_ hle_ hno_ hd_ hro_ hg_
  refine wpAnyH_ready (rs := [7, 8, 9]) (by kernel_rfl) (by simp) ?_
  refine AllReadyH.cons rfl (fun K hK => ?_) (AllReadyH.cons rfl (fun K hK => ?_) (AllReadyH.cons rfl (fun K hK => ?_) (AllReadyH.nil)))
  ·skip
   rw [if_pos (by kernel_rfl)]
   go_wp2_with fail
   refine (standsX_any _ D m E1_ b' off' n' cap' HN.out.2 (HDW.out _ (HG0.out.trans G1_.out)) HP.out.2 M1_.out U1_.out).mono ?_
   rintro e w2_ ⟨r2_, E2_, rfl, hm_, hu_, hal_, hle_, hno_, hd_, hro_, hg_⟩
   have G2_ : Hid (w0.grownBy w2_ (some m)) := G1_.out.trans hg_
   have M2_ := Hid.mk hm_
   have U2_ := Hid.mk hu_
   have L22_ : Hid (Alk E1_ E2_ ∧ Leads E2_ ⟨⟨b', off', none⟩, n'⟩ r2_ ∧ D r2_.a.block ∧ lk E2_ r2_ = none) := ⟨hal_, hle_, hd_, hno_⟩
   have L12_ : Hid (Alk E E1_ ∧ Leads E1_ ⟨⟨b, off, none⟩, n⟩ r1_ ∧ D r1_.a.block ∧ lk E2_ r1_ = none) := ⟨L11_.out.1, L11_.out.2.1, L11_.out.2.2.1, hro_ _ L11_.out.2.2.2⟩
   refine hK.out _ _ G2_.out (fun _ => ?_)
   clear hK K hm_ hu_ hal_ hle_ hno_ hd_ hro_ hg_
   refine wpAnyH_ready (rs := [8, 9]) (by kernel_rfl) (by simp) ?_
   refine AllReadyH.cons rfl (fun K hK => ?_) (AllReadyH.cons rfl (fun K hK => ?_) (AllReadyH.nil))
   ·skip
    rw [if_pos (by kernel_rfl)]
    go_wp2_with fail
    have G3_ : Hid (w0.grownBy (w2_.alloc (.cells #[.pointer none, .int .i64 0] 100)) (some m)) := G2_.out.trans (World.grownBy_alloc _ _ _)
    have M3_ : Hid (MapP (w2_.alloc (.cells #[.pointer none, .int .i64 0] 100)) D m E2_) := M2_.out.kept ((World.grownBy_alloc w2_ _ none).block m M2_.out.lt (by simp))
    have P53_ := Hid.mk (MapKept.heap_alloc w2_ (.cells #[.pointer none, .int .i64 0] 100)).1
    have N53_ : Hid (w.heap.size < w2_.heap.size) := by have := G2_.out.size; rw [HS0.out] at this; exact Nat.lt_of_succ_le this
    refine hK.out _ _ G3_.out (fun _ => ?_)
    clear hK K
    generalize w2_.alloc (.cells #[.pointer none, .int .i64 0] 100) = w3_ at *
    generalize w2_.heap.size = g53_ at *
    refine wpAnyH_ready (rs := [9]) (by kernel_rfl) (by simp) ?_
    refine AllReadyH.cons rfl (fun K hK => ?_) AllReadyH.nil
    rw [if_pos (by kernel_rfl)]
    go_wp2_with fail
    have G4_ : Hid (w0.grownBy (w3_.alloc (.cells #[.pointer none, .int .i64 0] 100)) (some m)) := G3_.out.trans (World.grownBy_alloc _ _ _)
    have M4_ : Hid (MapP (w3_.alloc (.cells #[.pointer none, .int .i64 0] 100)) D m E2_) := M3_.out.kept ((World.grownBy_alloc w3_ _ none).block m M3_.out.lt (by simp))
    have P54_ := Hid.mk (((World.grownBy_alloc w3_ (.cells #[.pointer none, .int .i64 0] 100) none).block _ (Array.getElem?_eq_some_iff.1 P53_.out).1 (by simp)).trans P53_.out)
    have Q_4 : Hid (g53_ ≠ w3_.heap.size) := Nat.ne_of_lt (Array.getElem?_eq_some_iff.1 P53_.out).1
    have P64_ := Hid.mk (MapKept.heap_alloc w3_ (.cells #[.pointer none, .int .i64 0] 100)).1
    have N64_ : Hid (w.heap.size < w3_.heap.size) := by have := G3_.out.size; rw [HS0.out] at this; exact Nat.lt_of_succ_le this
    refine hK.out _ _ G4_.out (fun _ => ?_)
    clear hK K
    generalize w3_.alloc (.cells #[.pointer none, .int .i64 0] 100) = w4_ at *
    generalize w3_.heap.size = g64_ at *
    have hne_ : g53_ ≠ g64_ := Q_4.out
    have c50_ : w4_.cell? ⟨g53_, 0, none⟩ = some (.pointer none) := by rw [cell_of_row w4_ _ 0 _ _ (0, 0) P54_.out]; rfl
    have c51_ : w4_.cell? ⟨g53_, 1, none⟩ = some (.int .i64 0) := by rw [cell_of_row w4_ _ 1 _ _ (0, 0) P54_.out]; rfl
    have f5_ : ∀ o, w4_.frozen? ⟨g53_, o, none⟩ = false := fun o => by simp [World.frozen?, P54_.out]
    have c60_ : w4_.cell? ⟨g64_, 0, none⟩ = some (.pointer none) := by rw [cell_of_row w4_ _ 0 _ _ (0, 0) P64_.out]; rfl
    have c61_ : w4_.cell? ⟨g64_, 1, none⟩ = some (.int .i64 0) := by rw [cell_of_row w4_ _ 1 _ _ (0, 0) P64_.out]; rfl
    have f6_ : ∀ o, w4_.frozen? ⟨g64_, o, none⟩ = false := fun o => by simp [World.frozen?, P64_.out]
    have GA_ : Hid (w0.grownBy ((w4_.setCell ⟨g53_, 0, none⟩ (.pointer (some r1_.a))).setCell ⟨g53_, 1, none⟩ (.int .i64 r1_.n)) (some m)) := grown_set (grown_set G4_.out _ (by rw [HS0.out]; exact N53_.out) _) _ (by rw [HS0.out]; exact N53_.out) _
    have GB_ : Hid (w0.grownBy ((((w4_.setCell ⟨g53_, 0, none⟩ (.pointer (some r1_.a))).setCell ⟨g53_, 1, none⟩ (.int .i64 r1_.n)).setCell ⟨g64_, 0, none⟩ (.pointer (some r2_.a))).setCell ⟨g64_, 1, none⟩ (.int .i64 r2_.n)) (some m)) := grown_set (grown_set GA_.out _ (by rw [HS0.out]; exact N64_.out) _) _ (by rw [HS0.out]; exact N64_.out) _
    have R5_ : Hid (((((w4_.setCell ⟨g53_, 0, none⟩ (.pointer (some r1_.a))).setCell ⟨g53_, 1, none⟩ (.int .i64 r1_.n)).setCell ⟨g64_, 0, none⟩ (.pointer (some r2_.a))).setCell ⟨g64_, 1, none⟩ (.int .i64 r2_.n)).heap[g53_]? = some (.cells #[.pointer (some r1_.a), .int .i64 r1_.n] 100 (0, 0))) := by rw [heap_setCell_other _ _ _ _ hne_, heap_setCell_other _ _ _ _ hne_]; exact two_setCell P54_.out
    have R6_ : Hid (((((w4_.setCell ⟨g53_, 0, none⟩ (.pointer (some r1_.a))).setCell ⟨g53_, 1, none⟩ (.int .i64 r1_.n)).setCell ⟨g64_, 0, none⟩ (.pointer (some r2_.a))).setCell ⟨g64_, 1, none⟩ (.int .i64 r2_.n)).heap[g64_]? = some (.cells #[.pointer (some r2_.a), .int .i64 r2_.n] 100 (0, 0))) := two_setCell (by rw [heap_setCell_other _ _ _ _ (Ne.symm hne_), heap_setCell_other _ _ _ _ (Ne.symm hne_)]; exact P64_.out)
    have RM_ : Hid (MapP ((((w4_.setCell ⟨g53_, 0, none⟩ (.pointer (some r1_.a))).setCell ⟨g53_, 1, none⟩ (.int .i64 r1_.n)).setCell ⟨g64_, 0, none⟩ (.pointer (some r2_.a))).setCell ⟨g64_, 1, none⟩ (.int .i64 r2_.n)) D m E2_) := M4_.out.kept (by have h5 := N53_.out; have h6 := N64_.out; rw [heap_setCell_other _ _ _ _ (by show m ≠ g64_; omega), heap_setCell_other _ _ _ _ (by show m ≠ g64_; omega), heap_setCell_other _ _ _ _ (by show m ≠ g53_; omega), heap_setCell_other _ _ _ _ (by show m ≠ g53_; omega)])
    refine wpAnyH_ready (rs := [10]) (by kernel_rfl) (by simp) ?_
    refine AllReadyH.cons rfl (fun K hK => ?_) AllReadyH.nil
    rw [if_pos (by kernel_rfl)]
    go_wp2_with fail
    refine hK.out _ _ GA_.out (fun _ => ?_)
    clear hK K
    refine wpAnyH_ready (rs := [11]) (by kernel_rfl) (by simp) ?_
    refine AllReadyH.cons rfl (fun K hK => ?_) AllReadyH.nil
    rw [if_pos (by kernel_rfl)]
    go_wp2_with fail
    refine hK.out _ _ GB_.out (fun _ => ?_)
    clear hK K
    refine wpAnyH_done (by kernel_rfl) ?_ _
    exact REST g53_ g64_ r1_ r2_ E1_ E2_ _ R5_ R6_ (HG0.out.trans GB_.out) RM_ U2_ L12_ L22_
   ·skip
    rw [if_pos (by kernel_rfl)]
    go_wp2_with fail
    have G5_ : Hid (w0.grownBy (w2_.alloc (.cells #[.pointer none, .int .i64 0] 100)) (some m)) := G2_.out.trans (World.grownBy_alloc _ _ _)
    have M5_ : Hid (MapP (w2_.alloc (.cells #[.pointer none, .int .i64 0] 100)) D m E2_) := M2_.out.kept ((World.grownBy_alloc w2_ _ none).block m M2_.out.lt (by simp))
    have P65_ := Hid.mk (MapKept.heap_alloc w2_ (.cells #[.pointer none, .int .i64 0] 100)).1
    have N65_ : Hid (w.heap.size < w2_.heap.size) := by have := G2_.out.size; rw [HS0.out] at this; exact Nat.lt_of_succ_le this
    refine hK.out _ _ G5_.out (fun _ => ?_)
    clear hK K
    generalize w2_.alloc (.cells #[.pointer none, .int .i64 0] 100) = w5_ at *
    generalize w2_.heap.size = g65_ at *
    refine wpAnyH_ready (rs := [8]) (by kernel_rfl) (by simp) ?_
    refine AllReadyH.cons rfl (fun K hK => ?_) AllReadyH.nil
    rw [if_pos (by kernel_rfl)]
    go_wp2_with fail
    have G6_ : Hid (w0.grownBy (w5_.alloc (.cells #[.pointer none, .int .i64 0] 100)) (some m)) := G5_.out.trans (World.grownBy_alloc _ _ _)
    have M6_ : Hid (MapP (w5_.alloc (.cells #[.pointer none, .int .i64 0] 100)) D m E2_) := M5_.out.kept ((World.grownBy_alloc w5_ _ none).block m M5_.out.lt (by simp))
    have P66_ := Hid.mk (((World.grownBy_alloc w5_ (.cells #[.pointer none, .int .i64 0] 100) none).block _ (Array.getElem?_eq_some_iff.1 P65_.out).1 (by simp)).trans P65_.out)
    have Q_6 : Hid (g65_ ≠ w5_.heap.size) := Nat.ne_of_lt (Array.getElem?_eq_some_iff.1 P65_.out).1
    have P56_ := Hid.mk (MapKept.heap_alloc w5_ (.cells #[.pointer none, .int .i64 0] 100)).1
    have N56_ : Hid (w.heap.size < w5_.heap.size) := by have := G5_.out.size; rw [HS0.out] at this; exact Nat.lt_of_succ_le this
    refine hK.out _ _ G6_.out (fun _ => ?_)
    clear hK K
    generalize w5_.alloc (.cells #[.pointer none, .int .i64 0] 100) = w6_ at *
    generalize w5_.heap.size = g56_ at *
    have hne_ : g56_ ≠ g65_ := (Ne.symm Q_6.out)
    have c50_ : w6_.cell? ⟨g56_, 0, none⟩ = some (.pointer none) := by rw [cell_of_row w6_ _ 0 _ _ (0, 0) P56_.out]; rfl
    have c51_ : w6_.cell? ⟨g56_, 1, none⟩ = some (.int .i64 0) := by rw [cell_of_row w6_ _ 1 _ _ (0, 0) P56_.out]; rfl
    have f5_ : ∀ o, w6_.frozen? ⟨g56_, o, none⟩ = false := fun o => by simp [World.frozen?, P56_.out]
    have c60_ : w6_.cell? ⟨g65_, 0, none⟩ = some (.pointer none) := by rw [cell_of_row w6_ _ 0 _ _ (0, 0) P66_.out]; rfl
    have c61_ : w6_.cell? ⟨g65_, 1, none⟩ = some (.int .i64 0) := by rw [cell_of_row w6_ _ 1 _ _ (0, 0) P66_.out]; rfl
    have f6_ : ∀ o, w6_.frozen? ⟨g65_, o, none⟩ = false := fun o => by simp [World.frozen?, P66_.out]
    have GA_ : Hid (w0.grownBy ((w6_.setCell ⟨g56_, 0, none⟩ (.pointer (some r1_.a))).setCell ⟨g56_, 1, none⟩ (.int .i64 r1_.n)) (some m)) := grown_set (grown_set G6_.out _ (by rw [HS0.out]; exact N56_.out) _) _ (by rw [HS0.out]; exact N56_.out) _
    have GB_ : Hid (w0.grownBy ((((w6_.setCell ⟨g56_, 0, none⟩ (.pointer (some r1_.a))).setCell ⟨g56_, 1, none⟩ (.int .i64 r1_.n)).setCell ⟨g65_, 0, none⟩ (.pointer (some r2_.a))).setCell ⟨g65_, 1, none⟩ (.int .i64 r2_.n)) (some m)) := grown_set (grown_set GA_.out _ (by rw [HS0.out]; exact N65_.out) _) _ (by rw [HS0.out]; exact N65_.out) _
    have R5_ : Hid (((((w6_.setCell ⟨g56_, 0, none⟩ (.pointer (some r1_.a))).setCell ⟨g56_, 1, none⟩ (.int .i64 r1_.n)).setCell ⟨g65_, 0, none⟩ (.pointer (some r2_.a))).setCell ⟨g65_, 1, none⟩ (.int .i64 r2_.n)).heap[g56_]? = some (.cells #[.pointer (some r1_.a), .int .i64 r1_.n] 100 (0, 0))) := by rw [heap_setCell_other _ _ _ _ hne_, heap_setCell_other _ _ _ _ hne_]; exact two_setCell P56_.out
    have R6_ : Hid (((((w6_.setCell ⟨g56_, 0, none⟩ (.pointer (some r1_.a))).setCell ⟨g56_, 1, none⟩ (.int .i64 r1_.n)).setCell ⟨g65_, 0, none⟩ (.pointer (some r2_.a))).setCell ⟨g65_, 1, none⟩ (.int .i64 r2_.n)).heap[g65_]? = some (.cells #[.pointer (some r2_.a), .int .i64 r2_.n] 100 (0, 0))) := two_setCell (by rw [heap_setCell_other _ _ _ _ (Ne.symm hne_), heap_setCell_other _ _ _ _ (Ne.symm hne_)]; exact P66_.out)
    have RM_ : Hid (MapP ((((w6_.setCell ⟨g56_, 0, none⟩ (.pointer (some r1_.a))).setCell ⟨g56_, 1, none⟩ (.int .i64 r1_.n)).setCell ⟨g65_, 0, none⟩ (.pointer (some r2_.a))).setCell ⟨g65_, 1, none⟩ (.int .i64 r2_.n)) D m E2_) := M6_.out.kept (by have h5 := N56_.out; have h6 := N65_.out; rw [heap_setCell_other _ _ _ _ (by show m ≠ g65_; omega), heap_setCell_other _ _ _ _ (by show m ≠ g65_; omega), heap_setCell_other _ _ _ _ (by show m ≠ g56_; omega), heap_setCell_other _ _ _ _ (by show m ≠ g56_; omega)])
    refine wpAnyH_ready (rs := [10]) (by kernel_rfl) (by simp) ?_
    refine AllReadyH.cons rfl (fun K hK => ?_) AllReadyH.nil
    rw [if_pos (by kernel_rfl)]
    go_wp2_with fail
    refine hK.out _ _ GA_.out (fun _ => ?_)
    clear hK K
    refine wpAnyH_ready (rs := [11]) (by kernel_rfl) (by simp) ?_
    refine AllReadyH.cons rfl (fun K hK => ?_) AllReadyH.nil
    rw [if_pos (by kernel_rfl)]
    go_wp2_with fail
    refine hK.out _ _ GB_.out (fun _ => ?_)
    clear hK K
    refine wpAnyH_done (by kernel_rfl) ?_ _
    exact REST g56_ g65_ r1_ r2_ E1_ E2_ _ R5_ R6_ (HG0.out.trans GB_.out) RM_ U2_ L12_ L22_
  ·skip
   rw [if_pos (by kernel_rfl)]
   go_wp2_with fail
   have G7_ : Hid (w0.grownBy (w1_.alloc (.cells #[.pointer none, .int .i64 0] 100)) (some m)) := G1_.out.trans (World.grownBy_alloc _ _ _)
   have M7_ : Hid (MapP (w1_.alloc (.cells #[.pointer none, .int .i64 0] 100)) D m E1_) := M1_.out.kept ((World.grownBy_alloc w1_ _ none).block m M1_.out.lt (by simp))
   have P57_ := Hid.mk (MapKept.heap_alloc w1_ (.cells #[.pointer none, .int .i64 0] 100)).1
   have N57_ : Hid (w.heap.size < w1_.heap.size) := by have := G1_.out.size; rw [HS0.out] at this; exact Nat.lt_of_succ_le this
   refine hK.out _ _ G7_.out (fun _ => ?_)
   clear hK K
   generalize w1_.alloc (.cells #[.pointer none, .int .i64 0] 100) = w7_ at *
   generalize w1_.heap.size = g57_ at *
   refine wpAnyH_ready (rs := [7, 9]) (by kernel_rfl) (by simp) ?_
   refine AllReadyH.cons rfl (fun K hK => ?_) (AllReadyH.cons rfl (fun K hK => ?_) (AllReadyH.nil))
   ·skip
    rw [if_pos (by kernel_rfl)]
    go_wp2_with fail
    refine (standsX_any _ D m E1_ b' off' n' cap' HN.out.2 (HDW.out _ (HG0.out.trans G7_.out)) HP.out.2 M7_.out U1_.out).mono ?_
    rintro e w8_ ⟨r8_, E8_, rfl, hm_, hu_, hal_, hle_, hno_, hd_, hro_, hg_⟩
    have G8_ : Hid (w0.grownBy w8_ (some m)) := G7_.out.trans hg_
    have M8_ := Hid.mk hm_
    have U8_ := Hid.mk hu_
    have P58_ := Hid.mk ((hg_.block _ (Array.getElem?_eq_some_iff.1 P57_.out).1 (by intro e; have := N57_.out; simp at e; omega)).trans P57_.out)
    have L28_ : Hid (Alk E1_ E8_ ∧ Leads E8_ ⟨⟨b', off', none⟩, n'⟩ r8_ ∧ D r8_.a.block ∧ lk E8_ r8_ = none) := ⟨hal_, hle_, hd_, hno_⟩
    have L18_ : Hid (Alk E E1_ ∧ Leads E1_ ⟨⟨b, off, none⟩, n⟩ r1_ ∧ D r1_.a.block ∧ lk E8_ r1_ = none) := ⟨L11_.out.1, L11_.out.2.1, L11_.out.2.2.1, hro_ _ L11_.out.2.2.2⟩
    refine hK.out _ _ G8_.out (fun _ => ?_)
    clear hK K hm_ hu_ hal_ hle_ hno_ hd_ hro_ hg_
    refine wpAnyH_ready (rs := [9]) (by kernel_rfl) (by simp) ?_
    refine AllReadyH.cons rfl (fun K hK => ?_) AllReadyH.nil
    rw [if_pos (by kernel_rfl)]
    go_wp2_with fail
    have G9_ : Hid (w0.grownBy (w8_.alloc (.cells #[.pointer none, .int .i64 0] 100)) (some m)) := G8_.out.trans (World.grownBy_alloc _ _ _)
    have M9_ : Hid (MapP (w8_.alloc (.cells #[.pointer none, .int .i64 0] 100)) D m E8_) := M8_.out.kept ((World.grownBy_alloc w8_ _ none).block m M8_.out.lt (by simp))
    have P59_ := Hid.mk (((World.grownBy_alloc w8_ (.cells #[.pointer none, .int .i64 0] 100) none).block _ (Array.getElem?_eq_some_iff.1 P58_.out).1 (by simp)).trans P58_.out)
    have Q_9 : Hid (g57_ ≠ w8_.heap.size) := Nat.ne_of_lt (Array.getElem?_eq_some_iff.1 P58_.out).1
    have P69_ := Hid.mk (MapKept.heap_alloc w8_ (.cells #[.pointer none, .int .i64 0] 100)).1
    have N69_ : Hid (w.heap.size < w8_.heap.size) := by have := G8_.out.size; rw [HS0.out] at this; exact Nat.lt_of_succ_le this
    refine hK.out _ _ G9_.out (fun _ => ?_)
    clear hK K
    generalize w8_.alloc (.cells #[.pointer none, .int .i64 0] 100) = w9_ at *
    generalize w8_.heap.size = g69_ at *
    have hne_ : g57_ ≠ g69_ := Q_9.out
    have c50_ : w9_.cell? ⟨g57_, 0, none⟩ = some (.pointer none) := by rw [cell_of_row w9_ _ 0 _ _ (0, 0) P59_.out]; rfl
    have c51_ : w9_.cell? ⟨g57_, 1, none⟩ = some (.int .i64 0) := by rw [cell_of_row w9_ _ 1 _ _ (0, 0) P59_.out]; rfl
    have f5_ : ∀ o, w9_.frozen? ⟨g57_, o, none⟩ = false := fun o => by simp [World.frozen?, P59_.out]
    have c60_ : w9_.cell? ⟨g69_, 0, none⟩ = some (.pointer none) := by rw [cell_of_row w9_ _ 0 _ _ (0, 0) P69_.out]; rfl
    have c61_ : w9_.cell? ⟨g69_, 1, none⟩ = some (.int .i64 0) := by rw [cell_of_row w9_ _ 1 _ _ (0, 0) P69_.out]; rfl
    have f6_ : ∀ o, w9_.frozen? ⟨g69_, o, none⟩ = false := fun o => by simp [World.frozen?, P69_.out]
    have GA_ : Hid (w0.grownBy ((w9_.setCell ⟨g57_, 0, none⟩ (.pointer (some r1_.a))).setCell ⟨g57_, 1, none⟩ (.int .i64 r1_.n)) (some m)) := grown_set (grown_set G9_.out _ (by rw [HS0.out]; exact N57_.out) _) _ (by rw [HS0.out]; exact N57_.out) _
    have GB_ : Hid (w0.grownBy ((((w9_.setCell ⟨g57_, 0, none⟩ (.pointer (some r1_.a))).setCell ⟨g57_, 1, none⟩ (.int .i64 r1_.n)).setCell ⟨g69_, 0, none⟩ (.pointer (some r8_.a))).setCell ⟨g69_, 1, none⟩ (.int .i64 r8_.n)) (some m)) := grown_set (grown_set GA_.out _ (by rw [HS0.out]; exact N69_.out) _) _ (by rw [HS0.out]; exact N69_.out) _
    have R5_ : Hid (((((w9_.setCell ⟨g57_, 0, none⟩ (.pointer (some r1_.a))).setCell ⟨g57_, 1, none⟩ (.int .i64 r1_.n)).setCell ⟨g69_, 0, none⟩ (.pointer (some r8_.a))).setCell ⟨g69_, 1, none⟩ (.int .i64 r8_.n)).heap[g57_]? = some (.cells #[.pointer (some r1_.a), .int .i64 r1_.n] 100 (0, 0))) := by rw [heap_setCell_other _ _ _ _ hne_, heap_setCell_other _ _ _ _ hne_]; exact two_setCell P59_.out
    have R6_ : Hid (((((w9_.setCell ⟨g57_, 0, none⟩ (.pointer (some r1_.a))).setCell ⟨g57_, 1, none⟩ (.int .i64 r1_.n)).setCell ⟨g69_, 0, none⟩ (.pointer (some r8_.a))).setCell ⟨g69_, 1, none⟩ (.int .i64 r8_.n)).heap[g69_]? = some (.cells #[.pointer (some r8_.a), .int .i64 r8_.n] 100 (0, 0))) := two_setCell (by rw [heap_setCell_other _ _ _ _ (Ne.symm hne_), heap_setCell_other _ _ _ _ (Ne.symm hne_)]; exact P69_.out)
    have RM_ : Hid (MapP ((((w9_.setCell ⟨g57_, 0, none⟩ (.pointer (some r1_.a))).setCell ⟨g57_, 1, none⟩ (.int .i64 r1_.n)).setCell ⟨g69_, 0, none⟩ (.pointer (some r8_.a))).setCell ⟨g69_, 1, none⟩ (.int .i64 r8_.n)) D m E8_) := M9_.out.kept (by have h5 := N57_.out; have h6 := N69_.out; rw [heap_setCell_other _ _ _ _ (by show m ≠ g69_; omega), heap_setCell_other _ _ _ _ (by show m ≠ g69_; omega), heap_setCell_other _ _ _ _ (by show m ≠ g57_; omega), heap_setCell_other _ _ _ _ (by show m ≠ g57_; omega)])
    refine wpAnyH_ready (rs := [10]) (by kernel_rfl) (by simp) ?_
    refine AllReadyH.cons rfl (fun K hK => ?_) AllReadyH.nil
    rw [if_pos (by kernel_rfl)]
    go_wp2_with fail
    refine hK.out _ _ GA_.out (fun _ => ?_)
    clear hK K
    refine wpAnyH_ready (rs := [11]) (by kernel_rfl) (by simp) ?_
    refine AllReadyH.cons rfl (fun K hK => ?_) AllReadyH.nil
    rw [if_pos (by kernel_rfl)]
    go_wp2_with fail
    refine hK.out _ _ GB_.out (fun _ => ?_)
    clear hK K
    refine wpAnyH_done (by kernel_rfl) ?_ _
    exact REST g57_ g69_ r1_ r8_ E1_ E8_ _ R5_ R6_ (HG0.out.trans GB_.out) RM_ U8_ L18_ L28_
   ·skip
    rw [if_pos (by kernel_rfl)]
    go_wp2_with fail
    have G10_ : Hid (w0.grownBy (w7_.alloc (.cells #[.pointer none, .int .i64 0] 100)) (some m)) := G7_.out.trans (World.grownBy_alloc _ _ _)
    have M10_ : Hid (MapP (w7_.alloc (.cells #[.pointer none, .int .i64 0] 100)) D m E1_) := M7_.out.kept ((World.grownBy_alloc w7_ _ none).block m M7_.out.lt (by simp))
    have P510_ := Hid.mk (((World.grownBy_alloc w7_ (.cells #[.pointer none, .int .i64 0] 100) none).block _ (Array.getElem?_eq_some_iff.1 P57_.out).1 (by simp)).trans P57_.out)
    have Q_10 : Hid (g57_ ≠ w7_.heap.size) := Nat.ne_of_lt (Array.getElem?_eq_some_iff.1 P57_.out).1
    have P610_ := Hid.mk (MapKept.heap_alloc w7_ (.cells #[.pointer none, .int .i64 0] 100)).1
    have N610_ : Hid (w.heap.size < w7_.heap.size) := by have := G7_.out.size; rw [HS0.out] at this; exact Nat.lt_of_succ_le this
    refine hK.out _ _ G10_.out (fun _ => ?_)
    clear hK K
    generalize w7_.alloc (.cells #[.pointer none, .int .i64 0] 100) = w10_ at *
    generalize w7_.heap.size = g610_ at *
    refine wpAnyH_ready (rs := [7]) (by kernel_rfl) (by simp) ?_
    refine AllReadyH.cons rfl (fun K hK => ?_) AllReadyH.nil
    rw [if_pos (by kernel_rfl)]
    go_wp2_with fail
    refine (standsX_any _ D m E1_ b' off' n' cap' HN.out.2 (HDW.out _ (HG0.out.trans G10_.out)) HP.out.2 M10_.out U1_.out).mono ?_
    rintro e w11_ ⟨r11_, E11_, rfl, hm_, hu_, hal_, hle_, hno_, hd_, hro_, hg_⟩
    have G11_ : Hid (w0.grownBy w11_ (some m)) := G10_.out.trans hg_
    have M11_ := Hid.mk hm_
    have U11_ := Hid.mk hu_
    have P511_ := Hid.mk ((hg_.block _ (Array.getElem?_eq_some_iff.1 P510_.out).1 (by intro e; have := N57_.out; simp at e; omega)).trans P510_.out)
    have P611_ := Hid.mk ((hg_.block _ (Array.getElem?_eq_some_iff.1 P610_.out).1 (by intro e; have := N610_.out; simp at e; omega)).trans P610_.out)
    have L211_ : Hid (Alk E1_ E11_ ∧ Leads E11_ ⟨⟨b', off', none⟩, n'⟩ r11_ ∧ D r11_.a.block ∧ lk E11_ r11_ = none) := ⟨hal_, hle_, hd_, hno_⟩
    have L111_ : Hid (Alk E E1_ ∧ Leads E1_ ⟨⟨b, off, none⟩, n⟩ r1_ ∧ D r1_.a.block ∧ lk E11_ r1_ = none) := ⟨L11_.out.1, L11_.out.2.1, L11_.out.2.2.1, hro_ _ L11_.out.2.2.2⟩
    refine hK.out _ _ G11_.out (fun _ => ?_)
    clear hK K hm_ hu_ hal_ hle_ hno_ hd_ hro_ hg_
    have hne_ : g57_ ≠ g610_ := Q_10.out
    have c50_ : w11_.cell? ⟨g57_, 0, none⟩ = some (.pointer none) := by rw [cell_of_row w11_ _ 0 _ _ (0, 0) P511_.out]; rfl
    have c51_ : w11_.cell? ⟨g57_, 1, none⟩ = some (.int .i64 0) := by rw [cell_of_row w11_ _ 1 _ _ (0, 0) P511_.out]; rfl
    have f5_ : ∀ o, w11_.frozen? ⟨g57_, o, none⟩ = false := fun o => by simp [World.frozen?, P511_.out]
    have c60_ : w11_.cell? ⟨g610_, 0, none⟩ = some (.pointer none) := by rw [cell_of_row w11_ _ 0 _ _ (0, 0) P611_.out]; rfl
    have c61_ : w11_.cell? ⟨g610_, 1, none⟩ = some (.int .i64 0) := by rw [cell_of_row w11_ _ 1 _ _ (0, 0) P611_.out]; rfl
    have f6_ : ∀ o, w11_.frozen? ⟨g610_, o, none⟩ = false := fun o => by simp [World.frozen?, P611_.out]
    have GA_ : Hid (w0.grownBy ((w11_.setCell ⟨g57_, 0, none⟩ (.pointer (some r1_.a))).setCell ⟨g57_, 1, none⟩ (.int .i64 r1_.n)) (some m)) := grown_set (grown_set G11_.out _ (by rw [HS0.out]; exact N57_.out) _) _ (by rw [HS0.out]; exact N57_.out) _
    have GB_ : Hid (w0.grownBy ((((w11_.setCell ⟨g57_, 0, none⟩ (.pointer (some r1_.a))).setCell ⟨g57_, 1, none⟩ (.int .i64 r1_.n)).setCell ⟨g610_, 0, none⟩ (.pointer (some r11_.a))).setCell ⟨g610_, 1, none⟩ (.int .i64 r11_.n)) (some m)) := grown_set (grown_set GA_.out _ (by rw [HS0.out]; exact N610_.out) _) _ (by rw [HS0.out]; exact N610_.out) _
    have R5_ : Hid (((((w11_.setCell ⟨g57_, 0, none⟩ (.pointer (some r1_.a))).setCell ⟨g57_, 1, none⟩ (.int .i64 r1_.n)).setCell ⟨g610_, 0, none⟩ (.pointer (some r11_.a))).setCell ⟨g610_, 1, none⟩ (.int .i64 r11_.n)).heap[g57_]? = some (.cells #[.pointer (some r1_.a), .int .i64 r1_.n] 100 (0, 0))) := by rw [heap_setCell_other _ _ _ _ hne_, heap_setCell_other _ _ _ _ hne_]; exact two_setCell P511_.out
    have R6_ : Hid (((((w11_.setCell ⟨g57_, 0, none⟩ (.pointer (some r1_.a))).setCell ⟨g57_, 1, none⟩ (.int .i64 r1_.n)).setCell ⟨g610_, 0, none⟩ (.pointer (some r11_.a))).setCell ⟨g610_, 1, none⟩ (.int .i64 r11_.n)).heap[g610_]? = some (.cells #[.pointer (some r11_.a), .int .i64 r11_.n] 100 (0, 0))) := two_setCell (by rw [heap_setCell_other _ _ _ _ (Ne.symm hne_), heap_setCell_other _ _ _ _ (Ne.symm hne_)]; exact P611_.out)
    have RM_ : Hid (MapP ((((w11_.setCell ⟨g57_, 0, none⟩ (.pointer (some r1_.a))).setCell ⟨g57_, 1, none⟩ (.int .i64 r1_.n)).setCell ⟨g610_, 0, none⟩ (.pointer (some r11_.a))).setCell ⟨g610_, 1, none⟩ (.int .i64 r11_.n)) D m E11_) := M11_.out.kept (by have h5 := N57_.out; have h6 := N610_.out; rw [heap_setCell_other _ _ _ _ (by show m ≠ g610_; omega), heap_setCell_other _ _ _ _ (by show m ≠ g610_; omega), heap_setCell_other _ _ _ _ (by show m ≠ g57_; omega), heap_setCell_other _ _ _ _ (by show m ≠ g57_; omega)])
    refine wpAnyH_ready (rs := [10]) (by kernel_rfl) (by simp) ?_
    refine AllReadyH.cons rfl (fun K hK => ?_) AllReadyH.nil
    rw [if_pos (by kernel_rfl)]
    go_wp2_with fail
    refine hK.out _ _ GA_.out (fun _ => ?_)
    clear hK K
    refine wpAnyH_ready (rs := [11]) (by kernel_rfl) (by simp) ?_
    refine AllReadyH.cons rfl (fun K hK => ?_) AllReadyH.nil
    rw [if_pos (by kernel_rfl)]
    go_wp2_with fail
    refine hK.out _ _ GB_.out (fun _ => ?_)
    clear hK K
    refine wpAnyH_done (by kernel_rfl) ?_ _
    exact REST g57_ g610_ r1_ r11_ E1_ E11_ _ R5_ R6_ (HG0.out.trans GB_.out) RM_ U11_ L111_ L211_
  ·skip
   rw [if_pos (by kernel_rfl)]
   go_wp2_with fail
   have G12_ : Hid (w0.grownBy (w1_.alloc (.cells #[.pointer none, .int .i64 0] 100)) (some m)) := G1_.out.trans (World.grownBy_alloc _ _ _)
   have M12_ : Hid (MapP (w1_.alloc (.cells #[.pointer none, .int .i64 0] 100)) D m E1_) := M1_.out.kept ((World.grownBy_alloc w1_ _ none).block m M1_.out.lt (by simp))
   have P612_ := Hid.mk (MapKept.heap_alloc w1_ (.cells #[.pointer none, .int .i64 0] 100)).1
   have N612_ : Hid (w.heap.size < w1_.heap.size) := by have := G1_.out.size; rw [HS0.out] at this; exact Nat.lt_of_succ_le this
   refine hK.out _ _ G12_.out (fun _ => ?_)
   clear hK K
   generalize w1_.alloc (.cells #[.pointer none, .int .i64 0] 100) = w12_ at *
   generalize w1_.heap.size = g612_ at *
   refine wpAnyH_ready (rs := [7, 8]) (by kernel_rfl) (by simp) ?_
   refine AllReadyH.cons rfl (fun K hK => ?_) (AllReadyH.cons rfl (fun K hK => ?_) (AllReadyH.nil))
   ·skip
    rw [if_pos (by kernel_rfl)]
    go_wp2_with fail
    refine (standsX_any _ D m E1_ b' off' n' cap' HN.out.2 (HDW.out _ (HG0.out.trans G12_.out)) HP.out.2 M12_.out U1_.out).mono ?_
    rintro e w13_ ⟨r13_, E13_, rfl, hm_, hu_, hal_, hle_, hno_, hd_, hro_, hg_⟩
    have G13_ : Hid (w0.grownBy w13_ (some m)) := G12_.out.trans hg_
    have M13_ := Hid.mk hm_
    have U13_ := Hid.mk hu_
    have P613_ := Hid.mk ((hg_.block _ (Array.getElem?_eq_some_iff.1 P612_.out).1 (by intro e; have := N612_.out; simp at e; omega)).trans P612_.out)
    have L213_ : Hid (Alk E1_ E13_ ∧ Leads E13_ ⟨⟨b', off', none⟩, n'⟩ r13_ ∧ D r13_.a.block ∧ lk E13_ r13_ = none) := ⟨hal_, hle_, hd_, hno_⟩
    have L113_ : Hid (Alk E E1_ ∧ Leads E1_ ⟨⟨b, off, none⟩, n⟩ r1_ ∧ D r1_.a.block ∧ lk E13_ r1_ = none) := ⟨L11_.out.1, L11_.out.2.1, L11_.out.2.2.1, hro_ _ L11_.out.2.2.2⟩
    refine hK.out _ _ G13_.out (fun _ => ?_)
    clear hK K hm_ hu_ hal_ hle_ hno_ hd_ hro_ hg_
    refine wpAnyH_ready (rs := [8]) (by kernel_rfl) (by simp) ?_
    refine AllReadyH.cons rfl (fun K hK => ?_) AllReadyH.nil
    rw [if_pos (by kernel_rfl)]
    go_wp2_with fail
    have G14_ : Hid (w0.grownBy (w13_.alloc (.cells #[.pointer none, .int .i64 0] 100)) (some m)) := G13_.out.trans (World.grownBy_alloc _ _ _)
    have M14_ : Hid (MapP (w13_.alloc (.cells #[.pointer none, .int .i64 0] 100)) D m E13_) := M13_.out.kept ((World.grownBy_alloc w13_ _ none).block m M13_.out.lt (by simp))
    have P614_ := Hid.mk (((World.grownBy_alloc w13_ (.cells #[.pointer none, .int .i64 0] 100) none).block _ (Array.getElem?_eq_some_iff.1 P613_.out).1 (by simp)).trans P613_.out)
    have Q_14 : Hid (g612_ ≠ w13_.heap.size) := Nat.ne_of_lt (Array.getElem?_eq_some_iff.1 P613_.out).1
    have P514_ := Hid.mk (MapKept.heap_alloc w13_ (.cells #[.pointer none, .int .i64 0] 100)).1
    have N514_ : Hid (w.heap.size < w13_.heap.size) := by have := G13_.out.size; rw [HS0.out] at this; exact Nat.lt_of_succ_le this
    refine hK.out _ _ G14_.out (fun _ => ?_)
    clear hK K
    generalize w13_.alloc (.cells #[.pointer none, .int .i64 0] 100) = w14_ at *
    generalize w13_.heap.size = g514_ at *
    have hne_ : g514_ ≠ g612_ := (Ne.symm Q_14.out)
    have c50_ : w14_.cell? ⟨g514_, 0, none⟩ = some (.pointer none) := by rw [cell_of_row w14_ _ 0 _ _ (0, 0) P514_.out]; rfl
    have c51_ : w14_.cell? ⟨g514_, 1, none⟩ = some (.int .i64 0) := by rw [cell_of_row w14_ _ 1 _ _ (0, 0) P514_.out]; rfl
    have f5_ : ∀ o, w14_.frozen? ⟨g514_, o, none⟩ = false := fun o => by simp [World.frozen?, P514_.out]
    have c60_ : w14_.cell? ⟨g612_, 0, none⟩ = some (.pointer none) := by rw [cell_of_row w14_ _ 0 _ _ (0, 0) P614_.out]; rfl
    have c61_ : w14_.cell? ⟨g612_, 1, none⟩ = some (.int .i64 0) := by rw [cell_of_row w14_ _ 1 _ _ (0, 0) P614_.out]; rfl
    have f6_ : ∀ o, w14_.frozen? ⟨g612_, o, none⟩ = false := fun o => by simp [World.frozen?, P614_.out]
    have GA_ : Hid (w0.grownBy ((w14_.setCell ⟨g514_, 0, none⟩ (.pointer (some r1_.a))).setCell ⟨g514_, 1, none⟩ (.int .i64 r1_.n)) (some m)) := grown_set (grown_set G14_.out _ (by rw [HS0.out]; exact N514_.out) _) _ (by rw [HS0.out]; exact N514_.out) _
    have GB_ : Hid (w0.grownBy ((((w14_.setCell ⟨g514_, 0, none⟩ (.pointer (some r1_.a))).setCell ⟨g514_, 1, none⟩ (.int .i64 r1_.n)).setCell ⟨g612_, 0, none⟩ (.pointer (some r13_.a))).setCell ⟨g612_, 1, none⟩ (.int .i64 r13_.n)) (some m)) := grown_set (grown_set GA_.out _ (by rw [HS0.out]; exact N612_.out) _) _ (by rw [HS0.out]; exact N612_.out) _
    have R5_ : Hid (((((w14_.setCell ⟨g514_, 0, none⟩ (.pointer (some r1_.a))).setCell ⟨g514_, 1, none⟩ (.int .i64 r1_.n)).setCell ⟨g612_, 0, none⟩ (.pointer (some r13_.a))).setCell ⟨g612_, 1, none⟩ (.int .i64 r13_.n)).heap[g514_]? = some (.cells #[.pointer (some r1_.a), .int .i64 r1_.n] 100 (0, 0))) := by rw [heap_setCell_other _ _ _ _ hne_, heap_setCell_other _ _ _ _ hne_]; exact two_setCell P514_.out
    have R6_ : Hid (((((w14_.setCell ⟨g514_, 0, none⟩ (.pointer (some r1_.a))).setCell ⟨g514_, 1, none⟩ (.int .i64 r1_.n)).setCell ⟨g612_, 0, none⟩ (.pointer (some r13_.a))).setCell ⟨g612_, 1, none⟩ (.int .i64 r13_.n)).heap[g612_]? = some (.cells #[.pointer (some r13_.a), .int .i64 r13_.n] 100 (0, 0))) := two_setCell (by rw [heap_setCell_other _ _ _ _ (Ne.symm hne_), heap_setCell_other _ _ _ _ (Ne.symm hne_)]; exact P614_.out)
    have RM_ : Hid (MapP ((((w14_.setCell ⟨g514_, 0, none⟩ (.pointer (some r1_.a))).setCell ⟨g514_, 1, none⟩ (.int .i64 r1_.n)).setCell ⟨g612_, 0, none⟩ (.pointer (some r13_.a))).setCell ⟨g612_, 1, none⟩ (.int .i64 r13_.n)) D m E13_) := M14_.out.kept (by have h5 := N514_.out; have h6 := N612_.out; rw [heap_setCell_other _ _ _ _ (by show m ≠ g612_; omega), heap_setCell_other _ _ _ _ (by show m ≠ g612_; omega), heap_setCell_other _ _ _ _ (by show m ≠ g514_; omega), heap_setCell_other _ _ _ _ (by show m ≠ g514_; omega)])
    refine wpAnyH_ready (rs := [10]) (by kernel_rfl) (by simp) ?_
    refine AllReadyH.cons rfl (fun K hK => ?_) AllReadyH.nil
    rw [if_pos (by kernel_rfl)]
    go_wp2_with fail
    refine hK.out _ _ GA_.out (fun _ => ?_)
    clear hK K
    refine wpAnyH_ready (rs := [11]) (by kernel_rfl) (by simp) ?_
    refine AllReadyH.cons rfl (fun K hK => ?_) AllReadyH.nil
    rw [if_pos (by kernel_rfl)]
    go_wp2_with fail
    refine hK.out _ _ GB_.out (fun _ => ?_)
    clear hK K
    refine wpAnyH_done (by kernel_rfl) ?_ _
    exact REST g514_ g612_ r1_ r13_ E1_ E13_ _ R5_ R6_ (HG0.out.trans GB_.out) RM_ U13_ L113_ L213_
   ·skip
    rw [if_pos (by kernel_rfl)]
    go_wp2_with fail
    have G15_ : Hid (w0.grownBy (w12_.alloc (.cells #[.pointer none, .int .i64 0] 100)) (some m)) := G12_.out.trans (World.grownBy_alloc _ _ _)
    have M15_ : Hid (MapP (w12_.alloc (.cells #[.pointer none, .int .i64 0] 100)) D m E1_) := M12_.out.kept ((World.grownBy_alloc w12_ _ none).block m M12_.out.lt (by simp))
    have P615_ := Hid.mk (((World.grownBy_alloc w12_ (.cells #[.pointer none, .int .i64 0] 100) none).block _ (Array.getElem?_eq_some_iff.1 P612_.out).1 (by simp)).trans P612_.out)
    have Q_15 : Hid (g612_ ≠ w12_.heap.size) := Nat.ne_of_lt (Array.getElem?_eq_some_iff.1 P612_.out).1
    have P515_ := Hid.mk (MapKept.heap_alloc w12_ (.cells #[.pointer none, .int .i64 0] 100)).1
    have N515_ : Hid (w.heap.size < w12_.heap.size) := by have := G12_.out.size; rw [HS0.out] at this; exact Nat.lt_of_succ_le this
    refine hK.out _ _ G15_.out (fun _ => ?_)
    clear hK K
    generalize w12_.alloc (.cells #[.pointer none, .int .i64 0] 100) = w15_ at *
    generalize w12_.heap.size = g515_ at *
    refine wpAnyH_ready (rs := [7]) (by kernel_rfl) (by simp) ?_
    refine AllReadyH.cons rfl (fun K hK => ?_) AllReadyH.nil
    rw [if_pos (by kernel_rfl)]
    go_wp2_with fail
    refine (standsX_any _ D m E1_ b' off' n' cap' HN.out.2 (HDW.out _ (HG0.out.trans G15_.out)) HP.out.2 M15_.out U1_.out).mono ?_
    rintro e w16_ ⟨r16_, E16_, rfl, hm_, hu_, hal_, hle_, hno_, hd_, hro_, hg_⟩
    have G16_ : Hid (w0.grownBy w16_ (some m)) := G15_.out.trans hg_
    have M16_ := Hid.mk hm_
    have U16_ := Hid.mk hu_
    have P516_ := Hid.mk ((hg_.block _ (Array.getElem?_eq_some_iff.1 P515_.out).1 (by intro e; have := N515_.out; simp at e; omega)).trans P515_.out)
    have P616_ := Hid.mk ((hg_.block _ (Array.getElem?_eq_some_iff.1 P615_.out).1 (by intro e; have := N612_.out; simp at e; omega)).trans P615_.out)
    have L216_ : Hid (Alk E1_ E16_ ∧ Leads E16_ ⟨⟨b', off', none⟩, n'⟩ r16_ ∧ D r16_.a.block ∧ lk E16_ r16_ = none) := ⟨hal_, hle_, hd_, hno_⟩
    have L116_ : Hid (Alk E E1_ ∧ Leads E1_ ⟨⟨b, off, none⟩, n⟩ r1_ ∧ D r1_.a.block ∧ lk E16_ r1_ = none) := ⟨L11_.out.1, L11_.out.2.1, L11_.out.2.2.1, hro_ _ L11_.out.2.2.2⟩
    refine hK.out _ _ G16_.out (fun _ => ?_)
    clear hK K hm_ hu_ hal_ hle_ hno_ hd_ hro_ hg_
    have hne_ : g515_ ≠ g612_ := (Ne.symm Q_15.out)
    have c50_ : w16_.cell? ⟨g515_, 0, none⟩ = some (.pointer none) := by rw [cell_of_row w16_ _ 0 _ _ (0, 0) P516_.out]; rfl
    have c51_ : w16_.cell? ⟨g515_, 1, none⟩ = some (.int .i64 0) := by rw [cell_of_row w16_ _ 1 _ _ (0, 0) P516_.out]; rfl
    have f5_ : ∀ o, w16_.frozen? ⟨g515_, o, none⟩ = false := fun o => by simp [World.frozen?, P516_.out]
    have c60_ : w16_.cell? ⟨g612_, 0, none⟩ = some (.pointer none) := by rw [cell_of_row w16_ _ 0 _ _ (0, 0) P616_.out]; rfl
    have c61_ : w16_.cell? ⟨g612_, 1, none⟩ = some (.int .i64 0) := by rw [cell_of_row w16_ _ 1 _ _ (0, 0) P616_.out]; rfl
    have f6_ : ∀ o, w16_.frozen? ⟨g612_, o, none⟩ = false := fun o => by simp [World.frozen?, P616_.out]
    have GA_ : Hid (w0.grownBy ((w16_.setCell ⟨g515_, 0, none⟩ (.pointer (some r1_.a))).setCell ⟨g515_, 1, none⟩ (.int .i64 r1_.n)) (some m)) := grown_set (grown_set G16_.out _ (by rw [HS0.out]; exact N515_.out) _) _ (by rw [HS0.out]; exact N515_.out) _
    have GB_ : Hid (w0.grownBy ((((w16_.setCell ⟨g515_, 0, none⟩ (.pointer (some r1_.a))).setCell ⟨g515_, 1, none⟩ (.int .i64 r1_.n)).setCell ⟨g612_, 0, none⟩ (.pointer (some r16_.a))).setCell ⟨g612_, 1, none⟩ (.int .i64 r16_.n)) (some m)) := grown_set (grown_set GA_.out _ (by rw [HS0.out]; exact N612_.out) _) _ (by rw [HS0.out]; exact N612_.out) _
    have R5_ : Hid (((((w16_.setCell ⟨g515_, 0, none⟩ (.pointer (some r1_.a))).setCell ⟨g515_, 1, none⟩ (.int .i64 r1_.n)).setCell ⟨g612_, 0, none⟩ (.pointer (some r16_.a))).setCell ⟨g612_, 1, none⟩ (.int .i64 r16_.n)).heap[g515_]? = some (.cells #[.pointer (some r1_.a), .int .i64 r1_.n] 100 (0, 0))) := by rw [heap_setCell_other _ _ _ _ hne_, heap_setCell_other _ _ _ _ hne_]; exact two_setCell P516_.out
    have R6_ : Hid (((((w16_.setCell ⟨g515_, 0, none⟩ (.pointer (some r1_.a))).setCell ⟨g515_, 1, none⟩ (.int .i64 r1_.n)).setCell ⟨g612_, 0, none⟩ (.pointer (some r16_.a))).setCell ⟨g612_, 1, none⟩ (.int .i64 r16_.n)).heap[g612_]? = some (.cells #[.pointer (some r16_.a), .int .i64 r16_.n] 100 (0, 0))) := two_setCell (by rw [heap_setCell_other _ _ _ _ (Ne.symm hne_), heap_setCell_other _ _ _ _ (Ne.symm hne_)]; exact P616_.out)
    have RM_ : Hid (MapP ((((w16_.setCell ⟨g515_, 0, none⟩ (.pointer (some r1_.a))).setCell ⟨g515_, 1, none⟩ (.int .i64 r1_.n)).setCell ⟨g612_, 0, none⟩ (.pointer (some r16_.a))).setCell ⟨g612_, 1, none⟩ (.int .i64 r16_.n)) D m E16_) := M16_.out.kept (by have h5 := N515_.out; have h6 := N612_.out; rw [heap_setCell_other _ _ _ _ (by show m ≠ g612_; omega), heap_setCell_other _ _ _ _ (by show m ≠ g612_; omega), heap_setCell_other _ _ _ _ (by show m ≠ g515_; omega), heap_setCell_other _ _ _ _ (by show m ≠ g515_; omega)])
    refine wpAnyH_ready (rs := [10]) (by kernel_rfl) (by simp) ?_
    refine AllReadyH.cons rfl (fun K hK => ?_) AllReadyH.nil
    rw [if_pos (by kernel_rfl)]
    go_wp2_with fail
    refine hK.out _ _ GA_.out (fun _ => ?_)
    clear hK K
    refine wpAnyH_ready (rs := [11]) (by kernel_rfl) (by simp) ?_
    refine AllReadyH.cons rfl (fun K hK => ?_) AllReadyH.nil
    rw [if_pos (by kernel_rfl)]
    go_wp2_with fail
    refine hK.out _ _ GB_.out (fun _ => ?_)
    clear hK K
    refine wpAnyH_done (by kernel_rfl) ?_ _
    exact REST g515_ g612_ r1_ r16_ E1_ E16_ _ R5_ R6_ (HG0.out.trans GB_.out) RM_ U16_ L116_ L216_
 ·skip
  rw [if_pos (by kernel_rfl)]
  go_wp2_with fail
  have G17_ : Hid (w0.grownBy (w0d.alloc (.cells #[.pointer none, .int .i64 0] 100)) (some m)) := G0_.out.trans (World.grownBy_alloc _ _ _)
  have M17_ : Hid (MapP (w0d.alloc (.cells #[.pointer none, .int .i64 0] 100)) D m E) := M0.out.kept ((World.grownBy_alloc w0d _ none).block m M0.out.lt (by simp))
  have P517_ := Hid.mk (MapKept.heap_alloc w0d (.cells #[.pointer none, .int .i64 0] 100)).1
  have N517_ : Hid (w.heap.size < w0d.heap.size) := by have := G0_.out.size; rw [HS0.out] at this; exact Nat.lt_of_succ_le this
  refine hK.out _ _ G17_.out (fun _ => ?_)
  clear hK K
  generalize w0d.alloc (.cells #[.pointer none, .int .i64 0] 100) = w17_ at *
  generalize w0d.heap.size = g517_ at *
  refine wpAnyH_ready (rs := [3, 9]) (by kernel_rfl) (by simp) ?_
  refine AllReadyH.cons rfl (fun K hK => ?_) (AllReadyH.cons rfl (fun K hK => ?_) (AllReadyH.nil))
  ·skip
   rw [if_pos (by kernel_rfl)]
   go_wp2_with fail
   refine (standsX_any _ D m E b off n cap HN.out.1 (HDW.out _ (HG0.out.trans G17_.out)) HP.out.1 M17_.out HU.out).mono ?_
   rintro e w18_ ⟨r18_, E18_, rfl, hm_, hu_, hal_, hle_, hno_, hd_, hro_, hg_⟩
   have G18_ : Hid (w0.grownBy w18_ (some m)) := G17_.out.trans hg_
   have M18_ := Hid.mk hm_
   have U18_ := Hid.mk hu_
   have P518_ := Hid.mk ((hg_.block _ (Array.getElem?_eq_some_iff.1 P517_.out).1 (by intro e; have := N517_.out; simp at e; omega)).trans P517_.out)
   have L118_ : Hid (Alk E E18_ ∧ Leads E18_ ⟨⟨b, off, none⟩, n⟩ r18_ ∧ D r18_.a.block ∧ lk E18_ r18_ = none) := ⟨hal_, hle_, hd_, hno_⟩
   refine hK.out _ _ G18_.out (fun _ => ?_)
   clear hK K hm_ hu_ hal_ hle_ hno_ hd_ hro_ hg_
   refine wpAnyH_ready (rs := [7, 9]) (by kernel_rfl) (by simp) ?_
   refine AllReadyH.cons rfl (fun K hK => ?_) (AllReadyH.cons rfl (fun K hK => ?_) (AllReadyH.nil))
   ·skip
    rw [if_pos (by kernel_rfl)]
    go_wp2_with fail
    refine (standsX_any _ D m E18_ b' off' n' cap' HN.out.2 (HDW.out _ (HG0.out.trans G18_.out)) HP.out.2 M18_.out U18_.out).mono ?_
    rintro e w19_ ⟨r19_, E19_, rfl, hm_, hu_, hal_, hle_, hno_, hd_, hro_, hg_⟩
    have G19_ : Hid (w0.grownBy w19_ (some m)) := G18_.out.trans hg_
    have M19_ := Hid.mk hm_
    have U19_ := Hid.mk hu_
    have P519_ := Hid.mk ((hg_.block _ (Array.getElem?_eq_some_iff.1 P518_.out).1 (by intro e; have := N517_.out; simp at e; omega)).trans P518_.out)
    have L219_ : Hid (Alk E18_ E19_ ∧ Leads E19_ ⟨⟨b', off', none⟩, n'⟩ r19_ ∧ D r19_.a.block ∧ lk E19_ r19_ = none) := ⟨hal_, hle_, hd_, hno_⟩
    have L119_ : Hid (Alk E E18_ ∧ Leads E18_ ⟨⟨b, off, none⟩, n⟩ r18_ ∧ D r18_.a.block ∧ lk E19_ r18_ = none) := ⟨L118_.out.1, L118_.out.2.1, L118_.out.2.2.1, hro_ _ L118_.out.2.2.2⟩
    refine hK.out _ _ G19_.out (fun _ => ?_)
    clear hK K hm_ hu_ hal_ hle_ hno_ hd_ hro_ hg_
    refine wpAnyH_ready (rs := [9]) (by kernel_rfl) (by simp) ?_
    refine AllReadyH.cons rfl (fun K hK => ?_) AllReadyH.nil
    rw [if_pos (by kernel_rfl)]
    go_wp2_with fail
    have G20_ : Hid (w0.grownBy (w19_.alloc (.cells #[.pointer none, .int .i64 0] 100)) (some m)) := G19_.out.trans (World.grownBy_alloc _ _ _)
    have M20_ : Hid (MapP (w19_.alloc (.cells #[.pointer none, .int .i64 0] 100)) D m E19_) := M19_.out.kept ((World.grownBy_alloc w19_ _ none).block m M19_.out.lt (by simp))
    have P520_ := Hid.mk (((World.grownBy_alloc w19_ (.cells #[.pointer none, .int .i64 0] 100) none).block _ (Array.getElem?_eq_some_iff.1 P519_.out).1 (by simp)).trans P519_.out)
    have Q_20 : Hid (g517_ ≠ w19_.heap.size) := Nat.ne_of_lt (Array.getElem?_eq_some_iff.1 P519_.out).1
    have P620_ := Hid.mk (MapKept.heap_alloc w19_ (.cells #[.pointer none, .int .i64 0] 100)).1
    have N620_ : Hid (w.heap.size < w19_.heap.size) := by have := G19_.out.size; rw [HS0.out] at this; exact Nat.lt_of_succ_le this
    refine hK.out _ _ G20_.out (fun _ => ?_)
    clear hK K
    generalize w19_.alloc (.cells #[.pointer none, .int .i64 0] 100) = w20_ at *
    generalize w19_.heap.size = g620_ at *
    have hne_ : g517_ ≠ g620_ := Q_20.out
    have c50_ : w20_.cell? ⟨g517_, 0, none⟩ = some (.pointer none) := by rw [cell_of_row w20_ _ 0 _ _ (0, 0) P520_.out]; rfl
    have c51_ : w20_.cell? ⟨g517_, 1, none⟩ = some (.int .i64 0) := by rw [cell_of_row w20_ _ 1 _ _ (0, 0) P520_.out]; rfl
    have f5_ : ∀ o, w20_.frozen? ⟨g517_, o, none⟩ = false := fun o => by simp [World.frozen?, P520_.out]
    have c60_ : w20_.cell? ⟨g620_, 0, none⟩ = some (.pointer none) := by rw [cell_of_row w20_ _ 0 _ _ (0, 0) P620_.out]; rfl
    have c61_ : w20_.cell? ⟨g620_, 1, none⟩ = some (.int .i64 0) := by rw [cell_of_row w20_ _ 1 _ _ (0, 0) P620_.out]; rfl
    have f6_ : ∀ o, w20_.frozen? ⟨g620_, o, none⟩ = false := fun o => by simp [World.frozen?, P620_.out]
    have GA_ : Hid (w0.grownBy ((w20_.setCell ⟨g517_, 0, none⟩ (.pointer (some r18_.a))).setCell ⟨g517_, 1, none⟩ (.int .i64 r18_.n)) (some m)) := grown_set (grown_set G20_.out _ (by rw [HS0.out]; exact N517_.out) _) _ (by rw [HS0.out]; exact N517_.out) _
    have GB_ : Hid (w0.grownBy ((((w20_.setCell ⟨g517_, 0, none⟩ (.pointer (some r18_.a))).setCell ⟨g517_, 1, none⟩ (.int .i64 r18_.n)).setCell ⟨g620_, 0, none⟩ (.pointer (some r19_.a))).setCell ⟨g620_, 1, none⟩ (.int .i64 r19_.n)) (some m)) := grown_set (grown_set GA_.out _ (by rw [HS0.out]; exact N620_.out) _) _ (by rw [HS0.out]; exact N620_.out) _
    have R5_ : Hid (((((w20_.setCell ⟨g517_, 0, none⟩ (.pointer (some r18_.a))).setCell ⟨g517_, 1, none⟩ (.int .i64 r18_.n)).setCell ⟨g620_, 0, none⟩ (.pointer (some r19_.a))).setCell ⟨g620_, 1, none⟩ (.int .i64 r19_.n)).heap[g517_]? = some (.cells #[.pointer (some r18_.a), .int .i64 r18_.n] 100 (0, 0))) := by rw [heap_setCell_other _ _ _ _ hne_, heap_setCell_other _ _ _ _ hne_]; exact two_setCell P520_.out
    have R6_ : Hid (((((w20_.setCell ⟨g517_, 0, none⟩ (.pointer (some r18_.a))).setCell ⟨g517_, 1, none⟩ (.int .i64 r18_.n)).setCell ⟨g620_, 0, none⟩ (.pointer (some r19_.a))).setCell ⟨g620_, 1, none⟩ (.int .i64 r19_.n)).heap[g620_]? = some (.cells #[.pointer (some r19_.a), .int .i64 r19_.n] 100 (0, 0))) := two_setCell (by rw [heap_setCell_other _ _ _ _ (Ne.symm hne_), heap_setCell_other _ _ _ _ (Ne.symm hne_)]; exact P620_.out)
    have RM_ : Hid (MapP ((((w20_.setCell ⟨g517_, 0, none⟩ (.pointer (some r18_.a))).setCell ⟨g517_, 1, none⟩ (.int .i64 r18_.n)).setCell ⟨g620_, 0, none⟩ (.pointer (some r19_.a))).setCell ⟨g620_, 1, none⟩ (.int .i64 r19_.n)) D m E19_) := M20_.out.kept (by have h5 := N517_.out; have h6 := N620_.out; rw [heap_setCell_other _ _ _ _ (by show m ≠ g620_; omega), heap_setCell_other _ _ _ _ (by show m ≠ g620_; omega), heap_setCell_other _ _ _ _ (by show m ≠ g517_; omega), heap_setCell_other _ _ _ _ (by show m ≠ g517_; omega)])
    refine wpAnyH_ready (rs := [10]) (by kernel_rfl) (by simp) ?_
    refine AllReadyH.cons rfl (fun K hK => ?_) AllReadyH.nil
    rw [if_pos (by kernel_rfl)]
    go_wp2_with fail
    refine hK.out _ _ GA_.out (fun _ => ?_)
    clear hK K
    refine wpAnyH_ready (rs := [11]) (by kernel_rfl) (by simp) ?_
    refine AllReadyH.cons rfl (fun K hK => ?_) AllReadyH.nil
    rw [if_pos (by kernel_rfl)]
    go_wp2_with fail
    refine hK.out _ _ GB_.out (fun _ => ?_)
    clear hK K
    refine wpAnyH_done (by kernel_rfl) ?_ _
    exact REST g517_ g620_ r18_ r19_ E18_ E19_ _ R5_ R6_ (HG0.out.trans GB_.out) RM_ U19_ L119_ L219_
   ·skip
    rw [if_pos (by kernel_rfl)]
    go_wp2_with fail
    have G21_ : Hid (w0.grownBy (w18_.alloc (.cells #[.pointer none, .int .i64 0] 100)) (some m)) := G18_.out.trans (World.grownBy_alloc _ _ _)
    have M21_ : Hid (MapP (w18_.alloc (.cells #[.pointer none, .int .i64 0] 100)) D m E18_) := M18_.out.kept ((World.grownBy_alloc w18_ _ none).block m M18_.out.lt (by simp))
    have P521_ := Hid.mk (((World.grownBy_alloc w18_ (.cells #[.pointer none, .int .i64 0] 100) none).block _ (Array.getElem?_eq_some_iff.1 P518_.out).1 (by simp)).trans P518_.out)
    have Q_21 : Hid (g517_ ≠ w18_.heap.size) := Nat.ne_of_lt (Array.getElem?_eq_some_iff.1 P518_.out).1
    have P621_ := Hid.mk (MapKept.heap_alloc w18_ (.cells #[.pointer none, .int .i64 0] 100)).1
    have N621_ : Hid (w.heap.size < w18_.heap.size) := by have := G18_.out.size; rw [HS0.out] at this; exact Nat.lt_of_succ_le this
    refine hK.out _ _ G21_.out (fun _ => ?_)
    clear hK K
    generalize w18_.alloc (.cells #[.pointer none, .int .i64 0] 100) = w21_ at *
    generalize w18_.heap.size = g621_ at *
    refine wpAnyH_ready (rs := [7]) (by kernel_rfl) (by simp) ?_
    refine AllReadyH.cons rfl (fun K hK => ?_) AllReadyH.nil
    rw [if_pos (by kernel_rfl)]
    go_wp2_with fail
    refine (standsX_any _ D m E18_ b' off' n' cap' HN.out.2 (HDW.out _ (HG0.out.trans G21_.out)) HP.out.2 M21_.out U18_.out).mono ?_
    rintro e w22_ ⟨r22_, E22_, rfl, hm_, hu_, hal_, hle_, hno_, hd_, hro_, hg_⟩
    have G22_ : Hid (w0.grownBy w22_ (some m)) := G21_.out.trans hg_
    have M22_ := Hid.mk hm_
    have U22_ := Hid.mk hu_
    have P522_ := Hid.mk ((hg_.block _ (Array.getElem?_eq_some_iff.1 P521_.out).1 (by intro e; have := N517_.out; simp at e; omega)).trans P521_.out)
    have P622_ := Hid.mk ((hg_.block _ (Array.getElem?_eq_some_iff.1 P621_.out).1 (by intro e; have := N621_.out; simp at e; omega)).trans P621_.out)
    have L222_ : Hid (Alk E18_ E22_ ∧ Leads E22_ ⟨⟨b', off', none⟩, n'⟩ r22_ ∧ D r22_.a.block ∧ lk E22_ r22_ = none) := ⟨hal_, hle_, hd_, hno_⟩
    have L122_ : Hid (Alk E E18_ ∧ Leads E18_ ⟨⟨b, off, none⟩, n⟩ r18_ ∧ D r18_.a.block ∧ lk E22_ r18_ = none) := ⟨L118_.out.1, L118_.out.2.1, L118_.out.2.2.1, hro_ _ L118_.out.2.2.2⟩
    refine hK.out _ _ G22_.out (fun _ => ?_)
    clear hK K hm_ hu_ hal_ hle_ hno_ hd_ hro_ hg_
    have hne_ : g517_ ≠ g621_ := Q_21.out
    have c50_ : w22_.cell? ⟨g517_, 0, none⟩ = some (.pointer none) := by rw [cell_of_row w22_ _ 0 _ _ (0, 0) P522_.out]; rfl
    have c51_ : w22_.cell? ⟨g517_, 1, none⟩ = some (.int .i64 0) := by rw [cell_of_row w22_ _ 1 _ _ (0, 0) P522_.out]; rfl
    have f5_ : ∀ o, w22_.frozen? ⟨g517_, o, none⟩ = false := fun o => by simp [World.frozen?, P522_.out]
    have c60_ : w22_.cell? ⟨g621_, 0, none⟩ = some (.pointer none) := by rw [cell_of_row w22_ _ 0 _ _ (0, 0) P622_.out]; rfl
    have c61_ : w22_.cell? ⟨g621_, 1, none⟩ = some (.int .i64 0) := by rw [cell_of_row w22_ _ 1 _ _ (0, 0) P622_.out]; rfl
    have f6_ : ∀ o, w22_.frozen? ⟨g621_, o, none⟩ = false := fun o => by simp [World.frozen?, P622_.out]
    have GA_ : Hid (w0.grownBy ((w22_.setCell ⟨g517_, 0, none⟩ (.pointer (some r18_.a))).setCell ⟨g517_, 1, none⟩ (.int .i64 r18_.n)) (some m)) := grown_set (grown_set G22_.out _ (by rw [HS0.out]; exact N517_.out) _) _ (by rw [HS0.out]; exact N517_.out) _
    have GB_ : Hid (w0.grownBy ((((w22_.setCell ⟨g517_, 0, none⟩ (.pointer (some r18_.a))).setCell ⟨g517_, 1, none⟩ (.int .i64 r18_.n)).setCell ⟨g621_, 0, none⟩ (.pointer (some r22_.a))).setCell ⟨g621_, 1, none⟩ (.int .i64 r22_.n)) (some m)) := grown_set (grown_set GA_.out _ (by rw [HS0.out]; exact N621_.out) _) _ (by rw [HS0.out]; exact N621_.out) _
    have R5_ : Hid (((((w22_.setCell ⟨g517_, 0, none⟩ (.pointer (some r18_.a))).setCell ⟨g517_, 1, none⟩ (.int .i64 r18_.n)).setCell ⟨g621_, 0, none⟩ (.pointer (some r22_.a))).setCell ⟨g621_, 1, none⟩ (.int .i64 r22_.n)).heap[g517_]? = some (.cells #[.pointer (some r18_.a), .int .i64 r18_.n] 100 (0, 0))) := by rw [heap_setCell_other _ _ _ _ hne_, heap_setCell_other _ _ _ _ hne_]; exact two_setCell P522_.out
    have R6_ : Hid (((((w22_.setCell ⟨g517_, 0, none⟩ (.pointer (some r18_.a))).setCell ⟨g517_, 1, none⟩ (.int .i64 r18_.n)).setCell ⟨g621_, 0, none⟩ (.pointer (some r22_.a))).setCell ⟨g621_, 1, none⟩ (.int .i64 r22_.n)).heap[g621_]? = some (.cells #[.pointer (some r22_.a), .int .i64 r22_.n] 100 (0, 0))) := two_setCell (by rw [heap_setCell_other _ _ _ _ (Ne.symm hne_), heap_setCell_other _ _ _ _ (Ne.symm hne_)]; exact P622_.out)
    have RM_ : Hid (MapP ((((w22_.setCell ⟨g517_, 0, none⟩ (.pointer (some r18_.a))).setCell ⟨g517_, 1, none⟩ (.int .i64 r18_.n)).setCell ⟨g621_, 0, none⟩ (.pointer (some r22_.a))).setCell ⟨g621_, 1, none⟩ (.int .i64 r22_.n)) D m E22_) := M22_.out.kept (by have h5 := N517_.out; have h6 := N621_.out; rw [heap_setCell_other _ _ _ _ (by show m ≠ g621_; omega), heap_setCell_other _ _ _ _ (by show m ≠ g621_; omega), heap_setCell_other _ _ _ _ (by show m ≠ g517_; omega), heap_setCell_other _ _ _ _ (by show m ≠ g517_; omega)])
    refine wpAnyH_ready (rs := [10]) (by kernel_rfl) (by simp) ?_
    refine AllReadyH.cons rfl (fun K hK => ?_) AllReadyH.nil
    rw [if_pos (by kernel_rfl)]
    go_wp2_with fail
    refine hK.out _ _ GA_.out (fun _ => ?_)
    clear hK K
    refine wpAnyH_ready (rs := [11]) (by kernel_rfl) (by simp) ?_
    refine AllReadyH.cons rfl (fun K hK => ?_) AllReadyH.nil
    rw [if_pos (by kernel_rfl)]
    go_wp2_with fail
    refine hK.out _ _ GB_.out (fun _ => ?_)
    clear hK K
    refine wpAnyH_done (by kernel_rfl) ?_ _
    exact REST g517_ g621_ r18_ r22_ E18_ E22_ _ R5_ R6_ (HG0.out.trans GB_.out) RM_ U22_ L122_ L222_
  ·skip
   rw [if_pos (by kernel_rfl)]
   go_wp2_with fail
   have G23_ : Hid (w0.grownBy (w17_.alloc (.cells #[.pointer none, .int .i64 0] 100)) (some m)) := G17_.out.trans (World.grownBy_alloc _ _ _)
   have M23_ : Hid (MapP (w17_.alloc (.cells #[.pointer none, .int .i64 0] 100)) D m E) := M17_.out.kept ((World.grownBy_alloc w17_ _ none).block m M17_.out.lt (by simp))
   have P523_ := Hid.mk (((World.grownBy_alloc w17_ (.cells #[.pointer none, .int .i64 0] 100) none).block _ (Array.getElem?_eq_some_iff.1 P517_.out).1 (by simp)).trans P517_.out)
   have Q_23 : Hid (g517_ ≠ w17_.heap.size) := Nat.ne_of_lt (Array.getElem?_eq_some_iff.1 P517_.out).1
   have P623_ := Hid.mk (MapKept.heap_alloc w17_ (.cells #[.pointer none, .int .i64 0] 100)).1
   have N623_ : Hid (w.heap.size < w17_.heap.size) := by have := G17_.out.size; rw [HS0.out] at this; exact Nat.lt_of_succ_le this
   refine hK.out _ _ G23_.out (fun _ => ?_)
   clear hK K
   generalize w17_.alloc (.cells #[.pointer none, .int .i64 0] 100) = w23_ at *
   generalize w17_.heap.size = g623_ at *
   refine wpAnyH_ready (rs := [3]) (by kernel_rfl) (by simp) ?_
   refine AllReadyH.cons rfl (fun K hK => ?_) AllReadyH.nil
   rw [if_pos (by kernel_rfl)]
   go_wp2_with fail
   refine (standsX_any _ D m E b off n cap HN.out.1 (HDW.out _ (HG0.out.trans G23_.out)) HP.out.1 M23_.out HU.out).mono ?_
   rintro e w24_ ⟨r24_, E24_, rfl, hm_, hu_, hal_, hle_, hno_, hd_, hro_, hg_⟩
   have G24_ : Hid (w0.grownBy w24_ (some m)) := G23_.out.trans hg_
   have M24_ := Hid.mk hm_
   have U24_ := Hid.mk hu_
   have P524_ := Hid.mk ((hg_.block _ (Array.getElem?_eq_some_iff.1 P523_.out).1 (by intro e; have := N517_.out; simp at e; omega)).trans P523_.out)
   have P624_ := Hid.mk ((hg_.block _ (Array.getElem?_eq_some_iff.1 P623_.out).1 (by intro e; have := N623_.out; simp at e; omega)).trans P623_.out)
   have L124_ : Hid (Alk E E24_ ∧ Leads E24_ ⟨⟨b, off, none⟩, n⟩ r24_ ∧ D r24_.a.block ∧ lk E24_ r24_ = none) := ⟨hal_, hle_, hd_, hno_⟩
   refine hK.out _ _ G24_.out (fun _ => ?_)
   clear hK K hm_ hu_ hal_ hle_ hno_ hd_ hro_ hg_
   refine wpAnyH_ready (rs := [7]) (by kernel_rfl) (by simp) ?_
   refine AllReadyH.cons rfl (fun K hK => ?_) AllReadyH.nil
   rw [if_pos (by kernel_rfl)]
   go_wp2_with fail
   refine (standsX_any _ D m E24_ b' off' n' cap' HN.out.2 (HDW.out _ (HG0.out.trans G24_.out)) HP.out.2 M24_.out U24_.out).mono ?_
   rintro e w25_ ⟨r25_, E25_, rfl, hm_, hu_, hal_, hle_, hno_, hd_, hro_, hg_⟩
   have G25_ : Hid (w0.grownBy w25_ (some m)) := G24_.out.trans hg_
   have M25_ := Hid.mk hm_
   have U25_ := Hid.mk hu_
   have P525_ := Hid.mk ((hg_.block _ (Array.getElem?_eq_some_iff.1 P524_.out).1 (by intro e; have := N517_.out; simp at e; omega)).trans P524_.out)
   have P625_ := Hid.mk ((hg_.block _ (Array.getElem?_eq_some_iff.1 P624_.out).1 (by intro e; have := N623_.out; simp at e; omega)).trans P624_.out)
   have L225_ : Hid (Alk E24_ E25_ ∧ Leads E25_ ⟨⟨b', off', none⟩, n'⟩ r25_ ∧ D r25_.a.block ∧ lk E25_ r25_ = none) := ⟨hal_, hle_, hd_, hno_⟩
   have L125_ : Hid (Alk E E24_ ∧ Leads E24_ ⟨⟨b, off, none⟩, n⟩ r24_ ∧ D r24_.a.block ∧ lk E25_ r24_ = none) := ⟨L124_.out.1, L124_.out.2.1, L124_.out.2.2.1, hro_ _ L124_.out.2.2.2⟩
   refine hK.out _ _ G25_.out (fun _ => ?_)
   clear hK K hm_ hu_ hal_ hle_ hno_ hd_ hro_ hg_
   have hne_ : g517_ ≠ g623_ := Q_23.out
   have c50_ : w25_.cell? ⟨g517_, 0, none⟩ = some (.pointer none) := by rw [cell_of_row w25_ _ 0 _ _ (0, 0) P525_.out]; rfl
   have c51_ : w25_.cell? ⟨g517_, 1, none⟩ = some (.int .i64 0) := by rw [cell_of_row w25_ _ 1 _ _ (0, 0) P525_.out]; rfl
   have f5_ : ∀ o, w25_.frozen? ⟨g517_, o, none⟩ = false := fun o => by simp [World.frozen?, P525_.out]
   have c60_ : w25_.cell? ⟨g623_, 0, none⟩ = some (.pointer none) := by rw [cell_of_row w25_ _ 0 _ _ (0, 0) P625_.out]; rfl
   have c61_ : w25_.cell? ⟨g623_, 1, none⟩ = some (.int .i64 0) := by rw [cell_of_row w25_ _ 1 _ _ (0, 0) P625_.out]; rfl
   have f6_ : ∀ o, w25_.frozen? ⟨g623_, o, none⟩ = false := fun o => by simp [World.frozen?, P625_.out]
   have GA_ : Hid (w0.grownBy ((w25_.setCell ⟨g517_, 0, none⟩ (.pointer (some r24_.a))).setCell ⟨g517_, 1, none⟩ (.int .i64 r24_.n)) (some m)) := grown_set (grown_set G25_.out _ (by rw [HS0.out]; exact N517_.out) _) _ (by rw [HS0.out]; exact N517_.out) _
   have GB_ : Hid (w0.grownBy ((((w25_.setCell ⟨g517_, 0, none⟩ (.pointer (some r24_.a))).setCell ⟨g517_, 1, none⟩ (.int .i64 r24_.n)).setCell ⟨g623_, 0, none⟩ (.pointer (some r25_.a))).setCell ⟨g623_, 1, none⟩ (.int .i64 r25_.n)) (some m)) := grown_set (grown_set GA_.out _ (by rw [HS0.out]; exact N623_.out) _) _ (by rw [HS0.out]; exact N623_.out) _
   have R5_ : Hid (((((w25_.setCell ⟨g517_, 0, none⟩ (.pointer (some r24_.a))).setCell ⟨g517_, 1, none⟩ (.int .i64 r24_.n)).setCell ⟨g623_, 0, none⟩ (.pointer (some r25_.a))).setCell ⟨g623_, 1, none⟩ (.int .i64 r25_.n)).heap[g517_]? = some (.cells #[.pointer (some r24_.a), .int .i64 r24_.n] 100 (0, 0))) := by rw [heap_setCell_other _ _ _ _ hne_, heap_setCell_other _ _ _ _ hne_]; exact two_setCell P525_.out
   have R6_ : Hid (((((w25_.setCell ⟨g517_, 0, none⟩ (.pointer (some r24_.a))).setCell ⟨g517_, 1, none⟩ (.int .i64 r24_.n)).setCell ⟨g623_, 0, none⟩ (.pointer (some r25_.a))).setCell ⟨g623_, 1, none⟩ (.int .i64 r25_.n)).heap[g623_]? = some (.cells #[.pointer (some r25_.a), .int .i64 r25_.n] 100 (0, 0))) := two_setCell (by rw [heap_setCell_other _ _ _ _ (Ne.symm hne_), heap_setCell_other _ _ _ _ (Ne.symm hne_)]; exact P625_.out)
   have RM_ : Hid (MapP ((((w25_.setCell ⟨g517_, 0, none⟩ (.pointer (some r24_.a))).setCell ⟨g517_, 1, none⟩ (.int .i64 r24_.n)).setCell ⟨g623_, 0, none⟩ (.pointer (some r25_.a))).setCell ⟨g623_, 1, none⟩ (.int .i64 r25_.n)) D m E25_) := M25_.out.kept (by have h5 := N517_.out; have h6 := N623_.out; rw [heap_setCell_other _ _ _ _ (by show m ≠ g623_; omega), heap_setCell_other _ _ _ _ (by show m ≠ g623_; omega), heap_setCell_other _ _ _ _ (by show m ≠ g517_; omega), heap_setCell_other _ _ _ _ (by show m ≠ g517_; omega)])
   refine wpAnyH_ready (rs := [10]) (by kernel_rfl) (by simp) ?_
   refine AllReadyH.cons rfl (fun K hK => ?_) AllReadyH.nil
   rw [if_pos (by kernel_rfl)]
   go_wp2_with fail
   refine hK.out _ _ GA_.out (fun _ => ?_)
   clear hK K
   refine wpAnyH_ready (rs := [11]) (by kernel_rfl) (by simp) ?_
   refine AllReadyH.cons rfl (fun K hK => ?_) AllReadyH.nil
   rw [if_pos (by kernel_rfl)]
   go_wp2_with fail
   refine hK.out _ _ GB_.out (fun _ => ?_)
   clear hK K
   refine wpAnyH_done (by kernel_rfl) ?_ _
   exact REST g517_ g623_ r24_ r25_ E24_ E25_ _ R5_ R6_ (HG0.out.trans GB_.out) RM_ U25_ L125_ L225_
 ·skip
  rw [if_pos (by kernel_rfl)]
  go_wp2_with fail
  have G26_ : Hid (w0.grownBy (w0d.alloc (.cells #[.pointer none, .int .i64 0] 100)) (some m)) := G0_.out.trans (World.grownBy_alloc _ _ _)
  have M26_ : Hid (MapP (w0d.alloc (.cells #[.pointer none, .int .i64 0] 100)) D m E) := M0.out.kept ((World.grownBy_alloc w0d _ none).block m M0.out.lt (by simp))
  have P626_ := Hid.mk (MapKept.heap_alloc w0d (.cells #[.pointer none, .int .i64 0] 100)).1
  have N626_ : Hid (w.heap.size < w0d.heap.size) := by have := G0_.out.size; rw [HS0.out] at this; exact Nat.lt_of_succ_le this
  refine hK.out _ _ G26_.out (fun _ => ?_)
  clear hK K
  generalize w0d.alloc (.cells #[.pointer none, .int .i64 0] 100) = w26_ at *
  generalize w0d.heap.size = g626_ at *
  refine wpAnyH_ready (rs := [3, 8]) (by kernel_rfl) (by simp) ?_
  refine AllReadyH.cons rfl (fun K hK => ?_) (AllReadyH.cons rfl (fun K hK => ?_) (AllReadyH.nil))
  ·skip
   rw [if_pos (by kernel_rfl)]
   go_wp2_with fail
   refine (standsX_any _ D m E b off n cap HN.out.1 (HDW.out _ (HG0.out.trans G26_.out)) HP.out.1 M26_.out HU.out).mono ?_
   rintro e w27_ ⟨r27_, E27_, rfl, hm_, hu_, hal_, hle_, hno_, hd_, hro_, hg_⟩
   have G27_ : Hid (w0.grownBy w27_ (some m)) := G26_.out.trans hg_
   have M27_ := Hid.mk hm_
   have U27_ := Hid.mk hu_
   have P627_ := Hid.mk ((hg_.block _ (Array.getElem?_eq_some_iff.1 P626_.out).1 (by intro e; have := N626_.out; simp at e; omega)).trans P626_.out)
   have L127_ : Hid (Alk E E27_ ∧ Leads E27_ ⟨⟨b, off, none⟩, n⟩ r27_ ∧ D r27_.a.block ∧ lk E27_ r27_ = none) := ⟨hal_, hle_, hd_, hno_⟩
   refine hK.out _ _ G27_.out (fun _ => ?_)
   clear hK K hm_ hu_ hal_ hle_ hno_ hd_ hro_ hg_
   refine wpAnyH_ready (rs := [7, 8]) (by kernel_rfl) (by simp) ?_
   refine AllReadyH.cons rfl (fun K hK => ?_) (AllReadyH.cons rfl (fun K hK => ?_) (AllReadyH.nil))
   ·skip
    rw [if_pos (by kernel_rfl)]
    go_wp2_with fail
    refine (standsX_any _ D m E27_ b' off' n' cap' HN.out.2 (HDW.out _ (HG0.out.trans G27_.out)) HP.out.2 M27_.out U27_.out).mono ?_
    rintro e w28_ ⟨r28_, E28_, rfl, hm_, hu_, hal_, hle_, hno_, hd_, hro_, hg_⟩
    have G28_ : Hid (w0.grownBy w28_ (some m)) := G27_.out.trans hg_
    have M28_ := Hid.mk hm_
    have U28_ := Hid.mk hu_
    have P628_ := Hid.mk ((hg_.block _ (Array.getElem?_eq_some_iff.1 P627_.out).1 (by intro e; have := N626_.out; simp at e; omega)).trans P627_.out)
    have L228_ : Hid (Alk E27_ E28_ ∧ Leads E28_ ⟨⟨b', off', none⟩, n'⟩ r28_ ∧ D r28_.a.block ∧ lk E28_ r28_ = none) := ⟨hal_, hle_, hd_, hno_⟩
    have L128_ : Hid (Alk E E27_ ∧ Leads E27_ ⟨⟨b, off, none⟩, n⟩ r27_ ∧ D r27_.a.block ∧ lk E28_ r27_ = none) := ⟨L127_.out.1, L127_.out.2.1, L127_.out.2.2.1, hro_ _ L127_.out.2.2.2⟩
    refine hK.out _ _ G28_.out (fun _ => ?_)
    clear hK K hm_ hu_ hal_ hle_ hno_ hd_ hro_ hg_
    refine wpAnyH_ready (rs := [8]) (by kernel_rfl) (by simp) ?_
    refine AllReadyH.cons rfl (fun K hK => ?_) AllReadyH.nil
    rw [if_pos (by kernel_rfl)]
    go_wp2_with fail
    have G29_ : Hid (w0.grownBy (w28_.alloc (.cells #[.pointer none, .int .i64 0] 100)) (some m)) := G28_.out.trans (World.grownBy_alloc _ _ _)
    have M29_ : Hid (MapP (w28_.alloc (.cells #[.pointer none, .int .i64 0] 100)) D m E28_) := M28_.out.kept ((World.grownBy_alloc w28_ _ none).block m M28_.out.lt (by simp))
    have P629_ := Hid.mk (((World.grownBy_alloc w28_ (.cells #[.pointer none, .int .i64 0] 100) none).block _ (Array.getElem?_eq_some_iff.1 P628_.out).1 (by simp)).trans P628_.out)
    have Q_29 : Hid (g626_ ≠ w28_.heap.size) := Nat.ne_of_lt (Array.getElem?_eq_some_iff.1 P628_.out).1
    have P529_ := Hid.mk (MapKept.heap_alloc w28_ (.cells #[.pointer none, .int .i64 0] 100)).1
    have N529_ : Hid (w.heap.size < w28_.heap.size) := by have := G28_.out.size; rw [HS0.out] at this; exact Nat.lt_of_succ_le this
    refine hK.out _ _ G29_.out (fun _ => ?_)
    clear hK K
    generalize w28_.alloc (.cells #[.pointer none, .int .i64 0] 100) = w29_ at *
    generalize w28_.heap.size = g529_ at *
    have hne_ : g529_ ≠ g626_ := (Ne.symm Q_29.out)
    have c50_ : w29_.cell? ⟨g529_, 0, none⟩ = some (.pointer none) := by rw [cell_of_row w29_ _ 0 _ _ (0, 0) P529_.out]; rfl
    have c51_ : w29_.cell? ⟨g529_, 1, none⟩ = some (.int .i64 0) := by rw [cell_of_row w29_ _ 1 _ _ (0, 0) P529_.out]; rfl
    have f5_ : ∀ o, w29_.frozen? ⟨g529_, o, none⟩ = false := fun o => by simp [World.frozen?, P529_.out]
    have c60_ : w29_.cell? ⟨g626_, 0, none⟩ = some (.pointer none) := by rw [cell_of_row w29_ _ 0 _ _ (0, 0) P629_.out]; rfl
    have c61_ : w29_.cell? ⟨g626_, 1, none⟩ = some (.int .i64 0) := by rw [cell_of_row w29_ _ 1 _ _ (0, 0) P629_.out]; rfl
    have f6_ : ∀ o, w29_.frozen? ⟨g626_, o, none⟩ = false := fun o => by simp [World.frozen?, P629_.out]
    have GA_ : Hid (w0.grownBy ((w29_.setCell ⟨g529_, 0, none⟩ (.pointer (some r27_.a))).setCell ⟨g529_, 1, none⟩ (.int .i64 r27_.n)) (some m)) := grown_set (grown_set G29_.out _ (by rw [HS0.out]; exact N529_.out) _) _ (by rw [HS0.out]; exact N529_.out) _
    have GB_ : Hid (w0.grownBy ((((w29_.setCell ⟨g529_, 0, none⟩ (.pointer (some r27_.a))).setCell ⟨g529_, 1, none⟩ (.int .i64 r27_.n)).setCell ⟨g626_, 0, none⟩ (.pointer (some r28_.a))).setCell ⟨g626_, 1, none⟩ (.int .i64 r28_.n)) (some m)) := grown_set (grown_set GA_.out _ (by rw [HS0.out]; exact N626_.out) _) _ (by rw [HS0.out]; exact N626_.out) _
    have R5_ : Hid (((((w29_.setCell ⟨g529_, 0, none⟩ (.pointer (some r27_.a))).setCell ⟨g529_, 1, none⟩ (.int .i64 r27_.n)).setCell ⟨g626_, 0, none⟩ (.pointer (some r28_.a))).setCell ⟨g626_, 1, none⟩ (.int .i64 r28_.n)).heap[g529_]? = some (.cells #[.pointer (some r27_.a), .int .i64 r27_.n] 100 (0, 0))) := by rw [heap_setCell_other _ _ _ _ hne_, heap_setCell_other _ _ _ _ hne_]; exact two_setCell P529_.out
    have R6_ : Hid (((((w29_.setCell ⟨g529_, 0, none⟩ (.pointer (some r27_.a))).setCell ⟨g529_, 1, none⟩ (.int .i64 r27_.n)).setCell ⟨g626_, 0, none⟩ (.pointer (some r28_.a))).setCell ⟨g626_, 1, none⟩ (.int .i64 r28_.n)).heap[g626_]? = some (.cells #[.pointer (some r28_.a), .int .i64 r28_.n] 100 (0, 0))) := two_setCell (by rw [heap_setCell_other _ _ _ _ (Ne.symm hne_), heap_setCell_other _ _ _ _ (Ne.symm hne_)]; exact P629_.out)
    have RM_ : Hid (MapP ((((w29_.setCell ⟨g529_, 0, none⟩ (.pointer (some r27_.a))).setCell ⟨g529_, 1, none⟩ (.int .i64 r27_.n)).setCell ⟨g626_, 0, none⟩ (.pointer (some r28_.a))).setCell ⟨g626_, 1, none⟩ (.int .i64 r28_.n)) D m E28_) := M29_.out.kept (by have h5 := N529_.out; have h6 := N626_.out; rw [heap_setCell_other _ _ _ _ (by show m ≠ g626_; omega), heap_setCell_other _ _ _ _ (by show m ≠ g626_; omega), heap_setCell_other _ _ _ _ (by show m ≠ g529_; omega), heap_setCell_other _ _ _ _ (by show m ≠ g529_; omega)])
    refine wpAnyH_ready (rs := [10]) (by kernel_rfl) (by simp) ?_
    refine AllReadyH.cons rfl (fun K hK => ?_) AllReadyH.nil
    rw [if_pos (by kernel_rfl)]
    go_wp2_with fail
    refine hK.out _ _ GA_.out (fun _ => ?_)
    clear hK K
    refine wpAnyH_ready (rs := [11]) (by kernel_rfl) (by simp) ?_
    refine AllReadyH.cons rfl (fun K hK => ?_) AllReadyH.nil
    rw [if_pos (by kernel_rfl)]
    go_wp2_with fail
    refine hK.out _ _ GB_.out (fun _ => ?_)
    clear hK K
    refine wpAnyH_done (by kernel_rfl) ?_ _
    exact REST g529_ g626_ r27_ r28_ E27_ E28_ _ R5_ R6_ (HG0.out.trans GB_.out) RM_ U28_ L128_ L228_
   ·skip
    rw [if_pos (by kernel_rfl)]
    go_wp2_with fail
    have G30_ : Hid (w0.grownBy (w27_.alloc (.cells #[.pointer none, .int .i64 0] 100)) (some m)) := G27_.out.trans (World.grownBy_alloc _ _ _)
    have M30_ : Hid (MapP (w27_.alloc (.cells #[.pointer none, .int .i64 0] 100)) D m E27_) := M27_.out.kept ((World.grownBy_alloc w27_ _ none).block m M27_.out.lt (by simp))
    have P630_ := Hid.mk (((World.grownBy_alloc w27_ (.cells #[.pointer none, .int .i64 0] 100) none).block _ (Array.getElem?_eq_some_iff.1 P627_.out).1 (by simp)).trans P627_.out)
    have Q_30 : Hid (g626_ ≠ w27_.heap.size) := Nat.ne_of_lt (Array.getElem?_eq_some_iff.1 P627_.out).1
    have P530_ := Hid.mk (MapKept.heap_alloc w27_ (.cells #[.pointer none, .int .i64 0] 100)).1
    have N530_ : Hid (w.heap.size < w27_.heap.size) := by have := G27_.out.size; rw [HS0.out] at this; exact Nat.lt_of_succ_le this
    refine hK.out _ _ G30_.out (fun _ => ?_)
    clear hK K
    generalize w27_.alloc (.cells #[.pointer none, .int .i64 0] 100) = w30_ at *
    generalize w27_.heap.size = g530_ at *
    refine wpAnyH_ready (rs := [7]) (by kernel_rfl) (by simp) ?_
    refine AllReadyH.cons rfl (fun K hK => ?_) AllReadyH.nil
    rw [if_pos (by kernel_rfl)]
    go_wp2_with fail
    refine (standsX_any _ D m E27_ b' off' n' cap' HN.out.2 (HDW.out _ (HG0.out.trans G30_.out)) HP.out.2 M30_.out U27_.out).mono ?_
    rintro e w31_ ⟨r31_, E31_, rfl, hm_, hu_, hal_, hle_, hno_, hd_, hro_, hg_⟩
    have G31_ : Hid (w0.grownBy w31_ (some m)) := G30_.out.trans hg_
    have M31_ := Hid.mk hm_
    have U31_ := Hid.mk hu_
    have P531_ := Hid.mk ((hg_.block _ (Array.getElem?_eq_some_iff.1 P530_.out).1 (by intro e; have := N530_.out; simp at e; omega)).trans P530_.out)
    have P631_ := Hid.mk ((hg_.block _ (Array.getElem?_eq_some_iff.1 P630_.out).1 (by intro e; have := N626_.out; simp at e; omega)).trans P630_.out)
    have L231_ : Hid (Alk E27_ E31_ ∧ Leads E31_ ⟨⟨b', off', none⟩, n'⟩ r31_ ∧ D r31_.a.block ∧ lk E31_ r31_ = none) := ⟨hal_, hle_, hd_, hno_⟩
    have L131_ : Hid (Alk E E27_ ∧ Leads E27_ ⟨⟨b, off, none⟩, n⟩ r27_ ∧ D r27_.a.block ∧ lk E31_ r27_ = none) := ⟨L127_.out.1, L127_.out.2.1, L127_.out.2.2.1, hro_ _ L127_.out.2.2.2⟩
    refine hK.out _ _ G31_.out (fun _ => ?_)
    clear hK K hm_ hu_ hal_ hle_ hno_ hd_ hro_ hg_
    have hne_ : g530_ ≠ g626_ := (Ne.symm Q_30.out)
    have c50_ : w31_.cell? ⟨g530_, 0, none⟩ = some (.pointer none) := by rw [cell_of_row w31_ _ 0 _ _ (0, 0) P531_.out]; rfl
    have c51_ : w31_.cell? ⟨g530_, 1, none⟩ = some (.int .i64 0) := by rw [cell_of_row w31_ _ 1 _ _ (0, 0) P531_.out]; rfl
    have f5_ : ∀ o, w31_.frozen? ⟨g530_, o, none⟩ = false := fun o => by simp [World.frozen?, P531_.out]
    have c60_ : w31_.cell? ⟨g626_, 0, none⟩ = some (.pointer none) := by rw [cell_of_row w31_ _ 0 _ _ (0, 0) P631_.out]; rfl
    have c61_ : w31_.cell? ⟨g626_, 1, none⟩ = some (.int .i64 0) := by rw [cell_of_row w31_ _ 1 _ _ (0, 0) P631_.out]; rfl
    have f6_ : ∀ o, w31_.frozen? ⟨g626_, o, none⟩ = false := fun o => by simp [World.frozen?, P631_.out]
    have GA_ : Hid (w0.grownBy ((w31_.setCell ⟨g530_, 0, none⟩ (.pointer (some r27_.a))).setCell ⟨g530_, 1, none⟩ (.int .i64 r27_.n)) (some m)) := grown_set (grown_set G31_.out _ (by rw [HS0.out]; exact N530_.out) _) _ (by rw [HS0.out]; exact N530_.out) _
    have GB_ : Hid (w0.grownBy ((((w31_.setCell ⟨g530_, 0, none⟩ (.pointer (some r27_.a))).setCell ⟨g530_, 1, none⟩ (.int .i64 r27_.n)).setCell ⟨g626_, 0, none⟩ (.pointer (some r31_.a))).setCell ⟨g626_, 1, none⟩ (.int .i64 r31_.n)) (some m)) := grown_set (grown_set GA_.out _ (by rw [HS0.out]; exact N626_.out) _) _ (by rw [HS0.out]; exact N626_.out) _
    have R5_ : Hid (((((w31_.setCell ⟨g530_, 0, none⟩ (.pointer (some r27_.a))).setCell ⟨g530_, 1, none⟩ (.int .i64 r27_.n)).setCell ⟨g626_, 0, none⟩ (.pointer (some r31_.a))).setCell ⟨g626_, 1, none⟩ (.int .i64 r31_.n)).heap[g530_]? = some (.cells #[.pointer (some r27_.a), .int .i64 r27_.n] 100 (0, 0))) := by rw [heap_setCell_other _ _ _ _ hne_, heap_setCell_other _ _ _ _ hne_]; exact two_setCell P531_.out
    have R6_ : Hid (((((w31_.setCell ⟨g530_, 0, none⟩ (.pointer (some r27_.a))).setCell ⟨g530_, 1, none⟩ (.int .i64 r27_.n)).setCell ⟨g626_, 0, none⟩ (.pointer (some r31_.a))).setCell ⟨g626_, 1, none⟩ (.int .i64 r31_.n)).heap[g626_]? = some (.cells #[.pointer (some r31_.a), .int .i64 r31_.n] 100 (0, 0))) := two_setCell (by rw [heap_setCell_other _ _ _ _ (Ne.symm hne_), heap_setCell_other _ _ _ _ (Ne.symm hne_)]; exact P631_.out)
    have RM_ : Hid (MapP ((((w31_.setCell ⟨g530_, 0, none⟩ (.pointer (some r27_.a))).setCell ⟨g530_, 1, none⟩ (.int .i64 r27_.n)).setCell ⟨g626_, 0, none⟩ (.pointer (some r31_.a))).setCell ⟨g626_, 1, none⟩ (.int .i64 r31_.n)) D m E31_) := M31_.out.kept (by have h5 := N530_.out; have h6 := N626_.out; rw [heap_setCell_other _ _ _ _ (by show m ≠ g626_; omega), heap_setCell_other _ _ _ _ (by show m ≠ g626_; omega), heap_setCell_other _ _ _ _ (by show m ≠ g530_; omega), heap_setCell_other _ _ _ _ (by show m ≠ g530_; omega)])
    refine wpAnyH_ready (rs := [10]) (by kernel_rfl) (by simp) ?_
    refine AllReadyH.cons rfl (fun K hK => ?_) AllReadyH.nil
    rw [if_pos (by kernel_rfl)]
    go_wp2_with fail
    refine hK.out _ _ GA_.out (fun _ => ?_)
    clear hK K
    refine wpAnyH_ready (rs := [11]) (by kernel_rfl) (by simp) ?_
    refine AllReadyH.cons rfl (fun K hK => ?_) AllReadyH.nil
    rw [if_pos (by kernel_rfl)]
    go_wp2_with fail
    refine hK.out _ _ GB_.out (fun _ => ?_)
    clear hK K
    refine wpAnyH_done (by kernel_rfl) ?_ _
    exact REST g530_ g626_ r27_ r31_ E27_ E31_ _ R5_ R6_ (HG0.out.trans GB_.out) RM_ U31_ L131_ L231_
  ·skip
   rw [if_pos (by kernel_rfl)]
   go_wp2_with fail
   have G32_ : Hid (w0.grownBy (w26_.alloc (.cells #[.pointer none, .int .i64 0] 100)) (some m)) := G26_.out.trans (World.grownBy_alloc _ _ _)
   have M32_ : Hid (MapP (w26_.alloc (.cells #[.pointer none, .int .i64 0] 100)) D m E) := M26_.out.kept ((World.grownBy_alloc w26_ _ none).block m M26_.out.lt (by simp))
   have P632_ := Hid.mk (((World.grownBy_alloc w26_ (.cells #[.pointer none, .int .i64 0] 100) none).block _ (Array.getElem?_eq_some_iff.1 P626_.out).1 (by simp)).trans P626_.out)
   have Q_32 : Hid (g626_ ≠ w26_.heap.size) := Nat.ne_of_lt (Array.getElem?_eq_some_iff.1 P626_.out).1
   have P532_ := Hid.mk (MapKept.heap_alloc w26_ (.cells #[.pointer none, .int .i64 0] 100)).1
   have N532_ : Hid (w.heap.size < w26_.heap.size) := by have := G26_.out.size; rw [HS0.out] at this; exact Nat.lt_of_succ_le this
   refine hK.out _ _ G32_.out (fun _ => ?_)
   clear hK K
   generalize w26_.alloc (.cells #[.pointer none, .int .i64 0] 100) = w32_ at *
   generalize w26_.heap.size = g532_ at *
   refine wpAnyH_ready (rs := [3]) (by kernel_rfl) (by simp) ?_
   refine AllReadyH.cons rfl (fun K hK => ?_) AllReadyH.nil
   rw [if_pos (by kernel_rfl)]
   go_wp2_with fail
   refine (standsX_any _ D m E b off n cap HN.out.1 (HDW.out _ (HG0.out.trans G32_.out)) HP.out.1 M32_.out HU.out).mono ?_
   rintro e w33_ ⟨r33_, E33_, rfl, hm_, hu_, hal_, hle_, hno_, hd_, hro_, hg_⟩
   have G33_ : Hid (w0.grownBy w33_ (some m)) := G32_.out.trans hg_
   have M33_ := Hid.mk hm_
   have U33_ := Hid.mk hu_
   have P533_ := Hid.mk ((hg_.block _ (Array.getElem?_eq_some_iff.1 P532_.out).1 (by intro e; have := N532_.out; simp at e; omega)).trans P532_.out)
   have P633_ := Hid.mk ((hg_.block _ (Array.getElem?_eq_some_iff.1 P632_.out).1 (by intro e; have := N626_.out; simp at e; omega)).trans P632_.out)
   have L133_ : Hid (Alk E E33_ ∧ Leads E33_ ⟨⟨b, off, none⟩, n⟩ r33_ ∧ D r33_.a.block ∧ lk E33_ r33_ = none) := ⟨hal_, hle_, hd_, hno_⟩
   refine hK.out _ _ G33_.out (fun _ => ?_)
   clear hK K hm_ hu_ hal_ hle_ hno_ hd_ hro_ hg_
   refine wpAnyH_ready (rs := [7]) (by kernel_rfl) (by simp) ?_
   refine AllReadyH.cons rfl (fun K hK => ?_) AllReadyH.nil
   rw [if_pos (by kernel_rfl)]
   go_wp2_with fail
   refine (standsX_any _ D m E33_ b' off' n' cap' HN.out.2 (HDW.out _ (HG0.out.trans G33_.out)) HP.out.2 M33_.out U33_.out).mono ?_
   rintro e w34_ ⟨r34_, E34_, rfl, hm_, hu_, hal_, hle_, hno_, hd_, hro_, hg_⟩
   have G34_ : Hid (w0.grownBy w34_ (some m)) := G33_.out.trans hg_
   have M34_ := Hid.mk hm_
   have U34_ := Hid.mk hu_
   have P534_ := Hid.mk ((hg_.block _ (Array.getElem?_eq_some_iff.1 P533_.out).1 (by intro e; have := N532_.out; simp at e; omega)).trans P533_.out)
   have P634_ := Hid.mk ((hg_.block _ (Array.getElem?_eq_some_iff.1 P633_.out).1 (by intro e; have := N626_.out; simp at e; omega)).trans P633_.out)
   have L234_ : Hid (Alk E33_ E34_ ∧ Leads E34_ ⟨⟨b', off', none⟩, n'⟩ r34_ ∧ D r34_.a.block ∧ lk E34_ r34_ = none) := ⟨hal_, hle_, hd_, hno_⟩
   have L134_ : Hid (Alk E E33_ ∧ Leads E33_ ⟨⟨b, off, none⟩, n⟩ r33_ ∧ D r33_.a.block ∧ lk E34_ r33_ = none) := ⟨L133_.out.1, L133_.out.2.1, L133_.out.2.2.1, hro_ _ L133_.out.2.2.2⟩
   refine hK.out _ _ G34_.out (fun _ => ?_)
   clear hK K hm_ hu_ hal_ hle_ hno_ hd_ hro_ hg_
   have hne_ : g532_ ≠ g626_ := (Ne.symm Q_32.out)
   have c50_ : w34_.cell? ⟨g532_, 0, none⟩ = some (.pointer none) := by rw [cell_of_row w34_ _ 0 _ _ (0, 0) P534_.out]; rfl
   have c51_ : w34_.cell? ⟨g532_, 1, none⟩ = some (.int .i64 0) := by rw [cell_of_row w34_ _ 1 _ _ (0, 0) P534_.out]; rfl
   have f5_ : ∀ o, w34_.frozen? ⟨g532_, o, none⟩ = false := fun o => by simp [World.frozen?, P534_.out]
   have c60_ : w34_.cell? ⟨g626_, 0, none⟩ = some (.pointer none) := by rw [cell_of_row w34_ _ 0 _ _ (0, 0) P634_.out]; rfl
   have c61_ : w34_.cell? ⟨g626_, 1, none⟩ = some (.int .i64 0) := by rw [cell_of_row w34_ _ 1 _ _ (0, 0) P634_.out]; rfl
   have f6_ : ∀ o, w34_.frozen? ⟨g626_, o, none⟩ = false := fun o => by simp [World.frozen?, P634_.out]
   have GA_ : Hid (w0.grownBy ((w34_.setCell ⟨g532_, 0, none⟩ (.pointer (some r33_.a))).setCell ⟨g532_, 1, none⟩ (.int .i64 r33_.n)) (some m)) := grown_set (grown_set G34_.out _ (by rw [HS0.out]; exact N532_.out) _) _ (by rw [HS0.out]; exact N532_.out) _
   have GB_ : Hid (w0.grownBy ((((w34_.setCell ⟨g532_, 0, none⟩ (.pointer (some r33_.a))).setCell ⟨g532_, 1, none⟩ (.int .i64 r33_.n)).setCell ⟨g626_, 0, none⟩ (.pointer (some r34_.a))).setCell ⟨g626_, 1, none⟩ (.int .i64 r34_.n)) (some m)) := grown_set (grown_set GA_.out _ (by rw [HS0.out]; exact N626_.out) _) _ (by rw [HS0.out]; exact N626_.out) _
   have R5_ : Hid (((((w34_.setCell ⟨g532_, 0, none⟩ (.pointer (some r33_.a))).setCell ⟨g532_, 1, none⟩ (.int .i64 r33_.n)).setCell ⟨g626_, 0, none⟩ (.pointer (some r34_.a))).setCell ⟨g626_, 1, none⟩ (.int .i64 r34_.n)).heap[g532_]? = some (.cells #[.pointer (some r33_.a), .int .i64 r33_.n] 100 (0, 0))) := by rw [heap_setCell_other _ _ _ _ hne_, heap_setCell_other _ _ _ _ hne_]; exact two_setCell P534_.out
   have R6_ : Hid (((((w34_.setCell ⟨g532_, 0, none⟩ (.pointer (some r33_.a))).setCell ⟨g532_, 1, none⟩ (.int .i64 r33_.n)).setCell ⟨g626_, 0, none⟩ (.pointer (some r34_.a))).setCell ⟨g626_, 1, none⟩ (.int .i64 r34_.n)).heap[g626_]? = some (.cells #[.pointer (some r34_.a), .int .i64 r34_.n] 100 (0, 0))) := two_setCell (by rw [heap_setCell_other _ _ _ _ (Ne.symm hne_), heap_setCell_other _ _ _ _ (Ne.symm hne_)]; exact P634_.out)
   have RM_ : Hid (MapP ((((w34_.setCell ⟨g532_, 0, none⟩ (.pointer (some r33_.a))).setCell ⟨g532_, 1, none⟩ (.int .i64 r33_.n)).setCell ⟨g626_, 0, none⟩ (.pointer (some r34_.a))).setCell ⟨g626_, 1, none⟩ (.int .i64 r34_.n)) D m E34_) := M34_.out.kept (by have h5 := N532_.out; have h6 := N626_.out; rw [heap_setCell_other _ _ _ _ (by show m ≠ g626_; omega), heap_setCell_other _ _ _ _ (by show m ≠ g626_; omega), heap_setCell_other _ _ _ _ (by show m ≠ g532_; omega), heap_setCell_other _ _ _ _ (by show m ≠ g532_; omega)])
   refine wpAnyH_ready (rs := [10]) (by kernel_rfl) (by simp) ?_
   refine AllReadyH.cons rfl (fun K hK => ?_) AllReadyH.nil
   rw [if_pos (by kernel_rfl)]
   go_wp2_with fail
   refine hK.out _ _ GA_.out (fun _ => ?_)
   clear hK K
   refine wpAnyH_ready (rs := [11]) (by kernel_rfl) (by simp) ?_
   refine AllReadyH.cons rfl (fun K hK => ?_) AllReadyH.nil
   rw [if_pos (by kernel_rfl)]
   go_wp2_with fail
   refine hK.out _ _ GB_.out (fun _ => ?_)
   clear hK K
   refine wpAnyH_done (by kernel_rfl) ?_ _
   exact REST g532_ g626_ r33_ r34_ E33_ E34_ _ R5_ R6_ (HG0.out.trans GB_.out) RM_ U34_ L134_ L234_
end Go.Proofs.Ytijpmnenegdmnaa
