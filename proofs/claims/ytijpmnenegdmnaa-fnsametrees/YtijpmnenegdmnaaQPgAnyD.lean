/- A drawn program, bent or not: l10Any. -/
import Derived.Test.YtijpmnenegdmnaaQPgAnyM
import Derived.Deep.CutBlock
namespace Go.Proofs.Ytijpmnenegdmnaa
open Go.RowKit
set_option maxRecDepth 8000
set_option linter.unusedSimpArgs false

def AnyP : Prop := ∀ (cb : Nat) (v : Value) (zs : List Int) (w : World), Cur w cb v zs →
 Calls Try.prog 18 #[.pointer (some ⟨cb, 0, none⟩)] w fun e w' => ∃ V fv, e = .returned (pgV V fv) ∧ PgR w' (w.heap.size + 1) V fv ∧ Cur w' cb v zs ∧ w.grownBy w' (some cb)

set_option maxHeartbeats 40000000 in
theorem l10Any_any : AnyP := by
 intro cb v zs w h
 have hlt := h.lt
 have HNE : Hid (w.heap.size ≠ cb) := by show _ ≠ _; omega
 have HV : Hid (zs ≠ [] → ∀ k, v.ownBlock = some k → k < w.heap.size) := fun hz k hk => h.1.lt hz k hk
 have HC0 := Hid.mk (h.grow ((Below.refl _ _).alloc (Nat.le_refl _) (.cells #[.slice none 0 0, .slice none 0 0] 37)))
 have HB0 := Hid.mk (BzP.new w (.slice none 0 0) (.slice none 0 0))
 have HG0 := Hid.mk (gy_alloc w cb (.cells #[.slice none 0 0, .slice none 0 0] 37))
 have HFIN : Hid (∀ (W : World) (V fv : Value), PgR W (w.heap.size + 1) V fv → Cur W cb v zs → w.grownBy W (some cb) → PgR (box2 W w.heap.size V fv) (w.heap.size + 1) V fv ∧ Cur (box2 W w.heap.size V fv) cb v zs ∧ w.grownBy (box2 W w.heap.size V fv) (some cb)) := by
  intro W V fv h2 h3 h4
  exact ⟨h2.keep (box2_by _ _ _ _) (by omega), h3.row (box2_by _ _ _ _) (fun g e => by cases e; exact ⟨HNE.out, fun hz k hk => by have := HV.out hz k hk; omega⟩), gy_far h4 (box2_by _ _ _ _) (Nat.le_refl _)⟩
 clear h
 go_enter Try.func18, Try.ntmps18
 go_upto_region 1 with fail
 have hs1 : w.heap.size < (w.alloc (.cells #[.slice none 0 0, .slice none 0 0] 37)).heap.size := HB0.out.lt
 generalize w.alloc (.cells #[.slice none 0 0, .slice none 0 0] 37) = w1 at *
 go_wp2_with fail
 refine (l10Draw_any cb v zs _ HC0.out).mono ?_
 rintro e w3 ⟨V, fv, rfl, ⟨U, F, n0, n1, hb0, h01, hF, hI, hU, hU3, hF2⟩, hC3, hg3⟩
 obtain ⟨u0, us, rfl⟩ : ∃ u0 us, U = u0 :: us := by cases U with | nil => exact absurd rfl hU | cons u0 us => exact ⟨u0, us, rfl⟩
 obtain ⟨g, nU, cap, rfl, hnU, hgn, hgl⟩ : ∃ g nU cap, V = .slice (some ⟨g, 0, none⟩) nU cap ∧ (u0 :: us).length = nU ∧ n1 ≤ g ∧ g < w3.heap.size := by
  rcases id hI.1.2 with ⟨rfl, h0⟩ | ⟨g, cap, cur, rfl, hb, hg, -⟩
  ·simp at h0
  ·exact ⟨g, _, cap, rfl, rfl, hb, (Array.getElem?_eq_some_iff.1 hg).1⟩
 obtain ⟨fg, fc, rfl, hfg, hfc⟩ : ∃ fg fc, fv = .slice (some ⟨fg, 0, none⟩) 2 fc ∧ fg < n0 ∧ 2 ≤ fc ∧ fc ≤ maxLen := by
  rcases id hF.1.2 with ⟨rfl, h0⟩ | ⟨g, cap, cur, rfl, hb, hg, hc, hm, -⟩
  ·omega
  ·exact ⟨g, cap, by rw [hF2], hF.2.1 g rfl, by omega, hm⟩
 have hfc63 : fc ≤ 9223372036854775807 := by have := hfc.2; unfold maxLen at this; omega
 have hs3 := hg3.size
 have HAP : Hid (∀ k, u0.a.ownBlock = some k → k < w3.heap.size) := hI.gb u0 rfl
 have HUB : Hid (Ul w3 (bd w3 n1 w3.heap.size none) ((u0 :: us).map Uv.r) (.slice (some ⟨g, 0, none⟩) nU cap)) := hI.ul.imp fun _ hb hlt => ⟨hb, hlt, by simp⟩
 have HFB : Hid (Fl w3 (bd w3 (w1.heap.size + 1) w3.heap.size none) (F.map Fv.f) (.slice (some ⟨fg, 0, none⟩) 2 fc)) := hF.fl.imp fun _ hb hlt => ⟨hb.1, hlt, by simp⟩
 have HUZ : Hid (∀ r ∈ (u0 :: us).map Uv.r, r.sz ≤ 100000000) := fun r hr => by obtain ⟨u, hu, rfl⟩ := List.mem_map.1 hr; exact hI.szs u hu
 have HFZ : Hid (∀ f ∈ F.map Fv.f, f.sz ≤ 100000000) := fun r hr => by obtain ⟨u, hu, rfl⟩ := List.mem_map.1 hr; exact (hF.2.2 u hu).2.2.2
 have HUL : Hid (((u0 :: us).map Uv.r).length ≤ 3) := by simpa [Hid] using hU3
 have HFL : Hid ((F.map Fv.f).length = 2) := by simpa [Hid] using hF2
 have A4 : Below w3.heap.size w3 (w3.alloc (.cells #[.slice (some ⟨g, 0, none⟩) nU cap, .slice (some ⟨fg, 0, none⟩) 2 fc] 37)) := (Below.refl _ _).alloc (Nat.le_refl _) _
 have HP4 := Hid.mk (BzP.new w3 (.slice (some ⟨g, 0, none⟩) nU cap) (.slice (some ⟨fg, 0, none⟩) 2 fc))
 have HI4 := Hid.mk (hI.grow A4)
 have HF4 := Hid.mk (hF.grow A4)
 have HUB4 := Hid.mk (HUB.out.bnd (fun b _ _ hlt => A4.block b hlt))
 have HFB4 := Hid.mk (HFB.out.bnd (fun b _ _ hlt => A4.block b hlt))
 have HB4 := Hid.mk ((HB0.out.row hg3 (fun g e => by cases e; exact fun e => HNE.out e.symm)).grow A4)
 have HC4 := Hid.mk (hC3.grow A4)
 have HG4 := Hid.mk (gy_below (grownBy_trans HG0.out hg3) A4)
 have hwn : w.heap.size + 1 ≤ w1.heap.size + 1 := by omega
 clear hF hI hC3 hg3 HUB HFB HB0 HC0 HG0 A4 hU hU3 hF2
 generalize w1.heap.size + 1 = nb at *
 go_wp2_with fail
 obtain ⟨pb, hpb⟩ : ∃ b, w3.heap.size = b := ⟨_, rfl⟩
 rw [hpb] at hgl hs3
 generalize w3.alloc (.cells #[.slice (some ⟨g, 0, none⟩) nU cap, .slice (some ⟨fg, 0, none⟩) 2 fc] 37) = w4 at *
 simp only [hpb] at *
 clear hpb
 have hpc : pb ≠ cb := by omega
 refine (l1Below_any cb v zs 12 _ HC4.out).mono ?_
 rintro e w5 ⟨X, rfl, hX0, hX1, -, hC5, hg5⟩
 have HP5 := Hid.mk (HP4.out.row hg5 (fun g e => by cases e; exact hpc.symm))
 have HI5 := Hid.mk (HI4.out.by hg5 (by omega))
 have HF5 := Hid.mk (HF4.out.keep hg5 (fun g e => by cases e; exact .inl (by omega)))
 have HUB5 := Hid.mk (HUB4.out.bnd (bnd_of hg5 (fun g e => by cases e; exact .inl (by omega))))
 have HFB5 := Hid.mk (HFB4.out.bnd (bnd_of hg5 (fun g e => by cases e; exact .inl (by omega))))
 have HB5 := Hid.mk (HB4.out.row hg5 (fun g e => by cases e; exact fun e => HNE.out e.symm))
 have HC5 := Hid.mk hC5
 have HG5 := Hid.mk (grownBy_trans HG4.out hg5)
 have hpl5 : pb < w5.heap.size := HP5.out.lt
 clear hC5 hg5 HP4 HI4 HF4 HUB4 HFB4 HB4 HC4 HG4
 go_upto_block 0 with fail
 go_cut [] from 8 (fun wx => ∃ V fv, Hid (PgR wx (w.heap.size + 1) V fv) ∧ Hid (BzP wx pb V fv) ∧ Hid (BzP wx w.heap.size (.slice none 0 0) (.slice none 0 0)) ∧ Hid (Cur wx cb v zs) ∧ Hid (w.grownBy wx (some cb)))
 case first =>
  by_cases e0 : X = 0
  ·subst e0
   have HPd := Hid.mk (HP5.out.grow (drewB _ w5))
   have HId := Hid.mk (HI5.out.grow (drewB _ w5))
   have HFd := Hid.mk (HF5.out.grow (drewB _ w5))
   have HUBd := Hid.mk (HUB5.out.bnd (fun b _ _ hlt => (drewB _ w5).block b hlt))
   have HFBd := Hid.mk (HFB5.out.bnd (fun b _ _ hlt => (drewB _ w5).block b hlt))
   have HBd := Hid.mk (HB5.out.grow (drewB _ w5))
   have HCd := Hid.mk (HC5.out.grow (drewB _ w5))
   have HGd := Hid.mk (gy_below HG5.out (drewB _ w5))
   have hpld : pb < w5.drew.heap.size := hpl5
   clear HP5 HI5 HF5 HUB5 HFB5 HB5 HC5 HG5 hpl5
   go_wp2_with fail
   refine wp_region_F (f := 6) (S := fun w' => w'.cell? ⟨pb, 0, none⟩ = some (.slice (some ⟨g, 0, none⟩) nU cap)) (by kernel_rfl) ?_
   generalize w5.drew = wd at *
   have hn1' : 0 < nU := by rw [← hnU]; simp
   have hn1 : (0 : Int) < (nU : Int) := by omega
   refine takeF (i := 0) (v := .pointer (some ⟨pb, 0, none⟩)) (some 10) rfl rfl (by kernel_rfl) (by kernel_rfl) (by kernel_rfl) (by kernel_rfl) rfl (fun _ _ _ h => h) (Or.inl ⟨by kernel_rfl, fun w' hw => ?_⟩) HPd.out.c0 ?_
   ·kernel_rfl
   simp only [Act.put, List.setIfInBounds_toArray]
   refine takeF (i := 1) (v := (.slice (some ⟨g, 0, none⟩) nU cap)) (some 11) rfl rfl (by kernel_rfl) (by kernel_rfl) (by kernel_rfl) (by kernel_rfl) rfl (fun _ _ _ h => h) (Or.inl ⟨by kernel_rfl, fun w' hw => ?_⟩) HPd.out.c0 ?_
   ·have y := hw; go_simp
   simp only [Act.put, List.setIfInBounds_toArray]
   refine takeF (i := 2) (v := .pointer (some ⟨cb, 0, none⟩)) (some 12) rfl rfl (by kernel_rfl) (by kernel_rfl) (by kernel_rfl) (by kernel_rfl) rfl (fun _ _ _ h => h) (Or.inl ⟨by kernel_rfl, fun w' hw => ?_⟩) HPd.out.c0 ?_
   ·kernel_rfl
   simp only [Act.put, List.setIfInBounds_toArray]
   refine wpAnyF_ready (rs := [3]) (by kernel_rfl) (by simp) ?_
   refine AllReadyF.cons rfl (fun K hK => ?_) AllReadyF.nil
   rw [if_pos (by kernel_rfl)]
   go_wp2_with fail
   refine (l1Below_any cb v zs 6 _ HCd.out).mono ?_
   rintro e w6 ⟨y, rfl, -, -, -, hC, hg⟩
   have HP6 := Hid.mk (HPd.out.row hg (fun g e => by cases e; exact hpc.symm))
   have HI6 := Hid.mk (HId.out.by hg (by omega))
   have HF6 := Hid.mk (HFd.out.keep hg (fun g e => by cases e; exact .inl (by omega)))
   have HUB6 := Hid.mk (HUBd.out.bnd (bnd_of hg (fun g e => by cases e; exact .inl (by omega))))
   have HFB6 := Hid.mk (HFBd.out.bnd (bnd_of hg (fun g e => by cases e; exact .inl (by omega))))
   have HB6 := Hid.mk (HBd.out.row hg (fun g e => by cases e; exact fun e => HNE.out e.symm))
   have HC6 := Hid.mk hC
   have HG6 := Hid.mk (grownBy_trans HGd.out hg)
   have hpl6 : pb < w6.heap.size := HP6.out.lt
   clear hg hC HPd HId HFd HUBd HFBd HBd HCd HGd hpld
   refine hK.out _ _ (fun _ => HP6.out.c0) (fun _ => ?_)
   clear hK K
   refine wpAnyF_ready (rs := [4]) (by kernel_rfl) (by simp) ?_
   refine AllReadyF.cons rfl (fun K hK => ?_) AllReadyF.nil
   rw [if_pos (by kernel_rfl)]
   go_wp2_with fail
   refine hK.out _ _ (fun _ => HP6.out.c0) (fun _ => ?_)
   clear hK K
   refine wpAnyF_ready (rs := [5]) (by kernel_rfl) (by simp) ?_
   refine AllReadyF.cons rfl (fun K hK => ?_) AllReadyF.nil
   rw [if_pos (by kernel_rfl)]
   go_wp2_with fail
   refine hK.out _ _ (fun _ => HP6.out.c0) (fun _ => ?_)
   clear hK K
   refine wpAnyF_ready (rs := [6]) (by kernel_rfl) (by simp) ?_
   refine AllReadyF.cons rfl (fun K hK => ?_) AllReadyF.nil
   obtain ⟨r0, -, -, -, -, -, rf⟩ := HI6.out.cells hnU
   rw [if_pos (by kernel_rfl)]
   go_wp2_with fail
   refine hK.out _ _ (fun h => absurd rfl h) (fun _ => ?_)
   clear hK K
   refine wpAnyF_done (by kernel_rfl) ?_ _
   have G7 := gb_set w6 g 0 (.int .i64 y)
   clear r0 rf
   have HF7 := HF6.out.keep G7 (fun x e => by cases e; exact .inr (by omega))
   have HR7 : Hid (PgR (w6.setCell ⟨g, 0, none⟩ (.int .i64 y)) (w.heap.size + 1) (.slice (some ⟨g, 0, none⟩) nU cap) (.slice (some ⟨fg, 0, none⟩) 2 fc)) := pgR_of ((HI6.out.setK hnU y).imp fun _ hb _ => ⟨by have := hb.1; omega, hb.2⟩) (HF7.fl.imp fun _ hb _ => ⟨by have := hb.1.1; omega, hb.1.2⟩) ((fun r hr => by
    have hz := HUZ.out
    simp only [List.map_cons, List.mem_cons] at hr hz
    rcases hr with rfl | hr
    ·have := hz u0.r (.inl rfl); simp only [Ru.sz] at *; omega
    ·exact Nat.le_trans (hz r (.inr hr)) (by omega))) (fun f hf => Nat.le_trans (HFZ.out f hf) (by omega)) (by have := HUL.out; simpa using this) (by have := HFL.out; omega)
   have HP7 := Hid.mk (HP6.out.row G7 (fun x e => by cases e; omega))
   have HB7 := Hid.mk (HB6.out.row G7 (fun x e => by cases e; omega))
   have HC7 := Hid.mk (HC6.out.row G7 (fun x e => by cases e; exact ⟨by omega, fun hz k hk => by have := HV.out hz k hk; omega⟩))
   have HG7 := Hid.mk (gy_far HG6.out G7 (by omega))
   clear HF7 G7 HP6 HI6 HF6 HUB6 HFB6 HB6 HC6 HG6
   go_wp2
   go_meet
   case rel => exact ⟨(.slice (some ⟨g, 0, none⟩) nU cap), (.slice (some ⟨fg, 0, none⟩) 2 fc), HR7, HP7, HB7, HC7, HG7⟩
  by_cases e1 : X = 1
  ·subst e1
   obtain ⟨ao, an, ac, hua⟩ : ∃ o n c, u0.a = .slice o n c := by
    obtain ⟨-, h2⟩ := HI5.out
    obtain ⟨o, c, h, -⟩ := h2.1.2.1.sl.len
    exact ⟨_, _, _, h⟩
   obtain ⟨ur, ux, ua⟩ := u0
   simp only at hua
   subst hua
   go_upto_region 6 with fail
   go_cut [19] from 18 (fun s19 wx => ∃ b : Bool, s19 = .bool b ∧ Hid (Below w5.heap.size w5 wx))
   case first =>
    go_region
    all_goals (
     go_wp2
     go_meet
     case rel => exact ⟨_, rfl, ((Below.refl _ _).alloc (Nat.le_refl _) _).trans (drewB _ _)⟩)
   case rest =>
    obtain ⟨b19, rfl, hb6⟩ := hcut
    have HP5b := Hid.mk (HP5.out.grow hb6.out)
    have HI5b := Hid.mk (HI5.out.grow hb6.out)
    have HF5b := Hid.mk (HF5.out.grow hb6.out)
    have HUB5b := Hid.mk (HUB5.out.bnd (fun b _ _ hlt => (hb6.out).block b hlt))
    have HFB5b := Hid.mk (HFB5.out.bnd (fun b _ _ hlt => (hb6.out).block b hlt))
    have HB5b := Hid.mk (HB5.out.grow hb6.out)
    have HC5b := Hid.mk (HC5.out.grow hb6.out)
    have HG5b := Hid.mk (gy_below HG5.out hb6.out)
    have hpl5b : pb < wc.heap.size := HP5b.out.lt
    clear hb6 HP5 HI5 HF5 HUB5 HFB5 HB5 HC5 HG5 hpl5
    generalize wc = w5b at *
    cases b19 with
    | true =>
     have HPd := Hid.mk (HP5b.out.grow (drewB _ w5b))
     have HId := Hid.mk (HI5b.out.grow (drewB _ w5b))
     have HFd := Hid.mk (HF5b.out.grow (drewB _ w5b))
     have HUBd := Hid.mk (HUB5b.out.bnd (fun b _ _ hlt => (drewB _ w5b).block b hlt))
     have HFBd := Hid.mk (HFB5b.out.bnd (fun b _ _ hlt => (drewB _ w5b).block b hlt))
     have HBd := Hid.mk (HB5b.out.grow (drewB _ w5b))
     have HCd := Hid.mk (HC5b.out.grow (drewB _ w5b))
     have HGd := Hid.mk (gy_below HG5b.out (drewB _ w5b))
     have hpld : pb < w5b.drew.heap.size := hpl5b
     clear HP5b HI5b HF5b HUB5b HFB5b HB5b HC5b HG5b hpl5b
     go_wp2_with fail
     have r5 := (HId.out.cells hnU).2.2.2.2.2.1
     have hn1' : 0 < nU := by rw [← hnU]; simp
     have hn1 : (0 : Int) < (nU : Int) := by omega
     refine wp_region_F (f := 12) (S := fun w' => w'.cell? ⟨pb, 0, none⟩ = some (.slice (some ⟨g, 0, none⟩) nU cap) ∧ w'.cell? ⟨g, 5, none⟩ = some (.slice ao an ac)) (by kernel_rfl) ?_
     generalize w5b.drew = wd at *
     refine takeF (i := 0) (v := .pointer (some ⟨pb, 0, none⟩)) (some 20) rfl rfl (by kernel_rfl) (by kernel_rfl) (by kernel_rfl) (by kernel_rfl) rfl (fun _ _ _ h => h) (Or.inl ⟨by kernel_rfl, fun w' hw => ?_⟩) ⟨HPd.out.c0, r5⟩ ?_
     ·kernel_rfl
     simp only [Act.put, List.setIfInBounds_toArray]
     refine takeF (i := 1) (v := (.slice (some ⟨g, 0, none⟩) nU cap)) (some 21) rfl rfl (by kernel_rfl) (by kernel_rfl) (by kernel_rfl) (by kernel_rfl) rfl (fun _ _ _ h => h) (Or.inl ⟨by kernel_rfl, fun w' hw => ?_⟩) ⟨HPd.out.c0, r5⟩ ?_
     ·have y := hw.1; go_simp
     simp only [Act.put, List.setIfInBounds_toArray]
     refine takeF (i := 2) (v := .pointer (some ⟨g, 0, none⟩)) (some 22) rfl rfl (by kernel_rfl) (by kernel_rfl) (by kernel_rfl) (by kernel_rfl) rfl (fun _ _ _ h => h) (Or.inl ⟨by kernel_rfl, fun w' hw => ?_⟩) ⟨HPd.out.c0, r5⟩ ?_
     ·go_simp
     simp only [Act.put, List.setIfInBounds_toArray]
     refine takeF (i := 3) (v := .pointer (some ⟨g, 5, none⟩)) (some 23) rfl rfl (by kernel_rfl) (by kernel_rfl) (by kernel_rfl) (by kernel_rfl) rfl (fun _ _ _ h => h) (Or.inl ⟨by kernel_rfl, fun w' hw => ?_⟩) ⟨HPd.out.c0, r5⟩ ?_
     ·first | kernel_rfl | go_simp
     simp only [Act.put, List.setIfInBounds_toArray]
     refine takeF (i := 4) (v := .slice ao an ac) (some 24) rfl rfl (by kernel_rfl) (by kernel_rfl) (by kernel_rfl) (by kernel_rfl) rfl (fun _ _ _ h => h) (Or.inl ⟨by kernel_rfl, fun w' hw => ?_⟩) ⟨HPd.out.c0, r5⟩ ?_
     ·have y := hw.2; go_simp
     simp only [Act.put, List.setIfInBounds_toArray]
     refine takeF (i := 5) (v := .pointer (some ⟨cb, 0, none⟩)) (some 25) rfl rfl (by kernel_rfl) (by kernel_rfl) (by kernel_rfl) (by kernel_rfl) rfl (fun _ _ _ h => h) (Or.inl ⟨by kernel_rfl, fun w' hw => ?_⟩) ⟨HPd.out.c0, r5⟩ ?_
     ·kernel_rfl
     simp only [Act.put, List.setIfInBounds_toArray]
     refine takeF (i := 7) (v := .int .i64 an) (some 27) rfl rfl (by kernel_rfl) (by kernel_rfl) (by kernel_rfl) (by kernel_rfl) rfl (fun _ _ _ h => h) (Or.inl ⟨by kernel_rfl, fun w' hw => ?_⟩) ⟨HPd.out.c0, r5⟩ ?_
     ·first | kernel_rfl | go_simp
     simp only [Act.put, List.setIfInBounds_toArray]
     clear r5
     refine wpAnyF_ready (rs := [6, 8]) (by kernel_rfl) (by simp) ?_
     refine AllReadyF.cons rfl (fun K hK => ?_) (AllReadyF.cons rfl (fun K hK => ?_) AllReadyF.nil)
     ·rw [if_pos (by kernel_rfl)]
      go_wp2_with fail
      refine (l9Any_any cb v zs _ HCd.out).mono ?_
      rintro e w6 ⟨q, rfl, hdq, hyq, hC, hg⟩
      obtain ⟨qt, qx, qa, qb⟩ := q
      obtain ⟨xo, xn, xc, rfl⟩ : ∃ o n c, qx = .slice o n c := by obtain ⟨o, c, h, -⟩ := hyq.1.len; exact ⟨_, _, _, h⟩
      obtain ⟨yo, yn, yc, rfl⟩ : ∃ o n c, qa = .slice o n c := by obtain ⟨o, c, h, -⟩ := hyq.2.1.len; exact ⟨_, _, _, h⟩
      obtain ⟨zo, zn, zc, rfl⟩ : ∃ o n c, qb = .slice o n c := by obtain ⟨o, c, h, -⟩ := hyq.2.2.len; exact ⟨_, _, _, h⟩
      simp only at hdq
      have HDQ := Hid.mk hdq
      have hzq := hg.size
      clear hdq
      have HQ6 : Hid (El w6 (nf w6 (pb + 1)) qt.x (.slice xo xn xc) ∧ Sl w6 (nf w6 (pb + 1)) qt.a (.slice yo yn yc) ∧ Sl w6 (nf w6 (pb + 1)) qt.b (.slice zo zn zc)) := ⟨hyq.1.imp fun _ hb _ => ⟨by have := hb.1.1; omega, hb.1.2⟩, hyq.2.1.imp fun _ hb _ => ⟨by have := hb.1.1; omega, hb.1.2⟩, hyq.2.2.imp fun _ hb _ => ⟨by have := hb.1.1; omega, hb.1.2⟩⟩
      clear hyq
      have HP6 := Hid.mk (HPd.out.row hg (fun g e => by cases e; exact hpc.symm))
      have HI6 := Hid.mk (HId.out.by hg (by omega))
      have HF6 := Hid.mk (HFd.out.keep hg (fun g e => by cases e; exact .inl (by omega)))
      have HUB6 := Hid.mk (HUBd.out.bnd (bnd_of hg (fun g e => by cases e; exact .inl (by omega))))
      have HFB6 := Hid.mk (HFBd.out.bnd (bnd_of hg (fun g e => by cases e; exact .inl (by omega))))
      have HB6 := Hid.mk (HBd.out.row hg (fun g e => by cases e; exact fun e => HNE.out e.symm))
      have HC6 := Hid.mk hC
      have HG6 := Hid.mk (grownBy_trans HGd.out hg)
      have hpl6 : pb < w6.heap.size := HP6.out.lt
      clear hg hC HPd HId HFd HUBd HFBd HBd HCd HGd hpld
      refine hK.out _ _ (fun _ => ⟨HP6.out.c0, row_c5 HI6.out.1⟩) (fun _ => ?_)
      clear hK K
      refine wpAnyF_ready (rs := [8]) (by kernel_rfl) (by simp) ?_
      refine AllReadyF.cons rfl (fun K hK => ?_) AllReadyF.nil
      rw [if_pos (by kernel_rfl)]
      go_wp2_with fail
      have A : Below w6.heap.size w6 (w6.alloc (.cells #[.int .i64 0, .string ⟨#[]⟩, .string ⟨#[]⟩, .slice none 0 0, .slice none 0 0, .slice none 0 0] 31)) := (Below.refl _ _).alloc (Nat.le_refl _) _
      have HN7 := Hid.mk (heap_alloc_new w6 (.cells #[.int .i64 0, .string ⟨#[]⟩, .string ⟨#[]⟩, .slice none 0 0, .slice none 0 0, .slice none 0 0] 31))
      have hlb7 : w6.heap.size < (w6.alloc (.cells #[.int .i64 0, .string ⟨#[]⟩, .string ⟨#[]⟩, .slice none 0 0, .slice none 0 0, .slice none 0 0] 31)).heap.size := (Array.getElem?_eq_some_iff.1 (heap_alloc_new w6 (.cells #[.int .i64 0, .string ⟨#[]⟩, .string ⟨#[]⟩, .slice none 0 0, .slice none 0 0, .slice none 0 0] 31))).1
      have hlbc : w6.heap.size ≠ cb := by omega
      have HQ7 := Hid.mk (And.intro (HQ6.out.1.nfgrow A) (And.intro (HQ6.out.2.1.nfgrow A) (HQ6.out.2.2.nfgrow A)))
      clear HQ6
      have HP7 := Hid.mk (HP6.out.grow A)
      have HI7 := Hid.mk (HI6.out.grow A)
      have HF7 := Hid.mk (HF6.out.grow A)
      have HUB7 := Hid.mk (HUB6.out.bnd (fun b _ _ hlt => (A).block b hlt))
      have HFB7 := Hid.mk (HFB6.out.bnd (fun b _ _ hlt => (A).block b hlt))
      have HB7 := Hid.mk (HB6.out.grow A)
      have HC7 := Hid.mk (HC6.out.grow A)
      have HG7 := Hid.mk (gy_below HG6.out A)
      have hpl7 : pb < (w6.alloc (.cells #[.int .i64 0, .string ⟨#[]⟩, .string ⟨#[]⟩, .slice none 0 0, .slice none 0 0, .slice none 0 0] 31)).heap.size := HP7.out.lt
      clear HP6 HI6 HF6 HUB6 HFB6 HB6 HC6 HG6 hpl6
      refine hK.out _ _ (fun _ => ⟨HP7.out.c0, row_c5 HI7.out.1⟩) (fun _ => ?_)
      clear hK K
      clear A
      generalize w6.heap.size = lb at *
      generalize w6.alloc (.cells #[.int .i64 0, .string ⟨#[]⟩, .string ⟨#[]⟩, .slice none 0 0, .slice none 0 0, .slice none 0 0] 31) = w7 at *
      refine wpAnyF_ready (rs := [9]) (by kernel_rfl) (by simp) ?_
      refine AllReadyF.cons rfl (fun K hK => ?_) AllReadyF.nil
      rw [if_pos (by kernel_rfl)]
      obtain ⟨M, eM, hown, hels, hrow, hMl⟩ := HI7.out.rowA
      have hap := HAP.out
      simp only at eM hown hels hrow hap
      have han := own_len hown
      subst han
      refine wp_append_zz (.tmp 24) (.tmp 28) rfl n1 g (.slice ao M.length ac) M rfl hown hels lb rfl HN7.out (by omega) (by omega) ?_
      rintro V' wZ hZ hEs hgZ hvZ
      obtain ⟨hb, cz, hV⟩ := own_some hZ (by simp)
      obtain ⟨nz, hnz⟩ : ∃ n, (M ++ [zY]).length = n := ⟨_, rfl⟩
      rw [hnz] at hV
      subst hV
      have hnz2 : Hid (nz = M.length + 1) := by refine Hid.mk ?_; rw [← hnz]; simp
      replace hnz := Hid.mk hnz
      obtain ⟨hb1, hb2⟩ := World.ownsRow.lt hZ hb rfl
      have hbA : (∃ k, (Value.slice ao M.length ac).ownBlock = some k ∧ hb = k) ∨ hb = w7.heap.size := by
       rcases hvZ with h | h
       ·exact .inl ⟨hb, h.symm, rfl⟩
       ·exact .inr (by simpa [Value.ownBlock] using h)
      have hbg : hb ≠ g := by
       rcases hbA with ⟨k, h, rfl⟩ | h
       ·exact (hrow _ h).2.1
       ·omega
      have hbp : hb ≠ pb := by
       rcases hbA with ⟨k, h, rfl⟩ | h
       ·have := hap _ h; omega
       ·omega
      have hbc : hb ≠ cb := by omega
      have HRW : Hid (wZ.ownsRow n1 59 6 (.slice (some ⟨g, 0, none⟩) nU cap) (⟨ur, ux, .slice ao M.length ac⟩ :: us).length (ruCells (⟨ur, ux, .slice ao M.length ac⟩ :: us))) := World.ownsRow.kept HI7.out.1 hgZ (.inr (fun e => (hrow g e.symm).2.1 rfl))
      have HKZ : Hid (∀ b, n1 ≤ b → b < w7.heap.size → some b ≠ some g → some b ≠ (Value.slice ao M.length ac).ownBlock → wZ.heap[b]? = w7.heap[b]?) := fun b _ hlt _ hne => hgZ.block b hlt hne
      have HZZ := Hid.mk hZ
      have HES := Hid.mk hEs
      have HPZ := Hid.mk (HP7.out.row hgZ (fun x e => by have := hap x e; omega))
      have HFZZ := Hid.mk (HF7.out.keep hgZ (fun x e => .inr (by have := (hrow x e).1; omega)))
      have HBZ := Hid.mk (HB7.out.row hgZ (fun x e => by have := (hrow x e).1; omega))
      have HCZ := Hid.mk (HC7.out.row hgZ (fun x e => by have := (hrow x e).1; exact ⟨by omega, fun hz k hk => by have := HV.out hz k hk; omega⟩))
      have HGZ := Hid.mk (gy_row HG7.out hgZ (fun x e => by have := (hrow x e).1; omega))
      have hszZ := hgZ.size
      have HQZ : Hid (RowEls wZ n1 g (some hb) ⟨qt, .slice xo xn xc, .slice yo yn yc, .slice zo zn zc⟩) := by
       have hi : ∀ b, nf w7 (pb + 1) b → (nf w7 n1 b ∧ some b ≠ some g) ∧ some b ≠ (Value.slice ao M.length ac).ownBlock := fun b hb => ⟨⟨⟨by have := hb.1; omega, hb.2⟩, by have := hb.1; simp; omega⟩, fun e => by have := hap b e.symm; have := hb.1; omega⟩
       have h1 : RowEls w7 n1 g (Value.slice ao M.length ac).ownBlock ⟨qt, .slice xo xn xc, .slice yo yn yc, .slice zo zn zc⟩ := ⟨⟨HQ7.out.1.imp fun b hb _ => hi b hb, HQ7.out.2.1.imp fun b hb _ => hi b hb, HQ7.out.2.2.imp fun b hb _ => hi b hb⟩, HDQ.out.1.sizes⟩
       refine h1.kept fun b _ hlt _ hne => ⟨hgZ.block b hlt hne, ?_⟩
       rcases hbA with ⟨k, h, rfl⟩ | h
       ·rw [← h]; exact hne
       ·intro e; simp at e; omega
      clear HQ7
      clear hZ hEs hgZ hvZ hown hels HN7 hlb7 HP7 HF7 HUB7 HFB7 HB7 HC7 HG7
      refine hK.out _ _ (fun _ => ⟨HPZ.out.c0, row_c5 HRW.out⟩) (fun _ => ?_)
      clear hK K
      refine wpAnyF_ready (rs := [10]) (by kernel_rfl) (by simp) ?_
      refine AllReadyF.cons rfl (fun K hK => ?_) AllReadyF.nil
      rw [if_pos (by kernel_rfl)]
      go_wp2_with fail
      refine hK.out _ _ (fun _ => ⟨HPZ.out.c0, row_c5 HRW.out⟩) (fun _ => ?_)
      clear hK K
      refine wpAnyF_ready (rs := [11]) (by kernel_rfl) (by simp) ?_
      refine AllReadyF.cons rfl (fun K hK => ?_) AllReadyF.nil
      rw [if_pos (by kernel_rfl)]
      go_wp2_with fail
      refine hK.out _ _ (fun _ => ⟨HPZ.out.c0, row_c5 HRW.out⟩) (fun _ => ?_)
      clear hK K
      refine wpAnyF_ready (rs := [12]) (by kernel_rfl) (by simp) ?_
      refine AllReadyF.cons rfl (fun K hK => ?_) AllReadyF.nil
      have r5 := row_c5 HRW.out
      have rf := frozen_of_own HRW.out
      rw [if_pos (by kernel_rfl)]
      go_wp2_with fail
      refine hK.out _ _ (fun h => absurd rfl h) (fun _ => ?_)
      clear hK K
      refine wpAnyF_done (by kernel_rfl) ?_ _
      clear r5 rf
      have G5 := gb_set wZ g 5 (.slice (some ⟨hb, 0, none⟩) nz cz)
      have HR1 : Hid ((wZ.setCell ⟨g, 5, none⟩ (.slice (some ⟨hb, 0, none⟩) nz cz)).ownsRow n1 59 6 (.slice (some ⟨g, 0, none⟩) nU cap) (⟨ur, ux, .slice ao M.length ac⟩ :: us).length (ruCells (⟨⟨ur.k, ur.p, ur.a ++ [qt]⟩, ux, .slice (some ⟨hb, 0, none⟩) nz cz⟩ :: us))) := by
       have h := HRW.out
       have hl : ((⟨ur, ux, .slice ao M.length ac⟩ :: us)).length = nU := hnU
       rw [hl] at h ⊢
       exact (World.ownsRow.stored h 5 (.slice (some ⟨hb, 0, none⟩) nz cz)).1
      have HZ1 := Hid.mk (World.ownsRow.kept HZZ.out G5 (.inr (by intro e; simp [Value.ownBlock] at e; omega)))
      have HE1 : Hid (∀ p ∈ M, RowEls (wZ.setCell ⟨g, 5, none⟩ (.slice (some ⟨hb, 0, none⟩) nz cz)) n1 g (some hb) p) := fun p hp => (HES.out p hp).kept fun b h0 hlt h1 hne => ⟨G5.block b hlt h1, hne⟩
      have HQ1 : Hid (RowEls (wZ.setCell ⟨g, 5, none⟩ (.slice (some ⟨hb, 0, none⟩) nz cz)) n1 g (some hb) ⟨qt, .slice xo xn xc, .slice yo yn yc, .slice zo zn zc⟩) := HQZ.out.kept fun b h0 hlt h1 hne => ⟨G5.block b hlt h1, hne⟩
      have HK1 : Hid (∀ b, n1 ≤ b → b < w7.heap.size → some b ≠ some g → some b ≠ (Value.slice ao M.length ac).ownBlock → (wZ.setCell ⟨g, 5, none⟩ (.slice (some ⟨hb, 0, none⟩) nz cz)).heap[b]? = w7.heap[b]?) := fun b h0 hlt h1 h2 => (G5.block b (by have := HGZ.out.size; omega) h1).trans (HKZ.out b h0 hlt h1 h2)
      have HP1 := Hid.mk (HPZ.out.row G5 (fun x e => by cases e; omega))
      have HF1 := Hid.mk (HFZZ.out.keep G5 (fun x e => by cases e; exact .inr (by omega)))
      have HB1 := Hid.mk (HBZ.out.row G5 (fun x e => by cases e; omega))
      have HC1 := Hid.mk (HCZ.out.row G5 (fun x e => by cases e; exact ⟨by omega, fun hz k hk => by have := HV.out hz k hk; omega⟩))
      have HG1 := Hid.mk (gy_far HGZ.out G5 (by omega))
      have hsE := G5.size
      clear HRW HKZ HZZ HES HQZ HPZ HFZZ HBZ HCZ HGZ G5
      go_upto_region 8 with fail
      generalize (wZ.setCell ⟨g, 5, none⟩ (.slice (some ⟨hb, 0, none⟩) nz cz)) = wE at *
      have hy1 : (M.length : Int) < (nz : Int) := by have := hnz2.out; omega
      have hy2 : M.length < nz := by have := hnz2.out; omega
      obtain ⟨z0, z1, z2, z3, z4, z5⟩ := row_lastc HZ1.out
      have zf := frozen_of_own HZ1.out
      go_wp2
      clear z0 z1 z2 z3 z4 z5 zf
      have G6 : wE.grownBy ((((((wE.setCell ⟨hb, M.length * 6, none⟩ (.int .i64 qt.k)).setCell ⟨hb, M.length * 6 + 1, none⟩ (.string qt.s)).setCell ⟨hb, M.length * 6 + 2, none⟩ (.string qt.t)).setCell ⟨hb, M.length * 6 + 3, none⟩ (.slice xo xn xc)).setCell ⟨hb, M.length * 6 + 4, none⟩ (.slice yo yn yc)).setCell ⟨hb, M.length * 6 + 5, none⟩ (.slice zo zn zc)) (some hb) := six6_by wE hb (M.length * 6) (.int .i64 qt.k) (.string qt.s) (.string qt.t) (.slice xo xn xc) (.slice yo yn yc) (.slice zo zn zc)
      have hrow6 : ((((((wE.setCell ⟨hb, M.length * 6, none⟩ (.int .i64 qt.k)).setCell ⟨hb, M.length * 6 + 1, none⟩ (.string qt.s)).setCell ⟨hb, M.length * 6 + 2, none⟩ (.string qt.t)).setCell ⟨hb, M.length * 6 + 3, none⟩ (.slice xo xn xc)).setCell ⟨hb, M.length * 6 + 4, none⟩ (.slice yo yn yc)).setCell ⟨hb, M.length * 6 + 5, none⟩ (.slice zo zn zc)).ownsRow n1 31 6 (.slice (some ⟨hb, 0, none⟩) nz cz) (M ++ [(⟨qt, .slice xo xn xc, .slice yo yn yc, .slice zo zn zc⟩ : Yv)]).length (stCells (M ++ [(⟨qt, .slice xo xn xc, .slice yo yn yc, .slice zo zn zc⟩ : Yv)])) := row_last (q := ⟨qt, .slice xo xn xc, .slice yo yn yc, .slice zo zn zc⟩) HZ1.out hnz.out
      have hsl : Sl ((((((wE.setCell ⟨hb, M.length * 6, none⟩ (.int .i64 qt.k)).setCell ⟨hb, M.length * 6 + 1, none⟩ (.string qt.s)).setCell ⟨hb, M.length * 6 + 2, none⟩ (.string qt.t)).setCell ⟨hb, M.length * 6 + 3, none⟩ (.slice xo xn xc)).setCell ⟨hb, M.length * 6 + 4, none⟩ (.slice yo yn yc)).setCell ⟨hb, M.length * 6 + 5, none⟩ (.slice zo zn zc)) (nf ((((((wE.setCell ⟨hb, M.length * 6, none⟩ (.int .i64 qt.k)).setCell ⟨hb, M.length * 6 + 1, none⟩ (.string qt.s)).setCell ⟨hb, M.length * 6 + 2, none⟩ (.string qt.t)).setCell ⟨hb, M.length * 6 + 3, none⟩ (.slice xo xn xc)).setCell ⟨hb, M.length * 6 + 4, none⟩ (.slice yo yn yc)).setCell ⟨hb, M.length * 6 + 5, none⟩ (.slice zo zn zc)) n1) (ur.a ++ [qt]) (.slice (some ⟨hb, 0, none⟩) nz cz) := by
       have hel : ∀ p, RowEls wE n1 g (some hb) p → (El ((((((wE.setCell ⟨hb, M.length * 6, none⟩ (.int .i64 qt.k)).setCell ⟨hb, M.length * 6 + 1, none⟩ (.string qt.s)).setCell ⟨hb, M.length * 6 + 2, none⟩ (.string qt.t)).setCell ⟨hb, M.length * 6 + 3, none⟩ (.slice xo xn xc)).setCell ⟨hb, M.length * 6 + 4, none⟩ (.slice yo yn yc)).setCell ⟨hb, M.length * 6 + 5, none⟩ (.slice zo zn zc)) (nf ((((((wE.setCell ⟨hb, M.length * 6, none⟩ (.int .i64 qt.k)).setCell ⟨hb, M.length * 6 + 1, none⟩ (.string qt.s)).setCell ⟨hb, M.length * 6 + 2, none⟩ (.string qt.t)).setCell ⟨hb, M.length * 6 + 3, none⟩ (.slice xo xn xc)).setCell ⟨hb, M.length * 6 + 4, none⟩ (.slice yo yn yc)).setCell ⟨hb, M.length * 6 + 5, none⟩ (.slice zo zn zc)) n1) p.t.x p.x ∧ Sl ((((((wE.setCell ⟨hb, M.length * 6, none⟩ (.int .i64 qt.k)).setCell ⟨hb, M.length * 6 + 1, none⟩ (.string qt.s)).setCell ⟨hb, M.length * 6 + 2, none⟩ (.string qt.t)).setCell ⟨hb, M.length * 6 + 3, none⟩ (.slice xo xn xc)).setCell ⟨hb, M.length * 6 + 4, none⟩ (.slice yo yn yc)).setCell ⟨hb, M.length * 6 + 5, none⟩ (.slice zo zn zc)) (nf ((((((wE.setCell ⟨hb, M.length * 6, none⟩ (.int .i64 qt.k)).setCell ⟨hb, M.length * 6 + 1, none⟩ (.string qt.s)).setCell ⟨hb, M.length * 6 + 2, none⟩ (.string qt.t)).setCell ⟨hb, M.length * 6 + 3, none⟩ (.slice xo xn xc)).setCell ⟨hb, M.length * 6 + 4, none⟩ (.slice yo yn yc)).setCell ⟨hb, M.length * 6 + 5, none⟩ (.slice zo zn zc)) n1) p.t.a p.a ∧ Sl ((((((wE.setCell ⟨hb, M.length * 6, none⟩ (.int .i64 qt.k)).setCell ⟨hb, M.length * 6 + 1, none⟩ (.string qt.s)).setCell ⟨hb, M.length * 6 + 2, none⟩ (.string qt.t)).setCell ⟨hb, M.length * 6 + 3, none⟩ (.slice xo xn xc)).setCell ⟨hb, M.length * 6 + 4, none⟩ (.slice yo yn yc)).setCell ⟨hb, M.length * 6 + 5, none⟩ (.slice zo zn zc)) (nf ((((((wE.setCell ⟨hb, M.length * 6, none⟩ (.int .i64 qt.k)).setCell ⟨hb, M.length * 6 + 1, none⟩ (.string qt.s)).setCell ⟨hb, M.length * 6 + 2, none⟩ (.string qt.t)).setCell ⟨hb, M.length * 6 + 3, none⟩ (.slice xo xn xc)).setCell ⟨hb, M.length * 6 + 4, none⟩ (.slice yo yn yc)).setCell ⟨hb, M.length * 6 + 5, none⟩ (.slice zo zn zc)) n1) p.t.b p.b) ∧ p.t.s.size ≤ 100 ∧ p.t.t.size ≤ 100 := fun p hp => by
        have h1 := hp.kept (w' := ((((((wE.setCell ⟨hb, M.length * 6, none⟩ (.int .i64 qt.k)).setCell ⟨hb, M.length * 6 + 1, none⟩ (.string qt.s)).setCell ⟨hb, M.length * 6 + 2, none⟩ (.string qt.t)).setCell ⟨hb, M.length * 6 + 3, none⟩ (.slice xo xn xc)).setCell ⟨hb, M.length * 6 + 4, none⟩ (.slice yo yn yc)).setCell ⟨hb, M.length * 6 + 5, none⟩ (.slice zo zn zc))) (ob' := some hb) (fun b _ hlt _ hne => ⟨G6.block b hlt hne, hne⟩)
        exact ⟨⟨h1.1.1.imp fun _ hb _ => hb.1.1, h1.1.2.1.imp fun _ hb _ => hb.1.1, h1.1.2.2.imp fun _ hb _ => hb.1.1⟩, h1.2⟩
       have h2 := sl_of_row (D := nf ((((((wE.setCell ⟨hb, M.length * 6, none⟩ (.int .i64 qt.k)).setCell ⟨hb, M.length * 6 + 1, none⟩ (.string qt.s)).setCell ⟨hb, M.length * 6 + 2, none⟩ (.string qt.t)).setCell ⟨hb, M.length * 6 + 3, none⟩ (.slice xo xn xc)).setCell ⟨hb, M.length * 6 + 4, none⟩ (.slice yo yn yc)).setCell ⟨hb, M.length * 6 + 5, none⟩ (.slice zo zn zc)) n1) hrow6 (fun k _ hn => hn) (fun p hp => by
        rcases List.mem_append.1 hp with hp | hp
        ·exact hel p (HE1.out p hp)
        ·obtain rfl := List.mem_singleton.1 hp
         exact hel _ HQ1.out)
       rw [List.map_append, eM] at h2
       exact h2
      have hrr := World.ownsRow.kept HR1.out G6 (.inr (by intro e; simp [Value.ownBlock] at e; omega))
      have hul := PgI.fin HI7.out hnU hrr (fun b h0 hlt h1 h2 => (G6.block b (by omega) (by
       intro e
       simp at e
       rcases hbA with ⟨k, h, h'⟩ | h
       ·exact h2 (by rw [h, e, h'])
       ·omega)).trans (HK1.out b h0 hlt h1 h2)) hsl
      have HF9 := HF1.out.keep G6 (fun x e => by cases e; exact .inr (by omega))
      have HR7 : Hid (PgR ((((((wE.setCell ⟨hb, M.length * 6, none⟩ (.int .i64 qt.k)).setCell ⟨hb, M.length * 6 + 1, none⟩ (.string qt.s)).setCell ⟨hb, M.length * 6 + 2, none⟩ (.string qt.t)).setCell ⟨hb, M.length * 6 + 3, none⟩ (.slice xo xn xc)).setCell ⟨hb, M.length * 6 + 4, none⟩ (.slice yo yn yc)).setCell ⟨hb, M.length * 6 + 5, none⟩ (.slice zo zn zc)) (w.heap.size + 1) (.slice (some ⟨g, 0, none⟩) nU cap) (.slice (some ⟨fg, 0, none⟩) 2 fc)) := pgR_of (hul.imp fun _ hb _ => ⟨by have := hb.1; omega, hb.2⟩) (HF9.fl.imp fun _ hb _ => ⟨by have := hb.1.1; omega, hb.1.2⟩) (fun r hr => by
       have hz := HUZ.out
       simp only [List.map_cons, List.mem_cons] at hr hz
       rcases hr with rfl | hr
       ·have h1 := hz ur (.inl rfl)
        have h2 := HDQ.out.2
        simp only [Ru.sz, szy_app, szy] at *
        omega
       ·exact Nat.le_trans (hz r (.inr hr)) (by omega)) (fun f hf => Nat.le_trans (HFZ.out f hf) (by omega)) (by have := HUL.out; simpa using this) (by have := HFL.out; omega)
      have HP9 := Hid.mk (HP1.out.row G6 (fun x e => by cases e; exact hbp))
      have HB9 := Hid.mk (HB1.out.row G6 (fun x e => by cases e; omega))
      have HC9 := Hid.mk (HC1.out.row G6 (fun x e => by cases e; exact ⟨hbc, fun hz k hk => by have := HV.out hz k hk; omega⟩))
      have HG9 := Hid.mk (gy_far HG1.out G6 (by omega))
      clear hul HF9 G6 hrr hsl hrow6 HR1 HK1 HZ1 HE1 HQ1 HP1 HF1 HB1 HC1 HG1 HI7
      go_meet
      case rel => exact ⟨(.slice (some ⟨g, 0, none⟩) nU cap), (.slice (some ⟨fg, 0, none⟩) 2 fc), HR7, HP9, HB9, HC9, HG9⟩
     ·rw [if_pos (by kernel_rfl)]
      go_wp2_with fail
      have A : Below wd.heap.size wd (wd.alloc (.cells #[.int .i64 0, .string ⟨#[]⟩, .string ⟨#[]⟩, .slice none 0 0, .slice none 0 0, .slice none 0 0] 31)) := (Below.refl _ _).alloc (Nat.le_refl _) _
      have HN6 := Hid.mk (heap_alloc_new wd (.cells #[.int .i64 0, .string ⟨#[]⟩, .string ⟨#[]⟩, .slice none 0 0, .slice none 0 0, .slice none 0 0] 31))
      have hlb6 : wd.heap.size < (wd.alloc (.cells #[.int .i64 0, .string ⟨#[]⟩, .string ⟨#[]⟩, .slice none 0 0, .slice none 0 0, .slice none 0 0] 31)).heap.size := (Array.getElem?_eq_some_iff.1 (heap_alloc_new wd (.cells #[.int .i64 0, .string ⟨#[]⟩, .string ⟨#[]⟩, .slice none 0 0, .slice none 0 0, .slice none 0 0] 31))).1
      have hlbc : wd.heap.size ≠ cb := by omega
      have HP6 := Hid.mk (HPd.out.grow A)
      have HI6 := Hid.mk (HId.out.grow A)
      have HF6 := Hid.mk (HFd.out.grow A)
      have HUB6 := Hid.mk (HUBd.out.bnd (fun b _ _ hlt => (A).block b hlt))
      have HFB6 := Hid.mk (HFBd.out.bnd (fun b _ _ hlt => (A).block b hlt))
      have HB6 := Hid.mk (HBd.out.grow A)
      have HC6 := Hid.mk (HCd.out.grow A)
      have HG6 := Hid.mk (gy_below HGd.out A)
      have hpl6 : pb < (wd.alloc (.cells #[.int .i64 0, .string ⟨#[]⟩, .string ⟨#[]⟩, .slice none 0 0, .slice none 0 0, .slice none 0 0] 31)).heap.size := HP6.out.lt
      clear HPd HId HFd HUBd HFBd HBd HCd HGd hpld
      refine hK.out _ _ (fun _ => ⟨HP6.out.c0, row_c5 HI6.out.1⟩) (fun _ => ?_)
      clear hK K
      clear A
      generalize wd.heap.size = lb at *
      generalize wd.alloc (.cells #[.int .i64 0, .string ⟨#[]⟩, .string ⟨#[]⟩, .slice none 0 0, .slice none 0 0, .slice none 0 0] 31) = w6 at *
      refine wpAnyF_ready (rs := [6]) (by kernel_rfl) (by simp) ?_
      refine AllReadyF.cons rfl (fun K hK => ?_) AllReadyF.nil
      rw [if_pos (by kernel_rfl)]
      go_wp2_with fail
      refine (l9Any_any cb v zs _ HC6.out).mono ?_
      rintro e w7 ⟨q, rfl, hdq, hyq, hC, hg⟩
      obtain ⟨qt, qx, qa, qb⟩ := q
      obtain ⟨xo, xn, xc, rfl⟩ : ∃ o n c, qx = .slice o n c := by obtain ⟨o, c, h, -⟩ := hyq.1.len; exact ⟨_, _, _, h⟩
      obtain ⟨yo, yn, yc, rfl⟩ : ∃ o n c, qa = .slice o n c := by obtain ⟨o, c, h, -⟩ := hyq.2.1.len; exact ⟨_, _, _, h⟩
      obtain ⟨zo, zn, zc, rfl⟩ : ∃ o n c, qb = .slice o n c := by obtain ⟨o, c, h, -⟩ := hyq.2.2.len; exact ⟨_, _, _, h⟩
      simp only at hdq
      have HDQ := Hid.mk hdq
      have hzq := hg.size
      clear hdq
      have HQ7 : Hid (El w7 (nf w7 (pb + 1)) qt.x (.slice xo xn xc) ∧ Sl w7 (nf w7 (pb + 1)) qt.a (.slice yo yn yc) ∧ Sl w7 (nf w7 (pb + 1)) qt.b (.slice zo zn zc)) := ⟨hyq.1.imp fun _ hb _ => ⟨by have := hb.1.1; omega, hb.1.2⟩, hyq.2.1.imp fun _ hb _ => ⟨by have := hb.1.1; omega, hb.1.2⟩, hyq.2.2.imp fun _ hb _ => ⟨by have := hb.1.1; omega, hb.1.2⟩⟩
      clear hyq
      have HN7 := Hid.mk ((hg.block lb hlb6 (by intro e; simp at e; omega)).trans HN6.out)
      have hlb7 : lb < w7.heap.size := by have := hg.size; omega
      clear HN6 hlb6
      have HP7 := Hid.mk (HP6.out.row hg (fun g e => by cases e; exact hpc.symm))
      have HI7 := Hid.mk (HI6.out.by hg (by omega))
      have HF7 := Hid.mk (HF6.out.keep hg (fun g e => by cases e; exact .inl (by omega)))
      have HUB7 := Hid.mk (HUB6.out.bnd (bnd_of hg (fun g e => by cases e; exact .inl (by omega))))
      have HFB7 := Hid.mk (HFB6.out.bnd (bnd_of hg (fun g e => by cases e; exact .inl (by omega))))
      have HB7 := Hid.mk (HB6.out.row hg (fun g e => by cases e; exact fun e => HNE.out e.symm))
      have HC7 := Hid.mk hC
      have HG7 := Hid.mk (grownBy_trans HG6.out hg)
      have hpl7 : pb < w7.heap.size := HP7.out.lt
      clear hg hC HP6 HI6 HF6 HUB6 HFB6 HB6 HC6 HG6 hpl6
      refine hK.out _ _ (fun _ => ⟨HP7.out.c0, row_c5 HI7.out.1⟩) (fun _ => ?_)
      clear hK K
      refine wpAnyF_ready (rs := [9]) (by kernel_rfl) (by simp) ?_
      refine AllReadyF.cons rfl (fun K hK => ?_) AllReadyF.nil
      rw [if_pos (by kernel_rfl)]
      obtain ⟨M, eM, hown, hels, hrow, hMl⟩ := HI7.out.rowA
      have hap := HAP.out
      simp only at eM hown hels hrow hap
      have han := own_len hown
      subst han
      refine wp_append_zz (.tmp 24) (.tmp 28) rfl n1 g (.slice ao M.length ac) M rfl hown hels lb rfl HN7.out (by omega) (by omega) ?_
      rintro V' wZ hZ hEs hgZ hvZ
      obtain ⟨hb, cz, hV⟩ := own_some hZ (by simp)
      obtain ⟨nz, hnz⟩ : ∃ n, (M ++ [zY]).length = n := ⟨_, rfl⟩
      rw [hnz] at hV
      subst hV
      have hnz2 : Hid (nz = M.length + 1) := by refine Hid.mk ?_; rw [← hnz]; simp
      replace hnz := Hid.mk hnz
      obtain ⟨hb1, hb2⟩ := World.ownsRow.lt hZ hb rfl
      have hbA : (∃ k, (Value.slice ao M.length ac).ownBlock = some k ∧ hb = k) ∨ hb = w7.heap.size := by
       rcases hvZ with h | h
       ·exact .inl ⟨hb, h.symm, rfl⟩
       ·exact .inr (by simpa [Value.ownBlock] using h)
      have hbg : hb ≠ g := by
       rcases hbA with ⟨k, h, rfl⟩ | h
       ·exact (hrow _ h).2.1
       ·omega
      have hbp : hb ≠ pb := by
       rcases hbA with ⟨k, h, rfl⟩ | h
       ·have := hap _ h; omega
       ·omega
      have hbc : hb ≠ cb := by omega
      have HRW : Hid (wZ.ownsRow n1 59 6 (.slice (some ⟨g, 0, none⟩) nU cap) (⟨ur, ux, .slice ao M.length ac⟩ :: us).length (ruCells (⟨ur, ux, .slice ao M.length ac⟩ :: us))) := World.ownsRow.kept HI7.out.1 hgZ (.inr (fun e => (hrow g e.symm).2.1 rfl))
      have HKZ : Hid (∀ b, n1 ≤ b → b < w7.heap.size → some b ≠ some g → some b ≠ (Value.slice ao M.length ac).ownBlock → wZ.heap[b]? = w7.heap[b]?) := fun b _ hlt _ hne => hgZ.block b hlt hne
      have HZZ := Hid.mk hZ
      have HES := Hid.mk hEs
      have HPZ := Hid.mk (HP7.out.row hgZ (fun x e => by have := hap x e; omega))
      have HFZZ := Hid.mk (HF7.out.keep hgZ (fun x e => .inr (by have := (hrow x e).1; omega)))
      have HBZ := Hid.mk (HB7.out.row hgZ (fun x e => by have := (hrow x e).1; omega))
      have HCZ := Hid.mk (HC7.out.row hgZ (fun x e => by have := (hrow x e).1; exact ⟨by omega, fun hz k hk => by have := HV.out hz k hk; omega⟩))
      have HGZ := Hid.mk (gy_row HG7.out hgZ (fun x e => by have := (hrow x e).1; omega))
      have hszZ := hgZ.size
      have HQZ : Hid (RowEls wZ n1 g (some hb) ⟨qt, .slice xo xn xc, .slice yo yn yc, .slice zo zn zc⟩) := by
       have hi : ∀ b, nf w7 (pb + 1) b → (nf w7 n1 b ∧ some b ≠ some g) ∧ some b ≠ (Value.slice ao M.length ac).ownBlock := fun b hb => ⟨⟨⟨by have := hb.1; omega, hb.2⟩, by have := hb.1; simp; omega⟩, fun e => by have := hap b e.symm; have := hb.1; omega⟩
       have h1 : RowEls w7 n1 g (Value.slice ao M.length ac).ownBlock ⟨qt, .slice xo xn xc, .slice yo yn yc, .slice zo zn zc⟩ := ⟨⟨HQ7.out.1.imp fun b hb _ => hi b hb, HQ7.out.2.1.imp fun b hb _ => hi b hb, HQ7.out.2.2.imp fun b hb _ => hi b hb⟩, HDQ.out.1.sizes⟩
       refine h1.kept fun b _ hlt _ hne => ⟨hgZ.block b hlt hne, ?_⟩
       rcases hbA with ⟨k, h, rfl⟩ | h
       ·rw [← h]; exact hne
       ·intro e; simp at e; omega
      clear HQ7
      clear hZ hEs hgZ hvZ hown hels HN7 hlb7 HP7 HF7 HUB7 HFB7 HB7 HC7 HG7
      refine hK.out _ _ (fun _ => ⟨HPZ.out.c0, row_c5 HRW.out⟩) (fun _ => ?_)
      clear hK K
      refine wpAnyF_ready (rs := [10]) (by kernel_rfl) (by simp) ?_
      refine AllReadyF.cons rfl (fun K hK => ?_) AllReadyF.nil
      rw [if_pos (by kernel_rfl)]
      go_wp2_with fail
      refine hK.out _ _ (fun _ => ⟨HPZ.out.c0, row_c5 HRW.out⟩) (fun _ => ?_)
      clear hK K
      refine wpAnyF_ready (rs := [11]) (by kernel_rfl) (by simp) ?_
      refine AllReadyF.cons rfl (fun K hK => ?_) AllReadyF.nil
      rw [if_pos (by kernel_rfl)]
      go_wp2_with fail
      refine hK.out _ _ (fun _ => ⟨HPZ.out.c0, row_c5 HRW.out⟩) (fun _ => ?_)
      clear hK K
      refine wpAnyF_ready (rs := [12]) (by kernel_rfl) (by simp) ?_
      refine AllReadyF.cons rfl (fun K hK => ?_) AllReadyF.nil
      have r5 := row_c5 HRW.out
      have rf := frozen_of_own HRW.out
      rw [if_pos (by kernel_rfl)]
      go_wp2_with fail
      refine hK.out _ _ (fun h => absurd rfl h) (fun _ => ?_)
      clear hK K
      refine wpAnyF_done (by kernel_rfl) ?_ _
      clear r5 rf
      have G5 := gb_set wZ g 5 (.slice (some ⟨hb, 0, none⟩) nz cz)
      have HR1 : Hid ((wZ.setCell ⟨g, 5, none⟩ (.slice (some ⟨hb, 0, none⟩) nz cz)).ownsRow n1 59 6 (.slice (some ⟨g, 0, none⟩) nU cap) (⟨ur, ux, .slice ao M.length ac⟩ :: us).length (ruCells (⟨⟨ur.k, ur.p, ur.a ++ [qt]⟩, ux, .slice (some ⟨hb, 0, none⟩) nz cz⟩ :: us))) := by
       have h := HRW.out
       have hl : ((⟨ur, ux, .slice ao M.length ac⟩ :: us)).length = nU := hnU
       rw [hl] at h ⊢
       exact (World.ownsRow.stored h 5 (.slice (some ⟨hb, 0, none⟩) nz cz)).1
      have HZ1 := Hid.mk (World.ownsRow.kept HZZ.out G5 (.inr (by intro e; simp [Value.ownBlock] at e; omega)))
      have HE1 : Hid (∀ p ∈ M, RowEls (wZ.setCell ⟨g, 5, none⟩ (.slice (some ⟨hb, 0, none⟩) nz cz)) n1 g (some hb) p) := fun p hp => (HES.out p hp).kept fun b h0 hlt h1 hne => ⟨G5.block b hlt h1, hne⟩
      have HQ1 : Hid (RowEls (wZ.setCell ⟨g, 5, none⟩ (.slice (some ⟨hb, 0, none⟩) nz cz)) n1 g (some hb) ⟨qt, .slice xo xn xc, .slice yo yn yc, .slice zo zn zc⟩) := HQZ.out.kept fun b h0 hlt h1 hne => ⟨G5.block b hlt h1, hne⟩
      have HK1 : Hid (∀ b, n1 ≤ b → b < w7.heap.size → some b ≠ some g → some b ≠ (Value.slice ao M.length ac).ownBlock → (wZ.setCell ⟨g, 5, none⟩ (.slice (some ⟨hb, 0, none⟩) nz cz)).heap[b]? = w7.heap[b]?) := fun b h0 hlt h1 h2 => (G5.block b (by have := HGZ.out.size; omega) h1).trans (HKZ.out b h0 hlt h1 h2)
      have HP1 := Hid.mk (HPZ.out.row G5 (fun x e => by cases e; omega))
      have HF1 := Hid.mk (HFZZ.out.keep G5 (fun x e => by cases e; exact .inr (by omega)))
      have HB1 := Hid.mk (HBZ.out.row G5 (fun x e => by cases e; omega))
      have HC1 := Hid.mk (HCZ.out.row G5 (fun x e => by cases e; exact ⟨by omega, fun hz k hk => by have := HV.out hz k hk; omega⟩))
      have HG1 := Hid.mk (gy_far HGZ.out G5 (by omega))
      have hsE := G5.size
      clear HRW HKZ HZZ HES HQZ HPZ HFZZ HBZ HCZ HGZ G5
      go_upto_region 8 with fail
      generalize (wZ.setCell ⟨g, 5, none⟩ (.slice (some ⟨hb, 0, none⟩) nz cz)) = wE at *
      have hy1 : (M.length : Int) < (nz : Int) := by have := hnz2.out; omega
      have hy2 : M.length < nz := by have := hnz2.out; omega
      obtain ⟨z0, z1, z2, z3, z4, z5⟩ := row_lastc HZ1.out
      have zf := frozen_of_own HZ1.out
      go_wp2
      clear z0 z1 z2 z3 z4 z5 zf
      have G6 : wE.grownBy ((((((wE.setCell ⟨hb, M.length * 6, none⟩ (.int .i64 qt.k)).setCell ⟨hb, M.length * 6 + 1, none⟩ (.string qt.s)).setCell ⟨hb, M.length * 6 + 2, none⟩ (.string qt.t)).setCell ⟨hb, M.length * 6 + 3, none⟩ (.slice xo xn xc)).setCell ⟨hb, M.length * 6 + 4, none⟩ (.slice yo yn yc)).setCell ⟨hb, M.length * 6 + 5, none⟩ (.slice zo zn zc)) (some hb) := six6_by wE hb (M.length * 6) (.int .i64 qt.k) (.string qt.s) (.string qt.t) (.slice xo xn xc) (.slice yo yn yc) (.slice zo zn zc)
      have hrow6 : ((((((wE.setCell ⟨hb, M.length * 6, none⟩ (.int .i64 qt.k)).setCell ⟨hb, M.length * 6 + 1, none⟩ (.string qt.s)).setCell ⟨hb, M.length * 6 + 2, none⟩ (.string qt.t)).setCell ⟨hb, M.length * 6 + 3, none⟩ (.slice xo xn xc)).setCell ⟨hb, M.length * 6 + 4, none⟩ (.slice yo yn yc)).setCell ⟨hb, M.length * 6 + 5, none⟩ (.slice zo zn zc)).ownsRow n1 31 6 (.slice (some ⟨hb, 0, none⟩) nz cz) (M ++ [(⟨qt, .slice xo xn xc, .slice yo yn yc, .slice zo zn zc⟩ : Yv)]).length (stCells (M ++ [(⟨qt, .slice xo xn xc, .slice yo yn yc, .slice zo zn zc⟩ : Yv)])) := row_last (q := ⟨qt, .slice xo xn xc, .slice yo yn yc, .slice zo zn zc⟩) HZ1.out hnz.out
      have hsl : Sl ((((((wE.setCell ⟨hb, M.length * 6, none⟩ (.int .i64 qt.k)).setCell ⟨hb, M.length * 6 + 1, none⟩ (.string qt.s)).setCell ⟨hb, M.length * 6 + 2, none⟩ (.string qt.t)).setCell ⟨hb, M.length * 6 + 3, none⟩ (.slice xo xn xc)).setCell ⟨hb, M.length * 6 + 4, none⟩ (.slice yo yn yc)).setCell ⟨hb, M.length * 6 + 5, none⟩ (.slice zo zn zc)) (nf ((((((wE.setCell ⟨hb, M.length * 6, none⟩ (.int .i64 qt.k)).setCell ⟨hb, M.length * 6 + 1, none⟩ (.string qt.s)).setCell ⟨hb, M.length * 6 + 2, none⟩ (.string qt.t)).setCell ⟨hb, M.length * 6 + 3, none⟩ (.slice xo xn xc)).setCell ⟨hb, M.length * 6 + 4, none⟩ (.slice yo yn yc)).setCell ⟨hb, M.length * 6 + 5, none⟩ (.slice zo zn zc)) n1) (ur.a ++ [qt]) (.slice (some ⟨hb, 0, none⟩) nz cz) := by
       have hel : ∀ p, RowEls wE n1 g (some hb) p → (El ((((((wE.setCell ⟨hb, M.length * 6, none⟩ (.int .i64 qt.k)).setCell ⟨hb, M.length * 6 + 1, none⟩ (.string qt.s)).setCell ⟨hb, M.length * 6 + 2, none⟩ (.string qt.t)).setCell ⟨hb, M.length * 6 + 3, none⟩ (.slice xo xn xc)).setCell ⟨hb, M.length * 6 + 4, none⟩ (.slice yo yn yc)).setCell ⟨hb, M.length * 6 + 5, none⟩ (.slice zo zn zc)) (nf ((((((wE.setCell ⟨hb, M.length * 6, none⟩ (.int .i64 qt.k)).setCell ⟨hb, M.length * 6 + 1, none⟩ (.string qt.s)).setCell ⟨hb, M.length * 6 + 2, none⟩ (.string qt.t)).setCell ⟨hb, M.length * 6 + 3, none⟩ (.slice xo xn xc)).setCell ⟨hb, M.length * 6 + 4, none⟩ (.slice yo yn yc)).setCell ⟨hb, M.length * 6 + 5, none⟩ (.slice zo zn zc)) n1) p.t.x p.x ∧ Sl ((((((wE.setCell ⟨hb, M.length * 6, none⟩ (.int .i64 qt.k)).setCell ⟨hb, M.length * 6 + 1, none⟩ (.string qt.s)).setCell ⟨hb, M.length * 6 + 2, none⟩ (.string qt.t)).setCell ⟨hb, M.length * 6 + 3, none⟩ (.slice xo xn xc)).setCell ⟨hb, M.length * 6 + 4, none⟩ (.slice yo yn yc)).setCell ⟨hb, M.length * 6 + 5, none⟩ (.slice zo zn zc)) (nf ((((((wE.setCell ⟨hb, M.length * 6, none⟩ (.int .i64 qt.k)).setCell ⟨hb, M.length * 6 + 1, none⟩ (.string qt.s)).setCell ⟨hb, M.length * 6 + 2, none⟩ (.string qt.t)).setCell ⟨hb, M.length * 6 + 3, none⟩ (.slice xo xn xc)).setCell ⟨hb, M.length * 6 + 4, none⟩ (.slice yo yn yc)).setCell ⟨hb, M.length * 6 + 5, none⟩ (.slice zo zn zc)) n1) p.t.a p.a ∧ Sl ((((((wE.setCell ⟨hb, M.length * 6, none⟩ (.int .i64 qt.k)).setCell ⟨hb, M.length * 6 + 1, none⟩ (.string qt.s)).setCell ⟨hb, M.length * 6 + 2, none⟩ (.string qt.t)).setCell ⟨hb, M.length * 6 + 3, none⟩ (.slice xo xn xc)).setCell ⟨hb, M.length * 6 + 4, none⟩ (.slice yo yn yc)).setCell ⟨hb, M.length * 6 + 5, none⟩ (.slice zo zn zc)) (nf ((((((wE.setCell ⟨hb, M.length * 6, none⟩ (.int .i64 qt.k)).setCell ⟨hb, M.length * 6 + 1, none⟩ (.string qt.s)).setCell ⟨hb, M.length * 6 + 2, none⟩ (.string qt.t)).setCell ⟨hb, M.length * 6 + 3, none⟩ (.slice xo xn xc)).setCell ⟨hb, M.length * 6 + 4, none⟩ (.slice yo yn yc)).setCell ⟨hb, M.length * 6 + 5, none⟩ (.slice zo zn zc)) n1) p.t.b p.b) ∧ p.t.s.size ≤ 100 ∧ p.t.t.size ≤ 100 := fun p hp => by
        have h1 := hp.kept (w' := ((((((wE.setCell ⟨hb, M.length * 6, none⟩ (.int .i64 qt.k)).setCell ⟨hb, M.length * 6 + 1, none⟩ (.string qt.s)).setCell ⟨hb, M.length * 6 + 2, none⟩ (.string qt.t)).setCell ⟨hb, M.length * 6 + 3, none⟩ (.slice xo xn xc)).setCell ⟨hb, M.length * 6 + 4, none⟩ (.slice yo yn yc)).setCell ⟨hb, M.length * 6 + 5, none⟩ (.slice zo zn zc))) (ob' := some hb) (fun b _ hlt _ hne => ⟨G6.block b hlt hne, hne⟩)
        exact ⟨⟨h1.1.1.imp fun _ hb _ => hb.1.1, h1.1.2.1.imp fun _ hb _ => hb.1.1, h1.1.2.2.imp fun _ hb _ => hb.1.1⟩, h1.2⟩
       have h2 := sl_of_row (D := nf ((((((wE.setCell ⟨hb, M.length * 6, none⟩ (.int .i64 qt.k)).setCell ⟨hb, M.length * 6 + 1, none⟩ (.string qt.s)).setCell ⟨hb, M.length * 6 + 2, none⟩ (.string qt.t)).setCell ⟨hb, M.length * 6 + 3, none⟩ (.slice xo xn xc)).setCell ⟨hb, M.length * 6 + 4, none⟩ (.slice yo yn yc)).setCell ⟨hb, M.length * 6 + 5, none⟩ (.slice zo zn zc)) n1) hrow6 (fun k _ hn => hn) (fun p hp => by
        rcases List.mem_append.1 hp with hp | hp
        ·exact hel p (HE1.out p hp)
        ·obtain rfl := List.mem_singleton.1 hp
         exact hel _ HQ1.out)
       rw [List.map_append, eM] at h2
       exact h2
      have hrr := World.ownsRow.kept HR1.out G6 (.inr (by intro e; simp [Value.ownBlock] at e; omega))
      have hul := PgI.fin HI7.out hnU hrr (fun b h0 hlt h1 h2 => (G6.block b (by omega) (by
       intro e
       simp at e
       rcases hbA with ⟨k, h, h'⟩ | h
       ·exact h2 (by rw [h, e, h'])
       ·omega)).trans (HK1.out b h0 hlt h1 h2)) hsl
      have HF9 := HF1.out.keep G6 (fun x e => by cases e; exact .inr (by omega))
      have HR7 : Hid (PgR ((((((wE.setCell ⟨hb, M.length * 6, none⟩ (.int .i64 qt.k)).setCell ⟨hb, M.length * 6 + 1, none⟩ (.string qt.s)).setCell ⟨hb, M.length * 6 + 2, none⟩ (.string qt.t)).setCell ⟨hb, M.length * 6 + 3, none⟩ (.slice xo xn xc)).setCell ⟨hb, M.length * 6 + 4, none⟩ (.slice yo yn yc)).setCell ⟨hb, M.length * 6 + 5, none⟩ (.slice zo zn zc)) (w.heap.size + 1) (.slice (some ⟨g, 0, none⟩) nU cap) (.slice (some ⟨fg, 0, none⟩) 2 fc)) := pgR_of (hul.imp fun _ hb _ => ⟨by have := hb.1; omega, hb.2⟩) (HF9.fl.imp fun _ hb _ => ⟨by have := hb.1.1; omega, hb.1.2⟩) (fun r hr => by
       have hz := HUZ.out
       simp only [List.map_cons, List.mem_cons] at hr hz
       rcases hr with rfl | hr
       ·have h1 := hz ur (.inl rfl)
        have h2 := HDQ.out.2
        simp only [Ru.sz, szy_app, szy] at *
        omega
       ·exact Nat.le_trans (hz r (.inr hr)) (by omega)) (fun f hf => Nat.le_trans (HFZ.out f hf) (by omega)) (by have := HUL.out; simpa using this) (by have := HFL.out; omega)
      have HP9 := Hid.mk (HP1.out.row G6 (fun x e => by cases e; exact hbp))
      have HB9 := Hid.mk (HB1.out.row G6 (fun x e => by cases e; omega))
      have HC9 := Hid.mk (HC1.out.row G6 (fun x e => by cases e; exact ⟨hbc, fun hz k hk => by have := HV.out hz k hk; omega⟩))
      have HG9 := Hid.mk (gy_far HG1.out G6 (by omega))
      clear hul HF9 G6 hrr hsl hrow6 HR1 HK1 HZ1 HE1 HQ1 HP1 HF1 HB1 HC1 HG1 HI7
      go_meet
      case rel => exact ⟨(.slice (some ⟨g, 0, none⟩) nU cap), (.slice (some ⟨fg, 0, none⟩) 2 fc), HR7, HP9, HB9, HC9, HG9⟩
    | false =>
     have HPd := Hid.mk (HP5b.out.grow (drewB _ w5b))
     have HId := Hid.mk (HI5b.out.grow (drewB _ w5b))
     have HFd := Hid.mk (HF5b.out.grow (drewB _ w5b))
     have HUBd := Hid.mk (HUB5b.out.bnd (fun b _ _ hlt => (drewB _ w5b).block b hlt))
     have HFBd := Hid.mk (HFB5b.out.bnd (fun b _ _ hlt => (drewB _ w5b).block b hlt))
     have HBd := Hid.mk (HB5b.out.grow (drewB _ w5b))
     have HCd := Hid.mk (HC5b.out.grow (drewB _ w5b))
     have HGd := Hid.mk (gy_below HG5b.out (drewB _ w5b))
     have hpld : pb < w5b.drew.heap.size := hpl5b
     clear HP5b HI5b HF5b HUB5b HFB5b HB5b HC5b HG5b hpl5b
     go_wp2_with fail
     have r5 := (HId.out.cells hnU).2.2.2.2.2.1
     have hn1' : 0 < nU := by rw [← hnU]; simp
     have hn1 : (0 : Int) < (nU : Int) := by omega
     refine wp_region_F (f := 13) (S := fun w' => w'.cell? ⟨pb, 0, none⟩ = some (.slice (some ⟨g, 0, none⟩) nU cap) ∧ w'.cell? ⟨g, 5, none⟩ = some (.slice ao an ac)) (by kernel_rfl) ?_
     generalize w5b.drew = wd at *
     refine takeF (i := 0) (v := .pointer (some ⟨pb, 0, none⟩)) (some 33) rfl rfl (by kernel_rfl) (by kernel_rfl) (by kernel_rfl) (by kernel_rfl) rfl (fun _ _ _ h => h) (Or.inl ⟨by kernel_rfl, fun w' hw => ?_⟩) ⟨HPd.out.c0, r5⟩ ?_
     ·kernel_rfl
     simp only [Act.put, List.setIfInBounds_toArray]
     refine takeF (i := 1) (v := (.slice (some ⟨g, 0, none⟩) nU cap)) (some 34) rfl rfl (by kernel_rfl) (by kernel_rfl) (by kernel_rfl) (by kernel_rfl) rfl (fun _ _ _ h => h) (Or.inl ⟨by kernel_rfl, fun w' hw => ?_⟩) ⟨HPd.out.c0, r5⟩ ?_
     ·have y := hw.1; go_simp
     simp only [Act.put, List.setIfInBounds_toArray]
     refine takeF (i := 2) (v := .pointer (some ⟨pb, 0, none⟩)) (some 35) rfl rfl (by kernel_rfl) (by kernel_rfl) (by kernel_rfl) (by kernel_rfl) rfl (fun _ _ _ h => h) (Or.inl ⟨by kernel_rfl, fun w' hw => ?_⟩) ⟨HPd.out.c0, r5⟩ ?_
     ·kernel_rfl
     simp only [Act.put, List.setIfInBounds_toArray]
     refine takeF (i := 3) (v := (.slice (some ⟨g, 0, none⟩) nU cap)) (some 36) rfl rfl (by kernel_rfl) (by kernel_rfl) (by kernel_rfl) (by kernel_rfl) rfl (fun _ _ _ h => h) (Or.inl ⟨by kernel_rfl, fun w' hw => ?_⟩) ⟨HPd.out.c0, r5⟩ ?_
     ·have y := hw.1; go_simp
     simp only [Act.put, List.setIfInBounds_toArray]
     refine takeF (i := 4) (v := .pointer (some ⟨g, 0, none⟩)) (some 37) rfl rfl (by kernel_rfl) (by kernel_rfl) (by kernel_rfl) (by kernel_rfl) rfl (fun _ _ _ h => h) (Or.inl ⟨by kernel_rfl, fun w' hw => ?_⟩) ⟨HPd.out.c0, r5⟩ ?_
     ·go_simp
     simp only [Act.put, List.setIfInBounds_toArray]
     refine takeF (i := 5) (v := .pointer (some ⟨g, 5, none⟩)) (some 38) rfl rfl (by kernel_rfl) (by kernel_rfl) (by kernel_rfl) (by kernel_rfl) rfl (fun _ _ _ h => h) (Or.inl ⟨by kernel_rfl, fun w' hw => ?_⟩) ⟨HPd.out.c0, r5⟩ ?_
     ·first | kernel_rfl | go_simp
     simp only [Act.put, List.setIfInBounds_toArray]
     refine takeF (i := 6) (v := .slice ao an ac) (some 39) rfl rfl (by kernel_rfl) (by kernel_rfl) (by kernel_rfl) (by kernel_rfl) rfl (fun _ _ _ h => h) (Or.inl ⟨by kernel_rfl, fun w' hw => ?_⟩) ⟨HPd.out.c0, r5⟩ ?_
     ·have y := hw.2; go_simp
     simp only [Act.put, List.setIfInBounds_toArray]
     refine takeF (i := 7) (v := .pointer (some ⟨cb, 0, none⟩)) (some 40) rfl rfl (by kernel_rfl) (by kernel_rfl) (by kernel_rfl) (by kernel_rfl) rfl (fun _ _ _ h => h) (Or.inl ⟨by kernel_rfl, fun w' hw => ?_⟩) ⟨HPd.out.c0, r5⟩ ?_
     ·kernel_rfl
     simp only [Act.put, List.setIfInBounds_toArray]
     refine wpAnyF_ready (rs := [8]) (by kernel_rfl) (by simp) ?_
     refine AllReadyF.cons rfl (fun K hK => ?_) AllReadyF.nil
     rw [if_pos (by kernel_rfl)]
     go_wp2_with fail
     refine (l9Any_any cb v zs _ HCd.out).mono ?_
     rintro e w6 ⟨q, rfl, hdq, hyq, hC, hg⟩
     obtain ⟨qt, qx, qa, qb⟩ := q
     obtain ⟨xo, xn, xc, rfl⟩ : ∃ o n c, qx = .slice o n c := by obtain ⟨o, c, h, -⟩ := hyq.1.len; exact ⟨_, _, _, h⟩
     obtain ⟨yo, yn, yc, rfl⟩ : ∃ o n c, qa = .slice o n c := by obtain ⟨o, c, h, -⟩ := hyq.2.1.len; exact ⟨_, _, _, h⟩
     obtain ⟨zo, zn, zc, rfl⟩ : ∃ o n c, qb = .slice o n c := by obtain ⟨o, c, h, -⟩ := hyq.2.2.len; exact ⟨_, _, _, h⟩
     simp only at hdq
     have HDQ := Hid.mk hdq
     have hzq := hg.size
     clear hdq
     have HQ6 : Hid (El w6 (nf w6 (wd.heap.size + 1)) qt.x (.slice xo xn xc) ∧ Sl w6 (nf w6 (wd.heap.size + 1)) qt.a (.slice yo yn yc) ∧ Sl w6 (nf w6 (wd.heap.size + 1)) qt.b (.slice zo zn zc)) := ⟨hyq.1.imp fun _ hb _ => hb.1, hyq.2.1.imp fun _ hb _ => hb.1, hyq.2.2.imp fun _ hb _ => hb.1⟩
     clear hyq r5
     obtain ⟨sd, hsd1, hsd2⟩ : ∃ s, s = wd.heap.size ∧ pb < s := ⟨_, rfl, hpld⟩
     have HP6 := Hid.mk (HPd.out.row hg (fun g e => by cases e; exact hpc.symm))
     have HI6 := Hid.mk (HId.out.by hg (by omega))
     have HF6 := Hid.mk (HFd.out.keep hg (fun g e => by cases e; exact .inl (by omega)))
     have HUB6 := Hid.mk (HUBd.out.bnd (bnd_of hg (fun g e => by cases e; exact .inl (by omega))))
     have HFB6 := Hid.mk (HFBd.out.bnd (bnd_of hg (fun g e => by cases e; exact .inl (by omega))))
     have HB6 := Hid.mk (HBd.out.row hg (fun g e => by cases e; exact fun e => HNE.out e.symm))
     have HC6 := Hid.mk hC
     have HG6 := Hid.mk (grownBy_trans HGd.out hg)
     have hpl6 : pb < w6.heap.size := HP6.out.lt
     clear hg hC HPd HId HFd HUBd HFBd HBd HCd HGd hpld
     have hsd6 : sd ≤ w6.heap.size := by omega
     refine hK.out _ _ (fun _ => ⟨HP6.out.c0, (HI6.out.cells hnU).2.2.2.2.2.1⟩) (fun _ => ?_)
     clear hK K
     refine wpAnyF_ready (rs := [9]) (by kernel_rfl) (by simp) ?_
     refine AllReadyF.cons rfl (fun K hK => ?_) AllReadyF.nil
     rw [if_pos (by kernel_rfl)]
     go_wp2_with fail
     have A : Below w6.heap.size w6 (w6.alloc (.cells #[.int .i64 qt.k, .string qt.s, .string qt.t, .slice xo xn xc, .slice yo yn yc, .slice zo zn zc] 31)) := (Below.refl _ _).alloc (Nat.le_refl _) _
     have HN := Hid.mk (heap_alloc_new w6 (.cells #[.int .i64 qt.k, .string qt.s, .string qt.t, .slice xo xn xc, .slice yo yn yc, .slice zo zn zc] 31))
     have hlb : w6.heap.size < (w6.alloc (.cells #[.int .i64 qt.k, .string qt.s, .string qt.t, .slice xo xn xc, .slice yo yn yc, .slice zo zn zc] 31)).heap.size := (Array.getElem?_eq_some_iff.1 (heap_alloc_new w6 (.cells #[.int .i64 qt.k, .string qt.s, .string qt.t, .slice xo xn xc, .slice yo yn yc, .slice zo zn zc] 31))).1
     have HQ7 := Hid.mk (And.intro (HQ6.out.1.nfgrow A) (And.intro (HQ6.out.2.1.nfgrow A) (HQ6.out.2.2.nfgrow A)))
     have HP7 := Hid.mk (HP6.out.grow A)
     have HI7 := Hid.mk (HI6.out.grow A)
     have HF7 := Hid.mk (HF6.out.grow A)
     have HUB7 := Hid.mk (HUB6.out.bnd (fun b _ _ hlt => (A).block b hlt))
     have HFB7 := Hid.mk (HFB6.out.bnd (fun b _ _ hlt => (A).block b hlt))
     have HB7 := Hid.mk (HB6.out.grow A)
     have HC7 := Hid.mk (HC6.out.grow A)
     have HG7 := Hid.mk (gy_below HG6.out A)
     have hpl7 : pb < (w6.alloc (.cells #[.int .i64 qt.k, .string qt.s, .string qt.t, .slice xo xn xc, .slice yo yn yc, .slice zo zn zc] 31)).heap.size := HP7.out.lt
     clear HP6 HI6 HF6 HUB6 HFB6 HB6 HC6 HG6 hpl6
     refine hK.out _ _ (fun _ => ⟨HP7.out.c0, (HI7.out.cells hnU).2.2.2.2.2.1⟩) (fun _ => ?_)
     clear hK K
     clear A HQ6
     generalize w6.heap.size = lb at *
     generalize w6.alloc (.cells #[.int .i64 qt.k, .string qt.s, .string qt.t, .slice xo xn xc, .slice yo yn yc, .slice zo zn zc] 31) = w7 at *
     obtain ⟨M, eM, hown, hels, hrow, hMl⟩ := HI7.out.rowA
     have hap := HAP.out
     simp only at eM hown hels hrow hap
     refine wpAnyF_ready (rs := [10]) (by kernel_rfl) (by simp) ?_
     refine AllReadyF.cons rfl (fun K hK => ?_) AllReadyF.nil
     rw [if_pos (by kernel_rfl)]
     refine wp_append_ye (.tmp 39) (.tmp 42) rfl n1 (wd.heap.size + 1) g (.slice ao an ac) M ⟨qt, .slice xo xn xc, .slice yo yn yc, .slice zo zn zc⟩ rfl hown hels (fun k hk => (hrow k hk).2.1) (by omega) lb rfl HN.out HQ7.out.1 HQ7.out.2.1 HQ7.out.2.2 HDQ.out.1.sizes (by omega) (by omega) (fun k hk => by have := hap k hk; omega) (by omega) (by omega) ?_
     rw [eM]
     rintro V' w8 hE8 hg8
     obtain ⟨wo, wnn, wc2, rfl⟩ : ∃ o n c, V' = .slice o n c := by obtain ⟨o, c, h, -⟩ := hE8.len; exact ⟨_, _, _, h⟩
     have HP8 := Hid.mk (HP7.out.row hg8 (fun x e => by have := hap x e; omega))
     have r0 := (World.ownsRow.kept HI7.out.1 hg8 (.inr (fun e => (hrow g e.symm).2.1 rfl))).cells (g := g) rfl 5 _ rfl
     have rf := frozen_of_own (World.ownsRow.kept HI7.out.1 hg8 (.inr (fun e => (hrow g e.symm).2.1 rfl)))
     simp only [Addr.add_lit, Nat.zero_add] at r0
     refine hK.out _ _ (fun _ => ⟨HP8.out.c0, r0⟩) (fun _ => ?_)
     clear hK K
     refine wpAnyF_ready (rs := [11]) (by kernel_rfl) (by simp) ?_
     refine AllReadyF.cons rfl (fun K hK => ?_) AllReadyF.nil
     rw [if_pos (by kernel_rfl)]
     go_wp2_with fail
     refine hK.out _ _ (fun _ => ⟨HP8.out.c0, r0⟩) (fun _ => ?_)
     clear hK K
     refine wpAnyF_ready (rs := [12]) (by kernel_rfl) (by simp) ?_
     refine AllReadyF.cons rfl (fun K hK => ?_) AllReadyF.nil
     rw [if_pos (by kernel_rfl)]
     go_wp2_with fail
     refine hK.out _ _ (fun _ => ⟨HP8.out.c0, r0⟩) (fun _ => ?_)
     clear hK K
     refine wpAnyF_ready (rs := [13]) (by kernel_rfl) (by simp) ?_
     refine AllReadyF.cons rfl (fun K hK => ?_) AllReadyF.nil
     rw [if_pos (by kernel_rfl)]
     go_wp2_with fail
     refine hK.out _ _ (fun h => absurd rfl h) (fun _ => ?_)
     clear hK K
     refine wpAnyF_done (by kernel_rfl) ?_ _
     clear r0 rf
     have G9 := gb_set w8 g 5 (.slice wo wnn wc2)
     have hu9 := HI7.out.setA hnU hg8 hE8
     have HF9 := (HF7.out.keep hg8 (fun x e => .inr (by have := (hrow x e).1; omega))).keep G9 (fun x e => by cases e; exact .inr (by omega))
     have HR7 : Hid (PgR (w8.setCell ⟨g, 5, none⟩ (.slice wo wnn wc2)) (w.heap.size + 1) (.slice (some ⟨g, 0, none⟩) nU cap) (.slice (some ⟨fg, 0, none⟩) 2 fc)) := pgR_of (hu9.imp fun _ hb _ => ⟨by have := hb.1; omega, hb.2⟩) (HF9.fl.imp fun _ hb _ => ⟨by have := hb.1.1; omega, hb.1.2⟩) (fun r hr => by
      have hz := HUZ.out
      simp only [List.map_cons, List.mem_cons] at hr hz
      rcases hr with rfl | hr
      ·have h1 := hz ur (.inl rfl)
       have h2 := HDQ.out.2
       simp only [Ru.sz, szy_app, szy] at *
       omega
      ·exact Nat.le_trans (hz r (.inr hr)) (by omega)) (fun f hf => Nat.le_trans (HFZ.out f hf) (by omega)) (by have := HUL.out; simpa using this) (by have := HFL.out; omega)
     have HP9 := Hid.mk (HP8.out.row G9 (fun x e => by cases e; omega))
     have HB9 := Hid.mk ((HB7.out.row hg8 (fun x e => by have := (hrow x e).1; omega)).row G9 (fun x e => by cases e; omega))
     have HC9 := Hid.mk ((HC7.out.row hg8 (fun x e => by have := (hrow x e).1; exact ⟨by omega, fun hz k hk => by have := HV.out hz k hk; omega⟩)).row G9 (fun x e => by cases e; exact ⟨by omega, fun hz k hk => by have := HV.out hz k hk; omega⟩))
     have HG9 := Hid.mk (gy_far (gy_row HG7.out hg8 (fun x e => by have := (hrow x e).1; omega)) G9 (by omega))
     clear hu9 HF9 G9 HP7 HP8 HI7 HF7 HUB7 HFB7 HB7 HC7 HG7 hE8 hg8 hown hels hrow hap HQ7 HN
     go_wp2
     go_meet
     case rel => exact ⟨(.slice (some ⟨g, 0, none⟩) nU cap), (.slice (some ⟨fg, 0, none⟩) 2 fc), HR7, HP9, HB9, HC9, HG9⟩
  by_cases e2 : X = 2
  ·subst e2
   have HPd := Hid.mk (HP5.out.grow (drewB _ w5))
   have HId := Hid.mk (HI5.out.grow (drewB _ w5))
   have HFd := Hid.mk (HF5.out.grow (drewB _ w5))
   have HUBd := Hid.mk (HUB5.out.bnd (fun b _ _ hlt => (drewB _ w5).block b hlt))
   have HFBd := Hid.mk (HFB5.out.bnd (fun b _ _ hlt => (drewB _ w5).block b hlt))
   have HBd := Hid.mk (HB5.out.grow (drewB _ w5))
   have HCd := Hid.mk (HC5.out.grow (drewB _ w5))
   have HGd := Hid.mk (gy_below HG5.out (drewB _ w5))
   have hpld : pb < w5.drew.heap.size := hpl5
   clear HP5 HI5 HF5 HUB5 HFB5 HB5 HC5 HG5 hpl5
   go_wp2_with fail
   refine wp_region_F (f := 16) (S := fun w' => w'.cell? ⟨pb, 1, none⟩ = some (.slice (some ⟨fg, 0, none⟩) 2 fc)) (by kernel_rfl) ?_
   generalize w5.drew = wd at *
   refine takeF (i := 0) (v := .pointer (some ⟨pb, 1, none⟩)) (some 48) rfl rfl (by kernel_rfl) (by kernel_rfl) (by kernel_rfl) (by kernel_rfl) rfl (fun _ _ _ h => h) (Or.inl ⟨by kernel_rfl, fun w' hw => ?_⟩) HPd.out.c1 ?_
   ·kernel_rfl
   simp only [Act.put, List.setIfInBounds_toArray]
   refine takeF (i := 1) (v := (.slice (some ⟨fg, 0, none⟩) 2 fc)) (some 49) rfl rfl (by kernel_rfl) (by kernel_rfl) (by kernel_rfl) (by kernel_rfl) rfl (fun _ _ _ h => h) (Or.inl ⟨by kernel_rfl, fun w' hw => ?_⟩) HPd.out.c1 ?_
   ·have y := hw; go_simp
   simp only [Act.put, List.setIfInBounds_toArray]
   refine takeF (i := 2) (v := .pointer (some ⟨cb, 0, none⟩)) (some 50) rfl rfl (by kernel_rfl) (by kernel_rfl) (by kernel_rfl) (by kernel_rfl) rfl (fun _ _ _ h => h) (Or.inl ⟨by kernel_rfl, fun w' hw => ?_⟩) HPd.out.c1 ?_
   ·kernel_rfl
   simp only [Act.put, List.setIfInBounds_toArray]
   refine takeF (i := 5) (v := .pointer (some ⟨cb, 0, none⟩)) (some 53) rfl rfl (by kernel_rfl) (by kernel_rfl) (by kernel_rfl) (by kernel_rfl) rfl (fun _ _ _ h => h) (Or.inl ⟨by kernel_rfl, fun w' hw => ?_⟩) HPd.out.c1 ?_
   ·kernel_rfl
   simp only [Act.put, List.setIfInBounds_toArray]
   refine takeF (i := 8) (v := .pointer (some ⟨cb, 0, none⟩)) (some 56) rfl rfl (by kernel_rfl) (by kernel_rfl) (by kernel_rfl) (by kernel_rfl) rfl (fun _ _ _ h => h) (Or.inl ⟨by kernel_rfl, fun w' hw => ?_⟩) HPd.out.c1 ?_
   ·kernel_rfl
   simp only [Act.put, List.setIfInBounds_toArray]
   have Gr20 : Hid (wd.grownBy wd (some cb)) := World.grownBy.refl _ _
   have HX20 := HCd
   obtain ⟨sd, hsd20⟩ : ∃ s, s ≤ wd.heap.size ∧ pb < s := ⟨_, Nat.le_refl _, hpld⟩
   have hpsd := hsd20.2
   replace hsd20 := hsd20.1
   clear HCd hpld
   refine wpAnyF_ready (rs := [3, 6, 9]) (by kernel_rfl) (by simp) ?_
   refine AllReadyF.cons rfl (fun K hK => ?_) (AllReadyF.cons rfl (fun K hK => ?_) (AllReadyF.cons rfl (fun K hK => ?_) (AllReadyF.nil)))
   ·rw [if_pos (by kernel_rfl)]
    go_wp2_with fail
    have A : Below wd.heap.size wd (wd.alloc (.cells #[.string ⟨#[102]⟩, .string ⟨#[104]⟩, .string ⟨#[]⟩, .string ⟨#[112, 114, 105, 110, 116]⟩, .string ⟨#[116]⟩] 9)) := (Below.refl _ _).alloc (Nat.le_refl _) _
    have Gr21 := Hid.mk (gy_below Gr20.out A)
    have HX21 := Hid.mk (HX20.out.grow A)
    have hsd21 : sd ≤ (wd.alloc (.cells #[.string ⟨#[102]⟩, .string ⟨#[104]⟩, .string ⟨#[]⟩, .string ⟨#[112, 114, 105, 110, 116]⟩, .string ⟨#[116]⟩] 9)).heap.size := by have := A.size; omega
    have HS4_21 := Hid.mk (heap_alloc_new wd (.cells #[.string ⟨#[102]⟩, .string ⟨#[104]⟩, .string ⟨#[]⟩, .string ⟨#[112, 114, 105, 110, 116]⟩, .string ⟨#[116]⟩] 9))
    have hs4_21 : wd.heap.size < (wd.alloc (.cells #[.string ⟨#[102]⟩, .string ⟨#[104]⟩, .string ⟨#[]⟩, .string ⟨#[112, 114, 105, 110, 116]⟩, .string ⟨#[116]⟩] 9)).heap.size := (Array.getElem?_eq_some_iff.1 (heap_alloc_new wd (.cells #[.string ⟨#[102]⟩, .string ⟨#[104]⟩, .string ⟨#[]⟩, .string ⟨#[112, 114, 105, 110, 116]⟩, .string ⟨#[116]⟩] 9))).1
    have hnc4 : wd.heap.size ≠ cb := by have := HX20.out.lt; omega
    refine hK.out _ _ (fun _ => (HPd.out.row Gr21.out (fun g e => by cases e; exact hpc.symm)).c1) (fun _ => ?_)
    clear hK K
    clear A Gr20 HX20 hsd20
    generalize wd.heap.size = tb4 at *
    generalize wd.alloc (.cells #[.string ⟨#[102]⟩, .string ⟨#[104]⟩, .string ⟨#[]⟩, .string ⟨#[112, 114, 105, 110, 116]⟩, .string ⟨#[116]⟩] 9) = w21 at *
    refine wpAnyF_ready (rs := [4, 6, 9]) (by kernel_rfl) (by simp) ?_
    refine AllReadyF.cons rfl (fun K hK => ?_) (AllReadyF.cons rfl (fun K hK => ?_) (AllReadyF.cons rfl (fun K hK => ?_) (AllReadyF.nil)))
    ·rw [if_pos (by kernel_rfl)]
     go_wp2_with fail
     refine (l1Str_any cb tb4 5 v zs [⟨#[102]⟩, ⟨#[104]⟩, ⟨#[]⟩, ⟨#[112, 114, 105, 110, 116]⟩, ⟨#[116]⟩] _ HX21.out rfl (by omega) (by omega) HS4_21.out hnc4).mono ?_
     rintro e w22 ⟨y1, rfl, hm, hC, hg⟩
     have hy1 : y1.size ≤ 100 := by
      simp only [List.mem_cons, List.not_mem_nil, or_false] at hm
      rcases hm with h | h | h | h | h <;> subst h <;> decide
     have Gr22 := Hid.mk (grownBy_trans Gr21.out hg)
     have HX22 := Hid.mk hC
     have hsd22 : sd ≤ w22.heap.size := by have := hg.size; omega
     refine hK.out _ _ (fun _ => (HPd.out.row Gr22.out (fun g e => by cases e; exact hpc.symm)).c1) (fun _ => ?_)
     clear hK K
     clear hm hC hg Gr21 HX21 hsd21 HS4_21 hs4_21 hnc4
     refine wpAnyF_ready (rs := [6, 9]) (by kernel_rfl) (by simp) ?_
     refine AllReadyF.cons rfl (fun K hK => ?_) (AllReadyF.cons rfl (fun K hK => ?_) (AllReadyF.nil))
     ·rw [if_pos (by kernel_rfl)]
      go_wp2_with fail
      have A : Below w22.heap.size w22 (w22.alloc (.cells #[.string ⟨#[97]⟩, .string ⟨#[116]⟩, .string ⟨#[102]⟩] 9)) := (Below.refl _ _).alloc (Nat.le_refl _) _
      have Gr23 := Hid.mk (gy_below Gr22.out A)
      have HX23 := Hid.mk (HX22.out.grow A)
      have hsd23 : sd ≤ (w22.alloc (.cells #[.string ⟨#[97]⟩, .string ⟨#[116]⟩, .string ⟨#[102]⟩] 9)).heap.size := by have := A.size; omega
      have HS7_23 := Hid.mk (heap_alloc_new w22 (.cells #[.string ⟨#[97]⟩, .string ⟨#[116]⟩, .string ⟨#[102]⟩] 9))
      have hs7_23 : w22.heap.size < (w22.alloc (.cells #[.string ⟨#[97]⟩, .string ⟨#[116]⟩, .string ⟨#[102]⟩] 9)).heap.size := (Array.getElem?_eq_some_iff.1 (heap_alloc_new w22 (.cells #[.string ⟨#[97]⟩, .string ⟨#[116]⟩, .string ⟨#[102]⟩] 9))).1
      have hnc7 : w22.heap.size ≠ cb := by have := HX22.out.lt; omega
      refine hK.out _ _ (fun _ => (HPd.out.row Gr23.out (fun g e => by cases e; exact hpc.symm)).c1) (fun _ => ?_)
      clear hK K
      clear A Gr22 HX22 hsd22
      generalize w22.heap.size = tb7 at *
      generalize w22.alloc (.cells #[.string ⟨#[97]⟩, .string ⟨#[116]⟩, .string ⟨#[102]⟩] 9) = w23 at *
      refine wpAnyF_ready (rs := [7, 9]) (by kernel_rfl) (by simp) ?_
      refine AllReadyF.cons rfl (fun K hK => ?_) (AllReadyF.cons rfl (fun K hK => ?_) (AllReadyF.nil))
      ·rw [if_pos (by kernel_rfl)]
       go_wp2_with fail
       refine (l1Str_any cb tb7 3 v zs [⟨#[97]⟩, ⟨#[116]⟩, ⟨#[102]⟩] _ HX23.out rfl (by omega) (by omega) HS7_23.out hnc7).mono ?_
       rintro e w24 ⟨y2, rfl, hm, hC, hg⟩
       have hy2 : y2.size ≤ 100 := by
        simp only [List.mem_cons, List.not_mem_nil, or_false] at hm
        rcases hm with h | h | h <;> subst h <;> decide
       have Gr24 := Hid.mk (grownBy_trans Gr23.out hg)
       have HX24 := Hid.mk hC
       have hsd24 : sd ≤ w24.heap.size := by have := hg.size; omega
       refine hK.out _ _ (fun _ => (HPd.out.row Gr24.out (fun g e => by cases e; exact hpc.symm)).c1) (fun _ => ?_)
       clear hK K
       clear hm hC hg Gr23 HX23 hsd23 HS7_23 hs7_23 hnc7
       refine wpAnyF_ready (rs := [9]) (by kernel_rfl) (by simp) ?_
       refine AllReadyF.cons rfl (fun K hK => ?_) (AllReadyF.nil)
       rw [if_pos (by kernel_rfl)]
       go_wp2_with fail
       have A : Below w24.heap.size w24 (w24.alloc (.cells #[.string ⟨#[97]⟩, .string ⟨#[98]⟩] 9)) := (Below.refl _ _).alloc (Nat.le_refl _) _
       have Gr25 := Hid.mk (gy_below Gr24.out A)
       have HX25 := Hid.mk (HX24.out.grow A)
       have hsd25 : sd ≤ (w24.alloc (.cells #[.string ⟨#[97]⟩, .string ⟨#[98]⟩] 9)).heap.size := by have := A.size; omega
       have HS10_25 := Hid.mk (heap_alloc_new w24 (.cells #[.string ⟨#[97]⟩, .string ⟨#[98]⟩] 9))
       have hs10_25 : w24.heap.size < (w24.alloc (.cells #[.string ⟨#[97]⟩, .string ⟨#[98]⟩] 9)).heap.size := (Array.getElem?_eq_some_iff.1 (heap_alloc_new w24 (.cells #[.string ⟨#[97]⟩, .string ⟨#[98]⟩] 9))).1
       have hnc10 : w24.heap.size ≠ cb := by have := HX24.out.lt; omega
       refine hK.out _ _ (fun _ => (HPd.out.row Gr25.out (fun g e => by cases e; exact hpc.symm)).c1) (fun _ => ?_)
       clear hK K
       clear A Gr24 HX24 hsd24
       generalize w24.heap.size = tb10 at *
       generalize w24.alloc (.cells #[.string ⟨#[97]⟩, .string ⟨#[98]⟩] 9) = w25 at *
       refine wpAnyF_ready (rs := [10]) (by kernel_rfl) (by simp) ?_
       refine AllReadyF.cons rfl (fun K hK => ?_) (AllReadyF.nil)
       rw [if_pos (by kernel_rfl)]
       go_wp2_with fail
       refine (l1Str_any cb tb10 2 v zs [⟨#[97]⟩, ⟨#[98]⟩] _ HX25.out rfl (by omega) (by omega) HS10_25.out hnc10).mono ?_
       rintro e w26 ⟨y3, rfl, hm, hC, hg⟩
       have hy3 : y3.size ≤ 100 := by
        simp only [List.mem_cons, List.not_mem_nil, or_false] at hm
        rcases hm with h | h <;> subst h <;> decide
       have Gr26 := Hid.mk (grownBy_trans Gr25.out hg)
       have HX26 := Hid.mk hC
       have hsd26 : sd ≤ w26.heap.size := by have := hg.size; omega
       refine hK.out _ _ (fun _ => (HPd.out.row Gr26.out (fun g e => by cases e; exact hpc.symm)).c1) (fun _ => ?_)
       clear hK K
       clear hm hC hg Gr25 HX25 hsd25 HS10_25 hs10_25 hnc10
       refine wpAnyF_ready (rs := [11]) (by kernel_rfl) (by simp) ?_
       refine AllReadyF.cons rfl (fun K hK => ?_) AllReadyF.nil
       rw [if_pos (by kernel_rfl)]
       go_wp2_with fail
       have A : Below w26.heap.size w26 (w26.alloc (.cells #[.string y2, .string y3] 9)) := (Below.refl _ _).alloc (Nat.le_refl _) _
       have GrA := Hid.mk (gy_below Gr26.out A)
       have HXA := Hid.mk (HX26.out.grow A)
       have HTA := Hid.mk (heap_alloc_new w26 (.cells #[.string y2, .string y3] 9))
       have hta : w26.heap.size < (w26.alloc (.cells #[.string y2, .string y3] 9)).heap.size := (Array.getElem?_eq_some_iff.1 (heap_alloc_new w26 (.cells #[.string y2, .string y3] 9))).1
       refine hK.out _ _ (fun _ => (HPd.out.row GrA.out (fun g e => by cases e; exact hpc.symm)).c1) (fun _ => ?_)
       clear hK K
       clear A Gr26 HX26
       generalize w26.heap.size = t3 at *
       generalize w26.alloc (.cells #[.string y2, .string y3] 9) = wA at *
       refine wpAnyF_ready (rs := [12]) (by kernel_rfl) (by simp) ?_
       refine AllReadyF.cons rfl (fun K hK => ?_) AllReadyF.nil
       rw [if_pos (by kernel_rfl)]
       go_wp2_with fail
       refine hK.out _ _ (fun _ => (HPd.out.row GrA.out (fun g e => by cases e; exact hpc.symm)).c1) (fun _ => ?_)
       clear hK K
       refine wpAnyF_ready (rs := [13]) (by kernel_rfl) (by simp) ?_
       refine AllReadyF.cons rfl (fun K hK => ?_) AllReadyF.nil
       rw [if_pos (by kernel_rfl)]
       go_wp2_with fail
       have A : Below wA.heap.size wA (wA.alloc (.cells #[.string y1, .slice (some ⟨t3, 0, none⟩) 2 2, .slice none 0 0] 63)) := (Below.refl _ _).alloc (Nat.le_refl _) _
       have GrB := Hid.mk (gy_below GrA.out A)
       have HXB := Hid.mk (HXA.out.grow A)
       have HTB := Hid.mk ((A.block t3 hta).trans HTA.out)
       have HNB := Hid.mk (heap_alloc_new wA (.cells #[.string y1, .slice (some ⟨t3, 0, none⟩) 2 2, .slice none 0 0] 63))
       have ht3p : pb < t3 := by omega
       have hlb : wA.heap.size < (wA.alloc (.cells #[.string y1, .slice (some ⟨t3, 0, none⟩) 2 2, .slice none 0 0] 63)).heap.size := (Array.getElem?_eq_some_iff.1 (heap_alloc_new wA (.cells #[.string y1, .slice (some ⟨t3, 0, none⟩) 2 2, .slice none 0 0] 63))).1
       refine hK.out _ _ (fun _ => (HPd.out.row GrB.out (fun g e => by cases e; exact hpc.symm)).c1) (fun _ => ?_)
       clear hK K
       clear A GrA HXA HTA
       generalize wA.heap.size = lb at *
       generalize wA.alloc (.cells #[.string y1, .slice (some ⟨t3, 0, none⟩) 2 2, .slice none 0 0] 63) = wB at *
       have HFB2 := Hid.mk (HFd.out.keep GrB.out (fun x e => by cases e; exact .inl (by omega)))
       have htb3 : Tb wB (nf wB t3) (.slice (some ⟨t3, 0, none⟩) 2 2) [y2, y3] := tb_of (xs := [y2, y3]) HTB.out ⟨Nat.le_refl _, fun o => frozen_of_row _ t3 o _ _ HTB.out⟩ (by simp; exact ⟨hy2, hy3⟩) (by simp)
       have hFl2 : F.length ≤ 1000 := by have := HFL.out; simp at this; omega
       have hfgb : nb ≤ fg := (World.ownsRow.lt HFB2.out.1 fg rfl).1
       refine wpAnyF_ready (rs := [14]) (by kernel_rfl) (by simp) ?_
       refine AllReadyF.cons rfl (fun K hK => ?_) AllReadyF.nil
       rw [if_pos (by kernel_rfl)]
       refine wp_append_fe (.tmp 49) (.tmp 61) rfl nb t3 pb (.slice (some ⟨fg, 0, none⟩) 2 fc) F ⟨⟨y1, [y2, y3], []⟩, .slice (some ⟨t3, 0, none⟩) 2 2, .slice none 0 0⟩ rfl HFB2.out.1 (HFB2.out.rowF (by omega)) (fun k hk => by simp [Value.ownBlock] at hk; omega) (by omega) lb rfl HNB.out htb3 (Sl.zero _ _) hy1 (by omega) (by omega) (fun k hk => by simp [Value.ownBlock] at hk; omega) (by omega) hFl2 ?_
       rintro V' w14 hE14 hg14
       obtain ⟨wo, wnn, wc2, rfl⟩ : ∃ o n c, V' = .slice o n c := by obtain ⟨o, c, h, -⟩ := hE14.len; exact ⟨_, _, _, h⟩
       have HP14 := Hid.mk ((HPd.out.row GrB.out (fun g e => by cases e; exact hpc.symm)).row hg14 (fun x e => by simp [Value.ownBlock] at e; omega))
       refine hK.out _ _ (fun _ => HP14.out.c1) (fun _ => ?_)
       clear hK K
       refine wpAnyF_ready (rs := [15]) (by kernel_rfl) (by simp) ?_
       refine AllReadyF.cons rfl (fun K hK => ?_) AllReadyF.nil
       rw [if_pos (by kernel_rfl)]
       go_wp2_with fail
       refine hK.out _ _ (fun _ => HP14.out.c1) (fun _ => ?_)
       clear hK K
       refine wpAnyF_ready (rs := [16]) (by kernel_rfl) (by simp) ?_
       refine AllReadyF.cons rfl (fun K hK => ?_) AllReadyF.nil
       have z1 := HP14.out.c1
       have zf := HP14.out.fr
       rw [if_pos (by kernel_rfl)]
       go_wp2_with fail
       refine hK.out _ _ (fun h => absurd rfl h) (fun _ => ?_)
       clear hK K
       refine wpAnyF_done (by kernel_rfl) ?_ _
       clear z1 zf
       have G7 := gb_set w14 pb 1 (.slice wo wnn wc2)
       have hu7 := ((HUBd.out.bnd (bnd_of GrB.out (fun x e => by cases e; exact .inl (by omega)))).bnd (bnd_of hg14 (fun x e => by simp [Value.ownBlock] at e; omega))).bnd (bnd_of G7 (fun x e => by cases e; exact .inr (Nat.le_refl _)))
       have HR7 : Hid (PgR (w14.setCell ⟨pb, 1, none⟩ (.slice wo wnn wc2)) (w.heap.size + 1) (.slice (some ⟨g, 0, none⟩) nU cap) (.slice wo wnn wc2)) := pgR_of (hu7.imp fun _ hb _ => ⟨by have := hb.1.1; omega, hb.1.2⟩) ((hE14.nfe G7).imp fun _ hb _ => ⟨by have := hb.1; omega, hb.2⟩) (fun r hr => Nat.le_trans (HUZ.out r hr) (by omega)) (fun f hf => by
        rcases List.mem_append.1 hf with hf | hf
        ·exact Nat.le_trans (HFZ.out f hf) (by omega)
        ·obtain rfl := List.mem_singleton.1 hf
         simp only [Fu.sz, gsz, szy]
         omega) HUL.out (by have := HFL.out; simp at this ⊢; omega)
       have HP7 := Hid.mk (HP14.out.put1 (.slice wo wnn wc2))
       have HB7 := Hid.mk (((HBd.out.row GrB.out (fun g e => by cases e; exact fun e => HNE.out e.symm)).row hg14 (fun x e => by simp [Value.ownBlock] at e; omega)).row G7 (fun x e => by cases e; omega))
       have HC7 := Hid.mk ((HXB.out.row hg14 (fun x e => by simp [Value.ownBlock] at e; exact ⟨by omega, fun hz k hk => by have := HV.out hz k hk; omega⟩)).row G7 (fun x e => by cases e; exact ⟨hpc, fun hz k hk => by have := HV.out hz k hk; omega⟩))
       have HG7 := Hid.mk (gy_far (gy_row (grownBy_trans HGd.out GrB.out) hg14 (fun x e => by simp [Value.ownBlock] at e; omega)) G7 (by omega))
       clear hu7 G7 HP14 hE14 hg14 HXB GrB HNB HTB HFB2 htb3 HPd HId HFd HUBd HFBd HBd HGd
       go_wp2
       go_meet
       case rel => exact ⟨(.slice (some ⟨g, 0, none⟩) nU cap), (.slice wo wnn wc2), HR7, HP7, HB7, HC7, HG7⟩
      ·rw [if_pos (by kernel_rfl)]
       go_wp2_with fail
       have A : Below w23.heap.size w23 (w23.alloc (.cells #[.string ⟨#[97]⟩, .string ⟨#[98]⟩] 9)) := (Below.refl _ _).alloc (Nat.le_refl _) _
       have Gr24 := Hid.mk (gy_below Gr23.out A)
       have HX24 := Hid.mk (HX23.out.grow A)
       have hsd24 : sd ≤ (w23.alloc (.cells #[.string ⟨#[97]⟩, .string ⟨#[98]⟩] 9)).heap.size := by have := A.size; omega
       have HS10_24 := Hid.mk (heap_alloc_new w23 (.cells #[.string ⟨#[97]⟩, .string ⟨#[98]⟩] 9))
       have hs10_24 : w23.heap.size < (w23.alloc (.cells #[.string ⟨#[97]⟩, .string ⟨#[98]⟩] 9)).heap.size := (Array.getElem?_eq_some_iff.1 (heap_alloc_new w23 (.cells #[.string ⟨#[97]⟩, .string ⟨#[98]⟩] 9))).1
       have hnc10 : w23.heap.size ≠ cb := by have := HX23.out.lt; omega
       have HS7_24 := Hid.mk ((A.block tb7 hs7_23).trans HS7_23.out)
       have hs7_24 : tb7 < (w23.alloc (.cells #[.string ⟨#[97]⟩, .string ⟨#[98]⟩] 9)).heap.size := by have := A.size; omega
       refine hK.out _ _ (fun _ => (HPd.out.row Gr24.out (fun g e => by cases e; exact hpc.symm)).c1) (fun _ => ?_)
       clear hK K
       clear A Gr23 HX23 hsd23 HS7_23 hs7_23
       generalize w23.heap.size = tb10 at *
       generalize w23.alloc (.cells #[.string ⟨#[97]⟩, .string ⟨#[98]⟩] 9) = w24 at *
       refine wpAnyF_ready (rs := [7]) (by kernel_rfl) (by simp) ?_
       refine AllReadyF.cons rfl (fun K hK => ?_) (AllReadyF.nil)
       rw [if_pos (by kernel_rfl)]
       go_wp2_with fail
       refine (l1Str_any cb tb7 3 v zs [⟨#[97]⟩, ⟨#[116]⟩, ⟨#[102]⟩] _ HX24.out rfl (by omega) (by omega) HS7_24.out hnc7).mono ?_
       rintro e w25 ⟨y2, rfl, hm, hC, hg⟩
       have hy2 : y2.size ≤ 100 := by
        simp only [List.mem_cons, List.not_mem_nil, or_false] at hm
        rcases hm with h | h | h <;> subst h <;> decide
       have Gr25 := Hid.mk (grownBy_trans Gr24.out hg)
       have HX25 := Hid.mk hC
       have hsd25 : sd ≤ w25.heap.size := by have := hg.size; omega
       have HS10_25 := Hid.mk ((hg.block tb10 hs10_24 (by intro e; simp at e; omega)).trans HS10_24.out)
       have hs10_25 : tb10 < w25.heap.size := by have := hg.size; omega
       refine hK.out _ _ (fun _ => (HPd.out.row Gr25.out (fun g e => by cases e; exact hpc.symm)).c1) (fun _ => ?_)
       clear hK K
       clear hm hC hg Gr24 HX24 hsd24 HS7_24 hs7_24 hnc7 HS10_24 hs10_24
       refine wpAnyF_ready (rs := [10]) (by kernel_rfl) (by simp) ?_
       refine AllReadyF.cons rfl (fun K hK => ?_) (AllReadyF.nil)
       rw [if_pos (by kernel_rfl)]
       go_wp2_with fail
       refine (l1Str_any cb tb10 2 v zs [⟨#[97]⟩, ⟨#[98]⟩] _ HX25.out rfl (by omega) (by omega) HS10_25.out hnc10).mono ?_
       rintro e w26 ⟨y3, rfl, hm, hC, hg⟩
       have hy3 : y3.size ≤ 100 := by
        simp only [List.mem_cons, List.not_mem_nil, or_false] at hm
        rcases hm with h | h <;> subst h <;> decide
       have Gr26 := Hid.mk (grownBy_trans Gr25.out hg)
       have HX26 := Hid.mk hC
       have hsd26 : sd ≤ w26.heap.size := by have := hg.size; omega
       refine hK.out _ _ (fun _ => (HPd.out.row Gr26.out (fun g e => by cases e; exact hpc.symm)).c1) (fun _ => ?_)
       clear hK K
       clear hm hC hg Gr25 HX25 hsd25 HS10_25 hs10_25 hnc10
       refine wpAnyF_ready (rs := [11]) (by kernel_rfl) (by simp) ?_
       refine AllReadyF.cons rfl (fun K hK => ?_) AllReadyF.nil
       rw [if_pos (by kernel_rfl)]
       go_wp2_with fail
       have A : Below w26.heap.size w26 (w26.alloc (.cells #[.string y2, .string y3] 9)) := (Below.refl _ _).alloc (Nat.le_refl _) _
       have GrA := Hid.mk (gy_below Gr26.out A)
       have HXA := Hid.mk (HX26.out.grow A)
       have HTA := Hid.mk (heap_alloc_new w26 (.cells #[.string y2, .string y3] 9))
       have hta : w26.heap.size < (w26.alloc (.cells #[.string y2, .string y3] 9)).heap.size := (Array.getElem?_eq_some_iff.1 (heap_alloc_new w26 (.cells #[.string y2, .string y3] 9))).1
       refine hK.out _ _ (fun _ => (HPd.out.row GrA.out (fun g e => by cases e; exact hpc.symm)).c1) (fun _ => ?_)
       clear hK K
       clear A Gr26 HX26
       generalize w26.heap.size = t3 at *
       generalize w26.alloc (.cells #[.string y2, .string y3] 9) = wA at *
       refine wpAnyF_ready (rs := [12]) (by kernel_rfl) (by simp) ?_
       refine AllReadyF.cons rfl (fun K hK => ?_) AllReadyF.nil
       rw [if_pos (by kernel_rfl)]
       go_wp2_with fail
       refine hK.out _ _ (fun _ => (HPd.out.row GrA.out (fun g e => by cases e; exact hpc.symm)).c1) (fun _ => ?_)
       clear hK K
       refine wpAnyF_ready (rs := [13]) (by kernel_rfl) (by simp) ?_
       refine AllReadyF.cons rfl (fun K hK => ?_) AllReadyF.nil
       rw [if_pos (by kernel_rfl)]
       go_wp2_with fail
       have A : Below wA.heap.size wA (wA.alloc (.cells #[.string y1, .slice (some ⟨t3, 0, none⟩) 2 2, .slice none 0 0] 63)) := (Below.refl _ _).alloc (Nat.le_refl _) _
       have GrB := Hid.mk (gy_below GrA.out A)
       have HXB := Hid.mk (HXA.out.grow A)
       have HTB := Hid.mk ((A.block t3 hta).trans HTA.out)
       have HNB := Hid.mk (heap_alloc_new wA (.cells #[.string y1, .slice (some ⟨t3, 0, none⟩) 2 2, .slice none 0 0] 63))
       have ht3p : pb < t3 := by omega
       have hlb : wA.heap.size < (wA.alloc (.cells #[.string y1, .slice (some ⟨t3, 0, none⟩) 2 2, .slice none 0 0] 63)).heap.size := (Array.getElem?_eq_some_iff.1 (heap_alloc_new wA (.cells #[.string y1, .slice (some ⟨t3, 0, none⟩) 2 2, .slice none 0 0] 63))).1
       refine hK.out _ _ (fun _ => (HPd.out.row GrB.out (fun g e => by cases e; exact hpc.symm)).c1) (fun _ => ?_)
       clear hK K
       clear A GrA HXA HTA
       generalize wA.heap.size = lb at *
       generalize wA.alloc (.cells #[.string y1, .slice (some ⟨t3, 0, none⟩) 2 2, .slice none 0 0] 63) = wB at *
       have HFB2 := Hid.mk (HFd.out.keep GrB.out (fun x e => by cases e; exact .inl (by omega)))
       have htb3 : Tb wB (nf wB t3) (.slice (some ⟨t3, 0, none⟩) 2 2) [y2, y3] := tb_of (xs := [y2, y3]) HTB.out ⟨Nat.le_refl _, fun o => frozen_of_row _ t3 o _ _ HTB.out⟩ (by simp; exact ⟨hy2, hy3⟩) (by simp)
       have hFl2 : F.length ≤ 1000 := by have := HFL.out; simp at this; omega
       have hfgb : nb ≤ fg := (World.ownsRow.lt HFB2.out.1 fg rfl).1
       refine wpAnyF_ready (rs := [14]) (by kernel_rfl) (by simp) ?_
       refine AllReadyF.cons rfl (fun K hK => ?_) AllReadyF.nil
       rw [if_pos (by kernel_rfl)]
       refine wp_append_fe (.tmp 49) (.tmp 61) rfl nb t3 pb (.slice (some ⟨fg, 0, none⟩) 2 fc) F ⟨⟨y1, [y2, y3], []⟩, .slice (some ⟨t3, 0, none⟩) 2 2, .slice none 0 0⟩ rfl HFB2.out.1 (HFB2.out.rowF (by omega)) (fun k hk => by simp [Value.ownBlock] at hk; omega) (by omega) lb rfl HNB.out htb3 (Sl.zero _ _) hy1 (by omega) (by omega) (fun k hk => by simp [Value.ownBlock] at hk; omega) (by omega) hFl2 ?_
       rintro V' w14 hE14 hg14
       obtain ⟨wo, wnn, wc2, rfl⟩ : ∃ o n c, V' = .slice o n c := by obtain ⟨o, c, h, -⟩ := hE14.len; exact ⟨_, _, _, h⟩
       have HP14 := Hid.mk ((HPd.out.row GrB.out (fun g e => by cases e; exact hpc.symm)).row hg14 (fun x e => by simp [Value.ownBlock] at e; omega))
       refine hK.out _ _ (fun _ => HP14.out.c1) (fun _ => ?_)
       clear hK K
       refine wpAnyF_ready (rs := [15]) (by kernel_rfl) (by simp) ?_
       refine AllReadyF.cons rfl (fun K hK => ?_) AllReadyF.nil
       rw [if_pos (by kernel_rfl)]
       go_wp2_with fail
       refine hK.out _ _ (fun _ => HP14.out.c1) (fun _ => ?_)
       clear hK K
       refine wpAnyF_ready (rs := [16]) (by kernel_rfl) (by simp) ?_
       refine AllReadyF.cons rfl (fun K hK => ?_) AllReadyF.nil
       have z1 := HP14.out.c1
       have zf := HP14.out.fr
       rw [if_pos (by kernel_rfl)]
       go_wp2_with fail
       refine hK.out _ _ (fun h => absurd rfl h) (fun _ => ?_)
       clear hK K
       refine wpAnyF_done (by kernel_rfl) ?_ _
       clear z1 zf
       have G7 := gb_set w14 pb 1 (.slice wo wnn wc2)
       have hu7 := ((HUBd.out.bnd (bnd_of GrB.out (fun x e => by cases e; exact .inl (by omega)))).bnd (bnd_of hg14 (fun x e => by simp [Value.ownBlock] at e; omega))).bnd (bnd_of G7 (fun x e => by cases e; exact .inr (Nat.le_refl _)))
       have HR7 : Hid (PgR (w14.setCell ⟨pb, 1, none⟩ (.slice wo wnn wc2)) (w.heap.size + 1) (.slice (some ⟨g, 0, none⟩) nU cap) (.slice wo wnn wc2)) := pgR_of (hu7.imp fun _ hb _ => ⟨by have := hb.1.1; omega, hb.1.2⟩) ((hE14.nfe G7).imp fun _ hb _ => ⟨by have := hb.1; omega, hb.2⟩) (fun r hr => Nat.le_trans (HUZ.out r hr) (by omega)) (fun f hf => by
        rcases List.mem_append.1 hf with hf | hf
        ·exact Nat.le_trans (HFZ.out f hf) (by omega)
        ·obtain rfl := List.mem_singleton.1 hf
         simp only [Fu.sz, gsz, szy]
         omega) HUL.out (by have := HFL.out; simp at this ⊢; omega)
       have HP7 := Hid.mk (HP14.out.put1 (.slice wo wnn wc2))
       have HB7 := Hid.mk (((HBd.out.row GrB.out (fun g e => by cases e; exact fun e => HNE.out e.symm)).row hg14 (fun x e => by simp [Value.ownBlock] at e; omega)).row G7 (fun x e => by cases e; omega))
       have HC7 := Hid.mk ((HXB.out.row hg14 (fun x e => by simp [Value.ownBlock] at e; exact ⟨by omega, fun hz k hk => by have := HV.out hz k hk; omega⟩)).row G7 (fun x e => by cases e; exact ⟨hpc, fun hz k hk => by have := HV.out hz k hk; omega⟩))
       have HG7 := Hid.mk (gy_far (gy_row (grownBy_trans HGd.out GrB.out) hg14 (fun x e => by simp [Value.ownBlock] at e; omega)) G7 (by omega))
       clear hu7 G7 HP14 hE14 hg14 HXB GrB HNB HTB HFB2 htb3 HPd HId HFd HUBd HFBd HBd HGd
       go_wp2
       go_meet
       case rel => exact ⟨(.slice (some ⟨g, 0, none⟩) nU cap), (.slice wo wnn wc2), HR7, HP7, HB7, HC7, HG7⟩
     ·rw [if_pos (by kernel_rfl)]
      go_wp2_with fail
      have A : Below w22.heap.size w22 (w22.alloc (.cells #[.string ⟨#[97]⟩, .string ⟨#[98]⟩] 9)) := (Below.refl _ _).alloc (Nat.le_refl _) _
      have Gr23 := Hid.mk (gy_below Gr22.out A)
      have HX23 := Hid.mk (HX22.out.grow A)
      have hsd23 : sd ≤ (w22.alloc (.cells #[.string ⟨#[97]⟩, .string ⟨#[98]⟩] 9)).heap.size := by have := A.size; omega
      have HS10_23 := Hid.mk (heap_alloc_new w22 (.cells #[.string ⟨#[97]⟩, .string ⟨#[98]⟩] 9))
      have hs10_23 : w22.heap.size < (w22.alloc (.cells #[.string ⟨#[97]⟩, .string ⟨#[98]⟩] 9)).heap.size := (Array.getElem?_eq_some_iff.1 (heap_alloc_new w22 (.cells #[.string ⟨#[97]⟩, .string ⟨#[98]⟩] 9))).1
      have hnc10 : w22.heap.size ≠ cb := by have := HX22.out.lt; omega
      refine hK.out _ _ (fun _ => (HPd.out.row Gr23.out (fun g e => by cases e; exact hpc.symm)).c1) (fun _ => ?_)
      clear hK K
      clear A Gr22 HX22 hsd22
      generalize w22.heap.size = tb10 at *
      generalize w22.alloc (.cells #[.string ⟨#[97]⟩, .string ⟨#[98]⟩] 9) = w23 at *
      refine wpAnyF_ready (rs := [6]) (by kernel_rfl) (by simp) ?_
      refine AllReadyF.cons rfl (fun K hK => ?_) (AllReadyF.nil)
      rw [if_pos (by kernel_rfl)]
      go_wp2_with fail
      have A : Below w23.heap.size w23 (w23.alloc (.cells #[.string ⟨#[97]⟩, .string ⟨#[116]⟩, .string ⟨#[102]⟩] 9)) := (Below.refl _ _).alloc (Nat.le_refl _) _
      have Gr24 := Hid.mk (gy_below Gr23.out A)
      have HX24 := Hid.mk (HX23.out.grow A)
      have hsd24 : sd ≤ (w23.alloc (.cells #[.string ⟨#[97]⟩, .string ⟨#[116]⟩, .string ⟨#[102]⟩] 9)).heap.size := by have := A.size; omega
      have HS7_24 := Hid.mk (heap_alloc_new w23 (.cells #[.string ⟨#[97]⟩, .string ⟨#[116]⟩, .string ⟨#[102]⟩] 9))
      have hs7_24 : w23.heap.size < (w23.alloc (.cells #[.string ⟨#[97]⟩, .string ⟨#[116]⟩, .string ⟨#[102]⟩] 9)).heap.size := (Array.getElem?_eq_some_iff.1 (heap_alloc_new w23 (.cells #[.string ⟨#[97]⟩, .string ⟨#[116]⟩, .string ⟨#[102]⟩] 9))).1
      have hnc7 : w23.heap.size ≠ cb := by have := HX23.out.lt; omega
      have HS10_24 := Hid.mk ((A.block tb10 hs10_23).trans HS10_23.out)
      have hs10_24 : tb10 < (w23.alloc (.cells #[.string ⟨#[97]⟩, .string ⟨#[116]⟩, .string ⟨#[102]⟩] 9)).heap.size := by have := A.size; omega
      refine hK.out _ _ (fun _ => (HPd.out.row Gr24.out (fun g e => by cases e; exact hpc.symm)).c1) (fun _ => ?_)
      clear hK K
      clear A Gr23 HX23 hsd23 HS10_23 hs10_23
      generalize w23.heap.size = tb7 at *
      generalize w23.alloc (.cells #[.string ⟨#[97]⟩, .string ⟨#[116]⟩, .string ⟨#[102]⟩] 9) = w24 at *
      refine wpAnyF_ready (rs := [7]) (by kernel_rfl) (by simp) ?_
      refine AllReadyF.cons rfl (fun K hK => ?_) (AllReadyF.nil)
      rw [if_pos (by kernel_rfl)]
      go_wp2_with fail
      refine (l1Str_any cb tb7 3 v zs [⟨#[97]⟩, ⟨#[116]⟩, ⟨#[102]⟩] _ HX24.out rfl (by omega) (by omega) HS7_24.out hnc7).mono ?_
      rintro e w25 ⟨y2, rfl, hm, hC, hg⟩
      have hy2 : y2.size ≤ 100 := by
       simp only [List.mem_cons, List.not_mem_nil, or_false] at hm
       rcases hm with h | h | h <;> subst h <;> decide
      have Gr25 := Hid.mk (grownBy_trans Gr24.out hg)
      have HX25 := Hid.mk hC
      have hsd25 : sd ≤ w25.heap.size := by have := hg.size; omega
      have HS10_25 := Hid.mk ((hg.block tb10 hs10_24 (by intro e; simp at e; omega)).trans HS10_24.out)
      have hs10_25 : tb10 < w25.heap.size := by have := hg.size; omega
      refine hK.out _ _ (fun _ => (HPd.out.row Gr25.out (fun g e => by cases e; exact hpc.symm)).c1) (fun _ => ?_)
      clear hK K
      clear hm hC hg Gr24 HX24 hsd24 HS7_24 hs7_24 hnc7 HS10_24 hs10_24
      refine wpAnyF_ready (rs := [10]) (by kernel_rfl) (by simp) ?_
      refine AllReadyF.cons rfl (fun K hK => ?_) (AllReadyF.nil)
      rw [if_pos (by kernel_rfl)]
      go_wp2_with fail
      refine (l1Str_any cb tb10 2 v zs [⟨#[97]⟩, ⟨#[98]⟩] _ HX25.out rfl (by omega) (by omega) HS10_25.out hnc10).mono ?_
      rintro e w26 ⟨y3, rfl, hm, hC, hg⟩
      have hy3 : y3.size ≤ 100 := by
       simp only [List.mem_cons, List.not_mem_nil, or_false] at hm
       rcases hm with h | h <;> subst h <;> decide
      have Gr26 := Hid.mk (grownBy_trans Gr25.out hg)
      have HX26 := Hid.mk hC
      have hsd26 : sd ≤ w26.heap.size := by have := hg.size; omega
      refine hK.out _ _ (fun _ => (HPd.out.row Gr26.out (fun g e => by cases e; exact hpc.symm)).c1) (fun _ => ?_)
      clear hK K
      clear hm hC hg Gr25 HX25 hsd25 HS10_25 hs10_25 hnc10
      refine wpAnyF_ready (rs := [11]) (by kernel_rfl) (by simp) ?_
      refine AllReadyF.cons rfl (fun K hK => ?_) AllReadyF.nil
      rw [if_pos (by kernel_rfl)]
      go_wp2_with fail
      have A : Below w26.heap.size w26 (w26.alloc (.cells #[.string y2, .string y3] 9)) := (Below.refl _ _).alloc (Nat.le_refl _) _
      have GrA := Hid.mk (gy_below Gr26.out A)
      have HXA := Hid.mk (HX26.out.grow A)
      have HTA := Hid.mk (heap_alloc_new w26 (.cells #[.string y2, .string y3] 9))
      have hta : w26.heap.size < (w26.alloc (.cells #[.string y2, .string y3] 9)).heap.size := (Array.getElem?_eq_some_iff.1 (heap_alloc_new w26 (.cells #[.string y2, .string y3] 9))).1
      refine hK.out _ _ (fun _ => (HPd.out.row GrA.out (fun g e => by cases e; exact hpc.symm)).c1) (fun _ => ?_)
      clear hK K
      clear A Gr26 HX26
      generalize w26.heap.size = t3 at *
      generalize w26.alloc (.cells #[.string y2, .string y3] 9) = wA at *
      refine wpAnyF_ready (rs := [12]) (by kernel_rfl) (by simp) ?_
      refine AllReadyF.cons rfl (fun K hK => ?_) AllReadyF.nil
      rw [if_pos (by kernel_rfl)]
      go_wp2_with fail
      refine hK.out _ _ (fun _ => (HPd.out.row GrA.out (fun g e => by cases e; exact hpc.symm)).c1) (fun _ => ?_)
      clear hK K
      refine wpAnyF_ready (rs := [13]) (by kernel_rfl) (by simp) ?_
      refine AllReadyF.cons rfl (fun K hK => ?_) AllReadyF.nil
      rw [if_pos (by kernel_rfl)]
      go_wp2_with fail
      have A : Below wA.heap.size wA (wA.alloc (.cells #[.string y1, .slice (some ⟨t3, 0, none⟩) 2 2, .slice none 0 0] 63)) := (Below.refl _ _).alloc (Nat.le_refl _) _
      have GrB := Hid.mk (gy_below GrA.out A)
      have HXB := Hid.mk (HXA.out.grow A)
      have HTB := Hid.mk ((A.block t3 hta).trans HTA.out)
      have HNB := Hid.mk (heap_alloc_new wA (.cells #[.string y1, .slice (some ⟨t3, 0, none⟩) 2 2, .slice none 0 0] 63))
      have ht3p : pb < t3 := by omega
      have hlb : wA.heap.size < (wA.alloc (.cells #[.string y1, .slice (some ⟨t3, 0, none⟩) 2 2, .slice none 0 0] 63)).heap.size := (Array.getElem?_eq_some_iff.1 (heap_alloc_new wA (.cells #[.string y1, .slice (some ⟨t3, 0, none⟩) 2 2, .slice none 0 0] 63))).1
      refine hK.out _ _ (fun _ => (HPd.out.row GrB.out (fun g e => by cases e; exact hpc.symm)).c1) (fun _ => ?_)
      clear hK K
      clear A GrA HXA HTA
      generalize wA.heap.size = lb at *
      generalize wA.alloc (.cells #[.string y1, .slice (some ⟨t3, 0, none⟩) 2 2, .slice none 0 0] 63) = wB at *
      have HFB2 := Hid.mk (HFd.out.keep GrB.out (fun x e => by cases e; exact .inl (by omega)))
      have htb3 : Tb wB (nf wB t3) (.slice (some ⟨t3, 0, none⟩) 2 2) [y2, y3] := tb_of (xs := [y2, y3]) HTB.out ⟨Nat.le_refl _, fun o => frozen_of_row _ t3 o _ _ HTB.out⟩ (by simp; exact ⟨hy2, hy3⟩) (by simp)
      have hFl2 : F.length ≤ 1000 := by have := HFL.out; simp at this; omega
      have hfgb : nb ≤ fg := (World.ownsRow.lt HFB2.out.1 fg rfl).1
      refine wpAnyF_ready (rs := [14]) (by kernel_rfl) (by simp) ?_
      refine AllReadyF.cons rfl (fun K hK => ?_) AllReadyF.nil
      rw [if_pos (by kernel_rfl)]
      refine wp_append_fe (.tmp 49) (.tmp 61) rfl nb t3 pb (.slice (some ⟨fg, 0, none⟩) 2 fc) F ⟨⟨y1, [y2, y3], []⟩, .slice (some ⟨t3, 0, none⟩) 2 2, .slice none 0 0⟩ rfl HFB2.out.1 (HFB2.out.rowF (by omega)) (fun k hk => by simp [Value.ownBlock] at hk; omega) (by omega) lb rfl HNB.out htb3 (Sl.zero _ _) hy1 (by omega) (by omega) (fun k hk => by simp [Value.ownBlock] at hk; omega) (by omega) hFl2 ?_
      rintro V' w14 hE14 hg14
      obtain ⟨wo, wnn, wc2, rfl⟩ : ∃ o n c, V' = .slice o n c := by obtain ⟨o, c, h, -⟩ := hE14.len; exact ⟨_, _, _, h⟩
      have HP14 := Hid.mk ((HPd.out.row GrB.out (fun g e => by cases e; exact hpc.symm)).row hg14 (fun x e => by simp [Value.ownBlock] at e; omega))
      refine hK.out _ _ (fun _ => HP14.out.c1) (fun _ => ?_)
      clear hK K
      refine wpAnyF_ready (rs := [15]) (by kernel_rfl) (by simp) ?_
      refine AllReadyF.cons rfl (fun K hK => ?_) AllReadyF.nil
      rw [if_pos (by kernel_rfl)]
      go_wp2_with fail
      refine hK.out _ _ (fun _ => HP14.out.c1) (fun _ => ?_)
      clear hK K
      refine wpAnyF_ready (rs := [16]) (by kernel_rfl) (by simp) ?_
      refine AllReadyF.cons rfl (fun K hK => ?_) AllReadyF.nil
      have z1 := HP14.out.c1
      have zf := HP14.out.fr
      rw [if_pos (by kernel_rfl)]
      go_wp2_with fail
      refine hK.out _ _ (fun h => absurd rfl h) (fun _ => ?_)
      clear hK K
      refine wpAnyF_done (by kernel_rfl) ?_ _
      clear z1 zf
      have G7 := gb_set w14 pb 1 (.slice wo wnn wc2)
      have hu7 := ((HUBd.out.bnd (bnd_of GrB.out (fun x e => by cases e; exact .inl (by omega)))).bnd (bnd_of hg14 (fun x e => by simp [Value.ownBlock] at e; omega))).bnd (bnd_of G7 (fun x e => by cases e; exact .inr (Nat.le_refl _)))
      have HR7 : Hid (PgR (w14.setCell ⟨pb, 1, none⟩ (.slice wo wnn wc2)) (w.heap.size + 1) (.slice (some ⟨g, 0, none⟩) nU cap) (.slice wo wnn wc2)) := pgR_of (hu7.imp fun _ hb _ => ⟨by have := hb.1.1; omega, hb.1.2⟩) ((hE14.nfe G7).imp fun _ hb _ => ⟨by have := hb.1; omega, hb.2⟩) (fun r hr => Nat.le_trans (HUZ.out r hr) (by omega)) (fun f hf => by
       rcases List.mem_append.1 hf with hf | hf
       ·exact Nat.le_trans (HFZ.out f hf) (by omega)
       ·obtain rfl := List.mem_singleton.1 hf
        simp only [Fu.sz, gsz, szy]
        omega) HUL.out (by have := HFL.out; simp at this ⊢; omega)
      have HP7 := Hid.mk (HP14.out.put1 (.slice wo wnn wc2))
      have HB7 := Hid.mk (((HBd.out.row GrB.out (fun g e => by cases e; exact fun e => HNE.out e.symm)).row hg14 (fun x e => by simp [Value.ownBlock] at e; omega)).row G7 (fun x e => by cases e; omega))
      have HC7 := Hid.mk ((HXB.out.row hg14 (fun x e => by simp [Value.ownBlock] at e; exact ⟨by omega, fun hz k hk => by have := HV.out hz k hk; omega⟩)).row G7 (fun x e => by cases e; exact ⟨hpc, fun hz k hk => by have := HV.out hz k hk; omega⟩))
      have HG7 := Hid.mk (gy_far (gy_row (grownBy_trans HGd.out GrB.out) hg14 (fun x e => by simp [Value.ownBlock] at e; omega)) G7 (by omega))
      clear hu7 G7 HP14 hE14 hg14 HXB GrB HNB HTB HFB2 htb3 HPd HId HFd HUBd HFBd HBd HGd
      go_wp2
      go_meet
      case rel => exact ⟨(.slice (some ⟨g, 0, none⟩) nU cap), (.slice wo wnn wc2), HR7, HP7, HB7, HC7, HG7⟩
    ·rw [if_pos (by kernel_rfl)]
     go_wp2_with fail
     have A : Below w21.heap.size w21 (w21.alloc (.cells #[.string ⟨#[97]⟩, .string ⟨#[116]⟩, .string ⟨#[102]⟩] 9)) := (Below.refl _ _).alloc (Nat.le_refl _) _
     have Gr22 := Hid.mk (gy_below Gr21.out A)
     have HX22 := Hid.mk (HX21.out.grow A)
     have hsd22 : sd ≤ (w21.alloc (.cells #[.string ⟨#[97]⟩, .string ⟨#[116]⟩, .string ⟨#[102]⟩] 9)).heap.size := by have := A.size; omega
     have HS7_22 := Hid.mk (heap_alloc_new w21 (.cells #[.string ⟨#[97]⟩, .string ⟨#[116]⟩, .string ⟨#[102]⟩] 9))
     have hs7_22 : w21.heap.size < (w21.alloc (.cells #[.string ⟨#[97]⟩, .string ⟨#[116]⟩, .string ⟨#[102]⟩] 9)).heap.size := (Array.getElem?_eq_some_iff.1 (heap_alloc_new w21 (.cells #[.string ⟨#[97]⟩, .string ⟨#[116]⟩, .string ⟨#[102]⟩] 9))).1
     have hnc7 : w21.heap.size ≠ cb := by have := HX21.out.lt; omega
     have HS4_22 := Hid.mk ((A.block tb4 hs4_21).trans HS4_21.out)
     have hs4_22 : tb4 < (w21.alloc (.cells #[.string ⟨#[97]⟩, .string ⟨#[116]⟩, .string ⟨#[102]⟩] 9)).heap.size := by have := A.size; omega
     refine hK.out _ _ (fun _ => (HPd.out.row Gr22.out (fun g e => by cases e; exact hpc.symm)).c1) (fun _ => ?_)
     clear hK K
     clear A Gr21 HX21 hsd21 HS4_21 hs4_21
     generalize w21.heap.size = tb7 at *
     generalize w21.alloc (.cells #[.string ⟨#[97]⟩, .string ⟨#[116]⟩, .string ⟨#[102]⟩] 9) = w22 at *
     refine wpAnyF_ready (rs := [4, 9]) (by kernel_rfl) (by simp) ?_
     refine AllReadyF.cons rfl (fun K hK => ?_) (AllReadyF.cons rfl (fun K hK => ?_) (AllReadyF.nil))
     ·rw [if_pos (by kernel_rfl)]
      go_wp2_with fail
      refine (l1Str_any cb tb4 5 v zs [⟨#[102]⟩, ⟨#[104]⟩, ⟨#[]⟩, ⟨#[112, 114, 105, 110, 116]⟩, ⟨#[116]⟩] _ HX22.out rfl (by omega) (by omega) HS4_22.out hnc4).mono ?_
      rintro e w23 ⟨y1, rfl, hm, hC, hg⟩
      have hy1 : y1.size ≤ 100 := by
       simp only [List.mem_cons, List.not_mem_nil, or_false] at hm
       rcases hm with h | h | h | h | h <;> subst h <;> decide
      have Gr23 := Hid.mk (grownBy_trans Gr22.out hg)
      have HX23 := Hid.mk hC
      have hsd23 : sd ≤ w23.heap.size := by have := hg.size; omega
      have HS7_23 := Hid.mk ((hg.block tb7 hs7_22 (by intro e; simp at e; omega)).trans HS7_22.out)
      have hs7_23 : tb7 < w23.heap.size := by have := hg.size; omega
      refine hK.out _ _ (fun _ => (HPd.out.row Gr23.out (fun g e => by cases e; exact hpc.symm)).c1) (fun _ => ?_)
      clear hK K
      clear hm hC hg Gr22 HX22 hsd22 HS4_22 hs4_22 hnc4 HS7_22 hs7_22
      refine wpAnyF_ready (rs := [7, 9]) (by kernel_rfl) (by simp) ?_
      refine AllReadyF.cons rfl (fun K hK => ?_) (AllReadyF.cons rfl (fun K hK => ?_) (AllReadyF.nil))
      ·rw [if_pos (by kernel_rfl)]
       go_wp2_with fail
       refine (l1Str_any cb tb7 3 v zs [⟨#[97]⟩, ⟨#[116]⟩, ⟨#[102]⟩] _ HX23.out rfl (by omega) (by omega) HS7_23.out hnc7).mono ?_
       rintro e w24 ⟨y2, rfl, hm, hC, hg⟩
       have hy2 : y2.size ≤ 100 := by
        simp only [List.mem_cons, List.not_mem_nil, or_false] at hm
        rcases hm with h | h | h <;> subst h <;> decide
       have Gr24 := Hid.mk (grownBy_trans Gr23.out hg)
       have HX24 := Hid.mk hC
       have hsd24 : sd ≤ w24.heap.size := by have := hg.size; omega
       refine hK.out _ _ (fun _ => (HPd.out.row Gr24.out (fun g e => by cases e; exact hpc.symm)).c1) (fun _ => ?_)
       clear hK K
       clear hm hC hg Gr23 HX23 hsd23 HS7_23 hs7_23 hnc7
       refine wpAnyF_ready (rs := [9]) (by kernel_rfl) (by simp) ?_
       refine AllReadyF.cons rfl (fun K hK => ?_) (AllReadyF.nil)
       rw [if_pos (by kernel_rfl)]
       go_wp2_with fail
       have A : Below w24.heap.size w24 (w24.alloc (.cells #[.string ⟨#[97]⟩, .string ⟨#[98]⟩] 9)) := (Below.refl _ _).alloc (Nat.le_refl _) _
       have Gr25 := Hid.mk (gy_below Gr24.out A)
       have HX25 := Hid.mk (HX24.out.grow A)
       have hsd25 : sd ≤ (w24.alloc (.cells #[.string ⟨#[97]⟩, .string ⟨#[98]⟩] 9)).heap.size := by have := A.size; omega
       have HS10_25 := Hid.mk (heap_alloc_new w24 (.cells #[.string ⟨#[97]⟩, .string ⟨#[98]⟩] 9))
       have hs10_25 : w24.heap.size < (w24.alloc (.cells #[.string ⟨#[97]⟩, .string ⟨#[98]⟩] 9)).heap.size := (Array.getElem?_eq_some_iff.1 (heap_alloc_new w24 (.cells #[.string ⟨#[97]⟩, .string ⟨#[98]⟩] 9))).1
       have hnc10 : w24.heap.size ≠ cb := by have := HX24.out.lt; omega
       refine hK.out _ _ (fun _ => (HPd.out.row Gr25.out (fun g e => by cases e; exact hpc.symm)).c1) (fun _ => ?_)
       clear hK K
       clear A Gr24 HX24 hsd24
       generalize w24.heap.size = tb10 at *
       generalize w24.alloc (.cells #[.string ⟨#[97]⟩, .string ⟨#[98]⟩] 9) = w25 at *
       refine wpAnyF_ready (rs := [10]) (by kernel_rfl) (by simp) ?_
       refine AllReadyF.cons rfl (fun K hK => ?_) (AllReadyF.nil)
       rw [if_pos (by kernel_rfl)]
       go_wp2_with fail
       refine (l1Str_any cb tb10 2 v zs [⟨#[97]⟩, ⟨#[98]⟩] _ HX25.out rfl (by omega) (by omega) HS10_25.out hnc10).mono ?_
       rintro e w26 ⟨y3, rfl, hm, hC, hg⟩
       have hy3 : y3.size ≤ 100 := by
        simp only [List.mem_cons, List.not_mem_nil, or_false] at hm
        rcases hm with h | h <;> subst h <;> decide
       have Gr26 := Hid.mk (grownBy_trans Gr25.out hg)
       have HX26 := Hid.mk hC
       have hsd26 : sd ≤ w26.heap.size := by have := hg.size; omega
       refine hK.out _ _ (fun _ => (HPd.out.row Gr26.out (fun g e => by cases e; exact hpc.symm)).c1) (fun _ => ?_)
       clear hK K
       clear hm hC hg Gr25 HX25 hsd25 HS10_25 hs10_25 hnc10
       refine wpAnyF_ready (rs := [11]) (by kernel_rfl) (by simp) ?_
       refine AllReadyF.cons rfl (fun K hK => ?_) AllReadyF.nil
       rw [if_pos (by kernel_rfl)]
       go_wp2_with fail
       have A : Below w26.heap.size w26 (w26.alloc (.cells #[.string y2, .string y3] 9)) := (Below.refl _ _).alloc (Nat.le_refl _) _
       have GrA := Hid.mk (gy_below Gr26.out A)
       have HXA := Hid.mk (HX26.out.grow A)
       have HTA := Hid.mk (heap_alloc_new w26 (.cells #[.string y2, .string y3] 9))
       have hta : w26.heap.size < (w26.alloc (.cells #[.string y2, .string y3] 9)).heap.size := (Array.getElem?_eq_some_iff.1 (heap_alloc_new w26 (.cells #[.string y2, .string y3] 9))).1
       refine hK.out _ _ (fun _ => (HPd.out.row GrA.out (fun g e => by cases e; exact hpc.symm)).c1) (fun _ => ?_)
       clear hK K
       clear A Gr26 HX26
       generalize w26.heap.size = t3 at *
       generalize w26.alloc (.cells #[.string y2, .string y3] 9) = wA at *
       refine wpAnyF_ready (rs := [12]) (by kernel_rfl) (by simp) ?_
       refine AllReadyF.cons rfl (fun K hK => ?_) AllReadyF.nil
       rw [if_pos (by kernel_rfl)]
       go_wp2_with fail
       refine hK.out _ _ (fun _ => (HPd.out.row GrA.out (fun g e => by cases e; exact hpc.symm)).c1) (fun _ => ?_)
       clear hK K
       refine wpAnyF_ready (rs := [13]) (by kernel_rfl) (by simp) ?_
       refine AllReadyF.cons rfl (fun K hK => ?_) AllReadyF.nil
       rw [if_pos (by kernel_rfl)]
       go_wp2_with fail
       have A : Below wA.heap.size wA (wA.alloc (.cells #[.string y1, .slice (some ⟨t3, 0, none⟩) 2 2, .slice none 0 0] 63)) := (Below.refl _ _).alloc (Nat.le_refl _) _
       have GrB := Hid.mk (gy_below GrA.out A)
       have HXB := Hid.mk (HXA.out.grow A)
       have HTB := Hid.mk ((A.block t3 hta).trans HTA.out)
       have HNB := Hid.mk (heap_alloc_new wA (.cells #[.string y1, .slice (some ⟨t3, 0, none⟩) 2 2, .slice none 0 0] 63))
       have ht3p : pb < t3 := by omega
       have hlb : wA.heap.size < (wA.alloc (.cells #[.string y1, .slice (some ⟨t3, 0, none⟩) 2 2, .slice none 0 0] 63)).heap.size := (Array.getElem?_eq_some_iff.1 (heap_alloc_new wA (.cells #[.string y1, .slice (some ⟨t3, 0, none⟩) 2 2, .slice none 0 0] 63))).1
       refine hK.out _ _ (fun _ => (HPd.out.row GrB.out (fun g e => by cases e; exact hpc.symm)).c1) (fun _ => ?_)
       clear hK K
       clear A GrA HXA HTA
       generalize wA.heap.size = lb at *
       generalize wA.alloc (.cells #[.string y1, .slice (some ⟨t3, 0, none⟩) 2 2, .slice none 0 0] 63) = wB at *
       have HFB2 := Hid.mk (HFd.out.keep GrB.out (fun x e => by cases e; exact .inl (by omega)))
       have htb3 : Tb wB (nf wB t3) (.slice (some ⟨t3, 0, none⟩) 2 2) [y2, y3] := tb_of (xs := [y2, y3]) HTB.out ⟨Nat.le_refl _, fun o => frozen_of_row _ t3 o _ _ HTB.out⟩ (by simp; exact ⟨hy2, hy3⟩) (by simp)
       have hFl2 : F.length ≤ 1000 := by have := HFL.out; simp at this; omega
       have hfgb : nb ≤ fg := (World.ownsRow.lt HFB2.out.1 fg rfl).1
       refine wpAnyF_ready (rs := [14]) (by kernel_rfl) (by simp) ?_
       refine AllReadyF.cons rfl (fun K hK => ?_) AllReadyF.nil
       rw [if_pos (by kernel_rfl)]
       refine wp_append_fe (.tmp 49) (.tmp 61) rfl nb t3 pb (.slice (some ⟨fg, 0, none⟩) 2 fc) F ⟨⟨y1, [y2, y3], []⟩, .slice (some ⟨t3, 0, none⟩) 2 2, .slice none 0 0⟩ rfl HFB2.out.1 (HFB2.out.rowF (by omega)) (fun k hk => by simp [Value.ownBlock] at hk; omega) (by omega) lb rfl HNB.out htb3 (Sl.zero _ _) hy1 (by omega) (by omega) (fun k hk => by simp [Value.ownBlock] at hk; omega) (by omega) hFl2 ?_
       rintro V' w14 hE14 hg14
       obtain ⟨wo, wnn, wc2, rfl⟩ : ∃ o n c, V' = .slice o n c := by obtain ⟨o, c, h, -⟩ := hE14.len; exact ⟨_, _, _, h⟩
       have HP14 := Hid.mk ((HPd.out.row GrB.out (fun g e => by cases e; exact hpc.symm)).row hg14 (fun x e => by simp [Value.ownBlock] at e; omega))
       refine hK.out _ _ (fun _ => HP14.out.c1) (fun _ => ?_)
       clear hK K
       refine wpAnyF_ready (rs := [15]) (by kernel_rfl) (by simp) ?_
       refine AllReadyF.cons rfl (fun K hK => ?_) AllReadyF.nil
       rw [if_pos (by kernel_rfl)]
       go_wp2_with fail
       refine hK.out _ _ (fun _ => HP14.out.c1) (fun _ => ?_)
       clear hK K
       refine wpAnyF_ready (rs := [16]) (by kernel_rfl) (by simp) ?_
       refine AllReadyF.cons rfl (fun K hK => ?_) AllReadyF.nil
       have z1 := HP14.out.c1
       have zf := HP14.out.fr
       rw [if_pos (by kernel_rfl)]
       go_wp2_with fail
       refine hK.out _ _ (fun h => absurd rfl h) (fun _ => ?_)
       clear hK K
       refine wpAnyF_done (by kernel_rfl) ?_ _
       clear z1 zf
       have G7 := gb_set w14 pb 1 (.slice wo wnn wc2)
       have hu7 := ((HUBd.out.bnd (bnd_of GrB.out (fun x e => by cases e; exact .inl (by omega)))).bnd (bnd_of hg14 (fun x e => by simp [Value.ownBlock] at e; omega))).bnd (bnd_of G7 (fun x e => by cases e; exact .inr (Nat.le_refl _)))
       have HR7 : Hid (PgR (w14.setCell ⟨pb, 1, none⟩ (.slice wo wnn wc2)) (w.heap.size + 1) (.slice (some ⟨g, 0, none⟩) nU cap) (.slice wo wnn wc2)) := pgR_of (hu7.imp fun _ hb _ => ⟨by have := hb.1.1; omega, hb.1.2⟩) ((hE14.nfe G7).imp fun _ hb _ => ⟨by have := hb.1; omega, hb.2⟩) (fun r hr => Nat.le_trans (HUZ.out r hr) (by omega)) (fun f hf => by
        rcases List.mem_append.1 hf with hf | hf
        ·exact Nat.le_trans (HFZ.out f hf) (by omega)
        ·obtain rfl := List.mem_singleton.1 hf
         simp only [Fu.sz, gsz, szy]
         omega) HUL.out (by have := HFL.out; simp at this ⊢; omega)
       have HP7 := Hid.mk (HP14.out.put1 (.slice wo wnn wc2))
       have HB7 := Hid.mk (((HBd.out.row GrB.out (fun g e => by cases e; exact fun e => HNE.out e.symm)).row hg14 (fun x e => by simp [Value.ownBlock] at e; omega)).row G7 (fun x e => by cases e; omega))
       have HC7 := Hid.mk ((HXB.out.row hg14 (fun x e => by simp [Value.ownBlock] at e; exact ⟨by omega, fun hz k hk => by have := HV.out hz k hk; omega⟩)).row G7 (fun x e => by cases e; exact ⟨hpc, fun hz k hk => by have := HV.out hz k hk; omega⟩))
       have HG7 := Hid.mk (gy_far (gy_row (grownBy_trans HGd.out GrB.out) hg14 (fun x e => by simp [Value.ownBlock] at e; omega)) G7 (by omega))
       clear hu7 G7 HP14 hE14 hg14 HXB GrB HNB HTB HFB2 htb3 HPd HId HFd HUBd HFBd HBd HGd
       go_wp2
       go_meet
       case rel => exact ⟨(.slice (some ⟨g, 0, none⟩) nU cap), (.slice wo wnn wc2), HR7, HP7, HB7, HC7, HG7⟩
      ·rw [if_pos (by kernel_rfl)]
       go_wp2_with fail
       have A : Below w23.heap.size w23 (w23.alloc (.cells #[.string ⟨#[97]⟩, .string ⟨#[98]⟩] 9)) := (Below.refl _ _).alloc (Nat.le_refl _) _
       have Gr24 := Hid.mk (gy_below Gr23.out A)
       have HX24 := Hid.mk (HX23.out.grow A)
       have hsd24 : sd ≤ (w23.alloc (.cells #[.string ⟨#[97]⟩, .string ⟨#[98]⟩] 9)).heap.size := by have := A.size; omega
       have HS10_24 := Hid.mk (heap_alloc_new w23 (.cells #[.string ⟨#[97]⟩, .string ⟨#[98]⟩] 9))
       have hs10_24 : w23.heap.size < (w23.alloc (.cells #[.string ⟨#[97]⟩, .string ⟨#[98]⟩] 9)).heap.size := (Array.getElem?_eq_some_iff.1 (heap_alloc_new w23 (.cells #[.string ⟨#[97]⟩, .string ⟨#[98]⟩] 9))).1
       have hnc10 : w23.heap.size ≠ cb := by have := HX23.out.lt; omega
       have HS7_24 := Hid.mk ((A.block tb7 hs7_23).trans HS7_23.out)
       have hs7_24 : tb7 < (w23.alloc (.cells #[.string ⟨#[97]⟩, .string ⟨#[98]⟩] 9)).heap.size := by have := A.size; omega
       refine hK.out _ _ (fun _ => (HPd.out.row Gr24.out (fun g e => by cases e; exact hpc.symm)).c1) (fun _ => ?_)
       clear hK K
       clear A Gr23 HX23 hsd23 HS7_23 hs7_23
       generalize w23.heap.size = tb10 at *
       generalize w23.alloc (.cells #[.string ⟨#[97]⟩, .string ⟨#[98]⟩] 9) = w24 at *
       refine wpAnyF_ready (rs := [7]) (by kernel_rfl) (by simp) ?_
       refine AllReadyF.cons rfl (fun K hK => ?_) (AllReadyF.nil)
       rw [if_pos (by kernel_rfl)]
       go_wp2_with fail
       refine (l1Str_any cb tb7 3 v zs [⟨#[97]⟩, ⟨#[116]⟩, ⟨#[102]⟩] _ HX24.out rfl (by omega) (by omega) HS7_24.out hnc7).mono ?_
       rintro e w25 ⟨y2, rfl, hm, hC, hg⟩
       have hy2 : y2.size ≤ 100 := by
        simp only [List.mem_cons, List.not_mem_nil, or_false] at hm
        rcases hm with h | h | h <;> subst h <;> decide
       have Gr25 := Hid.mk (grownBy_trans Gr24.out hg)
       have HX25 := Hid.mk hC
       have hsd25 : sd ≤ w25.heap.size := by have := hg.size; omega
       have HS10_25 := Hid.mk ((hg.block tb10 hs10_24 (by intro e; simp at e; omega)).trans HS10_24.out)
       have hs10_25 : tb10 < w25.heap.size := by have := hg.size; omega
       refine hK.out _ _ (fun _ => (HPd.out.row Gr25.out (fun g e => by cases e; exact hpc.symm)).c1) (fun _ => ?_)
       clear hK K
       clear hm hC hg Gr24 HX24 hsd24 HS7_24 hs7_24 hnc7 HS10_24 hs10_24
       refine wpAnyF_ready (rs := [10]) (by kernel_rfl) (by simp) ?_
       refine AllReadyF.cons rfl (fun K hK => ?_) (AllReadyF.nil)
       rw [if_pos (by kernel_rfl)]
       go_wp2_with fail
       refine (l1Str_any cb tb10 2 v zs [⟨#[97]⟩, ⟨#[98]⟩] _ HX25.out rfl (by omega) (by omega) HS10_25.out hnc10).mono ?_
       rintro e w26 ⟨y3, rfl, hm, hC, hg⟩
       have hy3 : y3.size ≤ 100 := by
        simp only [List.mem_cons, List.not_mem_nil, or_false] at hm
        rcases hm with h | h <;> subst h <;> decide
       have Gr26 := Hid.mk (grownBy_trans Gr25.out hg)
       have HX26 := Hid.mk hC
       have hsd26 : sd ≤ w26.heap.size := by have := hg.size; omega
       refine hK.out _ _ (fun _ => (HPd.out.row Gr26.out (fun g e => by cases e; exact hpc.symm)).c1) (fun _ => ?_)
       clear hK K
       clear hm hC hg Gr25 HX25 hsd25 HS10_25 hs10_25 hnc10
       refine wpAnyF_ready (rs := [11]) (by kernel_rfl) (by simp) ?_
       refine AllReadyF.cons rfl (fun K hK => ?_) AllReadyF.nil
       rw [if_pos (by kernel_rfl)]
       go_wp2_with fail
       have A : Below w26.heap.size w26 (w26.alloc (.cells #[.string y2, .string y3] 9)) := (Below.refl _ _).alloc (Nat.le_refl _) _
       have GrA := Hid.mk (gy_below Gr26.out A)
       have HXA := Hid.mk (HX26.out.grow A)
       have HTA := Hid.mk (heap_alloc_new w26 (.cells #[.string y2, .string y3] 9))
       have hta : w26.heap.size < (w26.alloc (.cells #[.string y2, .string y3] 9)).heap.size := (Array.getElem?_eq_some_iff.1 (heap_alloc_new w26 (.cells #[.string y2, .string y3] 9))).1
       refine hK.out _ _ (fun _ => (HPd.out.row GrA.out (fun g e => by cases e; exact hpc.symm)).c1) (fun _ => ?_)
       clear hK K
       clear A Gr26 HX26
       generalize w26.heap.size = t3 at *
       generalize w26.alloc (.cells #[.string y2, .string y3] 9) = wA at *
       refine wpAnyF_ready (rs := [12]) (by kernel_rfl) (by simp) ?_
       refine AllReadyF.cons rfl (fun K hK => ?_) AllReadyF.nil
       rw [if_pos (by kernel_rfl)]
       go_wp2_with fail
       refine hK.out _ _ (fun _ => (HPd.out.row GrA.out (fun g e => by cases e; exact hpc.symm)).c1) (fun _ => ?_)
       clear hK K
       refine wpAnyF_ready (rs := [13]) (by kernel_rfl) (by simp) ?_
       refine AllReadyF.cons rfl (fun K hK => ?_) AllReadyF.nil
       rw [if_pos (by kernel_rfl)]
       go_wp2_with fail
       have A : Below wA.heap.size wA (wA.alloc (.cells #[.string y1, .slice (some ⟨t3, 0, none⟩) 2 2, .slice none 0 0] 63)) := (Below.refl _ _).alloc (Nat.le_refl _) _
       have GrB := Hid.mk (gy_below GrA.out A)
       have HXB := Hid.mk (HXA.out.grow A)
       have HTB := Hid.mk ((A.block t3 hta).trans HTA.out)
       have HNB := Hid.mk (heap_alloc_new wA (.cells #[.string y1, .slice (some ⟨t3, 0, none⟩) 2 2, .slice none 0 0] 63))
       have ht3p : pb < t3 := by omega
       have hlb : wA.heap.size < (wA.alloc (.cells #[.string y1, .slice (some ⟨t3, 0, none⟩) 2 2, .slice none 0 0] 63)).heap.size := (Array.getElem?_eq_some_iff.1 (heap_alloc_new wA (.cells #[.string y1, .slice (some ⟨t3, 0, none⟩) 2 2, .slice none 0 0] 63))).1
       refine hK.out _ _ (fun _ => (HPd.out.row GrB.out (fun g e => by cases e; exact hpc.symm)).c1) (fun _ => ?_)
       clear hK K
       clear A GrA HXA HTA
       generalize wA.heap.size = lb at *
       generalize wA.alloc (.cells #[.string y1, .slice (some ⟨t3, 0, none⟩) 2 2, .slice none 0 0] 63) = wB at *
       have HFB2 := Hid.mk (HFd.out.keep GrB.out (fun x e => by cases e; exact .inl (by omega)))
       have htb3 : Tb wB (nf wB t3) (.slice (some ⟨t3, 0, none⟩) 2 2) [y2, y3] := tb_of (xs := [y2, y3]) HTB.out ⟨Nat.le_refl _, fun o => frozen_of_row _ t3 o _ _ HTB.out⟩ (by simp; exact ⟨hy2, hy3⟩) (by simp)
       have hFl2 : F.length ≤ 1000 := by have := HFL.out; simp at this; omega
       have hfgb : nb ≤ fg := (World.ownsRow.lt HFB2.out.1 fg rfl).1
       refine wpAnyF_ready (rs := [14]) (by kernel_rfl) (by simp) ?_
       refine AllReadyF.cons rfl (fun K hK => ?_) AllReadyF.nil
       rw [if_pos (by kernel_rfl)]
       refine wp_append_fe (.tmp 49) (.tmp 61) rfl nb t3 pb (.slice (some ⟨fg, 0, none⟩) 2 fc) F ⟨⟨y1, [y2, y3], []⟩, .slice (some ⟨t3, 0, none⟩) 2 2, .slice none 0 0⟩ rfl HFB2.out.1 (HFB2.out.rowF (by omega)) (fun k hk => by simp [Value.ownBlock] at hk; omega) (by omega) lb rfl HNB.out htb3 (Sl.zero _ _) hy1 (by omega) (by omega) (fun k hk => by simp [Value.ownBlock] at hk; omega) (by omega) hFl2 ?_
       rintro V' w14 hE14 hg14
       obtain ⟨wo, wnn, wc2, rfl⟩ : ∃ o n c, V' = .slice o n c := by obtain ⟨o, c, h, -⟩ := hE14.len; exact ⟨_, _, _, h⟩
       have HP14 := Hid.mk ((HPd.out.row GrB.out (fun g e => by cases e; exact hpc.symm)).row hg14 (fun x e => by simp [Value.ownBlock] at e; omega))
       refine hK.out _ _ (fun _ => HP14.out.c1) (fun _ => ?_)
       clear hK K
       refine wpAnyF_ready (rs := [15]) (by kernel_rfl) (by simp) ?_
       refine AllReadyF.cons rfl (fun K hK => ?_) AllReadyF.nil
       rw [if_pos (by kernel_rfl)]
       go_wp2_with fail
       refine hK.out _ _ (fun _ => HP14.out.c1) (fun _ => ?_)
       clear hK K
       refine wpAnyF_ready (rs := [16]) (by kernel_rfl) (by simp) ?_
       refine AllReadyF.cons rfl (fun K hK => ?_) AllReadyF.nil
       have z1 := HP14.out.c1
       have zf := HP14.out.fr
       rw [if_pos (by kernel_rfl)]
       go_wp2_with fail
       refine hK.out _ _ (fun h => absurd rfl h) (fun _ => ?_)
       clear hK K
       refine wpAnyF_done (by kernel_rfl) ?_ _
       clear z1 zf
       have G7 := gb_set w14 pb 1 (.slice wo wnn wc2)
       have hu7 := ((HUBd.out.bnd (bnd_of GrB.out (fun x e => by cases e; exact .inl (by omega)))).bnd (bnd_of hg14 (fun x e => by simp [Value.ownBlock] at e; omega))).bnd (bnd_of G7 (fun x e => by cases e; exact .inr (Nat.le_refl _)))
       have HR7 : Hid (PgR (w14.setCell ⟨pb, 1, none⟩ (.slice wo wnn wc2)) (w.heap.size + 1) (.slice (some ⟨g, 0, none⟩) nU cap) (.slice wo wnn wc2)) := pgR_of (hu7.imp fun _ hb _ => ⟨by have := hb.1.1; omega, hb.1.2⟩) ((hE14.nfe G7).imp fun _ hb _ => ⟨by have := hb.1; omega, hb.2⟩) (fun r hr => Nat.le_trans (HUZ.out r hr) (by omega)) (fun f hf => by
        rcases List.mem_append.1 hf with hf | hf
        ·exact Nat.le_trans (HFZ.out f hf) (by omega)
        ·obtain rfl := List.mem_singleton.1 hf
         simp only [Fu.sz, gsz, szy]
         omega) HUL.out (by have := HFL.out; simp at this ⊢; omega)
       have HP7 := Hid.mk (HP14.out.put1 (.slice wo wnn wc2))
       have HB7 := Hid.mk (((HBd.out.row GrB.out (fun g e => by cases e; exact fun e => HNE.out e.symm)).row hg14 (fun x e => by simp [Value.ownBlock] at e; omega)).row G7 (fun x e => by cases e; omega))
       have HC7 := Hid.mk ((HXB.out.row hg14 (fun x e => by simp [Value.ownBlock] at e; exact ⟨by omega, fun hz k hk => by have := HV.out hz k hk; omega⟩)).row G7 (fun x e => by cases e; exact ⟨hpc, fun hz k hk => by have := HV.out hz k hk; omega⟩))
       have HG7 := Hid.mk (gy_far (gy_row (grownBy_trans HGd.out GrB.out) hg14 (fun x e => by simp [Value.ownBlock] at e; omega)) G7 (by omega))
       clear hu7 G7 HP14 hE14 hg14 HXB GrB HNB HTB HFB2 htb3 HPd HId HFd HUBd HFBd HBd HGd
       go_wp2
       go_meet
       case rel => exact ⟨(.slice (some ⟨g, 0, none⟩) nU cap), (.slice wo wnn wc2), HR7, HP7, HB7, HC7, HG7⟩
     ·rw [if_pos (by kernel_rfl)]
      go_wp2_with fail
      have A : Below w22.heap.size w22 (w22.alloc (.cells #[.string ⟨#[97]⟩, .string ⟨#[98]⟩] 9)) := (Below.refl _ _).alloc (Nat.le_refl _) _
      have Gr23 := Hid.mk (gy_below Gr22.out A)
      have HX23 := Hid.mk (HX22.out.grow A)
      have hsd23 : sd ≤ (w22.alloc (.cells #[.string ⟨#[97]⟩, .string ⟨#[98]⟩] 9)).heap.size := by have := A.size; omega
      have HS10_23 := Hid.mk (heap_alloc_new w22 (.cells #[.string ⟨#[97]⟩, .string ⟨#[98]⟩] 9))
      have hs10_23 : w22.heap.size < (w22.alloc (.cells #[.string ⟨#[97]⟩, .string ⟨#[98]⟩] 9)).heap.size := (Array.getElem?_eq_some_iff.1 (heap_alloc_new w22 (.cells #[.string ⟨#[97]⟩, .string ⟨#[98]⟩] 9))).1
      have hnc10 : w22.heap.size ≠ cb := by have := HX22.out.lt; omega
      have HS4_23 := Hid.mk ((A.block tb4 hs4_22).trans HS4_22.out)
      have hs4_23 : tb4 < (w22.alloc (.cells #[.string ⟨#[97]⟩, .string ⟨#[98]⟩] 9)).heap.size := by have := A.size; omega
      have HS7_23 := Hid.mk ((A.block tb7 hs7_22).trans HS7_22.out)
      have hs7_23 : tb7 < (w22.alloc (.cells #[.string ⟨#[97]⟩, .string ⟨#[98]⟩] 9)).heap.size := by have := A.size; omega
      refine hK.out _ _ (fun _ => (HPd.out.row Gr23.out (fun g e => by cases e; exact hpc.symm)).c1) (fun _ => ?_)
      clear hK K
      clear A Gr22 HX22 hsd22 HS4_22 hs4_22 HS7_22 hs7_22
      generalize w22.heap.size = tb10 at *
      generalize w22.alloc (.cells #[.string ⟨#[97]⟩, .string ⟨#[98]⟩] 9) = w23 at *
      refine wpAnyF_ready (rs := [4]) (by kernel_rfl) (by simp) ?_
      refine AllReadyF.cons rfl (fun K hK => ?_) (AllReadyF.nil)
      rw [if_pos (by kernel_rfl)]
      go_wp2_with fail
      refine (l1Str_any cb tb4 5 v zs [⟨#[102]⟩, ⟨#[104]⟩, ⟨#[]⟩, ⟨#[112, 114, 105, 110, 116]⟩, ⟨#[116]⟩] _ HX23.out rfl (by omega) (by omega) HS4_23.out hnc4).mono ?_
      rintro e w24 ⟨y1, rfl, hm, hC, hg⟩
      have hy1 : y1.size ≤ 100 := by
       simp only [List.mem_cons, List.not_mem_nil, or_false] at hm
       rcases hm with h | h | h | h | h <;> subst h <;> decide
      have Gr24 := Hid.mk (grownBy_trans Gr23.out hg)
      have HX24 := Hid.mk hC
      have hsd24 : sd ≤ w24.heap.size := by have := hg.size; omega
      have HS7_24 := Hid.mk ((hg.block tb7 hs7_23 (by intro e; simp at e; omega)).trans HS7_23.out)
      have hs7_24 : tb7 < w24.heap.size := by have := hg.size; omega
      have HS10_24 := Hid.mk ((hg.block tb10 hs10_23 (by intro e; simp at e; omega)).trans HS10_23.out)
      have hs10_24 : tb10 < w24.heap.size := by have := hg.size; omega
      refine hK.out _ _ (fun _ => (HPd.out.row Gr24.out (fun g e => by cases e; exact hpc.symm)).c1) (fun _ => ?_)
      clear hK K
      clear hm hC hg Gr23 HX23 hsd23 HS4_23 hs4_23 hnc4 HS7_23 hs7_23 HS10_23 hs10_23
      refine wpAnyF_ready (rs := [7]) (by kernel_rfl) (by simp) ?_
      refine AllReadyF.cons rfl (fun K hK => ?_) (AllReadyF.nil)
      rw [if_pos (by kernel_rfl)]
      go_wp2_with fail
      refine (l1Str_any cb tb7 3 v zs [⟨#[97]⟩, ⟨#[116]⟩, ⟨#[102]⟩] _ HX24.out rfl (by omega) (by omega) HS7_24.out hnc7).mono ?_
      rintro e w25 ⟨y2, rfl, hm, hC, hg⟩
      have hy2 : y2.size ≤ 100 := by
       simp only [List.mem_cons, List.not_mem_nil, or_false] at hm
       rcases hm with h | h | h <;> subst h <;> decide
      have Gr25 := Hid.mk (grownBy_trans Gr24.out hg)
      have HX25 := Hid.mk hC
      have hsd25 : sd ≤ w25.heap.size := by have := hg.size; omega
      have HS10_25 := Hid.mk ((hg.block tb10 hs10_24 (by intro e; simp at e; omega)).trans HS10_24.out)
      have hs10_25 : tb10 < w25.heap.size := by have := hg.size; omega
      refine hK.out _ _ (fun _ => (HPd.out.row Gr25.out (fun g e => by cases e; exact hpc.symm)).c1) (fun _ => ?_)
      clear hK K
      clear hm hC hg Gr24 HX24 hsd24 HS7_24 hs7_24 hnc7 HS10_24 hs10_24
      refine wpAnyF_ready (rs := [10]) (by kernel_rfl) (by simp) ?_
      refine AllReadyF.cons rfl (fun K hK => ?_) (AllReadyF.nil)
      rw [if_pos (by kernel_rfl)]
      go_wp2_with fail
      refine (l1Str_any cb tb10 2 v zs [⟨#[97]⟩, ⟨#[98]⟩] _ HX25.out rfl (by omega) (by omega) HS10_25.out hnc10).mono ?_
      rintro e w26 ⟨y3, rfl, hm, hC, hg⟩
      have hy3 : y3.size ≤ 100 := by
       simp only [List.mem_cons, List.not_mem_nil, or_false] at hm
       rcases hm with h | h <;> subst h <;> decide
      have Gr26 := Hid.mk (grownBy_trans Gr25.out hg)
      have HX26 := Hid.mk hC
      have hsd26 : sd ≤ w26.heap.size := by have := hg.size; omega
      refine hK.out _ _ (fun _ => (HPd.out.row Gr26.out (fun g e => by cases e; exact hpc.symm)).c1) (fun _ => ?_)
      clear hK K
      clear hm hC hg Gr25 HX25 hsd25 HS10_25 hs10_25 hnc10
      refine wpAnyF_ready (rs := [11]) (by kernel_rfl) (by simp) ?_
      refine AllReadyF.cons rfl (fun K hK => ?_) AllReadyF.nil
      rw [if_pos (by kernel_rfl)]
      go_wp2_with fail
      have A : Below w26.heap.size w26 (w26.alloc (.cells #[.string y2, .string y3] 9)) := (Below.refl _ _).alloc (Nat.le_refl _) _
      have GrA := Hid.mk (gy_below Gr26.out A)
      have HXA := Hid.mk (HX26.out.grow A)
      have HTA := Hid.mk (heap_alloc_new w26 (.cells #[.string y2, .string y3] 9))
      have hta : w26.heap.size < (w26.alloc (.cells #[.string y2, .string y3] 9)).heap.size := (Array.getElem?_eq_some_iff.1 (heap_alloc_new w26 (.cells #[.string y2, .string y3] 9))).1
      refine hK.out _ _ (fun _ => (HPd.out.row GrA.out (fun g e => by cases e; exact hpc.symm)).c1) (fun _ => ?_)
      clear hK K
      clear A Gr26 HX26
      generalize w26.heap.size = t3 at *
      generalize w26.alloc (.cells #[.string y2, .string y3] 9) = wA at *
      refine wpAnyF_ready (rs := [12]) (by kernel_rfl) (by simp) ?_
      refine AllReadyF.cons rfl (fun K hK => ?_) AllReadyF.nil
      rw [if_pos (by kernel_rfl)]
      go_wp2_with fail
      refine hK.out _ _ (fun _ => (HPd.out.row GrA.out (fun g e => by cases e; exact hpc.symm)).c1) (fun _ => ?_)
      clear hK K
      refine wpAnyF_ready (rs := [13]) (by kernel_rfl) (by simp) ?_
      refine AllReadyF.cons rfl (fun K hK => ?_) AllReadyF.nil
      rw [if_pos (by kernel_rfl)]
      go_wp2_with fail
      have A : Below wA.heap.size wA (wA.alloc (.cells #[.string y1, .slice (some ⟨t3, 0, none⟩) 2 2, .slice none 0 0] 63)) := (Below.refl _ _).alloc (Nat.le_refl _) _
      have GrB := Hid.mk (gy_below GrA.out A)
      have HXB := Hid.mk (HXA.out.grow A)
      have HTB := Hid.mk ((A.block t3 hta).trans HTA.out)
      have HNB := Hid.mk (heap_alloc_new wA (.cells #[.string y1, .slice (some ⟨t3, 0, none⟩) 2 2, .slice none 0 0] 63))
      have ht3p : pb < t3 := by omega
      have hlb : wA.heap.size < (wA.alloc (.cells #[.string y1, .slice (some ⟨t3, 0, none⟩) 2 2, .slice none 0 0] 63)).heap.size := (Array.getElem?_eq_some_iff.1 (heap_alloc_new wA (.cells #[.string y1, .slice (some ⟨t3, 0, none⟩) 2 2, .slice none 0 0] 63))).1
      refine hK.out _ _ (fun _ => (HPd.out.row GrB.out (fun g e => by cases e; exact hpc.symm)).c1) (fun _ => ?_)
      clear hK K
      clear A GrA HXA HTA
      generalize wA.heap.size = lb at *
      generalize wA.alloc (.cells #[.string y1, .slice (some ⟨t3, 0, none⟩) 2 2, .slice none 0 0] 63) = wB at *
      have HFB2 := Hid.mk (HFd.out.keep GrB.out (fun x e => by cases e; exact .inl (by omega)))
      have htb3 : Tb wB (nf wB t3) (.slice (some ⟨t3, 0, none⟩) 2 2) [y2, y3] := tb_of (xs := [y2, y3]) HTB.out ⟨Nat.le_refl _, fun o => frozen_of_row _ t3 o _ _ HTB.out⟩ (by simp; exact ⟨hy2, hy3⟩) (by simp)
      have hFl2 : F.length ≤ 1000 := by have := HFL.out; simp at this; omega
      have hfgb : nb ≤ fg := (World.ownsRow.lt HFB2.out.1 fg rfl).1
      refine wpAnyF_ready (rs := [14]) (by kernel_rfl) (by simp) ?_
      refine AllReadyF.cons rfl (fun K hK => ?_) AllReadyF.nil
      rw [if_pos (by kernel_rfl)]
      refine wp_append_fe (.tmp 49) (.tmp 61) rfl nb t3 pb (.slice (some ⟨fg, 0, none⟩) 2 fc) F ⟨⟨y1, [y2, y3], []⟩, .slice (some ⟨t3, 0, none⟩) 2 2, .slice none 0 0⟩ rfl HFB2.out.1 (HFB2.out.rowF (by omega)) (fun k hk => by simp [Value.ownBlock] at hk; omega) (by omega) lb rfl HNB.out htb3 (Sl.zero _ _) hy1 (by omega) (by omega) (fun k hk => by simp [Value.ownBlock] at hk; omega) (by omega) hFl2 ?_
      rintro V' w14 hE14 hg14
      obtain ⟨wo, wnn, wc2, rfl⟩ : ∃ o n c, V' = .slice o n c := by obtain ⟨o, c, h, -⟩ := hE14.len; exact ⟨_, _, _, h⟩
      have HP14 := Hid.mk ((HPd.out.row GrB.out (fun g e => by cases e; exact hpc.symm)).row hg14 (fun x e => by simp [Value.ownBlock] at e; omega))
      refine hK.out _ _ (fun _ => HP14.out.c1) (fun _ => ?_)
      clear hK K
      refine wpAnyF_ready (rs := [15]) (by kernel_rfl) (by simp) ?_
      refine AllReadyF.cons rfl (fun K hK => ?_) AllReadyF.nil
      rw [if_pos (by kernel_rfl)]
      go_wp2_with fail
      refine hK.out _ _ (fun _ => HP14.out.c1) (fun _ => ?_)
      clear hK K
      refine wpAnyF_ready (rs := [16]) (by kernel_rfl) (by simp) ?_
      refine AllReadyF.cons rfl (fun K hK => ?_) AllReadyF.nil
      have z1 := HP14.out.c1
      have zf := HP14.out.fr
      rw [if_pos (by kernel_rfl)]
      go_wp2_with fail
      refine hK.out _ _ (fun h => absurd rfl h) (fun _ => ?_)
      clear hK K
      refine wpAnyF_done (by kernel_rfl) ?_ _
      clear z1 zf
      have G7 := gb_set w14 pb 1 (.slice wo wnn wc2)
      have hu7 := ((HUBd.out.bnd (bnd_of GrB.out (fun x e => by cases e; exact .inl (by omega)))).bnd (bnd_of hg14 (fun x e => by simp [Value.ownBlock] at e; omega))).bnd (bnd_of G7 (fun x e => by cases e; exact .inr (Nat.le_refl _)))
      have HR7 : Hid (PgR (w14.setCell ⟨pb, 1, none⟩ (.slice wo wnn wc2)) (w.heap.size + 1) (.slice (some ⟨g, 0, none⟩) nU cap) (.slice wo wnn wc2)) := pgR_of (hu7.imp fun _ hb _ => ⟨by have := hb.1.1; omega, hb.1.2⟩) ((hE14.nfe G7).imp fun _ hb _ => ⟨by have := hb.1; omega, hb.2⟩) (fun r hr => Nat.le_trans (HUZ.out r hr) (by omega)) (fun f hf => by
       rcases List.mem_append.1 hf with hf | hf
       ·exact Nat.le_trans (HFZ.out f hf) (by omega)
       ·obtain rfl := List.mem_singleton.1 hf
        simp only [Fu.sz, gsz, szy]
        omega) HUL.out (by have := HFL.out; simp at this ⊢; omega)
      have HP7 := Hid.mk (HP14.out.put1 (.slice wo wnn wc2))
      have HB7 := Hid.mk (((HBd.out.row GrB.out (fun g e => by cases e; exact fun e => HNE.out e.symm)).row hg14 (fun x e => by simp [Value.ownBlock] at e; omega)).row G7 (fun x e => by cases e; omega))
      have HC7 := Hid.mk ((HXB.out.row hg14 (fun x e => by simp [Value.ownBlock] at e; exact ⟨by omega, fun hz k hk => by have := HV.out hz k hk; omega⟩)).row G7 (fun x e => by cases e; exact ⟨hpc, fun hz k hk => by have := HV.out hz k hk; omega⟩))
      have HG7 := Hid.mk (gy_far (gy_row (grownBy_trans HGd.out GrB.out) hg14 (fun x e => by simp [Value.ownBlock] at e; omega)) G7 (by omega))
      clear hu7 G7 HP14 hE14 hg14 HXB GrB HNB HTB HFB2 htb3 HPd HId HFd HUBd HFBd HBd HGd
      go_wp2
      go_meet
      case rel => exact ⟨(.slice (some ⟨g, 0, none⟩) nU cap), (.slice wo wnn wc2), HR7, HP7, HB7, HC7, HG7⟩
    ·rw [if_pos (by kernel_rfl)]
     go_wp2_with fail
     have A : Below w21.heap.size w21 (w21.alloc (.cells #[.string ⟨#[97]⟩, .string ⟨#[98]⟩] 9)) := (Below.refl _ _).alloc (Nat.le_refl _) _
     have Gr22 := Hid.mk (gy_below Gr21.out A)
     have HX22 := Hid.mk (HX21.out.grow A)
     have hsd22 : sd ≤ (w21.alloc (.cells #[.string ⟨#[97]⟩, .string ⟨#[98]⟩] 9)).heap.size := by have := A.size; omega
     have HS10_22 := Hid.mk (heap_alloc_new w21 (.cells #[.string ⟨#[97]⟩, .string ⟨#[98]⟩] 9))
     have hs10_22 : w21.heap.size < (w21.alloc (.cells #[.string ⟨#[97]⟩, .string ⟨#[98]⟩] 9)).heap.size := (Array.getElem?_eq_some_iff.1 (heap_alloc_new w21 (.cells #[.string ⟨#[97]⟩, .string ⟨#[98]⟩] 9))).1
     have hnc10 : w21.heap.size ≠ cb := by have := HX21.out.lt; omega
     have HS4_22 := Hid.mk ((A.block tb4 hs4_21).trans HS4_21.out)
     have hs4_22 : tb4 < (w21.alloc (.cells #[.string ⟨#[97]⟩, .string ⟨#[98]⟩] 9)).heap.size := by have := A.size; omega
     refine hK.out _ _ (fun _ => (HPd.out.row Gr22.out (fun g e => by cases e; exact hpc.symm)).c1) (fun _ => ?_)
     clear hK K
     clear A Gr21 HX21 hsd21 HS4_21 hs4_21
     generalize w21.heap.size = tb10 at *
     generalize w21.alloc (.cells #[.string ⟨#[97]⟩, .string ⟨#[98]⟩] 9) = w22 at *
     refine wpAnyF_ready (rs := [4, 6]) (by kernel_rfl) (by simp) ?_
     refine AllReadyF.cons rfl (fun K hK => ?_) (AllReadyF.cons rfl (fun K hK => ?_) (AllReadyF.nil))
     ·rw [if_pos (by kernel_rfl)]
      go_wp2_with fail
      refine (l1Str_any cb tb4 5 v zs [⟨#[102]⟩, ⟨#[104]⟩, ⟨#[]⟩, ⟨#[112, 114, 105, 110, 116]⟩, ⟨#[116]⟩] _ HX22.out rfl (by omega) (by omega) HS4_22.out hnc4).mono ?_
      rintro e w23 ⟨y1, rfl, hm, hC, hg⟩
      have hy1 : y1.size ≤ 100 := by
       simp only [List.mem_cons, List.not_mem_nil, or_false] at hm
       rcases hm with h | h | h | h | h <;> subst h <;> decide
      have Gr23 := Hid.mk (grownBy_trans Gr22.out hg)
      have HX23 := Hid.mk hC
      have hsd23 : sd ≤ w23.heap.size := by have := hg.size; omega
      have HS10_23 := Hid.mk ((hg.block tb10 hs10_22 (by intro e; simp at e; omega)).trans HS10_22.out)
      have hs10_23 : tb10 < w23.heap.size := by have := hg.size; omega
      refine hK.out _ _ (fun _ => (HPd.out.row Gr23.out (fun g e => by cases e; exact hpc.symm)).c1) (fun _ => ?_)
      clear hK K
      clear hm hC hg Gr22 HX22 hsd22 HS4_22 hs4_22 hnc4 HS10_22 hs10_22
      refine wpAnyF_ready (rs := [6]) (by kernel_rfl) (by simp) ?_
      refine AllReadyF.cons rfl (fun K hK => ?_) (AllReadyF.nil)
      rw [if_pos (by kernel_rfl)]
      go_wp2_with fail
      have A : Below w23.heap.size w23 (w23.alloc (.cells #[.string ⟨#[97]⟩, .string ⟨#[116]⟩, .string ⟨#[102]⟩] 9)) := (Below.refl _ _).alloc (Nat.le_refl _) _
      have Gr24 := Hid.mk (gy_below Gr23.out A)
      have HX24 := Hid.mk (HX23.out.grow A)
      have hsd24 : sd ≤ (w23.alloc (.cells #[.string ⟨#[97]⟩, .string ⟨#[116]⟩, .string ⟨#[102]⟩] 9)).heap.size := by have := A.size; omega
      have HS7_24 := Hid.mk (heap_alloc_new w23 (.cells #[.string ⟨#[97]⟩, .string ⟨#[116]⟩, .string ⟨#[102]⟩] 9))
      have hs7_24 : w23.heap.size < (w23.alloc (.cells #[.string ⟨#[97]⟩, .string ⟨#[116]⟩, .string ⟨#[102]⟩] 9)).heap.size := (Array.getElem?_eq_some_iff.1 (heap_alloc_new w23 (.cells #[.string ⟨#[97]⟩, .string ⟨#[116]⟩, .string ⟨#[102]⟩] 9))).1
      have hnc7 : w23.heap.size ≠ cb := by have := HX23.out.lt; omega
      have HS10_24 := Hid.mk ((A.block tb10 hs10_23).trans HS10_23.out)
      have hs10_24 : tb10 < (w23.alloc (.cells #[.string ⟨#[97]⟩, .string ⟨#[116]⟩, .string ⟨#[102]⟩] 9)).heap.size := by have := A.size; omega
      refine hK.out _ _ (fun _ => (HPd.out.row Gr24.out (fun g e => by cases e; exact hpc.symm)).c1) (fun _ => ?_)
      clear hK K
      clear A Gr23 HX23 hsd23 HS10_23 hs10_23
      generalize w23.heap.size = tb7 at *
      generalize w23.alloc (.cells #[.string ⟨#[97]⟩, .string ⟨#[116]⟩, .string ⟨#[102]⟩] 9) = w24 at *
      refine wpAnyF_ready (rs := [7]) (by kernel_rfl) (by simp) ?_
      refine AllReadyF.cons rfl (fun K hK => ?_) (AllReadyF.nil)
      rw [if_pos (by kernel_rfl)]
      go_wp2_with fail
      refine (l1Str_any cb tb7 3 v zs [⟨#[97]⟩, ⟨#[116]⟩, ⟨#[102]⟩] _ HX24.out rfl (by omega) (by omega) HS7_24.out hnc7).mono ?_
      rintro e w25 ⟨y2, rfl, hm, hC, hg⟩
      have hy2 : y2.size ≤ 100 := by
       simp only [List.mem_cons, List.not_mem_nil, or_false] at hm
       rcases hm with h | h | h <;> subst h <;> decide
      have Gr25 := Hid.mk (grownBy_trans Gr24.out hg)
      have HX25 := Hid.mk hC
      have hsd25 : sd ≤ w25.heap.size := by have := hg.size; omega
      have HS10_25 := Hid.mk ((hg.block tb10 hs10_24 (by intro e; simp at e; omega)).trans HS10_24.out)
      have hs10_25 : tb10 < w25.heap.size := by have := hg.size; omega
      refine hK.out _ _ (fun _ => (HPd.out.row Gr25.out (fun g e => by cases e; exact hpc.symm)).c1) (fun _ => ?_)
      clear hK K
      clear hm hC hg Gr24 HX24 hsd24 HS7_24 hs7_24 hnc7 HS10_24 hs10_24
      refine wpAnyF_ready (rs := [10]) (by kernel_rfl) (by simp) ?_
      refine AllReadyF.cons rfl (fun K hK => ?_) (AllReadyF.nil)
      rw [if_pos (by kernel_rfl)]
      go_wp2_with fail
      refine (l1Str_any cb tb10 2 v zs [⟨#[97]⟩, ⟨#[98]⟩] _ HX25.out rfl (by omega) (by omega) HS10_25.out hnc10).mono ?_
      rintro e w26 ⟨y3, rfl, hm, hC, hg⟩
      have hy3 : y3.size ≤ 100 := by
       simp only [List.mem_cons, List.not_mem_nil, or_false] at hm
       rcases hm with h | h <;> subst h <;> decide
      have Gr26 := Hid.mk (grownBy_trans Gr25.out hg)
      have HX26 := Hid.mk hC
      have hsd26 : sd ≤ w26.heap.size := by have := hg.size; omega
      refine hK.out _ _ (fun _ => (HPd.out.row Gr26.out (fun g e => by cases e; exact hpc.symm)).c1) (fun _ => ?_)
      clear hK K
      clear hm hC hg Gr25 HX25 hsd25 HS10_25 hs10_25 hnc10
      refine wpAnyF_ready (rs := [11]) (by kernel_rfl) (by simp) ?_
      refine AllReadyF.cons rfl (fun K hK => ?_) AllReadyF.nil
      rw [if_pos (by kernel_rfl)]
      go_wp2_with fail
      have A : Below w26.heap.size w26 (w26.alloc (.cells #[.string y2, .string y3] 9)) := (Below.refl _ _).alloc (Nat.le_refl _) _
      have GrA := Hid.mk (gy_below Gr26.out A)
      have HXA := Hid.mk (HX26.out.grow A)
      have HTA := Hid.mk (heap_alloc_new w26 (.cells #[.string y2, .string y3] 9))
      have hta : w26.heap.size < (w26.alloc (.cells #[.string y2, .string y3] 9)).heap.size := (Array.getElem?_eq_some_iff.1 (heap_alloc_new w26 (.cells #[.string y2, .string y3] 9))).1
      refine hK.out _ _ (fun _ => (HPd.out.row GrA.out (fun g e => by cases e; exact hpc.symm)).c1) (fun _ => ?_)
      clear hK K
      clear A Gr26 HX26
      generalize w26.heap.size = t3 at *
      generalize w26.alloc (.cells #[.string y2, .string y3] 9) = wA at *
      refine wpAnyF_ready (rs := [12]) (by kernel_rfl) (by simp) ?_
      refine AllReadyF.cons rfl (fun K hK => ?_) AllReadyF.nil
      rw [if_pos (by kernel_rfl)]
      go_wp2_with fail
      refine hK.out _ _ (fun _ => (HPd.out.row GrA.out (fun g e => by cases e; exact hpc.symm)).c1) (fun _ => ?_)
      clear hK K
      refine wpAnyF_ready (rs := [13]) (by kernel_rfl) (by simp) ?_
      refine AllReadyF.cons rfl (fun K hK => ?_) AllReadyF.nil
      rw [if_pos (by kernel_rfl)]
      go_wp2_with fail
      have A : Below wA.heap.size wA (wA.alloc (.cells #[.string y1, .slice (some ⟨t3, 0, none⟩) 2 2, .slice none 0 0] 63)) := (Below.refl _ _).alloc (Nat.le_refl _) _
      have GrB := Hid.mk (gy_below GrA.out A)
      have HXB := Hid.mk (HXA.out.grow A)
      have HTB := Hid.mk ((A.block t3 hta).trans HTA.out)
      have HNB := Hid.mk (heap_alloc_new wA (.cells #[.string y1, .slice (some ⟨t3, 0, none⟩) 2 2, .slice none 0 0] 63))
      have ht3p : pb < t3 := by omega
      have hlb : wA.heap.size < (wA.alloc (.cells #[.string y1, .slice (some ⟨t3, 0, none⟩) 2 2, .slice none 0 0] 63)).heap.size := (Array.getElem?_eq_some_iff.1 (heap_alloc_new wA (.cells #[.string y1, .slice (some ⟨t3, 0, none⟩) 2 2, .slice none 0 0] 63))).1
      refine hK.out _ _ (fun _ => (HPd.out.row GrB.out (fun g e => by cases e; exact hpc.symm)).c1) (fun _ => ?_)
      clear hK K
      clear A GrA HXA HTA
      generalize wA.heap.size = lb at *
      generalize wA.alloc (.cells #[.string y1, .slice (some ⟨t3, 0, none⟩) 2 2, .slice none 0 0] 63) = wB at *
      have HFB2 := Hid.mk (HFd.out.keep GrB.out (fun x e => by cases e; exact .inl (by omega)))
      have htb3 : Tb wB (nf wB t3) (.slice (some ⟨t3, 0, none⟩) 2 2) [y2, y3] := tb_of (xs := [y2, y3]) HTB.out ⟨Nat.le_refl _, fun o => frozen_of_row _ t3 o _ _ HTB.out⟩ (by simp; exact ⟨hy2, hy3⟩) (by simp)
      have hFl2 : F.length ≤ 1000 := by have := HFL.out; simp at this; omega
      have hfgb : nb ≤ fg := (World.ownsRow.lt HFB2.out.1 fg rfl).1
      refine wpAnyF_ready (rs := [14]) (by kernel_rfl) (by simp) ?_
      refine AllReadyF.cons rfl (fun K hK => ?_) AllReadyF.nil
      rw [if_pos (by kernel_rfl)]
      refine wp_append_fe (.tmp 49) (.tmp 61) rfl nb t3 pb (.slice (some ⟨fg, 0, none⟩) 2 fc) F ⟨⟨y1, [y2, y3], []⟩, .slice (some ⟨t3, 0, none⟩) 2 2, .slice none 0 0⟩ rfl HFB2.out.1 (HFB2.out.rowF (by omega)) (fun k hk => by simp [Value.ownBlock] at hk; omega) (by omega) lb rfl HNB.out htb3 (Sl.zero _ _) hy1 (by omega) (by omega) (fun k hk => by simp [Value.ownBlock] at hk; omega) (by omega) hFl2 ?_
      rintro V' w14 hE14 hg14
      obtain ⟨wo, wnn, wc2, rfl⟩ : ∃ o n c, V' = .slice o n c := by obtain ⟨o, c, h, -⟩ := hE14.len; exact ⟨_, _, _, h⟩
      have HP14 := Hid.mk ((HPd.out.row GrB.out (fun g e => by cases e; exact hpc.symm)).row hg14 (fun x e => by simp [Value.ownBlock] at e; omega))
      refine hK.out _ _ (fun _ => HP14.out.c1) (fun _ => ?_)
      clear hK K
      refine wpAnyF_ready (rs := [15]) (by kernel_rfl) (by simp) ?_
      refine AllReadyF.cons rfl (fun K hK => ?_) AllReadyF.nil
      rw [if_pos (by kernel_rfl)]
      go_wp2_with fail
      refine hK.out _ _ (fun _ => HP14.out.c1) (fun _ => ?_)
      clear hK K
      refine wpAnyF_ready (rs := [16]) (by kernel_rfl) (by simp) ?_
      refine AllReadyF.cons rfl (fun K hK => ?_) AllReadyF.nil
      have z1 := HP14.out.c1
      have zf := HP14.out.fr
      rw [if_pos (by kernel_rfl)]
      go_wp2_with fail
      refine hK.out _ _ (fun h => absurd rfl h) (fun _ => ?_)
      clear hK K
      refine wpAnyF_done (by kernel_rfl) ?_ _
      clear z1 zf
      have G7 := gb_set w14 pb 1 (.slice wo wnn wc2)
      have hu7 := ((HUBd.out.bnd (bnd_of GrB.out (fun x e => by cases e; exact .inl (by omega)))).bnd (bnd_of hg14 (fun x e => by simp [Value.ownBlock] at e; omega))).bnd (bnd_of G7 (fun x e => by cases e; exact .inr (Nat.le_refl _)))
      have HR7 : Hid (PgR (w14.setCell ⟨pb, 1, none⟩ (.slice wo wnn wc2)) (w.heap.size + 1) (.slice (some ⟨g, 0, none⟩) nU cap) (.slice wo wnn wc2)) := pgR_of (hu7.imp fun _ hb _ => ⟨by have := hb.1.1; omega, hb.1.2⟩) ((hE14.nfe G7).imp fun _ hb _ => ⟨by have := hb.1; omega, hb.2⟩) (fun r hr => Nat.le_trans (HUZ.out r hr) (by omega)) (fun f hf => by
       rcases List.mem_append.1 hf with hf | hf
       ·exact Nat.le_trans (HFZ.out f hf) (by omega)
       ·obtain rfl := List.mem_singleton.1 hf
        simp only [Fu.sz, gsz, szy]
        omega) HUL.out (by have := HFL.out; simp at this ⊢; omega)
      have HP7 := Hid.mk (HP14.out.put1 (.slice wo wnn wc2))
      have HB7 := Hid.mk (((HBd.out.row GrB.out (fun g e => by cases e; exact fun e => HNE.out e.symm)).row hg14 (fun x e => by simp [Value.ownBlock] at e; omega)).row G7 (fun x e => by cases e; omega))
      have HC7 := Hid.mk ((HXB.out.row hg14 (fun x e => by simp [Value.ownBlock] at e; exact ⟨by omega, fun hz k hk => by have := HV.out hz k hk; omega⟩)).row G7 (fun x e => by cases e; exact ⟨hpc, fun hz k hk => by have := HV.out hz k hk; omega⟩))
      have HG7 := Hid.mk (gy_far (gy_row (grownBy_trans HGd.out GrB.out) hg14 (fun x e => by simp [Value.ownBlock] at e; omega)) G7 (by omega))
      clear hu7 G7 HP14 hE14 hg14 HXB GrB HNB HTB HFB2 htb3 HPd HId HFd HUBd HFBd HBd HGd
      go_wp2
      go_meet
      case rel => exact ⟨(.slice (some ⟨g, 0, none⟩) nU cap), (.slice wo wnn wc2), HR7, HP7, HB7, HC7, HG7⟩
     ·rw [if_pos (by kernel_rfl)]
      go_wp2_with fail
      have A : Below w22.heap.size w22 (w22.alloc (.cells #[.string ⟨#[97]⟩, .string ⟨#[116]⟩, .string ⟨#[102]⟩] 9)) := (Below.refl _ _).alloc (Nat.le_refl _) _
      have Gr23 := Hid.mk (gy_below Gr22.out A)
      have HX23 := Hid.mk (HX22.out.grow A)
      have hsd23 : sd ≤ (w22.alloc (.cells #[.string ⟨#[97]⟩, .string ⟨#[116]⟩, .string ⟨#[102]⟩] 9)).heap.size := by have := A.size; omega
      have HS7_23 := Hid.mk (heap_alloc_new w22 (.cells #[.string ⟨#[97]⟩, .string ⟨#[116]⟩, .string ⟨#[102]⟩] 9))
      have hs7_23 : w22.heap.size < (w22.alloc (.cells #[.string ⟨#[97]⟩, .string ⟨#[116]⟩, .string ⟨#[102]⟩] 9)).heap.size := (Array.getElem?_eq_some_iff.1 (heap_alloc_new w22 (.cells #[.string ⟨#[97]⟩, .string ⟨#[116]⟩, .string ⟨#[102]⟩] 9))).1
      have hnc7 : w22.heap.size ≠ cb := by have := HX22.out.lt; omega
      have HS4_23 := Hid.mk ((A.block tb4 hs4_22).trans HS4_22.out)
      have hs4_23 : tb4 < (w22.alloc (.cells #[.string ⟨#[97]⟩, .string ⟨#[116]⟩, .string ⟨#[102]⟩] 9)).heap.size := by have := A.size; omega
      have HS10_23 := Hid.mk ((A.block tb10 hs10_22).trans HS10_22.out)
      have hs10_23 : tb10 < (w22.alloc (.cells #[.string ⟨#[97]⟩, .string ⟨#[116]⟩, .string ⟨#[102]⟩] 9)).heap.size := by have := A.size; omega
      refine hK.out _ _ (fun _ => (HPd.out.row Gr23.out (fun g e => by cases e; exact hpc.symm)).c1) (fun _ => ?_)
      clear hK K
      clear A Gr22 HX22 hsd22 HS4_22 hs4_22 HS10_22 hs10_22
      generalize w22.heap.size = tb7 at *
      generalize w22.alloc (.cells #[.string ⟨#[97]⟩, .string ⟨#[116]⟩, .string ⟨#[102]⟩] 9) = w23 at *
      refine wpAnyF_ready (rs := [4]) (by kernel_rfl) (by simp) ?_
      refine AllReadyF.cons rfl (fun K hK => ?_) (AllReadyF.nil)
      rw [if_pos (by kernel_rfl)]
      go_wp2_with fail
      refine (l1Str_any cb tb4 5 v zs [⟨#[102]⟩, ⟨#[104]⟩, ⟨#[]⟩, ⟨#[112, 114, 105, 110, 116]⟩, ⟨#[116]⟩] _ HX23.out rfl (by omega) (by omega) HS4_23.out hnc4).mono ?_
      rintro e w24 ⟨y1, rfl, hm, hC, hg⟩
      have hy1 : y1.size ≤ 100 := by
       simp only [List.mem_cons, List.not_mem_nil, or_false] at hm
       rcases hm with h | h | h | h | h <;> subst h <;> decide
      have Gr24 := Hid.mk (grownBy_trans Gr23.out hg)
      have HX24 := Hid.mk hC
      have hsd24 : sd ≤ w24.heap.size := by have := hg.size; omega
      have HS10_24 := Hid.mk ((hg.block tb10 hs10_23 (by intro e; simp at e; omega)).trans HS10_23.out)
      have hs10_24 : tb10 < w24.heap.size := by have := hg.size; omega
      have HS7_24 := Hid.mk ((hg.block tb7 hs7_23 (by intro e; simp at e; omega)).trans HS7_23.out)
      have hs7_24 : tb7 < w24.heap.size := by have := hg.size; omega
      refine hK.out _ _ (fun _ => (HPd.out.row Gr24.out (fun g e => by cases e; exact hpc.symm)).c1) (fun _ => ?_)
      clear hK K
      clear hm hC hg Gr23 HX23 hsd23 HS4_23 hs4_23 hnc4 HS10_23 hs10_23 HS7_23 hs7_23
      refine wpAnyF_ready (rs := [7]) (by kernel_rfl) (by simp) ?_
      refine AllReadyF.cons rfl (fun K hK => ?_) (AllReadyF.nil)
      rw [if_pos (by kernel_rfl)]
      go_wp2_with fail
      refine (l1Str_any cb tb7 3 v zs [⟨#[97]⟩, ⟨#[116]⟩, ⟨#[102]⟩] _ HX24.out rfl (by omega) (by omega) HS7_24.out hnc7).mono ?_
      rintro e w25 ⟨y2, rfl, hm, hC, hg⟩
      have hy2 : y2.size ≤ 100 := by
       simp only [List.mem_cons, List.not_mem_nil, or_false] at hm
       rcases hm with h | h | h <;> subst h <;> decide
      have Gr25 := Hid.mk (grownBy_trans Gr24.out hg)
      have HX25 := Hid.mk hC
      have hsd25 : sd ≤ w25.heap.size := by have := hg.size; omega
      have HS10_25 := Hid.mk ((hg.block tb10 hs10_24 (by intro e; simp at e; omega)).trans HS10_24.out)
      have hs10_25 : tb10 < w25.heap.size := by have := hg.size; omega
      refine hK.out _ _ (fun _ => (HPd.out.row Gr25.out (fun g e => by cases e; exact hpc.symm)).c1) (fun _ => ?_)
      clear hK K
      clear hm hC hg Gr24 HX24 hsd24 HS7_24 hs7_24 hnc7 HS10_24 hs10_24
      refine wpAnyF_ready (rs := [10]) (by kernel_rfl) (by simp) ?_
      refine AllReadyF.cons rfl (fun K hK => ?_) (AllReadyF.nil)
      rw [if_pos (by kernel_rfl)]
      go_wp2_with fail
      refine (l1Str_any cb tb10 2 v zs [⟨#[97]⟩, ⟨#[98]⟩] _ HX25.out rfl (by omega) (by omega) HS10_25.out hnc10).mono ?_
      rintro e w26 ⟨y3, rfl, hm, hC, hg⟩
      have hy3 : y3.size ≤ 100 := by
       simp only [List.mem_cons, List.not_mem_nil, or_false] at hm
       rcases hm with h | h <;> subst h <;> decide
      have Gr26 := Hid.mk (grownBy_trans Gr25.out hg)
      have HX26 := Hid.mk hC
      have hsd26 : sd ≤ w26.heap.size := by have := hg.size; omega
      refine hK.out _ _ (fun _ => (HPd.out.row Gr26.out (fun g e => by cases e; exact hpc.symm)).c1) (fun _ => ?_)
      clear hK K
      clear hm hC hg Gr25 HX25 hsd25 HS10_25 hs10_25 hnc10
      refine wpAnyF_ready (rs := [11]) (by kernel_rfl) (by simp) ?_
      refine AllReadyF.cons rfl (fun K hK => ?_) AllReadyF.nil
      rw [if_pos (by kernel_rfl)]
      go_wp2_with fail
      have A : Below w26.heap.size w26 (w26.alloc (.cells #[.string y2, .string y3] 9)) := (Below.refl _ _).alloc (Nat.le_refl _) _
      have GrA := Hid.mk (gy_below Gr26.out A)
      have HXA := Hid.mk (HX26.out.grow A)
      have HTA := Hid.mk (heap_alloc_new w26 (.cells #[.string y2, .string y3] 9))
      have hta : w26.heap.size < (w26.alloc (.cells #[.string y2, .string y3] 9)).heap.size := (Array.getElem?_eq_some_iff.1 (heap_alloc_new w26 (.cells #[.string y2, .string y3] 9))).1
      refine hK.out _ _ (fun _ => (HPd.out.row GrA.out (fun g e => by cases e; exact hpc.symm)).c1) (fun _ => ?_)
      clear hK K
      clear A Gr26 HX26
      generalize w26.heap.size = t3 at *
      generalize w26.alloc (.cells #[.string y2, .string y3] 9) = wA at *
      refine wpAnyF_ready (rs := [12]) (by kernel_rfl) (by simp) ?_
      refine AllReadyF.cons rfl (fun K hK => ?_) AllReadyF.nil
      rw [if_pos (by kernel_rfl)]
      go_wp2_with fail
      refine hK.out _ _ (fun _ => (HPd.out.row GrA.out (fun g e => by cases e; exact hpc.symm)).c1) (fun _ => ?_)
      clear hK K
      refine wpAnyF_ready (rs := [13]) (by kernel_rfl) (by simp) ?_
      refine AllReadyF.cons rfl (fun K hK => ?_) AllReadyF.nil
      rw [if_pos (by kernel_rfl)]
      go_wp2_with fail
      have A : Below wA.heap.size wA (wA.alloc (.cells #[.string y1, .slice (some ⟨t3, 0, none⟩) 2 2, .slice none 0 0] 63)) := (Below.refl _ _).alloc (Nat.le_refl _) _
      have GrB := Hid.mk (gy_below GrA.out A)
      have HXB := Hid.mk (HXA.out.grow A)
      have HTB := Hid.mk ((A.block t3 hta).trans HTA.out)
      have HNB := Hid.mk (heap_alloc_new wA (.cells #[.string y1, .slice (some ⟨t3, 0, none⟩) 2 2, .slice none 0 0] 63))
      have ht3p : pb < t3 := by omega
      have hlb : wA.heap.size < (wA.alloc (.cells #[.string y1, .slice (some ⟨t3, 0, none⟩) 2 2, .slice none 0 0] 63)).heap.size := (Array.getElem?_eq_some_iff.1 (heap_alloc_new wA (.cells #[.string y1, .slice (some ⟨t3, 0, none⟩) 2 2, .slice none 0 0] 63))).1
      refine hK.out _ _ (fun _ => (HPd.out.row GrB.out (fun g e => by cases e; exact hpc.symm)).c1) (fun _ => ?_)
      clear hK K
      clear A GrA HXA HTA
      generalize wA.heap.size = lb at *
      generalize wA.alloc (.cells #[.string y1, .slice (some ⟨t3, 0, none⟩) 2 2, .slice none 0 0] 63) = wB at *
      have HFB2 := Hid.mk (HFd.out.keep GrB.out (fun x e => by cases e; exact .inl (by omega)))
      have htb3 : Tb wB (nf wB t3) (.slice (some ⟨t3, 0, none⟩) 2 2) [y2, y3] := tb_of (xs := [y2, y3]) HTB.out ⟨Nat.le_refl _, fun o => frozen_of_row _ t3 o _ _ HTB.out⟩ (by simp; exact ⟨hy2, hy3⟩) (by simp)
      have hFl2 : F.length ≤ 1000 := by have := HFL.out; simp at this; omega
      have hfgb : nb ≤ fg := (World.ownsRow.lt HFB2.out.1 fg rfl).1
      refine wpAnyF_ready (rs := [14]) (by kernel_rfl) (by simp) ?_
      refine AllReadyF.cons rfl (fun K hK => ?_) AllReadyF.nil
      rw [if_pos (by kernel_rfl)]
      refine wp_append_fe (.tmp 49) (.tmp 61) rfl nb t3 pb (.slice (some ⟨fg, 0, none⟩) 2 fc) F ⟨⟨y1, [y2, y3], []⟩, .slice (some ⟨t3, 0, none⟩) 2 2, .slice none 0 0⟩ rfl HFB2.out.1 (HFB2.out.rowF (by omega)) (fun k hk => by simp [Value.ownBlock] at hk; omega) (by omega) lb rfl HNB.out htb3 (Sl.zero _ _) hy1 (by omega) (by omega) (fun k hk => by simp [Value.ownBlock] at hk; omega) (by omega) hFl2 ?_
      rintro V' w14 hE14 hg14
      obtain ⟨wo, wnn, wc2, rfl⟩ : ∃ o n c, V' = .slice o n c := by obtain ⟨o, c, h, -⟩ := hE14.len; exact ⟨_, _, _, h⟩
      have HP14 := Hid.mk ((HPd.out.row GrB.out (fun g e => by cases e; exact hpc.symm)).row hg14 (fun x e => by simp [Value.ownBlock] at e; omega))
      refine hK.out _ _ (fun _ => HP14.out.c1) (fun _ => ?_)
      clear hK K
      refine wpAnyF_ready (rs := [15]) (by kernel_rfl) (by simp) ?_
      refine AllReadyF.cons rfl (fun K hK => ?_) AllReadyF.nil
      rw [if_pos (by kernel_rfl)]
      go_wp2_with fail
      refine hK.out _ _ (fun _ => HP14.out.c1) (fun _ => ?_)
      clear hK K
      refine wpAnyF_ready (rs := [16]) (by kernel_rfl) (by simp) ?_
      refine AllReadyF.cons rfl (fun K hK => ?_) AllReadyF.nil
      have z1 := HP14.out.c1
      have zf := HP14.out.fr
      rw [if_pos (by kernel_rfl)]
      go_wp2_with fail
      refine hK.out _ _ (fun h => absurd rfl h) (fun _ => ?_)
      clear hK K
      refine wpAnyF_done (by kernel_rfl) ?_ _
      clear z1 zf
      have G7 := gb_set w14 pb 1 (.slice wo wnn wc2)
      have hu7 := ((HUBd.out.bnd (bnd_of GrB.out (fun x e => by cases e; exact .inl (by omega)))).bnd (bnd_of hg14 (fun x e => by simp [Value.ownBlock] at e; omega))).bnd (bnd_of G7 (fun x e => by cases e; exact .inr (Nat.le_refl _)))
      have HR7 : Hid (PgR (w14.setCell ⟨pb, 1, none⟩ (.slice wo wnn wc2)) (w.heap.size + 1) (.slice (some ⟨g, 0, none⟩) nU cap) (.slice wo wnn wc2)) := pgR_of (hu7.imp fun _ hb _ => ⟨by have := hb.1.1; omega, hb.1.2⟩) ((hE14.nfe G7).imp fun _ hb _ => ⟨by have := hb.1; omega, hb.2⟩) (fun r hr => Nat.le_trans (HUZ.out r hr) (by omega)) (fun f hf => by
       rcases List.mem_append.1 hf with hf | hf
       ·exact Nat.le_trans (HFZ.out f hf) (by omega)
       ·obtain rfl := List.mem_singleton.1 hf
        simp only [Fu.sz, gsz, szy]
        omega) HUL.out (by have := HFL.out; simp at this ⊢; omega)
      have HP7 := Hid.mk (HP14.out.put1 (.slice wo wnn wc2))
      have HB7 := Hid.mk (((HBd.out.row GrB.out (fun g e => by cases e; exact fun e => HNE.out e.symm)).row hg14 (fun x e => by simp [Value.ownBlock] at e; omega)).row G7 (fun x e => by cases e; omega))
      have HC7 := Hid.mk ((HXB.out.row hg14 (fun x e => by simp [Value.ownBlock] at e; exact ⟨by omega, fun hz k hk => by have := HV.out hz k hk; omega⟩)).row G7 (fun x e => by cases e; exact ⟨hpc, fun hz k hk => by have := HV.out hz k hk; omega⟩))
      have HG7 := Hid.mk (gy_far (gy_row (grownBy_trans HGd.out GrB.out) hg14 (fun x e => by simp [Value.ownBlock] at e; omega)) G7 (by omega))
      clear hu7 G7 HP14 hE14 hg14 HXB GrB HNB HTB HFB2 htb3 HPd HId HFd HUBd HFBd HBd HGd
      go_wp2
      go_meet
      case rel => exact ⟨(.slice (some ⟨g, 0, none⟩) nU cap), (.slice wo wnn wc2), HR7, HP7, HB7, HC7, HG7⟩
   ·rw [if_pos (by kernel_rfl)]
    go_wp2_with fail
    have A : Below wd.heap.size wd (wd.alloc (.cells #[.string ⟨#[97]⟩, .string ⟨#[116]⟩, .string ⟨#[102]⟩] 9)) := (Below.refl _ _).alloc (Nat.le_refl _) _
    have Gr21 := Hid.mk (gy_below Gr20.out A)
    have HX21 := Hid.mk (HX20.out.grow A)
    have hsd21 : sd ≤ (wd.alloc (.cells #[.string ⟨#[97]⟩, .string ⟨#[116]⟩, .string ⟨#[102]⟩] 9)).heap.size := by have := A.size; omega
    have HS7_21 := Hid.mk (heap_alloc_new wd (.cells #[.string ⟨#[97]⟩, .string ⟨#[116]⟩, .string ⟨#[102]⟩] 9))
    have hs7_21 : wd.heap.size < (wd.alloc (.cells #[.string ⟨#[97]⟩, .string ⟨#[116]⟩, .string ⟨#[102]⟩] 9)).heap.size := (Array.getElem?_eq_some_iff.1 (heap_alloc_new wd (.cells #[.string ⟨#[97]⟩, .string ⟨#[116]⟩, .string ⟨#[102]⟩] 9))).1
    have hnc7 : wd.heap.size ≠ cb := by have := HX20.out.lt; omega
    refine hK.out _ _ (fun _ => (HPd.out.row Gr21.out (fun g e => by cases e; exact hpc.symm)).c1) (fun _ => ?_)
    clear hK K
    clear A Gr20 HX20 hsd20
    generalize wd.heap.size = tb7 at *
    generalize wd.alloc (.cells #[.string ⟨#[97]⟩, .string ⟨#[116]⟩, .string ⟨#[102]⟩] 9) = w21 at *
    refine wpAnyF_ready (rs := [3, 9]) (by kernel_rfl) (by simp) ?_
    refine AllReadyF.cons rfl (fun K hK => ?_) (AllReadyF.cons rfl (fun K hK => ?_) (AllReadyF.nil))
    ·rw [if_pos (by kernel_rfl)]
     go_wp2_with fail
     have A : Below w21.heap.size w21 (w21.alloc (.cells #[.string ⟨#[102]⟩, .string ⟨#[104]⟩, .string ⟨#[]⟩, .string ⟨#[112, 114, 105, 110, 116]⟩, .string ⟨#[116]⟩] 9)) := (Below.refl _ _).alloc (Nat.le_refl _) _
     have Gr22 := Hid.mk (gy_below Gr21.out A)
     have HX22 := Hid.mk (HX21.out.grow A)
     have hsd22 : sd ≤ (w21.alloc (.cells #[.string ⟨#[102]⟩, .string ⟨#[104]⟩, .string ⟨#[]⟩, .string ⟨#[112, 114, 105, 110, 116]⟩, .string ⟨#[116]⟩] 9)).heap.size := by have := A.size; omega
     have HS4_22 := Hid.mk (heap_alloc_new w21 (.cells #[.string ⟨#[102]⟩, .string ⟨#[104]⟩, .string ⟨#[]⟩, .string ⟨#[112, 114, 105, 110, 116]⟩, .string ⟨#[116]⟩] 9))
     have hs4_22 : w21.heap.size < (w21.alloc (.cells #[.string ⟨#[102]⟩, .string ⟨#[104]⟩, .string ⟨#[]⟩, .string ⟨#[112, 114, 105, 110, 116]⟩, .string ⟨#[116]⟩] 9)).heap.size := (Array.getElem?_eq_some_iff.1 (heap_alloc_new w21 (.cells #[.string ⟨#[102]⟩, .string ⟨#[104]⟩, .string ⟨#[]⟩, .string ⟨#[112, 114, 105, 110, 116]⟩, .string ⟨#[116]⟩] 9))).1
     have hnc4 : w21.heap.size ≠ cb := by have := HX21.out.lt; omega
     have HS7_22 := Hid.mk ((A.block tb7 hs7_21).trans HS7_21.out)
     have hs7_22 : tb7 < (w21.alloc (.cells #[.string ⟨#[102]⟩, .string ⟨#[104]⟩, .string ⟨#[]⟩, .string ⟨#[112, 114, 105, 110, 116]⟩, .string ⟨#[116]⟩] 9)).heap.size := by have := A.size; omega
     refine hK.out _ _ (fun _ => (HPd.out.row Gr22.out (fun g e => by cases e; exact hpc.symm)).c1) (fun _ => ?_)
     clear hK K
     clear A Gr21 HX21 hsd21 HS7_21 hs7_21
     generalize w21.heap.size = tb4 at *
     generalize w21.alloc (.cells #[.string ⟨#[102]⟩, .string ⟨#[104]⟩, .string ⟨#[]⟩, .string ⟨#[112, 114, 105, 110, 116]⟩, .string ⟨#[116]⟩] 9) = w22 at *
     refine wpAnyF_ready (rs := [4, 9]) (by kernel_rfl) (by simp) ?_
     refine AllReadyF.cons rfl (fun K hK => ?_) (AllReadyF.cons rfl (fun K hK => ?_) (AllReadyF.nil))
     ·rw [if_pos (by kernel_rfl)]
      go_wp2_with fail
      refine (l1Str_any cb tb4 5 v zs [⟨#[102]⟩, ⟨#[104]⟩, ⟨#[]⟩, ⟨#[112, 114, 105, 110, 116]⟩, ⟨#[116]⟩] _ HX22.out rfl (by omega) (by omega) HS4_22.out hnc4).mono ?_
      rintro e w23 ⟨y1, rfl, hm, hC, hg⟩
      have hy1 : y1.size ≤ 100 := by
       simp only [List.mem_cons, List.not_mem_nil, or_false] at hm
       rcases hm with h | h | h | h | h <;> subst h <;> decide
      have Gr23 := Hid.mk (grownBy_trans Gr22.out hg)
      have HX23 := Hid.mk hC
      have hsd23 : sd ≤ w23.heap.size := by have := hg.size; omega
      have HS7_23 := Hid.mk ((hg.block tb7 hs7_22 (by intro e; simp at e; omega)).trans HS7_22.out)
      have hs7_23 : tb7 < w23.heap.size := by have := hg.size; omega
      refine hK.out _ _ (fun _ => (HPd.out.row Gr23.out (fun g e => by cases e; exact hpc.symm)).c1) (fun _ => ?_)
      clear hK K
      clear hm hC hg Gr22 HX22 hsd22 HS4_22 hs4_22 hnc4 HS7_22 hs7_22
      refine wpAnyF_ready (rs := [7, 9]) (by kernel_rfl) (by simp) ?_
      refine AllReadyF.cons rfl (fun K hK => ?_) (AllReadyF.cons rfl (fun K hK => ?_) (AllReadyF.nil))
      ·rw [if_pos (by kernel_rfl)]
       go_wp2_with fail
       refine (l1Str_any cb tb7 3 v zs [⟨#[97]⟩, ⟨#[116]⟩, ⟨#[102]⟩] _ HX23.out rfl (by omega) (by omega) HS7_23.out hnc7).mono ?_
       rintro e w24 ⟨y2, rfl, hm, hC, hg⟩
       have hy2 : y2.size ≤ 100 := by
        simp only [List.mem_cons, List.not_mem_nil, or_false] at hm
        rcases hm with h | h | h <;> subst h <;> decide
       have Gr24 := Hid.mk (grownBy_trans Gr23.out hg)
       have HX24 := Hid.mk hC
       have hsd24 : sd ≤ w24.heap.size := by have := hg.size; omega
       refine hK.out _ _ (fun _ => (HPd.out.row Gr24.out (fun g e => by cases e; exact hpc.symm)).c1) (fun _ => ?_)
       clear hK K
       clear hm hC hg Gr23 HX23 hsd23 HS7_23 hs7_23 hnc7
       refine wpAnyF_ready (rs := [9]) (by kernel_rfl) (by simp) ?_
       refine AllReadyF.cons rfl (fun K hK => ?_) (AllReadyF.nil)
       rw [if_pos (by kernel_rfl)]
       go_wp2_with fail
       have A : Below w24.heap.size w24 (w24.alloc (.cells #[.string ⟨#[97]⟩, .string ⟨#[98]⟩] 9)) := (Below.refl _ _).alloc (Nat.le_refl _) _
       have Gr25 := Hid.mk (gy_below Gr24.out A)
       have HX25 := Hid.mk (HX24.out.grow A)
       have hsd25 : sd ≤ (w24.alloc (.cells #[.string ⟨#[97]⟩, .string ⟨#[98]⟩] 9)).heap.size := by have := A.size; omega
       have HS10_25 := Hid.mk (heap_alloc_new w24 (.cells #[.string ⟨#[97]⟩, .string ⟨#[98]⟩] 9))
       have hs10_25 : w24.heap.size < (w24.alloc (.cells #[.string ⟨#[97]⟩, .string ⟨#[98]⟩] 9)).heap.size := (Array.getElem?_eq_some_iff.1 (heap_alloc_new w24 (.cells #[.string ⟨#[97]⟩, .string ⟨#[98]⟩] 9))).1
       have hnc10 : w24.heap.size ≠ cb := by have := HX24.out.lt; omega
       refine hK.out _ _ (fun _ => (HPd.out.row Gr25.out (fun g e => by cases e; exact hpc.symm)).c1) (fun _ => ?_)
       clear hK K
       clear A Gr24 HX24 hsd24
       generalize w24.heap.size = tb10 at *
       generalize w24.alloc (.cells #[.string ⟨#[97]⟩, .string ⟨#[98]⟩] 9) = w25 at *
       refine wpAnyF_ready (rs := [10]) (by kernel_rfl) (by simp) ?_
       refine AllReadyF.cons rfl (fun K hK => ?_) (AllReadyF.nil)
       rw [if_pos (by kernel_rfl)]
       go_wp2_with fail
       refine (l1Str_any cb tb10 2 v zs [⟨#[97]⟩, ⟨#[98]⟩] _ HX25.out rfl (by omega) (by omega) HS10_25.out hnc10).mono ?_
       rintro e w26 ⟨y3, rfl, hm, hC, hg⟩
       have hy3 : y3.size ≤ 100 := by
        simp only [List.mem_cons, List.not_mem_nil, or_false] at hm
        rcases hm with h | h <;> subst h <;> decide
       have Gr26 := Hid.mk (grownBy_trans Gr25.out hg)
       have HX26 := Hid.mk hC
       have hsd26 : sd ≤ w26.heap.size := by have := hg.size; omega
       refine hK.out _ _ (fun _ => (HPd.out.row Gr26.out (fun g e => by cases e; exact hpc.symm)).c1) (fun _ => ?_)
       clear hK K
       clear hm hC hg Gr25 HX25 hsd25 HS10_25 hs10_25 hnc10
       refine wpAnyF_ready (rs := [11]) (by kernel_rfl) (by simp) ?_
       refine AllReadyF.cons rfl (fun K hK => ?_) AllReadyF.nil
       rw [if_pos (by kernel_rfl)]
       go_wp2_with fail
       have A : Below w26.heap.size w26 (w26.alloc (.cells #[.string y2, .string y3] 9)) := (Below.refl _ _).alloc (Nat.le_refl _) _
       have GrA := Hid.mk (gy_below Gr26.out A)
       have HXA := Hid.mk (HX26.out.grow A)
       have HTA := Hid.mk (heap_alloc_new w26 (.cells #[.string y2, .string y3] 9))
       have hta : w26.heap.size < (w26.alloc (.cells #[.string y2, .string y3] 9)).heap.size := (Array.getElem?_eq_some_iff.1 (heap_alloc_new w26 (.cells #[.string y2, .string y3] 9))).1
       refine hK.out _ _ (fun _ => (HPd.out.row GrA.out (fun g e => by cases e; exact hpc.symm)).c1) (fun _ => ?_)
       clear hK K
       clear A Gr26 HX26
       generalize w26.heap.size = t3 at *
       generalize w26.alloc (.cells #[.string y2, .string y3] 9) = wA at *
       refine wpAnyF_ready (rs := [12]) (by kernel_rfl) (by simp) ?_
       refine AllReadyF.cons rfl (fun K hK => ?_) AllReadyF.nil
       rw [if_pos (by kernel_rfl)]
       go_wp2_with fail
       refine hK.out _ _ (fun _ => (HPd.out.row GrA.out (fun g e => by cases e; exact hpc.symm)).c1) (fun _ => ?_)
       clear hK K
       refine wpAnyF_ready (rs := [13]) (by kernel_rfl) (by simp) ?_
       refine AllReadyF.cons rfl (fun K hK => ?_) AllReadyF.nil
       rw [if_pos (by kernel_rfl)]
       go_wp2_with fail
       have A : Below wA.heap.size wA (wA.alloc (.cells #[.string y1, .slice (some ⟨t3, 0, none⟩) 2 2, .slice none 0 0] 63)) := (Below.refl _ _).alloc (Nat.le_refl _) _
       have GrB := Hid.mk (gy_below GrA.out A)
       have HXB := Hid.mk (HXA.out.grow A)
       have HTB := Hid.mk ((A.block t3 hta).trans HTA.out)
       have HNB := Hid.mk (heap_alloc_new wA (.cells #[.string y1, .slice (some ⟨t3, 0, none⟩) 2 2, .slice none 0 0] 63))
       have ht3p : pb < t3 := by omega
       have hlb : wA.heap.size < (wA.alloc (.cells #[.string y1, .slice (some ⟨t3, 0, none⟩) 2 2, .slice none 0 0] 63)).heap.size := (Array.getElem?_eq_some_iff.1 (heap_alloc_new wA (.cells #[.string y1, .slice (some ⟨t3, 0, none⟩) 2 2, .slice none 0 0] 63))).1
       refine hK.out _ _ (fun _ => (HPd.out.row GrB.out (fun g e => by cases e; exact hpc.symm)).c1) (fun _ => ?_)
       clear hK K
       clear A GrA HXA HTA
       generalize wA.heap.size = lb at *
       generalize wA.alloc (.cells #[.string y1, .slice (some ⟨t3, 0, none⟩) 2 2, .slice none 0 0] 63) = wB at *
       have HFB2 := Hid.mk (HFd.out.keep GrB.out (fun x e => by cases e; exact .inl (by omega)))
       have htb3 : Tb wB (nf wB t3) (.slice (some ⟨t3, 0, none⟩) 2 2) [y2, y3] := tb_of (xs := [y2, y3]) HTB.out ⟨Nat.le_refl _, fun o => frozen_of_row _ t3 o _ _ HTB.out⟩ (by simp; exact ⟨hy2, hy3⟩) (by simp)
       have hFl2 : F.length ≤ 1000 := by have := HFL.out; simp at this; omega
       have hfgb : nb ≤ fg := (World.ownsRow.lt HFB2.out.1 fg rfl).1
       refine wpAnyF_ready (rs := [14]) (by kernel_rfl) (by simp) ?_
       refine AllReadyF.cons rfl (fun K hK => ?_) AllReadyF.nil
       rw [if_pos (by kernel_rfl)]
       refine wp_append_fe (.tmp 49) (.tmp 61) rfl nb t3 pb (.slice (some ⟨fg, 0, none⟩) 2 fc) F ⟨⟨y1, [y2, y3], []⟩, .slice (some ⟨t3, 0, none⟩) 2 2, .slice none 0 0⟩ rfl HFB2.out.1 (HFB2.out.rowF (by omega)) (fun k hk => by simp [Value.ownBlock] at hk; omega) (by omega) lb rfl HNB.out htb3 (Sl.zero _ _) hy1 (by omega) (by omega) (fun k hk => by simp [Value.ownBlock] at hk; omega) (by omega) hFl2 ?_
       rintro V' w14 hE14 hg14
       obtain ⟨wo, wnn, wc2, rfl⟩ : ∃ o n c, V' = .slice o n c := by obtain ⟨o, c, h, -⟩ := hE14.len; exact ⟨_, _, _, h⟩
       have HP14 := Hid.mk ((HPd.out.row GrB.out (fun g e => by cases e; exact hpc.symm)).row hg14 (fun x e => by simp [Value.ownBlock] at e; omega))
       refine hK.out _ _ (fun _ => HP14.out.c1) (fun _ => ?_)
       clear hK K
       refine wpAnyF_ready (rs := [15]) (by kernel_rfl) (by simp) ?_
       refine AllReadyF.cons rfl (fun K hK => ?_) AllReadyF.nil
       rw [if_pos (by kernel_rfl)]
       go_wp2_with fail
       refine hK.out _ _ (fun _ => HP14.out.c1) (fun _ => ?_)
       clear hK K
       refine wpAnyF_ready (rs := [16]) (by kernel_rfl) (by simp) ?_
       refine AllReadyF.cons rfl (fun K hK => ?_) AllReadyF.nil
       have z1 := HP14.out.c1
       have zf := HP14.out.fr
       rw [if_pos (by kernel_rfl)]
       go_wp2_with fail
       refine hK.out _ _ (fun h => absurd rfl h) (fun _ => ?_)
       clear hK K
       refine wpAnyF_done (by kernel_rfl) ?_ _
       clear z1 zf
       have G7 := gb_set w14 pb 1 (.slice wo wnn wc2)
       have hu7 := ((HUBd.out.bnd (bnd_of GrB.out (fun x e => by cases e; exact .inl (by omega)))).bnd (bnd_of hg14 (fun x e => by simp [Value.ownBlock] at e; omega))).bnd (bnd_of G7 (fun x e => by cases e; exact .inr (Nat.le_refl _)))
       have HR7 : Hid (PgR (w14.setCell ⟨pb, 1, none⟩ (.slice wo wnn wc2)) (w.heap.size + 1) (.slice (some ⟨g, 0, none⟩) nU cap) (.slice wo wnn wc2)) := pgR_of (hu7.imp fun _ hb _ => ⟨by have := hb.1.1; omega, hb.1.2⟩) ((hE14.nfe G7).imp fun _ hb _ => ⟨by have := hb.1; omega, hb.2⟩) (fun r hr => Nat.le_trans (HUZ.out r hr) (by omega)) (fun f hf => by
        rcases List.mem_append.1 hf with hf | hf
        ·exact Nat.le_trans (HFZ.out f hf) (by omega)
        ·obtain rfl := List.mem_singleton.1 hf
         simp only [Fu.sz, gsz, szy]
         omega) HUL.out (by have := HFL.out; simp at this ⊢; omega)
       have HP7 := Hid.mk (HP14.out.put1 (.slice wo wnn wc2))
       have HB7 := Hid.mk (((HBd.out.row GrB.out (fun g e => by cases e; exact fun e => HNE.out e.symm)).row hg14 (fun x e => by simp [Value.ownBlock] at e; omega)).row G7 (fun x e => by cases e; omega))
       have HC7 := Hid.mk ((HXB.out.row hg14 (fun x e => by simp [Value.ownBlock] at e; exact ⟨by omega, fun hz k hk => by have := HV.out hz k hk; omega⟩)).row G7 (fun x e => by cases e; exact ⟨hpc, fun hz k hk => by have := HV.out hz k hk; omega⟩))
       have HG7 := Hid.mk (gy_far (gy_row (grownBy_trans HGd.out GrB.out) hg14 (fun x e => by simp [Value.ownBlock] at e; omega)) G7 (by omega))
       clear hu7 G7 HP14 hE14 hg14 HXB GrB HNB HTB HFB2 htb3 HPd HId HFd HUBd HFBd HBd HGd
       go_wp2
       go_meet
       case rel => exact ⟨(.slice (some ⟨g, 0, none⟩) nU cap), (.slice wo wnn wc2), HR7, HP7, HB7, HC7, HG7⟩
      ·rw [if_pos (by kernel_rfl)]
       go_wp2_with fail
       have A : Below w23.heap.size w23 (w23.alloc (.cells #[.string ⟨#[97]⟩, .string ⟨#[98]⟩] 9)) := (Below.refl _ _).alloc (Nat.le_refl _) _
       have Gr24 := Hid.mk (gy_below Gr23.out A)
       have HX24 := Hid.mk (HX23.out.grow A)
       have hsd24 : sd ≤ (w23.alloc (.cells #[.string ⟨#[97]⟩, .string ⟨#[98]⟩] 9)).heap.size := by have := A.size; omega
       have HS10_24 := Hid.mk (heap_alloc_new w23 (.cells #[.string ⟨#[97]⟩, .string ⟨#[98]⟩] 9))
       have hs10_24 : w23.heap.size < (w23.alloc (.cells #[.string ⟨#[97]⟩, .string ⟨#[98]⟩] 9)).heap.size := (Array.getElem?_eq_some_iff.1 (heap_alloc_new w23 (.cells #[.string ⟨#[97]⟩, .string ⟨#[98]⟩] 9))).1
       have hnc10 : w23.heap.size ≠ cb := by have := HX23.out.lt; omega
       have HS7_24 := Hid.mk ((A.block tb7 hs7_23).trans HS7_23.out)
       have hs7_24 : tb7 < (w23.alloc (.cells #[.string ⟨#[97]⟩, .string ⟨#[98]⟩] 9)).heap.size := by have := A.size; omega
       refine hK.out _ _ (fun _ => (HPd.out.row Gr24.out (fun g e => by cases e; exact hpc.symm)).c1) (fun _ => ?_)
       clear hK K
       clear A Gr23 HX23 hsd23 HS7_23 hs7_23
       generalize w23.heap.size = tb10 at *
       generalize w23.alloc (.cells #[.string ⟨#[97]⟩, .string ⟨#[98]⟩] 9) = w24 at *
       refine wpAnyF_ready (rs := [7]) (by kernel_rfl) (by simp) ?_
       refine AllReadyF.cons rfl (fun K hK => ?_) (AllReadyF.nil)
       rw [if_pos (by kernel_rfl)]
       go_wp2_with fail
       refine (l1Str_any cb tb7 3 v zs [⟨#[97]⟩, ⟨#[116]⟩, ⟨#[102]⟩] _ HX24.out rfl (by omega) (by omega) HS7_24.out hnc7).mono ?_
       rintro e w25 ⟨y2, rfl, hm, hC, hg⟩
       have hy2 : y2.size ≤ 100 := by
        simp only [List.mem_cons, List.not_mem_nil, or_false] at hm
        rcases hm with h | h | h <;> subst h <;> decide
       have Gr25 := Hid.mk (grownBy_trans Gr24.out hg)
       have HX25 := Hid.mk hC
       have hsd25 : sd ≤ w25.heap.size := by have := hg.size; omega
       have HS10_25 := Hid.mk ((hg.block tb10 hs10_24 (by intro e; simp at e; omega)).trans HS10_24.out)
       have hs10_25 : tb10 < w25.heap.size := by have := hg.size; omega
       refine hK.out _ _ (fun _ => (HPd.out.row Gr25.out (fun g e => by cases e; exact hpc.symm)).c1) (fun _ => ?_)
       clear hK K
       clear hm hC hg Gr24 HX24 hsd24 HS7_24 hs7_24 hnc7 HS10_24 hs10_24
       refine wpAnyF_ready (rs := [10]) (by kernel_rfl) (by simp) ?_
       refine AllReadyF.cons rfl (fun K hK => ?_) (AllReadyF.nil)
       rw [if_pos (by kernel_rfl)]
       go_wp2_with fail
       refine (l1Str_any cb tb10 2 v zs [⟨#[97]⟩, ⟨#[98]⟩] _ HX25.out rfl (by omega) (by omega) HS10_25.out hnc10).mono ?_
       rintro e w26 ⟨y3, rfl, hm, hC, hg⟩
       have hy3 : y3.size ≤ 100 := by
        simp only [List.mem_cons, List.not_mem_nil, or_false] at hm
        rcases hm with h | h <;> subst h <;> decide
       have Gr26 := Hid.mk (grownBy_trans Gr25.out hg)
       have HX26 := Hid.mk hC
       have hsd26 : sd ≤ w26.heap.size := by have := hg.size; omega
       refine hK.out _ _ (fun _ => (HPd.out.row Gr26.out (fun g e => by cases e; exact hpc.symm)).c1) (fun _ => ?_)
       clear hK K
       clear hm hC hg Gr25 HX25 hsd25 HS10_25 hs10_25 hnc10
       refine wpAnyF_ready (rs := [11]) (by kernel_rfl) (by simp) ?_
       refine AllReadyF.cons rfl (fun K hK => ?_) AllReadyF.nil
       rw [if_pos (by kernel_rfl)]
       go_wp2_with fail
       have A : Below w26.heap.size w26 (w26.alloc (.cells #[.string y2, .string y3] 9)) := (Below.refl _ _).alloc (Nat.le_refl _) _
       have GrA := Hid.mk (gy_below Gr26.out A)
       have HXA := Hid.mk (HX26.out.grow A)
       have HTA := Hid.mk (heap_alloc_new w26 (.cells #[.string y2, .string y3] 9))
       have hta : w26.heap.size < (w26.alloc (.cells #[.string y2, .string y3] 9)).heap.size := (Array.getElem?_eq_some_iff.1 (heap_alloc_new w26 (.cells #[.string y2, .string y3] 9))).1
       refine hK.out _ _ (fun _ => (HPd.out.row GrA.out (fun g e => by cases e; exact hpc.symm)).c1) (fun _ => ?_)
       clear hK K
       clear A Gr26 HX26
       generalize w26.heap.size = t3 at *
       generalize w26.alloc (.cells #[.string y2, .string y3] 9) = wA at *
       refine wpAnyF_ready (rs := [12]) (by kernel_rfl) (by simp) ?_
       refine AllReadyF.cons rfl (fun K hK => ?_) AllReadyF.nil
       rw [if_pos (by kernel_rfl)]
       go_wp2_with fail
       refine hK.out _ _ (fun _ => (HPd.out.row GrA.out (fun g e => by cases e; exact hpc.symm)).c1) (fun _ => ?_)
       clear hK K
       refine wpAnyF_ready (rs := [13]) (by kernel_rfl) (by simp) ?_
       refine AllReadyF.cons rfl (fun K hK => ?_) AllReadyF.nil
       rw [if_pos (by kernel_rfl)]
       go_wp2_with fail
       have A : Below wA.heap.size wA (wA.alloc (.cells #[.string y1, .slice (some ⟨t3, 0, none⟩) 2 2, .slice none 0 0] 63)) := (Below.refl _ _).alloc (Nat.le_refl _) _
       have GrB := Hid.mk (gy_below GrA.out A)
       have HXB := Hid.mk (HXA.out.grow A)
       have HTB := Hid.mk ((A.block t3 hta).trans HTA.out)
       have HNB := Hid.mk (heap_alloc_new wA (.cells #[.string y1, .slice (some ⟨t3, 0, none⟩) 2 2, .slice none 0 0] 63))
       have ht3p : pb < t3 := by omega
       have hlb : wA.heap.size < (wA.alloc (.cells #[.string y1, .slice (some ⟨t3, 0, none⟩) 2 2, .slice none 0 0] 63)).heap.size := (Array.getElem?_eq_some_iff.1 (heap_alloc_new wA (.cells #[.string y1, .slice (some ⟨t3, 0, none⟩) 2 2, .slice none 0 0] 63))).1
       refine hK.out _ _ (fun _ => (HPd.out.row GrB.out (fun g e => by cases e; exact hpc.symm)).c1) (fun _ => ?_)
       clear hK K
       clear A GrA HXA HTA
       generalize wA.heap.size = lb at *
       generalize wA.alloc (.cells #[.string y1, .slice (some ⟨t3, 0, none⟩) 2 2, .slice none 0 0] 63) = wB at *
       have HFB2 := Hid.mk (HFd.out.keep GrB.out (fun x e => by cases e; exact .inl (by omega)))
       have htb3 : Tb wB (nf wB t3) (.slice (some ⟨t3, 0, none⟩) 2 2) [y2, y3] := tb_of (xs := [y2, y3]) HTB.out ⟨Nat.le_refl _, fun o => frozen_of_row _ t3 o _ _ HTB.out⟩ (by simp; exact ⟨hy2, hy3⟩) (by simp)
       have hFl2 : F.length ≤ 1000 := by have := HFL.out; simp at this; omega
       have hfgb : nb ≤ fg := (World.ownsRow.lt HFB2.out.1 fg rfl).1
       refine wpAnyF_ready (rs := [14]) (by kernel_rfl) (by simp) ?_
       refine AllReadyF.cons rfl (fun K hK => ?_) AllReadyF.nil
       rw [if_pos (by kernel_rfl)]
       refine wp_append_fe (.tmp 49) (.tmp 61) rfl nb t3 pb (.slice (some ⟨fg, 0, none⟩) 2 fc) F ⟨⟨y1, [y2, y3], []⟩, .slice (some ⟨t3, 0, none⟩) 2 2, .slice none 0 0⟩ rfl HFB2.out.1 (HFB2.out.rowF (by omega)) (fun k hk => by simp [Value.ownBlock] at hk; omega) (by omega) lb rfl HNB.out htb3 (Sl.zero _ _) hy1 (by omega) (by omega) (fun k hk => by simp [Value.ownBlock] at hk; omega) (by omega) hFl2 ?_
       rintro V' w14 hE14 hg14
       obtain ⟨wo, wnn, wc2, rfl⟩ : ∃ o n c, V' = .slice o n c := by obtain ⟨o, c, h, -⟩ := hE14.len; exact ⟨_, _, _, h⟩
       have HP14 := Hid.mk ((HPd.out.row GrB.out (fun g e => by cases e; exact hpc.symm)).row hg14 (fun x e => by simp [Value.ownBlock] at e; omega))
       refine hK.out _ _ (fun _ => HP14.out.c1) (fun _ => ?_)
       clear hK K
       refine wpAnyF_ready (rs := [15]) (by kernel_rfl) (by simp) ?_
       refine AllReadyF.cons rfl (fun K hK => ?_) AllReadyF.nil
       rw [if_pos (by kernel_rfl)]
       go_wp2_with fail
       refine hK.out _ _ (fun _ => HP14.out.c1) (fun _ => ?_)
       clear hK K
       refine wpAnyF_ready (rs := [16]) (by kernel_rfl) (by simp) ?_
       refine AllReadyF.cons rfl (fun K hK => ?_) AllReadyF.nil
       have z1 := HP14.out.c1
       have zf := HP14.out.fr
       rw [if_pos (by kernel_rfl)]
       go_wp2_with fail
       refine hK.out _ _ (fun h => absurd rfl h) (fun _ => ?_)
       clear hK K
       refine wpAnyF_done (by kernel_rfl) ?_ _
       clear z1 zf
       have G7 := gb_set w14 pb 1 (.slice wo wnn wc2)
       have hu7 := ((HUBd.out.bnd (bnd_of GrB.out (fun x e => by cases e; exact .inl (by omega)))).bnd (bnd_of hg14 (fun x e => by simp [Value.ownBlock] at e; omega))).bnd (bnd_of G7 (fun x e => by cases e; exact .inr (Nat.le_refl _)))
       have HR7 : Hid (PgR (w14.setCell ⟨pb, 1, none⟩ (.slice wo wnn wc2)) (w.heap.size + 1) (.slice (some ⟨g, 0, none⟩) nU cap) (.slice wo wnn wc2)) := pgR_of (hu7.imp fun _ hb _ => ⟨by have := hb.1.1; omega, hb.1.2⟩) ((hE14.nfe G7).imp fun _ hb _ => ⟨by have := hb.1; omega, hb.2⟩) (fun r hr => Nat.le_trans (HUZ.out r hr) (by omega)) (fun f hf => by
        rcases List.mem_append.1 hf with hf | hf
        ·exact Nat.le_trans (HFZ.out f hf) (by omega)
        ·obtain rfl := List.mem_singleton.1 hf
         simp only [Fu.sz, gsz, szy]
         omega) HUL.out (by have := HFL.out; simp at this ⊢; omega)
       have HP7 := Hid.mk (HP14.out.put1 (.slice wo wnn wc2))
       have HB7 := Hid.mk (((HBd.out.row GrB.out (fun g e => by cases e; exact fun e => HNE.out e.symm)).row hg14 (fun x e => by simp [Value.ownBlock] at e; omega)).row G7 (fun x e => by cases e; omega))
       have HC7 := Hid.mk ((HXB.out.row hg14 (fun x e => by simp [Value.ownBlock] at e; exact ⟨by omega, fun hz k hk => by have := HV.out hz k hk; omega⟩)).row G7 (fun x e => by cases e; exact ⟨hpc, fun hz k hk => by have := HV.out hz k hk; omega⟩))
       have HG7 := Hid.mk (gy_far (gy_row (grownBy_trans HGd.out GrB.out) hg14 (fun x e => by simp [Value.ownBlock] at e; omega)) G7 (by omega))
       clear hu7 G7 HP14 hE14 hg14 HXB GrB HNB HTB HFB2 htb3 HPd HId HFd HUBd HFBd HBd HGd
       go_wp2
       go_meet
       case rel => exact ⟨(.slice (some ⟨g, 0, none⟩) nU cap), (.slice wo wnn wc2), HR7, HP7, HB7, HC7, HG7⟩
     ·rw [if_pos (by kernel_rfl)]
      go_wp2_with fail
      have A : Below w22.heap.size w22 (w22.alloc (.cells #[.string ⟨#[97]⟩, .string ⟨#[98]⟩] 9)) := (Below.refl _ _).alloc (Nat.le_refl _) _
      have Gr23 := Hid.mk (gy_below Gr22.out A)
      have HX23 := Hid.mk (HX22.out.grow A)
      have hsd23 : sd ≤ (w22.alloc (.cells #[.string ⟨#[97]⟩, .string ⟨#[98]⟩] 9)).heap.size := by have := A.size; omega
      have HS10_23 := Hid.mk (heap_alloc_new w22 (.cells #[.string ⟨#[97]⟩, .string ⟨#[98]⟩] 9))
      have hs10_23 : w22.heap.size < (w22.alloc (.cells #[.string ⟨#[97]⟩, .string ⟨#[98]⟩] 9)).heap.size := (Array.getElem?_eq_some_iff.1 (heap_alloc_new w22 (.cells #[.string ⟨#[97]⟩, .string ⟨#[98]⟩] 9))).1
      have hnc10 : w22.heap.size ≠ cb := by have := HX22.out.lt; omega
      have HS7_23 := Hid.mk ((A.block tb7 hs7_22).trans HS7_22.out)
      have hs7_23 : tb7 < (w22.alloc (.cells #[.string ⟨#[97]⟩, .string ⟨#[98]⟩] 9)).heap.size := by have := A.size; omega
      have HS4_23 := Hid.mk ((A.block tb4 hs4_22).trans HS4_22.out)
      have hs4_23 : tb4 < (w22.alloc (.cells #[.string ⟨#[97]⟩, .string ⟨#[98]⟩] 9)).heap.size := by have := A.size; omega
      refine hK.out _ _ (fun _ => (HPd.out.row Gr23.out (fun g e => by cases e; exact hpc.symm)).c1) (fun _ => ?_)
      clear hK K
      clear A Gr22 HX22 hsd22 HS7_22 hs7_22 HS4_22 hs4_22
      generalize w22.heap.size = tb10 at *
      generalize w22.alloc (.cells #[.string ⟨#[97]⟩, .string ⟨#[98]⟩] 9) = w23 at *
      refine wpAnyF_ready (rs := [4]) (by kernel_rfl) (by simp) ?_
      refine AllReadyF.cons rfl (fun K hK => ?_) (AllReadyF.nil)
      rw [if_pos (by kernel_rfl)]
      go_wp2_with fail
      refine (l1Str_any cb tb4 5 v zs [⟨#[102]⟩, ⟨#[104]⟩, ⟨#[]⟩, ⟨#[112, 114, 105, 110, 116]⟩, ⟨#[116]⟩] _ HX23.out rfl (by omega) (by omega) HS4_23.out hnc4).mono ?_
      rintro e w24 ⟨y1, rfl, hm, hC, hg⟩
      have hy1 : y1.size ≤ 100 := by
       simp only [List.mem_cons, List.not_mem_nil, or_false] at hm
       rcases hm with h | h | h | h | h <;> subst h <;> decide
      have Gr24 := Hid.mk (grownBy_trans Gr23.out hg)
      have HX24 := Hid.mk hC
      have hsd24 : sd ≤ w24.heap.size := by have := hg.size; omega
      have HS7_24 := Hid.mk ((hg.block tb7 hs7_23 (by intro e; simp at e; omega)).trans HS7_23.out)
      have hs7_24 : tb7 < w24.heap.size := by have := hg.size; omega
      have HS10_24 := Hid.mk ((hg.block tb10 hs10_23 (by intro e; simp at e; omega)).trans HS10_23.out)
      have hs10_24 : tb10 < w24.heap.size := by have := hg.size; omega
      refine hK.out _ _ (fun _ => (HPd.out.row Gr24.out (fun g e => by cases e; exact hpc.symm)).c1) (fun _ => ?_)
      clear hK K
      clear hm hC hg Gr23 HX23 hsd23 HS4_23 hs4_23 hnc4 HS7_23 hs7_23 HS10_23 hs10_23
      refine wpAnyF_ready (rs := [7]) (by kernel_rfl) (by simp) ?_
      refine AllReadyF.cons rfl (fun K hK => ?_) (AllReadyF.nil)
      rw [if_pos (by kernel_rfl)]
      go_wp2_with fail
      refine (l1Str_any cb tb7 3 v zs [⟨#[97]⟩, ⟨#[116]⟩, ⟨#[102]⟩] _ HX24.out rfl (by omega) (by omega) HS7_24.out hnc7).mono ?_
      rintro e w25 ⟨y2, rfl, hm, hC, hg⟩
      have hy2 : y2.size ≤ 100 := by
       simp only [List.mem_cons, List.not_mem_nil, or_false] at hm
       rcases hm with h | h | h <;> subst h <;> decide
      have Gr25 := Hid.mk (grownBy_trans Gr24.out hg)
      have HX25 := Hid.mk hC
      have hsd25 : sd ≤ w25.heap.size := by have := hg.size; omega
      have HS10_25 := Hid.mk ((hg.block tb10 hs10_24 (by intro e; simp at e; omega)).trans HS10_24.out)
      have hs10_25 : tb10 < w25.heap.size := by have := hg.size; omega
      refine hK.out _ _ (fun _ => (HPd.out.row Gr25.out (fun g e => by cases e; exact hpc.symm)).c1) (fun _ => ?_)
      clear hK K
      clear hm hC hg Gr24 HX24 hsd24 HS7_24 hs7_24 hnc7 HS10_24 hs10_24
      refine wpAnyF_ready (rs := [10]) (by kernel_rfl) (by simp) ?_
      refine AllReadyF.cons rfl (fun K hK => ?_) (AllReadyF.nil)
      rw [if_pos (by kernel_rfl)]
      go_wp2_with fail
      refine (l1Str_any cb tb10 2 v zs [⟨#[97]⟩, ⟨#[98]⟩] _ HX25.out rfl (by omega) (by omega) HS10_25.out hnc10).mono ?_
      rintro e w26 ⟨y3, rfl, hm, hC, hg⟩
      have hy3 : y3.size ≤ 100 := by
       simp only [List.mem_cons, List.not_mem_nil, or_false] at hm
       rcases hm with h | h <;> subst h <;> decide
      have Gr26 := Hid.mk (grownBy_trans Gr25.out hg)
      have HX26 := Hid.mk hC
      have hsd26 : sd ≤ w26.heap.size := by have := hg.size; omega
      refine hK.out _ _ (fun _ => (HPd.out.row Gr26.out (fun g e => by cases e; exact hpc.symm)).c1) (fun _ => ?_)
      clear hK K
      clear hm hC hg Gr25 HX25 hsd25 HS10_25 hs10_25 hnc10
      refine wpAnyF_ready (rs := [11]) (by kernel_rfl) (by simp) ?_
      refine AllReadyF.cons rfl (fun K hK => ?_) AllReadyF.nil
      rw [if_pos (by kernel_rfl)]
      go_wp2_with fail
      have A : Below w26.heap.size w26 (w26.alloc (.cells #[.string y2, .string y3] 9)) := (Below.refl _ _).alloc (Nat.le_refl _) _
      have GrA := Hid.mk (gy_below Gr26.out A)
      have HXA := Hid.mk (HX26.out.grow A)
      have HTA := Hid.mk (heap_alloc_new w26 (.cells #[.string y2, .string y3] 9))
      have hta : w26.heap.size < (w26.alloc (.cells #[.string y2, .string y3] 9)).heap.size := (Array.getElem?_eq_some_iff.1 (heap_alloc_new w26 (.cells #[.string y2, .string y3] 9))).1
      refine hK.out _ _ (fun _ => (HPd.out.row GrA.out (fun g e => by cases e; exact hpc.symm)).c1) (fun _ => ?_)
      clear hK K
      clear A Gr26 HX26
      generalize w26.heap.size = t3 at *
      generalize w26.alloc (.cells #[.string y2, .string y3] 9) = wA at *
      refine wpAnyF_ready (rs := [12]) (by kernel_rfl) (by simp) ?_
      refine AllReadyF.cons rfl (fun K hK => ?_) AllReadyF.nil
      rw [if_pos (by kernel_rfl)]
      go_wp2_with fail
      refine hK.out _ _ (fun _ => (HPd.out.row GrA.out (fun g e => by cases e; exact hpc.symm)).c1) (fun _ => ?_)
      clear hK K
      refine wpAnyF_ready (rs := [13]) (by kernel_rfl) (by simp) ?_
      refine AllReadyF.cons rfl (fun K hK => ?_) AllReadyF.nil
      rw [if_pos (by kernel_rfl)]
      go_wp2_with fail
      have A : Below wA.heap.size wA (wA.alloc (.cells #[.string y1, .slice (some ⟨t3, 0, none⟩) 2 2, .slice none 0 0] 63)) := (Below.refl _ _).alloc (Nat.le_refl _) _
      have GrB := Hid.mk (gy_below GrA.out A)
      have HXB := Hid.mk (HXA.out.grow A)
      have HTB := Hid.mk ((A.block t3 hta).trans HTA.out)
      have HNB := Hid.mk (heap_alloc_new wA (.cells #[.string y1, .slice (some ⟨t3, 0, none⟩) 2 2, .slice none 0 0] 63))
      have ht3p : pb < t3 := by omega
      have hlb : wA.heap.size < (wA.alloc (.cells #[.string y1, .slice (some ⟨t3, 0, none⟩) 2 2, .slice none 0 0] 63)).heap.size := (Array.getElem?_eq_some_iff.1 (heap_alloc_new wA (.cells #[.string y1, .slice (some ⟨t3, 0, none⟩) 2 2, .slice none 0 0] 63))).1
      refine hK.out _ _ (fun _ => (HPd.out.row GrB.out (fun g e => by cases e; exact hpc.symm)).c1) (fun _ => ?_)
      clear hK K
      clear A GrA HXA HTA
      generalize wA.heap.size = lb at *
      generalize wA.alloc (.cells #[.string y1, .slice (some ⟨t3, 0, none⟩) 2 2, .slice none 0 0] 63) = wB at *
      have HFB2 := Hid.mk (HFd.out.keep GrB.out (fun x e => by cases e; exact .inl (by omega)))
      have htb3 : Tb wB (nf wB t3) (.slice (some ⟨t3, 0, none⟩) 2 2) [y2, y3] := tb_of (xs := [y2, y3]) HTB.out ⟨Nat.le_refl _, fun o => frozen_of_row _ t3 o _ _ HTB.out⟩ (by simp; exact ⟨hy2, hy3⟩) (by simp)
      have hFl2 : F.length ≤ 1000 := by have := HFL.out; simp at this; omega
      have hfgb : nb ≤ fg := (World.ownsRow.lt HFB2.out.1 fg rfl).1
      refine wpAnyF_ready (rs := [14]) (by kernel_rfl) (by simp) ?_
      refine AllReadyF.cons rfl (fun K hK => ?_) AllReadyF.nil
      rw [if_pos (by kernel_rfl)]
      refine wp_append_fe (.tmp 49) (.tmp 61) rfl nb t3 pb (.slice (some ⟨fg, 0, none⟩) 2 fc) F ⟨⟨y1, [y2, y3], []⟩, .slice (some ⟨t3, 0, none⟩) 2 2, .slice none 0 0⟩ rfl HFB2.out.1 (HFB2.out.rowF (by omega)) (fun k hk => by simp [Value.ownBlock] at hk; omega) (by omega) lb rfl HNB.out htb3 (Sl.zero _ _) hy1 (by omega) (by omega) (fun k hk => by simp [Value.ownBlock] at hk; omega) (by omega) hFl2 ?_
      rintro V' w14 hE14 hg14
      obtain ⟨wo, wnn, wc2, rfl⟩ : ∃ o n c, V' = .slice o n c := by obtain ⟨o, c, h, -⟩ := hE14.len; exact ⟨_, _, _, h⟩
      have HP14 := Hid.mk ((HPd.out.row GrB.out (fun g e => by cases e; exact hpc.symm)).row hg14 (fun x e => by simp [Value.ownBlock] at e; omega))
      refine hK.out _ _ (fun _ => HP14.out.c1) (fun _ => ?_)
      clear hK K
      refine wpAnyF_ready (rs := [15]) (by kernel_rfl) (by simp) ?_
      refine AllReadyF.cons rfl (fun K hK => ?_) AllReadyF.nil
      rw [if_pos (by kernel_rfl)]
      go_wp2_with fail
      refine hK.out _ _ (fun _ => HP14.out.c1) (fun _ => ?_)
      clear hK K
      refine wpAnyF_ready (rs := [16]) (by kernel_rfl) (by simp) ?_
      refine AllReadyF.cons rfl (fun K hK => ?_) AllReadyF.nil
      have z1 := HP14.out.c1
      have zf := HP14.out.fr
      rw [if_pos (by kernel_rfl)]
      go_wp2_with fail
      refine hK.out _ _ (fun h => absurd rfl h) (fun _ => ?_)
      clear hK K
      refine wpAnyF_done (by kernel_rfl) ?_ _
      clear z1 zf
      have G7 := gb_set w14 pb 1 (.slice wo wnn wc2)
      have hu7 := ((HUBd.out.bnd (bnd_of GrB.out (fun x e => by cases e; exact .inl (by omega)))).bnd (bnd_of hg14 (fun x e => by simp [Value.ownBlock] at e; omega))).bnd (bnd_of G7 (fun x e => by cases e; exact .inr (Nat.le_refl _)))
      have HR7 : Hid (PgR (w14.setCell ⟨pb, 1, none⟩ (.slice wo wnn wc2)) (w.heap.size + 1) (.slice (some ⟨g, 0, none⟩) nU cap) (.slice wo wnn wc2)) := pgR_of (hu7.imp fun _ hb _ => ⟨by have := hb.1.1; omega, hb.1.2⟩) ((hE14.nfe G7).imp fun _ hb _ => ⟨by have := hb.1; omega, hb.2⟩) (fun r hr => Nat.le_trans (HUZ.out r hr) (by omega)) (fun f hf => by
       rcases List.mem_append.1 hf with hf | hf
       ·exact Nat.le_trans (HFZ.out f hf) (by omega)
       ·obtain rfl := List.mem_singleton.1 hf
        simp only [Fu.sz, gsz, szy]
        omega) HUL.out (by have := HFL.out; simp at this ⊢; omega)
      have HP7 := Hid.mk (HP14.out.put1 (.slice wo wnn wc2))
      have HB7 := Hid.mk (((HBd.out.row GrB.out (fun g e => by cases e; exact fun e => HNE.out e.symm)).row hg14 (fun x e => by simp [Value.ownBlock] at e; omega)).row G7 (fun x e => by cases e; omega))
      have HC7 := Hid.mk ((HXB.out.row hg14 (fun x e => by simp [Value.ownBlock] at e; exact ⟨by omega, fun hz k hk => by have := HV.out hz k hk; omega⟩)).row G7 (fun x e => by cases e; exact ⟨hpc, fun hz k hk => by have := HV.out hz k hk; omega⟩))
      have HG7 := Hid.mk (gy_far (gy_row (grownBy_trans HGd.out GrB.out) hg14 (fun x e => by simp [Value.ownBlock] at e; omega)) G7 (by omega))
      clear hu7 G7 HP14 hE14 hg14 HXB GrB HNB HTB HFB2 htb3 HPd HId HFd HUBd HFBd HBd HGd
      go_wp2
      go_meet
      case rel => exact ⟨(.slice (some ⟨g, 0, none⟩) nU cap), (.slice wo wnn wc2), HR7, HP7, HB7, HC7, HG7⟩
    ·rw [if_pos (by kernel_rfl)]
     go_wp2_with fail
     have A : Below w21.heap.size w21 (w21.alloc (.cells #[.string ⟨#[97]⟩, .string ⟨#[98]⟩] 9)) := (Below.refl _ _).alloc (Nat.le_refl _) _
     have Gr22 := Hid.mk (gy_below Gr21.out A)
     have HX22 := Hid.mk (HX21.out.grow A)
     have hsd22 : sd ≤ (w21.alloc (.cells #[.string ⟨#[97]⟩, .string ⟨#[98]⟩] 9)).heap.size := by have := A.size; omega
     have HS10_22 := Hid.mk (heap_alloc_new w21 (.cells #[.string ⟨#[97]⟩, .string ⟨#[98]⟩] 9))
     have hs10_22 : w21.heap.size < (w21.alloc (.cells #[.string ⟨#[97]⟩, .string ⟨#[98]⟩] 9)).heap.size := (Array.getElem?_eq_some_iff.1 (heap_alloc_new w21 (.cells #[.string ⟨#[97]⟩, .string ⟨#[98]⟩] 9))).1
     have hnc10 : w21.heap.size ≠ cb := by have := HX21.out.lt; omega
     have HS7_22 := Hid.mk ((A.block tb7 hs7_21).trans HS7_21.out)
     have hs7_22 : tb7 < (w21.alloc (.cells #[.string ⟨#[97]⟩, .string ⟨#[98]⟩] 9)).heap.size := by have := A.size; omega
     refine hK.out _ _ (fun _ => (HPd.out.row Gr22.out (fun g e => by cases e; exact hpc.symm)).c1) (fun _ => ?_)
     clear hK K
     clear A Gr21 HX21 hsd21 HS7_21 hs7_21
     generalize w21.heap.size = tb10 at *
     generalize w21.alloc (.cells #[.string ⟨#[97]⟩, .string ⟨#[98]⟩] 9) = w22 at *
     refine wpAnyF_ready (rs := [3]) (by kernel_rfl) (by simp) ?_
     refine AllReadyF.cons rfl (fun K hK => ?_) (AllReadyF.nil)
     rw [if_pos (by kernel_rfl)]
     go_wp2_with fail
     have A : Below w22.heap.size w22 (w22.alloc (.cells #[.string ⟨#[102]⟩, .string ⟨#[104]⟩, .string ⟨#[]⟩, .string ⟨#[112, 114, 105, 110, 116]⟩, .string ⟨#[116]⟩] 9)) := (Below.refl _ _).alloc (Nat.le_refl _) _
     have Gr23 := Hid.mk (gy_below Gr22.out A)
     have HX23 := Hid.mk (HX22.out.grow A)
     have hsd23 : sd ≤ (w22.alloc (.cells #[.string ⟨#[102]⟩, .string ⟨#[104]⟩, .string ⟨#[]⟩, .string ⟨#[112, 114, 105, 110, 116]⟩, .string ⟨#[116]⟩] 9)).heap.size := by have := A.size; omega
     have HS4_23 := Hid.mk (heap_alloc_new w22 (.cells #[.string ⟨#[102]⟩, .string ⟨#[104]⟩, .string ⟨#[]⟩, .string ⟨#[112, 114, 105, 110, 116]⟩, .string ⟨#[116]⟩] 9))
     have hs4_23 : w22.heap.size < (w22.alloc (.cells #[.string ⟨#[102]⟩, .string ⟨#[104]⟩, .string ⟨#[]⟩, .string ⟨#[112, 114, 105, 110, 116]⟩, .string ⟨#[116]⟩] 9)).heap.size := (Array.getElem?_eq_some_iff.1 (heap_alloc_new w22 (.cells #[.string ⟨#[102]⟩, .string ⟨#[104]⟩, .string ⟨#[]⟩, .string ⟨#[112, 114, 105, 110, 116]⟩, .string ⟨#[116]⟩] 9))).1
     have hnc4 : w22.heap.size ≠ cb := by have := HX22.out.lt; omega
     have HS7_23 := Hid.mk ((A.block tb7 hs7_22).trans HS7_22.out)
     have hs7_23 : tb7 < (w22.alloc (.cells #[.string ⟨#[102]⟩, .string ⟨#[104]⟩, .string ⟨#[]⟩, .string ⟨#[112, 114, 105, 110, 116]⟩, .string ⟨#[116]⟩] 9)).heap.size := by have := A.size; omega
     have HS10_23 := Hid.mk ((A.block tb10 hs10_22).trans HS10_22.out)
     have hs10_23 : tb10 < (w22.alloc (.cells #[.string ⟨#[102]⟩, .string ⟨#[104]⟩, .string ⟨#[]⟩, .string ⟨#[112, 114, 105, 110, 116]⟩, .string ⟨#[116]⟩] 9)).heap.size := by have := A.size; omega
     refine hK.out _ _ (fun _ => (HPd.out.row Gr23.out (fun g e => by cases e; exact hpc.symm)).c1) (fun _ => ?_)
     clear hK K
     clear A Gr22 HX22 hsd22 HS7_22 hs7_22 HS10_22 hs10_22
     generalize w22.heap.size = tb4 at *
     generalize w22.alloc (.cells #[.string ⟨#[102]⟩, .string ⟨#[104]⟩, .string ⟨#[]⟩, .string ⟨#[112, 114, 105, 110, 116]⟩, .string ⟨#[116]⟩] 9) = w23 at *
     refine wpAnyF_ready (rs := [4]) (by kernel_rfl) (by simp) ?_
     refine AllReadyF.cons rfl (fun K hK => ?_) (AllReadyF.nil)
     rw [if_pos (by kernel_rfl)]
     go_wp2_with fail
     refine (l1Str_any cb tb4 5 v zs [⟨#[102]⟩, ⟨#[104]⟩, ⟨#[]⟩, ⟨#[112, 114, 105, 110, 116]⟩, ⟨#[116]⟩] _ HX23.out rfl (by omega) (by omega) HS4_23.out hnc4).mono ?_
     rintro e w24 ⟨y1, rfl, hm, hC, hg⟩
     have hy1 : y1.size ≤ 100 := by
      simp only [List.mem_cons, List.not_mem_nil, or_false] at hm
      rcases hm with h | h | h | h | h <;> subst h <;> decide
     have Gr24 := Hid.mk (grownBy_trans Gr23.out hg)
     have HX24 := Hid.mk hC
     have hsd24 : sd ≤ w24.heap.size := by have := hg.size; omega
     have HS7_24 := Hid.mk ((hg.block tb7 hs7_23 (by intro e; simp at e; omega)).trans HS7_23.out)
     have hs7_24 : tb7 < w24.heap.size := by have := hg.size; omega
     have HS10_24 := Hid.mk ((hg.block tb10 hs10_23 (by intro e; simp at e; omega)).trans HS10_23.out)
     have hs10_24 : tb10 < w24.heap.size := by have := hg.size; omega
     refine hK.out _ _ (fun _ => (HPd.out.row Gr24.out (fun g e => by cases e; exact hpc.symm)).c1) (fun _ => ?_)
     clear hK K
     clear hm hC hg Gr23 HX23 hsd23 HS4_23 hs4_23 hnc4 HS7_23 hs7_23 HS10_23 hs10_23
     refine wpAnyF_ready (rs := [7]) (by kernel_rfl) (by simp) ?_
     refine AllReadyF.cons rfl (fun K hK => ?_) (AllReadyF.nil)
     rw [if_pos (by kernel_rfl)]
     go_wp2_with fail
     refine (l1Str_any cb tb7 3 v zs [⟨#[97]⟩, ⟨#[116]⟩, ⟨#[102]⟩] _ HX24.out rfl (by omega) (by omega) HS7_24.out hnc7).mono ?_
     rintro e w25 ⟨y2, rfl, hm, hC, hg⟩
     have hy2 : y2.size ≤ 100 := by
      simp only [List.mem_cons, List.not_mem_nil, or_false] at hm
      rcases hm with h | h | h <;> subst h <;> decide
     have Gr25 := Hid.mk (grownBy_trans Gr24.out hg)
     have HX25 := Hid.mk hC
     have hsd25 : sd ≤ w25.heap.size := by have := hg.size; omega
     have HS10_25 := Hid.mk ((hg.block tb10 hs10_24 (by intro e; simp at e; omega)).trans HS10_24.out)
     have hs10_25 : tb10 < w25.heap.size := by have := hg.size; omega
     refine hK.out _ _ (fun _ => (HPd.out.row Gr25.out (fun g e => by cases e; exact hpc.symm)).c1) (fun _ => ?_)
     clear hK K
     clear hm hC hg Gr24 HX24 hsd24 HS7_24 hs7_24 hnc7 HS10_24 hs10_24
     refine wpAnyF_ready (rs := [10]) (by kernel_rfl) (by simp) ?_
     refine AllReadyF.cons rfl (fun K hK => ?_) (AllReadyF.nil)
     rw [if_pos (by kernel_rfl)]
     go_wp2_with fail
     refine (l1Str_any cb tb10 2 v zs [⟨#[97]⟩, ⟨#[98]⟩] _ HX25.out rfl (by omega) (by omega) HS10_25.out hnc10).mono ?_
     rintro e w26 ⟨y3, rfl, hm, hC, hg⟩
     have hy3 : y3.size ≤ 100 := by
      simp only [List.mem_cons, List.not_mem_nil, or_false] at hm
      rcases hm with h | h <;> subst h <;> decide
     have Gr26 := Hid.mk (grownBy_trans Gr25.out hg)
     have HX26 := Hid.mk hC
     have hsd26 : sd ≤ w26.heap.size := by have := hg.size; omega
     refine hK.out _ _ (fun _ => (HPd.out.row Gr26.out (fun g e => by cases e; exact hpc.symm)).c1) (fun _ => ?_)
     clear hK K
     clear hm hC hg Gr25 HX25 hsd25 HS10_25 hs10_25 hnc10
     refine wpAnyF_ready (rs := [11]) (by kernel_rfl) (by simp) ?_
     refine AllReadyF.cons rfl (fun K hK => ?_) AllReadyF.nil
     rw [if_pos (by kernel_rfl)]
     go_wp2_with fail
     have A : Below w26.heap.size w26 (w26.alloc (.cells #[.string y2, .string y3] 9)) := (Below.refl _ _).alloc (Nat.le_refl _) _
     have GrA := Hid.mk (gy_below Gr26.out A)
     have HXA := Hid.mk (HX26.out.grow A)
     have HTA := Hid.mk (heap_alloc_new w26 (.cells #[.string y2, .string y3] 9))
     have hta : w26.heap.size < (w26.alloc (.cells #[.string y2, .string y3] 9)).heap.size := (Array.getElem?_eq_some_iff.1 (heap_alloc_new w26 (.cells #[.string y2, .string y3] 9))).1
     refine hK.out _ _ (fun _ => (HPd.out.row GrA.out (fun g e => by cases e; exact hpc.symm)).c1) (fun _ => ?_)
     clear hK K
     clear A Gr26 HX26
     generalize w26.heap.size = t3 at *
     generalize w26.alloc (.cells #[.string y2, .string y3] 9) = wA at *
     refine wpAnyF_ready (rs := [12]) (by kernel_rfl) (by simp) ?_
     refine AllReadyF.cons rfl (fun K hK => ?_) AllReadyF.nil
     rw [if_pos (by kernel_rfl)]
     go_wp2_with fail
     refine hK.out _ _ (fun _ => (HPd.out.row GrA.out (fun g e => by cases e; exact hpc.symm)).c1) (fun _ => ?_)
     clear hK K
     refine wpAnyF_ready (rs := [13]) (by kernel_rfl) (by simp) ?_
     refine AllReadyF.cons rfl (fun K hK => ?_) AllReadyF.nil
     rw [if_pos (by kernel_rfl)]
     go_wp2_with fail
     have A : Below wA.heap.size wA (wA.alloc (.cells #[.string y1, .slice (some ⟨t3, 0, none⟩) 2 2, .slice none 0 0] 63)) := (Below.refl _ _).alloc (Nat.le_refl _) _
     have GrB := Hid.mk (gy_below GrA.out A)
     have HXB := Hid.mk (HXA.out.grow A)
     have HTB := Hid.mk ((A.block t3 hta).trans HTA.out)
     have HNB := Hid.mk (heap_alloc_new wA (.cells #[.string y1, .slice (some ⟨t3, 0, none⟩) 2 2, .slice none 0 0] 63))
     have ht3p : pb < t3 := by omega
     have hlb : wA.heap.size < (wA.alloc (.cells #[.string y1, .slice (some ⟨t3, 0, none⟩) 2 2, .slice none 0 0] 63)).heap.size := (Array.getElem?_eq_some_iff.1 (heap_alloc_new wA (.cells #[.string y1, .slice (some ⟨t3, 0, none⟩) 2 2, .slice none 0 0] 63))).1
     refine hK.out _ _ (fun _ => (HPd.out.row GrB.out (fun g e => by cases e; exact hpc.symm)).c1) (fun _ => ?_)
     clear hK K
     clear A GrA HXA HTA
     generalize wA.heap.size = lb at *
     generalize wA.alloc (.cells #[.string y1, .slice (some ⟨t3, 0, none⟩) 2 2, .slice none 0 0] 63) = wB at *
     have HFB2 := Hid.mk (HFd.out.keep GrB.out (fun x e => by cases e; exact .inl (by omega)))
     have htb3 : Tb wB (nf wB t3) (.slice (some ⟨t3, 0, none⟩) 2 2) [y2, y3] := tb_of (xs := [y2, y3]) HTB.out ⟨Nat.le_refl _, fun o => frozen_of_row _ t3 o _ _ HTB.out⟩ (by simp; exact ⟨hy2, hy3⟩) (by simp)
     have hFl2 : F.length ≤ 1000 := by have := HFL.out; simp at this; omega
     have hfgb : nb ≤ fg := (World.ownsRow.lt HFB2.out.1 fg rfl).1
     refine wpAnyF_ready (rs := [14]) (by kernel_rfl) (by simp) ?_
     refine AllReadyF.cons rfl (fun K hK => ?_) AllReadyF.nil
     rw [if_pos (by kernel_rfl)]
     refine wp_append_fe (.tmp 49) (.tmp 61) rfl nb t3 pb (.slice (some ⟨fg, 0, none⟩) 2 fc) F ⟨⟨y1, [y2, y3], []⟩, .slice (some ⟨t3, 0, none⟩) 2 2, .slice none 0 0⟩ rfl HFB2.out.1 (HFB2.out.rowF (by omega)) (fun k hk => by simp [Value.ownBlock] at hk; omega) (by omega) lb rfl HNB.out htb3 (Sl.zero _ _) hy1 (by omega) (by omega) (fun k hk => by simp [Value.ownBlock] at hk; omega) (by omega) hFl2 ?_
     rintro V' w14 hE14 hg14
     obtain ⟨wo, wnn, wc2, rfl⟩ : ∃ o n c, V' = .slice o n c := by obtain ⟨o, c, h, -⟩ := hE14.len; exact ⟨_, _, _, h⟩
     have HP14 := Hid.mk ((HPd.out.row GrB.out (fun g e => by cases e; exact hpc.symm)).row hg14 (fun x e => by simp [Value.ownBlock] at e; omega))
     refine hK.out _ _ (fun _ => HP14.out.c1) (fun _ => ?_)
     clear hK K
     refine wpAnyF_ready (rs := [15]) (by kernel_rfl) (by simp) ?_
     refine AllReadyF.cons rfl (fun K hK => ?_) AllReadyF.nil
     rw [if_pos (by kernel_rfl)]
     go_wp2_with fail
     refine hK.out _ _ (fun _ => HP14.out.c1) (fun _ => ?_)
     clear hK K
     refine wpAnyF_ready (rs := [16]) (by kernel_rfl) (by simp) ?_
     refine AllReadyF.cons rfl (fun K hK => ?_) AllReadyF.nil
     have z1 := HP14.out.c1
     have zf := HP14.out.fr
     rw [if_pos (by kernel_rfl)]
     go_wp2_with fail
     refine hK.out _ _ (fun h => absurd rfl h) (fun _ => ?_)
     clear hK K
     refine wpAnyF_done (by kernel_rfl) ?_ _
     clear z1 zf
     have G7 := gb_set w14 pb 1 (.slice wo wnn wc2)
     have hu7 := ((HUBd.out.bnd (bnd_of GrB.out (fun x e => by cases e; exact .inl (by omega)))).bnd (bnd_of hg14 (fun x e => by simp [Value.ownBlock] at e; omega))).bnd (bnd_of G7 (fun x e => by cases e; exact .inr (Nat.le_refl _)))
     have HR7 : Hid (PgR (w14.setCell ⟨pb, 1, none⟩ (.slice wo wnn wc2)) (w.heap.size + 1) (.slice (some ⟨g, 0, none⟩) nU cap) (.slice wo wnn wc2)) := pgR_of (hu7.imp fun _ hb _ => ⟨by have := hb.1.1; omega, hb.1.2⟩) ((hE14.nfe G7).imp fun _ hb _ => ⟨by have := hb.1; omega, hb.2⟩) (fun r hr => Nat.le_trans (HUZ.out r hr) (by omega)) (fun f hf => by
      rcases List.mem_append.1 hf with hf | hf
      ·exact Nat.le_trans (HFZ.out f hf) (by omega)
      ·obtain rfl := List.mem_singleton.1 hf
       simp only [Fu.sz, gsz, szy]
       omega) HUL.out (by have := HFL.out; simp at this ⊢; omega)
     have HP7 := Hid.mk (HP14.out.put1 (.slice wo wnn wc2))
     have HB7 := Hid.mk (((HBd.out.row GrB.out (fun g e => by cases e; exact fun e => HNE.out e.symm)).row hg14 (fun x e => by simp [Value.ownBlock] at e; omega)).row G7 (fun x e => by cases e; omega))
     have HC7 := Hid.mk ((HXB.out.row hg14 (fun x e => by simp [Value.ownBlock] at e; exact ⟨by omega, fun hz k hk => by have := HV.out hz k hk; omega⟩)).row G7 (fun x e => by cases e; exact ⟨hpc, fun hz k hk => by have := HV.out hz k hk; omega⟩))
     have HG7 := Hid.mk (gy_far (gy_row (grownBy_trans HGd.out GrB.out) hg14 (fun x e => by simp [Value.ownBlock] at e; omega)) G7 (by omega))
     clear hu7 G7 HP14 hE14 hg14 HXB GrB HNB HTB HFB2 htb3 HPd HId HFd HUBd HFBd HBd HGd
     go_wp2
     go_meet
     case rel => exact ⟨(.slice (some ⟨g, 0, none⟩) nU cap), (.slice wo wnn wc2), HR7, HP7, HB7, HC7, HG7⟩
   ·rw [if_pos (by kernel_rfl)]
    go_wp2_with fail
    have A : Below wd.heap.size wd (wd.alloc (.cells #[.string ⟨#[97]⟩, .string ⟨#[98]⟩] 9)) := (Below.refl _ _).alloc (Nat.le_refl _) _
    have Gr21 := Hid.mk (gy_below Gr20.out A)
    have HX21 := Hid.mk (HX20.out.grow A)
    have hsd21 : sd ≤ (wd.alloc (.cells #[.string ⟨#[97]⟩, .string ⟨#[98]⟩] 9)).heap.size := by have := A.size; omega
    have HS10_21 := Hid.mk (heap_alloc_new wd (.cells #[.string ⟨#[97]⟩, .string ⟨#[98]⟩] 9))
    have hs10_21 : wd.heap.size < (wd.alloc (.cells #[.string ⟨#[97]⟩, .string ⟨#[98]⟩] 9)).heap.size := (Array.getElem?_eq_some_iff.1 (heap_alloc_new wd (.cells #[.string ⟨#[97]⟩, .string ⟨#[98]⟩] 9))).1
    have hnc10 : wd.heap.size ≠ cb := by have := HX20.out.lt; omega
    refine hK.out _ _ (fun _ => (HPd.out.row Gr21.out (fun g e => by cases e; exact hpc.symm)).c1) (fun _ => ?_)
    clear hK K
    clear A Gr20 HX20 hsd20
    generalize wd.heap.size = tb10 at *
    generalize wd.alloc (.cells #[.string ⟨#[97]⟩, .string ⟨#[98]⟩] 9) = w21 at *
    refine wpAnyF_ready (rs := [3, 6]) (by kernel_rfl) (by simp) ?_
    refine AllReadyF.cons rfl (fun K hK => ?_) (AllReadyF.cons rfl (fun K hK => ?_) (AllReadyF.nil))
    ·rw [if_pos (by kernel_rfl)]
     go_wp2_with fail
     have A : Below w21.heap.size w21 (w21.alloc (.cells #[.string ⟨#[102]⟩, .string ⟨#[104]⟩, .string ⟨#[]⟩, .string ⟨#[112, 114, 105, 110, 116]⟩, .string ⟨#[116]⟩] 9)) := (Below.refl _ _).alloc (Nat.le_refl _) _
     have Gr22 := Hid.mk (gy_below Gr21.out A)
     have HX22 := Hid.mk (HX21.out.grow A)
     have hsd22 : sd ≤ (w21.alloc (.cells #[.string ⟨#[102]⟩, .string ⟨#[104]⟩, .string ⟨#[]⟩, .string ⟨#[112, 114, 105, 110, 116]⟩, .string ⟨#[116]⟩] 9)).heap.size := by have := A.size; omega
     have HS4_22 := Hid.mk (heap_alloc_new w21 (.cells #[.string ⟨#[102]⟩, .string ⟨#[104]⟩, .string ⟨#[]⟩, .string ⟨#[112, 114, 105, 110, 116]⟩, .string ⟨#[116]⟩] 9))
     have hs4_22 : w21.heap.size < (w21.alloc (.cells #[.string ⟨#[102]⟩, .string ⟨#[104]⟩, .string ⟨#[]⟩, .string ⟨#[112, 114, 105, 110, 116]⟩, .string ⟨#[116]⟩] 9)).heap.size := (Array.getElem?_eq_some_iff.1 (heap_alloc_new w21 (.cells #[.string ⟨#[102]⟩, .string ⟨#[104]⟩, .string ⟨#[]⟩, .string ⟨#[112, 114, 105, 110, 116]⟩, .string ⟨#[116]⟩] 9))).1
     have hnc4 : w21.heap.size ≠ cb := by have := HX21.out.lt; omega
     have HS10_22 := Hid.mk ((A.block tb10 hs10_21).trans HS10_21.out)
     have hs10_22 : tb10 < (w21.alloc (.cells #[.string ⟨#[102]⟩, .string ⟨#[104]⟩, .string ⟨#[]⟩, .string ⟨#[112, 114, 105, 110, 116]⟩, .string ⟨#[116]⟩] 9)).heap.size := by have := A.size; omega
     refine hK.out _ _ (fun _ => (HPd.out.row Gr22.out (fun g e => by cases e; exact hpc.symm)).c1) (fun _ => ?_)
     clear hK K
     clear A Gr21 HX21 hsd21 HS10_21 hs10_21
     generalize w21.heap.size = tb4 at *
     generalize w21.alloc (.cells #[.string ⟨#[102]⟩, .string ⟨#[104]⟩, .string ⟨#[]⟩, .string ⟨#[112, 114, 105, 110, 116]⟩, .string ⟨#[116]⟩] 9) = w22 at *
     refine wpAnyF_ready (rs := [4, 6]) (by kernel_rfl) (by simp) ?_
     refine AllReadyF.cons rfl (fun K hK => ?_) (AllReadyF.cons rfl (fun K hK => ?_) (AllReadyF.nil))
     ·rw [if_pos (by kernel_rfl)]
      go_wp2_with fail
      refine (l1Str_any cb tb4 5 v zs [⟨#[102]⟩, ⟨#[104]⟩, ⟨#[]⟩, ⟨#[112, 114, 105, 110, 116]⟩, ⟨#[116]⟩] _ HX22.out rfl (by omega) (by omega) HS4_22.out hnc4).mono ?_
      rintro e w23 ⟨y1, rfl, hm, hC, hg⟩
      have hy1 : y1.size ≤ 100 := by
       simp only [List.mem_cons, List.not_mem_nil, or_false] at hm
       rcases hm with h | h | h | h | h <;> subst h <;> decide
      have Gr23 := Hid.mk (grownBy_trans Gr22.out hg)
      have HX23 := Hid.mk hC
      have hsd23 : sd ≤ w23.heap.size := by have := hg.size; omega
      have HS10_23 := Hid.mk ((hg.block tb10 hs10_22 (by intro e; simp at e; omega)).trans HS10_22.out)
      have hs10_23 : tb10 < w23.heap.size := by have := hg.size; omega
      refine hK.out _ _ (fun _ => (HPd.out.row Gr23.out (fun g e => by cases e; exact hpc.symm)).c1) (fun _ => ?_)
      clear hK K
      clear hm hC hg Gr22 HX22 hsd22 HS4_22 hs4_22 hnc4 HS10_22 hs10_22
      refine wpAnyF_ready (rs := [6]) (by kernel_rfl) (by simp) ?_
      refine AllReadyF.cons rfl (fun K hK => ?_) (AllReadyF.nil)
      rw [if_pos (by kernel_rfl)]
      go_wp2_with fail
      have A : Below w23.heap.size w23 (w23.alloc (.cells #[.string ⟨#[97]⟩, .string ⟨#[116]⟩, .string ⟨#[102]⟩] 9)) := (Below.refl _ _).alloc (Nat.le_refl _) _
      have Gr24 := Hid.mk (gy_below Gr23.out A)
      have HX24 := Hid.mk (HX23.out.grow A)
      have hsd24 : sd ≤ (w23.alloc (.cells #[.string ⟨#[97]⟩, .string ⟨#[116]⟩, .string ⟨#[102]⟩] 9)).heap.size := by have := A.size; omega
      have HS7_24 := Hid.mk (heap_alloc_new w23 (.cells #[.string ⟨#[97]⟩, .string ⟨#[116]⟩, .string ⟨#[102]⟩] 9))
      have hs7_24 : w23.heap.size < (w23.alloc (.cells #[.string ⟨#[97]⟩, .string ⟨#[116]⟩, .string ⟨#[102]⟩] 9)).heap.size := (Array.getElem?_eq_some_iff.1 (heap_alloc_new w23 (.cells #[.string ⟨#[97]⟩, .string ⟨#[116]⟩, .string ⟨#[102]⟩] 9))).1
      have hnc7 : w23.heap.size ≠ cb := by have := HX23.out.lt; omega
      have HS10_24 := Hid.mk ((A.block tb10 hs10_23).trans HS10_23.out)
      have hs10_24 : tb10 < (w23.alloc (.cells #[.string ⟨#[97]⟩, .string ⟨#[116]⟩, .string ⟨#[102]⟩] 9)).heap.size := by have := A.size; omega
      refine hK.out _ _ (fun _ => (HPd.out.row Gr24.out (fun g e => by cases e; exact hpc.symm)).c1) (fun _ => ?_)
      clear hK K
      clear A Gr23 HX23 hsd23 HS10_23 hs10_23
      generalize w23.heap.size = tb7 at *
      generalize w23.alloc (.cells #[.string ⟨#[97]⟩, .string ⟨#[116]⟩, .string ⟨#[102]⟩] 9) = w24 at *
      refine wpAnyF_ready (rs := [7]) (by kernel_rfl) (by simp) ?_
      refine AllReadyF.cons rfl (fun K hK => ?_) (AllReadyF.nil)
      rw [if_pos (by kernel_rfl)]
      go_wp2_with fail
      refine (l1Str_any cb tb7 3 v zs [⟨#[97]⟩, ⟨#[116]⟩, ⟨#[102]⟩] _ HX24.out rfl (by omega) (by omega) HS7_24.out hnc7).mono ?_
      rintro e w25 ⟨y2, rfl, hm, hC, hg⟩
      have hy2 : y2.size ≤ 100 := by
       simp only [List.mem_cons, List.not_mem_nil, or_false] at hm
       rcases hm with h | h | h <;> subst h <;> decide
      have Gr25 := Hid.mk (grownBy_trans Gr24.out hg)
      have HX25 := Hid.mk hC
      have hsd25 : sd ≤ w25.heap.size := by have := hg.size; omega
      have HS10_25 := Hid.mk ((hg.block tb10 hs10_24 (by intro e; simp at e; omega)).trans HS10_24.out)
      have hs10_25 : tb10 < w25.heap.size := by have := hg.size; omega
      refine hK.out _ _ (fun _ => (HPd.out.row Gr25.out (fun g e => by cases e; exact hpc.symm)).c1) (fun _ => ?_)
      clear hK K
      clear hm hC hg Gr24 HX24 hsd24 HS7_24 hs7_24 hnc7 HS10_24 hs10_24
      refine wpAnyF_ready (rs := [10]) (by kernel_rfl) (by simp) ?_
      refine AllReadyF.cons rfl (fun K hK => ?_) (AllReadyF.nil)
      rw [if_pos (by kernel_rfl)]
      go_wp2_with fail
      refine (l1Str_any cb tb10 2 v zs [⟨#[97]⟩, ⟨#[98]⟩] _ HX25.out rfl (by omega) (by omega) HS10_25.out hnc10).mono ?_
      rintro e w26 ⟨y3, rfl, hm, hC, hg⟩
      have hy3 : y3.size ≤ 100 := by
       simp only [List.mem_cons, List.not_mem_nil, or_false] at hm
       rcases hm with h | h <;> subst h <;> decide
      have Gr26 := Hid.mk (grownBy_trans Gr25.out hg)
      have HX26 := Hid.mk hC
      have hsd26 : sd ≤ w26.heap.size := by have := hg.size; omega
      refine hK.out _ _ (fun _ => (HPd.out.row Gr26.out (fun g e => by cases e; exact hpc.symm)).c1) (fun _ => ?_)
      clear hK K
      clear hm hC hg Gr25 HX25 hsd25 HS10_25 hs10_25 hnc10
      refine wpAnyF_ready (rs := [11]) (by kernel_rfl) (by simp) ?_
      refine AllReadyF.cons rfl (fun K hK => ?_) AllReadyF.nil
      rw [if_pos (by kernel_rfl)]
      go_wp2_with fail
      have A : Below w26.heap.size w26 (w26.alloc (.cells #[.string y2, .string y3] 9)) := (Below.refl _ _).alloc (Nat.le_refl _) _
      have GrA := Hid.mk (gy_below Gr26.out A)
      have HXA := Hid.mk (HX26.out.grow A)
      have HTA := Hid.mk (heap_alloc_new w26 (.cells #[.string y2, .string y3] 9))
      have hta : w26.heap.size < (w26.alloc (.cells #[.string y2, .string y3] 9)).heap.size := (Array.getElem?_eq_some_iff.1 (heap_alloc_new w26 (.cells #[.string y2, .string y3] 9))).1
      refine hK.out _ _ (fun _ => (HPd.out.row GrA.out (fun g e => by cases e; exact hpc.symm)).c1) (fun _ => ?_)
      clear hK K
      clear A Gr26 HX26
      generalize w26.heap.size = t3 at *
      generalize w26.alloc (.cells #[.string y2, .string y3] 9) = wA at *
      refine wpAnyF_ready (rs := [12]) (by kernel_rfl) (by simp) ?_
      refine AllReadyF.cons rfl (fun K hK => ?_) AllReadyF.nil
      rw [if_pos (by kernel_rfl)]
      go_wp2_with fail
      refine hK.out _ _ (fun _ => (HPd.out.row GrA.out (fun g e => by cases e; exact hpc.symm)).c1) (fun _ => ?_)
      clear hK K
      refine wpAnyF_ready (rs := [13]) (by kernel_rfl) (by simp) ?_
      refine AllReadyF.cons rfl (fun K hK => ?_) AllReadyF.nil
      rw [if_pos (by kernel_rfl)]
      go_wp2_with fail
      have A : Below wA.heap.size wA (wA.alloc (.cells #[.string y1, .slice (some ⟨t3, 0, none⟩) 2 2, .slice none 0 0] 63)) := (Below.refl _ _).alloc (Nat.le_refl _) _
      have GrB := Hid.mk (gy_below GrA.out A)
      have HXB := Hid.mk (HXA.out.grow A)
      have HTB := Hid.mk ((A.block t3 hta).trans HTA.out)
      have HNB := Hid.mk (heap_alloc_new wA (.cells #[.string y1, .slice (some ⟨t3, 0, none⟩) 2 2, .slice none 0 0] 63))
      have ht3p : pb < t3 := by omega
      have hlb : wA.heap.size < (wA.alloc (.cells #[.string y1, .slice (some ⟨t3, 0, none⟩) 2 2, .slice none 0 0] 63)).heap.size := (Array.getElem?_eq_some_iff.1 (heap_alloc_new wA (.cells #[.string y1, .slice (some ⟨t3, 0, none⟩) 2 2, .slice none 0 0] 63))).1
      refine hK.out _ _ (fun _ => (HPd.out.row GrB.out (fun g e => by cases e; exact hpc.symm)).c1) (fun _ => ?_)
      clear hK K
      clear A GrA HXA HTA
      generalize wA.heap.size = lb at *
      generalize wA.alloc (.cells #[.string y1, .slice (some ⟨t3, 0, none⟩) 2 2, .slice none 0 0] 63) = wB at *
      have HFB2 := Hid.mk (HFd.out.keep GrB.out (fun x e => by cases e; exact .inl (by omega)))
      have htb3 : Tb wB (nf wB t3) (.slice (some ⟨t3, 0, none⟩) 2 2) [y2, y3] := tb_of (xs := [y2, y3]) HTB.out ⟨Nat.le_refl _, fun o => frozen_of_row _ t3 o _ _ HTB.out⟩ (by simp; exact ⟨hy2, hy3⟩) (by simp)
      have hFl2 : F.length ≤ 1000 := by have := HFL.out; simp at this; omega
      have hfgb : nb ≤ fg := (World.ownsRow.lt HFB2.out.1 fg rfl).1
      refine wpAnyF_ready (rs := [14]) (by kernel_rfl) (by simp) ?_
      refine AllReadyF.cons rfl (fun K hK => ?_) AllReadyF.nil
      rw [if_pos (by kernel_rfl)]
      refine wp_append_fe (.tmp 49) (.tmp 61) rfl nb t3 pb (.slice (some ⟨fg, 0, none⟩) 2 fc) F ⟨⟨y1, [y2, y3], []⟩, .slice (some ⟨t3, 0, none⟩) 2 2, .slice none 0 0⟩ rfl HFB2.out.1 (HFB2.out.rowF (by omega)) (fun k hk => by simp [Value.ownBlock] at hk; omega) (by omega) lb rfl HNB.out htb3 (Sl.zero _ _) hy1 (by omega) (by omega) (fun k hk => by simp [Value.ownBlock] at hk; omega) (by omega) hFl2 ?_
      rintro V' w14 hE14 hg14
      obtain ⟨wo, wnn, wc2, rfl⟩ : ∃ o n c, V' = .slice o n c := by obtain ⟨o, c, h, -⟩ := hE14.len; exact ⟨_, _, _, h⟩
      have HP14 := Hid.mk ((HPd.out.row GrB.out (fun g e => by cases e; exact hpc.symm)).row hg14 (fun x e => by simp [Value.ownBlock] at e; omega))
      refine hK.out _ _ (fun _ => HP14.out.c1) (fun _ => ?_)
      clear hK K
      refine wpAnyF_ready (rs := [15]) (by kernel_rfl) (by simp) ?_
      refine AllReadyF.cons rfl (fun K hK => ?_) AllReadyF.nil
      rw [if_pos (by kernel_rfl)]
      go_wp2_with fail
      refine hK.out _ _ (fun _ => HP14.out.c1) (fun _ => ?_)
      clear hK K
      refine wpAnyF_ready (rs := [16]) (by kernel_rfl) (by simp) ?_
      refine AllReadyF.cons rfl (fun K hK => ?_) AllReadyF.nil
      have z1 := HP14.out.c1
      have zf := HP14.out.fr
      rw [if_pos (by kernel_rfl)]
      go_wp2_with fail
      refine hK.out _ _ (fun h => absurd rfl h) (fun _ => ?_)
      clear hK K
      refine wpAnyF_done (by kernel_rfl) ?_ _
      clear z1 zf
      have G7 := gb_set w14 pb 1 (.slice wo wnn wc2)
      have hu7 := ((HUBd.out.bnd (bnd_of GrB.out (fun x e => by cases e; exact .inl (by omega)))).bnd (bnd_of hg14 (fun x e => by simp [Value.ownBlock] at e; omega))).bnd (bnd_of G7 (fun x e => by cases e; exact .inr (Nat.le_refl _)))
      have HR7 : Hid (PgR (w14.setCell ⟨pb, 1, none⟩ (.slice wo wnn wc2)) (w.heap.size + 1) (.slice (some ⟨g, 0, none⟩) nU cap) (.slice wo wnn wc2)) := pgR_of (hu7.imp fun _ hb _ => ⟨by have := hb.1.1; omega, hb.1.2⟩) ((hE14.nfe G7).imp fun _ hb _ => ⟨by have := hb.1; omega, hb.2⟩) (fun r hr => Nat.le_trans (HUZ.out r hr) (by omega)) (fun f hf => by
       rcases List.mem_append.1 hf with hf | hf
       ·exact Nat.le_trans (HFZ.out f hf) (by omega)
       ·obtain rfl := List.mem_singleton.1 hf
        simp only [Fu.sz, gsz, szy]
        omega) HUL.out (by have := HFL.out; simp at this ⊢; omega)
      have HP7 := Hid.mk (HP14.out.put1 (.slice wo wnn wc2))
      have HB7 := Hid.mk (((HBd.out.row GrB.out (fun g e => by cases e; exact fun e => HNE.out e.symm)).row hg14 (fun x e => by simp [Value.ownBlock] at e; omega)).row G7 (fun x e => by cases e; omega))
      have HC7 := Hid.mk ((HXB.out.row hg14 (fun x e => by simp [Value.ownBlock] at e; exact ⟨by omega, fun hz k hk => by have := HV.out hz k hk; omega⟩)).row G7 (fun x e => by cases e; exact ⟨hpc, fun hz k hk => by have := HV.out hz k hk; omega⟩))
      have HG7 := Hid.mk (gy_far (gy_row (grownBy_trans HGd.out GrB.out) hg14 (fun x e => by simp [Value.ownBlock] at e; omega)) G7 (by omega))
      clear hu7 G7 HP14 hE14 hg14 HXB GrB HNB HTB HFB2 htb3 HPd HId HFd HUBd HFBd HBd HGd
      go_wp2
      go_meet
      case rel => exact ⟨(.slice (some ⟨g, 0, none⟩) nU cap), (.slice wo wnn wc2), HR7, HP7, HB7, HC7, HG7⟩
     ·rw [if_pos (by kernel_rfl)]
      go_wp2_with fail
      have A : Below w22.heap.size w22 (w22.alloc (.cells #[.string ⟨#[97]⟩, .string ⟨#[116]⟩, .string ⟨#[102]⟩] 9)) := (Below.refl _ _).alloc (Nat.le_refl _) _
      have Gr23 := Hid.mk (gy_below Gr22.out A)
      have HX23 := Hid.mk (HX22.out.grow A)
      have hsd23 : sd ≤ (w22.alloc (.cells #[.string ⟨#[97]⟩, .string ⟨#[116]⟩, .string ⟨#[102]⟩] 9)).heap.size := by have := A.size; omega
      have HS7_23 := Hid.mk (heap_alloc_new w22 (.cells #[.string ⟨#[97]⟩, .string ⟨#[116]⟩, .string ⟨#[102]⟩] 9))
      have hs7_23 : w22.heap.size < (w22.alloc (.cells #[.string ⟨#[97]⟩, .string ⟨#[116]⟩, .string ⟨#[102]⟩] 9)).heap.size := (Array.getElem?_eq_some_iff.1 (heap_alloc_new w22 (.cells #[.string ⟨#[97]⟩, .string ⟨#[116]⟩, .string ⟨#[102]⟩] 9))).1
      have hnc7 : w22.heap.size ≠ cb := by have := HX22.out.lt; omega
      have HS10_23 := Hid.mk ((A.block tb10 hs10_22).trans HS10_22.out)
      have hs10_23 : tb10 < (w22.alloc (.cells #[.string ⟨#[97]⟩, .string ⟨#[116]⟩, .string ⟨#[102]⟩] 9)).heap.size := by have := A.size; omega
      have HS4_23 := Hid.mk ((A.block tb4 hs4_22).trans HS4_22.out)
      have hs4_23 : tb4 < (w22.alloc (.cells #[.string ⟨#[97]⟩, .string ⟨#[116]⟩, .string ⟨#[102]⟩] 9)).heap.size := by have := A.size; omega
      refine hK.out _ _ (fun _ => (HPd.out.row Gr23.out (fun g e => by cases e; exact hpc.symm)).c1) (fun _ => ?_)
      clear hK K
      clear A Gr22 HX22 hsd22 HS10_22 hs10_22 HS4_22 hs4_22
      generalize w22.heap.size = tb7 at *
      generalize w22.alloc (.cells #[.string ⟨#[97]⟩, .string ⟨#[116]⟩, .string ⟨#[102]⟩] 9) = w23 at *
      refine wpAnyF_ready (rs := [4]) (by kernel_rfl) (by simp) ?_
      refine AllReadyF.cons rfl (fun K hK => ?_) (AllReadyF.nil)
      rw [if_pos (by kernel_rfl)]
      go_wp2_with fail
      refine (l1Str_any cb tb4 5 v zs [⟨#[102]⟩, ⟨#[104]⟩, ⟨#[]⟩, ⟨#[112, 114, 105, 110, 116]⟩, ⟨#[116]⟩] _ HX23.out rfl (by omega) (by omega) HS4_23.out hnc4).mono ?_
      rintro e w24 ⟨y1, rfl, hm, hC, hg⟩
      have hy1 : y1.size ≤ 100 := by
       simp only [List.mem_cons, List.not_mem_nil, or_false] at hm
       rcases hm with h | h | h | h | h <;> subst h <;> decide
      have Gr24 := Hid.mk (grownBy_trans Gr23.out hg)
      have HX24 := Hid.mk hC
      have hsd24 : sd ≤ w24.heap.size := by have := hg.size; omega
      have HS10_24 := Hid.mk ((hg.block tb10 hs10_23 (by intro e; simp at e; omega)).trans HS10_23.out)
      have hs10_24 : tb10 < w24.heap.size := by have := hg.size; omega
      have HS7_24 := Hid.mk ((hg.block tb7 hs7_23 (by intro e; simp at e; omega)).trans HS7_23.out)
      have hs7_24 : tb7 < w24.heap.size := by have := hg.size; omega
      refine hK.out _ _ (fun _ => (HPd.out.row Gr24.out (fun g e => by cases e; exact hpc.symm)).c1) (fun _ => ?_)
      clear hK K
      clear hm hC hg Gr23 HX23 hsd23 HS4_23 hs4_23 hnc4 HS10_23 hs10_23 HS7_23 hs7_23
      refine wpAnyF_ready (rs := [7]) (by kernel_rfl) (by simp) ?_
      refine AllReadyF.cons rfl (fun K hK => ?_) (AllReadyF.nil)
      rw [if_pos (by kernel_rfl)]
      go_wp2_with fail
      refine (l1Str_any cb tb7 3 v zs [⟨#[97]⟩, ⟨#[116]⟩, ⟨#[102]⟩] _ HX24.out rfl (by omega) (by omega) HS7_24.out hnc7).mono ?_
      rintro e w25 ⟨y2, rfl, hm, hC, hg⟩
      have hy2 : y2.size ≤ 100 := by
       simp only [List.mem_cons, List.not_mem_nil, or_false] at hm
       rcases hm with h | h | h <;> subst h <;> decide
      have Gr25 := Hid.mk (grownBy_trans Gr24.out hg)
      have HX25 := Hid.mk hC
      have hsd25 : sd ≤ w25.heap.size := by have := hg.size; omega
      have HS10_25 := Hid.mk ((hg.block tb10 hs10_24 (by intro e; simp at e; omega)).trans HS10_24.out)
      have hs10_25 : tb10 < w25.heap.size := by have := hg.size; omega
      refine hK.out _ _ (fun _ => (HPd.out.row Gr25.out (fun g e => by cases e; exact hpc.symm)).c1) (fun _ => ?_)
      clear hK K
      clear hm hC hg Gr24 HX24 hsd24 HS7_24 hs7_24 hnc7 HS10_24 hs10_24
      refine wpAnyF_ready (rs := [10]) (by kernel_rfl) (by simp) ?_
      refine AllReadyF.cons rfl (fun K hK => ?_) (AllReadyF.nil)
      rw [if_pos (by kernel_rfl)]
      go_wp2_with fail
      refine (l1Str_any cb tb10 2 v zs [⟨#[97]⟩, ⟨#[98]⟩] _ HX25.out rfl (by omega) (by omega) HS10_25.out hnc10).mono ?_
      rintro e w26 ⟨y3, rfl, hm, hC, hg⟩
      have hy3 : y3.size ≤ 100 := by
       simp only [List.mem_cons, List.not_mem_nil, or_false] at hm
       rcases hm with h | h <;> subst h <;> decide
      have Gr26 := Hid.mk (grownBy_trans Gr25.out hg)
      have HX26 := Hid.mk hC
      have hsd26 : sd ≤ w26.heap.size := by have := hg.size; omega
      refine hK.out _ _ (fun _ => (HPd.out.row Gr26.out (fun g e => by cases e; exact hpc.symm)).c1) (fun _ => ?_)
      clear hK K
      clear hm hC hg Gr25 HX25 hsd25 HS10_25 hs10_25 hnc10
      refine wpAnyF_ready (rs := [11]) (by kernel_rfl) (by simp) ?_
      refine AllReadyF.cons rfl (fun K hK => ?_) AllReadyF.nil
      rw [if_pos (by kernel_rfl)]
      go_wp2_with fail
      have A : Below w26.heap.size w26 (w26.alloc (.cells #[.string y2, .string y3] 9)) := (Below.refl _ _).alloc (Nat.le_refl _) _
      have GrA := Hid.mk (gy_below Gr26.out A)
      have HXA := Hid.mk (HX26.out.grow A)
      have HTA := Hid.mk (heap_alloc_new w26 (.cells #[.string y2, .string y3] 9))
      have hta : w26.heap.size < (w26.alloc (.cells #[.string y2, .string y3] 9)).heap.size := (Array.getElem?_eq_some_iff.1 (heap_alloc_new w26 (.cells #[.string y2, .string y3] 9))).1
      refine hK.out _ _ (fun _ => (HPd.out.row GrA.out (fun g e => by cases e; exact hpc.symm)).c1) (fun _ => ?_)
      clear hK K
      clear A Gr26 HX26
      generalize w26.heap.size = t3 at *
      generalize w26.alloc (.cells #[.string y2, .string y3] 9) = wA at *
      refine wpAnyF_ready (rs := [12]) (by kernel_rfl) (by simp) ?_
      refine AllReadyF.cons rfl (fun K hK => ?_) AllReadyF.nil
      rw [if_pos (by kernel_rfl)]
      go_wp2_with fail
      refine hK.out _ _ (fun _ => (HPd.out.row GrA.out (fun g e => by cases e; exact hpc.symm)).c1) (fun _ => ?_)
      clear hK K
      refine wpAnyF_ready (rs := [13]) (by kernel_rfl) (by simp) ?_
      refine AllReadyF.cons rfl (fun K hK => ?_) AllReadyF.nil
      rw [if_pos (by kernel_rfl)]
      go_wp2_with fail
      have A : Below wA.heap.size wA (wA.alloc (.cells #[.string y1, .slice (some ⟨t3, 0, none⟩) 2 2, .slice none 0 0] 63)) := (Below.refl _ _).alloc (Nat.le_refl _) _
      have GrB := Hid.mk (gy_below GrA.out A)
      have HXB := Hid.mk (HXA.out.grow A)
      have HTB := Hid.mk ((A.block t3 hta).trans HTA.out)
      have HNB := Hid.mk (heap_alloc_new wA (.cells #[.string y1, .slice (some ⟨t3, 0, none⟩) 2 2, .slice none 0 0] 63))
      have ht3p : pb < t3 := by omega
      have hlb : wA.heap.size < (wA.alloc (.cells #[.string y1, .slice (some ⟨t3, 0, none⟩) 2 2, .slice none 0 0] 63)).heap.size := (Array.getElem?_eq_some_iff.1 (heap_alloc_new wA (.cells #[.string y1, .slice (some ⟨t3, 0, none⟩) 2 2, .slice none 0 0] 63))).1
      refine hK.out _ _ (fun _ => (HPd.out.row GrB.out (fun g e => by cases e; exact hpc.symm)).c1) (fun _ => ?_)
      clear hK K
      clear A GrA HXA HTA
      generalize wA.heap.size = lb at *
      generalize wA.alloc (.cells #[.string y1, .slice (some ⟨t3, 0, none⟩) 2 2, .slice none 0 0] 63) = wB at *
      have HFB2 := Hid.mk (HFd.out.keep GrB.out (fun x e => by cases e; exact .inl (by omega)))
      have htb3 : Tb wB (nf wB t3) (.slice (some ⟨t3, 0, none⟩) 2 2) [y2, y3] := tb_of (xs := [y2, y3]) HTB.out ⟨Nat.le_refl _, fun o => frozen_of_row _ t3 o _ _ HTB.out⟩ (by simp; exact ⟨hy2, hy3⟩) (by simp)
      have hFl2 : F.length ≤ 1000 := by have := HFL.out; simp at this; omega
      have hfgb : nb ≤ fg := (World.ownsRow.lt HFB2.out.1 fg rfl).1
      refine wpAnyF_ready (rs := [14]) (by kernel_rfl) (by simp) ?_
      refine AllReadyF.cons rfl (fun K hK => ?_) AllReadyF.nil
      rw [if_pos (by kernel_rfl)]
      refine wp_append_fe (.tmp 49) (.tmp 61) rfl nb t3 pb (.slice (some ⟨fg, 0, none⟩) 2 fc) F ⟨⟨y1, [y2, y3], []⟩, .slice (some ⟨t3, 0, none⟩) 2 2, .slice none 0 0⟩ rfl HFB2.out.1 (HFB2.out.rowF (by omega)) (fun k hk => by simp [Value.ownBlock] at hk; omega) (by omega) lb rfl HNB.out htb3 (Sl.zero _ _) hy1 (by omega) (by omega) (fun k hk => by simp [Value.ownBlock] at hk; omega) (by omega) hFl2 ?_
      rintro V' w14 hE14 hg14
      obtain ⟨wo, wnn, wc2, rfl⟩ : ∃ o n c, V' = .slice o n c := by obtain ⟨o, c, h, -⟩ := hE14.len; exact ⟨_, _, _, h⟩
      have HP14 := Hid.mk ((HPd.out.row GrB.out (fun g e => by cases e; exact hpc.symm)).row hg14 (fun x e => by simp [Value.ownBlock] at e; omega))
      refine hK.out _ _ (fun _ => HP14.out.c1) (fun _ => ?_)
      clear hK K
      refine wpAnyF_ready (rs := [15]) (by kernel_rfl) (by simp) ?_
      refine AllReadyF.cons rfl (fun K hK => ?_) AllReadyF.nil
      rw [if_pos (by kernel_rfl)]
      go_wp2_with fail
      refine hK.out _ _ (fun _ => HP14.out.c1) (fun _ => ?_)
      clear hK K
      refine wpAnyF_ready (rs := [16]) (by kernel_rfl) (by simp) ?_
      refine AllReadyF.cons rfl (fun K hK => ?_) AllReadyF.nil
      have z1 := HP14.out.c1
      have zf := HP14.out.fr
      rw [if_pos (by kernel_rfl)]
      go_wp2_with fail
      refine hK.out _ _ (fun h => absurd rfl h) (fun _ => ?_)
      clear hK K
      refine wpAnyF_done (by kernel_rfl) ?_ _
      clear z1 zf
      have G7 := gb_set w14 pb 1 (.slice wo wnn wc2)
      have hu7 := ((HUBd.out.bnd (bnd_of GrB.out (fun x e => by cases e; exact .inl (by omega)))).bnd (bnd_of hg14 (fun x e => by simp [Value.ownBlock] at e; omega))).bnd (bnd_of G7 (fun x e => by cases e; exact .inr (Nat.le_refl _)))
      have HR7 : Hid (PgR (w14.setCell ⟨pb, 1, none⟩ (.slice wo wnn wc2)) (w.heap.size + 1) (.slice (some ⟨g, 0, none⟩) nU cap) (.slice wo wnn wc2)) := pgR_of (hu7.imp fun _ hb _ => ⟨by have := hb.1.1; omega, hb.1.2⟩) ((hE14.nfe G7).imp fun _ hb _ => ⟨by have := hb.1; omega, hb.2⟩) (fun r hr => Nat.le_trans (HUZ.out r hr) (by omega)) (fun f hf => by
       rcases List.mem_append.1 hf with hf | hf
       ·exact Nat.le_trans (HFZ.out f hf) (by omega)
       ·obtain rfl := List.mem_singleton.1 hf
        simp only [Fu.sz, gsz, szy]
        omega) HUL.out (by have := HFL.out; simp at this ⊢; omega)
      have HP7 := Hid.mk (HP14.out.put1 (.slice wo wnn wc2))
      have HB7 := Hid.mk (((HBd.out.row GrB.out (fun g e => by cases e; exact fun e => HNE.out e.symm)).row hg14 (fun x e => by simp [Value.ownBlock] at e; omega)).row G7 (fun x e => by cases e; omega))
      have HC7 := Hid.mk ((HXB.out.row hg14 (fun x e => by simp [Value.ownBlock] at e; exact ⟨by omega, fun hz k hk => by have := HV.out hz k hk; omega⟩)).row G7 (fun x e => by cases e; exact ⟨hpc, fun hz k hk => by have := HV.out hz k hk; omega⟩))
      have HG7 := Hid.mk (gy_far (gy_row (grownBy_trans HGd.out GrB.out) hg14 (fun x e => by simp [Value.ownBlock] at e; omega)) G7 (by omega))
      clear hu7 G7 HP14 hE14 hg14 HXB GrB HNB HTB HFB2 htb3 HPd HId HFd HUBd HFBd HBd HGd
      go_wp2
      go_meet
      case rel => exact ⟨(.slice (some ⟨g, 0, none⟩) nU cap), (.slice wo wnn wc2), HR7, HP7, HB7, HC7, HG7⟩
    ·rw [if_pos (by kernel_rfl)]
     go_wp2_with fail
     have A : Below w21.heap.size w21 (w21.alloc (.cells #[.string ⟨#[97]⟩, .string ⟨#[116]⟩, .string ⟨#[102]⟩] 9)) := (Below.refl _ _).alloc (Nat.le_refl _) _
     have Gr22 := Hid.mk (gy_below Gr21.out A)
     have HX22 := Hid.mk (HX21.out.grow A)
     have hsd22 : sd ≤ (w21.alloc (.cells #[.string ⟨#[97]⟩, .string ⟨#[116]⟩, .string ⟨#[102]⟩] 9)).heap.size := by have := A.size; omega
     have HS7_22 := Hid.mk (heap_alloc_new w21 (.cells #[.string ⟨#[97]⟩, .string ⟨#[116]⟩, .string ⟨#[102]⟩] 9))
     have hs7_22 : w21.heap.size < (w21.alloc (.cells #[.string ⟨#[97]⟩, .string ⟨#[116]⟩, .string ⟨#[102]⟩] 9)).heap.size := (Array.getElem?_eq_some_iff.1 (heap_alloc_new w21 (.cells #[.string ⟨#[97]⟩, .string ⟨#[116]⟩, .string ⟨#[102]⟩] 9))).1
     have hnc7 : w21.heap.size ≠ cb := by have := HX21.out.lt; omega
     have HS10_22 := Hid.mk ((A.block tb10 hs10_21).trans HS10_21.out)
     have hs10_22 : tb10 < (w21.alloc (.cells #[.string ⟨#[97]⟩, .string ⟨#[116]⟩, .string ⟨#[102]⟩] 9)).heap.size := by have := A.size; omega
     refine hK.out _ _ (fun _ => (HPd.out.row Gr22.out (fun g e => by cases e; exact hpc.symm)).c1) (fun _ => ?_)
     clear hK K
     clear A Gr21 HX21 hsd21 HS10_21 hs10_21
     generalize w21.heap.size = tb7 at *
     generalize w21.alloc (.cells #[.string ⟨#[97]⟩, .string ⟨#[116]⟩, .string ⟨#[102]⟩] 9) = w22 at *
     refine wpAnyF_ready (rs := [3]) (by kernel_rfl) (by simp) ?_
     refine AllReadyF.cons rfl (fun K hK => ?_) (AllReadyF.nil)
     rw [if_pos (by kernel_rfl)]
     go_wp2_with fail
     have A : Below w22.heap.size w22 (w22.alloc (.cells #[.string ⟨#[102]⟩, .string ⟨#[104]⟩, .string ⟨#[]⟩, .string ⟨#[112, 114, 105, 110, 116]⟩, .string ⟨#[116]⟩] 9)) := (Below.refl _ _).alloc (Nat.le_refl _) _
     have Gr23 := Hid.mk (gy_below Gr22.out A)
     have HX23 := Hid.mk (HX22.out.grow A)
     have hsd23 : sd ≤ (w22.alloc (.cells #[.string ⟨#[102]⟩, .string ⟨#[104]⟩, .string ⟨#[]⟩, .string ⟨#[112, 114, 105, 110, 116]⟩, .string ⟨#[116]⟩] 9)).heap.size := by have := A.size; omega
     have HS4_23 := Hid.mk (heap_alloc_new w22 (.cells #[.string ⟨#[102]⟩, .string ⟨#[104]⟩, .string ⟨#[]⟩, .string ⟨#[112, 114, 105, 110, 116]⟩, .string ⟨#[116]⟩] 9))
     have hs4_23 : w22.heap.size < (w22.alloc (.cells #[.string ⟨#[102]⟩, .string ⟨#[104]⟩, .string ⟨#[]⟩, .string ⟨#[112, 114, 105, 110, 116]⟩, .string ⟨#[116]⟩] 9)).heap.size := (Array.getElem?_eq_some_iff.1 (heap_alloc_new w22 (.cells #[.string ⟨#[102]⟩, .string ⟨#[104]⟩, .string ⟨#[]⟩, .string ⟨#[112, 114, 105, 110, 116]⟩, .string ⟨#[116]⟩] 9))).1
     have hnc4 : w22.heap.size ≠ cb := by have := HX22.out.lt; omega
     have HS10_23 := Hid.mk ((A.block tb10 hs10_22).trans HS10_22.out)
     have hs10_23 : tb10 < (w22.alloc (.cells #[.string ⟨#[102]⟩, .string ⟨#[104]⟩, .string ⟨#[]⟩, .string ⟨#[112, 114, 105, 110, 116]⟩, .string ⟨#[116]⟩] 9)).heap.size := by have := A.size; omega
     have HS7_23 := Hid.mk ((A.block tb7 hs7_22).trans HS7_22.out)
     have hs7_23 : tb7 < (w22.alloc (.cells #[.string ⟨#[102]⟩, .string ⟨#[104]⟩, .string ⟨#[]⟩, .string ⟨#[112, 114, 105, 110, 116]⟩, .string ⟨#[116]⟩] 9)).heap.size := by have := A.size; omega
     refine hK.out _ _ (fun _ => (HPd.out.row Gr23.out (fun g e => by cases e; exact hpc.symm)).c1) (fun _ => ?_)
     clear hK K
     clear A Gr22 HX22 hsd22 HS10_22 hs10_22 HS7_22 hs7_22
     generalize w22.heap.size = tb4 at *
     generalize w22.alloc (.cells #[.string ⟨#[102]⟩, .string ⟨#[104]⟩, .string ⟨#[]⟩, .string ⟨#[112, 114, 105, 110, 116]⟩, .string ⟨#[116]⟩] 9) = w23 at *
     refine wpAnyF_ready (rs := [4]) (by kernel_rfl) (by simp) ?_
     refine AllReadyF.cons rfl (fun K hK => ?_) (AllReadyF.nil)
     rw [if_pos (by kernel_rfl)]
     go_wp2_with fail
     refine (l1Str_any cb tb4 5 v zs [⟨#[102]⟩, ⟨#[104]⟩, ⟨#[]⟩, ⟨#[112, 114, 105, 110, 116]⟩, ⟨#[116]⟩] _ HX23.out rfl (by omega) (by omega) HS4_23.out hnc4).mono ?_
     rintro e w24 ⟨y1, rfl, hm, hC, hg⟩
     have hy1 : y1.size ≤ 100 := by
      simp only [List.mem_cons, List.not_mem_nil, or_false] at hm
      rcases hm with h | h | h | h | h <;> subst h <;> decide
     have Gr24 := Hid.mk (grownBy_trans Gr23.out hg)
     have HX24 := Hid.mk hC
     have hsd24 : sd ≤ w24.heap.size := by have := hg.size; omega
     have HS10_24 := Hid.mk ((hg.block tb10 hs10_23 (by intro e; simp at e; omega)).trans HS10_23.out)
     have hs10_24 : tb10 < w24.heap.size := by have := hg.size; omega
     have HS7_24 := Hid.mk ((hg.block tb7 hs7_23 (by intro e; simp at e; omega)).trans HS7_23.out)
     have hs7_24 : tb7 < w24.heap.size := by have := hg.size; omega
     refine hK.out _ _ (fun _ => (HPd.out.row Gr24.out (fun g e => by cases e; exact hpc.symm)).c1) (fun _ => ?_)
     clear hK K
     clear hm hC hg Gr23 HX23 hsd23 HS4_23 hs4_23 hnc4 HS10_23 hs10_23 HS7_23 hs7_23
     refine wpAnyF_ready (rs := [7]) (by kernel_rfl) (by simp) ?_
     refine AllReadyF.cons rfl (fun K hK => ?_) (AllReadyF.nil)
     rw [if_pos (by kernel_rfl)]
     go_wp2_with fail
     refine (l1Str_any cb tb7 3 v zs [⟨#[97]⟩, ⟨#[116]⟩, ⟨#[102]⟩] _ HX24.out rfl (by omega) (by omega) HS7_24.out hnc7).mono ?_
     rintro e w25 ⟨y2, rfl, hm, hC, hg⟩
     have hy2 : y2.size ≤ 100 := by
      simp only [List.mem_cons, List.not_mem_nil, or_false] at hm
      rcases hm with h | h | h <;> subst h <;> decide
     have Gr25 := Hid.mk (grownBy_trans Gr24.out hg)
     have HX25 := Hid.mk hC
     have hsd25 : sd ≤ w25.heap.size := by have := hg.size; omega
     have HS10_25 := Hid.mk ((hg.block tb10 hs10_24 (by intro e; simp at e; omega)).trans HS10_24.out)
     have hs10_25 : tb10 < w25.heap.size := by have := hg.size; omega
     refine hK.out _ _ (fun _ => (HPd.out.row Gr25.out (fun g e => by cases e; exact hpc.symm)).c1) (fun _ => ?_)
     clear hK K
     clear hm hC hg Gr24 HX24 hsd24 HS7_24 hs7_24 hnc7 HS10_24 hs10_24
     refine wpAnyF_ready (rs := [10]) (by kernel_rfl) (by simp) ?_
     refine AllReadyF.cons rfl (fun K hK => ?_) (AllReadyF.nil)
     rw [if_pos (by kernel_rfl)]
     go_wp2_with fail
     refine (l1Str_any cb tb10 2 v zs [⟨#[97]⟩, ⟨#[98]⟩] _ HX25.out rfl (by omega) (by omega) HS10_25.out hnc10).mono ?_
     rintro e w26 ⟨y3, rfl, hm, hC, hg⟩
     have hy3 : y3.size ≤ 100 := by
      simp only [List.mem_cons, List.not_mem_nil, or_false] at hm
      rcases hm with h | h <;> subst h <;> decide
     have Gr26 := Hid.mk (grownBy_trans Gr25.out hg)
     have HX26 := Hid.mk hC
     have hsd26 : sd ≤ w26.heap.size := by have := hg.size; omega
     refine hK.out _ _ (fun _ => (HPd.out.row Gr26.out (fun g e => by cases e; exact hpc.symm)).c1) (fun _ => ?_)
     clear hK K
     clear hm hC hg Gr25 HX25 hsd25 HS10_25 hs10_25 hnc10
     refine wpAnyF_ready (rs := [11]) (by kernel_rfl) (by simp) ?_
     refine AllReadyF.cons rfl (fun K hK => ?_) AllReadyF.nil
     rw [if_pos (by kernel_rfl)]
     go_wp2_with fail
     have A : Below w26.heap.size w26 (w26.alloc (.cells #[.string y2, .string y3] 9)) := (Below.refl _ _).alloc (Nat.le_refl _) _
     have GrA := Hid.mk (gy_below Gr26.out A)
     have HXA := Hid.mk (HX26.out.grow A)
     have HTA := Hid.mk (heap_alloc_new w26 (.cells #[.string y2, .string y3] 9))
     have hta : w26.heap.size < (w26.alloc (.cells #[.string y2, .string y3] 9)).heap.size := (Array.getElem?_eq_some_iff.1 (heap_alloc_new w26 (.cells #[.string y2, .string y3] 9))).1
     refine hK.out _ _ (fun _ => (HPd.out.row GrA.out (fun g e => by cases e; exact hpc.symm)).c1) (fun _ => ?_)
     clear hK K
     clear A Gr26 HX26
     generalize w26.heap.size = t3 at *
     generalize w26.alloc (.cells #[.string y2, .string y3] 9) = wA at *
     refine wpAnyF_ready (rs := [12]) (by kernel_rfl) (by simp) ?_
     refine AllReadyF.cons rfl (fun K hK => ?_) AllReadyF.nil
     rw [if_pos (by kernel_rfl)]
     go_wp2_with fail
     refine hK.out _ _ (fun _ => (HPd.out.row GrA.out (fun g e => by cases e; exact hpc.symm)).c1) (fun _ => ?_)
     clear hK K
     refine wpAnyF_ready (rs := [13]) (by kernel_rfl) (by simp) ?_
     refine AllReadyF.cons rfl (fun K hK => ?_) AllReadyF.nil
     rw [if_pos (by kernel_rfl)]
     go_wp2_with fail
     have A : Below wA.heap.size wA (wA.alloc (.cells #[.string y1, .slice (some ⟨t3, 0, none⟩) 2 2, .slice none 0 0] 63)) := (Below.refl _ _).alloc (Nat.le_refl _) _
     have GrB := Hid.mk (gy_below GrA.out A)
     have HXB := Hid.mk (HXA.out.grow A)
     have HTB := Hid.mk ((A.block t3 hta).trans HTA.out)
     have HNB := Hid.mk (heap_alloc_new wA (.cells #[.string y1, .slice (some ⟨t3, 0, none⟩) 2 2, .slice none 0 0] 63))
     have ht3p : pb < t3 := by omega
     have hlb : wA.heap.size < (wA.alloc (.cells #[.string y1, .slice (some ⟨t3, 0, none⟩) 2 2, .slice none 0 0] 63)).heap.size := (Array.getElem?_eq_some_iff.1 (heap_alloc_new wA (.cells #[.string y1, .slice (some ⟨t3, 0, none⟩) 2 2, .slice none 0 0] 63))).1
     refine hK.out _ _ (fun _ => (HPd.out.row GrB.out (fun g e => by cases e; exact hpc.symm)).c1) (fun _ => ?_)
     clear hK K
     clear A GrA HXA HTA
     generalize wA.heap.size = lb at *
     generalize wA.alloc (.cells #[.string y1, .slice (some ⟨t3, 0, none⟩) 2 2, .slice none 0 0] 63) = wB at *
     have HFB2 := Hid.mk (HFd.out.keep GrB.out (fun x e => by cases e; exact .inl (by omega)))
     have htb3 : Tb wB (nf wB t3) (.slice (some ⟨t3, 0, none⟩) 2 2) [y2, y3] := tb_of (xs := [y2, y3]) HTB.out ⟨Nat.le_refl _, fun o => frozen_of_row _ t3 o _ _ HTB.out⟩ (by simp; exact ⟨hy2, hy3⟩) (by simp)
     have hFl2 : F.length ≤ 1000 := by have := HFL.out; simp at this; omega
     have hfgb : nb ≤ fg := (World.ownsRow.lt HFB2.out.1 fg rfl).1
     refine wpAnyF_ready (rs := [14]) (by kernel_rfl) (by simp) ?_
     refine AllReadyF.cons rfl (fun K hK => ?_) AllReadyF.nil
     rw [if_pos (by kernel_rfl)]
     refine wp_append_fe (.tmp 49) (.tmp 61) rfl nb t3 pb (.slice (some ⟨fg, 0, none⟩) 2 fc) F ⟨⟨y1, [y2, y3], []⟩, .slice (some ⟨t3, 0, none⟩) 2 2, .slice none 0 0⟩ rfl HFB2.out.1 (HFB2.out.rowF (by omega)) (fun k hk => by simp [Value.ownBlock] at hk; omega) (by omega) lb rfl HNB.out htb3 (Sl.zero _ _) hy1 (by omega) (by omega) (fun k hk => by simp [Value.ownBlock] at hk; omega) (by omega) hFl2 ?_
     rintro V' w14 hE14 hg14
     obtain ⟨wo, wnn, wc2, rfl⟩ : ∃ o n c, V' = .slice o n c := by obtain ⟨o, c, h, -⟩ := hE14.len; exact ⟨_, _, _, h⟩
     have HP14 := Hid.mk ((HPd.out.row GrB.out (fun g e => by cases e; exact hpc.symm)).row hg14 (fun x e => by simp [Value.ownBlock] at e; omega))
     refine hK.out _ _ (fun _ => HP14.out.c1) (fun _ => ?_)
     clear hK K
     refine wpAnyF_ready (rs := [15]) (by kernel_rfl) (by simp) ?_
     refine AllReadyF.cons rfl (fun K hK => ?_) AllReadyF.nil
     rw [if_pos (by kernel_rfl)]
     go_wp2_with fail
     refine hK.out _ _ (fun _ => HP14.out.c1) (fun _ => ?_)
     clear hK K
     refine wpAnyF_ready (rs := [16]) (by kernel_rfl) (by simp) ?_
     refine AllReadyF.cons rfl (fun K hK => ?_) AllReadyF.nil
     have z1 := HP14.out.c1
     have zf := HP14.out.fr
     rw [if_pos (by kernel_rfl)]
     go_wp2_with fail
     refine hK.out _ _ (fun h => absurd rfl h) (fun _ => ?_)
     clear hK K
     refine wpAnyF_done (by kernel_rfl) ?_ _
     clear z1 zf
     have G7 := gb_set w14 pb 1 (.slice wo wnn wc2)
     have hu7 := ((HUBd.out.bnd (bnd_of GrB.out (fun x e => by cases e; exact .inl (by omega)))).bnd (bnd_of hg14 (fun x e => by simp [Value.ownBlock] at e; omega))).bnd (bnd_of G7 (fun x e => by cases e; exact .inr (Nat.le_refl _)))
     have HR7 : Hid (PgR (w14.setCell ⟨pb, 1, none⟩ (.slice wo wnn wc2)) (w.heap.size + 1) (.slice (some ⟨g, 0, none⟩) nU cap) (.slice wo wnn wc2)) := pgR_of (hu7.imp fun _ hb _ => ⟨by have := hb.1.1; omega, hb.1.2⟩) ((hE14.nfe G7).imp fun _ hb _ => ⟨by have := hb.1; omega, hb.2⟩) (fun r hr => Nat.le_trans (HUZ.out r hr) (by omega)) (fun f hf => by
      rcases List.mem_append.1 hf with hf | hf
      ·exact Nat.le_trans (HFZ.out f hf) (by omega)
      ·obtain rfl := List.mem_singleton.1 hf
       simp only [Fu.sz, gsz, szy]
       omega) HUL.out (by have := HFL.out; simp at this ⊢; omega)
     have HP7 := Hid.mk (HP14.out.put1 (.slice wo wnn wc2))
     have HB7 := Hid.mk (((HBd.out.row GrB.out (fun g e => by cases e; exact fun e => HNE.out e.symm)).row hg14 (fun x e => by simp [Value.ownBlock] at e; omega)).row G7 (fun x e => by cases e; omega))
     have HC7 := Hid.mk ((HXB.out.row hg14 (fun x e => by simp [Value.ownBlock] at e; exact ⟨by omega, fun hz k hk => by have := HV.out hz k hk; omega⟩)).row G7 (fun x e => by cases e; exact ⟨hpc, fun hz k hk => by have := HV.out hz k hk; omega⟩))
     have HG7 := Hid.mk (gy_far (gy_row (grownBy_trans HGd.out GrB.out) hg14 (fun x e => by simp [Value.ownBlock] at e; omega)) G7 (by omega))
     clear hu7 G7 HP14 hE14 hg14 HXB GrB HNB HTB HFB2 htb3 HPd HId HFd HUBd HFBd HBd HGd
     go_wp2
     go_meet
     case rel => exact ⟨(.slice (some ⟨g, 0, none⟩) nU cap), (.slice wo wnn wc2), HR7, HP7, HB7, HC7, HG7⟩
  by_cases e3 : X = 3
  ·subst e3
   have HPd := Hid.mk (HP5.out.grow (drewB _ w5))
   have HId := Hid.mk (HI5.out.grow (drewB _ w5))
   have HFd := Hid.mk (HF5.out.grow (drewB _ w5))
   have HUBd := Hid.mk (HUB5.out.bnd (fun b _ _ hlt => (drewB _ w5).block b hlt))
   have HFBd := Hid.mk (HFB5.out.bnd (fun b _ _ hlt => (drewB _ w5).block b hlt))
   have HBd := Hid.mk (HB5.out.grow (drewB _ w5))
   have HCd := Hid.mk (HC5.out.grow (drewB _ w5))
   have HGd := Hid.mk (gy_below HG5.out (drewB _ w5))
   have hpld : pb < w5.drew.heap.size := hpl5
   clear HP5 HI5 HF5 HUB5 HFB5 HB5 HC5 HG5 hpl5
   go_wp2_with fail
   refine wp_region_F (f := 6) (S := fun w' => w'.cell? ⟨pb, 0, none⟩ = some (.slice (some ⟨g, 0, none⟩) nU cap)) (by kernel_rfl) ?_
   generalize w5.drew = wd at *
   have hn1' : 0 < nU := by rw [← hnU]; simp
   have hn1 : (0 : Int) < (nU : Int) := by omega
   refine takeF (i := 0) (v := .pointer (some ⟨pb, 0, none⟩)) (some 66) rfl rfl (by kernel_rfl) (by kernel_rfl) (by kernel_rfl) (by kernel_rfl) rfl (fun _ _ _ h => h) (Or.inl ⟨by kernel_rfl, fun w' hw => ?_⟩) HPd.out.c0 ?_
   ·kernel_rfl
   simp only [Act.put, List.setIfInBounds_toArray]
   refine takeF (i := 1) (v := (.slice (some ⟨g, 0, none⟩) nU cap)) (some 67) rfl rfl (by kernel_rfl) (by kernel_rfl) (by kernel_rfl) (by kernel_rfl) rfl (fun _ _ _ h => h) (Or.inl ⟨by kernel_rfl, fun w' hw => ?_⟩) HPd.out.c0 ?_
   ·have y := hw; go_simp
   simp only [Act.put, List.setIfInBounds_toArray]
   refine takeF (i := 2) (v := .pointer (some ⟨cb, 0, none⟩)) (some 68) rfl rfl (by kernel_rfl) (by kernel_rfl) (by kernel_rfl) (by kernel_rfl) rfl (fun _ _ _ h => h) (Or.inl ⟨by kernel_rfl, fun w' hw => ?_⟩) HPd.out.c0 ?_
   ·kernel_rfl
   simp only [Act.put, List.setIfInBounds_toArray]
   refine wpAnyF_ready (rs := [3]) (by kernel_rfl) (by simp) ?_
   refine AllReadyF.cons rfl (fun K hK => ?_) AllReadyF.nil
   rw [if_pos (by kernel_rfl)]
   go_wp2_with fail
   refine (l8Any_any cb v zs _ HCd.out).mono ?_
   rintro e w6 ⟨t, u, rfl, hd, he, hC, hg⟩
   obtain ⟨uo, un, uc, rfl⟩ : ∃ o n c, u = .slice o n c := by obtain ⟨o, c, h, -⟩ := he.len; exact ⟨_, _, _, h⟩
   have HE6 : Hid (El w6 (fun b => nf w6 n1 b ∧ some b ≠ some g) t.l (.slice uo un uc)) := he.imp fun b hb _ => ⟨⟨by have := hb.1; omega, hb.2⟩, by have := hb.1; simp; omega⟩
   have HD6 := Hid.mk hd
   clear hd he
   have HP6 := Hid.mk (HPd.out.row hg (fun g e => by cases e; exact hpc.symm))
   have HI6 := Hid.mk (HId.out.by hg (by omega))
   have HF6 := Hid.mk (HFd.out.keep hg (fun g e => by cases e; exact .inl (by omega)))
   have HUB6 := Hid.mk (HUBd.out.bnd (bnd_of hg (fun g e => by cases e; exact .inl (by omega))))
   have HFB6 := Hid.mk (HFBd.out.bnd (bnd_of hg (fun g e => by cases e; exact .inl (by omega))))
   have HB6 := Hid.mk (HBd.out.row hg (fun g e => by cases e; exact fun e => HNE.out e.symm))
   have HC6 := Hid.mk hC
   have HG6 := Hid.mk (grownBy_trans HGd.out hg)
   have hpl6 : pb < w6.heap.size := HP6.out.lt
   clear hg hC HPd HId HFd HUBd HFBd HBd HCd HGd hpld
   refine hK.out _ _ (fun _ => HP6.out.c0) (fun _ => ?_)
   clear hK K
   refine wpAnyF_ready (rs := [4]) (by kernel_rfl) (by simp) ?_
   refine AllReadyF.cons rfl (fun K hK => ?_) AllReadyF.nil
   rw [if_pos (by kernel_rfl)]
   go_wp2_with fail
   refine hK.out _ _ (fun _ => HP6.out.c0) (fun _ => ?_)
   clear hK K
   refine wpAnyF_ready (rs := [5]) (by kernel_rfl) (by simp) ?_
   refine AllReadyF.cons rfl (fun K hK => ?_) AllReadyF.nil
   rw [if_pos (by kernel_rfl)]
   go_wp2_with fail
   refine hK.out _ _ (fun _ => HP6.out.c0) (fun _ => ?_)
   clear hK K
   refine wpAnyF_ready (rs := [6]) (by kernel_rfl) (by simp) ?_
   refine AllReadyF.cons rfl (fun K hK => ?_) AllReadyF.nil
   obtain ⟨-, r1, r2, r3, r4, -, rf⟩ := HI6.out.cells hnU
   rw [if_pos (by kernel_rfl)]
   go_wp2_with fail
   refine hK.out _ _ (fun h => absurd rfl h) (fun _ => ?_)
   clear hK K
   refine wpAnyF_done (by kernel_rfl) ?_ _
   have G7 : w6.grownBy ((((w6.setCell ⟨g, 1, none⟩ (.int .i64 t.k)).setCell ⟨g, 2, none⟩ (.int .i64 t.n)).setCell ⟨g, 3, none⟩ (.string t.s)).setCell ⟨g, 4, none⟩ (.slice uo un uc)) (some g) := setP_by w6 g (.int .i64 t.k) (.int .i64 t.n) (.string t.s) (.slice uo un uc)
   clear r1 r2 r3 r4 rf
   have HF7 := HF6.out.keep G7 (fun x e => by cases e; exact .inr (by omega))
   have HR7 : Hid (PgR ((((w6.setCell ⟨g, 1, none⟩ (.int .i64 t.k)).setCell ⟨g, 2, none⟩ (.int .i64 t.n)).setCell ⟨g, 3, none⟩ (.string t.s)).setCell ⟨g, 4, none⟩ (.slice uo un uc)) (w.heap.size + 1) (.slice (some ⟨g, 0, none⟩) nU cap) (.slice (some ⟨fg, 0, none⟩) 2 fc)) := pgR_of ((HI6.out.setP hnU HE6.out HD6.out.size).imp fun _ hb _ => ⟨by have := hb.1; omega, hb.2⟩) (HF7.fl.imp fun _ hb _ => ⟨by have := hb.1.1; omega, hb.1.2⟩) ((fun r hr => by
    have hz := HUZ.out
    simp only [List.map_cons, List.mem_cons] at hr hz
    rcases hr with rfl | hr
    ·have := hz u0.r (.inl rfl); have := HD6.out.2; simp only [Ru.sz] at *; omega
    ·exact Nat.le_trans (hz r (.inr hr)) (by omega))) (fun f hf => Nat.le_trans (HFZ.out f hf) (by omega)) (by have := HUL.out; simpa using this) (by have := HFL.out; omega)
   have HP7 := Hid.mk (HP6.out.row G7 (fun x e => by cases e; omega))
   have HB7 := Hid.mk (HB6.out.row G7 (fun x e => by cases e; omega))
   have HC7 := Hid.mk (HC6.out.row G7 (fun x e => by cases e; exact ⟨by omega, fun hz k hk => by have := HV.out hz k hk; omega⟩))
   have HG7 := Hid.mk (gy_far HG6.out G7 (by omega))
   clear HF7 G7 HP6 HI6 HF6 HUB6 HFB6 HB6 HC6 HG6
   go_wp2
   go_meet
   case rel => exact ⟨(.slice (some ⟨g, 0, none⟩) nU cap), (.slice (some ⟨fg, 0, none⟩) 2 fc), HR7, HP7, HB7, HC7, HG7⟩
  by_cases e4 : X = 4
  ·subst e4
   have HPd := Hid.mk (HP5.out.grow (drewB _ w5))
   have HId := Hid.mk (HI5.out.grow (drewB _ w5))
   have HFd := Hid.mk (HF5.out.grow (drewB _ w5))
   have HUBd := Hid.mk (HUB5.out.bnd (fun b _ _ hlt => (drewB _ w5).block b hlt))
   have HFBd := Hid.mk (HFB5.out.bnd (fun b _ _ hlt => (drewB _ w5).block b hlt))
   have HBd := Hid.mk (HB5.out.grow (drewB _ w5))
   have HCd := Hid.mk (HC5.out.grow (drewB _ w5))
   have HGd := Hid.mk (gy_below HG5.out (drewB _ w5))
   have hpld : pb < w5.drew.heap.size := hpl5
   clear HP5 HI5 HF5 HUB5 HFB5 HB5 HC5 HG5 hpl5
   go_wp2_with fail
   refine wp_region_F (f := 6) (S := fun w' => w'.cell? ⟨pb, 1, none⟩ = some (.slice (some ⟨fg, 0, none⟩) 2 fc)) (by kernel_rfl) ?_
   generalize w5.drew = wd at *
   refine takeF (i := 0) (v := .pointer (some ⟨pb, 1, none⟩)) (some 74) rfl rfl (by kernel_rfl) (by kernel_rfl) (by kernel_rfl) (by kernel_rfl) rfl (fun _ _ _ h => h) (Or.inl ⟨by kernel_rfl, fun w' hw => ?_⟩) HPd.out.c1 ?_
   ·kernel_rfl
   simp only [Act.put, List.setIfInBounds_toArray]
   refine takeF (i := 1) (v := (.slice (some ⟨fg, 0, none⟩) 2 fc)) (some 75) rfl rfl (by kernel_rfl) (by kernel_rfl) (by kernel_rfl) (by kernel_rfl) rfl (fun _ _ _ h => h) (Or.inl ⟨by kernel_rfl, fun w' hw => ?_⟩) HPd.out.c1 ?_
   ·have y := hw; go_simp
   simp only [Act.put, List.setIfInBounds_toArray]
   refine takeF (i := 2) (v := .pointer (some ⟨cb, 0, none⟩)) (some 76) rfl rfl (by kernel_rfl) (by kernel_rfl) (by kernel_rfl) (by kernel_rfl) rfl (fun _ _ _ h => h) (Or.inl ⟨by kernel_rfl, fun w' hw => ?_⟩) HPd.out.c1 ?_
   ·kernel_rfl
   simp only [Act.put, List.setIfInBounds_toArray]
   refine wpAnyF_ready (rs := [3]) (by kernel_rfl) (by simp) ?_
   refine AllReadyF.cons rfl (fun K hK => ?_) AllReadyF.nil
   rw [if_pos (by kernel_rfl)]
   go_wp2_with fail
   refine (l1Below_any cb v zs 2 _ HCd.out).mono ?_
   rintro e w6 ⟨y, rfl, hy0, hy1, -, hC, hg⟩
   have hy2 := hy1 (by omega)
   obtain ⟨N, rfl⟩ := Int.eq_ofNat_of_zero_le hy0
   have hN2 : N < 2 := by omega
   clear hy0 hy1
   have HP6 := Hid.mk (HPd.out.row hg (fun g e => by cases e; exact hpc.symm))
   have HI6 := Hid.mk (HId.out.by hg (by omega))
   have HF6 := Hid.mk (HFd.out.keep hg (fun g e => by cases e; exact .inl (by omega)))
   have HUB6 := Hid.mk (HUBd.out.bnd (bnd_of hg (fun g e => by cases e; exact .inl (by omega))))
   have HFB6 := Hid.mk (HFBd.out.bnd (bnd_of hg (fun g e => by cases e; exact .inl (by omega))))
   have HB6 := Hid.mk (HBd.out.row hg (fun g e => by cases e; exact fun e => HNE.out e.symm))
   have HC6 := Hid.mk hC
   have HG6 := Hid.mk (grownBy_trans HGd.out hg)
   have hpl6 : pb < w6.heap.size := HP6.out.lt
   clear hg hC HPd HId HFd HUBd HFBd HBd HCd HGd hpld
   refine hK.out _ _ (fun _ => HP6.out.c1) (fun _ => ?_)
   clear hK K
   have y1 : (0 : Int) ≤ (N : Int) := by omega
   have y2 : (N : Int) ≤ (fc : Int) := by omega
   refine wpAnyF_ready (rs := [4]) (by kernel_rfl) (by simp) ?_
   refine AllReadyF.cons rfl (fun K hK => ?_) AllReadyF.nil
   rw [if_pos (by kernel_rfl)]
   go_wp2_with fail
   refine hK.out _ _ (fun _ => HP6.out.c1) (fun _ => ?_)
   clear hK K
   refine wpAnyF_ready (rs := [5]) (by kernel_rfl) (by simp) ?_
   refine AllReadyF.cons rfl (fun K hK => ?_) AllReadyF.nil
   rw [if_pos (by kernel_rfl)]
   go_wp2_with fail
   refine hK.out _ _ (fun _ => HP6.out.c1) (fun _ => ?_)
   clear hK K
   refine wpAnyF_ready (rs := [6]) (by kernel_rfl) (by simp) ?_
   refine AllReadyF.cons rfl (fun K hK => ?_) AllReadyF.nil
   have z1 := HP6.out.c1
   have zf := HP6.out.fr
   rw [if_pos (by kernel_rfl)]
   go_wp2_with fail
   refine hK.out _ _ (fun h => absurd rfl h) (fun _ => ?_)
   clear hK K
   refine wpAnyF_done (by kernel_rfl) ?_ _
   clear z1 zf
   have G7 := gb_set w6 pb 1 (.slice (some ⟨fg, 0, none⟩) N fc)
   have hu7 := HUB6.out.bnd (bnd_of G7 (fun x e => by cases e; exact .inr (Nat.le_refl _)))
   have hf7 := HFB6.out.bnd (bnd_of G7 (fun x e => by cases e; exact .inr (Nat.le_refl _)))
   have HR7 : Hid (PgR (w6.setCell ⟨pb, 1, none⟩ (.slice (some ⟨fg, 0, none⟩) N fc)) (w.heap.size + 1) (.slice (some ⟨g, 0, none⟩) nU cap) (.slice (some ⟨fg, 0, none⟩) N fc)) := pgR_of (hu7.imp fun _ hb _ => ⟨by have := hb.1.1; omega, hb.1.2⟩) ((fl_take hf7 N (by have := HFL.out; omega)).imp fun _ hb _ => ⟨by have := hb.1.1; omega, hb.1.2⟩) (fun r hr => Nat.le_trans (HUZ.out r hr) (by omega)) (fun f hf => Nat.le_trans (HFZ.out f (List.mem_of_mem_take hf)) (by omega)) HUL.out (by have := HFL.out; simp only [List.length_take]; omega)
   have HP7 := Hid.mk (HP6.out.put1 (.slice (some ⟨fg, 0, none⟩) N fc))
   have HB7 := Hid.mk (HB6.out.row G7 (fun x e => by cases e; omega))
   have HC7 := Hid.mk (HC6.out.row G7 (fun x e => by cases e; exact ⟨hpc, fun hz k hk => by have := HV.out hz k hk; omega⟩))
   have HG7 := Hid.mk (gy_far HG6.out G7 (by omega))
   clear hu7 hf7 G7 HP6 HI6 HF6 HUB6 HFB6 HB6 HC6 HG6
   go_wp2
   go_meet
   case rel => exact ⟨(.slice (some ⟨g, 0, none⟩) nU cap), (.slice (some ⟨fg, 0, none⟩) N fc), HR7, HP7, HB7, HC7, HG7⟩
  have e0b : (X == 0) = false := beq_eq_false_iff_ne.2 e0
  have e1b : (X == 1) = false := beq_eq_false_iff_ne.2 e1
  have e2b : (X == 2) = false := beq_eq_false_iff_ne.2 e2
  have e3b : (X == 3) = false := beq_eq_false_iff_ne.2 e3
  have e4b : (X == 4) = false := beq_eq_false_iff_ne.2 e4
  have HR7 : Hid (PgR w5 (w.heap.size + 1) (.slice (some ⟨g, 0, none⟩) nU cap) (.slice (some ⟨fg, 0, none⟩) 2 fc)) := pgR_of (HUB5.out.imp fun _ hb _ => ⟨by have := hb.1.1; omega, hb.1.2⟩) (HFB5.out.imp fun _ hb _ => ⟨by have := hb.1.1; omega, hb.1.2⟩) (fun r hr => Nat.le_trans (HUZ.out r hr) (by omega)) (fun f hf => Nat.le_trans (HFZ.out f hf) (by omega)) HUL.out (by have := HFL.out; omega)
  have HP7 := HP5
  have HB7 := HB5
  have HC7 := HC5
  have HG7 := HG5
  go_wp2
  go_meet
  case rel => exact ⟨(.slice (some ⟨g, 0, none⟩) nU cap), (.slice (some ⟨fg, 0, none⟩) 2 fc), HR7, HP7, HB7, HC7, HG7⟩
 case rest =>
  clear HP5 HI5 HF5 HUB5 HFB5 HB5 HC5 HG5 HUZ HFZ HUL HFL hnU
  obtain ⟨V, fv, HR, HP, HB, HC, HG⟩ := hcut
  obtain ⟨⟨o1, k1, c1, rfl⟩, ⟨o2, k2, c2, rfl⟩⟩ := HR.out.shape
  have HFN := Hid.mk (HFIN.out wc _ _ HR.out HC.out HG.out)
  have z0 := HB.out.c0
  have z1 := HB.out.c1
  have zf := HB.out.fr
  have x0 := HP.out.c0
  have x1 := HP.out.c1
  clear HFIN HR HC HG
  go_wp2
  have f0 : ((wc.setCell ⟨w.heap.size, 0, none⟩ (.slice o1 k1 c1)).setCell ⟨w.heap.size, 1, none⟩ (.slice o2 k2 c2)).cell? ⟨w.heap.size, 0, none⟩ = some (.slice o1 k1 c1) := by go_simp
  have f1 : ((wc.setCell ⟨w.heap.size, 0, none⟩ (.slice o1 k1 c1)).setCell ⟨w.heap.size, 1, none⟩ (.slice o2 k2 c2)).cell? ⟨w.heap.size, 1, none⟩ = some (.slice o2 k2 c2) := by go_simp
  obtain ⟨h1, h2, h3⟩ := HFN.out
  refine bodyPost_ret (v := .agg #[.slice o1 k1 c1, .slice o2 k2 c2]) ?_ rfl ⟨_, _, rfl, h1, h2, h3⟩
  generalize ((wc.setCell ⟨w.heap.size, 0, none⟩ (.slice o1 k1 c1)).setCell ⟨w.heap.size, 1, none⟩ (.slice o2 k2 c2)) = W at f0 f1
  simp [results, Try.results18, go_sem, f0, f1]
end Go.Proofs.Ytijpmnenegdmnaa
