/- A drawn statement, bent or not: l9Any. -/
import Derived.Test.YtijpmnenegdmnaaQStAnyM
import Derived.Test.YtijpmnenegdmnaaQStDrawY
import Derived.Deep.CutBlock
namespace Go.Proofs.Ytijpmnenegdmnaa
open Go.RowKit
set_option maxRecDepth 8000
set_option linter.unusedSimpArgs false

theorem drY_any (d : Nat) (hd : d ≤ 100) : DrY d := by
 induction d with
 | zero => exact drY_of 0 hd (fun d' h => by omega)
 | succ d ih => exact drY_of (d + 1) hd (fun d' h => by
   obtain rfl : d' = d := by omega
   exact drL_of _ (ih (by omega)))
theorem drL_any (d : Nat) (hd : d ≤ 100) : DrL d := drL_of d (drY_any d hd)
theorem drY2 (cb : Nat) (v : Value) (zs : List Int) (w : World) (fn : Bool) (h : Cur w cb v zs) :
  Calls Try.prog 33 #[.pointer (some ⟨cb, 0, none⟩), .int .i64 2, .bool fn] w fun e w' => ∃ q : Yv, e = .returned (st q.t.k q.t.s q.t.t q.x q.a q.b) ∧ YD 2 w' (w.heap.size + 1) q ∧ Cur w' cb v zs ∧ w.grownBy w' (some cb) := drY_any 2 (by omega) cb v zs w fn h
theorem drY0 (cb : Nat) (v : Value) (zs : List Int) (w : World) (fn : Bool) (h : Cur w cb v zs) :
  Calls Try.prog 33 #[.pointer (some ⟨cb, 0, none⟩), .int .i64 0, .bool fn] w fun e w' => ∃ q : Yv, e = .returned (st q.t.k q.t.s q.t.t q.x q.a q.b) ∧ YD 0 w' (w.heap.size + 1) q ∧ Cur w' cb v zs ∧ w.grownBy w' (some cb) := drY_any 0 (by omega) cb v zs w fn h

def AnyY : Prop := ∀ (cb : Nat) (v : Value) (zs : List Int) (w : World), Cur w cb v zs →
 Calls Try.prog 17 #[.pointer (some ⟨cb, 0, none⟩)] w fun e w' => ∃ q : Yv, e = .returned (st q.t.k q.t.s q.t.t q.x q.a q.b) ∧ DyN 8000000 q.t ∧ YRd w' (w.heap.size + 1) none q ∧ Cur w' cb v zs ∧ w.grownBy w' (some cb)

set_option maxHeartbeats 8000000 in
theorem l9Any_any : AnyY := by
 intro cb v zs w h
 have hlt := h.lt
 have HNE : Hid (w.heap.size ≠ cb) := by show _ ≠ _; omega
 have HV : Hid (zs ≠ [] → ∀ k, v.ownBlock = some k → k < w.heap.size) := fun hz k hk => h.1.lt hz k hk
 have HC0 := Hid.mk (h.grow ((Below.refl _ _).alloc (Nat.le_refl _) (.cells #[.int .i64 0, .string ⟨#[]⟩, .string ⟨#[]⟩, .slice none 0 0, .slice none 0 0, .slice none 0 0] 31)))
 have HB0 := Hid.mk (Bz6.new w (.int .i64 0) (.string ⟨#[]⟩) (.string ⟨#[]⟩) (.slice none 0 0) (.slice none 0 0) (.slice none 0 0))
 have HG0 := Hid.mk (gy_alloc w cb (.cells #[.int .i64 0, .string ⟨#[]⟩, .string ⟨#[]⟩, .slice none 0 0, .slice none 0 0, .slice none 0 0] 31))
 have HFIN : Hid (∀ (W : World) (eb : Nat) (q : Yv), DyN 8000000 q.t → YRd W (w.heap.size + 1) (some eb) q → Cur W cb v zs → w.grownBy W (some cb) → DyN 8000000 q.t ∧ YRd (box6 W w.heap.size (.int .i64 q.t.k) (.string q.t.s) (.string q.t.t) q.x q.a q.b) (w.heap.size + 1) none q ∧ Cur (box6 W w.heap.size (.int .i64 q.t.k) (.string q.t.s) (.string q.t.t) q.x q.a q.b) cb v zs ∧ w.grownBy (box6 W w.heap.size (.int .i64 q.t.k) (.string q.t.s) (.string q.t.t) q.x q.a q.b) (some cb)) := by
  intro W eb q h1 h2 h3 h4
  exact ⟨h1, (h2.by (box6_by _ _ _ _ _ _ _ _) (.inl (by omega))).none, h3.box6 HNE.out (fun hz k hk => by have := HV.out hz k hk; omega) _ _ _ _ _ _, gy_far h4 (box6_by _ _ _ _ _ _ _ _) (Nat.le_refl _)⟩
 clear h
 go_enter Try.func17, Try.ntmps17
 go_upto_region 1 with fail
 have hs1 : w.heap.size < (w.alloc (.cells #[.int .i64 0, .string ⟨#[]⟩, .string ⟨#[]⟩, .slice none 0 0, .slice none 0 0, .slice none 0 0] 31)).heap.size := HB0.out.lt
 generalize w.alloc (.cells #[.int .i64 0, .string ⟨#[]⟩, .string ⟨#[]⟩, .slice none 0 0, .slice none 0 0, .slice none 0 0] 31) = w1 at *
 go_wp2_with fail
 refine (l1Once_any cb v zs 2 _ HC0.out).mono ?_
 rintro e w2 ⟨b, rfl, hC2, hg2⟩
 have HB2 := Hid.mk (HB0.out.row hg2 (fun g e => by cases e; exact fun e => HNE.out e.symm))
 have HG2 := Hid.mk (grownBy_trans HG0.out hg2)
 have HC2 := Hid.mk hC2
 have hs2 := hg2.size
 clear hC2 hg2 HB0 HG0 HC0
 go_wp2_with fail
 refine (drY2 cb v zs _ b HC2.out).mono ?_
 rintro e w3 ⟨q, rfl, ⟨n1, n2, n3, hq3⟩, hC3, hg3⟩
 have hq4 := hq3.base (n0' := w.heap.size + 1) (by omega)
 obtain ⟨ex, ea, eb0⟩ := hq3.els
 obtain ⟨qt, qx, qa, qb⟩ := q
 obtain ⟨xo, xn, xc, rfl⟩ : ∃ o n c, qx = .slice o n c := by obtain ⟨o, c, h, -⟩ := ex.len; exact ⟨_, _, _, h⟩
 obtain ⟨ao, an, ac, rfl⟩ : ∃ o n c, qa = .slice o n c := by obtain ⟨o, c, h, -⟩ := ea.len; exact ⟨_, _, _, h⟩
 obtain ⟨bo, bn, bc, rfl⟩ : ∃ o n c, qb = .slice o n c := by obtain ⟨o, c, h, -⟩ := eb0.len; exact ⟨_, _, _, h⟩
 have A4 : Below w3.heap.size w3 (w3.alloc (.cells #[.int .i64 qt.k, .string qt.s, .string qt.t, .slice xo xn xc, .slice ao an ac, .slice bo bn bc] 31)) := (Below.refl _ _).alloc (Nat.le_refl _) _
 have hs3 := hg3.size
 have HB4 := Hid.mk ((HB2.out.row hg3 (fun g e => by cases e; exact fun e => HNE.out e.symm)).grow A4)
 have HX4 := Hid.mk (Bz6.new w3 (.int .i64 qt.k) (.string qt.s) (.string qt.t) (.slice xo xn xc) (.slice ao an ac) (.slice bo bn bc))
 have HY4 := Hid.mk (hq4.grow A4)
 have HDN := Hid.mk (DyS.n (c := 7040000) hq4.1 (by omega))
 have hn3 : n3 ≤ w3.heap.size := hq4.2.1.2.2.2
 have hn0 : w.heap.size + 1 ≤ n1 := hq4.2.1.1
 have hn12 : n1 ≤ n2 := hq4.2.1.2.1
 have hn23 : n2 ≤ n3 := hq4.2.1.2.2.1
 have HC4 := Hid.mk (hC3.grow A4)
 have HG4 := Hid.mk (gy_below (grownBy_trans HG2.out hg3) A4)
 have hebw : w.heap.size < w3.heap.size := by omega
 clear hq3 hq4 ex ea eb0 hC3 hg3 HB2 HG2 HC2 A4
 obtain ⟨eb, heb⟩ : ∃ b, w3.heap.size = b := ⟨_, rfl⟩
 rw [heb] at HX4 hn3 hebw
 go_wp2_with fail
 clear hs3 heb
 generalize w3.alloc (.cells #[.int .i64 qt.k, .string qt.s, .string qt.t, .slice xo xn xc, .slice ao an ac, .slice bo bn bc] 31) = w4 at *
 refine (l1Below_any cb v zs 12 _ HC4.out).mono ?_
 rintro e w5 ⟨X, rfl, hX0, hX1, -, hC5, hg5⟩
 have hebc : eb ≠ cb := by omega
 have hbe : w.heap.size ≠ eb := by omega
 have hbe' : eb ≠ w.heap.size := by omega
 have HB5 := Hid.mk (HB4.out.row hg5 (fun g e => by cases e; exact fun e => HNE.out e.symm))
 have HX5 := Hid.mk (HX4.out.row hg5 (fun g e => by cases e; exact fun e => hebc e.symm))
 have HY5 := Hid.mk (HY4.out.by hg5 (by omega))
 have HC5 := Hid.mk hC5
 have HG5 := Hid.mk (grownBy_trans HG4.out hg5)
 have hl5 : eb < w5.heap.size := HX5.out.lt
 clear hC5 hg5 HB4 HX4 HY4 HC4 HG4
 go_upto_block 0 with fail
 go_cut [4] from 11 (fun s4 wx => ∃ q : Yv, Hid (DyN 8000000 q.t) ∧ Hid (YRd wx (w.heap.size + 1) (some eb) q) ∧ Hid (Bz6 wx eb (.int .i64 q.t.k) (.string q.t.s) (.string q.t.t) q.x q.a q.b) ∧ Hid (Bz6 wx w.heap.size (.int .i64 0) (.string ⟨#[]⟩) (.string ⟨#[]⟩) (.slice none 0 0) (.slice none 0 0) (.slice none 0 0)) ∧ Hid (Cur wx cb v zs) ∧ Hid (w.grownBy wx (some cb)))
 case first =>
  by_cases e0 : X = 0
  ·subst e0
   go_wp2_with fail
   refine (l1Below_any cb v zs 14 _ HC5.out).mono ?_
   rintro e w6 ⟨y, rfl, -, -, -, hC, hg⟩
   have HB6 := Hid.mk (HB5.out.row hg (fun g e => by cases e; exact fun e => HNE.out e.symm))
   have HX6 := Hid.mk (HX5.out.row hg (fun g e => by cases e; exact fun e => hebc e.symm))
   have HY6 := Hid.mk (HY5.out.by hg (by omega))
   have HC6 := Hid.mk hC
   have HG6 := Hid.mk (grownBy_trans HG5.out hg)
   clear hg hC HB5 HX5 HY5 HC5 HG5
   have G7 := gb_set w6 eb 0 (.int .i64 y)
   have HB7 := Hid.mk (HB6.out.row G7 (fun g e => by cases e; exact fun e => hbe e.symm))
   have HX7 := Hid.mk (HX6.out.put0 (.int .i64 y))
   have HY7 := Hid.mk ((HY6.out.rd hn3).by G7 (.inr rfl))
   have HC7 := Hid.mk (HC6.out.row G7 (fun g e => by cases e; exact ⟨hebc, fun hz k hk => by have := HV.out hz k hk; omega⟩))
   have HG7 := Hid.mk (gy_far HG6.out G7 (by omega))
   have q0 := HX6.out.c0
   have qf := HX6.out.fr
   clear HB6 HX6 HY6 HC6 HG6 G7
   go_wp2
   go_meet
   case rel => exact ⟨⟨.node y qt.s qt.t qt.x qt.a qt.b, (.slice xo xn xc), (.slice ao an ac), (.slice bo bn bc)⟩, (HDN.out.re HDN.out.1.sizes.1 HDN.out.1.sizes.2).mono (by omega), HY7, HX7, HB7, HC7, HG7⟩
  by_cases e1 : X = 1
  ·subst e1
   go_wp2_with fail
   refine (l1Str_any cb w5.heap.size 3 v zs [⟨#[]⟩, ⟨#[120]⟩, ⟨#[112, 114, 105, 110, 116]⟩] _ (HC5.out.grow ((Below.refl _ _).alloc (Nat.le_refl _) _)) rfl (by omega) (by omega) (heap_alloc_new w5 _) (by have := HC5.out.lt; omega)).mono ?_
   rintro e w6 ⟨y, rfl, hy, hC, hg⟩
   have hys : y.size ≤ 100 := by
    simp only [List.mem_cons, List.not_mem_nil, or_false] at hy
    rcases hy with h | h | h <;> subst h <;> decide
   have HB6 := Hid.mk ((HB5.out.grow ((Below.refl _ _).alloc (Nat.le_refl _) _)).row hg (fun g e => by cases e; exact fun e => HNE.out e.symm))
   have HX6 := Hid.mk ((HX5.out.grow ((Below.refl _ _).alloc (Nat.le_refl _) _)).row hg (fun g e => by cases e; exact fun e => hebc e.symm))
   have HY6 := Hid.mk ((HY5.out.grow ((Below.refl _ _).alloc (Nat.le_refl _) _)).by hg (by omega))
   have HC6 := Hid.mk hC
   have HG6 := Hid.mk (grownBy_trans (gy_new HG5.out _) hg)
   clear hg hC hy HB5 HX5 HY5 HC5 HG5
   have G7 := gb_set w6 eb 1 (.string y)
   have HB7 := Hid.mk (HB6.out.row G7 (fun g e => by cases e; exact fun e => hbe e.symm))
   have HX7 := Hid.mk (HX6.out.put1 (.string y))
   have HY7 := Hid.mk ((HY6.out.rd hn3).by G7 (.inr rfl))
   have HC7 := Hid.mk (HC6.out.row G7 (fun g e => by cases e; exact ⟨hebc, fun hz k hk => by have := HV.out hz k hk; omega⟩))
   have HG7 := Hid.mk (gy_far HG6.out G7 (by omega))
   have q0 := HX6.out.c1
   have qf := HX6.out.fr
   clear HB6 HX6 HY6 HC6 HG6 G7
   go_wp2
   go_meet
   case rel => exact ⟨⟨.node qt.k y qt.t qt.x qt.a qt.b, (.slice xo xn xc), (.slice ao an ac), (.slice bo bn bc)⟩, (HDN.out.re hys HDN.out.1.sizes.2).mono (by omega), HY7, HX7, HB7, HC7, HG7⟩
  by_cases e2 : X = 2
  ·subst e2
   go_wp2_with fail
   refine (l1Str_any cb w5.heap.size 3 v zs [⟨#[]⟩, ⟨#[116]⟩, ⟨#[65]⟩] _ (HC5.out.grow ((Below.refl _ _).alloc (Nat.le_refl _) _)) rfl (by omega) (by omega) (heap_alloc_new w5 _) (by have := HC5.out.lt; omega)).mono ?_
   rintro e w6 ⟨y, rfl, hy, hC, hg⟩
   have hys : y.size ≤ 100 := by
    simp only [List.mem_cons, List.not_mem_nil, or_false] at hy
    rcases hy with h | h | h <;> subst h <;> decide
   have HB6 := Hid.mk ((HB5.out.grow ((Below.refl _ _).alloc (Nat.le_refl _) _)).row hg (fun g e => by cases e; exact fun e => HNE.out e.symm))
   have HX6 := Hid.mk ((HX5.out.grow ((Below.refl _ _).alloc (Nat.le_refl _) _)).row hg (fun g e => by cases e; exact fun e => hebc e.symm))
   have HY6 := Hid.mk ((HY5.out.grow ((Below.refl _ _).alloc (Nat.le_refl _) _)).by hg (by omega))
   have HC6 := Hid.mk hC
   have HG6 := Hid.mk (grownBy_trans (gy_new HG5.out _) hg)
   clear hg hC hy HB5 HX5 HY5 HC5 HG5
   have G7 := gb_set w6 eb 2 (.string y)
   have HB7 := Hid.mk (HB6.out.row G7 (fun g e => by cases e; exact fun e => hbe e.symm))
   have HX7 := Hid.mk (HX6.out.put2 (.string y))
   have HY7 := Hid.mk ((HY6.out.rd hn3).by G7 (.inr rfl))
   have HC7 := Hid.mk (HC6.out.row G7 (fun g e => by cases e; exact ⟨hebc, fun hz k hk => by have := HV.out hz k hk; omega⟩))
   have HG7 := Hid.mk (gy_far HG6.out G7 (by omega))
   have q0 := HX6.out.c2
   have qf := HX6.out.fr
   clear HB6 HX6 HY6 HC6 HG6 G7
   go_wp2
   go_meet
   case rel => exact ⟨⟨.node qt.k qt.s y qt.x qt.a qt.b, (.slice xo xn xc), (.slice ao an ac), (.slice bo bn bc)⟩, (HDN.out.re HDN.out.1.sizes.1 hys).mono (by omega), HY7, HX7, HB7, HC7, HG7⟩
  by_cases e3 : X = 3
  ·subst e3
   have HBd := Hid.mk (HB5.out.grow (drewB _ w5))
   have HXd := Hid.mk (HX5.out.grow (drewB _ w5))
   have HYd := Hid.mk (HY5.out.grow (drewB _ w5))
   have HCd := Hid.mk (HC5.out.grow (drewB _ w5))
   have HGd := Hid.mk (gy_below HG5.out (drewB _ w5))
   have hld : eb < w5.drew.heap.size := hl5
   clear HB5 HX5 HY5 HC5 HG5 hl5
   go_wp2_with fail
   refine wp_region_held_drew (S := fun _ => True) (by kernel_rfl) trivial (fun _ => ?_)
   generalize w5.drew = wd at *
   refine takeHD (i := 0) (v := .pointer (some ⟨eb, 3, none⟩)) (some 30) rfl rfl (by kernel_rfl) (by kernel_rfl) (by kernel_rfl) (fun _ _ _ h => h) (Or.inl ⟨by kernel_rfl, fun w' hw => ?_⟩) trivial ?_
   ·kernel_rfl
   simp only [Act.put, List.setIfInBounds_toArray]
   refine takeHD (i := 2) (v := .pointer (some ⟨cb, 0, none⟩)) (some 32) rfl rfl (by kernel_rfl) (by kernel_rfl) (by kernel_rfl) (fun _ _ _ h => h) (Or.inl ⟨by kernel_rfl, fun w' hw => ?_⟩) trivial ?_
   ·kernel_rfl
   simp only [Act.put, List.setIfInBounds_toArray]
   refine wpAnyH_ready (rs := [1, 3]) (by kernel_rfl) (by simp) ?_
   refine AllReadyH.cons rfl (fun K hK => ?_) (AllReadyH.cons rfl (fun K hK => ?_) AllReadyH.nil)
   ·have x3 := HXd.out.c3
    rw [if_pos (by kernel_rfl)]
    go_wp2_with fail
    refine hK.out _ _ trivial (fun _ => ?_)
    clear hK K
    clear x3
    refine wpAnyH_ready (rs := [3]) (by kernel_rfl) (by simp) ?_
    refine AllReadyH.cons rfl (fun K hK => ?_) AllReadyH.nil
    rw [if_pos (by kernel_rfl)]
    go_wp2_with fail
    refine (l8Any_any cb v zs _ HCd.out).mono ?_
    rintro e w9 ⟨t, u, rfl, hd9, he9, hC9, hg9⟩
    have HE9 := Hid.mk he9
    have HD9 := Hid.mk hd9
    obtain ⟨uo, uc, rfl, -, -, -⟩ := he9.len
    clear hd9 he9
    have HX9 := Hid.mk (HXd.out.row hg9 (fun g e => by cases e; exact fun e => hebc e.symm))
    have HB9 := Hid.mk (HBd.out.row hg9 (fun g e => by cases e; exact fun e => HNE.out e.symm))
    have HY9 := Hid.mk (HYd.out.by hg9 (by omega))
    have HG9 := Hid.mk (grownBy_trans HGd.out hg9)
    have HC9 := Hid.mk hC9
    have s9 : wd.heap.size ≤ w9.heap.size := hg9.size
    clear hC9 hg9 HXd HBd HYd HGd HCd
    refine hK.out _ _ trivial (fun _ => ?_)
    clear hK K
    refine wpAnyH_ready (rs := [4]) (by kernel_rfl) (by simp) ?_
    refine AllReadyH.cons rfl (fun K hK => ?_) AllReadyH.nil
    rw [if_pos (by kernel_rfl)]
    go_wp2_with fail
    refine hK.out _ _ trivial (fun _ => ?_)
    clear hK K
    have A9 : Below w9.heap.size w9 (w9.alloc (.cells #[.int .i64 t.k, .int .i64 t.n, .string t.s, .slice uo t.l.length uc] 26)) := (Below.refl _ _).alloc (Nat.le_refl _) _
    have HN := Hid.mk (heap_alloc_new w9 (.cells #[.int .i64 t.k, .int .i64 t.n, .string t.s, .slice uo t.l.length uc] 26))
    have HX2 := Hid.mk (HX9.out.grow A9)
    have HB2 := Hid.mk (HB9.out.grow A9)
    have HY2 := Hid.mk (HY9.out.grow A9)
    have HE2 := Hid.mk (HE9.out.nfgrow A9)
    have HG2 := Hid.mk (gy_below HG9.out A9)
    have HC2 := Hid.mk (HC9.out.grow A9)
    have s2 : wd.heap.size < (w9.alloc (.cells #[.int .i64 t.k, .int .i64 t.n, .string t.s, .slice uo t.l.length uc] 26)).heap.size := by have := (Array.getElem?_eq_some_iff.1 HN.out).1; omega
    clear HX9 HB9 HY9 HE9 HG9 HC9 A9
    generalize w9.heap.size = lb at *
    generalize w9.alloc (.cells #[.int .i64 t.k, .int .i64 t.n, .string t.s, .slice uo t.l.length uc] 26) = w2 at *
    refine wpAnyH_ready (rs := [5]) (by kernel_rfl) (by simp) ?_
    refine AllReadyH.cons rfl (fun K hK => ?_) AllReadyH.nil
    rw [if_pos (by kernel_rfl)]
    obtain ⟨L, eL, hown, hels, hrow, hLn⟩ := HY2.out.rowX hn3
    refine wp_append_xe (.tmp 31) (.tmp 34) rfl (w.heap.size + 1) (wd.heap.size + 1) eb (.slice xo xn xc) L t (.slice uo t.l.length uc) rfl hown hels (fun k hk => by have := hrow k hk; omega) (by omega) lb rfl HN.out HE2.out HD9.out.size (by omega) (by omega) (fun k hk => by have := hrow k hk; omega) (by omega) (by omega) ?_
    rw [eL]
    clear eL
    rintro V' w6 hE4 hg4
    have HY6 := Hid.mk (HY2.out.pastX (k := qt.k) (s := qt.s) (t := qt.t) hn3 hg4 hE4)
    obtain ⟨vo, vn, vc, rfl⟩ : ∃ vo vn vc, V' = .slice vo vn vc := by obtain ⟨o, c, h, -⟩ := hE4.len; exact ⟨_, _, _, h⟩
    have HX6 := Hid.mk (HX2.out.row hg4 (fun g e => by have := hrow g e; omega))
    have HB6 := Hid.mk (HB2.out.row hg4 (fun g e => by have := hrow g e; omega))
    have HC6 := Hid.mk (HC2.out.row hg4 (fun g e => by have := hrow g e; exact ⟨by omega, fun hz k hk => by have := HV.out hz k hk; omega⟩))
    have HG6 := Hid.mk (gy_row HG2.out hg4 (fun g e => by have := hrow g e; omega))
    clear HX2 HB2 HC2 HG2 HY2 HE2 HN hE4 hg4 hown hels hrow hLn
    refine hK.out _ _ trivial (fun _ => ?_)
    clear hK K
    refine takeHD (i := 6) (v := .pointer (some ⟨eb, 3, none⟩)) (some 36) rfl rfl (by kernel_rfl) (by kernel_rfl) (by kernel_rfl) (fun _ _ _ h => h) (Or.inl ⟨by kernel_rfl, fun w' hw => ?_⟩) trivial ?_
    ·kernel_rfl
    simp only [Act.put, List.setIfInBounds_toArray]
    refine wpAnyH_ready (rs := [7]) (by kernel_rfl) (by simp) ?_
    refine AllReadyH.cons rfl (fun K hK => ?_) AllReadyH.nil
    have x3 := HX6.out.c3
    have xf := HX6.out.fr
    rw [if_pos (by kernel_rfl)]
    go_wp2_with fail
    refine hK.out _ _ trivial (fun _ => ?_)
    clear hK K
    clear x3 xf
    have G7 := gb_set w6 eb 3 (.slice vo vn vc)
    have HB7 := Hid.mk (HB6.out.row G7 (fun g e => by cases e; exact fun e => hbe e.symm))
    have HX7 := Hid.mk (HX6.out.put3 (.slice vo vn vc))
    have HY7 := Hid.mk (HY6.out.by G7 (.inr rfl))
    have HC7 := Hid.mk (HC6.out.row G7 (fun g e => by cases e; exact ⟨hebc, fun hz k hk => by have := HV.out hz k hk; omega⟩))
    have HG7 := Hid.mk (gy_far HG6.out G7 (by omega))
    clear HB6 HX6 HY6 HC6 HG6 G7
    refine wpAnyH_done (by kernel_rfl) ?_ _
    go_wp2
    go_meet
    case rel => exact ⟨⟨.node qt.k qt.s qt.t (qt.x ++ [t]) qt.a qt.b, (.slice vo vn vc), (.slice ao an ac), (.slice bo bn bc)⟩, (HDN.out.addX HD9.out).mono (by omega), HY7, HX7, HB7, HC7, HG7⟩
   ·rw [if_pos (by kernel_rfl)]
    go_wp2_with fail
    refine (l8Any_any cb v zs _ HCd.out).mono ?_
    rintro e w9 ⟨t, u, rfl, hd9, he9, hC9, hg9⟩
    have HE9 := Hid.mk he9
    have HD9 := Hid.mk hd9
    obtain ⟨uo, uc, rfl, -, -, -⟩ := he9.len
    clear hd9 he9
    have HX9 := Hid.mk (HXd.out.row hg9 (fun g e => by cases e; exact fun e => hebc e.symm))
    have HB9 := Hid.mk (HBd.out.row hg9 (fun g e => by cases e; exact fun e => HNE.out e.symm))
    have HY9 := Hid.mk (HYd.out.by hg9 (by omega))
    have HG9 := Hid.mk (grownBy_trans HGd.out hg9)
    have HC9 := Hid.mk hC9
    have s9 : wd.heap.size ≤ w9.heap.size := hg9.size
    clear hC9 hg9 HXd HBd HYd HGd HCd
    refine hK.out _ _ trivial (fun _ => ?_)
    clear hK K
    refine wpAnyH_ready (rs := [1, 4]) (by kernel_rfl) (by simp) ?_
    refine AllReadyH.cons rfl (fun K hK => ?_) (AllReadyH.cons rfl (fun K hK => ?_) AllReadyH.nil)
    ·have x3 := HX9.out.c3
     rw [if_pos (by kernel_rfl)]
     go_wp2_with fail
     refine hK.out _ _ trivial (fun _ => ?_)
     clear hK K
     clear x3
     refine wpAnyH_ready (rs := [4]) (by kernel_rfl) (by simp) ?_
     refine AllReadyH.cons rfl (fun K hK => ?_) AllReadyH.nil
     rw [if_pos (by kernel_rfl)]
     go_wp2_with fail
     refine hK.out _ _ trivial (fun _ => ?_)
     clear hK K
     have A9 : Below w9.heap.size w9 (w9.alloc (.cells #[.int .i64 t.k, .int .i64 t.n, .string t.s, .slice uo t.l.length uc] 26)) := (Below.refl _ _).alloc (Nat.le_refl _) _
     have HN := Hid.mk (heap_alloc_new w9 (.cells #[.int .i64 t.k, .int .i64 t.n, .string t.s, .slice uo t.l.length uc] 26))
     have HX2 := Hid.mk (HX9.out.grow A9)
     have HB2 := Hid.mk (HB9.out.grow A9)
     have HY2 := Hid.mk (HY9.out.grow A9)
     have HE2 := Hid.mk (HE9.out.nfgrow A9)
     have HG2 := Hid.mk (gy_below HG9.out A9)
     have HC2 := Hid.mk (HC9.out.grow A9)
     have s2 : wd.heap.size < (w9.alloc (.cells #[.int .i64 t.k, .int .i64 t.n, .string t.s, .slice uo t.l.length uc] 26)).heap.size := by have := (Array.getElem?_eq_some_iff.1 HN.out).1; omega
     clear HX9 HB9 HY9 HE9 HG9 HC9 A9
     generalize w9.heap.size = lb at *
     generalize w9.alloc (.cells #[.int .i64 t.k, .int .i64 t.n, .string t.s, .slice uo t.l.length uc] 26) = w2 at *
     refine wpAnyH_ready (rs := [5]) (by kernel_rfl) (by simp) ?_
     refine AllReadyH.cons rfl (fun K hK => ?_) AllReadyH.nil
     rw [if_pos (by kernel_rfl)]
     obtain ⟨L, eL, hown, hels, hrow, hLn⟩ := HY2.out.rowX hn3
     refine wp_append_xe (.tmp 31) (.tmp 34) rfl (w.heap.size + 1) (wd.heap.size + 1) eb (.slice xo xn xc) L t (.slice uo t.l.length uc) rfl hown hels (fun k hk => by have := hrow k hk; omega) (by omega) lb rfl HN.out HE2.out HD9.out.size (by omega) (by omega) (fun k hk => by have := hrow k hk; omega) (by omega) (by omega) ?_
     rw [eL]
     clear eL
     rintro V' w6 hE4 hg4
     have HY6 := Hid.mk (HY2.out.pastX (k := qt.k) (s := qt.s) (t := qt.t) hn3 hg4 hE4)
     obtain ⟨vo, vn, vc, rfl⟩ : ∃ vo vn vc, V' = .slice vo vn vc := by obtain ⟨o, c, h, -⟩ := hE4.len; exact ⟨_, _, _, h⟩
     have HX6 := Hid.mk (HX2.out.row hg4 (fun g e => by have := hrow g e; omega))
     have HB6 := Hid.mk (HB2.out.row hg4 (fun g e => by have := hrow g e; omega))
     have HC6 := Hid.mk (HC2.out.row hg4 (fun g e => by have := hrow g e; exact ⟨by omega, fun hz k hk => by have := HV.out hz k hk; omega⟩))
     have HG6 := Hid.mk (gy_row HG2.out hg4 (fun g e => by have := hrow g e; omega))
     clear HX2 HB2 HC2 HG2 HY2 HE2 HN hE4 hg4 hown hels hrow hLn
     refine hK.out _ _ trivial (fun _ => ?_)
     clear hK K
     refine takeHD (i := 6) (v := .pointer (some ⟨eb, 3, none⟩)) (some 36) rfl rfl (by kernel_rfl) (by kernel_rfl) (by kernel_rfl) (fun _ _ _ h => h) (Or.inl ⟨by kernel_rfl, fun w' hw => ?_⟩) trivial ?_
     ·kernel_rfl
     simp only [Act.put, List.setIfInBounds_toArray]
     refine wpAnyH_ready (rs := [7]) (by kernel_rfl) (by simp) ?_
     refine AllReadyH.cons rfl (fun K hK => ?_) AllReadyH.nil
     have x3 := HX6.out.c3
     have xf := HX6.out.fr
     rw [if_pos (by kernel_rfl)]
     go_wp2_with fail
     refine hK.out _ _ trivial (fun _ => ?_)
     clear hK K
     clear x3 xf
     have G7 := gb_set w6 eb 3 (.slice vo vn vc)
     have HB7 := Hid.mk (HB6.out.row G7 (fun g e => by cases e; exact fun e => hbe e.symm))
     have HX7 := Hid.mk (HX6.out.put3 (.slice vo vn vc))
     have HY7 := Hid.mk (HY6.out.by G7 (.inr rfl))
     have HC7 := Hid.mk (HC6.out.row G7 (fun g e => by cases e; exact ⟨hebc, fun hz k hk => by have := HV.out hz k hk; omega⟩))
     have HG7 := Hid.mk (gy_far HG6.out G7 (by omega))
     clear HB6 HX6 HY6 HC6 HG6 G7
     refine wpAnyH_done (by kernel_rfl) ?_ _
     go_wp2
     go_meet
     case rel => exact ⟨⟨.node qt.k qt.s qt.t (qt.x ++ [t]) qt.a qt.b, (.slice vo vn vc), (.slice ao an ac), (.slice bo bn bc)⟩, (HDN.out.addX HD9.out).mono (by omega), HY7, HX7, HB7, HC7, HG7⟩
    ·rw [if_pos (by kernel_rfl)]
     go_wp2_with fail
     refine hK.out _ _ trivial (fun _ => ?_)
     clear hK K
     have A9 : Below w9.heap.size w9 (w9.alloc (.cells #[.int .i64 t.k, .int .i64 t.n, .string t.s, .slice uo t.l.length uc] 26)) := (Below.refl _ _).alloc (Nat.le_refl _) _
     have HN := Hid.mk (heap_alloc_new w9 (.cells #[.int .i64 t.k, .int .i64 t.n, .string t.s, .slice uo t.l.length uc] 26))
     have HX2 := Hid.mk (HX9.out.grow A9)
     have HB2 := Hid.mk (HB9.out.grow A9)
     have HY2 := Hid.mk (HY9.out.grow A9)
     have HE2 := Hid.mk (HE9.out.nfgrow A9)
     have HG2 := Hid.mk (gy_below HG9.out A9)
     have HC2 := Hid.mk (HC9.out.grow A9)
     have s2 : wd.heap.size < (w9.alloc (.cells #[.int .i64 t.k, .int .i64 t.n, .string t.s, .slice uo t.l.length uc] 26)).heap.size := by have := (Array.getElem?_eq_some_iff.1 HN.out).1; omega
     clear HX9 HB9 HY9 HE9 HG9 HC9 A9
     generalize w9.heap.size = lb at *
     generalize w9.alloc (.cells #[.int .i64 t.k, .int .i64 t.n, .string t.s, .slice uo t.l.length uc] 26) = w2 at *
     refine wpAnyH_ready (rs := [1]) (by kernel_rfl) (by simp) ?_
     refine AllReadyH.cons rfl (fun K hK => ?_) AllReadyH.nil
     have x3 := HX2.out.c3
     rw [if_pos (by kernel_rfl)]
     go_wp2_with fail
     refine hK.out _ _ trivial (fun _ => ?_)
     clear hK K
     clear x3
     refine wpAnyH_ready (rs := [5]) (by kernel_rfl) (by simp) ?_
     refine AllReadyH.cons rfl (fun K hK => ?_) AllReadyH.nil
     rw [if_pos (by kernel_rfl)]
     obtain ⟨L, eL, hown, hels, hrow, hLn⟩ := HY2.out.rowX hn3
     refine wp_append_xe (.tmp 31) (.tmp 34) rfl (w.heap.size + 1) (wd.heap.size + 1) eb (.slice xo xn xc) L t (.slice uo t.l.length uc) rfl hown hels (fun k hk => by have := hrow k hk; omega) (by omega) lb rfl HN.out HE2.out HD9.out.size (by omega) (by omega) (fun k hk => by have := hrow k hk; omega) (by omega) (by omega) ?_
     rw [eL]
     clear eL
     rintro V' w6 hE4 hg4
     have HY6 := Hid.mk (HY2.out.pastX (k := qt.k) (s := qt.s) (t := qt.t) hn3 hg4 hE4)
     obtain ⟨vo, vn, vc, rfl⟩ : ∃ vo vn vc, V' = .slice vo vn vc := by obtain ⟨o, c, h, -⟩ := hE4.len; exact ⟨_, _, _, h⟩
     have HX6 := Hid.mk (HX2.out.row hg4 (fun g e => by have := hrow g e; omega))
     have HB6 := Hid.mk (HB2.out.row hg4 (fun g e => by have := hrow g e; omega))
     have HC6 := Hid.mk (HC2.out.row hg4 (fun g e => by have := hrow g e; exact ⟨by omega, fun hz k hk => by have := HV.out hz k hk; omega⟩))
     have HG6 := Hid.mk (gy_row HG2.out hg4 (fun g e => by have := hrow g e; omega))
     clear HX2 HB2 HC2 HG2 HY2 HE2 HN hE4 hg4 hown hels hrow hLn
     refine hK.out _ _ trivial (fun _ => ?_)
     clear hK K
     refine takeHD (i := 6) (v := .pointer (some ⟨eb, 3, none⟩)) (some 36) rfl rfl (by kernel_rfl) (by kernel_rfl) (by kernel_rfl) (fun _ _ _ h => h) (Or.inl ⟨by kernel_rfl, fun w' hw => ?_⟩) trivial ?_
     ·kernel_rfl
     simp only [Act.put, List.setIfInBounds_toArray]
     refine wpAnyH_ready (rs := [7]) (by kernel_rfl) (by simp) ?_
     refine AllReadyH.cons rfl (fun K hK => ?_) AllReadyH.nil
     have x3 := HX6.out.c3
     have xf := HX6.out.fr
     rw [if_pos (by kernel_rfl)]
     go_wp2_with fail
     refine hK.out _ _ trivial (fun _ => ?_)
     clear hK K
     clear x3 xf
     have G7 := gb_set w6 eb 3 (.slice vo vn vc)
     have HB7 := Hid.mk (HB6.out.row G7 (fun g e => by cases e; exact fun e => hbe e.symm))
     have HX7 := Hid.mk (HX6.out.put3 (.slice vo vn vc))
     have HY7 := Hid.mk (HY6.out.by G7 (.inr rfl))
     have HC7 := Hid.mk (HC6.out.row G7 (fun g e => by cases e; exact ⟨hebc, fun hz k hk => by have := HV.out hz k hk; omega⟩))
     have HG7 := Hid.mk (gy_far HG6.out G7 (by omega))
     clear HB6 HX6 HY6 HC6 HG6 G7
     refine wpAnyH_done (by kernel_rfl) ?_ _
     go_wp2
     go_meet
     case rel => exact ⟨⟨.node qt.k qt.s qt.t (qt.x ++ [t]) qt.a qt.b, (.slice vo vn vc), (.slice ao an ac), (.slice bo bn bc)⟩, (HDN.out.addX HD9.out).mono (by omega), HY7, HX7, HB7, HC7, HG7⟩
  by_cases e4 : X = 4
  ·subst e4
   have HBd := Hid.mk (HB5.out.grow (drewB _ w5))
   have HXd := Hid.mk (HX5.out.grow (drewB _ w5))
   have HYd := Hid.mk (HY5.out.grow (drewB _ w5))
   have HCd := Hid.mk (HC5.out.grow (drewB _ w5))
   have HGd := Hid.mk (gy_below HG5.out (drewB _ w5))
   have hld : eb < w5.drew.heap.size := hl5
   clear HB5 HX5 HY5 HC5 HG5 hl5
   go_wp2_with fail
   refine wp_region_held_drew (S := fun _ => True) (by kernel_rfl) trivial (fun _ => ?_)
   generalize w5.drew = wd at *
   refine takeHD (i := 0) (v := .pointer (some ⟨eb, 4, none⟩)) (some 39) rfl rfl (by kernel_rfl) (by kernel_rfl) (by kernel_rfl) (fun _ _ _ h => h) (Or.inl ⟨by kernel_rfl, fun w' hw => ?_⟩) trivial ?_
   ·kernel_rfl
   simp only [Act.put, List.setIfInBounds_toArray]
   refine takeHD (i := 2) (v := .pointer (some ⟨cb, 0, none⟩)) (some 41) rfl rfl (by kernel_rfl) (by kernel_rfl) (by kernel_rfl) (fun _ _ _ h => h) (Or.inl ⟨by kernel_rfl, fun w' hw => ?_⟩) trivial ?_
   ·kernel_rfl
   simp only [Act.put, List.setIfInBounds_toArray]
   refine wpAnyH_ready (rs := [1, 3]) (by kernel_rfl) (by simp) ?_
   refine AllReadyH.cons rfl (fun K hK => ?_) (AllReadyH.cons rfl (fun K hK => ?_) AllReadyH.nil)
   ·have x3 := HXd.out.c4
    rw [if_pos (by kernel_rfl)]
    go_wp2_with fail
    refine hK.out _ _ trivial (fun _ => ?_)
    clear hK K
    clear x3
    refine wpAnyH_ready (rs := [3]) (by kernel_rfl) (by simp) ?_
    refine AllReadyH.cons rfl (fun K hK => ?_) AllReadyH.nil
    rw [if_pos (by kernel_rfl)]
    go_wp2_with fail
    refine (drY0 cb v zs _ false HCd.out).mono ?_
    rintro e w9 ⟨p, rfl, ⟨m1, m2, m3, hq9⟩, hC9, hg9⟩
    have HD9 := Hid.mk hq9.1
    have HE9 := Hid.mk hq9.els
    obtain ⟨t, px, pa, pb⟩ := p
    obtain ⟨yo, yn, yc, rfl⟩ : ∃ o n c, px = .slice o n c := by obtain ⟨o, c, h, -⟩ := HE9.out.1.len; exact ⟨_, _, _, h⟩
    obtain ⟨po, pn, pc, rfl⟩ : ∃ o n c, pa = .slice o n c := by obtain ⟨o, c, h, -⟩ := HE9.out.2.1.len; exact ⟨_, _, _, h⟩
    obtain ⟨ro, rn, rc, rfl⟩ : ∃ o n c, pb = .slice o n c := by obtain ⟨o, c, h, -⟩ := HE9.out.2.2.len; exact ⟨_, _, _, h⟩
    simp only at HD9 HE9
    clear hq9
    have HX9 := Hid.mk (HXd.out.row hg9 (fun g e => by cases e; exact fun e => hebc e.symm))
    have HB9 := Hid.mk (HBd.out.row hg9 (fun g e => by cases e; exact fun e => HNE.out e.symm))
    have HY9 := Hid.mk (HYd.out.by hg9 (by omega))
    have HG9 := Hid.mk (grownBy_trans HGd.out hg9)
    have HC9 := Hid.mk hC9
    have s9 : wd.heap.size ≤ w9.heap.size := hg9.size
    clear hC9 hg9 HXd HBd HYd HGd HCd
    refine hK.out _ _ trivial (fun _ => ?_)
    clear hK K
    refine wpAnyH_ready (rs := [4]) (by kernel_rfl) (by simp) ?_
    refine AllReadyH.cons rfl (fun K hK => ?_) AllReadyH.nil
    rw [if_pos (by kernel_rfl)]
    go_wp2_with fail
    refine hK.out _ _ trivial (fun _ => ?_)
    clear hK K
    have A9 : Below w9.heap.size w9 (w9.alloc (.cells #[.int .i64 t.k, .string t.s, .string t.t, .slice yo yn yc, .slice po pn pc, .slice ro rn rc] 31)) := (Below.refl _ _).alloc (Nat.le_refl _) _
    have HN := Hid.mk (heap_alloc_new w9 (.cells #[.int .i64 t.k, .string t.s, .string t.t, .slice yo yn yc, .slice po pn pc, .slice ro rn rc] 31))
    have HX2 := Hid.mk (HX9.out.grow A9)
    have HB2 := Hid.mk (HB9.out.grow A9)
    have HY2 := Hid.mk (HY9.out.grow A9)
    have HE2 := Hid.mk (And.intro (HE9.out.1.nfgrow A9) (And.intro (HE9.out.2.1.nfgrow A9) (HE9.out.2.2.nfgrow A9)))
    have HG2 := Hid.mk (gy_below HG9.out A9)
    have HC2 := Hid.mk (HC9.out.grow A9)
    have s2 : wd.heap.size < (w9.alloc (.cells #[.int .i64 t.k, .string t.s, .string t.t, .slice yo yn yc, .slice po pn pc, .slice ro rn rc] 31)).heap.size := by have := (Array.getElem?_eq_some_iff.1 HN.out).1; omega
    clear HX9 HB9 HY9 HE9 HG9 HC9 A9
    generalize w9.heap.size = lb at *
    generalize w9.alloc (.cells #[.int .i64 t.k, .string t.s, .string t.t, .slice yo yn yc, .slice po pn pc, .slice ro rn rc] 31) = w2 at *
    refine wpAnyH_ready (rs := [5]) (by kernel_rfl) (by simp) ?_
    refine AllReadyH.cons rfl (fun K hK => ?_) AllReadyH.nil
    rw [if_pos (by kernel_rfl)]
    obtain ⟨L, eL, hown, hels, hrow, hLn⟩ := HY2.out.rowA hn3
    refine wp_append_ye (.tmp 40) (.tmp 43) rfl n1 (wd.heap.size + 1) eb (.slice ao an ac) L ⟨t, .slice yo yn yc, .slice po pn pc, .slice ro rn rc⟩ rfl hown hels (fun k hk => by have := hrow k hk; omega) (by omega) lb rfl HN.out HE2.out.1 HE2.out.2.1 HE2.out.2.2 HD9.out.sizes (by omega) (by omega) (fun k hk => by have := hrow k hk; omega) (by omega) (by omega) ?_
    rw [eL]
    clear eL
    rintro V' w6 hE4 hg4
    have HY6 := Hid.mk (HY2.out.pastA (k := qt.k) (s := qt.s) (t := qt.t) hn3 hg4 hE4)
    obtain ⟨vo, vn, vc, rfl⟩ : ∃ vo vn vc, V' = .slice vo vn vc := by obtain ⟨o, c, h, -⟩ := hE4.len; exact ⟨_, _, _, h⟩
    have HX6 := Hid.mk (HX2.out.row hg4 (fun g e => by have := hrow g e; omega))
    have HB6 := Hid.mk (HB2.out.row hg4 (fun g e => by have := hrow g e; omega))
    have HC6 := Hid.mk (HC2.out.row hg4 (fun g e => by have := hrow g e; exact ⟨by omega, fun hz k hk => by have := HV.out hz k hk; omega⟩))
    have HG6 := Hid.mk (gy_row HG2.out hg4 (fun g e => by have := hrow g e; omega))
    clear HX2 HB2 HC2 HG2 HY2 HE2 HN hE4 hg4 hown hels hrow hLn
    refine hK.out _ _ trivial (fun _ => ?_)
    clear hK K
    refine takeHD (i := 6) (v := .pointer (some ⟨eb, 4, none⟩)) (some 45) rfl rfl (by kernel_rfl) (by kernel_rfl) (by kernel_rfl) (fun _ _ _ h => h) (Or.inl ⟨by kernel_rfl, fun w' hw => ?_⟩) trivial ?_
    ·kernel_rfl
    simp only [Act.put, List.setIfInBounds_toArray]
    refine wpAnyH_ready (rs := [7]) (by kernel_rfl) (by simp) ?_
    refine AllReadyH.cons rfl (fun K hK => ?_) AllReadyH.nil
    have x3 := HX6.out.c4
    have xf := HX6.out.fr
    rw [if_pos (by kernel_rfl)]
    go_wp2_with fail
    refine hK.out _ _ trivial (fun _ => ?_)
    clear hK K
    clear x3 xf
    have G7 := gb_set w6 eb 4 (.slice vo vn vc)
    have HB7 := Hid.mk (HB6.out.row G7 (fun g e => by cases e; exact fun e => hbe e.symm))
    have HX7 := Hid.mk (HX6.out.put4 (.slice vo vn vc))
    have HY7 := Hid.mk (HY6.out.by G7 (.inr rfl))
    have HC7 := Hid.mk (HC6.out.row G7 (fun g e => by cases e; exact ⟨hebc, fun hz k hk => by have := HV.out hz k hk; omega⟩))
    have HG7 := Hid.mk (gy_far HG6.out G7 (by omega))
    clear HB6 HX6 HY6 HC6 HG6 G7
    refine wpAnyH_done (by kernel_rfl) ?_ _
    go_wp2
    go_meet
    case rel => exact ⟨⟨.node qt.k qt.s qt.t qt.x (qt.a ++ [t]) qt.b, (.slice xo xn xc), (.slice vo vn vc), (.slice bo bn bc)⟩, (HDN.out.addA HD9.out).mono (by omega), HY7, HX7, HB7, HC7, HG7⟩
   ·rw [if_pos (by kernel_rfl)]
    go_wp2_with fail
    refine (drY0 cb v zs _ false HCd.out).mono ?_
    rintro e w9 ⟨p, rfl, ⟨m1, m2, m3, hq9⟩, hC9, hg9⟩
    have HD9 := Hid.mk hq9.1
    have HE9 := Hid.mk hq9.els
    obtain ⟨t, px, pa, pb⟩ := p
    obtain ⟨yo, yn, yc, rfl⟩ : ∃ o n c, px = .slice o n c := by obtain ⟨o, c, h, -⟩ := HE9.out.1.len; exact ⟨_, _, _, h⟩
    obtain ⟨po, pn, pc, rfl⟩ : ∃ o n c, pa = .slice o n c := by obtain ⟨o, c, h, -⟩ := HE9.out.2.1.len; exact ⟨_, _, _, h⟩
    obtain ⟨ro, rn, rc, rfl⟩ : ∃ o n c, pb = .slice o n c := by obtain ⟨o, c, h, -⟩ := HE9.out.2.2.len; exact ⟨_, _, _, h⟩
    simp only at HD9 HE9
    clear hq9
    have HX9 := Hid.mk (HXd.out.row hg9 (fun g e => by cases e; exact fun e => hebc e.symm))
    have HB9 := Hid.mk (HBd.out.row hg9 (fun g e => by cases e; exact fun e => HNE.out e.symm))
    have HY9 := Hid.mk (HYd.out.by hg9 (by omega))
    have HG9 := Hid.mk (grownBy_trans HGd.out hg9)
    have HC9 := Hid.mk hC9
    have s9 : wd.heap.size ≤ w9.heap.size := hg9.size
    clear hC9 hg9 HXd HBd HYd HGd HCd
    refine hK.out _ _ trivial (fun _ => ?_)
    clear hK K
    refine wpAnyH_ready (rs := [1, 4]) (by kernel_rfl) (by simp) ?_
    refine AllReadyH.cons rfl (fun K hK => ?_) (AllReadyH.cons rfl (fun K hK => ?_) AllReadyH.nil)
    ·have x3 := HX9.out.c4
     rw [if_pos (by kernel_rfl)]
     go_wp2_with fail
     refine hK.out _ _ trivial (fun _ => ?_)
     clear hK K
     clear x3
     refine wpAnyH_ready (rs := [4]) (by kernel_rfl) (by simp) ?_
     refine AllReadyH.cons rfl (fun K hK => ?_) AllReadyH.nil
     rw [if_pos (by kernel_rfl)]
     go_wp2_with fail
     refine hK.out _ _ trivial (fun _ => ?_)
     clear hK K
     have A9 : Below w9.heap.size w9 (w9.alloc (.cells #[.int .i64 t.k, .string t.s, .string t.t, .slice yo yn yc, .slice po pn pc, .slice ro rn rc] 31)) := (Below.refl _ _).alloc (Nat.le_refl _) _
     have HN := Hid.mk (heap_alloc_new w9 (.cells #[.int .i64 t.k, .string t.s, .string t.t, .slice yo yn yc, .slice po pn pc, .slice ro rn rc] 31))
     have HX2 := Hid.mk (HX9.out.grow A9)
     have HB2 := Hid.mk (HB9.out.grow A9)
     have HY2 := Hid.mk (HY9.out.grow A9)
     have HE2 := Hid.mk (And.intro (HE9.out.1.nfgrow A9) (And.intro (HE9.out.2.1.nfgrow A9) (HE9.out.2.2.nfgrow A9)))
     have HG2 := Hid.mk (gy_below HG9.out A9)
     have HC2 := Hid.mk (HC9.out.grow A9)
     have s2 : wd.heap.size < (w9.alloc (.cells #[.int .i64 t.k, .string t.s, .string t.t, .slice yo yn yc, .slice po pn pc, .slice ro rn rc] 31)).heap.size := by have := (Array.getElem?_eq_some_iff.1 HN.out).1; omega
     clear HX9 HB9 HY9 HE9 HG9 HC9 A9
     generalize w9.heap.size = lb at *
     generalize w9.alloc (.cells #[.int .i64 t.k, .string t.s, .string t.t, .slice yo yn yc, .slice po pn pc, .slice ro rn rc] 31) = w2 at *
     refine wpAnyH_ready (rs := [5]) (by kernel_rfl) (by simp) ?_
     refine AllReadyH.cons rfl (fun K hK => ?_) AllReadyH.nil
     rw [if_pos (by kernel_rfl)]
     obtain ⟨L, eL, hown, hels, hrow, hLn⟩ := HY2.out.rowA hn3
     refine wp_append_ye (.tmp 40) (.tmp 43) rfl n1 (wd.heap.size + 1) eb (.slice ao an ac) L ⟨t, .slice yo yn yc, .slice po pn pc, .slice ro rn rc⟩ rfl hown hels (fun k hk => by have := hrow k hk; omega) (by omega) lb rfl HN.out HE2.out.1 HE2.out.2.1 HE2.out.2.2 HD9.out.sizes (by omega) (by omega) (fun k hk => by have := hrow k hk; omega) (by omega) (by omega) ?_
     rw [eL]
     clear eL
     rintro V' w6 hE4 hg4
     have HY6 := Hid.mk (HY2.out.pastA (k := qt.k) (s := qt.s) (t := qt.t) hn3 hg4 hE4)
     obtain ⟨vo, vn, vc, rfl⟩ : ∃ vo vn vc, V' = .slice vo vn vc := by obtain ⟨o, c, h, -⟩ := hE4.len; exact ⟨_, _, _, h⟩
     have HX6 := Hid.mk (HX2.out.row hg4 (fun g e => by have := hrow g e; omega))
     have HB6 := Hid.mk (HB2.out.row hg4 (fun g e => by have := hrow g e; omega))
     have HC6 := Hid.mk (HC2.out.row hg4 (fun g e => by have := hrow g e; exact ⟨by omega, fun hz k hk => by have := HV.out hz k hk; omega⟩))
     have HG6 := Hid.mk (gy_row HG2.out hg4 (fun g e => by have := hrow g e; omega))
     clear HX2 HB2 HC2 HG2 HY2 HE2 HN hE4 hg4 hown hels hrow hLn
     refine hK.out _ _ trivial (fun _ => ?_)
     clear hK K
     refine takeHD (i := 6) (v := .pointer (some ⟨eb, 4, none⟩)) (some 45) rfl rfl (by kernel_rfl) (by kernel_rfl) (by kernel_rfl) (fun _ _ _ h => h) (Or.inl ⟨by kernel_rfl, fun w' hw => ?_⟩) trivial ?_
     ·kernel_rfl
     simp only [Act.put, List.setIfInBounds_toArray]
     refine wpAnyH_ready (rs := [7]) (by kernel_rfl) (by simp) ?_
     refine AllReadyH.cons rfl (fun K hK => ?_) AllReadyH.nil
     have x3 := HX6.out.c4
     have xf := HX6.out.fr
     rw [if_pos (by kernel_rfl)]
     go_wp2_with fail
     refine hK.out _ _ trivial (fun _ => ?_)
     clear hK K
     clear x3 xf
     have G7 := gb_set w6 eb 4 (.slice vo vn vc)
     have HB7 := Hid.mk (HB6.out.row G7 (fun g e => by cases e; exact fun e => hbe e.symm))
     have HX7 := Hid.mk (HX6.out.put4 (.slice vo vn vc))
     have HY7 := Hid.mk (HY6.out.by G7 (.inr rfl))
     have HC7 := Hid.mk (HC6.out.row G7 (fun g e => by cases e; exact ⟨hebc, fun hz k hk => by have := HV.out hz k hk; omega⟩))
     have HG7 := Hid.mk (gy_far HG6.out G7 (by omega))
     clear HB6 HX6 HY6 HC6 HG6 G7
     refine wpAnyH_done (by kernel_rfl) ?_ _
     go_wp2
     go_meet
     case rel => exact ⟨⟨.node qt.k qt.s qt.t qt.x (qt.a ++ [t]) qt.b, (.slice xo xn xc), (.slice vo vn vc), (.slice bo bn bc)⟩, (HDN.out.addA HD9.out).mono (by omega), HY7, HX7, HB7, HC7, HG7⟩
    ·rw [if_pos (by kernel_rfl)]
     go_wp2_with fail
     refine hK.out _ _ trivial (fun _ => ?_)
     clear hK K
     have A9 : Below w9.heap.size w9 (w9.alloc (.cells #[.int .i64 t.k, .string t.s, .string t.t, .slice yo yn yc, .slice po pn pc, .slice ro rn rc] 31)) := (Below.refl _ _).alloc (Nat.le_refl _) _
     have HN := Hid.mk (heap_alloc_new w9 (.cells #[.int .i64 t.k, .string t.s, .string t.t, .slice yo yn yc, .slice po pn pc, .slice ro rn rc] 31))
     have HX2 := Hid.mk (HX9.out.grow A9)
     have HB2 := Hid.mk (HB9.out.grow A9)
     have HY2 := Hid.mk (HY9.out.grow A9)
     have HE2 := Hid.mk (And.intro (HE9.out.1.nfgrow A9) (And.intro (HE9.out.2.1.nfgrow A9) (HE9.out.2.2.nfgrow A9)))
     have HG2 := Hid.mk (gy_below HG9.out A9)
     have HC2 := Hid.mk (HC9.out.grow A9)
     have s2 : wd.heap.size < (w9.alloc (.cells #[.int .i64 t.k, .string t.s, .string t.t, .slice yo yn yc, .slice po pn pc, .slice ro rn rc] 31)).heap.size := by have := (Array.getElem?_eq_some_iff.1 HN.out).1; omega
     clear HX9 HB9 HY9 HE9 HG9 HC9 A9
     generalize w9.heap.size = lb at *
     generalize w9.alloc (.cells #[.int .i64 t.k, .string t.s, .string t.t, .slice yo yn yc, .slice po pn pc, .slice ro rn rc] 31) = w2 at *
     refine wpAnyH_ready (rs := [1]) (by kernel_rfl) (by simp) ?_
     refine AllReadyH.cons rfl (fun K hK => ?_) AllReadyH.nil
     have x3 := HX2.out.c4
     rw [if_pos (by kernel_rfl)]
     go_wp2_with fail
     refine hK.out _ _ trivial (fun _ => ?_)
     clear hK K
     clear x3
     refine wpAnyH_ready (rs := [5]) (by kernel_rfl) (by simp) ?_
     refine AllReadyH.cons rfl (fun K hK => ?_) AllReadyH.nil
     rw [if_pos (by kernel_rfl)]
     obtain ⟨L, eL, hown, hels, hrow, hLn⟩ := HY2.out.rowA hn3
     refine wp_append_ye (.tmp 40) (.tmp 43) rfl n1 (wd.heap.size + 1) eb (.slice ao an ac) L ⟨t, .slice yo yn yc, .slice po pn pc, .slice ro rn rc⟩ rfl hown hels (fun k hk => by have := hrow k hk; omega) (by omega) lb rfl HN.out HE2.out.1 HE2.out.2.1 HE2.out.2.2 HD9.out.sizes (by omega) (by omega) (fun k hk => by have := hrow k hk; omega) (by omega) (by omega) ?_
     rw [eL]
     clear eL
     rintro V' w6 hE4 hg4
     have HY6 := Hid.mk (HY2.out.pastA (k := qt.k) (s := qt.s) (t := qt.t) hn3 hg4 hE4)
     obtain ⟨vo, vn, vc, rfl⟩ : ∃ vo vn vc, V' = .slice vo vn vc := by obtain ⟨o, c, h, -⟩ := hE4.len; exact ⟨_, _, _, h⟩
     have HX6 := Hid.mk (HX2.out.row hg4 (fun g e => by have := hrow g e; omega))
     have HB6 := Hid.mk (HB2.out.row hg4 (fun g e => by have := hrow g e; omega))
     have HC6 := Hid.mk (HC2.out.row hg4 (fun g e => by have := hrow g e; exact ⟨by omega, fun hz k hk => by have := HV.out hz k hk; omega⟩))
     have HG6 := Hid.mk (gy_row HG2.out hg4 (fun g e => by have := hrow g e; omega))
     clear HX2 HB2 HC2 HG2 HY2 HE2 HN hE4 hg4 hown hels hrow hLn
     refine hK.out _ _ trivial (fun _ => ?_)
     clear hK K
     refine takeHD (i := 6) (v := .pointer (some ⟨eb, 4, none⟩)) (some 45) rfl rfl (by kernel_rfl) (by kernel_rfl) (by kernel_rfl) (fun _ _ _ h => h) (Or.inl ⟨by kernel_rfl, fun w' hw => ?_⟩) trivial ?_
     ·kernel_rfl
     simp only [Act.put, List.setIfInBounds_toArray]
     refine wpAnyH_ready (rs := [7]) (by kernel_rfl) (by simp) ?_
     refine AllReadyH.cons rfl (fun K hK => ?_) AllReadyH.nil
     have x3 := HX6.out.c4
     have xf := HX6.out.fr
     rw [if_pos (by kernel_rfl)]
     go_wp2_with fail
     refine hK.out _ _ trivial (fun _ => ?_)
     clear hK K
     clear x3 xf
     have G7 := gb_set w6 eb 4 (.slice vo vn vc)
     have HB7 := Hid.mk (HB6.out.row G7 (fun g e => by cases e; exact fun e => hbe e.symm))
     have HX7 := Hid.mk (HX6.out.put4 (.slice vo vn vc))
     have HY7 := Hid.mk (HY6.out.by G7 (.inr rfl))
     have HC7 := Hid.mk (HC6.out.row G7 (fun g e => by cases e; exact ⟨hebc, fun hz k hk => by have := HV.out hz k hk; omega⟩))
     have HG7 := Hid.mk (gy_far HG6.out G7 (by omega))
     clear HB6 HX6 HY6 HC6 HG6 G7
     refine wpAnyH_done (by kernel_rfl) ?_ _
     go_wp2
     go_meet
     case rel => exact ⟨⟨.node qt.k qt.s qt.t qt.x (qt.a ++ [t]) qt.b, (.slice xo xn xc), (.slice vo vn vc), (.slice bo bn bc)⟩, (HDN.out.addA HD9.out).mono (by omega), HY7, HX7, HB7, HC7, HG7⟩
  by_cases e5 : X = 5
  ·subst e5
   go_wp2_with fail
   refine (l1Below_any cb v zs 7 _ HC5.out).mono ?_
   rintro e w6 ⟨y, rfl, hy0, hy1, -, hC, hg⟩
   have hy7 := hy1 (by omega)
   obtain ⟨N, rfl⟩ := Int.eq_ofNat_of_zero_le hy0
   have HB6 := Hid.mk (HB5.out.row hg (fun g e => by cases e; exact fun e => HNE.out e.symm))
   have HX6 := Hid.mk (HX5.out.row hg (fun g e => by cases e; exact fun e => hebc e.symm))
   have HY6 := Hid.mk (HY5.out.by hg (by omega))
   have HC6 := Hid.mk hC
   have HG6 := Hid.mk (grownBy_trans HG5.out hg)
   clear hg hC HB5 HX5 HY5 HC5 HG5
   have HR6 := Hid.mk (HY6.out.rd hn3)
   clear hy0 hy1 HY6
   go_wp2
   go_loopw [4] (fun i wr => ∃ (j : Nat) (q : Yv), i = .int .i64 j ∧ j ≤ 7 ∧ Hid (DyN (7040000 + 210 * (7 - j)) q.t) ∧ Hid (YRd wr (w.heap.size + 1) (some eb) q) ∧ Hid (Bz6 wr eb (.int .i64 q.t.k) (.string q.t.s) (.string q.t.t) q.x q.a q.b) ∧ Hid (Bz6 wr w.heap.size (.int .i64 0) (.string ⟨#[]⟩) (.string ⟨#[]⟩) (.slice none 0 0) (.slice none 0 0) (.slice none 0 0)) ∧ Hid (Cur wr cb v zs) ∧ Hid (w.grownBy wr (some cb))) (fun i _ => (intOf i).toNat)
   case atStart => exact ⟨N, ⟨qt, .slice xo xn xc, .slice ao an ac, .slice bo bn bc⟩, rfl, by omega, HDN.out.mono (by omega), HR6, HX6, HB6, HC6, HG6⟩
   case round =>
    clear HR6 HX6 HB6 HC6 HG6 HDN
    clear hn3 hn0 hn12 hn23 hl5
    obtain ⟨j, ⟨qt, qx, qa, qb⟩, rfl, hj7, HDQ, HY, HX, HB, HC, HG⟩ := hrel
    obtain ⟨xo, xn, xc, rfl⟩ : ∃ o n c, qx = .slice o n c := by obtain ⟨o, c, h, -⟩ := HY.out.1.len; exact ⟨_, _, _, h⟩
    obtain ⟨ao, an, ac, rfl⟩ : ∃ o n c, qa = .slice o n c := by obtain ⟨o, c, h, -⟩ := HY.out.2.1.len; exact ⟨_, _, _, h⟩
    obtain ⟨bo, bn, bc, rfl⟩ : ∃ o n c, qb = .slice o n c := by obtain ⟨o, c, h, -⟩ := HY.out.2.2.len; exact ⟨_, _, _, h⟩
    simp only at HDQ HX
    by_cases hj0 : 0 < j
    ·have hi1 : (0 : Int) < (j : Int) := by omega
     have hjj : ((j : Int) - 1) = ((j - 1 : Nat) : Int) := by omega
     have HB0 := Hid.mk (HB.out.grow (drewB _ wr))
     have HX0 := Hid.mk (HX.out.grow (drewB _ wr))
     have HY0 := Hid.mk (HY.out.grow (drewB _ wr))
     have HC0 := Hid.mk (HC.out.grow (drewB _ wr))
     have HG0 := Hid.mk (gy_below HG.out (drewB _ wr))
     have hl0 : eb < wr.drew.heap.size := HX.out.lt
     clear HB HX HY HC HG
     go_wp2_with fail
     refine wp_region_held_drew (S := fun _ => True) (by kernel_rfl) trivial (fun _ => ?_)
     generalize wr.drew = w20 at *
     refine wpAnyH_ready (rs := [0, 2]) (by kernel_rfl) (by simp) ?_
     refine AllReadyH.cons rfl (fun K hK => ?_) (AllReadyH.cons rfl (fun K hK => ?_) AllReadyH.nil)
     ·rw [if_pos (by kernel_rfl)]
      go_wp2_with fail
      refine (l8Int_any 0 _).mono ?_
      rintro e w21 ⟨rfl, hb⟩
      have HX1 := Hid.mk (HX0.out.grow hb)
      have HB1 := Hid.mk (HB0.out.grow hb)
      have HY1 := Hid.mk (HY0.out.grow hb)
      have HC1 := Hid.mk (HC0.out.grow hb)
      have HG1 := Hid.mk (gy_below HG0.out hb)
      have hl1 : eb < w21.heap.size := by have := hb.size; omega
      refine hK.out _ _ trivial (fun _ => ?_)
      clear hK K
      clear HX0 HB0 HY0 HC0 HG0 hl0 hb
      refine wpAnyH_ready (rs := [1, 2]) (by kernel_rfl) (by simp) ?_
      refine AllReadyH.cons rfl (fun K hK => ?_) (AllReadyH.cons rfl (fun K hK => ?_) AllReadyH.nil)
      ·rw [if_pos (by kernel_rfl)]
       go_wp2_with fail
       refine hK.out _ _ trivial (fun _ => ?_)
       clear hK K
       have A : Below w21.heap.size w21 (w21.alloc (.cells #[.int .i64 1, .int .i64 0, .string ⟨#[]⟩, .slice none 0 0] 26)) := (Below.refl _ _).alloc (Nat.le_refl _) _
       have HX2 := Hid.mk (HX1.out.grow A)
       have HB2 := Hid.mk (HB1.out.grow A)
       have HY2 := Hid.mk (HY1.out.grow A)
       have HC2 := Hid.mk (HC1.out.grow A)
       have HG2 := Hid.mk (gy_below HG1.out A)
       have hl2 : eb < (w21.alloc (.cells #[.int .i64 1, .int .i64 0, .string ⟨#[]⟩, .slice none 0 0] 26)).heap.size := by have := A.size; omega
       have HN2 := Hid.mk (heap_alloc_new w21 (.cells #[.int .i64 1, .int .i64 0, .string ⟨#[]⟩, .slice none 0 0] 26))
       have hn2 : w21.heap.size < (w21.alloc (.cells #[.int .i64 1, .int .i64 0, .string ⟨#[]⟩, .slice none 0 0] 26)).heap.size := (Array.getElem?_eq_some_iff.1 (heap_alloc_new w21 (.cells #[.int .i64 1, .int .i64 0, .string ⟨#[]⟩, .slice none 0 0] 26))).1
       have hng : eb < w21.heap.size := hl1
       clear HX1 HB1 HY1 HC1 HG1 hl1 A
       generalize w21.heap.size = lx at *
       generalize w21.alloc (.cells #[.int .i64 1, .int .i64 0, .string ⟨#[]⟩, .slice none 0 0] 26) = w22 at *
       refine wpAnyH_ready (rs := [2]) (by kernel_rfl) (by simp) ?_
       refine AllReadyH.cons rfl (fun K hK => ?_) AllReadyH.nil
       have x0 := HX2.out.c0
       have x1 := HX2.out.c1
       have x2 := HX2.out.c2
       have x3 := HX2.out.c3
       have x4 := HX2.out.c4
       have x5 := HX2.out.c5
       rw [if_pos (by kernel_rfl)]
       go_wp2_with fail
       refine hK.out _ _ trivial (fun _ => ?_)
       clear hK K
       clear x0 x1 x2 x3 x4 x5
       refine wpAnyH_ready (rs := [3]) (by kernel_rfl) (by simp) ?_
       refine AllReadyH.cons rfl (fun K hK => ?_) AllReadyH.nil
       rw [if_pos (by kernel_rfl)]
       go_wp2_with fail
       refine hK.out _ _ trivial (fun _ => ?_)
       clear hK K
       have A : Below w22.heap.size w22 (w22.alloc (.cells #[.int .i64 qt.k, .string qt.s, .string qt.t, .slice xo xn xc, .slice ao an ac, .slice bo bn bc] 31)) := (Below.refl _ _).alloc (Nat.le_refl _) _
       have HX3 := Hid.mk (HX2.out.grow A)
       have HB3 := Hid.mk (HB2.out.grow A)
       have HY3 := Hid.mk (HY2.out.grow A)
       have HC3 := Hid.mk (HC2.out.grow A)
       have HG3 := Hid.mk (gy_below HG2.out A)
       have hl3 : eb < (w22.alloc (.cells #[.int .i64 qt.k, .string qt.s, .string qt.t, .slice xo xn xc, .slice ao an ac, .slice bo bn bc] 31)).heap.size := by have := A.size; omega
       have HM3 := Hid.mk (heap_alloc_new w22 (.cells #[.int .i64 qt.k, .string qt.s, .string qt.t, .slice xo xn xc, .slice ao an ac, .slice bo bn bc] 31))
       have hm3 : w22.heap.size < (w22.alloc (.cells #[.int .i64 qt.k, .string qt.s, .string qt.t, .slice xo xn xc, .slice ao an ac, .slice bo bn bc] 31)).heap.size := (Array.getElem?_eq_some_iff.1 (heap_alloc_new w22 (.cells #[.int .i64 qt.k, .string qt.s, .string qt.t, .slice xo xn xc, .slice ao an ac, .slice bo bn bc] 31))).1
       have hmg : eb < w22.heap.size := hl2
       have HN3 := Hid.mk ((A.block lx hn2).trans HN2.out)
       have hn3 : lx < (w22.alloc (.cells #[.int .i64 qt.k, .string qt.s, .string qt.t, .slice xo xn xc, .slice ao an ac, .slice bo bn bc] 31)).heap.size := by have := A.size; omega
       clear HX2 HB2 HY2 HC2 HG2 hl2 HN2 hn2 A
       generalize w22.heap.size = ly at *
       generalize w22.alloc (.cells #[.int .i64 qt.k, .string qt.s, .string qt.t, .slice xo xn xc, .slice ao an ac, .slice bo bn bc] 31) = w23 at *
       refine takeHD (i := 4) (v := .agg #[.int .i64 6, .string ⟨#[]⟩, .string ⟨#[]⟩, .slice (some ⟨lx, 0, none⟩) 1 1, .slice (some ⟨ly, 0, none⟩) 1 1, .slice none 0 0]) (some 58) rfl rfl (by kernel_rfl) (by kernel_rfl) (by kernel_rfl) (fun _ _ _ h => h) (Or.inl ⟨by kernel_rfl, fun w' hw => ?_⟩) trivial ?_
       ·first | kernel_rfl | go_simp
       simp only [Act.put, List.setIfInBounds_toArray]
       refine wpAnyH_ready (rs := [5]) (by kernel_rfl) (by simp) ?_
       refine AllReadyH.cons rfl (fun K hK => ?_) AllReadyH.nil
       have x0 := HX3.out.c0
       have x1 := HX3.out.c1
       have x2 := HX3.out.c2
       have x3 := HX3.out.c3
       have x4 := HX3.out.c4
       have x5 := HX3.out.c5
       have xf := HX3.out.fr
       rw [if_pos (by kernel_rfl)]
       go_wp2_with fail
       refine hK.out _ _ trivial (fun _ => ?_)
       clear hK K
       clear x0 x1 x2 x3 x4 x5 xf
       have G7 := box6_by w23 eb (.int .i64 6) (.string ⟨#[]⟩) (.string ⟨#[]⟩) (.slice (some ⟨lx, 0, none⟩) 1 1) (.slice (some ⟨ly, 0, none⟩) 1 1) (.slice none 0 0)
       have HB7 := Hid.mk (HB3.out.row G7 (fun g e => by cases e; exact fun e => hbe e.symm))
       have HX7 := Hid.mk (HX3.out.six (.int .i64 6) (.string ⟨#[]⟩) (.string ⟨#[]⟩) (.slice (some ⟨lx, 0, none⟩) 1 1) (.slice (some ⟨ly, 0, none⟩) 1 1) (.slice none 0 0))
       have hY7 := HY3.out.by G7 (.inr rfl)
       have HC7 := Hid.mk (HC3.out.row G7 (fun g e => by cases e; exact ⟨hebc, fun hz k hk => by have := HV.out hz k hk; omega⟩))
       have HG7 := Hid.mk (gy_far HG3.out G7 (by omega))
       have e1 := (G7.block lx hn3 (by simp; omega)).trans HN3.out
       have e2 := (G7.block ly hm3 (by simp; omega)).trans HM3.out
       have HY7 : Hid (YRd (box6 w23 eb (.int .i64 6) (.string ⟨#[]⟩) (.string ⟨#[]⟩) (.slice (some ⟨lx, 0, none⟩) 1 1) (.slice (some ⟨ly, 0, none⟩) 1 1) (.slice none 0 0)) (w.heap.size + 1) (some eb) ⟨.node 6 ⟨#[]⟩ ⟨#[]⟩ [.node 1 0 ⟨#[]⟩ []] [qt] [], (.slice (some ⟨lx, 0, none⟩) 1 1), (.slice (some ⟨ly, 0, none⟩) 1 1), .slice none 0 0⟩) := ⟨El.aloneD (a := .node 1 0 ⟨#[]⟩ []) e1 ⟨⟨by omega, fun o => frozen_of_row _ lx o _ _ e1⟩, by simp; omega⟩ (by decide) (El.zero _ _), Sl.aloneD (a := qt) e2 ⟨⟨by omega, fun o => frozen_of_row _ ly o _ _ e2⟩, by simp; omega⟩ HDQ.out.1.sizes.1 HDQ.out.1.sizes.2 hY7.1 hY7.2.1 hY7.2.2, Sl.zero _ _⟩
       have HD7 := Hid.mk (HDQ.out.wrap.mono (c' := 7040000 + 210 * (7 - (j - 1))) (by omega))
       clear HB3 HX3 HY3 HC3 HG3 G7 HN3 HM3 e1 e2 hY7 HDQ
       refine wpAnyH_done (by kernel_rfl) ?_ _
       go_wp2
       go_roundw
       case rel => exact ⟨j - 1, ⟨.node 6 ⟨#[]⟩ ⟨#[]⟩ [.node 1 0 ⟨#[]⟩ []] [qt] [], (.slice (some ⟨lx, 0, none⟩) 1 1), (.slice (some ⟨ly, 0, none⟩) 1 1), .slice none 0 0⟩, by first | rfl | (simp; omega), by omega, HD7, HY7, HX7, HB7, HC7, HG7⟩
       case measure => simp [intOf]; omega
      ·have x0 := HX1.out.c0
       have x1 := HX1.out.c1
       have x2 := HX1.out.c2
       have x3 := HX1.out.c3
       have x4 := HX1.out.c4
       have x5 := HX1.out.c5
       rw [if_pos (by kernel_rfl)]
       go_wp2_with fail
       refine hK.out _ _ trivial (fun _ => ?_)
       clear hK K
       clear x0 x1 x2 x3 x4 x5
       refine wpAnyH_ready (rs := [1, 3]) (by kernel_rfl) (by simp) ?_
       refine AllReadyH.cons rfl (fun K hK => ?_) (AllReadyH.cons rfl (fun K hK => ?_) AllReadyH.nil)
       ·rw [if_pos (by kernel_rfl)]
        go_wp2_with fail
        refine hK.out _ _ trivial (fun _ => ?_)
        clear hK K
        have A : Below w21.heap.size w21 (w21.alloc (.cells #[.int .i64 1, .int .i64 0, .string ⟨#[]⟩, .slice none 0 0] 26)) := (Below.refl _ _).alloc (Nat.le_refl _) _
        have HX2 := Hid.mk (HX1.out.grow A)
        have HB2 := Hid.mk (HB1.out.grow A)
        have HY2 := Hid.mk (HY1.out.grow A)
        have HC2 := Hid.mk (HC1.out.grow A)
        have HG2 := Hid.mk (gy_below HG1.out A)
        have hl2 : eb < (w21.alloc (.cells #[.int .i64 1, .int .i64 0, .string ⟨#[]⟩, .slice none 0 0] 26)).heap.size := by have := A.size; omega
        have HN2 := Hid.mk (heap_alloc_new w21 (.cells #[.int .i64 1, .int .i64 0, .string ⟨#[]⟩, .slice none 0 0] 26))
        have hn2 : w21.heap.size < (w21.alloc (.cells #[.int .i64 1, .int .i64 0, .string ⟨#[]⟩, .slice none 0 0] 26)).heap.size := (Array.getElem?_eq_some_iff.1 (heap_alloc_new w21 (.cells #[.int .i64 1, .int .i64 0, .string ⟨#[]⟩, .slice none 0 0] 26))).1
        have hng : eb < w21.heap.size := hl1
        clear HX1 HB1 HY1 HC1 HG1 hl1 A
        generalize w21.heap.size = lx at *
        generalize w21.alloc (.cells #[.int .i64 1, .int .i64 0, .string ⟨#[]⟩, .slice none 0 0] 26) = w22 at *
        refine wpAnyH_ready (rs := [3]) (by kernel_rfl) (by simp) ?_
        refine AllReadyH.cons rfl (fun K hK => ?_) AllReadyH.nil
        rw [if_pos (by kernel_rfl)]
        go_wp2_with fail
        refine hK.out _ _ trivial (fun _ => ?_)
        clear hK K
        have A : Below w22.heap.size w22 (w22.alloc (.cells #[.int .i64 qt.k, .string qt.s, .string qt.t, .slice xo xn xc, .slice ao an ac, .slice bo bn bc] 31)) := (Below.refl _ _).alloc (Nat.le_refl _) _
        have HX3 := Hid.mk (HX2.out.grow A)
        have HB3 := Hid.mk (HB2.out.grow A)
        have HY3 := Hid.mk (HY2.out.grow A)
        have HC3 := Hid.mk (HC2.out.grow A)
        have HG3 := Hid.mk (gy_below HG2.out A)
        have hl3 : eb < (w22.alloc (.cells #[.int .i64 qt.k, .string qt.s, .string qt.t, .slice xo xn xc, .slice ao an ac, .slice bo bn bc] 31)).heap.size := by have := A.size; omega
        have HM3 := Hid.mk (heap_alloc_new w22 (.cells #[.int .i64 qt.k, .string qt.s, .string qt.t, .slice xo xn xc, .slice ao an ac, .slice bo bn bc] 31))
        have hm3 : w22.heap.size < (w22.alloc (.cells #[.int .i64 qt.k, .string qt.s, .string qt.t, .slice xo xn xc, .slice ao an ac, .slice bo bn bc] 31)).heap.size := (Array.getElem?_eq_some_iff.1 (heap_alloc_new w22 (.cells #[.int .i64 qt.k, .string qt.s, .string qt.t, .slice xo xn xc, .slice ao an ac, .slice bo bn bc] 31))).1
        have hmg : eb < w22.heap.size := hl2
        have HN3 := Hid.mk ((A.block lx hn2).trans HN2.out)
        have hn3 : lx < (w22.alloc (.cells #[.int .i64 qt.k, .string qt.s, .string qt.t, .slice xo xn xc, .slice ao an ac, .slice bo bn bc] 31)).heap.size := by have := A.size; omega
        clear HX2 HB2 HY2 HC2 HG2 hl2 HN2 hn2 A
        generalize w22.heap.size = ly at *
        generalize w22.alloc (.cells #[.int .i64 qt.k, .string qt.s, .string qt.t, .slice xo xn xc, .slice ao an ac, .slice bo bn bc] 31) = w23 at *
        refine takeHD (i := 4) (v := .agg #[.int .i64 6, .string ⟨#[]⟩, .string ⟨#[]⟩, .slice (some ⟨lx, 0, none⟩) 1 1, .slice (some ⟨ly, 0, none⟩) 1 1, .slice none 0 0]) (some 58) rfl rfl (by kernel_rfl) (by kernel_rfl) (by kernel_rfl) (fun _ _ _ h => h) (Or.inl ⟨by kernel_rfl, fun w' hw => ?_⟩) trivial ?_
        ·first | kernel_rfl | go_simp
        simp only [Act.put, List.setIfInBounds_toArray]
        refine wpAnyH_ready (rs := [5]) (by kernel_rfl) (by simp) ?_
        refine AllReadyH.cons rfl (fun K hK => ?_) AllReadyH.nil
        have x0 := HX3.out.c0
        have x1 := HX3.out.c1
        have x2 := HX3.out.c2
        have x3 := HX3.out.c3
        have x4 := HX3.out.c4
        have x5 := HX3.out.c5
        have xf := HX3.out.fr
        rw [if_pos (by kernel_rfl)]
        go_wp2_with fail
        refine hK.out _ _ trivial (fun _ => ?_)
        clear hK K
        clear x0 x1 x2 x3 x4 x5 xf
        have G7 := box6_by w23 eb (.int .i64 6) (.string ⟨#[]⟩) (.string ⟨#[]⟩) (.slice (some ⟨lx, 0, none⟩) 1 1) (.slice (some ⟨ly, 0, none⟩) 1 1) (.slice none 0 0)
        have HB7 := Hid.mk (HB3.out.row G7 (fun g e => by cases e; exact fun e => hbe e.symm))
        have HX7 := Hid.mk (HX3.out.six (.int .i64 6) (.string ⟨#[]⟩) (.string ⟨#[]⟩) (.slice (some ⟨lx, 0, none⟩) 1 1) (.slice (some ⟨ly, 0, none⟩) 1 1) (.slice none 0 0))
        have hY7 := HY3.out.by G7 (.inr rfl)
        have HC7 := Hid.mk (HC3.out.row G7 (fun g e => by cases e; exact ⟨hebc, fun hz k hk => by have := HV.out hz k hk; omega⟩))
        have HG7 := Hid.mk (gy_far HG3.out G7 (by omega))
        have e1 := (G7.block lx hn3 (by simp; omega)).trans HN3.out
        have e2 := (G7.block ly hm3 (by simp; omega)).trans HM3.out
        have HY7 : Hid (YRd (box6 w23 eb (.int .i64 6) (.string ⟨#[]⟩) (.string ⟨#[]⟩) (.slice (some ⟨lx, 0, none⟩) 1 1) (.slice (some ⟨ly, 0, none⟩) 1 1) (.slice none 0 0)) (w.heap.size + 1) (some eb) ⟨.node 6 ⟨#[]⟩ ⟨#[]⟩ [.node 1 0 ⟨#[]⟩ []] [qt] [], (.slice (some ⟨lx, 0, none⟩) 1 1), (.slice (some ⟨ly, 0, none⟩) 1 1), .slice none 0 0⟩) := ⟨El.aloneD (a := .node 1 0 ⟨#[]⟩ []) e1 ⟨⟨by omega, fun o => frozen_of_row _ lx o _ _ e1⟩, by simp; omega⟩ (by decide) (El.zero _ _), Sl.aloneD (a := qt) e2 ⟨⟨by omega, fun o => frozen_of_row _ ly o _ _ e2⟩, by simp; omega⟩ HDQ.out.1.sizes.1 HDQ.out.1.sizes.2 hY7.1 hY7.2.1 hY7.2.2, Sl.zero _ _⟩
        have HD7 := Hid.mk (HDQ.out.wrap.mono (c' := 7040000 + 210 * (7 - (j - 1))) (by omega))
        clear HB3 HX3 HY3 HC3 HG3 G7 HN3 HM3 e1 e2 hY7 HDQ
        refine wpAnyH_done (by kernel_rfl) ?_ _
        go_wp2
        go_roundw
        case rel => exact ⟨j - 1, ⟨.node 6 ⟨#[]⟩ ⟨#[]⟩ [.node 1 0 ⟨#[]⟩ []] [qt] [], (.slice (some ⟨lx, 0, none⟩) 1 1), (.slice (some ⟨ly, 0, none⟩) 1 1), .slice none 0 0⟩, by first | rfl | (simp; omega), by omega, HD7, HY7, HX7, HB7, HC7, HG7⟩
        case measure => simp [intOf]; omega
       ·rw [if_pos (by kernel_rfl)]
        go_wp2_with fail
        refine hK.out _ _ trivial (fun _ => ?_)
        clear hK K
        have A : Below w21.heap.size w21 (w21.alloc (.cells #[.int .i64 qt.k, .string qt.s, .string qt.t, .slice xo xn xc, .slice ao an ac, .slice bo bn bc] 31)) := (Below.refl _ _).alloc (Nat.le_refl _) _
        have HX2 := Hid.mk (HX1.out.grow A)
        have HB2 := Hid.mk (HB1.out.grow A)
        have HY2 := Hid.mk (HY1.out.grow A)
        have HC2 := Hid.mk (HC1.out.grow A)
        have HG2 := Hid.mk (gy_below HG1.out A)
        have hl2 : eb < (w21.alloc (.cells #[.int .i64 qt.k, .string qt.s, .string qt.t, .slice xo xn xc, .slice ao an ac, .slice bo bn bc] 31)).heap.size := by have := A.size; omega
        have HM2 := Hid.mk (heap_alloc_new w21 (.cells #[.int .i64 qt.k, .string qt.s, .string qt.t, .slice xo xn xc, .slice ao an ac, .slice bo bn bc] 31))
        have hm2 : w21.heap.size < (w21.alloc (.cells #[.int .i64 qt.k, .string qt.s, .string qt.t, .slice xo xn xc, .slice ao an ac, .slice bo bn bc] 31)).heap.size := (Array.getElem?_eq_some_iff.1 (heap_alloc_new w21 (.cells #[.int .i64 qt.k, .string qt.s, .string qt.t, .slice xo xn xc, .slice ao an ac, .slice bo bn bc] 31))).1
        have hmg : eb < w21.heap.size := hl1
        clear HX1 HB1 HY1 HC1 HG1 hl1 A
        generalize w21.heap.size = ly at *
        generalize w21.alloc (.cells #[.int .i64 qt.k, .string qt.s, .string qt.t, .slice xo xn xc, .slice ao an ac, .slice bo bn bc] 31) = w22 at *
        refine wpAnyH_ready (rs := [1]) (by kernel_rfl) (by simp) ?_
        refine AllReadyH.cons rfl (fun K hK => ?_) AllReadyH.nil
        rw [if_pos (by kernel_rfl)]
        go_wp2_with fail
        refine hK.out _ _ trivial (fun _ => ?_)
        clear hK K
        have A : Below w22.heap.size w22 (w22.alloc (.cells #[.int .i64 1, .int .i64 0, .string ⟨#[]⟩, .slice none 0 0] 26)) := (Below.refl _ _).alloc (Nat.le_refl _) _
        have HX3 := Hid.mk (HX2.out.grow A)
        have HB3 := Hid.mk (HB2.out.grow A)
        have HY3 := Hid.mk (HY2.out.grow A)
        have HC3 := Hid.mk (HC2.out.grow A)
        have HG3 := Hid.mk (gy_below HG2.out A)
        have hl3 : eb < (w22.alloc (.cells #[.int .i64 1, .int .i64 0, .string ⟨#[]⟩, .slice none 0 0] 26)).heap.size := by have := A.size; omega
        have HN3 := Hid.mk (heap_alloc_new w22 (.cells #[.int .i64 1, .int .i64 0, .string ⟨#[]⟩, .slice none 0 0] 26))
        have hn3 : w22.heap.size < (w22.alloc (.cells #[.int .i64 1, .int .i64 0, .string ⟨#[]⟩, .slice none 0 0] 26)).heap.size := (Array.getElem?_eq_some_iff.1 (heap_alloc_new w22 (.cells #[.int .i64 1, .int .i64 0, .string ⟨#[]⟩, .slice none 0 0] 26))).1
        have hng : eb < w22.heap.size := hl2
        have HM3 := Hid.mk ((A.block ly hm2).trans HM2.out)
        have hm3 : ly < (w22.alloc (.cells #[.int .i64 1, .int .i64 0, .string ⟨#[]⟩, .slice none 0 0] 26)).heap.size := by have := A.size; omega
        clear HX2 HB2 HY2 HC2 HG2 hl2 HM2 hm2 A
        generalize w22.heap.size = lx at *
        generalize w22.alloc (.cells #[.int .i64 1, .int .i64 0, .string ⟨#[]⟩, .slice none 0 0] 26) = w23 at *
        refine takeHD (i := 4) (v := .agg #[.int .i64 6, .string ⟨#[]⟩, .string ⟨#[]⟩, .slice (some ⟨lx, 0, none⟩) 1 1, .slice (some ⟨ly, 0, none⟩) 1 1, .slice none 0 0]) (some 58) rfl rfl (by kernel_rfl) (by kernel_rfl) (by kernel_rfl) (fun _ _ _ h => h) (Or.inl ⟨by kernel_rfl, fun w' hw => ?_⟩) trivial ?_
        ·first | kernel_rfl | go_simp
        simp only [Act.put, List.setIfInBounds_toArray]
        refine wpAnyH_ready (rs := [5]) (by kernel_rfl) (by simp) ?_
        refine AllReadyH.cons rfl (fun K hK => ?_) AllReadyH.nil
        have x0 := HX3.out.c0
        have x1 := HX3.out.c1
        have x2 := HX3.out.c2
        have x3 := HX3.out.c3
        have x4 := HX3.out.c4
        have x5 := HX3.out.c5
        have xf := HX3.out.fr
        rw [if_pos (by kernel_rfl)]
        go_wp2_with fail
        refine hK.out _ _ trivial (fun _ => ?_)
        clear hK K
        clear x0 x1 x2 x3 x4 x5 xf
        have G7 := box6_by w23 eb (.int .i64 6) (.string ⟨#[]⟩) (.string ⟨#[]⟩) (.slice (some ⟨lx, 0, none⟩) 1 1) (.slice (some ⟨ly, 0, none⟩) 1 1) (.slice none 0 0)
        have HB7 := Hid.mk (HB3.out.row G7 (fun g e => by cases e; exact fun e => hbe e.symm))
        have HX7 := Hid.mk (HX3.out.six (.int .i64 6) (.string ⟨#[]⟩) (.string ⟨#[]⟩) (.slice (some ⟨lx, 0, none⟩) 1 1) (.slice (some ⟨ly, 0, none⟩) 1 1) (.slice none 0 0))
        have hY7 := HY3.out.by G7 (.inr rfl)
        have HC7 := Hid.mk (HC3.out.row G7 (fun g e => by cases e; exact ⟨hebc, fun hz k hk => by have := HV.out hz k hk; omega⟩))
        have HG7 := Hid.mk (gy_far HG3.out G7 (by omega))
        have e1 := (G7.block lx hn3 (by simp; omega)).trans HN3.out
        have e2 := (G7.block ly hm3 (by simp; omega)).trans HM3.out
        have HY7 : Hid (YRd (box6 w23 eb (.int .i64 6) (.string ⟨#[]⟩) (.string ⟨#[]⟩) (.slice (some ⟨lx, 0, none⟩) 1 1) (.slice (some ⟨ly, 0, none⟩) 1 1) (.slice none 0 0)) (w.heap.size + 1) (some eb) ⟨.node 6 ⟨#[]⟩ ⟨#[]⟩ [.node 1 0 ⟨#[]⟩ []] [qt] [], (.slice (some ⟨lx, 0, none⟩) 1 1), (.slice (some ⟨ly, 0, none⟩) 1 1), .slice none 0 0⟩) := ⟨El.aloneD (a := .node 1 0 ⟨#[]⟩ []) e1 ⟨⟨by omega, fun o => frozen_of_row _ lx o _ _ e1⟩, by simp; omega⟩ (by decide) (El.zero _ _), Sl.aloneD (a := qt) e2 ⟨⟨by omega, fun o => frozen_of_row _ ly o _ _ e2⟩, by simp; omega⟩ HDQ.out.1.sizes.1 HDQ.out.1.sizes.2 hY7.1 hY7.2.1 hY7.2.2, Sl.zero _ _⟩
        have HD7 := Hid.mk (HDQ.out.wrap.mono (c' := 7040000 + 210 * (7 - (j - 1))) (by omega))
        clear HB3 HX3 HY3 HC3 HG3 G7 HN3 HM3 e1 e2 hY7 HDQ
        refine wpAnyH_done (by kernel_rfl) ?_ _
        go_wp2
        go_roundw
        case rel => exact ⟨j - 1, ⟨.node 6 ⟨#[]⟩ ⟨#[]⟩ [.node 1 0 ⟨#[]⟩ []] [qt] [], (.slice (some ⟨lx, 0, none⟩) 1 1), (.slice (some ⟨ly, 0, none⟩) 1 1), .slice none 0 0⟩, by first | rfl | (simp; omega), by omega, HD7, HY7, HX7, HB7, HC7, HG7⟩
        case measure => simp [intOf]; omega
     ·have x0 := HX0.out.c0
      have x1 := HX0.out.c1
      have x2 := HX0.out.c2
      have x3 := HX0.out.c3
      have x4 := HX0.out.c4
      have x5 := HX0.out.c5
      rw [if_pos (by kernel_rfl)]
      go_wp2_with fail
      refine hK.out _ _ trivial (fun _ => ?_)
      clear hK K
      clear x0 x1 x2 x3 x4 x5
      refine wpAnyH_ready (rs := [0, 3]) (by kernel_rfl) (by simp) ?_
      refine AllReadyH.cons rfl (fun K hK => ?_) (AllReadyH.cons rfl (fun K hK => ?_) AllReadyH.nil)
      ·rw [if_pos (by kernel_rfl)]
       go_wp2_with fail
       refine (l8Int_any 0 _).mono ?_
       rintro e w21 ⟨rfl, hb⟩
       have HX1 := Hid.mk (HX0.out.grow hb)
       have HB1 := Hid.mk (HB0.out.grow hb)
       have HY1 := Hid.mk (HY0.out.grow hb)
       have HC1 := Hid.mk (HC0.out.grow hb)
       have HG1 := Hid.mk (gy_below HG0.out hb)
       have hl1 : eb < w21.heap.size := by have := hb.size; omega
       refine hK.out _ _ trivial (fun _ => ?_)
       clear hK K
       clear HX0 HB0 HY0 HC0 HG0 hl0 hb
       refine wpAnyH_ready (rs := [1, 3]) (by kernel_rfl) (by simp) ?_
       refine AllReadyH.cons rfl (fun K hK => ?_) (AllReadyH.cons rfl (fun K hK => ?_) AllReadyH.nil)
       ·rw [if_pos (by kernel_rfl)]
        go_wp2_with fail
        refine hK.out _ _ trivial (fun _ => ?_)
        clear hK K
        have A : Below w21.heap.size w21 (w21.alloc (.cells #[.int .i64 1, .int .i64 0, .string ⟨#[]⟩, .slice none 0 0] 26)) := (Below.refl _ _).alloc (Nat.le_refl _) _
        have HX2 := Hid.mk (HX1.out.grow A)
        have HB2 := Hid.mk (HB1.out.grow A)
        have HY2 := Hid.mk (HY1.out.grow A)
        have HC2 := Hid.mk (HC1.out.grow A)
        have HG2 := Hid.mk (gy_below HG1.out A)
        have hl2 : eb < (w21.alloc (.cells #[.int .i64 1, .int .i64 0, .string ⟨#[]⟩, .slice none 0 0] 26)).heap.size := by have := A.size; omega
        have HN2 := Hid.mk (heap_alloc_new w21 (.cells #[.int .i64 1, .int .i64 0, .string ⟨#[]⟩, .slice none 0 0] 26))
        have hn2 : w21.heap.size < (w21.alloc (.cells #[.int .i64 1, .int .i64 0, .string ⟨#[]⟩, .slice none 0 0] 26)).heap.size := (Array.getElem?_eq_some_iff.1 (heap_alloc_new w21 (.cells #[.int .i64 1, .int .i64 0, .string ⟨#[]⟩, .slice none 0 0] 26))).1
        have hng : eb < w21.heap.size := hl1
        clear HX1 HB1 HY1 HC1 HG1 hl1 A
        generalize w21.heap.size = lx at *
        generalize w21.alloc (.cells #[.int .i64 1, .int .i64 0, .string ⟨#[]⟩, .slice none 0 0] 26) = w22 at *
        refine wpAnyH_ready (rs := [3]) (by kernel_rfl) (by simp) ?_
        refine AllReadyH.cons rfl (fun K hK => ?_) AllReadyH.nil
        rw [if_pos (by kernel_rfl)]
        go_wp2_with fail
        refine hK.out _ _ trivial (fun _ => ?_)
        clear hK K
        have A : Below w22.heap.size w22 (w22.alloc (.cells #[.int .i64 qt.k, .string qt.s, .string qt.t, .slice xo xn xc, .slice ao an ac, .slice bo bn bc] 31)) := (Below.refl _ _).alloc (Nat.le_refl _) _
        have HX3 := Hid.mk (HX2.out.grow A)
        have HB3 := Hid.mk (HB2.out.grow A)
        have HY3 := Hid.mk (HY2.out.grow A)
        have HC3 := Hid.mk (HC2.out.grow A)
        have HG3 := Hid.mk (gy_below HG2.out A)
        have hl3 : eb < (w22.alloc (.cells #[.int .i64 qt.k, .string qt.s, .string qt.t, .slice xo xn xc, .slice ao an ac, .slice bo bn bc] 31)).heap.size := by have := A.size; omega
        have HM3 := Hid.mk (heap_alloc_new w22 (.cells #[.int .i64 qt.k, .string qt.s, .string qt.t, .slice xo xn xc, .slice ao an ac, .slice bo bn bc] 31))
        have hm3 : w22.heap.size < (w22.alloc (.cells #[.int .i64 qt.k, .string qt.s, .string qt.t, .slice xo xn xc, .slice ao an ac, .slice bo bn bc] 31)).heap.size := (Array.getElem?_eq_some_iff.1 (heap_alloc_new w22 (.cells #[.int .i64 qt.k, .string qt.s, .string qt.t, .slice xo xn xc, .slice ao an ac, .slice bo bn bc] 31))).1
        have hmg : eb < w22.heap.size := hl2
        have HN3 := Hid.mk ((A.block lx hn2).trans HN2.out)
        have hn3 : lx < (w22.alloc (.cells #[.int .i64 qt.k, .string qt.s, .string qt.t, .slice xo xn xc, .slice ao an ac, .slice bo bn bc] 31)).heap.size := by have := A.size; omega
        clear HX2 HB2 HY2 HC2 HG2 hl2 HN2 hn2 A
        generalize w22.heap.size = ly at *
        generalize w22.alloc (.cells #[.int .i64 qt.k, .string qt.s, .string qt.t, .slice xo xn xc, .slice ao an ac, .slice bo bn bc] 31) = w23 at *
        refine takeHD (i := 4) (v := .agg #[.int .i64 6, .string ⟨#[]⟩, .string ⟨#[]⟩, .slice (some ⟨lx, 0, none⟩) 1 1, .slice (some ⟨ly, 0, none⟩) 1 1, .slice none 0 0]) (some 58) rfl rfl (by kernel_rfl) (by kernel_rfl) (by kernel_rfl) (fun _ _ _ h => h) (Or.inl ⟨by kernel_rfl, fun w' hw => ?_⟩) trivial ?_
        ·first | kernel_rfl | go_simp
        simp only [Act.put, List.setIfInBounds_toArray]
        refine wpAnyH_ready (rs := [5]) (by kernel_rfl) (by simp) ?_
        refine AllReadyH.cons rfl (fun K hK => ?_) AllReadyH.nil
        have x0 := HX3.out.c0
        have x1 := HX3.out.c1
        have x2 := HX3.out.c2
        have x3 := HX3.out.c3
        have x4 := HX3.out.c4
        have x5 := HX3.out.c5
        have xf := HX3.out.fr
        rw [if_pos (by kernel_rfl)]
        go_wp2_with fail
        refine hK.out _ _ trivial (fun _ => ?_)
        clear hK K
        clear x0 x1 x2 x3 x4 x5 xf
        have G7 := box6_by w23 eb (.int .i64 6) (.string ⟨#[]⟩) (.string ⟨#[]⟩) (.slice (some ⟨lx, 0, none⟩) 1 1) (.slice (some ⟨ly, 0, none⟩) 1 1) (.slice none 0 0)
        have HB7 := Hid.mk (HB3.out.row G7 (fun g e => by cases e; exact fun e => hbe e.symm))
        have HX7 := Hid.mk (HX3.out.six (.int .i64 6) (.string ⟨#[]⟩) (.string ⟨#[]⟩) (.slice (some ⟨lx, 0, none⟩) 1 1) (.slice (some ⟨ly, 0, none⟩) 1 1) (.slice none 0 0))
        have hY7 := HY3.out.by G7 (.inr rfl)
        have HC7 := Hid.mk (HC3.out.row G7 (fun g e => by cases e; exact ⟨hebc, fun hz k hk => by have := HV.out hz k hk; omega⟩))
        have HG7 := Hid.mk (gy_far HG3.out G7 (by omega))
        have e1 := (G7.block lx hn3 (by simp; omega)).trans HN3.out
        have e2 := (G7.block ly hm3 (by simp; omega)).trans HM3.out
        have HY7 : Hid (YRd (box6 w23 eb (.int .i64 6) (.string ⟨#[]⟩) (.string ⟨#[]⟩) (.slice (some ⟨lx, 0, none⟩) 1 1) (.slice (some ⟨ly, 0, none⟩) 1 1) (.slice none 0 0)) (w.heap.size + 1) (some eb) ⟨.node 6 ⟨#[]⟩ ⟨#[]⟩ [.node 1 0 ⟨#[]⟩ []] [qt] [], (.slice (some ⟨lx, 0, none⟩) 1 1), (.slice (some ⟨ly, 0, none⟩) 1 1), .slice none 0 0⟩) := ⟨El.aloneD (a := .node 1 0 ⟨#[]⟩ []) e1 ⟨⟨by omega, fun o => frozen_of_row _ lx o _ _ e1⟩, by simp; omega⟩ (by decide) (El.zero _ _), Sl.aloneD (a := qt) e2 ⟨⟨by omega, fun o => frozen_of_row _ ly o _ _ e2⟩, by simp; omega⟩ HDQ.out.1.sizes.1 HDQ.out.1.sizes.2 hY7.1 hY7.2.1 hY7.2.2, Sl.zero _ _⟩
        have HD7 := Hid.mk (HDQ.out.wrap.mono (c' := 7040000 + 210 * (7 - (j - 1))) (by omega))
        clear HB3 HX3 HY3 HC3 HG3 G7 HN3 HM3 e1 e2 hY7 HDQ
        refine wpAnyH_done (by kernel_rfl) ?_ _
        go_wp2
        go_roundw
        case rel => exact ⟨j - 1, ⟨.node 6 ⟨#[]⟩ ⟨#[]⟩ [.node 1 0 ⟨#[]⟩ []] [qt] [], (.slice (some ⟨lx, 0, none⟩) 1 1), (.slice (some ⟨ly, 0, none⟩) 1 1), .slice none 0 0⟩, by first | rfl | (simp; omega), by omega, HD7, HY7, HX7, HB7, HC7, HG7⟩
        case measure => simp [intOf]; omega
       ·rw [if_pos (by kernel_rfl)]
        go_wp2_with fail
        refine hK.out _ _ trivial (fun _ => ?_)
        clear hK K
        have A : Below w21.heap.size w21 (w21.alloc (.cells #[.int .i64 qt.k, .string qt.s, .string qt.t, .slice xo xn xc, .slice ao an ac, .slice bo bn bc] 31)) := (Below.refl _ _).alloc (Nat.le_refl _) _
        have HX2 := Hid.mk (HX1.out.grow A)
        have HB2 := Hid.mk (HB1.out.grow A)
        have HY2 := Hid.mk (HY1.out.grow A)
        have HC2 := Hid.mk (HC1.out.grow A)
        have HG2 := Hid.mk (gy_below HG1.out A)
        have hl2 : eb < (w21.alloc (.cells #[.int .i64 qt.k, .string qt.s, .string qt.t, .slice xo xn xc, .slice ao an ac, .slice bo bn bc] 31)).heap.size := by have := A.size; omega
        have HM2 := Hid.mk (heap_alloc_new w21 (.cells #[.int .i64 qt.k, .string qt.s, .string qt.t, .slice xo xn xc, .slice ao an ac, .slice bo bn bc] 31))
        have hm2 : w21.heap.size < (w21.alloc (.cells #[.int .i64 qt.k, .string qt.s, .string qt.t, .slice xo xn xc, .slice ao an ac, .slice bo bn bc] 31)).heap.size := (Array.getElem?_eq_some_iff.1 (heap_alloc_new w21 (.cells #[.int .i64 qt.k, .string qt.s, .string qt.t, .slice xo xn xc, .slice ao an ac, .slice bo bn bc] 31))).1
        have hmg : eb < w21.heap.size := hl1
        clear HX1 HB1 HY1 HC1 HG1 hl1 A
        generalize w21.heap.size = ly at *
        generalize w21.alloc (.cells #[.int .i64 qt.k, .string qt.s, .string qt.t, .slice xo xn xc, .slice ao an ac, .slice bo bn bc] 31) = w22 at *
        refine wpAnyH_ready (rs := [1]) (by kernel_rfl) (by simp) ?_
        refine AllReadyH.cons rfl (fun K hK => ?_) AllReadyH.nil
        rw [if_pos (by kernel_rfl)]
        go_wp2_with fail
        refine hK.out _ _ trivial (fun _ => ?_)
        clear hK K
        have A : Below w22.heap.size w22 (w22.alloc (.cells #[.int .i64 1, .int .i64 0, .string ⟨#[]⟩, .slice none 0 0] 26)) := (Below.refl _ _).alloc (Nat.le_refl _) _
        have HX3 := Hid.mk (HX2.out.grow A)
        have HB3 := Hid.mk (HB2.out.grow A)
        have HY3 := Hid.mk (HY2.out.grow A)
        have HC3 := Hid.mk (HC2.out.grow A)
        have HG3 := Hid.mk (gy_below HG2.out A)
        have hl3 : eb < (w22.alloc (.cells #[.int .i64 1, .int .i64 0, .string ⟨#[]⟩, .slice none 0 0] 26)).heap.size := by have := A.size; omega
        have HN3 := Hid.mk (heap_alloc_new w22 (.cells #[.int .i64 1, .int .i64 0, .string ⟨#[]⟩, .slice none 0 0] 26))
        have hn3 : w22.heap.size < (w22.alloc (.cells #[.int .i64 1, .int .i64 0, .string ⟨#[]⟩, .slice none 0 0] 26)).heap.size := (Array.getElem?_eq_some_iff.1 (heap_alloc_new w22 (.cells #[.int .i64 1, .int .i64 0, .string ⟨#[]⟩, .slice none 0 0] 26))).1
        have hng : eb < w22.heap.size := hl2
        have HM3 := Hid.mk ((A.block ly hm2).trans HM2.out)
        have hm3 : ly < (w22.alloc (.cells #[.int .i64 1, .int .i64 0, .string ⟨#[]⟩, .slice none 0 0] 26)).heap.size := by have := A.size; omega
        clear HX2 HB2 HY2 HC2 HG2 hl2 HM2 hm2 A
        generalize w22.heap.size = lx at *
        generalize w22.alloc (.cells #[.int .i64 1, .int .i64 0, .string ⟨#[]⟩, .slice none 0 0] 26) = w23 at *
        refine takeHD (i := 4) (v := .agg #[.int .i64 6, .string ⟨#[]⟩, .string ⟨#[]⟩, .slice (some ⟨lx, 0, none⟩) 1 1, .slice (some ⟨ly, 0, none⟩) 1 1, .slice none 0 0]) (some 58) rfl rfl (by kernel_rfl) (by kernel_rfl) (by kernel_rfl) (fun _ _ _ h => h) (Or.inl ⟨by kernel_rfl, fun w' hw => ?_⟩) trivial ?_
        ·first | kernel_rfl | go_simp
        simp only [Act.put, List.setIfInBounds_toArray]
        refine wpAnyH_ready (rs := [5]) (by kernel_rfl) (by simp) ?_
        refine AllReadyH.cons rfl (fun K hK => ?_) AllReadyH.nil
        have x0 := HX3.out.c0
        have x1 := HX3.out.c1
        have x2 := HX3.out.c2
        have x3 := HX3.out.c3
        have x4 := HX3.out.c4
        have x5 := HX3.out.c5
        have xf := HX3.out.fr
        rw [if_pos (by kernel_rfl)]
        go_wp2_with fail
        refine hK.out _ _ trivial (fun _ => ?_)
        clear hK K
        clear x0 x1 x2 x3 x4 x5 xf
        have G7 := box6_by w23 eb (.int .i64 6) (.string ⟨#[]⟩) (.string ⟨#[]⟩) (.slice (some ⟨lx, 0, none⟩) 1 1) (.slice (some ⟨ly, 0, none⟩) 1 1) (.slice none 0 0)
        have HB7 := Hid.mk (HB3.out.row G7 (fun g e => by cases e; exact fun e => hbe e.symm))
        have HX7 := Hid.mk (HX3.out.six (.int .i64 6) (.string ⟨#[]⟩) (.string ⟨#[]⟩) (.slice (some ⟨lx, 0, none⟩) 1 1) (.slice (some ⟨ly, 0, none⟩) 1 1) (.slice none 0 0))
        have hY7 := HY3.out.by G7 (.inr rfl)
        have HC7 := Hid.mk (HC3.out.row G7 (fun g e => by cases e; exact ⟨hebc, fun hz k hk => by have := HV.out hz k hk; omega⟩))
        have HG7 := Hid.mk (gy_far HG3.out G7 (by omega))
        have e1 := (G7.block lx hn3 (by simp; omega)).trans HN3.out
        have e2 := (G7.block ly hm3 (by simp; omega)).trans HM3.out
        have HY7 : Hid (YRd (box6 w23 eb (.int .i64 6) (.string ⟨#[]⟩) (.string ⟨#[]⟩) (.slice (some ⟨lx, 0, none⟩) 1 1) (.slice (some ⟨ly, 0, none⟩) 1 1) (.slice none 0 0)) (w.heap.size + 1) (some eb) ⟨.node 6 ⟨#[]⟩ ⟨#[]⟩ [.node 1 0 ⟨#[]⟩ []] [qt] [], (.slice (some ⟨lx, 0, none⟩) 1 1), (.slice (some ⟨ly, 0, none⟩) 1 1), .slice none 0 0⟩) := ⟨El.aloneD (a := .node 1 0 ⟨#[]⟩ []) e1 ⟨⟨by omega, fun o => frozen_of_row _ lx o _ _ e1⟩, by simp; omega⟩ (by decide) (El.zero _ _), Sl.aloneD (a := qt) e2 ⟨⟨by omega, fun o => frozen_of_row _ ly o _ _ e2⟩, by simp; omega⟩ HDQ.out.1.sizes.1 HDQ.out.1.sizes.2 hY7.1 hY7.2.1 hY7.2.2, Sl.zero _ _⟩
        have HD7 := Hid.mk (HDQ.out.wrap.mono (c' := 7040000 + 210 * (7 - (j - 1))) (by omega))
        clear HB3 HX3 HY3 HC3 HG3 G7 HN3 HM3 e1 e2 hY7 HDQ
        refine wpAnyH_done (by kernel_rfl) ?_ _
        go_wp2
        go_roundw
        case rel => exact ⟨j - 1, ⟨.node 6 ⟨#[]⟩ ⟨#[]⟩ [.node 1 0 ⟨#[]⟩ []] [qt] [], (.slice (some ⟨lx, 0, none⟩) 1 1), (.slice (some ⟨ly, 0, none⟩) 1 1), .slice none 0 0⟩, by first | rfl | (simp; omega), by omega, HD7, HY7, HX7, HB7, HC7, HG7⟩
        case measure => simp [intOf]; omega
      ·rw [if_pos (by kernel_rfl)]
       go_wp2_with fail
       refine hK.out _ _ trivial (fun _ => ?_)
       clear hK K
       have A : Below w20.heap.size w20 (w20.alloc (.cells #[.int .i64 qt.k, .string qt.s, .string qt.t, .slice xo xn xc, .slice ao an ac, .slice bo bn bc] 31)) := (Below.refl _ _).alloc (Nat.le_refl _) _
       have HX1 := Hid.mk (HX0.out.grow A)
       have HB1 := Hid.mk (HB0.out.grow A)
       have HY1 := Hid.mk (HY0.out.grow A)
       have HC1 := Hid.mk (HC0.out.grow A)
       have HG1 := Hid.mk (gy_below HG0.out A)
       have hl1 : eb < (w20.alloc (.cells #[.int .i64 qt.k, .string qt.s, .string qt.t, .slice xo xn xc, .slice ao an ac, .slice bo bn bc] 31)).heap.size := by have := A.size; omega
       have HM1 := Hid.mk (heap_alloc_new w20 (.cells #[.int .i64 qt.k, .string qt.s, .string qt.t, .slice xo xn xc, .slice ao an ac, .slice bo bn bc] 31))
       have hm1 : w20.heap.size < (w20.alloc (.cells #[.int .i64 qt.k, .string qt.s, .string qt.t, .slice xo xn xc, .slice ao an ac, .slice bo bn bc] 31)).heap.size := (Array.getElem?_eq_some_iff.1 (heap_alloc_new w20 (.cells #[.int .i64 qt.k, .string qt.s, .string qt.t, .slice xo xn xc, .slice ao an ac, .slice bo bn bc] 31))).1
       have hmg : eb < w20.heap.size := hl0
       clear HX0 HB0 HY0 HC0 HG0 hl0 A
       generalize w20.heap.size = ly at *
       generalize w20.alloc (.cells #[.int .i64 qt.k, .string qt.s, .string qt.t, .slice xo xn xc, .slice ao an ac, .slice bo bn bc] 31) = w21 at *
       refine wpAnyH_ready (rs := [0]) (by kernel_rfl) (by simp) ?_
       refine AllReadyH.cons rfl (fun K hK => ?_) AllReadyH.nil
       rw [if_pos (by kernel_rfl)]
       go_wp2_with fail
       refine (l8Int_any 0 _).mono ?_
       rintro e w22 ⟨rfl, hb⟩
       have HX2 := Hid.mk (HX1.out.grow hb)
       have HB2 := Hid.mk (HB1.out.grow hb)
       have HY2 := Hid.mk (HY1.out.grow hb)
       have HC2 := Hid.mk (HC1.out.grow hb)
       have HG2 := Hid.mk (gy_below HG1.out hb)
       have hl2 : eb < w22.heap.size := by have := hb.size; omega
       have HM2 := Hid.mk ((hb.block ly hm1).trans HM1.out)
       have hm2 : ly < w22.heap.size := by have := hb.size; omega
       refine hK.out _ _ trivial (fun _ => ?_)
       clear hK K
       clear HX1 HB1 HY1 HC1 HG1 hl1 HM1 hm1 hb
       refine wpAnyH_ready (rs := [1]) (by kernel_rfl) (by simp) ?_
       refine AllReadyH.cons rfl (fun K hK => ?_) AllReadyH.nil
       rw [if_pos (by kernel_rfl)]
       go_wp2_with fail
       refine hK.out _ _ trivial (fun _ => ?_)
       clear hK K
       have A : Below w22.heap.size w22 (w22.alloc (.cells #[.int .i64 1, .int .i64 0, .string ⟨#[]⟩, .slice none 0 0] 26)) := (Below.refl _ _).alloc (Nat.le_refl _) _
       have HX3 := Hid.mk (HX2.out.grow A)
       have HB3 := Hid.mk (HB2.out.grow A)
       have HY3 := Hid.mk (HY2.out.grow A)
       have HC3 := Hid.mk (HC2.out.grow A)
       have HG3 := Hid.mk (gy_below HG2.out A)
       have hl3 : eb < (w22.alloc (.cells #[.int .i64 1, .int .i64 0, .string ⟨#[]⟩, .slice none 0 0] 26)).heap.size := by have := A.size; omega
       have HN3 := Hid.mk (heap_alloc_new w22 (.cells #[.int .i64 1, .int .i64 0, .string ⟨#[]⟩, .slice none 0 0] 26))
       have hn3 : w22.heap.size < (w22.alloc (.cells #[.int .i64 1, .int .i64 0, .string ⟨#[]⟩, .slice none 0 0] 26)).heap.size := (Array.getElem?_eq_some_iff.1 (heap_alloc_new w22 (.cells #[.int .i64 1, .int .i64 0, .string ⟨#[]⟩, .slice none 0 0] 26))).1
       have hng : eb < w22.heap.size := hl2
       have HM3 := Hid.mk ((A.block ly hm2).trans HM2.out)
       have hm3 : ly < (w22.alloc (.cells #[.int .i64 1, .int .i64 0, .string ⟨#[]⟩, .slice none 0 0] 26)).heap.size := by have := A.size; omega
       clear HX2 HB2 HY2 HC2 HG2 hl2 HM2 hm2 A
       generalize w22.heap.size = lx at *
       generalize w22.alloc (.cells #[.int .i64 1, .int .i64 0, .string ⟨#[]⟩, .slice none 0 0] 26) = w23 at *
       refine takeHD (i := 4) (v := .agg #[.int .i64 6, .string ⟨#[]⟩, .string ⟨#[]⟩, .slice (some ⟨lx, 0, none⟩) 1 1, .slice (some ⟨ly, 0, none⟩) 1 1, .slice none 0 0]) (some 58) rfl rfl (by kernel_rfl) (by kernel_rfl) (by kernel_rfl) (fun _ _ _ h => h) (Or.inl ⟨by kernel_rfl, fun w' hw => ?_⟩) trivial ?_
       ·first | kernel_rfl | go_simp
       simp only [Act.put, List.setIfInBounds_toArray]
       refine wpAnyH_ready (rs := [5]) (by kernel_rfl) (by simp) ?_
       refine AllReadyH.cons rfl (fun K hK => ?_) AllReadyH.nil
       have x0 := HX3.out.c0
       have x1 := HX3.out.c1
       have x2 := HX3.out.c2
       have x3 := HX3.out.c3
       have x4 := HX3.out.c4
       have x5 := HX3.out.c5
       have xf := HX3.out.fr
       rw [if_pos (by kernel_rfl)]
       go_wp2_with fail
       refine hK.out _ _ trivial (fun _ => ?_)
       clear hK K
       clear x0 x1 x2 x3 x4 x5 xf
       have G7 := box6_by w23 eb (.int .i64 6) (.string ⟨#[]⟩) (.string ⟨#[]⟩) (.slice (some ⟨lx, 0, none⟩) 1 1) (.slice (some ⟨ly, 0, none⟩) 1 1) (.slice none 0 0)
       have HB7 := Hid.mk (HB3.out.row G7 (fun g e => by cases e; exact fun e => hbe e.symm))
       have HX7 := Hid.mk (HX3.out.six (.int .i64 6) (.string ⟨#[]⟩) (.string ⟨#[]⟩) (.slice (some ⟨lx, 0, none⟩) 1 1) (.slice (some ⟨ly, 0, none⟩) 1 1) (.slice none 0 0))
       have hY7 := HY3.out.by G7 (.inr rfl)
       have HC7 := Hid.mk (HC3.out.row G7 (fun g e => by cases e; exact ⟨hebc, fun hz k hk => by have := HV.out hz k hk; omega⟩))
       have HG7 := Hid.mk (gy_far HG3.out G7 (by omega))
       have e1 := (G7.block lx hn3 (by simp; omega)).trans HN3.out
       have e2 := (G7.block ly hm3 (by simp; omega)).trans HM3.out
       have HY7 : Hid (YRd (box6 w23 eb (.int .i64 6) (.string ⟨#[]⟩) (.string ⟨#[]⟩) (.slice (some ⟨lx, 0, none⟩) 1 1) (.slice (some ⟨ly, 0, none⟩) 1 1) (.slice none 0 0)) (w.heap.size + 1) (some eb) ⟨.node 6 ⟨#[]⟩ ⟨#[]⟩ [.node 1 0 ⟨#[]⟩ []] [qt] [], (.slice (some ⟨lx, 0, none⟩) 1 1), (.slice (some ⟨ly, 0, none⟩) 1 1), .slice none 0 0⟩) := ⟨El.aloneD (a := .node 1 0 ⟨#[]⟩ []) e1 ⟨⟨by omega, fun o => frozen_of_row _ lx o _ _ e1⟩, by simp; omega⟩ (by decide) (El.zero _ _), Sl.aloneD (a := qt) e2 ⟨⟨by omega, fun o => frozen_of_row _ ly o _ _ e2⟩, by simp; omega⟩ HDQ.out.1.sizes.1 HDQ.out.1.sizes.2 hY7.1 hY7.2.1 hY7.2.2, Sl.zero _ _⟩
       have HD7 := Hid.mk (HDQ.out.wrap.mono (c' := 7040000 + 210 * (7 - (j - 1))) (by omega))
       clear HB3 HX3 HY3 HC3 HG3 G7 HN3 HM3 e1 e2 hY7 HDQ
       refine wpAnyH_done (by kernel_rfl) ?_ _
       go_wp2
       go_roundw
       case rel => exact ⟨j - 1, ⟨.node 6 ⟨#[]⟩ ⟨#[]⟩ [.node 1 0 ⟨#[]⟩ []] [qt] [], (.slice (some ⟨lx, 0, none⟩) 1 1), (.slice (some ⟨ly, 0, none⟩) 1 1), .slice none 0 0⟩, by first | rfl | (simp; omega), by omega, HD7, HY7, HX7, HB7, HC7, HG7⟩
       case measure => simp [intOf]; omega
    ·obtain rfl : j = 0 := by omega
     have hi1 : ¬ ((0 : Int) < ((0 : Nat) : Int)) := by omega
     go_wp2
     go_meet
     case rel => exact ⟨⟨qt, .slice xo xn xc, .slice ao an ac, .slice bo bn bc⟩, HDQ.out.mono (by omega), HY, HX, HB, HC, HG⟩
  have e0b : (X == 0) = false := beq_eq_false_iff_ne.2 e0
  have e1b : (X == 1) = false := beq_eq_false_iff_ne.2 e1
  have e2b : (X == 2) = false := beq_eq_false_iff_ne.2 e2
  have e3b : (X == 3) = false := beq_eq_false_iff_ne.2 e3
  have e4b : (X == 4) = false := beq_eq_false_iff_ne.2 e4
  have e5b : (X == 5) = false := beq_eq_false_iff_ne.2 e5
  have HR5 := Hid.mk (HY5.out.rd hn3)
  go_wp2
  go_meet
  case rel => exact ⟨⟨qt, .slice xo xn xc, .slice ao an ac, .slice bo bn bc⟩, HDN.out.mono (by omega), HR5, HX5, HB5, HC5, HG5⟩
 case rest =>
  clear HDN HY5 HX5 HB5 HC5 HG5 hl5 hn3 hn0 hn12 hn23
  obtain ⟨⟨qt, qx, qa, qb⟩, HDN, HY, HX, HB, HC, HG⟩ := hcut
  obtain ⟨xo, xn, xc, rfl⟩ : ∃ o n c, qx = .slice o n c := by obtain ⟨o, c, h, -⟩ := HY.out.1.len; exact ⟨_, _, _, h⟩
  obtain ⟨ao, an, ac, rfl⟩ : ∃ o n c, qa = .slice o n c := by obtain ⟨o, c, h, -⟩ := HY.out.2.1.len; exact ⟨_, _, _, h⟩
  obtain ⟨bo, bn, bc, rfl⟩ : ∃ o n c, qb = .slice o n c := by obtain ⟨o, c, h, -⟩ := HY.out.2.2.len; exact ⟨_, _, _, h⟩
  simp only at HDN HX
  have HF := Hid.mk (HFIN.out wc eb ⟨qt, (.slice xo xn xc), (.slice ao an ac), (.slice bo bn bc)⟩ HDN.out HY.out HC.out HG.out)
  have z0 := HB.out.c0
  have z1 := HB.out.c1
  have z2 := HB.out.c2
  have z3 := HB.out.c3
  have z4 := HB.out.c4
  have z5 := HB.out.c5
  have zf := HB.out.fr
  have x0 := HX.out.c0
  have x1 := HX.out.c1
  have x2 := HX.out.c2
  have x3 := HX.out.c3
  have x4 := HX.out.c4
  have x5 := HX.out.c5
  clear HFIN
  go_wp2
  have f0 : ((((((wc.setCell ⟨w.heap.size, 0, none⟩ (.int .i64 qt.k)).setCell ⟨w.heap.size, 1, none⟩ (.string qt.s)).setCell ⟨w.heap.size, 2, none⟩ (.string qt.t)).setCell ⟨w.heap.size, 3, none⟩ (.slice xo xn xc)).setCell ⟨w.heap.size, 4, none⟩ (.slice ao an ac)).setCell ⟨w.heap.size, 5, none⟩ (.slice bo bn bc)).cell? ⟨w.heap.size, 0, none⟩ = some (.int .i64 qt.k) := by go_simp
  have f1 : ((((((wc.setCell ⟨w.heap.size, 0, none⟩ (.int .i64 qt.k)).setCell ⟨w.heap.size, 1, none⟩ (.string qt.s)).setCell ⟨w.heap.size, 2, none⟩ (.string qt.t)).setCell ⟨w.heap.size, 3, none⟩ (.slice xo xn xc)).setCell ⟨w.heap.size, 4, none⟩ (.slice ao an ac)).setCell ⟨w.heap.size, 5, none⟩ (.slice bo bn bc)).cell? ⟨w.heap.size, 1, none⟩ = some (.string qt.s) := by go_simp
  have f2 : ((((((wc.setCell ⟨w.heap.size, 0, none⟩ (.int .i64 qt.k)).setCell ⟨w.heap.size, 1, none⟩ (.string qt.s)).setCell ⟨w.heap.size, 2, none⟩ (.string qt.t)).setCell ⟨w.heap.size, 3, none⟩ (.slice xo xn xc)).setCell ⟨w.heap.size, 4, none⟩ (.slice ao an ac)).setCell ⟨w.heap.size, 5, none⟩ (.slice bo bn bc)).cell? ⟨w.heap.size, 2, none⟩ = some (.string qt.t) := by go_simp
  have f3 : ((((((wc.setCell ⟨w.heap.size, 0, none⟩ (.int .i64 qt.k)).setCell ⟨w.heap.size, 1, none⟩ (.string qt.s)).setCell ⟨w.heap.size, 2, none⟩ (.string qt.t)).setCell ⟨w.heap.size, 3, none⟩ (.slice xo xn xc)).setCell ⟨w.heap.size, 4, none⟩ (.slice ao an ac)).setCell ⟨w.heap.size, 5, none⟩ (.slice bo bn bc)).cell? ⟨w.heap.size, 3, none⟩ = some (.slice xo xn xc) := by go_simp
  have f4 : ((((((wc.setCell ⟨w.heap.size, 0, none⟩ (.int .i64 qt.k)).setCell ⟨w.heap.size, 1, none⟩ (.string qt.s)).setCell ⟨w.heap.size, 2, none⟩ (.string qt.t)).setCell ⟨w.heap.size, 3, none⟩ (.slice xo xn xc)).setCell ⟨w.heap.size, 4, none⟩ (.slice ao an ac)).setCell ⟨w.heap.size, 5, none⟩ (.slice bo bn bc)).cell? ⟨w.heap.size, 4, none⟩ = some (.slice ao an ac) := by go_simp
  have f5 : ((((((wc.setCell ⟨w.heap.size, 0, none⟩ (.int .i64 qt.k)).setCell ⟨w.heap.size, 1, none⟩ (.string qt.s)).setCell ⟨w.heap.size, 2, none⟩ (.string qt.t)).setCell ⟨w.heap.size, 3, none⟩ (.slice xo xn xc)).setCell ⟨w.heap.size, 4, none⟩ (.slice ao an ac)).setCell ⟨w.heap.size, 5, none⟩ (.slice bo bn bc)).cell? ⟨w.heap.size, 5, none⟩ = some (.slice bo bn bc) := by go_simp
  obtain ⟨h1, h2, h3, h4⟩ := HF.out
  refine bodyPost_ret (v := .agg #[(.int .i64 qt.k), (.string qt.s), (.string qt.t), (.slice xo xn xc), (.slice ao an ac), (.slice bo bn bc)]) ?_ rfl ⟨⟨qt, (.slice xo xn xc), (.slice ao an ac), (.slice bo bn bc)⟩, rfl, h1, h2, h3, h4⟩
  generalize ((((((wc.setCell ⟨w.heap.size, 0, none⟩ (.int .i64 qt.k)).setCell ⟨w.heap.size, 1, none⟩ (.string qt.s)).setCell ⟨w.heap.size, 2, none⟩ (.string qt.t)).setCell ⟨w.heap.size, 3, none⟩ (.slice xo xn xc)).setCell ⟨w.heap.size, 4, none⟩ (.slice ao an ac)).setCell ⟨w.heap.size, 5, none⟩ (.slice bo bn bc)) = W at f0 f1 f2 f3 f4 f5
  simp [results, Try.results17, go_sem, f0, f1, f2, f3, f4, f5]
end Go.Proofs.Ytijpmnenegdmnaa
