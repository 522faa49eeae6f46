/- A drawn program: l10Draw. -/
import Derived.Test.YtijpmnenegdmnaaQPgBoxD
import Derived.Test.YtijpmnenegdmnaaQStAnyD
namespace Go.Proofs.Ytijpmnenegdmnaa
open Go.RowKit
set_option maxRecDepth 8000
set_option linter.unusedSimpArgs false

theorem drL1 (cb : Nat) (v : Value) (zs : List Int) (w : World) (fn : Bool) (h : Cur w cb v zs) :
  Calls Try.prog 35 #[.pointer (some ⟨cb, 0, none⟩), .int .i64 1, .bool fn] w fun e w' => ∃ (l : List St) (u : Value), e = .returned u ∧ YB 1 w' w.heap.size w'.heap.size l u ∧ l.length ≤ 3 ∧ Cur w' cb v zs ∧ w.grownBy w' (some cb) := drL_any 1 (by omega) cb v zs w fn h
theorem drL2 (cb : Nat) (v : Value) (zs : List Int) (w : World) (fn : Bool) (h : Cur w cb v zs) :
  Calls Try.prog 35 #[.pointer (some ⟨cb, 0, none⟩), .int .i64 2, .bool fn] w fun e w' => ∃ (l : List St) (u : Value), e = .returned u ∧ YB 2 w' w.heap.size w'.heap.size l u ∧ l.length ≤ 3 ∧ Cur w' cb v zs ∧ w.grownBy w' (some cb) := drL_any 2 (by omega) cb v zs w fn h
/-- A drawn program. -/
def PgD (w : World) (base : Nat) (V fv : Value) : Prop := ∃ (U : List Uv) (F : List Fv) (n0 n1 : Nat), base ≤ n0 ∧ n0 ≤ n1 ∧ FnI w base n0 fv F ∧ PgI w n1 V U ∧ U ≠ [] ∧ U.length ≤ 3 ∧ F.length = 2
theorem PgD.by {w w' : World} {base R : Nat} {V fv : Value} (h : PgD w base V fv) (hg : w.grownBy w' (some R)) (hR : R < base) : PgD w' base V fv := by
 obtain ⟨U, F, n0, n1, h0, h1, h2, h3, h4⟩ := h
 exact ⟨U, F, n0, n1, h0, h1, h2.keep hg (fun g e => by cases e; exact .inl hR), h3.by hg (by omega), h4⟩
def DrP : Prop := ∀ (cb : Nat) (v : Value) (zs : List Int) (w : World), Cur w cb v zs →
 Calls Try.prog 19 #[.pointer (some ⟨cb, 0, none⟩)] w fun e w' => ∃ V fv, e = .returned (pgV V fv) ∧ PgD w' (w.heap.size + 1) V fv ∧ Cur w' cb v zs ∧ w.grownBy w' (some cb)

theorem New0.grow {w w' : World} {n : Nat} {u : Uv} (h : New0 w n u) (hb : Below w.heap.size w w') : New0 w' n u := Rd0.ddk (row := none) ⟨hb.os, hb.tape, hb.output, hb.size, fun k h1 _ => hb.block k h1⟩ (fun g e => by cases e) (fun _ _ h => h) h
set_option maxHeartbeats 8000000 in
theorem l10Draw_any : DrP := by
 intro cb v zs w h
 have hlt := h.lt
 have HNE : Hid (w.heap.size ≠ cb) := by show _ ≠ _; omega
 have HV : Hid (zs ≠ [] → ∀ k, v.ownBlock = some k → k < w.heap.size) := fun hz k hk => h.1.lt hz k hk
 have HC0 := Hid.mk (h.grow ((Below.refl _ _).alloc (Nat.le_refl _) (.cells #[.slice none 0 0, .slice none 0 0] 37)))
 have HB0 := Hid.mk (BzP.new w (.slice none 0 0) (.slice none 0 0))
 have HG0 := Hid.mk (gy_alloc w cb (.cells #[.slice none 0 0, .slice none 0 0] 37))
 have HFIN : Hid (∀ (W : World) (V fv : Value), PgD W (w.heap.size + 1) V fv → Cur W cb v zs → w.grownBy W (some cb) → PgD (box2 W w.heap.size V fv) (w.heap.size + 1) V fv ∧ Cur (box2 W w.heap.size V fv) cb v zs ∧ w.grownBy (box2 W w.heap.size V fv) (some cb)) := by
  intro W V fv h2 h3 h4
  exact ⟨h2.by (box2_by _ _ _ _) (by omega), h3.row (box2_by _ _ _ _) (fun g e => by cases e; exact ⟨HNE.out, fun hz k hk => by have := HV.out hz k hk; omega⟩), gy_far h4 (box2_by _ _ _ _) (Nat.le_refl _)⟩
 clear h
 go_enter Try.func19, Try.ntmps19
 go_upto_region 1 with fail
 have hs1 : w.heap.size < (w.alloc (.cells #[.slice none 0 0, .slice none 0 0] 37)).heap.size := HB0.out.lt
 generalize w.alloc (.cells #[.slice none 0 0, .slice none 0 0] 37) = w1 at *
 have A1 : Below w1.heap.size w1 (w1.alloc (.cells #[.string ⟨#[97]⟩, .string ⟨#[98]⟩] 9)) := (Below.refl _ _).alloc (Nat.le_refl _) _
 have HT1 := Hid.mk (heap_alloc_new w1 (.cells #[.string ⟨#[97]⟩, .string ⟨#[98]⟩] 9))
 have HB1 := Hid.mk (HB0.out.grow A1)
 have HC1 := Hid.mk (HC0.out.grow A1)
 have HG1 := Hid.mk (gy_below HG0.out A1)
 clear HB0 HC0 HG0
 go_wp2_with fail
 refine (drL1 cb v zs _ true HC1.out).mono ?_
 rintro e w2 ⟨la, ua, rfl, hya, hla, hC2, hg2⟩
 have hz2 := hg2.size
 obtain ⟨ta, hta⟩ : ∃ b, w1.heap.size = b := ⟨_, rfl⟩
 have htl : ta < (w1.alloc (.cells #[.string ⟨#[97]⟩, .string ⟨#[98]⟩] 9)).heap.size := by rw [← hta]; exact (Array.getElem?_eq_some_iff.1 HT1.out).1
 have HT2 : Hid (w2.heap[ta]? = some (.cells #[.string ⟨#[97]⟩, .string ⟨#[98]⟩] 9 (0, 0))) := by rw [← hta]; exact (hg2.block _ (by rw [hta]; exact htl) (by intro e; simp at e; omega)).trans HT1.out
 obtain ⟨ao, an, ac, rfl⟩ : ∃ o n c, ua = .slice o n c := by obtain ⟨o, c, h, -⟩ := hya.sl.len; exact ⟨_, _, _, h⟩
 have HYA := Hid.mk (YB.base (n0' := ta + 1) hya (by omega))
 have HDA := Hid.mk hya.dys
 have HLA := Hid.mk hla
 have HB2 := Hid.mk (HB1.out.row hg2 (fun g e => by cases e; exact fun e => HNE.out e.symm))
 have HC2 := Hid.mk hC2
 have HG2 := Hid.mk (grownBy_trans HG1.out hg2)
 have htw : ta < w2.heap.size := by omega
 clear hya hla hC2 hg2 HT1 HB1 HC1 HG1 A1
 have A3 : Below w2.heap.size w2 (w2.alloc (.cells #[.string ⟨#[120]⟩] 9)) := (Below.refl _ _).alloc (Nat.le_refl _) _
 have HX1 := Hid.mk (heap_alloc_new w2 (.cells #[.string ⟨#[120]⟩] 9))
 have HT3 := Hid.mk ((A3.block ta htw).trans HT2.out)
 have HYA3 := Hid.mk (HYA.out.grow A3)
 have HB3 := Hid.mk (HB2.out.grow A3)
 have HC3 := Hid.mk (HC2.out.grow A3)
 have HG3 := Hid.mk (gy_below HG2.out A3)
 clear HT2 HYA HB2 HC2 HG2
 go_wp2_with fail
 refine (drL1 cb v zs _ true HC3.out).mono ?_
 rintro e w4 ⟨lb, ub, rfl, hyb, hlb, hC4, hg4⟩
 have hz4 := hg4.size
 obtain ⟨tb, htb⟩ : ∃ b, w2.heap.size = b := ⟨_, rfl⟩
 have htl2 : tb < (w2.alloc (.cells #[.string ⟨#[120]⟩] 9)).heap.size := by rw [← htb]; exact (Array.getElem?_eq_some_iff.1 HX1.out).1
 have HX2 : Hid (w4.heap[tb]? = some (.cells #[.string ⟨#[120]⟩] 9 (0, 0))) := by rw [← htb]; exact (hg4.block _ (by rw [htb]; exact htl2) (by intro e; simp at e; omega)).trans HX1.out
 have HT4 := Hid.mk ((hg4.block ta (by have := A3.size; omega) (by intro e; simp at e; omega)).trans HT3.out)
 obtain ⟨bo, bn, bc, rfl⟩ : ∃ o n c, ub = .slice o n c := by obtain ⟨o, c, h, -⟩ := hyb.sl.len; exact ⟨_, _, _, h⟩
 have HYB := Hid.mk (YB.base (n0' := tb + 1) hyb (by omega))
 have HYA4 := Hid.mk (HYA3.out.by hg4 (by omega))
 have HDB := Hid.mk hyb.dys
 have HLB := Hid.mk hlb
 have HB4 := Hid.mk (HB3.out.row hg4 (fun g e => by cases e; exact fun e => HNE.out e.symm))
 have HC4 := Hid.mk hC4
 have HG4 := Hid.mk (grownBy_trans HG3.out hg4)
 have htw2 : tb < w4.heap.size := by omega
 have hab : ta < tb := by omega
 clear hyb hlb hC4 hg4 HX1 HT3 HYA3 HB3 HC3 HG3
 have A5 : Below w4.heap.size w4 (w4.alloc (.cells #[.string ⟨#[102]⟩, .slice (some ⟨ta, 0, none⟩) 2 2, .slice ao an ac, .string ⟨#[103]⟩, .slice (some ⟨tb, 0, none⟩) 1 1, .slice bo bn bc] 63)) := (Below.refl _ _).alloc (Nat.le_refl _) _
 have hf5 := heap_alloc_new w4 (.cells #[.string ⟨#[102]⟩, .slice (some ⟨ta, 0, none⟩) 2 2, .slice ao an ac, .string ⟨#[103]⟩, .slice (some ⟨tb, 0, none⟩) 1 1, .slice bo bn bc] 63)
 have HF5 : Hid (FnI (w4.alloc (.cells #[.string ⟨#[102]⟩, .slice (some ⟨ta, 0, none⟩) 2 2, .slice ao an ac, .string ⟨#[103]⟩, .slice (some ⟨tb, 0, none⟩) 1 1, .slice bo bn bc] 63)) (w.heap.size + 1) (w4.heap.size + 1) (.slice (some ⟨w4.heap.size, 0, none⟩) 2 2) [⟨⟨⟨#[102]⟩, [⟨#[97]⟩, ⟨#[98]⟩], la⟩, .slice (some ⟨ta, 0, none⟩) 2 2, .slice ao an ac⟩, ⟨⟨⟨#[103]⟩, [⟨#[120]⟩], lb⟩, .slice (some ⟨tb, 0, none⟩) 1 1, .slice bo bn bc⟩]) := by
  have hin : ∀ {n1 n2 : Nat} {b : Nat}, w.heap.size + 1 ≤ n1 → nf (w4.alloc (.cells #[.string ⟨#[102]⟩, .slice (some ⟨ta, 0, none⟩) 2 2, .slice ao an ac, .string ⟨#[103]⟩, .slice (some ⟨tb, 0, none⟩) 1 1, .slice bo bn bc] 63)) n1 b → b < w4.heap.size → bd (w4.alloc (.cells #[.string ⟨#[102]⟩, .slice (some ⟨ta, 0, none⟩) 2 2, .slice ao an ac, .string ⟨#[103]⟩, .slice (some ⟨tb, 0, none⟩) 1 1, .slice bo bn bc] 63)) (w.heap.size + 1) (w4.heap.size + 1) (some w4.heap.size) b := fun h1 h2 h3 => ⟨⟨by have := h2.1; omega, h2.2⟩, by omega, by simp; omega⟩
  refine ⟨⟨rfl, .inr ⟨w4.heap.size, 2, _, rfl, by omega, hf5, Nat.le_refl _, by unfold maxLen; omega, rfl, rfl⟩⟩, fun k hk => by simp [Value.ownBlock] at hk; omega, fun f hf => ?_⟩
  have e1 := (A5.block ta (by omega)).trans HT4.out
  have e2 := (A5.block tb htw2).trans HX2.out
  simp only [List.mem_cons, List.not_mem_nil, or_false] at hf
  rcases hf with rfl | rfl
  ·refine ⟨tb_of (xs := [⟨#[97]⟩, ⟨#[98]⟩]) e1 (hin (n1 := w.heap.size + 1) (n2 := 0) (Nat.le_refl _) ⟨by omega, fun o => frozen_of_row _ ta o _ _ e1⟩ (by omega)) (by simp; decide) (by decide), ?_, by show ByteArray.size _ ≤ 100; exact (by decide : (⟨#[102]⟩ : ByteArray).size ≤ 100), ?_⟩
   ·exact (((HYA4.out.sl.imp (C := fun b => nf w4 (ta + 1) b ∧ b < w4.heap.size) fun _ hb hlt => ⟨hb, hlt⟩).grow A5).imp fun b hb _ => hin (n1 := ta + 1) (n2 := 0) (by omega) ⟨hb.1.1, fun o => by rw [A5.frozen (p := ⟨b, o, none⟩) hb.2]; exact hb.1.2 o⟩ hb.2)
   ·have h1 := szy_le HDA.out
    have h2 : la.length * (1 + 110000 * 8 ^ 1) ≤ 3 * (1 + 110000 * 8 ^ 1) := Nat.mul_le_mul_right _ HLA.out
    simp only [Fu.sz, gsz, show (⟨#[102]⟩ : ByteArray).size = 1 from rfl, show (⟨#[97]⟩ : ByteArray).size = 1 from rfl, show (⟨#[98]⟩ : ByteArray).size = 1 from rfl]
    omega
  ·refine ⟨tb_of (xs := [⟨#[120]⟩]) e2 (hin (n1 := w.heap.size + 1) (n2 := 0) (Nat.le_refl _) ⟨by omega, fun o => frozen_of_row _ tb o _ _ e2⟩ (by omega)) (by simp; decide) (by decide), ?_, by show ByteArray.size _ ≤ 100; exact (by decide : (⟨#[103]⟩ : ByteArray).size ≤ 100), ?_⟩
   ·exact (((HYB.out.sl.imp (C := fun b => nf w4 (tb + 1) b ∧ b < w4.heap.size) fun _ hb hlt => ⟨hb, hlt⟩).grow A5).imp fun b hb _ => hin (n1 := tb + 1) (n2 := 0) (by omega) ⟨hb.1.1, fun o => by rw [A5.frozen (p := ⟨b, o, none⟩) hb.2]; exact hb.1.2 o⟩ hb.2)
   ·have h1 := szy_le HDB.out
    have h2 : lb.length * (1 + 110000 * 8 ^ 1) ≤ 3 * (1 + 110000 * 8 ^ 1) := Nat.mul_le_mul_right _ HLB.out
    simp only [Fu.sz, gsz, show (⟨#[103]⟩ : ByteArray).size = 1 from rfl, show (⟨#[120]⟩ : ByteArray).size = 1 from rfl]
    omega
 have HB5 := Hid.mk (HB4.out.grow A5)
 have HC5 := Hid.mk (HC4.out.grow A5)
 have HG5 := Hid.mk (gy_below HG4.out A5)
 have hs5 : w.heap.size < w4.heap.size := by omega
 clear HT4 HX2 HYA4 HYB HDA HDB HLA HLB HB4 HC4 HG4 hf5
 have A6 : Below (w4.alloc (.cells #[.string ⟨#[102]⟩, .slice (some ⟨ta, 0, none⟩) 2 2, .slice ao an ac, .string ⟨#[103]⟩, .slice (some ⟨tb, 0, none⟩) 1 1, .slice bo bn bc] 63)).heap.size (w4.alloc (.cells #[.string ⟨#[102]⟩, .slice (some ⟨ta, 0, none⟩) 2 2, .slice ao an ac, .string ⟨#[103]⟩, .slice (some ⟨tb, 0, none⟩) 1 1, .slice bo bn bc] 63)) ((w4.alloc (.cells #[.string ⟨#[102]⟩, .slice (some ⟨ta, 0, none⟩) 2 2, .slice ao an ac, .string ⟨#[103]⟩, .slice (some ⟨tb, 0, none⟩) 1 1, .slice bo bn bc] 63)).alloc (.cells #[.slice none 0 0, .slice (some ⟨w4.heap.size, 0, none⟩) 2 2] 37)) := (Below.refl _ _).alloc (Nat.le_refl _) _
 have HP6 := Hid.mk (BzP.new (w4.alloc (.cells #[.string ⟨#[102]⟩, .slice (some ⟨ta, 0, none⟩) 2 2, .slice ao an ac, .string ⟨#[103]⟩, .slice (some ⟨tb, 0, none⟩) 1 1, .slice bo bn bc] 63)) (.slice none 0 0) (.slice (some ⟨w4.heap.size, 0, none⟩) 2 2))
 have HF6 := Hid.mk (HF5.out.grow A6)
 have HB6 := Hid.mk (HB5.out.grow A6)
 have HC6 := Hid.mk (HC5.out.grow A6)
 have HG6 := Hid.mk (gy_below HG5.out A6)
 have hs6 : w4.heap.size < (w4.alloc (.cells #[.string ⟨#[102]⟩, .slice (some ⟨ta, 0, none⟩) 2 2, .slice ao an ac, .string ⟨#[103]⟩, .slice (some ⟨tb, 0, none⟩) 1 1, .slice bo bn bc] 63)).heap.size := (Array.getElem?_eq_some_iff.1 (heap_alloc_new w4 (.cells #[.string ⟨#[102]⟩, .slice (some ⟨ta, 0, none⟩) 2 2, .slice ao an ac, .string ⟨#[103]⟩, .slice (some ⟨tb, 0, none⟩) 1 1, .slice bo bn bc] 63))).1
 clear HF5 HB5 HC5 HG5 A5 A6
 go_upto_region 2 with fail
 obtain ⟨pb, hpb⟩ : ∃ b, (w4.alloc (.cells #[.string ⟨#[102]⟩, .slice (some ⟨ta, 0, none⟩) 2 2, .slice ao an ac, .string ⟨#[103]⟩, .slice (some ⟨tb, 0, none⟩) 1 1, .slice bo bn bc] 63)).heap.size = b := ⟨_, rfl⟩
 rw [hpb] at HP6 hs6
 generalize (w4.alloc (.cells #[.string ⟨#[102]⟩, .slice (some ⟨ta, 0, none⟩) 2 2, .slice ao an ac, .string ⟨#[103]⟩, .slice (some ⟨tb, 0, none⟩) 1 1, .slice bo bn bc] 63)).alloc (.cells #[.slice none 0 0, .slice (some ⟨w4.heap.size, 0, none⟩) 2 2] 37) = w6 at *
 have hpb2 : w4.heap.size + 1 = pb := by simpa using hpb
 simp only [hpb2] at *
 clear hpb
 have hfp : w4.heap.size < pb := by omega
 clear hpb2
 generalize w4.heap.size = fb at *
 obtain ⟨F, HF6, hF2⟩ : ∃ F : List Fv, Hid (FnI w6 (w.heap.size + 1) pb (.slice (some ⟨fb, 0, none⟩) 2 2) F) ∧ F.length = 2 := ⟨_, HF6, rfl⟩
 have hpc : pb ≠ cb := by omega
 go_wp2_with fail
 refine (l1Below_any cb v zs 3 _ HC6.out).mono ?_
 rintro e w7 ⟨x, rfl, hx0, hx1, -, hC, hg⟩
 have hx3 : x < 3 := hx1 (by omega)
 obtain ⟨N, hxx⟩ : ∃ N : Nat, (1 : Int) + x = N := ⟨(1 + x).toNat, by omega⟩
 have hN3 : N ≤ 3 := by omega
 have hN1 : 1 ≤ N := by omega
 have HP7 := Hid.mk (HP6.out.row hg (fun g e => by cases e; exact hpc.symm))
 have HF7 := Hid.mk (HF6.out.keep hg (fun g e => by cases e; exact .inl (by omega)))
 have HB7 := Hid.mk (HB6.out.row hg (fun g e => by cases e; exact fun e => HNE.out e.symm))
 have HC7 := Hid.mk hC
 have HG7 := Hid.mk (grownBy_trans HG6.out hg)
 have HI7 : Hid (PgI w7 (pb + 1) (.slice none 0 0) []) := pgI_none _ _
 clear hx0 hx1 hx3 hC hg HP6 HF6 HB6 HC6 HG6
 go_wp2
 go_loopw [4] (fun i wr => ∃ (j : Nat) (U : List Uv) (V : Value), i = .int .i64 j ∧ Hid (j + U.length = N) ∧ Hid (PgI wr (pb + 1) V U) ∧ Hid (FnI wr (w.heap.size + 1) pb (.slice (some ⟨fb, 0, none⟩) 2 2) F) ∧ Hid (BzP wr pb V (.slice (some ⟨fb, 0, none⟩) 2 2)) ∧ Hid (BzP wr w.heap.size (.slice none 0 0) (.slice none 0 0)) ∧ Hid (Cur wr cb v zs) ∧ Hid (w.grownBy wr (some cb))) (fun i _ => (intOf i).toNat)
 case atStart => exact ⟨N, [], (.slice none 0 0), by first | rfl | (simp; omega), by simp [Hid], HI7, HF7, HP7, HB7, HC7, HG7⟩
 case round =>
  clear HI7 HF7 HP7 HB7 HC7 HG7
  obtain ⟨j, U, V, rfl, HJ, HI, HF, HP, HB, HC, HG⟩ := hrel
  obtain ⟨vo, vn, vc, rfl⟩ : ∃ o n c, V = .slice o n c := by obtain ⟨o, c, h, -⟩ := HI.out.ul.len; exact ⟨_, _, _, h⟩
  have hjz : (j : Int) ≤ 3 := by have := HJ.out; omega
  have hwr : pb < wr.heap.size := HP.out.lt
  by_cases hj0 : 0 < j
  ·have hi1 : (0 : Int) < (j : Int) := by omega
   have hjj : ((j : Int) - 1) = ((j - 1 : Nat) : Int) := by omega
   have HROW : Hid (∀ k, (Value.slice vo vn vc).ownBlock = some k → pb + 1 ≤ k ∧ k < wr.heap.size) := fun k hk => World.ownsRow.lt HI.out.1 k hk
   have HGB := Hid.mk HI.out.gb
   have hUl : U.length ≤ 1000 := by have := HJ.out; omega
   have HC1 := Hid.mk (HC.out.grow ((Below.refl _ _).alloc (Nat.le_refl _) (.cells #[.int .i64 1, .int .i64 2, .int .i64 3, .int .i64 4, .int .i64 3, .int .i64 4] 3)))
   have HR1 := Hid.mk (gy_alloc wr cb (.cells #[.int .i64 1, .int .i64 2, .int .i64 3, .int .i64 4, .int .i64 3, .int .i64 4] 3))
   clear HC
   go_wp2_with fail
   refine (l1Int_any cb wr.heap.size 6 v zs [1, 2, 3, 4, 3, 4] _ HC1.out rfl (by omega) (by omega) (heap_alloc_new wr _) (by omega)).mono ?_
   rintro e w2 ⟨K, rfl, hK, hC, hg⟩
   have hK4 : 1 ≤ K ∧ K ≤ 4 := by
    simp only [List.mem_cons, List.not_mem_nil, or_false] at hK
    omega
   have HR2 := Hid.mk (grownBy_trans HR1.out hg)
   have hs2 : wr.heap.size < w2.heap.size := by have := hg.size; have := (Array.getElem?_eq_some_iff.1 (heap_alloc_new wr (.cells #[.int .i64 1, .int .i64 2, .int .i64 3, .int .i64 4, .int .i64 3, .int .i64 4] 3))).1; omega
   have HC3 := Hid.mk (hC.grow ((Below.refl _ _).alloc (Nat.le_refl _) (.cells #[.int .i64 K, .int .i64 0, .int .i64 0, .string ⟨#[]⟩, .slice none 0 0, .slice none 0 0] 59)))
   have HX3 := Hid.mk (BzR.new w2 (.int .i64 K) (.int .i64 0) (.int .i64 0) (.string ⟨#[]⟩) (.slice none 0 0) (.slice none 0 0))
   have HR3 := Hid.mk (gy_new HR2.out (.cells #[.int .i64 K, .int .i64 0, .int .i64 0, .string ⟨#[]⟩, .slice none 0 0, .slice none 0 0] 59))
   clear hK hC hg HC1 HR1 HR2
   go_upto_region 6 with fail
   generalize w2.alloc (.cells #[.int .i64 K, .int .i64 0, .int .i64 0, .string ⟨#[]⟩, .slice none 0 0, .slice none 0 0] 59) = w3 at *
   generalize w2.heap.size = rb at *
   have hrc : rb ≠ cb := by omega
   have hr3 : rb < w3.heap.size := HX3.out.lt
   by_cases h4 : K = 4
   ·subst h4
    have q0 := HX3.out.c0
    go_wp2_with fail
    clear q0
    refine (drX2 cb v zs _ HC3.out).mono ?_
    rintro e w5 ⟨t, u, rfl, hd, he, hC, hg⟩
    obtain ⟨uo, un, uc, rfl⟩ : ∃ o n c, u = .slice o n c := by obtain ⟨o, c, h, -⟩ := he.len; exact ⟨_, _, _, h⟩
    have HX5 := Hid.mk (HX3.out.row hg (fun g e => by cases e; exact hrc.symm))
    have G5 := setP_by w5 rb (.int .i64 t.k) (.int .i64 t.n) (.string t.s) (.slice uo un uc)
    have HX6 : Hid (BzR ((((w5.setCell ⟨rb, 1, none⟩ (.int .i64 t.k)).setCell ⟨rb, 2, none⟩ (.int .i64 t.n)).setCell ⟨rb, 3, none⟩ (.string t.s)).setCell ⟨rb, 4, none⟩ (.slice uo un uc)) rb (.int .i64 4) (.int .i64 t.k) (.int .i64 t.n) (.string t.s) (.slice uo un uc) (.slice none 0 0)) := HX5.out.putP (.int .i64 t.k) (.int .i64 t.n) (.string t.s) (.slice uo un uc)
    have HR6 : Hid (wr.grownBy ((((w5.setCell ⟨rb, 1, none⟩ (.int .i64 t.k)).setCell ⟨rb, 2, none⟩ (.int .i64 t.n)).setCell ⟨rb, 3, none⟩ (.string t.s)).setCell ⟨rb, 4, none⟩ (.slice uo un uc)) (some cb)) := (gy_far (grownBy_trans HR3.out hg) G5 (by omega))
    have HC6 : Hid (Cur ((((w5.setCell ⟨rb, 1, none⟩ (.int .i64 t.k)).setCell ⟨rb, 2, none⟩ (.int .i64 t.n)).setCell ⟨rb, 3, none⟩ (.string t.s)).setCell ⟨rb, 4, none⟩ (.slice uo un uc)) cb v zs) := (hC.row G5 (fun g e => by cases e; exact ⟨hrc, fun hz k hk => by have := HV.out hz k hk; omega⟩))
    have HE6 : Hid (El ((((w5.setCell ⟨rb, 1, none⟩ (.int .i64 t.k)).setCell ⟨rb, 2, none⟩ (.int .i64 t.n)).setCell ⟨rb, 3, none⟩ (.string t.s)).setCell ⟨rb, 4, none⟩ (.slice uo un uc)) (nf ((((w5.setCell ⟨rb, 1, none⟩ (.int .i64 t.k)).setCell ⟨rb, 2, none⟩ (.int .i64 t.n)).setCell ⟨rb, 3, none⟩ (.string t.s)).setCell ⟨rb, 4, none⟩ (.slice uo un uc)) (rb + 1)) t.l (.slice uo un uc)) := (he.imp (C := nf w5 (rb + 1)) fun b hb _ => ⟨by have := hb.1; omega, hb.2⟩).by G5 (by omega)
    have HTS := Hid.mk hd.size
    have HTZ : Hid (t.sz ≤ 10000) := by have := hd.2; simp [Hid]; omega
    have z1 := HX5.out.c1
    have z2 := HX5.out.c2
    have z3 := HX5.out.c3
    have z4 := HX5.out.c4
    have zf := HX5.out.fr
    clear hd he hC hg HX3 HX5 HC3 HR3 G5
    go_upto_region 8 with fail
    clear z1 z2 z3 z4 zf
    generalize ((((w5.setCell ⟨rb, 1, none⟩ (.int .i64 t.k)).setCell ⟨rb, 2, none⟩ (.int .i64 t.n)).setCell ⟨rb, 3, none⟩ (.string t.s)).setCell ⟨rb, 4, none⟩ (.slice uo un uc)) = w8 at *
    have h3n : ¬ (4 : Int) < 3 := by omega
    have hm8 : rb < w8.heap.size := HX6.out.lt
    have HPM : Hid (El w8 (bd w8 (rb + 1) w8.heap.size none) t.l (.slice uo un uc)) := HE6.out.imp fun _ hb hlt => ⟨hb, hlt, by simp⟩
    obtain ⟨m, hm⟩ : ∃ b, w8.heap.size = b := ⟨_, rfl⟩
    rw [hm] at HPM hm8
    go_wp2_with fail
    refine (drL2 cb v zs _ false HC6.out).mono ?_
    rintro e w9 ⟨la, ua, rfl, hy, hl, hC, hg⟩
    have hz9 := hg.size
    obtain ⟨ao, an, ac, rfl⟩ : ∃ o n c, ua = .slice o n c := by obtain ⟨o, c, h, -⟩ := hy.sl.len; exact ⟨_, _, _, h⟩
    have hla : szy la ≤ 30000000 := by
     have h1 := szy_le hy.dys
     have h2 : la.length * (1 + 110000 * 8 ^ 2) ≤ 3 * (1 + 110000 * 8 ^ 2) := Nat.mul_le_mul_right _ hl
     omega
    rw [hm] at hy
    have HX9 := Hid.mk (HX6.out.row hg (fun g e => by cases e; exact hrc.symm))
    have HPM9 := Hid.mk (HPM.out.bnd (bnd_of hg (fun g e => by cases e; exact .inl (by omega))))
    have HR9 := Hid.mk (grownBy_trans HR6.out hg)
    have HA9 := Hid.mk hy.rowA
    have G9 := gb_set w9 rb 5 (.slice ao an ac)
    have HX10 := Hid.mk (HX9.out.put5 (.slice ao an ac))
    have HPM10 := Hid.mk (HPM9.out.bnd (bnd_of G9 (fun g e => by cases e; exact .inl (by omega))))
    have HR10 := Hid.mk (gy_far HR9.out G9 (by omega))
    have HA10 := Hid.mk (HA9.out.by G9 (by omega))
    have HC10 := Hid.mk (hC.row G9 (fun g e => by cases e; exact ⟨hrc, fun hz k hk => by have := HV.out hz k hk; omega⟩))
    have hm10 : m ≤ (w9.setCell ⟨rb, 5, none⟩ (.slice ao an ac)).heap.size := by have := G9.size; omega
    have z5 := HX9.out.c5
    have zf := HX9.out.fr
    clear hy hl hC hg HX6 HX9 HPM HPM9 HR6 HR9 HA9 HC6 HE6 G9 hz9 hm
    go_upto_region 9 with fail
    clear z5 zf
    generalize w9.setCell ⟨rb, 5, none⟩ (.slice ao an ac) = w10 at *
    have q0 := HX10.out.c0
    go_upto_region 11 with fail
    clear q0
    have HX12 := HX10
    have HPM12 := HPM10
    have HR12 := HR10
    have HA12 := HA10
    have HC12 := HC10
    have hm12 := hm10
    have hsz : szy la ≤ 60000000 := by omega
    clear HX10 HPM10 HR10 HA10 HC10
    generalize w10 = w12 at *
    have HI12 := Hid.mk (HI.out.by HR12.out (by omega))
    have HF12 := Hid.mk (HF.out.keep HR12.out (fun g e => by cases e; exact .inl (by omega)))
    have HP12 := Hid.mk (HP.out.row HR12.out (fun g e => by cases e; exact hpc.symm))
    have HB12 := Hid.mk (HB.out.row HR12.out (fun g e => by cases e; exact fun e => HNE.out e.symm))
    have HG12 := Hid.mk (grownBy_trans HG.out HR12.out)
    have HNW := Hid.mk (New0.mk (k := 4) HPM12.out HA12.out (by omega) HTS.out (by have := HTZ.out; omega))
    have hz12 := HR12.out.size
    clear HI HF HP HB HG HR12 HPM12 HA12
    have A13 : Below w12.heap.size w12 (w12.alloc (.cells #[.int .i64 4, .int .i64 t.k, .int .i64 t.n, .string t.s, (.slice uo un uc), (.slice ao an ac)] 59)) := (Below.refl _ _).alloc (Nat.le_refl _) _
    have HN := Hid.mk (heap_alloc_new w12 (.cells #[.int .i64 4, .int .i64 t.k, .int .i64 t.n, .string t.s, (.slice uo un uc), (.slice ao an ac)] 59))
    have HNW13 := Hid.mk (New0.grow HNW.out A13)
    have HI13 := Hid.mk (HI12.out.grow A13)
    have HF13 := Hid.mk (HF12.out.grow A13)
    have HP13 := Hid.mk (HP12.out.grow A13)
    have HB13 := Hid.mk (HB12.out.grow A13)
    have HC13 := Hid.mk (HC12.out.grow A13)
    have HG13 := Hid.mk (gy_below HG12.out A13)
    have hb13 : pb + 1 ≤ (w12.alloc (.cells #[.int .i64 4, .int .i64 t.k, .int .i64 t.n, .string t.s, (.slice uo un uc), (.slice ao an ac)] 59)).heap.size := by have := A13.size; omega
    have p0 := HP12.out.c0
    have y0 := HX12.out.c0
    have y1 := HX12.out.c1
    have y2 := HX12.out.c2
    have y3 := HX12.out.c3
    have y4 := HX12.out.c4
    have y5 := HX12.out.c5
    clear HNW HI12 HF12 HP12 HB12 HC12 HG12 HX12 A13
    go_wp2_with (at_builtin; refine wpList_append_u rfl _ _ rfl (pb + 1) (rb + 1) (.slice vo vn vc) U ⟨⟨4, t, la⟩, (.slice uo un uc), (.slice ao an ac)⟩ rfl HI13.out w12.heap.size rfl HN.out HNW13.out (by omega) (fun k hk => by have := HROW.out k hk; omega) (fun u0 hu k hk => by have := HGB.out u0 hu k hk; omega) hb13 hUl ?_; rintro V' w14 hI14 hg14; refine Hid.out ?_)
    have hro : ∀ g, (Value.slice vo vn vc).ownBlock = some g → pb + 1 ≤ g := fun g e => (HROW.out g e).1
    obtain ⟨wo, wn, wc, rfl⟩ : ∃ o n c, V' = .slice o n c := by obtain ⟨o, c, h, -⟩ := hI14.ul.len; exact ⟨_, _, _, h⟩
    have HI14 := Hid.mk hI14
    have HF14 := Hid.mk (HF13.out.keep hg14 (fun g e => by have := hro g e; omega))
    have HP14 := Hid.mk (HP13.out.row hg14 (fun g e => by have := hro g e; omega))
    have HB14 := Hid.mk (HB13.out.row hg14 (fun g e => by have := hro g e; omega))
    have HC14 := Hid.mk (HC13.out.row hg14 (fun g e => by have := hro g e; exact ⟨by omega, fun hz k hk => by have := HV.out hz k hk; omega⟩))
    have HG14 := Hid.mk (gy_row HG13.out hg14 (fun g e => by have := hro g e; omega))
    have G15 := gb_set w14 pb 0 (.slice wo wn wc)
    have HI15 := Hid.mk (HI14.out.by G15 (by omega))
    have HF15 := Hid.mk (HF14.out.keep G15 (fun g e => by cases e; exact .inr (Nat.le_refl _)))
    have HP15 := Hid.mk (HP14.out.put0 (.slice wo wn wc))
    have HB15 := Hid.mk (HB14.out.row G15 (fun g e => by cases e; omega))
    have HC15 := Hid.mk (HC14.out.row G15 (fun g e => by cases e; exact ⟨hpc, fun hz k hk => by have := HV.out hz k hk; omega⟩))
    have HG15 := Hid.mk (gy_far HG14.out G15 (by omega))
    have HJ15 : Hid ((j - 1) + (U ++ [(⟨⟨4, t, la⟩, (.slice uo un uc), (.slice ao an ac)⟩ : Uv)]).length = N) := by refine Hid.mk ?_; have := HJ.out; simp; omega
    have z0 := HP14.out.c0
    have zf := HP14.out.fr
    clear hI14 hg14 hro HI13 HF13 HP13 HB13 HC13 HG13 HNW13 HN HI14 HF14 HP14 HB14 HC14 HG14 G15 p0 y0 y1 y2 y3 y4 y5 HJ
    refine Hid.mk ?_
    go_wp2
    go_roundw
    case rel => exact ⟨j - 1, U ++ [⟨⟨4, t, la⟩, (.slice uo un uc), (.slice ao an ac)⟩], (.slice wo wn wc), by first | rfl | (simp; omega), HJ15, HI15, HF15, HP15, HB15, HC15, HG15⟩
    case measure => simp [intOf]; omega
   ·have h4b : (K == 4) = false := beq_eq_false_iff_ne.2 h4
    have q0 := HX3.out.c0
    go_upto_region 8 with fail
    clear q0
    obtain ⟨t, ht⟩ : ∃ t : Ex, t = .node 0 0 ⟨#[]⟩ [] := ⟨_, rfl⟩
    have HE6 : Hid (El w3 (nf w3 (rb + 1)) t.l (.slice none 0 0)) := by rw [ht]; exact El.zero _ _
    have HTS : Hid (t.s.size ≤ 100) := by rw [ht]; exact (by decide : (⟨#[]⟩ : ByteArray).size ≤ 100)
    have HTZ : Hid (t.sz ≤ 10000) := by rw [ht]; simp [Hid, Ex.sz, szx, show (⟨#[]⟩ : ByteArray).size = 0 from rfl]
    have HX6 : Hid (BzR w3 rb (.int .i64 K) (.int .i64 t.k) (.int .i64 t.n) (.string t.s) (.slice none 0 0) (.slice none 0 0)) := by rw [ht]; exact HX3.out
    have HR6 := HR3
    have HC6 := HC3
    clear ht HX3 HR3 HC3
    generalize w3 = w8 at *
    by_cases h3 : K < 3
    ·have hm8 : rb < w8.heap.size := HX6.out.lt
     have HPM : Hid (El w8 (bd w8 (rb + 1) w8.heap.size none) t.l (.slice none 0 0)) := HE6.out.imp fun _ hb hlt => ⟨hb, hlt, by simp⟩
     obtain ⟨m, hm⟩ : ∃ b, w8.heap.size = b := ⟨_, rfl⟩
     rw [hm] at HPM hm8
     go_wp2_with fail
     refine (drL2 cb v zs _ false HC6.out).mono ?_
     rintro e w9 ⟨la, ua, rfl, hy, hl, hC, hg⟩
     have hz9 := hg.size
     obtain ⟨ao, an, ac, rfl⟩ : ∃ o n c, ua = .slice o n c := by obtain ⟨o, c, h, -⟩ := hy.sl.len; exact ⟨_, _, _, h⟩
     have hla : szy la ≤ 30000000 := by
      have h1 := szy_le hy.dys
      have h2 : la.length * (1 + 110000 * 8 ^ 2) ≤ 3 * (1 + 110000 * 8 ^ 2) := Nat.mul_le_mul_right _ hl
      omega
     rw [hm] at hy
     have HX9 := Hid.mk (HX6.out.row hg (fun g e => by cases e; exact hrc.symm))
     have HPM9 := Hid.mk (HPM.out.bnd (bnd_of hg (fun g e => by cases e; exact .inl (by omega))))
     have HR9 := Hid.mk (grownBy_trans HR6.out hg)
     have HA9 := Hid.mk hy.rowA
     have G9 := gb_set w9 rb 5 (.slice ao an ac)
     have HX10 := Hid.mk (HX9.out.put5 (.slice ao an ac))
     have HPM10 := Hid.mk (HPM9.out.bnd (bnd_of G9 (fun g e => by cases e; exact .inl (by omega))))
     have HR10 := Hid.mk (gy_far HR9.out G9 (by omega))
     have HA10 := Hid.mk (HA9.out.by G9 (by omega))
     have HC10 := Hid.mk (hC.row G9 (fun g e => by cases e; exact ⟨hrc, fun hz k hk => by have := HV.out hz k hk; omega⟩))
     have hm10 : m ≤ (w9.setCell ⟨rb, 5, none⟩ (.slice ao an ac)).heap.size := by have := G9.size; omega
     have z5 := HX9.out.c5
     have zf := HX9.out.fr
     clear hy hl hC hg HX6 HX9 HPM HPM9 HR6 HR9 HA9 HC6 HE6 G9 hz9 hm
     go_upto_region 9 with fail
     clear z5 zf
     generalize w9.setCell ⟨rb, 5, none⟩ (.slice ao an ac) = w10 at *
     have q0 := HX10.out.c0
     have q5 := HX10.out.c5
     go_wp2_with fail
     clear q0 q5
     refine (nn_any la (by omega) (nf w10 m) (.slice ao an ac) w10 (HA10.out.sl.imp fun _ hb _ => hb.1) HA10.out.sh (by have := szy_len la; omega)).mono ?_
     rintro e w11 ⟨u2, rfl, hN, hb⟩
     have HA11 := Hid.mk (hN.rowA hb hm10)
     obtain ⟨no, nn1, nc, rfl⟩ := hN.shape
     have HX11 := Hid.mk (HX10.out.grow hb)
     have HPM11 := Hid.mk (HPM10.out.bnd (fun b _ _ hlt => hb.block b hlt))
     have HR11 := Hid.mk (gy_below HR10.out hb)
     have HC11 := Hid.mk (HC10.out.grow hb)
     have hz11 := hb.size
     have G11 := gb_set w11 rb 5 (.slice no nn1 nc)
     have HX12 := Hid.mk (HX11.out.put5 (.slice no nn1 nc))
     have HPM12 := Hid.mk (HPM11.out.bnd (bnd_of G11 (fun g e => by cases e; exact .inl (by omega))))
     have HR12 := Hid.mk (gy_far HR11.out G11 (by omega))
     have HA12 := Hid.mk (HA11.out.by G11 (by omega))
     have HC12 := Hid.mk (HC11.out.row G11 (fun g e => by cases e; exact ⟨hrc, fun hz k hk => by have := HV.out hz k hk; omega⟩))
     have hsz : szy (nnL la) ≤ 60000000 := by have := szy_nnL (l := la) fun t _ => nn_sz t; omega
     have hm12 : m ≤ (w11.setCell ⟨rb, 5, none⟩ (.slice no nn1 nc)).heap.size := by have := G11.size; omega
     have z5 := HX11.out.c5
     have zf := HX11.out.fr
     clear hN hb HX10 HX11 HPM10 HPM11 HR10 HR11 HA10 HA11 HC10 HC11 G11 hz11
     go_upto_region 11 with fail
     clear z5 zf
     generalize w11.setCell ⟨rb, 5, none⟩ (.slice no nn1 nc) = w12 at *
     have HI12 := Hid.mk (HI.out.by HR12.out (by omega))
     have HF12 := Hid.mk (HF.out.keep HR12.out (fun g e => by cases e; exact .inl (by omega)))
     have HP12 := Hid.mk (HP.out.row HR12.out (fun g e => by cases e; exact hpc.symm))
     have HB12 := Hid.mk (HB.out.row HR12.out (fun g e => by cases e; exact fun e => HNE.out e.symm))
     have HG12 := Hid.mk (grownBy_trans HG.out HR12.out)
     have HNW := Hid.mk (New0.mk (k := K) HPM12.out HA12.out (by omega) HTS.out (by have := HTZ.out; omega))
     have hz12 := HR12.out.size
     clear HI HF HP HB HG HR12 HPM12 HA12
     have A13 : Below w12.heap.size w12 (w12.alloc (.cells #[.int .i64 K, .int .i64 t.k, .int .i64 t.n, .string t.s, (.slice none 0 0), (.slice no nn1 nc)] 59)) := (Below.refl _ _).alloc (Nat.le_refl _) _
     have HN := Hid.mk (heap_alloc_new w12 (.cells #[.int .i64 K, .int .i64 t.k, .int .i64 t.n, .string t.s, (.slice none 0 0), (.slice no nn1 nc)] 59))
     have HNW13 := Hid.mk (New0.grow HNW.out A13)
     have HI13 := Hid.mk (HI12.out.grow A13)
     have HF13 := Hid.mk (HF12.out.grow A13)
     have HP13 := Hid.mk (HP12.out.grow A13)
     have HB13 := Hid.mk (HB12.out.grow A13)
     have HC13 := Hid.mk (HC12.out.grow A13)
     have HG13 := Hid.mk (gy_below HG12.out A13)
     have hb13 : pb + 1 ≤ (w12.alloc (.cells #[.int .i64 K, .int .i64 t.k, .int .i64 t.n, .string t.s, (.slice none 0 0), (.slice no nn1 nc)] 59)).heap.size := by have := A13.size; omega
     have p0 := HP12.out.c0
     have y0 := HX12.out.c0
     have y1 := HX12.out.c1
     have y2 := HX12.out.c2
     have y3 := HX12.out.c3
     have y4 := HX12.out.c4
     have y5 := HX12.out.c5
     clear HNW HI12 HF12 HP12 HB12 HC12 HG12 HX12 A13
     go_wp2_with (at_builtin; refine wpList_append_u rfl _ _ rfl (pb + 1) (rb + 1) (.slice vo vn vc) U ⟨⟨K, t, (nnL la)⟩, (.slice none 0 0), (.slice no nn1 nc)⟩ rfl HI13.out w12.heap.size rfl HN.out HNW13.out (by omega) (fun k hk => by have := HROW.out k hk; omega) (fun u0 hu k hk => by have := HGB.out u0 hu k hk; omega) hb13 hUl ?_; rintro V' w14 hI14 hg14; refine Hid.out ?_)
     have hro : ∀ g, (Value.slice vo vn vc).ownBlock = some g → pb + 1 ≤ g := fun g e => (HROW.out g e).1
     obtain ⟨wo, wn, wc, rfl⟩ : ∃ o n c, V' = .slice o n c := by obtain ⟨o, c, h, -⟩ := hI14.ul.len; exact ⟨_, _, _, h⟩
     have HI14 := Hid.mk hI14
     have HF14 := Hid.mk (HF13.out.keep hg14 (fun g e => by have := hro g e; omega))
     have HP14 := Hid.mk (HP13.out.row hg14 (fun g e => by have := hro g e; omega))
     have HB14 := Hid.mk (HB13.out.row hg14 (fun g e => by have := hro g e; omega))
     have HC14 := Hid.mk (HC13.out.row hg14 (fun g e => by have := hro g e; exact ⟨by omega, fun hz k hk => by have := HV.out hz k hk; omega⟩))
     have HG14 := Hid.mk (gy_row HG13.out hg14 (fun g e => by have := hro g e; omega))
     have G15 := gb_set w14 pb 0 (.slice wo wn wc)
     have HI15 := Hid.mk (HI14.out.by G15 (by omega))
     have HF15 := Hid.mk (HF14.out.keep G15 (fun g e => by cases e; exact .inr (Nat.le_refl _)))
     have HP15 := Hid.mk (HP14.out.put0 (.slice wo wn wc))
     have HB15 := Hid.mk (HB14.out.row G15 (fun g e => by cases e; omega))
     have HC15 := Hid.mk (HC14.out.row G15 (fun g e => by cases e; exact ⟨hpc, fun hz k hk => by have := HV.out hz k hk; omega⟩))
     have HG15 := Hid.mk (gy_far HG14.out G15 (by omega))
     have HJ15 : Hid ((j - 1) + (U ++ [(⟨⟨K, t, (nnL la)⟩, (.slice none 0 0), (.slice no nn1 nc)⟩ : Uv)]).length = N) := by refine Hid.mk ?_; have := HJ.out; simp; omega
     have z0 := HP14.out.c0
     have zf := HP14.out.fr
     clear hI14 hg14 hro HI13 HF13 HP13 HB13 HC13 HG13 HNW13 HN HI14 HF14 HP14 HB14 HC14 HG14 G15 p0 y0 y1 y2 y3 y4 y5 HJ
     refine Hid.mk ?_
     go_wp2
     go_roundw
     case rel => exact ⟨j - 1, U ++ [⟨⟨K, t, (nnL la)⟩, (.slice none 0 0), (.slice no nn1 nc)⟩], (.slice wo wn wc), by first | rfl | (simp; omega), HJ15, HI15, HF15, HP15, HB15, HC15, HG15⟩
     case measure => simp [intOf]; omega
    ·have hm8 : rb < w8.heap.size := HX6.out.lt
     have HPM : Hid (El w8 (bd w8 (rb + 1) w8.heap.size none) t.l (.slice none 0 0)) := HE6.out.imp fun _ hb hlt => ⟨hb, hlt, by simp⟩
     obtain ⟨m, hm⟩ : ∃ b, w8.heap.size = b := ⟨_, rfl⟩
     rw [hm] at HPM hm8
     go_wp2_with fail
     refine (drL2 cb v zs _ false HC6.out).mono ?_
     rintro e w9 ⟨la, ua, rfl, hy, hl, hC, hg⟩
     have hz9 := hg.size
     obtain ⟨ao, an, ac, rfl⟩ : ∃ o n c, ua = .slice o n c := by obtain ⟨o, c, h, -⟩ := hy.sl.len; exact ⟨_, _, _, h⟩
     have hla : szy la ≤ 30000000 := by
      have h1 := szy_le hy.dys
      have h2 : la.length * (1 + 110000 * 8 ^ 2) ≤ 3 * (1 + 110000 * 8 ^ 2) := Nat.mul_le_mul_right _ hl
      omega
     rw [hm] at hy
     have HX9 := Hid.mk (HX6.out.row hg (fun g e => by cases e; exact hrc.symm))
     have HPM9 := Hid.mk (HPM.out.bnd (bnd_of hg (fun g e => by cases e; exact .inl (by omega))))
     have HR9 := Hid.mk (grownBy_trans HR6.out hg)
     have HA9 := Hid.mk hy.rowA
     have G9 := gb_set w9 rb 5 (.slice ao an ac)
     have HX10 := Hid.mk (HX9.out.put5 (.slice ao an ac))
     have HPM10 := Hid.mk (HPM9.out.bnd (bnd_of G9 (fun g e => by cases e; exact .inl (by omega))))
     have HR10 := Hid.mk (gy_far HR9.out G9 (by omega))
     have HA10 := Hid.mk (HA9.out.by G9 (by omega))
     have HC10 := Hid.mk (hC.row G9 (fun g e => by cases e; exact ⟨hrc, fun hz k hk => by have := HV.out hz k hk; omega⟩))
     have hm10 : m ≤ (w9.setCell ⟨rb, 5, none⟩ (.slice ao an ac)).heap.size := by have := G9.size; omega
     have z5 := HX9.out.c5
     have zf := HX9.out.fr
     clear hy hl hC hg HX6 HX9 HPM HPM9 HR6 HR9 HA9 HC6 HE6 G9 hz9 hm
     go_upto_region 9 with fail
     clear z5 zf
     generalize w9.setCell ⟨rb, 5, none⟩ (.slice ao an ac) = w10 at *
     have q0 := HX10.out.c0
     go_upto_region 11 with fail
     clear q0
     have HX12 := HX10
     have HPM12 := HPM10
     have HR12 := HR10
     have HA12 := HA10
     have HC12 := HC10
     have hm12 := hm10
     have hsz : szy la ≤ 60000000 := by omega
     clear HX10 HPM10 HR10 HA10 HC10
     generalize w10 = w12 at *
     have HI12 := Hid.mk (HI.out.by HR12.out (by omega))
     have HF12 := Hid.mk (HF.out.keep HR12.out (fun g e => by cases e; exact .inl (by omega)))
     have HP12 := Hid.mk (HP.out.row HR12.out (fun g e => by cases e; exact hpc.symm))
     have HB12 := Hid.mk (HB.out.row HR12.out (fun g e => by cases e; exact fun e => HNE.out e.symm))
     have HG12 := Hid.mk (grownBy_trans HG.out HR12.out)
     have HNW := Hid.mk (New0.mk (k := K) HPM12.out HA12.out (by omega) HTS.out (by have := HTZ.out; omega))
     have hz12 := HR12.out.size
     clear HI HF HP HB HG HR12 HPM12 HA12
     have A13 : Below w12.heap.size w12 (w12.alloc (.cells #[.int .i64 K, .int .i64 t.k, .int .i64 t.n, .string t.s, (.slice none 0 0), (.slice ao an ac)] 59)) := (Below.refl _ _).alloc (Nat.le_refl _) _
     have HN := Hid.mk (heap_alloc_new w12 (.cells #[.int .i64 K, .int .i64 t.k, .int .i64 t.n, .string t.s, (.slice none 0 0), (.slice ao an ac)] 59))
     have HNW13 := Hid.mk (New0.grow HNW.out A13)
     have HI13 := Hid.mk (HI12.out.grow A13)
     have HF13 := Hid.mk (HF12.out.grow A13)
     have HP13 := Hid.mk (HP12.out.grow A13)
     have HB13 := Hid.mk (HB12.out.grow A13)
     have HC13 := Hid.mk (HC12.out.grow A13)
     have HG13 := Hid.mk (gy_below HG12.out A13)
     have hb13 : pb + 1 ≤ (w12.alloc (.cells #[.int .i64 K, .int .i64 t.k, .int .i64 t.n, .string t.s, (.slice none 0 0), (.slice ao an ac)] 59)).heap.size := by have := A13.size; omega
     have p0 := HP12.out.c0
     have y0 := HX12.out.c0
     have y1 := HX12.out.c1
     have y2 := HX12.out.c2
     have y3 := HX12.out.c3
     have y4 := HX12.out.c4
     have y5 := HX12.out.c5
     clear HNW HI12 HF12 HP12 HB12 HC12 HG12 HX12 A13
     go_wp2_with (at_builtin; refine wpList_append_u rfl _ _ rfl (pb + 1) (rb + 1) (.slice vo vn vc) U ⟨⟨K, t, la⟩, (.slice none 0 0), (.slice ao an ac)⟩ rfl HI13.out w12.heap.size rfl HN.out HNW13.out (by omega) (fun k hk => by have := HROW.out k hk; omega) (fun u0 hu k hk => by have := HGB.out u0 hu k hk; omega) hb13 hUl ?_; rintro V' w14 hI14 hg14; refine Hid.out ?_)
     have hro : ∀ g, (Value.slice vo vn vc).ownBlock = some g → pb + 1 ≤ g := fun g e => (HROW.out g e).1
     obtain ⟨wo, wn, wc, rfl⟩ : ∃ o n c, V' = .slice o n c := by obtain ⟨o, c, h, -⟩ := hI14.ul.len; exact ⟨_, _, _, h⟩
     have HI14 := Hid.mk hI14
     have HF14 := Hid.mk (HF13.out.keep hg14 (fun g e => by have := hro g e; omega))
     have HP14 := Hid.mk (HP13.out.row hg14 (fun g e => by have := hro g e; omega))
     have HB14 := Hid.mk (HB13.out.row hg14 (fun g e => by have := hro g e; omega))
     have HC14 := Hid.mk (HC13.out.row hg14 (fun g e => by have := hro g e; exact ⟨by omega, fun hz k hk => by have := HV.out hz k hk; omega⟩))
     have HG14 := Hid.mk (gy_row HG13.out hg14 (fun g e => by have := hro g e; omega))
     have G15 := gb_set w14 pb 0 (.slice wo wn wc)
     have HI15 := Hid.mk (HI14.out.by G15 (by omega))
     have HF15 := Hid.mk (HF14.out.keep G15 (fun g e => by cases e; exact .inr (Nat.le_refl _)))
     have HP15 := Hid.mk (HP14.out.put0 (.slice wo wn wc))
     have HB15 := Hid.mk (HB14.out.row G15 (fun g e => by cases e; omega))
     have HC15 := Hid.mk (HC14.out.row G15 (fun g e => by cases e; exact ⟨hpc, fun hz k hk => by have := HV.out hz k hk; omega⟩))
     have HG15 := Hid.mk (gy_far HG14.out G15 (by omega))
     have HJ15 : Hid ((j - 1) + (U ++ [(⟨⟨K, t, la⟩, (.slice none 0 0), (.slice ao an ac)⟩ : Uv)]).length = N) := by refine Hid.mk ?_; have := HJ.out; simp; omega
     have z0 := HP14.out.c0
     have zf := HP14.out.fr
     clear hI14 hg14 hro HI13 HF13 HP13 HB13 HC13 HG13 HNW13 HN HI14 HF14 HP14 HB14 HC14 HG14 G15 p0 y0 y1 y2 y3 y4 y5 HJ
     refine Hid.mk ?_
     go_wp2
     go_roundw
     case rel => exact ⟨j - 1, U ++ [⟨⟨K, t, la⟩, (.slice none 0 0), (.slice ao an ac)⟩], (.slice wo wn wc), by first | rfl | (simp; omega), HJ15, HI15, HF15, HP15, HB15, HC15, HG15⟩
     case measure => simp [intOf]; omega
  ·obtain rfl : j = 0 := by omega
   have hi1 : ¬ ((0 : Int) < ((0 : Nat) : Int)) := by omega
   have HD : Hid (PgD wr (w.heap.size + 1) (.slice vo vn vc) (.slice (some ⟨fb, 0, none⟩) 2 2)) := ⟨U, F, pb, pb + 1, by omega, by omega, HF.out, HI.out, by intro e; have := HJ.out; rw [e] at this; simp at this; omega, by have := HJ.out; omega, hF2⟩
   have HFN := Hid.mk (HFIN.out wr _ _ HD.out HC.out HG.out)
   have z0 := HB.out.c0
   have z1 := HB.out.c1
   have zf := HB.out.fr
   have x0 := HP.out.c0
   have x1 := HP.out.c1
   clear HFIN HI HF HD HC HG
   go_wp2
   have f0 : ((wr.setCell ⟨w.heap.size, 0, none⟩ (.slice vo vn vc)).setCell ⟨w.heap.size, 1, none⟩ (.slice (some ⟨fb, 0, none⟩) 2 2)).cell? ⟨w.heap.size, 0, none⟩ = some (.slice vo vn vc) := by go_simp
   have f1 : ((wr.setCell ⟨w.heap.size, 0, none⟩ (.slice vo vn vc)).setCell ⟨w.heap.size, 1, none⟩ (.slice (some ⟨fb, 0, none⟩) 2 2)).cell? ⟨w.heap.size, 1, none⟩ = some (.slice (some ⟨fb, 0, none⟩) 2 2) := by go_simp
   obtain ⟨h1, h2, h3⟩ := HFN.out
   refine bodyPost_ret (v := .agg #[.slice vo vn vc, .slice (some ⟨fb, 0, none⟩) 2 2]) ?_ rfl ⟨_, _, rfl, h1, h2, h3⟩
   generalize ((wr.setCell ⟨w.heap.size, 0, none⟩ (.slice vo vn vc)).setCell ⟨w.heap.size, 1, none⟩ (.slice (some ⟨fb, 0, none⟩) 2 2)) = W at f0 f1
   simp [results, Try.results19, go_sem, f0, f1]
end Go.Proofs.Ytijpmnenegdmnaa
