/- Drawn statements: l9Draw. -/
import Derived.Test.YtijpmnenegdmnaaQStBoxD
import Derived.Test.YtijpmnenegdmnaaQRun1
import Derived.Deep.CutBlock
namespace Go.Proofs.Ytijpmnenegdmnaa
open Go.RowKit
set_option maxRecDepth 8000

theorem in57_any (x : Int) (r : Bool) (hr : decide (5 ≤ x ∧ x ≤ 7) = r) (w : World) : Calls Try.prog 45 #[.int .i64 x, .int .i64 5, .int .i64 7] w fun e w' => e = .returned (.bool r) ∧ w' = w := by
 have HD := Hid.mk hr
 clear hr
 by_cases h : 5 ≤ x
 ·by_cases h2 : x ≤ 7
  ·have H := Hid.mk ((decide_eq_true (show 5 ≤ x ∧ x ≤ 7 from ⟨h, h2⟩)).symm.trans HD.out)
   go_enter Try.func45, Try.ntmps45
   go_wp2
   go_ret
   exact ⟨congrArg (fun b => Ending.returned (.bool b)) H.out, rfl⟩
  ·have H := Hid.mk ((decide_eq_false (show ¬ (5 ≤ x ∧ x ≤ 7) from fun q => h2 q.2)).symm.trans HD.out)
   go_enter Try.func45, Try.ntmps45
   go_wp2
   go_ret
   exact ⟨congrArg (fun b => Ending.returned (.bool b)) H.out, rfl⟩
 ·have H := Hid.mk ((decide_eq_false (show ¬ (5 ≤ x ∧ x ≤ 7) from fun q => h q.1)).symm.trans HD.out)
  go_enter Try.func45, Try.ntmps45
  go_wp2
  go_ret
  exact ⟨congrArg (fun b => Ending.returned (.bool b)) H.out, rfl⟩

theorem drX2 (cb : Nat) (v : Value) (zs : List Int) (w : World) (h : Cur w cb v zs) :
  Calls Try.prog 28 #[.pointer (some ⟨cb, 0, none⟩), .int .i64 2] w fun e w' => ∃ t u, e = .returned (xx t.k t.n t.s u) ∧ DxS 2 t ∧ El w' (nf w' (w.heap.size + 1)) t.l u ∧ Cur w' cb v zs ∧ w.grownBy w' (some cb) :=
 drX_any 2 (by omega) cb v zs w h

set_option maxHeartbeats 4000000 in
theorem drY_of (d : Nat) (hd : d ≤ 100) (ih : ∀ d', d = d' + 1 → DrL d') : DrY d := by
 intro cb v zs w fn h
 have hlt := h.lt
 have HNE : Hid (w.heap.size ≠ cb) := by show _ ≠ _; omega
 have HV : Hid (zs ≠ [] → ∀ k, v.ownBlock = some k → k < w.heap.size) := fun hz k hk => h.1.lt hz k hk
 have HC0 := Hid.mk (h.grow ((Below.refl _ _).alloc (Nat.le_refl _) (.cells #[.int .i64 0, .string ⟨#[]⟩, .string ⟨#[]⟩, .slice none 0 0, .slice none 0 0, .slice none 0 0] 31)))
 have HB0 := Hid.mk (Bz6.new w (.int .i64 0) (.string ⟨#[]⟩) (.string ⟨#[]⟩) (.slice none 0 0) (.slice none 0 0) (.slice none 0 0))
 have HG0 := Hid.mk (gy_alloc w cb (.cells #[.int .i64 0, .string ⟨#[]⟩, .string ⟨#[]⟩, .slice none 0 0, .slice none 0 0, .slice none 0 0] 31))
 have HFIN : Hid (∀ (W : World) (q : Yv) (n1 n2 n3 : Nat), Yq d W (w.heap.size + 1) n1 n2 n3 q → Cur W cb v zs → w.grownBy W (some cb) → Yq d (box6 W w.heap.size (.int .i64 q.t.k) (.string q.t.s) (.string q.t.t) q.x q.a q.b) (w.heap.size + 1) n1 n2 n3 q ∧ Cur (box6 W w.heap.size (.int .i64 q.t.k) (.string q.t.s) (.string q.t.t) q.x q.a q.b) cb v zs ∧ w.grownBy (box6 W w.heap.size (.int .i64 q.t.k) (.string q.t.s) (.string q.t.t) q.x q.a q.b) (some cb)) := by
  intro W q n1 n2 n3 h2 h3 h4
  exact ⟨h2.by (box6_by _ _ _ _ _ _ _ _) (by omega), h3.box6 HNE.out (fun hz k hk => by have := HV.out hz k hk; omega) _ _ _ _ _ _, gy_far h4 (box6_by _ _ _ _ _ _ _ _) (Nat.le_refl _)⟩
 have IH := Hid.mk ih
 clear h ih
 obtain ⟨D, hD⟩ : ∃ D : Int, (d : Int) = D := ⟨_, rfl⟩
 rw [hD]
 go_enter Try.func33, Try.ntmps33
 go_upto_region 1 with fail
 have hs1 : w.heap.size < (w.alloc (.cells #[.int .i64 0, .string ⟨#[]⟩, .string ⟨#[]⟩, .slice none 0 0, .slice none 0 0, .slice none 0 0] 31)).heap.size := HB0.out.lt
 generalize w.alloc (.cells #[.int .i64 0, .string ⟨#[]⟩, .string ⟨#[]⟩, .slice none 0 0, .slice none 0 0, .slice none 0 0] 31) = w1 at *
 go_wp2_with fail
 refine (l1Int_any cb w1.heap.size 17 v zs [1, 1, 2, 2, 2, 3, 3, 4, 5, 5, 6, 7, 8, 9, 10, 11, 12] _ (HC0.out.grow ((Below.refl _ _).alloc (Nat.le_refl _) _)) rfl (by omega) (by omega) (heap_alloc_new w1 _) (by have := HC0.out.lt; omega)).mono ?_
 rintro e w2 ⟨K, rfl, hK, hC2, hg2⟩
 have hK1 : 1 ≤ K ∧ K ≤ 12 := by
  simp only [List.mem_cons, List.not_mem_nil, or_false] at hK
  omega
 have HB2 := Hid.mk ((HB0.out.grow ((Below.refl _ _).alloc (Nat.le_refl _) _)).row hg2 (fun g e => by cases e; exact fun e => HNE.out e.symm))
 have HG2 := Hid.mk (grownBy_trans (gy_new HG0.out _) hg2)
 have HC2 := Hid.mk hC2
 clear hK hC2 hg2 HB0 HG0 HC0
 go_upto_region 2 with fail
 go_cut [28] from 14 (fun s28 wx => ∃ b : Bool, s28 = .bool b ∧ (b = false → d = 0 → ¬ (5 ≤ K ∧ K ≤ 7)) ∧ Hid (Cur wx cb v zs) ∧ Hid (w.grownBy wx (some cb)) ∧ Hid (Bz6 wx w.heap.size (.int .i64 0) (.string ⟨#[]⟩) (.string ⟨#[]⟩) (.slice none 0 0) (.slice none 0 0) (.slice none 0 0)))
 case first =>
  by_cases hd0 : d = 0
  ·obtain rfl : D = 0 := by omega
   go_wp2_with fail
   by_cases h57 : 5 ≤ K ∧ K ≤ 7
   ·refine (in57_any K true (decide_eq_true h57) _).mono ?_
    rintro e w' ⟨rfl, rfl⟩
    go_wp2_with fail
    go_meet
    case rel => exact ⟨true, rfl, fun h => by (cases h), HC2, HG2, HB2⟩
   ·refine (in57_any K false (decide_eq_false h57) _).mono ?_
    rintro e w' ⟨rfl, rfl⟩
    by_cases h9 : K = 9
    ·subst h9
     go_wp2_with fail
     refine (l1Once_any cb v zs 4 _ HC2.out).mono ?_
     rintro e w3 ⟨b, rfl, hC, hg⟩
     have HB3 := Hid.mk (HB2.out.row hg (fun g e => by cases e; exact fun e => HNE.out e.symm))
     have HG3 := Hid.mk (grownBy_trans HG2.out hg)
     have HC3 := Hid.mk hC
     clear hC hg HB2 HG2 HC2
     cases b with
     | true =>
      go_wp2_with fail
      go_meet
      case rel => exact ⟨_, rfl, fun _ _ => by omega, HC3, HG3, HB3⟩
     | false =>
      go_wp2_with fail
      go_meet
      case rel => exact ⟨_, rfl, fun _ _ => by omega, HC3, HG3, HB3⟩
    ·have h9b : (K == 9) = false := beq_eq_false_iff_ne.2 h9
     go_wp2_with fail
     go_meet
     case rel => exact ⟨_, rfl, fun _ _ => by omega, HC2, HG2, HB2⟩
  ·have hDb : (D == 0) = false := beq_eq_false_iff_ne.2 (by omega)
   by_cases h9 : K = 9
   ·subst h9
    go_wp2_with fail
    refine (l1Once_any cb v zs 4 _ HC2.out).mono ?_
    rintro e w3 ⟨b, rfl, hC, hg⟩
    have HB3 := Hid.mk (HB2.out.row hg (fun g e => by cases e; exact fun e => HNE.out e.symm))
    have HG3 := Hid.mk (grownBy_trans HG2.out hg)
    have HC3 := Hid.mk hC
    clear hC hg HB2 HG2 HC2
    cases b with
    | true =>
     go_wp2_with fail
     go_meet
     case rel => exact ⟨_, rfl, fun _ _ => by omega, HC3, HG3, HB3⟩
    | false =>
     go_wp2_with fail
     go_meet
     case rel => exact ⟨_, rfl, fun _ _ => by omega, HC3, HG3, HB3⟩
   ·have h9b : (K == 9) = false := beq_eq_false_iff_ne.2 h9
    go_wp2_with fail
    go_meet
    case rel => exact ⟨_, rfl, fun _ _ => by omega, HC2, HG2, HB2⟩
 case rest =>
  obtain ⟨b, rfl, hb, HC3, HG3, HB3⟩ := hcut
  clear HC2 HG2 HB2
  go_upto_if 28 with fail
  go_cut [7] from 14 (fun s7 wx => ∃ K : Int, s7 = .int .i64 K ∧ 1 ≤ K ∧ K ≤ 12 ∧ (d = 0 → ¬ (5 ≤ K ∧ K ≤ 7)) ∧ Hid (Cur wx cb v zs) ∧ Hid (w.grownBy wx (some cb)) ∧ Hid (Bz6 wx w.heap.size (.int .i64 0) (.string ⟨#[]⟩) (.string ⟨#[]⟩) (.slice none 0 0) (.slice none 0 0) (.slice none 0 0)))
  case first =>
   cases b with
   | true =>
    go_wp2_with fail
    go_meet
    case rel => exact ⟨2, rfl, by omega, by omega, fun _ => by omega, HC3, HG3, HB3⟩
   | false =>
    go_wp2_with fail
    go_meet
    case rel => exact ⟨K, rfl, hK1.1, hK1.2, fun h => by first | exact hb rfl h | exact hb trivial h | (simp only [true_implies, forall_const] at hb; exact hb h), HC3, HG3, HB3⟩
  case rest =>
   clear HC3 HG3 HB3 hb hK1
   obtain ⟨K, rfl, hK1, hK2, hK0, HC3, HG3, HB3⟩ := hcut
   go_upto_region 4 with fail
   go_cut [34] from 14 (fun s34 wx => ∃ c : Bool, s34 = .bool c ∧ Hid (Cur wx cb v zs) ∧ Hid (w.grownBy wx (some cb)) ∧ Hid (Bz6 wx w.heap.size (.int .i64 0) (.string ⟨#[]⟩) (.string ⟨#[]⟩) (.slice none 0 0) (.slice none 0 0) (.slice none 0 0)))
   case first =>
    by_cases h8 : K = 8
    ·subst h8
     go_wp2_with fail
     go_meet
     case rel => exact ⟨_, rfl, HC3, HG3, HB3⟩
    ·have h8b : (K == 8) = false := beq_eq_false_iff_ne.2 h8
     go_wp2_with fail
     go_meet
     case rel => exact ⟨_, rfl, HC3, HG3, HB3⟩
   case rest =>
    clear HC3 HG3 HB3
    obtain ⟨c, rfl, HC3, HG3, HB3⟩ := hcut
    go_upto_if 34 with fail
    go_cut [7] from 14 (fun s7 wx => ∃ K : Int, s7 = .int .i64 K ∧ 1 ≤ K ∧ K ≤ 12 ∧ (d = 0 → ¬ (5 ≤ K ∧ K ≤ 7)) ∧ Hid (Cur wx cb v zs) ∧ Hid (w.grownBy wx (some cb)) ∧ Hid (Bz6 wx w.heap.size (.int .i64 0) (.string ⟨#[]⟩) (.string ⟨#[]⟩) (.slice none 0 0) (.slice none 0 0) (.slice none 0 0)))
    case first =>
     cases c with
     | true =>
      cases fn with
      | true =>
       go_wp2_with fail
       go_meet
       case rel => exact ⟨10, rfl, by omega, by omega, fun _ => by omega, HC3, HG3, HB3⟩
      | false =>
       go_wp2_with fail
       go_meet
       case rel => exact ⟨8, rfl, by omega, by omega, fun _ => by omega, HC3, HG3, HB3⟩
     | false =>
      go_wp2_with fail
      go_meet
      case rel => exact ⟨K, rfl, hK1, hK2, hK0, HC3, HG3, HB3⟩
    case rest =>
     clear HC3 HG3 HB3 hK1 hK2 hK0
     clear K c
     obtain ⟨K, rfl, hK1, hK2, hK0, HC3, HG3, HB3⟩ := hcut
     generalize wc = w2 at *
     have HX3 := Hid.mk (Bz6.new w2 (.int .i64 K) (.string ⟨#[]⟩) (.string ⟨#[]⟩) (.slice none 0 0) (.slice none 0 0) (.slice none 0 0))
     have A3 : Below w2.heap.size w2 (w2.alloc (.cells #[.int .i64 K, .string ⟨#[]⟩, .string ⟨#[]⟩, .slice none 0 0, .slice none 0 0, .slice none 0 0] 31)) := (Below.refl _ _).alloc (Nat.le_refl _) _
     have HB4 := Hid.mk (HB3.out.grow A3)
     have HG4 := Hid.mk (gy_below HG3.out A3)
     have HC4 := Hid.mk (HC3.out.grow A3)
     have hrb : w.heap.size ≤ w2.heap.size := HG3.out.size
     have hrb2 : w.heap.size < w2.heap.size := HB3.out.lt
     have hrne : w2.heap.size ≠ cb := by have := HC3.out.lt; omega
     clear HB3 HG3 HC3 A3
     go_upto_block 0 with fail
     generalize w2.alloc (.cells #[.int .i64 K, .string ⟨#[]⟩, .string ⟨#[]⟩, .slice none 0 0, .slice none 0 0, .slice none 0 0] 31) = w3 at *
     generalize w2.heap.size = rb at *
     go_cut [9] from 39 (fun s9 wx => ∃ (N : Nat) (S T : ByteArray), s9 = .int .i64 N ∧ N ≤ 2 ∧ (K = 12 → N = 1) ∧ S.size ≤ 100 ∧ T.size ≤ 100 ∧ Hid (Cur wx cb v zs) ∧ Hid (w.grownBy wx (some cb)) ∧ Hid (Bz6 wx rb (.int .i64 K) (.string S) (.string T) (.slice none 0 0) (.slice none 0 0) (.slice none 0 0)) ∧ Hid (Bz6 wx w.heap.size (.int .i64 0) (.string ⟨#[]⟩) (.string ⟨#[]⟩) (.slice none 0 0) (.slice none 0 0) (.slice none 0 0)))
     case first =>
      by_cases hk1 : K = 1
      ·subst hk1
       go_wp2_with fail
       refine (l1Below_any cb v zs 2 _ HC4.out).mono ?_
       rintro e w6 ⟨n, rfl, hn0, hn1, -, hC6, hg6⟩
       have hn3 := hn1 (by omega)
       obtain ⟨N, rfl⟩ := Int.eq_ofNat_of_zero_le hn0
       have HX6 := Hid.mk (HX3.out.row hg6 (fun g e => by cases e; exact fun e => hrne e.symm))
       have HB6 := Hid.mk (HB4.out.row hg6 (fun g e => by cases e; exact fun e => HNE.out e.symm))
       have HG6 := Hid.mk (grownBy_trans HG4.out hg6)
       have HC6 := Hid.mk hC6
       clear hC6 hg6 hn1
       go_wp2
       go_meet
       case rel => exact ⟨(1 + N), ⟨#[]⟩, ⟨#[]⟩, by first | rfl | go_num, by omega, by omega, by decide, by decide, HC6, HG6, HX6, HB6⟩
      by_cases hk2 : K = 2
      ·subst hk2
       go_wp2_with fail
       refine (l1Str_any cb w3.heap.size 2 v zs [⟨#[120]⟩, ⟨#[121]⟩] _ (HC4.out.grow ((Below.refl _ _).alloc (Nat.le_refl _) _)) rfl (by omega) (by omega) (heap_alloc_new w3 _) (by have := HC4.out.lt; omega)).mono ?_
       rintro e w5 ⟨y, rfl, hm, hC, hg⟩
       have hy : y.size ≤ 100 := by
        simp only [List.mem_cons, List.not_mem_nil, or_false] at hm
        rcases hm with h | h <;> subst h <;> decide
       have HX5 := Hid.mk ((HX3.out.grow ((Below.refl _ _).alloc (Nat.le_refl _) _)).row hg (fun g e => by cases e; exact fun e => hrne e.symm))
       have HB5 := Hid.mk ((HB4.out.grow ((Below.refl _ _).alloc (Nat.le_refl _) _)).row hg (fun g e => by cases e; exact fun e => HNE.out e.symm))
       have HG5 := Hid.mk (grownBy_trans (gy_new HG4.out _) hg)
       have HC5 := Hid.mk hC
       clear hm hC hg
       have HXs5 := Hid.mk (HX5.out.put1 (.string y))
       have HBs5 := Hid.mk (HB5.out.row (gb_set w5 rb 1 (.string y)) (fun g e => by cases e; omega))
       have HGs5 := Hid.mk (gy_far HG5.out (gb_set w5 rb 1 (.string y)) hrb)
       have HCs5 := Hid.mk (HC5.out.row (gb_set w5 rb 1 (.string y)) (fun g e => by cases e; exact ⟨hrne, fun hz k hk => by have := HV.out hz k hk; omega⟩))
       have z5 := HX5.out.c1
       have zf5 := HX5.out.fr
       go_wp2
       go_meet
       case rel => exact ⟨1, y, ⟨#[]⟩, by first | rfl | go_num, by omega, by omega, hy, by decide, HCs5, HGs5, HXs5, HBs5⟩
      by_cases hk3 : K = 3
      ·subst hk3
       go_wp2_with fail
       refine (l1Str_any cb w3.heap.size 2 v zs [⟨#[116]⟩, ⟨#[117]⟩] _ (HC4.out.grow ((Below.refl _ _).alloc (Nat.le_refl _) _)) rfl (by omega) (by omega) (heap_alloc_new w3 _) (by have := HC4.out.lt; omega)).mono ?_
       rintro e w5 ⟨y, rfl, hm, hC, hg⟩
       have hy : y.size ≤ 100 := by
        simp only [List.mem_cons, List.not_mem_nil, or_false] at hm
        rcases hm with h | h <;> subst h <;> decide
       have HX5 := Hid.mk ((HX3.out.grow ((Below.refl _ _).alloc (Nat.le_refl _) _)).row hg (fun g e => by cases e; exact fun e => hrne e.symm))
       have HB5 := Hid.mk ((HB4.out.grow ((Below.refl _ _).alloc (Nat.le_refl _) _)).row hg (fun g e => by cases e; exact fun e => HNE.out e.symm))
       have HG5 := Hid.mk (grownBy_trans (gy_new HG4.out _) hg)
       have HC5 := Hid.mk hC
       clear hm hC hg
       have HXs5 := Hid.mk (HX5.out.put1 (.string y))
       have HBs5 := Hid.mk (HB5.out.row (gb_set w5 rb 1 (.string y)) (fun g e => by cases e; omega))
       have HGs5 := Hid.mk (gy_far HG5.out (gb_set w5 rb 1 (.string y)) hrb)
       have HCs5 := Hid.mk (HC5.out.row (gb_set w5 rb 1 (.string y)) (fun g e => by cases e; exact ⟨hrne, fun hz k hk => by have := HV.out hz k hk; omega⟩))
       have z5 := HX5.out.c1
       have zf5 := HX5.out.fr
       go_wp2
       go_meet
       case rel => exact ⟨2, y, ⟨#[]⟩, by first | rfl | go_num, by omega, by omega, hy, by decide, HCs5, HGs5, HXs5, HBs5⟩
      by_cases hk11 : K = 11
      ·subst hk11
       go_wp2_with fail
       refine (l1Str_any cb w3.heap.size 2 v zs [⟨#[116]⟩, ⟨#[117]⟩] _ (HC4.out.grow ((Below.refl _ _).alloc (Nat.le_refl _) _)) rfl (by omega) (by omega) (heap_alloc_new w3 _) (by have := HC4.out.lt; omega)).mono ?_
       rintro e w5 ⟨y, rfl, hm, hC, hg⟩
       have hy : y.size ≤ 100 := by
        simp only [List.mem_cons, List.not_mem_nil, or_false] at hm
        rcases hm with h | h <;> subst h <;> decide
       have HX5 := Hid.mk ((HX3.out.grow ((Below.refl _ _).alloc (Nat.le_refl _) _)).row hg (fun g e => by cases e; exact fun e => hrne e.symm))
       have HB5 := Hid.mk ((HB4.out.grow ((Below.refl _ _).alloc (Nat.le_refl _) _)).row hg (fun g e => by cases e; exact fun e => HNE.out e.symm))
       have HG5 := Hid.mk (grownBy_trans (gy_new HG4.out _) hg)
       have HC5 := Hid.mk hC
       clear hm hC hg
       have HXs5 := Hid.mk (HX5.out.put1 (.string y))
       have HBs5 := Hid.mk (HB5.out.row (gb_set w5 rb 1 (.string y)) (fun g e => by cases e; omega))
       have HGs5 := Hid.mk (gy_far HG5.out (gb_set w5 rb 1 (.string y)) hrb)
       have HCs5 := Hid.mk (HC5.out.row (gb_set w5 rb 1 (.string y)) (fun g e => by cases e; exact ⟨hrne, fun hz k hk => by have := HV.out hz k hk; omega⟩))
       have z5 := HX5.out.c1
       have zf5 := HX5.out.fr
       go_wp2
       go_meet
       case rel => exact ⟨1, y, ⟨#[]⟩, by first | rfl | go_num, by omega, by omega, hy, by decide, HCs5, HGs5, HXs5, HBs5⟩
      by_cases hk4 : K = 4
      ·subst hk4
       go_wp2_with fail
       go_meet
       case rel => exact ⟨2, ⟨#[]⟩, ⟨#[]⟩, by first | rfl | go_num, by omega, by omega, by decide, by decide, HC4, HG4, HX3, HB4⟩
      by_cases hk7 : K = 7
      ·subst hk7
       go_wp2_with fail
       refine (l1Str_any cb w3.heap.size 2 v zs [⟨#[120]⟩, ⟨#[121]⟩] _ (HC4.out.grow ((Below.refl _ _).alloc (Nat.le_refl _) _)) rfl (by omega) (by omega) (heap_alloc_new w3 _) (by have := HC4.out.lt; omega)).mono ?_
       rintro e w5 ⟨y, rfl, hm, hC, hg⟩
       have hy : y.size ≤ 100 := by
        simp only [List.mem_cons, List.not_mem_nil, or_false] at hm
        rcases hm with h | h <;> subst h <;> decide
       have HX5 := Hid.mk ((HX3.out.grow ((Below.refl _ _).alloc (Nat.le_refl _) _)).row hg (fun g e => by cases e; exact fun e => hrne e.symm))
       have HB5 := Hid.mk ((HB4.out.grow ((Below.refl _ _).alloc (Nat.le_refl _) _)).row hg (fun g e => by cases e; exact fun e => HNE.out e.symm))
       have HG5 := Hid.mk (grownBy_trans (gy_new HG4.out _) hg)
       have HC5 := Hid.mk hC
       clear hm hC hg
       have HXs5 := Hid.mk (HX5.out.put1 (.string y))
       have HBs5 := Hid.mk (HB5.out.row (gb_set w5 rb 1 (.string y)) (fun g e => by cases e; omega))
       have HGs5 := Hid.mk (gy_far HG5.out (gb_set w5 rb 1 (.string y)) hrb)
       have HCs5 := Hid.mk (HC5.out.row (gb_set w5 rb 1 (.string y)) (fun g e => by cases e; exact ⟨hrne, fun hz k hk => by have := HV.out hz k hk; omega⟩))
       have z5 := HX5.out.c1
       have zf5 := HX5.out.fr
       go_upto_region 24 with fail
       clear z5 zf5 HX5 HB5 HG5 HC5
       generalize w5.setCell ⟨rb, 1, none⟩ (.string y) = w7 at *
       go_wp2_with fail
       refine (l1Str_any cb w7.heap.size 2 v zs [⟨#[116]⟩, ⟨#[117]⟩] _ (HCs5.out.grow ((Below.refl _ _).alloc (Nat.le_refl _) _)) rfl (by omega) (by omega) (heap_alloc_new w7 _) (by have := HCs5.out.lt; omega)).mono ?_
       rintro e w8 ⟨x, rfl, hm, hC, hg⟩
       have hx : x.size ≤ 100 := by
        simp only [List.mem_cons, List.not_mem_nil, or_false] at hm
        rcases hm with h | h <;> subst h <;> decide
       have HX8 := Hid.mk ((HXs5.out.grow ((Below.refl _ _).alloc (Nat.le_refl _) _)).row hg (fun g e => by cases e; exact fun e => hrne e.symm))
       have HB8 := Hid.mk ((HBs5.out.grow ((Below.refl _ _).alloc (Nat.le_refl _) _)).row hg (fun g e => by cases e; exact fun e => HNE.out e.symm))
       have HG8 := Hid.mk (grownBy_trans (gy_new HGs5.out _) hg)
       have HC8 := Hid.mk hC
       clear hm hC hg
       have HXs8 := Hid.mk (HX8.out.put2 (.string x))
       have HBs8 := Hid.mk (HB8.out.row (gb_set w8 rb 2 (.string x)) (fun g e => by cases e; omega))
       have HGs8 := Hid.mk (gy_far HG8.out (gb_set w8 rb 2 (.string x)) hrb)
       have HCs8 := Hid.mk (HC8.out.row (gb_set w8 rb 2 (.string x)) (fun g e => by cases e; exact ⟨hrne, fun hz k hk => by have := HV.out hz k hk; omega⟩))
       have z8 := HX8.out.c2
       have zf8 := HX8.out.fr
       go_wp2
       go_meet
       case rel => exact ⟨0, y, x, by first | rfl | go_num, by omega, by omega, hy, hx, HCs8, HGs8, HXs8, HBs8⟩
      by_cases hk8 : K = 8
      ·subst hk8
       go_wp2_with fail
       go_meet
       case rel => exact ⟨0, ⟨#[]⟩, ⟨#[]⟩, by first | rfl | go_num, by omega, by omega, by decide, by decide, HC4, HG4, HX3, HB4⟩
      have hb1 : (K == 1) = false := beq_eq_false_iff_ne.2 hk1
      have hb2 : (K == 2) = false := beq_eq_false_iff_ne.2 hk2
      have hb3 : (K == 3) = false := beq_eq_false_iff_ne.2 hk3
      have hb11 : (K == 11) = false := beq_eq_false_iff_ne.2 hk11
      have hb4 : (K == 4) = false := beq_eq_false_iff_ne.2 hk4
      have hb7 : (K == 7) = false := beq_eq_false_iff_ne.2 hk7
      have hb8 : (K == 8) = false := beq_eq_false_iff_ne.2 hk8
      go_wp2_with fail
      go_meet
      case rel => exact ⟨1, ⟨#[]⟩, ⟨#[]⟩, by first | rfl | go_num, by omega, by omega, by decide, by decide, HC4, HG4, HX3, HB4⟩
     case rest =>
      obtain ⟨N, S, T, rfl, hN, hN12, hS, hT, HC5, HG5, HX5, HB5⟩ := hcut
      clear HX3 HB4 HG4 HC4
      go_wp2
      -- GEN
      go_loopw [10] (fun i wr => ∃ (k : Nat) (L : List Xv) (V : Value), k ≤ N ∧ i = .int .i64 k ∧ Hid (L.length = k) ∧ Hid (OwnX 2 wr (rb + 1) V L) ∧ Hid (Bz6 wr rb (.int .i64 K) (.string S) (.string T) V (.slice none 0 0) (.slice none 0 0)) ∧ Hid (Bz6 wr w.heap.size (.int .i64 0) (.string ⟨#[]⟩) (.string ⟨#[]⟩) (.slice none 0 0) (.slice none 0 0) (.slice none 0 0)) ∧ Hid (Cur wr cb v zs) ∧ Hid (w.grownBy wr (some cb)) ∧ rb < wr.heap.size) (fun i _ => N - (intOf i).toNat)
      case atStart => exact ⟨0, [], _, Nat.zero_le _, rfl, rfl, OwnX.none _ _ _, HX5, HB5, HC5, HG5, HX5.out.lt⟩
      case round =>
       obtain ⟨k, L, V, hk, rfl, HL, HO, HX, HB, HC, HG, hrl⟩ := hrel
       clear HX5 HB5 HC5 HG5
       by_cases hkn : k < N
       ·have hkn' : (k : Int) < (N : Int) := by omega
        have HCd : Hid (Cur wr.drew cb v zs) := (HC.out.grow (Below.drewSelf _ _ 1))
        have HXd : Hid (Bz6 wr.drew rb (.int .i64 K) (.string S) (.string T) V (.slice none 0 0) (.slice none 0 0)) := (HX.out.grow (Below.drewSelf _ _ 1))
        have HBd : Hid (Bz6 wr.drew w.heap.size (.int .i64 0) (.string ⟨#[]⟩) (.string ⟨#[]⟩) (.slice none 0 0) (.slice none 0 0) (.slice none 0 0)) := (HB.out.grow (Below.drewSelf _ _ 1))
        have HOd : Hid (OwnX 2 wr.drew (rb + 1) V L) := (HO.out.grow (Below.drewSelf _ _ 1))
        have HGd : Hid (w.grownBy wr.drew (some cb)) := (gy_below HG.out (Below.drewSelf _ _ 1))
        have hrd : rb < wr.drew.heap.size := hrl
        have HROW : Hid (∀ k, V.ownBlock = some k → k < wr.drew.heap.size) := fun k hk => (World.ownsRow.lt HOd.out.1 k hk).2
        clear HC HX HB HO HG hrl
        go_wp2_with fail
        refine wp_region_held_drew (S := fun _ => True) (by kernel_rfl) trivial (fun _ => ?_)
        generalize wr.drew = wd at *
        refine takeHD (i := 0) (v := .pointer (some ⟨rb, 3, none⟩)) (some 81) rfl rfl (by kernel_rfl) (by kernel_rfl) (by kernel_rfl) (fun _ _ _ h => h) (Or.inl ⟨by kernel_rfl, fun w' hw => ?_⟩) trivial ?_
        ·kernel_rfl
        simp only [Act.put, List.setIfInBounds_toArray]
        refine takeHD (i := 2) (v := .pointer (some ⟨cb, 0, none⟩)) (some 83) rfl rfl (by kernel_rfl) (by kernel_rfl) (by kernel_rfl) (fun _ _ _ h => h) (Or.inl ⟨by kernel_rfl, fun w' hw => ?_⟩) trivial ?_
        ·kernel_rfl
        simp only [Act.put, List.setIfInBounds_toArray]
        refine wpAnyH_ready (rs := [1, 3]) (by kernel_rfl) (by simp) ?_
        refine AllReadyH.cons rfl (fun K hK => ?_) (AllReadyH.cons rfl (fun K hK => ?_) AllReadyH.nil)
        ·have x3 := HXd.out.c3
         rw [if_pos (by kernel_rfl)]
         go_wp2_with fail
         refine hK.out _ _ trivial (fun _ => ?_)
         clear hK K
         clear x3
         refine wpAnyH_ready (rs := [3]) (by kernel_rfl) (by simp) ?_
         refine AllReadyH.cons rfl (fun K hK => ?_) AllReadyH.nil
         rw [if_pos (by kernel_rfl)]
         go_wp2_with fail
         refine (drX2 cb v zs _ HCd.out).mono ?_
         rintro e w9 ⟨t, u, rfl, hd9, he9, hC9, hg9⟩
         have HX9 := Hid.mk (HXd.out.row hg9 (fun g e => by cases e; exact fun e => hrne e.symm))
         have HB9 := Hid.mk (HBd.out.row hg9 (fun g e => by cases e; exact fun e => HNE.out e.symm))
         have HO9 := Hid.mk (HOd.out.by hg9 (by omega))
         have HG9 := Hid.mk (grownBy_trans HGd.out hg9)
         have HC9 := Hid.mk hC9
         have s9 : wd.heap.size ≤ w9.heap.size := hg9.size
         have HE9 := Hid.mk he9
         have HD9 := Hid.mk hd9
         obtain ⟨uo, uc, rfl, -, -, -⟩ := he9.len
         clear hd9 he9 hC9 hg9 HXd HBd HOd HGd HCd
         refine hK.out _ _ trivial (fun _ => ?_)
         clear hK K
         refine wpAnyH_ready (rs := [4]) (by kernel_rfl) (by simp) ?_
         refine AllReadyH.cons rfl (fun K hK => ?_) AllReadyH.nil
         rw [if_pos (by kernel_rfl)]
         go_wp2_with fail
         refine hK.out _ _ trivial (fun _ => ?_)
         clear hK K
         have A9 : Below w9.heap.size w9 (w9.alloc (.cells #[.int .i64 t.k, .int .i64 t.n, .string t.s, .slice uo t.l.length uc] 26)) := (Below.refl _ _).alloc (Nat.le_refl _) _
         have HN := Hid.mk (heap_alloc_new w9 (.cells #[.int .i64 t.k, .int .i64 t.n, .string t.s, .slice uo t.l.length uc] 26))
         have HX2 := Hid.mk (HX9.out.grow A9)
         have HB2 := Hid.mk (HB9.out.grow A9)
         have HO2 := Hid.mk (HO9.out.grow A9)
         have HE2 := Hid.mk (HE9.out.nfgrow A9)
         have HG2 := Hid.mk (gy_below HG9.out A9)
         have HC2 := Hid.mk (HC9.out.grow A9)
         have s2 : rb < (w9.alloc (.cells #[.int .i64 t.k, .int .i64 t.n, .string t.s, .slice uo t.l.length uc] 26)).heap.size := by have := A9.size; omega
         clear HX9 HB9 HO9 HE9 HG9 HC9 A9
         generalize w9.heap.size = lb at *
         generalize w9.alloc (.cells #[.int .i64 t.k, .int .i64 t.n, .string t.s, .slice uo t.l.length uc] 26) = w2 at *
         refine wpAnyH_ready (rs := [5]) (by kernel_rfl) (by simp) ?_
         refine AllReadyH.cons rfl (fun K hK => ?_) AllReadyH.nil
         rw [if_pos (by kernel_rfl)]
         refine wp_append_x (.tmp 82) (.tmp 85) rfl 2 (rb + 1) (wd.heap.size + 1) V L t (.slice uo t.l.length uc) rfl HO2.out lb rfl HN.out HE2.out HD9.out (by omega) (fun k hk => by have := HROW.out k hk; omega) (by omega) (by have := HL.out; omega) ?_
         rintro V' w4 hO4 ⟨row, hr4, hg4⟩
         obtain ⟨vo, vn, vc, rfl⟩ : ∃ vo vn vc, V' = .slice vo vn vc := by obtain ⟨o, c, h, -⟩ := hO4.el.1.len; exact ⟨_, _, _, h⟩
         have HX4 := Hid.mk (HX2.out.row hg4 (fun g e => by have := hr4 g e; omega))
         have HB4 := Hid.mk (HB2.out.row hg4 (fun g e => by have := hr4 g e; omega))
         have HC4 := Hid.mk (HC2.out.row hg4 (fun g e => by have := hr4 g e; exact ⟨by omega, fun hz k hk => by have := HV.out hz k hk; omega⟩))
         have HG4 := Hid.mk (gy_row HG2.out hg4 (fun g e => by have := hr4 g e; omega))
         have HO4 := Hid.mk hO4
         have s4 : rb < w4.heap.size := by have := hg4.size; omega
         clear HX2 HB2 HC2 HG2 HO2 HE2 HN hO4 hr4 hg4
         refine hK.out _ _ trivial (fun _ => ?_)
         clear hK K
         refine takeHD (i := 6) (v := .pointer (some ⟨rb, 3, none⟩)) (some 87) rfl rfl (by kernel_rfl) (by kernel_rfl) (by kernel_rfl) (fun _ _ _ h => h) (Or.inl ⟨by kernel_rfl, fun w' hw => ?_⟩) trivial ?_
         ·kernel_rfl
         simp only [Act.put, List.setIfInBounds_toArray]
         refine wpAnyH_ready (rs := [7]) (by kernel_rfl) (by simp) ?_
         refine AllReadyH.cons rfl (fun K hK => ?_) AllReadyH.nil
         have x3 := HX4.out.c3
         have xf := HX4.out.fr
         rw [if_pos (by kernel_rfl)]
         go_wp2_with fail
         refine hK.out _ _ trivial (fun _ => ?_)
         clear hK K
         clear x3 xf
         have HX5 := Hid.mk (HX4.out.put3 (.slice vo vn vc))
         have HB5 := Hid.mk (HB4.out.row (gb_set w4 rb 3 (.slice vo vn vc)) (fun g e => by cases e; omega))
         have HG5 := Hid.mk (gy_far HG4.out (gb_set w4 rb 3 (.slice vo vn vc)) hrb)
         have HC5 := Hid.mk (HC4.out.row (gb_set w4 rb 3 (.slice vo vn vc)) (fun g e => by cases e; exact ⟨hrne, fun hz k hk => by have := HV.out hz k hk; omega⟩))
         have HO5 := Hid.mk (HO4.out.by (gb_set w4 rb 3 (.slice vo vn vc)) (by omega))
         have s5 : rb < (w4.setCell ⟨rb, 3, none⟩ (.slice vo vn vc)).heap.size := HX5.out.lt
         clear HX4 HB4 HG4 HC4 HO4
         refine wpAnyH_done (by kernel_rfl) ?_ _
         go_wp2
         go_roundw
         case rel => exact ⟨k + 1, L ++ [(t, .slice uo t.l.length uc)], (.slice vo vn vc), by omega, by first | rfl | go_num, (by show _ = _; have := HL.out; simp; omega), HO5, HX5, HB5, HC5, HG5, s5⟩
         case measure => simp [intOf]; omega
        ·rw [if_pos (by kernel_rfl)]
         go_wp2_with fail
         refine (drX2 cb v zs _ HCd.out).mono ?_
         rintro e w9 ⟨t, u, rfl, hd9, he9, hC9, hg9⟩
         have HX9 := Hid.mk (HXd.out.row hg9 (fun g e => by cases e; exact fun e => hrne e.symm))
         have HB9 := Hid.mk (HBd.out.row hg9 (fun g e => by cases e; exact fun e => HNE.out e.symm))
         have HO9 := Hid.mk (HOd.out.by hg9 (by omega))
         have HG9 := Hid.mk (grownBy_trans HGd.out hg9)
         have HC9 := Hid.mk hC9
         have s9 : wd.heap.size ≤ w9.heap.size := hg9.size
         have HE9 := Hid.mk he9
         have HD9 := Hid.mk hd9
         obtain ⟨uo, uc, rfl, -, -, -⟩ := he9.len
         clear hd9 he9 hC9 hg9 HXd HBd HOd HGd HCd
         refine hK.out _ _ trivial (fun _ => ?_)
         clear hK K
         refine wpAnyH_ready (rs := [1, 4]) (by kernel_rfl) (by simp) ?_
         refine AllReadyH.cons rfl (fun K hK => ?_) (AllReadyH.cons rfl (fun K hK => ?_) AllReadyH.nil)
         ·have x3 := HX9.out.c3
          rw [if_pos (by kernel_rfl)]
          go_wp2_with fail
          refine hK.out _ _ trivial (fun _ => ?_)
          clear hK K
          clear x3
          refine wpAnyH_ready (rs := [4]) (by kernel_rfl) (by simp) ?_
          refine AllReadyH.cons rfl (fun K hK => ?_) AllReadyH.nil
          rw [if_pos (by kernel_rfl)]
          go_wp2_with fail
          refine hK.out _ _ trivial (fun _ => ?_)
          clear hK K
          have A9 : Below w9.heap.size w9 (w9.alloc (.cells #[.int .i64 t.k, .int .i64 t.n, .string t.s, .slice uo t.l.length uc] 26)) := (Below.refl _ _).alloc (Nat.le_refl _) _
          have HN := Hid.mk (heap_alloc_new w9 (.cells #[.int .i64 t.k, .int .i64 t.n, .string t.s, .slice uo t.l.length uc] 26))
          have HX2 := Hid.mk (HX9.out.grow A9)
          have HB2 := Hid.mk (HB9.out.grow A9)
          have HO2 := Hid.mk (HO9.out.grow A9)
          have HE2 := Hid.mk (HE9.out.nfgrow A9)
          have HG2 := Hid.mk (gy_below HG9.out A9)
          have HC2 := Hid.mk (HC9.out.grow A9)
          have s2 : rb < (w9.alloc (.cells #[.int .i64 t.k, .int .i64 t.n, .string t.s, .slice uo t.l.length uc] 26)).heap.size := by have := A9.size; omega
          clear HX9 HB9 HO9 HE9 HG9 HC9 A9
          generalize w9.heap.size = lb at *
          generalize w9.alloc (.cells #[.int .i64 t.k, .int .i64 t.n, .string t.s, .slice uo t.l.length uc] 26) = w2 at *
          refine wpAnyH_ready (rs := [5]) (by kernel_rfl) (by simp) ?_
          refine AllReadyH.cons rfl (fun K hK => ?_) AllReadyH.nil
          rw [if_pos (by kernel_rfl)]
          refine wp_append_x (.tmp 82) (.tmp 85) rfl 2 (rb + 1) (wd.heap.size + 1) V L t (.slice uo t.l.length uc) rfl HO2.out lb rfl HN.out HE2.out HD9.out (by omega) (fun k hk => by have := HROW.out k hk; omega) (by omega) (by have := HL.out; omega) ?_
          rintro V' w4 hO4 ⟨row, hr4, hg4⟩
          obtain ⟨vo, vn, vc, rfl⟩ : ∃ vo vn vc, V' = .slice vo vn vc := by obtain ⟨o, c, h, -⟩ := hO4.el.1.len; exact ⟨_, _, _, h⟩
          have HX4 := Hid.mk (HX2.out.row hg4 (fun g e => by have := hr4 g e; omega))
          have HB4 := Hid.mk (HB2.out.row hg4 (fun g e => by have := hr4 g e; omega))
          have HC4 := Hid.mk (HC2.out.row hg4 (fun g e => by have := hr4 g e; exact ⟨by omega, fun hz k hk => by have := HV.out hz k hk; omega⟩))
          have HG4 := Hid.mk (gy_row HG2.out hg4 (fun g e => by have := hr4 g e; omega))
          have HO4 := Hid.mk hO4
          have s4 : rb < w4.heap.size := by have := hg4.size; omega
          clear HX2 HB2 HC2 HG2 HO2 HE2 HN hO4 hr4 hg4
          refine hK.out _ _ trivial (fun _ => ?_)
          clear hK K
          refine takeHD (i := 6) (v := .pointer (some ⟨rb, 3, none⟩)) (some 87) rfl rfl (by kernel_rfl) (by kernel_rfl) (by kernel_rfl) (fun _ _ _ h => h) (Or.inl ⟨by kernel_rfl, fun w' hw => ?_⟩) trivial ?_
          ·kernel_rfl
          simp only [Act.put, List.setIfInBounds_toArray]
          refine wpAnyH_ready (rs := [7]) (by kernel_rfl) (by simp) ?_
          refine AllReadyH.cons rfl (fun K hK => ?_) AllReadyH.nil
          have x3 := HX4.out.c3
          have xf := HX4.out.fr
          rw [if_pos (by kernel_rfl)]
          go_wp2_with fail
          refine hK.out _ _ trivial (fun _ => ?_)
          clear hK K
          clear x3 xf
          have HX5 := Hid.mk (HX4.out.put3 (.slice vo vn vc))
          have HB5 := Hid.mk (HB4.out.row (gb_set w4 rb 3 (.slice vo vn vc)) (fun g e => by cases e; omega))
          have HG5 := Hid.mk (gy_far HG4.out (gb_set w4 rb 3 (.slice vo vn vc)) hrb)
          have HC5 := Hid.mk (HC4.out.row (gb_set w4 rb 3 (.slice vo vn vc)) (fun g e => by cases e; exact ⟨hrne, fun hz k hk => by have := HV.out hz k hk; omega⟩))
          have HO5 := Hid.mk (HO4.out.by (gb_set w4 rb 3 (.slice vo vn vc)) (by omega))
          have s5 : rb < (w4.setCell ⟨rb, 3, none⟩ (.slice vo vn vc)).heap.size := HX5.out.lt
          clear HX4 HB4 HG4 HC4 HO4
          refine wpAnyH_done (by kernel_rfl) ?_ _
          go_wp2
          go_roundw
          case rel => exact ⟨k + 1, L ++ [(t, .slice uo t.l.length uc)], (.slice vo vn vc), by omega, by first | rfl | go_num, (by show _ = _; have := HL.out; simp; omega), HO5, HX5, HB5, HC5, HG5, s5⟩
          case measure => simp [intOf]; omega
         ·rw [if_pos (by kernel_rfl)]
          go_wp2_with fail
          refine hK.out _ _ trivial (fun _ => ?_)
          clear hK K
          have A9 : Below w9.heap.size w9 (w9.alloc (.cells #[.int .i64 t.k, .int .i64 t.n, .string t.s, .slice uo t.l.length uc] 26)) := (Below.refl _ _).alloc (Nat.le_refl _) _
          have HN := Hid.mk (heap_alloc_new w9 (.cells #[.int .i64 t.k, .int .i64 t.n, .string t.s, .slice uo t.l.length uc] 26))
          have HX2 := Hid.mk (HX9.out.grow A9)
          have HB2 := Hid.mk (HB9.out.grow A9)
          have HO2 := Hid.mk (HO9.out.grow A9)
          have HE2 := Hid.mk (HE9.out.nfgrow A9)
          have HG2 := Hid.mk (gy_below HG9.out A9)
          have HC2 := Hid.mk (HC9.out.grow A9)
          have s2 : rb < (w9.alloc (.cells #[.int .i64 t.k, .int .i64 t.n, .string t.s, .slice uo t.l.length uc] 26)).heap.size := by have := A9.size; omega
          clear HX9 HB9 HO9 HE9 HG9 HC9 A9
          generalize w9.heap.size = lb at *
          generalize w9.alloc (.cells #[.int .i64 t.k, .int .i64 t.n, .string t.s, .slice uo t.l.length uc] 26) = w2 at *
          refine wpAnyH_ready (rs := [1]) (by kernel_rfl) (by simp) ?_
          refine AllReadyH.cons rfl (fun K hK => ?_) AllReadyH.nil
          have x3 := HX2.out.c3
          rw [if_pos (by kernel_rfl)]
          go_wp2_with fail
          refine hK.out _ _ trivial (fun _ => ?_)
          clear hK K
          clear x3
          refine wpAnyH_ready (rs := [5]) (by kernel_rfl) (by simp) ?_
          refine AllReadyH.cons rfl (fun K hK => ?_) AllReadyH.nil
          rw [if_pos (by kernel_rfl)]
          refine wp_append_x (.tmp 82) (.tmp 85) rfl 2 (rb + 1) (wd.heap.size + 1) V L t (.slice uo t.l.length uc) rfl HO2.out lb rfl HN.out HE2.out HD9.out (by omega) (fun k hk => by have := HROW.out k hk; omega) (by omega) (by have := HL.out; omega) ?_
          rintro V' w4 hO4 ⟨row, hr4, hg4⟩
          obtain ⟨vo, vn, vc, rfl⟩ : ∃ vo vn vc, V' = .slice vo vn vc := by obtain ⟨o, c, h, -⟩ := hO4.el.1.len; exact ⟨_, _, _, h⟩
          have HX4 := Hid.mk (HX2.out.row hg4 (fun g e => by have := hr4 g e; omega))
          have HB4 := Hid.mk (HB2.out.row hg4 (fun g e => by have := hr4 g e; omega))
          have HC4 := Hid.mk (HC2.out.row hg4 (fun g e => by have := hr4 g e; exact ⟨by omega, fun hz k hk => by have := HV.out hz k hk; omega⟩))
          have HG4 := Hid.mk (gy_row HG2.out hg4 (fun g e => by have := hr4 g e; omega))
          have HO4 := Hid.mk hO4
          have s4 : rb < w4.heap.size := by have := hg4.size; omega
          clear HX2 HB2 HC2 HG2 HO2 HE2 HN hO4 hr4 hg4
          refine hK.out _ _ trivial (fun _ => ?_)
          clear hK K
          refine takeHD (i := 6) (v := .pointer (some ⟨rb, 3, none⟩)) (some 87) rfl rfl (by kernel_rfl) (by kernel_rfl) (by kernel_rfl) (fun _ _ _ h => h) (Or.inl ⟨by kernel_rfl, fun w' hw => ?_⟩) trivial ?_
          ·kernel_rfl
          simp only [Act.put, List.setIfInBounds_toArray]
          refine wpAnyH_ready (rs := [7]) (by kernel_rfl) (by simp) ?_
          refine AllReadyH.cons rfl (fun K hK => ?_) AllReadyH.nil
          have x3 := HX4.out.c3
          have xf := HX4.out.fr
          rw [if_pos (by kernel_rfl)]
          go_wp2_with fail
          refine hK.out _ _ trivial (fun _ => ?_)
          clear hK K
          clear x3 xf
          have HX5 := Hid.mk (HX4.out.put3 (.slice vo vn vc))
          have HB5 := Hid.mk (HB4.out.row (gb_set w4 rb 3 (.slice vo vn vc)) (fun g e => by cases e; omega))
          have HG5 := Hid.mk (gy_far HG4.out (gb_set w4 rb 3 (.slice vo vn vc)) hrb)
          have HC5 := Hid.mk (HC4.out.row (gb_set w4 rb 3 (.slice vo vn vc)) (fun g e => by cases e; exact ⟨hrne, fun hz k hk => by have := HV.out hz k hk; omega⟩))
          have HO5 := Hid.mk (HO4.out.by (gb_set w4 rb 3 (.slice vo vn vc)) (by omega))
          have s5 : rb < (w4.setCell ⟨rb, 3, none⟩ (.slice vo vn vc)).heap.size := HX5.out.lt
          clear HX4 HB4 HG4 HC4 HO4
          refine wpAnyH_done (by kernel_rfl) ?_ _
          go_wp2
          go_roundw
          case rel => exact ⟨k + 1, L ++ [(t, .slice uo t.l.length uc)], (.slice vo vn vc), by omega, by first | rfl | go_num, (by show _ = _; have := HL.out; simp; omega), HO5, HX5, HB5, HC5, HG5, s5⟩
          case measure => simp [intOf]; omega
       ·have hkn' : ¬ (k : Int) < (N : Int) := by omega
        have e : k = N := by omega
        subst e
        have HO3 : Hid (OwnX 3 wr (rb + 1) V L) := OwnX.weak HO.out (by omega)
        have HL2 : Hid (L.length ≤ 2) := by refine Hid.mk ?_; have := HL.out; omega
        go_upto_if 89 with fail
        go_cut [] from 76 (fun wx => ∃ (L : List Xv) (V : Value), Hid (L.length ≤ 2) ∧ Hid (OwnX 3 wx (rb + 1) V L) ∧ Hid (Bz6 wx rb (.int .i64 K) (.string S) (.string T) V (.slice none 0 0) (.slice none 0 0)) ∧ Hid (Bz6 wx w.heap.size (.int .i64 0) (.string ⟨#[]⟩) (.string ⟨#[]⟩) (.slice none 0 0) (.slice none 0 0) (.slice none 0 0)) ∧ Hid (Cur wx cb v zs) ∧ Hid (w.grownBy wx (some cb)) ∧ rb < wx.heap.size)
        case first =>
         by_cases h12 : K = 12
         ·subst h12
          have hk1 := Hid.mk (hN12 rfl)
          clear hN12
          obtain ⟨⟨t0, u0⟩, rfl⟩ : ∃ q, L = [q] := by have := HL.out; have := hk1.out; exact List.length_eq_one_iff.1 (by omega)
          obtain ⟨g, cap, rfl, hgb, hgl, -, -, -, -, -, hu0, hd0⟩ := ownX_one HO.out
          obtain ⟨uo0, uc0, hu, -⟩ := hu0.len
          simp only at hu
          subst hu
          have hgc : g ≠ cb := by have := HG.out.size; omega
          clear HO3 HL2 hu0 hd0 HL
          have HX0 : Hid (Bz6 wr.drew rb (.int .i64 12) (.string S) (.string T) (.slice (some ⟨g, 0, none⟩) 1 cap) (.slice none 0 0) (.slice none 0 0)) := (HX.out.grow (Below.drewSelf _ _ 1))
          have HB0 : Hid (Bz6 wr.drew w.heap.size (.int .i64 0) (.string ⟨#[]⟩) (.string ⟨#[]⟩) (.slice none 0 0) (.slice none 0 0) (.slice none 0 0)) := (HB.out.grow (Below.drewSelf _ _ 1))
          have HO0 : Hid (OwnX 2 wr.drew (rb + 1) (.slice (some ⟨g, 0, none⟩) 1 cap) [(t0, .slice uo0 t0.l.length uc0)]) := (HO.out.grow (Below.drewSelf _ _ 1))
          have HC0 : Hid (Cur wr.drew cb v zs) := (HC.out.grow (Below.drewSelf _ _ 1))
          have HG0 : Hid (w.grownBy wr.drew (some cb)) := (gy_below HG.out (Below.drewSelf _ _ 1))
          have hgl0 : g < wr.drew.heap.size := hgl
          clear HX HB HO HC HG hrl hgl
          go_upto_region 33 with fail
          refine wp_region_held_drew (S := fun w' => w'.cell? ⟨rb, 3, none⟩ = some (.slice (some ⟨g, 0, none⟩) 1 cap)) (by kernel_rfl) HX0.out.c3 (fun _ => ?_)
          generalize wr.drew = w20 at *
          refine takeHD (i := 0) (v := .pointer (some ⟨rb, 3, none⟩)) (some 90) rfl rfl (by kernel_rfl) (by kernel_rfl) (by kernel_rfl) (fun _ _ _ h => h) (Or.inl ⟨by kernel_rfl, fun w' hw => ?_⟩) HX0.out.c3 ?_
          ·kernel_rfl
          simp only [Act.put, List.setIfInBounds_toArray]
          refine takeHD (i := 1) (v := (.slice (some ⟨g, 0, none⟩) 1 cap)) (some 91) rfl rfl (by kernel_rfl) (by kernel_rfl) (by kernel_rfl) (fun _ _ _ h => h) (Or.inl ⟨by kernel_rfl, fun w' hw => ?_⟩) HX0.out.c3 ?_
          ·have y := hw; go_simp
          simp only [Act.put, List.setIfInBounds_toArray]
          refine takeHD (i := 2) (v := .pointer (some ⟨cb, 0, none⟩)) (some 92) rfl rfl (by kernel_rfl) (by kernel_rfl) (by kernel_rfl) (fun _ _ _ h => h) (Or.inl ⟨by kernel_rfl, fun w' hw => ?_⟩) HX0.out.c3 ?_
          ·kernel_rfl
          simp only [Act.put, List.setIfInBounds_toArray]
          refine takeHD (i := 5) (v := .pointer (some ⟨rb, 3, none⟩)) (some 95) rfl rfl (by kernel_rfl) (by kernel_rfl) (by kernel_rfl) (fun _ _ _ h => h) (Or.inl ⟨by kernel_rfl, fun w' hw => ?_⟩) HX0.out.c3 ?_
          ·kernel_rfl
          simp only [Act.put, List.setIfInBounds_toArray]
          refine takeHD (i := 6) (v := (.slice (some ⟨g, 0, none⟩) 1 cap)) (some 96) rfl rfl (by kernel_rfl) (by kernel_rfl) (by kernel_rfl) (fun _ _ _ h => h) (Or.inl ⟨by kernel_rfl, fun w' hw => ?_⟩) HX0.out.c3 ?_
          ·have y := hw; go_simp
          simp only [Act.put, List.setIfInBounds_toArray]
          refine takeHD (i := 7) (v := .pointer (some ⟨g, 0, none⟩)) (some 97) rfl rfl (by kernel_rfl) (by kernel_rfl) (by kernel_rfl) (fun _ _ _ h => h) (Or.inl ⟨by kernel_rfl, fun w' hw => ?_⟩) HX0.out.c3 ?_
          ·first | kernel_rfl | go_simp
          simp only [Act.put, List.setIfInBounds_toArray]
          refine wpAnyH_ready (rs := [3, 8]) (by kernel_rfl) (by simp) ?_
          refine AllReadyH.cons rfl (fun K hK => ?_) (AllReadyH.cons rfl (fun K hK => ?_) AllReadyH.nil)
          ·rw [if_pos (by kernel_rfl)]
           go_wp2_with fail
           have A : Below w20.heap.size w20 (w20.alloc (.cells #[.string ⟨#[102]⟩, .string ⟨#[103]⟩] 9)) := (Below.refl _ _).alloc (Nat.le_refl _) _
           have HX1 := Hid.mk (HX0.out.grow A)
           have HB1 := Hid.mk (HB0.out.grow A)
           have HO1 := Hid.mk (HO0.out.grow A)
           have HC1 := Hid.mk (HC0.out.grow A)
           have HG1 := Hid.mk (gy_below HG0.out A)
           have HS1 := Hid.mk (heap_alloc_new w20 (.cells #[.string ⟨#[102]⟩, .string ⟨#[103]⟩] 9))
           have hlS1 : w20.heap.size < (w20.alloc (.cells #[.string ⟨#[102]⟩, .string ⟨#[103]⟩] 9)).heap.size := (Array.getElem?_eq_some_iff.1 (heap_alloc_new w20 (.cells #[.string ⟨#[102]⟩, .string ⟨#[103]⟩] 9))).1
           have hnS : w20.heap.size ≠ cb ∧ rb < w20.heap.size ∧ g < w20.heap.size := by have := HC0.out.lt; have := HX0.out.lt; have := hgl0; omega
           have hgl1 : g < (w20.alloc (.cells #[.string ⟨#[102]⟩, .string ⟨#[103]⟩] 9)).heap.size := by have := A.size; omega
           refine hK.out _ _ HX1.out.c3 (fun _ => ?_)
           clear hK K HX0 HB0 HO0 HC0 HG0 A hgl0
           generalize w20.heap.size = sb at *
           generalize w20.alloc (.cells #[.string ⟨#[102]⟩, .string ⟨#[103]⟩] 9) = w21 at *
           refine wpAnyH_ready (rs := [4, 8]) (by kernel_rfl) (by simp) ?_
           refine AllReadyH.cons rfl (fun K hK => ?_) (AllReadyH.cons rfl (fun K hK => ?_) AllReadyH.nil)
           ·rw [if_pos (by kernel_rfl)]
            go_wp2_with fail
            refine (l1Str_any cb sb 2 v zs [⟨#[102]⟩, ⟨#[103]⟩] _ HC1.out rfl (by omega) (by omega) HS1.out hnS.1).mono ?_
            rintro e w22 ⟨y, rfl, hm, hC, hg⟩
            have hy : y.size ≤ 100 := by
             simp only [List.mem_cons, List.not_mem_nil, or_false] at hm
             rcases hm with h | h <;> subst h <;> decide
            have HX2 := Hid.mk (HX1.out.row hg (fun g e => by cases e; exact fun e => hrne e.symm))
            have HB2 := Hid.mk (HB1.out.row hg (fun g e => by cases e; exact fun e => HNE.out e.symm))
            have HO2 := Hid.mk (HO1.out.by hg (by omega))
            have HG2 := Hid.mk (grownBy_trans HG1.out hg)
            have HC2 := Hid.mk hC
            have hgl2 : g < w22.heap.size := by have := hg.size; omega
            refine hK.out _ _ HX2.out.c3 (fun _ => ?_)
            clear hK K HX1 HB1 HO1 HC1 HG1 hgl1 hm hC hg HS1 hlS1
            refine wpAnyH_ready (rs := [8]) (by kernel_rfl) (by simp) ?_
            refine AllReadyH.cons rfl (fun K hK => ?_) AllReadyH.nil
            obtain ⟨-, r0, r1, r2, r3, rf, -, -⟩ := ownX_oneG HO2.out
            rw [if_pos (by kernel_rfl)]
            go_wp2_with fail
            refine hK.out _ _ HX2.out.c3 (fun _ => ?_)
            clear hK K r0 r1 r2 r3 rf
            refine wpAnyH_ready (rs := [9]) (by kernel_rfl) (by simp) ?_
            refine AllReadyH.cons rfl (fun K hK => ?_) AllReadyH.nil
            rw [if_pos (by kernel_rfl)]
            go_wp2_with fail
            have A : Below w22.heap.size w22 (w22.alloc (.cells #[.int .i64 t0.k, .int .i64 t0.n, .string t0.s, .slice uo0 t0.l.length uc0] 26)) := (Below.refl _ _).alloc (Nat.le_refl _) _
            have HX3 := Hid.mk (HX2.out.grow A)
            have HB3 := Hid.mk (HB2.out.grow A)
            have HO3 := Hid.mk (HO2.out.grow A)
            have HC3 := Hid.mk (HC2.out.grow A)
            have HG3 := Hid.mk (gy_below HG2.out A)
            have HN3 := Hid.mk (heap_alloc_new w22 (.cells #[.int .i64 t0.k, .int .i64 t0.n, .string t0.s, .slice uo0 t0.l.length uc0] 26))
            have hlN3 : w22.heap.size < (w22.alloc (.cells #[.int .i64 t0.k, .int .i64 t0.n, .string t0.s, .slice uo0 t0.l.length uc0] 26)).heap.size := (Array.getElem?_eq_some_iff.1 (heap_alloc_new w22 (.cells #[.int .i64 t0.k, .int .i64 t0.n, .string t0.s, .slice uo0 t0.l.length uc0] 26))).1
            have hnN : w22.heap.size ≠ cb ∧ rb < w22.heap.size ∧ g < w22.heap.size := by have := HC2.out.lt; have := HX2.out.lt; have := hgl2; omega
            have hgl3 : g < (w22.alloc (.cells #[.int .i64 t0.k, .int .i64 t0.n, .string t0.s, .slice uo0 t0.l.length uc0] 26)).heap.size := by have := A.size; omega
            refine hK.out _ _ HX3.out.c3 (fun _ => ?_)
            clear hK K HX2 HB2 HO2 HC2 HG2 A hgl2
            generalize w22.heap.size = lb at *
            generalize w22.alloc (.cells #[.int .i64 t0.k, .int .i64 t0.n, .string t0.s, .slice uo0 t0.l.length uc0] 26) = w23 at *
            refine takeHD (i := 10) (v := .agg #[.int .i64 11, .int .i64 0, .string y, .slice (some ⟨lb, 0, none⟩) 1 1]) (some 100) rfl rfl (by kernel_rfl) (by kernel_rfl) (by kernel_rfl) (fun _ _ _ h => h) (Or.inl ⟨by kernel_rfl, fun w' hw => ?_⟩) HX3.out.c3 ?_
            ·first | kernel_rfl | go_simp
            simp only [Act.put, List.setIfInBounds_toArray]
            refine takeHD (i := 11) (v := .pointer (some ⟨g, 0, none⟩)) (some 101) rfl rfl (by kernel_rfl) (by kernel_rfl) (by kernel_rfl) (fun _ _ _ h => h) (Or.inl ⟨by kernel_rfl, fun w' hw => ?_⟩) HX3.out.c3 ?_
            ·first | kernel_rfl | go_simp
            simp only [Act.put, List.setIfInBounds_toArray]
            refine wpAnyH_ready (rs := [12]) (by kernel_rfl) (by simp) ?_
            refine AllReadyH.cons rfl (fun K hK => ?_) AllReadyH.nil
            obtain ⟨hgb1, r0, r1, r2, r3, rf, hu1, hd1⟩ := ownX_oneG HO3.out
            have HO9 := Hid.mk (ownX_over HO3.out (.node 11 0 y [t0]) (.slice (some ⟨lb, 0, none⟩) 1 1) (elOne HN3.out (by omega) (by omega) hd1.size hu1) (m' := 3) (DxS.node hy (by simp) (by simpa using hd1)))
            have HX9 := Hid.mk (HX3.out.row (set4_by w23 g (.int .i64 11) (.int .i64 0) (.string y) (.slice (some ⟨lb, 0, none⟩) 1 1)) (fun g e => by cases e; omega))
            have HB9 := Hid.mk (HB3.out.row (set4_by w23 g (.int .i64 11) (.int .i64 0) (.string y) (.slice (some ⟨lb, 0, none⟩) 1 1)) (fun g e => by cases e; omega))
            have HG9 := Hid.mk (gy_far HG3.out (set4_by w23 g (.int .i64 11) (.int .i64 0) (.string y) (.slice (some ⟨lb, 0, none⟩) 1 1)) (by omega))
            have HC9 := Hid.mk (HC3.out.set4 hgc (fun hz k hk => by have := HV.out hz k hk; omega) (.int .i64 11) (.int .i64 0) (.string y) (.slice (some ⟨lb, 0, none⟩) 1 1))
            rw [if_pos (by kernel_rfl)]
            go_wp2_with fail
            refine hK.out _ _ HX9.out.c3 (fun _ => ?_)
            refine wpAnyH_done (by kernel_rfl) ?_ _
            go_wp2
            go_meet
            case rel => exact ⟨[(.node 11 0 y [t0], .slice (some ⟨lb, 0, none⟩) 1 1)], (.slice (some ⟨g, 0, none⟩) 1 cap), by simp [Hid], HO9, HX9, HB9, HC9, HG9, HX9.out.lt⟩
           ·obtain ⟨-, r0, r1, r2, r3, rf, -, -⟩ := ownX_oneG HO1.out
            rw [if_pos (by kernel_rfl)]
            go_wp2_with fail
            refine hK.out _ _ HX1.out.c3 (fun _ => ?_)
            clear hK K r0 r1 r2 r3 rf
            refine wpAnyH_ready (rs := [4, 9]) (by kernel_rfl) (by simp) ?_
            refine AllReadyH.cons rfl (fun K hK => ?_) (AllReadyH.cons rfl (fun K hK => ?_) AllReadyH.nil)
            ·rw [if_pos (by kernel_rfl)]
             go_wp2_with fail
             refine (l1Str_any cb sb 2 v zs [⟨#[102]⟩, ⟨#[103]⟩] _ HC1.out rfl (by omega) (by omega) HS1.out hnS.1).mono ?_
             rintro e w22 ⟨y, rfl, hm, hC, hg⟩
             have hy : y.size ≤ 100 := by
              simp only [List.mem_cons, List.not_mem_nil, or_false] at hm
              rcases hm with h | h <;> subst h <;> decide
             have HX2 := Hid.mk (HX1.out.row hg (fun g e => by cases e; exact fun e => hrne e.symm))
             have HB2 := Hid.mk (HB1.out.row hg (fun g e => by cases e; exact fun e => HNE.out e.symm))
             have HO2 := Hid.mk (HO1.out.by hg (by omega))
             have HG2 := Hid.mk (grownBy_trans HG1.out hg)
             have HC2 := Hid.mk hC
             have hgl2 : g < w22.heap.size := by have := hg.size; omega
             refine hK.out _ _ HX2.out.c3 (fun _ => ?_)
             clear hK K HX1 HB1 HO1 HC1 HG1 hgl1 hm hC hg HS1 hlS1
             refine wpAnyH_ready (rs := [9]) (by kernel_rfl) (by simp) ?_
             refine AllReadyH.cons rfl (fun K hK => ?_) AllReadyH.nil
             rw [if_pos (by kernel_rfl)]
             go_wp2_with fail
             have A : Below w22.heap.size w22 (w22.alloc (.cells #[.int .i64 t0.k, .int .i64 t0.n, .string t0.s, .slice uo0 t0.l.length uc0] 26)) := (Below.refl _ _).alloc (Nat.le_refl _) _
             have HX3 := Hid.mk (HX2.out.grow A)
             have HB3 := Hid.mk (HB2.out.grow A)
             have HO3 := Hid.mk (HO2.out.grow A)
             have HC3 := Hid.mk (HC2.out.grow A)
             have HG3 := Hid.mk (gy_below HG2.out A)
             have HN3 := Hid.mk (heap_alloc_new w22 (.cells #[.int .i64 t0.k, .int .i64 t0.n, .string t0.s, .slice uo0 t0.l.length uc0] 26))
             have hlN3 : w22.heap.size < (w22.alloc (.cells #[.int .i64 t0.k, .int .i64 t0.n, .string t0.s, .slice uo0 t0.l.length uc0] 26)).heap.size := (Array.getElem?_eq_some_iff.1 (heap_alloc_new w22 (.cells #[.int .i64 t0.k, .int .i64 t0.n, .string t0.s, .slice uo0 t0.l.length uc0] 26))).1
             have hnN : w22.heap.size ≠ cb ∧ rb < w22.heap.size ∧ g < w22.heap.size := by have := HC2.out.lt; have := HX2.out.lt; have := hgl2; omega
             have hgl3 : g < (w22.alloc (.cells #[.int .i64 t0.k, .int .i64 t0.n, .string t0.s, .slice uo0 t0.l.length uc0] 26)).heap.size := by have := A.size; omega
             refine hK.out _ _ HX3.out.c3 (fun _ => ?_)
             clear hK K HX2 HB2 HO2 HC2 HG2 A hgl2
             generalize w22.heap.size = lb at *
             generalize w22.alloc (.cells #[.int .i64 t0.k, .int .i64 t0.n, .string t0.s, .slice uo0 t0.l.length uc0] 26) = w23 at *
             refine takeHD (i := 10) (v := .agg #[.int .i64 11, .int .i64 0, .string y, .slice (some ⟨lb, 0, none⟩) 1 1]) (some 100) rfl rfl (by kernel_rfl) (by kernel_rfl) (by kernel_rfl) (fun _ _ _ h => h) (Or.inl ⟨by kernel_rfl, fun w' hw => ?_⟩) HX3.out.c3 ?_
             ·first | kernel_rfl | go_simp
             simp only [Act.put, List.setIfInBounds_toArray]
             refine takeHD (i := 11) (v := .pointer (some ⟨g, 0, none⟩)) (some 101) rfl rfl (by kernel_rfl) (by kernel_rfl) (by kernel_rfl) (fun _ _ _ h => h) (Or.inl ⟨by kernel_rfl, fun w' hw => ?_⟩) HX3.out.c3 ?_
             ·first | kernel_rfl | go_simp
             simp only [Act.put, List.setIfInBounds_toArray]
             refine wpAnyH_ready (rs := [12]) (by kernel_rfl) (by simp) ?_
             refine AllReadyH.cons rfl (fun K hK => ?_) AllReadyH.nil
             obtain ⟨hgb1, r0, r1, r2, r3, rf, hu1, hd1⟩ := ownX_oneG HO3.out
             have HO9 := Hid.mk (ownX_over HO3.out (.node 11 0 y [t0]) (.slice (some ⟨lb, 0, none⟩) 1 1) (elOne HN3.out (by omega) (by omega) hd1.size hu1) (m' := 3) (DxS.node hy (by simp) (by simpa using hd1)))
             have HX9 := Hid.mk (HX3.out.row (set4_by w23 g (.int .i64 11) (.int .i64 0) (.string y) (.slice (some ⟨lb, 0, none⟩) 1 1)) (fun g e => by cases e; omega))
             have HB9 := Hid.mk (HB3.out.row (set4_by w23 g (.int .i64 11) (.int .i64 0) (.string y) (.slice (some ⟨lb, 0, none⟩) 1 1)) (fun g e => by cases e; omega))
             have HG9 := Hid.mk (gy_far HG3.out (set4_by w23 g (.int .i64 11) (.int .i64 0) (.string y) (.slice (some ⟨lb, 0, none⟩) 1 1)) (by omega))
             have HC9 := Hid.mk (HC3.out.set4 hgc (fun hz k hk => by have := HV.out hz k hk; omega) (.int .i64 11) (.int .i64 0) (.string y) (.slice (some ⟨lb, 0, none⟩) 1 1))
             rw [if_pos (by kernel_rfl)]
             go_wp2_with fail
             refine hK.out _ _ HX9.out.c3 (fun _ => ?_)
             refine wpAnyH_done (by kernel_rfl) ?_ _
             go_wp2
             go_meet
             case rel => exact ⟨[(.node 11 0 y [t0], .slice (some ⟨lb, 0, none⟩) 1 1)], (.slice (some ⟨g, 0, none⟩) 1 cap), by simp [Hid], HO9, HX9, HB9, HC9, HG9, HX9.out.lt⟩
            ·rw [if_pos (by kernel_rfl)]
             go_wp2_with fail
             have A : Below w21.heap.size w21 (w21.alloc (.cells #[.int .i64 t0.k, .int .i64 t0.n, .string t0.s, .slice uo0 t0.l.length uc0] 26)) := (Below.refl _ _).alloc (Nat.le_refl _) _
             have HX2 := Hid.mk (HX1.out.grow A)
             have HB2 := Hid.mk (HB1.out.grow A)
             have HO2 := Hid.mk (HO1.out.grow A)
             have HC2 := Hid.mk (HC1.out.grow A)
             have HG2 := Hid.mk (gy_below HG1.out A)
             have HN2 := Hid.mk (heap_alloc_new w21 (.cells #[.int .i64 t0.k, .int .i64 t0.n, .string t0.s, .slice uo0 t0.l.length uc0] 26))
             have hlN2 : w21.heap.size < (w21.alloc (.cells #[.int .i64 t0.k, .int .i64 t0.n, .string t0.s, .slice uo0 t0.l.length uc0] 26)).heap.size := (Array.getElem?_eq_some_iff.1 (heap_alloc_new w21 (.cells #[.int .i64 t0.k, .int .i64 t0.n, .string t0.s, .slice uo0 t0.l.length uc0] 26))).1
             have hnN : w21.heap.size ≠ cb ∧ rb < w21.heap.size ∧ g < w21.heap.size := by have := HC1.out.lt; have := HX1.out.lt; have := hgl1; omega
             have hgl2 : g < (w21.alloc (.cells #[.int .i64 t0.k, .int .i64 t0.n, .string t0.s, .slice uo0 t0.l.length uc0] 26)).heap.size := by have := A.size; omega
             have HS2 := Hid.mk ((A.block sb hlS1).trans HS1.out)
             have hlS2 : sb < (w21.alloc (.cells #[.int .i64 t0.k, .int .i64 t0.n, .string t0.s, .slice uo0 t0.l.length uc0] 26)).heap.size := by have := A.size; omega
             refine hK.out _ _ HX2.out.c3 (fun _ => ?_)
             clear hK K HX1 HB1 HO1 HC1 HG1 HS1 hlS1 A hgl1
             generalize w21.heap.size = lb at *
             generalize w21.alloc (.cells #[.int .i64 t0.k, .int .i64 t0.n, .string t0.s, .slice uo0 t0.l.length uc0] 26) = w22 at *
             refine wpAnyH_ready (rs := [4]) (by kernel_rfl) (by simp) ?_
             refine AllReadyH.cons rfl (fun K hK => ?_) AllReadyH.nil
             rw [if_pos (by kernel_rfl)]
             go_wp2_with fail
             refine (l1Str_any cb sb 2 v zs [⟨#[102]⟩, ⟨#[103]⟩] _ HC2.out rfl (by omega) (by omega) HS2.out hnS.1).mono ?_
             rintro e w23 ⟨y, rfl, hm, hC, hg⟩
             have hy : y.size ≤ 100 := by
              simp only [List.mem_cons, List.not_mem_nil, or_false] at hm
              rcases hm with h | h <;> subst h <;> decide
             have HX3 := Hid.mk (HX2.out.row hg (fun g e => by cases e; exact fun e => hrne e.symm))
             have HB3 := Hid.mk (HB2.out.row hg (fun g e => by cases e; exact fun e => HNE.out e.symm))
             have HO3 := Hid.mk (HO2.out.by hg (by omega))
             have HG3 := Hid.mk (grownBy_trans HG2.out hg)
             have HC3 := Hid.mk hC
             have hgl3 : g < w23.heap.size := by have := hg.size; omega
             have HN3 := Hid.mk ((hg.block lb hlN2 (by simpa using hnN.1)).trans HN2.out)
             have hlN3 : lb < w23.heap.size := by have := hg.size; omega
             refine hK.out _ _ HX3.out.c3 (fun _ => ?_)
             clear hK K HX2 HB2 HO2 HC2 HG2 HN2 hlN2 hgl2 hm hC hg HS2 hlS2
             refine takeHD (i := 10) (v := .agg #[.int .i64 11, .int .i64 0, .string y, .slice (some ⟨lb, 0, none⟩) 1 1]) (some 100) rfl rfl (by kernel_rfl) (by kernel_rfl) (by kernel_rfl) (fun _ _ _ h => h) (Or.inl ⟨by kernel_rfl, fun w' hw => ?_⟩) HX3.out.c3 ?_
             ·first | kernel_rfl | go_simp
             simp only [Act.put, List.setIfInBounds_toArray]
             refine takeHD (i := 11) (v := .pointer (some ⟨g, 0, none⟩)) (some 101) rfl rfl (by kernel_rfl) (by kernel_rfl) (by kernel_rfl) (fun _ _ _ h => h) (Or.inl ⟨by kernel_rfl, fun w' hw => ?_⟩) HX3.out.c3 ?_
             ·first | kernel_rfl | go_simp
             simp only [Act.put, List.setIfInBounds_toArray]
             refine wpAnyH_ready (rs := [12]) (by kernel_rfl) (by simp) ?_
             refine AllReadyH.cons rfl (fun K hK => ?_) AllReadyH.nil
             obtain ⟨hgb1, r0, r1, r2, r3, rf, hu1, hd1⟩ := ownX_oneG HO3.out
             have HO9 := Hid.mk (ownX_over HO3.out (.node 11 0 y [t0]) (.slice (some ⟨lb, 0, none⟩) 1 1) (elOne HN3.out (by omega) (by omega) hd1.size hu1) (m' := 3) (DxS.node hy (by simp) (by simpa using hd1)))
             have HX9 := Hid.mk (HX3.out.row (set4_by w23 g (.int .i64 11) (.int .i64 0) (.string y) (.slice (some ⟨lb, 0, none⟩) 1 1)) (fun g e => by cases e; omega))
             have HB9 := Hid.mk (HB3.out.row (set4_by w23 g (.int .i64 11) (.int .i64 0) (.string y) (.slice (some ⟨lb, 0, none⟩) 1 1)) (fun g e => by cases e; omega))
             have HG9 := Hid.mk (gy_far HG3.out (set4_by w23 g (.int .i64 11) (.int .i64 0) (.string y) (.slice (some ⟨lb, 0, none⟩) 1 1)) (by omega))
             have HC9 := Hid.mk (HC3.out.set4 hgc (fun hz k hk => by have := HV.out hz k hk; omega) (.int .i64 11) (.int .i64 0) (.string y) (.slice (some ⟨lb, 0, none⟩) 1 1))
             rw [if_pos (by kernel_rfl)]
             go_wp2_with fail
             refine hK.out _ _ HX9.out.c3 (fun _ => ?_)
             refine wpAnyH_done (by kernel_rfl) ?_ _
             go_wp2
             go_meet
             case rel => exact ⟨[(.node 11 0 y [t0], .slice (some ⟨lb, 0, none⟩) 1 1)], (.slice (some ⟨g, 0, none⟩) 1 cap), by simp [Hid], HO9, HX9, HB9, HC9, HG9, HX9.out.lt⟩
          ·obtain ⟨-, r0, r1, r2, r3, rf, -, -⟩ := ownX_oneG HO0.out
           rw [if_pos (by kernel_rfl)]
           go_wp2_with fail
           refine hK.out _ _ HX0.out.c3 (fun _ => ?_)
           clear hK K r0 r1 r2 r3 rf
           refine wpAnyH_ready (rs := [3, 9]) (by kernel_rfl) (by simp) ?_
           refine AllReadyH.cons rfl (fun K hK => ?_) (AllReadyH.cons rfl (fun K hK => ?_) AllReadyH.nil)
           ·rw [if_pos (by kernel_rfl)]
            go_wp2_with fail
            have A : Below w20.heap.size w20 (w20.alloc (.cells #[.string ⟨#[102]⟩, .string ⟨#[103]⟩] 9)) := (Below.refl _ _).alloc (Nat.le_refl _) _
            have HX1 := Hid.mk (HX0.out.grow A)
            have HB1 := Hid.mk (HB0.out.grow A)
            have HO1 := Hid.mk (HO0.out.grow A)
            have HC1 := Hid.mk (HC0.out.grow A)
            have HG1 := Hid.mk (gy_below HG0.out A)
            have HS1 := Hid.mk (heap_alloc_new w20 (.cells #[.string ⟨#[102]⟩, .string ⟨#[103]⟩] 9))
            have hlS1 : w20.heap.size < (w20.alloc (.cells #[.string ⟨#[102]⟩, .string ⟨#[103]⟩] 9)).heap.size := (Array.getElem?_eq_some_iff.1 (heap_alloc_new w20 (.cells #[.string ⟨#[102]⟩, .string ⟨#[103]⟩] 9))).1
            have hnS : w20.heap.size ≠ cb ∧ rb < w20.heap.size ∧ g < w20.heap.size := by have := HC0.out.lt; have := HX0.out.lt; have := hgl0; omega
            have hgl1 : g < (w20.alloc (.cells #[.string ⟨#[102]⟩, .string ⟨#[103]⟩] 9)).heap.size := by have := A.size; omega
            refine hK.out _ _ HX1.out.c3 (fun _ => ?_)
            clear hK K HX0 HB0 HO0 HC0 HG0 A hgl0
            generalize w20.heap.size = sb at *
            generalize w20.alloc (.cells #[.string ⟨#[102]⟩, .string ⟨#[103]⟩] 9) = w21 at *
            refine wpAnyH_ready (rs := [4, 9]) (by kernel_rfl) (by simp) ?_
            refine AllReadyH.cons rfl (fun K hK => ?_) (AllReadyH.cons rfl (fun K hK => ?_) AllReadyH.nil)
            ·rw [if_pos (by kernel_rfl)]
             go_wp2_with fail
             refine (l1Str_any cb sb 2 v zs [⟨#[102]⟩, ⟨#[103]⟩] _ HC1.out rfl (by omega) (by omega) HS1.out hnS.1).mono ?_
             rintro e w22 ⟨y, rfl, hm, hC, hg⟩
             have hy : y.size ≤ 100 := by
              simp only [List.mem_cons, List.not_mem_nil, or_false] at hm
              rcases hm with h | h <;> subst h <;> decide
             have HX2 := Hid.mk (HX1.out.row hg (fun g e => by cases e; exact fun e => hrne e.symm))
             have HB2 := Hid.mk (HB1.out.row hg (fun g e => by cases e; exact fun e => HNE.out e.symm))
             have HO2 := Hid.mk (HO1.out.by hg (by omega))
             have HG2 := Hid.mk (grownBy_trans HG1.out hg)
             have HC2 := Hid.mk hC
             have hgl2 : g < w22.heap.size := by have := hg.size; omega
             refine hK.out _ _ HX2.out.c3 (fun _ => ?_)
             clear hK K HX1 HB1 HO1 HC1 HG1 hgl1 hm hC hg HS1 hlS1
             refine wpAnyH_ready (rs := [9]) (by kernel_rfl) (by simp) ?_
             refine AllReadyH.cons rfl (fun K hK => ?_) AllReadyH.nil
             rw [if_pos (by kernel_rfl)]
             go_wp2_with fail
             have A : Below w22.heap.size w22 (w22.alloc (.cells #[.int .i64 t0.k, .int .i64 t0.n, .string t0.s, .slice uo0 t0.l.length uc0] 26)) := (Below.refl _ _).alloc (Nat.le_refl _) _
             have HX3 := Hid.mk (HX2.out.grow A)
             have HB3 := Hid.mk (HB2.out.grow A)
             have HO3 := Hid.mk (HO2.out.grow A)
             have HC3 := Hid.mk (HC2.out.grow A)
             have HG3 := Hid.mk (gy_below HG2.out A)
             have HN3 := Hid.mk (heap_alloc_new w22 (.cells #[.int .i64 t0.k, .int .i64 t0.n, .string t0.s, .slice uo0 t0.l.length uc0] 26))
             have hlN3 : w22.heap.size < (w22.alloc (.cells #[.int .i64 t0.k, .int .i64 t0.n, .string t0.s, .slice uo0 t0.l.length uc0] 26)).heap.size := (Array.getElem?_eq_some_iff.1 (heap_alloc_new w22 (.cells #[.int .i64 t0.k, .int .i64 t0.n, .string t0.s, .slice uo0 t0.l.length uc0] 26))).1
             have hnN : w22.heap.size ≠ cb ∧ rb < w22.heap.size ∧ g < w22.heap.size := by have := HC2.out.lt; have := HX2.out.lt; have := hgl2; omega
             have hgl3 : g < (w22.alloc (.cells #[.int .i64 t0.k, .int .i64 t0.n, .string t0.s, .slice uo0 t0.l.length uc0] 26)).heap.size := by have := A.size; omega
             refine hK.out _ _ HX3.out.c3 (fun _ => ?_)
             clear hK K HX2 HB2 HO2 HC2 HG2 A hgl2
             generalize w22.heap.size = lb at *
             generalize w22.alloc (.cells #[.int .i64 t0.k, .int .i64 t0.n, .string t0.s, .slice uo0 t0.l.length uc0] 26) = w23 at *
             refine takeHD (i := 10) (v := .agg #[.int .i64 11, .int .i64 0, .string y, .slice (some ⟨lb, 0, none⟩) 1 1]) (some 100) rfl rfl (by kernel_rfl) (by kernel_rfl) (by kernel_rfl) (fun _ _ _ h => h) (Or.inl ⟨by kernel_rfl, fun w' hw => ?_⟩) HX3.out.c3 ?_
             ·first | kernel_rfl | go_simp
             simp only [Act.put, List.setIfInBounds_toArray]
             refine takeHD (i := 11) (v := .pointer (some ⟨g, 0, none⟩)) (some 101) rfl rfl (by kernel_rfl) (by kernel_rfl) (by kernel_rfl) (fun _ _ _ h => h) (Or.inl ⟨by kernel_rfl, fun w' hw => ?_⟩) HX3.out.c3 ?_
             ·first | kernel_rfl | go_simp
             simp only [Act.put, List.setIfInBounds_toArray]
             refine wpAnyH_ready (rs := [12]) (by kernel_rfl) (by simp) ?_
             refine AllReadyH.cons rfl (fun K hK => ?_) AllReadyH.nil
             obtain ⟨hgb1, r0, r1, r2, r3, rf, hu1, hd1⟩ := ownX_oneG HO3.out
             have HO9 := Hid.mk (ownX_over HO3.out (.node 11 0 y [t0]) (.slice (some ⟨lb, 0, none⟩) 1 1) (elOne HN3.out (by omega) (by omega) hd1.size hu1) (m' := 3) (DxS.node hy (by simp) (by simpa using hd1)))
             have HX9 := Hid.mk (HX3.out.row (set4_by w23 g (.int .i64 11) (.int .i64 0) (.string y) (.slice (some ⟨lb, 0, none⟩) 1 1)) (fun g e => by cases e; omega))
             have HB9 := Hid.mk (HB3.out.row (set4_by w23 g (.int .i64 11) (.int .i64 0) (.string y) (.slice (some ⟨lb, 0, none⟩) 1 1)) (fun g e => by cases e; omega))
             have HG9 := Hid.mk (gy_far HG3.out (set4_by w23 g (.int .i64 11) (.int .i64 0) (.string y) (.slice (some ⟨lb, 0, none⟩) 1 1)) (by omega))
             have HC9 := Hid.mk (HC3.out.set4 hgc (fun hz k hk => by have := HV.out hz k hk; omega) (.int .i64 11) (.int .i64 0) (.string y) (.slice (some ⟨lb, 0, none⟩) 1 1))
             rw [if_pos (by kernel_rfl)]
             go_wp2_with fail
             refine hK.out _ _ HX9.out.c3 (fun _ => ?_)
             refine wpAnyH_done (by kernel_rfl) ?_ _
             go_wp2
             go_meet
             case rel => exact ⟨[(.node 11 0 y [t0], .slice (some ⟨lb, 0, none⟩) 1 1)], (.slice (some ⟨g, 0, none⟩) 1 cap), by simp [Hid], HO9, HX9, HB9, HC9, HG9, HX9.out.lt⟩
            ·rw [if_pos (by kernel_rfl)]
             go_wp2_with fail
             have A : Below w21.heap.size w21 (w21.alloc (.cells #[.int .i64 t0.k, .int .i64 t0.n, .string t0.s, .slice uo0 t0.l.length uc0] 26)) := (Below.refl _ _).alloc (Nat.le_refl _) _
             have HX2 := Hid.mk (HX1.out.grow A)
             have HB2 := Hid.mk (HB1.out.grow A)
             have HO2 := Hid.mk (HO1.out.grow A)
             have HC2 := Hid.mk (HC1.out.grow A)
             have HG2 := Hid.mk (gy_below HG1.out A)
             have HN2 := Hid.mk (heap_alloc_new w21 (.cells #[.int .i64 t0.k, .int .i64 t0.n, .string t0.s, .slice uo0 t0.l.length uc0] 26))
             have hlN2 : w21.heap.size < (w21.alloc (.cells #[.int .i64 t0.k, .int .i64 t0.n, .string t0.s, .slice uo0 t0.l.length uc0] 26)).heap.size := (Array.getElem?_eq_some_iff.1 (heap_alloc_new w21 (.cells #[.int .i64 t0.k, .int .i64 t0.n, .string t0.s, .slice uo0 t0.l.length uc0] 26))).1
             have hnN : w21.heap.size ≠ cb ∧ rb < w21.heap.size ∧ g < w21.heap.size := by have := HC1.out.lt; have := HX1.out.lt; have := hgl1; omega
             have hgl2 : g < (w21.alloc (.cells #[.int .i64 t0.k, .int .i64 t0.n, .string t0.s, .slice uo0 t0.l.length uc0] 26)).heap.size := by have := A.size; omega
             have HS2 := Hid.mk ((A.block sb hlS1).trans HS1.out)
             have hlS2 : sb < (w21.alloc (.cells #[.int .i64 t0.k, .int .i64 t0.n, .string t0.s, .slice uo0 t0.l.length uc0] 26)).heap.size := by have := A.size; omega
             refine hK.out _ _ HX2.out.c3 (fun _ => ?_)
             clear hK K HX1 HB1 HO1 HC1 HG1 HS1 hlS1 A hgl1
             generalize w21.heap.size = lb at *
             generalize w21.alloc (.cells #[.int .i64 t0.k, .int .i64 t0.n, .string t0.s, .slice uo0 t0.l.length uc0] 26) = w22 at *
             refine wpAnyH_ready (rs := [4]) (by kernel_rfl) (by simp) ?_
             refine AllReadyH.cons rfl (fun K hK => ?_) AllReadyH.nil
             rw [if_pos (by kernel_rfl)]
             go_wp2_with fail
             refine (l1Str_any cb sb 2 v zs [⟨#[102]⟩, ⟨#[103]⟩] _ HC2.out rfl (by omega) (by omega) HS2.out hnS.1).mono ?_
             rintro e w23 ⟨y, rfl, hm, hC, hg⟩
             have hy : y.size ≤ 100 := by
              simp only [List.mem_cons, List.not_mem_nil, or_false] at hm
              rcases hm with h | h <;> subst h <;> decide
             have HX3 := Hid.mk (HX2.out.row hg (fun g e => by cases e; exact fun e => hrne e.symm))
             have HB3 := Hid.mk (HB2.out.row hg (fun g e => by cases e; exact fun e => HNE.out e.symm))
             have HO3 := Hid.mk (HO2.out.by hg (by omega))
             have HG3 := Hid.mk (grownBy_trans HG2.out hg)
             have HC3 := Hid.mk hC
             have hgl3 : g < w23.heap.size := by have := hg.size; omega
             have HN3 := Hid.mk ((hg.block lb hlN2 (by simpa using hnN.1)).trans HN2.out)
             have hlN3 : lb < w23.heap.size := by have := hg.size; omega
             refine hK.out _ _ HX3.out.c3 (fun _ => ?_)
             clear hK K HX2 HB2 HO2 HC2 HG2 HN2 hlN2 hgl2 hm hC hg HS2 hlS2
             refine takeHD (i := 10) (v := .agg #[.int .i64 11, .int .i64 0, .string y, .slice (some ⟨lb, 0, none⟩) 1 1]) (some 100) rfl rfl (by kernel_rfl) (by kernel_rfl) (by kernel_rfl) (fun _ _ _ h => h) (Or.inl ⟨by kernel_rfl, fun w' hw => ?_⟩) HX3.out.c3 ?_
             ·first | kernel_rfl | go_simp
             simp only [Act.put, List.setIfInBounds_toArray]
             refine takeHD (i := 11) (v := .pointer (some ⟨g, 0, none⟩)) (some 101) rfl rfl (by kernel_rfl) (by kernel_rfl) (by kernel_rfl) (fun _ _ _ h => h) (Or.inl ⟨by kernel_rfl, fun w' hw => ?_⟩) HX3.out.c3 ?_
             ·first | kernel_rfl | go_simp
             simp only [Act.put, List.setIfInBounds_toArray]
             refine wpAnyH_ready (rs := [12]) (by kernel_rfl) (by simp) ?_
             refine AllReadyH.cons rfl (fun K hK => ?_) AllReadyH.nil
             obtain ⟨hgb1, r0, r1, r2, r3, rf, hu1, hd1⟩ := ownX_oneG HO3.out
             have HO9 := Hid.mk (ownX_over HO3.out (.node 11 0 y [t0]) (.slice (some ⟨lb, 0, none⟩) 1 1) (elOne HN3.out (by omega) (by omega) hd1.size hu1) (m' := 3) (DxS.node hy (by simp) (by simpa using hd1)))
             have HX9 := Hid.mk (HX3.out.row (set4_by w23 g (.int .i64 11) (.int .i64 0) (.string y) (.slice (some ⟨lb, 0, none⟩) 1 1)) (fun g e => by cases e; omega))
             have HB9 := Hid.mk (HB3.out.row (set4_by w23 g (.int .i64 11) (.int .i64 0) (.string y) (.slice (some ⟨lb, 0, none⟩) 1 1)) (fun g e => by cases e; omega))
             have HG9 := Hid.mk (gy_far HG3.out (set4_by w23 g (.int .i64 11) (.int .i64 0) (.string y) (.slice (some ⟨lb, 0, none⟩) 1 1)) (by omega))
             have HC9 := Hid.mk (HC3.out.set4 hgc (fun hz k hk => by have := HV.out hz k hk; omega) (.int .i64 11) (.int .i64 0) (.string y) (.slice (some ⟨lb, 0, none⟩) 1 1))
             rw [if_pos (by kernel_rfl)]
             go_wp2_with fail
             refine hK.out _ _ HX9.out.c3 (fun _ => ?_)
             refine wpAnyH_done (by kernel_rfl) ?_ _
             go_wp2
             go_meet
             case rel => exact ⟨[(.node 11 0 y [t0], .slice (some ⟨lb, 0, none⟩) 1 1)], (.slice (some ⟨g, 0, none⟩) 1 cap), by simp [Hid], HO9, HX9, HB9, HC9, HG9, HX9.out.lt⟩
           ·rw [if_pos (by kernel_rfl)]
            go_wp2_with fail
            have A : Below w20.heap.size w20 (w20.alloc (.cells #[.int .i64 t0.k, .int .i64 t0.n, .string t0.s, .slice uo0 t0.l.length uc0] 26)) := (Below.refl _ _).alloc (Nat.le_refl _) _
            have HX1 := Hid.mk (HX0.out.grow A)
            have HB1 := Hid.mk (HB0.out.grow A)
            have HO1 := Hid.mk (HO0.out.grow A)
            have HC1 := Hid.mk (HC0.out.grow A)
            have HG1 := Hid.mk (gy_below HG0.out A)
            have HN1 := Hid.mk (heap_alloc_new w20 (.cells #[.int .i64 t0.k, .int .i64 t0.n, .string t0.s, .slice uo0 t0.l.length uc0] 26))
            have hlN1 : w20.heap.size < (w20.alloc (.cells #[.int .i64 t0.k, .int .i64 t0.n, .string t0.s, .slice uo0 t0.l.length uc0] 26)).heap.size := (Array.getElem?_eq_some_iff.1 (heap_alloc_new w20 (.cells #[.int .i64 t0.k, .int .i64 t0.n, .string t0.s, .slice uo0 t0.l.length uc0] 26))).1
            have hnN : w20.heap.size ≠ cb ∧ rb < w20.heap.size ∧ g < w20.heap.size := by have := HC0.out.lt; have := HX0.out.lt; have := hgl0; omega
            have hgl1 : g < (w20.alloc (.cells #[.int .i64 t0.k, .int .i64 t0.n, .string t0.s, .slice uo0 t0.l.length uc0] 26)).heap.size := by have := A.size; omega
            refine hK.out _ _ HX1.out.c3 (fun _ => ?_)
            clear hK K HX0 HB0 HO0 HC0 HG0 A hgl0
            generalize w20.heap.size = lb at *
            generalize w20.alloc (.cells #[.int .i64 t0.k, .int .i64 t0.n, .string t0.s, .slice uo0 t0.l.length uc0] 26) = w21 at *
            refine wpAnyH_ready (rs := [3]) (by kernel_rfl) (by simp) ?_
            refine AllReadyH.cons rfl (fun K hK => ?_) AllReadyH.nil
            rw [if_pos (by kernel_rfl)]
            go_wp2_with fail
            have A : Below w21.heap.size w21 (w21.alloc (.cells #[.string ⟨#[102]⟩, .string ⟨#[103]⟩] 9)) := (Below.refl _ _).alloc (Nat.le_refl _) _
            have HX2 := Hid.mk (HX1.out.grow A)
            have HB2 := Hid.mk (HB1.out.grow A)
            have HO2 := Hid.mk (HO1.out.grow A)
            have HC2 := Hid.mk (HC1.out.grow A)
            have HG2 := Hid.mk (gy_below HG1.out A)
            have HS2 := Hid.mk (heap_alloc_new w21 (.cells #[.string ⟨#[102]⟩, .string ⟨#[103]⟩] 9))
            have hlS2 : w21.heap.size < (w21.alloc (.cells #[.string ⟨#[102]⟩, .string ⟨#[103]⟩] 9)).heap.size := (Array.getElem?_eq_some_iff.1 (heap_alloc_new w21 (.cells #[.string ⟨#[102]⟩, .string ⟨#[103]⟩] 9))).1
            have hnS : w21.heap.size ≠ cb ∧ rb < w21.heap.size ∧ g < w21.heap.size := by have := HC1.out.lt; have := HX1.out.lt; have := hgl1; omega
            have hgl2 : g < (w21.alloc (.cells #[.string ⟨#[102]⟩, .string ⟨#[103]⟩] 9)).heap.size := by have := A.size; omega
            have HN2 := Hid.mk ((A.block lb hlN1).trans HN1.out)
            have hlN2 : lb < (w21.alloc (.cells #[.string ⟨#[102]⟩, .string ⟨#[103]⟩] 9)).heap.size := by have := A.size; omega
            refine hK.out _ _ HX2.out.c3 (fun _ => ?_)
            clear hK K HX1 HB1 HO1 HC1 HG1 HN1 hlN1 A hgl1
            generalize w21.heap.size = sb at *
            generalize w21.alloc (.cells #[.string ⟨#[102]⟩, .string ⟨#[103]⟩] 9) = w22 at *
            refine wpAnyH_ready (rs := [4]) (by kernel_rfl) (by simp) ?_
            refine AllReadyH.cons rfl (fun K hK => ?_) AllReadyH.nil
            rw [if_pos (by kernel_rfl)]
            go_wp2_with fail
            refine (l1Str_any cb sb 2 v zs [⟨#[102]⟩, ⟨#[103]⟩] _ HC2.out rfl (by omega) (by omega) HS2.out hnS.1).mono ?_
            rintro e w23 ⟨y, rfl, hm, hC, hg⟩
            have hy : y.size ≤ 100 := by
             simp only [List.mem_cons, List.not_mem_nil, or_false] at hm
             rcases hm with h | h <;> subst h <;> decide
            have HX3 := Hid.mk (HX2.out.row hg (fun g e => by cases e; exact fun e => hrne e.symm))
            have HB3 := Hid.mk (HB2.out.row hg (fun g e => by cases e; exact fun e => HNE.out e.symm))
            have HO3 := Hid.mk (HO2.out.by hg (by omega))
            have HG3 := Hid.mk (grownBy_trans HG2.out hg)
            have HC3 := Hid.mk hC
            have hgl3 : g < w23.heap.size := by have := hg.size; omega
            have HN3 := Hid.mk ((hg.block lb hlN2 (by simpa using hnN.1)).trans HN2.out)
            have hlN3 : lb < w23.heap.size := by have := hg.size; omega
            refine hK.out _ _ HX3.out.c3 (fun _ => ?_)
            clear hK K HX2 HB2 HO2 HC2 HG2 HN2 hlN2 hgl2 hm hC hg HS2 hlS2
            refine takeHD (i := 10) (v := .agg #[.int .i64 11, .int .i64 0, .string y, .slice (some ⟨lb, 0, none⟩) 1 1]) (some 100) rfl rfl (by kernel_rfl) (by kernel_rfl) (by kernel_rfl) (fun _ _ _ h => h) (Or.inl ⟨by kernel_rfl, fun w' hw => ?_⟩) HX3.out.c3 ?_
            ·first | kernel_rfl | go_simp
            simp only [Act.put, List.setIfInBounds_toArray]
            refine takeHD (i := 11) (v := .pointer (some ⟨g, 0, none⟩)) (some 101) rfl rfl (by kernel_rfl) (by kernel_rfl) (by kernel_rfl) (fun _ _ _ h => h) (Or.inl ⟨by kernel_rfl, fun w' hw => ?_⟩) HX3.out.c3 ?_
            ·first | kernel_rfl | go_simp
            simp only [Act.put, List.setIfInBounds_toArray]
            refine wpAnyH_ready (rs := [12]) (by kernel_rfl) (by simp) ?_
            refine AllReadyH.cons rfl (fun K hK => ?_) AllReadyH.nil
            obtain ⟨hgb1, r0, r1, r2, r3, rf, hu1, hd1⟩ := ownX_oneG HO3.out
            have HO9 := Hid.mk (ownX_over HO3.out (.node 11 0 y [t0]) (.slice (some ⟨lb, 0, none⟩) 1 1) (elOne HN3.out (by omega) (by omega) hd1.size hu1) (m' := 3) (DxS.node hy (by simp) (by simpa using hd1)))
            have HX9 := Hid.mk (HX3.out.row (set4_by w23 g (.int .i64 11) (.int .i64 0) (.string y) (.slice (some ⟨lb, 0, none⟩) 1 1)) (fun g e => by cases e; omega))
            have HB9 := Hid.mk (HB3.out.row (set4_by w23 g (.int .i64 11) (.int .i64 0) (.string y) (.slice (some ⟨lb, 0, none⟩) 1 1)) (fun g e => by cases e; omega))
            have HG9 := Hid.mk (gy_far HG3.out (set4_by w23 g (.int .i64 11) (.int .i64 0) (.string y) (.slice (some ⟨lb, 0, none⟩) 1 1)) (by omega))
            have HC9 := Hid.mk (HC3.out.set4 hgc (fun hz k hk => by have := HV.out hz k hk; omega) (.int .i64 11) (.int .i64 0) (.string y) (.slice (some ⟨lb, 0, none⟩) 1 1))
            rw [if_pos (by kernel_rfl)]
            go_wp2_with fail
            refine hK.out _ _ HX9.out.c3 (fun _ => ?_)
            refine wpAnyH_done (by kernel_rfl) ?_ _
            go_wp2
            go_meet
            case rel => exact ⟨[(.node 11 0 y [t0], .slice (some ⟨lb, 0, none⟩) 1 1)], (.slice (some ⟨g, 0, none⟩) 1 cap), by simp [Hid], HO9, HX9, HB9, HC9, HG9, HX9.out.lt⟩
         ·have h12b : (K == 12) = false := beq_eq_false_iff_ne.2 h12
          go_wp2_with fail
          go_meet
          case rel => exact ⟨L, V, HL2, HO3, HX, HB, HC, HG, hrl⟩
        case rest =>
         clear HX HB HC HG HO3 HO HL HL2 hrl
         clear L V
         obtain ⟨L, V, HL, HO, HX, HB, HC, HG, hrl⟩ := hcut
         have HEM := Hid.mk (XB.at HO.out)
         have HDX := Hid.mk HO.out.el.2
         have HML : Hid ((L.map (·.1)).length ≤ 2) := by refine Hid.mk ?_; have := HL.out; simp; omega
         clear HO HL
         obtain ⟨n1, hn1⟩ : ∃ n, wc.heap.size = n := ⟨_, rfl⟩
         rw [hn1] at HEM
         obtain ⟨M, hM⟩ : ∃ M, L.map (·.1) = M := ⟨_, rfl⟩
         rw [hM] at HEM HDX HML
         clear hM L
         obtain ⟨uo, uc, hu, -, -, -⟩ := HEM.out.el.len
         subst hu
         go_wp2_with fail
         by_cases h57 : 5 ≤ K ∧ K ≤ 7
         ·refine (in57_any K true (decide_eq_true h57) _).mono ?_
          rintro e w' ⟨rfl, rfl⟩
          obtain ⟨m, rfl⟩ : ∃ m, d = m + 1 := by
           cases d with
           | zero => exact absurd h57 (hK0 rfl)
           | succ m => exact ⟨m, rfl⟩
          have HDL := Hid.mk (IH.out m rfl)
          have hD1 : D - 1 = (m : Int) := by omega
          have hdw : -9223372036854775808 ≤ (m : Int) ∧ (m : Int) ≤ 9223372036854775807 := by omega
          clear IH
          go_wp2_with fail
          refine (HDL.out cb v zs _ fn HC.out).mono ?_
          rintro e wa ⟨la, ua, rfl, hya, hla, hCa, hga⟩
          have HXa := Hid.mk (HX.out.row hga (fun g e => by cases e; exact fun e => hrne e.symm))
          have HBa := Hid.mk (HB.out.row hga (fun g e => by cases e; exact fun e => HNE.out e.symm))
          have HEa := Hid.mk (HEM.out.by hga (by omega))
          have HGa := Hid.mk (grownBy_trans HG.out hga)
          have HCa := Hid.mk hCa
          have HDa := Hid.mk hya.dys
          have HLa := Hid.mk hla
          obtain ⟨n2, hn2⟩ : ∃ n, wa.heap.size = n := ⟨_, rfl⟩
          rw [hn2] at hya
          have hza := hga.size
          have HSa := Hid.mk (YB.base (n0' := n1) hya (by omega))
          obtain ⟨uao, uac, rfl, -⟩ := hya.sl.len
          clear hla hya hCa hga HX HB HEM HG HC 
          have HXsa := Hid.mk (HXa.out.put4 (.slice uao la.length uac))
          have HBsa := Hid.mk (HBa.out.row (gb_set wa rb 4 (.slice uao la.length uac)) (fun g e => by cases e; omega))
          have HEsa := Hid.mk (HEa.out.by (gb_set wa rb 4 (.slice uao la.length uac)) (by omega))
          have HSsa := Hid.mk (HSa.out.by (gb_set wa rb 4 (.slice uao la.length uac)) (by omega))
          have HGsa := Hid.mk (gy_far HGa.out (gb_set wa rb 4 (.slice uao la.length uac)) hrb)
          have HCsa := Hid.mk (HCa.out.row (gb_set wa rb 4 (.slice uao la.length uac)) (fun g e => by cases e; exact ⟨hrne, fun hz k hk => by have := HV.out hz k hk; omega⟩))
          have hqqa : n2 ≤ (wa.setCell ⟨rb, 4, none⟩ (.slice uao la.length uac)).heap.size := by have := (gb_set wa rb 4 (.slice uao la.length uac)).size; omega
          have hssa : rb < (wa.setCell ⟨rb, 4, none⟩ (.slice uao la.length uac)).heap.size := HXsa.out.lt
          have za := HXa.out.c4
          have zfa := HXa.out.fr
          go_upto_region 36 with fail
          clear za zfa HXa HBa HEa HSa HGa HCa
          generalize wa.setCell ⟨rb, 4, none⟩ (.slice uao la.length uac) = wd at *
          by_cases h5 : K = 5
          ·subst h5
           go_wp2_with fail
           refine (l1Once_any cb v zs 2 _ HCsa.out).mono ?_
           rintro e we ⟨b, rfl, hC, hg⟩
           have HXe := Hid.mk (HXsa.out.row hg (fun g e => by cases e; exact fun e => hrne e.symm))
           have HBe := Hid.mk (HBsa.out.row hg (fun g e => by cases e; exact fun e => HNE.out e.symm))
           have HEe := Hid.mk (HEsa.out.by hg (by omega))
           have HSe := Hid.mk (HSsa.out.by hg (by omega))
           have HGe := Hid.mk (grownBy_trans HGsa.out hg)
           have HCe := Hid.mk hC
           have hse : rb < we.heap.size := by have := hg.size; omega
           have hqe : n2 ≤ we.heap.size := by have := hg.size; omega
           clear hC hg HXsa HBsa HEsa HSsa HGsa HCsa hssa
           cases b with
           | true =>
            go_wp2_with fail
            refine (HDL.out cb v zs _ fn HCe.out).mono ?_
            rintro e wb ⟨lb, ub, rfl, hyb, hlb, hCb, hgb⟩
            have HXb := Hid.mk (HXe.out.row hgb (fun g e => by cases e; exact fun e => hrne e.symm))
            have HBb := Hid.mk (HBe.out.row hgb (fun g e => by cases e; exact fun e => HNE.out e.symm))
            have HEb := Hid.mk (HEe.out.by hgb (by omega))
            have HGb := Hid.mk (grownBy_trans HGe.out hgb)
            have HCb := Hid.mk hCb
            have HDb := Hid.mk hyb.dys
            have HLb := Hid.mk hlb
            obtain ⟨n3, hn3⟩ : ∃ n, wb.heap.size = n := ⟨_, rfl⟩
            rw [hn3] at hyb
            have hzb := hgb.size
            have HSb := Hid.mk (hn3 ▸ SB.at (n0 := n2) (hyb.sl.imp fun _ hb _ => ⟨by have := hb.1; omega, hb.2⟩))
            obtain ⟨ubo, ubc, rfl, -⟩ := hyb.sl.len
            have HSxb := Hid.mk (HSe.out.by hgb (by omega))
            clear hlb hyb hCb hgb HXe HBe HEe HGe HCe HSe
            have HXsb := Hid.mk (HXb.out.put5 (.slice ubo lb.length ubc))
            have HBsb := Hid.mk (HBb.out.row (gb_set wb rb 5 (.slice ubo lb.length ubc)) (fun g e => by cases e; omega))
            have HEsb := Hid.mk (HEb.out.by (gb_set wb rb 5 (.slice ubo lb.length ubc)) (by omega))
            have HSsb := Hid.mk (HSb.out.by (gb_set wb rb 5 (.slice ubo lb.length ubc)) (by omega))
            have HTsb := Hid.mk (HSxb.out.by (gb_set wb rb 5 (.slice ubo lb.length ubc)) (by omega))
            have HGsb := Hid.mk (gy_far HGb.out (gb_set wb rb 5 (.slice ubo lb.length ubc)) hrb)
            have HCsb := Hid.mk (HCb.out.row (gb_set wb rb 5 (.slice ubo lb.length ubc)) (fun g e => by cases e; exact ⟨hrne, fun hz k hk => by have := HV.out hz k hk; omega⟩))
            have hqqb : n3 ≤ (wb.setCell ⟨rb, 5, none⟩ (.slice ubo lb.length ubc)).heap.size := by have := (gb_set wb rb 5 (.slice ubo lb.length ubc)).size; omega
            have hssb : rb < (wb.setCell ⟨rb, 5, none⟩ (.slice ubo lb.length ubc)).heap.size := HXsb.out.lt
            have zb := HXb.out.c5
            have zfb := HXb.out.fr
            go_upto_region 38 with fail
            clear zb zfb HXb HBb HEb HSb HGb HCb HSxb
            generalize wb.setCell ⟨rb, 5, none⟩ (.slice ubo lb.length ubc) = wf at *
            have HF := Hid.mk (HFIN.out wf ⟨.node 5 S T M la lb, .slice uo M.length uc, (.slice uao la.length uac), (.slice ubo lb.length ubc)⟩ n1 n2 n3 ⟨DyS.node hS hT HDX.out HML.out HDa.out HDb.out HLa.out HLb.out, ⟨by omega, by omega, by omega, by omega⟩, HEsb.out.base (by omega), HTsb.out.weak (by omega), HSsb.out⟩ (HCsb.out) (HGsb.out))
            have z0 := HBsb.out.c0
            have z1 := HBsb.out.c1
            have z2 := HBsb.out.c2
            have z3 := HBsb.out.c3
            have z4 := HBsb.out.c4
            have z5 := HBsb.out.c5
            have zf := HBsb.out.fr
            have x0 := HXsb.out.c0
            have x1 := HXsb.out.c1
            have x2 := HXsb.out.c2
            have x3 := HXsb.out.c3
            have x4 := HXsb.out.c4
            have x5 := HXsb.out.c5
            clear HFIN
            go_wp2
            have f0 : ((((((wf.setCell ⟨w.heap.size, 0, none⟩ (.int .i64 5)).setCell ⟨w.heap.size, 1, none⟩ (.string S)).setCell ⟨w.heap.size, 2, none⟩ (.string T)).setCell ⟨w.heap.size, 3, none⟩ (.slice uo M.length uc)).setCell ⟨w.heap.size, 4, none⟩ (.slice uao la.length uac)).setCell ⟨w.heap.size, 5, none⟩ (.slice ubo lb.length ubc)).cell? ⟨w.heap.size, 0, none⟩ = some (.int .i64 5) := by go_simp
            have f1 : ((((((wf.setCell ⟨w.heap.size, 0, none⟩ (.int .i64 5)).setCell ⟨w.heap.size, 1, none⟩ (.string S)).setCell ⟨w.heap.size, 2, none⟩ (.string T)).setCell ⟨w.heap.size, 3, none⟩ (.slice uo M.length uc)).setCell ⟨w.heap.size, 4, none⟩ (.slice uao la.length uac)).setCell ⟨w.heap.size, 5, none⟩ (.slice ubo lb.length ubc)).cell? ⟨w.heap.size, 1, none⟩ = some (.string S) := by go_simp
            have f2 : ((((((wf.setCell ⟨w.heap.size, 0, none⟩ (.int .i64 5)).setCell ⟨w.heap.size, 1, none⟩ (.string S)).setCell ⟨w.heap.size, 2, none⟩ (.string T)).setCell ⟨w.heap.size, 3, none⟩ (.slice uo M.length uc)).setCell ⟨w.heap.size, 4, none⟩ (.slice uao la.length uac)).setCell ⟨w.heap.size, 5, none⟩ (.slice ubo lb.length ubc)).cell? ⟨w.heap.size, 2, none⟩ = some (.string T) := by go_simp
            have f3 : ((((((wf.setCell ⟨w.heap.size, 0, none⟩ (.int .i64 5)).setCell ⟨w.heap.size, 1, none⟩ (.string S)).setCell ⟨w.heap.size, 2, none⟩ (.string T)).setCell ⟨w.heap.size, 3, none⟩ (.slice uo M.length uc)).setCell ⟨w.heap.size, 4, none⟩ (.slice uao la.length uac)).setCell ⟨w.heap.size, 5, none⟩ (.slice ubo lb.length ubc)).cell? ⟨w.heap.size, 3, none⟩ = some (.slice uo M.length uc) := by go_simp
            have f4 : ((((((wf.setCell ⟨w.heap.size, 0, none⟩ (.int .i64 5)).setCell ⟨w.heap.size, 1, none⟩ (.string S)).setCell ⟨w.heap.size, 2, none⟩ (.string T)).setCell ⟨w.heap.size, 3, none⟩ (.slice uo M.length uc)).setCell ⟨w.heap.size, 4, none⟩ (.slice uao la.length uac)).setCell ⟨w.heap.size, 5, none⟩ (.slice ubo lb.length ubc)).cell? ⟨w.heap.size, 4, none⟩ = some (.slice uao la.length uac) := by go_simp
            have f5 : ((((((wf.setCell ⟨w.heap.size, 0, none⟩ (.int .i64 5)).setCell ⟨w.heap.size, 1, none⟩ (.string S)).setCell ⟨w.heap.size, 2, none⟩ (.string T)).setCell ⟨w.heap.size, 3, none⟩ (.slice uo M.length uc)).setCell ⟨w.heap.size, 4, none⟩ (.slice uao la.length uac)).setCell ⟨w.heap.size, 5, none⟩ (.slice ubo lb.length ubc)).cell? ⟨w.heap.size, 5, none⟩ = some (.slice ubo lb.length ubc) := by go_simp
            obtain ⟨h1, h2, h3⟩ := HF.out
            refine bodyPost_ret (v := .agg #[(.int .i64 5), (.string S), (.string T), (.slice uo M.length uc), (.slice uao la.length uac), (.slice ubo lb.length ubc)]) ?_ rfl ⟨⟨.node 5 S T M la lb, .slice uo M.length uc, (.slice uao la.length uac), (.slice ubo lb.length ubc)⟩, rfl, ⟨n1, n2, n3, h1⟩, h2, h3⟩
            generalize ((((((wf.setCell ⟨w.heap.size, 0, none⟩ (.int .i64 5)).setCell ⟨w.heap.size, 1, none⟩ (.string S)).setCell ⟨w.heap.size, 2, none⟩ (.string T)).setCell ⟨w.heap.size, 3, none⟩ (.slice uo M.length uc)).setCell ⟨w.heap.size, 4, none⟩ (.slice uao la.length uac)).setCell ⟨w.heap.size, 5, none⟩ (.slice ubo lb.length ubc)) = W at f0 f1 f2 f3 f4 f5
            simp [results, Try.results33, go_sem, f0, f1, f2, f3, f4, f5]
           | false =>
            have HF := Hid.mk (HFIN.out we ⟨.node 5 S T M la [], .slice uo M.length uc, (.slice uao la.length uac), (.slice none 0 0)⟩ n1 n2 n2 ⟨DyS.node hS hT HDX.out HML.out HDa.out (by simp) HLa.out (by simp), ⟨by omega, by omega, by omega, by omega⟩, HEe.out.base (by omega), HSe.out.weak (by omega), SB.zero _ _ _⟩ (HCe.out) (HGe.out))
            have z0 := HBe.out.c0
            have z1 := HBe.out.c1
            have z2 := HBe.out.c2
            have z3 := HBe.out.c3
            have z4 := HBe.out.c4
            have z5 := HBe.out.c5
            have zf := HBe.out.fr
            have x0 := HXe.out.c0
            have x1 := HXe.out.c1
            have x2 := HXe.out.c2
            have x3 := HXe.out.c3
            have x4 := HXe.out.c4
            have x5 := HXe.out.c5
            clear HFIN
            go_wp2
            have f0 : ((((((we.setCell ⟨w.heap.size, 0, none⟩ (.int .i64 5)).setCell ⟨w.heap.size, 1, none⟩ (.string S)).setCell ⟨w.heap.size, 2, none⟩ (.string T)).setCell ⟨w.heap.size, 3, none⟩ (.slice uo M.length uc)).setCell ⟨w.heap.size, 4, none⟩ (.slice uao la.length uac)).setCell ⟨w.heap.size, 5, none⟩ (.slice none 0 0)).cell? ⟨w.heap.size, 0, none⟩ = some (.int .i64 5) := by go_simp
            have f1 : ((((((we.setCell ⟨w.heap.size, 0, none⟩ (.int .i64 5)).setCell ⟨w.heap.size, 1, none⟩ (.string S)).setCell ⟨w.heap.size, 2, none⟩ (.string T)).setCell ⟨w.heap.size, 3, none⟩ (.slice uo M.length uc)).setCell ⟨w.heap.size, 4, none⟩ (.slice uao la.length uac)).setCell ⟨w.heap.size, 5, none⟩ (.slice none 0 0)).cell? ⟨w.heap.size, 1, none⟩ = some (.string S) := by go_simp
            have f2 : ((((((we.setCell ⟨w.heap.size, 0, none⟩ (.int .i64 5)).setCell ⟨w.heap.size, 1, none⟩ (.string S)).setCell ⟨w.heap.size, 2, none⟩ (.string T)).setCell ⟨w.heap.size, 3, none⟩ (.slice uo M.length uc)).setCell ⟨w.heap.size, 4, none⟩ (.slice uao la.length uac)).setCell ⟨w.heap.size, 5, none⟩ (.slice none 0 0)).cell? ⟨w.heap.size, 2, none⟩ = some (.string T) := by go_simp
            have f3 : ((((((we.setCell ⟨w.heap.size, 0, none⟩ (.int .i64 5)).setCell ⟨w.heap.size, 1, none⟩ (.string S)).setCell ⟨w.heap.size, 2, none⟩ (.string T)).setCell ⟨w.heap.size, 3, none⟩ (.slice uo M.length uc)).setCell ⟨w.heap.size, 4, none⟩ (.slice uao la.length uac)).setCell ⟨w.heap.size, 5, none⟩ (.slice none 0 0)).cell? ⟨w.heap.size, 3, none⟩ = some (.slice uo M.length uc) := by go_simp
            have f4 : ((((((we.setCell ⟨w.heap.size, 0, none⟩ (.int .i64 5)).setCell ⟨w.heap.size, 1, none⟩ (.string S)).setCell ⟨w.heap.size, 2, none⟩ (.string T)).setCell ⟨w.heap.size, 3, none⟩ (.slice uo M.length uc)).setCell ⟨w.heap.size, 4, none⟩ (.slice uao la.length uac)).setCell ⟨w.heap.size, 5, none⟩ (.slice none 0 0)).cell? ⟨w.heap.size, 4, none⟩ = some (.slice uao la.length uac) := by go_simp
            have f5 : ((((((we.setCell ⟨w.heap.size, 0, none⟩ (.int .i64 5)).setCell ⟨w.heap.size, 1, none⟩ (.string S)).setCell ⟨w.heap.size, 2, none⟩ (.string T)).setCell ⟨w.heap.size, 3, none⟩ (.slice uo M.length uc)).setCell ⟨w.heap.size, 4, none⟩ (.slice uao la.length uac)).setCell ⟨w.heap.size, 5, none⟩ (.slice none 0 0)).cell? ⟨w.heap.size, 5, none⟩ = some (.slice none 0 0) := by go_simp
            obtain ⟨h1, h2, h3⟩ := HF.out
            refine bodyPost_ret (v := .agg #[(.int .i64 5), (.string S), (.string T), (.slice uo M.length uc), (.slice uao la.length uac), (.slice none 0 0)]) ?_ rfl ⟨⟨.node 5 S T M la [], .slice uo M.length uc, (.slice uao la.length uac), (.slice none 0 0)⟩, rfl, ⟨n1, n2, n2, h1⟩, h2, h3⟩
            generalize ((((((we.setCell ⟨w.heap.size, 0, none⟩ (.int .i64 5)).setCell ⟨w.heap.size, 1, none⟩ (.string S)).setCell ⟨w.heap.size, 2, none⟩ (.string T)).setCell ⟨w.heap.size, 3, none⟩ (.slice uo M.length uc)).setCell ⟨w.heap.size, 4, none⟩ (.slice uao la.length uac)).setCell ⟨w.heap.size, 5, none⟩ (.slice none 0 0)) = W at f0 f1 f2 f3 f4 f5
            simp [results, Try.results33, go_sem, f0, f1, f2, f3, f4, f5]
          ·have h5b : (K == 5) = false := beq_eq_false_iff_ne.2 h5
           have HF := Hid.mk (HFIN.out wd ⟨.node K S T M la [], .slice uo M.length uc, (.slice uao la.length uac), (.slice none 0 0)⟩ n1 n2 n2 ⟨DyS.node hS hT HDX.out HML.out HDa.out (by simp) HLa.out (by simp), ⟨by omega, by omega, by omega, by omega⟩, HEsa.out.base (by omega), HSsa.out.weak (by omega), SB.zero _ _ _⟩ (HCsa.out) (HGsa.out))
           have z0 := HBsa.out.c0
           have z1 := HBsa.out.c1
           have z2 := HBsa.out.c2
           have z3 := HBsa.out.c3
           have z4 := HBsa.out.c4
           have z5 := HBsa.out.c5
           have zf := HBsa.out.fr
           have x0 := HXsa.out.c0
           have x1 := HXsa.out.c1
           have x2 := HXsa.out.c2
           have x3 := HXsa.out.c3
           have x4 := HXsa.out.c4
           have x5 := HXsa.out.c5
           clear HFIN
           go_wp2
           have f0 : ((((((wd.setCell ⟨w.heap.size, 0, none⟩ (.int .i64 K)).setCell ⟨w.heap.size, 1, none⟩ (.string S)).setCell ⟨w.heap.size, 2, none⟩ (.string T)).setCell ⟨w.heap.size, 3, none⟩ (.slice uo M.length uc)).setCell ⟨w.heap.size, 4, none⟩ (.slice uao la.length uac)).setCell ⟨w.heap.size, 5, none⟩ (.slice none 0 0)).cell? ⟨w.heap.size, 0, none⟩ = some (.int .i64 K) := by go_simp
           have f1 : ((((((wd.setCell ⟨w.heap.size, 0, none⟩ (.int .i64 K)).setCell ⟨w.heap.size, 1, none⟩ (.string S)).setCell ⟨w.heap.size, 2, none⟩ (.string T)).setCell ⟨w.heap.size, 3, none⟩ (.slice uo M.length uc)).setCell ⟨w.heap.size, 4, none⟩ (.slice uao la.length uac)).setCell ⟨w.heap.size, 5, none⟩ (.slice none 0 0)).cell? ⟨w.heap.size, 1, none⟩ = some (.string S) := by go_simp
           have f2 : ((((((wd.setCell ⟨w.heap.size, 0, none⟩ (.int .i64 K)).setCell ⟨w.heap.size, 1, none⟩ (.string S)).setCell ⟨w.heap.size, 2, none⟩ (.string T)).setCell ⟨w.heap.size, 3, none⟩ (.slice uo M.length uc)).setCell ⟨w.heap.size, 4, none⟩ (.slice uao la.length uac)).setCell ⟨w.heap.size, 5, none⟩ (.slice none 0 0)).cell? ⟨w.heap.size, 2, none⟩ = some (.string T) := by go_simp
           have f3 : ((((((wd.setCell ⟨w.heap.size, 0, none⟩ (.int .i64 K)).setCell ⟨w.heap.size, 1, none⟩ (.string S)).setCell ⟨w.heap.size, 2, none⟩ (.string T)).setCell ⟨w.heap.size, 3, none⟩ (.slice uo M.length uc)).setCell ⟨w.heap.size, 4, none⟩ (.slice uao la.length uac)).setCell ⟨w.heap.size, 5, none⟩ (.slice none 0 0)).cell? ⟨w.heap.size, 3, none⟩ = some (.slice uo M.length uc) := by go_simp
           have f4 : ((((((wd.setCell ⟨w.heap.size, 0, none⟩ (.int .i64 K)).setCell ⟨w.heap.size, 1, none⟩ (.string S)).setCell ⟨w.heap.size, 2, none⟩ (.string T)).setCell ⟨w.heap.size, 3, none⟩ (.slice uo M.length uc)).setCell ⟨w.heap.size, 4, none⟩ (.slice uao la.length uac)).setCell ⟨w.heap.size, 5, none⟩ (.slice none 0 0)).cell? ⟨w.heap.size, 4, none⟩ = some (.slice uao la.length uac) := by go_simp
           have f5 : ((((((wd.setCell ⟨w.heap.size, 0, none⟩ (.int .i64 K)).setCell ⟨w.heap.size, 1, none⟩ (.string S)).setCell ⟨w.heap.size, 2, none⟩ (.string T)).setCell ⟨w.heap.size, 3, none⟩ (.slice uo M.length uc)).setCell ⟨w.heap.size, 4, none⟩ (.slice uao la.length uac)).setCell ⟨w.heap.size, 5, none⟩ (.slice none 0 0)).cell? ⟨w.heap.size, 5, none⟩ = some (.slice none 0 0) := by go_simp
           obtain ⟨h1, h2, h3⟩ := HF.out
           refine bodyPost_ret (v := .agg #[(.int .i64 K), (.string S), (.string T), (.slice uo M.length uc), (.slice uao la.length uac), (.slice none 0 0)]) ?_ rfl ⟨⟨.node K S T M la [], .slice uo M.length uc, (.slice uao la.length uac), (.slice none 0 0)⟩, rfl, ⟨n1, n2, n2, h1⟩, h2, h3⟩
           generalize ((((((wd.setCell ⟨w.heap.size, 0, none⟩ (.int .i64 K)).setCell ⟨w.heap.size, 1, none⟩ (.string S)).setCell ⟨w.heap.size, 2, none⟩ (.string T)).setCell ⟨w.heap.size, 3, none⟩ (.slice uo M.length uc)).setCell ⟨w.heap.size, 4, none⟩ (.slice uao la.length uac)).setCell ⟨w.heap.size, 5, none⟩ (.slice none 0 0)) = W at f0 f1 f2 f3 f4 f5
           simp [results, Try.results33, go_sem, f0, f1, f2, f3, f4, f5]
         ·refine (in57_any K false (decide_eq_false h57) _).mono ?_
          rintro e w' ⟨rfl, rfl⟩
          have h5b : (K == 5) = false := beq_eq_false_iff_ne.2 (by omega)
          have HF := Hid.mk (HFIN.out w' ⟨.node K S T M [] [], .slice uo M.length uc, (.slice none 0 0), (.slice none 0 0)⟩ n1 n1 n1 ⟨(DyS.leaf hS hT HDX.out HML.out).mono (Nat.zero_le _), ⟨by omega, by omega, by omega, by omega⟩, HEM.out.base (by omega), YB.zero _ _ _ _, SB.zero _ _ _⟩ (HC.out) (HG.out))
          have z0 := HB.out.c0
          have z1 := HB.out.c1
          have z2 := HB.out.c2
          have z3 := HB.out.c3
          have z4 := HB.out.c4
          have z5 := HB.out.c5
          have zf := HB.out.fr
          have x0 := HX.out.c0
          have x1 := HX.out.c1
          have x2 := HX.out.c2
          have x3 := HX.out.c3
          have x4 := HX.out.c4
          have x5 := HX.out.c5
          clear HFIN
          go_wp2
          have f0 : ((((((w'.setCell ⟨w.heap.size, 0, none⟩ (.int .i64 K)).setCell ⟨w.heap.size, 1, none⟩ (.string S)).setCell ⟨w.heap.size, 2, none⟩ (.string T)).setCell ⟨w.heap.size, 3, none⟩ (.slice uo M.length uc)).setCell ⟨w.heap.size, 4, none⟩ (.slice none 0 0)).setCell ⟨w.heap.size, 5, none⟩ (.slice none 0 0)).cell? ⟨w.heap.size, 0, none⟩ = some (.int .i64 K) := by go_simp
          have f1 : ((((((w'.setCell ⟨w.heap.size, 0, none⟩ (.int .i64 K)).setCell ⟨w.heap.size, 1, none⟩ (.string S)).setCell ⟨w.heap.size, 2, none⟩ (.string T)).setCell ⟨w.heap.size, 3, none⟩ (.slice uo M.length uc)).setCell ⟨w.heap.size, 4, none⟩ (.slice none 0 0)).setCell ⟨w.heap.size, 5, none⟩ (.slice none 0 0)).cell? ⟨w.heap.size, 1, none⟩ = some (.string S) := by go_simp
          have f2 : ((((((w'.setCell ⟨w.heap.size, 0, none⟩ (.int .i64 K)).setCell ⟨w.heap.size, 1, none⟩ (.string S)).setCell ⟨w.heap.size, 2, none⟩ (.string T)).setCell ⟨w.heap.size, 3, none⟩ (.slice uo M.length uc)).setCell ⟨w.heap.size, 4, none⟩ (.slice none 0 0)).setCell ⟨w.heap.size, 5, none⟩ (.slice none 0 0)).cell? ⟨w.heap.size, 2, none⟩ = some (.string T) := by go_simp
          have f3 : ((((((w'.setCell ⟨w.heap.size, 0, none⟩ (.int .i64 K)).setCell ⟨w.heap.size, 1, none⟩ (.string S)).setCell ⟨w.heap.size, 2, none⟩ (.string T)).setCell ⟨w.heap.size, 3, none⟩ (.slice uo M.length uc)).setCell ⟨w.heap.size, 4, none⟩ (.slice none 0 0)).setCell ⟨w.heap.size, 5, none⟩ (.slice none 0 0)).cell? ⟨w.heap.size, 3, none⟩ = some (.slice uo M.length uc) := by go_simp
          have f4 : ((((((w'.setCell ⟨w.heap.size, 0, none⟩ (.int .i64 K)).setCell ⟨w.heap.size, 1, none⟩ (.string S)).setCell ⟨w.heap.size, 2, none⟩ (.string T)).setCell ⟨w.heap.size, 3, none⟩ (.slice uo M.length uc)).setCell ⟨w.heap.size, 4, none⟩ (.slice none 0 0)).setCell ⟨w.heap.size, 5, none⟩ (.slice none 0 0)).cell? ⟨w.heap.size, 4, none⟩ = some (.slice none 0 0) := by go_simp
          have f5 : ((((((w'.setCell ⟨w.heap.size, 0, none⟩ (.int .i64 K)).setCell ⟨w.heap.size, 1, none⟩ (.string S)).setCell ⟨w.heap.size, 2, none⟩ (.string T)).setCell ⟨w.heap.size, 3, none⟩ (.slice uo M.length uc)).setCell ⟨w.heap.size, 4, none⟩ (.slice none 0 0)).setCell ⟨w.heap.size, 5, none⟩ (.slice none 0 0)).cell? ⟨w.heap.size, 5, none⟩ = some (.slice none 0 0) := by go_simp
          obtain ⟨h1, h2, h3⟩ := HF.out
          refine bodyPost_ret (v := .agg #[(.int .i64 K), (.string S), (.string T), (.slice uo M.length uc), (.slice none 0 0), (.slice none 0 0)]) ?_ rfl ⟨⟨.node K S T M [] [], .slice uo M.length uc, (.slice none 0 0), (.slice none 0 0)⟩, rfl, ⟨n1, n1, n1, h1⟩, h2, h3⟩
          generalize ((((((w'.setCell ⟨w.heap.size, 0, none⟩ (.int .i64 K)).setCell ⟨w.heap.size, 1, none⟩ (.string S)).setCell ⟨w.heap.size, 2, none⟩ (.string T)).setCell ⟨w.heap.size, 3, none⟩ (.slice uo M.length uc)).setCell ⟨w.heap.size, 4, none⟩ (.slice none 0 0)).setCell ⟨w.heap.size, 5, none⟩ (.slice none 0 0)) = W at f0 f1 f2 f3 f4 f5
          simp [results, Try.results33, go_sem, f0, f1, f2, f3, f4, f5]
end Go.Proofs.Ytijpmnenegdmnaa
