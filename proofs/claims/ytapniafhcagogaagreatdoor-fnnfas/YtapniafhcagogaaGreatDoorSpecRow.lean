/- The model's matrices: one added to another one. The model's matrices: one behind the other. The model's matrices: as often as may be. Where a part that begins at each place may end: what the document says; the model's answer. Where a part may end, the model's answer: one behind the other, one or the other, and what takes nothing. The places that are told, ascending: the model's answer. -/
import Derived.Test.YtapniafhcagogaaGreatDoorMatSame
import Derived.Test.YtapniafhcagogaaGreatDoorMarkSh
import Derived.Test.YtapniafhcagogaaGreatDoorTake
import Derived.Test.YtapniafhcagogaaGreatDoorMatThenM
import Derived.Test.YtapniafhcagogaaGreatDoorRexOkI
import Derived.Test.YtapniafhcagogaaGreatDoorRexOkT
namespace Go.Proofs.YtapniafhcagogaaGreatDoor
open Go.RowKit
set_option maxRecDepth 8000

/-- What is added: the part on and behind the diagonal. -/
def mAdd (M X : Mat) : Mat := fun i j => M i j || (decide (i ≤ j) && X i j)
/-- How far it has come: rows below i, and in row i the places below k. -/
def addUpto (M X : Mat) (i k : Nat) : Mat := fun x y => M x y || (decide (x ≤ y) && X x y && (decide (x < i) || decide (x = i ∧ y < k)))

theorem addUpto_row (M X : Mat) (i n x y : Nat) (hy : y ≤ n) : addUpto M X i (n + 1) x y = addUpto M X (i + 1) (i + 1) x y := by
  unfold addUpto
  rw [Bool.eq_iff_iff]
  simp only [Bool.or_eq_true, Bool.and_eq_true, decide_eq_true_iff]
  constructor
  · rintro (h | ⟨⟨h1, h2⟩, h3⟩)
    · exact Or.inl h
    · exact Or.inr ⟨⟨h1, h2⟩, by omega⟩
  · rintro (h | ⟨⟨h1, h2⟩, h3⟩)
    · exact Or.inl h
    · exact Or.inr ⟨⟨h1, h2⟩, by omega⟩
theorem addUpto_start (M X : Mat) (x y : Nat) : M x y = addUpto M X 0 0 x y := by
  unfold addUpto
  simp
theorem addUpto_done (M X : Mat) (n x y : Nat) (hx : x ≤ n) : addUpto M X (n + 1) (n + 1) x y = mAdd M X x y := by
  unfold addUpto mAdd
  rw [decide_eq_true (show x < n + 1 by omega)]
  simp
theorem addUpto_step (M X : Mat) (i k x y : Nat) (hik : i ≤ k) : updM (addUpto M X i k) i k (addUpto M X i k i k || X i k) x y = addUpto M X i (k + 1) x y := by
  rw [updM_at]
  split
  · rename_i h; obtain ⟨rfl, rfl⟩ := h
    unfold addUpto
    simp [hik]
  · rename_i h
    unfold addUpto
    rw [Bool.eq_iff_iff]
    simp only [Bool.or_eq_true, Bool.and_eq_true, decide_eq_true_iff]
    constructor
    · rintro (h | ⟨⟨h1, h2⟩, h3⟩)
      · exact Or.inl h
      · exact Or.inr ⟨⟨h1, h2⟩, by omega⟩
    · rintro (h | ⟨⟨h1, h2⟩, h3⟩)
      · exact Or.inl h
      · exact Or.inr ⟨⟨h1, h2⟩, by omega⟩

set_option maxHeartbeats 1000000 in
theorem l4Add_any (n : Nat) (hn : n ≤ 200) (B C : Nat → Prop) (M X : Mat) (v x : Value) (w : World) (hv : Mx w B n M v) (hx : Mx w C n X x) (hBC : ∀ b, B b → ¬ C b) :
    Calls Tryz.prog 70 #[v, x] w fun e w' => (∃ u, e = .returned u) ∧ Mx w' B n (mAdd M X) v ∧ Turn B w w' := by
  obtain ⟨g, cap, R, rfl, hc1, hc2, hap, hq⟩ := hv
  obtain ⟨g2, cap2, R2, rfl, hd1, hd2, hap2, hq2⟩ := hx
  have hcm : cap ≤ 9223372036854775807 := by unfold maxLen at hc2; omega
  have hcm2 : cap2 ≤ 9223372036854775807 := by unfold maxLen at hd2; omega
  have HC := Hid.mk (And.intro hc1 hc2)
  have HA := Hid.mk hap
  have HA2 := Hid.mk hap2
  have HQ : Hid (Mq w g R n (addUpto M X 0 0)) := hq.ext (fun i k _ _ => addUpto_start M X i k)
  have HQ2 := Hid.mk hq2
  have HBC := Hid.mk hBC
  have HT := Hid.mk (Turn.refl B w)
  clear hq hq2 hap hap2 hc1 hc2 hd1 hd2 hBC
  go_enter Tryz.func70, Tryz.ntmps70
  go_wp2
  go_loopw [4] (fun i wr => ∃ (k : Nat), k ≤ n + 1 ∧ i = .int .i64 k ∧ Hid (Mq wr g R n (addUpto M X k k)) ∧ Hid (Mq wr g2 R2 n X) ∧ Hid (Turn B w wr)) (fun i _ => n + 1 - (intOf i).toNat)
  case atStart => exact ⟨0, Nat.zero_le _, rfl, HQ, HQ2, HT⟩
  case round =>
    obtain ⟨i, hi, rfl, HQr, HQ2r, HTr⟩ := hrel
    clear HQ HQ2 HT
    by_cases hin : (i : Int) < (n : Int) + 1
    · have hil : i ≤ n := by omega
      go_wp2
      go_loopw [5] (fun k wq => ∃ (j : Nat), i ≤ j ∧ j ≤ n + 1 ∧ k = .int .i64 j ∧ Hid (Mq wq g R n (addUpto M X i j)) ∧ Hid (Mq wq g2 R2 n X) ∧ Hid (Turn B w wq)) (fun k _ => n + 1 - (intOf k).toNat)
      case atStart => exact ⟨i, Nat.le_refl _, by omega, rfl, HQr, HQ2r, HTr⟩
      case round =>
        obtain ⟨j, hij, hj, rfl, HQs, HQ2s, HTs⟩ := hrel
        clear HQr HQ2r HTr
        by_cases hjn : (j : Int) < (n : Int) + 1
        · have hjl : j ≤ n := by omega
          have o1 := HQs.out.outer i hil
          have c1 := HQs.out.cell hil hjl
          have f1 := HQs.out.frozen hil j
          have o2 := HQ2s.out.outer i hil
          have c2 := HQ2s.out.cell hil hjl
          have HST := Hid.mk (fun (wz : World) (b : Bool) (hb : b = (addUpto M X i j i j || X i j)) => show Mq (wz.setCell ⟨R i, j, none⟩ (.bool b)) g R n (addUpto M X i (j + 1)) ∨ ¬ Mq wz g R n (addUpto M X i j) from by
            by_cases hq : Mq wz g R n (addUpto M X i j)
            · left; rw [hb]; exact (hq.set HA.out hil j _).ext (fun x y _ _ => addUpto_step M X i j x y hij)
            · exact Or.inr hq)
          obtain ⟨b1, hb1⟩ : ∃ b, addUpto M X i j i j = b := ⟨_, rfl⟩
          obtain ⟨b2, hb2⟩ : ∃ b, X i j = b := ⟨_, rfl⟩
          rw [hb1] at c1 HST
          rw [hb2] at c2 HST
          have HR2 : Hid (∀ (wz : World) (b : Bool), Mq wz g2 R2 n X → Mq (wz.setCell ⟨R i, j, none⟩ (.bool b)) g2 R2 n X) := fun wz b h =>
            h.kept (heap_setCell_other _ _ _ _ (fun e => HBC.out _ (HA.out.br i hil) (by have e' : g2 = R i := e; rw [← e']; exact HA2.out.bg))) (fun x hx => heap_setCell_other _ _ _ _ (fun e => HBC.out _ (HA.out.br i hil) (by have e' : R2 x = R i := e; rw [← e']; exact HA2.out.br x hx)))
          have HTT : Hid (∀ (wz : World) (b : Bool), Turn B w wz → Turn B w (wz.setCell ⟨R i, j, none⟩ (.bool b))) := fun wz b h => h.trans (Turn.setCell wz (HA.out.br i hil) _)
          clear hb1 hb2
          have SS : Hid (∀ b, b < wr.heap.size → b ≠ R i → wr.drew.heap[b]? = wr.heap[b]?) := fun b _ _ => rfl
          have hgl := HQs.out.ltg
          have hgs := HQ2s.out.ltg
          have hrs := HQ2s.out.lt hil
          have hgne : g ≠ R i := (HA.out.ne i hil).symm
          have hgsne : g2 ≠ R i := fun e => HBC.out _ (HA.out.br i hil) (by rw [← e]; exact HA2.out.bg)
          have hrsne : R2 i ≠ R i := fun e => HBC.out _ (HA.out.br i hil) (by rw [← e]; exact HA2.out.br i hil)
          cases b1 with
          | true =>
            have HQn := Hid.mk (((HST.out wr.drew true rfl).resolve_right (fun h => h (HQs.out.grow (Below.drewSelf _ _ 1)))))
            have HQ2n := Hid.mk (HR2.out wr.drew true (HQ2s.out.grow (Below.drewSelf _ _ 1)))
            have HTn := Hid.mk (HTT.out wr.drew true (HTs.out.trans (Turn.below (Below.drewSelf _ _ 1))))
            clear HST HR2 HTT HQs HQ2s HTs
            go_wp2
            refine wp_region_held_drew (S := fun w' => ∀ b, b < wr.heap.size → b ≠ R i → w'.heap[b]? = wr.heap[b]?) (by kernel_rfl) SS.out (fun _ => ?_)
            refine takeHD (i := 0) (v := .slice (some ⟨g, 0, none⟩) (n + 1) cap) (some 19) rfl rfl (by kernel_rfl) (by kernel_rfl) (by kernel_rfl) (fun _ _ _ h => h) (Or.inl ⟨by kernel_rfl, fun w' hw => ?_⟩) SS.out ?_
            · kernel_rfl
            simp only [Act.put, List.setIfInBounds_toArray]
            refine takeHD (i := 1) (v := .int .i64 i) (some 20) rfl rfl (by kernel_rfl) (by kernel_rfl) (by kernel_rfl) (fun _ _ _ h => h) (Or.inl ⟨by kernel_rfl, fun w' hw => ?_⟩) SS.out ?_
            · kernel_rfl
            simp only [Act.put, List.setIfInBounds_toArray]
            refine takeHD (i := 2) (v := .pointer (some ⟨g, i, none⟩)) (some 21) rfl rfl (by kernel_rfl) (by kernel_rfl) (by kernel_rfl) (fun _ _ _ h => h) (Or.inl ⟨by kernel_rfl, fun w' hw => ?_⟩) SS.out ?_
            · first | (go_simp; done) | (go_simp; intro h; omega) | (go_simp; rw [IntKind.wrap_i64]; omega)
            simp only [Act.put, List.setIfInBounds_toArray]
            refine takeHD (i := 3) (v := .slice (some ⟨R i, 0, none⟩) (n + 1) (n + 1)) (some 22) rfl rfl (by kernel_rfl) (by kernel_rfl) (by kernel_rfl) (fun _ _ _ h => h) (Or.inl ⟨by kernel_rfl, fun w' hw => ?_⟩) SS.out ?_
            · have e := World.cell?_of_block (a := ⟨g, i, none⟩) (hw _ hgl hgne); rw [o1] at e; go_simp
            simp only [Act.put, List.setIfInBounds_toArray]
            refine takeHD (i := 4) (v := .int .i64 j) (some 23) rfl rfl (by kernel_rfl) (by kernel_rfl) (by kernel_rfl) (fun _ _ _ h => h) (Or.inl ⟨by kernel_rfl, fun w' hw => ?_⟩) SS.out ?_
            · kernel_rfl
            simp only [Act.put, List.setIfInBounds_toArray]
            refine takeHD (i := 5) (v := .slice (some ⟨g, 0, none⟩) (n + 1) cap) (some 24) rfl rfl (by kernel_rfl) (by kernel_rfl) (by kernel_rfl) (fun _ _ _ h => h) (Or.inl ⟨by kernel_rfl, fun w' hw => ?_⟩) SS.out ?_
            · kernel_rfl
            simp only [Act.put, List.setIfInBounds_toArray]
            refine takeHD (i := 6) (v := .int .i64 i) (some 25) rfl rfl (by kernel_rfl) (by kernel_rfl) (by kernel_rfl) (fun _ _ _ h => h) (Or.inl ⟨by kernel_rfl, fun w' hw => ?_⟩) SS.out ?_
            · kernel_rfl
            simp only [Act.put, List.setIfInBounds_toArray]
            refine takeHD (i := 7) (v := .pointer (some ⟨g, i, none⟩)) (some 26) rfl rfl (by kernel_rfl) (by kernel_rfl) (by kernel_rfl) (fun _ _ _ h => h) (Or.inl ⟨by kernel_rfl, fun w' hw => ?_⟩) SS.out ?_
            · first | (go_simp; done) | (go_simp; intro h; omega) | (go_simp; rw [IntKind.wrap_i64]; omega)
            simp only [Act.put, List.setIfInBounds_toArray]
            refine takeHD (i := 8) (v := .slice (some ⟨R i, 0, none⟩) (n + 1) (n + 1)) (some 27) rfl rfl (by kernel_rfl) (by kernel_rfl) (by kernel_rfl) (fun _ _ _ h => h) (Or.inl ⟨by kernel_rfl, fun w' hw => ?_⟩) SS.out ?_
            · have e := World.cell?_of_block (a := ⟨g, i, none⟩) (hw _ hgl hgne); rw [o1] at e; go_simp
            simp only [Act.put, List.setIfInBounds_toArray]
            refine takeHD (i := 9) (v := .int .i64 j) (some 28) rfl rfl (by kernel_rfl) (by kernel_rfl) (by kernel_rfl) (fun _ _ _ h => h) (Or.inl ⟨by kernel_rfl, fun w' hw => ?_⟩) SS.out ?_
            · kernel_rfl
            simp only [Act.put, List.setIfInBounds_toArray]
            refine takeHD (i := 10) (v := .pointer (some ⟨R i, j, none⟩)) (some 29) rfl rfl (by kernel_rfl) (by kernel_rfl) (by kernel_rfl) (fun _ _ _ h => h) (Or.inl ⟨by kernel_rfl, fun w' hw => ?_⟩) SS.out ?_
            · first | (go_simp; done) | (go_simp; intro h; omega) | (go_simp; rw [IntKind.wrap_i64]; omega)
            simp only [Act.put, List.setIfInBounds_toArray]
            refine wpAnyH_ready (rs := [11]) (by kernel_rfl) (by simp) ?_
            refine AllReadyH.cons rfl (fun K hK => ?_) AllReadyH.nil
            rw [if_pos (by kernel_rfl)]
            go_wp2_with fail
            refine hK.out _ _ SS.out (fun _ => ?_)
            clear hK K
            refine takeHD (i := 12) (v := .bool true) (some 31) rfl rfl (by kernel_rfl) (by kernel_rfl) (by kernel_rfl) (fun _ _ _ h => h) (Or.inl ⟨by kernel_rfl, fun w' hw => ?_⟩) SS.out ?_
            · kernel_rfl
            simp only [Act.put, List.setIfInBounds_toArray]
            refine takeHD (i := 13) (v := undef) (some 32) rfl rfl (by kernel_rfl) (by kernel_rfl) (by kernel_rfl) (fun _ _ _ h => h) (Or.inr ⟨by kernel_rfl, rfl⟩) SS.out ?_
            simp only [Act.put, List.setIfInBounds_toArray]
            refine takeHD (i := 14) (v := undef) (some 33) rfl rfl (by kernel_rfl) (by kernel_rfl) (by kernel_rfl) (fun _ _ _ h => h) (Or.inr ⟨by kernel_rfl, rfl⟩) SS.out ?_
            simp only [Act.put, List.setIfInBounds_toArray]
            refine takeHD (i := 15) (v := undef) (some 34) rfl rfl (by kernel_rfl) (by kernel_rfl) (by kernel_rfl) (fun _ _ _ h => h) (Or.inr ⟨by kernel_rfl, rfl⟩) SS.out ?_
            simp only [Act.put, List.setIfInBounds_toArray]
            refine takeHD (i := 16) (v := undef) (some 35) rfl rfl (by kernel_rfl) (by kernel_rfl) (by kernel_rfl) (fun _ _ _ h => h) (Or.inr ⟨by kernel_rfl, rfl⟩) SS.out ?_
            simp only [Act.put, List.setIfInBounds_toArray]
            refine takeHD (i := 17) (v := undef) (some 36) rfl rfl (by kernel_rfl) (by kernel_rfl) (by kernel_rfl) (fun _ _ _ h => h) (Or.inr ⟨by kernel_rfl, rfl⟩) SS.out ?_
            simp only [Act.put, List.setIfInBounds_toArray]
            refine takeHD (i := 18) (v := undef) (some 37) rfl rfl (by kernel_rfl) (by kernel_rfl) (by kernel_rfl) (fun _ _ _ h => h) (Or.inr ⟨by kernel_rfl, rfl⟩) SS.out ?_
            simp only [Act.put, List.setIfInBounds_toArray]
            refine takeHD (i := 19) (v := undef) (some 38) rfl rfl (by kernel_rfl) (by kernel_rfl) (by kernel_rfl) (fun _ _ _ h => h) (Or.inr ⟨by kernel_rfl, rfl⟩) SS.out ?_
            simp only [Act.put, List.setIfInBounds_toArray]
            refine takeHD (i := 20) (v := .bool true) (some 39) rfl rfl (by kernel_rfl) (by kernel_rfl) (by kernel_rfl) (fun _ _ _ h => h) (Or.inl ⟨by kernel_rfl, fun w' hw => ?_⟩) SS.out ?_
            · kernel_rfl
            simp only [Act.put, List.setIfInBounds_toArray]
            refine takeHD (i := 21) (v := .pointer (some ⟨R i, j, none⟩)) (some 40) rfl rfl (by kernel_rfl) (by kernel_rfl) (by kernel_rfl) (fun _ _ _ h => h) (Or.inl ⟨by kernel_rfl, fun w' hw => ?_⟩) SS.out ?_
            · first | (go_simp; done) | (go_simp; intro h; omega) | (go_simp; rw [IntKind.wrap_i64]; omega)
            simp only [Act.put, List.setIfInBounds_toArray]
            refine wpAnyH_ready (rs := [22]) (by kernel_rfl) (by simp) ?_
            refine AllReadyH.cons rfl (fun K hK => ?_) AllReadyH.nil
            rw [if_pos (by kernel_rfl)]
            go_wp2_with fail
            refine hK.out _ _ (fun b hb hne => heap_setCell_other wr.drew ⟨R i, j, none⟩ b _ hne) (fun _ => ?_)
            clear hK K
            refine wpAnyH_done (by kernel_rfl) ?_ _
            go_wp2
            go_roundw
            case rel => exact ⟨j + 1, by omega, by omega, by go_num, HQn, HQ2n, HTn⟩
            case measure => simp [intOf]; omega
          | false =>
            have HQn := Hid.mk (((HST.out wr.drew b2 rfl).resolve_right (fun h => h (HQs.out.grow (Below.drewSelf _ _ 1)))))
            have HQ2n := Hid.mk (HR2.out wr.drew b2 (HQ2s.out.grow (Below.drewSelf _ _ 1)))
            have HTn := Hid.mk (HTT.out wr.drew b2 (HTs.out.trans (Turn.below (Below.drewSelf _ _ 1))))
            clear HST HR2 HTT HQs HQ2s HTs
            go_wp2
            refine wp_region_held_drew (S := fun w' => ∀ b, b < wr.heap.size → b ≠ R i → w'.heap[b]? = wr.heap[b]?) (by kernel_rfl) SS.out (fun _ => ?_)
            refine takeHD (i := 0) (v := .slice (some ⟨g, 0, none⟩) (n + 1) cap) (some 19) rfl rfl (by kernel_rfl) (by kernel_rfl) (by kernel_rfl) (fun _ _ _ h => h) (Or.inl ⟨by kernel_rfl, fun w' hw => ?_⟩) SS.out ?_
            · kernel_rfl
            simp only [Act.put, List.setIfInBounds_toArray]
            refine takeHD (i := 1) (v := .int .i64 i) (some 20) rfl rfl (by kernel_rfl) (by kernel_rfl) (by kernel_rfl) (fun _ _ _ h => h) (Or.inl ⟨by kernel_rfl, fun w' hw => ?_⟩) SS.out ?_
            · kernel_rfl
            simp only [Act.put, List.setIfInBounds_toArray]
            refine takeHD (i := 2) (v := .pointer (some ⟨g, i, none⟩)) (some 21) rfl rfl (by kernel_rfl) (by kernel_rfl) (by kernel_rfl) (fun _ _ _ h => h) (Or.inl ⟨by kernel_rfl, fun w' hw => ?_⟩) SS.out ?_
            · first | (go_simp; done) | (go_simp; intro h; omega) | (go_simp; rw [IntKind.wrap_i64]; omega)
            simp only [Act.put, List.setIfInBounds_toArray]
            refine takeHD (i := 3) (v := .slice (some ⟨R i, 0, none⟩) (n + 1) (n + 1)) (some 22) rfl rfl (by kernel_rfl) (by kernel_rfl) (by kernel_rfl) (fun _ _ _ h => h) (Or.inl ⟨by kernel_rfl, fun w' hw => ?_⟩) SS.out ?_
            · have e := World.cell?_of_block (a := ⟨g, i, none⟩) (hw _ hgl hgne); rw [o1] at e; go_simp
            simp only [Act.put, List.setIfInBounds_toArray]
            refine takeHD (i := 4) (v := .int .i64 j) (some 23) rfl rfl (by kernel_rfl) (by kernel_rfl) (by kernel_rfl) (fun _ _ _ h => h) (Or.inl ⟨by kernel_rfl, fun w' hw => ?_⟩) SS.out ?_
            · kernel_rfl
            simp only [Act.put, List.setIfInBounds_toArray]
            refine takeHD (i := 5) (v := .slice (some ⟨g, 0, none⟩) (n + 1) cap) (some 24) rfl rfl (by kernel_rfl) (by kernel_rfl) (by kernel_rfl) (fun _ _ _ h => h) (Or.inl ⟨by kernel_rfl, fun w' hw => ?_⟩) SS.out ?_
            · kernel_rfl
            simp only [Act.put, List.setIfInBounds_toArray]
            refine takeHD (i := 6) (v := .int .i64 i) (some 25) rfl rfl (by kernel_rfl) (by kernel_rfl) (by kernel_rfl) (fun _ _ _ h => h) (Or.inl ⟨by kernel_rfl, fun w' hw => ?_⟩) SS.out ?_
            · kernel_rfl
            simp only [Act.put, List.setIfInBounds_toArray]
            refine takeHD (i := 7) (v := .pointer (some ⟨g, i, none⟩)) (some 26) rfl rfl (by kernel_rfl) (by kernel_rfl) (by kernel_rfl) (fun _ _ _ h => h) (Or.inl ⟨by kernel_rfl, fun w' hw => ?_⟩) SS.out ?_
            · first | (go_simp; done) | (go_simp; intro h; omega) | (go_simp; rw [IntKind.wrap_i64]; omega)
            simp only [Act.put, List.setIfInBounds_toArray]
            refine takeHD (i := 8) (v := .slice (some ⟨R i, 0, none⟩) (n + 1) (n + 1)) (some 27) rfl rfl (by kernel_rfl) (by kernel_rfl) (by kernel_rfl) (fun _ _ _ h => h) (Or.inl ⟨by kernel_rfl, fun w' hw => ?_⟩) SS.out ?_
            · have e := World.cell?_of_block (a := ⟨g, i, none⟩) (hw _ hgl hgne); rw [o1] at e; go_simp
            simp only [Act.put, List.setIfInBounds_toArray]
            refine takeHD (i := 9) (v := .int .i64 j) (some 28) rfl rfl (by kernel_rfl) (by kernel_rfl) (by kernel_rfl) (fun _ _ _ h => h) (Or.inl ⟨by kernel_rfl, fun w' hw => ?_⟩) SS.out ?_
            · kernel_rfl
            simp only [Act.put, List.setIfInBounds_toArray]
            refine takeHD (i := 10) (v := .pointer (some ⟨R i, j, none⟩)) (some 29) rfl rfl (by kernel_rfl) (by kernel_rfl) (by kernel_rfl) (fun _ _ _ h => h) (Or.inl ⟨by kernel_rfl, fun w' hw => ?_⟩) SS.out ?_
            · first | (go_simp; done) | (go_simp; intro h; omega) | (go_simp; rw [IntKind.wrap_i64]; omega)
            simp only [Act.put, List.setIfInBounds_toArray]
            refine wpAnyH_ready (rs := [11]) (by kernel_rfl) (by simp) ?_
            refine AllReadyH.cons rfl (fun K hK => ?_) AllReadyH.nil
            rw [if_pos (by kernel_rfl)]
            go_wp2_with fail
            refine hK.out _ _ SS.out (fun _ => ?_)
            clear hK K
            refine takeHD (i := 12) (v := .bool false) (some 31) rfl rfl (by kernel_rfl) (by kernel_rfl) (by kernel_rfl) (fun _ _ _ h => h) (Or.inl ⟨by kernel_rfl, fun w' hw => ?_⟩) SS.out ?_
            · kernel_rfl
            simp only [Act.put, List.setIfInBounds_toArray]
            refine takeHD (i := 13) (v := .slice (some ⟨g2, 0, none⟩) (n + 1) cap2) (some 32) rfl rfl (by kernel_rfl) (by kernel_rfl) (by kernel_rfl) (fun _ _ _ h => h) (Or.inl ⟨by kernel_rfl, fun w' hw => ?_⟩) SS.out ?_
            · kernel_rfl
            simp only [Act.put, List.setIfInBounds_toArray]
            refine takeHD (i := 14) (v := .int .i64 i) (some 33) rfl rfl (by kernel_rfl) (by kernel_rfl) (by kernel_rfl) (fun _ _ _ h => h) (Or.inl ⟨by kernel_rfl, fun w' hw => ?_⟩) SS.out ?_
            · kernel_rfl
            simp only [Act.put, List.setIfInBounds_toArray]
            refine takeHD (i := 15) (v := .pointer (some ⟨g2, i, none⟩)) (some 34) rfl rfl (by kernel_rfl) (by kernel_rfl) (by kernel_rfl) (fun _ _ _ h => h) (Or.inl ⟨by kernel_rfl, fun w' hw => ?_⟩) SS.out ?_
            · first | (go_simp; done) | (go_simp; intro h; omega) | (go_simp; rw [IntKind.wrap_i64]; omega)
            simp only [Act.put, List.setIfInBounds_toArray]
            refine takeHD (i := 16) (v := .slice (some ⟨R2 i, 0, none⟩) (n + 1) (n + 1)) (some 35) rfl rfl (by kernel_rfl) (by kernel_rfl) (by kernel_rfl) (fun _ _ _ h => h) (Or.inl ⟨by kernel_rfl, fun w' hw => ?_⟩) SS.out ?_
            · have e := World.cell?_of_block (a := ⟨g2, i, none⟩) (hw _ hgs hgsne); rw [o2] at e; go_simp
            simp only [Act.put, List.setIfInBounds_toArray]
            refine takeHD (i := 17) (v := .int .i64 j) (some 36) rfl rfl (by kernel_rfl) (by kernel_rfl) (by kernel_rfl) (fun _ _ _ h => h) (Or.inl ⟨by kernel_rfl, fun w' hw => ?_⟩) SS.out ?_
            · kernel_rfl
            simp only [Act.put, List.setIfInBounds_toArray]
            refine takeHD (i := 18) (v := .pointer (some ⟨R2 i, j, none⟩)) (some 37) rfl rfl (by kernel_rfl) (by kernel_rfl) (by kernel_rfl) (fun _ _ _ h => h) (Or.inl ⟨by kernel_rfl, fun w' hw => ?_⟩) SS.out ?_
            · first | (go_simp; done) | (go_simp; intro h; omega) | (go_simp; rw [IntKind.wrap_i64]; omega)
            simp only [Act.put, List.setIfInBounds_toArray]
            refine takeHD (i := 19) (v := .bool b2) (some 38) rfl rfl (by kernel_rfl) (by kernel_rfl) (by kernel_rfl) (fun _ _ _ h => h) (Or.inl ⟨by kernel_rfl, fun w' hw => ?_⟩) SS.out ?_
            · have e := World.cell?_of_block (a := ⟨R2 i, j, none⟩) (hw _ hrs hrsne); rw [c2] at e; go_simp
            simp only [Act.put, List.setIfInBounds_toArray]
            refine takeHD (i := 20) (v := .bool b2) (some 39) rfl rfl (by kernel_rfl) (by kernel_rfl) (by kernel_rfl) (fun _ _ _ h => h) (Or.inl ⟨by kernel_rfl, fun w' hw => ?_⟩) SS.out ?_
            · kernel_rfl
            simp only [Act.put, List.setIfInBounds_toArray]
            refine takeHD (i := 21) (v := .pointer (some ⟨R i, j, none⟩)) (some 40) rfl rfl (by kernel_rfl) (by kernel_rfl) (by kernel_rfl) (fun _ _ _ h => h) (Or.inl ⟨by kernel_rfl, fun w' hw => ?_⟩) SS.out ?_
            · first | (go_simp; done) | (go_simp; intro h; omega) | (go_simp; rw [IntKind.wrap_i64]; omega)
            simp only [Act.put, List.setIfInBounds_toArray]
            refine wpAnyH_ready (rs := [22]) (by kernel_rfl) (by simp) ?_
            refine AllReadyH.cons rfl (fun K hK => ?_) AllReadyH.nil
            rw [if_pos (by kernel_rfl)]
            go_wp2_with fail
            refine hK.out _ _ (fun b hb hne => heap_setCell_other wr.drew ⟨R i, j, none⟩ b _ hne) (fun _ => ?_)
            clear hK K
            refine wpAnyH_done (by kernel_rfl) ?_ _
            go_wp2
            go_roundw
            case rel => exact ⟨j + 1, by omega, by omega, by go_num, HQn, HQ2n, HTn⟩
            case measure => simp [intOf]; omega
        · have hje : j = n + 1 := by omega
          subst hje
          have HQn : Hid (Mq wr g R n (addUpto M X (i + 1) (i + 1))) := HQs.out.ext (fun x y _ hy => addUpto_row M X i n x y hy)
          clear HQs
          go_wp2
          go_roundw
          case rel => exact ⟨i + 1, by omega, by go_num, HQn, HQ2s, HTs⟩
          case measure => simp [intOf]; omega
    · have hie : i = n + 1 := by omega
      subst hie
      have HQn : Hid (Mq wr g R n (mAdd M X)) := HQr.out.ext (fun x y hx _ => addUpto_done M X n x y hx)
      clear HQr
      go_wp2
      go_end0
      exact ⟨⟨_, rfl⟩, ⟨g, cap, R, rfl, HC.out.1, HC.out.2, HA.out, HQn.out⟩, HTr.out⟩
end Go.Proofs.YtapniafhcagogaaGreatDoor

namespace Go.Proofs.YtapniafhcagogaaGreatDoor
open Go.RowKit
set_option maxRecDepth 8000

set_option maxHeartbeats 2000000 in
theorem l4Then_any (s : ByteArray) (hs : s.size ≤ 200) (B C : Nat → Prop) (a b : Mat) (va vb : Value) (w : World) (ha : Mx w B s.size a va) (hb : Mx w C s.size b vb) :
    Calls Tryz.prog 68 #[va, vb, .string s] w fun e w' => ∃ v, e = .returned v ∧ Mx w' (newFrom w.heap.size) s.size (mThen s.size a b) v ∧ Below w.heap.size w w' := by
  obtain ⟨ga, capa, RA, rfl, ha1, ha2, hapa, hqa⟩ := ha.there
  obtain ⟨gb, capb, RB, rfl, hb1, hb2, hapb, hqb⟩ := hb.there
  have hma : capa ≤ 9223372036854775807 := by unfold maxLen at ha2; omega
  have hmb : capb ≤ 9223372036854775807 := by unfold maxLen at hb2; omega
  have HN := Hid.mk (l4None_any s hs w)
  have HPA := Hid.mk hapa
  have HPB := Hid.mk hapb
  have HQA0 := Hid.mk hqa
  have HQB0 := Hid.mk hqb
  clear ha hb ha1 ha2 hb1 hb2 hapa hapb hqa hqb
  go_enter Tryz.func68, Tryz.ntmps68
  go_wp2_with fail
  refine HN.out.mono ?_
  rintro e w1 ⟨v1, rfl, ⟨g, cap, R, rfl, hc1, hc2, hap, hq⟩, hbw⟩
  obtain ⟨n, hn⟩ : ∃ n, s.size = n := ⟨_, rfl⟩
  rw [hn] at HPA HPB HQA0 HQB0 hap hq hs hc1 ⊢
  have hcm : cap ≤ 9223372036854775807 := by unfold maxLen at hc2; omega
  have HSN := Hid.mk hn
  have HC := Hid.mk (And.intro hc1 hc2)
  have HA := Hid.mk hap
  have HQ : Hid (Mq w1 g R n (thenUpto n a b 0 0 0)) := hq.ext (fun i k _ _ => thenUpto_start n a b i k)
  have HB0 := Hid.mk hbw
  have HOA : Hid (∀ wz, Below w.heap.size w wz → Mq wz ga RA n a) := fun wz h => HQA0.out.grow h
  have HOB : Hid (∀ wz, Below w.heap.size w wz → Mq wz gb RB n b) := fun wz h => HQB0.out.grow h
  clear hq hap hc1 hc2 hbw HN hn HQA0 HQB0
  go_wp2
  go_loopw [8] (fun i wr => ∃ (k : Nat), k ≤ n + 1 ∧ i = .int .i64 k ∧ Hid (Mq wr g R n (thenUpto n a b k k k)) ∧ Hid (Below w.heap.size w wr)) (fun i _ => n + 1 - (intOf i).toNat)
  case atStart => exact ⟨0, Nat.zero_le _, rfl, HQ, HB0⟩
  case round =>
    obtain ⟨i, hi, rfl, HQr, HBr⟩ := hrel
    clear HQ HB0
    by_cases hin : (i : Int) < (n : Int) + 1
    · have hil : i ≤ n := by omega
      go_wp2
      go_loopw [9] (fun q wr => ∃ (k : Nat), i ≤ k ∧ k ≤ n + 1 ∧ q = .int .i64 k ∧ Hid (Mq wr g R n (thenUpto n a b i k k)) ∧ Hid (Below w.heap.size w wr)) (fun q _ => n + 1 - (intOf q).toNat)
      case atStart => exact ⟨i, Nat.le_refl _, by omega, rfl, HQr, HBr⟩
      case round =>
        obtain ⟨k, hik, hk, rfl, HQs, HBs⟩ := hrel
        clear HQr HBr
        by_cases hkn : (k : Int) < (n : Int) + 1
        · have hkl : k ≤ n := by omega
          go_wp2
          go_loopw [10] (fun q wr => ∃ (j : Nat), k ≤ j ∧ j ≤ n + 1 ∧ (a i k = false → j = k) ∧ q = .int .i64 j ∧ Hid (Mq wr g R n (thenUpto n a b i k j)) ∧ Hid (Below w.heap.size w wr)) (fun q _ => n + 1 - (intOf q).toNat)
          case atStart => exact ⟨k, Nat.le_refl _, by omega, fun _ => rfl, rfl, HQs, HBs⟩
          case round =>
            obtain ⟨j, hkj, hj, hjk, rfl, HQt, HBt⟩ := hrel
            clear HQs HBs
            have HJK := Hid.mk hjk
            clear hjk
            by_cases hjn : (j : Int) < (n : Int) + 1
            · have hjl : j ≤ n := by omega
              have o3 := (HOA.out wr HBt.out).outer i hil
              have c3 := (HOA.out wr HBt.out).cell hil hkl
              cases hak : a i k with
              | true =>
                rw [hak] at c3
                have HAK := Hid.mk hak
                have o1 := HQt.out.outer i hil
                have c1 := HQt.out.cell hil hjl
                have f1 := HQt.out.frozen hil j
                have o2 := (HOB.out wr HBt.out).outer k hkl
                have c2 := (HOB.out wr HBt.out).cell hkl hjl
                have HST := Hid.mk (fun (wz : World) (q : Bool) (hb : q = (thenUpto n a b i k j i j || b k j)) => show Mq (wz.setCell ⟨R i, j, none⟩ (.bool q)) g R n (thenUpto n a b i k (j + 1)) ∨ ¬ Mq wz g R n (thenUpto n a b i k j) from by
                  by_cases hq : Mq wz g R n (thenUpto n a b i k j)
                  · left; rw [hb]; exact (hq.set HA.out hil j _).ext (fun x y _ _ => thenUpto_step n a b i k j x y hik hkj hkl hak)
                  · exact Or.inr hq)
                obtain ⟨b1, hb1⟩ : ∃ q, thenUpto n a b i k j i j = q := ⟨_, rfl⟩
                obtain ⟨b2, hb2⟩ : ∃ q, b k j = q := ⟨_, rfl⟩
                rw [hb1] at c1 HST
                rw [hb2] at c2 HST
                have SS : Hid (∀ b, b < wr.heap.size → b ≠ R i → wr.drew.heap[b]? = wr.heap[b]?) := fun b _ _ => rfl
                have hgl := HQt.out.ltg
                have hgs := (HOB.out wr HBt.out).ltg
                have hrs := (HOB.out wr HBt.out).lt hkl
                have hgne : g ≠ R i := (HA.out.ne i hil).symm
                have hRi : w.heap.size ≤ R i := HA.out.br i hil
                have hgsne : gb ≠ R i := by have := HPB.out.bg.2; omega
                have hrsne : RB k ≠ R i := by have := (HPB.out.br k hkl).2; omega
                clear hak hb1 hb2
                cases b1 with
                | true =>
                    have HQn := Hid.mk ((HST.out wr.drew true rfl).resolve_right (fun h => h (HQt.out.grow (Below.drewSelf _ _ 1))))
                    have HBn : Hid (Below w.heap.size w (wr.drew.setCell ⟨R i, j, none⟩ (.bool true))) := (HBt.out.drew).setCell (p := ⟨R i, j, none⟩) (HA.out.br i hil) _
                    clear HST HQt HBt
                    go_wp2
                    refine wp_region_held_drew (S := fun w' => ∀ b, b < wr.heap.size → b ≠ R i → w'.heap[b]? = wr.heap[b]?) (by kernel_rfl) SS.out (fun _ => ?_)
                    refine takeHD (i := 0) (v := .slice (some ⟨g, 0, none⟩) (n + 1) cap) (some 42) rfl rfl (by kernel_rfl) (by kernel_rfl) (by kernel_rfl) (fun _ _ _ h => h) (Or.inl ⟨by kernel_rfl, fun w' hw => ?_⟩) SS.out ?_
                    · kernel_rfl
                    simp only [Act.put, List.setIfInBounds_toArray]
                    refine takeHD (i := 1) (v := .int .i64 i) (some 43) rfl rfl (by kernel_rfl) (by kernel_rfl) (by kernel_rfl) (fun _ _ _ h => h) (Or.inl ⟨by kernel_rfl, fun w' hw => ?_⟩) SS.out ?_
                    · kernel_rfl
                    simp only [Act.put, List.setIfInBounds_toArray]
                    refine takeHD (i := 2) (v := .pointer (some ⟨g, i, none⟩)) (some 44) rfl rfl (by kernel_rfl) (by kernel_rfl) (by kernel_rfl) (fun _ _ _ h => h) (Or.inl ⟨by kernel_rfl, fun w' hw => ?_⟩) SS.out ?_
                    · first | (go_simp; done) | (go_simp; intro h; omega) | (go_simp; rw [IntKind.wrap_i64]; omega)
                    simp only [Act.put, List.setIfInBounds_toArray]
                    refine takeHD (i := 3) (v := .slice (some ⟨R i, 0, none⟩) (n + 1) (n + 1)) (some 45) rfl rfl (by kernel_rfl) (by kernel_rfl) (by kernel_rfl) (fun _ _ _ h => h) (Or.inl ⟨by kernel_rfl, fun w' hw => ?_⟩) SS.out ?_
                    · have e := World.cell?_of_block (a := ⟨g, i, none⟩) (hw _ hgl hgne); rw [o1] at e; go_simp
                    simp only [Act.put, List.setIfInBounds_toArray]
                    refine takeHD (i := 4) (v := .int .i64 j) (some 46) rfl rfl (by kernel_rfl) (by kernel_rfl) (by kernel_rfl) (fun _ _ _ h => h) (Or.inl ⟨by kernel_rfl, fun w' hw => ?_⟩) SS.out ?_
                    · kernel_rfl
                    simp only [Act.put, List.setIfInBounds_toArray]
                    refine takeHD (i := 5) (v := .slice (some ⟨g, 0, none⟩) (n + 1) cap) (some 47) rfl rfl (by kernel_rfl) (by kernel_rfl) (by kernel_rfl) (fun _ _ _ h => h) (Or.inl ⟨by kernel_rfl, fun w' hw => ?_⟩) SS.out ?_
                    · kernel_rfl
                    simp only [Act.put, List.setIfInBounds_toArray]
                    refine takeHD (i := 6) (v := .int .i64 i) (some 48) rfl rfl (by kernel_rfl) (by kernel_rfl) (by kernel_rfl) (fun _ _ _ h => h) (Or.inl ⟨by kernel_rfl, fun w' hw => ?_⟩) SS.out ?_
                    · kernel_rfl
                    simp only [Act.put, List.setIfInBounds_toArray]
                    refine takeHD (i := 7) (v := .pointer (some ⟨g, i, none⟩)) (some 49) rfl rfl (by kernel_rfl) (by kernel_rfl) (by kernel_rfl) (fun _ _ _ h => h) (Or.inl ⟨by kernel_rfl, fun w' hw => ?_⟩) SS.out ?_
                    · first | (go_simp; done) | (go_simp; intro h; omega) | (go_simp; rw [IntKind.wrap_i64]; omega)
                    simp only [Act.put, List.setIfInBounds_toArray]
                    refine takeHD (i := 8) (v := .slice (some ⟨R i, 0, none⟩) (n + 1) (n + 1)) (some 50) rfl rfl (by kernel_rfl) (by kernel_rfl) (by kernel_rfl) (fun _ _ _ h => h) (Or.inl ⟨by kernel_rfl, fun w' hw => ?_⟩) SS.out ?_
                    · have e := World.cell?_of_block (a := ⟨g, i, none⟩) (hw _ hgl hgne); rw [o1] at e; go_simp
                    simp only [Act.put, List.setIfInBounds_toArray]
                    refine takeHD (i := 9) (v := .int .i64 j) (some 51) rfl rfl (by kernel_rfl) (by kernel_rfl) (by kernel_rfl) (fun _ _ _ h => h) (Or.inl ⟨by kernel_rfl, fun w' hw => ?_⟩) SS.out ?_
                    · kernel_rfl
                    simp only [Act.put, List.setIfInBounds_toArray]
                    refine takeHD (i := 10) (v := .pointer (some ⟨R i, j, none⟩)) (some 52) rfl rfl (by kernel_rfl) (by kernel_rfl) (by kernel_rfl) (fun _ _ _ h => h) (Or.inl ⟨by kernel_rfl, fun w' hw => ?_⟩) SS.out ?_
                    · first | (go_simp; done) | (go_simp; intro h; omega) | (go_simp; rw [IntKind.wrap_i64]; omega)
                    simp only [Act.put, List.setIfInBounds_toArray]
                    refine wpAnyH_ready (rs := [11]) (by kernel_rfl) (by simp) ?_
                    refine AllReadyH.cons rfl (fun K hK => ?_) AllReadyH.nil
                    rw [if_pos (by kernel_rfl)]
                    go_wp2_with fail
                    refine hK.out _ _ SS.out (fun _ => ?_)
                    clear hK K
                    refine takeHD (i := 12) (v := .bool true) (some 54) rfl rfl (by kernel_rfl) (by kernel_rfl) (by kernel_rfl) (fun _ _ _ h => h) (Or.inl ⟨by kernel_rfl, fun w' hw => ?_⟩) SS.out ?_
                    · kernel_rfl
                    simp only [Act.put, List.setIfInBounds_toArray]
                    refine takeHD (i := 13) (v := undef) (some 55) rfl rfl (by kernel_rfl) (by kernel_rfl) (by kernel_rfl) (fun _ _ _ h => h) (Or.inr ⟨by kernel_rfl, rfl⟩) SS.out ?_
                    simp only [Act.put, List.setIfInBounds_toArray]
                    refine takeHD (i := 14) (v := undef) (some 56) rfl rfl (by kernel_rfl) (by kernel_rfl) (by kernel_rfl) (fun _ _ _ h => h) (Or.inr ⟨by kernel_rfl, rfl⟩) SS.out ?_
                    simp only [Act.put, List.setIfInBounds_toArray]
                    refine takeHD (i := 15) (v := undef) (some 57) rfl rfl (by kernel_rfl) (by kernel_rfl) (by kernel_rfl) (fun _ _ _ h => h) (Or.inr ⟨by kernel_rfl, rfl⟩) SS.out ?_
                    simp only [Act.put, List.setIfInBounds_toArray]
                    refine takeHD (i := 16) (v := undef) (some 58) rfl rfl (by kernel_rfl) (by kernel_rfl) (by kernel_rfl) (fun _ _ _ h => h) (Or.inr ⟨by kernel_rfl, rfl⟩) SS.out ?_
                    simp only [Act.put, List.setIfInBounds_toArray]
                    refine takeHD (i := 17) (v := undef) (some 59) rfl rfl (by kernel_rfl) (by kernel_rfl) (by kernel_rfl) (fun _ _ _ h => h) (Or.inr ⟨by kernel_rfl, rfl⟩) SS.out ?_
                    simp only [Act.put, List.setIfInBounds_toArray]
                    refine takeHD (i := 18) (v := undef) (some 60) rfl rfl (by kernel_rfl) (by kernel_rfl) (by kernel_rfl) (fun _ _ _ h => h) (Or.inr ⟨by kernel_rfl, rfl⟩) SS.out ?_
                    simp only [Act.put, List.setIfInBounds_toArray]
                    refine takeHD (i := 19) (v := undef) (some 61) rfl rfl (by kernel_rfl) (by kernel_rfl) (by kernel_rfl) (fun _ _ _ h => h) (Or.inr ⟨by kernel_rfl, rfl⟩) SS.out ?_
                    simp only [Act.put, List.setIfInBounds_toArray]
                    refine takeHD (i := 20) (v := .bool true) (some 62) rfl rfl (by kernel_rfl) (by kernel_rfl) (by kernel_rfl) (fun _ _ _ h => h) (Or.inl ⟨by kernel_rfl, fun w' hw => ?_⟩) SS.out ?_
                    · kernel_rfl
                    simp only [Act.put, List.setIfInBounds_toArray]
                    refine takeHD (i := 21) (v := .pointer (some ⟨R i, j, none⟩)) (some 63) rfl rfl (by kernel_rfl) (by kernel_rfl) (by kernel_rfl) (fun _ _ _ h => h) (Or.inl ⟨by kernel_rfl, fun w' hw => ?_⟩) SS.out ?_
                    · first | (go_simp; done) | (go_simp; intro h; omega) | (go_simp; rw [IntKind.wrap_i64]; omega)
                    simp only [Act.put, List.setIfInBounds_toArray]
                    refine wpAnyH_ready (rs := [22]) (by kernel_rfl) (by simp) ?_
                    refine AllReadyH.cons rfl (fun K hK => ?_) AllReadyH.nil
                    rw [if_pos (by kernel_rfl)]
                    go_wp2_with fail
                    refine hK.out _ _ (fun b hb hne => heap_setCell_other wr.drew ⟨R i, j, none⟩ b _ hne) (fun _ => ?_)
                    clear hK K
                    refine wpAnyH_done (by kernel_rfl) ?_ _
                    go_wp2
                    go_roundw
                    case rel => exact ⟨j + 1, by omega, by omega, (fun h => by first | (rw [HAK.out] at h; cases h) | cases h), by go_num, HQn, HBn⟩
                    case measure => simp [intOf]; omega
                | false =>
                    have HQn := Hid.mk ((HST.out wr.drew b2 rfl).resolve_right (fun h => h (HQt.out.grow (Below.drewSelf _ _ 1))))
                    have HBn : Hid (Below w.heap.size w (wr.drew.setCell ⟨R i, j, none⟩ (.bool b2))) := (HBt.out.drew).setCell (p := ⟨R i, j, none⟩) (HA.out.br i hil) _
                    clear HST HQt HBt
                    go_wp2
                    refine wp_region_held_drew (S := fun w' => ∀ b, b < wr.heap.size → b ≠ R i → w'.heap[b]? = wr.heap[b]?) (by kernel_rfl) SS.out (fun _ => ?_)
                    refine takeHD (i := 0) (v := .slice (some ⟨g, 0, none⟩) (n + 1) cap) (some 42) rfl rfl (by kernel_rfl) (by kernel_rfl) (by kernel_rfl) (fun _ _ _ h => h) (Or.inl ⟨by kernel_rfl, fun w' hw => ?_⟩) SS.out ?_
                    · kernel_rfl
                    simp only [Act.put, List.setIfInBounds_toArray]
                    refine takeHD (i := 1) (v := .int .i64 i) (some 43) rfl rfl (by kernel_rfl) (by kernel_rfl) (by kernel_rfl) (fun _ _ _ h => h) (Or.inl ⟨by kernel_rfl, fun w' hw => ?_⟩) SS.out ?_
                    · kernel_rfl
                    simp only [Act.put, List.setIfInBounds_toArray]
                    refine takeHD (i := 2) (v := .pointer (some ⟨g, i, none⟩)) (some 44) rfl rfl (by kernel_rfl) (by kernel_rfl) (by kernel_rfl) (fun _ _ _ h => h) (Or.inl ⟨by kernel_rfl, fun w' hw => ?_⟩) SS.out ?_
                    · first | (go_simp; done) | (go_simp; intro h; omega) | (go_simp; rw [IntKind.wrap_i64]; omega)
                    simp only [Act.put, List.setIfInBounds_toArray]
                    refine takeHD (i := 3) (v := .slice (some ⟨R i, 0, none⟩) (n + 1) (n + 1)) (some 45) rfl rfl (by kernel_rfl) (by kernel_rfl) (by kernel_rfl) (fun _ _ _ h => h) (Or.inl ⟨by kernel_rfl, fun w' hw => ?_⟩) SS.out ?_
                    · have e := World.cell?_of_block (a := ⟨g, i, none⟩) (hw _ hgl hgne); rw [o1] at e; go_simp
                    simp only [Act.put, List.setIfInBounds_toArray]
                    refine takeHD (i := 4) (v := .int .i64 j) (some 46) rfl rfl (by kernel_rfl) (by kernel_rfl) (by kernel_rfl) (fun _ _ _ h => h) (Or.inl ⟨by kernel_rfl, fun w' hw => ?_⟩) SS.out ?_
                    · kernel_rfl
                    simp only [Act.put, List.setIfInBounds_toArray]
                    refine takeHD (i := 5) (v := .slice (some ⟨g, 0, none⟩) (n + 1) cap) (some 47) rfl rfl (by kernel_rfl) (by kernel_rfl) (by kernel_rfl) (fun _ _ _ h => h) (Or.inl ⟨by kernel_rfl, fun w' hw => ?_⟩) SS.out ?_
                    · kernel_rfl
                    simp only [Act.put, List.setIfInBounds_toArray]
                    refine takeHD (i := 6) (v := .int .i64 i) (some 48) rfl rfl (by kernel_rfl) (by kernel_rfl) (by kernel_rfl) (fun _ _ _ h => h) (Or.inl ⟨by kernel_rfl, fun w' hw => ?_⟩) SS.out ?_
                    · kernel_rfl
                    simp only [Act.put, List.setIfInBounds_toArray]
                    refine takeHD (i := 7) (v := .pointer (some ⟨g, i, none⟩)) (some 49) rfl rfl (by kernel_rfl) (by kernel_rfl) (by kernel_rfl) (fun _ _ _ h => h) (Or.inl ⟨by kernel_rfl, fun w' hw => ?_⟩) SS.out ?_
                    · first | (go_simp; done) | (go_simp; intro h; omega) | (go_simp; rw [IntKind.wrap_i64]; omega)
                    simp only [Act.put, List.setIfInBounds_toArray]
                    refine takeHD (i := 8) (v := .slice (some ⟨R i, 0, none⟩) (n + 1) (n + 1)) (some 50) rfl rfl (by kernel_rfl) (by kernel_rfl) (by kernel_rfl) (fun _ _ _ h => h) (Or.inl ⟨by kernel_rfl, fun w' hw => ?_⟩) SS.out ?_
                    · have e := World.cell?_of_block (a := ⟨g, i, none⟩) (hw _ hgl hgne); rw [o1] at e; go_simp
                    simp only [Act.put, List.setIfInBounds_toArray]
                    refine takeHD (i := 9) (v := .int .i64 j) (some 51) rfl rfl (by kernel_rfl) (by kernel_rfl) (by kernel_rfl) (fun _ _ _ h => h) (Or.inl ⟨by kernel_rfl, fun w' hw => ?_⟩) SS.out ?_
                    · kernel_rfl
                    simp only [Act.put, List.setIfInBounds_toArray]
                    refine takeHD (i := 10) (v := .pointer (some ⟨R i, j, none⟩)) (some 52) rfl rfl (by kernel_rfl) (by kernel_rfl) (by kernel_rfl) (fun _ _ _ h => h) (Or.inl ⟨by kernel_rfl, fun w' hw => ?_⟩) SS.out ?_
                    · first | (go_simp; done) | (go_simp; intro h; omega) | (go_simp; rw [IntKind.wrap_i64]; omega)
                    simp only [Act.put, List.setIfInBounds_toArray]
                    refine wpAnyH_ready (rs := [11]) (by kernel_rfl) (by simp) ?_
                    refine AllReadyH.cons rfl (fun K hK => ?_) AllReadyH.nil
                    rw [if_pos (by kernel_rfl)]
                    go_wp2_with fail
                    refine hK.out _ _ SS.out (fun _ => ?_)
                    clear hK K
                    refine takeHD (i := 12) (v := .bool false) (some 54) rfl rfl (by kernel_rfl) (by kernel_rfl) (by kernel_rfl) (fun _ _ _ h => h) (Or.inl ⟨by kernel_rfl, fun w' hw => ?_⟩) SS.out ?_
                    · kernel_rfl
                    simp only [Act.put, List.setIfInBounds_toArray]
                    refine takeHD (i := 13) (v := .slice (some ⟨gb, 0, none⟩) (n + 1) capb) (some 55) rfl rfl (by kernel_rfl) (by kernel_rfl) (by kernel_rfl) (fun _ _ _ h => h) (Or.inl ⟨by kernel_rfl, fun w' hw => ?_⟩) SS.out ?_
                    · kernel_rfl
                    simp only [Act.put, List.setIfInBounds_toArray]
                    refine takeHD (i := 14) (v := .int .i64 k) (some 56) rfl rfl (by kernel_rfl) (by kernel_rfl) (by kernel_rfl) (fun _ _ _ h => h) (Or.inl ⟨by kernel_rfl, fun w' hw => ?_⟩) SS.out ?_
                    · kernel_rfl
                    simp only [Act.put, List.setIfInBounds_toArray]
                    refine takeHD (i := 15) (v := .pointer (some ⟨gb, k, none⟩)) (some 57) rfl rfl (by kernel_rfl) (by kernel_rfl) (by kernel_rfl) (fun _ _ _ h => h) (Or.inl ⟨by kernel_rfl, fun w' hw => ?_⟩) SS.out ?_
                    · first | (go_simp; done) | (go_simp; intro h; omega) | (go_simp; rw [IntKind.wrap_i64]; omega)
                    simp only [Act.put, List.setIfInBounds_toArray]
                    refine takeHD (i := 16) (v := .slice (some ⟨RB k, 0, none⟩) (n + 1) (n + 1)) (some 58) rfl rfl (by kernel_rfl) (by kernel_rfl) (by kernel_rfl) (fun _ _ _ h => h) (Or.inl ⟨by kernel_rfl, fun w' hw => ?_⟩) SS.out ?_
                    · have e := World.cell?_of_block (a := ⟨gb, k, none⟩) (hw _ hgs hgsne); rw [o2] at e; go_simp
                    simp only [Act.put, List.setIfInBounds_toArray]
                    refine takeHD (i := 17) (v := .int .i64 j) (some 59) rfl rfl (by kernel_rfl) (by kernel_rfl) (by kernel_rfl) (fun _ _ _ h => h) (Or.inl ⟨by kernel_rfl, fun w' hw => ?_⟩) SS.out ?_
                    · kernel_rfl
                    simp only [Act.put, List.setIfInBounds_toArray]
                    refine takeHD (i := 18) (v := .pointer (some ⟨RB k, j, none⟩)) (some 60) rfl rfl (by kernel_rfl) (by kernel_rfl) (by kernel_rfl) (fun _ _ _ h => h) (Or.inl ⟨by kernel_rfl, fun w' hw => ?_⟩) SS.out ?_
                    · first | (go_simp; done) | (go_simp; intro h; omega) | (go_simp; rw [IntKind.wrap_i64]; omega)
                    simp only [Act.put, List.setIfInBounds_toArray]
                    refine takeHD (i := 19) (v := .bool b2) (some 61) rfl rfl (by kernel_rfl) (by kernel_rfl) (by kernel_rfl) (fun _ _ _ h => h) (Or.inl ⟨by kernel_rfl, fun w' hw => ?_⟩) SS.out ?_
                    · have e := World.cell?_of_block (a := ⟨RB k, j, none⟩) (hw _ hrs hrsne); rw [c2] at e; go_simp
                    simp only [Act.put, List.setIfInBounds_toArray]
                    refine takeHD (i := 20) (v := .bool b2) (some 62) rfl rfl (by kernel_rfl) (by kernel_rfl) (by kernel_rfl) (fun _ _ _ h => h) (Or.inl ⟨by kernel_rfl, fun w' hw => ?_⟩) SS.out ?_
                    · kernel_rfl
                    simp only [Act.put, List.setIfInBounds_toArray]
                    refine takeHD (i := 21) (v := .pointer (some ⟨R i, j, none⟩)) (some 63) rfl rfl (by kernel_rfl) (by kernel_rfl) (by kernel_rfl) (fun _ _ _ h => h) (Or.inl ⟨by kernel_rfl, fun w' hw => ?_⟩) SS.out ?_
                    · first | (go_simp; done) | (go_simp; intro h; omega) | (go_simp; rw [IntKind.wrap_i64]; omega)
                    simp only [Act.put, List.setIfInBounds_toArray]
                    refine wpAnyH_ready (rs := [22]) (by kernel_rfl) (by simp) ?_
                    refine AllReadyH.cons rfl (fun K hK => ?_) AllReadyH.nil
                    rw [if_pos (by kernel_rfl)]
                    go_wp2_with fail
                    refine hK.out _ _ (fun b hb hne => heap_setCell_other wr.drew ⟨R i, j, none⟩ b _ hne) (fun _ => ?_)
                    clear hK K
                    refine wpAnyH_done (by kernel_rfl) ?_ _
                    go_wp2
                    go_roundw
                    case rel => exact ⟨j + 1, by omega, by omega, (fun h => by first | (rw [HAK.out] at h; cases h) | cases h), by go_num, HQn, HBn⟩
                    case measure => simp [intOf]; omega
              | false =>
                rw [hak] at c3
                obtain rfl := HJK.out hak
                have HQn : Hid (Mq wr g R n (thenUpto n a b i (j + 1) (j + 1))) := HQt.out.ext (fun x y _ _ => thenUpto_none n a b i j x y hak)
                clear HQt HJK hak
                go_wp2
                go_roundw
                case rel => exact ⟨j + 1, by omega, by omega, by go_num, HQn, HBt⟩
                case measure => simp [intOf]; omega
            · have hje : j = n + 1 := by omega
              subst hje
              have HQn : Hid (Mq wr g R n (thenUpto n a b i (k + 1) (k + 1))) := HQt.out.ext (fun x y _ hy => thenUpto_mid n a b i k x y hy)
              clear HQt
              go_wp2
              go_roundw
              case rel => exact ⟨k + 1, by omega, by omega, by go_num, HQn, HBt⟩
              case measure => simp [intOf]; omega
        · have hke : k = n + 1 := by omega
          subst hke
          have HQn : Hid (Mq wr g R n (thenUpto n a b (i + 1) (i + 1) (i + 1))) := HQs.out.ext (fun x y _ _ => thenUpto_row n a b i x y)
          clear HQs
          go_wp2
          go_roundw
          case rel => exact ⟨i + 1, by omega, by go_num, HQn, HBs⟩
          case measure => simp [intOf]; omega
    · have hie : i = n + 1 := by omega
      subst hie
      have HQn : Hid (Mq wr g R n (mThen n a b)) := HQr.out.ext (fun x y hx _ => thenUpto_done n a b x y hx)
      clear HQr
      go_wp2
      go_ret
      exact ⟨_, rfl, by rw [HSN.out]; exact ⟨g, cap, R, rfl, HC.out.1, HC.out.2, HA.out, HQn.out⟩, HBr.out⟩
end Go.Proofs.YtapniafhcagogaaGreatDoor

namespace Go.Proofs.YtapniafhcagogaaGreatDoor
open Go.RowKit
set_option maxRecDepth 8000

/-- What is there ahead of the row below c. -/
def headM (n : Nat) (a : Mat) : Nat → Mat
  | 0 => mMany n a
  | i + 1 => manyUpto n a i (i + 1) (i + 1)

theorem headM_next (n : Nat) (a : Mat) (i x y : Nat) (hy : y ≤ n) : manyUpto n a i (n + 1) (n + 1) x y = headM n a i x y := by
  cases i with
  | zero =>
    show _ = mMany n a x y
    by_cases hx : x = 0
    · subst hx; exact manyUpto_full n a 0 y hy
    · exact manyUpto_behind _ _ _ _ _ _ _ (by omega)
  | succ i => exact manyUpto_row n a i x y hy

set_option maxHeartbeats 2000000 in
theorem l4Many_any (s : ByteArray) (hs : s.size ≤ 200) (B : Nat → Prop) (a : Mat) (va : Value) (w : World) (ha : Mx w B s.size a va) :
    Calls Tryz.prog 71 #[va, .string s] w fun e w' => ∃ v, e = .returned v ∧ Mx w' (newFrom w.heap.size) s.size (mMany s.size a) v ∧ Below w.heap.size w w' := by
  obtain ⟨ga, capa, RA, rfl, ha1, ha2, hapa, hqa⟩ := ha.there
  have hma : capa ≤ 9223372036854775807 := by unfold maxLen at ha2; omega
  have HN := Hid.mk (l4Same_any s hs w)
  have HPA := Hid.mk hapa
  have HQA0 := Hid.mk hqa
  clear ha ha1 ha2 hapa hqa
  go_enter Tryz.func71, Tryz.ntmps71
  go_wp2_with fail
  refine HN.out.mono ?_
  rintro e w1 ⟨v1, rfl, ⟨g, cap, R, rfl, hc1, hc2, hap, hq⟩, hbw⟩
  obtain ⟨n, hn⟩ : ∃ n, s.size = n := ⟨_, rfl⟩
  rw [hn] at HPA HQA0 hap hq hs hc1 ⊢
  have hcm : cap ≤ 9223372036854775807 := by unfold maxLen at hc2; omega
  have HSN := Hid.mk hn
  have HC := Hid.mk (And.intro hc1 hc2)
  have HA := Hid.mk hap
  have HQ : Hid (Mq w1 g R n (headM n a (n + 1))) := hq.ext (fun i k hi hk => manyUpto_start n a i k hi hk)
  have HB0 := Hid.mk hbw
  have HOA : Hid (∀ wz, Below w.heap.size w wz → Mq wz ga RA n a) := fun wz h => HQA0.out.grow h
  clear hq hap hc1 hc2 hbw HN hn HQA0
  go_wp2
  go_loopw [6] (fun i wr => ∃ (c : Nat), c ≤ n + 1 ∧ i = .int .i64 ((c : Int) - 1) ∧ Hid (Mq wr g R n (headM n a c)) ∧ Hid (Below w.heap.size w wr)) (fun i _ => (intOf i + 1).toNat)
  case atStart => exact ⟨n + 1, Nat.le_refl _, by go_num, HQ, HB0⟩
  case round =>
    obtain ⟨c, hc, rfl, HQr, HBr⟩ := hrel
    clear HQ HB0
    cases c with
    | succ i =>
      have hil : i ≤ n := by omega
      have hi0 : (((i + 1 : Nat) : Int) - 1) = (i : Int) := by omega
      rw [hi0]
      have hi1 : (0 : Int) ≤ (i : Int) := by omega
      clear hi0
      go_wp2
      go_loopw [7] (fun q wr => ∃ (k : Nat), i < k ∧ k ≤ n + 1 ∧ q = .int .i64 k ∧ Hid (Mq wr g R n (manyUpto n a i k k)) ∧ Hid (Below w.heap.size w wr)) (fun q _ => n + 1 - (intOf q).toNat)
      case atStart => exact ⟨i + 1, by omega, by omega, by go_num, HQr, HBr⟩
      case round =>
        obtain ⟨k, hik, hk, rfl, HQs, HBs⟩ := hrel
        clear HQr HBr
        by_cases hkn : (k : Int) < (n : Int) + 1
        · have hkl : k ≤ n := by omega
          go_wp2
          go_loopw [8] (fun q wr => ∃ (j : Nat), k ≤ j ∧ j ≤ n + 1 ∧ (a i k = false → j = k) ∧ q = .int .i64 j ∧ Hid (Mq wr g R n (manyUpto n a i k j)) ∧ Hid (Below w.heap.size w wr)) (fun q _ => n + 1 - (intOf q).toNat)
          case atStart => exact ⟨k, Nat.le_refl _, by omega, fun _ => rfl, rfl, HQs, HBs⟩
          case round =>
            obtain ⟨j, hkj, hj, hjk, rfl, HQt, HBt⟩ := hrel
            clear HQs HBs
            have HJK := Hid.mk hjk
            clear hjk
            by_cases hjn : (j : Int) < (n : Int) + 1
            · have hjl : j ≤ n := by omega
              have o3 := (HOA.out wr HBt.out).outer i hil
              have c3 := (HOA.out wr HBt.out).cell hil hkl
              cases hak : a i k with
              | true =>
                rw [hak] at c3
                have HAK := Hid.mk hak
                have o1 := HQt.out.outer i hil
                have c1 := HQt.out.cell hil hjl
                have f1 := HQt.out.frozen hil j
                have o2 := HQt.out.outer k hkl
                have c2 := HQt.out.cell hkl hjl
                rw [manyUpto_behind n a i k j k j hik] at c2
                have HST := Hid.mk (fun (wz : World) (q : Bool) (hb : q = (manyUpto n a i k j i j || mMany n a k j)) => show Mq (wz.setCell ⟨R i, j, none⟩ (.bool q)) g R n (manyUpto n a i k (j + 1)) ∨ ¬ Mq wz g R n (manyUpto n a i k j) from by
                  by_cases hq : Mq wz g R n (manyUpto n a i k j)
                  · left; rw [hb]; exact (hq.set HA.out hil j _).ext (fun x y _ _ => manyUpto_step n a i k j x y hik hkj hkl hak)
                  · exact Or.inr hq)
                obtain ⟨b1, hb1⟩ : ∃ q, manyUpto n a i k j i j = q := ⟨_, rfl⟩
                obtain ⟨b2, hb2⟩ : ∃ q, mMany n a k j = q := ⟨_, rfl⟩
                rw [hb1] at c1 HST
                rw [hb2] at c2 HST
                have SS : Hid (∀ b, b < wr.heap.size → b ≠ R i → wr.drew.heap[b]? = wr.heap[b]?) := fun b _ _ => rfl
                have hgl := HQt.out.ltg
                have hgs := HQt.out.ltg
                have hrs := HQt.out.lt hkl
                have hgne : g ≠ R i := (HA.out.ne i hil).symm
                have hgsne : g ≠ R i := hgne
                have hrsne : R k ≠ R i := fun e => by have := HA.out.inj k i hkl hil e; omega
                clear hak hb1 hb2
                cases b1 with
                | true =>
                    have HQn := Hid.mk ((HST.out wr.drew true rfl).resolve_right (fun h => h (HQt.out.grow (Below.drewSelf _ _ 1))))
                    have HBn : Hid (Below w.heap.size w (wr.drew.setCell ⟨R i, j, none⟩ (.bool true))) := (HBt.out.drew).setCell (p := ⟨R i, j, none⟩) (HA.out.br i hil) _
                    clear HST HQt HBt
                    go_wp2
                    refine wp_region_held_drew (S := fun w' => ∀ b, b < wr.heap.size → b ≠ R i → w'.heap[b]? = wr.heap[b]?) (by kernel_rfl) SS.out (fun _ => ?_)
                    refine takeHD (i := 0) (v := .slice (some ⟨g, 0, none⟩) (n + 1) cap) (some 42) rfl rfl (by kernel_rfl) (by kernel_rfl) (by kernel_rfl) (fun _ _ _ h => h) (Or.inl ⟨by kernel_rfl, fun w' hw => ?_⟩) SS.out ?_
                    · kernel_rfl
                    simp only [Act.put, List.setIfInBounds_toArray]
                    refine takeHD (i := 1) (v := .int .i64 i) (some 43) rfl rfl (by kernel_rfl) (by kernel_rfl) (by kernel_rfl) (fun _ _ _ h => h) (Or.inl ⟨by kernel_rfl, fun w' hw => ?_⟩) SS.out ?_
                    · kernel_rfl
                    simp only [Act.put, List.setIfInBounds_toArray]
                    refine takeHD (i := 2) (v := .pointer (some ⟨g, i, none⟩)) (some 44) rfl rfl (by kernel_rfl) (by kernel_rfl) (by kernel_rfl) (fun _ _ _ h => h) (Or.inl ⟨by kernel_rfl, fun w' hw => ?_⟩) SS.out ?_
                    · first | (go_simp; done) | (go_simp; intro h; omega) | (go_simp; rw [IntKind.wrap_i64]; omega)
                    simp only [Act.put, List.setIfInBounds_toArray]
                    refine takeHD (i := 3) (v := .slice (some ⟨R i, 0, none⟩) (n + 1) (n + 1)) (some 45) rfl rfl (by kernel_rfl) (by kernel_rfl) (by kernel_rfl) (fun _ _ _ h => h) (Or.inl ⟨by kernel_rfl, fun w' hw => ?_⟩) SS.out ?_
                    · have e := World.cell?_of_block (a := ⟨g, i, none⟩) (hw _ hgl hgne); rw [o1] at e; go_simp
                    simp only [Act.put, List.setIfInBounds_toArray]
                    refine takeHD (i := 4) (v := .int .i64 j) (some 46) rfl rfl (by kernel_rfl) (by kernel_rfl) (by kernel_rfl) (fun _ _ _ h => h) (Or.inl ⟨by kernel_rfl, fun w' hw => ?_⟩) SS.out ?_
                    · kernel_rfl
                    simp only [Act.put, List.setIfInBounds_toArray]
                    refine takeHD (i := 5) (v := .slice (some ⟨g, 0, none⟩) (n + 1) cap) (some 47) rfl rfl (by kernel_rfl) (by kernel_rfl) (by kernel_rfl) (fun _ _ _ h => h) (Or.inl ⟨by kernel_rfl, fun w' hw => ?_⟩) SS.out ?_
                    · kernel_rfl
                    simp only [Act.put, List.setIfInBounds_toArray]
                    refine takeHD (i := 6) (v := .int .i64 i) (some 48) rfl rfl (by kernel_rfl) (by kernel_rfl) (by kernel_rfl) (fun _ _ _ h => h) (Or.inl ⟨by kernel_rfl, fun w' hw => ?_⟩) SS.out ?_
                    · kernel_rfl
                    simp only [Act.put, List.setIfInBounds_toArray]
                    refine takeHD (i := 7) (v := .pointer (some ⟨g, i, none⟩)) (some 49) rfl rfl (by kernel_rfl) (by kernel_rfl) (by kernel_rfl) (fun _ _ _ h => h) (Or.inl ⟨by kernel_rfl, fun w' hw => ?_⟩) SS.out ?_
                    · first | (go_simp; done) | (go_simp; intro h; omega) | (go_simp; rw [IntKind.wrap_i64]; omega)
                    simp only [Act.put, List.setIfInBounds_toArray]
                    refine takeHD (i := 8) (v := .slice (some ⟨R i, 0, none⟩) (n + 1) (n + 1)) (some 50) rfl rfl (by kernel_rfl) (by kernel_rfl) (by kernel_rfl) (fun _ _ _ h => h) (Or.inl ⟨by kernel_rfl, fun w' hw => ?_⟩) SS.out ?_
                    · have e := World.cell?_of_block (a := ⟨g, i, none⟩) (hw _ hgl hgne); rw [o1] at e; go_simp
                    simp only [Act.put, List.setIfInBounds_toArray]
                    refine takeHD (i := 9) (v := .int .i64 j) (some 51) rfl rfl (by kernel_rfl) (by kernel_rfl) (by kernel_rfl) (fun _ _ _ h => h) (Or.inl ⟨by kernel_rfl, fun w' hw => ?_⟩) SS.out ?_
                    · kernel_rfl
                    simp only [Act.put, List.setIfInBounds_toArray]
                    refine takeHD (i := 10) (v := .pointer (some ⟨R i, j, none⟩)) (some 52) rfl rfl (by kernel_rfl) (by kernel_rfl) (by kernel_rfl) (fun _ _ _ h => h) (Or.inl ⟨by kernel_rfl, fun w' hw => ?_⟩) SS.out ?_
                    · first | (go_simp; done) | (go_simp; intro h; omega) | (go_simp; rw [IntKind.wrap_i64]; omega)
                    simp only [Act.put, List.setIfInBounds_toArray]
                    refine wpAnyH_ready (rs := [11]) (by kernel_rfl) (by simp) ?_
                    refine AllReadyH.cons rfl (fun K hK => ?_) AllReadyH.nil
                    rw [if_pos (by kernel_rfl)]
                    go_wp2_with fail
                    refine hK.out _ _ SS.out (fun _ => ?_)
                    clear hK K
                    refine takeHD (i := 12) (v := .bool true) (some 54) rfl rfl (by kernel_rfl) (by kernel_rfl) (by kernel_rfl) (fun _ _ _ h => h) (Or.inl ⟨by kernel_rfl, fun w' hw => ?_⟩) SS.out ?_
                    · kernel_rfl
                    simp only [Act.put, List.setIfInBounds_toArray]
                    refine takeHD (i := 13) (v := undef) (some 55) rfl rfl (by kernel_rfl) (by kernel_rfl) (by kernel_rfl) (fun _ _ _ h => h) (Or.inr ⟨by kernel_rfl, rfl⟩) SS.out ?_
                    simp only [Act.put, List.setIfInBounds_toArray]
                    refine takeHD (i := 14) (v := undef) (some 56) rfl rfl (by kernel_rfl) (by kernel_rfl) (by kernel_rfl) (fun _ _ _ h => h) (Or.inr ⟨by kernel_rfl, rfl⟩) SS.out ?_
                    simp only [Act.put, List.setIfInBounds_toArray]
                    refine takeHD (i := 15) (v := undef) (some 57) rfl rfl (by kernel_rfl) (by kernel_rfl) (by kernel_rfl) (fun _ _ _ h => h) (Or.inr ⟨by kernel_rfl, rfl⟩) SS.out ?_
                    simp only [Act.put, List.setIfInBounds_toArray]
                    refine takeHD (i := 16) (v := undef) (some 58) rfl rfl (by kernel_rfl) (by kernel_rfl) (by kernel_rfl) (fun _ _ _ h => h) (Or.inr ⟨by kernel_rfl, rfl⟩) SS.out ?_
                    simp only [Act.put, List.setIfInBounds_toArray]
                    refine takeHD (i := 17) (v := undef) (some 59) rfl rfl (by kernel_rfl) (by kernel_rfl) (by kernel_rfl) (fun _ _ _ h => h) (Or.inr ⟨by kernel_rfl, rfl⟩) SS.out ?_
                    simp only [Act.put, List.setIfInBounds_toArray]
                    refine takeHD (i := 18) (v := undef) (some 60) rfl rfl (by kernel_rfl) (by kernel_rfl) (by kernel_rfl) (fun _ _ _ h => h) (Or.inr ⟨by kernel_rfl, rfl⟩) SS.out ?_
                    simp only [Act.put, List.setIfInBounds_toArray]
                    refine takeHD (i := 19) (v := undef) (some 61) rfl rfl (by kernel_rfl) (by kernel_rfl) (by kernel_rfl) (fun _ _ _ h => h) (Or.inr ⟨by kernel_rfl, rfl⟩) SS.out ?_
                    simp only [Act.put, List.setIfInBounds_toArray]
                    refine takeHD (i := 20) (v := .bool true) (some 62) rfl rfl (by kernel_rfl) (by kernel_rfl) (by kernel_rfl) (fun _ _ _ h => h) (Or.inl ⟨by kernel_rfl, fun w' hw => ?_⟩) SS.out ?_
                    · kernel_rfl
                    simp only [Act.put, List.setIfInBounds_toArray]
                    refine takeHD (i := 21) (v := .pointer (some ⟨R i, j, none⟩)) (some 63) rfl rfl (by kernel_rfl) (by kernel_rfl) (by kernel_rfl) (fun _ _ _ h => h) (Or.inl ⟨by kernel_rfl, fun w' hw => ?_⟩) SS.out ?_
                    · first | (go_simp; done) | (go_simp; intro h; omega) | (go_simp; rw [IntKind.wrap_i64]; omega)
                    simp only [Act.put, List.setIfInBounds_toArray]
                    refine wpAnyH_ready (rs := [22]) (by kernel_rfl) (by simp) ?_
                    refine AllReadyH.cons rfl (fun K hK => ?_) AllReadyH.nil
                    rw [if_pos (by kernel_rfl)]
                    go_wp2_with fail
                    refine hK.out _ _ (fun b hb hne => heap_setCell_other wr.drew ⟨R i, j, none⟩ b _ hne) (fun _ => ?_)
                    clear hK K
                    refine wpAnyH_done (by kernel_rfl) ?_ _
                    go_wp2
                    go_roundw
                    case rel => exact ⟨j + 1, by omega, by omega, (fun h => by first | (rw [HAK.out] at h; cases h) | cases h), by go_num, HQn, HBn⟩
                    case measure => simp [intOf]; omega
                | false =>
                    have HQn := Hid.mk ((HST.out wr.drew b2 rfl).resolve_right (fun h => h (HQt.out.grow (Below.drewSelf _ _ 1))))
                    have HBn : Hid (Below w.heap.size w (wr.drew.setCell ⟨R i, j, none⟩ (.bool b2))) := (HBt.out.drew).setCell (p := ⟨R i, j, none⟩) (HA.out.br i hil) _
                    clear HST HQt HBt
                    go_wp2
                    refine wp_region_held_drew (S := fun w' => ∀ b, b < wr.heap.size → b ≠ R i → w'.heap[b]? = wr.heap[b]?) (by kernel_rfl) SS.out (fun _ => ?_)
                    refine takeHD (i := 0) (v := .slice (some ⟨g, 0, none⟩) (n + 1) cap) (some 42) rfl rfl (by kernel_rfl) (by kernel_rfl) (by kernel_rfl) (fun _ _ _ h => h) (Or.inl ⟨by kernel_rfl, fun w' hw => ?_⟩) SS.out ?_
                    · kernel_rfl
                    simp only [Act.put, List.setIfInBounds_toArray]
                    refine takeHD (i := 1) (v := .int .i64 i) (some 43) rfl rfl (by kernel_rfl) (by kernel_rfl) (by kernel_rfl) (fun _ _ _ h => h) (Or.inl ⟨by kernel_rfl, fun w' hw => ?_⟩) SS.out ?_
                    · kernel_rfl
                    simp only [Act.put, List.setIfInBounds_toArray]
                    refine takeHD (i := 2) (v := .pointer (some ⟨g, i, none⟩)) (some 44) rfl rfl (by kernel_rfl) (by kernel_rfl) (by kernel_rfl) (fun _ _ _ h => h) (Or.inl ⟨by kernel_rfl, fun w' hw => ?_⟩) SS.out ?_
                    · first | (go_simp; done) | (go_simp; intro h; omega) | (go_simp; rw [IntKind.wrap_i64]; omega)
                    simp only [Act.put, List.setIfInBounds_toArray]
                    refine takeHD (i := 3) (v := .slice (some ⟨R i, 0, none⟩) (n + 1) (n + 1)) (some 45) rfl rfl (by kernel_rfl) (by kernel_rfl) (by kernel_rfl) (fun _ _ _ h => h) (Or.inl ⟨by kernel_rfl, fun w' hw => ?_⟩) SS.out ?_
                    · have e := World.cell?_of_block (a := ⟨g, i, none⟩) (hw _ hgl hgne); rw [o1] at e; go_simp
                    simp only [Act.put, List.setIfInBounds_toArray]
                    refine takeHD (i := 4) (v := .int .i64 j) (some 46) rfl rfl (by kernel_rfl) (by kernel_rfl) (by kernel_rfl) (fun _ _ _ h => h) (Or.inl ⟨by kernel_rfl, fun w' hw => ?_⟩) SS.out ?_
                    · kernel_rfl
                    simp only [Act.put, List.setIfInBounds_toArray]
                    refine takeHD (i := 5) (v := .slice (some ⟨g, 0, none⟩) (n + 1) cap) (some 47) rfl rfl (by kernel_rfl) (by kernel_rfl) (by kernel_rfl) (fun _ _ _ h => h) (Or.inl ⟨by kernel_rfl, fun w' hw => ?_⟩) SS.out ?_
                    · kernel_rfl
                    simp only [Act.put, List.setIfInBounds_toArray]
                    refine takeHD (i := 6) (v := .int .i64 i) (some 48) rfl rfl (by kernel_rfl) (by kernel_rfl) (by kernel_rfl) (fun _ _ _ h => h) (Or.inl ⟨by kernel_rfl, fun w' hw => ?_⟩) SS.out ?_
                    · kernel_rfl
                    simp only [Act.put, List.setIfInBounds_toArray]
                    refine takeHD (i := 7) (v := .pointer (some ⟨g, i, none⟩)) (some 49) rfl rfl (by kernel_rfl) (by kernel_rfl) (by kernel_rfl) (fun _ _ _ h => h) (Or.inl ⟨by kernel_rfl, fun w' hw => ?_⟩) SS.out ?_
                    · first | (go_simp; done) | (go_simp; intro h; omega) | (go_simp; rw [IntKind.wrap_i64]; omega)
                    simp only [Act.put, List.setIfInBounds_toArray]
                    refine takeHD (i := 8) (v := .slice (some ⟨R i, 0, none⟩) (n + 1) (n + 1)) (some 50) rfl rfl (by kernel_rfl) (by kernel_rfl) (by kernel_rfl) (fun _ _ _ h => h) (Or.inl ⟨by kernel_rfl, fun w' hw => ?_⟩) SS.out ?_
                    · have e := World.cell?_of_block (a := ⟨g, i, none⟩) (hw _ hgl hgne); rw [o1] at e; go_simp
                    simp only [Act.put, List.setIfInBounds_toArray]
                    refine takeHD (i := 9) (v := .int .i64 j) (some 51) rfl rfl (by kernel_rfl) (by kernel_rfl) (by kernel_rfl) (fun _ _ _ h => h) (Or.inl ⟨by kernel_rfl, fun w' hw => ?_⟩) SS.out ?_
                    · kernel_rfl
                    simp only [Act.put, List.setIfInBounds_toArray]
                    refine takeHD (i := 10) (v := .pointer (some ⟨R i, j, none⟩)) (some 52) rfl rfl (by kernel_rfl) (by kernel_rfl) (by kernel_rfl) (fun _ _ _ h => h) (Or.inl ⟨by kernel_rfl, fun w' hw => ?_⟩) SS.out ?_
                    · first | (go_simp; done) | (go_simp; intro h; omega) | (go_simp; rw [IntKind.wrap_i64]; omega)
                    simp only [Act.put, List.setIfInBounds_toArray]
                    refine wpAnyH_ready (rs := [11]) (by kernel_rfl) (by simp) ?_
                    refine AllReadyH.cons rfl (fun K hK => ?_) AllReadyH.nil
                    rw [if_pos (by kernel_rfl)]
                    go_wp2_with fail
                    refine hK.out _ _ SS.out (fun _ => ?_)
                    clear hK K
                    refine takeHD (i := 12) (v := .bool false) (some 54) rfl rfl (by kernel_rfl) (by kernel_rfl) (by kernel_rfl) (fun _ _ _ h => h) (Or.inl ⟨by kernel_rfl, fun w' hw => ?_⟩) SS.out ?_
                    · kernel_rfl
                    simp only [Act.put, List.setIfInBounds_toArray]
                    refine takeHD (i := 13) (v := .slice (some ⟨g, 0, none⟩) (n + 1) cap) (some 55) rfl rfl (by kernel_rfl) (by kernel_rfl) (by kernel_rfl) (fun _ _ _ h => h) (Or.inl ⟨by kernel_rfl, fun w' hw => ?_⟩) SS.out ?_
                    · kernel_rfl
                    simp only [Act.put, List.setIfInBounds_toArray]
                    refine takeHD (i := 14) (v := .int .i64 k) (some 56) rfl rfl (by kernel_rfl) (by kernel_rfl) (by kernel_rfl) (fun _ _ _ h => h) (Or.inl ⟨by kernel_rfl, fun w' hw => ?_⟩) SS.out ?_
                    · kernel_rfl
                    simp only [Act.put, List.setIfInBounds_toArray]
                    refine takeHD (i := 15) (v := .pointer (some ⟨g, k, none⟩)) (some 57) rfl rfl (by kernel_rfl) (by kernel_rfl) (by kernel_rfl) (fun _ _ _ h => h) (Or.inl ⟨by kernel_rfl, fun w' hw => ?_⟩) SS.out ?_
                    · first | (go_simp; done) | (go_simp; intro h; omega) | (go_simp; rw [IntKind.wrap_i64]; omega)
                    simp only [Act.put, List.setIfInBounds_toArray]
                    refine takeHD (i := 16) (v := .slice (some ⟨R k, 0, none⟩) (n + 1) (n + 1)) (some 58) rfl rfl (by kernel_rfl) (by kernel_rfl) (by kernel_rfl) (fun _ _ _ h => h) (Or.inl ⟨by kernel_rfl, fun w' hw => ?_⟩) SS.out ?_
                    · have e := World.cell?_of_block (a := ⟨g, k, none⟩) (hw _ hgs hgsne); rw [o2] at e; go_simp
                    simp only [Act.put, List.setIfInBounds_toArray]
                    refine takeHD (i := 17) (v := .int .i64 j) (some 59) rfl rfl (by kernel_rfl) (by kernel_rfl) (by kernel_rfl) (fun _ _ _ h => h) (Or.inl ⟨by kernel_rfl, fun w' hw => ?_⟩) SS.out ?_
                    · kernel_rfl
                    simp only [Act.put, List.setIfInBounds_toArray]
                    refine takeHD (i := 18) (v := .pointer (some ⟨R k, j, none⟩)) (some 60) rfl rfl (by kernel_rfl) (by kernel_rfl) (by kernel_rfl) (fun _ _ _ h => h) (Or.inl ⟨by kernel_rfl, fun w' hw => ?_⟩) SS.out ?_
                    · first | (go_simp; done) | (go_simp; intro h; omega) | (go_simp; rw [IntKind.wrap_i64]; omega)
                    simp only [Act.put, List.setIfInBounds_toArray]
                    refine takeHD (i := 19) (v := .bool b2) (some 61) rfl rfl (by kernel_rfl) (by kernel_rfl) (by kernel_rfl) (fun _ _ _ h => h) (Or.inl ⟨by kernel_rfl, fun w' hw => ?_⟩) SS.out ?_
                    · have e := World.cell?_of_block (a := ⟨R k, j, none⟩) (hw _ hrs hrsne); rw [c2] at e; go_simp
                    simp only [Act.put, List.setIfInBounds_toArray]
                    refine takeHD (i := 20) (v := .bool b2) (some 62) rfl rfl (by kernel_rfl) (by kernel_rfl) (by kernel_rfl) (fun _ _ _ h => h) (Or.inl ⟨by kernel_rfl, fun w' hw => ?_⟩) SS.out ?_
                    · kernel_rfl
                    simp only [Act.put, List.setIfInBounds_toArray]
                    refine takeHD (i := 21) (v := .pointer (some ⟨R i, j, none⟩)) (some 63) rfl rfl (by kernel_rfl) (by kernel_rfl) (by kernel_rfl) (fun _ _ _ h => h) (Or.inl ⟨by kernel_rfl, fun w' hw => ?_⟩) SS.out ?_
                    · first | (go_simp; done) | (go_simp; intro h; omega) | (go_simp; rw [IntKind.wrap_i64]; omega)
                    simp only [Act.put, List.setIfInBounds_toArray]
                    refine wpAnyH_ready (rs := [22]) (by kernel_rfl) (by simp) ?_
                    refine AllReadyH.cons rfl (fun K hK => ?_) AllReadyH.nil
                    rw [if_pos (by kernel_rfl)]
                    go_wp2_with fail
                    refine hK.out _ _ (fun b hb hne => heap_setCell_other wr.drew ⟨R i, j, none⟩ b _ hne) (fun _ => ?_)
                    clear hK K
                    refine wpAnyH_done (by kernel_rfl) ?_ _
                    go_wp2
                    go_roundw
                    case rel => exact ⟨j + 1, by omega, by omega, (fun h => by first | (rw [HAK.out] at h; cases h) | cases h), by go_num, HQn, HBn⟩
                    case measure => simp [intOf]; omega
              | false =>
                rw [hak] at c3
                obtain rfl := HJK.out hak
                have HQn : Hid (Mq wr g R n (manyUpto n a i (j + 1) (j + 1))) := HQt.out.ext (fun x y _ _ => manyUpto_none n a i j x y hak)
                clear HQt HJK hak
                go_wp2
                go_roundw
                case rel => exact ⟨j + 1, by omega, by omega, by go_num, HQn, HBt⟩
                case measure => simp [intOf]; omega
            · have hje : j = n + 1 := by omega
              subst hje
              have HQn : Hid (Mq wr g R n (manyUpto n a i (k + 1) (k + 1))) := HQt.out.ext (fun x y _ hy => manyUpto_mid n a i k x y hy)
              clear HQt
              go_wp2
              go_roundw
              case rel => exact ⟨k + 1, by omega, by omega, by go_num, HQn, HBt⟩
              case measure => simp [intOf]; omega
        · have hke : k = n + 1 := by omega
          subst hke
          have HQn : Hid (Mq wr g R n (headM n a i)) := HQs.out.ext (fun x y _ hy => headM_next n a i x y hy)
          clear HQs
          go_wp2
          go_roundw
          case rel => exact ⟨i, by omega, by go_num, HQn, HBs⟩
          case measure => first | (simp [intOf]; done) | (simp [intOf]; omega)
    | zero =>
      have hi0 : (((0 : Nat) : Int) - 1) = -1 := by omega
      rw [hi0]
      clear hi0
      go_wp2
      go_ret
      exact ⟨_, rfl, by rw [HSN.out]; exact ⟨g, cap, R, rfl, HC.out.1, HC.out.2, HA.out, HQr.out⟩, HBr.out⟩
end Go.Proofs.YtapniafhcagogaaGreatDoor

namespace Go.Proofs.YtapniafhcagogaaGreatDoor
open Go.RowKit
set_option maxRecDepth 8000

def mSame : Mat := fun i j => i == j
def mNone : Mat := fun _ _ => false

def nodeM (s : ByteArray) (k : Int) (c : ByteArray) (L : List Mat) : Mat :=
  if k = 1 ∨ k = 2 ∨ k = 3 then mOne s k c
  else if k = 4 then L.foldl (mThen s.size) mSame
  else if k = 5 then L.foldl mAdd mNone
  else if k = 6 then mMany s.size (L.headD mSame)
  else if k = 7 then mThen s.size (L.headD mSame) (mMany s.size (L.headD mSame))
  else if k = 8 then mAdd mSame (L.headD mSame)
  else if k = 10 then fun i j => i == j && decide (i = 0)
  else if k = 11 then fun i j => i == j && decide (i = s.size)
  else mSame

mutual
/-- Where it may end. -/
def Tr.endM (s : ByteArray) : Tr → Mat
  | .node k c l => nodeM s k c (endML s l)
def endML (s : ByteArray) : List Tr → List Mat
  | [] => []
  | t :: r => t.endM s :: endML s r
end

theorem endML_map (s : ByteArray) (l : List Tr) : endML s l = l.map (Tr.endM s) := by
  induction l with
  | nil => rw [endML]; rfl
  | cons t r ih => rw [endML, ih]; rfl
theorem endM_eq (s : ByteArray) (t : Tr) : t.endM s = nodeM s t.k t.s (t.l.map (Tr.endM s)) := by
  cases t
  rw [Tr.endM, endML_map]
  rfl

def AlC (s : ByteArray) (t : Tr) : Prop := ∀ (B : Nat → Prop) (v : Value) (w : World), Rl w B t.l v → t.s.size ≤ maxLen → t.okT = true →
  Calls Tryz.prog 48 #[rx t.k t.s v, .string s] w fun e w' => ∃ u, e = .returned u ∧ Mx w' (newFrom w.heap.size) s.size (t.endM s) u ∧ Below w.heap.size w w'

set_option maxHeartbeats 1000000 in
theorem l4All_one (s : ByteArray) (hs : s.size ≤ 200) (t : Tr) (hk : t.k = 1 ∨ t.k = 2 ∨ t.k = 3) : AlC s t := by
  intro B v w h hts hok
  have HE : Hid (t.endM s = mOne s t.k t.s) := by show _ = _; rw [endM_eq, nodeM, if_pos hk]
  have A0 : Below w.heap.size w (w.alloc (.cells #[.int .i64 t.k, .string t.s, v] 26)) := (Below.refl _ _).alloc (Nat.le_refl _) _
  have HS := Hid.mk (fun w' => l4Same_any s hs w')
  have HO := Hid.mk (fun w' => l4One_any t v s hs hts w')
  have HX := Hid.mk (Bz3.new w (.int .i64 t.k) (.string t.s) v)
  obtain ⟨ao, cap, rfl, -⟩ := h.len
  obtain ⟨M, hM⟩ : ∃ M, mOne s t.k t.s = M := ⟨_, rfl⟩
  rw [hM] at HE HO
  obtain ⟨tk, htk⟩ : ∃ tk, t.k = tk := ⟨_, rfl⟩
  obtain ⟨ts, hts'⟩ : ∃ ts, t.s = ts := ⟨_, rfl⟩
  rw [htk, hts'] at A0 HO HX
  rw [htk] at hk
  rw [htk, hts', HE.out]
  clear h hts hok HE hM htk hts'
  rcases hk with rfl | rfl | rfl
  all_goals
    go_enter Tryz.func48, Tryz.ntmps48
    go_wp2_with fail
    refine (HS.out _).mono ?_
    rintro e w1 ⟨v1, rfl, hm1, hb1⟩
    obtain ⟨a1, c1, rfl⟩ := hm1.len
    have B1 := Hid.mk (A0.trans (hb1.mono (by simp)))
    have HX1 := HX.out.grow hb1
    have x0 := HX1.c0
    have x1 := HX1.c1
    have x2 := HX1.c2
    clear HX1 hm1 hb1 A0
    go_wp2_with fail
    refine (HO.out w1).mono ?_
    rintro e w2 ⟨v2, rfl, hm2, hb2⟩
    have B2 := Hid.mk (B1.out.trans (hb2.mono B1.out.size))
    have HM2 := Hid.mk (hm2.imp (C := newFrom w.heap.size) (fun b hb => by unfold newFrom at *; have := B1.out.size; omega))
    clear hm2 hb2 B1 x0 x1 x2
    go_wp2
    go_ret
    exact ⟨_, rfl, HM2.out, B2.out⟩

set_option maxHeartbeats 1000000 in
theorem l4All_star (s : ByteArray) (hs : s.size ≤ 200) (t : Tr) (ih : ∀ x ∈ t.l, AlC s x) (hk : t.k = 6) : AlC s t := by
  intro B v w h hts hok
  obtain ⟨x, hl⟩ : ∃ x, t.l = [x] := by
    rw [okT_eq] at hok
    simp [nodeB, hk] at hok
    exact List.length_eq_one_iff.1 hok.2.1.2
  have hxo : x.okT = true := by
    rw [okT_eq, hl] at hok
    simp [okL] at hok
    exact hok.1
  have HE : Hid (t.endM s = mMany s.size (x.endM s)) := by show _ = _; rw [endM_eq, nodeM, hk, hl]; rfl
  have A0 : Below w.heap.size w (w.alloc (.cells #[.int .i64 t.k, .string t.s, v] 26)) := (Below.refl _ _).alloc (Nat.le_refl _) _
  have HS := Hid.mk (fun w' => l4Same_any s hs w')
  have HX := Hid.mk (Bz3.new w (.int .i64 t.k) (.string t.s) v)
  rw [hl] at h ih
  obtain ⟨ao, cap, rfl, hc1, hc2, -⟩ := h.len
  obtain ⟨b, off, V, rfl, hel⟩ := h.elems (by simp)
  obtain ⟨h3, hsub, hss⟩ := hel 0 (by simp)
  simp only [List.getElem_cons_zero, Nat.zero_mul, Nat.add_zero] at h3 hsub hss
  have HC := Hid.mk (fun (w' : World) (hb : Below w.heap.size w w') => ih x (by simp) B (V 0) w' (hsub.grow hb) hss hxo)
  have H3 := Hid.mk h3
  obtain ⟨MX, hMX⟩ : ∃ M, x.endM s = M := ⟨_, rfl⟩
  rw [hMX] at HC HE
  have HMA := Hid.mk (fun (w' : World) (C : Nat → Prop) (u : Value) (hu : Mx w' C s.size MX u) => l4Many_any s hs C MX u w' hu)
  obtain ⟨ts, hts'⟩ : ∃ ts, t.s = ts := ⟨_, rfl⟩
  obtain ⟨xk, hxk⟩ : ∃ tk, x.k = tk := ⟨_, rfl⟩
  obtain ⟨xs, hxs⟩ : ∃ ts, x.s = ts := ⟨_, rfl⟩
  rw [hk, hts'] at A0 HX
  rw [hxk, hxs] at HC H3
  rw [hk, hts', HE.out]
  have hcm : cap ≤ 9223372036854775807 := by unfold maxLen at hc2; omega
  have hc1' : 1 ≤ cap := by simpa using hc1
  clear h hts hok HE hMX hts' hxk hxs hel h3 hsub hss ih hl hxo hk hc1 hc2
  simp only [List.length_singleton] at A0 HX ⊢
  go_enter Tryz.func48, Tryz.ntmps48
  go_wp2_with fail
  refine (HS.out _).mono ?_
  rintro e w1 ⟨v1, rfl, hm1, hb1⟩
  have HM1 := Hid.mk (hm1.there)
  obtain ⟨a1, c1, rfl⟩ := hm1.len
  have B1 := Hid.mk (A0.trans (hb1.mono (by simp)))
  have HX1 := HX.out.grow hb1
  have x0 := HX1.c0
  have x1 := HX1.c1
  have x2 := HX1.c2
  obtain ⟨y0, y1, y2⟩ := H3.out.grow B1.out
  clear HX1 hm1 hb1 A0
  go_wp2_with fail
  refine (HC.out w1 B1.out).mono ?_
  rintro e w2 ⟨v2, rfl, hm2, hb2⟩
  have HM2 := Hid.mk hm2
  have B2 := Hid.mk (B1.out.trans (hb2.mono B1.out.size))
  obtain ⟨a2, c2, rfl⟩ := hm2.len
  clear hm2 hb2 x0 x1 x2 y0 y1 y2 HM1
  go_wp2_with fail
  refine (HMA.out w2 _ _ HM2.out).mono ?_
  rintro e w3 ⟨v3, rfl, hm3, hb3⟩
  have HM3 := Hid.mk (hm3.imp (C := newFrom w.heap.size) (fun b hb => by unfold newFrom at *; have := B2.out.size; omega))
  have B3 := Hid.mk (B2.out.trans (hb3.mono B2.out.size))
  clear hm3 hb3 HM2 B2
  go_wp2
  go_ret
  exact ⟨_, rfl, HM3.out, B3.out⟩

set_option maxHeartbeats 1000000 in
theorem l4All_plus (s : ByteArray) (hs : s.size ≤ 200) (t : Tr) (ih : ∀ x ∈ t.l, AlC s x) (hk : t.k = 7) : AlC s t := by
  intro B v w h hts hok
  obtain ⟨x, hl⟩ : ∃ x, t.l = [x] := by
    rw [okT_eq] at hok
    simp [nodeB, hk] at hok
    exact List.length_eq_one_iff.1 hok.2.1.2
  have hxo : x.okT = true := by
    rw [okT_eq, hl] at hok
    simp [okL] at hok
    exact hok.1
  have HE : Hid (t.endM s = mThen s.size (x.endM s) (mMany s.size (x.endM s))) := by show _ = _; rw [endM_eq, nodeM, hk, hl]; rfl
  have A0 : Below w.heap.size w (w.alloc (.cells #[.int .i64 t.k, .string t.s, v] 26)) := (Below.refl _ _).alloc (Nat.le_refl _) _
  have HS := Hid.mk (fun w' => l4Same_any s hs w')
  have HX := Hid.mk (Bz3.new w (.int .i64 t.k) (.string t.s) v)
  rw [hl] at h ih
  obtain ⟨ao, cap, rfl, hc1, hc2, -⟩ := h.len
  obtain ⟨b, off, V, rfl, hel⟩ := h.elems (by simp)
  obtain ⟨h3, hsub, hss⟩ := hel 0 (by simp)
  simp only [List.getElem_cons_zero, Nat.zero_mul, Nat.add_zero] at h3 hsub hss
  have HC := Hid.mk (fun (w' : World) (hb : Below w.heap.size w w') => ih x (by simp) B (V 0) w' (hsub.grow hb) hss hxo)
  have H3 := Hid.mk h3
  obtain ⟨MX, hMX⟩ : ∃ M, x.endM s = M := ⟨_, rfl⟩
  rw [hMX] at HC HE
  have HMA := Hid.mk (fun (w' : World) (C : Nat → Prop) (u : Value) (hu : Mx w' C s.size MX u) => l4Many_any s hs C MX u w' hu)
  have HTH := Hid.mk (fun (w' : World) (C D : Nat → Prop) (u u' : Value) (hu : Mx w' C s.size MX u) (hu' : Mx w' D s.size (mMany s.size MX) u') => l4Then_any s hs C D MX (mMany s.size MX) u u' w' hu hu')
  obtain ⟨ts, hts'⟩ : ∃ ts, t.s = ts := ⟨_, rfl⟩
  obtain ⟨xk, hxk⟩ : ∃ tk, x.k = tk := ⟨_, rfl⟩
  obtain ⟨xs, hxs⟩ : ∃ ts, x.s = ts := ⟨_, rfl⟩
  rw [hk, hts'] at A0 HX
  rw [hxk, hxs] at HC H3
  rw [hk, hts', HE.out]
  have hcm : cap ≤ 9223372036854775807 := by unfold maxLen at hc2; omega
  have hc1' : 1 ≤ cap := by simpa using hc1
  clear h hts hok HE hMX hts' hxk hxs hel h3 hsub hss ih hl hxo hk hc1 hc2
  simp only [List.length_singleton] at A0 HX ⊢
  go_enter Tryz.func48, Tryz.ntmps48
  go_wp2_with fail
  refine (HS.out _).mono ?_
  rintro e w1 ⟨v1, rfl, hm1, hb1⟩
  have HM1 := Hid.mk (hm1.there)
  obtain ⟨a1, c1, rfl⟩ := hm1.len
  have B1 := Hid.mk (A0.trans (hb1.mono (by simp)))
  have HX1 := HX.out.grow hb1
  have x0 := HX1.c0
  have x1 := HX1.c1
  have x2 := HX1.c2
  obtain ⟨y0, y1, y2⟩ := H3.out.grow B1.out
  clear HX1 hm1 hb1 A0
  go_wp2_with fail
  refine (HC.out w1 B1.out).mono ?_
  rintro e w2 ⟨v2, rfl, hm2, hb2⟩
  have HM2 := Hid.mk hm2
  have B2 := Hid.mk (B1.out.trans (hb2.mono B1.out.size))
  obtain ⟨a2, c2, rfl⟩ := hm2.len
  clear hm2 hb2 x0 x1 x2 y0 y1 y2 HM1
  go_wp2_with fail
  refine (HMA.out w2 _ _ HM2.out).mono ?_
  rintro e w3 ⟨v3, rfl, hm3, hb3⟩
  have HM3 := Hid.mk hm3
  have HM2' := Hid.mk (HM2.out.grow hb3)
  have B3 := Hid.mk (B2.out.trans (hb3.mono B2.out.size))
  clear hm3 hb3 HM2 B2
  go_wp2_with fail
  refine (HTH.out w3 _ _ _ _ HM2'.out HM3.out).mono ?_
  rintro e w4 ⟨v4, rfl, hm4, hb4⟩
  have HM4 := Hid.mk (hm4.imp (C := newFrom w.heap.size) (fun b hb => by unfold newFrom at *; have := B3.out.size; omega))
  have B4 := Hid.mk (B3.out.trans (hb4.mono B3.out.size))
  clear hm4 hb4 HM2' HM3 B3
  go_wp2
  go_ret
  exact ⟨_, rfl, HM4.out, B4.out⟩

set_option maxHeartbeats 1000000 in
theorem l4All_opt (s : ByteArray) (hs : s.size ≤ 200) (t : Tr) (ih : ∀ x ∈ t.l, AlC s x) (hk : t.k = 8) : AlC s t := by
  intro B v w h hts hok
  obtain ⟨x, hl⟩ : ∃ x, t.l = [x] := by
    rw [okT_eq] at hok
    simp [nodeB, hk] at hok
    exact List.length_eq_one_iff.1 hok.2.1.2
  have hxo : x.okT = true := by
    rw [okT_eq, hl] at hok
    simp [okL] at hok
    exact hok.1
  have HE : Hid (t.endM s = mAdd mSame (x.endM s)) := by show _ = _; rw [endM_eq, nodeM, hk, hl]; rfl
  have A0 : Below w.heap.size w (w.alloc (.cells #[.int .i64 t.k, .string t.s, v] 26)) := (Below.refl _ _).alloc (Nat.le_refl _) _
  have HS := Hid.mk (fun w' => l4Same_any s hs w')
  have HX := Hid.mk (Bz3.new w (.int .i64 t.k) (.string t.s) v)
  rw [hl] at h ih
  obtain ⟨ao, cap, rfl, hc1, hc2, -⟩ := h.len
  obtain ⟨b, off, V, rfl, hel⟩ := h.elems (by simp)
  obtain ⟨h3, hsub, hss⟩ := hel 0 (by simp)
  simp only [List.getElem_cons_zero, Nat.zero_mul, Nat.add_zero] at h3 hsub hss
  have HC := Hid.mk (fun (w' : World) (hb : Below w.heap.size w w') => ih x (by simp) B (V 0) w' (hsub.grow hb) hss hxo)
  have H3 := Hid.mk h3
  obtain ⟨MX, hMX⟩ : ∃ M, x.endM s = M := ⟨_, rfl⟩
  rw [hMX] at HC HE
  have HAD := Hid.mk (fun (w' : World) (C D : Nat → Prop) (u u' : Value) (hu : Mx w' C s.size (fun i k => i == k) u) (hu' : Mx w' D s.size MX u') (hCD : ∀ b, C b → ¬ D b) => l4Add_any s.size hs C D (fun i k => i == k) MX u u' w' hu hu' hCD)
  obtain ⟨ts, hts'⟩ : ∃ ts, t.s = ts := ⟨_, rfl⟩
  obtain ⟨xk, hxk⟩ : ∃ tk, x.k = tk := ⟨_, rfl⟩
  obtain ⟨xs, hxs⟩ : ∃ ts, x.s = ts := ⟨_, rfl⟩
  rw [hk, hts'] at A0 HX
  rw [hxk, hxs] at HC H3
  rw [hk, hts', HE.out]
  have hcm : cap ≤ 9223372036854775807 := by unfold maxLen at hc2; omega
  have hc1' : 1 ≤ cap := by simpa using hc1
  clear h hts hok HE hMX hts' hxk hxs hel h3 hsub hss ih hl hxo hk hc1 hc2
  simp only [List.length_singleton] at A0 HX ⊢
  go_enter Tryz.func48, Tryz.ntmps48
  go_wp2_with fail
  refine (HS.out _).mono ?_
  rintro e w1 ⟨v1, rfl, hm1, hb1⟩
  have HM1 := Hid.mk (hm1.there)
  obtain ⟨a1, c1, rfl⟩ := hm1.len
  have B1 := Hid.mk (A0.trans (hb1.mono (by simp)))
  have HX1 := HX.out.grow hb1
  have x0 := HX1.c0
  have x1 := HX1.c1
  have x2 := HX1.c2
  obtain ⟨y0, y1, y2⟩ := H3.out.grow B1.out
  clear HX1 hm1 hb1 A0
  go_wp2_with fail
  refine (HC.out w1 B1.out).mono ?_
  rintro e w2 ⟨v2, rfl, hm2, hb2⟩
  have HM2 := Hid.mk hm2
  have B2 := Hid.mk (B1.out.trans (hb2.mono B1.out.size))
  obtain ⟨a2, c2, rfl⟩ := hm2.len
  have HM1' := Hid.mk (HM1.out.grow hb2)
  have hs1 := B1.out.size
  clear hm2 hb2 x0 x1 x2 y0 y1 y2 HM1
  go_wp2_with fail
  refine (HAD.out w2 _ _ _ _ HM1'.out HM2.out (fun b hb hb' => by have := hb.2; unfold newFrom at hb'; omega)).mono ?_
  rintro e w3 ⟨⟨u3, rfl⟩, hm3, ht3⟩
  have HM3 := Hid.mk (hm3.imp (C := newFrom w.heap.size) (fun b hb => by have := hb.1; unfold newFrom at *; simp at this; omega))
  have B3 := Hid.mk (B2.out.trans (ht3.toBelow B2.out.size (fun b hb => by have := hb.1; unfold newFrom at this; simp at this; omega)))
  clear hm3 ht3 HM2 B2
  go_wp2
  go_ret
  exact ⟨_, rfl, HM3.out, B3.out⟩

end Go.Proofs.YtapniafhcagogaaGreatDoor

namespace Go.Proofs.YtapniafhcagogaaGreatDoor
open Go.RowKit
set_option maxRecDepth 8000

theorem foldl_take_succ {α β : Type} (f : α → β → α) (a : α) (l : List β) (k : Nat) (h : k < l.length) : (l.take (k + 1)).foldl f a = f ((l.take k).foldl f a) l[k] := by
  rw [List.take_succ_eq_append_getElem h, List.foldl_append]
  rfl

set_option maxHeartbeats 1000000 in
theorem l4All_cat (s : ByteArray) (hs : s.size ≤ 200) (t : Tr) (ih : ∀ x ∈ t.l, AlC s x) (hk : t.k = 4) : AlC s t := by
  intro B v w h hts hok
  have hall : ∀ x ∈ t.l, x.okT = true := by
    rw [okT_eq, Bool.and_eq_true, okL_iff] at hok
    exact hok.1
  have HE : Hid (t.endM s = (t.l.map (Tr.endM s)).foldl (mThen s.size) mSame) := by show _ = _; rw [endM_eq, nodeM, hk]; rfl
  have A0 : Below w.heap.size w (w.alloc (.cells #[.int .i64 t.k, .string t.s, v] 26)) := (Below.refl _ _).alloc (Nat.le_refl _) _
  have HS := Hid.mk (fun w' => l4Same_any s hs w')
  have HX := Hid.mk (Bz3.new w (.int .i64 t.k) (.string t.s) v)
  have HTH := Hid.mk (fun (w' : World) (C D : Nat → Prop) (a b : Mat) (u u' : Value) (hu : Mx w' C s.size a u) (hu' : Mx w' D s.size b u') => l4Then_any s hs C D a b u u' w' hu hu')
  obtain ⟨ts, hts'⟩ : ∃ ts, t.s = ts := ⟨_, rfl⟩
  obtain ⟨l, hl⟩ : ∃ l, t.l = l := ⟨_, rfl⟩
  rw [hl] at h ih hall HE
  rw [hk, hts'] at A0 HX
  rw [hk, hts', HE.out]
  obtain ⟨ao, cap, rfl, hc1, hc2, -⟩ := h.len
  have hcm : cap ≤ 9223372036854775807 := by unfold maxLen at hc2; omega
  have HH := Hid.mk h
  have HI := Hid.mk ih
  have HA := Hid.mk hall
  clear hts hok HE hts' hl hk hc2 h ih hall
  go_enter Tryz.func48, Tryz.ntmps48
  go_wp2_with fail
  refine (HS.out _).mono ?_
  rintro e w1 ⟨v1, rfl, hm1, hb1⟩
  have HM1 : Hid (Mx w1 (newFrom w.heap.size) s.size (((l.map (Tr.endM s)).take 0).foldl (mThen s.size) mSame) v1) := hm1.imp (fun b hb => by unfold newFrom at *; simp at hb; omega)
  have B1 := Hid.mk (A0.trans (hb1.mono (by simp)))
  have HX1 := Hid.mk (HX.out.grow hb1)
  clear hm1 hb1 A0 HX
  have x0 := HX1.out.c0
  have x2 := HX1.out.c2
  go_wp2
  clear x0 x2
  go_loopw [5, 6] (fun o q wr => ∃ (k : Nat), k ≤ l.length ∧ q = .int .i64 k ∧ Hid (Mx wr (newFrom w.heap.size) s.size (((l.map (Tr.endM s)).take k).foldl (mThen s.size) mSame) o) ∧ Hid (Bz3 wr w.heap.size (.int .i64 4) (.string ts) (.slice ao l.length cap)) ∧ Hid (Below w.heap.size w wr)) (fun _ q _ => l.length - (intOf q).toNat)
  case atStart => exact ⟨0, Nat.zero_le _, rfl, HM1, HX1, B1⟩
  case round =>
    obtain ⟨k, hkl, rfl, HM, HXr, HB⟩ := hrel
    clear HM1 HX1 B1
    have x0 := HXr.out.c0
    have x2 := HXr.out.c2
    obtain ⟨ae, ce, hv⟩ := HM.out.len
    by_cases hlt : k < l.length
    · have hki : (k : Int) < (l.length : Int) := by omega
      obtain ⟨b, off, V, rfl, hel⟩ := HH.out.elems (by intro hn; rw [hn] at hlt; simp at hlt)
      obtain ⟨h3, hsub, hss⟩ := hel k hlt
      obtain ⟨y0, y1, y2⟩ := h3.grow HB.out
      have HC := Hid.mk (HI.out l[k] (List.getElem_mem hlt) B (V k) wr (hsub.grow HB.out) hss (HA.out _ (List.getElem_mem hlt)))
      have HN : Hid (((l.map (Tr.endM s)).take (k + 1)).foldl (mThen s.size) mSame = mThen s.size (((l.map (Tr.endM s)).take k).foldl (mThen s.size) mSame) (l[k].endM s)) := by
        show _ = _
        rw [foldl_take_succ _ _ _ k (by simpa using hlt)]
        simp
      obtain ⟨X, hX⟩ : ∃ X, l[k] = X := ⟨_, rfl⟩
      rw [hX] at y0 y1 HC HN
      obtain ⟨xk, hxk⟩ : ∃ tk, X.k = tk := ⟨_, rfl⟩
      obtain ⟨xs, hxs⟩ : ∃ ts, X.s = ts := ⟨_, rfl⟩
      obtain ⟨MX, hMX⟩ : ∃ M, X.endM s = M := ⟨_, rfl⟩
      obtain ⟨P, hP⟩ : ∃ P, ((l.map (Tr.endM s)).take k).foldl (mThen s.size) mSame = P := ⟨_, rfl⟩
      rw [hxk] at y0
      rw [hxs] at y1
      rw [hxk, hxs, hMX] at HC
      rw [hMX, hP] at HN
      rw [hP] at HM
      subst hv
      clear hel h3 hsub hss hX hxk hxs hMX hP
      go_wp2_with fail
      refine HC.out.mono ?_
      rintro e w2 ⟨v2, rfl, hm2, hb2⟩
      have HM2 := Hid.mk hm2
      have HMr := Hid.mk (HM.out.grow hb2)
      have HX2 := Hid.mk (HXr.out.grow hb2)
      have B2 := Hid.mk (HB.out.trans (hb2.mono HB.out.size))
      obtain ⟨a2, c2, rfl⟩ := hm2.len
      clear hm2 hb2 HM HXr HB HC x0 x2 y0 y1 y2
      go_wp2_with fail
      refine (HTH.out w2 _ _ _ _ _ _ HMr.out HM2.out).mono ?_
      rintro e w3 ⟨v3, rfl, hm3, hb3⟩
      have HM3 : Hid (Mx w3 (newFrom w.heap.size) s.size (((l.map (Tr.endM s)).take (k + 1)).foldl (mThen s.size) mSame) v3) := by
        show Mx _ _ _ _ _
        rw [HN.out]
        exact hm3.imp (fun b hb => by unfold newFrom at *; have := B2.out.size; omega)
      have HX3 := Hid.mk (HX2.out.grow hb3)
      have B3 := Hid.mk (B2.out.trans (hb3.mono B2.out.size))
      clear hm3 hb3 HMr HM2 HX2 B2 HN
      go_wp2
      go_roundw
      case rel => exact ⟨k + 1, by omega, by go_num, HM3, HX3, B3⟩
      case measure => simp [intOf]; omega
    · have hki : ¬ (k : Int) < (l.length : Int) := by omega
      have HMn : Hid (Mx wr (newFrom w.heap.size) s.size ((l.map (Tr.endM s)).foldl (mThen s.size) mSame) u5) := by
        have := HM.out
        rw [List.take_of_length_le (by simp; omega)] at this
        exact this
      subst hv
      clear HM
      go_wp2
      go_ret
      exact ⟨_, rfl, HMn.out, HB.out⟩

set_option maxHeartbeats 1000000 in
theorem l4All_alt (s : ByteArray) (hs : s.size ≤ 200) (t : Tr) (ih : ∀ x ∈ t.l, AlC s x) (hk : t.k = 5) : AlC s t := by
  intro B v w h hts hok
  have hall : ∀ x ∈ t.l, x.okT = true := by
    rw [okT_eq, Bool.and_eq_true, okL_iff] at hok
    exact hok.1
  have HE : Hid (t.endM s = (t.l.map (Tr.endM s)).foldl mAdd mNone) := by show _ = _; rw [endM_eq, nodeM, hk]; rfl
  have A0 : Below w.heap.size w (w.alloc (.cells #[.int .i64 t.k, .string t.s, v] 26)) := (Below.refl _ _).alloc (Nat.le_refl _) _
  have HS := Hid.mk (fun w' => l4Same_any s hs w')
  have HX := Hid.mk (Bz3.new w (.int .i64 t.k) (.string t.s) v)
  have HAD := Hid.mk (fun (w' : World) (C D : Nat → Prop) (a b : Mat) (u u' : Value) (hu : Mx w' C s.size a u) (hu' : Mx w' D s.size b u') (hCD : ∀ b, C b → ¬ D b) => l4Add_any s.size hs C D a b u u' w' hu hu' hCD)
  have HNN := Hid.mk (fun w' => l4None_any s hs w')
  obtain ⟨ts, hts'⟩ : ∃ ts, t.s = ts := ⟨_, rfl⟩
  obtain ⟨l, hl⟩ : ∃ l, t.l = l := ⟨_, rfl⟩
  rw [hl] at h ih hall HE
  rw [hk, hts'] at A0 HX
  rw [hk, hts', HE.out]
  obtain ⟨ao, cap, rfl, hc1, hc2, -⟩ := h.len
  have hcm : cap ≤ 9223372036854775807 := by unfold maxLen at hc2; omega
  have HH := Hid.mk h
  have HI := Hid.mk ih
  have HA := Hid.mk hall
  clear hts hok HE hts' hl hk hc2 h ih hall
  go_enter Tryz.func48, Tryz.ntmps48
  go_wp2_with fail
  refine (HS.out _).mono ?_
  rintro e w1 ⟨v1, rfl, hm1, hb1⟩
  have B1 := Hid.mk (A0.trans (hb1.mono (by simp)))
  have HX1 := Hid.mk (HX.out.grow hb1)
  obtain ⟨a1, c1, rfl⟩ := hm1.len
  have hs1 : w.heap.size < w1.heap.size := by have := hb1.size; simp at this; omega
  clear hm1 hb1 A0 HX
  have x0 := HX1.out.c0
  have x2 := HX1.out.c2
  go_wp2_with fail
  clear x0 x2
  refine (HNN.out w1).mono ?_
  rintro e w2 ⟨v2, rfl, hm2, hb2⟩
  have HM1 : Hid (Mx w2 (fun b => w1.heap.size ≤ b ∧ b < w2.heap.size) s.size (((l.map (Tr.endM s)).take 0).foldl mAdd mNone) v2) := hm2.there
  have B2 := Hid.mk (B1.out.trans (hb2.mono B1.out.size))
  have HX2 := Hid.mk (HX1.out.grow hb2)
  obtain ⟨a2, c2, rfl⟩ := hm2.len
  clear hm2 hb2 B1 HX1
  have x0 := HX2.out.c0
  have x2 := HX2.out.c2
  go_wp2
  clear x0 x2
  go_loopw [7] (fun q wr => ∃ (k : Nat), k ≤ l.length ∧ q = .int .i64 k ∧ Hid (Mx wr (fun b => w1.heap.size ≤ b ∧ b < w2.heap.size) s.size (((l.map (Tr.endM s)).take k).foldl mAdd mNone) (.slice a2 (s.size + 1) c2)) ∧ Hid (Bz3 wr w.heap.size (.int .i64 5) (.string ts) (.slice ao l.length cap)) ∧ Hid (Below w.heap.size w wr) ∧ Hid (w2.heap.size ≤ wr.heap.size)) (fun q _ => l.length - (intOf q).toNat)
  case atStart => exact ⟨0, Nat.zero_le _, rfl, HM1, HX2, B2, Nat.le_refl _⟩
  case round =>
    obtain ⟨k, hkl, rfl, HM, HXr, HB, HZ⟩ := hrel
    clear HM1 HX2 B2
    have x0 := HXr.out.c0
    have x2 := HXr.out.c2
    by_cases hlt : k < l.length
    · have hki : (k : Int) < (l.length : Int) := by omega
      obtain ⟨b, off, V, rfl, hel⟩ := HH.out.elems (by intro hn; rw [hn] at hlt; simp at hlt)
      obtain ⟨h3, hsub, hss⟩ := hel k hlt
      obtain ⟨y0, y1, y2⟩ := h3.grow HB.out
      have HC := Hid.mk (HI.out l[k] (List.getElem_mem hlt) B (V k) wr (hsub.grow HB.out) hss (HA.out _ (List.getElem_mem hlt)))
      have HN : Hid (((l.map (Tr.endM s)).take (k + 1)).foldl mAdd mNone = mAdd (((l.map (Tr.endM s)).take k).foldl mAdd mNone) (l[k].endM s)) := by
        show _ = _
        rw [foldl_take_succ _ _ _ k (by simpa using hlt)]
        simp
      obtain ⟨X, hX⟩ : ∃ X, l[k] = X := ⟨_, rfl⟩
      rw [hX] at y0 y1 HC HN
      obtain ⟨xk, hxk⟩ : ∃ tk, X.k = tk := ⟨_, rfl⟩
      obtain ⟨xs, hxs⟩ : ∃ ts, X.s = ts := ⟨_, rfl⟩
      obtain ⟨MX, hMX⟩ : ∃ M, X.endM s = M := ⟨_, rfl⟩
      obtain ⟨P, hP⟩ : ∃ P, ((l.map (Tr.endM s)).take k).foldl mAdd mNone = P := ⟨_, rfl⟩
      rw [hxk] at y0
      rw [hxs] at y1
      rw [hxk, hxs, hMX] at HC
      rw [hMX, hP] at HN
      rw [hP] at HM
      clear hel h3 hsub hss hX hxk hxs hMX hP
      go_wp2_with fail
      refine HC.out.mono ?_
      rintro e w3 ⟨v3, rfl, hm3, hb3⟩
      have HM3 := Hid.mk hm3
      have HMr := Hid.mk (HM.out.grow hb3)
      have HX3 := Hid.mk (HXr.out.grow hb3)
      have B3 := Hid.mk (HB.out.trans (hb3.mono HB.out.size))
      have HZ3 : Hid (w2.heap.size ≤ w3.heap.size) := Nat.le_trans HZ.out hb3.size
      obtain ⟨a3, c3, rfl⟩ := hm3.len
      clear hm3 hb3 HM HXr HB HC x0 x2 y0 y1 y2
      go_wp2_with fail
      refine (HAD.out w3 _ _ _ _ _ _ HMr.out HM3.out (fun b hb hb' => by have := hb.2; have := HZ.out; unfold newFrom at hb'; omega)).mono ?_
      rintro e w4 ⟨⟨u4, rfl⟩, hm4, ht4⟩
      have HM4 : Hid (Mx w4 (fun b => w1.heap.size ≤ b ∧ b < w2.heap.size) s.size (((l.map (Tr.endM s)).take (k + 1)).foldl mAdd mNone) (.slice a2 (s.size + 1) c2)) := by
        show Mx _ _ _ _ _
        rw [HN.out]
        exact hm4
      have HX4 := Hid.mk (HX3.out.kept (ht4.block _ HX3.out.lt (fun h => by have := h.1; omega)))
      have B4 := Hid.mk (B3.out.trans (ht4.toBelow B3.out.size (fun b hb => by have := hb.1; omega)))
      have HZ4 : Hid (w2.heap.size ≤ w4.heap.size) := Nat.le_trans HZ3.out ht4.size
      clear hm4 ht4 HMr HM3 HX3 B3 HN HZ HZ3
      go_wp2
      go_roundw
      case rel => exact ⟨k + 1, by omega, by go_num, HM4, HX4, B4, HZ4⟩
      case measure => simp [intOf]; omega
    · have hki : ¬ (k : Int) < (l.length : Int) := by omega
      have HMn : Hid (Mx wr (newFrom w.heap.size) s.size ((l.map (Tr.endM s)).foldl mAdd mNone) (.slice a2 (s.size + 1) c2)) := by
        have := HM.out
        rw [List.take_of_length_le (by simp; omega)] at this
        exact this.imp (fun b hb => by unfold newFrom; omega)
      clear HM
      go_wp2
      go_ret
      exact ⟨_, rfl, HMn.out, HB.out⟩

set_option maxHeartbeats 1000000 in
theorem l4All_rest (s : ByteArray) (hs : s.size ≤ 200) (t : Tr) (hk : t.k = 9) : AlC s t := by
  intro B v w h hts hok
  have HE : Hid (t.endM s = mSame) := by show _ = _; rw [endM_eq, nodeM, hk]; rfl
  have A0 : Below w.heap.size w (w.alloc (.cells #[.int .i64 t.k, .string t.s, v] 26)) := (Below.refl _ _).alloc (Nat.le_refl _) _
  have HS := Hid.mk (fun w' => l4Same_any s hs w')
  have HX := Hid.mk (Bz3.new w (.int .i64 t.k) (.string t.s) v)
  obtain ⟨ao, cap, rfl, -⟩ := h.len
  rw [hk] at A0 HX
  rw [hk, HE.out]
  clear h hts hok HE hk
  go_enter Tryz.func48, Tryz.ntmps48
  go_wp2_with fail
  refine (HS.out _).mono ?_
  rintro e w1 ⟨v1, rfl, hm1, hb1⟩
  have HM1 : Hid (Mx w1 (newFrom w.heap.size) s.size mSame v1) := hm1.imp (fun b hb => by unfold newFrom at *; simp at hb; omega)
  obtain ⟨a1, c1, rfl⟩ := hm1.len
  have B1 := Hid.mk (A0.trans (hb1.mono (by simp)))
  have HX1 := HX.out.grow hb1
  have x0 := HX1.c0
  clear HX1 hm1 hb1 A0
  go_wp2
  go_ret
  exact ⟨_, rfl, HM1.out, B1.out⟩

/-- What ends where it begins, at the beginning or at the end alone. -/
def edgeB (s : ByteArray) (k : Int) (i : Nat) : Bool := (k == 10 && decide (i = 0)) || (k == 11 && decide (i = s.size))

set_option maxHeartbeats 1000000 in
theorem l4All_edge (s : ByteArray) (hs : s.size ≤ 200) (t : Tr) (hk : t.k = 10 ∨ t.k = 11) : AlC s t := by
  intro B v w h hts hok
  have HE : Hid (t.endM s = fun i j => i == j && edgeB s t.k i) := by
    show _ = _
    rw [endM_eq, nodeM]
    rcases hk with hk | hk
    · rw [hk]; simp [edgeB]
    · rw [hk]; simp [edgeB]
  have A0 : Below w.heap.size w (w.alloc (.cells #[.int .i64 t.k, .string t.s, v] 26)) := (Below.refl _ _).alloc (Nat.le_refl _) _
  have HS := Hid.mk (fun w' => l4Same_any s hs w')
  have HX := Hid.mk (Bz3.new w (.int .i64 t.k) (.string t.s) v)
  obtain ⟨ao, cap, rfl, -⟩ := h.len
  obtain ⟨tk, htk⟩ : ∃ tk, t.k = tk := ⟨_, rfl⟩
  obtain ⟨ts, hts'⟩ : ∃ ts, t.s = ts := ⟨_, rfl⟩
  obtain ⟨l, hl⟩ : ∃ l, t.l = l := ⟨_, rfl⟩
  rw [htk] at hk HE
  rw [htk, hts', hl] at A0 HX
  rw [htk, hts', hl, HE.out]
  clear h hts hok HE htk hts' hl
  rcases hk with rfl | rfl
  · go_enter Tryz.func48, Tryz.ntmps48
    go_wp2_with fail
    refine (HS.out _).mono ?_
    rintro e w1 ⟨v1, rfl, ⟨g, capg, R, rfl, hc1, hc2, hap, hq⟩, hb1⟩
    have B1 := Hid.mk (A0.trans (hb1.mono (by simp)))
    have HX1 := Hid.mk (HX.out.grow hb1)
    have hcm : capg ≤ 9223372036854775807 := by unfold maxLen at hc2; omega
    have HCC := Hid.mk (And.intro hc1 hc2)
    have HAP : Hid (Apart (newFrom (w.heap.size + 1)) g R s.size) := hap.imp (fun b hb => by unfold newFrom at *; simpa using hb)
    have HQ : Hid (Mq w1 g R s.size (fun i j => i == j && (edgeB s 10 i || decide (0 ≤ i)))) := hq.ext (fun i j _ _ => by simp)
    clear hb1 A0 hap hq hc1 hc2 HX
    have x0 := HX1.out.c0
    go_wp2
    clear x0
    go_loopw [9] (fun q wr => ∃ (i : Nat), i ≤ s.size + 1 ∧ q = .int .i64 i ∧ Hid (Mq wr g R s.size (fun x y => x == y && (edgeB s 10 x || decide (i ≤ x)))) ∧ Hid (Bz3 wr w.heap.size (.int .i64 10) (.string ts) (.slice ao l.length cap)) ∧ Hid (Below w.heap.size w wr)) (fun q _ => s.size + 1 - (intOf q).toNat)
    case atStart => exact ⟨0, Nat.zero_le _, rfl, HQ, HX1, B1⟩
    case round =>
      obtain ⟨i, hi, rfl, HQr, HXr, HBr⟩ := hrel
      clear HQ HX1 B1
      by_cases hin : (i : Int) ≤ (s.size : Int)
      · have hil : i ≤ s.size := by omega
        have o1 := HQr.out.outer i hil
        have c1 := HQr.out.cell hil hil
        have f1 := HQr.out.frozen hil i
        have x0 := HXr.out.c0
        have SS : Hid (∀ b, b < wr.heap.size → b ≠ R i → wr.drew.heap[b]? = wr.heap[b]?) := fun b _ _ => rfl
        have hgl := HQr.out.ltg
        have hxl := HXr.out.lt
        have hgne : g ≠ R i := (HAP.out.ne i hil).symm
        have hxne : w.heap.size ≠ R i := by have := HAP.out.br i hil; unfold newFrom at this; omega
        by_cases hi0 : i = 0
        · have HZ : Hid (((i : Int) == 0) = true) := by show _ = _; simp [hi0]
          have HED : Hid (edgeB s 10 i = true) := by show _ = _; simp [edgeB, hi0]
          clear hi0
          have HQn : Hid (Mq (wr.drew.setCell ⟨R i, i, none⟩ (.bool true)) g R s.size (fun x y => x == y && (edgeB s 10 x || decide (i + 1 ≤ x)))) := ((HQr.out.grow (Below.drewSelf _ _ 1)).set HAP.out hil i true).ext (fun x y _ _ => by
            rw [updM_at]
            split
            · rename_i h; obtain ⟨rfl, rfl⟩ := h
              rw [HED.out, decide_eq_false (by omega), Bool.or_false]
              simp
            · rename_i h
              rw [Bool.eq_iff_iff]
              simp only [Bool.and_eq_true, Bool.or_eq_true, beq_iff_eq, decide_eq_true_iff]
              constructor
              · rintro ⟨h1, h2 | h2⟩
                · exact ⟨h1, Or.inl h2⟩
                · exact ⟨h1, Or.inr (by omega)⟩
              · rintro ⟨h1, h2 | h2⟩
                · exact ⟨h1, Or.inl h2⟩
                · exact ⟨h1, Or.inr (by omega)⟩)
          have HXn := Hid.mk ((HXr.out.grow (Below.drewSelf _ _ 1)).kept (w' := wr.drew.setCell ⟨R i, i, none⟩ (.bool true)) (heap_setCell_other _ _ _ _ hxne))
          have HBn : Hid (Below w.heap.size w (wr.drew.setCell ⟨R i, i, none⟩ (.bool true))) := (HBr.out.drew).setCell (p := ⟨R i, i, none⟩) (by have := HAP.out.br i hil; unfold newFrom at this; show w.heap.size ≤ R i; omega) _
          clear HQr HXr HBr
          go_wp2
          refine wp_region_held_drew (S := fun w' => ∀ b, b < wr.heap.size → b ≠ R i → w'.heap[b]? = wr.heap[b]?) (by kernel_rfl) SS.out (fun _ => ?_)
          refine takeHD (i := 0) (v := .slice (some ⟨g, 0, none⟩) (s.size + 1) capg) (some 103) rfl rfl (by kernel_rfl) (by kernel_rfl) (by kernel_rfl) (fun _ _ _ h => h) (Or.inl ⟨by kernel_rfl, fun w' hw => ?_⟩) SS.out ?_
          · kernel_rfl
          simp only [Act.put, List.setIfInBounds_toArray]
          refine takeHD (i := 1) (v := .int .i64 i) (some 104) rfl rfl (by kernel_rfl) (by kernel_rfl) (by kernel_rfl) (fun _ _ _ h => h) (Or.inl ⟨by kernel_rfl, fun w' hw => ?_⟩) SS.out ?_
          · kernel_rfl
          simp only [Act.put, List.setIfInBounds_toArray]
          refine takeHD (i := 2) (v := .pointer (some ⟨g, i, none⟩)) (some 105) rfl rfl (by kernel_rfl) (by kernel_rfl) (by kernel_rfl) (fun _ _ _ h => h) (Or.inl ⟨by kernel_rfl, fun w' hw => ?_⟩) SS.out ?_
          · first | (go_simp; done) | (go_simp; intro h; omega) | (go_simp; rw [IntKind.wrap_i64]; omega)
          simp only [Act.put, List.setIfInBounds_toArray]
          refine takeHD (i := 3) (v := .slice (some ⟨R i, 0, none⟩) (s.size + 1) (s.size + 1)) (some 106) rfl rfl (by kernel_rfl) (by kernel_rfl) (by kernel_rfl) (fun _ _ _ h => h) (Or.inl ⟨by kernel_rfl, fun w' hw => ?_⟩) SS.out ?_
          · have e := World.cell?_of_block (a := ⟨g, i, none⟩) (hw _ hgl hgne); rw [o1] at e; go_simp
          simp only [Act.put, List.setIfInBounds_toArray]
          refine takeHD (i := 4) (v := .int .i64 i) (some 107) rfl rfl (by kernel_rfl) (by kernel_rfl) (by kernel_rfl) (fun _ _ _ h => h) (Or.inl ⟨by kernel_rfl, fun w' hw => ?_⟩) SS.out ?_
          · kernel_rfl
          simp only [Act.put, List.setIfInBounds_toArray]
          refine takeHD (i := 5) (v := .pointer (some ⟨w.heap.size, 0, none⟩)) (some 108) rfl rfl (by kernel_rfl) (by kernel_rfl) (by kernel_rfl) (fun _ _ _ h => h) (Or.inl ⟨by kernel_rfl, fun w' hw => ?_⟩) SS.out ?_
          · first | (go_simp; done) | (go_simp; intro h; omega) | (go_simp; rw [IntKind.wrap_i64]; omega)
          simp only [Act.put, List.setIfInBounds_toArray]
          refine takeHD (i := 6) (v := .int .i64 10) (some 109) rfl rfl (by kernel_rfl) (by kernel_rfl) (by kernel_rfl) (fun _ _ _ h => h) (Or.inl ⟨by kernel_rfl, fun w' hw => ?_⟩) SS.out ?_
          · have e := World.cell?_of_block (a := ⟨w.heap.size, 0, none⟩) (hw _ hxl hxne); rw [x0] at e; go_simp
          simp only [Act.put, List.setIfInBounds_toArray]
          refine takeHD (i := 7) (v := .bool true) (some 110) rfl rfl (by kernel_rfl) (by kernel_rfl) (by kernel_rfl) (fun _ _ _ h => h) (Or.inl ⟨by kernel_rfl, fun w' hw => ?_⟩) SS.out ?_
          · kernel_rfl
          simp only [Act.put, List.setIfInBounds_toArray]
          refine takeHD (i := 8) (v := .bool true) (some 111) rfl rfl (by kernel_rfl) (by kernel_rfl) (by kernel_rfl) (fun _ _ _ h => h) (Or.inl ⟨by kernel_rfl, fun w' hw => ?_⟩) SS.out ?_
          · kernel_rfl
          simp only [Act.put, List.setIfInBounds_toArray]
          refine takeHD (i := 9) (v := .int .i64 i) (some 112) rfl rfl (by kernel_rfl) (by kernel_rfl) (by kernel_rfl) (fun _ _ _ h => h) (Or.inl ⟨by kernel_rfl, fun w' hw => ?_⟩) SS.out ?_
          · kernel_rfl
          simp only [Act.put, List.setIfInBounds_toArray]
          refine takeHD (i := 10) (v := .bool true) (some 113) rfl rfl (by kernel_rfl) (by kernel_rfl) (by kernel_rfl) (fun _ _ _ h => h) (Or.inl ⟨by kernel_rfl, fun w' hw => ?_⟩) SS.out ?_
          · have hz : ((i : Int) == 0) = true := HZ.out; go_simp
          simp only [Act.put, List.setIfInBounds_toArray]
          refine takeHD (i := 11) (v := .bool true) (some 114) rfl rfl (by kernel_rfl) (by kernel_rfl) (by kernel_rfl) (fun _ _ _ h => h) (Or.inl ⟨by kernel_rfl, fun w' hw => ?_⟩) SS.out ?_
          · kernel_rfl
          simp only [Act.put, List.setIfInBounds_toArray]
          refine takeHD (i := 12) (v := .bool true) (some 115) rfl rfl (by kernel_rfl) (by kernel_rfl) (by kernel_rfl) (fun _ _ _ h => h) (Or.inl ⟨by kernel_rfl, fun w' hw => ?_⟩) SS.out ?_
          · kernel_rfl
          simp only [Act.put, List.setIfInBounds_toArray]
          refine takeHD (i := 13) (v := undef) (some 116) rfl rfl (by kernel_rfl) (by kernel_rfl) (by kernel_rfl) (fun _ _ _ h => h) (Or.inr ⟨by kernel_rfl, rfl⟩) SS.out ?_
          simp only [Act.put, List.setIfInBounds_toArray]
          refine takeHD (i := 14) (v := undef) (some 117) rfl rfl (by kernel_rfl) (by kernel_rfl) (by kernel_rfl) (fun _ _ _ h => h) (Or.inr ⟨by kernel_rfl, rfl⟩) SS.out ?_
          simp only [Act.put, List.setIfInBounds_toArray]
          refine takeHD (i := 15) (v := undef) (some 118) rfl rfl (by kernel_rfl) (by kernel_rfl) (by kernel_rfl) (fun _ _ _ h => h) (Or.inr ⟨by kernel_rfl, rfl⟩) SS.out ?_
          simp only [Act.put, List.setIfInBounds_toArray]
          refine takeHD (i := 16) (v := undef) (some 119) rfl rfl (by kernel_rfl) (by kernel_rfl) (by kernel_rfl) (fun _ _ _ h => h) (Or.inr ⟨by kernel_rfl, rfl⟩) SS.out ?_
          simp only [Act.put, List.setIfInBounds_toArray]
          refine takeHD (i := 17) (v := undef) (some 120) rfl rfl (by kernel_rfl) (by kernel_rfl) (by kernel_rfl) (fun _ _ _ h => h) (Or.inr ⟨by kernel_rfl, rfl⟩) SS.out ?_
          simp only [Act.put, List.setIfInBounds_toArray]
          refine takeHD (i := 18) (v := undef) (some 121) rfl rfl (by kernel_rfl) (by kernel_rfl) (by kernel_rfl) (fun _ _ _ h => h) (Or.inr ⟨by kernel_rfl, rfl⟩) SS.out ?_
          simp only [Act.put, List.setIfInBounds_toArray]
          refine takeHD (i := 19) (v := undef) (some 122) rfl rfl (by kernel_rfl) (by kernel_rfl) (by kernel_rfl) (fun _ _ _ h => h) (Or.inr ⟨by kernel_rfl, rfl⟩) SS.out ?_
          simp only [Act.put, List.setIfInBounds_toArray]
          refine takeHD (i := 20) (v := undef) (some 123) rfl rfl (by kernel_rfl) (by kernel_rfl) (by kernel_rfl) (fun _ _ _ h => h) (Or.inr ⟨by kernel_rfl, rfl⟩) SS.out ?_
          simp only [Act.put, List.setIfInBounds_toArray]
          refine takeHD (i := 21) (v := undef) (some 124) rfl rfl (by kernel_rfl) (by kernel_rfl) (by kernel_rfl) (fun _ _ _ h => h) (Or.inr ⟨by kernel_rfl, rfl⟩) SS.out ?_
          simp only [Act.put, List.setIfInBounds_toArray]
          refine takeHD (i := 22) (v := .bool true) (some 125) rfl rfl (by kernel_rfl) (by kernel_rfl) (by kernel_rfl) (fun _ _ _ h => h) (Or.inl ⟨by kernel_rfl, fun w' hw => ?_⟩) SS.out ?_
          · kernel_rfl
          simp only [Act.put, List.setIfInBounds_toArray]
          refine takeHD (i := 23) (v := .pointer (some ⟨R i, i, none⟩)) (some 126) rfl rfl (by kernel_rfl) (by kernel_rfl) (by kernel_rfl) (fun _ _ _ h => h) (Or.inl ⟨by kernel_rfl, fun w' hw => ?_⟩) SS.out ?_
          · first | (go_simp; done) | (go_simp; intro h; omega) | (go_simp; rw [IntKind.wrap_i64]; omega)
          simp only [Act.put, List.setIfInBounds_toArray]
          refine wpAnyH_ready (rs := [24]) (by kernel_rfl) (by simp) ?_
          refine AllReadyH.cons rfl (fun K hK => ?_) AllReadyH.nil
          rw [if_pos (by kernel_rfl)]
          go_wp2_with fail
          refine hK.out _ _ (fun b hb hne => heap_setCell_other wr.drew ⟨R i, i, none⟩ b _ hne) (fun _ => ?_)
          clear hK K
          refine wpAnyH_done (by kernel_rfl) ?_ _
          go_wp2
          go_roundw
          case rel => exact ⟨i + 1, by omega, by go_num, HQn, HXn, HBn⟩
          case measure => simp [intOf]; omega
        · have HZ : Hid (((i : Int) == 0) = false) := by show _ = _; simp [hi0]
          have HED : Hid (edgeB s 10 i = false) := by show _ = _; simp [edgeB, hi0]
          clear hi0
          have HQn : Hid (Mq (wr.drew.setCell ⟨R i, i, none⟩ (.bool false)) g R s.size (fun x y => x == y && (edgeB s 10 x || decide (i + 1 ≤ x)))) := ((HQr.out.grow (Below.drewSelf _ _ 1)).set HAP.out hil i false).ext (fun x y _ _ => by
            rw [updM_at]
            split
            · rename_i h; obtain ⟨rfl, rfl⟩ := h
              rw [HED.out, decide_eq_false (by omega), Bool.or_false]
              simp
            · rename_i h
              rw [Bool.eq_iff_iff]
              simp only [Bool.and_eq_true, Bool.or_eq_true, beq_iff_eq, decide_eq_true_iff]
              constructor
              · rintro ⟨h1, h2 | h2⟩
                · exact ⟨h1, Or.inl h2⟩
                · exact ⟨h1, Or.inr (by omega)⟩
              · rintro ⟨h1, h2 | h2⟩
                · exact ⟨h1, Or.inl h2⟩
                · exact ⟨h1, Or.inr (by omega)⟩)
          have HXn := Hid.mk ((HXr.out.grow (Below.drewSelf _ _ 1)).kept (w' := wr.drew.setCell ⟨R i, i, none⟩ (.bool false)) (heap_setCell_other _ _ _ _ hxne))
          have HBn : Hid (Below w.heap.size w (wr.drew.setCell ⟨R i, i, none⟩ (.bool false))) := (HBr.out.drew).setCell (p := ⟨R i, i, none⟩) (by have := HAP.out.br i hil; unfold newFrom at this; show w.heap.size ≤ R i; omega) _
          clear HQr HXr HBr
          go_wp2
          refine wp_region_held_drew (S := fun w' => ∀ b, b < wr.heap.size → b ≠ R i → w'.heap[b]? = wr.heap[b]?) (by kernel_rfl) SS.out (fun _ => ?_)
          refine takeHD (i := 0) (v := .slice (some ⟨g, 0, none⟩) (s.size + 1) capg) (some 103) rfl rfl (by kernel_rfl) (by kernel_rfl) (by kernel_rfl) (fun _ _ _ h => h) (Or.inl ⟨by kernel_rfl, fun w' hw => ?_⟩) SS.out ?_
          · kernel_rfl
          simp only [Act.put, List.setIfInBounds_toArray]
          refine takeHD (i := 1) (v := .int .i64 i) (some 104) rfl rfl (by kernel_rfl) (by kernel_rfl) (by kernel_rfl) (fun _ _ _ h => h) (Or.inl ⟨by kernel_rfl, fun w' hw => ?_⟩) SS.out ?_
          · kernel_rfl
          simp only [Act.put, List.setIfInBounds_toArray]
          refine takeHD (i := 2) (v := .pointer (some ⟨g, i, none⟩)) (some 105) rfl rfl (by kernel_rfl) (by kernel_rfl) (by kernel_rfl) (fun _ _ _ h => h) (Or.inl ⟨by kernel_rfl, fun w' hw => ?_⟩) SS.out ?_
          · first | (go_simp; done) | (go_simp; intro h; omega) | (go_simp; rw [IntKind.wrap_i64]; omega)
          simp only [Act.put, List.setIfInBounds_toArray]
          refine takeHD (i := 3) (v := .slice (some ⟨R i, 0, none⟩) (s.size + 1) (s.size + 1)) (some 106) rfl rfl (by kernel_rfl) (by kernel_rfl) (by kernel_rfl) (fun _ _ _ h => h) (Or.inl ⟨by kernel_rfl, fun w' hw => ?_⟩) SS.out ?_
          · have e := World.cell?_of_block (a := ⟨g, i, none⟩) (hw _ hgl hgne); rw [o1] at e; go_simp
          simp only [Act.put, List.setIfInBounds_toArray]
          refine takeHD (i := 4) (v := .int .i64 i) (some 107) rfl rfl (by kernel_rfl) (by kernel_rfl) (by kernel_rfl) (fun _ _ _ h => h) (Or.inl ⟨by kernel_rfl, fun w' hw => ?_⟩) SS.out ?_
          · kernel_rfl
          simp only [Act.put, List.setIfInBounds_toArray]
          refine takeHD (i := 5) (v := .pointer (some ⟨w.heap.size, 0, none⟩)) (some 108) rfl rfl (by kernel_rfl) (by kernel_rfl) (by kernel_rfl) (fun _ _ _ h => h) (Or.inl ⟨by kernel_rfl, fun w' hw => ?_⟩) SS.out ?_
          · first | (go_simp; done) | (go_simp; intro h; omega) | (go_simp; rw [IntKind.wrap_i64]; omega)
          simp only [Act.put, List.setIfInBounds_toArray]
          refine takeHD (i := 6) (v := .int .i64 10) (some 109) rfl rfl (by kernel_rfl) (by kernel_rfl) (by kernel_rfl) (fun _ _ _ h => h) (Or.inl ⟨by kernel_rfl, fun w' hw => ?_⟩) SS.out ?_
          · have e := World.cell?_of_block (a := ⟨w.heap.size, 0, none⟩) (hw _ hxl hxne); rw [x0] at e; go_simp
          simp only [Act.put, List.setIfInBounds_toArray]
          refine takeHD (i := 7) (v := .bool true) (some 110) rfl rfl (by kernel_rfl) (by kernel_rfl) (by kernel_rfl) (fun _ _ _ h => h) (Or.inl ⟨by kernel_rfl, fun w' hw => ?_⟩) SS.out ?_
          · kernel_rfl
          simp only [Act.put, List.setIfInBounds_toArray]
          refine takeHD (i := 8) (v := .bool true) (some 111) rfl rfl (by kernel_rfl) (by kernel_rfl) (by kernel_rfl) (fun _ _ _ h => h) (Or.inl ⟨by kernel_rfl, fun w' hw => ?_⟩) SS.out ?_
          · kernel_rfl
          simp only [Act.put, List.setIfInBounds_toArray]
          refine takeHD (i := 9) (v := .int .i64 i) (some 112) rfl rfl (by kernel_rfl) (by kernel_rfl) (by kernel_rfl) (fun _ _ _ h => h) (Or.inl ⟨by kernel_rfl, fun w' hw => ?_⟩) SS.out ?_
          · kernel_rfl
          simp only [Act.put, List.setIfInBounds_toArray]
          refine takeHD (i := 10) (v := .bool false) (some 113) rfl rfl (by kernel_rfl) (by kernel_rfl) (by kernel_rfl) (fun _ _ _ h => h) (Or.inl ⟨by kernel_rfl, fun w' hw => ?_⟩) SS.out ?_
          · have hz : ((i : Int) == 0) = false := HZ.out; go_simp
          simp only [Act.put, List.setIfInBounds_toArray]
          refine takeHD (i := 11) (v := .bool false) (some 114) rfl rfl (by kernel_rfl) (by kernel_rfl) (by kernel_rfl) (fun _ _ _ h => h) (Or.inl ⟨by kernel_rfl, fun w' hw => ?_⟩) SS.out ?_
          · kernel_rfl
          simp only [Act.put, List.setIfInBounds_toArray]
          refine takeHD (i := 12) (v := .bool false) (some 115) rfl rfl (by kernel_rfl) (by kernel_rfl) (by kernel_rfl) (fun _ _ _ h => h) (Or.inl ⟨by kernel_rfl, fun w' hw => ?_⟩) SS.out ?_
          · kernel_rfl
          simp only [Act.put, List.setIfInBounds_toArray]
          refine takeHD (i := 13) (v := .pointer (some ⟨w.heap.size, 0, none⟩)) (some 116) rfl rfl (by kernel_rfl) (by kernel_rfl) (by kernel_rfl) (fun _ _ _ h => h) (Or.inl ⟨by kernel_rfl, fun w' hw => ?_⟩) SS.out ?_
          · first | (go_simp; done) | (go_simp; intro h; omega) | (go_simp; rw [IntKind.wrap_i64]; omega)
          simp only [Act.put, List.setIfInBounds_toArray]
          refine takeHD (i := 14) (v := .int .i64 10) (some 117) rfl rfl (by kernel_rfl) (by kernel_rfl) (by kernel_rfl) (fun _ _ _ h => h) (Or.inl ⟨by kernel_rfl, fun w' hw => ?_⟩) SS.out ?_
          · have e := World.cell?_of_block (a := ⟨w.heap.size, 0, none⟩) (hw _ hxl hxne); rw [x0] at e; go_simp
          simp only [Act.put, List.setIfInBounds_toArray]
          refine takeHD (i := 15) (v := .bool false) (some 118) rfl rfl (by kernel_rfl) (by kernel_rfl) (by kernel_rfl) (fun _ _ _ h => h) (Or.inl ⟨by kernel_rfl, fun w' hw => ?_⟩) SS.out ?_
          · kernel_rfl
          simp only [Act.put, List.setIfInBounds_toArray]
          refine takeHD (i := 16) (v := .bool false) (some 119) rfl rfl (by kernel_rfl) (by kernel_rfl) (by kernel_rfl) (fun _ _ _ h => h) (Or.inl ⟨by kernel_rfl, fun w' hw => ?_⟩) SS.out ?_
          · kernel_rfl
          simp only [Act.put, List.setIfInBounds_toArray]
          refine takeHD (i := 17) (v := undef) (some 120) rfl rfl (by kernel_rfl) (by kernel_rfl) (by kernel_rfl) (fun _ _ _ h => h) (Or.inr ⟨by kernel_rfl, rfl⟩) SS.out ?_
          simp only [Act.put, List.setIfInBounds_toArray]
          refine takeHD (i := 18) (v := undef) (some 121) rfl rfl (by kernel_rfl) (by kernel_rfl) (by kernel_rfl) (fun _ _ _ h => h) (Or.inr ⟨by kernel_rfl, rfl⟩) SS.out ?_
          simp only [Act.put, List.setIfInBounds_toArray]
          refine takeHD (i := 19) (v := undef) (some 122) rfl rfl (by kernel_rfl) (by kernel_rfl) (by kernel_rfl) (fun _ _ _ h => h) (Or.inr ⟨by kernel_rfl, rfl⟩) SS.out ?_
          simp only [Act.put, List.setIfInBounds_toArray]
          refine takeHD (i := 20) (v := undef) (some 123) rfl rfl (by kernel_rfl) (by kernel_rfl) (by kernel_rfl) (fun _ _ _ h => h) (Or.inr ⟨by kernel_rfl, rfl⟩) SS.out ?_
          simp only [Act.put, List.setIfInBounds_toArray]
          refine takeHD (i := 21) (v := .bool false) (some 124) rfl rfl (by kernel_rfl) (by kernel_rfl) (by kernel_rfl) (fun _ _ _ h => h) (Or.inl ⟨by kernel_rfl, fun w' hw => ?_⟩) SS.out ?_
          · kernel_rfl
          simp only [Act.put, List.setIfInBounds_toArray]
          refine takeHD (i := 22) (v := .bool false) (some 125) rfl rfl (by kernel_rfl) (by kernel_rfl) (by kernel_rfl) (fun _ _ _ h => h) (Or.inl ⟨by kernel_rfl, fun w' hw => ?_⟩) SS.out ?_
          · kernel_rfl
          simp only [Act.put, List.setIfInBounds_toArray]
          refine takeHD (i := 23) (v := .pointer (some ⟨R i, i, none⟩)) (some 126) rfl rfl (by kernel_rfl) (by kernel_rfl) (by kernel_rfl) (fun _ _ _ h => h) (Or.inl ⟨by kernel_rfl, fun w' hw => ?_⟩) SS.out ?_
          · first | (go_simp; done) | (go_simp; intro h; omega) | (go_simp; rw [IntKind.wrap_i64]; omega)
          simp only [Act.put, List.setIfInBounds_toArray]
          refine wpAnyH_ready (rs := [24]) (by kernel_rfl) (by simp) ?_
          refine AllReadyH.cons rfl (fun K hK => ?_) AllReadyH.nil
          rw [if_pos (by kernel_rfl)]
          go_wp2_with fail
          refine hK.out _ _ (fun b hb hne => heap_setCell_other wr.drew ⟨R i, i, none⟩ b _ hne) (fun _ => ?_)
          clear hK K
          refine wpAnyH_done (by kernel_rfl) ?_ _
          go_wp2
          go_roundw
          case rel => exact ⟨i + 1, by omega, by go_num, HQn, HXn, HBn⟩
          case measure => simp [intOf]; omega
      · have HQ3 : Hid (Mq wr g R s.size (fun x y => x == y && edgeB s 10 x)) := HQr.out.ext (fun x y hx _ => by rw [decide_eq_false (show ¬ i ≤ x by omega), Bool.or_false])
        clear HQr
        go_wp2
        go_ret
        exact ⟨_, rfl, ⟨g, capg, R, rfl, HCC.out.1, HCC.out.2, HAP.out.imp (fun b hb => by unfold newFrom at *; omega), HQ3.out⟩, HBr.out⟩
  · go_enter Tryz.func48, Tryz.ntmps48
    go_wp2_with fail
    refine (HS.out _).mono ?_
    rintro e w1 ⟨v1, rfl, ⟨g, capg, R, rfl, hc1, hc2, hap, hq⟩, hb1⟩
    have B1 := Hid.mk (A0.trans (hb1.mono (by simp)))
    have HX1 := Hid.mk (HX.out.grow hb1)
    have hcm : capg ≤ 9223372036854775807 := by unfold maxLen at hc2; omega
    have HCC := Hid.mk (And.intro hc1 hc2)
    have HAP : Hid (Apart (newFrom (w.heap.size + 1)) g R s.size) := hap.imp (fun b hb => by unfold newFrom at *; simpa using hb)
    have HQ : Hid (Mq w1 g R s.size (fun i j => i == j && (edgeB s 11 i || decide (0 ≤ i)))) := hq.ext (fun i j _ _ => by simp)
    clear hb1 A0 hap hq hc1 hc2 HX
    have x0 := HX1.out.c0
    go_wp2
    clear x0
    go_loopw [9] (fun q wr => ∃ (i : Nat), i ≤ s.size + 1 ∧ q = .int .i64 i ∧ Hid (Mq wr g R s.size (fun x y => x == y && (edgeB s 11 x || decide (i ≤ x)))) ∧ Hid (Bz3 wr w.heap.size (.int .i64 11) (.string ts) (.slice ao l.length cap)) ∧ Hid (Below w.heap.size w wr)) (fun q _ => s.size + 1 - (intOf q).toNat)
    case atStart => exact ⟨0, Nat.zero_le _, rfl, HQ, HX1, B1⟩
    case round =>
      obtain ⟨i, hi, rfl, HQr, HXr, HBr⟩ := hrel
      clear HQ HX1 B1
      by_cases hin : (i : Int) ≤ (s.size : Int)
      · have hil : i ≤ s.size := by omega
        have o1 := HQr.out.outer i hil
        have c1 := HQr.out.cell hil hil
        have f1 := HQr.out.frozen hil i
        have x0 := HXr.out.c0
        have SS : Hid (∀ b, b < wr.heap.size → b ≠ R i → wr.drew.heap[b]? = wr.heap[b]?) := fun b _ _ => rfl
        have hgl := HQr.out.ltg
        have hxl := HXr.out.lt
        have hgne : g ≠ R i := (HAP.out.ne i hil).symm
        have hxne : w.heap.size ≠ R i := by have := HAP.out.br i hil; unfold newFrom at this; omega
        obtain ⟨bb, hbb⟩ : ∃ bb, decide (i = s.size) = bb := ⟨_, rfl⟩
        have HZ : Hid (((i : Int) == (s.size : Int)) = bb) := by
          show _ = _
          rw [← hbb, Bool.eq_iff_iff, beq_iff_eq, decide_eq_true_iff]
          omega
        have HED : Hid (edgeB s 11 i = bb) := by show _ = _; simp [edgeB, hbb]
        clear hbb
        have HQn : Hid (Mq (wr.drew.setCell ⟨R i, i, none⟩ (.bool bb)) g R s.size (fun x y => x == y && (edgeB s 11 x || decide (i + 1 ≤ x)))) := ((HQr.out.grow (Below.drewSelf _ _ 1)).set HAP.out hil i bb).ext (fun x y _ _ => by
          rw [updM_at]
          split
          · rename_i h; obtain ⟨rfl, rfl⟩ := h
            rw [HED.out, decide_eq_false (by omega)]
            simp
          · rename_i h
            rw [Bool.eq_iff_iff]
            simp only [Bool.and_eq_true, Bool.or_eq_true, beq_iff_eq, decide_eq_true_iff]
            constructor
            · rintro ⟨h1, h2 | h2⟩
              · exact ⟨h1, Or.inl h2⟩
              · exact ⟨h1, Or.inr (by omega)⟩
            · rintro ⟨h1, h2 | h2⟩
              · exact ⟨h1, Or.inl h2⟩
              · exact ⟨h1, Or.inr (by omega)⟩)
        have HXn := Hid.mk ((HXr.out.grow (Below.drewSelf _ _ 1)).kept (w' := wr.drew.setCell ⟨R i, i, none⟩ (.bool bb)) (heap_setCell_other _ _ _ _ hxne))
        have HBn : Hid (Below w.heap.size w (wr.drew.setCell ⟨R i, i, none⟩ (.bool bb))) := (HBr.out.drew).setCell (p := ⟨R i, i, none⟩) (by have := HAP.out.br i hil; unfold newFrom at this; show w.heap.size ≤ R i; omega) _
        clear HQr HXr HBr
        go_wp2
        refine wp_region_held_drew (S := fun w' => ∀ b, b < wr.heap.size → b ≠ R i → w'.heap[b]? = wr.heap[b]?) (by kernel_rfl) SS.out (fun _ => ?_)
        refine takeHD (i := 0) (v := .slice (some ⟨g, 0, none⟩) (s.size + 1) capg) (some 103) rfl rfl (by kernel_rfl) (by kernel_rfl) (by kernel_rfl) (fun _ _ _ h => h) (Or.inl ⟨by kernel_rfl, fun w' hw => ?_⟩) SS.out ?_
        · kernel_rfl
        simp only [Act.put, List.setIfInBounds_toArray]
        refine takeHD (i := 1) (v := .int .i64 i) (some 104) rfl rfl (by kernel_rfl) (by kernel_rfl) (by kernel_rfl) (fun _ _ _ h => h) (Or.inl ⟨by kernel_rfl, fun w' hw => ?_⟩) SS.out ?_
        · kernel_rfl
        simp only [Act.put, List.setIfInBounds_toArray]
        refine takeHD (i := 2) (v := .pointer (some ⟨g, i, none⟩)) (some 105) rfl rfl (by kernel_rfl) (by kernel_rfl) (by kernel_rfl) (fun _ _ _ h => h) (Or.inl ⟨by kernel_rfl, fun w' hw => ?_⟩) SS.out ?_
        · first | (go_simp; done) | (go_simp; intro h; omega) | (go_simp; rw [IntKind.wrap_i64]; omega)
        simp only [Act.put, List.setIfInBounds_toArray]
        refine takeHD (i := 3) (v := .slice (some ⟨R i, 0, none⟩) (s.size + 1) (s.size + 1)) (some 106) rfl rfl (by kernel_rfl) (by kernel_rfl) (by kernel_rfl) (fun _ _ _ h => h) (Or.inl ⟨by kernel_rfl, fun w' hw => ?_⟩) SS.out ?_
        · have e := World.cell?_of_block (a := ⟨g, i, none⟩) (hw _ hgl hgne); rw [o1] at e; go_simp
        simp only [Act.put, List.setIfInBounds_toArray]
        refine takeHD (i := 4) (v := .int .i64 i) (some 107) rfl rfl (by kernel_rfl) (by kernel_rfl) (by kernel_rfl) (fun _ _ _ h => h) (Or.inl ⟨by kernel_rfl, fun w' hw => ?_⟩) SS.out ?_
        · kernel_rfl
        simp only [Act.put, List.setIfInBounds_toArray]
        refine takeHD (i := 5) (v := .pointer (some ⟨w.heap.size, 0, none⟩)) (some 108) rfl rfl (by kernel_rfl) (by kernel_rfl) (by kernel_rfl) (fun _ _ _ h => h) (Or.inl ⟨by kernel_rfl, fun w' hw => ?_⟩) SS.out ?_
        · first | (go_simp; done) | (go_simp; intro h; omega) | (go_simp; rw [IntKind.wrap_i64]; omega)
        simp only [Act.put, List.setIfInBounds_toArray]
        refine takeHD (i := 6) (v := .int .i64 11) (some 109) rfl rfl (by kernel_rfl) (by kernel_rfl) (by kernel_rfl) (fun _ _ _ h => h) (Or.inl ⟨by kernel_rfl, fun w' hw => ?_⟩) SS.out ?_
        · have e := World.cell?_of_block (a := ⟨w.heap.size, 0, none⟩) (hw _ hxl hxne); rw [x0] at e; go_simp
        simp only [Act.put, List.setIfInBounds_toArray]
        refine takeHD (i := 7) (v := .bool false) (some 110) rfl rfl (by kernel_rfl) (by kernel_rfl) (by kernel_rfl) (fun _ _ _ h => h) (Or.inl ⟨by kernel_rfl, fun w' hw => ?_⟩) SS.out ?_
        · kernel_rfl
        simp only [Act.put, List.setIfInBounds_toArray]
        refine takeHD (i := 8) (v := .bool false) (some 111) rfl rfl (by kernel_rfl) (by kernel_rfl) (by kernel_rfl) (fun _ _ _ h => h) (Or.inl ⟨by kernel_rfl, fun w' hw => ?_⟩) SS.out ?_
        · kernel_rfl
        simp only [Act.put, List.setIfInBounds_toArray]
        refine takeHD (i := 9) (v := undef) (some 112) rfl rfl (by kernel_rfl) (by kernel_rfl) (by kernel_rfl) (fun _ _ _ h => h) (Or.inr ⟨by kernel_rfl, rfl⟩) SS.out ?_
        simp only [Act.put, List.setIfInBounds_toArray]
        refine takeHD (i := 10) (v := undef) (some 113) rfl rfl (by kernel_rfl) (by kernel_rfl) (by kernel_rfl) (fun _ _ _ h => h) (Or.inr ⟨by kernel_rfl, rfl⟩) SS.out ?_
        simp only [Act.put, List.setIfInBounds_toArray]
        refine takeHD (i := 11) (v := .bool false) (some 114) rfl rfl (by kernel_rfl) (by kernel_rfl) (by kernel_rfl) (fun _ _ _ h => h) (Or.inl ⟨by kernel_rfl, fun w' hw => ?_⟩) SS.out ?_
        · kernel_rfl
        simp only [Act.put, List.setIfInBounds_toArray]
        refine takeHD (i := 12) (v := .bool false) (some 115) rfl rfl (by kernel_rfl) (by kernel_rfl) (by kernel_rfl) (fun _ _ _ h => h) (Or.inl ⟨by kernel_rfl, fun w' hw => ?_⟩) SS.out ?_
        · kernel_rfl
        simp only [Act.put, List.setIfInBounds_toArray]
        refine takeHD (i := 13) (v := .pointer (some ⟨w.heap.size, 0, none⟩)) (some 116) rfl rfl (by kernel_rfl) (by kernel_rfl) (by kernel_rfl) (fun _ _ _ h => h) (Or.inl ⟨by kernel_rfl, fun w' hw => ?_⟩) SS.out ?_
        · first | (go_simp; done) | (go_simp; intro h; omega) | (go_simp; rw [IntKind.wrap_i64]; omega)
        simp only [Act.put, List.setIfInBounds_toArray]
        refine takeHD (i := 14) (v := .int .i64 11) (some 117) rfl rfl (by kernel_rfl) (by kernel_rfl) (by kernel_rfl) (fun _ _ _ h => h) (Or.inl ⟨by kernel_rfl, fun w' hw => ?_⟩) SS.out ?_
        · have e := World.cell?_of_block (a := ⟨w.heap.size, 0, none⟩) (hw _ hxl hxne); rw [x0] at e; go_simp
        simp only [Act.put, List.setIfInBounds_toArray]
        refine takeHD (i := 15) (v := .bool true) (some 118) rfl rfl (by kernel_rfl) (by kernel_rfl) (by kernel_rfl) (fun _ _ _ h => h) (Or.inl ⟨by kernel_rfl, fun w' hw => ?_⟩) SS.out ?_
        · kernel_rfl
        simp only [Act.put, List.setIfInBounds_toArray]
        refine takeHD (i := 16) (v := .bool true) (some 119) rfl rfl (by kernel_rfl) (by kernel_rfl) (by kernel_rfl) (fun _ _ _ h => h) (Or.inl ⟨by kernel_rfl, fun w' hw => ?_⟩) SS.out ?_
        · kernel_rfl
        simp only [Act.put, List.setIfInBounds_toArray]
        refine takeHD (i := 17) (v := .int .i64 i) (some 120) rfl rfl (by kernel_rfl) (by kernel_rfl) (by kernel_rfl) (fun _ _ _ h => h) (Or.inl ⟨by kernel_rfl, fun w' hw => ?_⟩) SS.out ?_
        · kernel_rfl
        simp only [Act.put, List.setIfInBounds_toArray]
        refine takeHD (i := 18) (v := .string s) (some 121) rfl rfl (by kernel_rfl) (by kernel_rfl) (by kernel_rfl) (fun _ _ _ h => h) (Or.inl ⟨by kernel_rfl, fun w' hw => ?_⟩) SS.out ?_
        · kernel_rfl
        simp only [Act.put, List.setIfInBounds_toArray]
        refine takeHD (i := 19) (v := .int .i64 s.size) (some 122) rfl rfl (by kernel_rfl) (by kernel_rfl) (by kernel_rfl) (fun _ _ _ h => h) (Or.inl ⟨by kernel_rfl, fun w' hw => ?_⟩) SS.out ?_
        · kernel_rfl
        simp only [Act.put, List.setIfInBounds_toArray]
        refine takeHD (i := 20) (v := .bool bb) (some 123) rfl rfl (by kernel_rfl) (by kernel_rfl) (by kernel_rfl) (fun _ _ _ h => h) (Or.inl ⟨by kernel_rfl, fun w' hw => ?_⟩) SS.out ?_
        · have hz : ((i : Int) == (s.size : Int)) = bb := HZ.out; go_simp
        simp only [Act.put, List.setIfInBounds_toArray]
        refine takeHD (i := 21) (v := .bool bb) (some 124) rfl rfl (by kernel_rfl) (by kernel_rfl) (by kernel_rfl) (fun _ _ _ h => h) (Or.inl ⟨by kernel_rfl, fun w' hw => ?_⟩) SS.out ?_
        · kernel_rfl
        simp only [Act.put, List.setIfInBounds_toArray]
        refine takeHD (i := 22) (v := .bool bb) (some 125) rfl rfl (by kernel_rfl) (by kernel_rfl) (by kernel_rfl) (fun _ _ _ h => h) (Or.inl ⟨by kernel_rfl, fun w' hw => ?_⟩) SS.out ?_
        · kernel_rfl
        simp only [Act.put, List.setIfInBounds_toArray]
        refine takeHD (i := 23) (v := .pointer (some ⟨R i, i, none⟩)) (some 126) rfl rfl (by kernel_rfl) (by kernel_rfl) (by kernel_rfl) (fun _ _ _ h => h) (Or.inl ⟨by kernel_rfl, fun w' hw => ?_⟩) SS.out ?_
        · first | (go_simp; done) | (go_simp; intro h; omega) | (go_simp; rw [IntKind.wrap_i64]; omega)
        simp only [Act.put, List.setIfInBounds_toArray]
        refine wpAnyH_ready (rs := [24]) (by kernel_rfl) (by simp) ?_
        refine AllReadyH.cons rfl (fun K hK => ?_) AllReadyH.nil
        rw [if_pos (by kernel_rfl)]
        go_wp2_with fail
        refine hK.out _ _ (fun b hb hne => heap_setCell_other wr.drew ⟨R i, i, none⟩ b _ hne) (fun _ => ?_)
        clear hK K
        refine wpAnyH_done (by kernel_rfl) ?_ _
        go_wp2
        go_roundw
        case rel => exact ⟨i + 1, by omega, by go_num, HQn, HXn, HBn⟩
        case measure => simp [intOf]; omega
      · have HQ3 : Hid (Mq wr g R s.size (fun x y => x == y && edgeB s 11 x)) := HQr.out.ext (fun x y hx _ => by rw [decide_eq_false (show ¬ i ≤ x by omega), Bool.or_false])
        clear HQr
        go_wp2
        go_ret
        exact ⟨_, rfl, ⟨g, capg, R, rfl, HCC.out.1, HCC.out.2, HAP.out.imp (fun b hb => by unfold newFrom at *; omega), HQ3.out⟩, HBr.out⟩

theorem l4All_any (s : ByteArray) (hs : s.size ≤ 200) : ∀ t : Tr, AlC s t := by
  apply Tr.ind
  intro t ih
  by_cases h1 : t.k = 1 ∨ t.k = 2 ∨ t.k = 3
  · exact l4All_one s hs t h1
  by_cases h4 : t.k = 4
  · exact l4All_cat s hs t ih h4
  by_cases h5 : t.k = 5
  · exact l4All_alt s hs t ih h5
  by_cases h6 : t.k = 6
  · exact l4All_star s hs t ih h6
  by_cases h7 : t.k = 7
  · exact l4All_plus s hs t ih h7
  by_cases h8 : t.k = 8
  · exact l4All_opt s hs t ih h8
  by_cases h9 : t.k = 9
  · exact l4All_rest s hs t h9
  by_cases h10 : t.k = 10 ∨ t.k = 11
  · exact l4All_edge s hs t h10
  · intro B v w h hts hok
    rw [okT_eq] at hok
    simp only [nodeB] at hok
    rw [if_neg (by omega), if_neg (by omega), if_neg (by omega), if_neg (by omega), if_neg (by omega)] at hok
    simp at hok
end Go.Proofs.YtapniafhcagogaaGreatDoor

namespace Go.Proofs.YtapniafhcagogaaGreatDoor
open Go.RowKit
set_option maxRecDepth 8000

/-- The places of a row, ascending. -/
def rowL (n : Nat) (f : Nat → Bool) : List Nat := (List.range (n + 1)).filter f
/-- The first of them. -/
def rowUpto (f : Nat → Bool) (k : Nat) : List Nat := (List.range k).filter f

theorem rowUpto_yes (f : Nat → Bool) (k : Nat) (h : f k = true) : rowUpto f (k + 1) = rowUpto f k ++ [k] := by
  unfold rowUpto
  rw [List.range_succ, List.filter_append]
  simp [h]
theorem rowUpto_no (f : Nat → Bool) (k : Nat) (h : f k = false) : rowUpto f (k + 1) = rowUpto f k := by
  unfold rowUpto
  rw [List.range_succ, List.filter_append]
  simp [h]
theorem rowUpto_len (f : Nat → Bool) (k : Nat) : (rowUpto f k).length ≤ k := by
  unfold rowUpto
  have := List.length_filter_le f (List.range k)
  simpa using this

/-- An owned slice of numbers. -/
def OwnI (w : World) (base : Nat) (v : Value) (xs : List Nat) : Prop := w.ownsRow base 3 1 v xs.length (xs.map fun (x : Nat) => Value.int .i64 (x : Int))

theorem infoInt : (Tryz.prog.info? 3).map (fun i => (i.zero, i.size, i.bytes)) = some (some (.int .i64 0), 1, 8) := by kernel_rfl

set_option maxHeartbeats 1000000 in
theorem l4Row_any (n : Nat) (hn : n ≤ 200) (f : Nat → Bool) (b : Nat) (w : World) (hb : w.heap[b]? = some (.cells (rowOf n f) 4 (0, 0))) :
    Calls Tryz.prog 49 #[.slice (some ⟨b, 0, none⟩) (n + 1) (n + 1)] w fun e w' => ∃ v, e = .returned v ∧ OwnI w' w.heap.size v (rowL n f) ∧ Below w.heap.size w w' := by
  obtain ⟨ii, hii, hi0, hi1, hi2⟩ := info_parts infoInt
  have hbl : b < w.heap.size := (Array.getElem?_eq_some_iff.1 hb).1
  have HO : Hid (OwnI (w.alloc (.cells #[] 3)) w.heap.size (.slice (some ⟨w.heap.size, 0, none⟩) 0 0) (rowUpto f 0)) :=
    World.ownsRow_lit (base := w.heap.size) (e := 3) (size := 1) w #[] 0 (Nat.le_refl _) (by decide) rfl
  have HB0 : Hid (Below w.heap.size w (w.alloc (.cells #[] 3))) := (Below.refl _ _).alloc (Nat.le_refl _) _
  have HCELL : Hid (∀ wz, Below w.heap.size w wz → ∀ k, k ≤ n → wz.cell? ⟨b, k, none⟩ = some (.bool (f k))) := fun wz hz k hk => by
    rw [hz.cell (p := ⟨b, k, none⟩) hbl, cell_of_row w b k _ _ (0, 0) hb]
    exact rowOf_get n f k hk
  clear hb
  go_enter Tryz.func49, Tryz.ntmps49
  go_wp2
  go_loopw [3, 4] (fun o q wr => ∃ (k : Nat), k ≤ n + 1 ∧ q = .int .i64 k ∧ Hid (OwnI wr w.heap.size o (rowUpto f k)) ∧ Hid (Below w.heap.size w wr)) (fun _ q _ => n + 1 - (intOf q).toNat)
  case atStart => exact ⟨0, Nat.zero_le _, rfl, HO, HB0⟩
  case round =>
    obtain ⟨k, hk, rfl, HOr, HBr⟩ := hrel
    clear HO HB0
    by_cases hkn : (k : Int) < (n : Int) + 1
    · have hkl : k ≤ n := by omega
      have c1 := HCELL.out wr HBr.out k hkl
      cases hf : f k with
      | true =>
        rw [hf] at c1
        have HY := Hid.mk (rowUpto_yes f k hf)
        have hlen := rowUpto_len f k
        have HRO := Hid.mk (World.ownsRow.alloc HOr.out (.cells #[.int .i64 (k : Int)] 3))
        have HBA : Hid (Below w.heap.size w (wr.alloc (.cells #[.int .i64 (k : Int)] 3))) := HBr.out.alloc HBr.out.size _
        clear hf
        go_wp2_with (at_builtin; refine wpList_append_own_at _ rfl _ _ 52 rfl w.heap.size 3 ii _ 1 8 Tryz.underlying52 hii hi0 hi1 hi2 rfl (by decide) u3 (rowUpto f k).length _ rfl HRO.out ⟨wr.heap.size, 0, none⟩ 1 1 [.int .i64 (k : Int)] rfl rfl (cell_one_new _ _ _) (by simp [Value.oneCell']) (by unfold maxLen; omega) (by omega) (by have := HBA.out.size; simpa using this) ?_)
        intro v2 w2 hown2 hgrow2 _ hat2
        have HO2 : Hid (OwnI w2 w.heap.size v2 (rowUpto f (k + 1))) := by
          show OwnI _ _ _ _
          unfold OwnI
          rw [HY.out]
          simpa using hown2
        have HB2 : Hid (Below w.heap.size w w2) := HBA.out.grown hgrow2 HBA.out.size (fun g e => (World.ownsRow.lt HRO.out g e).1)
        clear hown2 hgrow2 hat2 HRO HBA HOr HBr HY
        go_wp2
        go_roundw
        case rel => exact ⟨k + 1, by omega, by go_num, HO2, HB2⟩
        case measure => simp [intOf]; omega
      | false =>
        rw [hf] at c1
        have HO2 : Hid (OwnI wr w.heap.size u3 (rowUpto f (k + 1))) := by
          show OwnI _ _ _ _
          rw [rowUpto_no f k hf]; exact HOr.out
        clear hf HOr
        go_wp2
        go_roundw
        case rel => exact ⟨k + 1, by omega, by go_num, HO2, HBr⟩
        case measure => simp [intOf]; omega
    · have hke : k = n + 1 := by omega
      subst hke
      go_wp2
      go_ret
      exact ⟨_, rfl, HOr.out, HBr.out⟩
end Go.Proofs.YtapniafhcagogaaGreatDoor
