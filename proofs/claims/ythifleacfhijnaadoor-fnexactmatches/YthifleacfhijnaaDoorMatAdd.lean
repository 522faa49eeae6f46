/- The model's matrices: one added to another one. -/
import Derived.Test.YthifleacfhijnaaDoorMatSame
import Derived.Test.YthifleacfhijnaaDoorMarkSh
import Derived.Test.YthifleacfhijnaaDoorTake
namespace Go.Proofs.YthifleacfhijnaaDoor
open Go.RowKit
set_option maxRecDepth 8000

/-- What is added: the part on and behind the diagonal. -/
def mAdd (M X : Mat) : Mat := fun i j => M i j || (decide (i ≤ j) && X i j)
/-- How far it has come: rows below i, and in row i the places below k. -/
def addUpto (M X : Mat) (i k : Nat) : Mat := fun x y => M x y || (decide (x ≤ y) && X x y && (decide (x < i) || decide (x = i ∧ y < k)))

theorem addUpto_row (M X : Mat) (i n x y : Nat) (hy : y ≤ n) : addUpto M X i (n + 1) x y = addUpto M X (i + 1) (i + 1) x y := by
  unfold addUpto
  rw [Bool.eq_iff_iff]
  simp only [Bool.or_eq_true, Bool.and_eq_true, decide_eq_true_iff]
  constructor
  · rintro (h | ⟨⟨h1, h2⟩, h3⟩)
    · exact Or.inl h
    · exact Or.inr ⟨⟨h1, h2⟩, by omega⟩
  · rintro (h | ⟨⟨h1, h2⟩, h3⟩)
    · exact Or.inl h
    · exact Or.inr ⟨⟨h1, h2⟩, by omega⟩
theorem addUpto_start (M X : Mat) (x y : Nat) : M x y = addUpto M X 0 0 x y := by
  unfold addUpto
  simp
theorem addUpto_done (M X : Mat) (n x y : Nat) (hx : x ≤ n) : addUpto M X (n + 1) (n + 1) x y = mAdd M X x y := by
  unfold addUpto mAdd
  rw [decide_eq_true (show x < n + 1 by omega)]
  simp
theorem addUpto_step (M X : Mat) (i k x y : Nat) (hik : i ≤ k) : updM (addUpto M X i k) i k (addUpto M X i k i k || X i k) x y = addUpto M X i (k + 1) x y := by
  rw [updM_at]
  split
  · rename_i h; obtain ⟨rfl, rfl⟩ := h
    unfold addUpto
    simp [hik]
  · rename_i h
    unfold addUpto
    rw [Bool.eq_iff_iff]
    simp only [Bool.or_eq_true, Bool.and_eq_true, decide_eq_true_iff]
    constructor
    · rintro (h | ⟨⟨h1, h2⟩, h3⟩)
      · exact Or.inl h
      · exact Or.inr ⟨⟨h1, h2⟩, by omega⟩
    · rintro (h | ⟨⟨h1, h2⟩, h3⟩)
      · exact Or.inl h
      · exact Or.inr ⟨⟨h1, h2⟩, by omega⟩

set_option maxHeartbeats 1000000 in
theorem l4Add_any (n : Nat) (hn : n ≤ 200) (B C : Nat → Prop) (M X : Mat) (v x : Value) (w : World) (hv : Mx w B n M v) (hx : Mx w C n X x) (hBC : ∀ b, B b → ¬ C b) :
    Calls Tryd.prog 70 #[v, x] w fun e w' => (∃ u, e = .returned u) ∧ Mx w' B n (mAdd M X) v ∧ Turn B w w' := by
  obtain ⟨g, cap, R, rfl, hc1, hc2, hap, hq⟩ := hv
  obtain ⟨g2, cap2, R2, rfl, hd1, hd2, hap2, hq2⟩ := hx
  have hcm : cap ≤ 9223372036854775807 := by unfold maxLen at hc2; omega
  have hcm2 : cap2 ≤ 9223372036854775807 := by unfold maxLen at hd2; omega
  have HC := Hid.mk (And.intro hc1 hc2)
  have HA := Hid.mk hap
  have HA2 := Hid.mk hap2
  have HQ : Hid (Mq w g R n (addUpto M X 0 0)) := hq.ext (fun i k _ _ => addUpto_start M X i k)
  have HQ2 := Hid.mk hq2
  have HBC := Hid.mk hBC
  have HT := Hid.mk (Turn.refl B w)
  clear hq hq2 hap hap2 hc1 hc2 hd1 hd2 hBC
  go_enter Tryd.func70, Tryd.ntmps70
  go_wp2
  go_loopw [4] (fun i wr => ∃ (k : Nat), k ≤ n + 1 ∧ i = .int .i64 k ∧ Hid (Mq wr g R n (addUpto M X k k)) ∧ Hid (Mq wr g2 R2 n X) ∧ Hid (Turn B w wr)) (fun i _ => n + 1 - (intOf i).toNat)
  case atStart => exact ⟨0, Nat.zero_le _, rfl, HQ, HQ2, HT⟩
  case round =>
    obtain ⟨i, hi, rfl, HQr, HQ2r, HTr⟩ := hrel
    clear HQ HQ2 HT
    by_cases hin : (i : Int) < (n : Int) + 1
    · have hil : i ≤ n := by omega
      go_wp2
      go_loopw [5] (fun k wq => ∃ (j : Nat), i ≤ j ∧ j ≤ n + 1 ∧ k = .int .i64 j ∧ Hid (Mq wq g R n (addUpto M X i j)) ∧ Hid (Mq wq g2 R2 n X) ∧ Hid (Turn B w wq)) (fun k _ => n + 1 - (intOf k).toNat)
      case atStart => exact ⟨i, Nat.le_refl _, by omega, rfl, HQr, HQ2r, HTr⟩
      case round =>
        obtain ⟨j, hij, hj, rfl, HQs, HQ2s, HTs⟩ := hrel
        clear HQr HQ2r HTr
        by_cases hjn : (j : Int) < (n : Int) + 1
        · have hjl : j ≤ n := by omega
          have o1 := HQs.out.outer i hil
          have c1 := HQs.out.cell hil hjl
          have f1 := HQs.out.frozen hil j
          have o2 := HQ2s.out.outer i hil
          have c2 := HQ2s.out.cell hil hjl
          have HST := Hid.mk (fun (wz : World) (b : Bool) (hb : b = (addUpto M X i j i j || X i j)) => show Mq (wz.setCell ⟨R i, j, none⟩ (.bool b)) g R n (addUpto M X i (j + 1)) ∨ ¬ Mq wz g R n (addUpto M X i j) from by
            by_cases hq : Mq wz g R n (addUpto M X i j)
            · left; rw [hb]; exact (hq.set HA.out hil j _).ext (fun x y _ _ => addUpto_step M X i j x y hij)
            · exact Or.inr hq)
          obtain ⟨b1, hb1⟩ : ∃ b, addUpto M X i j i j = b := ⟨_, rfl⟩
          obtain ⟨b2, hb2⟩ : ∃ b, X i j = b := ⟨_, rfl⟩
          rw [hb1] at c1 HST
          rw [hb2] at c2 HST
          have HR2 : Hid (∀ (wz : World) (b : Bool), Mq wz g2 R2 n X → Mq (wz.setCell ⟨R i, j, none⟩ (.bool b)) g2 R2 n X) := fun wz b h =>
            h.kept (heap_setCell_other _ _ _ _ (fun e => HBC.out _ (HA.out.br i hil) (by have e' : g2 = R i := e; rw [← e']; exact HA2.out.bg))) (fun x hx => heap_setCell_other _ _ _ _ (fun e => HBC.out _ (HA.out.br i hil) (by have e' : R2 x = R i := e; rw [← e']; exact HA2.out.br x hx)))
          have HTT : Hid (∀ (wz : World) (b : Bool), Turn B w wz → Turn B w (wz.setCell ⟨R i, j, none⟩ (.bool b))) := fun wz b h => h.trans (Turn.setCell wz (HA.out.br i hil) _)
          clear hb1 hb2
          have SS : Hid (∀ b, b < wr.heap.size → b ≠ R i → wr.drew.heap[b]? = wr.heap[b]?) := fun b _ _ => rfl
          have hgl := HQs.out.ltg
          have hgs := HQ2s.out.ltg
          have hrs := HQ2s.out.lt hil
          have hgne : g ≠ R i := (HA.out.ne i hil).symm
          have hgsne : g2 ≠ R i := fun e => HBC.out _ (HA.out.br i hil) (by rw [← e]; exact HA2.out.bg)
          have hrsne : R2 i ≠ R i := fun e => HBC.out _ (HA.out.br i hil) (by rw [← e]; exact HA2.out.br i hil)
          cases b1 with
          | true =>
            have HQn := Hid.mk (((HST.out wr.drew true rfl).resolve_right (fun h => h (HQs.out.grow (Below.drewSelf _ _ 1)))))
            have HQ2n := Hid.mk (HR2.out wr.drew true (HQ2s.out.grow (Below.drewSelf _ _ 1)))
            have HTn := Hid.mk (HTT.out wr.drew true (HTs.out.trans (Turn.below (Below.drewSelf _ _ 1))))
            clear HST HR2 HTT HQs HQ2s HTs
            go_wp2
            refine wp_region_held_drew (S := fun w' => ∀ b, b < wr.heap.size → b ≠ R i → w'.heap[b]? = wr.heap[b]?) (by kernel_rfl) SS.out (fun _ => ?_)
            refine takeHD (i := 0) (v := .slice (some ⟨g, 0, none⟩) (n + 1) cap) (some 19) rfl rfl (by kernel_rfl) (by kernel_rfl) (by kernel_rfl) (fun _ _ _ h => h) (Or.inl ⟨by kernel_rfl, fun w' hw => ?_⟩) SS.out ?_
            · kernel_rfl
            simp only [Act.put, List.setIfInBounds_toArray]
            refine takeHD (i := 1) (v := .int .i64 i) (some 20) rfl rfl (by kernel_rfl) (by kernel_rfl) (by kernel_rfl) (fun _ _ _ h => h) (Or.inl ⟨by kernel_rfl, fun w' hw => ?_⟩) SS.out ?_
            · kernel_rfl
            simp only [Act.put, List.setIfInBounds_toArray]
            refine takeHD (i := 2) (v := .pointer (some ⟨g, i, none⟩)) (some 21) rfl rfl (by kernel_rfl) (by kernel_rfl) (by kernel_rfl) (fun _ _ _ h => h) (Or.inl ⟨by kernel_rfl, fun w' hw => ?_⟩) SS.out ?_
            · first | (go_simp; done) | (go_simp; intro h; omega) | (go_simp; rw [IntKind.wrap_i64]; omega)
            simp only [Act.put, List.setIfInBounds_toArray]
            refine takeHD (i := 3) (v := .slice (some ⟨R i, 0, none⟩) (n + 1) (n + 1)) (some 22) rfl rfl (by kernel_rfl) (by kernel_rfl) (by kernel_rfl) (fun _ _ _ h => h) (Or.inl ⟨by kernel_rfl, fun w' hw => ?_⟩) SS.out ?_
            · have e := World.cell?_of_block (a := ⟨g, i, none⟩) (hw _ hgl hgne); rw [o1] at e; go_simp
            simp only [Act.put, List.setIfInBounds_toArray]
            refine takeHD (i := 4) (v := .int .i64 j) (some 23) rfl rfl (by kernel_rfl) (by kernel_rfl) (by kernel_rfl) (fun _ _ _ h => h) (Or.inl ⟨by kernel_rfl, fun w' hw => ?_⟩) SS.out ?_
            · kernel_rfl
            simp only [Act.put, List.setIfInBounds_toArray]
            refine takeHD (i := 5) (v := .slice (some ⟨g, 0, none⟩) (n + 1) cap) (some 24) rfl rfl (by kernel_rfl) (by kernel_rfl) (by kernel_rfl) (fun _ _ _ h => h) (Or.inl ⟨by kernel_rfl, fun w' hw => ?_⟩) SS.out ?_
            · kernel_rfl
            simp only [Act.put, List.setIfInBounds_toArray]
            refine takeHD (i := 6) (v := .int .i64 i) (some 25) rfl rfl (by kernel_rfl) (by kernel_rfl) (by kernel_rfl) (fun _ _ _ h => h) (Or.inl ⟨by kernel_rfl, fun w' hw => ?_⟩) SS.out ?_
            · kernel_rfl
            simp only [Act.put, List.setIfInBounds_toArray]
            refine takeHD (i := 7) (v := .pointer (some ⟨g, i, none⟩)) (some 26) rfl rfl (by kernel_rfl) (by kernel_rfl) (by kernel_rfl) (fun _ _ _ h => h) (Or.inl ⟨by kernel_rfl, fun w' hw => ?_⟩) SS.out ?_
            · first | (go_simp; done) | (go_simp; intro h; omega) | (go_simp; rw [IntKind.wrap_i64]; omega)
            simp only [Act.put, List.setIfInBounds_toArray]
            refine takeHD (i := 8) (v := .slice (some ⟨R i, 0, none⟩) (n + 1) (n + 1)) (some 27) rfl rfl (by kernel_rfl) (by kernel_rfl) (by kernel_rfl) (fun _ _ _ h => h) (Or.inl ⟨by kernel_rfl, fun w' hw => ?_⟩) SS.out ?_
            · have e := World.cell?_of_block (a := ⟨g, i, none⟩) (hw _ hgl hgne); rw [o1] at e; go_simp
            simp only [Act.put, List.setIfInBounds_toArray]
            refine takeHD (i := 9) (v := .int .i64 j) (some 28) rfl rfl (by kernel_rfl) (by kernel_rfl) (by kernel_rfl) (fun _ _ _ h => h) (Or.inl ⟨by kernel_rfl, fun w' hw => ?_⟩) SS.out ?_
            · kernel_rfl
            simp only [Act.put, List.setIfInBounds_toArray]
            refine takeHD (i := 10) (v := .pointer (some ⟨R i, j, none⟩)) (some 29) rfl rfl (by kernel_rfl) (by kernel_rfl) (by kernel_rfl) (fun _ _ _ h => h) (Or.inl ⟨by kernel_rfl, fun w' hw => ?_⟩) SS.out ?_
            · first | (go_simp; done) | (go_simp; intro h; omega) | (go_simp; rw [IntKind.wrap_i64]; omega)
            simp only [Act.put, List.setIfInBounds_toArray]
            refine wpAnyH_ready (rs := [11]) (by kernel_rfl) (by simp) ?_
            refine AllReadyH.cons rfl (fun K hK => ?_) AllReadyH.nil
            rw [if_pos (by kernel_rfl)]
            go_wp2_with fail
            refine hK.out _ _ SS.out (fun _ => ?_)
            clear hK K
            refine takeHD (i := 12) (v := .bool true) (some 31) rfl rfl (by kernel_rfl) (by kernel_rfl) (by kernel_rfl) (fun _ _ _ h => h) (Or.inl ⟨by kernel_rfl, fun w' hw => ?_⟩) SS.out ?_
            · kernel_rfl
            simp only [Act.put, List.setIfInBounds_toArray]
            refine takeHD (i := 13) (v := undef) (some 32) rfl rfl (by kernel_rfl) (by kernel_rfl) (by kernel_rfl) (fun _ _ _ h => h) (Or.inr ⟨by kernel_rfl, rfl⟩) SS.out ?_
            simp only [Act.put, List.setIfInBounds_toArray]
            refine takeHD (i := 14) (v := undef) (some 33) rfl rfl (by kernel_rfl) (by kernel_rfl) (by kernel_rfl) (fun _ _ _ h => h) (Or.inr ⟨by kernel_rfl, rfl⟩) SS.out ?_
            simp only [Act.put, List.setIfInBounds_toArray]
            refine takeHD (i := 15) (v := undef) (some 34) rfl rfl (by kernel_rfl) (by kernel_rfl) (by kernel_rfl) (fun _ _ _ h => h) (Or.inr ⟨by kernel_rfl, rfl⟩) SS.out ?_
            simp only [Act.put, List.setIfInBounds_toArray]
            refine takeHD (i := 16) (v := undef) (some 35) rfl rfl (by kernel_rfl) (by kernel_rfl) (by kernel_rfl) (fun _ _ _ h => h) (Or.inr ⟨by kernel_rfl, rfl⟩) SS.out ?_
            simp only [Act.put, List.setIfInBounds_toArray]
            refine takeHD (i := 17) (v := undef) (some 36) rfl rfl (by kernel_rfl) (by kernel_rfl) (by kernel_rfl) (fun _ _ _ h => h) (Or.inr ⟨by kernel_rfl, rfl⟩) SS.out ?_
            simp only [Act.put, List.setIfInBounds_toArray]
            refine takeHD (i := 18) (v := undef) (some 37) rfl rfl (by kernel_rfl) (by kernel_rfl) (by kernel_rfl) (fun _ _ _ h => h) (Or.inr ⟨by kernel_rfl, rfl⟩) SS.out ?_
            simp only [Act.put, List.setIfInBounds_toArray]
            refine takeHD (i := 19) (v := undef) (some 38) rfl rfl (by kernel_rfl) (by kernel_rfl) (by kernel_rfl) (fun _ _ _ h => h) (Or.inr ⟨by kernel_rfl, rfl⟩) SS.out ?_
            simp only [Act.put, List.setIfInBounds_toArray]
            refine takeHD (i := 20) (v := .bool true) (some 39) rfl rfl (by kernel_rfl) (by kernel_rfl) (by kernel_rfl) (fun _ _ _ h => h) (Or.inl ⟨by kernel_rfl, fun w' hw => ?_⟩) SS.out ?_
            · kernel_rfl
            simp only [Act.put, List.setIfInBounds_toArray]
            refine takeHD (i := 21) (v := .pointer (some ⟨R i, j, none⟩)) (some 40) rfl rfl (by kernel_rfl) (by kernel_rfl) (by kernel_rfl) (fun _ _ _ h => h) (Or.inl ⟨by kernel_rfl, fun w' hw => ?_⟩) SS.out ?_
            · first | (go_simp; done) | (go_simp; intro h; omega) | (go_simp; rw [IntKind.wrap_i64]; omega)
            simp only [Act.put, List.setIfInBounds_toArray]
            refine wpAnyH_ready (rs := [22]) (by kernel_rfl) (by simp) ?_
            refine AllReadyH.cons rfl (fun K hK => ?_) AllReadyH.nil
            rw [if_pos (by kernel_rfl)]
            go_wp2_with fail
            refine hK.out _ _ (fun b hb hne => heap_setCell_other wr.drew ⟨R i, j, none⟩ b _ hne) (fun _ => ?_)
            clear hK K
            refine wpAnyH_done (by kernel_rfl) ?_ _
            go_wp2
            go_roundw
            case rel => exact ⟨j + 1, by omega, by omega, by go_num, HQn, HQ2n, HTn⟩
            case measure => simp [intOf]; omega
          | false =>
            have HQn := Hid.mk (((HST.out wr.drew b2 rfl).resolve_right (fun h => h (HQs.out.grow (Below.drewSelf _ _ 1)))))
            have HQ2n := Hid.mk (HR2.out wr.drew b2 (HQ2s.out.grow (Below.drewSelf _ _ 1)))
            have HTn := Hid.mk (HTT.out wr.drew b2 (HTs.out.trans (Turn.below (Below.drewSelf _ _ 1))))
            clear HST HR2 HTT HQs HQ2s HTs
            go_wp2
            refine wp_region_held_drew (S := fun w' => ∀ b, b < wr.heap.size → b ≠ R i → w'.heap[b]? = wr.heap[b]?) (by kernel_rfl) SS.out (fun _ => ?_)
            refine takeHD (i := 0) (v := .slice (some ⟨g, 0, none⟩) (n + 1) cap) (some 19) rfl rfl (by kernel_rfl) (by kernel_rfl) (by kernel_rfl) (fun _ _ _ h => h) (Or.inl ⟨by kernel_rfl, fun w' hw => ?_⟩) SS.out ?_
            · kernel_rfl
            simp only [Act.put, List.setIfInBounds_toArray]
            refine takeHD (i := 1) (v := .int .i64 i) (some 20) rfl rfl (by kernel_rfl) (by kernel_rfl) (by kernel_rfl) (fun _ _ _ h => h) (Or.inl ⟨by kernel_rfl, fun w' hw => ?_⟩) SS.out ?_
            · kernel_rfl
            simp only [Act.put, List.setIfInBounds_toArray]
            refine takeHD (i := 2) (v := .pointer (some ⟨g, i, none⟩)) (some 21) rfl rfl (by kernel_rfl) (by kernel_rfl) (by kernel_rfl) (fun _ _ _ h => h) (Or.inl ⟨by kernel_rfl, fun w' hw => ?_⟩) SS.out ?_
            · first | (go_simp; done) | (go_simp; intro h; omega) | (go_simp; rw [IntKind.wrap_i64]; omega)
            simp only [Act.put, List.setIfInBounds_toArray]
            refine takeHD (i := 3) (v := .slice (some ⟨R i, 0, none⟩) (n + 1) (n + 1)) (some 22) rfl rfl (by kernel_rfl) (by kernel_rfl) (by kernel_rfl) (fun _ _ _ h => h) (Or.inl ⟨by kernel_rfl, fun w' hw => ?_⟩) SS.out ?_
            · have e := World.cell?_of_block (a := ⟨g, i, none⟩) (hw _ hgl hgne); rw [o1] at e; go_simp
            simp only [Act.put, List.setIfInBounds_toArray]
            refine takeHD (i := 4) (v := .int .i64 j) (some 23) rfl rfl (by kernel_rfl) (by kernel_rfl) (by kernel_rfl) (fun _ _ _ h => h) (Or.inl ⟨by kernel_rfl, fun w' hw => ?_⟩) SS.out ?_
            · kernel_rfl
            simp only [Act.put, List.setIfInBounds_toArray]
            refine takeHD (i := 5) (v := .slice (some ⟨g, 0, none⟩) (n + 1) cap) (some 24) rfl rfl (by kernel_rfl) (by kernel_rfl) (by kernel_rfl) (fun _ _ _ h => h) (Or.inl ⟨by kernel_rfl, fun w' hw => ?_⟩) SS.out ?_
            · kernel_rfl
            simp only [Act.put, List.setIfInBounds_toArray]
            refine takeHD (i := 6) (v := .int .i64 i) (some 25) rfl rfl (by kernel_rfl) (by kernel_rfl) (by kernel_rfl) (fun _ _ _ h => h) (Or.inl ⟨by kernel_rfl, fun w' hw => ?_⟩) SS.out ?_
            · kernel_rfl
            simp only [Act.put, List.setIfInBounds_toArray]
            refine takeHD (i := 7) (v := .pointer (some ⟨g, i, none⟩)) (some 26) rfl rfl (by kernel_rfl) (by kernel_rfl) (by kernel_rfl) (fun _ _ _ h => h) (Or.inl ⟨by kernel_rfl, fun w' hw => ?_⟩) SS.out ?_
            · first | (go_simp; done) | (go_simp; intro h; omega) | (go_simp; rw [IntKind.wrap_i64]; omega)
            simp only [Act.put, List.setIfInBounds_toArray]
            refine takeHD (i := 8) (v := .slice (some ⟨R i, 0, none⟩) (n + 1) (n + 1)) (some 27) rfl rfl (by kernel_rfl) (by kernel_rfl) (by kernel_rfl) (fun _ _ _ h => h) (Or.inl ⟨by kernel_rfl, fun w' hw => ?_⟩) SS.out ?_
            · have e := World.cell?_of_block (a := ⟨g, i, none⟩) (hw _ hgl hgne); rw [o1] at e; go_simp
            simp only [Act.put, List.setIfInBounds_toArray]
            refine takeHD (i := 9) (v := .int .i64 j) (some 28) rfl rfl (by kernel_rfl) (by kernel_rfl) (by kernel_rfl) (fun _ _ _ h => h) (Or.inl ⟨by kernel_rfl, fun w' hw => ?_⟩) SS.out ?_
            · kernel_rfl
            simp only [Act.put, List.setIfInBounds_toArray]
            refine takeHD (i := 10) (v := .pointer (some ⟨R i, j, none⟩)) (some 29) rfl rfl (by kernel_rfl) (by kernel_rfl) (by kernel_rfl) (fun _ _ _ h => h) (Or.inl ⟨by kernel_rfl, fun w' hw => ?_⟩) SS.out ?_
            · first | (go_simp; done) | (go_simp; intro h; omega) | (go_simp; rw [IntKind.wrap_i64]; omega)
            simp only [Act.put, List.setIfInBounds_toArray]
            refine wpAnyH_ready (rs := [11]) (by kernel_rfl) (by simp) ?_
            refine AllReadyH.cons rfl (fun K hK => ?_) AllReadyH.nil
            rw [if_pos (by kernel_rfl)]
            go_wp2_with fail
            refine hK.out _ _ SS.out (fun _ => ?_)
            clear hK K
            refine takeHD (i := 12) (v := .bool false) (some 31) rfl rfl (by kernel_rfl) (by kernel_rfl) (by kernel_rfl) (fun _ _ _ h => h) (Or.inl ⟨by kernel_rfl, fun w' hw => ?_⟩) SS.out ?_
            · kernel_rfl
            simp only [Act.put, List.setIfInBounds_toArray]
            refine takeHD (i := 13) (v := .slice (some ⟨g2, 0, none⟩) (n + 1) cap2) (some 32) rfl rfl (by kernel_rfl) (by kernel_rfl) (by kernel_rfl) (fun _ _ _ h => h) (Or.inl ⟨by kernel_rfl, fun w' hw => ?_⟩) SS.out ?_
            · kernel_rfl
            simp only [Act.put, List.setIfInBounds_toArray]
            refine takeHD (i := 14) (v := .int .i64 i) (some 33) rfl rfl (by kernel_rfl) (by kernel_rfl) (by kernel_rfl) (fun _ _ _ h => h) (Or.inl ⟨by kernel_rfl, fun w' hw => ?_⟩) SS.out ?_
            · kernel_rfl
            simp only [Act.put, List.setIfInBounds_toArray]
            refine takeHD (i := 15) (v := .pointer (some ⟨g2, i, none⟩)) (some 34) rfl rfl (by kernel_rfl) (by kernel_rfl) (by kernel_rfl) (fun _ _ _ h => h) (Or.inl ⟨by kernel_rfl, fun w' hw => ?_⟩) SS.out ?_
            · first | (go_simp; done) | (go_simp; intro h; omega) | (go_simp; rw [IntKind.wrap_i64]; omega)
            simp only [Act.put, List.setIfInBounds_toArray]
            refine takeHD (i := 16) (v := .slice (some ⟨R2 i, 0, none⟩) (n + 1) (n + 1)) (some 35) rfl rfl (by kernel_rfl) (by kernel_rfl) (by kernel_rfl) (fun _ _ _ h => h) (Or.inl ⟨by kernel_rfl, fun w' hw => ?_⟩) SS.out ?_
            · have e := World.cell?_of_block (a := ⟨g2, i, none⟩) (hw _ hgs hgsne); rw [o2] at e; go_simp
            simp only [Act.put, List.setIfInBounds_toArray]
            refine takeHD (i := 17) (v := .int .i64 j) (some 36) rfl rfl (by kernel_rfl) (by kernel_rfl) (by kernel_rfl) (fun _ _ _ h => h) (Or.inl ⟨by kernel_rfl, fun w' hw => ?_⟩) SS.out ?_
            · kernel_rfl
            simp only [Act.put, List.setIfInBounds_toArray]
            refine takeHD (i := 18) (v := .pointer (some ⟨R2 i, j, none⟩)) (some 37) rfl rfl (by kernel_rfl) (by kernel_rfl) (by kernel_rfl) (fun _ _ _ h => h) (Or.inl ⟨by kernel_rfl, fun w' hw => ?_⟩) SS.out ?_
            · first | (go_simp; done) | (go_simp; intro h; omega) | (go_simp; rw [IntKind.wrap_i64]; omega)
            simp only [Act.put, List.setIfInBounds_toArray]
            refine takeHD (i := 19) (v := .bool b2) (some 38) rfl rfl (by kernel_rfl) (by kernel_rfl) (by kernel_rfl) (fun _ _ _ h => h) (Or.inl ⟨by kernel_rfl, fun w' hw => ?_⟩) SS.out ?_
            · have e := World.cell?_of_block (a := ⟨R2 i, j, none⟩) (hw _ hrs hrsne); rw [c2] at e; go_simp
            simp only [Act.put, List.setIfInBounds_toArray]
            refine takeHD (i := 20) (v := .bool b2) (some 39) rfl rfl (by kernel_rfl) (by kernel_rfl) (by kernel_rfl) (fun _ _ _ h => h) (Or.inl ⟨by kernel_rfl, fun w' hw => ?_⟩) SS.out ?_
            · kernel_rfl
            simp only [Act.put, List.setIfInBounds_toArray]
            refine takeHD (i := 21) (v := .pointer (some ⟨R i, j, none⟩)) (some 40) rfl rfl (by kernel_rfl) (by kernel_rfl) (by kernel_rfl) (fun _ _ _ h => h) (Or.inl ⟨by kernel_rfl, fun w' hw => ?_⟩) SS.out ?_
            · first | (go_simp; done) | (go_simp; intro h; omega) | (go_simp; rw [IntKind.wrap_i64]; omega)
            simp only [Act.put, List.setIfInBounds_toArray]
            refine wpAnyH_ready (rs := [22]) (by kernel_rfl) (by simp) ?_
            refine AllReadyH.cons rfl (fun K hK => ?_) AllReadyH.nil
            rw [if_pos (by kernel_rfl)]
            go_wp2_with fail
            refine hK.out _ _ (fun b hb hne => heap_setCell_other wr.drew ⟨R i, j, none⟩ b _ hne) (fun _ => ?_)
            clear hK K
            refine wpAnyH_done (by kernel_rfl) ?_ _
            go_wp2
            go_roundw
            case rel => exact ⟨j + 1, by omega, by omega, by go_num, HQn, HQ2n, HTn⟩
            case measure => simp [intOf]; omega
        · have hje : j = n + 1 := by omega
          subst hje
          have HQn : Hid (Mq wr g R n (addUpto M X (i + 1) (i + 1))) := HQs.out.ext (fun x y _ hy => addUpto_row M X i n x y hy)
          clear HQs
          go_wp2
          go_roundw
          case rel => exact ⟨i + 1, by omega, by go_num, HQn, HQ2s, HTs⟩
          case measure => simp [intOf]; omega
    · have hie : i = n + 1 := by omega
      subst hie
      have HQn : Hid (Mq wr g R n (mAdd M X)) := HQr.out.ext (fun x y hx _ => addUpto_done M X n x y hx)
      clear HQr
      go_wp2
      go_end0
      exact ⟨⟨_, rfl⟩, ⟨g, cap, R, rfl, HC.out.1, HC.out.2, HA.out, HQn.out⟩, HTr.out⟩
end Go.Proofs.YthifleacfhijnaaDoor
