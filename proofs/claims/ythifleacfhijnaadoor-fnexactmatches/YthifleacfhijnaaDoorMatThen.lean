/- The model's matrices: one behind the other. -/
import Derived.Test.YthifleacfhijnaaDoorMatThenM
import Derived.Test.YthifleacfhijnaaDoorMatAdd
namespace Go.Proofs.YthifleacfhijnaaDoor
open Go.RowKit
set_option maxRecDepth 8000

set_option maxHeartbeats 2000000 in
theorem l4Then_any (s : ByteArray) (hs : s.size ≤ 200) (B C : Nat → Prop) (a b : Mat) (va vb : Value) (w : World) (ha : Mx w B s.size a va) (hb : Mx w C s.size b vb) :
    Calls Tryd.prog 68 #[va, vb, .string s] w fun e w' => ∃ v, e = .returned v ∧ Mx w' (newFrom w.heap.size) s.size (mThen s.size a b) v ∧ Below w.heap.size w w' := by
  obtain ⟨ga, capa, RA, rfl, ha1, ha2, hapa, hqa⟩ := ha.there
  obtain ⟨gb, capb, RB, rfl, hb1, hb2, hapb, hqb⟩ := hb.there
  have hma : capa ≤ 9223372036854775807 := by unfold maxLen at ha2; omega
  have hmb : capb ≤ 9223372036854775807 := by unfold maxLen at hb2; omega
  have HN := Hid.mk (l4None_any s hs w)
  have HPA := Hid.mk hapa
  have HPB := Hid.mk hapb
  have HQA0 := Hid.mk hqa
  have HQB0 := Hid.mk hqb
  clear ha hb ha1 ha2 hb1 hb2 hapa hapb hqa hqb
  go_enter Tryd.func68, Tryd.ntmps68
  go_wp2_with fail
  refine HN.out.mono ?_
  rintro e w1 ⟨v1, rfl, ⟨g, cap, R, rfl, hc1, hc2, hap, hq⟩, hbw⟩
  obtain ⟨n, hn⟩ : ∃ n, s.size = n := ⟨_, rfl⟩
  rw [hn] at HPA HPB HQA0 HQB0 hap hq hs hc1 ⊢
  have hcm : cap ≤ 9223372036854775807 := by unfold maxLen at hc2; omega
  have HSN := Hid.mk hn
  have HC := Hid.mk (And.intro hc1 hc2)
  have HA := Hid.mk hap
  have HQ : Hid (Mq w1 g R n (thenUpto n a b 0 0 0)) := hq.ext (fun i k _ _ => thenUpto_start n a b i k)
  have HB0 := Hid.mk hbw
  have HOA : Hid (∀ wz, Below w.heap.size w wz → Mq wz ga RA n a) := fun wz h => HQA0.out.grow h
  have HOB : Hid (∀ wz, Below w.heap.size w wz → Mq wz gb RB n b) := fun wz h => HQB0.out.grow h
  clear hq hap hc1 hc2 hbw HN hn HQA0 HQB0
  go_wp2
  go_loopw [8] (fun i wr => ∃ (k : Nat), k ≤ n + 1 ∧ i = .int .i64 k ∧ Hid (Mq wr g R n (thenUpto n a b k k k)) ∧ Hid (Below w.heap.size w wr)) (fun i _ => n + 1 - (intOf i).toNat)
  case atStart => exact ⟨0, Nat.zero_le _, rfl, HQ, HB0⟩
  case round =>
    obtain ⟨i, hi, rfl, HQr, HBr⟩ := hrel
    clear HQ HB0
    by_cases hin : (i : Int) < (n : Int) + 1
    · have hil : i ≤ n := by omega
      go_wp2
      go_loopw [9] (fun q wr => ∃ (k : Nat), i ≤ k ∧ k ≤ n + 1 ∧ q = .int .i64 k ∧ Hid (Mq wr g R n (thenUpto n a b i k k)) ∧ Hid (Below w.heap.size w wr)) (fun q _ => n + 1 - (intOf q).toNat)
      case atStart => exact ⟨i, Nat.le_refl _, by omega, rfl, HQr, HBr⟩
      case round =>
        obtain ⟨k, hik, hk, rfl, HQs, HBs⟩ := hrel
        clear HQr HBr
        by_cases hkn : (k : Int) < (n : Int) + 1
        · have hkl : k ≤ n := by omega
          go_wp2
          go_loopw [10] (fun q wr => ∃ (j : Nat), k ≤ j ∧ j ≤ n + 1 ∧ (a i k = false → j = k) ∧ q = .int .i64 j ∧ Hid (Mq wr g R n (thenUpto n a b i k j)) ∧ Hid (Below w.heap.size w wr)) (fun q _ => n + 1 - (intOf q).toNat)
          case atStart => exact ⟨k, Nat.le_refl _, by omega, fun _ => rfl, rfl, HQs, HBs⟩
          case round =>
            obtain ⟨j, hkj, hj, hjk, rfl, HQt, HBt⟩ := hrel
            clear HQs HBs
            have HJK := Hid.mk hjk
            clear hjk
            by_cases hjn : (j : Int) < (n : Int) + 1
            · have hjl : j ≤ n := by omega
              have o3 := (HOA.out wr HBt.out).outer i hil
              have c3 := (HOA.out wr HBt.out).cell hil hkl
              cases hak : a i k with
              | true =>
                rw [hak] at c3
                have HAK := Hid.mk hak
                have o1 := HQt.out.outer i hil
                have c1 := HQt.out.cell hil hjl
                have f1 := HQt.out.frozen hil j
                have o2 := (HOB.out wr HBt.out).outer k hkl
                have c2 := (HOB.out wr HBt.out).cell hkl hjl
                have HST := Hid.mk (fun (wz : World) (q : Bool) (hb : q = (thenUpto n a b i k j i j || b k j)) => show Mq (wz.setCell ⟨R i, j, none⟩ (.bool q)) g R n (thenUpto n a b i k (j + 1)) ∨ ¬ Mq wz g R n (thenUpto n a b i k j) from by
                  by_cases hq : Mq wz g R n (thenUpto n a b i k j)
                  · left; rw [hb]; exact (hq.set HA.out hil j _).ext (fun x y _ _ => thenUpto_step n a b i k j x y hik hkj hkl hak)
                  · exact Or.inr hq)
                obtain ⟨b1, hb1⟩ : ∃ q, thenUpto n a b i k j i j = q := ⟨_, rfl⟩
                obtain ⟨b2, hb2⟩ : ∃ q, b k j = q := ⟨_, rfl⟩
                rw [hb1] at c1 HST
                rw [hb2] at c2 HST
                have SS : Hid (∀ b, b < wr.heap.size → b ≠ R i → wr.drew.heap[b]? = wr.heap[b]?) := fun b _ _ => rfl
                have hgl := HQt.out.ltg
                have hgs := (HOB.out wr HBt.out).ltg
                have hrs := (HOB.out wr HBt.out).lt hkl
                have hgne : g ≠ R i := (HA.out.ne i hil).symm
                have hRi : w.heap.size ≤ R i := HA.out.br i hil
                have hgsne : gb ≠ R i := by have := HPB.out.bg.2; omega
                have hrsne : RB k ≠ R i := by have := (HPB.out.br k hkl).2; omega
                clear hak hb1 hb2
                cases b1 with
                | true =>
                    have HQn := Hid.mk ((HST.out wr.drew true rfl).resolve_right (fun h => h (HQt.out.grow (Below.drewSelf _ _ 1))))
                    have HBn : Hid (Below w.heap.size w (wr.drew.setCell ⟨R i, j, none⟩ (.bool true))) := (HBt.out.drew).setCell (p := ⟨R i, j, none⟩) (HA.out.br i hil) _
                    clear HST HQt HBt
                    go_wp2
                    refine wp_region_held_drew (S := fun w' => ∀ b, b < wr.heap.size → b ≠ R i → w'.heap[b]? = wr.heap[b]?) (by kernel_rfl) SS.out (fun _ => ?_)
                    refine takeHD (i := 0) (v := .slice (some ⟨g, 0, none⟩) (n + 1) cap) (some 42) rfl rfl (by kernel_rfl) (by kernel_rfl) (by kernel_rfl) (fun _ _ _ h => h) (Or.inl ⟨by kernel_rfl, fun w' hw => ?_⟩) SS.out ?_
                    · kernel_rfl
                    simp only [Act.put, List.setIfInBounds_toArray]
                    refine takeHD (i := 1) (v := .int .i64 i) (some 43) rfl rfl (by kernel_rfl) (by kernel_rfl) (by kernel_rfl) (fun _ _ _ h => h) (Or.inl ⟨by kernel_rfl, fun w' hw => ?_⟩) SS.out ?_
                    · kernel_rfl
                    simp only [Act.put, List.setIfInBounds_toArray]
                    refine takeHD (i := 2) (v := .pointer (some ⟨g, i, none⟩)) (some 44) rfl rfl (by kernel_rfl) (by kernel_rfl) (by kernel_rfl) (fun _ _ _ h => h) (Or.inl ⟨by kernel_rfl, fun w' hw => ?_⟩) SS.out ?_
                    · first | (go_simp; done) | (go_simp; intro h; omega) | (go_simp; rw [IntKind.wrap_i64]; omega)
                    simp only [Act.put, List.setIfInBounds_toArray]
                    refine takeHD (i := 3) (v := .slice (some ⟨R i, 0, none⟩) (n + 1) (n + 1)) (some 45) rfl rfl (by kernel_rfl) (by kernel_rfl) (by kernel_rfl) (fun _ _ _ h => h) (Or.inl ⟨by kernel_rfl, fun w' hw => ?_⟩) SS.out ?_
                    · have e := World.cell?_of_block (a := ⟨g, i, none⟩) (hw _ hgl hgne); rw [o1] at e; go_simp
                    simp only [Act.put, List.setIfInBounds_toArray]
                    refine takeHD (i := 4) (v := .int .i64 j) (some 46) rfl rfl (by kernel_rfl) (by kernel_rfl) (by kernel_rfl) (fun _ _ _ h => h) (Or.inl ⟨by kernel_rfl, fun w' hw => ?_⟩) SS.out ?_
                    · kernel_rfl
                    simp only [Act.put, List.setIfInBounds_toArray]
                    refine takeHD (i := 5) (v := .slice (some ⟨g, 0, none⟩) (n + 1) cap) (some 47) rfl rfl (by kernel_rfl) (by kernel_rfl) (by kernel_rfl) (fun _ _ _ h => h) (Or.inl ⟨by kernel_rfl, fun w' hw => ?_⟩) SS.out ?_
                    · kernel_rfl
                    simp only [Act.put, List.setIfInBounds_toArray]
                    refine takeHD (i := 6) (v := .int .i64 i) (some 48) rfl rfl (by kernel_rfl) (by kernel_rfl) (by kernel_rfl) (fun _ _ _ h => h) (Or.inl ⟨by kernel_rfl, fun w' hw => ?_⟩) SS.out ?_
                    · kernel_rfl
                    simp only [Act.put, List.setIfInBounds_toArray]
                    refine takeHD (i := 7) (v := .pointer (some ⟨g, i, none⟩)) (some 49) rfl rfl (by kernel_rfl) (by kernel_rfl) (by kernel_rfl) (fun _ _ _ h => h) (Or.inl ⟨by kernel_rfl, fun w' hw => ?_⟩) SS.out ?_
                    · first | (go_simp; done) | (go_simp; intro h; omega) | (go_simp; rw [IntKind.wrap_i64]; omega)
                    simp only [Act.put, List.setIfInBounds_toArray]
                    refine takeHD (i := 8) (v := .slice (some ⟨R i, 0, none⟩) (n + 1) (n + 1)) (some 50) rfl rfl (by kernel_rfl) (by kernel_rfl) (by kernel_rfl) (fun _ _ _ h => h) (Or.inl ⟨by kernel_rfl, fun w' hw => ?_⟩) SS.out ?_
                    · have e := World.cell?_of_block (a := ⟨g, i, none⟩) (hw _ hgl hgne); rw [o1] at e; go_simp
                    simp only [Act.put, List.setIfInBounds_toArray]
                    refine takeHD (i := 9) (v := .int .i64 j) (some 51) rfl rfl (by kernel_rfl) (by kernel_rfl) (by kernel_rfl) (fun _ _ _ h => h) (Or.inl ⟨by kernel_rfl, fun w' hw => ?_⟩) SS.out ?_
                    · kernel_rfl
                    simp only [Act.put, List.setIfInBounds_toArray]
                    refine takeHD (i := 10) (v := .pointer (some ⟨R i, j, none⟩)) (some 52) rfl rfl (by kernel_rfl) (by kernel_rfl) (by kernel_rfl) (fun _ _ _ h => h) (Or.inl ⟨by kernel_rfl, fun w' hw => ?_⟩) SS.out ?_
                    · first | (go_simp; done) | (go_simp; intro h; omega) | (go_simp; rw [IntKind.wrap_i64]; omega)
                    simp only [Act.put, List.setIfInBounds_toArray]
                    refine wpAnyH_ready (rs := [11]) (by kernel_rfl) (by simp) ?_
                    refine AllReadyH.cons rfl (fun K hK => ?_) AllReadyH.nil
                    rw [if_pos (by kernel_rfl)]
                    go_wp2_with fail
                    refine hK.out _ _ SS.out (fun _ => ?_)
                    clear hK K
                    refine takeHD (i := 12) (v := .bool true) (some 54) rfl rfl (by kernel_rfl) (by kernel_rfl) (by kernel_rfl) (fun _ _ _ h => h) (Or.inl ⟨by kernel_rfl, fun w' hw => ?_⟩) SS.out ?_
                    · kernel_rfl
                    simp only [Act.put, List.setIfInBounds_toArray]
                    refine takeHD (i := 13) (v := undef) (some 55) rfl rfl (by kernel_rfl) (by kernel_rfl) (by kernel_rfl) (fun _ _ _ h => h) (Or.inr ⟨by kernel_rfl, rfl⟩) SS.out ?_
                    simp only [Act.put, List.setIfInBounds_toArray]
                    refine takeHD (i := 14) (v := undef) (some 56) rfl rfl (by kernel_rfl) (by kernel_rfl) (by kernel_rfl) (fun _ _ _ h => h) (Or.inr ⟨by kernel_rfl, rfl⟩) SS.out ?_
                    simp only [Act.put, List.setIfInBounds_toArray]
                    refine takeHD (i := 15) (v := undef) (some 57) rfl rfl (by kernel_rfl) (by kernel_rfl) (by kernel_rfl) (fun _ _ _ h => h) (Or.inr ⟨by kernel_rfl, rfl⟩) SS.out ?_
                    simp only [Act.put, List.setIfInBounds_toArray]
                    refine takeHD (i := 16) (v := undef) (some 58) rfl rfl (by kernel_rfl) (by kernel_rfl) (by kernel_rfl) (fun _ _ _ h => h) (Or.inr ⟨by kernel_rfl, rfl⟩) SS.out ?_
                    simp only [Act.put, List.setIfInBounds_toArray]
                    refine takeHD (i := 17) (v := undef) (some 59) rfl rfl (by kernel_rfl) (by kernel_rfl) (by kernel_rfl) (fun _ _ _ h => h) (Or.inr ⟨by kernel_rfl, rfl⟩) SS.out ?_
                    simp only [Act.put, List.setIfInBounds_toArray]
                    refine takeHD (i := 18) (v := undef) (some 60) rfl rfl (by kernel_rfl) (by kernel_rfl) (by kernel_rfl) (fun _ _ _ h => h) (Or.inr ⟨by kernel_rfl, rfl⟩) SS.out ?_
                    simp only [Act.put, List.setIfInBounds_toArray]
                    refine takeHD (i := 19) (v := undef) (some 61) rfl rfl (by kernel_rfl) (by kernel_rfl) (by kernel_rfl) (fun _ _ _ h => h) (Or.inr ⟨by kernel_rfl, rfl⟩) SS.out ?_
                    simp only [Act.put, List.setIfInBounds_toArray]
                    refine takeHD (i := 20) (v := .bool true) (some 62) rfl rfl (by kernel_rfl) (by kernel_rfl) (by kernel_rfl) (fun _ _ _ h => h) (Or.inl ⟨by kernel_rfl, fun w' hw => ?_⟩) SS.out ?_
                    · kernel_rfl
                    simp only [Act.put, List.setIfInBounds_toArray]
                    refine takeHD (i := 21) (v := .pointer (some ⟨R i, j, none⟩)) (some 63) rfl rfl (by kernel_rfl) (by kernel_rfl) (by kernel_rfl) (fun _ _ _ h => h) (Or.inl ⟨by kernel_rfl, fun w' hw => ?_⟩) SS.out ?_
                    · first | (go_simp; done) | (go_simp; intro h; omega) | (go_simp; rw [IntKind.wrap_i64]; omega)
                    simp only [Act.put, List.setIfInBounds_toArray]
                    refine wpAnyH_ready (rs := [22]) (by kernel_rfl) (by simp) ?_
                    refine AllReadyH.cons rfl (fun K hK => ?_) AllReadyH.nil
                    rw [if_pos (by kernel_rfl)]
                    go_wp2_with fail
                    refine hK.out _ _ (fun b hb hne => heap_setCell_other wr.drew ⟨R i, j, none⟩ b _ hne) (fun _ => ?_)
                    clear hK K
                    refine wpAnyH_done (by kernel_rfl) ?_ _
                    go_wp2
                    go_roundw
                    case rel => exact ⟨j + 1, by omega, by omega, (fun h => by first | (rw [HAK.out] at h; cases h) | cases h), by go_num, HQn, HBn⟩
                    case measure => simp [intOf]; omega
                | false =>
                    have HQn := Hid.mk ((HST.out wr.drew b2 rfl).resolve_right (fun h => h (HQt.out.grow (Below.drewSelf _ _ 1))))
                    have HBn : Hid (Below w.heap.size w (wr.drew.setCell ⟨R i, j, none⟩ (.bool b2))) := (HBt.out.drew).setCell (p := ⟨R i, j, none⟩) (HA.out.br i hil) _
                    clear HST HQt HBt
                    go_wp2
                    refine wp_region_held_drew (S := fun w' => ∀ b, b < wr.heap.size → b ≠ R i → w'.heap[b]? = wr.heap[b]?) (by kernel_rfl) SS.out (fun _ => ?_)
                    refine takeHD (i := 0) (v := .slice (some ⟨g, 0, none⟩) (n + 1) cap) (some 42) rfl rfl (by kernel_rfl) (by kernel_rfl) (by kernel_rfl) (fun _ _ _ h => h) (Or.inl ⟨by kernel_rfl, fun w' hw => ?_⟩) SS.out ?_
                    · kernel_rfl
                    simp only [Act.put, List.setIfInBounds_toArray]
                    refine takeHD (i := 1) (v := .int .i64 i) (some 43) rfl rfl (by kernel_rfl) (by kernel_rfl) (by kernel_rfl) (fun _ _ _ h => h) (Or.inl ⟨by kernel_rfl, fun w' hw => ?_⟩) SS.out ?_
                    · kernel_rfl
                    simp only [Act.put, List.setIfInBounds_toArray]
                    refine takeHD (i := 2) (v := .pointer (some ⟨g, i, none⟩)) (some 44) rfl rfl (by kernel_rfl) (by kernel_rfl) (by kernel_rfl) (fun _ _ _ h => h) (Or.inl ⟨by kernel_rfl, fun w' hw => ?_⟩) SS.out ?_
                    · first | (go_simp; done) | (go_simp; intro h; omega) | (go_simp; rw [IntKind.wrap_i64]; omega)
                    simp only [Act.put, List.setIfInBounds_toArray]
                    refine takeHD (i := 3) (v := .slice (some ⟨R i, 0, none⟩) (n + 1) (n + 1)) (some 45) rfl rfl (by kernel_rfl) (by kernel_rfl) (by kernel_rfl) (fun _ _ _ h => h) (Or.inl ⟨by kernel_rfl, fun w' hw => ?_⟩) SS.out ?_
                    · have e := World.cell?_of_block (a := ⟨g, i, none⟩) (hw _ hgl hgne); rw [o1] at e; go_simp
                    simp only [Act.put, List.setIfInBounds_toArray]
                    refine takeHD (i := 4) (v := .int .i64 j) (some 46) rfl rfl (by kernel_rfl) (by kernel_rfl) (by kernel_rfl) (fun _ _ _ h => h) (Or.inl ⟨by kernel_rfl, fun w' hw => ?_⟩) SS.out ?_
                    · kernel_rfl
                    simp only [Act.put, List.setIfInBounds_toArray]
                    refine takeHD (i := 5) (v := .slice (some ⟨g, 0, none⟩) (n + 1) cap) (some 47) rfl rfl (by kernel_rfl) (by kernel_rfl) (by kernel_rfl) (fun _ _ _ h => h) (Or.inl ⟨by kernel_rfl, fun w' hw => ?_⟩) SS.out ?_
                    · kernel_rfl
                    simp only [Act.put, List.setIfInBounds_toArray]
                    refine takeHD (i := 6) (v := .int .i64 i) (some 48) rfl rfl (by kernel_rfl) (by kernel_rfl) (by kernel_rfl) (fun _ _ _ h => h) (Or.inl ⟨by kernel_rfl, fun w' hw => ?_⟩) SS.out ?_
                    · kernel_rfl
                    simp only [Act.put, List.setIfInBounds_toArray]
                    refine takeHD (i := 7) (v := .pointer (some ⟨g, i, none⟩)) (some 49) rfl rfl (by kernel_rfl) (by kernel_rfl) (by kernel_rfl) (fun _ _ _ h => h) (Or.inl ⟨by kernel_rfl, fun w' hw => ?_⟩) SS.out ?_
                    · first | (go_simp; done) | (go_simp; intro h; omega) | (go_simp; rw [IntKind.wrap_i64]; omega)
                    simp only [Act.put, List.setIfInBounds_toArray]
                    refine takeHD (i := 8) (v := .slice (some ⟨R i, 0, none⟩) (n + 1) (n + 1)) (some 50) rfl rfl (by kernel_rfl) (by kernel_rfl) (by kernel_rfl) (fun _ _ _ h => h) (Or.inl ⟨by kernel_rfl, fun w' hw => ?_⟩) SS.out ?_
                    · have e := World.cell?_of_block (a := ⟨g, i, none⟩) (hw _ hgl hgne); rw [o1] at e; go_simp
                    simp only [Act.put, List.setIfInBounds_toArray]
                    refine takeHD (i := 9) (v := .int .i64 j) (some 51) rfl rfl (by kernel_rfl) (by kernel_rfl) (by kernel_rfl) (fun _ _ _ h => h) (Or.inl ⟨by kernel_rfl, fun w' hw => ?_⟩) SS.out ?_
                    · kernel_rfl
                    simp only [Act.put, List.setIfInBounds_toArray]
                    refine takeHD (i := 10) (v := .pointer (some ⟨R i, j, none⟩)) (some 52) rfl rfl (by kernel_rfl) (by kernel_rfl) (by kernel_rfl) (fun _ _ _ h => h) (Or.inl ⟨by kernel_rfl, fun w' hw => ?_⟩) SS.out ?_
                    · first | (go_simp; done) | (go_simp; intro h; omega) | (go_simp; rw [IntKind.wrap_i64]; omega)
                    simp only [Act.put, List.setIfInBounds_toArray]
                    refine wpAnyH_ready (rs := [11]) (by kernel_rfl) (by simp) ?_
                    refine AllReadyH.cons rfl (fun K hK => ?_) AllReadyH.nil
                    rw [if_pos (by kernel_rfl)]
                    go_wp2_with fail
                    refine hK.out _ _ SS.out (fun _ => ?_)
                    clear hK K
                    refine takeHD (i := 12) (v := .bool false) (some 54) rfl rfl (by kernel_rfl) (by kernel_rfl) (by kernel_rfl) (fun _ _ _ h => h) (Or.inl ⟨by kernel_rfl, fun w' hw => ?_⟩) SS.out ?_
                    · kernel_rfl
                    simp only [Act.put, List.setIfInBounds_toArray]
                    refine takeHD (i := 13) (v := .slice (some ⟨gb, 0, none⟩) (n + 1) capb) (some 55) rfl rfl (by kernel_rfl) (by kernel_rfl) (by kernel_rfl) (fun _ _ _ h => h) (Or.inl ⟨by kernel_rfl, fun w' hw => ?_⟩) SS.out ?_
                    · kernel_rfl
                    simp only [Act.put, List.setIfInBounds_toArray]
                    refine takeHD (i := 14) (v := .int .i64 k) (some 56) rfl rfl (by kernel_rfl) (by kernel_rfl) (by kernel_rfl) (fun _ _ _ h => h) (Or.inl ⟨by kernel_rfl, fun w' hw => ?_⟩) SS.out ?_
                    · kernel_rfl
                    simp only [Act.put, List.setIfInBounds_toArray]
                    refine takeHD (i := 15) (v := .pointer (some ⟨gb, k, none⟩)) (some 57) rfl rfl (by kernel_rfl) (by kernel_rfl) (by kernel_rfl) (fun _ _ _ h => h) (Or.inl ⟨by kernel_rfl, fun w' hw => ?_⟩) SS.out ?_
                    · first | (go_simp; done) | (go_simp; intro h; omega) | (go_simp; rw [IntKind.wrap_i64]; omega)
                    simp only [Act.put, List.setIfInBounds_toArray]
                    refine takeHD (i := 16) (v := .slice (some ⟨RB k, 0, none⟩) (n + 1) (n + 1)) (some 58) rfl rfl (by kernel_rfl) (by kernel_rfl) (by kernel_rfl) (fun _ _ _ h => h) (Or.inl ⟨by kernel_rfl, fun w' hw => ?_⟩) SS.out ?_
                    · have e := World.cell?_of_block (a := ⟨gb, k, none⟩) (hw _ hgs hgsne); rw [o2] at e; go_simp
                    simp only [Act.put, List.setIfInBounds_toArray]
                    refine takeHD (i := 17) (v := .int .i64 j) (some 59) rfl rfl (by kernel_rfl) (by kernel_rfl) (by kernel_rfl) (fun _ _ _ h => h) (Or.inl ⟨by kernel_rfl, fun w' hw => ?_⟩) SS.out ?_
                    · kernel_rfl
                    simp only [Act.put, List.setIfInBounds_toArray]
                    refine takeHD (i := 18) (v := .pointer (some ⟨RB k, j, none⟩)) (some 60) rfl rfl (by kernel_rfl) (by kernel_rfl) (by kernel_rfl) (fun _ _ _ h => h) (Or.inl ⟨by kernel_rfl, fun w' hw => ?_⟩) SS.out ?_
                    · first | (go_simp; done) | (go_simp; intro h; omega) | (go_simp; rw [IntKind.wrap_i64]; omega)
                    simp only [Act.put, List.setIfInBounds_toArray]
                    refine takeHD (i := 19) (v := .bool b2) (some 61) rfl rfl (by kernel_rfl) (by kernel_rfl) (by kernel_rfl) (fun _ _ _ h => h) (Or.inl ⟨by kernel_rfl, fun w' hw => ?_⟩) SS.out ?_
                    · have e := World.cell?_of_block (a := ⟨RB k, j, none⟩) (hw _ hrs hrsne); rw [c2] at e; go_simp
                    simp only [Act.put, List.setIfInBounds_toArray]
                    refine takeHD (i := 20) (v := .bool b2) (some 62) rfl rfl (by kernel_rfl) (by kernel_rfl) (by kernel_rfl) (fun _ _ _ h => h) (Or.inl ⟨by kernel_rfl, fun w' hw => ?_⟩) SS.out ?_
                    · kernel_rfl
                    simp only [Act.put, List.setIfInBounds_toArray]
                    refine takeHD (i := 21) (v := .pointer (some ⟨R i, j, none⟩)) (some 63) rfl rfl (by kernel_rfl) (by kernel_rfl) (by kernel_rfl) (fun _ _ _ h => h) (Or.inl ⟨by kernel_rfl, fun w' hw => ?_⟩) SS.out ?_
                    · first | (go_simp; done) | (go_simp; intro h; omega) | (go_simp; rw [IntKind.wrap_i64]; omega)
                    simp only [Act.put, List.setIfInBounds_toArray]
                    refine wpAnyH_ready (rs := [22]) (by kernel_rfl) (by simp) ?_
                    refine AllReadyH.cons rfl (fun K hK => ?_) AllReadyH.nil
                    rw [if_pos (by kernel_rfl)]
                    go_wp2_with fail
                    refine hK.out _ _ (fun b hb hne => heap_setCell_other wr.drew ⟨R i, j, none⟩ b _ hne) (fun _ => ?_)
                    clear hK K
                    refine wpAnyH_done (by kernel_rfl) ?_ _
                    go_wp2
                    go_roundw
                    case rel => exact ⟨j + 1, by omega, by omega, (fun h => by first | (rw [HAK.out] at h; cases h) | cases h), by go_num, HQn, HBn⟩
                    case measure => simp [intOf]; omega
              | false =>
                rw [hak] at c3
                obtain rfl := HJK.out hak
                have HQn : Hid (Mq wr g R n (thenUpto n a b i (j + 1) (j + 1))) := HQt.out.ext (fun x y _ _ => thenUpto_none n a b i j x y hak)
                clear HQt HJK hak
                go_wp2
                go_roundw
                case rel => exact ⟨j + 1, by omega, by omega, by go_num, HQn, HBt⟩
                case measure => simp [intOf]; omega
            · have hje : j = n + 1 := by omega
              subst hje
              have HQn : Hid (Mq wr g R n (thenUpto n a b i (k + 1) (k + 1))) := HQt.out.ext (fun x y _ hy => thenUpto_mid n a b i k x y hy)
              clear HQt
              go_wp2
              go_roundw
              case rel => exact ⟨k + 1, by omega, by omega, by go_num, HQn, HBt⟩
              case measure => simp [intOf]; omega
        · have hke : k = n + 1 := by omega
          subst hke
          have HQn : Hid (Mq wr g R n (thenUpto n a b (i + 1) (i + 1) (i + 1))) := HQs.out.ext (fun x y _ _ => thenUpto_row n a b i x y)
          clear HQs
          go_wp2
          go_roundw
          case rel => exact ⟨i + 1, by omega, by go_num, HQn, HBs⟩
          case measure => simp [intOf]; omega
    · have hie : i = n + 1 := by omega
      subst hie
      have HQn : Hid (Mq wr g R n (mThen n a b)) := HQr.out.ext (fun x y hx _ => thenUpto_done n a b x y hx)
      clear HQr
      go_wp2
      go_ret
      exact ⟨_, rfl, by rw [HSN.out]; exact ⟨g, cap, R, rfl, HC.out.1, HC.out.2, HA.out, HQn.out⟩, HBr.out⟩
end Go.Proofs.YthifleacfhijnaaDoor
