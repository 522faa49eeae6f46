/- The model's matrices: as often as may be. -/
import Derived.Test.YthifleacfhijnaaDoorMatThenM
import Derived.Test.YthifleacfhijnaaDoorMatAdd
namespace Go.Proofs.YthifleacfhijnaaDoor
open Go.RowKit
set_option maxRecDepth 8000

/-- What is there ahead of the row below c. -/
def headM (n : Nat) (a : Mat) : Nat → Mat
  | 0 => mMany n a
  | i + 1 => manyUpto n a i (i + 1) (i + 1)

theorem headM_next (n : Nat) (a : Mat) (i x y : Nat) (hy : y ≤ n) : manyUpto n a i (n + 1) (n + 1) x y = headM n a i x y := by
  cases i with
  | zero =>
    show _ = mMany n a x y
    by_cases hx : x = 0
    · subst hx; exact manyUpto_full n a 0 y hy
    · exact manyUpto_behind _ _ _ _ _ _ _ (by omega)
  | succ i => exact manyUpto_row n a i x y hy

set_option maxHeartbeats 2000000 in
theorem l4Many_any (s : ByteArray) (hs : s.size ≤ 200) (B : Nat → Prop) (a : Mat) (va : Value) (w : World) (ha : Mx w B s.size a va) :
    Calls Tryd.prog 71 #[va, .string s] w fun e w' => ∃ v, e = .returned v ∧ Mx w' (newFrom w.heap.size) s.size (mMany s.size a) v ∧ Below w.heap.size w w' := by
  obtain ⟨ga, capa, RA, rfl, ha1, ha2, hapa, hqa⟩ := ha.there
  have hma : capa ≤ 9223372036854775807 := by unfold maxLen at ha2; omega
  have HN := Hid.mk (l4Same_any s hs w)
  have HPA := Hid.mk hapa
  have HQA0 := Hid.mk hqa
  clear ha ha1 ha2 hapa hqa
  go_enter Tryd.func71, Tryd.ntmps71
  go_wp2_with fail
  refine HN.out.mono ?_
  rintro e w1 ⟨v1, rfl, ⟨g, cap, R, rfl, hc1, hc2, hap, hq⟩, hbw⟩
  obtain ⟨n, hn⟩ : ∃ n, s.size = n := ⟨_, rfl⟩
  rw [hn] at HPA HQA0 hap hq hs hc1 ⊢
  have hcm : cap ≤ 9223372036854775807 := by unfold maxLen at hc2; omega
  have HSN := Hid.mk hn
  have HC := Hid.mk (And.intro hc1 hc2)
  have HA := Hid.mk hap
  have HQ : Hid (Mq w1 g R n (headM n a (n + 1))) := hq.ext (fun i k hi hk => manyUpto_start n a i k hi hk)
  have HB0 := Hid.mk hbw
  have HOA : Hid (∀ wz, Below w.heap.size w wz → Mq wz ga RA n a) := fun wz h => HQA0.out.grow h
  clear hq hap hc1 hc2 hbw HN hn HQA0
  go_wp2
  go_loopw [6] (fun i wr => ∃ (c : Nat), c ≤ n + 1 ∧ i = .int .i64 ((c : Int) - 1) ∧ Hid (Mq wr g R n (headM n a c)) ∧ Hid (Below w.heap.size w wr)) (fun i _ => (intOf i + 1).toNat)
  case atStart => exact ⟨n + 1, Nat.le_refl _, by go_num, HQ, HB0⟩
  case round =>
    obtain ⟨c, hc, rfl, HQr, HBr⟩ := hrel
    clear HQ HB0
    cases c with
    | succ i =>
      have hil : i ≤ n := by omega
      have hi0 : (((i + 1 : Nat) : Int) - 1) = (i : Int) := by omega
      rw [hi0]
      have hi1 : (0 : Int) ≤ (i : Int) := by omega
      clear hi0
      go_wp2
      go_loopw [7] (fun q wr => ∃ (k : Nat), i < k ∧ k ≤ n + 1 ∧ q = .int .i64 k ∧ Hid (Mq wr g R n (manyUpto n a i k k)) ∧ Hid (Below w.heap.size w wr)) (fun q _ => n + 1 - (intOf q).toNat)
      case atStart => exact ⟨i + 1, by omega, by omega, by go_num, HQr, HBr⟩
      case round =>
        obtain ⟨k, hik, hk, rfl, HQs, HBs⟩ := hrel
        clear HQr HBr
        by_cases hkn : (k : Int) < (n : Int) + 1
        · have hkl : k ≤ n := by omega
          go_wp2
          go_loopw [8] (fun q wr => ∃ (j : Nat), k ≤ j ∧ j ≤ n + 1 ∧ (a i k = false → j = k) ∧ q = .int .i64 j ∧ Hid (Mq wr g R n (manyUpto n a i k j)) ∧ Hid (Below w.heap.size w wr)) (fun q _ => n + 1 - (intOf q).toNat)
          case atStart => exact ⟨k, Nat.le_refl _, by omega, fun _ => rfl, rfl, HQs, HBs⟩
          case round =>
            obtain ⟨j, hkj, hj, hjk, rfl, HQt, HBt⟩ := hrel
            clear HQs HBs
            have HJK := Hid.mk hjk
            clear hjk
            by_cases hjn : (j : Int) < (n : Int) + 1
            · have hjl : j ≤ n := by omega
              have o3 := (HOA.out wr HBt.out).outer i hil
              have c3 := (HOA.out wr HBt.out).cell hil hkl
              cases hak : a i k with
              | true =>
                rw [hak] at c3
                have HAK := Hid.mk hak
                have o1 := HQt.out.outer i hil
                have c1 := HQt.out.cell hil hjl
                have f1 := HQt.out.frozen hil j
                have o2 := HQt.out.outer k hkl
                have c2 := HQt.out.cell hkl hjl
                rw [manyUpto_behind n a i k j k j hik] at c2
                have HST := Hid.mk (fun (wz : World) (q : Bool) (hb : q = (manyUpto n a i k j i j || mMany n a k j)) => show Mq (wz.setCell ⟨R i, j, none⟩ (.bool q)) g R n (manyUpto n a i k (j + 1)) ∨ ¬ Mq wz g R n (manyUpto n a i k j) from by
                  by_cases hq : Mq wz g R n (manyUpto n a i k j)
                  · left; rw [hb]; exact (hq.set HA.out hil j _).ext (fun x y _ _ => manyUpto_step n a i k j x y hik hkj hkl hak)
                  · exact Or.inr hq)
                obtain ⟨b1, hb1⟩ : ∃ q, manyUpto n a i k j i j = q := ⟨_, rfl⟩
                obtain ⟨b2, hb2⟩ : ∃ q, mMany n a k j = q := ⟨_, rfl⟩
                rw [hb1] at c1 HST
                rw [hb2] at c2 HST
                have SS : Hid (∀ b, b < wr.heap.size → b ≠ R i → wr.drew.heap[b]? = wr.heap[b]?) := fun b _ _ => rfl
                have hgl := HQt.out.ltg
                have hgs := HQt.out.ltg
                have hrs := HQt.out.lt hkl
                have hgne : g ≠ R i := (HA.out.ne i hil).symm
                have hgsne : g ≠ R i := hgne
                have hrsne : R k ≠ R i := fun e => by have := HA.out.inj k i hkl hil e; omega
                clear hak hb1 hb2
                cases b1 with
                | true =>
                    have HQn := Hid.mk ((HST.out wr.drew true rfl).resolve_right (fun h => h (HQt.out.grow (Below.drewSelf _ _ 1))))
                    have HBn : Hid (Below w.heap.size w (wr.drew.setCell ⟨R i, j, none⟩ (.bool true))) := (HBt.out.drew).setCell (p := ⟨R i, j, none⟩) (HA.out.br i hil) _
                    clear HST HQt HBt
                    go_wp2
                    refine wp_region_held_drew (S := fun w' => ∀ b, b < wr.heap.size → b ≠ R i → w'.heap[b]? = wr.heap[b]?) (by kernel_rfl) SS.out (fun _ => ?_)
                    refine takeHD (i := 0) (v := .slice (some ⟨g, 0, none⟩) (n + 1) cap) (some 42) rfl rfl (by kernel_rfl) (by kernel_rfl) (by kernel_rfl) (fun _ _ _ h => h) (Or.inl ⟨by kernel_rfl, fun w' hw => ?_⟩) SS.out ?_
                    · kernel_rfl
                    simp only [Act.put, List.setIfInBounds_toArray]
                    refine takeHD (i := 1) (v := .int .i64 i) (some 43) rfl rfl (by kernel_rfl) (by kernel_rfl) (by kernel_rfl) (fun _ _ _ h => h) (Or.inl ⟨by kernel_rfl, fun w' hw => ?_⟩) SS.out ?_
                    · kernel_rfl
                    simp only [Act.put, List.setIfInBounds_toArray]
                    refine takeHD (i := 2) (v := .pointer (some ⟨g, i, none⟩)) (some 44) rfl rfl (by kernel_rfl) (by kernel_rfl) (by kernel_rfl) (fun _ _ _ h => h) (Or.inl ⟨by kernel_rfl, fun w' hw => ?_⟩) SS.out ?_
                    · first | (go_simp; done) | (go_simp; intro h; omega) | (go_simp; rw [IntKind.wrap_i64]; omega)
                    simp only [Act.put, List.setIfInBounds_toArray]
                    refine takeHD (i := 3) (v := .slice (some ⟨R i, 0, none⟩) (n + 1) (n + 1)) (some 45) rfl rfl (by kernel_rfl) (by kernel_rfl) (by kernel_rfl) (fun _ _ _ h => h) (Or.inl ⟨by kernel_rfl, fun w' hw => ?_⟩) SS.out ?_
                    · have e := World.cell?_of_block (a := ⟨g, i, none⟩) (hw _ hgl hgne); rw [o1] at e; go_simp
                    simp only [Act.put, List.setIfInBounds_toArray]
                    refine takeHD (i := 4) (v := .int .i64 j) (some 46) rfl rfl (by kernel_rfl) (by kernel_rfl) (by kernel_rfl) (fun _ _ _ h => h) (Or.inl ⟨by kernel_rfl, fun w' hw => ?_⟩) SS.out ?_
                    · kernel_rfl
                    simp only [Act.put, List.setIfInBounds_toArray]
                    refine takeHD (i := 5) (v := .slice (some ⟨g, 0, none⟩) (n + 1) cap) (some 47) rfl rfl (by kernel_rfl) (by kernel_rfl) (by kernel_rfl) (fun _ _ _ h => h) (Or.inl ⟨by kernel_rfl, fun w' hw => ?_⟩) SS.out ?_
                    · kernel_rfl
                    simp only [Act.put, List.setIfInBounds_toArray]
                    refine takeHD (i := 6) (v := .int .i64 i) (some 48) rfl rfl (by kernel_rfl) (by kernel_rfl) (by kernel_rfl) (fun _ _ _ h => h) (Or.inl ⟨by kernel_rfl, fun w' hw => ?_⟩) SS.out ?_
                    · kernel_rfl
                    simp only [Act.put, List.setIfInBounds_toArray]
                    refine takeHD (i := 7) (v := .pointer (some ⟨g, i, none⟩)) (some 49) rfl rfl (by kernel_rfl) (by kernel_rfl) (by kernel_rfl) (fun _ _ _ h => h) (Or.inl ⟨by kernel_rfl, fun w' hw => ?_⟩) SS.out ?_
                    · first | (go_simp; done) | (go_simp; intro h; omega) | (go_simp; rw [IntKind.wrap_i64]; omega)
                    simp only [Act.put, List.setIfInBounds_toArray]
                    refine takeHD (i := 8) (v := .slice (some ⟨R i, 0, none⟩) (n + 1) (n + 1)) (some 50) rfl rfl (by kernel_rfl) (by kernel_rfl) (by kernel_rfl) (fun _ _ _ h => h) (Or.inl ⟨by kernel_rfl, fun w' hw => ?_⟩) SS.out ?_
                    · have e := World.cell?_of_block (a := ⟨g, i, none⟩) (hw _ hgl hgne); rw [o1] at e; go_simp
                    simp only [Act.put, List.setIfInBounds_toArray]
                    refine takeHD (i := 9) (v := .int .i64 j) (some 51) rfl rfl (by kernel_rfl) (by kernel_rfl) (by kernel_rfl) (fun _ _ _ h => h) (Or.inl ⟨by kernel_rfl, fun w' hw => ?_⟩) SS.out ?_
                    · kernel_rfl
                    simp only [Act.put, List.setIfInBounds_toArray]
                    refine takeHD (i := 10) (v := .pointer (some ⟨R i, j, none⟩)) (some 52) rfl rfl (by kernel_rfl) (by kernel_rfl) (by kernel_rfl) (fun _ _ _ h => h) (Or.inl ⟨by kernel_rfl, fun w' hw => ?_⟩) SS.out ?_
                    · first | (go_simp; done) | (go_simp; intro h; omega) | (go_simp; rw [IntKind.wrap_i64]; omega)
                    simp only [Act.put, List.setIfInBounds_toArray]
                    refine wpAnyH_ready (rs := [11]) (by kernel_rfl) (by simp) ?_
                    refine AllReadyH.cons rfl (fun K hK => ?_) AllReadyH.nil
                    rw [if_pos (by kernel_rfl)]
                    go_wp2_with fail
                    refine hK.out _ _ SS.out (fun _ => ?_)
                    clear hK K
                    refine takeHD (i := 12) (v := .bool true) (some 54) rfl rfl (by kernel_rfl) (by kernel_rfl) (by kernel_rfl) (fun _ _ _ h => h) (Or.inl ⟨by kernel_rfl, fun w' hw => ?_⟩) SS.out ?_
                    · kernel_rfl
                    simp only [Act.put, List.setIfInBounds_toArray]
                    refine takeHD (i := 13) (v := undef) (some 55) rfl rfl (by kernel_rfl) (by kernel_rfl) (by kernel_rfl) (fun _ _ _ h => h) (Or.inr ⟨by kernel_rfl, rfl⟩) SS.out ?_
                    simp only [Act.put, List.setIfInBounds_toArray]
                    refine takeHD (i := 14) (v := undef) (some 56) rfl rfl (by kernel_rfl) (by kernel_rfl) (by kernel_rfl) (fun _ _ _ h => h) (Or.inr ⟨by kernel_rfl, rfl⟩) SS.out ?_
                    simp only [Act.put, List.setIfInBounds_toArray]
                    refine takeHD (i := 15) (v := undef) (some 57) rfl rfl (by kernel_rfl) (by kernel_rfl) (by kernel_rfl) (fun _ _ _ h => h) (Or.inr ⟨by kernel_rfl, rfl⟩) SS.out ?_
                    simp only [Act.put, List.setIfInBounds_toArray]
                    refine takeHD (i := 16) (v := undef) (some 58) rfl rfl (by kernel_rfl) (by kernel_rfl) (by kernel_rfl) (fun _ _ _ h => h) (Or.inr ⟨by kernel_rfl, rfl⟩) SS.out ?_
                    simp only [Act.put, List.setIfInBounds_toArray]
                    refine takeHD (i := 17) (v := undef) (some 59) rfl rfl (by kernel_rfl) (by kernel_rfl) (by kernel_rfl) (fun _ _ _ h => h) (Or.inr ⟨by kernel_rfl, rfl⟩) SS.out ?_
                    simp only [Act.put, List.setIfInBounds_toArray]
                    refine takeHD (i := 18) (v := undef) (some 60) rfl rfl (by kernel_rfl) (by kernel_rfl) (by kernel_rfl) (fun _ _ _ h => h) (Or.inr ⟨by kernel_rfl, rfl⟩) SS.out ?_
                    simp only [Act.put, List.setIfInBounds_toArray]
                    refine takeHD (i := 19) (v := undef) (some 61) rfl rfl (by kernel_rfl) (by kernel_rfl) (by kernel_rfl) (fun _ _ _ h => h) (Or.inr ⟨by kernel_rfl, rfl⟩) SS.out ?_
                    simp only [Act.put, List.setIfInBounds_toArray]
                    refine takeHD (i := 20) (v := .bool true) (some 62) rfl rfl (by kernel_rfl) (by kernel_rfl) (by kernel_rfl) (fun _ _ _ h => h) (Or.inl ⟨by kernel_rfl, fun w' hw => ?_⟩) SS.out ?_
                    · kernel_rfl
                    simp only [Act.put, List.setIfInBounds_toArray]
                    refine takeHD (i := 21) (v := .pointer (some ⟨R i, j, none⟩)) (some 63) rfl rfl (by kernel_rfl) (by kernel_rfl) (by kernel_rfl) (fun _ _ _ h => h) (Or.inl ⟨by kernel_rfl, fun w' hw => ?_⟩) SS.out ?_
                    · first | (go_simp; done) | (go_simp; intro h; omega) | (go_simp; rw [IntKind.wrap_i64]; omega)
                    simp only [Act.put, List.setIfInBounds_toArray]
                    refine wpAnyH_ready (rs := [22]) (by kernel_rfl) (by simp) ?_
                    refine AllReadyH.cons rfl (fun K hK => ?_) AllReadyH.nil
                    rw [if_pos (by kernel_rfl)]
                    go_wp2_with fail
                    refine hK.out _ _ (fun b hb hne => heap_setCell_other wr.drew ⟨R i, j, none⟩ b _ hne) (fun _ => ?_)
                    clear hK K
                    refine wpAnyH_done (by kernel_rfl) ?_ _
                    go_wp2
                    go_roundw
                    case rel => exact ⟨j + 1, by omega, by omega, (fun h => by first | (rw [HAK.out] at h; cases h) | cases h), by go_num, HQn, HBn⟩
                    case measure => simp [intOf]; omega
                | false =>
                    have HQn := Hid.mk ((HST.out wr.drew b2 rfl).resolve_right (fun h => h (HQt.out.grow (Below.drewSelf _ _ 1))))
                    have HBn : Hid (Below w.heap.size w (wr.drew.setCell ⟨R i, j, none⟩ (.bool b2))) := (HBt.out.drew).setCell (p := ⟨R i, j, none⟩) (HA.out.br i hil) _
                    clear HST HQt HBt
                    go_wp2
                    refine wp_region_held_drew (S := fun w' => ∀ b, b < wr.heap.size → b ≠ R i → w'.heap[b]? = wr.heap[b]?) (by kernel_rfl) SS.out (fun _ => ?_)
                    refine takeHD (i := 0) (v := .slice (some ⟨g, 0, none⟩) (n + 1) cap) (some 42) rfl rfl (by kernel_rfl) (by kernel_rfl) (by kernel_rfl) (fun _ _ _ h => h) (Or.inl ⟨by kernel_rfl, fun w' hw => ?_⟩) SS.out ?_
                    · kernel_rfl
                    simp only [Act.put, List.setIfInBounds_toArray]
                    refine takeHD (i := 1) (v := .int .i64 i) (some 43) rfl rfl (by kernel_rfl) (by kernel_rfl) (by kernel_rfl) (fun _ _ _ h => h) (Or.inl ⟨by kernel_rfl, fun w' hw => ?_⟩) SS.out ?_
                    · kernel_rfl
                    simp only [Act.put, List.setIfInBounds_toArray]
                    refine takeHD (i := 2) (v := .pointer (some ⟨g, i, none⟩)) (some 44) rfl rfl (by kernel_rfl) (by kernel_rfl) (by kernel_rfl) (fun _ _ _ h => h) (Or.inl ⟨by kernel_rfl, fun w' hw => ?_⟩) SS.out ?_
                    · first | (go_simp; done) | (go_simp; intro h; omega) | (go_simp; rw [IntKind.wrap_i64]; omega)
                    simp only [Act.put, List.setIfInBounds_toArray]
                    refine takeHD (i := 3) (v := .slice (some ⟨R i, 0, none⟩) (n + 1) (n + 1)) (some 45) rfl rfl (by kernel_rfl) (by kernel_rfl) (by kernel_rfl) (fun _ _ _ h => h) (Or.inl ⟨by kernel_rfl, fun w' hw => ?_⟩) SS.out ?_
                    · have e := World.cell?_of_block (a := ⟨g, i, none⟩) (hw _ hgl hgne); rw [o1] at e; go_simp
                    simp only [Act.put, List.setIfInBounds_toArray]
                    refine takeHD (i := 4) (v := .int .i64 j) (some 46) rfl rfl (by kernel_rfl) (by kernel_rfl) (by kernel_rfl) (fun _ _ _ h => h) (Or.inl ⟨by kernel_rfl, fun w' hw => ?_⟩) SS.out ?_
                    · kernel_rfl
                    simp only [Act.put, List.setIfInBounds_toArray]
                    refine takeHD (i := 5) (v := .slice (some ⟨g, 0, none⟩) (n + 1) cap) (some 47) rfl rfl (by kernel_rfl) (by kernel_rfl) (by kernel_rfl) (fun _ _ _ h => h) (Or.inl ⟨by kernel_rfl, fun w' hw => ?_⟩) SS.out ?_
                    · kernel_rfl
                    simp only [Act.put, List.setIfInBounds_toArray]
                    refine takeHD (i := 6) (v := .int .i64 i) (some 48) rfl rfl (by kernel_rfl) (by kernel_rfl) (by kernel_rfl) (fun _ _ _ h => h) (Or.inl ⟨by kernel_rfl, fun w' hw => ?_⟩) SS.out ?_
                    · kernel_rfl
                    simp only [Act.put, List.setIfInBounds_toArray]
                    refine takeHD (i := 7) (v := .pointer (some ⟨g, i, none⟩)) (some 49) rfl rfl (by kernel_rfl) (by kernel_rfl) (by kernel_rfl) (fun _ _ _ h => h) (Or.inl ⟨by kernel_rfl, fun w' hw => ?_⟩) SS.out ?_
                    · first | (go_simp; done) | (go_simp; intro h; omega) | (go_simp; rw [IntKind.wrap_i64]; omega)
                    simp only [Act.put, List.setIfInBounds_toArray]
                    refine takeHD (i := 8) (v := .slice (some ⟨R i, 0, none⟩) (n + 1) (n + 1)) (some 50) rfl rfl (by kernel_rfl) (by kernel_rfl) (by kernel_rfl) (fun _ _ _ h => h) (Or.inl ⟨by kernel_rfl, fun w' hw => ?_⟩) SS.out ?_
                    · have e := World.cell?_of_block (a := ⟨g, i, none⟩) (hw _ hgl hgne); rw [o1] at e; go_simp
                    simp only [Act.put, List.setIfInBounds_toArray]
                    refine takeHD (i := 9) (v := .int .i64 j) (some 51) rfl rfl (by kernel_rfl) (by kernel_rfl) (by kernel_rfl) (fun _ _ _ h => h) (Or.inl ⟨by kernel_rfl, fun w' hw => ?_⟩) SS.out ?_
                    · kernel_rfl
                    simp only [Act.put, List.setIfInBounds_toArray]
                    refine takeHD (i := 10) (v := .pointer (some ⟨R i, j, none⟩)) (some 52) rfl rfl (by kernel_rfl) (by kernel_rfl) (by kernel_rfl) (fun _ _ _ h => h) (Or.inl ⟨by kernel_rfl, fun w' hw => ?_⟩) SS.out ?_
                    · first | (go_simp; done) | (go_simp; intro h; omega) | (go_simp; rw [IntKind.wrap_i64]; omega)
                    simp only [Act.put, List.setIfInBounds_toArray]
                    refine wpAnyH_ready (rs := [11]) (by kernel_rfl) (by simp) ?_
                    refine AllReadyH.cons rfl (fun K hK => ?_) AllReadyH.nil
                    rw [if_pos (by kernel_rfl)]
                    go_wp2_with fail
                    refine hK.out _ _ SS.out (fun _ => ?_)
                    clear hK K
                    refine takeHD (i := 12) (v := .bool false) (some 54) rfl rfl (by kernel_rfl) (by kernel_rfl) (by kernel_rfl) (fun _ _ _ h => h) (Or.inl ⟨by kernel_rfl, fun w' hw => ?_⟩) SS.out ?_
                    · kernel_rfl
                    simp only [Act.put, List.setIfInBounds_toArray]
                    refine takeHD (i := 13) (v := .slice (some ⟨g, 0, none⟩) (n + 1) cap) (some 55) rfl rfl (by kernel_rfl) (by kernel_rfl) (by kernel_rfl) (fun _ _ _ h => h) (Or.inl ⟨by kernel_rfl, fun w' hw => ?_⟩) SS.out ?_
                    · kernel_rfl
                    simp only [Act.put, List.setIfInBounds_toArray]
                    refine takeHD (i := 14) (v := .int .i64 k) (some 56) rfl rfl (by kernel_rfl) (by kernel_rfl) (by kernel_rfl) (fun _ _ _ h => h) (Or.inl ⟨by kernel_rfl, fun w' hw => ?_⟩) SS.out ?_
                    · kernel_rfl
                    simp only [Act.put, List.setIfInBounds_toArray]
                    refine takeHD (i := 15) (v := .pointer (some ⟨g, k, none⟩)) (some 57) rfl rfl (by kernel_rfl) (by kernel_rfl) (by kernel_rfl) (fun _ _ _ h => h) (Or.inl ⟨by kernel_rfl, fun w' hw => ?_⟩) SS.out ?_
                    · first | (go_simp; done) | (go_simp; intro h; omega) | (go_simp; rw [IntKind.wrap_i64]; omega)
                    simp only [Act.put, List.setIfInBounds_toArray]
                    refine takeHD (i := 16) (v := .slice (some ⟨R k, 0, none⟩) (n + 1) (n + 1)) (some 58) rfl rfl (by kernel_rfl) (by kernel_rfl) (by kernel_rfl) (fun _ _ _ h => h) (Or.inl ⟨by kernel_rfl, fun w' hw => ?_⟩) SS.out ?_
                    · have e := World.cell?_of_block (a := ⟨g, k, none⟩) (hw _ hgs hgsne); rw [o2] at e; go_simp
                    simp only [Act.put, List.setIfInBounds_toArray]
                    refine takeHD (i := 17) (v := .int .i64 j) (some 59) rfl rfl (by kernel_rfl) (by kernel_rfl) (by kernel_rfl) (fun _ _ _ h => h) (Or.inl ⟨by kernel_rfl, fun w' hw => ?_⟩) SS.out ?_
                    · kernel_rfl
                    simp only [Act.put, List.setIfInBounds_toArray]
                    refine takeHD (i := 18) (v := .pointer (some ⟨R k, j, none⟩)) (some 60) rfl rfl (by kernel_rfl) (by kernel_rfl) (by kernel_rfl) (fun _ _ _ h => h) (Or.inl ⟨by kernel_rfl, fun w' hw => ?_⟩) SS.out ?_
                    · first | (go_simp; done) | (go_simp; intro h; omega) | (go_simp; rw [IntKind.wrap_i64]; omega)
                    simp only [Act.put, List.setIfInBounds_toArray]
                    refine takeHD (i := 19) (v := .bool b2) (some 61) rfl rfl (by kernel_rfl) (by kernel_rfl) (by kernel_rfl) (fun _ _ _ h => h) (Or.inl ⟨by kernel_rfl, fun w' hw => ?_⟩) SS.out ?_
                    · have e := World.cell?_of_block (a := ⟨R k, j, none⟩) (hw _ hrs hrsne); rw [c2] at e; go_simp
                    simp only [Act.put, List.setIfInBounds_toArray]
                    refine takeHD (i := 20) (v := .bool b2) (some 62) rfl rfl (by kernel_rfl) (by kernel_rfl) (by kernel_rfl) (fun _ _ _ h => h) (Or.inl ⟨by kernel_rfl, fun w' hw => ?_⟩) SS.out ?_
                    · kernel_rfl
                    simp only [Act.put, List.setIfInBounds_toArray]
                    refine takeHD (i := 21) (v := .pointer (some ⟨R i, j, none⟩)) (some 63) rfl rfl (by kernel_rfl) (by kernel_rfl) (by kernel_rfl) (fun _ _ _ h => h) (Or.inl ⟨by kernel_rfl, fun w' hw => ?_⟩) SS.out ?_
                    · first | (go_simp; done) | (go_simp; intro h; omega) | (go_simp; rw [IntKind.wrap_i64]; omega)
                    simp only [Act.put, List.setIfInBounds_toArray]
                    refine wpAnyH_ready (rs := [22]) (by kernel_rfl) (by simp) ?_
                    refine AllReadyH.cons rfl (fun K hK => ?_) AllReadyH.nil
                    rw [if_pos (by kernel_rfl)]
                    go_wp2_with fail
                    refine hK.out _ _ (fun b hb hne => heap_setCell_other wr.drew ⟨R i, j, none⟩ b _ hne) (fun _ => ?_)
                    clear hK K
                    refine wpAnyH_done (by kernel_rfl) ?_ _
                    go_wp2
                    go_roundw
                    case rel => exact ⟨j + 1, by omega, by omega, (fun h => by first | (rw [HAK.out] at h; cases h) | cases h), by go_num, HQn, HBn⟩
                    case measure => simp [intOf]; omega
              | false =>
                rw [hak] at c3
                obtain rfl := HJK.out hak
                have HQn : Hid (Mq wr g R n (manyUpto n a i (j + 1) (j + 1))) := HQt.out.ext (fun x y _ _ => manyUpto_none n a i j x y hak)
                clear HQt HJK hak
                go_wp2
                go_roundw
                case rel => exact ⟨j + 1, by omega, by omega, by go_num, HQn, HBt⟩
                case measure => simp [intOf]; omega
            · have hje : j = n + 1 := by omega
              subst hje
              have HQn : Hid (Mq wr g R n (manyUpto n a i (k + 1) (k + 1))) := HQt.out.ext (fun x y _ hy => manyUpto_mid n a i k x y hy)
              clear HQt
              go_wp2
              go_roundw
              case rel => exact ⟨k + 1, by omega, by omega, by go_num, HQn, HBt⟩
              case measure => simp [intOf]; omega
        · have hke : k = n + 1 := by omega
          subst hke
          have HQn : Hid (Mq wr g R n (headM n a i)) := HQs.out.ext (fun x y _ hy => headM_next n a i x y hy)
          clear HQs
          go_wp2
          go_roundw
          case rel => exact ⟨i, by omega, by go_num, HQn, HBs⟩
          case measure => first | (simp [intOf]; done) | (simp [intOf]; omega)
    | zero =>
      have hi0 : (((0 : Nat) : Int) - 1) = -1 := by omega
      rw [hi0]
      clear hi0
      go_wp2
      go_ret
      exact ⟨_, rfl, by rw [HSN.out]; exact ⟨g, cap, R, rfl, HC.out.1, HC.out.2, HA.out, HQr.out⟩, HBr.out⟩
end Go.Proofs.YthifleacfhijnaaDoor
