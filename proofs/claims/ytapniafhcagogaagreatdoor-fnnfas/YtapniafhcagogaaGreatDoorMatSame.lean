/- The model's matrices: the same; one byte; one added to another one. -/
import Derived.Test.YtapniafhcagogaaGreatDoorMatNone
import Derived.Test.YtapniafhcagogaaGreatDoorRexOkI
import Derived.Test.YtapniafhcagogaaGreatDoorRexBox
import Derived.Test.YtapniafhcagogaaGreatDoorTake
namespace Go.Proofs.YtapniafhcagogaaGreatDoor
open Go.RowKit
set_option maxRecDepth 8000

set_option maxHeartbeats 1000000 in
theorem l4Same_any (s : ByteArray) (hs : s.size ≤ 200) (w : World) :
    Calls Tryz.prog 66 #[.string s] w fun e w' => ∃ v, e = .returned v ∧ Mx w' (newFrom w.heap.size) s.size (fun i k => i == k) v ∧ Below w.heap.size w w' := by
  have HN := Hid.mk (l4None_any s hs w)
  go_enter Tryz.func66, Tryz.ntmps66
  go_wp2_with fail
  refine HN.out.mono ?_
  rintro e w1 ⟨v1, rfl, ⟨g, cap, R, rfl, hc1, hc2, hap, hq⟩, hb1⟩
  have HQ : Hid (Mq w1 g R s.size (fun i k => i == k && decide (i < 0))) := hq.ext (fun i k _ _ => by simp)
  have HB := Hid.mk hb1
  have HAP := Hid.mk hap
  have hcm : cap ≤ 9223372036854775807 := by unfold maxLen at hc2; omega
  have HC := Hid.mk (And.intro hc1 hc2)
  clear hq hb1 hap HN hc1 hc2
  go_wp2
  go_loopw [4] (fun i wr => ∃ (k : Nat), k ≤ s.size + 1 ∧ i = .int .i64 k ∧ Hid (Mq wr g R s.size (fun i j => i == j && decide (i < k))) ∧ Hid (Below w.heap.size w wr)) (fun i _ => s.size + 1 - (intOf i).toNat)
  case atStart => exact ⟨0, Nat.zero_le _, rfl, HQ, HB⟩
  case round =>
    obtain ⟨k, hk, rfl, HQr, HBr⟩ := hrel
    clear HQ HB
    by_cases hks : (k : Int) ≤ (s.size : Int)
    · have hkn : k ≤ s.size := by omega
      have o1 := HQr.out.outer k hkn
      have c1 := HQr.out.cell hkn hkn
      have f1 := HQr.out.frozen hkn k
      have HQ2 : Hid (Mq (wr.setCell ⟨R k, k, none⟩ (.bool true)) g R s.size (fun i j => i == j && decide (i < k + 1))) := (HQr.out.set HAP.out hkn k true).ext (fun i j _ _ => by
        rw [updM_at]
        split
        · rename_i h; obtain ⟨rfl, rfl⟩ := h; simp
        · rename_i h
          rw [Bool.eq_iff_iff]
          simp only [Bool.and_eq_true, beq_iff_eq, decide_eq_true_iff]
          omega)
      have HB2 := Hid.mk (HBr.out.setCell (p := ⟨R k, k, none⟩) (HAP.out.br k hkn) (.bool true))
      clear HQr HBr
      go_wp2
      go_roundw
      case rel => exact ⟨k + 1, by omega, by go_num, HQ2, HB2⟩
      case measure => simp [intOf]; omega
    · have HQ3 : Hid (Mq wr g R s.size (fun i j => i == j)) := HQr.out.ext (fun i j hi _ => by rw [decide_eq_true (show i < k by omega), Bool.and_true])
      clear HQr
      go_wp2
      go_ret
      exact ⟨_, rfl, ⟨g, cap, R, rfl, HC.out.1, HC.out.2, HAP.out, HQ3.out⟩, HBr.out⟩

/-- Whether a part of one byte takes this one. -/
def tkB (k : Int) (c : ByteArray) (b : Int) : Bool := k == 2 || (List.range c.size).any fun i => ba c i == b

set_option maxHeartbeats 1000000 in
theorem l4Takes_any (k : Int) (c : ByteArray) (b : Int) (w : World) (hs : c.size ≤ maxLen) :
    Calls Tryz.prog 94 #[.int .i64 k, .string c, .int .u8 b] w fun e w' => e = .returned (.bool (tkB k c b)) ∧ ∃ m, w' = w.drewN m := by
  unfold maxLen at hs
  by_cases hk : k = 2
  · subst hk
    have e : tkB 2 c b = true := by simp [tkB]
    rw [e]
    clear e
    go_enter Tryz.func94, Tryz.ntmps94
    go_wp2
    go_ret
    exact ⟨rfl, 0, rfl⟩
  · have hk2 : (k == 2) = false := beq_eq_false_iff_ne.2 hk
    have HE : Hid (tkB k c b = (List.range c.size).any fun i => ba c i == b) := by show _ = _; simp [tkB, hk2]
    obtain ⟨T, hT⟩ : ∃ T, tkB k c b = T := ⟨_, rfl⟩
    rw [hT] at HE ⊢
    clear hT hk
    go_enter Tryz.func94, Tryz.ntmps94
    go_wp2
    go_loopw [7] (fun i wr => ∃ (j : Nat), j ≤ c.size ∧ i = .int .i64 j ∧ Hid (∀ x, x < j → (ba c x == b) = false) ∧ ∃ m, wr = w.drewN m) (fun i _ => c.size - (intOf i).toNat)
    case atStart => exact ⟨0, Nat.zero_le _, rfl, fun x hx => absurd hx (Nat.not_lt_zero x), 0, rfl⟩
    case round =>
      obtain ⟨j, hj, rfl, Hj, hm⟩ := hrel
      have HM := Hid.mk hm
      clear hm
      by_cases hlt : j < c.size
      · have HBA := Hid.mk (ba_eq c j hlt)
        have hji : (j : Int) < (c.size : Int) := by omega
        obtain ⟨z, hz⟩ : ∃ z : Int, ((c[j].toNat : Nat) : Int) = z := ⟨_, rfl⟩
        rw [hz] at HBA
        cases hzb : (z == b) with
        | true =>
          have hT : T = true := by
            rw [HE.out, List.any_eq_true]
            exact ⟨j, List.mem_range.2 hlt, by rw [HBA.out]; exact hzb⟩
          subst hT
          clear HE Hj
          go_wp2
          go_ret
          exact ⟨rfl, HM.out⟩
        | false =>
          have HJ2 : Hid (∀ x, x < j + 1 → (ba c x == b) = false) := by
            intro x hx
            by_cases h : x = j
            · subst h; rw [HBA.out]; exact hzb
            · exact Hj.out x (by omega)
          clear Hj
          go_wp2
          go_roundw
          case rel => exact ⟨j + 1, by omega, by go_num, HJ2, HM.out⟩
          case measure => simp [intOf]; omega
      · have hji : ¬ (j : Int) < (c.size : Int) := by omega
        have hT : T = false := by
          rw [HE.out, List.any_eq_false]
          intro x hx
          rw [Hj.out x (by have := List.mem_range.1 hx; omega)]
          simp
        subst hT
        clear HE Hj
        go_wp2
        go_ret
        exact ⟨rfl, HM.out⟩

/-- Where what takes one byte ends. -/
def mOne (s : ByteArray) (k : Int) (c : ByteArray) : Mat := fun i j => decide (i < s.size) && decide (j = i + 1) && tkB k c (ba s i)

set_option maxHeartbeats 1000000 in
theorem l4One_any (t : Tr) (v : Value) (s : ByteArray) (hs : s.size ≤ 200) (hts : t.s.size ≤ maxLen) (w : World) :
    Calls Tryz.prog 67 #[rx t.k t.s v, .string s] w fun e w' => ∃ u, e = .returned u ∧ Mx w' (newFrom w.heap.size) s.size (mOne s t.k t.s) u ∧ Below w.heap.size w w' := by
  have A0 : Below w.heap.size w (w.alloc (.cells #[.int .i64 t.k, .string t.s, v] 26)) := (Below.refl _ _).alloc (Nat.le_refl _) _
  have HN := Hid.mk (l4None_any s hs (w.alloc (.cells #[.int .i64 t.k, .string t.s, v] 26)))
  obtain ⟨tk, htk⟩ : ∃ tk, t.k = tk := ⟨_, rfl⟩
  obtain ⟨ts, hts'⟩ : ∃ ts, t.s = ts := ⟨_, rfl⟩
  rw [htk, hts'] at A0 HN
  rw [htk, hts']
  rw [hts'] at hts
  have HZ := Hid.mk hts
  clear htk hts' hts
  go_enter Tryz.func67, Tryz.ntmps67
  go_wp2_with fail
  refine HN.out.mono ?_
  rintro e w1 ⟨v1, rfl, ⟨g, cap, R, rfl, hc1, hc2, hap, hq⟩, hb1⟩
  have hX1 := (Bz3.new w (.int .i64 tk) (.string ts) v).grow hb1
  have HX1 := Hid.mk hX1
  have hap' : Apart (newFrom (w.heap.size + 1)) g R s.size := hap.imp (fun b hb => by unfold newFrom at *; simpa using hb)
  have HQ : Hid (Mq w1 g R s.size (fun i j => mOne s tk ts i j && decide (i < 0))) := hq.ext (fun i k _ _ => by simp)
  have HB := Hid.mk (A0.trans (hb1.mono (by simp)))
  have HAP := Hid.mk hap'
  have hcm : cap ≤ 9223372036854775807 := by unfold maxLen at hc2; omega
  have HC := Hid.mk (And.intro hc1 hc2)
  clear hq hb1 hap hap' HN hc1 hc2 hX1 A0
  go_wp2
  go_loopw [6] (fun i wr => ∃ (k : Nat), k ≤ s.size ∧ i = .int .i64 k ∧ Hid (Mq wr g R s.size (fun i j => mOne s tk ts i j && decide (i < k))) ∧ Hid (Bz3 wr w.heap.size (.int .i64 tk) (.string ts) v) ∧ Hid (Below w.heap.size w wr)) (fun i _ => s.size - (intOf i).toNat)
  case atStart => exact ⟨0, Nat.zero_le _, rfl, HQ, HX1, HB⟩
  case round =>
    obtain ⟨k, hk, rfl, HQr, HXr, HBr⟩ := hrel
    clear HQ HB HX1
    by_cases hlt : k < s.size
    · have hks : (k : Int) < (s.size : Int) := by omega
      have x0 := HXr.out.c0
      have x1 := HXr.out.c1
      have hkn : k ≤ s.size := by omega
      have hkn1 : k + 1 ≤ s.size := by omega
      have o1 := HQr.out.outer k hkn
      have c1 := HQr.out.cell hkn hkn1
      have f1 := HQr.out.frozen hkn (k + 1)
      have HBA := Hid.mk (ba_eq s k hlt)
      obtain ⟨z, hz⟩ : ∃ z : Int, ((s[k].toNat : Nat) : Int) = z := ⟨_, rfl⟩
      rw [hz] at HBA
      have HT := Hid.mk (fun w' => l4Takes_any tk ts z w' HZ.out)
      have HBB : Hid (tkB tk ts z = tkB tk ts (ba s k)) := by show _ = _; rw [HBA.out]
      obtain ⟨bb, hbb⟩ : ∃ bb, tkB tk ts z = bb := ⟨_, rfl⟩
      rw [hbb] at HT HBB
      clear hbb
      go_wp2_with fail
      have SS : Hid (∀ b, b < wr.heap.size → b ≠ R k → wr.drew.heap[b]? = wr.heap[b]?) := fun b _ _ => rfl
      have hgne : g ≠ R k := (HAP.out.ne k hkn).symm
      have hxne : w.heap.size ≠ R k := by have := HAP.out.br k hkn; unfold newFrom at this; omega
      have hgl := HQr.out.ltg
      have hxl := HXr.out.lt
      refine wp_region_held_drew (S := fun w' => ∀ b, b < wr.heap.size → b ≠ R k → w'.heap[b]? = wr.heap[b]?) (by kernel_rfl) SS.out (fun _ => ?_)
      refine takeHD (i := 0) (v := .slice (some ⟨g, 0, none⟩) (s.size + 1) cap) (some 15) rfl rfl (by kernel_rfl) (by kernel_rfl) (by kernel_rfl) (fun _ _ _ h => h) (Or.inl ⟨by kernel_rfl, fun w' hw => ?_⟩) SS.out ?_
      · kernel_rfl
      simp only [Act.put, List.setIfInBounds_toArray]
      refine takeHD (i := 1) (v := .int .i64 k) (some 16) rfl rfl (by kernel_rfl) (by kernel_rfl) (by kernel_rfl) (fun _ _ _ h => h) (Or.inl ⟨by kernel_rfl, fun w' hw => ?_⟩) SS.out ?_
      · kernel_rfl
      simp only [Act.put, List.setIfInBounds_toArray]
      refine takeHD (i := 2) (v := .pointer (some ⟨g, k, none⟩)) (some 17) rfl rfl (by kernel_rfl) (by kernel_rfl) (by kernel_rfl) (fun _ _ _ h => h) (Or.inl ⟨by kernel_rfl, fun w' hw => ?_⟩) SS.out ?_
      · first | (go_simp; done) | (go_simp; intro h; omega) | (go_simp; rw [IntKind.wrap_i64]; omega)
      simp only [Act.put, List.setIfInBounds_toArray]
      refine takeHD (i := 3) (v := .slice (some ⟨R k, 0, none⟩) (s.size + 1) (s.size + 1)) (some 18) rfl rfl (by kernel_rfl) (by kernel_rfl) (by kernel_rfl) (fun _ _ _ h => h) (Or.inl ⟨by kernel_rfl, fun w' hw => ?_⟩) SS.out ?_
      · have e := World.cell?_of_block (a := ⟨g, k, none⟩) (hw _ hgl hgne); rw [o1] at e; go_simp
      simp only [Act.put, List.setIfInBounds_toArray]
      refine takeHD (i := 4) (v := .int .i64 k) (some 19) rfl rfl (by kernel_rfl) (by kernel_rfl) (by kernel_rfl) (fun _ _ _ h => h) (Or.inl ⟨by kernel_rfl, fun w' hw => ?_⟩) SS.out ?_
      · kernel_rfl
      simp only [Act.put, List.setIfInBounds_toArray]
      refine takeHD (i := 5) (v := .int .i64 ((k : Int) + 1)) (some 20) rfl rfl (by kernel_rfl) (by kernel_rfl) (by kernel_rfl) (fun _ _ _ h => h) (Or.inl ⟨by kernel_rfl, fun w' hw => ?_⟩) SS.out ?_
      · first | (go_simp; done) | (go_simp; intro h; omega) | (go_simp; rw [IntKind.wrap_i64]; omega)
      simp only [Act.put, List.setIfInBounds_toArray]
      refine takeHD (i := 6) (v := .pointer (some ⟨w.heap.size, 0, none⟩)) (some 21) rfl rfl (by kernel_rfl) (by kernel_rfl) (by kernel_rfl) (fun _ _ _ h => h) (Or.inl ⟨by kernel_rfl, fun w' hw => ?_⟩) SS.out ?_
      · first | (go_simp; done) | (go_simp; intro h; omega) | (go_simp; rw [IntKind.wrap_i64]; omega)
      simp only [Act.put, List.setIfInBounds_toArray]
      refine takeHD (i := 7) (v := .int .i64 tk) (some 22) rfl rfl (by kernel_rfl) (by kernel_rfl) (by kernel_rfl) (fun _ _ _ h => h) (Or.inl ⟨by kernel_rfl, fun w' hw => ?_⟩) SS.out ?_
      · have e := World.cell?_of_block (a := ⟨w.heap.size, 0, none⟩) (hw _ hxl hxne); rw [x0] at e; go_simp
      simp only [Act.put, List.setIfInBounds_toArray]
      refine takeHD (i := 8) (v := .pointer (some ⟨w.heap.size, 1, none⟩)) (some 23) rfl rfl (by kernel_rfl) (by kernel_rfl) (by kernel_rfl) (fun _ _ _ h => h) (Or.inl ⟨by kernel_rfl, fun w' hw => ?_⟩) SS.out ?_
      · first | (go_simp; done) | (go_simp; intro h; omega) | (go_simp; rw [IntKind.wrap_i64]; omega)
      simp only [Act.put, List.setIfInBounds_toArray]
      refine takeHD (i := 9) (v := .string ts) (some 24) rfl rfl (by kernel_rfl) (by kernel_rfl) (by kernel_rfl) (fun _ _ _ h => h) (Or.inl ⟨by kernel_rfl, fun w' hw => ?_⟩) SS.out ?_
      · have e := World.cell?_of_block (a := ⟨w.heap.size, 1, none⟩) (hw _ hxl hxne); rw [x1] at e; go_simp
      simp only [Act.put, List.setIfInBounds_toArray]
      refine takeHD (i := 10) (v := .string s) (some 25) rfl rfl (by kernel_rfl) (by kernel_rfl) (by kernel_rfl) (fun _ _ _ h => h) (Or.inl ⟨by kernel_rfl, fun w' hw => ?_⟩) SS.out ?_
      · kernel_rfl
      simp only [Act.put, List.setIfInBounds_toArray]
      refine takeHD (i := 11) (v := .int .i64 k) (some 26) rfl rfl (by kernel_rfl) (by kernel_rfl) (by kernel_rfl) (fun _ _ _ h => h) (Or.inl ⟨by kernel_rfl, fun w' hw => ?_⟩) SS.out ?_
      · kernel_rfl
      simp only [Act.put, List.setIfInBounds_toArray]
      refine takeHD (i := 12) (v := .int .u8 z) (some 27) rfl rfl (by kernel_rfl) (by kernel_rfl) (by kernel_rfl) (fun _ _ _ h => h) (Or.inl ⟨by kernel_rfl, fun w' hw => ?_⟩) SS.out ?_
      · first | (go_simp; done) | (go_simp; intro h; omega) | (go_simp; rw [IntKind.wrap_i64]; omega)
      simp only [Act.put, List.setIfInBounds_toArray]
      refine wpAnyH_ready (rs := [13]) (by kernel_rfl) (by simp) ?_
      refine AllReadyH.cons rfl (fun K hK => ?_) AllReadyH.nil
      rw [if_pos (by kernel_rfl)]
      go_wp2_with fail
      refine (HT.out _).mono ?_
      rintro e w5 ⟨rfl, m, hm⟩
      have B5 : Below wr.heap.size wr w5 := by rw [hm]; exact (Below.drewSelf _ _ 1).trans (Below.drewSelf _ _ m)
      have S5 : Hid (∀ b, b < wr.heap.size → b ≠ R k → w5.heap[b]? = wr.heap[b]?) := fun b hb _ => B5.block b hb
      refine hK.out _ _ S5.out (fun _ => ?_)
      clear hK K hm
      have HX5 := Hid.mk (HXr.out.grow B5)
      have HQ5 := HQr.out.grow B5
      have HB5 := HBr.out.trans (B5.mono HBr.out.size)
      have c5 := HQ5.cell hkn hkn1
      have f5 := HQ5.frozen hkn (k + 1)
      refine takeHD (i := 14) (v := .pointer (some ⟨R k, k + 1, none⟩)) (some 29) rfl rfl (by kernel_rfl) (by kernel_rfl) (by kernel_rfl) (fun _ _ _ h => h) (Or.inl ⟨by kernel_rfl, fun w' hw => ?_⟩) S5.out ?_
      · first | (go_simp; done) | (go_simp; intro h; omega) | (go_simp; rw [IntKind.wrap_i64]; omega)
      simp only [Act.put, List.setIfInBounds_toArray]
      have HQ6 : Hid (Mq (w5.setCell ⟨R k, k + 1, none⟩ (.bool bb)) g R s.size (fun i j => mOne s tk ts i j && decide (i < k + 1))) := (HQ5.set HAP.out hkn (k + 1) bb).ext (fun i j _ _ => by
        rw [updM_at]
        split
        · rename_i h; obtain ⟨rfl, rfl⟩ := h
          rw [HBB.out]
          simp [mOne, hlt]
        · rename_i h
          rw [Bool.eq_iff_iff]
          simp only [mOne, Bool.and_eq_true, decide_eq_true_iff]
          constructor
          · rintro ⟨h1, h2⟩; exact ⟨h1, by omega⟩
          · rintro ⟨h1, h2⟩; exact ⟨h1, by omega⟩)
      have HB6 := Hid.mk (HB5.setCell (p := ⟨R k, k + 1, none⟩) (by have := HAP.out.br k hkn; unfold newFrom at this; show w.heap.size ≤ R k; omega) (.bool bb))
      have HX6 := Hid.mk (HX5.out.kept (w' := w5.setCell ⟨R k, k + 1, none⟩ (.bool bb)) (heap_setCell_other _ _ _ _ (by have := HAP.out.br k hkn; unfold newFrom at this; show w.heap.size ≠ R k; omega)))
      clear HQ5 HB5 HX5 HQr HXr HBr B5
      refine wpAnyH_ready (rs := [15]) (by kernel_rfl) (by simp) ?_
      refine AllReadyH.cons rfl (fun K hK => ?_) AllReadyH.nil
      rw [if_pos (by kernel_rfl)]
      go_wp2_with fail
      refine hK.out _ _ (fun b hb hne => by rw [heap_setCell_other w5 ⟨R k, k + 1, none⟩ b _ hne]; exact S5.out b hb hne) (fun _ => ?_)
      clear hK K
      refine wpAnyH_done (by kernel_rfl) ?_ _
      go_wp2
      go_roundw
      case rel => exact ⟨k + 1, by omega, by go_num, HQ6, HX6, HB6⟩
      case measure => simp [intOf]; omega
    · have hks : ¬ (k : Int) < (s.size : Int) := by omega
      have HQ3 : Hid (Mq wr g R s.size (mOne s tk ts)) := HQr.out.ext (fun i j hi _ => by
        by_cases h : i < k
        · rw [decide_eq_true h, Bool.and_true]
        · simp [mOne, show ¬ i < s.size by omega])
      clear HQr
      go_wp2
      go_ret
      exact ⟨_, rfl, ⟨g, cap, R, rfl, HC.out.1, HC.out.2, HAP.out.imp (fun b hb => by unfold newFrom at *; omega), HQ3.out⟩, HBr.out⟩
end Go.Proofs.YtapniafhcagogaaGreatDoor
