/- The law FnVals walked: a drawn value that is right comes back of its bytes; a number is the number of its text; what is read has its bytes. -/
import Derived.Test.YtincoibidgkiaaaDoorValMath
import Derived.Test.YtincoibidgkiaaaDoorDrawVals
import Derived.Test.YtincoibidgkiaaaDoorSameBytes
import Derived.Test.YtincoibidgkiaaaDoorTake
import Derived.Test.YtincoibidgkiaaaDoorWraps
namespace Go.Proofs.YtincoibidgkiaaaDoor
open Go.RowKit Go.Sort
set_option maxRecDepth 8000

theorem triple5 (r : Int × Int × ByteArray × Int × Bool) : ∃ k n s r2 r3, Hid (r = (k, n, s, r2, r3)) := ⟨r.1, r.2.1, r.2.2.1, r.2.2.2.1, r.2.2.2.2, rfl⟩

set_option maxHeartbeats 1000000 in
theorem fnVals_small (v : Value) (zs : List Int) (w : World) (H : Hid (Bs w v zs)) (hlen : zs.length ≤ 1048576) (ht : Tab w) :
    Calls Tryd.prog 3 #[v] w fun e w' => e = .returned (.bool true) ∧ Below w.heap.size w w' := by
  have HT := Hid.mk ht
  clear ht
  have hd : decide ((1048576 : Int) < zs.length) = false := by simp; omega
  have HB := Hid.mk (big_any v zs w H.out)
  rw [hd] at HB
  clear hd
  go_enter Tryd.func3, Tryd.ntmps3
  go_wp2_with fail
  refine HB.out.mono ?_
  rintro e w1 ⟨rfl, hw⟩
  obtain rfl := hw.symm
  clear hw HB
  go_wp2_with fail
  refine (drawPutVal_any v zs w H.out hlen).mono ?_
  rintro e w2 ⟨b, ys, k, n, s, rfl, hOb, hyb, hyl, hfair, hb2⟩
  have HF := Hid.mk hfair
  obtain ⟨aob, capb, hvb⟩ := hOb.shape
  subst hvb
  have HBb := Hid.mk (hOb.bs hyb)
  have s2 := hb2.size
  have B2 : Hid (Below w.heap.size w (boxed w2 k n s 25)) := hb2.alloc s2 _
  have HT2 := Hid.mk (HT.out.grow B2.out)
  have HIo := Hid.mk (fun w => implValOk_any k n s w)
  clear hOb hb2 HT hfair
  go_wp2_with fail
  refine (specValOk_any k n s _).mono ?_
  rintro e w3 ⟨rfl, hb3⟩
  have C3 : Hid (Below (w2.heap.size + 1) (boxed w2 k n s 25) w3) := hb3.mono (by simp)
  have HT3 := Hid.mk (HT2.out.grow hb3)
  have s3 := hb3.size
  simp at s3
  have hc3 := fun o => C3.out.cell (p := ⟨w2.heap.size, o, none⟩) (by simp)
  have HBb3 := Hid.mk (HBb.out.grow (((Below.refl w2.heap.size w2).alloc (Nat.le_refl _) (.cells #[.int .i64 k, .int .i64 n, .string s] 25)).trans (C3.out.mono (by omega))))
  clear hb3 HT2 HBb
  cases hok : okB k n s with
  | false =>
    rw [hok] at HIo
    clear hok
    go_wp2_with fail
    refine (HIo.out _).mono ?_
    rintro e w4 ⟨rfl, hb4⟩
    have B4 := B2.out.trans ((C3.out.trans (hb4.mono (by omega))).mono (by omega))
    clear hb4 hc3 C3
    go_wp2
    go_ret
    exact ⟨rfl, B4⟩
  | true =>
    rw [hok] at HIo
    have HNt := Hid.mk (num_of_text k n s hok)
    have HG1 := Hid.mk (gV_put ys k n s hok)
    have hvb := vG_byte k n s
    have hvl := (vG_short k n s).2
    have hsz := HF.out.2.2
    obtain ⟨ps, hps⟩ : ∃ ps, ys ++ vG k n s = ps := ⟨_, rfl⟩
    have hpb : byteList ps := by rw [← hps]; exact hyb.append hvb
    have hpl : ps.length ≤ 2000 := by rw [← hps, List.length_append]; omega
    have HP := Hid.mk (implPutVal_any _ ys k n s w3 HBb3.out (by omega) (by omega))
    rw [hps] at HP HG1
    clear hok hps hvb hvl
    go_wp2_with fail
    refine HP.out.mono ?_
    rintro e w4 ⟨pv, rfl, hOp, hb4⟩
    obtain ⟨aop, capp, hvp⟩ := hOp.shape
    subst hvp
    have HBp := Hid.mk (hOp.bs hpb)
    have C4 : Hid (Below (w2.heap.size + 1) (boxed w2 k n s 25) w4) := C3.out.trans (hb4.mono (by omega))
    have HT4 := Hid.mk (HT3.out.grow hb4)
    have s4 := hb4.size
    have HG := Hid.mk (implGetVal_any _ ps ys.length w4 HBp.out (by omega))
    rw [HG1.out] at HG
    unfold tripV at HG
    clear hOp hb4 HP HBb3 hc3 C3 HT3 HG1
    go_wp2_with fail
    refine HG.out.mono ?_
    rintro e w5 ⟨rfl, hb5⟩
    have s5 := hb5.size
    have C5 : Hid (Below (w2.heap.size + 1) (boxed w2 k n s 25) (boxed w5 k n s 25)) := (C4.out.trans (hb5.mono (by omega))).alloc (by omega) _
    have HT5 := Hid.mk ((HT4.out.grow hb5).grow ((Below.refl w5.heap.size w5).alloc (Nat.le_refl _) (.cells #[.int .i64 k, .int .i64 n, .string s] 25)))
    have hc5 := fun o => C5.out.cell (p := ⟨w2.heap.size, o, none⟩) (by simp)
    clear hb5 C4 HT4 HG HBp
    go_wp2_with fail
    refine (implTextOf_any k n s _ ⟨HF.out.1, HF.out.2.1⟩ HT5.out).mono ?_
    rintro e w6 ⟨rfl, hb6⟩
    obtain ⟨tx, htx⟩ : ∃ tx, txtV k n s = tx := ⟨_, rfl⟩
    have HTx := Hid.mk htx
    have htl := txtV_size k n s HF.out
    rw [htx] at HNt htl ⊢
    have s6 := hb6.size
    simp at s6
    have D6 : Hid (Below (w5.heap.size + 1) (boxed w5 k n s 25) (boxed w6 2 0 tx 25)) := (hb6.mono (by simp)).alloc (by omega) _
    have HT6 := Hid.mk ((HT5.out.grow hb6).grow ((Below.refl w6.heap.size w6).alloc (Nat.le_refl _) (.cells #[.int .i64 2, .int .i64 0, .string tx] 25)))
    have B6 : Hid (Below w.heap.size w (boxed w6 2 0 tx 25)) := B2.out.trans ((C5.out.trans (D6.out.mono (by omega))).mono (by omega))
    have HA6 : Hid (∀ o, (boxed w6 2 0 tx 25).cell? ⟨w2.heap.size, o, none⟩ = (boxed w2 k n s 25).cell? ⟨w2.heap.size, o, none⟩) := fun o => (D6.out.cell (p := ⟨w2.heap.size, o, none⟩) (by simp; omega)).trans (C5.out.cell (p := ⟨w2.heap.size, o, none⟩) (by simp))
    have HX6 : Hid (∀ o, (boxed w6 2 0 tx 25).cell? ⟨w5.heap.size, o, none⟩ = (boxed w5 k n s 25).cell? ⟨w5.heap.size, o, none⟩) := fun o => D6.out.cell (p := ⟨w5.heap.size, o, none⟩) (by simp)
    have HV6 := Hid.mk (H.out.grow B6.out)
    clear hb6 C5 HT5 hc5 D6 htx B2
    go_wp2_with fail
    refine (drawGetVal_any v zs _ HV6.out hlen).mono ?_
    rintro e w7 ⟨c, cs, i, rfl, hBc, hcl, hb7⟩
    have s7 := hb7.size
    simp at s7
    have C7 : Hid (Below (w6.heap.size + 1) (boxed w6 2 0 tx 25) w7) := hb7.mono (by simp)
    have hcb := hBc.1
    obtain ⟨aoc, capc, hvc⟩ : ∃ ao cap, c = .slice ao cs.length cap := by obtain ⟨_, ao, cap, e, _⟩ := hBc; exact ⟨ao, cap, e⟩
    subst hvc
    have HBc := Hid.mk hBc
    obtain ⟨k2, n2, s2', e2, is, Hr⟩ := triple5 (gV cs i)
    have HGi : Hid (∀ W, Bs W (.slice aoc cs.length capc) cs → Calls Tryd.prog 13 #[.slice aoc cs.length capc, .int .i64 i] W fun e w' => e = .returned (.tuple #[vl k2 n2 s2', .int .i64 e2, .bool is]) ∧ Below W.heap.size W w') := by
      intro W hW
      have := implGetVal_any _ cs i W hW (by omega)
      rw [Hr.out] at this
      exact this
    have HGs : Hid (∀ W, Bs W (.slice aoc cs.length capc) cs → Calls Tryd.prog 16 #[.slice aoc cs.length capc, .int .i64 i] W fun e w' => e = .returned (.tuple #[vl k2 n2 s2', .int .i64 e2, .bool is]) ∧ Below W.heap.size W w') := by
      intro W hW
      have := specGetVal_any _ cs i W hW (by omega)
      rw [Hr.out] at this
      exact this
    clear hBc hb7
    go_wp2_with fail
    refine (HGi.out w7 HBc.out).mono ?_
    rintro e w8 ⟨rfl, hb8⟩
    have s8 := hb8.size
    have C8 : Hid (Below (w6.heap.size + 1) (boxed w6 2 0 tx 25) (boxed w8 k2 n2 s2' 25)) := (C7.out.trans (hb8.mono (by omega))).alloc (by omega) _
    have HBc8 := Hid.mk (HBc.out.grow (hb8.alloc (by omega) (.cells #[.int .i64 k2, .int .i64 n2, .string s2'] 25)))
    clear hb8 C7 HBc
    go_wp2_with fail
    refine (HGs.out _ HBc8.out).mono ?_
    rintro e w9 ⟨rfl, hb9⟩
    have s9 := hb9.size
    simp at s9
    have Y9 : Hid (Below (w8.heap.size + 1) (boxed w8 k2 n2 s2' 25) (boxed w9 k2 n2 s2' 25)) := (hb9.mono (by simp)).alloc (by omega) _
    have C9 : Hid (Below (w6.heap.size + 1) (boxed w6 2 0 tx 25) (boxed w9 k2 n2 s2' 25)) := C8.out.trans (Y9.out.mono (by omega))
    have HBc9 := Hid.mk (HBc8.out.grow (Y9.out.mono (by simp)))
    have B9 : Hid (Below w.heap.size w (boxed w9 k2 n2 s2' 25)) := B6.out.trans (C9.out.mono (by omega))
    clear hb9 C8 HBc8 HGi HGs B6
    cases is with
    | false =>
      go_wp2_with fail
      refine wp_region_held_drew (S := fun _ => True) (by kernel_rfl) trivial (fun _ => ?_)
      refine takeHD (i := 0) (v := .bool false) (some 64) rfl (by kernel_rfl) (by kernel_rfl) (by kernel_rfl) (by kernel_rfl) (fun _ _ _ h => h) (Or.inl ⟨by kernel_rfl, fun w _ => by kernel_rfl⟩) trivial ?_
      simp only [Act.put, List.setIfInBounds_toArray, List.set_cons_zero, List.set_cons_succ]
      refine takeHD (i := 1) (v := .bool false) (some 65) rfl (by kernel_rfl) (by kernel_rfl) (by kernel_rfl) (by kernel_rfl) (fun _ _ _ h => h) (Or.inl ⟨by kernel_rfl, fun w _ => by kernel_rfl⟩) trivial ?_
      simp only [Act.put, List.setIfInBounds_toArray, List.set_cons_zero, List.set_cons_succ]
      refine takeHD (i := 2) (v := .bool false) (some 66) rfl (by kernel_rfl) (by kernel_rfl) (by kernel_rfl) (by kernel_rfl) (fun _ _ _ h => h) (Or.inl ⟨by kernel_rfl, fun w _ => by kernel_rfl⟩) trivial ?_
      simp only [Act.put, List.setIfInBounds_toArray, List.set_cons_zero, List.set_cons_succ]
      refine takeHD (i := 3) (v := .bool false) (some 67) rfl (by kernel_rfl) (by kernel_rfl) (by kernel_rfl) (by kernel_rfl) (fun _ _ _ h => h) (Or.inl ⟨by kernel_rfl, fun w _ => by kernel_rfl⟩) trivial ?_
      simp only [Act.put, List.setIfInBounds_toArray, List.set_cons_zero, List.set_cons_succ]
      refine takeHD (i := 4) (v := .bool false) (some 68) rfl (by kernel_rfl) (by kernel_rfl) (by kernel_rfl) (by kernel_rfl) (fun _ _ _ h => h) (Or.inl ⟨by kernel_rfl, fun w _ => by kernel_rfl⟩) trivial ?_
      simp only [Act.put, List.setIfInBounds_toArray, List.set_cons_zero, List.set_cons_succ]
      refine takeHD (i := 5) (v := .bool false) (some 69) rfl (by kernel_rfl) (by kernel_rfl) (by kernel_rfl) (by kernel_rfl) (fun _ _ _ h => h) (Or.inl ⟨by kernel_rfl, fun w _ => by kernel_rfl⟩) trivial ?_
      simp only [Act.put, List.setIfInBounds_toArray, List.set_cons_zero, List.set_cons_succ]
      refine takeHD (i := 6) (v := undef) (some 70) rfl (by kernel_rfl) (by kernel_rfl) (by kernel_rfl) (by kernel_rfl) (fun _ _ _ h => h) (Or.inr ⟨by kernel_rfl, rfl⟩) trivial ?_
      simp only [Act.put, List.setIfInBounds_toArray, List.set_cons_zero, List.set_cons_succ]
      refine takeHD (i := 7) (v := undef) (some 71) rfl (by kernel_rfl) (by kernel_rfl) (by kernel_rfl) (by kernel_rfl) (fun _ _ _ h => h) (Or.inr ⟨by kernel_rfl, rfl⟩) trivial ?_
      simp only [Act.put, List.setIfInBounds_toArray, List.set_cons_zero, List.set_cons_succ]
      refine takeHD (i := 8) (v := undef) (some 72) rfl (by kernel_rfl) (by kernel_rfl) (by kernel_rfl) (by kernel_rfl) (fun _ _ _ h => h) (Or.inr ⟨by kernel_rfl, rfl⟩) trivial ?_
      simp only [Act.put, List.setIfInBounds_toArray, List.set_cons_zero, List.set_cons_succ]
      refine takeHD (i := 9) (v := undef) (some 73) rfl (by kernel_rfl) (by kernel_rfl) (by kernel_rfl) (by kernel_rfl) (fun _ _ _ h => h) (Or.inr ⟨by kernel_rfl, rfl⟩) trivial ?_
      simp only [Act.put, List.setIfInBounds_toArray, List.set_cons_zero, List.set_cons_succ]
      refine takeHD (i := 10) (v := undef) (some 74) rfl (by kernel_rfl) (by kernel_rfl) (by kernel_rfl) (by kernel_rfl) (fun _ _ _ h => h) (Or.inr ⟨by kernel_rfl, rfl⟩) trivial ?_
      simp only [Act.put, List.setIfInBounds_toArray, List.set_cons_zero, List.set_cons_succ]
      refine takeHD (i := 11) (v := undef) (some 75) rfl (by kernel_rfl) (by kernel_rfl) (by kernel_rfl) (by kernel_rfl) (fun _ _ _ h => h) (Or.inr ⟨by kernel_rfl, rfl⟩) trivial ?_
      simp only [Act.put, List.setIfInBounds_toArray, List.set_cons_zero, List.set_cons_succ]
      refine takeHD (i := 12) (v := undef) (some 76) rfl (by kernel_rfl) (by kernel_rfl) (by kernel_rfl) (by kernel_rfl) (fun _ _ _ h => h) (Or.inr ⟨by kernel_rfl, rfl⟩) trivial ?_
      simp only [Act.put, List.setIfInBounds_toArray, List.set_cons_zero, List.set_cons_succ]
      refine takeHD (i := 13) (v := undef) (some 77) rfl (by kernel_rfl) (by kernel_rfl) (by kernel_rfl) (by kernel_rfl) (fun _ _ _ h => h) (Or.inr ⟨by kernel_rfl, rfl⟩) trivial ?_
      simp only [Act.put, List.setIfInBounds_toArray, List.set_cons_zero, List.set_cons_succ]
      refine takeHD (i := 14) (v := undef) (some 78) rfl (by kernel_rfl) (by kernel_rfl) (by kernel_rfl) (by kernel_rfl) (fun _ _ _ h => h) (Or.inr ⟨by kernel_rfl, rfl⟩) trivial ?_
      simp only [Act.put, List.setIfInBounds_toArray, List.set_cons_zero, List.set_cons_succ]
      refine takeHD (i := 15) (v := .bool false) (some 79) rfl (by kernel_rfl) (by kernel_rfl) (by kernel_rfl) (by kernel_rfl) (fun _ _ _ h => h) (Or.inl ⟨by kernel_rfl, fun w _ => by kernel_rfl⟩) trivial ?_
      simp only [Act.put, List.setIfInBounds_toArray, List.set_cons_zero, List.set_cons_succ]
      refine takeHD (i := 16) (v := .bool false) (some 80) rfl (by kernel_rfl) (by kernel_rfl) (by kernel_rfl) (by kernel_rfl) (fun _ _ _ h => h) (Or.inl ⟨by kernel_rfl, fun w _ => by kernel_rfl⟩) trivial ?_
      simp only [Act.put, List.setIfInBounds_toArray, List.set_cons_zero, List.set_cons_succ]
      refine wpAnyH_done (by kernel_rfl) ?_ _
      have C12 : Hid (Below (w6.heap.size + 1) (boxed w6 2 0 tx 25) (boxed w9 k2 n2 s2' 25).drew) := C9.out.trans (Below.drewSelf _ _ 1)
      have B12 : Hid (Below w.heap.size w (boxed w9 k2 n2 s2' 25).drew) := B9.out.trans (Below.drewSelf _ _ 1)
      clear C9 B9 Y9 HBc9
      go_wp2_with fail
      have hA := fun o => (C12.out.cell (p := ⟨w2.heap.size, o, none⟩) (by simp; omega)).trans (HA6.out o)
      have hX := fun o => (C12.out.cell (p := ⟨w5.heap.size, o, none⟩) (by simp; omega)).trans (HX6.out o)
      have hT := fun o => C12.out.cell (p := ⟨w6.heap.size, o, none⟩) (by simp)
      have a0 := cell_regrown (w := (boxed w9 k2 n2 s2' 25).drew) (a := ⟨w2.heap.size, 0, none⟩) (v := .int .i64 k) (by rw [hA]; simp)
      have a1 := cell_regrown (w := (boxed w9 k2 n2 s2' 25).drew) (a := ⟨w2.heap.size, 1, none⟩) (v := .int .i64 n) (by rw [hA]; simp)
      have a2 := cell_regrown (w := (boxed w9 k2 n2 s2' 25).drew) (a := ⟨w2.heap.size, 2, none⟩) (v := .string s) (by rw [hA]; simp)
      have x0 := cell_regrown (w := (boxed w9 k2 n2 s2' 25).drew) (a := ⟨w5.heap.size, 0, none⟩) (v := .int .i64 k) (by rw [hX]; simp)
      have x1 := cell_regrown (w := (boxed w9 k2 n2 s2' 25).drew) (a := ⟨w5.heap.size, 1, none⟩) (v := .int .i64 n) (by rw [hX]; simp)
      have x2 := cell_regrown (w := (boxed w9 k2 n2 s2' 25).drew) (a := ⟨w5.heap.size, 2, none⟩) (v := .string s) (by rw [hX]; simp)
      have t0 := cell_regrown (w := (boxed w9 k2 n2 s2' 25).drew) (a := ⟨w6.heap.size, 0, none⟩) (v := .int .i64 2) (by rw [hT]; simp)
      have t1 := cell_regrown (w := (boxed w9 k2 n2 s2' 25).drew) (a := ⟨w6.heap.size, 1, none⟩) (v := .int .i64 0) (by rw [hT]; simp)
      have t2 := cell_regrown (w := (boxed w9 k2 n2 s2' 25).drew) (a := ⟨w6.heap.size, 2, none⟩) (v := .string tx) (by rw [hT]; simp)
      have HTl := Hid.mk (HT6.out.grow (C12.out.mono (by simp)))
      have cV := Hid.mk (fun d os => Calls.regrown_of (w := (boxed w9 k2 n2 s2' 25).drew) (d := d) (os := os) (HIo.out _))
      have cN := Hid.mk (fun d os => Calls.regrown_of (w := (boxed w9 k2 n2 s2' 25).drew) (d := d) (os := os) (implNumOf_any 2 0 tx _ (by omega)))
      have cM := Hid.mk (fun d os => Calls.regrown_of (w := (boxed w9 k2 n2 s2' 25).drew) (d := d) (os := os) (implNumOf_any k n s _ (by have := HF.out.2.2; omega)))
      have cT := Hid.mk (fun d os => Calls.regrown_of (implTextOf_any 2 0 tx _ ⟨by omega, by omega⟩ (HTl.out.grow (below_regrown (boxed w9 k2 n2 s2' 25).drew d os))))
      have cU := Hid.mk (fun d os => Calls.regrown_of (implTextOf_any k n s _ ⟨HF.out.1, HF.out.2.1⟩ (HTl.out.grow (below_regrown (boxed w9 k2 n2 s2' 25).drew d os))))
      rw [HNt.out] at cN
      rw [text_of_text] at cT
      rw [HTx.out] at cU
      have hnn : (numV k n s == numV k n s) = true := by simp
      have hll : (((ps.length : Nat) : Int) == ((ps.length : Nat) : Int)) = true := by simp
      have htt : (tx.toList == tx.toList) = true := by simp
      clear hA hX hT HTl
      refine wp_region_quiet_below (by kernel_rfl) (by kernel_rfl) ?_
      quiet_step (fail)
      quiet_step (fail)
      quiet_step (fail)
      quiet_step (fail)
      quiet_step (fail)
      quiet_step (fail)
      quiet_step (fail)
      quiet_step (fail)
      quiet_step (fail)
      quiet_step (fail)
      quiet_step (fail)
      quiet_step (fail)
      quiet_step (fail)
      quiet_step (fail)
      quiet_step (exact cV.out _ _)
      quiet_step (fail)
      quiet_step (fail)
      quiet_step (fail)
      quiet_step (exact cN.out _ _)
      quiet_step (fail)
      quiet_step (exact cM.out _ _)
      quiet_step (fail)
      quiet_step (fail)
      quiet_step (fail)
      quiet_step (fail)
      quiet_step (exact cT.out _ _)
      quiet_step (fail)
      quiet_step (exact cU.out _ _)
      quiet_step (fail)
      quiet_step (fail)
      quiet_step (fail)
      refine wpQuiet_nil ?_
      intro wz hw'
      obtain ⟨⟨dq, osq⟩, hw''⟩ := hw'
      have hbz : Below (boxed w9 k2 n2 s2' 25).drew.heap.size (boxed w9 k2 n2 s2' 25).drew wz := by rw [hw'']; exact below_regrown _ _ _
      have BZ := B12.out.trans (hbz.mono B12.out.size)
      clear hw'' a0 a1 a2 x0 x1 x2 t0 t1 t2 cV cN cM cT cU hbz
      go_wp2
      go_ret
      exact ⟨rfl, BZ⟩
    | true =>
      obtain ⟨p, m, hi, he, hm, hV, -, hs2⟩ := gV_again hcb Hr.out
      subst hi he
      have hvp := (vG_short k2 n2 s2').1
      have hvb2 := vG_byte k2 n2 s2'
      have hm1 : 0 < m := by rw [hV] at hvp; simp at hvp; omega
      obtain ⟨bb, ob, cc, hcv, hcl1, hcm1⟩ := HBc9.out.addr (by omega)
      simp only [Value.slice.injEq, true_and] at hcv
      obtain ⟨rfl, rfl⟩ := hcv
      have HPart := Hid.mk (HBc9.out.part (p := p) (m := m) hm hcl1 hcm1 rfl)
      rw [← hV] at HPart
      unfold maxLen at hcm1
      have hc9 := Hid.mk (fun o => Y9.out.cell (p := ⟨w8.heap.size, o, none⟩) (by simp))
      have e9 : (boxed w9 k2 n2 s2' 25).heap.size = w9.heap.size + 1 := by simp
      clear hV hcb Hr HBc9
      go_wp2_with fail
      have S0 : Below (w9.heap.size + 1) (boxed w9 k2 n2 s2' 25) (boxed w9 k2 n2 s2' 25).drew := Below.drewSelf _ _ 1
      refine wp_region_held_drew (S := fun w' => Below (w9.heap.size + 1) (boxed w9 k2 n2 s2' 25) w') (by kernel_rfl) S0 (fun _ => ?_)
      refine takeHD (i := 0) (v := .bool true) (some 64) rfl (by kernel_rfl) (by kernel_rfl) (by kernel_rfl) (by kernel_rfl) (fun _ _ _ h => h) (Or.inl ⟨by kernel_rfl, fun w _ => by kernel_rfl⟩) S0 ?_
      simp only [Act.put, List.setIfInBounds_toArray, List.set_cons_zero, List.set_cons_succ]
      refine takeHD (i := 1) (v := .bool true) (some 65) rfl (by kernel_rfl) (by kernel_rfl) (by kernel_rfl) (by kernel_rfl) (fun _ _ _ h => h) (Or.inl ⟨by kernel_rfl, fun w _ => by kernel_rfl⟩) S0 ?_
      simp only [Act.put, List.setIfInBounds_toArray, List.set_cons_zero, List.set_cons_succ]
      refine takeHD (i := 2) (v := .bool false) (some 66) rfl (by kernel_rfl) (by kernel_rfl) (by kernel_rfl) (by kernel_rfl) (fun _ _ _ h => h) (Or.inl ⟨by kernel_rfl, fun w _ => by kernel_rfl⟩) S0 ?_
      simp only [Act.put, List.setIfInBounds_toArray, List.set_cons_zero, List.set_cons_succ]
      refine takeHD (i := 3) (v := .bool false) (some 67) rfl (by kernel_rfl) (by kernel_rfl) (by kernel_rfl) (by kernel_rfl) (fun _ _ _ h => h) (Or.inl ⟨by kernel_rfl, fun w _ => by kernel_rfl⟩) S0 ?_
      simp only [Act.put, List.setIfInBounds_toArray, List.set_cons_zero, List.set_cons_succ]
      refine takeHD (i := 4) (v := .bool true) (some 68) rfl (by kernel_rfl) (by kernel_rfl) (by kernel_rfl) (by kernel_rfl) (fun _ _ _ h => h) (Or.inl ⟨by kernel_rfl, fun w _ => by kernel_rfl⟩) S0 ?_
      simp only [Act.put, List.setIfInBounds_toArray, List.set_cons_zero, List.set_cons_succ]
      refine takeHD (i := 5) (v := .bool true) (some 69) rfl (by kernel_rfl) (by kernel_rfl) (by kernel_rfl) (by kernel_rfl) (fun _ _ _ h => h) (Or.inl ⟨by kernel_rfl, fun w _ => by kernel_rfl⟩) S0 ?_
      simp only [Act.put, List.setIfInBounds_toArray, List.set_cons_zero, List.set_cons_succ]
      refine takeHD (i := 7) (v := vl k2 n2 s2') (some 71) rfl (by kernel_rfl) (by kernel_rfl) (by kernel_rfl) (by kernel_rfl) (fun _ _ _ h => h) (Or.inl ⟨by kernel_rfl, fun w' hw => ?_⟩) S0 ?_
      · have hc := fun o => (hw.cell (p := ⟨w8.heap.size, o, none⟩) (by simp; omega)).trans (hc9.out o)
        go_simp
      simp only [Act.put, List.setIfInBounds_toArray, List.set_cons_zero, List.set_cons_succ]
      refine takeHD (i := 9) (v := .slice (some ⟨bb, ob, none⟩) cs.length capc) (some 73) rfl (by kernel_rfl) (by kernel_rfl) (by kernel_rfl) (by kernel_rfl) (fun _ _ _ h => h) (Or.inl ⟨by kernel_rfl, fun w _ => by kernel_rfl⟩) S0 ?_
      simp only [Act.put, List.setIfInBounds_toArray, List.set_cons_zero, List.set_cons_succ]
      refine takeHD (i := 10) (v := .int .i64 p) (some 74) rfl (by kernel_rfl) (by kernel_rfl) (by kernel_rfl) (by kernel_rfl) (fun _ _ _ h => h) (Or.inl ⟨by kernel_rfl, fun w _ => by kernel_rfl⟩) S0 ?_
      simp only [Act.put, List.setIfInBounds_toArray, List.set_cons_zero, List.set_cons_succ]
      refine takeHD (i := 11) (v := .int .i64 ((p + m : Nat) : Int)) (some 75) rfl (by kernel_rfl) (by kernel_rfl) (by kernel_rfl) (by kernel_rfl) (fun _ _ _ h => h) (Or.inl ⟨by kernel_rfl, fun w _ => by kernel_rfl⟩) S0 ?_
      simp only [Act.put, List.setIfInBounds_toArray, List.set_cons_zero, List.set_cons_succ]
      refine takeHD (i := 12) (v := .slice (some ⟨bb, ob + p, none⟩) m (capc - p)) (some 76) rfl (by kernel_rfl) (by kernel_rfl) (by kernel_rfl) (by kernel_rfl) (fun _ _ _ h => h) (Or.inl ⟨by kernel_rfl, fun w _ => ?_⟩) S0 ?_
      · try simp only [Act.put, List.setIfInBounds_toArray]
        go_simp
        rw [if_pos ⟨by omega, by omega⟩, if_pos (by omega), if_neg (by omega), show ((p : Int) + (m : Int)).toNat - p = m by omega]
      simp only [Act.put, List.setIfInBounds_toArray, List.set_cons_zero, List.set_cons_succ]
      refine wpAnyH_ready (rs := [6]) (by kernel_rfl) (by simp) ?_
      refine AllReadyH.cons rfl (fun K hK => ?_) AllReadyH.nil
      rw [if_pos (by kernel_rfl)]
      try simp only [Act.put, List.setIfInBounds_toArray]
      go_wp2_with fail
      have S1 : Below (w9.heap.size + 1) (boxed w9 k2 n2 s2' 25) ((boxed w9 k2 n2 s2' 25).alloc (.cells #[] 5)).drew := ((Below.refl _ _).alloc (by simp) _).trans (Below.drewSelf _ _ 1)
      refine hK.out _ _ S1 (fun _ => ?_)
      clear hK K S0
      refine wpAnyH_ready (rs := [8]) (by kernel_rfl) (by simp) ?_
      refine AllReadyH.cons rfl (fun K hK => ?_) AllReadyH.nil
      rw [if_pos (by kernel_rfl)]
      try simp only [Act.put, List.setIfInBounds_toArray]
      go_wp2_with fail
      refine (implPutVal_any _ [] k2 n2 s2' _ (Bs.empty _ _ _ (by decide)) (by simp) (by omega)).mono ?_
      rintro e wa ⟨q, rfl, hOq, hba⟩
      have S2 : Below (w9.heap.size + 1) (boxed w9 k2 n2 s2' 25) wa := S1.trans (hba.mono (by simp))
      rw [List.nil_append] at hOq
      have HBq := Hid.mk (hOq.bs hvb2)
      have HPa := Hid.mk (HPart.out.grow (S2.mono (by simp)))
      refine hK.out _ _ S2 (fun _ => ?_)
      clear hK K S1 hba hOq HPart
      refine wpAnyH_ready (rs := [13]) (by kernel_rfl) (by simp) ?_
      refine AllReadyH.cons rfl (fun K hK => ?_) AllReadyH.nil
      rw [if_pos (by kernel_rfl)]
      try simp only [Act.put, List.setIfInBounds_toArray]
      go_wp2_with fail
      refine (sameBytes_same _ _ _ _ HBq.out HPa.out).mono ?_
      rintro e wb ⟨rfl, nb, hwb⟩
      have S3 : Below (w9.heap.size + 1) (boxed w9 k2 n2 s2' 25) wb := S2.trans (by rw [hwb]; exact Below.drewSelf _ _ _)
      refine hK.out _ _ S3 (fun _ => ?_)
      clear hK K hwb HBq HPa
      refine takeHD (i := 14) (v := .bool false) (some 78) rfl (by kernel_rfl) (by kernel_rfl) (by kernel_rfl) (by kernel_rfl) (fun _ _ _ h => h) (Or.inl ⟨by kernel_rfl, fun w _ => by kernel_rfl⟩) S3 ?_
      simp only [Act.put, List.setIfInBounds_toArray, List.set_cons_zero, List.set_cons_succ]
      refine takeHD (i := 15) (v := .bool false) (some 79) rfl (by kernel_rfl) (by kernel_rfl) (by kernel_rfl) (by kernel_rfl) (fun _ _ _ h => h) (Or.inl ⟨by kernel_rfl, fun w _ => by kernel_rfl⟩) S3 ?_
      simp only [Act.put, List.setIfInBounds_toArray, List.set_cons_zero, List.set_cons_succ]
      refine takeHD (i := 16) (v := .bool false) (some 80) rfl (by kernel_rfl) (by kernel_rfl) (by kernel_rfl) (by kernel_rfl) (fun _ _ _ h => h) (Or.inl ⟨by kernel_rfl, fun w _ => by kernel_rfl⟩) S3 ?_
      simp only [Act.put, List.setIfInBounds_toArray, List.set_cons_zero, List.set_cons_succ]
      refine wpAnyH_done (by kernel_rfl) ?_ _
      have C12 : Hid (Below (w6.heap.size + 1) (boxed w6 2 0 tx 25) wb) := C9.out.trans (S3.mono (by omega))
      have B12 : Hid (Below w.heap.size w wb) := B9.out.trans (S3.mono (by have := B9.out.size; omega))
      clear C9 B9 Y9 S2 S3 hc9
      go_wp2_with fail
      have hA := fun o => (C12.out.cell (p := ⟨w2.heap.size, o, none⟩) (by simp; omega)).trans (HA6.out o)
      have hX := fun o => (C12.out.cell (p := ⟨w5.heap.size, o, none⟩) (by simp; omega)).trans (HX6.out o)
      have hT := fun o => C12.out.cell (p := ⟨w6.heap.size, o, none⟩) (by simp)
      have a0 := cell_regrown (w := wb) (a := ⟨w2.heap.size, 0, none⟩) (v := .int .i64 k) (by rw [hA]; simp)
      have a1 := cell_regrown (w := wb) (a := ⟨w2.heap.size, 1, none⟩) (v := .int .i64 n) (by rw [hA]; simp)
      have a2 := cell_regrown (w := wb) (a := ⟨w2.heap.size, 2, none⟩) (v := .string s) (by rw [hA]; simp)
      have x0 := cell_regrown (w := wb) (a := ⟨w5.heap.size, 0, none⟩) (v := .int .i64 k) (by rw [hX]; simp)
      have x1 := cell_regrown (w := wb) (a := ⟨w5.heap.size, 1, none⟩) (v := .int .i64 n) (by rw [hX]; simp)
      have x2 := cell_regrown (w := wb) (a := ⟨w5.heap.size, 2, none⟩) (v := .string s) (by rw [hX]; simp)
      have t0 := cell_regrown (w := wb) (a := ⟨w6.heap.size, 0, none⟩) (v := .int .i64 2) (by rw [hT]; simp)
      have t1 := cell_regrown (w := wb) (a := ⟨w6.heap.size, 1, none⟩) (v := .int .i64 0) (by rw [hT]; simp)
      have t2 := cell_regrown (w := wb) (a := ⟨w6.heap.size, 2, none⟩) (v := .string tx) (by rw [hT]; simp)
      have HTl := Hid.mk (HT6.out.grow (C12.out.mono (by simp)))
      have cV := Hid.mk (fun d os => Calls.regrown_of (w := wb) (d := d) (os := os) (HIo.out _))
      have cN := Hid.mk (fun d os => Calls.regrown_of (w := wb) (d := d) (os := os) (implNumOf_any 2 0 tx _ (by omega)))
      have cM := Hid.mk (fun d os => Calls.regrown_of (w := wb) (d := d) (os := os) (implNumOf_any k n s _ (by have := HF.out.2.2; omega)))
      have cT := Hid.mk (fun d os => Calls.regrown_of (implTextOf_any 2 0 tx _ ⟨by omega, by omega⟩ (HTl.out.grow (below_regrown wb d os))))
      have cU := Hid.mk (fun d os => Calls.regrown_of (implTextOf_any k n s _ ⟨HF.out.1, HF.out.2.1⟩ (HTl.out.grow (below_regrown wb d os))))
      rw [HNt.out] at cN
      rw [text_of_text] at cT
      rw [HTx.out] at cU
      have hnn : (numV k n s == numV k n s) = true := by simp
      have hll : (((ps.length : Nat) : Int) == ((ps.length : Nat) : Int)) = true := by simp
      have htt : (tx.toList == tx.toList) = true := by simp
      clear hA hX hT HTl
      refine wp_region_quiet_below (by kernel_rfl) (by kernel_rfl) ?_
      quiet_step (fail)
      quiet_step (fail)
      quiet_step (fail)
      quiet_step (fail)
      quiet_step (fail)
      quiet_step (fail)
      quiet_step (fail)
      quiet_step (fail)
      quiet_step (fail)
      quiet_step (fail)
      quiet_step (fail)
      quiet_step (fail)
      quiet_step (fail)
      quiet_step (fail)
      quiet_step (exact cV.out _ _)
      quiet_step (fail)
      quiet_step (fail)
      quiet_step (fail)
      quiet_step (exact cN.out _ _)
      quiet_step (fail)
      quiet_step (exact cM.out _ _)
      quiet_step (fail)
      quiet_step (fail)
      quiet_step (fail)
      quiet_step (fail)
      quiet_step (exact cT.out _ _)
      quiet_step (fail)
      quiet_step (exact cU.out _ _)
      quiet_step (fail)
      quiet_step (fail)
      quiet_step (fail)
      refine wpQuiet_nil ?_
      intro wz hw'
      obtain ⟨⟨dq, osq⟩, hw''⟩ := hw'
      have hbz : Below wb.heap.size wb wz := by rw [hw'']; exact below_regrown _ _ _
      have BZ := B12.out.trans (hbz.mono B12.out.size)
      clear hw'' a0 a1 a2 x0 x1 x2 t0 t1 t2 cV cN cM cT cU hbz
      go_wp2
      go_ret
      exact ⟨rfl, BZ⟩

theorem fnVals_walk (v : Value) (zs : List Int) (w : World) (h : Bs w v zs) (ht : Tab w) :
    Calls Tryd.prog 3 #[v] w fun e w' => e = .returned (.bool true) ∧ Below w.heap.size w w' := by
  by_cases hlen : zs.length ≤ 1048576
  · exact fnVals_small v zs w h hlen ht
  · have hd : decide ((1048576 : Int) < zs.length) = true := by simp; omega
    have HB := Hid.mk (big_any v zs w h)
    rw [hd] at HB
    clear hd h
    go_enter Tryd.func3, Tryd.ntmps3
    go_wp2_with fail
    refine HB.out.mono ?_
    rintro e w1 ⟨rfl, hw⟩
    obtain rfl := hw.symm
    clear hw HB
    go_wp2
    go_ret
    exact ⟨rfl, Below.refl _ _⟩
end Go.Proofs.YtincoibidgkiaaaDoor
