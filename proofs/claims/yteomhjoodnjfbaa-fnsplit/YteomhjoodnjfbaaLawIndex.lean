/- The law FnIndex walked: a text is found at a place just if it stands there, and at none ahead of it. -/
import Derived.Test.YteomhjoodnjfbaaIdxTxt
import Derived.Test.YteomhjoodnjfbaaSubTxt
import Derived.Test.YteomhjoodnjfbaaDrawTxt
namespace Go.Proofs.Yteomhjoodnjfbaa
open Go.RowKit
set_option maxRecDepth 8000

/-- The part that is found. -/
theorem subS_found (s t : ByteArray) (k : Nat) (h : k + t.size ≤ s.size) (hs : s.size ≤ 1000) (ho : Lib.occAt s.data.toList t.data.toList k = true) : subS s ((k : Int) + 1) (t.size : Int) = t := by
  have e1 : nearZ ((k : Int) + 1) = (k : Int) + 1 := by unfold nearZ; rw [if_neg (by omega), if_neg (by omega)]
  have e2 : nearZ (t.size : Int) = (t.size : Int) := by unfold nearZ; rw [if_neg (by omega), if_neg (by omega)]
  have eA : subA ((k : Int) + 1) = (k : Int) + 1 := by unfold subA; rw [e1, if_neg (by omega)]
  have eB : subB s ((k : Int) + 1) (t.size : Int) = (k : Int) + 1 + (t.size : Int) := by unfold subB; rw [e1, e2, if_neg (by omega)]
  unfold subS
  rw [eA, eB]
  have hocc := occ_extract s t k
  rw [ho] at hocc
  have hx : s.extract k (k + t.size) = t := by
    have := eq_of_beq hocc
    rw [ByteArray.toList_eq, ByteArray.toList_eq] at this
    apply ByteArray.ext
    exact Array.ext' this
  by_cases h0 : t.size = 0
  · rw [if_pos (by omega)]
    apply ByteArray.ext
    apply Array.ext'
    exact (List.eq_nil_of_length_eq_zero (by rw [Array.length_toList]; exact h0)).symm
  · rw [if_neg (by omega), show ((k : Int) + 1).toNat - 1 = k by omega, show ((k : Int) + 1 + (t.size : Int)).toNat - 1 = k + t.size by omega]
    exact hx
/-- What a package variable holds stays. -/
theorem keep_max {w w' : World} {m : Int} (hm : w.cell? ⟨0, 0, none⟩ = some (.int .i64 m)) (hb : Below w.heap.size w w') : w'.cell? ⟨0, 0, none⟩ = some (.int .i64 m) := by
  rw [hb.cell (p := ⟨0, 0, none⟩) (World.block_lt_of_cell? w _ hm)]
  exact hm

set_option maxHeartbeats 2000000 in
theorem fnIndex_walk (v : Value) (zs : List Int) (m : Int) (w : World) (h : Bs w v zs) (hm : w.cell? ⟨0, 0, none⟩ = some (.int .i64 m)) :
    Calls Try.prog 6 #[v] w fun e w' => e = .returned (.bool true) ∧ Below w.heap.size w w' := by
  have H := Hid.mk h
  have HB := Hid.mk (big_any v zs w h)
  have HM := Hid.mk hm
  clear hm
  obtain ⟨_, ao, cap, rfl, -⟩ := h
  by_cases hlen : zs.length ≤ 1048576
  · have hd : decide ((1048576 : Int) < zs.length) = false := by simp; omega
    rw [hd] at HB
    clear hd
    have HD := Hid.mk (drawIndexOf_any _ zs w H.out hlen)
    go_enter Try.func6, Try.ntmps6
    go_wp2_with fail
    refine HB.out.mono ?_
    rintro e w1 ⟨rfl, hw⟩
    obtain rfl := hw.symm
    clear hw HB
    go_wp2_with fail
    refine HD.out.mono ?_
    rintro e w2 ⟨s, t, rfl, hs, ht, hb2⟩
    have B2 := Hid.mk hb2
    have M2 := Hid.mk (keep_max HM.out hb2)
    clear hb2 HD H HM
    have HI := Hid.mk (implIndexOf_any s t m w2 (by omega) M2.out)
    have HS := Hid.mk (specIndexOf_any s t w2 (by omega) (by omega))
    have HO := Hid.mk (fun k => occ_extract s t k)
    have HH := Hid.mk (fun k => idx_hit s t k)
    have HP := Hid.mk (fun k => idx_past s t k)
    have HF := Hid.mk (fun k h1 h2 => subS_found s t k h1 (by omega) h2)
    generalize idxZ s t = z at *
    clear M2
    go_wp2_with fail
    refine HI.out.mono ?_
    rintro e w3 ⟨rfl, hw3⟩
    obtain rfl := hw3.symm
    clear hw3 HI
    go_wp2_with fail
    refine HS.out.mono ?_
    rintro e w4 ⟨rfl, hw4⟩
    obtain rfl := hw4.symm
    clear hw4 HS
    have hzz : (z != z) = false := by simp
    go_wp2
    go_loop [6] (fun i => ∃ k : Nat, i = .int .i64 k ∧ k ≤ s.size + 1 ∧ Hid (Lib.NoOcc s.data.toList t.data.toList k)) (fun i => s.size + 2 - (intOf i).toNat)
    case atStart => exact ⟨0, rfl, by omega, Lib.NoOcc.zero _ _⟩
    case round =>
      obtain ⟨k, rfl, hk, HN⟩ := hrel
      by_cases hlt : (k : Int) + (t.size : Int) ≤ (s.size : Int)
      · have hle : k + t.size ≤ s.size := by omega
        have ho := HO.out k
        by_cases hoc : Lib.occAt s.data.toList t.data.toList k = true
        · rw [hoc] at ho
          have hz : z = (k : Int) + 1 := HH.out k HN.out (by omega) hoc
          have HC := Hid.mk (implSubText_any s ((k : Int) + 1) (t.size : Int) w2 (by omega))
          rw [HF.out k hle hoc] at HC
          subst hz
          have htt : (t.toList == t.toList) = true := by simp
          have hkk : (((k : Int) + 1) == ((k : Int) + 1)) = true := by simp
          clear HO HH HP HF hoc hzz
          go_wp2_with fail
          refine HC.out.mono ?_
          rintro e w5 ⟨rfl, hb5⟩
          have B5 := Hid.mk (B2.out.trans (hb5.mono B2.out.size))
          clear hb5 HC B2
          go_wp2
          go_ret
          exact ⟨rfl, B5.out⟩
        · have hoc' : Lib.occAt s.data.toList t.data.toList k = false := by simpa using hoc
          rw [hoc'] at ho
          have HN1 := Hid.mk (Lib.NoOcc.succ HN.out hoc')
          clear HO HH HP HF hoc hoc'
          go_wp2
          go_round
          case rel => exact ⟨k + 1, by go_num, by omega, HN1⟩
          case measure => simp [intOf]; omega
      · have hz : z = 0 := HP.out k HN.out (by omega)
        subst hz
        clear HO HH HP HF
        go_wp2
        go_ret
        exact ⟨rfl, B2.out⟩
  · have hd : decide ((1048576 : Int) < zs.length) = true := by simp; omega
    rw [hd] at HB
    clear hd H
    go_enter Try.func6, Try.ntmps6
    go_wp2_with fail
    refine HB.out.mono ?_
    rintro e w1 ⟨rfl, hw⟩
    obtain rfl := hw.symm
    clear hw HB
    go_wp2
    go_ret
    exact ⟨rfl, Below.refl _ _⟩
end Go.Proofs.Yteomhjoodnjfbaa
