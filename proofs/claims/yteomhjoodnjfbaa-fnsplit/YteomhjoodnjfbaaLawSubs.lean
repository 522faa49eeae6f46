/- The law FnSubs walked: a part of a drawn text is one that stands in it; a text cut in two is both parts. -/
import Derived.Test.YteomhjoodnjfbaaLawIndex
import Derived.Test.YteomhjoodnjfbaaLawUpper
import Derived.Test.YteomhjoodnjfbaaLawAt
namespace Go.Proofs.Yteomhjoodnjfbaa
open Go.RowKit
set_option maxRecDepth 8000

theorem nearZ_same {n : Int} (h0 : -1000000 ≤ n) (h1 : n ≤ 1000000) : nearZ n = n := by unfold nearZ; rw [if_neg (by omega), if_neg (by omega)]
/-- A part is found. -/
theorem idx_part (s : ByteArray) (a b : Nat) (ha : a ≤ s.size) : 0 < idxZ s (s.extract a b) := by
  have ho : Lib.occAt s.data.toList (s.extract a b).data.toList a = true := by
    unfold Lib.occAt
    rw [List.isPrefixOf_iff_prefix, ByteArray.data_extract, Array.toList_extract, List.extract_eq_take_drop]
    exact List.take_prefix _ _
  have key : Lib.index s.data.toList (s.extract a b).data.toList ≠ -1 := by
    intro h
    have : ∀ k, Lib.NoOcc s.data.toList (s.extract a b).data.toList k → k ≤ a → False := by
      intro k
      induction hd : a - k generalizing k with
      | zero =>
        intro hn hk
        have e : k = a := by omega
        subst e
        have := Lib.index_hit hn (by rw [dlen]; exact ha) ho
        omega
      | succ d ih =>
        intro hn hk
        by_cases hoc : Lib.occAt s.data.toList (s.extract a b).data.toList k = true
        · have := Lib.index_hit hn (by rw [dlen]; omega) hoc
          omega
        · exact ih (k + 1) (by omega) (hn.succ (by simpa using hoc)) (by omega)
    exact this 0 (Lib.NoOcc.zero _ _) (Nat.zero_le _)
  have := Lib.index_ge s.data.toList (s.extract a b).data.toList
  unfold idxZ
  omega
theorem idx_sub (s : ByteArray) (f n : Int) : 0 < idxZ s (subS s f n) := by
  unfold subS
  split
  · have := idx_part s 0 0 (Nat.zero_le _)
    have e : s.extract 0 0 = ⟨#[]⟩ := by
      apply ByteArray.ext
      simp
    rw [e] at this
    exact this
  · rename_i h
    have h1 : subA f - 1 ≤ s.size := by
      have : subB s f n ≤ (s.size : Int) + 1 := by unfold subB; split <;> omega
      omega
    have h2 : 1 ≤ subA f := by unfold subA; split <;> omega
    exact idx_part s _ _ (by omega)
theorem sub_two (s : ByteArray) (k : Nat) (hk : k ≤ s.size) (hs : s.size ≤ 1000) : subS s 1 (k : Int) ++ subS s ((k : Int) + 1) (s.size : Int) = s := by
  have e1 : subS s 1 (k : Int) = s.extract 0 k := by
    unfold subS subA subB
    rw [nearZ_same (n := 1) (by omega) (by omega), nearZ_same (n := (k : Int)) (by omega) (by omega), if_neg (show ¬ (1 : Int) < 1 by omega), if_neg (show ¬ (s.size : Int) + 1 < 1 + (k : Int) by omega)]
    split
    · have : k = 0 := by omega
      subst this
      apply ByteArray.ext
      simp
    · congr 1
      omega
  have e2 : subS s ((k : Int) + 1) (s.size : Int) = s.extract k s.size := by
    unfold subS subA subB
    rw [nearZ_same (n := (k : Int) + 1) (by omega) (by omega), nearZ_same (n := (s.size : Int)) (by omega) (by omega), if_neg (show ¬ (k : Int) + 1 < 1 by omega)]
    by_cases h : (s.size : Int) + 1 < (k : Int) + 1 + (s.size : Int)
    · rw [if_pos h]
      split
      · have : k = s.size := by omega
        subst this
        apply ByteArray.ext
        simp
      · congr 1 <;> omega
    · rw [if_neg h]
      have hk0 : k = 0 := by omega
      subst hk0
      split
      · have : s.size = 0 := by omega
        apply ByteArray.ext
        rw [ByteArray.data_extract]
        apply Array.ext'
        simp [this]
      · congr 1
        omega
  rw [e1, e2]
  apply ByteArray.ext
  rw [ByteArray.data_append, ByteArray.data_extract, ByteArray.data_extract]
  apply Array.ext'
  rw [Array.toList_append, Array.toList_extract, Array.toList_extract, List.extract_eq_take_drop, List.extract_eq_take_drop, List.drop_zero, Nat.sub_zero, List.take_of_length_le (l := s.data.toList.drop k) (by rw [List.length_drop, dlen]; omega), List.take_append_drop]
theorem upZ_twice (c : Int) : upZ (upZ c) = upZ c := by
  unfold upZ
  split
  · rw [if_neg (by omega)]
  · rfl
theorem up_twice (s : ByteArray) : upS (upS s) = upS s := by
  have e0 : txt (upS s) = upL s := txt_strOf6 _ (upL_byte s)
  show strOf ((txt (upS s)).map upZ) = strOf (upL s)
  rw [e0]
  congr 1
  unfold upL
  rw [List.map_map]
  apply List.map_congr_left
  intro c _
  exact upZ_twice c

set_option maxHeartbeats 2000000 in
theorem fnSubs_walk (v : Value) (zs : List Int) (m : Int) (w : World) (h : Bs w v zs) (hm : w.cell? ⟨0, 0, none⟩ = some (.int .i64 m)) :
    Calls Try.prog 7 #[v] w fun e w' => e = .returned (.bool true) ∧ Below w.heap.size w w' := by
  have H := Hid.mk h
  have HB := Hid.mk (big_any v zs w h)
  have HM := Hid.mk hm
  clear hm
  obtain ⟨_, ao, cap, rfl, -⟩ := h
  by_cases hlen : zs.length ≤ 1048576
  · have hd : decide ((1048576 : Int) < zs.length) = false := by simp; omega
    rw [hd] at HB
    clear hd
    have HD := Hid.mk (drawSubText_any _ zs w H.out hlen)
    go_enter Try.func7, Try.ntmps7
    go_wp2_with fail
    refine HB.out.mono ?_
    rintro e w1 ⟨rfl, hw⟩
    obtain rfl := hw.symm
    clear hw HB
    go_wp2_with fail
    refine HD.out.mono ?_
    rintro e w2 ⟨s, f, n, rfl, hs, hb2⟩
    have B2 := Hid.mk hb2
    clear hb2 HD
    have HI := Hid.mk (implSubText_any s f n w2 (by omega))
    have HS := Hid.mk (fun w' => specSubText_any s f n w' (by omega))
    have HX := Hid.mk (idx_sub s f n)
    have hts : (subS s f n).size ≤ 16 := by
      unfold subS
      split
      · exact Nat.zero_le _
      · rw [ByteArray.size_extract]; omega
    generalize subS s f n = t at *
    go_wp2_with fail
    refine HI.out.mono ?_
    rintro e w3 ⟨rfl, hb3⟩
    have B3 := Hid.mk (B2.out.trans (hb3.mono B2.out.size))
    have HA := Hid.mk (at_any _ zs w3 (H.out.grow B3.out) hlen)
    clear hb3 HI B2
    go_wp2_with fail
    refine HA.out.mono ?_
    rintro e w4 ⟨x, rfl, hx0, hx1, hw4⟩
    obtain rfl := hw4.symm
    clear hw4 HA H
    obtain ⟨k, hk⟩ : ∃ k : Nat, x.tmod ((s.size : Int) + 1) = (k : Int) ∧ k ≤ s.size := by
      rw [Int.tmod_eq_emod_of_nonneg hx0]
      have h1 := Int.emod_nonneg x (show (s.size : Int) + 1 ≠ 0 by omega)
      have h2 := Int.emod_lt_of_pos x (show 0 < (s.size : Int) + 1 by omega)
      exact ⟨(x % ((s.size : Int) + 1)).toNat, by omega, by omega⟩
    obtain ⟨hk1, hk2⟩ := hk
    have hnz : ¬ ((s.size : Int) + 1 = 0) := by omega
    have htt : (t.toList == t.toList) = true := by simp
    go_wp2_with fail
    refine (HS.out _).mono ?_
    rintro e w5 ⟨rfl, hw5⟩
    obtain rfl := hw5.symm
    clear hw5 HS
    have HIX := Hid.mk (implIndexOf_any s t m w3 (by omega) (keep_max HM.out B3.out))
    generalize idxZ s t = z at HX HIX
    have hz : 0 < z := HX.out
    go_wp2_with fail
    refine HIX.out.mono ?_
    rintro e w6 ⟨rfl, hw6⟩
    obtain rfl := hw6.symm
    clear hw6 HIX HX
    have HT1 := Hid.mk (fun w' => implSubText_any s 1 (k : Int) w' (by omega))
    have HT2 := Hid.mk (fun w' => implSubText_any s ((k : Int) + 1) (s.size : Int) w' (by omega))
    have h2s := sub_two s k hk2 (by omega)
    have hsz := congrArg ByteArray.size h2s
    rw [ByteArray.size_append] at hsz
    generalize subS s 1 (k : Int) = p1 at *
    generalize subS s ((k : Int) + 1) (s.size : Int) = p2 at *
    have hcat : ¬ 9223372036854775807 < p1.size + p2.size := by omega
    have hss : (s.toList == s.toList) = true := by simp
    go_wp2_with fail
    refine (HT1.out _).mono ?_
    rintro e w7 ⟨rfl, hb7⟩
    have B7 := Hid.mk (B3.out.trans (hb7.mono B3.out.size))
    clear hb7 HT1 B3
    go_wp2_with fail
    refine (HT2.out _).mono ?_
    rintro e w8 ⟨rfl, hb8⟩
    have B8 := Hid.mk (B7.out.trans (hb8.mono B7.out.size))
    clear hb8 HT2 B7
    have HU1 := Hid.mk (fun w' => implUpperOf_any s w' (by omega))
    have HU2 := Hid.mk (fun w' => implUpperOf_any (upS s) w' (by rw [upS_size]; omega))
    have hus := upS_size s
    rw [up_twice] at HU2
    generalize upS s = u at *
    have huu : (u.toList == u.toList) = true := by simp
    have husz : ((u.size : Int) == (s.size : Int)) = true := by rw [hus]; simp
    go_wp2_with fail
    refine (HU1.out _).mono ?_
    rintro e w9 ⟨rfl, hb9⟩
    have B9 := Hid.mk (B8.out.trans (hb9.mono B8.out.size))
    clear hb9 B8
    go_wp2_with fail
    refine (HU1.out _).mono ?_
    rintro e w10 ⟨rfl, hb10⟩
    have B10 := Hid.mk (B9.out.trans (hb10.mono B9.out.size))
    clear hb10 B9
    go_wp2_with fail
    refine (HU2.out _).mono ?_
    rintro e w11 ⟨rfl, hb11⟩
    have B11 := Hid.mk (B10.out.trans (hb11.mono B10.out.size))
    clear hb11 B10
    go_wp2_with fail
    refine (HU1.out _).mono ?_
    rintro e w12 ⟨rfl, hb12⟩
    have B12 := Hid.mk (B11.out.trans (hb12.mono B11.out.size))
    clear hb12 B11
    go_wp2
    go_ret
    exact ⟨rfl, B12.out⟩
  · have hd : decide ((1048576 : Int) < zs.length) = true := by simp; omega
    rw [hd] at HB
    clear hd H
    go_enter Try.func7, Try.ntmps7
    go_wp2_with fail
    refine HB.out.mono ?_
    rintro e w1 ⟨rfl, hw⟩
    obtain rfl := hw.symm
    clear hw HB
    go_wp2
    go_ret
    exact ⟨rfl, Below.refl _ _⟩
end Go.Proofs.Yteomhjoodnjfbaa
