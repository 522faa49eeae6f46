/- Tokens: names, and texts of bytes that are printed, as the document's model asks it. -/
import Derived.Test.YtgigalcajgjpnaaGreatTokWord
namespace Go.Proofs.YtgigalcajgjpnaaGreat
open Go.RowKit
set_option maxRecDepth 8000

theorem nameB_end {s : ByteArray} (h : ∀ j, j < s.size → nbB ((txt s).getD j 0) = true) (h1 : 0 < s.size → smB ((txt s).getD 0 0) = true) : bwB 1 8 s.size = nameB s := by
  unfold nameB
  rw [allB_yes h]
  by_cases h0 : 0 < s.size
  · rw [h1 h0]; simp
  · have : s.size = 0 := by omega
    rw [this]; rfl
theorem nb_sm {c : Int} (h : smB c = true) : nbB c = true := by simp [nbB, h]
theorem nb_dg {c : Int} (h : dgB c = true) : nbB c = true := by simp [nbB, h]
theorem nb_no {c : Int} (h : smB c = false) (h1 : dgB c = false) : nbB c = false := by simp [nbB, h, h1]

set_option maxHeartbeats 1000000 in
theorem l7Word_any (s : ByteArray) (w : World) (hs : s.size ≤ maxLen) : Calls Tryz.prog 37 #[.string s] w fun r w' => r = .returned (.bool (nameB s)) ∧ w' = w := by
  unfold maxLen at hs
  have HFi := Hid.mk (fun h => nameB_first (s := s) h)
  have HNo := Hid.mk (fun j hj h => nameB_no (s := s) (j := j) hj h)
  have HY := Hid.mk (fun h0 h1 => nameB_end (s := s) h0 h1)
  generalize nameB s = R at *
  go_enter Tryz.func37, Tryz.ntmps37
  go_wp2
  go_loop [3] (fun i => ∃ k : Nat, i = .int .i64 k ∧ k ≤ s.size ∧ Hid ((∀ j, j < k → nbB ((txt s).getD j 0) = true) ∧ (0 < k → smB ((txt s).getD 0 0) = true))) (fun i => s.size - (intOf i).toNat)
  case atStart => exact ⟨0, rfl, Nat.zero_le _, fun j hj => by omega, fun h => by omega⟩
  case round =>
    obtain ⟨k, rfl, hk, HA⟩ := hrel
    by_cases hlt : k < s.size
    · have hc := byte_txt s k hlt
      obtain ⟨hr0, hr1⟩ := byte_range s k hlt
      have HN1 := Hid.mk (HNo.out k hlt)
      have HY1 : Hid (nbB ((txt s).getD k 0) = true → (k = 0 → smB ((txt s).getD k 0) = true) → (∀ j, j < k + 1 → nbB ((txt s).getD j 0) = true) ∧ (0 < k + 1 → smB ((txt s).getD 0 0) = true)) := fun h h0 => by
        refine ⟨fun j hj => ?_, fun _ => ?_⟩
        · by_cases e1 : j = k
          · subst e1; exact h
          · exact HA.out.1 j (by omega)
        · by_cases e0 : k = 0
          · subst e0; exact h0 rfl
          · exact HA.out.2 (by omega)
      have HF0 : Hid (k = 0 → smB ((txt s).getD k 0) = false → R = false) := fun h h1 => by subst h; exact HFi.out h1
      generalize (txt s).getD k 0 = c at hc hr0 hr1 HN1 HY1 HF0
      have HS := Hid.mk (fun w => l7Small_any c w hr0 hr1)
      have HD := Hid.mk (fun w => l2Dig_any c w hr0 hr1)
      have hki : (k : Int) < (s.size : Int) := by omega
      cases h : smB c with
      | true =>
        have HA2 := Hid.mk (HY1.out (nb_sm h) (fun _ => h))
        rw [h] at HS
        clear HN1 HY1 h HA HF0 HD
        go_wp2_with fail
        refine (HS.out _).mono ?_
        rintro e w' ⟨rfl, rfl⟩
        go_wp2
        go_round
        case rel => exact ⟨k + 1, by go_num, by omega, HA2⟩
        case measure => simp [intOf]; omega
      | false =>
        by_cases hk0 : k = 0
        · have HF := Hid.mk (HF0.out hk0 h)
          have hk1 : ((k : Int) == 0) = true := by simp [hk0]
          rw [h] at HS
          clear HN1 HY1 h HA HD HF0 hk0
          go_wp2_with fail
          refine (HS.out _).mono ?_
          rintro e w' ⟨rfl, rfl⟩
          go_wp2
          go_ret
          exact ⟨ret_tb HF.out.symm, rfl⟩
        · have hk1 : ((k : Int) == 0) = false := by simp; omega
          cases hd : dgB c with
          | true =>
            have HA2 := Hid.mk (HY1.out (nb_dg hd) (fun h => absurd h hk0))
            rw [h] at HS
            rw [hd] at HD
            clear HN1 HY1 h hd HA HF0
            go_wp2_with fail
            refine (HS.out _).mono ?_
            rintro e w' ⟨rfl, rfl⟩
            go_wp2_with fail
            refine (HD.out _).mono ?_
            rintro e w' ⟨rfl, rfl⟩
            go_wp2
            go_round
            case rel => exact ⟨k + 1, by go_num, by omega, HA2⟩
            case measure => simp [intOf]; omega
          | false =>
            have HF := Hid.mk (HN1.out (nb_no h hd))
            rw [h] at HS
            rw [hd] at HD
            clear HN1 HY1 h hd HA HF0
            go_wp2_with fail
            refine (HS.out _).mono ?_
            rintro e w' ⟨rfl, rfl⟩
            go_wp2_with fail
            refine (HD.out _).mono ?_
            rintro e w' ⟨rfl, rfl⟩
            go_wp2
            go_ret
            exact ⟨ret_tb HF.out.symm, rfl⟩
    · have e : k = s.size := by omega
      subst e
      have HF := Hid.mk (HY.out HA.out.1 HA.out.2)
      clear HA HY HNo HFi
      go_wp2_with (go_at_call 65; refine (l1Bw_any _ _ _ _).mono ?_; rintro e w' ⟨rfl, rfl⟩)
      go_ret
      exact ⟨ret_tb HF.out, rfl⟩

/-- A text of bytes that are printed, not too long. -/
def prB (e : Int) (s : ByteArray) : Bool := decide ((s.size : Int) ≤ 200) && allB (pnB e) s
theorem prB_no {e : Int} {s : ByteArray} {j : Nat} (hj : j < s.size) (h : pnB e ((txt s).getD j 0) = false) : prB e s = false := by unfold prB; rw [allB_no hj h]; simp
theorem prB_end {e : Int} {s : ByteArray} (h : ∀ j, j < s.size → pnB e ((txt s).getD j 0) = true) : prB e s = decide ((s.size : Int) ≤ 200) := by unfold prB; rw [allB_yes h]; simp

set_option maxHeartbeats 1000000 in
theorem l7Print_any (s : ByteArray) (e : Int) (w : World) (hs : s.size ≤ maxLen) : Calls Tryz.prog 110 #[.string s, .int .u8 e] w fun r w' => r = .returned (.bool (prB e s)) ∧ w' = w := by
  unfold maxLen at hs
  have HNo := Hid.mk (fun j hj h => prB_no (e := e) (s := s) (j := j) hj h)
  have HY := Hid.mk (fun h => prB_end (e := e) (s := s) h)
  generalize prB e s = R at *
  go_enter Tryz.func110, Tryz.ntmps110
  go_wp2
  go_loop [5] (fun i => ∃ k : Nat, i = .int .i64 k ∧ k ≤ s.size ∧ Hid (∀ j, j < k → pnB e ((txt s).getD j 0) = true)) (fun i => s.size - (intOf i).toNat)
  case atStart => exact ⟨0, rfl, Nat.zero_le _, fun j hj => by omega⟩
  case round =>
    obtain ⟨k, rfl, hk, HA⟩ := hrel
    by_cases hlt : k < s.size
    · have hc := byte_txt s k hlt
      obtain ⟨hr0, hr1⟩ := byte_range s k hlt
      have HN1 := Hid.mk (HNo.out k hlt)
      have HY1 : Hid (pnB e ((txt s).getD k 0) = true → ∀ j, j < k + 1 → pnB e ((txt s).getD j 0) = true) := fun h j hj => by
        by_cases e1 : j = k
        · subst e1; exact h
        · exact HA.out j (by omega)
      generalize (txt s).getD k 0 = c at hc hr0 hr1 HN1 HY1
      have hki : (k : Int) < (s.size : Int) := by omega
      have HI := Hid.mk (l1Bw_any c 32 126)
      rcases pn_case e c with ⟨h, h0, h1, h2⟩ | ⟨h, h0⟩ | ⟨h, h0, h1⟩ | ⟨h, h0, h1, h2⟩
      · have HA2 := Hid.mk (HY1.out h)
        have h2' : (c == e) = false := by simpa using h2
        rw [bwB_yes h0 h1] at HI
        clear HN1 HY1 h h2 HA
        go_wp2_with fail
        refine (HI.out _).mono ?_
        rintro e w' ⟨rfl, rfl⟩
        go_wp2
        go_round
        case rel => exact ⟨k + 1, by go_num, by omega, HA2⟩
        case measure => simp [intOf]; omega
      · have HF := Hid.mk (HN1.out h)
        rw [bwB_lo h0] at HI
        clear HN1 HY1 h HA
        go_wp2_with fail
        refine (HI.out _).mono ?_
        rintro e w' ⟨rfl, rfl⟩
        go_wp2
        go_ret
        exact ⟨ret_tb HF.out.symm, rfl⟩
      · have HF := Hid.mk (HN1.out h)
        rw [bwB_hi h1] at HI
        clear HN1 HY1 h HA
        go_wp2_with fail
        refine (HI.out _).mono ?_
        rintro e w' ⟨rfl, rfl⟩
        go_wp2
        go_ret
        exact ⟨ret_tb HF.out.symm, rfl⟩
      · have HF := Hid.mk (HN1.out h)
        have h2' : (c == e) = true := by simpa using h2
        rw [bwB_yes h0 h1] at HI
        clear HN1 HY1 h HA h2
        go_wp2_with fail
        refine (HI.out _).mono ?_
        rintro e w' ⟨rfl, rfl⟩
        go_wp2
        go_ret
        exact ⟨ret_tb HF.out.symm, rfl⟩
    · have HF := Hid.mk (HY.out fun j hj => HA.out j (by omega))
      clear HA HY HNo
      by_cases h2 : (s.size : Int) ≤ 200
      all_goals
        go_wp2
        go_ret
        exact ⟨ret_tb (by rw [HF.out]; simp [h2]), rfl⟩
end Go.Proofs.YtgigalcajgjpnaaGreat
