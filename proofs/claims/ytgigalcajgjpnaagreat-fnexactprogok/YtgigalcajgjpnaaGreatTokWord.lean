/- Tokens: names, and texts of bytes that are printed, as the program asks it and as the document's model does. -/
import Derived.Test.YtgigalcajgjpnaaGreatTokDef
namespace Go.Proofs.YtgigalcajgjpnaaGreat
open Go.RowKit
set_option maxRecDepth 8000

theorem sEmp (s : ByteArray) : s.toList.isEmpty = true ∧ s.size = 0 ∨ s.toList.isEmpty = false ∧ s.size ≠ 0 := by
  have h2 : s.toList = s.data.toList := ByteArray.toList_eq s
  have h3 : s.size = s.data.toList.length := by rw [Array.length_toList]; rfl
  rw [h2, h3]
  cases s.data.toList <;> simp
theorem pn_yes {e c : Int} (h0 : 32 ≤ c) (h1 : c ≤ 126) (h2 : c ≠ e) : pnB e c = true := by simp [pnB, bwB, h0, h1, h2]
theorem pn_case (e c : Int) : (pnB e c = true ∧ 32 ≤ c ∧ c ≤ 126 ∧ c ≠ e) ∨ (pnB e c = false ∧ c < 32) ∨ (pnB e c = false ∧ 32 ≤ c ∧ 126 < c) ∨ (pnB e c = false ∧ 32 ≤ c ∧ c ≤ 126 ∧ c = e) := by
  by_cases h0 : 32 ≤ c
  · by_cases h1 : c ≤ 126
    · by_cases h2 : c = e
      · exact .inr (.inr (.inr ⟨by simp [pnB, h2], h0, h1, h2⟩))
      · exact .inl ⟨pn_yes h0 h1 h2, h0, h1, h2⟩
    · exact .inr (.inr (.inl ⟨by simp [pnB, bwB]; omega, h0, by omega⟩))
  · exact .inr (.inl ⟨by simp [pnB, bwB]; omega, by omega⟩)

set_option maxHeartbeats 1000000 in
theorem isPlain_any (s : ByteArray) (e : Int) (w : World) (hs : s.size ≤ maxLen) : Calls Tryz.prog 171 #[.string s, .int .u8 e] w fun r w' => r = .returned (.bool (allB (pnB e) s)) ∧ w' = w := by
  unfold maxLen at hs
  have HY := Hid.mk (fun h => allB_yes (p := pnB e) (s := s) h)
  have HNo := Hid.mk (fun j hj h => allB_no (p := pnB e) (s := s) (j := j) hj h)
  generalize allB (pnB e) s = R at *
  go_enter Tryz.func171, Tryz.ntmps171
  go_wp2
  go_loop [8] (fun i => ∃ k : Nat, i = .int .i64 k ∧ k ≤ s.size ∧ Hid (∀ j, j < k → pnB e ((txt s).getD j 0) = true)) (fun i => s.size - (intOf i).toNat)
  case atStart => exact ⟨0, rfl, Nat.zero_le _, fun j hj => by omega⟩
  case round =>
    obtain ⟨k, rfl, hk, HA⟩ := hrel
    by_cases hlt : k < s.size
    · have hc := byte_txt s k hlt
      have hr := byte_range s k hlt
      have HN1 := Hid.mk (HNo.out k hlt)
      have HY1 : Hid (pnB e ((txt s).getD k 0) = true → ∀ j, j < k + 1 → pnB e ((txt s).getD j 0) = true) := fun h j hj => by
        by_cases e1 : j = k
        · subst e1; exact h
        · exact HA.out j (by omega)
      generalize (txt s).getD k 0 = c at hc hr HN1 HY1
      have hki : (k : Int) < (s.size : Int) := by omega
      rcases pn_case e c with ⟨h, h0, h1, h2⟩ | ⟨h, h0⟩ | ⟨h, h0, h1⟩ | ⟨h, h0, h1, h2⟩
      · have HA2 := Hid.mk (HY1.out h)
        have h2' : (c == e) = false := by simpa using h2
        clear HN1 HY1 h h2 HA
        go_wp2
        go_round
        case rel => exact ⟨k + 1, by go_num, by omega, HA2⟩
        case measure => simp [intOf]; omega
      · have HF := Hid.mk (HN1.out h)
        clear HN1 HY1 h HA
        go_wp2
        go_ret
        exact ⟨ret_tb HF.out.symm, rfl⟩
      · have HF := Hid.mk (HN1.out h)
        clear HN1 HY1 h HA
        go_wp2
        go_ret
        exact ⟨ret_tb HF.out.symm, rfl⟩
      · have HF := Hid.mk (HN1.out h)
        have h2' : (c == e) = true := by simpa using h2
        clear HN1 HY1 h HA h2
        go_wp2
        go_ret
        exact ⟨ret_tb HF.out.symm, rfl⟩
    · have HF := Hid.mk (HY.out fun j hj => HA.out j (by omega))
      clear HA HY HNo
      go_wp2
      go_ret
      exact ⟨ret_tb HF.out.symm, rfl⟩

theorem nameB_empty {s : ByteArray} (h : s.size = 0) : nameB s = false := by simp [nameB, bwB, h]
theorem nameB_long {s : ByteArray} (h : 8 < s.size) : nameB s = false := by simp [nameB, bwB]; omega
theorem nameB_first {s : ByteArray} (h : smB ((txt s).getD 0 0) = false) : nameB s = false := by unfold nameB; rw [h]; simp
theorem nameB_no {s : ByteArray} {j : Nat} (hj : j < s.size) (h : nbB ((txt s).getD j 0) = false) : nameB s = false := by unfold nameB; rw [allB_no hj h]; simp
theorem nameB_yes {s : ByteArray} (h0 : 1 ≤ s.size) (h8 : s.size ≤ 8) (h1 : smB ((txt s).getD 0 0) = true) (h : ∀ j, j < s.size → nbB ((txt s).getD j 0) = true) : nameB s = true := by
  unfold nameB; rw [h1, allB_yes h, bwB_yes (by omega) (by omega)]; rfl

set_option maxHeartbeats 1000000 in
theorem isName_any (s : ByteArray) (w : World) (hs : s.size ≤ maxLen) : Calls Tryz.prog 77 #[.string s] w fun r w' => r = .returned (.bool (nameB s)) ∧ w' = w := by
  unfold maxLen at hs
  have HE := Hid.mk (fun h => nameB_empty (s := s) h)
  have HLo := Hid.mk (fun h => nameB_long (s := s) h)
  have HFi := Hid.mk (fun h => nameB_first (s := s) h)
  have HNo := Hid.mk (fun j hj h => nameB_no (s := s) (j := j) hj h)
  have HY := Hid.mk (fun h0 h8 h1 h => nameB_yes (s := s) h0 h8 h1 h)
  generalize nameB s = R at *
  rcases sEmp s with ⟨he, hz⟩ | ⟨he, hz⟩
  · have HF := Hid.mk (HE.out hz)
    go_enter Tryz.func77, Tryz.ntmps77
    go_wp2
    go_ret
    exact ⟨ret_tb HF.out.symm, rfl⟩
  by_cases h8 : 8 < s.size
  · have HF := Hid.mk (HLo.out h8)
    have h8' : (8 : Int) < (s.size : Int) := by omega
    go_enter Tryz.func77, Tryz.ntmps77
    go_wp2
    go_ret
    exact ⟨ret_tb HF.out.symm, rfl⟩
  have h8' : ¬ (8 : Int) < (s.size : Int) := by omega
  have hp : 0 < s.size := by omega
  have hc0 := byte_txt s 0 hp
  have hr0 := byte_range s 0 hp
  generalize (txt s).getD 0 0 = c0 at hc0 hr0 HFi HY
  cases hsm : smB c0 with
  | false =>
    have HF := Hid.mk (HFi.out hsm)
    have HS := Hid.mk (isSmall_any c0)
    rw [hsm] at HS
    clear hsm HY HNo HFi HLo HE
    go_enter Tryz.func77, Tryz.ntmps77
    go_wp2_with fail
    refine (HS.out _).mono ?_
    rintro e w' ⟨rfl, rfl⟩
    go_wp2
    go_ret
    exact ⟨ret_tb HF.out.symm, rfl⟩
  | true =>
    have HYY := Hid.mk (HY.out (by omega) (by omega) hsm)
    have HS := Hid.mk (isSmall_any c0)
    rw [hsm] at HS
    clear hsm HY HFi HLo HE
    go_enter Tryz.func77, Tryz.ntmps77
    go_wp2_with fail
    refine (HS.out _).mono ?_
    rintro e w' ⟨rfl, rfl⟩
    clear HS
    go_wp2
    go_loop [19] (fun i => ∃ k : Nat, i = .int .i64 k ∧ k ≤ s.size ∧ Hid (∀ j, j < k → nbB ((txt s).getD j 0) = true)) (fun i => s.size - (intOf i).toNat)
    case atStart => exact ⟨0, rfl, Nat.zero_le _, fun j hj => by omega⟩
    case round =>
      obtain ⟨k, rfl, hk, HA⟩ := hrel
      by_cases hlt : k < s.size
      · have hc := byte_txt s k hlt
        have hr := byte_range s k hlt
        have HN1 := Hid.mk (HNo.out k hlt)
        have HY1 : Hid (nbB ((txt s).getD k 0) = true → ∀ j, j < k + 1 → nbB ((txt s).getD j 0) = true) := fun h j hj => by
          by_cases e1 : j = k
          · subst e1; exact h
          · exact HA.out j (by omega)
        generalize (txt s).getD k 0 = c at hc hr HN1 HY1
        have HS := Hid.mk (isNameByte_any c)
        have hki : (k : Int) < (s.size : Int) := by omega
        clear hc0
        cases h : nbB c with
        | true =>
          have HA2 := Hid.mk (HY1.out h)
          rw [h] at HS
          clear HN1 HY1 h HA
          go_wp2_with fail
          refine (HS.out _).mono ?_
          rintro e w' ⟨rfl, rfl⟩
          go_wp2
          go_round
          case rel => exact ⟨k + 1, by go_num, by omega, HA2⟩
          case measure => simp [intOf]; omega
        | false =>
          have HF := Hid.mk (HN1.out h)
          rw [h] at HS
          clear HN1 HY1 h HA
          go_wp2_with fail
          refine (HS.out _).mono ?_
          rintro e w' ⟨rfl, rfl⟩
          go_wp2
          go_ret
          exact ⟨ret_tb HF.out.symm, rfl⟩
      · have HF := Hid.mk (HYY.out fun j hj => HA.out j (by omega))
        clear HA HYY HNo
        go_wp2
        go_ret
        exact ⟨ret_tb HF.out.symm, rfl⟩
end Go.Proofs.YtgigalcajgjpnaaGreat
