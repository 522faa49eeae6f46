/- One token read: the model's l7Run, l7Int, l7Quoted, l7One. -/
import Derived.Test.YtapcbblfcmdbnaaDoorLexDef
import Derived.Test.YtapcbblfcmdbnaaDoorTokLeaf
namespace Go.Proofs.YtapcbblfcmdbnaaDoor
open Go.RowKit
set_option maxRecDepth 8000

def runB (b : Bool) (c : Int) : Bool := dgB c || (b && smB c)

set_option maxHeartbeats 1000000 in
theorem l7Run_any (s : ByteArray) (p : Nat) (b : Bool) (w : World) (hs : s.size ≤ maxLen) (hp : p ≤ s.size) :
    Calls Tryd.prog 59 #[.string s, .int .i64 (p : Int), .bool b] w fun e w' => e = .returned (.int .i64 ((tw (runB b) s p : Nat) : Int)) ∧ w' = w := by
  unfold maxLen at hs
  have HSt := Hid.mk (fun k h hq => tw_step (q := runB b) (s := s) (p := k) h hq)
  have HSo := Hid.mk (fun k h hq => tw_stop (q := runB b) (s := s) (p := k) h hq)
  have HEn := Hid.mk (fun k h => tw_end (q := runB b) (s := s) (p := k) h)
  obtain ⟨R, hR⟩ : ∃ R, tw (runB b) s p = R := ⟨_, rfl⟩
  have HR := Hid.mk hR
  rw [hR]
  clear hR
  go_enter Tryd.func59, Tryd.ntmps59
  go_wp2
  go_loop [1] (fun i => ∃ k : Nat, i = .int .i64 k ∧ k ≤ s.size ∧ Hid (tw (runB b) s k = R)) (fun i => s.size - (intOf i).toNat)
  case atStart => exact ⟨p, rfl, hp, HR⟩
  case round =>
    obtain ⟨k, rfl, hk, HK⟩ := hrel
    clear HR
    by_cases hlt : k < s.size
    · have hc := byte_txt s k hlt
      obtain ⟨hr0, hr1⟩ := byte_range s k hlt
      have hki : (k : Int) < (s.size : Int) := by omega
      obtain ⟨c, hcc⟩ : ∃ c, bt s k = c := ⟨_, rfl⟩
      have hc' : ((s[k].toNat : Nat) : Int) = c := hc.trans hcc
      have HD := Hid.mk (fun w => l2Dig_any c w (by rw [← hcc]; exact hr0) (by rw [← hcc]; exact hr1))
      have HSS := Hid.mk (fun w => l7Small_any c w (by rw [← hcc]; exact hr0) (by rw [← hcc]; exact hr1))
      clear hc hr0 hr1
      cases hd : dgB c with
      | true =>
        have HK2 := Hid.mk ((HSt.out k hlt (by rw [hcc]; simp [runB, hd])).symm.trans HK.out)
        rw [hd] at HD
        clear HK hcc hd HSS
        go_wp2_with fail
        refine (HD.out _).mono ?_
        rintro e w' ⟨rfl, rfl⟩
        go_wp2
        go_round
        case rel => exact ⟨k + 1, by go_num, by omega, HK2⟩
        case measure => simp [intOf]; omega
      | false =>
        rw [hd] at HD
        cases b with
        | false =>
          have HF := Hid.mk ((HSo.out k hlt (by rw [hcc]; simp [runB, hd])).symm.trans HK.out)
          clear HK hcc hd HSS
          go_wp2_with fail
          refine (HD.out _).mono ?_
          rintro e w' ⟨rfl, rfl⟩
          go_wp2
          go_ret
          exact ⟨by rw [← HF.out]; rfl, rfl⟩
        | true =>
          cases hsm : smB c with
          | true =>
            have HK2 := Hid.mk ((HSt.out k hlt (by rw [hcc]; simp [runB, hsm])).symm.trans HK.out)
            rw [hsm] at HSS
            clear HK hcc hd hsm
            go_wp2_with fail
            refine (HD.out _).mono ?_
            rintro e w' ⟨rfl, rfl⟩
            go_wp2_with fail
            refine (HSS.out _).mono ?_
            rintro e w' ⟨rfl, rfl⟩
            go_wp2
            go_round
            case rel => exact ⟨k + 1, by go_num, by omega, HK2⟩
            case measure => simp [intOf]; omega
          | false =>
            have HF := Hid.mk ((HSo.out k hlt (by rw [hcc]; simp [runB, hd, hsm])).symm.trans HK.out)
            rw [hsm] at HSS
            clear HK hcc hd hsm
            go_wp2_with fail
            refine (HD.out _).mono ?_
            rintro e w' ⟨rfl, rfl⟩
            go_wp2_with fail
            refine (HSS.out _).mono ?_
            rintro e w' ⟨rfl, rfl⟩
            go_wp2
            go_ret
            exact ⟨by rw [← HF.out]; rfl, rfl⟩
    · have HF := Hid.mk ((HEn.out k (by omega)).symm.trans HK.out)
      have hki : ¬ (k : Int) < (s.size : Int) := by omega
      clear HSt HSo HEn HK
      go_wp2
      go_ret
      exact ⟨by rw [← HF.out]; rfl, rfl⟩

/-- The number of the first k bytes, as digits. -/
def dv (s : ByteArray) : Nat → Int
  | 0 => 0
  | k + 1 => dv s k * 10 + (bt s k - 48)
/-- The number that a text of digits is; -1: it is none, or too great. -/
def niB (s : ByteArray) : Int := if (1 ≤ s.size ∧ s.size ≤ 10) ∧ ¬ (1 < s.size ∧ bt s 0 = 48) then dv s s.size else -1
theorem dv_bd (s : ByteArray) (h : ∀ j, j < s.size → dgB (bt s j) = true) : ∀ k, k ≤ s.size → 0 ≤ dv s k ∧ dv s k < 10 ^ k
  | 0, _ => by simp [dv]
  | k + 1, hk => by
    have ih := dv_bd s h k (by omega)
    have hd := h k (by omega)
    simp [dgB, bwB] at hd
    rw [dv, Int.pow_succ]
    omega

set_option maxHeartbeats 1000000 in
theorem l7Int_any (s : ByteArray) (w : World) (hs : s.size ≤ maxLen) (hd : ∀ j, j < s.size → dgB (bt s j) = true) :
    Calls Tryd.prog 60 #[.string s] w fun e w' => e = .returned (.int .i64 (niB s)) ∧ w' = w := by
  unfold maxLen at hs
  have HL := Hid.mk (l1Bw_any (s.size : Int) 1 10)
  by_cases hlen : 1 ≤ s.size ∧ s.size ≤ 10
  · rw [bwB_yes (by omega) (by omega)] at HL
    have hc0 := byte_txt s 0 (by omega)
    have hd0 := hd 0 (by omega)
    simp [dgB, bwB] at hd0
    obtain ⟨c0, hcc0⟩ : ∃ c0, bt s 0 = c0 := ⟨_, rfl⟩
    have hc0' : ((s[0].toNat : Nat) : Int) = c0 := hc0.trans hcc0
    clear hc0
    by_cases hz : 1 < s.size ∧ c0 = 48
    · have HN : Hid (niB s = -1) := by show _ = _; unfold niB; rw [hcc0, if_neg (fun h => h.2 hz)]
      obtain ⟨hz1, rfl⟩ := hz
      have hz2 : (1 : Int) < (s.size : Int) := by omega
      clear hd
      go_enter Tryd.func60, Tryd.ntmps60
      go_wp2_with fail
      refine (HL.out _).mono ?_
      rintro e w' ⟨rfl, rfl⟩
      go_wp2
      go_ret
      exact ⟨by rw [HN.out]; rfl, rfl⟩
    · have HN : Hid (niB s = dv s s.size) := by show _ = _; unfold niB; rw [hcc0, if_pos ⟨hlen, hz⟩]
      have HBD := Hid.mk (dv_bd s hd)
      have HDG := Hid.mk hd
      have HST : Hid (∀ k, dv s (k + 1) = dv s k * 10 + (bt s k - 48)) := fun k => rfl
      have hz' : ¬ (1 < s.size ∧ c0 = 48) := hz
      have hzz : (1 : Int) < (s.size : Int) → (c0 == 48) = false := fun h => beq_false_of_ne (fun e => hz' ⟨by omega, e⟩)
      rw [HN.out]
      have HB10 : Hid (∀ k, k ≤ s.size → 0 ≤ dv s k ∧ dv s k ≤ 10000000000) := fun k hk => by
        have h1 := HBD.out k hk
        have h2 : (10 : Int) ^ k ≤ 10 ^ 10 := by
          have : (10 : Nat) ^ k ≤ 10 ^ 10 := Nat.pow_le_pow_right (by omega) (by omega)
          exact_mod_cast this
        have h3 : (10 : Int) ^ 10 = 10000000000 := by decide
        omega
      clear hd hz hz' HN HBD
      by_cases h1 : (1 : Int) < (s.size : Int)
      · have e48 := hzz h1
        clear hzz
        go_enter Tryd.func60, Tryd.ntmps60
        go_wp2_with fail
        refine (HL.out _).mono ?_
        rintro e w' ⟨rfl, rfl⟩
        go_wp2
        clear e48 hc0' hcc0 hd0
        go_loop [3, 4] (fun q i => ∃ k : Nat, i = .int .i64 k ∧ k ≤ s.size ∧ q = .int .i64 (dv s k)) (fun _ i => s.size - (intOf i).toNat)
        case atStart => exact ⟨0, rfl, Nat.zero_le _, rfl⟩
        case round =>
          obtain ⟨k, rfl, hk, rfl⟩ := hrel
          by_cases hlt : k < s.size
          · have hbt := byte_txt s k hlt
            obtain ⟨c, hcc⟩ : ∃ c, bt s k = c := ⟨_, rfl⟩
            have hbt' : ((s[k].toNat : Nat) : Int) = c := hbt.trans hcc
            have hki : (k : Int) < (s.size : Int) := by omega
            have hdc := HDG.out k hlt
            rw [hcc] at hdc
            simp [dgB, bwB] at hdc
            obtain ⟨b0, b1⟩ := HB10.out k hk
            have HN2 : Hid (dv s (k + 1) = dv s k * 10 + (c - 48)) := by show _ = _; rw [HST.out, hcc]
            generalize dv s k = d at *
            clear hbt hcc
            go_wp2
            go_round
            case rel => exact ⟨k + 1, by go_num, by omega, by rw [HN2.out]⟩
            case measure => simp [intOf]; omega
          · have e : k = s.size := by omega
            subst e
            have hki : ¬ (s.size : Int) < (s.size : Int) := by omega
            go_wp2
            go_ret
            exact ⟨rfl, rfl⟩
      · clear hzz
        go_enter Tryd.func60, Tryd.ntmps60
        go_wp2_with fail
        refine (HL.out _).mono ?_
        rintro e w' ⟨rfl, rfl⟩
        go_wp2
        clear hc0' hcc0 hd0
        go_loop [3, 4] (fun q i => ∃ k : Nat, i = .int .i64 k ∧ k ≤ s.size ∧ q = .int .i64 (dv s k)) (fun _ i => s.size - (intOf i).toNat)
        case atStart => exact ⟨0, rfl, Nat.zero_le _, rfl⟩
        case round =>
          obtain ⟨k, rfl, hk, rfl⟩ := hrel
          by_cases hlt : k < s.size
          · have hbt := byte_txt s k hlt
            obtain ⟨c, hcc⟩ : ∃ c, bt s k = c := ⟨_, rfl⟩
            have hbt' : ((s[k].toNat : Nat) : Int) = c := hbt.trans hcc
            have hki : (k : Int) < (s.size : Int) := by omega
            have hdc := HDG.out k hlt
            rw [hcc] at hdc
            simp [dgB, bwB] at hdc
            obtain ⟨b0, b1⟩ := HB10.out k hk
            have HN2 : Hid (dv s (k + 1) = dv s k * 10 + (c - 48)) := by show _ = _; rw [HST.out, hcc]
            generalize dv s k = d at *
            clear hbt hcc
            go_wp2
            go_round
            case rel => exact ⟨k + 1, by go_num, by omega, by rw [HN2.out]⟩
            case measure => simp [intOf]; omega
          · have e : k = s.size := by omega
            subst e
            have hki : ¬ (s.size : Int) < (s.size : Int) := by omega
            go_wp2
            go_ret
            exact ⟨rfl, rfl⟩
  · have HN : Hid (niB s = -1) := by show _ = _; unfold niB; rw [if_neg (fun h => hlen h.1)]
    have hb : bwB 1 10 (s.size : Int) = false := by simp [bwB]; omega
    rw [hb] at HL
    clear hd
    go_enter Tryd.func60, Tryd.ntmps60
    go_wp2_with fail
    refine (HL.out _).mono ?_
    rintro e w' ⟨rfl, rfl⟩
    go_wp2
    go_ret
    exact ⟨by rw [HN.out]; rfl, rfl⟩
end Go.Proofs.YtapcbblfcmdbnaaDoor
