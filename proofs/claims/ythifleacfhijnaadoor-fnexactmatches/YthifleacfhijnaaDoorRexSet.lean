/- Rising rows of bytes that stand for themselves: the program's and the document's model's. -/
import Derived.Test.YthifleacfhijnaaDoorRexByte
namespace Go.Proofs.YthifleacfhijnaaDoor
open Go.RowKit
set_option maxRecDepth 8000

def ba (s : ByteArray) (i : Nat) : Int := (txt s).getD i 0
theorem ba_eq (s : ByteArray) (i : Nat) (h : i < s.size) : ba s i = ((s[i].toNat : Nat) : Int) := by
  have hl : i < (txt s).length := by rw [txt_length]; exact h
  unfold ba
  rw [List.getD, List.getElem?_eq_getElem hl]
  simp [txt]
  rfl

def okAt (s : ByteArray) (i : Nat) : Bool := rb (ba s i) && (i == 0 || decide (ba s (i - 1) < ba s i))
def risB (s : ByteArray) : Bool := (List.range s.size).all (okAt s)
def setB (s : ByteArray) (most : Nat) : Bool := decide (1 ≤ s.size) && decide (s.size ≤ most) && risB s

theorem setB_in (s : ByteArray) (h : risB s = true) : setB s 10 = inB 1 10 (s.size : Int) := by
  unfold setB inB
  rw [h, Bool.and_true]
  congr 1 <;> exact decide_eq_decide.2 (by omega)
theorem risB_no {s : ByteArray} {k : Nat} (h : k < s.size) (hk : okAt s k = false) : risB s = false := by
  unfold risB
  rw [List.all_eq_false]
  exact ⟨k, List.mem_range.2 h, by rw [hk]; simp⟩
theorem risB_yes {s : ByteArray} (h : ∀ j, j < s.size → okAt s j = true) : risB s = true := by
  unfold risB
  rw [List.all_eq_true]
  exact fun j hj => h j (List.mem_range.1 hj)
theorem okAt_first (s : ByteArray) (k : Nat) (h : k < s.size) : rb ((s[k].toNat : Nat) : Int) = false → okAt s k = false := by
  intro hr
  unfold okAt
  rw [ba_eq s k h, hr]; rfl
theorem okAt_zero (s : ByteArray) (h : 0 < s.size) (hr : rb ((s[0].toNat : Nat) : Int) = true) : okAt s 0 = true := by
  unfold okAt
  rw [ba_eq s 0 h, hr]; rfl
theorem okAt_succ (s : ByteArray) (k : Nat) (h : k + 1 < s.size) (h' : k < s.size) (hr : rb ((s[k + 1].toNat : Nat) : Int) = true) (hlt : ((s[k].toNat : Nat) : Int) < ((s[k + 1].toNat : Nat) : Int)) : okAt s (k + 1) = true := by
  unfold okAt
  rw [ba_eq s (k + 1) h, hr, Nat.add_sub_cancel, ba_eq s k h', decide_eq_true hlt]; rfl
theorem okAt_no (s : ByteArray) (k : Nat) (h : k + 1 < s.size) (h' : k < s.size) (hge : ((s[k + 1].toNat : Nat) : Int) ≤ ((s[k].toNat : Nat) : Int)) : okAt s (k + 1) = false := by
  unfold okAt
  rw [ba_eq s (k + 1) h, Nat.add_sub_cancel, ba_eq s k h', decide_eq_false (by omega)]
  simp

theorem drew_more {w w1 : World} (h : ∃ n, w1 = w.drewN n) (m : Nat) : ∃ n, w1.drewN m = w.drewN n := by
  obtain ⟨n, rfl⟩ := h
  exact ⟨n + m, by simp [World.drewN, Nat.add_assoc]⟩

theorem specSet_any (s : ByteArray) (w : World) (hs : s.size ≤ maxLen) : Calls Tryd.prog 73 #[.string s] w fun e w' => e = .returned (.bool (setB s 10)) ∧ ∃ n, w' = w.drewN n := by
  unfold maxLen at hs
  go_enter Tryd.func73, Tryd.ntmps73
  go_wp2
  go_loopw [3] (fun i wr => ∃ (k : Nat), k ≤ s.size ∧ i = .int .i64 k ∧ Hid (∀ j, j < k → okAt s j = true) ∧ ∃ n, wr = w.drewN n) (fun i _ => s.size - (intOf i).toNat)
  case atStart => exact ⟨0, Nat.zero_le _, rfl, fun j hj => absurd hj (Nat.not_lt_zero j), 0, rfl⟩
  case round =>
    obtain ⟨k, hk, rfl, Hk, hn⟩ := hrel
    have HN := Hid.mk hn
    clear hn
    by_cases hlt : k < s.size
    · have hc0 : ((s[k].toNat : Nat) : Int) ≤ 255 := by have := s[k].toNat_lt; omega
      have hcp : (0 : Int) ≤ ((s[k].toNat : Nat) : Int) := by omega
      have HA := Hid.mk (okAt_first s k hlt)
      have HB := Hid.mk (specByte_any _ hcp hc0)
      cases hrb : rb ((s[k].toNat : Nat) : Int) with
      | false =>
        rw [hrb] at HB
        have HR : Hid (setB s 10 = false) := by show _ = _; rw [setB, risB_no hlt (HA.out hrb)]; simp
        clear Hk
        go_wp2_with fail
        go_quiet ((go_at_call 72; exact Calls.quiet_of_same (HB.out _)))
        go_wp2
        go_ret
        exact ⟨ret_b HR.out.symm, drew_more HN.out _⟩
      | true =>
        rw [hrb] at HB
        by_cases hz : k = 0
        · subst hz
          have Hk' : Hid (∀ j, j < 0 + 1 → okAt s j = true) := by
            intro j hj
            obtain rfl : j = 0 := by omega
            exact okAt_zero s hlt hrb
          clear Hk
          go_wp2_with fail
          go_quiet ((go_at_call 72; exact Calls.quiet_of_same (HB.out _)))
          go_wp2
          go_roundw
          case rel => exact ⟨0 + 1, by omega, by go_num, Hk', drew_more HN.out _⟩
          case measure => simp [intOf]; omega
        · obtain ⟨p, hp⟩ : ∃ p, p + 1 = k := ⟨k - 1, by omega⟩
          have hp1 : (k : Int) - 1 = (p : Int) := by omega
          have hlt' : p < s.size := by omega
          have hz' : 0 < k := by omega
          by_cases hge : ((s[k].toNat : Nat) : Int) ≤ ((s[p].toNat : Nat) : Int)
          · have HR : Hid (setB s 10 = false) := by show _ = _; rw [setB, risB_no hlt (by subst hp; exact okAt_no s p hlt hlt' hge)]; simp
            clear Hk hp
            go_wp2_with fail
            go_quiet ((go_at_call 72; exact Calls.quiet_of_same (HB.out _)))
            go_wp2
            go_ret
            exact ⟨ret_b HR.out.symm, drew_more HN.out _⟩
          · have Hk' : Hid (∀ j, j < k + 1 → okAt s j = true) := by
              intro j hj
              by_cases hj2 : j < k
              · exact Hk.out j hj2
              · obtain rfl : j = k := by omega
                subst hp
                exact okAt_succ s p hlt hlt' hrb (by omega)
            clear Hk hp
            go_wp2_with fail
            go_quiet ((go_at_call 72; exact Calls.quiet_of_same (HB.out _)))
            go_wp2
            go_roundw
            case rel => exact ⟨k + 1, by omega, by go_num, Hk', drew_more HN.out _⟩
            case measure => simp [intOf]; omega
    · have e : k = s.size := by omega
      subst e
      have HR : Hid (setB s 10 = inB 1 10 s.size) := setB_in s (risB_yes Hk.out)
      clear Hk
      go_wp2_with (go_at_call 43; refine (l1In_any _ _ _ _).mono ?_; rintro e w' ⟨rfl, rfl⟩)
      go_ret
      exact ⟨ret_b HR.out.symm, HN.out⟩

theorem implRising_core (s : ByteArray) (m : Nat) (w : World) (hs : s.size ≤ maxLen) (h1 : 1 ≤ s.size) (h2 : s.size ≤ m) : Calls Tryd.prog 84 #[.string s, .int .i64 m] w fun e w' => e = .returned (.bool (setB s m)) ∧ ∃ n, w' = w.drewN n := by
  unfold maxLen at hs
  have h0 : ((s.size : Int) == 0) = false := beq_eq_false_iff_ne.2 (by omega)
  have h3 : ¬ (m : Int) < (s.size : Int) := by omega
  have HM : Hid (setB s m = risB s) := by show _ = _; rw [setB]; simp [h1, h2]
  go_enter Tryd.func84, Tryd.ntmps84
  go_wp2
  go_loopw [5] (fun i wr => ∃ (k : Nat), k ≤ s.size ∧ i = .int .i64 k ∧ Hid (∀ j, j < k → okAt s j = true) ∧ ∃ n, wr = w.drewN n) (fun i _ => s.size - (intOf i).toNat)
  case atStart => exact ⟨0, Nat.zero_le _, rfl, fun j hj => absurd hj (Nat.not_lt_zero j), 0, rfl⟩
  case round =>
    obtain ⟨k, hk, rfl, Hk, hn⟩ := hrel
    have HN := Hid.mk hn
    clear hn
    by_cases hlt : k < s.size
    · have hc0 : ((s[k].toNat : Nat) : Int) ≤ 255 := by have := s[k].toNat_lt; omega
      have hcp : (0 : Int) ≤ ((s[k].toNat : Nat) : Int) := by omega
      have HA := Hid.mk (okAt_first s k hlt)
      have HB := Hid.mk (implByte_any _ hcp hc0)
      cases hrb : rb ((s[k].toNat : Nat) : Int) with
      | false =>
        rw [hrb] at HB
        have HR : Hid (setB s m = false) := by show _ = _; rw [HM.out, risB_no hlt (HA.out hrb)]
        clear Hk
        go_wp2_with fail
        go_quiet ((go_at_call 88; exact Calls.quiet_of_same (HB.out _)))
        go_wp2
        go_ret
        exact ⟨ret_b HR.out.symm, drew_more HN.out _⟩
      | true =>
        rw [hrb] at HB
        by_cases hz : k = 0
        · subst hz
          have Hk' : Hid (∀ j, j < 0 + 1 → okAt s j = true) := by
            intro j hj
            obtain rfl : j = 0 := by omega
            exact okAt_zero s hlt hrb
          clear Hk
          go_wp2_with fail
          go_quiet ((go_at_call 88; exact Calls.quiet_of_same (HB.out _)))
          go_wp2
          go_roundw
          case rel => exact ⟨0 + 1, by omega, by go_num, Hk', drew_more HN.out _⟩
          case measure => simp [intOf]; omega
        · obtain ⟨p, hp⟩ : ∃ p, p + 1 = k := ⟨k - 1, by omega⟩
          have hp1 : (k : Int) - 1 = (p : Int) := by omega
          have hlt' : p < s.size := by omega
          have hz' : 0 < k := by omega
          by_cases hge : ((s[k].toNat : Nat) : Int) ≤ ((s[p].toNat : Nat) : Int)
          · have HR : Hid (setB s m = false) := by show _ = _; rw [HM.out, risB_no hlt (by subst hp; exact okAt_no s p hlt hlt' hge)]
            clear Hk hp
            go_wp2_with fail
            go_quiet ((go_at_call 88; exact Calls.quiet_of_same (HB.out _)))
            go_wp2
            go_ret
            exact ⟨ret_b HR.out.symm, drew_more HN.out _⟩
          · have Hk' : Hid (∀ j, j < k + 1 → okAt s j = true) := by
              intro j hj
              by_cases hj2 : j < k
              · exact Hk.out j hj2
              · obtain rfl : j = k := by omega
                subst hp
                exact okAt_succ s p hlt hlt' hrb (by omega)
            clear Hk hp
            go_wp2_with fail
            go_quiet ((go_at_call 88; exact Calls.quiet_of_same (HB.out _)))
            go_wp2
            go_roundw
            case rel => exact ⟨k + 1, by omega, by go_num, Hk', drew_more HN.out _⟩
            case measure => simp [intOf]; omega
    · have e : k = s.size := by omega
      subst e
      have HR : Hid (setB s m = true) := by show _ = _; rw [HM.out, risB_yes Hk.out]
      clear Hk HM
      go_wp2
      go_ret
      exact ⟨ret_b HR.out.symm, HN.out⟩

theorem implRising_any (s : ByteArray) (m : Nat) (w : World) (hs : s.size ≤ maxLen) : Calls Tryd.prog 84 #[.string s, .int .i64 m] w fun e w' => e = .returned (.bool (setB s m)) ∧ ∃ n, w' = w.drewN n := by
  by_cases h1 : 1 ≤ s.size
  · by_cases h2 : s.size ≤ m
    · exact implRising_core s m w hs h1 h2
    · have H : Hid (setB s m = false) := by show _ = _; rw [setB]; simp [h2]
      have h0 : ((s.size : Int) == 0) = false := beq_eq_false_iff_ne.2 (by omega)
      have h3 : (m : Int) < (s.size : Int) := by omega
      clear h2
      go_enter Tryd.func84, Tryd.ntmps84
      go_wp2
      go_ret
      exact ⟨ret_b H.out.symm, 0, rfl⟩
  · have H : Hid (setB s m = false) := by show _ = _; rw [setB]; simp [h1]
    have h0 : s.size = 0 := by omega
    clear h1
    go_enter Tryd.func84, Tryd.ntmps84
    go_wp2
    go_ret
    exact ⟨ret_b H.out.symm, 0, rfl⟩
end Go.Proofs.YthifleacfhijnaaDoor
