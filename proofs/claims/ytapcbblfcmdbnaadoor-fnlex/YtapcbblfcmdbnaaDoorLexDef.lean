/- A text gone through: how far bytes of a kind go; blanks and remarks passed over. -/
import Derived.Test.YtapcbblfcmdbnaaDoorTokOk
namespace Go.Proofs.YtapcbblfcmdbnaaDoor
open Go.RowKit
set_option maxRecDepth 8000

/-- The byte at a place. -/
def bt (s : ByteArray) (p : Nat) : Int := (txt s).getD p 0
/-- How far bytes of a kind go from p on. -/
def tw (q : Int → Bool) (s : ByteArray) (p : Nat) : Nat := p + (((txt s).drop p).takeWhile q).length
theorem bt_drop {s : ByteArray} {p : Nat} (h : p < s.size) : (txt s).drop p = bt s p :: (txt s).drop (p + 1) := by
  have hl : p < (txt s).length := by rw [txt_length]; exact h
  rw [List.drop_eq_getElem_cons hl]
  unfold bt
  rw [List.getD, List.getElem?_eq_getElem hl]
  rfl
theorem tw_step {q : Int → Bool} {s : ByteArray} {p : Nat} (h : p < s.size) (hq : q (bt s p) = true) : tw q s p = tw q s (p + 1) := by
  unfold tw
  rw [bt_drop h, List.takeWhile_cons, if_pos hq, List.length_cons]
  omega
theorem tw_stop {q : Int → Bool} {s : ByteArray} {p : Nat} (h : p < s.size) (hq : q (bt s p) = false) : tw q s p = p := by
  unfold tw
  rw [bt_drop h, List.takeWhile_cons, if_neg (by rw [hq]; simp)]
  rfl
theorem tw_end {q : Int → Bool} {s : ByteArray} {p : Nat} (h : s.size ≤ p) : tw q s p = p := by
  unfold tw
  rw [List.drop_eq_nil_of_le (by rw [txt_length]; exact h)]
  rfl
theorem tw_ge (q : Int → Bool) (s : ByteArray) (p : Nat) : p ≤ tw q s p := Nat.le_add_right _ _
theorem tw_le (q : Int → Bool) (s : ByteArray) (p : Nat) (h : p ≤ s.size) : tw q s p ≤ s.size := by
  unfold tw
  have := (List.takeWhile_prefix q (l := (txt s).drop p)).length_le
  rw [List.length_drop, txt_length] at this
  omega
def blB (c : Int) : Bool := c == 32 || c == 9 || c == 10 || c == 13
def neB (e c : Int) : Bool := c != e
/-- The place behind blanks and remarks. -/
def pas (s : ByteArray) (p : Nat) : Nat :=
  if _h : p < s.size then (if blB (bt s p) = true then pas s (p + 1) else if bt s p = 35 then pas s (tw (neB 10) s (p + 1)) else p) else p
termination_by s.size - p
decreasing_by
  · omega
  · have := tw_ge (neB 10) s (p + 1); omega
theorem pas_blank {s : ByteArray} {p : Nat} (h : p < s.size) (hb : blB (bt s p) = true) : pas s p = pas s (p + 1) := by rw [pas, dif_pos h, if_pos hb]
theorem pas_mark {s : ByteArray} {p : Nat} (h : p < s.size) (hc : bt s p = 35) : pas s p = pas s (tw (neB 10) s p) := by
  have hb : ¬ blB (bt s p) = true := by rw [hc]; decide
  rw [pas, dif_pos h, if_neg hb, if_pos hc, tw_step h (by rw [hc]; decide)]
theorem pas_stop {s : ByteArray} {p : Nat} (h : p < s.size) (hb : blB (bt s p) = false) (hc : bt s p ≠ 35) : pas s p = p := by rw [pas, dif_pos h, if_neg (by rw [hb]; simp), if_neg hc]
theorem pas_end {s : ByteArray} {p : Nat} (h : ¬ p < s.size) : pas s p = p := by rw [pas, dif_neg h]
theorem pas_le (s : ByteArray) : ∀ n p, s.size - p = n → p ≤ s.size → p ≤ pas s p ∧ pas s p ≤ s.size := by
  intro n
  induction n using Nat.strongRecOn with
  | _ n ih =>
    intro p hn hp
    by_cases h : p < s.size
    · by_cases hb : blB (bt s p) = true
      · rw [pas_blank h hb]
        have := ih _ (by omega) (p + 1) rfl (by omega)
        omega
      · by_cases hc : bt s p = 35
        · rw [pas_mark h hc, tw_step h (by rw [hc]; decide)]
          have h1 := tw_ge (neB 10) s (p + 1)
          have h2 := tw_le (neB 10) s (p + 1) (by omega)
          have := ih _ (by omega) (tw (neB 10) s (p + 1)) rfl h2
          omega
        · rw [pas_stop h (by simpa using hb) hc]; omega
    · rw [pas_end h]; omega

theorem isBlank_any (c : Int) (w : World) : Calls Tryd.prog 44 #[.int .u8 c] w fun e w' => e = .returned (.bool (blB c)) ∧ w' = w := by
  by_cases h1 : c = 32
  · subst h1
    go_enter Tryd.func44, Tryd.ntmps44
    go_wp2
    go_ret
    exact ⟨rfl, rfl⟩
  by_cases h2 : c = 9
  · subst h2
    go_enter Tryd.func44, Tryd.ntmps44
    go_wp2
    go_ret
    exact ⟨rfl, rfl⟩
  by_cases h3 : c = 10
  · subst h3
    go_enter Tryd.func44, Tryd.ntmps44
    go_wp2
    go_ret
    exact ⟨rfl, rfl⟩
  by_cases h4 : c = 13
  · subst h4
    go_enter Tryd.func44, Tryd.ntmps44
    go_wp2
    go_ret
    exact ⟨rfl, rfl⟩
  · have e1 : (c == 32) = false := beq_false_of_ne h1
    have e2 : (c == 9) = false := beq_false_of_ne h2
    have e3 : (c == 10) = false := beq_false_of_ne h3
    have e4 : (c == 13) = false := beq_false_of_ne h4
    have H : Hid (blB c = false) := by show _ = _; unfold blB; rw [e1, e2, e3, e4]; rfl
    clear h1 h2 h3 h4
    go_enter Tryd.func44, Tryd.ntmps44
    go_wp2
    go_ret
    exact ⟨ret_tb H.out.symm, rfl⟩

set_option maxHeartbeats 1000000 in
theorem l7Until_any (s : ByteArray) (p : Nat) (c : Int) (w : World) (hs : s.size ≤ maxLen) (hp : p ≤ s.size) :
    Calls Tryd.prog 57 #[.string s, .int .i64 (p : Int), .int .u8 c] w fun e w' => e = .returned (.int .i64 ((tw (neB c) s p : Nat) : Int)) ∧ w' = w := by
  unfold maxLen at hs
  have HSt := Hid.mk (fun k h hq => tw_step (q := neB c) (s := s) (p := k) h hq)
  have HSo := Hid.mk (fun k h hq => tw_stop (q := neB c) (s := s) (p := k) h hq)
  have HEn := Hid.mk (fun k h => tw_end (q := neB c) (s := s) (p := k) h)
  obtain ⟨R, hR⟩ : ∃ R, tw (neB c) s p = R := ⟨_, rfl⟩
  have HR := Hid.mk hR
  rw [hR]
  clear hR
  go_enter Tryd.func57, Tryd.ntmps57
  go_wp2
  go_loop [1] (fun i => ∃ k : Nat, i = .int .i64 k ∧ k ≤ s.size ∧ Hid (tw (neB c) s k = R)) (fun i => s.size - (intOf i).toNat)
  case atStart => exact ⟨p, rfl, hp, HR⟩
  case round =>
    obtain ⟨k, rfl, hk, HK⟩ := hrel
    clear HR
    by_cases hlt : k < s.size
    · have hc := byte_txt s k hlt
      have hki : (k : Int) < (s.size : Int) := by omega
      by_cases he : bt s k = c
      · have HF := Hid.mk ((HSo.out k hlt (by rw [he]; simp [neB])).symm.trans HK.out)
        have he' : (((s[k].toNat : Nat) : Int) != c) = false := by rw [hc]; simpa [bt] using he
        clear HSt HSo HEn HK he hc
        go_wp2
        go_ret
        exact ⟨by rw [← HF.out]; rfl, rfl⟩
      · have HK2 := Hid.mk ((HSt.out k hlt (by simpa [neB] using he)).symm.trans HK.out)
        have he' : (((s[k].toNat : Nat) : Int) != c) = true := by rw [hc]; simpa [bt] using he
        clear HK he hc
        go_wp2
        go_round
        case rel => exact ⟨k + 1, by go_num, by omega, HK2⟩
        case measure => simp [intOf]; omega
    · have HF := Hid.mk ((HEn.out k (by omega)).symm.trans HK.out)
      have hki : ¬ (k : Int) < (s.size : Int) := by omega
      clear HSt HSo HEn HK
      go_wp2
      go_ret
      exact ⟨by rw [← HF.out]; rfl, rfl⟩

set_option maxHeartbeats 1000000 in
theorem l7Pass_any (s : ByteArray) (p : Nat) (w : World) (hs : s.size ≤ maxLen) (hp : p ≤ s.size) :
    Calls Tryd.prog 36 #[.string s, .int .i64 (p : Int)] w fun e w' => e = .returned (.int .i64 ((pas s p : Nat) : Int)) ∧ w' = w := by
  have HU := Hid.mk (fun k hk w => l7Until_any s k 10 w hs hk)
  unfold maxLen at hs
  have HSb := Hid.mk (fun k h hq => pas_blank (s := s) (p := k) h hq)
  have HSm := Hid.mk (fun k h hq => pas_mark (s := s) (p := k) h hq)
  have HSo := Hid.mk (fun k h hq hc => pas_stop (s := s) (p := k) h hq hc)
  have HEn := Hid.mk (fun k h => pas_end (s := s) (p := k) h)
  have HTG := Hid.mk (fun k h (hc : bt s k = 35) => (show k + 1 ≤ tw (neB 10) s k by rw [tw_step h (by rw [hc]; decide)]; exact tw_ge _ _ _))
  have HTL := Hid.mk (fun k h => tw_le (neB 10) s k h)
  obtain ⟨R, hR⟩ : ∃ R, pas s p = R := ⟨_, rfl⟩
  have HR := Hid.mk hR
  rw [hR]
  clear hR
  go_enter Tryd.func36, Tryd.ntmps36
  go_wp2
  go_loop [1] (fun i => ∃ k : Nat, i = .int .i64 k ∧ k ≤ s.size ∧ Hid (pas s k = R)) (fun i => s.size - (intOf i).toNat)
  case atStart => exact ⟨p, rfl, hp, HR⟩
  case round =>
    obtain ⟨k, rfl, hk, HK⟩ := hrel
    clear HR
    by_cases hlt : k < s.size
    · have hc := byte_txt s k hlt
      have hki : (k : Int) < (s.size : Int) := by omega
      have hbt : bt s k = ((s[k].toNat : Nat) : Int) := hc.symm
      obtain ⟨c, hcc⟩ : ∃ c, bt s k = c := ⟨_, rfl⟩
      rw [hcc] at hbt
      have hbt' := hbt.symm
      clear hc hbt
      by_cases hb : blB c = true
      · have HK2 := Hid.mk ((HSb.out k hlt (by rw [hcc]; exact hb)).symm.trans HK.out)
        have hcs : c = 32 ∨ c = 9 ∨ c = 10 ∨ c = 13 := by simp [blB] at hb; omega
        clear HK hcc hb
        rcases hcs with rfl | rfl | rfl | rfl
        all_goals
          go_wp2
          go_round
          case rel => exact ⟨k + 1, by go_num, by omega, HK2⟩
          case measure => simp [intOf]; omega
      · have hb' : blB c = false := by simpa using hb
        have e1 : (c == 32) = false := by simp [blB] at hb'; simp; omega
        have e2 : (c == 9) = false := by simp [blB] at hb'; simp; omega
        have e3 : (c == 10) = false := by simp [blB] at hb'; simp; omega
        have e4 : (c == 13) = false := by simp [blB] at hb'; simp; omega
        by_cases h35 : c = 35
        · have HK2 := Hid.mk ((HSm.out k hlt (by rw [hcc]; exact h35)).symm.trans HK.out)
          have h1 := HTG.out k hlt (by rw [hcc]; exact h35)
          have h2 := HTL.out k hk
          have HUK := Hid.mk (HU.out k hk)
          generalize tw (neB 10) s k = q at *
          subst h35
          clear HK hcc hb hb' e1 e2 e3 e4
          go_wp2_with fail
          refine (HUK.out _).mono ?_
          rintro e w' ⟨rfl, rfl⟩
          go_wp2
          go_round
          case rel => exact ⟨q, rfl, h2, HK2⟩
          case measure => simp [intOf]; omega
        · have HF := Hid.mk ((HSo.out k hlt (by rw [hcc]; exact hb') (by rw [hcc]; exact h35)).symm.trans HK.out)
          have e5 : (c == 35) = false := beq_false_of_ne h35
          clear HK hcc hb hb' h35
          go_wp2
          go_ret
          exact ⟨by rw [← HF.out]; rfl, rfl⟩
    · have HF := Hid.mk ((HEn.out k hlt).symm.trans HK.out)
      have hki : ¬ (k : Int) < (s.size : Int) := by omega
      clear HSb HSm HSo HEn HK
      go_wp2
      go_ret
      exact ⟨by rw [← HF.out]; rfl, rfl⟩
end Go.Proofs.YtapcbblfcmdbnaaDoor
