/- Blanks and remarks passed over: the program's passOver, from label to label. -/
import Derived.Test.YtapcbblfcmdbnaaDoorLexDef
import Derived.Test.YtapcbblfcmdbnaaDoorGotoS
namespace Go.Proofs.YtapcbblfcmdbnaaDoor
open Go.RowKit
set_option maxRecDepth 8000

/-- How much is left: at the first label, at the second one. -/
def lpM (s : ByteArray) (l : Nat) (a : Act) : Nat := 4 * (s.size - (intOf (a.tmps.getD 1 undef)).toNat) + (if l = 0 then 2 else if (intOf (a.tmps.getD 1 undef)).toNat < s.size ∧ bt s (intOf (a.tmps.getD 1 undef)).toNat ≠ 10 then 0 else 3)
def lpN (s : ByteArray) (l k : Nat) : Nat := 4 * (s.size - k) + (if l = 0 then 2 else if k < s.size ∧ bt s k ≠ 10 then 0 else 3)
theorem lpN_0 (s : ByteArray) (k : Nat) : lpN s 0 k = 4 * (s.size - k) + 2 := rfl
theorem lpN_1 {s : ByteArray} {k : Nat} (h : k < s.size ∧ bt s k ≠ 10) : lpN s 1 k = 4 * (s.size - k) := by unfold lpN; rw [if_neg (by omega), if_pos h]; rfl
theorem lpN_2 {s : ByteArray} {k : Nat} (h : ¬ (k < s.size ∧ bt s k ≠ 10)) : lpN s 1 k = 4 * (s.size - k) + 3 := by unfold lpN; rw [if_neg (by omega), if_neg h]
theorem lpN_3 (s : ByteArray) (k : Nat) : lpN s 1 k ≤ 4 * (s.size - k) + 3 := by
  by_cases h : k < s.size ∧ bt s k ≠ 10
  · rw [lpN_1 h]; omega
  · rw [lpN_2 h]; omega

set_option maxHeartbeats 4000000 in
theorem passOver_any (s : ByteArray) (p : Nat) (w : World) (hs : s.size ≤ maxLen) (hp : p ≤ s.size) :
    Calls Tryd.prog 22 #[.string s, .int .i64 (p : Int)] w fun e w' => e = .returned (.int .i64 ((pas s p : Nat) : Int)) ∧ w' = w := by
  unfold maxLen at hs
  obtain ⟨R, hR⟩ : ∃ R, pas s p = R := ⟨_, rfl⟩
  rw [hR]
  go_enter Tryd.func22, Tryd.ntmps22
  go_wp2
  refine wp_scope_two (fun l a' w' => w' = w ∧ (l = 0 ∨ l = 1) ∧ ∃ (k : Nat) (u2 u3 u4 u5 u6 u7 u8 u9 u10 u11 u12 u13 u14 u15 u16 u17 u18 u19 u20 u21 u22 u23 u24 u25 u26 u27 u28 u29 u30 u31 u32 u33 u34 u35 u36 u37 u38 u39 : Value), a' = ({ tmps := #[.string s, .int .i64 (k : Int), u2, u3, u4, u5, u6, u7, u8, u9, u10, u11, u12, u13, u14, u15, u16, u17, u18, u19, u20, u21, u22, u23, u24, u25, u26, u27, u28, u29, u30, u31, u32, u33, u34, u35, u36, u37, u38, u39], defers := [] } : Act) ∧ k ≤ s.size ∧ (l = 0 → pas s k = R) ∧ (l = 1 → pas s (tw (neB 10) s k) = R)) (fun l a' _ => lpM s l a') (fun l a w h => h.2.1) rfl rfl ?_ ?_ ?_
  · have HK : Hid (pas s p = R) := hR
    clear hR
    go_wp2
    go_step3
    by_cases hlt : p < s.size
    · have hbt := byte_txt s p hlt
      obtain ⟨c, hcc⟩ : ∃ c, bt s p = c := ⟨_, rfl⟩
      have hbt' : ((s[p].toNat : Nat) : Int) = c := hbt.trans hcc
      have hki : (p : Int) < (s.size : Int) := by omega
      have HBL := Hid.mk (isBlank_any c)
      clear hbt
      cases hb : blB c with
      | true =>
        have HN : Hid (pas s (p + 1) = R) := (pas_blank hlt (by rw [hcc]; exact hb)).symm.trans HK.out
        rw [hb] at HBL
        go_wp2_with fail
        refine (HBL.out _).mono ?_
        rintro e w' ⟨rfl, rfl⟩
        go_wp2
        go_step3
        rw [show (p : Int) + 1 = ((p + 1 : Nat) : Int) by omega]
        exact ⟨rfl, .inl rfl, p + 1, _, _, _, _, _, _, _, _, _, _, _, _, _, _, _, _, _, _, _, _, _, _, _, _, _, _, _, _, _, _, _, _, _, _, _, _, _, _, rfl, by omega, fun _ => HN.out, fun h => by omega⟩
      | false =>
        rw [hb] at HBL
        by_cases h35 : c = 35
        · have HN : Hid (pas s (tw (neB 10) s p) = R) := (pas_mark hlt (by rw [hcc]; exact h35)).symm.trans HK.out
          subst h35
          go_wp2_with fail
          refine (HBL.out _).mono ?_
          rintro e w' ⟨rfl, rfl⟩
          go_wp2
          go_step3
          exact ⟨rfl, .inr rfl, p, _, _, _, _, _, _, _, _, _, _, _, _, _, _, _, _, _, _, _, _, _, _, _, _, _, _, _, _, _, _, _, _, _, _, _, _, _, _, rfl, by omega, fun h => by omega, fun _ => HN.out⟩
        · have HN : Hid (p = R) := (pas_stop hlt (by rw [hcc]; exact hb) (by rw [hcc]; exact h35)).symm.trans HK.out
          have e5 : (c == 35) = false := beq_false_of_ne h35
          clear h35
          go_wp2_with fail
          refine (HBL.out _).mono ?_
          rintro e w' ⟨rfl, rfl⟩
          go_wp2
          simp only [Jmp]
          go_ret
          exact ⟨by rw [HN.out]; rfl, rfl⟩
    · have HN : Hid (p = R) := (pas_end hlt).symm.trans HK.out
      have hki : ¬ (p : Int) < (s.size : Int) := by omega
      go_wp2
      simp only [Jmp]
      go_ret
      exact ⟨by rw [HN.out]; rfl, rfl⟩
  · rintro a' w' ⟨rfl, -, k, u2, u3, u4, u5, u6, u7, u8, u9, u10, u11, u12, u13, u14, u15, u16, u17, u18, u19, u20, u21, u22, u23, u24, u25, u26, u27, u28, u29, u30, u31, u32, u33, u34, u35, u36, u37, u38, u39, rfl, hk, h0, -⟩
    have HK : Hid (pas s k = R) := h0 rfl
    clear h0 hR hp
    by_cases hlt : k < s.size
    · have hbt := byte_txt s k hlt
      obtain ⟨c, hcc⟩ : ∃ c, bt s k = c := ⟨_, rfl⟩
      have hbt' : ((s[k].toNat : Nat) : Int) = c := hbt.trans hcc
      have hki : (k : Int) < (s.size : Int) := by omega
      have HBL := Hid.mk (isBlank_any c)
      clear hbt
      cases hb : blB c with
      | true =>
        have HN : Hid (pas s (k + 1) = R) := (pas_blank hlt (by rw [hcc]; exact hb)).symm.trans HK.out
        rw [hb] at HBL
        go_wp2_with fail
        refine (HBL.out _).mono ?_
        rintro e w' ⟨rfl, rfl⟩
        go_wp2
        go_step3
        rw [show (k : Int) + 1 = ((k + 1 : Nat) : Int) by omega]
        refine ⟨⟨rfl, .inl rfl, k + 1, _, _, _, _, _, _, _, _, _, _, _, _, _, _, _, _, _, _, _, _, _, _, _, _, _, _, _, _, _, _, _, _, _, _, _, _, _, _, rfl, by omega, fun _ => HN.out, fun h => by omega⟩, ?_⟩
        show lpN s 0 (k + 1) < lpN s 0 k
        rw [lpN_0, lpN_0]
        omega
      | false =>
        rw [hb] at HBL
        by_cases h35 : c = 35
        · have HN : Hid (pas s (tw (neB 10) s k) = R) := (pas_mark hlt (by rw [hcc]; exact h35)).symm.trans HK.out
          subst h35
          go_wp2_with fail
          refine (HBL.out _).mono ?_
          rintro e w' ⟨rfl, rfl⟩
          go_wp2
          go_step3
          refine ⟨⟨rfl, .inr rfl, k, _, _, _, _, _, _, _, _, _, _, _, _, _, _, _, _, _, _, _, _, _, _, _, _, _, _, _, _, _, _, _, _, _, _, _, _, _, _, rfl, by omega, fun h => by omega, fun _ => HN.out⟩, ?_⟩
          show lpN s 1 k < lpN s 0 k
          rw [lpN_0, lpN_1 ⟨hlt, by rw [hcc]; decide⟩]
          omega
        · have HN : Hid (k = R) := (pas_stop hlt (by rw [hcc]; exact hb) (by rw [hcc]; exact h35)).symm.trans HK.out
          have e5 : (c == 35) = false := beq_false_of_ne h35
          clear h35
          go_wp2_with fail
          refine (HBL.out _).mono ?_
          rintro e w' ⟨rfl, rfl⟩
          go_wp2
          simp only [Jmp]
          go_ret
          exact ⟨by rw [HN.out]; rfl, rfl⟩
    · have HN : Hid (k = R) := (pas_end hlt).symm.trans HK.out
      have hki : ¬ (k : Int) < (s.size : Int) := by omega
      go_wp2
      simp only [Jmp]
      go_ret
      exact ⟨by rw [HN.out]; rfl, rfl⟩
  · rintro a' w' ⟨rfl, -, k, u2, u3, u4, u5, u6, u7, u8, u9, u10, u11, u12, u13, u14, u15, u16, u17, u18, u19, u20, u21, u22, u23, u24, u25, u26, u27, u28, u29, u30, u31, u32, u33, u34, u35, u36, u37, u38, u39, rfl, hk, -, h1⟩
    have HK : Hid (pas s (tw (neB 10) s k) = R) := h1 rfl
    clear h1 hR hp
    by_cases hlt : k < s.size
    · have hbt := byte_txt s k hlt
      obtain ⟨c, hcc⟩ : ∃ c, bt s k = c := ⟨_, rfl⟩
      have hbt' : ((s[k].toNat : Nat) : Int) = c := hbt.trans hcc
      have hki : (k : Int) < (s.size : Int) := by omega
      clear hbt
      by_cases h10 : c = 10
      · have HN : Hid (pas s k = R) := by
          have h := HK.out
          rw [tw_stop hlt (by rw [hcc, h10]; decide)] at h
          exact h
        subst h10
        go_wp2
        go_step3
        refine ⟨⟨rfl, .inl rfl, k, _, _, _, _, _, _, _, _, _, _, _, _, _, _, _, _, _, _, _, _, _, _, _, _, _, _, _, _, _, _, _, _, _, _, _, _, _, _, rfl, by omega, fun _ => HN.out, fun h => by omega⟩, ?_⟩
        show lpN s 0 k < lpN s 1 k
        rw [lpN_0, lpN_2 (by rintro ⟨_, h⟩; exact h hcc)]
        omega
      · have HN : Hid (pas s (tw (neB 10) s (k + 1)) = R) := by
          have h := HK.out
          rw [tw_step hlt (by rw [hcc]; simpa [neB] using h10)] at h
          exact h
        have e10 : (c != 10) = true := by simpa using h10
        go_wp2
        go_step3
        rw [show (k : Int) + 1 = ((k + 1 : Nat) : Int) by omega]
        refine ⟨⟨rfl, .inr rfl, k + 1, _, _, _, _, _, _, _, _, _, _, _, _, _, _, _, _, _, _, _, _, _, _, _, _, _, _, _, _, _, _, _, _, _, _, _, _, _, _, rfl, by omega, fun h => by omega, fun _ => HN.out⟩, ?_⟩
        show lpN s 1 (k + 1) < lpN s 1 k
        rw [lpN_1 ⟨hlt, by rw [hcc]; exact h10⟩]
        have := lpN_3 s (k + 1)
        omega
    · have HN : Hid (pas s k = R) := by
        have h := HK.out
        rw [tw_end (by omega)] at h
        exact h
      have hki : ¬ (k : Int) < (s.size : Int) := by omega
      go_wp2
      go_step3
      refine ⟨⟨rfl, .inl rfl, k, _, _, _, _, _, _, _, _, _, _, _, _, _, _, _, _, _, _, _, _, _, _, _, _, _, _, _, _, _, _, _, _, _, _, _, _, _, _, rfl, by omega, fun _ => HN.out, fun h => by omega⟩, ?_⟩
      show lpN s 0 k < lpN s 1 k
      rw [lpN_0, lpN_2 (by rintro ⟨h, _⟩; exact hlt h)]
      omega
end Go.Proofs.YtapcbblfcmdbnaaDoor
