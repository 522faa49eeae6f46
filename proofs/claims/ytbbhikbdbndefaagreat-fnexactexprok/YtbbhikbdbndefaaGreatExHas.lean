/- What each kind of term asks of its number, its text and how many parts it has: the program's. -/
import Derived.Test.YtbbhikbdbndefaaGreatExOkM
import Derived.Test.YtbbhikbdbndefaaGreatExWord
import Derived.Test.YtbbhikbdbndefaaGreatTokOk
import Derived.Test.YtbbhikbdbndefaaGreatRexParI
namespace Go.Proofs.YtbbhikbdbndefaaGreat
open Go.RowKit
set_option maxRecDepth 8000

theorem rt_long {s : ByteArray} (h : 200 < s.size) : rtB s = false := by unfold rtB; rw [decide_eq_false_iff_not]; omega
theorem rt_yes {s : ByteArray} (h : s.size ≤ 200) {t : Tr} (ht : IsTx s t) : rtB s = true := by unfold rtB; simp only [decide_eq_true_eq]; exact ⟨h, t, ht⟩
theorem rt_no {s : ByteArray} (h : ∀ t, ¬ IsTx s t) : rtB s = false := by
  unfold rtB
  rw [decide_eq_false_iff_not]
  rintro ⟨-, t, ht⟩
  exact h t ht

set_option maxHeartbeats 1000000 in
theorem isRexText_any (s : ByteArray) (w : World) (hs : s.size ≤ 1048576) : Calls Tryz.prog 170 #[.string s] w fun e w' => e = .returned (.bool (rtB s)) ∧ Below w.heap.size w w' := by
  by_cases h2 : 200 < s.size
  · have hi : (200 : Int) < (s.size : Int) := by omega
    have H := Hid.mk (rt_long h2)
    have RB : Below w.heap.size w w := Below.refl _ _
    clear h2
    go_enter Tryz.func170, Tryz.ntmps170
    go_wp2
    go_ret
    exact ⟨ret_tb H.out.symm, RB⟩
  · have hi : ¬ (200 : Int) < (s.size : Int) := by omega
    by_cases h : ∃ t, IsTx s t
    · obtain ⟨t, ht⟩ := h
      have H := Hid.mk (rt_yes (by omega) ht)
      have HP := Hid.mk (fun w => implParse_yes s t w ht)
      clear ht h2
      obtain ⟨k, hk⟩ : ∃ k, t.k = k := ⟨_, rfl⟩
      obtain ⟨ts, hts⟩ : ∃ ts, t.s = ts := ⟨_, rfl⟩
      rw [hk, hts] at HP
      clear hk hts
      go_enter Tryz.func170, Tryz.ntmps170
      go_wp2_with fail
      refine (HP.out _).mono ?_
      rintro e w1 ⟨u, rfl, ho, -, hb1⟩
      obtain ⟨au, cu, rfl⟩ := ho.value
      have HB := Hid.mk (fun o => hb1.alloc hb1.size o)
      clear HP hb1 ho
      go_wp2
      go_ret
      exact ⟨ret_tb H.out.symm, HB.out _⟩
    · have hno : ∀ t, ¬ IsTx s t := fun t ht => h ⟨t, ht⟩
      have H := Hid.mk (rt_no hno)
      have HP := Hid.mk (fun w => implParse_no s w hs hno)
      clear h hno h2
      go_enter Tryz.func170, Tryz.ntmps170
      go_wp2_with fail
      refine (HP.out _).mono ?_
      rintro e w1 ⟨rfl, hb1⟩
      have HB := Hid.mk (fun o => hb1.alloc hb1.size o)
      clear HP hb1
      go_wp2
      go_ret
      exact ⟨ret_tb H.out.symm, HB.out _⟩

set_option maxHeartbeats 1000000 in
theorem cHas (k n : Int) (s : ByteArray) (ao : Option Addr) (L cap : Nat) (c : Int) (w : World) : Calls Tryz.prog 151 #[xx k n s (.slice ao L cap), .int .i64 c] w fun e w' => e = .returned (.bool (((L : Int) == c) && n == 0)) ∧ Below w.heap.size w w' := by
  have A0 : Below w.heap.size w (w.alloc (.cells #[.int .i64 k, .int .i64 n, .string s, .slice ao L cap] 86)) := (Below.refl _ _).alloc (Nat.le_refl _) _
  cases h1 : ((L : Int) == c) with
  | false =>
    go_enter Tryz.func151, Tryz.ntmps151
    go_wp2
    go_ret
    exact ⟨rfl, A0⟩
  | true =>
    go_enter Tryz.func151, Tryz.ntmps151
    go_wp2
    go_ret
    exact ⟨ret_tb (by simp), A0⟩

set_option maxHeartbeats 1000000 in
theorem bHas (k n : Int) (s : ByteArray) (ao : Option Addr) (L cap : Nat) (c : Int) (w : World) : Calls Tryz.prog 157 #[xx k n s (.slice ao L cap), .int .i64 c] w fun e w' => e = .returned (.bool ((((L : Int) == c) && n == 0) && s.toList.isEmpty)) ∧ Below w.heap.size w w' := by
  have A0 : Below w.heap.size w (w.alloc (.cells #[.int .i64 k, .int .i64 n, .string s, .slice ao L cap] 96)) := (Below.refl _ _).alloc (Nat.le_refl _) _
  have HC := Hid.mk (fun w => cHas k n s ao L cap c w)
  generalize (((L : Int) == c) && n == 0) = b1 at *
  cases b1 with
  | false =>
    go_enter Tryz.func157, Tryz.ntmps157
    go_wp2_with fail
    refine (HC.out _).mono ?_
    rintro e w1 ⟨rfl, hb1⟩
    have hc1 := fun o => hb1.cell (p := ⟨w.heap.size, o, none⟩) (by simp)
    have B1 := A0.trans (hb1.mono (by simp))
    clear A0 hb1 HC
    go_wp2
    go_ret
    exact ⟨rfl, B1⟩
  | true =>
    go_enter Tryz.func157, Tryz.ntmps157
    go_wp2_with fail
    refine (HC.out _).mono ?_
    rintro e w1 ⟨rfl, hb1⟩
    have hc1 := fun o => hb1.cell (p := ⟨w.heap.size, o, none⟩) (by simp)
    have B1 := A0.trans (hb1.mono (by simp))
    clear A0 hb1 HC
    go_wp2
    go_ret
    exact ⟨ret_tb (by simp), B1⟩

set_option maxHeartbeats 1000000 in
theorem nHas (k n : Int) (s : ByteArray) (ao : Option Addr) (L cap : Nat) (c : Int) (w : World) (hs : s.size ≤ maxLen) : Calls Tryz.prog 150 #[xx k n s (.slice ao L cap), .int .i64 c] w fun e w' => e = .returned (.bool ((((L : Int) == c) && n == 0) && nmB s)) ∧ Below w.heap.size w w' := by
  have A0 : Below w.heap.size w (w.alloc (.cells #[.int .i64 k, .int .i64 n, .string s, .slice ao L cap] 92)) := (Below.refl _ _).alloc (Nat.le_refl _) _
  have HC := Hid.mk (fun w => cHas k n s ao L cap c w)
  have HN := Hid.mk (fun w => implNameOk_any s w hs)
  generalize (((L : Int) == c) && n == 0) = b1 at *
  generalize nmB s = b2 at *
  cases b1 with
  | false =>
    go_enter Tryz.func150, Tryz.ntmps150
    go_wp2_with fail
    refine (HC.out _).mono ?_
    rintro e w1 ⟨rfl, hb1⟩
    have hc1 := fun o => hb1.cell (p := ⟨w.heap.size, o, none⟩) (by simp)
    have B1 := A0.trans (hb1.mono (by simp))
    clear A0 hb1 HC
    go_wp2
    go_ret
    exact ⟨rfl, B1⟩
  | true =>
    go_enter Tryz.func150, Tryz.ntmps150
    go_wp2_with fail
    refine (HC.out _).mono ?_
    rintro e w1 ⟨rfl, hb1⟩
    have hc1 := fun o => hb1.cell (p := ⟨w.heap.size, o, none⟩) (by simp)
    have B1 := A0.trans (hb1.mono (by simp))
    clear A0 hb1 HC
    go_wp2_with fail
    refine (HN.out _).mono ?_
    rintro e w2 ⟨rfl, hw⟩
    subst hw
    go_wp2
    go_ret
    exact ⟨ret_tb (by simp), B1⟩

set_option maxHeartbeats 1000000 in
theorem rHas (k n : Int) (s : ByteArray) (ao : Option Addr) (L cap : Nat) (c : Int) (w : World) (hs : s.size ≤ 1048576) : Calls Tryz.prog 169 #[xx k n s (.slice ao L cap), .int .i64 c] w fun e w' => e = .returned (.bool ((((L : Int) == c) && n == 0) && rtB s)) ∧ Below w.heap.size w w' := by
  have A0 : Below w.heap.size w (w.alloc (.cells #[.int .i64 k, .int .i64 n, .string s, .slice ao L cap] 103)) := (Below.refl _ _).alloc (Nat.le_refl _) _
  have HC := Hid.mk (fun w => cHas k n s ao L cap c w)
  have HN := Hid.mk (fun w => isRexText_any s w hs)
  generalize (((L : Int) == c) && n == 0) = b1 at *
  generalize rtB s = b2 at *
  cases b1 with
  | false =>
    go_enter Tryz.func169, Tryz.ntmps169
    go_wp2_with fail
    refine (HC.out _).mono ?_
    rintro e w1 ⟨rfl, hb1⟩
    have hc1 := fun o => hb1.cell (p := ⟨w.heap.size, o, none⟩) (by simp)
    have B1 := A0.trans (hb1.mono (by simp))
    clear A0 hb1 HC
    go_wp2
    go_ret
    exact ⟨rfl, B1⟩
  | true =>
    go_enter Tryz.func169, Tryz.ntmps169
    go_wp2_with fail
    refine (HC.out _).mono ?_
    rintro e w1 ⟨rfl, hb1⟩
    have hc1 := fun o => hb1.cell (p := ⟨w.heap.size, o, none⟩) (by simp)
    have B1 := A0.trans (hb1.mono (by simp))
    clear A0 hb1 HC
    go_wp2_with fail
    refine (HN.out _).mono ?_
    rintro e w2 ⟨rfl, hb2⟩
    have B2 := B1.trans (hb2.mono B1.size)
    clear B1 hb2 HN
    go_wp2
    go_ret
    exact ⟨ret_tb (by simp), B2⟩

set_option maxHeartbeats 1000000 in
theorem litTok (k n : Int) (s : ByteArray) (ao : Option Addr) (L cap : Nat) (c : Int) (w : World) : Calls Tryz.prog 125 #[xx k n s (.slice ao L cap), .int .i64 c] w fun e w' => e = .returned (vl c n s) ∧ Below w.heap.size w w' := by
  go_enter Tryz.func125, Tryz.ntmps125
  go_wp2
  refine bodyPost_ret (v := .agg #[.int .i64 c, .int .i64 n, .string s]) (by simp [results, Tryz.results125, go_sem]) rfl ⟨rfl, ?_⟩
  exact ((Below.refl _ _).alloc (Nat.le_refl _) _).alloc (by simp) _

set_option maxHeartbeats 1000000 in
theorem litIs (k n : Int) (s : ByteArray) (ao : Option Addr) (L cap : Nat) (c : Int) (w : World) (hs : s.size ≤ maxLen) : Calls Tryz.prog 123 #[xx k n s (.slice ao L cap), .int .i64 c] w fun e w' => e = .returned (.bool (((L : Int) == 0) && tokB c n s)) ∧ Below w.heap.size w w' := by
  have A0 : Below w.heap.size w (w.alloc (.cells #[.int .i64 k, .int .i64 n, .string s, .slice ao L cap] 88)) := (Below.refl _ _).alloc (Nat.le_refl _) _
  have HT := Hid.mk (fun w => litTok k n s ao L cap c w)
  have HO := Hid.mk (fun w => implTokenOk_any c n s w hs)
  generalize tokB c n s = b2 at *
  clear hs
  cases h1 : ((L : Int) == 0) with
  | false =>
    go_enter Tryz.func123, Tryz.ntmps123
    go_wp2
    go_ret
    exact ⟨rfl, A0⟩
  | true =>
    go_enter Tryz.func123, Tryz.ntmps123
    go_wp2_with fail
    refine (HT.out _).mono ?_
    rintro e w1 ⟨rfl, hb1⟩
    have B1 := A0.trans (hb1.mono (by simp))
    clear A0 hb1 HT
    go_wp2_with fail
    refine (HO.out _).mono ?_
    rintro e w2 ⟨rfl, hb2⟩
    have B2 := B1.trans (hb2.mono B1.size)
    clear B1 hb2 HO
    go_wp2
    go_ret
    exact ⟨ret_tb (by simp), B2⟩

set_option maxHeartbeats 1000000 in
theorem intRight (k n : Int) (s : ByteArray) (ao : Option Addr) (L cap : Nat) (w : World) (hs : s.size ≤ maxLen) : Calls Tryz.prog 121 #[xx k n s (.slice ao L cap)] w fun e w' => e = .returned (.bool (((L : Int) == 0) && tokB 1 n s)) ∧ Below w.heap.size w w' := by
  have A0 : Below w.heap.size w (w.alloc (.cells #[.int .i64 k, .int .i64 n, .string s, .slice ao L cap] 90)) := (Below.refl _ _).alloc (Nat.le_refl _) _
  have HC := Hid.mk (fun w => litIs k n s ao L cap 1 w hs)
  go_enter Tryz.func121, Tryz.ntmps121
  go_wp2_with fail
  refine (HC.out _).mono ?_
  rintro e w1 ⟨rfl, hb1⟩
  have B1 := A0.trans (hb1.mono (by simp))
  clear A0 hb1 HC
  go_wp2
  go_ret
  exact ⟨rfl, B1⟩

set_option maxHeartbeats 1000000 in
theorem textRight (k n : Int) (s : ByteArray) (ao : Option Addr) (L cap : Nat) (w : World) (hs : s.size ≤ maxLen) : Calls Tryz.prog 146 #[xx k n s (.slice ao L cap)] w fun e w' => e = .returned (.bool (((L : Int) == 0) && tokB 3 n s)) ∧ Below w.heap.size w w' := by
  have A0 : Below w.heap.size w (w.alloc (.cells #[.int .i64 k, .int .i64 n, .string s, .slice ao L cap] 91)) := (Below.refl _ _).alloc (Nat.le_refl _) _
  have HC := Hid.mk (fun w => litIs k n s ao L cap 3 w hs)
  go_enter Tryz.func146, Tryz.ntmps146
  go_wp2_with fail
  refine (HC.out _).mono ?_
  rintro e w1 ⟨rfl, hb1⟩
  have B1 := A0.trans (hb1.mono (by simp))
  clear A0 hb1 HC
  go_wp2
  go_ret
  exact ⟨rfl, B1⟩

set_option maxHeartbeats 1000000 in
theorem varRight (k n : Int) (s : ByteArray) (ao : Option Addr) (L cap : Nat) (w : World) (hs : s.size ≤ maxLen) : Calls Tryz.prog 148 #[xx k n s (.slice ao L cap)] w fun e w' => e = .returned (.bool (((((L : Int) == 0) && n == 0) && nmB s))) ∧ Below w.heap.size w w' := by
  have A0 : Below w.heap.size w (w.alloc (.cells #[.int .i64 k, .int .i64 n, .string s, .slice ao L cap] 94)) := (Below.refl _ _).alloc (Nat.le_refl _) _
  have HC := Hid.mk (fun w => nHas k n s ao L cap 0 w hs)
  go_enter Tryz.func148, Tryz.ntmps148
  go_wp2_with fail
  refine (HC.out _).mono ?_
  rintro e w1 ⟨rfl, hb1⟩
  have B1 := A0.trans (hb1.mono (by simp))
  clear A0 hb1 HC
  go_wp2
  go_ret
  exact ⟨rfl, B1⟩

set_option maxHeartbeats 1000000 in
theorem atRight (k n : Int) (s : ByteArray) (ao : Option Addr) (L cap : Nat) (w : World) (hs : s.size ≤ maxLen) : Calls Tryz.prog 152 #[xx k n s (.slice ao L cap)] w fun e w' => e = .returned (.bool (((((L : Int) == 1) && n == 0) && nmB s))) ∧ Below w.heap.size w w' := by
  have A0 : Below w.heap.size w (w.alloc (.cells #[.int .i64 k, .int .i64 n, .string s, .slice ao L cap] 95)) := (Below.refl _ _).alloc (Nat.le_refl _) _
  have HC := Hid.mk (fun w => nHas k n s ao L cap 1 w hs)
  go_enter Tryz.func152, Tryz.ntmps152
  go_wp2_with fail
  refine (HC.out _).mono ?_
  rintro e w1 ⟨rfl, hb1⟩
  have B1 := A0.trans (hb1.mono (by simp))
  clear A0 hb1 HC
  go_wp2
  go_ret
  exact ⟨rfl, B1⟩

set_option maxHeartbeats 1000000 in
theorem fieldRight (k n : Int) (s : ByteArray) (ao : Option Addr) (L cap : Nat) (w : World) : Calls Tryz.prog 155 #[xx k n s (.slice ao L cap)] w fun e w' => e = .returned (.bool (((((L : Int) == 1) && n == 0) && s.toList.isEmpty))) ∧ Below w.heap.size w w' := by
  have A0 : Below w.heap.size w (w.alloc (.cells #[.int .i64 k, .int .i64 n, .string s, .slice ao L cap] 98)) := (Below.refl _ _).alloc (Nat.le_refl _) _
  have HC := Hid.mk (fun w => bHas k n s ao L cap 1 w)
  go_enter Tryz.func155, Tryz.ntmps155
  go_wp2_with fail
  refine (HC.out _).mono ?_
  rintro e w1 ⟨rfl, hb1⟩
  have B1 := A0.trans (hb1.mono (by simp))
  clear A0 hb1 HC
  go_wp2
  go_ret
  exact ⟨rfl, B1⟩

set_option maxHeartbeats 1000000 in
theorem binRight (k n : Int) (s : ByteArray) (ao : Option Addr) (L cap : Nat) (w : World) : Calls Tryz.prog 158 #[xx k n s (.slice ao L cap)] w fun e w' => e = .returned (.bool (((((L : Int) == 2) && n == 0) && opB s))) ∧ Below w.heap.size w w' := by
  have A0 : Below w.heap.size w (w.alloc (.cells #[.int .i64 k, .int .i64 n, .string s, .slice ao L cap] 99)) := (Below.refl _ _).alloc (Nat.le_refl _) _
  have HC := Hid.mk (fun w => cHas k n s ao L cap 2 w)
  have HN := Hid.mk (fun w => isSignOfTwo_any s w)
  generalize (((L : Int) == 2) && n == 0) = b1 at *
  generalize opB s = b2 at *
  cases b1 with
  | false =>
    go_enter Tryz.func158, Tryz.ntmps158
    go_wp2_with fail
    refine (HC.out _).mono ?_
    rintro e w1 ⟨rfl, hb1⟩
    have hc1 := fun o => hb1.cell (p := ⟨w.heap.size, o, none⟩) (by simp)
    have B1 := A0.trans (hb1.mono (by simp))
    clear A0 hb1 HC
    go_wp2
    go_ret
    exact ⟨rfl, B1⟩
  | true =>
    go_enter Tryz.func158, Tryz.ntmps158
    go_wp2_with fail
    refine (HC.out _).mono ?_
    rintro e w1 ⟨rfl, hb1⟩
    have hc1 := fun o => hb1.cell (p := ⟨w.heap.size, o, none⟩) (by simp)
    have B1 := A0.trans (hb1.mono (by simp))
    clear A0 hb1 HC
    go_wp2_with fail
    refine (HN.out _).mono ?_
    rintro e w2 ⟨rfl, hw⟩
    subst hw
    go_wp2
    go_ret
    exact ⟨ret_tb (by simp), B1⟩

set_option maxHeartbeats 1000000 in
theorem notRight (k n : Int) (s : ByteArray) (ao : Option Addr) (L cap : Nat) (w : World) : Calls Tryz.prog 161 #[xx k n s (.slice ao L cap)] w fun e w' => e = .returned (.bool (((((L : Int) == 1) && n == 0) && s.toList.isEmpty))) ∧ Below w.heap.size w w' := by
  have A0 : Below w.heap.size w (w.alloc (.cells #[.int .i64 k, .int .i64 n, .string s, .slice ao L cap] 100)) := (Below.refl _ _).alloc (Nat.le_refl _) _
  have HC := Hid.mk (fun w => bHas k n s ao L cap 1 w)
  go_enter Tryz.func161, Tryz.ntmps161
  go_wp2_with fail
  refine (HC.out _).mono ?_
  rintro e w1 ⟨rfl, hb1⟩
  have B1 := A0.trans (hb1.mono (by simp))
  clear A0 hb1 HC
  go_wp2
  go_ret
  exact ⟨rfl, B1⟩

set_option maxHeartbeats 1000000 in
theorem negRight (k n : Int) (s : ByteArray) (ao : Option Addr) (L cap : Nat) (w : World) : Calls Tryz.prog 163 #[xx k n s (.slice ao L cap)] w fun e w' => e = .returned (.bool (((((L : Int) == 1) && n == 0) && s.toList.isEmpty))) ∧ Below w.heap.size w w' := by
  have A0 : Below w.heap.size w (w.alloc (.cells #[.int .i64 k, .int .i64 n, .string s, .slice ao L cap] 101)) := (Below.refl _ _).alloc (Nat.le_refl _) _
  have HC := Hid.mk (fun w => bHas k n s ao L cap 1 w)
  go_enter Tryz.func163, Tryz.ntmps163
  go_wp2_with fail
  refine (HC.out _).mono ?_
  rintro e w1 ⟨rfl, hb1⟩
  have B1 := A0.trans (hb1.mono (by simp))
  clear A0 hb1 HC
  go_wp2
  go_ret
  exact ⟨rfl, B1⟩

set_option maxHeartbeats 1000000 in
theorem inRight (k n : Int) (s : ByteArray) (ao : Option Addr) (L cap : Nat) (w : World) (hs : s.size ≤ maxLen) : Calls Tryz.prog 165 #[xx k n s (.slice ao L cap)] w fun e w' => e = .returned (.bool (((((L : Int) == 1) && n == 0) && nmB s))) ∧ Below w.heap.size w w' := by
  have A0 : Below w.heap.size w (w.alloc (.cells #[.int .i64 k, .int .i64 n, .string s, .slice ao L cap] 102)) := (Below.refl _ _).alloc (Nat.le_refl _) _
  have HC := Hid.mk (fun w => nHas k n s ao L cap 1 w hs)
  go_enter Tryz.func165, Tryz.ntmps165
  go_wp2_with fail
  refine (HC.out _).mono ?_
  rintro e w1 ⟨rfl, hb1⟩
  have B1 := A0.trans (hb1.mono (by simp))
  clear A0 hb1 HC
  go_wp2
  go_ret
  exact ⟨rfl, B1⟩

set_option maxHeartbeats 1000000 in
theorem matchRight (k n : Int) (s : ByteArray) (ao : Option Addr) (L cap : Nat) (w : World) (hs : s.size ≤ 1048576) : Calls Tryz.prog 167 #[xx k n s (.slice ao L cap)] w fun e w' => e = .returned (.bool (((((L : Int) == 1) && n == 0) && rtB s))) ∧ Below w.heap.size w w' := by
  have A0 : Below w.heap.size w (w.alloc (.cells #[.int .i64 k, .int .i64 n, .string s, .slice ao L cap] 105)) := (Below.refl _ _).alloc (Nat.le_refl _) _
  have HC := Hid.mk (fun w => rHas k n s ao L cap 1 w hs)
  go_enter Tryz.func167, Tryz.ntmps167
  go_wp2_with fail
  refine (HC.out _).mono ?_
  rintro e w1 ⟨rfl, hb1⟩
  have B1 := A0.trans (hb1.mono (by simp))
  clear A0 hb1 HC
  go_wp2
  go_ret
  exact ⟨rfl, B1⟩

set_option maxHeartbeats 1000000 in
theorem callRight (k n : Int) (s : ByteArray) (ao : Option Addr) (L cap : Nat) (w : World) (hs : s.size ≤ maxLen) : Calls Tryz.prog 199 #[xx k n s (.slice ao L cap)] w fun e w' => e = .returned (.bool ((decide (L ≤ 4) && ((((L : Int) == (L : Int)) && n == 0) && nmB s)))) ∧ Below w.heap.size w w' := by
  have A0 : Below w.heap.size w (w.alloc (.cells #[.int .i64 k, .int .i64 n, .string s, .slice ao L cap] 106)) := (Below.refl _ _).alloc (Nat.le_refl _) _
  have HC := Hid.mk (fun w => nHas k n s ao L cap (L : Int) w hs)
  generalize ((((L : Int) == (L : Int)) && n == 0) && nmB s) = b1 at *
  by_cases h4 : L ≤ 4
  · have hi : (L : Int) ≤ 4 := by omega
    rw [decide_eq_true h4, Bool.true_and]
    clear h4
    go_enter Tryz.func199, Tryz.ntmps199
    go_wp2_with fail
    refine (HC.out _).mono ?_
    rintro e w1 ⟨rfl, hb1⟩
    have B1 := A0.trans (hb1.mono (by simp))
    clear A0 hb1 HC
    go_wp2
    go_ret
    exact ⟨rfl, B1⟩
  · have hi : ¬ (L : Int) ≤ 4 := by omega
    rw [decide_eq_false h4, Bool.false_and]
    clear h4 HC
    go_enter Tryz.func199, Tryz.ntmps199
    go_wp2
    go_ret
    exact ⟨rfl, A0⟩

set_option maxHeartbeats 1000000 in
theorem lenRight (k n : Int) (s : ByteArray) (ao : Option Addr) (L cap : Nat) (w : World) : Calls Tryz.prog 201 #[xx k n s (.slice ao L cap)] w fun e w' => e = .returned (.bool (((((L : Int) == 1) && n == 0) && s.toList.isEmpty))) ∧ Below w.heap.size w w' := by
  have A0 : Below w.heap.size w (w.alloc (.cells #[.int .i64 k, .int .i64 n, .string s, .slice ao L cap] 107)) := (Below.refl _ _).alloc (Nat.le_refl _) _
  have HC := Hid.mk (fun w => bHas k n s ao L cap 1 w)
  go_enter Tryz.func201, Tryz.ntmps201
  go_wp2_with fail
  refine (HC.out _).mono ?_
  rintro e w1 ⟨rfl, hb1⟩
  have B1 := A0.trans (hb1.mono (by simp))
  clear A0 hb1 HC
  go_wp2
  go_ret
  exact ⟨rfl, B1⟩

set_option maxHeartbeats 1000000 in
theorem subRight (k n : Int) (s : ByteArray) (ao : Option Addr) (L cap : Nat) (w : World) : Calls Tryz.prog 203 #[xx k n s (.slice ao L cap)] w fun e w' => e = .returned (.bool (((((L : Int) == 3) && n == 0) && s.toList.isEmpty))) ∧ Below w.heap.size w w' := by
  have A0 : Below w.heap.size w (w.alloc (.cells #[.int .i64 k, .int .i64 n, .string s, .slice ao L cap] 108)) := (Below.refl _ _).alloc (Nat.le_refl _) _
  have HC := Hid.mk (fun w => bHas k n s ao L cap 3 w)
  go_enter Tryz.func203, Tryz.ntmps203
  go_wp2_with fail
  refine (HC.out _).mono ?_
  rintro e w1 ⟨rfl, hb1⟩
  have B1 := A0.trans (hb1.mono (by simp))
  clear A0 hb1 HC
  go_wp2
  go_ret
  exact ⟨rfl, B1⟩

set_option maxHeartbeats 1000000 in
theorem nrRight (k n : Int) (s : ByteArray) (ao : Option Addr) (L cap : Nat) (w : World) : Calls Tryz.prog 205 #[xx k n s (.slice ao L cap)] w fun e w' => e = .returned (.bool (((((L : Int) == 0) && n == 0) && s.toList.isEmpty))) ∧ Below w.heap.size w w' := by
  have A0 : Below w.heap.size w (w.alloc (.cells #[.int .i64 k, .int .i64 n, .string s, .slice ao L cap] 109)) := (Below.refl _ _).alloc (Nat.le_refl _) _
  have HC := Hid.mk (fun w => bHas k n s ao L cap 0 w)
  go_enter Tryz.func205, Tryz.ntmps205
  go_wp2_with fail
  refine (HC.out _).mono ?_
  rintro e w1 ⟨rfl, hb1⟩
  have B1 := A0.trans (hb1.mono (by simp))
  clear A0 hb1 HC
  go_wp2
  go_ret
  exact ⟨rfl, B1⟩

set_option maxHeartbeats 1000000 in
theorem nfRight (k n : Int) (s : ByteArray) (ao : Option Addr) (L cap : Nat) (w : World) : Calls Tryz.prog 207 #[xx k n s (.slice ao L cap)] w fun e w' => e = .returned (.bool (((((L : Int) == 0) && n == 0) && s.toList.isEmpty))) ∧ Below w.heap.size w w' := by
  have A0 : Below w.heap.size w (w.alloc (.cells #[.int .i64 k, .int .i64 n, .string s, .slice ao L cap] 110)) := (Below.refl _ _).alloc (Nat.le_refl _) _
  have HC := Hid.mk (fun w => bHas k n s ao L cap 0 w)
  go_enter Tryz.func207, Tryz.ntmps207
  go_wp2_with fail
  refine (HC.out _).mono ?_
  rintro e w1 ⟨rfl, hb1⟩
  have B1 := A0.trans (hb1.mono (by simp))
  clear A0 hb1 HC
  go_wp2
  go_ret
  exact ⟨rfl, B1⟩

set_option maxHeartbeats 1000000 in
theorem idxRight (k n : Int) (s : ByteArray) (ao : Option Addr) (L cap : Nat) (w : World) : Calls Tryz.prog 209 #[xx k n s (.slice ao L cap)] w fun e w' => e = .returned (.bool (((((L : Int) == 2) && n == 0) && s.toList.isEmpty))) ∧ Below w.heap.size w w' := by
  have A0 : Below w.heap.size w (w.alloc (.cells #[.int .i64 k, .int .i64 n, .string s, .slice ao L cap] 111)) := (Below.refl _ _).alloc (Nat.le_refl _) _
  have HC := Hid.mk (fun w => bHas k n s ao L cap 2 w)
  go_enter Tryz.func209, Tryz.ntmps209
  go_wp2_with fail
  refine (HC.out _).mono ?_
  rintro e w1 ⟨rfl, hb1⟩
  have B1 := A0.trans (hb1.mono (by simp))
  clear A0 hb1 HC
  go_wp2
  go_ret
  exact ⟨rfl, B1⟩

set_option maxHeartbeats 1000000 in
theorem upRight (k n : Int) (s : ByteArray) (ao : Option Addr) (L cap : Nat) (w : World) : Calls Tryz.prog 211 #[xx k n s (.slice ao L cap)] w fun e w' => e = .returned (.bool (((((L : Int) == 1) && n == 0) && s.toList.isEmpty))) ∧ Below w.heap.size w w' := by
  have A0 : Below w.heap.size w (w.alloc (.cells #[.int .i64 k, .int .i64 n, .string s, .slice ao L cap] 112)) := (Below.refl _ _).alloc (Nat.le_refl _) _
  have HC := Hid.mk (fun w => bHas k n s ao L cap 1 w)
  go_enter Tryz.func211, Tryz.ntmps211
  go_wp2_with fail
  refine (HC.out _).mono ?_
  rintro e w1 ⟨rfl, hb1⟩
  have B1 := A0.trans (hb1.mono (by simp))
  clear A0 hb1 HC
  go_wp2
  go_ret
  exact ⟨rfl, B1⟩

set_option maxHeartbeats 1000000 in
theorem gsubRight (k n : Int) (s : ByteArray) (ao : Option Addr) (L cap : Nat) (w : World) (hs : s.size ≤ 1048576) : Calls Tryz.prog 213 #[xx k n s (.slice ao L cap)] w fun e w' => e = .returned (.bool (((((L : Int) == 2) && n == 0) && rtB s))) ∧ Below w.heap.size w w' := by
  have A0 : Below w.heap.size w (w.alloc (.cells #[.int .i64 k, .int .i64 n, .string s, .slice ao L cap] 113)) := (Below.refl _ _).alloc (Nat.le_refl _) _
  have HC := Hid.mk (fun w => rHas k n s ao L cap 2 w hs)
  go_enter Tryz.func213, Tryz.ntmps213
  go_wp2_with fail
  refine (HC.out _).mono ?_
  rintro e w1 ⟨rfl, hb1⟩
  have B1 := A0.trans (hb1.mono (by simp))
  clear A0 hb1 HC
  go_wp2
  go_ret
  exact ⟨rfl, B1⟩

set_option maxHeartbeats 1000000 in
theorem strayRight (k n : Int) (s : ByteArray) (ao : Option Addr) (L cap : Nat) (w : World) : Calls Tryz.prog 215 #[xx k n s (.slice ao L cap)] w fun e w' => e = .returned (.bool (false)) ∧ Below w.heap.size w w' := by
  have A0 : Below w.heap.size w (w.alloc (.cells #[.int .i64 k, .int .i64 n, .string s, .slice ao L cap] 114)) := (Below.refl _ _).alloc (Nat.le_refl _) _
  go_enter Tryz.func215, Tryz.ntmps215
  go_wp2
  go_ret
  exact ⟨rfl, A0⟩
end Go.Proofs.YtbbhikbdbndefaaGreat
