/- What each kind of term asks of its number, its text and how many parts it has: the program's. Which terms are right, but for their parts, as the program asks it: termOf, exprNodeOk. The model's reader: where it stands, its small steps, a part within brackets. The model's reader: one with its mark. The model's reader: one that stands alone. The model's reader: a byte that stands for itself, and what cannot be read. The model's reader: a set. -/
import Derived.Test.YtgigalcajgjpnaaGreatExOkM
import Derived.Test.YtgigalcajgjpnaaGreatExWord
import Derived.Test.YtgigalcajgjpnaaGreatTokOk
import Derived.Test.YtgigalcajgjpnaaGreatRexParI
import Derived.Test.YtgigalcajgjpnaaGreatQuietS
import Derived.Test.YtgigalcajgjpnaaGreatTake
import Derived.Deep.LoopGhost
namespace Go.Proofs.YtgigalcajgjpnaaGreat
open Go.RowKit
set_option maxRecDepth 8000

theorem rt_long {s : ByteArray} (h : 200 < s.size) : rtB s = false := by unfold rtB; rw [decide_eq_false_iff_not]; omega
theorem rt_yes {s : ByteArray} (h : s.size ≤ 200) {t : Tr} (ht : IsTx s t) : rtB s = true := by unfold rtB; simp only [decide_eq_true_eq]; exact ⟨h, t, ht⟩
theorem rt_no {s : ByteArray} (h : ∀ t, ¬ IsTx s t) : rtB s = false := by
  unfold rtB
  rw [decide_eq_false_iff_not]
  rintro ⟨-, t, ht⟩
  exact h t ht

set_option maxHeartbeats 1000000 in
theorem isRexText_any (s : ByteArray) (w : World) (hs : s.size ≤ 1048576) : Calls Tryz.prog 209 #[.string s] w fun e w' => e = .returned (.bool (rtB s)) ∧ Below w.heap.size w w' := by
  by_cases h2 : 200 < s.size
  · have hi : (200 : Int) < (s.size : Int) := by omega
    have H := Hid.mk (rt_long h2)
    have RB : Below w.heap.size w w := Below.refl _ _
    clear h2
    go_enter Tryz.func209, Tryz.ntmps209
    go_wp2
    go_ret
    exact ⟨ret_tb H.out.symm, RB⟩
  · have hi : ¬ (200 : Int) < (s.size : Int) := by omega
    by_cases h : ∃ t, IsTx s t
    · obtain ⟨t, ht⟩ := h
      have H := Hid.mk (rt_yes (by omega) ht)
      have HP := Hid.mk (fun w => implParse_yes s t w ht)
      clear ht h2
      obtain ⟨k, hk⟩ : ∃ k, t.k = k := ⟨_, rfl⟩
      obtain ⟨ts, hts⟩ : ∃ ts, t.s = ts := ⟨_, rfl⟩
      rw [hk, hts] at HP
      clear hk hts
      go_enter Tryz.func209, Tryz.ntmps209
      go_wp2_with fail
      refine (HP.out _).mono ?_
      rintro e w1 ⟨u, rfl, ho, -, hb1⟩
      obtain ⟨au, cu, rfl⟩ := ho.value
      have HB := Hid.mk (fun o => hb1.alloc hb1.size o)
      clear HP hb1 ho
      go_wp2
      go_ret
      exact ⟨ret_tb H.out.symm, HB.out _⟩
    · have hno : ∀ t, ¬ IsTx s t := fun t ht => h ⟨t, ht⟩
      have H := Hid.mk (rt_no hno)
      have HP := Hid.mk (fun w => implParse_no s w hs hno)
      clear h hno h2
      go_enter Tryz.func209, Tryz.ntmps209
      go_wp2_with fail
      refine (HP.out _).mono ?_
      rintro e w1 ⟨rfl, hb1⟩
      have HB := Hid.mk (fun o => hb1.alloc hb1.size o)
      clear HP hb1
      go_wp2
      go_ret
      exact ⟨ret_tb H.out.symm, HB.out _⟩

set_option maxHeartbeats 1000000 in
theorem cHas (k n : Int) (s : ByteArray) (ao : Option Addr) (L cap : Nat) (c : Int) (w : World) : Calls Tryz.prog 190 #[xx k n s (.slice ao L cap), .int .i64 c] w fun e w' => e = .returned (.bool (((L : Int) == c) && n == 0)) ∧ Below w.heap.size w w' := by
  have A0 : Below w.heap.size w (w.alloc (.cells #[.int .i64 k, .int .i64 n, .string s, .slice ao L cap] 153)) := (Below.refl _ _).alloc (Nat.le_refl _) _
  cases h1 : ((L : Int) == c) with
  | false =>
    go_enter Tryz.func190, Tryz.ntmps190
    go_wp2
    go_ret
    exact ⟨rfl, A0⟩
  | true =>
    go_enter Tryz.func190, Tryz.ntmps190
    go_wp2
    go_ret
    exact ⟨ret_tb (by simp), A0⟩

set_option maxHeartbeats 1000000 in
theorem bHas (k n : Int) (s : ByteArray) (ao : Option Addr) (L cap : Nat) (c : Int) (w : World) : Calls Tryz.prog 196 #[xx k n s (.slice ao L cap), .int .i64 c] w fun e w' => e = .returned (.bool ((((L : Int) == c) && n == 0) && s.toList.isEmpty)) ∧ Below w.heap.size w w' := by
  have A0 : Below w.heap.size w (w.alloc (.cells #[.int .i64 k, .int .i64 n, .string s, .slice ao L cap] 163)) := (Below.refl _ _).alloc (Nat.le_refl _) _
  have HC := Hid.mk (fun w => cHas k n s ao L cap c w)
  generalize (((L : Int) == c) && n == 0) = b1 at *
  cases b1 with
  | false =>
    go_enter Tryz.func196, Tryz.ntmps196
    go_wp2_with fail
    refine (HC.out _).mono ?_
    rintro e w1 ⟨rfl, hb1⟩
    have hc1 := fun o => hb1.cell (p := ⟨w.heap.size, o, none⟩) (by simp)
    have B1 := A0.trans (hb1.mono (by simp))
    clear A0 hb1 HC
    go_wp2
    go_ret
    exact ⟨rfl, B1⟩
  | true =>
    go_enter Tryz.func196, Tryz.ntmps196
    go_wp2_with fail
    refine (HC.out _).mono ?_
    rintro e w1 ⟨rfl, hb1⟩
    have hc1 := fun o => hb1.cell (p := ⟨w.heap.size, o, none⟩) (by simp)
    have B1 := A0.trans (hb1.mono (by simp))
    clear A0 hb1 HC
    go_wp2
    go_ret
    exact ⟨ret_tb (by simp), B1⟩

set_option maxHeartbeats 1000000 in
theorem nHas (k n : Int) (s : ByteArray) (ao : Option Addr) (L cap : Nat) (c : Int) (w : World) (hs : s.size ≤ maxLen) : Calls Tryz.prog 189 #[xx k n s (.slice ao L cap), .int .i64 c] w fun e w' => e = .returned (.bool ((((L : Int) == c) && n == 0) && nmB s)) ∧ Below w.heap.size w w' := by
  have A0 : Below w.heap.size w (w.alloc (.cells #[.int .i64 k, .int .i64 n, .string s, .slice ao L cap] 159)) := (Below.refl _ _).alloc (Nat.le_refl _) _
  have HC := Hid.mk (fun w => cHas k n s ao L cap c w)
  have HN := Hid.mk (fun w => implNameOk_any s w hs)
  generalize (((L : Int) == c) && n == 0) = b1 at *
  generalize nmB s = b2 at *
  cases b1 with
  | false =>
    go_enter Tryz.func189, Tryz.ntmps189
    go_wp2_with fail
    refine (HC.out _).mono ?_
    rintro e w1 ⟨rfl, hb1⟩
    have hc1 := fun o => hb1.cell (p := ⟨w.heap.size, o, none⟩) (by simp)
    have B1 := A0.trans (hb1.mono (by simp))
    clear A0 hb1 HC
    go_wp2
    go_ret
    exact ⟨rfl, B1⟩
  | true =>
    go_enter Tryz.func189, Tryz.ntmps189
    go_wp2_with fail
    refine (HC.out _).mono ?_
    rintro e w1 ⟨rfl, hb1⟩
    have hc1 := fun o => hb1.cell (p := ⟨w.heap.size, o, none⟩) (by simp)
    have B1 := A0.trans (hb1.mono (by simp))
    clear A0 hb1 HC
    go_wp2_with fail
    refine (HN.out _).mono ?_
    rintro e w2 ⟨rfl, hw⟩
    subst hw
    go_wp2
    go_ret
    exact ⟨ret_tb (by simp), B1⟩

set_option maxHeartbeats 1000000 in
theorem rHas (k n : Int) (s : ByteArray) (ao : Option Addr) (L cap : Nat) (c : Int) (w : World) (hs : s.size ≤ 1048576) : Calls Tryz.prog 208 #[xx k n s (.slice ao L cap), .int .i64 c] w fun e w' => e = .returned (.bool ((((L : Int) == c) && n == 0) && rtB s)) ∧ Below w.heap.size w w' := by
  have A0 : Below w.heap.size w (w.alloc (.cells #[.int .i64 k, .int .i64 n, .string s, .slice ao L cap] 170)) := (Below.refl _ _).alloc (Nat.le_refl _) _
  have HC := Hid.mk (fun w => cHas k n s ao L cap c w)
  have HN := Hid.mk (fun w => isRexText_any s w hs)
  generalize (((L : Int) == c) && n == 0) = b1 at *
  generalize rtB s = b2 at *
  cases b1 with
  | false =>
    go_enter Tryz.func208, Tryz.ntmps208
    go_wp2_with fail
    refine (HC.out _).mono ?_
    rintro e w1 ⟨rfl, hb1⟩
    have hc1 := fun o => hb1.cell (p := ⟨w.heap.size, o, none⟩) (by simp)
    have B1 := A0.trans (hb1.mono (by simp))
    clear A0 hb1 HC
    go_wp2
    go_ret
    exact ⟨rfl, B1⟩
  | true =>
    go_enter Tryz.func208, Tryz.ntmps208
    go_wp2_with fail
    refine (HC.out _).mono ?_
    rintro e w1 ⟨rfl, hb1⟩
    have hc1 := fun o => hb1.cell (p := ⟨w.heap.size, o, none⟩) (by simp)
    have B1 := A0.trans (hb1.mono (by simp))
    clear A0 hb1 HC
    go_wp2_with fail
    refine (HN.out _).mono ?_
    rintro e w2 ⟨rfl, hb2⟩
    have B2 := B1.trans (hb2.mono B1.size)
    clear B1 hb2 HN
    go_wp2
    go_ret
    exact ⟨ret_tb (by simp), B2⟩

set_option maxHeartbeats 1000000 in
theorem litTok (k n : Int) (s : ByteArray) (ao : Option Addr) (L cap : Nat) (c : Int) (w : World) : Calls Tryz.prog 164 #[xx k n s (.slice ao L cap), .int .i64 c] w fun e w' => e = .returned (vl c n s) ∧ Below w.heap.size w w' := by
  go_enter Tryz.func164, Tryz.ntmps164
  go_wp2
  refine bodyPost_ret (v := .agg #[.int .i64 c, .int .i64 n, .string s]) (by simp [results, Tryz.results164, go_sem]) rfl ⟨rfl, ?_⟩
  exact ((Below.refl _ _).alloc (Nat.le_refl _) _).alloc (by simp) _

set_option maxHeartbeats 1000000 in
theorem litIs (k n : Int) (s : ByteArray) (ao : Option Addr) (L cap : Nat) (c : Int) (w : World) (hs : s.size ≤ maxLen) : Calls Tryz.prog 162 #[xx k n s (.slice ao L cap), .int .i64 c] w fun e w' => e = .returned (.bool (((L : Int) == 0) && tokB c n s)) ∧ Below w.heap.size w w' := by
  have A0 : Below w.heap.size w (w.alloc (.cells #[.int .i64 k, .int .i64 n, .string s, .slice ao L cap] 155)) := (Below.refl _ _).alloc (Nat.le_refl _) _
  have HT := Hid.mk (fun w => litTok k n s ao L cap c w)
  have HO := Hid.mk (fun w => implTokenOk_any c n s w hs)
  generalize tokB c n s = b2 at *
  clear hs
  cases h1 : ((L : Int) == 0) with
  | false =>
    go_enter Tryz.func162, Tryz.ntmps162
    go_wp2
    go_ret
    exact ⟨rfl, A0⟩
  | true =>
    go_enter Tryz.func162, Tryz.ntmps162
    go_wp2_with fail
    refine (HT.out _).mono ?_
    rintro e w1 ⟨rfl, hb1⟩
    have B1 := A0.trans (hb1.mono (by simp))
    clear A0 hb1 HT
    go_wp2_with fail
    refine (HO.out _).mono ?_
    rintro e w2 ⟨rfl, hb2⟩
    have B2 := B1.trans (hb2.mono B1.size)
    clear B1 hb2 HO
    go_wp2
    go_ret
    exact ⟨ret_tb (by simp), B2⟩

set_option maxHeartbeats 1000000 in
theorem intRight (k n : Int) (s : ByteArray) (ao : Option Addr) (L cap : Nat) (w : World) (hs : s.size ≤ maxLen) : Calls Tryz.prog 160 #[xx k n s (.slice ao L cap)] w fun e w' => e = .returned (.bool (((L : Int) == 0) && tokB 1 n s)) ∧ Below w.heap.size w w' := by
  have A0 : Below w.heap.size w (w.alloc (.cells #[.int .i64 k, .int .i64 n, .string s, .slice ao L cap] 157)) := (Below.refl _ _).alloc (Nat.le_refl _) _
  have HC := Hid.mk (fun w => litIs k n s ao L cap 1 w hs)
  go_enter Tryz.func160, Tryz.ntmps160
  go_wp2_with fail
  refine (HC.out _).mono ?_
  rintro e w1 ⟨rfl, hb1⟩
  have B1 := A0.trans (hb1.mono (by simp))
  clear A0 hb1 HC
  go_wp2
  go_ret
  exact ⟨rfl, B1⟩

set_option maxHeartbeats 1000000 in
theorem textRight (k n : Int) (s : ByteArray) (ao : Option Addr) (L cap : Nat) (w : World) (hs : s.size ≤ maxLen) : Calls Tryz.prog 185 #[xx k n s (.slice ao L cap)] w fun e w' => e = .returned (.bool (((L : Int) == 0) && tokB 3 n s)) ∧ Below w.heap.size w w' := by
  have A0 : Below w.heap.size w (w.alloc (.cells #[.int .i64 k, .int .i64 n, .string s, .slice ao L cap] 158)) := (Below.refl _ _).alloc (Nat.le_refl _) _
  have HC := Hid.mk (fun w => litIs k n s ao L cap 3 w hs)
  go_enter Tryz.func185, Tryz.ntmps185
  go_wp2_with fail
  refine (HC.out _).mono ?_
  rintro e w1 ⟨rfl, hb1⟩
  have B1 := A0.trans (hb1.mono (by simp))
  clear A0 hb1 HC
  go_wp2
  go_ret
  exact ⟨rfl, B1⟩

set_option maxHeartbeats 1000000 in
theorem varRight (k n : Int) (s : ByteArray) (ao : Option Addr) (L cap : Nat) (w : World) (hs : s.size ≤ maxLen) : Calls Tryz.prog 187 #[xx k n s (.slice ao L cap)] w fun e w' => e = .returned (.bool (((((L : Int) == 0) && n == 0) && nmB s))) ∧ Below w.heap.size w w' := by
  have A0 : Below w.heap.size w (w.alloc (.cells #[.int .i64 k, .int .i64 n, .string s, .slice ao L cap] 161)) := (Below.refl _ _).alloc (Nat.le_refl _) _
  have HC := Hid.mk (fun w => nHas k n s ao L cap 0 w hs)
  go_enter Tryz.func187, Tryz.ntmps187
  go_wp2_with fail
  refine (HC.out _).mono ?_
  rintro e w1 ⟨rfl, hb1⟩
  have B1 := A0.trans (hb1.mono (by simp))
  clear A0 hb1 HC
  go_wp2
  go_ret
  exact ⟨rfl, B1⟩

set_option maxHeartbeats 1000000 in
theorem atRight (k n : Int) (s : ByteArray) (ao : Option Addr) (L cap : Nat) (w : World) (hs : s.size ≤ maxLen) : Calls Tryz.prog 191 #[xx k n s (.slice ao L cap)] w fun e w' => e = .returned (.bool (((((L : Int) == 1) && n == 0) && nmB s))) ∧ Below w.heap.size w w' := by
  have A0 : Below w.heap.size w (w.alloc (.cells #[.int .i64 k, .int .i64 n, .string s, .slice ao L cap] 162)) := (Below.refl _ _).alloc (Nat.le_refl _) _
  have HC := Hid.mk (fun w => nHas k n s ao L cap 1 w hs)
  go_enter Tryz.func191, Tryz.ntmps191
  go_wp2_with fail
  refine (HC.out _).mono ?_
  rintro e w1 ⟨rfl, hb1⟩
  have B1 := A0.trans (hb1.mono (by simp))
  clear A0 hb1 HC
  go_wp2
  go_ret
  exact ⟨rfl, B1⟩

set_option maxHeartbeats 1000000 in
theorem fieldRight (k n : Int) (s : ByteArray) (ao : Option Addr) (L cap : Nat) (w : World) : Calls Tryz.prog 194 #[xx k n s (.slice ao L cap)] w fun e w' => e = .returned (.bool (((((L : Int) == 1) && n == 0) && s.toList.isEmpty))) ∧ Below w.heap.size w w' := by
  have A0 : Below w.heap.size w (w.alloc (.cells #[.int .i64 k, .int .i64 n, .string s, .slice ao L cap] 165)) := (Below.refl _ _).alloc (Nat.le_refl _) _
  have HC := Hid.mk (fun w => bHas k n s ao L cap 1 w)
  go_enter Tryz.func194, Tryz.ntmps194
  go_wp2_with fail
  refine (HC.out _).mono ?_
  rintro e w1 ⟨rfl, hb1⟩
  have B1 := A0.trans (hb1.mono (by simp))
  clear A0 hb1 HC
  go_wp2
  go_ret
  exact ⟨rfl, B1⟩

set_option maxHeartbeats 1000000 in
theorem binRight (k n : Int) (s : ByteArray) (ao : Option Addr) (L cap : Nat) (w : World) : Calls Tryz.prog 197 #[xx k n s (.slice ao L cap)] w fun e w' => e = .returned (.bool (((((L : Int) == 2) && n == 0) && opB s))) ∧ Below w.heap.size w w' := by
  have A0 : Below w.heap.size w (w.alloc (.cells #[.int .i64 k, .int .i64 n, .string s, .slice ao L cap] 166)) := (Below.refl _ _).alloc (Nat.le_refl _) _
  have HC := Hid.mk (fun w => cHas k n s ao L cap 2 w)
  have HN := Hid.mk (fun w => isSignOfTwo_any s w)
  generalize (((L : Int) == 2) && n == 0) = b1 at *
  generalize opB s = b2 at *
  cases b1 with
  | false =>
    go_enter Tryz.func197, Tryz.ntmps197
    go_wp2_with fail
    refine (HC.out _).mono ?_
    rintro e w1 ⟨rfl, hb1⟩
    have hc1 := fun o => hb1.cell (p := ⟨w.heap.size, o, none⟩) (by simp)
    have B1 := A0.trans (hb1.mono (by simp))
    clear A0 hb1 HC
    go_wp2
    go_ret
    exact ⟨rfl, B1⟩
  | true =>
    go_enter Tryz.func197, Tryz.ntmps197
    go_wp2_with fail
    refine (HC.out _).mono ?_
    rintro e w1 ⟨rfl, hb1⟩
    have hc1 := fun o => hb1.cell (p := ⟨w.heap.size, o, none⟩) (by simp)
    have B1 := A0.trans (hb1.mono (by simp))
    clear A0 hb1 HC
    go_wp2_with fail
    refine (HN.out _).mono ?_
    rintro e w2 ⟨rfl, hw⟩
    subst hw
    go_wp2
    go_ret
    exact ⟨ret_tb (by simp), B1⟩

set_option maxHeartbeats 1000000 in
theorem notRight (k n : Int) (s : ByteArray) (ao : Option Addr) (L cap : Nat) (w : World) : Calls Tryz.prog 200 #[xx k n s (.slice ao L cap)] w fun e w' => e = .returned (.bool (((((L : Int) == 1) && n == 0) && s.toList.isEmpty))) ∧ Below w.heap.size w w' := by
  have A0 : Below w.heap.size w (w.alloc (.cells #[.int .i64 k, .int .i64 n, .string s, .slice ao L cap] 167)) := (Below.refl _ _).alloc (Nat.le_refl _) _
  have HC := Hid.mk (fun w => bHas k n s ao L cap 1 w)
  go_enter Tryz.func200, Tryz.ntmps200
  go_wp2_with fail
  refine (HC.out _).mono ?_
  rintro e w1 ⟨rfl, hb1⟩
  have B1 := A0.trans (hb1.mono (by simp))
  clear A0 hb1 HC
  go_wp2
  go_ret
  exact ⟨rfl, B1⟩

set_option maxHeartbeats 1000000 in
theorem negRight (k n : Int) (s : ByteArray) (ao : Option Addr) (L cap : Nat) (w : World) : Calls Tryz.prog 202 #[xx k n s (.slice ao L cap)] w fun e w' => e = .returned (.bool (((((L : Int) == 1) && n == 0) && s.toList.isEmpty))) ∧ Below w.heap.size w w' := by
  have A0 : Below w.heap.size w (w.alloc (.cells #[.int .i64 k, .int .i64 n, .string s, .slice ao L cap] 168)) := (Below.refl _ _).alloc (Nat.le_refl _) _
  have HC := Hid.mk (fun w => bHas k n s ao L cap 1 w)
  go_enter Tryz.func202, Tryz.ntmps202
  go_wp2_with fail
  refine (HC.out _).mono ?_
  rintro e w1 ⟨rfl, hb1⟩
  have B1 := A0.trans (hb1.mono (by simp))
  clear A0 hb1 HC
  go_wp2
  go_ret
  exact ⟨rfl, B1⟩

set_option maxHeartbeats 1000000 in
theorem inRight (k n : Int) (s : ByteArray) (ao : Option Addr) (L cap : Nat) (w : World) (hs : s.size ≤ maxLen) : Calls Tryz.prog 204 #[xx k n s (.slice ao L cap)] w fun e w' => e = .returned (.bool (((((L : Int) == 1) && n == 0) && nmB s))) ∧ Below w.heap.size w w' := by
  have A0 : Below w.heap.size w (w.alloc (.cells #[.int .i64 k, .int .i64 n, .string s, .slice ao L cap] 169)) := (Below.refl _ _).alloc (Nat.le_refl _) _
  have HC := Hid.mk (fun w => nHas k n s ao L cap 1 w hs)
  go_enter Tryz.func204, Tryz.ntmps204
  go_wp2_with fail
  refine (HC.out _).mono ?_
  rintro e w1 ⟨rfl, hb1⟩
  have B1 := A0.trans (hb1.mono (by simp))
  clear A0 hb1 HC
  go_wp2
  go_ret
  exact ⟨rfl, B1⟩

set_option maxHeartbeats 1000000 in
theorem matchRight (k n : Int) (s : ByteArray) (ao : Option Addr) (L cap : Nat) (w : World) (hs : s.size ≤ 1048576) : Calls Tryz.prog 206 #[xx k n s (.slice ao L cap)] w fun e w' => e = .returned (.bool (((((L : Int) == 1) && n == 0) && rtB s))) ∧ Below w.heap.size w w' := by
  have A0 : Below w.heap.size w (w.alloc (.cells #[.int .i64 k, .int .i64 n, .string s, .slice ao L cap] 172)) := (Below.refl _ _).alloc (Nat.le_refl _) _
  have HC := Hid.mk (fun w => rHas k n s ao L cap 1 w hs)
  go_enter Tryz.func206, Tryz.ntmps206
  go_wp2_with fail
  refine (HC.out _).mono ?_
  rintro e w1 ⟨rfl, hb1⟩
  have B1 := A0.trans (hb1.mono (by simp))
  clear A0 hb1 HC
  go_wp2
  go_ret
  exact ⟨rfl, B1⟩

set_option maxHeartbeats 1000000 in
theorem callRight (k n : Int) (s : ByteArray) (ao : Option Addr) (L cap : Nat) (w : World) (hs : s.size ≤ maxLen) : Calls Tryz.prog 238 #[xx k n s (.slice ao L cap)] w fun e w' => e = .returned (.bool ((decide (L ≤ 4) && ((((L : Int) == (L : Int)) && n == 0) && nmB s)))) ∧ Below w.heap.size w w' := by
  have A0 : Below w.heap.size w (w.alloc (.cells #[.int .i64 k, .int .i64 n, .string s, .slice ao L cap] 173)) := (Below.refl _ _).alloc (Nat.le_refl _) _
  have HC := Hid.mk (fun w => nHas k n s ao L cap (L : Int) w hs)
  generalize ((((L : Int) == (L : Int)) && n == 0) && nmB s) = b1 at *
  by_cases h4 : L ≤ 4
  · have hi : (L : Int) ≤ 4 := by omega
    rw [decide_eq_true h4, Bool.true_and]
    clear h4
    go_enter Tryz.func238, Tryz.ntmps238
    go_wp2_with fail
    refine (HC.out _).mono ?_
    rintro e w1 ⟨rfl, hb1⟩
    have B1 := A0.trans (hb1.mono (by simp))
    clear A0 hb1 HC
    go_wp2
    go_ret
    exact ⟨rfl, B1⟩
  · have hi : ¬ (L : Int) ≤ 4 := by omega
    rw [decide_eq_false h4, Bool.false_and]
    clear h4 HC
    go_enter Tryz.func238, Tryz.ntmps238
    go_wp2
    go_ret
    exact ⟨rfl, A0⟩

set_option maxHeartbeats 1000000 in
theorem lenRight (k n : Int) (s : ByteArray) (ao : Option Addr) (L cap : Nat) (w : World) : Calls Tryz.prog 240 #[xx k n s (.slice ao L cap)] w fun e w' => e = .returned (.bool (((((L : Int) == 1) && n == 0) && s.toList.isEmpty))) ∧ Below w.heap.size w w' := by
  have A0 : Below w.heap.size w (w.alloc (.cells #[.int .i64 k, .int .i64 n, .string s, .slice ao L cap] 174)) := (Below.refl _ _).alloc (Nat.le_refl _) _
  have HC := Hid.mk (fun w => bHas k n s ao L cap 1 w)
  go_enter Tryz.func240, Tryz.ntmps240
  go_wp2_with fail
  refine (HC.out _).mono ?_
  rintro e w1 ⟨rfl, hb1⟩
  have B1 := A0.trans (hb1.mono (by simp))
  clear A0 hb1 HC
  go_wp2
  go_ret
  exact ⟨rfl, B1⟩

set_option maxHeartbeats 1000000 in
theorem subRight (k n : Int) (s : ByteArray) (ao : Option Addr) (L cap : Nat) (w : World) : Calls Tryz.prog 242 #[xx k n s (.slice ao L cap)] w fun e w' => e = .returned (.bool (((((L : Int) == 3) && n == 0) && s.toList.isEmpty))) ∧ Below w.heap.size w w' := by
  have A0 : Below w.heap.size w (w.alloc (.cells #[.int .i64 k, .int .i64 n, .string s, .slice ao L cap] 175)) := (Below.refl _ _).alloc (Nat.le_refl _) _
  have HC := Hid.mk (fun w => bHas k n s ao L cap 3 w)
  go_enter Tryz.func242, Tryz.ntmps242
  go_wp2_with fail
  refine (HC.out _).mono ?_
  rintro e w1 ⟨rfl, hb1⟩
  have B1 := A0.trans (hb1.mono (by simp))
  clear A0 hb1 HC
  go_wp2
  go_ret
  exact ⟨rfl, B1⟩

set_option maxHeartbeats 1000000 in
theorem nrRight (k n : Int) (s : ByteArray) (ao : Option Addr) (L cap : Nat) (w : World) : Calls Tryz.prog 244 #[xx k n s (.slice ao L cap)] w fun e w' => e = .returned (.bool (((((L : Int) == 0) && n == 0) && s.toList.isEmpty))) ∧ Below w.heap.size w w' := by
  have A0 : Below w.heap.size w (w.alloc (.cells #[.int .i64 k, .int .i64 n, .string s, .slice ao L cap] 176)) := (Below.refl _ _).alloc (Nat.le_refl _) _
  have HC := Hid.mk (fun w => bHas k n s ao L cap 0 w)
  go_enter Tryz.func244, Tryz.ntmps244
  go_wp2_with fail
  refine (HC.out _).mono ?_
  rintro e w1 ⟨rfl, hb1⟩
  have B1 := A0.trans (hb1.mono (by simp))
  clear A0 hb1 HC
  go_wp2
  go_ret
  exact ⟨rfl, B1⟩

set_option maxHeartbeats 1000000 in
theorem nfRight (k n : Int) (s : ByteArray) (ao : Option Addr) (L cap : Nat) (w : World) : Calls Tryz.prog 246 #[xx k n s (.slice ao L cap)] w fun e w' => e = .returned (.bool (((((L : Int) == 0) && n == 0) && s.toList.isEmpty))) ∧ Below w.heap.size w w' := by
  have A0 : Below w.heap.size w (w.alloc (.cells #[.int .i64 k, .int .i64 n, .string s, .slice ao L cap] 177)) := (Below.refl _ _).alloc (Nat.le_refl _) _
  have HC := Hid.mk (fun w => bHas k n s ao L cap 0 w)
  go_enter Tryz.func246, Tryz.ntmps246
  go_wp2_with fail
  refine (HC.out _).mono ?_
  rintro e w1 ⟨rfl, hb1⟩
  have B1 := A0.trans (hb1.mono (by simp))
  clear A0 hb1 HC
  go_wp2
  go_ret
  exact ⟨rfl, B1⟩

set_option maxHeartbeats 1000000 in
theorem idxRight (k n : Int) (s : ByteArray) (ao : Option Addr) (L cap : Nat) (w : World) : Calls Tryz.prog 248 #[xx k n s (.slice ao L cap)] w fun e w' => e = .returned (.bool (((((L : Int) == 2) && n == 0) && s.toList.isEmpty))) ∧ Below w.heap.size w w' := by
  have A0 : Below w.heap.size w (w.alloc (.cells #[.int .i64 k, .int .i64 n, .string s, .slice ao L cap] 178)) := (Below.refl _ _).alloc (Nat.le_refl _) _
  have HC := Hid.mk (fun w => bHas k n s ao L cap 2 w)
  go_enter Tryz.func248, Tryz.ntmps248
  go_wp2_with fail
  refine (HC.out _).mono ?_
  rintro e w1 ⟨rfl, hb1⟩
  have B1 := A0.trans (hb1.mono (by simp))
  clear A0 hb1 HC
  go_wp2
  go_ret
  exact ⟨rfl, B1⟩

set_option maxHeartbeats 1000000 in
theorem upRight (k n : Int) (s : ByteArray) (ao : Option Addr) (L cap : Nat) (w : World) : Calls Tryz.prog 250 #[xx k n s (.slice ao L cap)] w fun e w' => e = .returned (.bool (((((L : Int) == 1) && n == 0) && s.toList.isEmpty))) ∧ Below w.heap.size w w' := by
  have A0 : Below w.heap.size w (w.alloc (.cells #[.int .i64 k, .int .i64 n, .string s, .slice ao L cap] 179)) := (Below.refl _ _).alloc (Nat.le_refl _) _
  have HC := Hid.mk (fun w => bHas k n s ao L cap 1 w)
  go_enter Tryz.func250, Tryz.ntmps250
  go_wp2_with fail
  refine (HC.out _).mono ?_
  rintro e w1 ⟨rfl, hb1⟩
  have B1 := A0.trans (hb1.mono (by simp))
  clear A0 hb1 HC
  go_wp2
  go_ret
  exact ⟨rfl, B1⟩

set_option maxHeartbeats 1000000 in
theorem gsubRight (k n : Int) (s : ByteArray) (ao : Option Addr) (L cap : Nat) (w : World) (hs : s.size ≤ 1048576) : Calls Tryz.prog 252 #[xx k n s (.slice ao L cap)] w fun e w' => e = .returned (.bool (((((L : Int) == 2) && n == 0) && rtB s))) ∧ Below w.heap.size w w' := by
  have A0 : Below w.heap.size w (w.alloc (.cells #[.int .i64 k, .int .i64 n, .string s, .slice ao L cap] 180)) := (Below.refl _ _).alloc (Nat.le_refl _) _
  have HC := Hid.mk (fun w => rHas k n s ao L cap 2 w hs)
  go_enter Tryz.func252, Tryz.ntmps252
  go_wp2_with fail
  refine (HC.out _).mono ?_
  rintro e w1 ⟨rfl, hb1⟩
  have B1 := A0.trans (hb1.mono (by simp))
  clear A0 hb1 HC
  go_wp2
  go_ret
  exact ⟨rfl, B1⟩

set_option maxHeartbeats 1000000 in
theorem strayRight (k n : Int) (s : ByteArray) (ao : Option Addr) (L cap : Nat) (w : World) : Calls Tryz.prog 254 #[xx k n s (.slice ao L cap)] w fun e w' => e = .returned (.bool (false)) ∧ Below w.heap.size w w' := by
  have A0 : Below w.heap.size w (w.alloc (.cells #[.int .i64 k, .int .i64 n, .string s, .slice ao L cap] 181)) := (Below.refl _ _).alloc (Nat.le_refl _) _
  go_enter Tryz.func254, Tryz.ntmps254
  go_wp2
  go_ret
  exact ⟨rfl, A0⟩
end Go.Proofs.YtgigalcajgjpnaaGreat

namespace Go.Proofs.YtgigalcajgjpnaaGreat
open Go.RowKit
set_option maxRecDepth 8000

set_option maxHeartbeats 1000000 in
theorem termOf_int (n : Int) (s : ByteArray) (ao : Option Addr) (L cap : Nat) (w : World) : Calls Tryz.prog 103 #[xx 1 n s (.slice ao L cap)] w fun e w' => e = .returned (.iface 157 (xx 1 n s (.slice ao L cap))) ∧ Below w.heap.size w w' := by
  have A0 : Below w.heap.size w ((w.alloc (.cells #[.int .i64 1, .int .i64 n, .string s, .slice ao L cap] 41)).alloc (.cells #[.int .i64 1, .int .i64 n, .string s, .slice ao L cap] 153)) := ((Below.refl _ _).alloc (Nat.le_refl _) _).alloc (by simp) _
  go_enter Tryz.func103, Tryz.ntmps103
  go_wp2
  go_ret
  exact ⟨rfl, A0⟩

set_option maxHeartbeats 1000000 in
theorem termOf_text (n : Int) (s : ByteArray) (ao : Option Addr) (L cap : Nat) (w : World) : Calls Tryz.prog 103 #[xx 2 n s (.slice ao L cap)] w fun e w' => e = .returned (.iface 158 (xx 2 n s (.slice ao L cap))) ∧ Below w.heap.size w w' := by
  have A0 : Below w.heap.size w ((w.alloc (.cells #[.int .i64 2, .int .i64 n, .string s, .slice ao L cap] 41)).alloc (.cells #[.int .i64 2, .int .i64 n, .string s, .slice ao L cap] 153)) := ((Below.refl _ _).alloc (Nat.le_refl _) _).alloc (by simp) _
  go_enter Tryz.func103, Tryz.ntmps103
  go_wp2
  go_ret
  exact ⟨rfl, A0⟩

set_option maxHeartbeats 1000000 in
theorem termOf_var (n : Int) (s : ByteArray) (ao : Option Addr) (L cap : Nat) (w : World) : Calls Tryz.prog 103 #[xx 3 n s (.slice ao L cap)] w fun e w' => e = .returned (.iface 161 (xx 3 n s (.slice ao L cap))) ∧ Below w.heap.size w w' := by
  have A0 : Below w.heap.size w ((w.alloc (.cells #[.int .i64 3, .int .i64 n, .string s, .slice ao L cap] 41)).alloc (.cells #[.int .i64 3, .int .i64 n, .string s, .slice ao L cap] 153)) := ((Below.refl _ _).alloc (Nat.le_refl _) _).alloc (by simp) _
  go_enter Tryz.func103, Tryz.ntmps103
  go_wp2
  go_ret
  exact ⟨rfl, A0⟩

set_option maxHeartbeats 1000000 in
theorem termOf_at (n : Int) (s : ByteArray) (ao : Option Addr) (L cap : Nat) (w : World) : Calls Tryz.prog 103 #[xx 4 n s (.slice ao L cap)] w fun e w' => e = .returned (.iface 162 (xx 4 n s (.slice ao L cap))) ∧ Below w.heap.size w w' := by
  have A0 : Below w.heap.size w ((w.alloc (.cells #[.int .i64 4, .int .i64 n, .string s, .slice ao L cap] 41)).alloc (.cells #[.int .i64 4, .int .i64 n, .string s, .slice ao L cap] 153)) := ((Below.refl _ _).alloc (Nat.le_refl _) _).alloc (by simp) _
  go_enter Tryz.func103, Tryz.ntmps103
  go_wp2
  go_ret
  exact ⟨rfl, A0⟩

set_option maxHeartbeats 1000000 in
theorem termOf_field (n : Int) (s : ByteArray) (ao : Option Addr) (L cap : Nat) (w : World) : Calls Tryz.prog 103 #[xx 5 n s (.slice ao L cap)] w fun e w' => e = .returned (.iface 165 (xx 5 n s (.slice ao L cap))) ∧ Below w.heap.size w w' := by
  have A0 : Below w.heap.size w ((w.alloc (.cells #[.int .i64 5, .int .i64 n, .string s, .slice ao L cap] 41)).alloc (.cells #[.int .i64 5, .int .i64 n, .string s, .slice ao L cap] 153)) := ((Below.refl _ _).alloc (Nat.le_refl _) _).alloc (by simp) _
  go_enter Tryz.func103, Tryz.ntmps103
  go_wp2
  go_ret
  exact ⟨rfl, A0⟩

set_option maxHeartbeats 1000000 in
theorem termOf_bin (n : Int) (s : ByteArray) (ao : Option Addr) (L cap : Nat) (w : World) : Calls Tryz.prog 103 #[xx 6 n s (.slice ao L cap)] w fun e w' => e = .returned (.iface 166 (xx 6 n s (.slice ao L cap))) ∧ Below w.heap.size w w' := by
  have A0 : Below w.heap.size w ((w.alloc (.cells #[.int .i64 6, .int .i64 n, .string s, .slice ao L cap] 41)).alloc (.cells #[.int .i64 6, .int .i64 n, .string s, .slice ao L cap] 153)) := ((Below.refl _ _).alloc (Nat.le_refl _) _).alloc (by simp) _
  go_enter Tryz.func103, Tryz.ntmps103
  go_wp2
  go_ret
  exact ⟨rfl, A0⟩

set_option maxHeartbeats 1000000 in
theorem termOf_not (n : Int) (s : ByteArray) (ao : Option Addr) (L cap : Nat) (w : World) : Calls Tryz.prog 103 #[xx 7 n s (.slice ao L cap)] w fun e w' => e = .returned (.iface 167 (xx 7 n s (.slice ao L cap))) ∧ Below w.heap.size w w' := by
  have A0 : Below w.heap.size w ((w.alloc (.cells #[.int .i64 7, .int .i64 n, .string s, .slice ao L cap] 41)).alloc (.cells #[.int .i64 7, .int .i64 n, .string s, .slice ao L cap] 153)) := ((Below.refl _ _).alloc (Nat.le_refl _) _).alloc (by simp) _
  go_enter Tryz.func103, Tryz.ntmps103
  go_wp2
  go_ret
  exact ⟨rfl, A0⟩

set_option maxHeartbeats 1000000 in
theorem termOf_neg (n : Int) (s : ByteArray) (ao : Option Addr) (L cap : Nat) (w : World) : Calls Tryz.prog 103 #[xx 8 n s (.slice ao L cap)] w fun e w' => e = .returned (.iface 168 (xx 8 n s (.slice ao L cap))) ∧ Below w.heap.size w w' := by
  have A0 : Below w.heap.size w ((w.alloc (.cells #[.int .i64 8, .int .i64 n, .string s, .slice ao L cap] 41)).alloc (.cells #[.int .i64 8, .int .i64 n, .string s, .slice ao L cap] 153)) := ((Below.refl _ _).alloc (Nat.le_refl _) _).alloc (by simp) _
  go_enter Tryz.func103, Tryz.ntmps103
  go_wp2
  go_ret
  exact ⟨rfl, A0⟩

set_option maxHeartbeats 1000000 in
theorem termOf_in (n : Int) (s : ByteArray) (ao : Option Addr) (L cap : Nat) (w : World) : Calls Tryz.prog 103 #[xx 9 n s (.slice ao L cap)] w fun e w' => e = .returned (.iface 169 (xx 9 n s (.slice ao L cap))) ∧ Below w.heap.size w w' := by
  have A0 : Below w.heap.size w ((w.alloc (.cells #[.int .i64 9, .int .i64 n, .string s, .slice ao L cap] 41)).alloc (.cells #[.int .i64 9, .int .i64 n, .string s, .slice ao L cap] 153)) := ((Below.refl _ _).alloc (Nat.le_refl _) _).alloc (by simp) _
  go_enter Tryz.func103, Tryz.ntmps103
  go_wp2
  go_ret
  exact ⟨rfl, A0⟩

set_option maxHeartbeats 1000000 in
theorem termOf_match (n : Int) (s : ByteArray) (ao : Option Addr) (L cap : Nat) (w : World) : Calls Tryz.prog 103 #[xx 10 n s (.slice ao L cap)] w fun e w' => e = .returned (.iface 172 (xx 10 n s (.slice ao L cap))) ∧ Below w.heap.size w w' := by
  have A0 : Below w.heap.size w ((w.alloc (.cells #[.int .i64 10, .int .i64 n, .string s, .slice ao L cap] 41)).alloc (.cells #[.int .i64 10, .int .i64 n, .string s, .slice ao L cap] 153)) := ((Below.refl _ _).alloc (Nat.le_refl _) _).alloc (by simp) _
  go_enter Tryz.func103, Tryz.ntmps103
  go_wp2
  go_ret
  exact ⟨rfl, A0⟩

set_option maxHeartbeats 1000000 in
theorem termOf_call (n : Int) (s : ByteArray) (ao : Option Addr) (L cap : Nat) (w : World) : Calls Tryz.prog 103 #[xx 11 n s (.slice ao L cap)] w fun e w' => e = .returned (.iface 173 (xx 11 n s (.slice ao L cap))) ∧ Below w.heap.size w w' := by
  have A0 : Below w.heap.size w ((w.alloc (.cells #[.int .i64 11, .int .i64 n, .string s, .slice ao L cap] 41)).alloc (.cells #[.int .i64 11, .int .i64 n, .string s, .slice ao L cap] 153)) := ((Below.refl _ _).alloc (Nat.le_refl _) _).alloc (by simp) _
  go_enter Tryz.func103, Tryz.ntmps103
  go_wp2
  go_ret
  exact ⟨rfl, A0⟩

set_option maxHeartbeats 1000000 in
theorem termOf_len (n : Int) (s : ByteArray) (ao : Option Addr) (L cap : Nat) (w : World) : Calls Tryz.prog 103 #[xx 12 n s (.slice ao L cap)] w fun e w' => e = .returned (.iface 174 (xx 12 n s (.slice ao L cap))) ∧ Below w.heap.size w w' := by
  have A0 : Below w.heap.size w ((w.alloc (.cells #[.int .i64 12, .int .i64 n, .string s, .slice ao L cap] 41)).alloc (.cells #[.int .i64 12, .int .i64 n, .string s, .slice ao L cap] 153)) := ((Below.refl _ _).alloc (Nat.le_refl _) _).alloc (by simp) _
  go_enter Tryz.func103, Tryz.ntmps103
  go_wp2
  go_ret
  exact ⟨rfl, A0⟩

set_option maxHeartbeats 1000000 in
theorem termOf_sub (n : Int) (s : ByteArray) (ao : Option Addr) (L cap : Nat) (w : World) : Calls Tryz.prog 103 #[xx 13 n s (.slice ao L cap)] w fun e w' => e = .returned (.iface 175 (xx 13 n s (.slice ao L cap))) ∧ Below w.heap.size w w' := by
  have A0 : Below w.heap.size w ((w.alloc (.cells #[.int .i64 13, .int .i64 n, .string s, .slice ao L cap] 41)).alloc (.cells #[.int .i64 13, .int .i64 n, .string s, .slice ao L cap] 153)) := ((Below.refl _ _).alloc (Nat.le_refl _) _).alloc (by simp) _
  go_enter Tryz.func103, Tryz.ntmps103
  go_wp2
  go_ret
  exact ⟨rfl, A0⟩

set_option maxHeartbeats 1000000 in
theorem termOf_nr (n : Int) (s : ByteArray) (ao : Option Addr) (L cap : Nat) (w : World) : Calls Tryz.prog 103 #[xx 14 n s (.slice ao L cap)] w fun e w' => e = .returned (.iface 176 (xx 14 n s (.slice ao L cap))) ∧ Below w.heap.size w w' := by
  have A0 : Below w.heap.size w ((w.alloc (.cells #[.int .i64 14, .int .i64 n, .string s, .slice ao L cap] 41)).alloc (.cells #[.int .i64 14, .int .i64 n, .string s, .slice ao L cap] 153)) := ((Below.refl _ _).alloc (Nat.le_refl _) _).alloc (by simp) _
  go_enter Tryz.func103, Tryz.ntmps103
  go_wp2
  go_ret
  exact ⟨rfl, A0⟩

set_option maxHeartbeats 1000000 in
theorem termOf_nf (n : Int) (s : ByteArray) (ao : Option Addr) (L cap : Nat) (w : World) : Calls Tryz.prog 103 #[xx 15 n s (.slice ao L cap)] w fun e w' => e = .returned (.iface 177 (xx 15 n s (.slice ao L cap))) ∧ Below w.heap.size w w' := by
  have A0 : Below w.heap.size w ((w.alloc (.cells #[.int .i64 15, .int .i64 n, .string s, .slice ao L cap] 41)).alloc (.cells #[.int .i64 15, .int .i64 n, .string s, .slice ao L cap] 153)) := ((Below.refl _ _).alloc (Nat.le_refl _) _).alloc (by simp) _
  go_enter Tryz.func103, Tryz.ntmps103
  go_wp2
  go_ret
  exact ⟨rfl, A0⟩

set_option maxHeartbeats 1000000 in
theorem termOf_idx (n : Int) (s : ByteArray) (ao : Option Addr) (L cap : Nat) (w : World) : Calls Tryz.prog 103 #[xx 16 n s (.slice ao L cap)] w fun e w' => e = .returned (.iface 178 (xx 16 n s (.slice ao L cap))) ∧ Below w.heap.size w w' := by
  have A0 : Below w.heap.size w ((w.alloc (.cells #[.int .i64 16, .int .i64 n, .string s, .slice ao L cap] 41)).alloc (.cells #[.int .i64 16, .int .i64 n, .string s, .slice ao L cap] 153)) := ((Below.refl _ _).alloc (Nat.le_refl _) _).alloc (by simp) _
  go_enter Tryz.func103, Tryz.ntmps103
  go_wp2
  go_ret
  exact ⟨rfl, A0⟩

set_option maxHeartbeats 1000000 in
theorem termOf_up (n : Int) (s : ByteArray) (ao : Option Addr) (L cap : Nat) (w : World) : Calls Tryz.prog 103 #[xx 17 n s (.slice ao L cap)] w fun e w' => e = .returned (.iface 179 (xx 17 n s (.slice ao L cap))) ∧ Below w.heap.size w w' := by
  have A0 : Below w.heap.size w ((w.alloc (.cells #[.int .i64 17, .int .i64 n, .string s, .slice ao L cap] 41)).alloc (.cells #[.int .i64 17, .int .i64 n, .string s, .slice ao L cap] 153)) := ((Below.refl _ _).alloc (Nat.le_refl _) _).alloc (by simp) _
  go_enter Tryz.func103, Tryz.ntmps103
  go_wp2
  go_ret
  exact ⟨rfl, A0⟩

set_option maxHeartbeats 1000000 in
theorem termOf_gsub (n : Int) (s : ByteArray) (ao : Option Addr) (L cap : Nat) (w : World) : Calls Tryz.prog 103 #[xx 18 n s (.slice ao L cap)] w fun e w' => e = .returned (.iface 180 (xx 18 n s (.slice ao L cap))) ∧ Below w.heap.size w w' := by
  have A0 : Below w.heap.size w ((w.alloc (.cells #[.int .i64 18, .int .i64 n, .string s, .slice ao L cap] 41)).alloc (.cells #[.int .i64 18, .int .i64 n, .string s, .slice ao L cap] 153)) := ((Below.refl _ _).alloc (Nat.le_refl _) _).alloc (by simp) _
  go_enter Tryz.func103, Tryz.ntmps103
  go_wp2
  go_ret
  exact ⟨rfl, A0⟩

set_option maxHeartbeats 1000000 in
theorem termOf_stray (k n : Int) (s : ByteArray) (ao : Option Addr) (L cap : Nat) (w : World) (e1 : (k == 1) = false) (e2 : (k == 2) = false) (e3 : (k == 3) = false) (e4 : (k == 4) = false) (e5 : (k == 5) = false) (e6 : (k == 6) = false) (e7 : (k == 7) = false) (e8 : (k == 8) = false) (e9 : (k == 9) = false) (e10 : (k == 10) = false) (e11 : (k == 11) = false) (e12 : (k == 12) = false) (e13 : (k == 13) = false) (e14 : (k == 14) = false) (e15 : (k == 15) = false) (e16 : (k == 16) = false) (e17 : (k == 17) = false) (e18 : (k == 18) = false) : Calls Tryz.prog 103 #[xx k n s (.slice ao L cap)] w fun e w' => e = .returned (.iface 181 (xx k n s (.slice ao L cap))) ∧ Below w.heap.size w w' := by
  have A0 : Below w.heap.size w ((w.alloc (.cells #[.int .i64 k, .int .i64 n, .string s, .slice ao L cap] 41)).alloc (.cells #[.int .i64 k, .int .i64 n, .string s, .slice ao L cap] 153)) := ((Below.refl _ _).alloc (Nat.le_refl _) _).alloc (by simp) _
  go_enter Tryz.func103, Tryz.ntmps103
  go_wp2
  go_ret
  exact ⟨rfl, A0⟩

/-- Right, but for its parts: over the number, the text and how many parts. -/
noncomputable def nodeN (k n : Int) (s : ByteArray) (L : Nat) : Bool := (if k = 1 then bwB 0 2147483647 n else n == 0) && nodeK k s L
theorem nodeX_eq (t : Ex) : nodeX t = nodeN t.k t.n t.s t.l.length := rfl
theorem len_beq (L c : Nat) : ((L : Int) == (c : Int)) = (L == c) := by
  by_cases h : L = c
  · subst h; simp
  · rw [beq_false_of_ne h, beq_false_of_ne (by omega)]

theorem ex_eq1 (n : Int) (s : ByteArray) (L : Nat) : (((L : Int) == 0) && tokB 1 n s) = nodeN 1 n s L := by
  unfold nodeN nodeK
  rw [if_pos rfl, if_pos rfl, show ((L : Int) == 0) = (L == 0) from len_beq L 0]
  unfold tokB
  rw [if_pos rfl]
  generalize (L == 0) = a
  generalize bwB 0 2147483647 n = b
  generalize s.toList.isEmpty = c
  revert a b c
  decide
theorem ex_eq2 (n : Int) (s : ByteArray) (L : Nat) : (((L : Int) == 0) && tokB 3 n s) = nodeN 2 n s L := by
  unfold nodeN nodeK
  rw [if_neg (by decide), if_neg (by decide), if_pos rfl, show ((L : Int) == 0) = (L == 0) from len_beq L 0]
  unfold tokB wrB
  rw [if_neg (by decide), if_neg (by decide), if_pos rfl]
  generalize (L == 0) = a
  generalize (n == 0) = b
  generalize prB 39 s = c
  revert a b c
  decide
theorem ex_eq3 (n : Int) (s : ByteArray) (L : Nat) : (((((L : Int) == 0) && n == 0) && nmB s)) = nodeN 3 n s L := by
  unfold nodeN nodeK
  rw [show ((L : Int) == 0) = (L == 0) from len_beq L 0]
  simp (decide := true) only [if_false, if_true]
  generalize (L == 0) = a
  generalize (n == 0) = b
  generalize nmB s = c
  revert a b c
  decide
theorem ex_eq4 (n : Int) (s : ByteArray) (L : Nat) : (((((L : Int) == 1) && n == 0) && nmB s)) = nodeN 4 n s L := by
  unfold nodeN nodeK
  rw [show ((L : Int) == 1) = (L == 1) from len_beq L 1]
  simp (decide := true) only [if_false, if_true]
  generalize (L == 1) = a
  generalize (n == 0) = b
  generalize nmB s = c
  revert a b c
  decide
theorem ex_eq5 (n : Int) (s : ByteArray) (L : Nat) : (((((L : Int) == 1) && n == 0) && s.toList.isEmpty)) = nodeN 5 n s L := by
  unfold nodeN nodeK
  rw [show ((L : Int) == 1) = (L == 1) from len_beq L 1]
  simp (decide := true) only [if_false, if_true]
  generalize (L == 1) = a
  generalize (n == 0) = b
  generalize s.toList.isEmpty = c
  revert a b c
  decide
theorem ex_eq6 (n : Int) (s : ByteArray) (L : Nat) : (((((L : Int) == 2) && n == 0) && opB s)) = nodeN 6 n s L := by
  unfold nodeN nodeK
  rw [show ((L : Int) == 2) = (L == 2) from len_beq L 2]
  simp (decide := true) only [if_false, if_true]
  generalize (L == 2) = a
  generalize (n == 0) = b
  generalize opB s = c
  revert a b c
  decide
theorem ex_eq7 (n : Int) (s : ByteArray) (L : Nat) : (((((L : Int) == 1) && n == 0) && s.toList.isEmpty)) = nodeN 7 n s L := by
  unfold nodeN nodeK
  rw [show ((L : Int) == 1) = (L == 1) from len_beq L 1]
  simp (decide := true) only [if_false, if_true]
  generalize (L == 1) = a
  generalize (n == 0) = b
  generalize s.toList.isEmpty = c
  revert a b c
  decide
theorem ex_eq8 (n : Int) (s : ByteArray) (L : Nat) : (((((L : Int) == 1) && n == 0) && s.toList.isEmpty)) = nodeN 8 n s L := by
  unfold nodeN nodeK
  rw [show ((L : Int) == 1) = (L == 1) from len_beq L 1]
  simp (decide := true) only [if_false, if_true]
  generalize (L == 1) = a
  generalize (n == 0) = b
  generalize s.toList.isEmpty = c
  revert a b c
  decide
theorem ex_eq9 (n : Int) (s : ByteArray) (L : Nat) : (((((L : Int) == 1) && n == 0) && nmB s)) = nodeN 9 n s L := by
  unfold nodeN nodeK
  rw [show ((L : Int) == 1) = (L == 1) from len_beq L 1]
  simp (decide := true) only [if_false, if_true]
  generalize (L == 1) = a
  generalize (n == 0) = b
  generalize nmB s = c
  revert a b c
  decide
theorem ex_eq10 (n : Int) (s : ByteArray) (L : Nat) : (((((L : Int) == 1) && n == 0) && rtB s)) = nodeN 10 n s L := by
  unfold nodeN nodeK
  rw [show ((L : Int) == 1) = (L == 1) from len_beq L 1]
  simp (decide := true) only [if_false, if_true]
  generalize (L == 1) = a
  generalize (n == 0) = b
  generalize rtB s = c
  revert a b c
  decide
theorem ex_eq11 (n : Int) (s : ByteArray) (L : Nat) : ((decide (L ≤ 4) && ((((L : Int) == (L : Int)) && n == 0) && nmB s))) = nodeN 11 n s L := by
  unfold nodeN nodeK
  simp only [if_neg (show ¬ (11 : Int) = 1 by decide), beq_self_eq_true, Bool.true_and]
  simp (decide := true) only [if_false, if_true]
  generalize decide (L ≤ 4) = a
  generalize (n == 0) = b
  generalize nmB s = c
  revert a b c
  decide
theorem ex_eq12 (n : Int) (s : ByteArray) (L : Nat) : (((((L : Int) == 1) && n == 0) && s.toList.isEmpty)) = nodeN 12 n s L := by
  unfold nodeN nodeK
  rw [show ((L : Int) == 1) = (L == 1) from len_beq L 1]
  simp (decide := true) only [if_false, if_true]
  generalize (L == 1) = a
  generalize (n == 0) = b
  generalize s.toList.isEmpty = c
  revert a b c
  decide
theorem ex_eq13 (n : Int) (s : ByteArray) (L : Nat) : (((((L : Int) == 3) && n == 0) && s.toList.isEmpty)) = nodeN 13 n s L := by
  unfold nodeN nodeK
  rw [show ((L : Int) == 3) = (L == 3) from len_beq L 3]
  simp (decide := true) only [if_false, if_true]
  generalize (L == 3) = a
  generalize (n == 0) = b
  generalize s.toList.isEmpty = c
  revert a b c
  decide
theorem ex_eq14 (n : Int) (s : ByteArray) (L : Nat) : (((((L : Int) == 0) && n == 0) && s.toList.isEmpty)) = nodeN 14 n s L := by
  unfold nodeN nodeK
  rw [show ((L : Int) == 0) = (L == 0) from len_beq L 0]
  simp (decide := true) only [if_false, if_true]
  generalize (L == 0) = a
  generalize (n == 0) = b
  generalize s.toList.isEmpty = c
  revert a b c
  decide
theorem ex_eq15 (n : Int) (s : ByteArray) (L : Nat) : (((((L : Int) == 0) && n == 0) && s.toList.isEmpty)) = nodeN 15 n s L := by
  unfold nodeN nodeK
  rw [show ((L : Int) == 0) = (L == 0) from len_beq L 0]
  simp (decide := true) only [if_false, if_true]
  generalize (L == 0) = a
  generalize (n == 0) = b
  generalize s.toList.isEmpty = c
  revert a b c
  decide
theorem ex_eq16 (n : Int) (s : ByteArray) (L : Nat) : (((((L : Int) == 2) && n == 0) && s.toList.isEmpty)) = nodeN 16 n s L := by
  unfold nodeN nodeK
  rw [show ((L : Int) == 2) = (L == 2) from len_beq L 2]
  simp (decide := true) only [if_false, if_true]
  generalize (L == 2) = a
  generalize (n == 0) = b
  generalize s.toList.isEmpty = c
  revert a b c
  decide
theorem ex_eq17 (n : Int) (s : ByteArray) (L : Nat) : (((((L : Int) == 1) && n == 0) && s.toList.isEmpty)) = nodeN 17 n s L := by
  unfold nodeN nodeK
  rw [show ((L : Int) == 1) = (L == 1) from len_beq L 1]
  simp (decide := true) only [if_false, if_true]
  generalize (L == 1) = a
  generalize (n == 0) = b
  generalize s.toList.isEmpty = c
  revert a b c
  decide
theorem ex_eq18 (n : Int) (s : ByteArray) (L : Nat) : (((((L : Int) == 2) && n == 0) && rtB s)) = nodeN 18 n s L := by
  unfold nodeN nodeK
  rw [show ((L : Int) == 2) = (L == 2) from len_beq L 2]
  simp (decide := true) only [if_false, if_true]
  generalize (L == 2) = a
  generalize (n == 0) = b
  generalize rtB s = c
  revert a b c
  decide
theorem ex_eqx {k : Int} (n : Int) (s : ByteArray) (L : Nat) (h : k < 1 ∨ 18 < k) : nodeN k n s L = false := by
  unfold nodeN nodeK
  rw [if_neg (show ¬ k = 1 by omega), if_neg (by omega), if_neg (by omega), if_neg (by omega), if_neg (by omega), if_neg (by omega), if_neg (by omega), if_neg (by omega), if_neg (by omega), if_neg (by omega), if_neg (by omega), if_neg (by omega), if_neg (by omega), Bool.and_false]

set_option maxHeartbeats 8000000 in
theorem exprNodeOk_any (k n : Int) (s : ByteArray) (ao : Option Addr) (L cap : Nat) (w : World) (hm : s.size ≤ 1048576) :
    Calls Tryz.prog 75 #[xx k n s (.slice ao L cap)] w fun e w' => e = .returned (.bool (nodeN k n s L)) ∧ Below w.heap.size w w' := by
  have hs : s.size ≤ maxLen := by unfold maxLen; omega
  by_cases h1 : k = 1
  · subst h1
    have hmt : ∀ w, (method 519 157 (xx 1 n s (.slice ao L cap)) "loop.example/g00288/impl.right").run Tryz.prog w = .ok (160, xx 1 n s (.slice ao L cap)) w := fun _ => by kernel_rfl
    have HT := Hid.mk (fun w => termOf_int n s ao L cap w)
    have HR := Hid.mk (fun w => intRight 1 n s ao L cap w hs)
    have HE := Hid.mk (ex_eq1 n s L)
    generalize nodeN 1 n s L = nb at *
    rw [HE.out] at HR
    have A0 : Below w.heap.size w (w.alloc (.cells #[.int .i64 1, .int .i64 n, .string s, .slice ao L cap] 41)) := (Below.refl _ _).alloc (Nat.le_refl _) _
    clear hs hm HE
    go_enter Tryz.func75, Tryz.ntmps75
    go_wp2_with fail
    refine (HT.out _).mono ?_
    rintro e w1 ⟨rfl, hb1⟩
    have B1 := A0.trans (hb1.mono (by simp))
    clear A0 hb1 HT
    go_wp2_with fail
    refine (HR.out _).mono ?_
    rintro e w2 ⟨rfl, hb2⟩
    have B2 := B1.trans (hb2.mono B1.size)
    clear B1 hb2 HR
    go_wp2
    go_ret
    exact ⟨rfl, B2⟩
  by_cases h2 : k = 2
  · subst h2
    have hmt : ∀ w, (method 519 158 (xx 2 n s (.slice ao L cap)) "loop.example/g00288/impl.right").run Tryz.prog w = .ok (185, xx 2 n s (.slice ao L cap)) w := fun _ => by kernel_rfl
    have HT := Hid.mk (fun w => termOf_text n s ao L cap w)
    have HR := Hid.mk (fun w => textRight 2 n s ao L cap w hs)
    have HE := Hid.mk (ex_eq2 n s L)
    generalize nodeN 2 n s L = nb at *
    rw [HE.out] at HR
    have A0 : Below w.heap.size w (w.alloc (.cells #[.int .i64 2, .int .i64 n, .string s, .slice ao L cap] 41)) := (Below.refl _ _).alloc (Nat.le_refl _) _
    clear hs hm HE
    go_enter Tryz.func75, Tryz.ntmps75
    go_wp2_with fail
    refine (HT.out _).mono ?_
    rintro e w1 ⟨rfl, hb1⟩
    have B1 := A0.trans (hb1.mono (by simp))
    clear A0 hb1 HT
    go_wp2_with fail
    refine (HR.out _).mono ?_
    rintro e w2 ⟨rfl, hb2⟩
    have B2 := B1.trans (hb2.mono B1.size)
    clear B1 hb2 HR
    go_wp2
    go_ret
    exact ⟨rfl, B2⟩
  by_cases h3 : k = 3
  · subst h3
    have hmt : ∀ w, (method 519 161 (xx 3 n s (.slice ao L cap)) "loop.example/g00288/impl.right").run Tryz.prog w = .ok (187, xx 3 n s (.slice ao L cap)) w := fun _ => by kernel_rfl
    have HT := Hid.mk (fun w => termOf_var n s ao L cap w)
    have HR := Hid.mk (fun w => varRight 3 n s ao L cap w hs)
    have HE := Hid.mk (ex_eq3 n s L)
    generalize nodeN 3 n s L = nb at *
    rw [HE.out] at HR
    have A0 : Below w.heap.size w (w.alloc (.cells #[.int .i64 3, .int .i64 n, .string s, .slice ao L cap] 41)) := (Below.refl _ _).alloc (Nat.le_refl _) _
    clear hs hm HE
    go_enter Tryz.func75, Tryz.ntmps75
    go_wp2_with fail
    refine (HT.out _).mono ?_
    rintro e w1 ⟨rfl, hb1⟩
    have B1 := A0.trans (hb1.mono (by simp))
    clear A0 hb1 HT
    go_wp2_with fail
    refine (HR.out _).mono ?_
    rintro e w2 ⟨rfl, hb2⟩
    have B2 := B1.trans (hb2.mono B1.size)
    clear B1 hb2 HR
    go_wp2
    go_ret
    exact ⟨rfl, B2⟩
  by_cases h4 : k = 4
  · subst h4
    have hmt : ∀ w, (method 519 162 (xx 4 n s (.slice ao L cap)) "loop.example/g00288/impl.right").run Tryz.prog w = .ok (191, xx 4 n s (.slice ao L cap)) w := fun _ => by kernel_rfl
    have HT := Hid.mk (fun w => termOf_at n s ao L cap w)
    have HR := Hid.mk (fun w => atRight 4 n s ao L cap w hs)
    have HE := Hid.mk (ex_eq4 n s L)
    generalize nodeN 4 n s L = nb at *
    rw [HE.out] at HR
    have A0 : Below w.heap.size w (w.alloc (.cells #[.int .i64 4, .int .i64 n, .string s, .slice ao L cap] 41)) := (Below.refl _ _).alloc (Nat.le_refl _) _
    clear hs hm HE
    go_enter Tryz.func75, Tryz.ntmps75
    go_wp2_with fail
    refine (HT.out _).mono ?_
    rintro e w1 ⟨rfl, hb1⟩
    have B1 := A0.trans (hb1.mono (by simp))
    clear A0 hb1 HT
    go_wp2_with fail
    refine (HR.out _).mono ?_
    rintro e w2 ⟨rfl, hb2⟩
    have B2 := B1.trans (hb2.mono B1.size)
    clear B1 hb2 HR
    go_wp2
    go_ret
    exact ⟨rfl, B2⟩
  by_cases h5 : k = 5
  · subst h5
    have hmt : ∀ w, (method 519 165 (xx 5 n s (.slice ao L cap)) "loop.example/g00288/impl.right").run Tryz.prog w = .ok (194, xx 5 n s (.slice ao L cap)) w := fun _ => by kernel_rfl
    have HT := Hid.mk (fun w => termOf_field n s ao L cap w)
    have HR := Hid.mk (fun w => fieldRight 5 n s ao L cap w)
    have HE := Hid.mk (ex_eq5 n s L)
    generalize nodeN 5 n s L = nb at *
    rw [HE.out] at HR
    have A0 : Below w.heap.size w (w.alloc (.cells #[.int .i64 5, .int .i64 n, .string s, .slice ao L cap] 41)) := (Below.refl _ _).alloc (Nat.le_refl _) _
    clear hs hm HE
    go_enter Tryz.func75, Tryz.ntmps75
    go_wp2_with fail
    refine (HT.out _).mono ?_
    rintro e w1 ⟨rfl, hb1⟩
    have B1 := A0.trans (hb1.mono (by simp))
    clear A0 hb1 HT
    go_wp2_with fail
    refine (HR.out _).mono ?_
    rintro e w2 ⟨rfl, hb2⟩
    have B2 := B1.trans (hb2.mono B1.size)
    clear B1 hb2 HR
    go_wp2
    go_ret
    exact ⟨rfl, B2⟩
  by_cases h6 : k = 6
  · subst h6
    have hmt : ∀ w, (method 519 166 (xx 6 n s (.slice ao L cap)) "loop.example/g00288/impl.right").run Tryz.prog w = .ok (197, xx 6 n s (.slice ao L cap)) w := fun _ => by kernel_rfl
    have HT := Hid.mk (fun w => termOf_bin n s ao L cap w)
    have HR := Hid.mk (fun w => binRight 6 n s ao L cap w)
    have HE := Hid.mk (ex_eq6 n s L)
    generalize nodeN 6 n s L = nb at *
    rw [HE.out] at HR
    have A0 : Below w.heap.size w (w.alloc (.cells #[.int .i64 6, .int .i64 n, .string s, .slice ao L cap] 41)) := (Below.refl _ _).alloc (Nat.le_refl _) _
    clear hs hm HE
    go_enter Tryz.func75, Tryz.ntmps75
    go_wp2_with fail
    refine (HT.out _).mono ?_
    rintro e w1 ⟨rfl, hb1⟩
    have B1 := A0.trans (hb1.mono (by simp))
    clear A0 hb1 HT
    go_wp2_with fail
    refine (HR.out _).mono ?_
    rintro e w2 ⟨rfl, hb2⟩
    have B2 := B1.trans (hb2.mono B1.size)
    clear B1 hb2 HR
    go_wp2
    go_ret
    exact ⟨rfl, B2⟩
  by_cases h7 : k = 7
  · subst h7
    have hmt : ∀ w, (method 519 167 (xx 7 n s (.slice ao L cap)) "loop.example/g00288/impl.right").run Tryz.prog w = .ok (200, xx 7 n s (.slice ao L cap)) w := fun _ => by kernel_rfl
    have HT := Hid.mk (fun w => termOf_not n s ao L cap w)
    have HR := Hid.mk (fun w => notRight 7 n s ao L cap w)
    have HE := Hid.mk (ex_eq7 n s L)
    generalize nodeN 7 n s L = nb at *
    rw [HE.out] at HR
    have A0 : Below w.heap.size w (w.alloc (.cells #[.int .i64 7, .int .i64 n, .string s, .slice ao L cap] 41)) := (Below.refl _ _).alloc (Nat.le_refl _) _
    clear hs hm HE
    go_enter Tryz.func75, Tryz.ntmps75
    go_wp2_with fail
    refine (HT.out _).mono ?_
    rintro e w1 ⟨rfl, hb1⟩
    have B1 := A0.trans (hb1.mono (by simp))
    clear A0 hb1 HT
    go_wp2_with fail
    refine (HR.out _).mono ?_
    rintro e w2 ⟨rfl, hb2⟩
    have B2 := B1.trans (hb2.mono B1.size)
    clear B1 hb2 HR
    go_wp2
    go_ret
    exact ⟨rfl, B2⟩
  by_cases h8 : k = 8
  · subst h8
    have hmt : ∀ w, (method 519 168 (xx 8 n s (.slice ao L cap)) "loop.example/g00288/impl.right").run Tryz.prog w = .ok (202, xx 8 n s (.slice ao L cap)) w := fun _ => by kernel_rfl
    have HT := Hid.mk (fun w => termOf_neg n s ao L cap w)
    have HR := Hid.mk (fun w => negRight 8 n s ao L cap w)
    have HE := Hid.mk (ex_eq8 n s L)
    generalize nodeN 8 n s L = nb at *
    rw [HE.out] at HR
    have A0 : Below w.heap.size w (w.alloc (.cells #[.int .i64 8, .int .i64 n, .string s, .slice ao L cap] 41)) := (Below.refl _ _).alloc (Nat.le_refl _) _
    clear hs hm HE
    go_enter Tryz.func75, Tryz.ntmps75
    go_wp2_with fail
    refine (HT.out _).mono ?_
    rintro e w1 ⟨rfl, hb1⟩
    have B1 := A0.trans (hb1.mono (by simp))
    clear A0 hb1 HT
    go_wp2_with fail
    refine (HR.out _).mono ?_
    rintro e w2 ⟨rfl, hb2⟩
    have B2 := B1.trans (hb2.mono B1.size)
    clear B1 hb2 HR
    go_wp2
    go_ret
    exact ⟨rfl, B2⟩
  by_cases h9 : k = 9
  · subst h9
    have hmt : ∀ w, (method 519 169 (xx 9 n s (.slice ao L cap)) "loop.example/g00288/impl.right").run Tryz.prog w = .ok (204, xx 9 n s (.slice ao L cap)) w := fun _ => by kernel_rfl
    have HT := Hid.mk (fun w => termOf_in n s ao L cap w)
    have HR := Hid.mk (fun w => inRight 9 n s ao L cap w hs)
    have HE := Hid.mk (ex_eq9 n s L)
    generalize nodeN 9 n s L = nb at *
    rw [HE.out] at HR
    have A0 : Below w.heap.size w (w.alloc (.cells #[.int .i64 9, .int .i64 n, .string s, .slice ao L cap] 41)) := (Below.refl _ _).alloc (Nat.le_refl _) _
    clear hs hm HE
    go_enter Tryz.func75, Tryz.ntmps75
    go_wp2_with fail
    refine (HT.out _).mono ?_
    rintro e w1 ⟨rfl, hb1⟩
    have B1 := A0.trans (hb1.mono (by simp))
    clear A0 hb1 HT
    go_wp2_with fail
    refine (HR.out _).mono ?_
    rintro e w2 ⟨rfl, hb2⟩
    have B2 := B1.trans (hb2.mono B1.size)
    clear B1 hb2 HR
    go_wp2
    go_ret
    exact ⟨rfl, B2⟩
  by_cases h10 : k = 10
  · subst h10
    have hmt : ∀ w, (method 519 172 (xx 10 n s (.slice ao L cap)) "loop.example/g00288/impl.right").run Tryz.prog w = .ok (206, xx 10 n s (.slice ao L cap)) w := fun _ => by kernel_rfl
    have HT := Hid.mk (fun w => termOf_match n s ao L cap w)
    have HR := Hid.mk (fun w => matchRight 10 n s ao L cap w hm)
    have HE := Hid.mk (ex_eq10 n s L)
    generalize nodeN 10 n s L = nb at *
    rw [HE.out] at HR
    have A0 : Below w.heap.size w (w.alloc (.cells #[.int .i64 10, .int .i64 n, .string s, .slice ao L cap] 41)) := (Below.refl _ _).alloc (Nat.le_refl _) _
    clear hs hm HE
    go_enter Tryz.func75, Tryz.ntmps75
    go_wp2_with fail
    refine (HT.out _).mono ?_
    rintro e w1 ⟨rfl, hb1⟩
    have B1 := A0.trans (hb1.mono (by simp))
    clear A0 hb1 HT
    go_wp2_with fail
    refine (HR.out _).mono ?_
    rintro e w2 ⟨rfl, hb2⟩
    have B2 := B1.trans (hb2.mono B1.size)
    clear B1 hb2 HR
    go_wp2
    go_ret
    exact ⟨rfl, B2⟩
  by_cases h11 : k = 11
  · subst h11
    have hmt : ∀ w, (method 519 173 (xx 11 n s (.slice ao L cap)) "loop.example/g00288/impl.right").run Tryz.prog w = .ok (238, xx 11 n s (.slice ao L cap)) w := fun _ => by kernel_rfl
    have HT := Hid.mk (fun w => termOf_call n s ao L cap w)
    have HR := Hid.mk (fun w => callRight 11 n s ao L cap w hs)
    have HE := Hid.mk (ex_eq11 n s L)
    generalize nodeN 11 n s L = nb at *
    rw [HE.out] at HR
    have A0 : Below w.heap.size w (w.alloc (.cells #[.int .i64 11, .int .i64 n, .string s, .slice ao L cap] 41)) := (Below.refl _ _).alloc (Nat.le_refl _) _
    clear hs hm HE
    go_enter Tryz.func75, Tryz.ntmps75
    go_wp2_with fail
    refine (HT.out _).mono ?_
    rintro e w1 ⟨rfl, hb1⟩
    have B1 := A0.trans (hb1.mono (by simp))
    clear A0 hb1 HT
    go_wp2_with fail
    refine (HR.out _).mono ?_
    rintro e w2 ⟨rfl, hb2⟩
    have B2 := B1.trans (hb2.mono B1.size)
    clear B1 hb2 HR
    go_wp2
    go_ret
    exact ⟨rfl, B2⟩
  by_cases h12 : k = 12
  · subst h12
    have hmt : ∀ w, (method 519 174 (xx 12 n s (.slice ao L cap)) "loop.example/g00288/impl.right").run Tryz.prog w = .ok (240, xx 12 n s (.slice ao L cap)) w := fun _ => by kernel_rfl
    have HT := Hid.mk (fun w => termOf_len n s ao L cap w)
    have HR := Hid.mk (fun w => lenRight 12 n s ao L cap w)
    have HE := Hid.mk (ex_eq12 n s L)
    generalize nodeN 12 n s L = nb at *
    rw [HE.out] at HR
    have A0 : Below w.heap.size w (w.alloc (.cells #[.int .i64 12, .int .i64 n, .string s, .slice ao L cap] 41)) := (Below.refl _ _).alloc (Nat.le_refl _) _
    clear hs hm HE
    go_enter Tryz.func75, Tryz.ntmps75
    go_wp2_with fail
    refine (HT.out _).mono ?_
    rintro e w1 ⟨rfl, hb1⟩
    have B1 := A0.trans (hb1.mono (by simp))
    clear A0 hb1 HT
    go_wp2_with fail
    refine (HR.out _).mono ?_
    rintro e w2 ⟨rfl, hb2⟩
    have B2 := B1.trans (hb2.mono B1.size)
    clear B1 hb2 HR
    go_wp2
    go_ret
    exact ⟨rfl, B2⟩
  by_cases h13 : k = 13
  · subst h13
    have hmt : ∀ w, (method 519 175 (xx 13 n s (.slice ao L cap)) "loop.example/g00288/impl.right").run Tryz.prog w = .ok (242, xx 13 n s (.slice ao L cap)) w := fun _ => by kernel_rfl
    have HT := Hid.mk (fun w => termOf_sub n s ao L cap w)
    have HR := Hid.mk (fun w => subRight 13 n s ao L cap w)
    have HE := Hid.mk (ex_eq13 n s L)
    generalize nodeN 13 n s L = nb at *
    rw [HE.out] at HR
    have A0 : Below w.heap.size w (w.alloc (.cells #[.int .i64 13, .int .i64 n, .string s, .slice ao L cap] 41)) := (Below.refl _ _).alloc (Nat.le_refl _) _
    clear hs hm HE
    go_enter Tryz.func75, Tryz.ntmps75
    go_wp2_with fail
    refine (HT.out _).mono ?_
    rintro e w1 ⟨rfl, hb1⟩
    have B1 := A0.trans (hb1.mono (by simp))
    clear A0 hb1 HT
    go_wp2_with fail
    refine (HR.out _).mono ?_
    rintro e w2 ⟨rfl, hb2⟩
    have B2 := B1.trans (hb2.mono B1.size)
    clear B1 hb2 HR
    go_wp2
    go_ret
    exact ⟨rfl, B2⟩
  by_cases h14 : k = 14
  · subst h14
    have hmt : ∀ w, (method 519 176 (xx 14 n s (.slice ao L cap)) "loop.example/g00288/impl.right").run Tryz.prog w = .ok (244, xx 14 n s (.slice ao L cap)) w := fun _ => by kernel_rfl
    have HT := Hid.mk (fun w => termOf_nr n s ao L cap w)
    have HR := Hid.mk (fun w => nrRight 14 n s ao L cap w)
    have HE := Hid.mk (ex_eq14 n s L)
    generalize nodeN 14 n s L = nb at *
    rw [HE.out] at HR
    have A0 : Below w.heap.size w (w.alloc (.cells #[.int .i64 14, .int .i64 n, .string s, .slice ao L cap] 41)) := (Below.refl _ _).alloc (Nat.le_refl _) _
    clear hs hm HE
    go_enter Tryz.func75, Tryz.ntmps75
    go_wp2_with fail
    refine (HT.out _).mono ?_
    rintro e w1 ⟨rfl, hb1⟩
    have B1 := A0.trans (hb1.mono (by simp))
    clear A0 hb1 HT
    go_wp2_with fail
    refine (HR.out _).mono ?_
    rintro e w2 ⟨rfl, hb2⟩
    have B2 := B1.trans (hb2.mono B1.size)
    clear B1 hb2 HR
    go_wp2
    go_ret
    exact ⟨rfl, B2⟩
  by_cases h15 : k = 15
  · subst h15
    have hmt : ∀ w, (method 519 177 (xx 15 n s (.slice ao L cap)) "loop.example/g00288/impl.right").run Tryz.prog w = .ok (246, xx 15 n s (.slice ao L cap)) w := fun _ => by kernel_rfl
    have HT := Hid.mk (fun w => termOf_nf n s ao L cap w)
    have HR := Hid.mk (fun w => nfRight 15 n s ao L cap w)
    have HE := Hid.mk (ex_eq15 n s L)
    generalize nodeN 15 n s L = nb at *
    rw [HE.out] at HR
    have A0 : Below w.heap.size w (w.alloc (.cells #[.int .i64 15, .int .i64 n, .string s, .slice ao L cap] 41)) := (Below.refl _ _).alloc (Nat.le_refl _) _
    clear hs hm HE
    go_enter Tryz.func75, Tryz.ntmps75
    go_wp2_with fail
    refine (HT.out _).mono ?_
    rintro e w1 ⟨rfl, hb1⟩
    have B1 := A0.trans (hb1.mono (by simp))
    clear A0 hb1 HT
    go_wp2_with fail
    refine (HR.out _).mono ?_
    rintro e w2 ⟨rfl, hb2⟩
    have B2 := B1.trans (hb2.mono B1.size)
    clear B1 hb2 HR
    go_wp2
    go_ret
    exact ⟨rfl, B2⟩
  by_cases h16 : k = 16
  · subst h16
    have hmt : ∀ w, (method 519 178 (xx 16 n s (.slice ao L cap)) "loop.example/g00288/impl.right").run Tryz.prog w = .ok (248, xx 16 n s (.slice ao L cap)) w := fun _ => by kernel_rfl
    have HT := Hid.mk (fun w => termOf_idx n s ao L cap w)
    have HR := Hid.mk (fun w => idxRight 16 n s ao L cap w)
    have HE := Hid.mk (ex_eq16 n s L)
    generalize nodeN 16 n s L = nb at *
    rw [HE.out] at HR
    have A0 : Below w.heap.size w (w.alloc (.cells #[.int .i64 16, .int .i64 n, .string s, .slice ao L cap] 41)) := (Below.refl _ _).alloc (Nat.le_refl _) _
    clear hs hm HE
    go_enter Tryz.func75, Tryz.ntmps75
    go_wp2_with fail
    refine (HT.out _).mono ?_
    rintro e w1 ⟨rfl, hb1⟩
    have B1 := A0.trans (hb1.mono (by simp))
    clear A0 hb1 HT
    go_wp2_with fail
    refine (HR.out _).mono ?_
    rintro e w2 ⟨rfl, hb2⟩
    have B2 := B1.trans (hb2.mono B1.size)
    clear B1 hb2 HR
    go_wp2
    go_ret
    exact ⟨rfl, B2⟩
  by_cases h17 : k = 17
  · subst h17
    have hmt : ∀ w, (method 519 179 (xx 17 n s (.slice ao L cap)) "loop.example/g00288/impl.right").run Tryz.prog w = .ok (250, xx 17 n s (.slice ao L cap)) w := fun _ => by kernel_rfl
    have HT := Hid.mk (fun w => termOf_up n s ao L cap w)
    have HR := Hid.mk (fun w => upRight 17 n s ao L cap w)
    have HE := Hid.mk (ex_eq17 n s L)
    generalize nodeN 17 n s L = nb at *
    rw [HE.out] at HR
    have A0 : Below w.heap.size w (w.alloc (.cells #[.int .i64 17, .int .i64 n, .string s, .slice ao L cap] 41)) := (Below.refl _ _).alloc (Nat.le_refl _) _
    clear hs hm HE
    go_enter Tryz.func75, Tryz.ntmps75
    go_wp2_with fail
    refine (HT.out _).mono ?_
    rintro e w1 ⟨rfl, hb1⟩
    have B1 := A0.trans (hb1.mono (by simp))
    clear A0 hb1 HT
    go_wp2_with fail
    refine (HR.out _).mono ?_
    rintro e w2 ⟨rfl, hb2⟩
    have B2 := B1.trans (hb2.mono B1.size)
    clear B1 hb2 HR
    go_wp2
    go_ret
    exact ⟨rfl, B2⟩
  by_cases h18 : k = 18
  · subst h18
    have hmt : ∀ w, (method 519 180 (xx 18 n s (.slice ao L cap)) "loop.example/g00288/impl.right").run Tryz.prog w = .ok (252, xx 18 n s (.slice ao L cap)) w := fun _ => by kernel_rfl
    have HT := Hid.mk (fun w => termOf_gsub n s ao L cap w)
    have HR := Hid.mk (fun w => gsubRight 18 n s ao L cap w hm)
    have HE := Hid.mk (ex_eq18 n s L)
    generalize nodeN 18 n s L = nb at *
    rw [HE.out] at HR
    have A0 : Below w.heap.size w (w.alloc (.cells #[.int .i64 18, .int .i64 n, .string s, .slice ao L cap] 41)) := (Below.refl _ _).alloc (Nat.le_refl _) _
    clear hs hm HE
    go_enter Tryz.func75, Tryz.ntmps75
    go_wp2_with fail
    refine (HT.out _).mono ?_
    rintro e w1 ⟨rfl, hb1⟩
    have B1 := A0.trans (hb1.mono (by simp))
    clear A0 hb1 HT
    go_wp2_with fail
    refine (HR.out _).mono ?_
    rintro e w2 ⟨rfl, hb2⟩
    have B2 := B1.trans (hb2.mono B1.size)
    clear B1 hb2 HR
    go_wp2
    go_ret
    exact ⟨rfl, B2⟩
  have HN := Hid.mk (ex_eqx (k := k) n s L (by omega))
  have e1 : (k == 1) = false := beq_false_of_ne h1
  have e2 : (k == 2) = false := beq_false_of_ne h2
  have e3 : (k == 3) = false := beq_false_of_ne h3
  have e4 : (k == 4) = false := beq_false_of_ne h4
  have e5 : (k == 5) = false := beq_false_of_ne h5
  have e6 : (k == 6) = false := beq_false_of_ne h6
  have e7 : (k == 7) = false := beq_false_of_ne h7
  have e8 : (k == 8) = false := beq_false_of_ne h8
  have e9 : (k == 9) = false := beq_false_of_ne h9
  have e10 : (k == 10) = false := beq_false_of_ne h10
  have e11 : (k == 11) = false := beq_false_of_ne h11
  have e12 : (k == 12) = false := beq_false_of_ne h12
  have e13 : (k == 13) = false := beq_false_of_ne h13
  have e14 : (k == 14) = false := beq_false_of_ne h14
  have e15 : (k == 15) = false := beq_false_of_ne h15
  have e16 : (k == 16) = false := beq_false_of_ne h16
  have e17 : (k == 17) = false := beq_false_of_ne h17
  have e18 : (k == 18) = false := beq_false_of_ne h18
  have hmt : ∀ w, (method 519 181 (xx k n s (.slice ao L cap)) "loop.example/g00288/impl.right").run Tryz.prog w = .ok (254, xx k n s (.slice ao L cap)) w := fun _ => by kernel_rfl
  have HT := Hid.mk (fun w => termOf_stray k n s ao L cap w e1 e2 e3 e4 e5 e6 e7 e8 e9 e10 e11 e12 e13 e14 e15 e16 e17 e18)
  have HR := Hid.mk (fun w => strayRight k n s ao L cap w)
  have A0 : Below w.heap.size w (w.alloc (.cells #[.int .i64 k, .int .i64 n, .string s, .slice ao L cap] 41)) := (Below.refl _ _).alloc (Nat.le_refl _) _
  clear hs hm h1 h2 h3 h4 h5 h6 h7 h8 h9 h10 h11 h12 h13 h14 h15 h16 h17 h18 e1 e2 e3 e4 e5 e6 e7 e8 e9 e10 e11 e12 e13 e14 e15 e16 e17 e18
  go_enter Tryz.func75, Tryz.ntmps75
  go_wp2_with fail
  refine (HT.out _).mono ?_
  rintro e w1 ⟨rfl, hb1⟩
  have B1 := A0.trans (hb1.mono (by simp))
  clear A0 hb1 HT
  go_wp2_with fail
  refine (HR.out _).mono ?_
  rintro e w2 ⟨rfl, hb2⟩
  have B2 := B1.trans (hb2.mono B1.size)
  clear B1 hb2 HR
  go_wp2
  go_ret
  exact ⟨ret_tb HN.out.symm, B2⟩
end Go.Proofs.YtgigalcajgjpnaaGreat

namespace Go.Proofs.YtgigalcajgjpnaaGreat
open Go.RowKit
set_option maxRecDepth 8000

/-- The model's reader in block R. -/
def Sds (w : World) (R : Nat) (s : ByteArray) (p : Nat) (bad : Bool) (d : Int) : Prop := w.heap[R]? = some (.cells #[.string s, .int .i64 (p : Int), .bool bad, .int .i64 d] 198 (0, 0))

section
variable {w w' : World} {R p : Nat} {s : ByteArray} {bad : Bool} {d : Int}
theorem Sds.c0 (h : Sds w R s p bad d) : w.cell? ⟨R, 0, none⟩ = some (.string s) := by rw [cell_of_row w R 0 _ _ (0, 0) h]; rfl
theorem Sds.c1 (h : Sds w R s p bad d) : w.cell? ⟨R, 1, none⟩ = some (.int .i64 p) := by rw [cell_of_row w R 1 _ _ (0, 0) h]; rfl
theorem Sds.c2 (h : Sds w R s p bad d) : w.cell? ⟨R, 2, none⟩ = some (.bool bad) := by rw [cell_of_row w R 2 _ _ (0, 0) h]; rfl
theorem Sds.c3 (h : Sds w R s p bad d) : w.cell? ⟨R, 3, none⟩ = some (.int .i64 d) := by rw [cell_of_row w R 3 _ _ (0, 0) h]; rfl
theorem Sds.fr (h : Sds w R s p bad d) (j : Nat) : w.frozen? ⟨R, j, none⟩ = false := frozen_of_row w R j _ _ h
theorem Sds.lt (h : Sds w R s p bad d) : R < w.heap.size := by unfold Sds at h; exact (Array.getElem?_eq_some_iff.1 h).1
theorem Sds.kept (h : Sds w R s p bad d) (hh : w'.heap[R]? = w.heap[R]?) : Sds w' R s p bad d := by unfold Sds; rw [hh]; exact h
theorem Sds.grow (h : Sds w R s p bad d) (hb : Below w.heap.size w w') : Sds w' R s p bad d := h.kept (hb.block R h.lt)
theorem Sds.put1 (h : Sds w R s p bad d) (q : Nat) : Sds (w.setCell ⟨R, 1, none⟩ (.int .i64 (q : Int))) R s q bad d := by unfold Sds; rw [heap_setCell_same w R 1 _ _ _ h]; rfl
theorem Sds.put2 (h : Sds w R s p bad d) (b : Bool) : Sds (w.setCell ⟨R, 2, none⟩ (.bool b)) R s p b d := by unfold Sds; rw [heap_setCell_same w R 2 _ _ _ h]; rfl
theorem Sds.put3 (h : Sds w R s p bad d) (e : Int) : Sds (w.setCell ⟨R, 3, none⟩ (.int .i64 e)) R s p bad e := by unfold Sds; rw [heap_setCell_same w R 3 _ _ _ h]; rfl
theorem Sds.drew (h : Sds w R s p bad d) (n : Nat) : Sds (w.drewN n) R s p bad d := h
theorem Sds.set3 (h : Sds w R s p bad d) {b : Nat} (hne : R ≠ b) (x y z : Value) : Sds (set3 w b x y z) R s p bad d := h.kept (set3_other _ _ _ _ _ _ hne)
end

/-- What a function of the model's reader leaves, where the text from p on reads as r. -/
def SpOk (w w' : World) (R : Nat) (s : ByteArray) (p : Nat) (d : Int) (e : Ending) (r : Option (Tr × List Int)) : Prop :=
  w.grownBy w' (some R) ∧ ∃ t u p', e = .returned (rx t.k t.s u) ∧ t.s.size ≤ maxLen ∧ Ow w' (newFrom w.heap.size) t.l u ∧ p ≤ p' ∧ p' ≤ s.size ∧
    ((r = none ∧ ∃ d', Sds w' R s p' true d' ∧ d ≤ d' ∧ d' ≤ 9) ∨ (r = some (t, (txt s).drop p') ∧ p < p' ∧ Sds w' R s p' false d))

def SpC (f : Nat) (g : Rdr) (d : Int) : Prop := ∀ (s : ByteArray) (R p : Nat) (w : World), Sds w R s p false d → p ≤ s.size → s.size ≤ 1048576 →
  Calls Tryz.prog f #[.pointer (some ⟨R, 0, none⟩)] w fun e w' => SpOk w w' R s p d e (g ((txt s).drop p))

theorem pre_boxS {w : World} {R p : Nat} {s : ByteArray} {bad : Bool} {d : Int} (h : Sds w R s p bad d) : Sds (w.alloc (.cells #[.int .i64 0, .string ⟨#[]⟩, .slice none 0 0] 187)) R s p bad d ∧ w.heap.size ≠ R ∧ Bx3 (w.alloc (.cells #[.int .i64 0, .string ⟨#[]⟩, .slice none 0 0] 187)) w.heap.size (.int .i64 0) (.string ⟨#[]⟩) (.slice none 0 0) ∧ w.grownBy (w.alloc (.cells #[.int .i64 0, .string ⟨#[]⟩, .slice none 0 0] 187)) (some R) :=
  ⟨h.grow ((Below.refl _ _).alloc (Nat.le_refl _) _), by have := h.lt; omega, Bx3.new _ _ _ _, gb_alloc _ _ _⟩

set_option maxHeartbeats 1000000 in
theorem l3Is_no (s : ByteArray) (R p : Nat) (bad : Bool) (d c : Int) (w : World) (h : Sds w R s p bad d) (hp : p ≤ s.size) (_hs : s.size ≤ 1048576) (hn : bad = true ∨ nextIs s p c = false) :
    Calls Tryz.prog 129 #[.pointer (some ⟨R, 0, none⟩), .int .u8 c] w fun e w' => e = .returned (.bool false) ∧ ∃ n, w' = w.drewN n := by
  have c0 := h.c0
  have c1 := h.c1
  have c2 := h.c2
  clear h
  cases bad with
  | true =>
    clear hn
    go_enter Tryz.func129, Tryz.ntmps129
    go_wp2_with fail
    go_quiet (fail)
    go_wp2
    go_ret
    exact ⟨rfl, _, rfl⟩
  | false =>
    have hn' : nextIs s p c = false := by rcases hn with h | h; cases h; exact h
    clear hn
    by_cases he : p = s.size
    · have hb : s.size ≤ p := by omega
      clear he hn'
      go_enter Tryz.func129, Tryz.ntmps129
      go_wp2_with fail
      go_quiet (fail)
      go_wp2
      go_ret
      exact ⟨rfl, _, rfl⟩
    · have hlt : p < s.size := by omega
      have hb : ¬ s.size ≤ p := by omega
      have hpi : (p : Int) < (s.size : Int) := by omega
      have hcb : (((s[p].toNat : Nat) : Int) != c) = true := by rw [nextIs_at hlt] at hn'; simpa using hn'
      clear he hn'
      go_enter Tryz.func129, Tryz.ntmps129
      go_wp2_with fail
      go_quiet (fail)
      go_wp2
      go_ret
      exact ⟨rfl, _, rfl⟩

set_option maxHeartbeats 1000000 in
theorem l3Is_yes (s : ByteArray) (R p : Nat) (d c : Int) (w : World) (h : Sds w R s p false d) (hlt : p < s.size) (hs : s.size ≤ 1048576) (hn : nextIs s p c = true) :
    Calls Tryz.prog 129 #[.pointer (some ⟨R, 0, none⟩), .int .u8 c] w fun e w' => e = .returned (.bool true) ∧ ∃ n, w' = (w.drewN n).setCell ⟨R, 1, none⟩ (.int .i64 ((p + 1 : Nat) : Int)) := by
  have c0 := h.c0
  have c1 := h.c1
  have c2 := h.c2
  have f1 := h.fr 1
  clear h
  have hb : ¬ s.size ≤ p := by omega
  have hpi : (p : Int) < (s.size : Int) := by omega
  have hcb : (((s[p].toNat : Nat) : Int) != c) = false := by rw [nextIs_at hlt] at hn; simpa using hn
  clear hn
  go_enter Tryz.func129, Tryz.ntmps129
  go_wp2_with fail
  go_quiet (fail)
  go_wp2
  go_ret
  exact ⟨rfl, _, rfl⟩

theorem l3Is_any (s : ByteArray) (R p : Nat) (bad : Bool) (d c : Int) (w : World) (h : Sds w R s p bad d) (hp : p ≤ s.size) (hs : s.size ≤ 1048576) (b : Bool) (hb : (!bad && nextIs s p c) = b) :
    Calls Tryz.prog 129 #[.pointer (some ⟨R, 0, none⟩), .int .u8 c] w fun e w' => e = .returned (.bool b) ∧ w.grownBy w' (some R) ∧ Sds w' R s (if b = true then p + 1 else p) bad d ∧ w'.heap.size = w.heap.size := by
  cases b with
  | false =>
    refine (l3Is_no s R p bad d c w h hp hs (by cases bad <;> simp_all)).mono ?_
    rintro e w' ⟨rfl, n, rfl⟩
    exact ⟨rfl, gb_drew _ _ _, h.drew n, rfl⟩
  | true =>
    have h1 : bad = false := by cases bad <;> simp_all
    subst h1
    have h2 : nextIs s p c = true := by simpa using hb
    refine (l3Is_yes s R p d c w h (nextIs_lt h2) hs h2).mono ?_
    rintro e w' ⟨rfl, n, rfl⟩
    exact ⟨rfl, gb_put (gb_drew _ _ _) _ _, (h.drew n).put1 (p + 1), by simp⟩

/-- It has gone bad. -/
theorem l3Bad_any (s : ByteArray) (R p : Nat) (bad : Bool) (d : Int) (w : World) (h : Sds w R s p bad d) :
    Calls Tryz.prog 141 #[.pointer (some ⟨R, 0, none⟩)] w fun e w' => e = .returned (rx 0 ⟨#[]⟩ (.slice none 0 0)) ∧ w.grownBy w' (some R) ∧ Sds w' R s p true d ∧ w.heap.size < w'.heap.size := by
  obtain ⟨h0, hne, hb0, hg0⟩ := pre_boxS h
  have c2 := h.c2
  have f2 := h.fr 2
  have hlt := h.lt
  have HH := Hid.mk h
  clear h h0 hb0 hg0
  go_enter Tryz.func141, Tryz.ntmps141
  go_wp2
  refine bodyPost_ret (v := rx 0 ⟨#[]⟩ (.slice none 0 0)) ?_ rfl ⟨rfl, gb_below (gb_put (World.grownBy.refl _ _) _ _) ((Below.refl _ _).alloc (Nat.le_refl _) _), (HH.out.put2 true).grow ((Below.refl _ _).alloc (Nat.le_refl _) _), by simp⟩
  simp [results, Tryz.results141, go_sem]

set_option maxHeartbeats 2000000 in
theorem group_of (n : Nat) (hn8 : n ≤ 8) (hc : 1 ≤ n → SpC 126 (rd n) (9 - (n : Int))) : SpC 142 (rdGroup (rd n)) (8 - (n : Int)) := by
  intro s R p w h hp hs
  obtain ⟨h0, hne, hb0, hg0⟩ := pre_boxS h
  have H0 := Hid.mk h0
  have HB0 := Hid.mk hb0
  have HG0 := Hid.mk hg0
  have hRl := h.lt
  have HC := Hid.mk hc
  obtain ⟨d, hd⟩ : ∃ d : Int, 8 - (n : Int) = d := ⟨_, rfl⟩
  have hd9 : 9 - (n : Int) = d + 1 := by omega
  rw [hd] at H0 ⊢
  rw [hd9] at HC
  clear h h0 hb0 hg0 hc
  cases hx : nextIs s p 41 with
  | true =>
    have hlt := nextIs_lt hx
    have HT := Hid.mk (l3Is_any s R p false d 41 _ H0.out hp hs true (by simpa using hx))
    have HR : Hid (rdGroup (rd n) ((txt s).drop p) = some (leaf 9, (txt s).drop (p + 1))) := by show _ = _; rw [rdGroup, if_pos (head_is.1 hx), tail_is]
    clear HC
    go_enter Tryz.func142, Tryz.ntmps142
    go_wp2_with fail
    refine HT.out.mono ?_
    rintro e w1 ⟨rfl, hg1, hr1, hz1⟩
    have HB1 := Hid.mk (HB0.out.gb hg1 hne)
    have HG1 := Hid.mk (gb_trans HG0.out hg1)
    have HS1 : Hid (Sds w1 R s (p + 1) false d) := hr1
    clear HT hg1 hr1 HB0 HG0 H0
    have c0 := HB1.out.c0
    have c1 := HB1.out.c1
    have c2 := HB1.out.c2
    have f0 := HB1.out.fr
    go_wp2
    have hput := HB1.out.put (.int .i64 9) (.string ⟨#[]⟩) (.slice none 0 0)
    have hgp := gb_set3 HG1.out (Nat.le_refl _) (.int .i64 9) (.string ⟨#[]⟩) (.slice none 0 0)
    have hrp := HS1.out.set3 (Ne.symm hne) (.int .i64 9) (.string ⟨#[]⟩) (.slice none 0 0)
    unfold set3 at hput hgp hrp
    generalize ((w1.setCell ⟨w.heap.size, 0, none⟩ (.int .i64 9)).setCell ⟨w.heap.size, 1, none⟩ (.string ⟨#[]⟩)).setCell ⟨w.heap.size, 2, none⟩ (.slice none 0 0) = W at hput hgp hrp ⊢
    have r0 := hput.c0
    have r1 := hput.c1
    have r2 := hput.c2
    refine bodyPost_ret (v := .agg #[.int .i64 9, .string ⟨#[]⟩, .slice none 0 0]) ?_ rfl ⟨hgp, leaf 9, _, p + 1, rfl, (ow_leaf w anyBlock 9).1, Ow.none _, by omega, by omega, Or.inr ⟨HR.out, by omega, hrp⟩⟩
    simp [results, Tryz.results142, go_sem, r0, r1, r2]
  | false =>
    have HT := Hid.mk (l3Is_any s R p false d 41 _ H0.out hp hs false (by simpa using hx))
    have HN : Hid (¬ ((txt s).drop p).head? = some 41) := fun e => by rw [head_is.2 e] at hx; cases hx
    by_cases hn0 : n = 0
    · have HE : Hid (rdGroup (rd n) ((txt s).drop p) = none) := by show _ = _; rw [rdGroup, if_neg HN.out, hn0]; rfl
      have hd8 : d = 8 := by omega
      subst hd8
      clear HC
      go_enter Tryz.func142, Tryz.ntmps142
      go_wp2_with fail
      refine HT.out.mono ?_
      rintro e w1 ⟨rfl, hg1, hr1, hz1⟩
      have HB1 := HB0.out.gb hg1 hne
      have HG1 := gb_trans HG0.out hg1
      have hs1 : Sds w1 R s p false 8 := hr1
      have c3 := hs1.c3
      have f3 := hs1.fr 3
      have HB2 := Hid.mk (HB1.kept (w' := w1.setCell ⟨R, 3, none⟩ (.int .i64 9)) (heap_setCell_other _ _ _ _ hne))
      have HG2 := Hid.mk (gb_put HG1 3 (.int .i64 9))
      have HS2 := Hid.mk (hs1.put3 9)
      have HBad := Hid.mk (l3Bad_any s R p false 9 _ HS2.out)
      clear HT hg1 hr1 HB0 HG0 H0 HB1 HG1 hs1
      go_wp2_with fail
      refine HBad.out.mono ?_
      rintro e w3 ⟨rfl, hg3, hr3, hz3⟩
      have HB3 := Hid.mk (HB2.out.gb hg3 hne)
      have HG3 := Hid.mk (gb_trans HG2.out hg3)
      have HS3 := Hid.mk hr3
      clear HBad hg3 hr3 HB2 HG2 HS2 c3 f3
      have c0 := HB3.out.c0
      have c1 := HB3.out.c1
      have c2 := HB3.out.c2
      have f0 := HB3.out.fr
      go_wp2
      have hput := HB3.out.put (.int .i64 0) (.string ⟨#[]⟩) (.slice none 0 0)
      have hgp := gb_set3 HG3.out (Nat.le_refl _) (.int .i64 0) (.string ⟨#[]⟩) (.slice none 0 0)
      have hrp := HS3.out.set3 (Ne.symm hne) (.int .i64 0) (.string ⟨#[]⟩) (.slice none 0 0)
      unfold set3 at hput hgp hrp
      generalize ((w3.setCell ⟨w.heap.size, 0, none⟩ (.int .i64 0)).setCell ⟨w.heap.size, 1, none⟩ (.string ⟨#[]⟩)).setCell ⟨w.heap.size, 2, none⟩ (.slice none 0 0) = W at hput hgp hrp ⊢
      have r0 := hput.c0
      have r1 := hput.c1
      have r2 := hput.c2
      refine bodyPost_ret (v := .agg #[.int .i64 0, .string ⟨#[]⟩, .slice none 0 0]) ?_ rfl ⟨hgp, leaf 0, _, p, rfl, (ow_leaf w anyBlock 0).1, Ow.none _, by omega, by omega, Or.inl ⟨HE.out, 9, hrp, by omega, by omega⟩⟩
      simp [results, Tryz.results142, go_sem, r0, r1, r2]
    · have HC2 := Hid.mk (HC.out (by omega))
      have hd0 : 0 ≤ d ∧ d ≤ 7 := by omega
      have hgt : ¬ 8 < d + 1 := by omega
      clear HC
      go_enter Tryz.func142, Tryz.ntmps142
      go_wp2_with fail
      refine HT.out.mono ?_
      rintro e w1 ⟨rfl, hg1, hr1, hz1⟩
      have HB1 := HB0.out.gb hg1 hne
      have HG1 := gb_trans HG0.out hg1
      have hs1 : Sds w1 R s p false d := hr1
      have c3 := hs1.c3
      have f3 := hs1.fr 3
      have HB2 := Hid.mk (HB1.kept (w' := w1.setCell ⟨R, 3, none⟩ (.int .i64 (d + 1))) (heap_setCell_other _ _ _ _ hne))
      have HG2 := Hid.mk (gb_put HG1 3 (.int .i64 (d + 1)))
      have HS2 := Hid.mk (hs1.put3 (d + 1))
      have hz2 : (w1.setCell ⟨R, 3, none⟩ (.int .i64 (d + 1))).heap.size = w.heap.size + 1 := by simp [hz1]
      clear HT hg1 hr1 HB0 HG0 H0 HB1 HG1 hs1
      go_wp2_with fail
      refine (HC2.out s R p _ HS2.out hp hs).mono ?_
      rintro e w3 ⟨hg3, t, u, p2, rfl, hsz, how, hp1, hp2, hcase⟩
      rw [hz2] at how
      obtain ⟨au, cu, rfl⟩ := how.value
      have hbw : Below w3.heap.size w3 (w3.alloc (.cells #[.int .i64 t.k, .string t.s, .slice au t.l.length cu] 187)) := (Below.refl _ _).alloc (Nat.le_refl _) _
      have HB3 := Hid.mk ((HB2.out.gb hg3 hne).kept (hbw.block _ (HB2.out.gb hg3 hne).lt))
      have HG3 := Hid.mk (gb_below (gb_trans HG2.out hg3) hbw)
      have HX3 := Hid.mk (Bx3.new w3 (.int .i64 t.k) (.string t.s) (.slice au t.l.length cu))
      have HO3 := Hid.mk (how.grow hbw)
      have hs3 : w.heap.size + 1 ≤ w3.heap.size := by have := hg3.size; omega
      have hxne : w3.heap.size ≠ R := by omega
      have HSZ := Hid.mk hsz
      obtain ⟨tk, htk⟩ : ∃ tk, t.k = tk := ⟨_, rfl⟩
      obtain ⟨ts, hts⟩ : ∃ ts, t.s = ts := ⟨_, rfl⟩
      rw [htk, hts] at HB3 HG3 HX3 HO3 hbw
      rw [htk, hts]
      clear hg3 how hsz HB2 HG2 HS2 HC2 c3 f3
      rcases hcase with ⟨hr0, d', hsd, hd1, hd2⟩ | ⟨hrd, hpp, hsd⟩
      · have HE : Hid (rdGroup (rd n) ((txt s).drop p) = none) := by show _ = _; rw [rdGroup, if_neg HN.out, hr0]
        have hs4 := hsd.grow hbw
        have c3 := hs4.c3
        have f3 := hs4.fr 3
        have e3 : (w3.cell? ⟨R, 3, none⟩) = some (.int .i64 d') := hsd.c3
        have g3 := hsd.fr 3
        have HS5 := Hid.mk (hs4.put3 (d' - 1))
        have HB5 := Hid.mk (HB3.out.kept (w' := (w3.alloc (.cells #[.int .i64 tk, .string ts, .slice au t.l.length cu] 187)).setCell ⟨R, 3, none⟩ (.int .i64 (d' - 1))) (heap_setCell_other _ _ _ _ hne))
        have HG5 := Hid.mk (gb_put HG3.out 3 (.int .i64 (d' - 1)))
        have HT := Hid.mk (l3Is_any s R p2 true (d' - 1) 41 _ HS5.out hp2 hs false rfl)
        clear hsd hs4 HX3 HO3
        go_wp2_with fail
        refine HT.out.mono ?_
        rintro e w6 ⟨rfl, hg6, hr6, hz6⟩
        have HB6 := Hid.mk (HB5.out.gb hg6 hne)
        have HG6 := Hid.mk (gb_trans HG5.out hg6)
        have HS6 : Hid (Sds w6 R s p2 true (d' - 1)) := hr6
        have HBad := Hid.mk (l3Bad_any s R p2 true (d' - 1) w6 HS6.out)
        clear HT hg6 hr6 hz6 HB5 HG5 HS5 HB3 HG3 c3 f3 e3 g3
        go_wp2_with fail
        refine HBad.out.mono ?_
        rintro e w7 ⟨rfl, hg7, hr7, hz7⟩
        have HB7 := Hid.mk (HB6.out.gb hg7 hne)
        have HG7 := Hid.mk (gb_trans HG6.out hg7)
        have HS7 := Hid.mk hr7
        clear HBad hg7 hr7 HB6 HG6 HS6
        have c0 := HB7.out.c0
        have c1 := HB7.out.c1
        have c2 := HB7.out.c2
        have f0 := HB7.out.fr
        go_wp2
        have hput := HB7.out.put (.int .i64 0) (.string ⟨#[]⟩) (.slice none 0 0)
        have hgp := gb_set3 HG7.out (Nat.le_refl _) (.int .i64 0) (.string ⟨#[]⟩) (.slice none 0 0)
        have hrp := HS7.out.set3 (Ne.symm hne) (.int .i64 0) (.string ⟨#[]⟩) (.slice none 0 0)
        unfold set3 at hput hgp hrp
        generalize ((w7.setCell ⟨w.heap.size, 0, none⟩ (.int .i64 0)).setCell ⟨w.heap.size, 1, none⟩ (.string ⟨#[]⟩)).setCell ⟨w.heap.size, 2, none⟩ (.slice none 0 0) = W at hput hgp hrp ⊢
        have r0 := hput.c0
        have r1 := hput.c1
        have r2 := hput.c2
        refine bodyPost_ret (v := .agg #[.int .i64 0, .string ⟨#[]⟩, .slice none 0 0]) ?_ rfl ⟨hgp, leaf 0, _, p2, rfl, (ow_leaf w anyBlock 0).1, Ow.none _, by omega, by omega, Or.inl ⟨HE.out, d' - 1, hrp, by omega, by omega⟩⟩
        simp [results, Tryz.results142, go_sem, r0, r1, r2]
      · have HRD := Hid.mk hrd
        have hs4 := hsd.grow hbw
        have c3 := hs4.c3
        have f3 := hs4.fr 3
        have e3 : (w3.cell? ⟨R, 3, none⟩) = some (.int .i64 (d + 1)) := hsd.c3
        have g3 := hsd.fr 3
        have HS5 := Hid.mk (hs4.put3 d)
        have HB5 := Hid.mk (HB3.out.kept (w' := ((w3.alloc (.cells #[.int .i64 tk, .string ts, .slice au t.l.length cu] 187)).setCell ⟨R, 3, none⟩ (.int .i64 d))) (heap_setCell_other _ _ _ _ hne))
        have HX5 := Hid.mk (HX3.out.kept (w' := ((w3.alloc (.cells #[.int .i64 tk, .string ts, .slice au t.l.length cu] 187)).setCell ⟨R, 3, none⟩ (.int .i64 d))) (heap_setCell_other _ _ _ _ hxne))
        have HO5 := Hid.mk (HO3.out.kept (w' := ((w3.alloc (.cells #[.int .i64 tk, .string ts, .slice au t.l.length cu] 187)).setCell ⟨R, 3, none⟩ (.int .i64 d))) (fun b hb _ => heap_setCell_other _ _ _ _ (by rintro rfl; unfold newFrom at hb; omega)))
        have HG5 := Hid.mk (gb_put HG3.out 3 (.int .i64 d))
        clear hsd hs4 HX3 HO3 hrd
        cases hx2 : nextIs s p2 41 with
        | true =>
          have hlt2 := nextIs_lt hx2
          have HE : Hid (rdGroup (rd n) ((txt s).drop p) = some (t, (txt s).drop (p2 + 1))) := by
            show _ = _
            rw [rdGroup, if_neg HN.out, HRD.out]
            show (if ((txt s).drop p2).head? = some 41 then _ else _) = _
            rw [if_pos (head_is.1 hx2), tail_is]
          have HT := Hid.mk (l3Is_any s R p2 false d 41 _ HS5.out hp2 hs true (by simpa using hx2))
          go_wp2_with fail
          refine HT.out.mono ?_
          rintro e w6 ⟨rfl, hg6, hr6, hz6⟩
          have HB6 := Hid.mk (HB5.out.gb hg6 hne)
          have HG6 := Hid.mk (gb_trans HG5.out hg6)
          have HS6 : Hid (Sds w6 R s (p2 + 1) false d) := hr6
          have HX6 := Hid.mk (HX5.out.gb hg6 hxne)
          have HO6 := Hid.mk (HO5.out.gb hg6 (by unfold newFrom; omega))
          have x0 := HX6.out.c0
          have x1 := HX6.out.c1
          have x2 := HX6.out.c2
          clear HT hg6 hr6 hz6 HB5 HG5 HS5 HX5 HO5 HB3 HG3 c3 f3 e3 g3
          have c0 := HB6.out.c0
          have c1 := HB6.out.c1
          have c2 := HB6.out.c2
          have f0 := HB6.out.fr
          go_wp2
          have hput := HB6.out.put (.int .i64 tk) (.string ts) (.slice au t.l.length cu)
          have hgp := gb_set3 HG6.out (Nat.le_refl _) (.int .i64 tk) (.string ts) (.slice au t.l.length cu)
          have hrp := HS6.out.set3 (Ne.symm hne) (.int .i64 tk) (.string ts) (.slice au t.l.length cu)
          have hop := HO6.out.set3 (b := w.heap.size) (by unfold newFrom; omega) (.int .i64 tk) (.string ts) (.slice au t.l.length cu)
          unfold set3 at hput hgp hrp hop
          generalize ((w6.setCell ⟨w.heap.size, 0, none⟩ (.int .i64 tk)).setCell ⟨w.heap.size, 1, none⟩ (.string ts)).setCell ⟨w.heap.size, 2, none⟩ (.slice au t.l.length cu) = W at hput hgp hrp hop ⊢
          have r0 := hput.c0
          have r1 := hput.c1
          have r2 := hput.c2
          refine bodyPost_ret (v := .agg #[.int .i64 tk, .string ts, .slice au t.l.length cu]) ?_ rfl ⟨hgp, t, _, p2 + 1, by rw [htk, hts], HSZ.out, hop.mono (fun b hb => by unfold newFrom at *; omega), by omega, by omega, Or.inr ⟨HE.out, by omega, hrp⟩⟩
          simp [results, Tryz.results142, go_sem, r0, r1, r2]
        | false =>
          have HE : Hid (rdGroup (rd n) ((txt s).drop p) = none) := by
            show _ = _
            rw [rdGroup, if_neg HN.out, HRD.out]
            show (if ((txt s).drop p2).head? = some 41 then _ else _) = _
            rw [if_neg (fun e => by rw [head_is.2 e] at hx2; cases hx2)]
          have HT := Hid.mk (l3Is_any s R p2 false d 41 _ HS5.out hp2 hs false (by simpa using hx2))
          go_wp2_with fail
          refine HT.out.mono ?_
          rintro e w6 ⟨rfl, hg6, hr6, hz6⟩
          have HB6 := Hid.mk (HB5.out.gb hg6 hne)
          have HG6 := Hid.mk (gb_trans HG5.out hg6)
          have HS6 : Hid (Sds w6 R s p2 false d) := hr6
          have HBad := Hid.mk (l3Bad_any s R p2 false d w6 HS6.out)
          clear HT hg6 hr6 hz6 HB5 HG5 HS5 HX5 HO5 HB3 HG3 c3 f3 e3 g3
          go_wp2_with fail
          refine HBad.out.mono ?_
          rintro e w7 ⟨rfl, hg7, hr7, hz7⟩
          have HB7 := Hid.mk (HB6.out.gb hg7 hne)
          have HG7 := Hid.mk (gb_trans HG6.out hg7)
          have HS7 := Hid.mk hr7
          clear HBad hg7 hr7 HB6 HG6 HS6
          have c0 := HB7.out.c0
          have c1 := HB7.out.c1
          have c2 := HB7.out.c2
          have f0 := HB7.out.fr
          go_wp2
          have hput := HB7.out.put (.int .i64 0) (.string ⟨#[]⟩) (.slice none 0 0)
          have hgp := gb_set3 HG7.out (Nat.le_refl _) (.int .i64 0) (.string ⟨#[]⟩) (.slice none 0 0)
          have hrp := HS7.out.set3 (Ne.symm hne) (.int .i64 0) (.string ⟨#[]⟩) (.slice none 0 0)
          unfold set3 at hput hgp hrp
          generalize ((w7.setCell ⟨w.heap.size, 0, none⟩ (.int .i64 0)).setCell ⟨w.heap.size, 1, none⟩ (.string ⟨#[]⟩)).setCell ⟨w.heap.size, 2, none⟩ (.slice none 0 0) = W at hput hgp hrp ⊢
          have r0 := hput.c0
          have r1 := hput.c1
          have r2 := hput.c2
          refine bodyPost_ret (v := .agg #[.int .i64 0, .string ⟨#[]⟩, .slice none 0 0]) ?_ rfl ⟨hgp, leaf 0, _, p2, rfl, (ow_leaf w anyBlock 0).1, Ow.none _, by omega, by omega, Or.inl ⟨HE.out, d, hrp, by omega, by omega⟩⟩
          simp [results, Tryz.results142, go_sem, r0, r1, r2]
end Go.Proofs.YtgigalcajgjpnaaGreat

namespace Go.Proofs.YtgigalcajgjpnaaGreat
open Go.RowKit
set_option maxRecDepth 8000

theorem next_mark (s : ByteArray) (p : Nat) : (nextIs s p 42 = true ∨ nextIs s p 43 = true ∨ nextIs s p 63 = true) ∨ (nextIs s p 42 = false ∧ nextIs s p 43 = false ∧ nextIs s p 63 = false) := by
  cases nextIs s p 42 <;> cases nextIs s p 43 <;> cases nextIs s p 63 <;> simp
theorem next_one (s : ByteArray) (p : Nat) (a b : Int) (hab : a ≠ b) (h : nextIs s p a = true) : nextIs s p b = false := by
  have hlt := nextIs_lt h
  rw [nextIs_at hlt] at h ⊢
  have e : ((s[p].toNat : Nat) : Int) = a := by simpa using h
  rw [e]
  exact beq_eq_false_iff_ne.2 hab

set_option maxHeartbeats 2000000 in
theorem item_of (n : Nat) (d : Int) (hd : d ≤ 9) (hc : SpC 137 (rdAtom (rd n)) d) : SpC 132 (rdItem (rd n)) d := by
  intro s R p w h hp hs
  obtain ⟨h0, hne, hb0, hg0⟩ := pre_boxS h
  have H0 := Hid.mk h0
  have HB0 := Hid.mk hb0
  have HG0 := Hid.mk hg0
  have hRl := h.lt
  have HC := Hid.mk (hc s R p _ h0 hp hs)
  clear h h0 hb0 hg0 hc
  go_enter Tryz.func132, Tryz.ntmps132
  go_wp2_with fail
  refine HC.out.mono ?_
  rintro e w1 ⟨hg1, t, u, p1, rfl, hsz, how, hp1, hp2, hcase⟩
  obtain ⟨au, cu, rfl⟩ := how.value
  have hbw : Below w1.heap.size w1 (w1.alloc (.cells #[.int .i64 t.k, .string t.s, .slice au t.l.length cu] 187)) := (Below.refl _ _).alloc (Nat.le_refl _) _
  have hs1 : w.heap.size + 1 ≤ w1.heap.size := by have := hg1.size; simpa using this
  have HB1 := Hid.mk ((HB0.out.gb hg1 hne).kept (hbw.block _ (HB0.out.gb hg1 hne).lt))
  have HG1 := Hid.mk (gb_below (gb_trans HG0.out hg1) hbw)
  have HX1 := Hid.mk (Bx3.new w1 (.int .i64 t.k) (.string t.s) (.slice au t.l.length cu))
  have HO1 := Hid.mk ((how.grow hbw).mono (C := newFrom (w.heap.size + 1)) (fun b hb => by unfold newFrom at *; simpa using hb))
  have HSZ := Hid.mk hsz
  have hxne : w1.heap.size ≠ R := by omega
  obtain ⟨bad, pc, d1, HS1, hpc, hcs⟩ : ∃ (bad : Bool) (pc : Prop) (d1 : Int), Hid (Sds (w1.alloc (.cells #[.int .i64 t.k, .string t.s, .slice au t.l.length cu] 187)) R s p1 bad d1) ∧ (d ≤ d1 ∧ d1 ≤ 9) ∧
      Hid ((bad = true ∧ rdItem (rd n) ((txt s).drop p) = none) ∨ (bad = false ∧ d1 = d ∧ p < p1 ∧ rdItem (rd n) ((txt s).drop p) = some (rdMark t ((txt s).drop p1)))) := by
    rcases hcase with ⟨hr0, d', hsd, e1, e2⟩ | ⟨hrd, hpp, hsd⟩
    · exact ⟨true, True, d', hsd.grow hbw, ⟨e1, e2⟩, Or.inl ⟨rfl, by rw [rdItem, hr0]⟩⟩
    · exact ⟨false, True, d, hsd.grow hbw, ⟨by omega, hd⟩, Or.inr ⟨rfl, rfl, hpp, by rw [rdItem, hrd]⟩⟩
  obtain ⟨tk, htk⟩ : ∃ tk, t.k = tk := ⟨_, rfl⟩
  obtain ⟨ts, hts⟩ : ∃ ts, t.s = ts := ⟨_, rfl⟩
  rw [htk, hts] at HB1 HG1 HX1 HO1 HS1
  rw [htk, hts]
  clear HC hg1 hsz how hbw H0 HB0 HG0 hcase pc
  by_cases hno : ∀ c : Int, (c = 42 ∨ c = 43 ∨ c = 63) → (!bad && nextIs s p1 c) = false
  · have HY0 : Hid ((!bad && nextIs s p1 42) = false) := hno 42 (by omega)
    have HY1 : Hid ((!bad && nextIs s p1 43) = false) := hno 43 (by omega)
    have HY2 : Hid ((!bad && nextIs s p1 63) = false) := hno 63 (by omega)
    have HM : Hid (bad = false → rdMark t ((txt s).drop p1) = (t, (txt s).drop p1)) := by
      intro hb
      apply mark_none
      intro k hk
      have := hno (markAt k) (by unfold markAt; split; omega; split <;> omega)
      rw [hb] at this
      simpa using this
    clear hno
    go_wp2_with fail
    refine (l3Is_any s R p1 bad d1 42 _ HS1.out hp2 hs false HY0.out).mono ?_
    rintro e w2 ⟨rfl, hg, hr, hz⟩
    have HB2 := Hid.mk (HB1.out.gb hg hne)
    have HG2 := Hid.mk (gb_trans HG1.out hg)
    have HX2 := Hid.mk (HX1.out.gb hg hxne)
    have HO2 := Hid.mk (HO1.out.gb hg (by unfold newFrom; omega))
    have HS2 : Hid (Sds w2 R s p1 bad d1) := hr
    have hz2 : w.heap.size + 1 ≤ w2.heap.size := by have := HX2.out.lt; omega
    clear hg hr hz HB1 HG1 HS1 HX1 HO1
    go_wp2_with fail
    refine (l3Is_any s R p1 bad d1 43 _ HS2.out hp2 hs false HY1.out).mono ?_
    rintro e w3 ⟨rfl, hg, hr, hz⟩
    have HB3 := Hid.mk (HB2.out.gb hg hne)
    have HG3 := Hid.mk (gb_trans HG2.out hg)
    have HX3 := Hid.mk (HX2.out.gb hg hxne)
    have HO3 := Hid.mk (HO2.out.gb hg (by unfold newFrom; omega))
    have HS3 : Hid (Sds w3 R s p1 bad d1) := hr
    have hz3 : w.heap.size + 1 ≤ w3.heap.size := by have := HX3.out.lt; omega
    clear hg hr hz HB2 HG2 HS2 HX2 HO2
    go_wp2_with fail
    refine (l3Is_any s R p1 bad d1 63 _ HS3.out hp2 hs false HY2.out).mono ?_
    rintro e w4 ⟨rfl, hg, hr, hz⟩
    have HB4 := Hid.mk (HB3.out.gb hg hne)
    have HG4 := Hid.mk (gb_trans HG3.out hg)
    have HX4 := Hid.mk (HX3.out.gb hg hxne)
    have HO4 := Hid.mk (HO3.out.gb hg (by unfold newFrom; omega))
    have HS4 : Hid (Sds w4 R s p1 bad d1) := hr
    have hz4 : w.heap.size + 1 ≤ w4.heap.size := by have := HX4.out.lt; omega
    clear hg hr hz HB3 HG3 HS3 HX3 HO3
    have x0 := HX4.out.c0
    have x1 := HX4.out.c1
    have x2 := HX4.out.c2
    have c0 := HB4.out.c0
    have c1 := HB4.out.c1
    have c2 := HB4.out.c2
    have f0 := HB4.out.fr
    go_wp2
    have hput := HB4.out.put (.int .i64 tk) (.string ts) (.slice au t.l.length cu)
    have hgp := gb_set3 HG4.out (Nat.le_refl _) (.int .i64 tk) (.string ts) (.slice au t.l.length cu)
    have hrp := HS4.out.set3 (Ne.symm hne) (.int .i64 tk) (.string ts) (.slice au t.l.length cu)
    have hop := HO4.out.set3 (b := w.heap.size) (by unfold newFrom; omega) (.int .i64 tk) (.string ts) (.slice au t.l.length cu)
    unfold set3 at hput hgp hrp hop
    generalize ((w4.setCell ⟨w.heap.size, 0, none⟩ (.int .i64 tk)).setCell ⟨w.heap.size, 1, none⟩ (.string ts)).setCell ⟨w.heap.size, 2, none⟩ (.slice au t.l.length cu) = W at hput hgp hrp hop ⊢
    have r0 := hput.c0
    have r1 := hput.c1
    have r2 := hput.c2
    refine bodyPost_ret (v := .agg #[.int .i64 tk, .string ts, .slice au t.l.length cu]) ?_ rfl ⟨hgp, t, _, p1, by rw [htk, hts], HSZ.out, hop.mono (fun b hb => by unfold newFrom at *; omega), by omega, by omega, ?_⟩
    · simp [results, Tryz.results132, go_sem, r0, r1, r2]
    · rcases hcs.out with ⟨hb, he⟩ | ⟨hb, hd1, hpp, he⟩
      · exact Or.inl ⟨he, d1, by rw [hb] at hrp; exact hrp, hpc.1, hpc.2⟩
      · exact Or.inr ⟨by rw [he, HM.out hb], hpp, by rw [hb, hd1] at hrp; exact hrp⟩
  have hbf : bad = false := by
    cases bad with
    | false => rfl
    | true => exact absurd (fun c _ => rfl) hno
  have hmk : ∃ k : Nat, k < 3 ∧ nextIs s p1 (markAt k) = true := by
    apply Decidable.byContradiction
    intro hh
    apply hno
    intro c hc
    rw [hbf]
    cases hx : nextIs s p1 c with
    | false => rfl
    | true =>
      exfalso
      apply hh
      rcases hc with rfl | rfl | rfl
      · exact ⟨0, by omega, hx⟩
      · exact ⟨1, by omega, hx⟩
      · exact ⟨2, by omega, hx⟩
  subst hbf
  clear hno
  obtain ⟨hd1, hpp, HIT⟩ : d1 = d ∧ p < p1 ∧ Hid (rdItem (rd n) ((txt s).drop p) = some (rdMark t ((txt s).drop p1))) := by
    rcases hcs.out with ⟨hb, _⟩ | ⟨_, a, b, c⟩
    · cases hb
    · exact ⟨a, b, c⟩
  obtain ⟨k, hk, hyes⟩ := hmk
  by_cases hk0 : k = 0
  · subst hk0
    have hyes' : nextIs s p1 42 = true := hyes
    have hlt1 := nextIs_lt hyes'
    have HM := Hid.mk (mark_yes s p1 t 0 (by omega) hyes)
    have HE2 : Hid (rdItem (rd n) ((txt s).drop p) = some (rep 6 t, (txt s).drop (p1 + 1))) := by show _ = _; rw [HIT.out, HM.out]; rfl
    have HY0 : Hid ((!false && nextIs s p1 42) = true) := by show _ = _; rw [hyes']; rfl
    clear HM HIT hyes hyes'
    go_wp2_with fail
    refine (l3Is_any s R p1 false d1 42 _ HS1.out hp2 hs true HY0.out).mono ?_
    rintro e w2 ⟨rfl, hg, hr, hz⟩
    have HB2 := Hid.mk (HB1.out.gb hg hne)
    have HG2 := Hid.mk (gb_trans HG1.out hg)
    have HX2 := Hid.mk (HX1.out.gb hg hxne)
    have HO2 := Hid.mk (HO1.out.gb hg (by unfold newFrom; omega))
    have HS2 : Hid (Sds w2 R s (p1 + 1) false d1) := hr
    have hz2 : w.heap.size + 1 ≤ w2.heap.size := by have := HX2.out.lt; omega
    clear hg hr hz HB1 HG1 HS1 HX1 HO1
    have x0 := HX2.out.c0
    have x1 := HX2.out.c1
    have x2 := HX2.out.c2
    have hbw3 : Below w2.heap.size w2 (w2.alloc (.cells #[.int .i64 tk, .string ts, .slice au t.l.length cu] 187)) := (Below.refl _ _).alloc (Nat.le_refl _) _
    have HO9 : Hid (Ow (w2.alloc (.cells #[.int .i64 tk, .string ts, .slice au t.l.length cu] 187)) (newFrom (w.heap.size + 1)) [t] (.slice (some ⟨w2.heap.size, 0, none⟩) 1 1)) := by
      have := Ow.one (t := t) HO2.out HSZ.out (C := newFrom (w.heap.size + 1)) (fun b hb _ => hb) (by unfold newFrom; omega)
      rw [htk, hts] at this
      exact this
    have HB9 := Hid.mk (HB2.out.kept (hbw3.block _ HB2.out.lt))
    have HG9 := Hid.mk (gb_below HG2.out hbw3)
    have HS9 := Hid.mk (HS2.out.grow hbw3)
    clear HB2 HG2 HS2 HO2
    have c0 := HB9.out.c0
    have c1 := HB9.out.c1
    have c2 := HB9.out.c2
    have f0 := HB9.out.fr
    go_wp2
    have hput := HB9.out.put (.int .i64 6) (.string ⟨#[]⟩) (.slice (some ⟨w2.heap.size, 0, none⟩) 1 1)
    have hgp := gb_set3 HG9.out (Nat.le_refl _) (.int .i64 6) (.string ⟨#[]⟩) (.slice (some ⟨w2.heap.size, 0, none⟩) 1 1)
    have hrp := HS9.out.set3 (Ne.symm hne) (.int .i64 6) (.string ⟨#[]⟩) (.slice (some ⟨w2.heap.size, 0, none⟩) 1 1)
    have hop := HO9.out.set3 (b := w.heap.size) (by unfold newFrom; omega) (.int .i64 6) (.string ⟨#[]⟩) (.slice (some ⟨w2.heap.size, 0, none⟩) 1 1)
    unfold set3 at hput hgp hrp hop
    generalize (((w2.alloc (.cells #[.int .i64 tk, .string ts, .slice au t.l.length cu] 187)).setCell ⟨w.heap.size, 0, none⟩ (.int .i64 6)).setCell ⟨w.heap.size, 1, none⟩ (.string ⟨#[]⟩)).setCell ⟨w.heap.size, 2, none⟩ (.slice (some ⟨w2.heap.size, 0, none⟩) 1 1) = W at hput hgp hrp hop ⊢
    have r0 := hput.c0
    have r1 := hput.c1
    have r2 := hput.c2
    refine bodyPost_ret (v := .agg #[.int .i64 6, .string ⟨#[]⟩, .slice (some ⟨w2.heap.size, 0, none⟩) 1 1]) ?_ rfl ⟨hgp, rep 6 t, _, p1 + 1, rfl, (by show (⟨#[]⟩ : ByteArray).size ≤ maxLen; decide), hop.mono (fun b hb => by unfold newFrom at *; omega), by omega, by omega, Or.inr ⟨HE2.out, by omega, by rw [hd1] at hrp; exact hrp⟩⟩
    simp [results, Tryz.results132, go_sem, r0, r1, r2]
  by_cases hk1 : k = 1
  · subst hk1
    have hyes' : nextIs s p1 43 = true := hyes
    have hlt1 := nextIs_lt hyes'
    have HM := Hid.mk (mark_yes s p1 t 1 (by omega) hyes)
    have HE2 : Hid (rdItem (rd n) ((txt s).drop p) = some (rep 7 t, (txt s).drop (p1 + 1))) := by show _ = _; rw [HIT.out, HM.out]; rfl
    have HY0 : Hid ((!false && nextIs s p1 42) = false) := by show _ = _; rw [next_one s p1 43 42 (by omega) hyes']; rfl
    have HY1 : Hid ((!false && nextIs s p1 43) = true) := by show _ = _; rw [hyes']; rfl
    clear HM HIT hyes hyes'
    go_wp2_with fail
    refine (l3Is_any s R p1 false d1 42 _ HS1.out hp2 hs false HY0.out).mono ?_
    rintro e w2 ⟨rfl, hg, hr, hz⟩
    have HB2 := Hid.mk (HB1.out.gb hg hne)
    have HG2 := Hid.mk (gb_trans HG1.out hg)
    have HX2 := Hid.mk (HX1.out.gb hg hxne)
    have HO2 := Hid.mk (HO1.out.gb hg (by unfold newFrom; omega))
    have HS2 : Hid (Sds w2 R s p1 false d1) := hr
    have hz2 : w.heap.size + 1 ≤ w2.heap.size := by have := HX2.out.lt; omega
    clear hg hr hz HB1 HG1 HS1 HX1 HO1
    go_wp2_with fail
    refine (l3Is_any s R p1 false d1 43 _ HS2.out hp2 hs true HY1.out).mono ?_
    rintro e w3 ⟨rfl, hg, hr, hz⟩
    have HB3 := Hid.mk (HB2.out.gb hg hne)
    have HG3 := Hid.mk (gb_trans HG2.out hg)
    have HX3 := Hid.mk (HX2.out.gb hg hxne)
    have HO3 := Hid.mk (HO2.out.gb hg (by unfold newFrom; omega))
    have HS3 : Hid (Sds w3 R s (p1 + 1) false d1) := hr
    have hz3 : w.heap.size + 1 ≤ w3.heap.size := by have := HX3.out.lt; omega
    clear hg hr hz HB2 HG2 HS2 HX2 HO2
    have x0 := HX3.out.c0
    have x1 := HX3.out.c1
    have x2 := HX3.out.c2
    have hbw3 : Below w3.heap.size w3 (w3.alloc (.cells #[.int .i64 tk, .string ts, .slice au t.l.length cu] 187)) := (Below.refl _ _).alloc (Nat.le_refl _) _
    have HO9 : Hid (Ow (w3.alloc (.cells #[.int .i64 tk, .string ts, .slice au t.l.length cu] 187)) (newFrom (w.heap.size + 1)) [t] (.slice (some ⟨w3.heap.size, 0, none⟩) 1 1)) := by
      have := Ow.one (t := t) HO3.out HSZ.out (C := newFrom (w.heap.size + 1)) (fun b hb _ => hb) (by unfold newFrom; omega)
      rw [htk, hts] at this
      exact this
    have HB9 := Hid.mk (HB3.out.kept (hbw3.block _ HB3.out.lt))
    have HG9 := Hid.mk (gb_below HG3.out hbw3)
    have HS9 := Hid.mk (HS3.out.grow hbw3)
    clear HB3 HG3 HS3 HO3
    have c0 := HB9.out.c0
    have c1 := HB9.out.c1
    have c2 := HB9.out.c2
    have f0 := HB9.out.fr
    go_wp2
    have hput := HB9.out.put (.int .i64 7) (.string ⟨#[]⟩) (.slice (some ⟨w3.heap.size, 0, none⟩) 1 1)
    have hgp := gb_set3 HG9.out (Nat.le_refl _) (.int .i64 7) (.string ⟨#[]⟩) (.slice (some ⟨w3.heap.size, 0, none⟩) 1 1)
    have hrp := HS9.out.set3 (Ne.symm hne) (.int .i64 7) (.string ⟨#[]⟩) (.slice (some ⟨w3.heap.size, 0, none⟩) 1 1)
    have hop := HO9.out.set3 (b := w.heap.size) (by unfold newFrom; omega) (.int .i64 7) (.string ⟨#[]⟩) (.slice (some ⟨w3.heap.size, 0, none⟩) 1 1)
    unfold set3 at hput hgp hrp hop
    generalize (((w3.alloc (.cells #[.int .i64 tk, .string ts, .slice au t.l.length cu] 187)).setCell ⟨w.heap.size, 0, none⟩ (.int .i64 7)).setCell ⟨w.heap.size, 1, none⟩ (.string ⟨#[]⟩)).setCell ⟨w.heap.size, 2, none⟩ (.slice (some ⟨w3.heap.size, 0, none⟩) 1 1) = W at hput hgp hrp hop ⊢
    have r0 := hput.c0
    have r1 := hput.c1
    have r2 := hput.c2
    refine bodyPost_ret (v := .agg #[.int .i64 7, .string ⟨#[]⟩, .slice (some ⟨w3.heap.size, 0, none⟩) 1 1]) ?_ rfl ⟨hgp, rep 7 t, _, p1 + 1, rfl, (by show (⟨#[]⟩ : ByteArray).size ≤ maxLen; decide), hop.mono (fun b hb => by unfold newFrom at *; omega), by omega, by omega, Or.inr ⟨HE2.out, by omega, by rw [hd1] at hrp; exact hrp⟩⟩
    simp [results, Tryz.results132, go_sem, r0, r1, r2]
  by_cases hk2 : k = 2
  · subst hk2
    have hyes' : nextIs s p1 63 = true := hyes
    have hlt1 := nextIs_lt hyes'
    have HM := Hid.mk (mark_yes s p1 t 2 (by omega) hyes)
    have HE2 : Hid (rdItem (rd n) ((txt s).drop p) = some (rep 8 t, (txt s).drop (p1 + 1))) := by show _ = _; rw [HIT.out, HM.out]; rfl
    have HY0 : Hid ((!false && nextIs s p1 42) = false) := by show _ = _; rw [next_one s p1 63 42 (by omega) hyes']; rfl
    have HY1 : Hid ((!false && nextIs s p1 43) = false) := by show _ = _; rw [next_one s p1 63 43 (by omega) hyes']; rfl
    have HY2 : Hid ((!false && nextIs s p1 63) = true) := by show _ = _; rw [hyes']; rfl
    clear HM HIT hyes hyes'
    go_wp2_with fail
    refine (l3Is_any s R p1 false d1 42 _ HS1.out hp2 hs false HY0.out).mono ?_
    rintro e w2 ⟨rfl, hg, hr, hz⟩
    have HB2 := Hid.mk (HB1.out.gb hg hne)
    have HG2 := Hid.mk (gb_trans HG1.out hg)
    have HX2 := Hid.mk (HX1.out.gb hg hxne)
    have HO2 := Hid.mk (HO1.out.gb hg (by unfold newFrom; omega))
    have HS2 : Hid (Sds w2 R s p1 false d1) := hr
    have hz2 : w.heap.size + 1 ≤ w2.heap.size := by have := HX2.out.lt; omega
    clear hg hr hz HB1 HG1 HS1 HX1 HO1
    go_wp2_with fail
    refine (l3Is_any s R p1 false d1 43 _ HS2.out hp2 hs false HY1.out).mono ?_
    rintro e w3 ⟨rfl, hg, hr, hz⟩
    have HB3 := Hid.mk (HB2.out.gb hg hne)
    have HG3 := Hid.mk (gb_trans HG2.out hg)
    have HX3 := Hid.mk (HX2.out.gb hg hxne)
    have HO3 := Hid.mk (HO2.out.gb hg (by unfold newFrom; omega))
    have HS3 : Hid (Sds w3 R s p1 false d1) := hr
    have hz3 : w.heap.size + 1 ≤ w3.heap.size := by have := HX3.out.lt; omega
    clear hg hr hz HB2 HG2 HS2 HX2 HO2
    go_wp2_with fail
    refine (l3Is_any s R p1 false d1 63 _ HS3.out hp2 hs true HY2.out).mono ?_
    rintro e w4 ⟨rfl, hg, hr, hz⟩
    have HB4 := Hid.mk (HB3.out.gb hg hne)
    have HG4 := Hid.mk (gb_trans HG3.out hg)
    have HX4 := Hid.mk (HX3.out.gb hg hxne)
    have HO4 := Hid.mk (HO3.out.gb hg (by unfold newFrom; omega))
    have HS4 : Hid (Sds w4 R s (p1 + 1) false d1) := hr
    have hz4 : w.heap.size + 1 ≤ w4.heap.size := by have := HX4.out.lt; omega
    clear hg hr hz HB3 HG3 HS3 HX3 HO3
    have x0 := HX4.out.c0
    have x1 := HX4.out.c1
    have x2 := HX4.out.c2
    have hbw3 : Below w4.heap.size w4 (w4.alloc (.cells #[.int .i64 tk, .string ts, .slice au t.l.length cu] 187)) := (Below.refl _ _).alloc (Nat.le_refl _) _
    have HO9 : Hid (Ow (w4.alloc (.cells #[.int .i64 tk, .string ts, .slice au t.l.length cu] 187)) (newFrom (w.heap.size + 1)) [t] (.slice (some ⟨w4.heap.size, 0, none⟩) 1 1)) := by
      have := Ow.one (t := t) HO4.out HSZ.out (C := newFrom (w.heap.size + 1)) (fun b hb _ => hb) (by unfold newFrom; omega)
      rw [htk, hts] at this
      exact this
    have HB9 := Hid.mk (HB4.out.kept (hbw3.block _ HB4.out.lt))
    have HG9 := Hid.mk (gb_below HG4.out hbw3)
    have HS9 := Hid.mk (HS4.out.grow hbw3)
    clear HB4 HG4 HS4 HO4
    have c0 := HB9.out.c0
    have c1 := HB9.out.c1
    have c2 := HB9.out.c2
    have f0 := HB9.out.fr
    go_wp2
    have hput := HB9.out.put (.int .i64 8) (.string ⟨#[]⟩) (.slice (some ⟨w4.heap.size, 0, none⟩) 1 1)
    have hgp := gb_set3 HG9.out (Nat.le_refl _) (.int .i64 8) (.string ⟨#[]⟩) (.slice (some ⟨w4.heap.size, 0, none⟩) 1 1)
    have hrp := HS9.out.set3 (Ne.symm hne) (.int .i64 8) (.string ⟨#[]⟩) (.slice (some ⟨w4.heap.size, 0, none⟩) 1 1)
    have hop := HO9.out.set3 (b := w.heap.size) (by unfold newFrom; omega) (.int .i64 8) (.string ⟨#[]⟩) (.slice (some ⟨w4.heap.size, 0, none⟩) 1 1)
    unfold set3 at hput hgp hrp hop
    generalize (((w4.alloc (.cells #[.int .i64 tk, .string ts, .slice au t.l.length cu] 187)).setCell ⟨w.heap.size, 0, none⟩ (.int .i64 8)).setCell ⟨w.heap.size, 1, none⟩ (.string ⟨#[]⟩)).setCell ⟨w.heap.size, 2, none⟩ (.slice (some ⟨w4.heap.size, 0, none⟩) 1 1) = W at hput hgp hrp hop ⊢
    have r0 := hput.c0
    have r1 := hput.c1
    have r2 := hput.c2
    refine bodyPost_ret (v := .agg #[.int .i64 8, .string ⟨#[]⟩, .slice (some ⟨w4.heap.size, 0, none⟩) 1 1]) ?_ rfl ⟨hgp, rep 8 t, _, p1 + 1, rfl, (by show (⟨#[]⟩ : ByteArray).size ≤ maxLen; decide), hop.mono (fun b hb => by unfold newFrom at *; omega), by omega, by omega, Or.inr ⟨HE2.out, by omega, by rw [hd1] at hrp; exact hrp⟩⟩
    simp [results, Tryz.results132, go_sem, r0, r1, r2]
  omega
end Go.Proofs.YtgigalcajgjpnaaGreat

namespace Go.Proofs.YtgigalcajgjpnaaGreat
open Go.RowKit
set_option maxRecDepth 8000

theorem takeWhile_stop (p : Int → Bool) : ∀ (L : List Int) (m : Nat), m ≤ L.length → (∀ i (h : i < L.length), i < m → p L[i] = true) → (∀ (h : m < L.length), p L[m] = false) → L.takeWhile p = L.take m := by
  intro L
  induction L with
  | nil => intro m _ _ _; simp
  | cons c r ih =>
    intro m hm hall hstop
    cases m with
    | zero =>
      have := hstop (by simp)
      rw [List.takeWhile_cons_of_neg (by simpa using this)]; rfl
    | succ m =>
      have h0 := hall 0 (by simp) (by omega)
      rw [List.takeWhile_cons_of_pos (by simpa using h0), List.take_succ_cons, ih m (by simpa using hm) (fun i hi him => by have := hall (i + 1) (by simpa using hi) (by omega); simpa using this) (fun hh => by have := hstop (by simpa using hh); simpa using this)]

theorem set_found (s : ByteArray) (a q : Nat) (ha : a ≤ q) (hq : q ≤ s.size) (hall : ∀ j (h : j < s.size), a ≤ j → j < q → ((s[j].toNat : Nat) : Int) ≠ 93) (hstop : ∀ (h : q < s.size), ((s[q].toNat : Nat) : Int) = 93) :
    ((txt s).drop a).takeWhile ne93 = ((txt s).drop a).take (q - a) := by
  have hg : ∀ i (h : i < ((txt s).drop a).length) (h' : a + i < s.size), ((txt s).drop a)[i] = ((s[a + i].toNat : Nat) : Int) := by
    intro i h h'
    rw [List.getElem_drop]
    simp [txt]
    rfl
  apply takeWhile_stop
  · rw [List.length_drop, txt_length]; omega
  · intro i hi him
    have hl : a + i < s.size := by rw [List.length_drop, txt_length] at hi; omega
    rw [hg i hi hl]
    have := hall (a + i) hl (by omega) (by omega)
    simpa [ne93] using this
  · intro hh
    have hl : a + (q - a) < s.size := by rw [List.length_drop, txt_length] at hh; omega
    rw [hg _ hh hl]
    have e : a + (q - a) = q := by omega
    have := hstop (by omega)
    simp only [e, ne93]
    rw [this]; rfl

theorem run_byte (c : Int) (h0 : 0 ≤ c) (h1 : c ≤ 255) (w : World) :
    (convert 62 9 (.slice (some ⟨w.heap.size, 0, none⟩) 1 1)).run Tryz.prog (w.alloc (.cells #[.int .u8 c] 5)) = .ok (.string (strOf [c])) (w.alloc (.cells #[.int .u8 c] 5)) := run_strOf (Bs.one w c h0 h1) rfl

set_option maxHeartbeats 4000000 in
theorem atom_end (n : Nat) (d : Int) (hd : d ≤ 9) (s : ByteArray) (R p : Nat) (w : World) (h : Sds w R s p false d) (hp : p ≤ s.size) (he : s.size ≤ p) :
    Calls Tryz.prog 137 #[.pointer (some ⟨R, 0, none⟩)] w fun e w' => SpOk w w' R s p d e (rdAtom (rd n) ((txt s).drop p)) := by
  obtain ⟨h0, hne, hb0, hg0⟩ := pre_boxS h
  have HS0 := Hid.mk h0
  have HB0 := Hid.mk hb0
  have HG0 := Hid.mk hg0
  have hRl := h.lt
  have c0 := h0.c0
  have c1 := h0.c1
  have c2 := h0.c2
  have HE : Hid (rdAtom (rd n) ((txt s).drop p) = none) := by show _ = _; rw [txt_end he, rdAtom]
  clear h h0 hb0 hg0
  go_enter Tryz.func137, Tryz.ntmps137
  go_wp2_with fail
  refine wp_region_quiet_lit (by kernel_rfl) (by kernel_rfl) (Qt.out ?_)
  refine Qt.step (fun K hK => ?_)
  go_simp
  refine hK _ ?_
  clear hK K
  refine Qt.step (fun K hK => ?_)
  go_simp
  refine hK _ ?_
  clear hK K
  refine Qt.step (fun K hK => ?_)
  go_simp
  refine hK _ ?_
  clear hK K
  refine Qt.step (fun K hK => ?_)
  go_simp
  refine hK _ ?_
  clear hK K
  refine Qt.step (fun K hK => ?_)
  go_simp
  refine hK _ ?_
  clear hK K
  refine Qt.step (fun K hK => ?_)
  go_simp
  refine hK _ ?_
  clear hK K
  refine Qt.step (fun K hK => ?_)
  go_simp
  refine hK _ ?_
  clear hK K
  refine Qt.step (fun K hK => ?_)
  go_simp
  refine hK _ ?_
  clear hK K
  refine Qt.step (fun K hK => ?_)
  go_simp
  refine hK _ ?_
  clear hK K
  refine Qt.step (fun K hK => ?_)
  go_simp
  refine hK _ ?_
  clear hK K
  refine Qt.step (fun K hK => ?_)
  go_simp
  refine hK _ ?_
  clear hK K
  refine Qt.step (fun K hK => ?_)
  go_simp
  refine hK _ ?_
  clear hK K
  refine Qt.step (fun K hK => ?_)
  go_simp
  refine hK _ ?_
  clear hK K
  refine Qt.step (fun K hK => ?_)
  go_simp
  refine hK _ ?_
  clear hK K
  refine Qt.step (fun K hK => ?_)
  go_simp
  refine hK _ ?_
  clear hK K
  refine Qt.step (fun K hK => ?_)
  go_simp
  refine hK _ ?_
  clear hK K
  refine Qt.nil ?_
  intro _ hw'
  obtain ⟨nq, hw''⟩ := hw'
  subst hw''
  have HS1 := Hid.mk (HS0.out.drew nq)
  have HB1 := Hid.mk (HB0.out.gb (gb_drew _ R nq) hne)
  have HG1 := Hid.mk (gb_trans HG0.out (gb_drew _ R nq))
  have HBad := Hid.mk (l3Bad_any s R p false d _ HS1.out)
  clear HS0 HB0 HG0 c0 c1 c2
  go_wp2_with fail
  refine HBad.out.mono ?_
  rintro e w7 ⟨rfl, hg7, hr7, hz7⟩
  have HB7 := Hid.mk (HB1.out.gb hg7 hne)
  have HG7 := Hid.mk (gb_trans HG1.out hg7)
  have HS7 := Hid.mk hr7
  clear HBad hg7 hr7 HB1 HG1 HS1
  have c0 := HB7.out.c0
  have c1 := HB7.out.c1
  have c2 := HB7.out.c2
  have f0 := HB7.out.fr
  go_wp2
  have hput := HB7.out.put (.int .i64 0) (.string ⟨#[]⟩) (.slice none 0 0)
  have hgp := gb_set3 HG7.out (Nat.le_refl _) (.int .i64 0) (.string ⟨#[]⟩) (.slice none 0 0)
  have hrp := HS7.out.set3 (Ne.symm hne) (.int .i64 0) (.string ⟨#[]⟩) (.slice none 0 0)
  unfold set3 at hput hgp hrp
  generalize ((w7.setCell ⟨w.heap.size, 0, none⟩ (.int .i64 0)).setCell ⟨w.heap.size, 1, none⟩ (.string ⟨#[]⟩)).setCell ⟨w.heap.size, 2, none⟩ (.slice none 0 0) = W at hput hgp hrp ⊢
  have r0 := hput.c0
  have r1 := hput.c1
  have r2 := hput.c2
  refine bodyPost_ret (v := .agg #[.int .i64 0, .string ⟨#[]⟩, .slice none 0 0]) ?_ rfl ⟨hgp, leaf 0, _, p, rfl, (ow_leaf w anyBlock 0).1, Ow.none _, by omega, by omega, Or.inl ⟨HE.out, d, hrp, by omega, by omega⟩⟩
  simp [results, Tryz.results137, go_sem, r0, r1, r2]

set_option maxHeartbeats 8000000 in
theorem atom_leafs (n : Nat) (d : Int) (s : ByteArray) (R p : Nat) (w : World) (h : Sds w R s p false d) (hlt : p < s.size) (hs : s.size ≤ 1048576) (c : Int) (hc : ((s[p].toNat : Nat) : Int) = c) (hc3 : c = 46 ∨ c = 94 ∨ c = 36) :
    Calls Tryz.prog 137 #[.pointer (some ⟨R, 0, none⟩)] w fun e w' => SpOk w w' R s p d e (rdAtom (rd n) ((txt s).drop p)) := by
  have HAT : Hid (rdAtom (rd n) ((txt s).drop p) = rdAtom (rd n) (c :: (txt s).drop (p + 1))) := by show _ = _; rw [txt_head hlt, hc]
  rcases hc3 with h46 | h94 | h36
  · have HE : Hid (rdAtom (rd n) ((txt s).drop p) = some (leaf 2, (txt s).drop (p + 1))) := by show _ = _; rw [HAT.out, rdAtom, if_pos h46]
    rw [h46] at hc
    clear HAT
    obtain ⟨h0, hne, hb0, hg0⟩ := pre_boxS h
    have HS0 := Hid.mk h0
    have HB0 := Hid.mk hb0
    have HG0 := Hid.mk hg0
    have hRl := h.lt
    have c0 := h0.c0
    have c1 := h0.c1
    have c2 := h0.c2
    have hb : ¬ s.size ≤ p := by omega
    have hpi : (p : Int) < (s.size : Int) := by omega
    clear h h0 hb0 hg0
    go_enter Tryz.func137, Tryz.ntmps137
    go_wp2_with fail
    refine wp_region_quiet_lit (by kernel_rfl) (by kernel_rfl) (Qt.out ?_)
    refine Qt.step (fun K hK => ?_)
    go_simp
    refine hK _ ?_
    clear hK K
    refine Qt.step (fun K hK => ?_)
    go_simp
    refine hK _ ?_
    clear hK K
    refine Qt.step (fun K hK => ?_)
    go_simp
    refine hK _ ?_
    clear hK K
    refine Qt.step (fun K hK => ?_)
    go_simp
    refine hK _ ?_
    clear hK K
    refine Qt.step (fun K hK => ?_)
    go_simp
    refine hK _ ?_
    clear hK K
    refine Qt.step (fun K hK => ?_)
    go_simp
    refine hK _ ?_
    clear hK K
    refine Qt.step (fun K hK => ?_)
    go_simp
    refine hK _ ?_
    clear hK K
    refine Qt.step (fun K hK => ?_)
    go_simp
    refine hK _ ?_
    clear hK K
    refine Qt.step (fun K hK => ?_)
    go_simp
    refine hK _ ?_
    clear hK K
    refine Qt.step (fun K hK => ?_)
    go_simp
    refine hK _ ?_
    clear hK K
    refine Qt.step (fun K hK => ?_)
    go_simp
    refine hK _ ?_
    clear hK K
    refine Qt.step (fun K hK => ?_)
    go_simp
    refine hK _ ?_
    clear hK K
    refine Qt.step (fun K hK => ?_)
    go_simp
    refine hK _ ?_
    clear hK K
    refine Qt.step (fun K hK => ?_)
    go_simp
    refine hK _ ?_
    clear hK K
    refine Qt.step (fun K hK => ?_)
    go_simp
    refine hK _ ?_
    clear hK K
    refine Qt.step (fun K hK => ?_)
    go_simp
    refine hK _ ?_
    clear hK K
    refine Qt.nil ?_
    intro _ hw'
    obtain ⟨nq1, hw''⟩ := hw'
    subst hw''
    go_wp2_with fail
    refine wp_region_quiet_lit (by kernel_rfl) (by kernel_rfl) (Qt.out ?_)
    refine Qt.step (fun K hK => ?_)
    go_simp
    refine hK _ ?_
    clear hK K
    refine Qt.step (fun K hK => ?_)
    go_simp
    refine hK _ ?_
    clear hK K
    refine Qt.step (fun K hK => ?_)
    go_simp
    refine hK _ ?_
    clear hK K
    refine Qt.step (fun K hK => ?_)
    go_simp
    refine hK _ ?_
    clear hK K
    refine Qt.step (fun K hK => ?_)
    go_simp
    refine hK _ ?_
    clear hK K
    refine Qt.step (fun K hK => ?_)
    go_simp
    refine hK _ ?_
    clear hK K
    refine Qt.step (fun K hK => ?_)
    go_simp
    refine hK _ ?_
    clear hK K
    refine Qt.step (fun K hK => ?_)
    go_simp
    refine hK _ ?_
    clear hK K
    refine Qt.step (fun K hK => ?_)
    go_simp
    refine hK _ ?_
    clear hK K
    refine Qt.step (fun K hK => ?_)
    go_simp
    refine hK _ ?_
    clear hK K
    refine Qt.nil ?_
    intro _ hw'
    obtain ⟨nq2, hw''⟩ := hw'
    subst hw''
    have HS3 := (HS0.out.drew nq1).drew nq2
    have HB3 := (HB0.out.gb (gb_drew _ R nq1) hne).gb (gb_drew _ R nq2) hne
    have HG3 := gb_trans (gb_trans HG0.out (gb_drew _ R nq1)) (gb_drew _ R nq2)
    have hz3 : (((w.alloc (.cells #[.int .i64 0, .string ⟨#[]⟩, .slice none 0 0] 187)).drewN nq1).drewN nq2).heap.size = w.heap.size + 1 := by simp
    generalize (((w.alloc (.cells #[.int .i64 0, .string ⟨#[]⟩, .slice none 0 0] 187)).drewN nq1).drewN nq2) = W3 at HS3 HB3 HG3 hz3 ⊢
    have HS4 : Hid (Sds (W3.setCell ⟨R, 1, none⟩ (.int .i64 ((p : Int) + 1))) R s (p + 1) false d) := by
      have := HS3.put1 (p + 1)
      rwa [show ((p + 1 : Nat) : Int) = (p : Int) + 1 by omega] at this
    have HB4 := Hid.mk (HB3.kept (w' := (W3.setCell ⟨R, 1, none⟩ (.int .i64 ((p : Int) + 1)))) (heap_setCell_other _ _ _ _ hne))
    have HG4 := Hid.mk (gb_put HG3 1 (.int .i64 ((p : Int) + 1)))
    have hz4 : (W3.setCell ⟨R, 1, none⟩ (.int .i64 ((p : Int) + 1))).heap.size = w.heap.size + 1 := by simp [hz3]
    clear HS0 HB0 HG0 c0 c1 c2
    have e1 := HS3.c1
    have e2 := HS3.fr 1
    have c0 := HB3.c0
    have c1 := HB3.c1
    have c2 := HB3.c2
    have f0 := HB3.fr
    have HS3' := Hid.mk HS3
    clear HS3 HB3 HG3
    go_wp2
    have hput := HB4.out.put (.int .i64 2) (.string ⟨#[]⟩) (.slice none 0 0)
    have hgp := gb_set3 HG4.out (Nat.le_refl _) (.int .i64 2) (.string ⟨#[]⟩) (.slice none 0 0)
    have hrp := HS4.out.set3 (Ne.symm hne) (.int .i64 2) (.string ⟨#[]⟩) (.slice none 0 0)
    unfold set3 at hput hgp hrp
    generalize (((W3.setCell ⟨R, 1, none⟩ (.int .i64 ((p : Int) + 1))).setCell ⟨w.heap.size, 0, none⟩ (.int .i64 2)).setCell ⟨w.heap.size, 1, none⟩ (.string ⟨#[]⟩)).setCell ⟨w.heap.size, 2, none⟩ (.slice none 0 0) = W at hput hgp hrp ⊢
    have r0 := hput.c0
    have r1 := hput.c1
    have r2 := hput.c2
    refine bodyPost_ret (v := .agg #[.int .i64 2, .string ⟨#[]⟩, .slice none 0 0]) ?_ rfl ⟨hgp, leaf 2, _, p + 1, rfl, (ow_leaf w anyBlock 2).1, Ow.none _, by omega, by omega, Or.inr ⟨HE.out, by omega, hrp⟩⟩
    simp [results, Tryz.results137, go_sem, r0, r1, r2]
  · have HE : Hid (rdAtom (rd n) ((txt s).drop p) = some (leaf 10, (txt s).drop (p + 1))) := by show _ = _; rw [HAT.out, rdAtom, if_neg (by omega), if_pos h94]
    rw [h94] at hc
    clear HAT
    obtain ⟨h0, hne, hb0, hg0⟩ := pre_boxS h
    have HS0 := Hid.mk h0
    have HB0 := Hid.mk hb0
    have HG0 := Hid.mk hg0
    have hRl := h.lt
    have c0 := h0.c0
    have c1 := h0.c1
    have c2 := h0.c2
    have hb : ¬ s.size ≤ p := by omega
    have hpi : (p : Int) < (s.size : Int) := by omega
    clear h h0 hb0 hg0
    go_enter Tryz.func137, Tryz.ntmps137
    go_wp2_with fail
    refine wp_region_quiet_lit (by kernel_rfl) (by kernel_rfl) (Qt.out ?_)
    refine Qt.step (fun K hK => ?_)
    go_simp
    refine hK _ ?_
    clear hK K
    refine Qt.step (fun K hK => ?_)
    go_simp
    refine hK _ ?_
    clear hK K
    refine Qt.step (fun K hK => ?_)
    go_simp
    refine hK _ ?_
    clear hK K
    refine Qt.step (fun K hK => ?_)
    go_simp
    refine hK _ ?_
    clear hK K
    refine Qt.step (fun K hK => ?_)
    go_simp
    refine hK _ ?_
    clear hK K
    refine Qt.step (fun K hK => ?_)
    go_simp
    refine hK _ ?_
    clear hK K
    refine Qt.step (fun K hK => ?_)
    go_simp
    refine hK _ ?_
    clear hK K
    refine Qt.step (fun K hK => ?_)
    go_simp
    refine hK _ ?_
    clear hK K
    refine Qt.step (fun K hK => ?_)
    go_simp
    refine hK _ ?_
    clear hK K
    refine Qt.step (fun K hK => ?_)
    go_simp
    refine hK _ ?_
    clear hK K
    refine Qt.step (fun K hK => ?_)
    go_simp
    refine hK _ ?_
    clear hK K
    refine Qt.step (fun K hK => ?_)
    go_simp
    refine hK _ ?_
    clear hK K
    refine Qt.step (fun K hK => ?_)
    go_simp
    refine hK _ ?_
    clear hK K
    refine Qt.step (fun K hK => ?_)
    go_simp
    refine hK _ ?_
    clear hK K
    refine Qt.step (fun K hK => ?_)
    go_simp
    refine hK _ ?_
    clear hK K
    refine Qt.step (fun K hK => ?_)
    go_simp
    refine hK _ ?_
    clear hK K
    refine Qt.nil ?_
    intro _ hw'
    obtain ⟨nq1, hw''⟩ := hw'
    subst hw''
    go_wp2_with fail
    refine wp_region_quiet_lit (by kernel_rfl) (by kernel_rfl) (Qt.out ?_)
    refine Qt.step (fun K hK => ?_)
    go_simp
    refine hK _ ?_
    clear hK K
    refine Qt.step (fun K hK => ?_)
    go_simp
    refine hK _ ?_
    clear hK K
    refine Qt.step (fun K hK => ?_)
    go_simp
    refine hK _ ?_
    clear hK K
    refine Qt.step (fun K hK => ?_)
    go_simp
    refine hK _ ?_
    clear hK K
    refine Qt.step (fun K hK => ?_)
    go_simp
    refine hK _ ?_
    clear hK K
    refine Qt.step (fun K hK => ?_)
    go_simp
    refine hK _ ?_
    clear hK K
    refine Qt.step (fun K hK => ?_)
    go_simp
    refine hK _ ?_
    clear hK K
    refine Qt.step (fun K hK => ?_)
    go_simp
    refine hK _ ?_
    clear hK K
    refine Qt.step (fun K hK => ?_)
    go_simp
    refine hK _ ?_
    clear hK K
    refine Qt.step (fun K hK => ?_)
    go_simp
    refine hK _ ?_
    clear hK K
    refine Qt.nil ?_
    intro _ hw'
    obtain ⟨nq2, hw''⟩ := hw'
    subst hw''
    have HS3 := (HS0.out.drew nq1).drew nq2
    have HB3 := (HB0.out.gb (gb_drew _ R nq1) hne).gb (gb_drew _ R nq2) hne
    have HG3 := gb_trans (gb_trans HG0.out (gb_drew _ R nq1)) (gb_drew _ R nq2)
    have hz3 : (((w.alloc (.cells #[.int .i64 0, .string ⟨#[]⟩, .slice none 0 0] 187)).drewN nq1).drewN nq2).heap.size = w.heap.size + 1 := by simp
    generalize (((w.alloc (.cells #[.int .i64 0, .string ⟨#[]⟩, .slice none 0 0] 187)).drewN nq1).drewN nq2) = W3 at HS3 HB3 HG3 hz3 ⊢
    have HS4 : Hid (Sds (W3.setCell ⟨R, 1, none⟩ (.int .i64 ((p : Int) + 1))) R s (p + 1) false d) := by
      have := HS3.put1 (p + 1)
      rwa [show ((p + 1 : Nat) : Int) = (p : Int) + 1 by omega] at this
    have HB4 := Hid.mk (HB3.kept (w' := (W3.setCell ⟨R, 1, none⟩ (.int .i64 ((p : Int) + 1)))) (heap_setCell_other _ _ _ _ hne))
    have HG4 := Hid.mk (gb_put HG3 1 (.int .i64 ((p : Int) + 1)))
    have hz4 : (W3.setCell ⟨R, 1, none⟩ (.int .i64 ((p : Int) + 1))).heap.size = w.heap.size + 1 := by simp [hz3]
    clear HS0 HB0 HG0 c0 c1 c2
    have e1 := HS3.c1
    have e2 := HS3.fr 1
    have c0 := HB3.c0
    have c1 := HB3.c1
    have c2 := HB3.c2
    have f0 := HB3.fr
    have HS3' := Hid.mk HS3
    clear HS3 HB3 HG3
    go_wp2
    have hput := HB4.out.put (.int .i64 10) (.string ⟨#[]⟩) (.slice none 0 0)
    have hgp := gb_set3 HG4.out (Nat.le_refl _) (.int .i64 10) (.string ⟨#[]⟩) (.slice none 0 0)
    have hrp := HS4.out.set3 (Ne.symm hne) (.int .i64 10) (.string ⟨#[]⟩) (.slice none 0 0)
    unfold set3 at hput hgp hrp
    generalize (((W3.setCell ⟨R, 1, none⟩ (.int .i64 ((p : Int) + 1))).setCell ⟨w.heap.size, 0, none⟩ (.int .i64 10)).setCell ⟨w.heap.size, 1, none⟩ (.string ⟨#[]⟩)).setCell ⟨w.heap.size, 2, none⟩ (.slice none 0 0) = W at hput hgp hrp ⊢
    have r0 := hput.c0
    have r1 := hput.c1
    have r2 := hput.c2
    refine bodyPost_ret (v := .agg #[.int .i64 10, .string ⟨#[]⟩, .slice none 0 0]) ?_ rfl ⟨hgp, leaf 10, _, p + 1, rfl, (ow_leaf w anyBlock 10).1, Ow.none _, by omega, by omega, Or.inr ⟨HE.out, by omega, hrp⟩⟩
    simp [results, Tryz.results137, go_sem, r0, r1, r2]
  · have HE : Hid (rdAtom (rd n) ((txt s).drop p) = some (leaf 11, (txt s).drop (p + 1))) := by show _ = _; rw [HAT.out, rdAtom, if_neg (by omega), if_neg (by omega), if_pos h36]
    rw [h36] at hc
    clear HAT
    obtain ⟨h0, hne, hb0, hg0⟩ := pre_boxS h
    have HS0 := Hid.mk h0
    have HB0 := Hid.mk hb0
    have HG0 := Hid.mk hg0
    have hRl := h.lt
    have c0 := h0.c0
    have c1 := h0.c1
    have c2 := h0.c2
    have hb : ¬ s.size ≤ p := by omega
    have hpi : (p : Int) < (s.size : Int) := by omega
    clear h h0 hb0 hg0
    go_enter Tryz.func137, Tryz.ntmps137
    go_wp2_with fail
    refine wp_region_quiet_lit (by kernel_rfl) (by kernel_rfl) (Qt.out ?_)
    refine Qt.step (fun K hK => ?_)
    go_simp
    refine hK _ ?_
    clear hK K
    refine Qt.step (fun K hK => ?_)
    go_simp
    refine hK _ ?_
    clear hK K
    refine Qt.step (fun K hK => ?_)
    go_simp
    refine hK _ ?_
    clear hK K
    refine Qt.step (fun K hK => ?_)
    go_simp
    refine hK _ ?_
    clear hK K
    refine Qt.step (fun K hK => ?_)
    go_simp
    refine hK _ ?_
    clear hK K
    refine Qt.step (fun K hK => ?_)
    go_simp
    refine hK _ ?_
    clear hK K
    refine Qt.step (fun K hK => ?_)
    go_simp
    refine hK _ ?_
    clear hK K
    refine Qt.step (fun K hK => ?_)
    go_simp
    refine hK _ ?_
    clear hK K
    refine Qt.step (fun K hK => ?_)
    go_simp
    refine hK _ ?_
    clear hK K
    refine Qt.step (fun K hK => ?_)
    go_simp
    refine hK _ ?_
    clear hK K
    refine Qt.step (fun K hK => ?_)
    go_simp
    refine hK _ ?_
    clear hK K
    refine Qt.step (fun K hK => ?_)
    go_simp
    refine hK _ ?_
    clear hK K
    refine Qt.step (fun K hK => ?_)
    go_simp
    refine hK _ ?_
    clear hK K
    refine Qt.step (fun K hK => ?_)
    go_simp
    refine hK _ ?_
    clear hK K
    refine Qt.step (fun K hK => ?_)
    go_simp
    refine hK _ ?_
    clear hK K
    refine Qt.step (fun K hK => ?_)
    go_simp
    refine hK _ ?_
    clear hK K
    refine Qt.nil ?_
    intro _ hw'
    obtain ⟨nq1, hw''⟩ := hw'
    subst hw''
    go_wp2_with fail
    refine wp_region_quiet_lit (by kernel_rfl) (by kernel_rfl) (Qt.out ?_)
    refine Qt.step (fun K hK => ?_)
    go_simp
    refine hK _ ?_
    clear hK K
    refine Qt.step (fun K hK => ?_)
    go_simp
    refine hK _ ?_
    clear hK K
    refine Qt.step (fun K hK => ?_)
    go_simp
    refine hK _ ?_
    clear hK K
    refine Qt.step (fun K hK => ?_)
    go_simp
    refine hK _ ?_
    clear hK K
    refine Qt.step (fun K hK => ?_)
    go_simp
    refine hK _ ?_
    clear hK K
    refine Qt.step (fun K hK => ?_)
    go_simp
    refine hK _ ?_
    clear hK K
    refine Qt.step (fun K hK => ?_)
    go_simp
    refine hK _ ?_
    clear hK K
    refine Qt.step (fun K hK => ?_)
    go_simp
    refine hK _ ?_
    clear hK K
    refine Qt.step (fun K hK => ?_)
    go_simp
    refine hK _ ?_
    clear hK K
    refine Qt.step (fun K hK => ?_)
    go_simp
    refine hK _ ?_
    clear hK K
    refine Qt.nil ?_
    intro _ hw'
    obtain ⟨nq2, hw''⟩ := hw'
    subst hw''
    have HS3 := (HS0.out.drew nq1).drew nq2
    have HB3 := (HB0.out.gb (gb_drew _ R nq1) hne).gb (gb_drew _ R nq2) hne
    have HG3 := gb_trans (gb_trans HG0.out (gb_drew _ R nq1)) (gb_drew _ R nq2)
    have hz3 : (((w.alloc (.cells #[.int .i64 0, .string ⟨#[]⟩, .slice none 0 0] 187)).drewN nq1).drewN nq2).heap.size = w.heap.size + 1 := by simp
    generalize (((w.alloc (.cells #[.int .i64 0, .string ⟨#[]⟩, .slice none 0 0] 187)).drewN nq1).drewN nq2) = W3 at HS3 HB3 HG3 hz3 ⊢
    have HS4 : Hid (Sds (W3.setCell ⟨R, 1, none⟩ (.int .i64 ((p : Int) + 1))) R s (p + 1) false d) := by
      have := HS3.put1 (p + 1)
      rwa [show ((p + 1 : Nat) : Int) = (p : Int) + 1 by omega] at this
    have HB4 := Hid.mk (HB3.kept (w' := (W3.setCell ⟨R, 1, none⟩ (.int .i64 ((p : Int) + 1)))) (heap_setCell_other _ _ _ _ hne))
    have HG4 := Hid.mk (gb_put HG3 1 (.int .i64 ((p : Int) + 1)))
    have hz4 : (W3.setCell ⟨R, 1, none⟩ (.int .i64 ((p : Int) + 1))).heap.size = w.heap.size + 1 := by simp [hz3]
    clear HS0 HB0 HG0 c0 c1 c2
    have e1 := HS3.c1
    have e2 := HS3.fr 1
    have c0 := HB3.c0
    have c1 := HB3.c1
    have c2 := HB3.c2
    have f0 := HB3.fr
    have HS3' := Hid.mk HS3
    clear HS3 HB3 HG3
    go_wp2
    have hput := HB4.out.put (.int .i64 11) (.string ⟨#[]⟩) (.slice none 0 0)
    have hgp := gb_set3 HG4.out (Nat.le_refl _) (.int .i64 11) (.string ⟨#[]⟩) (.slice none 0 0)
    have hrp := HS4.out.set3 (Ne.symm hne) (.int .i64 11) (.string ⟨#[]⟩) (.slice none 0 0)
    unfold set3 at hput hgp hrp
    generalize (((W3.setCell ⟨R, 1, none⟩ (.int .i64 ((p : Int) + 1))).setCell ⟨w.heap.size, 0, none⟩ (.int .i64 11)).setCell ⟨w.heap.size, 1, none⟩ (.string ⟨#[]⟩)).setCell ⟨w.heap.size, 2, none⟩ (.slice none 0 0) = W at hput hgp hrp ⊢
    have r0 := hput.c0
    have r1 := hput.c1
    have r2 := hput.c2
    refine bodyPost_ret (v := .agg #[.int .i64 11, .string ⟨#[]⟩, .slice none 0 0]) ?_ rfl ⟨hgp, leaf 11, _, p + 1, rfl, (ow_leaf w anyBlock 11).1, Ow.none _, by omega, by omega, Or.inr ⟨HE.out, by omega, hrp⟩⟩
    simp [results, Tryz.results137, go_sem, r0, r1, r2]

set_option maxHeartbeats 8000000 in
theorem atom_group (n : Nat) (d : Int) (_hd : d ≤ 9) (s : ByteArray) (R p : Nat) (w : World) (h : Sds w R s p false d) (hlt : p < s.size) (hs : s.size ≤ 1048576) (c : Int) (hc : ((s[p].toNat : Nat) : Int) = c) (h40 : c = 40) (hcg : SpC 142 (rdGroup (rd n)) d) :
    Calls Tryz.prog 137 #[.pointer (some ⟨R, 0, none⟩)] w fun e w' => SpOk w w' R s p d e (rdAtom (rd n) ((txt s).drop p)) := by
  have HE : Hid (rdAtom (rd n) ((txt s).drop p) = rdGroup (rd n) ((txt s).drop (p + 1))) := by show _ = _; rw [txt_head hlt, hc, rdAtom, if_neg (by omega), if_neg (by omega), if_neg (by omega), if_neg (by omega), if_pos h40]
  have HC := Hid.mk hcg
  rw [h40] at hc
  clear hcg
  obtain ⟨h0, hne, hb0, hg0⟩ := pre_boxS h
  have HS0 := Hid.mk h0
  have HB0 := Hid.mk hb0
  have HG0 := Hid.mk hg0
  have hRl := h.lt
  have c0 := h0.c0
  have c1 := h0.c1
  have c2 := h0.c2
  have hb : ¬ s.size ≤ p := by omega
  have hpi : (p : Int) < (s.size : Int) := by omega
  clear h h0 hb0 hg0
  go_enter Tryz.func137, Tryz.ntmps137
  go_wp2_with fail
  refine wp_region_quiet_lit (by kernel_rfl) (by kernel_rfl) (Qt.out ?_)
  refine Qt.step (fun K hK => ?_)
  go_simp
  refine hK _ ?_
  clear hK K
  refine Qt.step (fun K hK => ?_)
  go_simp
  refine hK _ ?_
  clear hK K
  refine Qt.step (fun K hK => ?_)
  go_simp
  refine hK _ ?_
  clear hK K
  refine Qt.step (fun K hK => ?_)
  go_simp
  refine hK _ ?_
  clear hK K
  refine Qt.step (fun K hK => ?_)
  go_simp
  refine hK _ ?_
  clear hK K
  refine Qt.step (fun K hK => ?_)
  go_simp
  refine hK _ ?_
  clear hK K
  refine Qt.step (fun K hK => ?_)
  go_simp
  refine hK _ ?_
  clear hK K
  refine Qt.step (fun K hK => ?_)
  go_simp
  refine hK _ ?_
  clear hK K
  refine Qt.step (fun K hK => ?_)
  go_simp
  refine hK _ ?_
  clear hK K
  refine Qt.step (fun K hK => ?_)
  go_simp
  refine hK _ ?_
  clear hK K
  refine Qt.step (fun K hK => ?_)
  go_simp
  refine hK _ ?_
  clear hK K
  refine Qt.step (fun K hK => ?_)
  go_simp
  refine hK _ ?_
  clear hK K
  refine Qt.step (fun K hK => ?_)
  go_simp
  refine hK _ ?_
  clear hK K
  refine Qt.step (fun K hK => ?_)
  go_simp
  refine hK _ ?_
  clear hK K
  refine Qt.step (fun K hK => ?_)
  go_simp
  refine hK _ ?_
  clear hK K
  refine Qt.step (fun K hK => ?_)
  go_simp
  refine hK _ ?_
  clear hK K
  refine Qt.nil ?_
  intro _ hw'
  obtain ⟨nq1, hw''⟩ := hw'
  subst hw''
  go_wp2_with fail
  refine wp_region_quiet_lit (by kernel_rfl) (by kernel_rfl) (Qt.out ?_)
  refine Qt.step (fun K hK => ?_)
  go_simp
  refine hK _ ?_
  clear hK K
  refine Qt.step (fun K hK => ?_)
  go_simp
  refine hK _ ?_
  clear hK K
  refine Qt.step (fun K hK => ?_)
  go_simp
  refine hK _ ?_
  clear hK K
  refine Qt.step (fun K hK => ?_)
  go_simp
  refine hK _ ?_
  clear hK K
  refine Qt.step (fun K hK => ?_)
  go_simp
  refine hK _ ?_
  clear hK K
  refine Qt.step (fun K hK => ?_)
  go_simp
  refine hK _ ?_
  clear hK K
  refine Qt.step (fun K hK => ?_)
  go_simp
  refine hK _ ?_
  clear hK K
  refine Qt.step (fun K hK => ?_)
  go_simp
  refine hK _ ?_
  clear hK K
  refine Qt.step (fun K hK => ?_)
  go_simp
  refine hK _ ?_
  clear hK K
  refine Qt.step (fun K hK => ?_)
  go_simp
  refine hK _ ?_
  clear hK K
  refine Qt.nil ?_
  intro _ hw'
  obtain ⟨nq2, hw''⟩ := hw'
  subst hw''
  have HS3 := (HS0.out.drew nq1).drew nq2
  have HB3 := (HB0.out.gb (gb_drew _ R nq1) hne).gb (gb_drew _ R nq2) hne
  have HG3 := gb_trans (gb_trans HG0.out (gb_drew _ R nq1)) (gb_drew _ R nq2)
  have hz3 : (((w.alloc (.cells #[.int .i64 0, .string ⟨#[]⟩, .slice none 0 0] 187)).drewN nq1).drewN nq2).heap.size = w.heap.size + 1 := by simp
  generalize (((w.alloc (.cells #[.int .i64 0, .string ⟨#[]⟩, .slice none 0 0] 187)).drewN nq1).drewN nq2) = W3 at HS3 HB3 HG3 hz3 ⊢
  have HS4 : Hid (Sds (W3.setCell ⟨R, 1, none⟩ (.int .i64 ((p : Int) + 1))) R s (p + 1) false d) := by
    have := HS3.put1 (p + 1)
    rwa [show ((p + 1 : Nat) : Int) = (p : Int) + 1 by omega] at this
  have HB4 := Hid.mk (HB3.kept (w' := (W3.setCell ⟨R, 1, none⟩ (.int .i64 ((p : Int) + 1)))) (heap_setCell_other _ _ _ _ hne))
  have HG4 := Hid.mk (gb_put HG3 1 (.int .i64 ((p : Int) + 1)))
  have hz4 : (W3.setCell ⟨R, 1, none⟩ (.int .i64 ((p : Int) + 1))).heap.size = w.heap.size + 1 := by simp [hz3]
  clear HS0 HB0 HG0 c0 c1 c2
  have e1 := HS3.c1
  have e2 := HS3.fr 1
  have c0 := HB3.c0
  have c1 := HB3.c1
  have c2 := HB3.c2
  have f0 := HB3.fr
  have HS3' := Hid.mk HS3
  clear HS3 HB3 HG3
  go_wp2_with fail
  refine (HC.out s R (p + 1) _ HS4.out (by omega) hs).mono ?_
  rintro e w6 ⟨hg6, t, u, p2, rfl, hsz, how, hp1, hp2, hcase⟩
  rw [hz4] at how
  have HB6 := Hid.mk (HB4.out.gb hg6 hne)
  have HG6 := Hid.mk (gb_trans HG4.out hg6)
  have HSZ := Hid.mk hsz
  obtain ⟨au, cu, rfl⟩ := how.value
  have HO6 := Hid.mk how
  obtain ⟨bad, d1, HS6, hcs⟩ : ∃ (bad : Bool) (d1 : Int), Hid (Sds w6 R s p2 bad d1) ∧ Hid ((bad = true ∧ rdAtom (rd n) ((txt s).drop p) = none ∧ d ≤ d1 ∧ d1 ≤ 9) ∨ (bad = false ∧ d1 = d ∧ p < p2 ∧ rdAtom (rd n) ((txt s).drop p) = some (t, (txt s).drop p2))) := by
    rcases hcase with ⟨hr0, d', hsd, e1, e2⟩ | ⟨hrd, hpp, hsd⟩
    · exact ⟨true, d', hsd, Or.inl ⟨rfl, HE.out.trans hr0, e1, e2⟩⟩
    · exact ⟨false, d, hsd, Or.inr ⟨rfl, rfl, by omega, HE.out.trans hrd⟩⟩
  obtain ⟨tk, htk⟩ : ∃ tk, t.k = tk := ⟨_, rfl⟩
  obtain ⟨ts, hts⟩ : ∃ ts, t.s = ts := ⟨_, rfl⟩
  rw [htk, hts]
  clear hg6 how hsz hcase HC HE HB4 HG4 HS4 c0 c1 c2 f0 e1 e2
  have c0 := HB6.out.c0
  have c1 := HB6.out.c1
  have c2 := HB6.out.c2
  have f0 := HB6.out.fr
  go_wp2
  have hput := HB6.out.put (.int .i64 tk) (.string ts) (.slice au t.l.length cu)
  have hgp := gb_set3 HG6.out (Nat.le_refl _) (.int .i64 tk) (.string ts) (.slice au t.l.length cu)
  have hrp := HS6.out.set3 (Ne.symm hne) (.int .i64 tk) (.string ts) (.slice au t.l.length cu)
  have hop := HO6.out.set3 (b := w.heap.size) (by unfold newFrom; omega) (.int .i64 tk) (.string ts) (.slice au t.l.length cu)
  unfold set3 at hput hgp hrp hop
  generalize ((w6.setCell ⟨w.heap.size, 0, none⟩ (.int .i64 tk)).setCell ⟨w.heap.size, 1, none⟩ (.string ts)).setCell ⟨w.heap.size, 2, none⟩ (.slice au t.l.length cu) = W at hput hgp hrp hop ⊢
  have r0 := hput.c0
  have r1 := hput.c1
  have r2 := hput.c2
  refine bodyPost_ret (v := .agg #[.int .i64 tk, .string ts, .slice au t.l.length cu]) ?_ rfl ⟨hgp, t, _, p2, by rw [htk, hts], HSZ.out, hop.mono (fun b hb => by unfold newFrom at *; omega), by omega, by omega, ?_⟩
  · simp [results, Tryz.results137, go_sem, r0, r1, r2]
  · rcases hcs.out with ⟨hb, he, e1, e2⟩ | ⟨hb, hd1, hpp, he⟩
    · exact Or.inl ⟨he, d1, by rw [hb] at hrp; exact hrp, e1, e2⟩
    · exact Or.inr ⟨he, hpp, by rw [hb, hd1] at hrp; exact hrp⟩
end Go.Proofs.YtgigalcajgjpnaaGreat

namespace Go.Proofs.YtgigalcajgjpnaaGreat
open Go.RowKit
set_option maxRecDepth 8000

set_option maxHeartbeats 8000000 in
theorem atom_byte (n : Nat) (d : Int) (_hd : d ≤ 9) (s : ByteArray) (R p : Nat) (w : World) (h : Sds w R s p false d) (hlt : p < s.size) (hs : s.size ≤ 1048576) (c : Int) (hc : ((s[p].toNat : Nat) : Int) = c) (n1 : c ≠ 46) (n2 : c ≠ 94) (n3 : c ≠ 36) (n4 : c ≠ 40) (n5 : c ≠ 91) (hrb : rb c = true) :
    Calls Tryz.prog 137 #[.pointer (some ⟨R, 0, none⟩)] w fun e w' => SpOk w w' R s p d e (rdAtom (rd n) ((txt s).drop p)) := by
  have HE : Hid (rdAtom (rd n) ((txt s).drop p) = some (.node 1 (strOf [c]) [], (txt s).drop (p + 1))) := by
    show _ = _
    rw [txt_head hlt, hc, rdAtom, if_neg n1, if_neg n2, if_neg n3, if_neg n5, if_neg n4, if_pos hrb]
  have b1 : (c == 46) = false := beq_eq_false_iff_ne.2 n1
  have b2 : (c == 94) = false := beq_eq_false_iff_ne.2 n2
  have b3 : (c == 36) = false := beq_eq_false_iff_ne.2 n3
  have b4 : (c == 40) = false := beq_eq_false_iff_ne.2 n4
  have hc0 : (0 : Int) ≤ c := by omega
  have hc1 : c ≤ 255 := by have := s[p].toNat_lt; omega
  have HBy := Hid.mk (fun w => specByte_any c hc0 hc1 w)
  rw [hrb] at HBy
  have HOS := Hid.mk (fun (w : World) (B : Nat → Prop) => ow_string w B 1 [c] (by simp))
  clear n1 n2 n3 n4 n5 hrb
  obtain ⟨h0, hne, hb0, hg0⟩ := pre_boxS h
  have HS0 := Hid.mk h0
  have HB0 := Hid.mk hb0
  have HG0 := Hid.mk hg0
  have hRl := h.lt
  have c0 := h0.c0
  have c1 := h0.c1
  have c2 := h0.c2
  have hb : ¬ s.size ≤ p := by omega
  have hpi : (p : Int) < (s.size : Int) := by omega
  clear h h0 hb0 hg0
  go_enter Tryz.func137, Tryz.ntmps137
  go_wp2_with fail
  refine wp_region_quiet_lit (by kernel_rfl) (by kernel_rfl) (Qt.out ?_)
  refine Qt.step (fun K hK => ?_)
  go_simp
  refine hK _ ?_
  clear hK K
  refine Qt.step (fun K hK => ?_)
  go_simp
  refine hK _ ?_
  clear hK K
  refine Qt.step (fun K hK => ?_)
  go_simp
  refine hK _ ?_
  clear hK K
  refine Qt.step (fun K hK => ?_)
  go_simp
  refine hK _ ?_
  clear hK K
  refine Qt.step (fun K hK => ?_)
  go_simp
  refine hK _ ?_
  clear hK K
  refine Qt.step (fun K hK => ?_)
  go_simp
  refine hK _ ?_
  clear hK K
  refine Qt.step (fun K hK => ?_)
  go_simp
  refine hK _ ?_
  clear hK K
  refine Qt.step (fun K hK => ?_)
  go_simp
  refine hK _ ?_
  clear hK K
  refine Qt.step (fun K hK => ?_)
  go_simp
  refine hK _ ?_
  clear hK K
  refine Qt.step (fun K hK => ?_)
  go_simp
  refine hK _ ?_
  clear hK K
  refine Qt.step (fun K hK => ?_)
  go_simp
  refine hK _ ?_
  clear hK K
  refine Qt.step (fun K hK => ?_)
  go_simp
  refine hK _ ?_
  clear hK K
  refine Qt.step (fun K hK => ?_)
  go_simp
  refine hK _ ?_
  clear hK K
  refine Qt.step (fun K hK => ?_)
  go_simp
  refine hK _ ?_
  clear hK K
  refine Qt.step (fun K hK => ?_)
  go_simp
  refine hK _ ?_
  clear hK K
  refine Qt.step (fun K hK => ?_)
  go_simp
  refine hK _ ?_
  clear hK K
  refine Qt.nil ?_
  intro _ hw'
  obtain ⟨nq1, hw''⟩ := hw'
  subst hw''
  go_wp2_with fail
  refine wp_region_quiet_lit (by kernel_rfl) (by kernel_rfl) (Qt.out ?_)
  refine Qt.step (fun K hK => ?_)
  go_simp
  refine hK _ ?_
  clear hK K
  refine Qt.step (fun K hK => ?_)
  go_simp
  refine hK _ ?_
  clear hK K
  refine Qt.step (fun K hK => ?_)
  go_simp
  refine hK _ ?_
  clear hK K
  refine Qt.step (fun K hK => ?_)
  go_simp
  refine hK _ ?_
  clear hK K
  refine Qt.step (fun K hK => ?_)
  go_simp
  refine hK _ ?_
  clear hK K
  refine Qt.step (fun K hK => ?_)
  go_simp
  refine hK _ ?_
  clear hK K
  refine Qt.step (fun K hK => ?_)
  go_simp
  refine hK _ ?_
  clear hK K
  refine Qt.step (fun K hK => ?_)
  go_simp
  refine hK _ ?_
  clear hK K
  refine Qt.step (fun K hK => ?_)
  go_simp
  refine hK _ ?_
  clear hK K
  refine Qt.step (fun K hK => ?_)
  go_simp
  refine hK _ ?_
  clear hK K
  refine Qt.nil ?_
  intro _ hw'
  obtain ⟨nq2, hw''⟩ := hw'
  subst hw''
  have HS3 := (HS0.out.drew nq1).drew nq2
  have HB3 := (HB0.out.gb (gb_drew _ R nq1) hne).gb (gb_drew _ R nq2) hne
  have HG3 := gb_trans (gb_trans HG0.out (gb_drew _ R nq1)) (gb_drew _ R nq2)
  have hz3 : (((w.alloc (.cells #[.int .i64 0, .string ⟨#[]⟩, .slice none 0 0] 187)).drewN nq1).drewN nq2).heap.size = w.heap.size + 1 := by simp
  generalize (((w.alloc (.cells #[.int .i64 0, .string ⟨#[]⟩, .slice none 0 0] 187)).drewN nq1).drewN nq2) = W3 at HS3 HB3 HG3 hz3 ⊢
  have HS4 : Hid (Sds (W3.setCell ⟨R, 1, none⟩ (.int .i64 ((p : Int) + 1))) R s (p + 1) false d) := by
    have := HS3.put1 (p + 1)
    rwa [show ((p + 1 : Nat) : Int) = (p : Int) + 1 by omega] at this
  have HB4 := Hid.mk (HB3.kept (w' := (W3.setCell ⟨R, 1, none⟩ (.int .i64 ((p : Int) + 1)))) (heap_setCell_other _ _ _ _ hne))
  have HG4 := Hid.mk (gb_put HG3 1 (.int .i64 ((p : Int) + 1)))
  have hz4 : (W3.setCell ⟨R, 1, none⟩ (.int .i64 ((p : Int) + 1))).heap.size = w.heap.size + 1 := by simp [hz3]
  clear HS0 HB0 HG0 c0 c1 c2
  have e1 := HS3.c1
  have e2 := HS3.fr 1
  have c0 := HB3.c0
  have c1 := HB3.c1
  have c2 := HB3.c2
  have f0 := HB3.fr
  have HS3' := Hid.mk HS3
  clear HS3 HB3 HG3
  have hcv : (convert 62 9 (.slice (some ⟨w.heap.size + 1, 0, none⟩) 1 1)).run Tryz.prog ((W3.setCell ⟨R, 1, none⟩ (.int .i64 ((p : Int) + 1))).alloc (.cells #[.int .u8 c] 5)) = .ok (.string (strOf [c])) ((W3.setCell ⟨R, 1, none⟩ (.int .i64 ((p : Int) + 1))).alloc (.cells #[.int .u8 c] 5)) := by
    have := run_byte c hc0 hc1 (W3.setCell ⟨R, 1, none⟩ (.int .i64 ((p : Int) + 1)))
    rwa [hz4] at this
  obtain ⟨ZZ, hZ⟩ : ∃ ZZ, strOf [c] = ZZ := ⟨_, rfl⟩
  rw [hZ] at HE HOS hcv
  go_wp2_with (go_at_call 139; refine (HBy.out _).mono ?_; rintro e w' ⟨rfl, rfl⟩)
  have hput0 := HB4.out.put (.int .i64 1) (.string ZZ) (.slice none 0 0)
  have hgp0 := gb_set3 HG4.out (Nat.le_refl _) (.int .i64 1) (.string ZZ) (.slice none 0 0)
  have hrp0 := HS4.out.set3 (Ne.symm hne) (.int .i64 1) (.string ZZ) (.slice none 0 0)
  have hal : Below (set3 (W3.setCell ⟨R, 1, none⟩ (.int .i64 ((p : Int) + 1))) w.heap.size (.int .i64 1) (.string ZZ) (.slice none 0 0)).heap.size (set3 (W3.setCell ⟨R, 1, none⟩ (.int .i64 ((p : Int) + 1))) w.heap.size (.int .i64 1) (.string ZZ) (.slice none 0 0)) ((set3 (W3.setCell ⟨R, 1, none⟩ (.int .i64 ((p : Int) + 1))) w.heap.size (.int .i64 1) (.string ZZ) (.slice none 0 0)).alloc (.cells #[.int .u8 c] 5)) := (Below.refl _ _).alloc (Nat.le_refl _) _
  have hput := hput0.kept (hal.block _ hput0.lt)
  have hgp := gb_below hgp0 hal
  have hrp := hrp0.grow hal
  unfold set3 at hput hgp hrp
  generalize ((((W3.setCell ⟨R, 1, none⟩ (.int .i64 ((p : Int) + 1))).setCell ⟨w.heap.size, 0, none⟩ (.int .i64 1)).setCell ⟨w.heap.size, 1, none⟩ (.string ZZ)).setCell ⟨w.heap.size, 2, none⟩ (.slice none 0 0)).alloc (.cells #[.int .u8 c] 5) = W at hput hgp hrp ⊢
  have r0 := hput.c0
  have r1 := hput.c1
  have r2 := hput.c2
  refine bodyPost_ret (v := .agg #[.int .i64 1, .string ZZ, .slice none 0 0]) ?_ rfl ⟨hgp, .node 1 ZZ [], _, p + 1, rfl, (HOS.out w anyBlock).1, Ow.none _, by omega, by omega, Or.inr ⟨HE.out, by omega, hrp⟩⟩
  simp [results, Tryz.results137, go_sem, r0, r1, r2]

set_option maxHeartbeats 8000000 in
theorem atom_bad (n : Nat) (d : Int) (hd : d ≤ 9) (s : ByteArray) (R p : Nat) (w : World) (h : Sds w R s p false d) (hlt : p < s.size) (hs : s.size ≤ 1048576) (c : Int) (hc : ((s[p].toNat : Nat) : Int) = c) (n1 : c ≠ 46) (n2 : c ≠ 94) (n3 : c ≠ 36) (n4 : c ≠ 40) (n5 : c ≠ 91) (hrb : rb c = false) :
    Calls Tryz.prog 137 #[.pointer (some ⟨R, 0, none⟩)] w fun e w' => SpOk w w' R s p d e (rdAtom (rd n) ((txt s).drop p)) := by
  have HE : Hid (rdAtom (rd n) ((txt s).drop p) = none) := by
    show _ = _
    rw [txt_head hlt, hc, rdAtom, if_neg n1, if_neg n2, if_neg n3, if_neg n5, if_neg n4, if_neg (by rw [hrb]; simp)]
  have b1 : (c == 46) = false := beq_eq_false_iff_ne.2 n1
  have b2 : (c == 94) = false := beq_eq_false_iff_ne.2 n2
  have b3 : (c == 36) = false := beq_eq_false_iff_ne.2 n3
  have b4 : (c == 40) = false := beq_eq_false_iff_ne.2 n4
  have hc0 : (0 : Int) ≤ c := by omega
  have hc1 : c ≤ 255 := by have := s[p].toNat_lt; omega
  have HBy := Hid.mk (fun w => specByte_any c hc0 hc1 w)
  have b5 : (c != 91) = true := by simpa using n5
  rw [hrb] at HBy
  clear n1 n2 n3 n4 n5 hrb
  obtain ⟨h0, hne, hb0, hg0⟩ := pre_boxS h
  have HS0 := Hid.mk h0
  have HB0 := Hid.mk hb0
  have HG0 := Hid.mk hg0
  have hRl := h.lt
  have c0 := h0.c0
  have c1 := h0.c1
  have c2 := h0.c2
  have hb : ¬ s.size ≤ p := by omega
  have hpi : (p : Int) < (s.size : Int) := by omega
  clear h h0 hb0 hg0
  go_enter Tryz.func137, Tryz.ntmps137
  go_wp2_with fail
  refine wp_region_quiet_lit (by kernel_rfl) (by kernel_rfl) (Qt.out ?_)
  refine Qt.step (fun K hK => ?_)
  go_simp
  refine hK _ ?_
  clear hK K
  refine Qt.step (fun K hK => ?_)
  go_simp
  refine hK _ ?_
  clear hK K
  refine Qt.step (fun K hK => ?_)
  go_simp
  refine hK _ ?_
  clear hK K
  refine Qt.step (fun K hK => ?_)
  go_simp
  refine hK _ ?_
  clear hK K
  refine Qt.step (fun K hK => ?_)
  go_simp
  refine hK _ ?_
  clear hK K
  refine Qt.step (fun K hK => ?_)
  go_simp
  refine hK _ ?_
  clear hK K
  refine Qt.step (fun K hK => ?_)
  go_simp
  refine hK _ ?_
  clear hK K
  refine Qt.step (fun K hK => ?_)
  go_simp
  refine hK _ ?_
  clear hK K
  refine Qt.step (fun K hK => ?_)
  go_simp
  refine hK _ ?_
  clear hK K
  refine Qt.step (fun K hK => ?_)
  go_simp
  refine hK _ ?_
  clear hK K
  refine Qt.step (fun K hK => ?_)
  go_simp
  refine hK _ ?_
  clear hK K
  refine Qt.step (fun K hK => ?_)
  go_simp
  refine hK _ ?_
  clear hK K
  refine Qt.step (fun K hK => ?_)
  go_simp
  refine hK _ ?_
  clear hK K
  refine Qt.step (fun K hK => ?_)
  go_simp
  refine hK _ ?_
  clear hK K
  refine Qt.step (fun K hK => ?_)
  go_simp
  refine hK _ ?_
  clear hK K
  refine Qt.step (fun K hK => ?_)
  go_simp
  refine hK _ ?_
  clear hK K
  refine Qt.nil ?_
  intro _ hw'
  obtain ⟨nq1, hw''⟩ := hw'
  subst hw''
  go_wp2_with fail
  refine wp_region_quiet_lit (by kernel_rfl) (by kernel_rfl) (Qt.out ?_)
  refine Qt.step (fun K hK => ?_)
  go_simp
  refine hK _ ?_
  clear hK K
  refine Qt.step (fun K hK => ?_)
  go_simp
  refine hK _ ?_
  clear hK K
  refine Qt.step (fun K hK => ?_)
  go_simp
  refine hK _ ?_
  clear hK K
  refine Qt.step (fun K hK => ?_)
  go_simp
  refine hK _ ?_
  clear hK K
  refine Qt.step (fun K hK => ?_)
  go_simp
  refine hK _ ?_
  clear hK K
  refine Qt.step (fun K hK => ?_)
  go_simp
  refine hK _ ?_
  clear hK K
  refine Qt.step (fun K hK => ?_)
  go_simp
  refine hK _ ?_
  clear hK K
  refine Qt.step (fun K hK => ?_)
  go_simp
  refine hK _ ?_
  clear hK K
  refine Qt.step (fun K hK => ?_)
  go_simp
  refine hK _ ?_
  clear hK K
  refine Qt.step (fun K hK => ?_)
  go_simp
  refine hK _ ?_
  clear hK K
  refine Qt.nil ?_
  intro _ hw'
  obtain ⟨nq2, hw''⟩ := hw'
  subst hw''
  have HS3 := (HS0.out.drew nq1).drew nq2
  have HB3 := (HB0.out.gb (gb_drew _ R nq1) hne).gb (gb_drew _ R nq2) hne
  have HG3 := gb_trans (gb_trans HG0.out (gb_drew _ R nq1)) (gb_drew _ R nq2)
  have hz3 : (((w.alloc (.cells #[.int .i64 0, .string ⟨#[]⟩, .slice none 0 0] 187)).drewN nq1).drewN nq2).heap.size = w.heap.size + 1 := by simp
  generalize (((w.alloc (.cells #[.int .i64 0, .string ⟨#[]⟩, .slice none 0 0] 187)).drewN nq1).drewN nq2) = W3 at HS3 HB3 HG3 hz3 ⊢
  have HS4 : Hid (Sds (W3.setCell ⟨R, 1, none⟩ (.int .i64 ((p : Int) + 1))) R s (p + 1) false d) := by
    have := HS3.put1 (p + 1)
    rwa [show ((p + 1 : Nat) : Int) = (p : Int) + 1 by omega] at this
  have HB4 := Hid.mk (HB3.kept (w' := (W3.setCell ⟨R, 1, none⟩ (.int .i64 ((p : Int) + 1)))) (heap_setCell_other _ _ _ _ hne))
  have HG4 := Hid.mk (gb_put HG3 1 (.int .i64 ((p : Int) + 1)))
  have hz4 : (W3.setCell ⟨R, 1, none⟩ (.int .i64 ((p : Int) + 1))).heap.size = w.heap.size + 1 := by simp [hz3]
  clear HS0 HB0 HG0 c0 c1 c2
  have e1 := HS3.c1
  have e2 := HS3.fr 1
  have c0 := HB3.c0
  have c1 := HB3.c1
  have c2 := HB3.c2
  have f0 := HB3.fr
  have HS3' := Hid.mk HS3
  clear HS3 HB3 HG3
  have HBad := Hid.mk (l3Bad_any s R (p + 1) false d _ HS4.out)
  go_wp2_with (first | (go_at_call 139; refine (HBy.out _).mono ?_; rintro e w' ⟨rfl, rfl⟩) | fail)
  refine HBad.out.mono ?_
  rintro e w7 ⟨rfl, hg7, hr7, hz7⟩
  have HB7 := Hid.mk (HB4.out.gb hg7 hne)
  have HG7 := Hid.mk (gb_trans HG4.out hg7)
  have HS7 := Hid.mk hr7
  clear HBad hg7 hr7 HB4 HG4 HS4 c0 c1 c2 f0 e1 e2
  have c0 := HB7.out.c0
  have c1 := HB7.out.c1
  have c2 := HB7.out.c2
  have f0 := HB7.out.fr
  go_wp2
  have hput := HB7.out.put (.int .i64 0) (.string ⟨#[]⟩) (.slice none 0 0)
  have hgp := gb_set3 HG7.out (Nat.le_refl _) (.int .i64 0) (.string ⟨#[]⟩) (.slice none 0 0)
  have hrp := HS7.out.set3 (Ne.symm hne) (.int .i64 0) (.string ⟨#[]⟩) (.slice none 0 0)
  unfold set3 at hput hgp hrp
  generalize ((w7.setCell ⟨w.heap.size, 0, none⟩ (.int .i64 0)).setCell ⟨w.heap.size, 1, none⟩ (.string ⟨#[]⟩)).setCell ⟨w.heap.size, 2, none⟩ (.slice none 0 0) = W at hput hgp hrp ⊢
  have r0 := hput.c0
  have r1 := hput.c1
  have r2 := hput.c2
  refine bodyPost_ret (v := .agg #[.int .i64 0, .string ⟨#[]⟩, .slice none 0 0]) ?_ rfl ⟨hgp, leaf 0, _, p + 1, rfl, (ow_leaf w anyBlock 0).1, Ow.none _, by omega, by omega, Or.inl ⟨HE.out, d, hrp, by omega, by omega⟩⟩
  simp [results, Tryz.results137, go_sem, r0, r1, r2]
end Go.Proofs.YtgigalcajgjpnaaGreat

namespace Go.Proofs.YtgigalcajgjpnaaGreat
open Go.RowKit
set_option maxRecDepth 8000

set_option maxHeartbeats 16000000 in
theorem atom_set (n : Nat) (d : Int) (hd : d ≤ 9) (s : ByteArray) (R p : Nat) (w : World) (h : Sds w R s p false d) (hlt : p < s.size) (hs : s.size ≤ 1048576) (hc : ((s[p].toNat : Nat) : Int) = 91) :
    Calls Tryz.prog 137 #[.pointer (some ⟨R, 0, none⟩)] w fun e w' => SpOk w w' R s p d e (rdAtom (rd n) ((txt s).drop p)) := by
  have HE : Hid (rdAtom (rd n) ((txt s).drop p) = rdSet ((txt s).drop (p + 1))) := by show _ = _; rw [txt_head hlt, hc, rdAtom, if_neg (by omega), if_neg (by omega), if_neg (by omega), if_pos rfl]
  have HBy : Hid (∀ w, Calls Tryz.prog 139 #[.int .u8 91] w fun e w' => e = .returned (.bool false) ∧ w' = w) := fun w => specByte_any 91 (by omega) (by omega) w
  obtain ⟨h0, hne, hb0, hg0⟩ := pre_boxS h
  have HS0 := Hid.mk h0
  have HB0 := Hid.mk hb0
  have HG0 := Hid.mk hg0
  have hRl := h.lt
  have c0 := h0.c0
  have c1 := h0.c1
  have c2 := h0.c2
  have hb : ¬ s.size ≤ p := by omega
  have hpi : (p : Int) < (s.size : Int) := by omega
  clear h h0 hb0 hg0
  go_enter Tryz.func137, Tryz.ntmps137
  go_wp2_with fail
  refine wp_region_quiet_lit (by kernel_rfl) (by kernel_rfl) (Qt.out ?_)
  refine Qt.step (fun K hK => ?_)
  go_simp
  refine hK _ ?_
  clear hK K
  refine Qt.step (fun K hK => ?_)
  go_simp
  refine hK _ ?_
  clear hK K
  refine Qt.step (fun K hK => ?_)
  go_simp
  refine hK _ ?_
  clear hK K
  refine Qt.step (fun K hK => ?_)
  go_simp
  refine hK _ ?_
  clear hK K
  refine Qt.step (fun K hK => ?_)
  go_simp
  refine hK _ ?_
  clear hK K
  refine Qt.step (fun K hK => ?_)
  go_simp
  refine hK _ ?_
  clear hK K
  refine Qt.step (fun K hK => ?_)
  go_simp
  refine hK _ ?_
  clear hK K
  refine Qt.step (fun K hK => ?_)
  go_simp
  refine hK _ ?_
  clear hK K
  refine Qt.step (fun K hK => ?_)
  go_simp
  refine hK _ ?_
  clear hK K
  refine Qt.step (fun K hK => ?_)
  go_simp
  refine hK _ ?_
  clear hK K
  refine Qt.step (fun K hK => ?_)
  go_simp
  refine hK _ ?_
  clear hK K
  refine Qt.step (fun K hK => ?_)
  go_simp
  refine hK _ ?_
  clear hK K
  refine Qt.step (fun K hK => ?_)
  go_simp
  refine hK _ ?_
  clear hK K
  refine Qt.step (fun K hK => ?_)
  go_simp
  refine hK _ ?_
  clear hK K
  refine Qt.step (fun K hK => ?_)
  go_simp
  refine hK _ ?_
  clear hK K
  refine Qt.step (fun K hK => ?_)
  go_simp
  refine hK _ ?_
  clear hK K
  refine Qt.nil ?_
  intro _ hw'
  obtain ⟨nq1, hw''⟩ := hw'
  subst hw''
  go_wp2_with fail
  refine wp_region_quiet_lit (by kernel_rfl) (by kernel_rfl) (Qt.out ?_)
  refine Qt.step (fun K hK => ?_)
  go_simp
  refine hK _ ?_
  clear hK K
  refine Qt.step (fun K hK => ?_)
  go_simp
  refine hK _ ?_
  clear hK K
  refine Qt.step (fun K hK => ?_)
  go_simp
  refine hK _ ?_
  clear hK K
  refine Qt.step (fun K hK => ?_)
  go_simp
  refine hK _ ?_
  clear hK K
  refine Qt.step (fun K hK => ?_)
  go_simp
  refine hK _ ?_
  clear hK K
  refine Qt.step (fun K hK => ?_)
  go_simp
  refine hK _ ?_
  clear hK K
  refine Qt.step (fun K hK => ?_)
  go_simp
  refine hK _ ?_
  clear hK K
  refine Qt.step (fun K hK => ?_)
  go_simp
  refine hK _ ?_
  clear hK K
  refine Qt.step (fun K hK => ?_)
  go_simp
  refine hK _ ?_
  clear hK K
  refine Qt.step (fun K hK => ?_)
  go_simp
  refine hK _ ?_
  clear hK K
  refine Qt.nil ?_
  intro _ hw'
  obtain ⟨nq2, hw''⟩ := hw'
  subst hw''
  have HS3 := (HS0.out.drew nq1).drew nq2
  have HB3 := (HB0.out.gb (gb_drew _ R nq1) hne).gb (gb_drew _ R nq2) hne
  have HG3 := gb_trans (gb_trans HG0.out (gb_drew _ R nq1)) (gb_drew _ R nq2)
  have hz3 : (((w.alloc (.cells #[.int .i64 0, .string ⟨#[]⟩, .slice none 0 0] 187)).drewN nq1).drewN nq2).heap.size = w.heap.size + 1 := by simp
  generalize (((w.alloc (.cells #[.int .i64 0, .string ⟨#[]⟩, .slice none 0 0] 187)).drewN nq1).drewN nq2) = W3 at HS3 HB3 HG3 hz3 ⊢
  have HS4 : Hid (Sds (W3.setCell ⟨R, 1, none⟩ (.int .i64 ((p : Int) + 1))) R s (p + 1) false d) := by
    have := HS3.put1 (p + 1)
    rwa [show ((p + 1 : Nat) : Int) = (p : Int) + 1 by omega] at this
  have HB4 := Hid.mk (HB3.kept (w' := (W3.setCell ⟨R, 1, none⟩ (.int .i64 ((p : Int) + 1)))) (heap_setCell_other _ _ _ _ hne))
  have HG4 := Hid.mk (gb_put HG3 1 (.int .i64 ((p : Int) + 1)))
  have hz4 : (W3.setCell ⟨R, 1, none⟩ (.int .i64 ((p : Int) + 1))).heap.size = w.heap.size + 1 := by simp [hz3]
  clear HS0 HB0 HG0 c0 c1 c2
  have e1 := HS3.c1
  have e2 := HS3.fr 1
  have c0 := HB3.c0
  have c1 := HB3.c1
  have c2 := HB3.c2
  have f0 := HB3.fr
  have HS3' := Hid.mk HS3
  clear HS3 HB3 HG3
  go_wp2_with (go_at_call 139; refine (HBy.out _).mono ?_; rintro e w' ⟨rfl, rfl⟩)
  clear HBy c0 c1 c2 f0 e1 e2 HS3'
  go_loopg [73] (s.size - (p + 1)) (fun k _ wr => ∃ (q : Nat), p + 1 ≤ q ∧ q ≤ s.size ∧ s.size - q = k ∧ wr.heap.size = w.heap.size + 1 ∧ Hid (w.grownBy wr (some R)) ∧ Hid (Sds wr R s q false d) ∧ Hid (Bx3 wr w.heap.size (.int .i64 0) (.string ⟨#[]⟩) (.slice none 0 0)) ∧ Hid (∀ j (h : j < s.size), p + 1 ≤ j → j < q → ((s[j].toNat : Nat) : Int) ≠ 93))
  case atStart => exact ⟨p + 1, by omega, by omega, rfl, hz4, HG4, HS4, HB4, fun j _ h1 h2 => by omega⟩
  case round =>
    obtain ⟨q, hq1, hq2, hgk, hzr, hg, hsd, hbx, hall⟩ := hrel
    clear HG4 HS4 HB4
    have c0 := hsd.out.c0
    have c1 := hsd.out.c1
    by_cases heq : q = s.size
    · have hge : ¬ q < s.size := by omega
      have HST : Hid (∀ (h : q < s.size), ((s[q].toNat : Nat) : Int) = 93) := fun h => absurd h hge
      have hbn : nextIs s q 93 = false := nextIs_end (by omega) 93
      clear heq
      go_wp2_with fail
      refine wp_region_quiet_lit (by kernel_rfl) (by kernel_rfl) (Qt.out ?_)
      refine Qt.step (fun K hK => ?_)
      go_simp
      refine hK _ ?_
      clear hK K
      refine Qt.step (fun K hK => ?_)
      go_simp
      refine hK _ ?_
      clear hK K
      refine Qt.step (fun K hK => ?_)
      go_simp
      refine hK _ ?_
      clear hK K
      refine Qt.step (fun K hK => ?_)
      go_simp
      refine hK _ ?_
      clear hK K
      refine Qt.step (fun K hK => ?_)
      go_simp
      refine hK _ ?_
      clear hK K
      refine Qt.step (fun K hK => ?_)
      go_simp
      refine hK _ ?_
      clear hK K
      refine Qt.step (fun K hK => ?_)
      go_simp
      refine hK _ ?_
      clear hK K
      refine Qt.step (fun K hK => ?_)
      go_simp
      refine hK _ ?_
      clear hK K
      refine Qt.step (fun K hK => ?_)
      go_simp
      refine hK _ ?_
      clear hK K
      refine Qt.step (fun K hK => ?_)
      go_simp
      refine hK _ ?_
      clear hK K
      refine Qt.step (fun K hK => ?_)
      go_simp
      refine hK _ ?_
      clear hK K
      refine Qt.step (fun K hK => ?_)
      go_simp
      refine hK _ ?_
      clear hK K
      refine Qt.step (fun K hK => ?_)
      go_simp
      refine hK _ ?_
      clear hK K
      refine Qt.step (fun K hK => ?_)
      go_simp
      refine hK _ ?_
      clear hK K
      refine Qt.step (fun K hK => ?_)
      go_simp
      refine hK _ ?_
      clear hK K
      refine Qt.step (fun K hK => ?_)
      go_simp
      refine hK _ ?_
      clear hK K
      refine Qt.step (fun K hK => ?_)
      go_simp
      refine hK _ ?_
      clear hK K
      refine Qt.step (fun K hK => ?_)
      go_simp
      refine hK _ ?_
      clear hK K
      refine Qt.step (fun K hK => ?_)
      go_simp
      refine hK _ ?_
      clear hK K
      refine Qt.step (fun K hK => ?_)
      go_simp
      refine hK _ ?_
      clear hK K
      refine Qt.step (fun K hK => ?_)
      go_simp
      refine hK _ ?_
      clear hK K
      refine Qt.step (fun K hK => ?_)
      go_simp
      refine hK _ ?_
      clear hK K
      refine Qt.nil ?_
      intro _ hw'
      obtain ⟨nq1, hw''⟩ := hw'
      subst hw''
      have HS1 := hsd.out.drew nq1
      have HB1 := hbx.out.gb (gb_drew _ R nq1) hne
      have HG1 := gb_trans hg.out (gb_drew _ R nq1)
      have hz1 : (wr.drewN nq1).heap.size = w.heap.size + 1 := hzr
      generalize (wr.drewN nq1) = W5 at HS1 HB1 HG1 hz1 ⊢
      clear c0 c1 hsd hbx hg
      have Hs1 := Hid.mk HS1
      have Hb1 := Hid.mk HB1
      have Hg1 := Hid.mk HG1
      clear HS1 HB1 HG1
      go_wp2_with fail
      have HSw : Hid ((fun (w' : World) => w'.cell? ⟨R, 0, none⟩ = some (.string s) ∧ w'.cell? ⟨R, 1, none⟩ = some (.int .i64 (q : Int))) W5.drew) := ⟨(Hs1.out.drew 1).c0, (Hs1.out.drew 1).c1⟩
      have hsl : ∀ w, (Instr.slice 9 (.string s) (some (.int .i64 ((p : Int) + 1))) (some (.int .i64 (q : Int))) none).run Tryz.prog w = .ok (.string (s.extract (p + 1) q)) w := fun w => by
        have := run_slice_string (P := Tryz.prog) w 9 s .i64 .i64 ((p : Int) + 1) (q : Int) Tryz.underlying9 (by omega) (by omega) (by omega)
        rw [this]; rfl
      refine wp_region_held_drew (S := fun (w' : World) => w'.cell? ⟨R, 0, none⟩ = some (.string s) ∧ w'.cell? ⟨R, 1, none⟩ = some (.int .i64 (q : Int))) (by kernel_rfl) HSw.out (fun _ => ?_)
      refine takeHD (i := 0) (v := .pointer (some ⟨R, 0, none⟩)) (some 102) rfl rfl (by kernel_rfl) (by kernel_rfl) (by kernel_rfl) (fun _ _ _ h => h) (Or.inl ⟨by kernel_rfl, fun w' hw => ?_⟩) HSw.out ?_
      · obtain ⟨hw0, hw1⟩ := hw
        go_simp
      simp only [Act.put, List.setIfInBounds_toArray]
      refine takeHD (i := 1) (v := .pointer (some ⟨R, 0, none⟩)) (some 103) rfl rfl (by kernel_rfl) (by kernel_rfl) (by kernel_rfl) (fun _ _ _ h => h) (Or.inl ⟨by kernel_rfl, fun w' hw => ?_⟩) HSw.out ?_
      · obtain ⟨hw0, hw1⟩ := hw
        go_simp
      simp only [Act.put, List.setIfInBounds_toArray]
      refine takeHD (i := 2) (v := .pointer (some ⟨R, 0, none⟩)) (some 104) rfl rfl (by kernel_rfl) (by kernel_rfl) (by kernel_rfl) (fun _ _ _ h => h) (Or.inl ⟨by kernel_rfl, fun w' hw => ?_⟩) HSw.out ?_
      · obtain ⟨hw0, hw1⟩ := hw
        go_simp
      simp only [Act.put, List.setIfInBounds_toArray]
      refine takeHD (i := 3) (v := .string s) (some 105) rfl rfl (by kernel_rfl) (by kernel_rfl) (by kernel_rfl) (fun _ _ _ h => h) (Or.inl ⟨by kernel_rfl, fun w' hw => ?_⟩) HSw.out ?_
      · obtain ⟨hw0, hw1⟩ := hw
        go_simp
      simp only [Act.put, List.setIfInBounds_toArray]
      refine takeHD (i := 4) (v := .int .i64 ((p : Int) + 1)) (some 106) rfl rfl (by kernel_rfl) (by kernel_rfl) (by kernel_rfl) (fun _ _ _ h => h) (Or.inl ⟨by kernel_rfl, fun w' hw => ?_⟩) HSw.out ?_
      · obtain ⟨hw0, hw1⟩ := hw
        go_simp
      simp only [Act.put, List.setIfInBounds_toArray]
      refine takeHD (i := 5) (v := .pointer (some ⟨R, 0, none⟩)) (some 107) rfl rfl (by kernel_rfl) (by kernel_rfl) (by kernel_rfl) (fun _ _ _ h => h) (Or.inl ⟨by kernel_rfl, fun w' hw => ?_⟩) HSw.out ?_
      · obtain ⟨hw0, hw1⟩ := hw
        go_simp
      simp only [Act.put, List.setIfInBounds_toArray]
      refine takeHD (i := 6) (v := .pointer (some ⟨R, 0, none⟩)) (some 108) rfl rfl (by kernel_rfl) (by kernel_rfl) (by kernel_rfl) (fun _ _ _ h => h) (Or.inl ⟨by kernel_rfl, fun w' hw => ?_⟩) HSw.out ?_
      · obtain ⟨hw0, hw1⟩ := hw
        go_simp
      simp only [Act.put, List.setIfInBounds_toArray]
      refine takeHD (i := 7) (v := .pointer (some ⟨R, 1, none⟩)) (some 109) rfl rfl (by kernel_rfl) (by kernel_rfl) (by kernel_rfl) (fun _ _ _ h => h) (Or.inl ⟨by kernel_rfl, fun w' hw => ?_⟩) HSw.out ?_
      · obtain ⟨hw0, hw1⟩ := hw
        go_simp
      simp only [Act.put, List.setIfInBounds_toArray]
      refine takeHD (i := 8) (v := .int .i64 (q : Int)) (some 110) rfl rfl (by kernel_rfl) (by kernel_rfl) (by kernel_rfl) (fun _ _ _ h => h) (Or.inl ⟨by kernel_rfl, fun w' hw => ?_⟩) HSw.out ?_
      · obtain ⟨hw0, hw1⟩ := hw
        go_simp
      simp only [Act.put, List.setIfInBounds_toArray]
      refine takeHD (i := 9) (v := .string (s.extract (p + 1) q)) (some 111) rfl rfl (by kernel_rfl) (by kernel_rfl) (by kernel_rfl) (fun _ _ _ h => h) (Or.inl ⟨by kernel_rfl, fun w' hw => ?_⟩) HSw.out ?_
      · obtain ⟨hw0, hw1⟩ := hw
        go_simp
      simp only [Act.put, List.setIfInBounds_toArray]
      refine takeHD (i := 10) (v := .agg #[.int .i64 3, .string (s.extract (p + 1) q), .slice none 0 0]) (some 112) rfl rfl (by kernel_rfl) (by kernel_rfl) (by kernel_rfl) (fun _ _ _ h => h) (Or.inl ⟨by kernel_rfl, fun w' hw => ?_⟩) HSw.out ?_
      · obtain ⟨hw0, hw1⟩ := hw
        go_simp
      simp only [Act.put, List.setIfInBounds_toArray]
      refine wpAnyH_ready (rs := [11]) (by kernel_rfl) (by simp) ?_
      refine AllReadyH.cons rfl (fun K hK => ?_) AllReadyH.nil
      rw [if_pos (by kernel_rfl)]
      go_wp2_with fail
      refine hK.out _ _ ⟨((Hs1.out.grow ((Below.refl _ _).alloc (Nat.le_refl _) _)).drew 1).c0, ((Hs1.out.grow ((Below.refl _ _).alloc (Nat.le_refl _) _)).drew 1).c1⟩ (fun _ => ?_)
      clear hK K
      refine wpAnyH_ready (rs := [12]) (by kernel_rfl) (by simp) ?_
      refine AllReadyH.cons rfl (fun K hK => ?_) AllReadyH.nil
      rw [if_pos (by kernel_rfl)]
      go_wp2_with fail
      refine hK.out _ _ ⟨((Hs1.out.grow ((Below.refl _ _).alloc (Nat.le_refl _) _)).drew 1).c0, ((Hs1.out.grow ((Below.refl _ _).alloc (Nat.le_refl _) _)).drew 1).c1⟩ (fun _ => ?_)
      clear hK K
      refine wpAnyH_done (by kernel_rfl) ?_ _
      have hal : Below W5.heap.size W5 (W5.alloc (.cells #[.int .i64 3, .string (s.extract (p + 1) q), .slice none 0 0] 187)) := (Below.refl _ _).alloc (Nat.le_refl _) _
      have hS6 : Sds (W5.alloc (.cells #[.int .i64 3, .string (s.extract (p + 1) q), .slice none 0 0] 187)).drew R s q false d := (Hs1.out.grow hal).drew 1
      have hB6 : Bx3 (W5.alloc (.cells #[.int .i64 3, .string (s.extract (p + 1) q), .slice none 0 0] 187)).drew w.heap.size (.int .i64 0) (.string ⟨#[]⟩) (.slice none 0 0) := (Hb1.out.kept (hal.block _ Hb1.out.lt)).gb (gb_drew _ R 1) hne
      have hX6 : Bx3 (W5.alloc (.cells #[.int .i64 3, .string (s.extract (p + 1) q), .slice none 0 0] 187)).drew (w.heap.size + 1) (.int .i64 3) (.string (s.extract (p + 1) q)) (.slice none 0 0) := by
        have := Bx3.new W5 (.int .i64 3) (.string (s.extract (p + 1) q)) (.slice none 0 0)
        rw [hz1] at this
        exact this
      have hG6 : w.grownBy (W5.alloc (.cells #[.int .i64 3, .string (s.extract (p + 1) q), .slice none 0 0] 187)).drew (some R) := gb_trans (gb_below Hg1.out hal) (gb_drew _ R 1)
      generalize (W5.alloc (.cells #[.int .i64 3, .string (s.extract (p + 1) q), .slice none 0 0] 187)).drew = W6 at hS6 hB6 hX6 hG6 ⊢
      have HS6 := Hid.mk hS6
      have HB6 := Hid.mk hB6
      have HX6 := Hid.mk hX6
      have HG6 := Hid.mk hG6
      have HTW := Hid.mk (set_found s (p + 1) q hq1 hq2 hall.out HST.out)
      have HXE : Hid (s.extract (p + 1) q = strOf (((txt s).drop (p + 1)).takeWhile ne93)) := by show _ = _; rw [extract_txt s (p + 1) q hq1 hq2, HTW.out]
      have hxne : w.heap.size + 1 ≠ R := by omega
      clear hS6 hB6 hX6 hG6 hal Hs1 Hb1 Hg1 HSw hsl HST
      have HE2 : Hid (rdAtom (rd n) ((txt s).drop p) = none) := by
        show _ = _
        rw [HE.out, rdSet, if_neg]
        rw [HTW.out, List.length_take, List.length_drop, txt_length]
        omega
      have HT := Hid.mk (l3Is_any s R q false d 93 W6 HS6.out hq2 hs false (by rw [hbn]; rfl))
      go_wp2_with fail
      refine HT.out.mono ?_
      rintro e w8 ⟨rfl, hg8, hr8, hz8⟩
      have HB8 := Hid.mk (HB6.out.gb hg8 hne)
      have HG8 := Hid.mk (gb_trans HG6.out hg8)
      have HS8 : Hid (Sds w8 R s q false d) := hr8
      have HBad := Hid.mk (l3Bad_any s R q false d w8 HS8.out)
      clear HT hg8 hr8 hz8 HB6 HG6 HS6 HX6 HTW HXE
      go_wp2_with fail
      refine HBad.out.mono ?_
      rintro e w9 ⟨rfl, hg9, hr9, hz9⟩
      have HB9 := Hid.mk (HB8.out.gb hg9 hne)
      have HG9 := Hid.mk (gb_trans HG8.out hg9)
      have HS9 := Hid.mk hr9
      clear HBad hg9 hr9 HB8 HG8 HS8
      have c0 := HB9.out.c0
      have c1 := HB9.out.c1
      have c2 := HB9.out.c2
      have f0 := HB9.out.fr
      go_wp2
      have hput := HB9.out.put (.int .i64 0) (.string ⟨#[]⟩) (.slice none 0 0)
      have hgp := gb_set3 HG9.out (Nat.le_refl _) (.int .i64 0) (.string ⟨#[]⟩) (.slice none 0 0)
      have hrp := HS9.out.set3 (Ne.symm hne) (.int .i64 0) (.string ⟨#[]⟩) (.slice none 0 0)
      unfold set3 at hput hgp hrp
      generalize ((w9.setCell ⟨w.heap.size, 0, none⟩ (.int .i64 0)).setCell ⟨w.heap.size, 1, none⟩ (.string ⟨#[]⟩)).setCell ⟨w.heap.size, 2, none⟩ (.slice none 0 0) = W at hput hgp hrp ⊢
      have r0 := hput.c0
      have r1 := hput.c1
      have r2 := hput.c2
      refine bodyPost_ret (v := .agg #[.int .i64 0, .string ⟨#[]⟩, .slice none 0 0]) ?_ rfl ⟨hgp, leaf 0, _, q, rfl, (ow_leaf w anyBlock 0).1, Ow.none _, by omega, by omega, Or.inl ⟨HE2.out, d, hrp, by omega, by omega⟩⟩
      simp [results, Tryz.results137, go_sem, r0, r1, r2]
    have hql : q < s.size := by omega
    have hqi : (q : Int) < (s.size : Int) := by omega
    clear heq
    by_cases h93 : ((s[q].toNat : Nat) : Int) = 93
    · have HST : Hid (∀ (h : q < s.size), ((s[q].toNat : Nat) : Int) = 93) := fun _ => h93
      have hbn : nextIs s q 93 = true := by rw [nextIs_at hql, h93]; rfl
      have hbq : (((s[q].toNat : Nat) : Int) != 93) = false := by rw [h93]; rfl
      clear h93
      go_wp2_with fail
      refine wp_region_quiet_lit (by kernel_rfl) (by kernel_rfl) (Qt.out ?_)
      refine Qt.step (fun K hK => ?_)
      go_simp
      refine hK _ ?_
      clear hK K
      refine Qt.step (fun K hK => ?_)
      go_simp
      refine hK _ ?_
      clear hK K
      refine Qt.step (fun K hK => ?_)
      go_simp
      refine hK _ ?_
      clear hK K
      refine Qt.step (fun K hK => ?_)
      go_simp
      refine hK _ ?_
      clear hK K
      refine Qt.step (fun K hK => ?_)
      go_simp
      refine hK _ ?_
      clear hK K
      refine Qt.step (fun K hK => ?_)
      go_simp
      refine hK _ ?_
      clear hK K
      refine Qt.step (fun K hK => ?_)
      go_simp
      refine hK _ ?_
      clear hK K
      refine Qt.step (fun K hK => ?_)
      go_simp
      refine hK _ ?_
      clear hK K
      refine Qt.step (fun K hK => ?_)
      go_simp
      refine hK _ ?_
      clear hK K
      refine Qt.step (fun K hK => ?_)
      go_simp
      refine hK _ ?_
      clear hK K
      refine Qt.step (fun K hK => ?_)
      go_simp
      refine hK _ ?_
      clear hK K
      refine Qt.step (fun K hK => ?_)
      go_simp
      refine hK _ ?_
      clear hK K
      refine Qt.step (fun K hK => ?_)
      go_simp
      refine hK _ ?_
      clear hK K
      refine Qt.step (fun K hK => ?_)
      go_simp
      refine hK _ ?_
      clear hK K
      refine Qt.step (fun K hK => ?_)
      go_simp
      refine hK _ ?_
      clear hK K
      refine Qt.step (fun K hK => ?_)
      go_simp
      refine hK _ ?_
      clear hK K
      refine Qt.step (fun K hK => ?_)
      go_simp
      refine hK _ ?_
      clear hK K
      refine Qt.step (fun K hK => ?_)
      go_simp
      refine hK _ ?_
      clear hK K
      refine Qt.step (fun K hK => ?_)
      go_simp
      refine hK _ ?_
      clear hK K
      refine Qt.step (fun K hK => ?_)
      go_simp
      refine hK _ ?_
      clear hK K
      refine Qt.step (fun K hK => ?_)
      go_simp
      refine hK _ ?_
      clear hK K
      refine Qt.step (fun K hK => ?_)
      go_simp
      refine hK _ ?_
      clear hK K
      refine Qt.nil ?_
      intro _ hw'
      obtain ⟨nq1, hw''⟩ := hw'
      subst hw''
      have HS1 := hsd.out.drew nq1
      have HB1 := hbx.out.gb (gb_drew _ R nq1) hne
      have HG1 := gb_trans hg.out (gb_drew _ R nq1)
      have hz1 : (wr.drewN nq1).heap.size = w.heap.size + 1 := hzr
      generalize (wr.drewN nq1) = W5 at HS1 HB1 HG1 hz1 ⊢
      clear c0 c1 hsd hbx hg
      have Hs1 := Hid.mk HS1
      have Hb1 := Hid.mk HB1
      have Hg1 := Hid.mk HG1
      clear HS1 HB1 HG1
      go_wp2_with fail
      have HSw : Hid ((fun (w' : World) => w'.cell? ⟨R, 0, none⟩ = some (.string s) ∧ w'.cell? ⟨R, 1, none⟩ = some (.int .i64 (q : Int))) W5.drew) := ⟨(Hs1.out.drew 1).c0, (Hs1.out.drew 1).c1⟩
      have hsl : ∀ w, (Instr.slice 9 (.string s) (some (.int .i64 ((p : Int) + 1))) (some (.int .i64 (q : Int))) none).run Tryz.prog w = .ok (.string (s.extract (p + 1) q)) w := fun w => by
        have := run_slice_string (P := Tryz.prog) w 9 s .i64 .i64 ((p : Int) + 1) (q : Int) Tryz.underlying9 (by omega) (by omega) (by omega)
        rw [this]; rfl
      refine wp_region_held_drew (S := fun (w' : World) => w'.cell? ⟨R, 0, none⟩ = some (.string s) ∧ w'.cell? ⟨R, 1, none⟩ = some (.int .i64 (q : Int))) (by kernel_rfl) HSw.out (fun _ => ?_)
      refine takeHD (i := 0) (v := .pointer (some ⟨R, 0, none⟩)) (some 102) rfl rfl (by kernel_rfl) (by kernel_rfl) (by kernel_rfl) (fun _ _ _ h => h) (Or.inl ⟨by kernel_rfl, fun w' hw => ?_⟩) HSw.out ?_
      · obtain ⟨hw0, hw1⟩ := hw
        go_simp
      simp only [Act.put, List.setIfInBounds_toArray]
      refine takeHD (i := 1) (v := .pointer (some ⟨R, 0, none⟩)) (some 103) rfl rfl (by kernel_rfl) (by kernel_rfl) (by kernel_rfl) (fun _ _ _ h => h) (Or.inl ⟨by kernel_rfl, fun w' hw => ?_⟩) HSw.out ?_
      · obtain ⟨hw0, hw1⟩ := hw
        go_simp
      simp only [Act.put, List.setIfInBounds_toArray]
      refine takeHD (i := 2) (v := .pointer (some ⟨R, 0, none⟩)) (some 104) rfl rfl (by kernel_rfl) (by kernel_rfl) (by kernel_rfl) (fun _ _ _ h => h) (Or.inl ⟨by kernel_rfl, fun w' hw => ?_⟩) HSw.out ?_
      · obtain ⟨hw0, hw1⟩ := hw
        go_simp
      simp only [Act.put, List.setIfInBounds_toArray]
      refine takeHD (i := 3) (v := .string s) (some 105) rfl rfl (by kernel_rfl) (by kernel_rfl) (by kernel_rfl) (fun _ _ _ h => h) (Or.inl ⟨by kernel_rfl, fun w' hw => ?_⟩) HSw.out ?_
      · obtain ⟨hw0, hw1⟩ := hw
        go_simp
      simp only [Act.put, List.setIfInBounds_toArray]
      refine takeHD (i := 4) (v := .int .i64 ((p : Int) + 1)) (some 106) rfl rfl (by kernel_rfl) (by kernel_rfl) (by kernel_rfl) (fun _ _ _ h => h) (Or.inl ⟨by kernel_rfl, fun w' hw => ?_⟩) HSw.out ?_
      · obtain ⟨hw0, hw1⟩ := hw
        go_simp
      simp only [Act.put, List.setIfInBounds_toArray]
      refine takeHD (i := 5) (v := .pointer (some ⟨R, 0, none⟩)) (some 107) rfl rfl (by kernel_rfl) (by kernel_rfl) (by kernel_rfl) (fun _ _ _ h => h) (Or.inl ⟨by kernel_rfl, fun w' hw => ?_⟩) HSw.out ?_
      · obtain ⟨hw0, hw1⟩ := hw
        go_simp
      simp only [Act.put, List.setIfInBounds_toArray]
      refine takeHD (i := 6) (v := .pointer (some ⟨R, 0, none⟩)) (some 108) rfl rfl (by kernel_rfl) (by kernel_rfl) (by kernel_rfl) (fun _ _ _ h => h) (Or.inl ⟨by kernel_rfl, fun w' hw => ?_⟩) HSw.out ?_
      · obtain ⟨hw0, hw1⟩ := hw
        go_simp
      simp only [Act.put, List.setIfInBounds_toArray]
      refine takeHD (i := 7) (v := .pointer (some ⟨R, 1, none⟩)) (some 109) rfl rfl (by kernel_rfl) (by kernel_rfl) (by kernel_rfl) (fun _ _ _ h => h) (Or.inl ⟨by kernel_rfl, fun w' hw => ?_⟩) HSw.out ?_
      · obtain ⟨hw0, hw1⟩ := hw
        go_simp
      simp only [Act.put, List.setIfInBounds_toArray]
      refine takeHD (i := 8) (v := .int .i64 (q : Int)) (some 110) rfl rfl (by kernel_rfl) (by kernel_rfl) (by kernel_rfl) (fun _ _ _ h => h) (Or.inl ⟨by kernel_rfl, fun w' hw => ?_⟩) HSw.out ?_
      · obtain ⟨hw0, hw1⟩ := hw
        go_simp
      simp only [Act.put, List.setIfInBounds_toArray]
      refine takeHD (i := 9) (v := .string (s.extract (p + 1) q)) (some 111) rfl rfl (by kernel_rfl) (by kernel_rfl) (by kernel_rfl) (fun _ _ _ h => h) (Or.inl ⟨by kernel_rfl, fun w' hw => ?_⟩) HSw.out ?_
      · obtain ⟨hw0, hw1⟩ := hw
        go_simp
      simp only [Act.put, List.setIfInBounds_toArray]
      refine takeHD (i := 10) (v := .agg #[.int .i64 3, .string (s.extract (p + 1) q), .slice none 0 0]) (some 112) rfl rfl (by kernel_rfl) (by kernel_rfl) (by kernel_rfl) (fun _ _ _ h => h) (Or.inl ⟨by kernel_rfl, fun w' hw => ?_⟩) HSw.out ?_
      · obtain ⟨hw0, hw1⟩ := hw
        go_simp
      simp only [Act.put, List.setIfInBounds_toArray]
      refine wpAnyH_ready (rs := [11]) (by kernel_rfl) (by simp) ?_
      refine AllReadyH.cons rfl (fun K hK => ?_) AllReadyH.nil
      rw [if_pos (by kernel_rfl)]
      go_wp2_with fail
      refine hK.out _ _ ⟨((Hs1.out.grow ((Below.refl _ _).alloc (Nat.le_refl _) _)).drew 1).c0, ((Hs1.out.grow ((Below.refl _ _).alloc (Nat.le_refl _) _)).drew 1).c1⟩ (fun _ => ?_)
      clear hK K
      refine wpAnyH_ready (rs := [12]) (by kernel_rfl) (by simp) ?_
      refine AllReadyH.cons rfl (fun K hK => ?_) AllReadyH.nil
      rw [if_pos (by kernel_rfl)]
      go_wp2_with fail
      refine hK.out _ _ ⟨((Hs1.out.grow ((Below.refl _ _).alloc (Nat.le_refl _) _)).drew 1).c0, ((Hs1.out.grow ((Below.refl _ _).alloc (Nat.le_refl _) _)).drew 1).c1⟩ (fun _ => ?_)
      clear hK K
      refine wpAnyH_done (by kernel_rfl) ?_ _
      have hal : Below W5.heap.size W5 (W5.alloc (.cells #[.int .i64 3, .string (s.extract (p + 1) q), .slice none 0 0] 187)) := (Below.refl _ _).alloc (Nat.le_refl _) _
      have hS6 : Sds (W5.alloc (.cells #[.int .i64 3, .string (s.extract (p + 1) q), .slice none 0 0] 187)).drew R s q false d := (Hs1.out.grow hal).drew 1
      have hB6 : Bx3 (W5.alloc (.cells #[.int .i64 3, .string (s.extract (p + 1) q), .slice none 0 0] 187)).drew w.heap.size (.int .i64 0) (.string ⟨#[]⟩) (.slice none 0 0) := (Hb1.out.kept (hal.block _ Hb1.out.lt)).gb (gb_drew _ R 1) hne
      have hX6 : Bx3 (W5.alloc (.cells #[.int .i64 3, .string (s.extract (p + 1) q), .slice none 0 0] 187)).drew (w.heap.size + 1) (.int .i64 3) (.string (s.extract (p + 1) q)) (.slice none 0 0) := by
        have := Bx3.new W5 (.int .i64 3) (.string (s.extract (p + 1) q)) (.slice none 0 0)
        rw [hz1] at this
        exact this
      have hG6 : w.grownBy (W5.alloc (.cells #[.int .i64 3, .string (s.extract (p + 1) q), .slice none 0 0] 187)).drew (some R) := gb_trans (gb_below Hg1.out hal) (gb_drew _ R 1)
      generalize (W5.alloc (.cells #[.int .i64 3, .string (s.extract (p + 1) q), .slice none 0 0] 187)).drew = W6 at hS6 hB6 hX6 hG6 ⊢
      have HS6 := Hid.mk hS6
      have HB6 := Hid.mk hB6
      have HX6 := Hid.mk hX6
      have HG6 := Hid.mk hG6
      have HTW := Hid.mk (set_found s (p + 1) q hq1 hq2 hall.out HST.out)
      have HXE : Hid (s.extract (p + 1) q = strOf (((txt s).drop (p + 1)).takeWhile ne93)) := by show _ = _; rw [extract_txt s (p + 1) q hq1 hq2, HTW.out]
      have hxne : w.heap.size + 1 ≠ R := by omega
      clear hS6 hB6 hX6 hG6 hal Hs1 Hb1 Hg1 HSw hsl HST
      have HE2 : Hid (rdAtom (rd n) ((txt s).drop p) = some (.node 3 (s.extract (p + 1) q) [], (txt s).drop (q + 1))) := by
        show _ = _
        have hl : (((txt s).drop (p + 1)).takeWhile ne93).length = q - (p + 1) := by rw [HTW.out, List.length_take, List.length_drop, txt_length]; omega
        rw [HE.out, rdSet, if_pos (by rw [hl, List.length_drop, txt_length]; omega), hl, ← HXE.out, List.drop_drop]
        congr 2
        congr 1
        omega
      have HOS := Hid.mk (fun (w : World) (B : Nat → Prop) => ow_string w B 3 (((txt s).drop (p + 1)).takeWhile ne93) (by rw [HTW.out, List.length_take, List.length_drop, txt_length]; omega))
      rw [← HXE.out] at HOS
      have HT := Hid.mk (l3Is_any s R q false d 93 W6 HS6.out hq2 hs true (by rw [hbn]; rfl))
      obtain ⟨ZZ, hZ⟩ : ∃ ZZ, s.extract (p + 1) q = ZZ := ⟨_, rfl⟩
      rw [hZ] at HE2 HOS HX6
      clear HTW HXE
      go_wp2_with fail
      refine HT.out.mono ?_
      rintro e w8 ⟨rfl, hg8, hr8, hz8⟩
      have HB8 := Hid.mk (HB6.out.gb hg8 hne)
      have HG8 := Hid.mk (gb_trans HG6.out hg8)
      have HX8 := Hid.mk (HX6.out.gb hg8 hxne)
      have HS8 : Hid (Sds w8 R s (q + 1) false d) := hr8
      have x0 := HX8.out.c0
      have x1 := HX8.out.c1
      have x2 := HX8.out.c2
      clear HT hg8 hr8 hz8 HB6 HG6 HS6 HX6
      have c0 := HB8.out.c0
      have c1 := HB8.out.c1
      have c2 := HB8.out.c2
      have f0 := HB8.out.fr
      go_wp2
      have hput := HB8.out.put (.int .i64 3) (.string ZZ) (.slice none 0 0)
      have hgp := gb_set3 HG8.out (Nat.le_refl _) (.int .i64 3) (.string ZZ) (.slice none 0 0)
      have hrp := HS8.out.set3 (Ne.symm hne) (.int .i64 3) (.string ZZ) (.slice none 0 0)
      unfold set3 at hput hgp hrp
      generalize ((w8.setCell ⟨w.heap.size, 0, none⟩ (.int .i64 3)).setCell ⟨w.heap.size, 1, none⟩ (.string ZZ)).setCell ⟨w.heap.size, 2, none⟩ (.slice none 0 0) = W at hput hgp hrp ⊢
      have r0 := hput.c0
      have r1 := hput.c1
      have r2 := hput.c2
      refine bodyPost_ret (v := .agg #[.int .i64 3, .string ZZ, .slice none 0 0]) ?_ rfl ⟨hgp, .node 3 ZZ [], _, q + 1, rfl, (HOS.out w anyBlock).1, Ow.none _, by omega, by omega, Or.inr ⟨HE2.out, by omega, hrp⟩⟩
      simp [results, Tryz.results137, go_sem, r0, r1, r2]
    · have hbq : (((s[q].toNat : Nat) : Int) != 93) = true := by simpa using h93
      have hall2 : Hid (∀ j (h : j < s.size), p + 1 ≤ j → j < q + 1 → ((s[j].toNat : Nat) : Int) ≠ 93) := by
        intro j hj h1 h2
        by_cases hj2 : j < q
        · exact hall.out j hj h1 hj2
        · obtain rfl : j = q := by omega
          exact h93
      clear h93 hall
      go_wp2_with fail
      refine wp_region_quiet_lit (by kernel_rfl) (by kernel_rfl) (Qt.out ?_)
      refine Qt.step (fun K hK => ?_)
      go_simp
      refine hK _ ?_
      clear hK K
      refine Qt.step (fun K hK => ?_)
      go_simp
      refine hK _ ?_
      clear hK K
      refine Qt.step (fun K hK => ?_)
      go_simp
      refine hK _ ?_
      clear hK K
      refine Qt.step (fun K hK => ?_)
      go_simp
      refine hK _ ?_
      clear hK K
      refine Qt.step (fun K hK => ?_)
      go_simp
      refine hK _ ?_
      clear hK K
      refine Qt.step (fun K hK => ?_)
      go_simp
      refine hK _ ?_
      clear hK K
      refine Qt.step (fun K hK => ?_)
      go_simp
      refine hK _ ?_
      clear hK K
      refine Qt.step (fun K hK => ?_)
      go_simp
      refine hK _ ?_
      clear hK K
      refine Qt.step (fun K hK => ?_)
      go_simp
      refine hK _ ?_
      clear hK K
      refine Qt.step (fun K hK => ?_)
      go_simp
      refine hK _ ?_
      clear hK K
      refine Qt.step (fun K hK => ?_)
      go_simp
      refine hK _ ?_
      clear hK K
      refine Qt.step (fun K hK => ?_)
      go_simp
      refine hK _ ?_
      clear hK K
      refine Qt.step (fun K hK => ?_)
      go_simp
      refine hK _ ?_
      clear hK K
      refine Qt.step (fun K hK => ?_)
      go_simp
      refine hK _ ?_
      clear hK K
      refine Qt.step (fun K hK => ?_)
      go_simp
      refine hK _ ?_
      clear hK K
      refine Qt.step (fun K hK => ?_)
      go_simp
      refine hK _ ?_
      clear hK K
      refine Qt.step (fun K hK => ?_)
      go_simp
      refine hK _ ?_
      clear hK K
      refine Qt.step (fun K hK => ?_)
      go_simp
      refine hK _ ?_
      clear hK K
      refine Qt.step (fun K hK => ?_)
      go_simp
      refine hK _ ?_
      clear hK K
      refine Qt.step (fun K hK => ?_)
      go_simp
      refine hK _ ?_
      clear hK K
      refine Qt.step (fun K hK => ?_)
      go_simp
      refine hK _ ?_
      clear hK K
      refine Qt.step (fun K hK => ?_)
      go_simp
      refine hK _ ?_
      clear hK K
      refine Qt.nil ?_
      intro _ hw'
      obtain ⟨nq1, hw''⟩ := hw'
      subst hw''
      have HS1 := hsd.out.drew nq1
      have HB1 := hbx.out.gb (gb_drew _ R nq1) hne
      have HG1 := gb_trans hg.out (gb_drew _ R nq1)
      have hz1 : (wr.drewN nq1).heap.size = w.heap.size + 1 := hzr
      generalize (wr.drewN nq1) = W5 at HS1 HB1 HG1 hz1 ⊢
      have HS2 : Hid (Sds (W5.setCell ⟨R, 1, none⟩ (.int .i64 ((q : Int) + 1))) R s (q + 1) false d) := by
        have := HS1.put1 (q + 1)
        rwa [show ((q + 1 : Nat) : Int) = (q : Int) + 1 by omega] at this
      have HB2 := Hid.mk (HB1.kept (w' := W5.setCell ⟨R, 1, none⟩ (.int .i64 ((q : Int) + 1))) (heap_setCell_other _ _ _ _ hne))
      have HG2 := Hid.mk (gb_put HG1 1 (.int .i64 ((q : Int) + 1)))
      have e1 := HS1.c1
      have e2 := HS1.fr 1
      clear HS1 HB1 HG1 hsd hbx hg c0 c1
      go_wp2
      go_roundg (s.size - (q + 1))
      case measure => omega
      case rel => exact ⟨q + 1, by omega, by omega, rfl, by simp [hz1], HG2, HS2, HB2, hall2⟩
end Go.Proofs.YtgigalcajgjpnaaGreat
