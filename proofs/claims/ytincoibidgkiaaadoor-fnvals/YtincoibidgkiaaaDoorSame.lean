/- TextOf, SameVal and LessVal: the program's and the document's model's. -/
import Derived.Test.YtincoibidgkiaaaDoorTextOf
import Derived.Test.YtincoibidgkiaaaDoorNumOf
import Derived.Test.YtincoibidgkiaaaDoorPutVal
import Derived.Lib.QuietBelow
namespace Go.Proofs.YtincoibidgkiaaaDoor
open Go.RowKit Go.Sort
set_option maxRecDepth 8000

/-- The library's table of powers lies as its text lays it. -/
def Tab (w : World) : Prop := Lib.TabIs Tryd.prog w "internal/strconv.uint64pow10" .u64 Lib.pow10Tab

theorem Tab.grow {w w' : World} (h : Tab w) (hb : Below w.heap.size w w') : Tab w' := Lib.tabBelow_of_tabIs h w' hb

/-- A number as a machine's int holds it. -/
def Int64 (n : Int) : Prop := -9223372036854775808 ≤ n ∧ n ≤ 9223372036854775807

def txtV (k n : Int) (s : ByteArray) : ByteArray := if k = 1 then numS n else s

theorem implTextOf_any (k n : Int) (s : ByteArray) (w : World) (hn : Int64 n) (ht : Tab w) :
    Calls Tryd.prog 14 #[vl k n s] w fun e w' => e = .returned (.string (txtV k n s)) ∧ Below w.heap.size w w' := by
  by_cases h1 : k = 1
  · subst h1
    have H : Hid (txtV 1 n s = numS n) := by show _ = _; simp [txtV]
    have hti := isInt_int (vl 1 n s)
    have B3 : Below w.heap.size w ((boxed (boxed w 1 n s 25) 1 n s 25).alloc (.cells #[.int .i64 1, .int .i64 n, .string s] 59)) :=
      (((Below.refl _ _).alloc (Nat.le_refl _) _).alloc (by simp) _).alloc (by simp; omega) _
    have HT := Hid.mk (ht.grow B3)
    clear ht
    go_enter Tryd.func14, Tryd.ntmps14
    go_wp2_with fail
    refine (valueOf_int _ _ _).mono ?_
    rintro e w' ⟨rfl, rfl⟩
    go_wp2_with fail
    refine (Tryd.strconv_Itoa n hn.1 hn.2 _ HT.out).mono ?_
    rintro e w4 ⟨rfl, kk, os, rfl⟩
    have B4 := B3.trans (Lib.below_grow w.heap.size _ (by simp; omega) kk os)
    go_wp2
    go_ret
    exact ⟨ret_str (by rw [H.out]; rfl), B4⟩
  · have H : Hid (txtV k n s = s) := by show _ = _; simp [txtV, h1]
    by_cases h2 : k = 2
    · subst h2
      have hti := isInt_text (vl 2 n s)
      go_enter Tryd.func14, Tryd.ntmps14
      go_wp2_with (go_at_call 33; refine (valueOf_text _ _ _).mono ?_; rintro e w' ⟨rfl, rfl⟩)
      go_ret
      exact ⟨ret_str (by rw [H.out]), ((Below.refl _ _).alloc (Nat.le_refl _) _).alloc (by simp) _⟩
    · go_enter Tryd.func14, Tryd.ntmps14
      go_wp2_with (go_at_call 33; refine (valueOf_neither _ _ _ _ h1 h2).mono ?_; rintro e w' ⟨i, rfl, ht, hti, rfl⟩)
      go_ret
      exact ⟨ret_str (by rw [H.out]), ((Below.refl _ _).alloc (Nat.le_refl _) _).alloc (by simp) _⟩

theorem specTextOf_any (k n : Int) (s : ByteArray) (w : World) (hn : Int64 n) :
    Calls Tryd.prog 26 #[vl k n s] w fun e w' => e = .returned (.string (txtV k n s)) ∧ Below w.heap.size w w' := by
  by_cases h1 : k = 1
  · subst h1
    have H : Hid (txtV 1 n s = numS n) := by show _ = _; simp [txtV]
    have B1 : Below w.heap.size w (boxed w 1 n s 25) := (Below.refl _ _).alloc (Nat.le_refl _) _
    go_enter Tryd.func26, Tryd.ntmps26
    go_wp2_with fail
    refine (l2Num_ind n.natAbs n _ rfl hn.1 hn.2).mono ?_
    rintro e w2 ⟨rfl, hb⟩
    have B2 := B1.trans (hb.mono (by simp))
    go_wp2
    go_ret
    exact ⟨ret_str (by rw [H.out]), B2⟩
  · have H : Hid (txtV k n s = s) := by show _ = _; simp [txtV, h1]
    go_enter Tryd.func26, Tryd.ntmps26
    go_wp2
    go_ret
    exact ⟨ret_str (by rw [H.out]), (Below.refl _ _).alloc (Nat.le_refl _) _⟩

/-- Whether one of two is a text. -/
def anyB (k j : Int) : Bool := k == 2 || j == 2

theorem anyText_any (k n : Int) (s : ByteArray) (j m : Int) (u : ByteArray) (w : World) :
    Calls Tryd.prog 50 #[vl k n s, vl j m u] w fun e w' => e = .returned (.bool (anyB k j)) ∧ Below w.heap.size w w' := by
  by_cases h1 : k = 2
  · have H : Hid (anyB k j = true) := by show _ = _; simp [anyB, h1]
    go_enter Tryd.func50, Tryd.ntmps50
    go_wp2
    go_ret
    exact ⟨ret_bool (by rw [H.out]), ((Below.refl _ _).alloc (Nat.le_refl _) _).alloc (by simp) _⟩
  · have H : Hid (anyB k j = (j == 2)) := by show _ = _; simp [anyB, h1]
    have h1' : (k == 2) = false := by simpa using h1
    go_enter Tryd.func50, Tryd.ntmps50
    go_wp2
    go_ret
    exact ⟨ret_bool (by rw [H.out]), ((Below.refl _ _).alloc (Nat.le_refl _) _).alloc (by simp) _⟩

theorem anyB_no {k j : Int} (h : anyB k j = false) : k ≠ 2 ∧ j ≠ 2 := by simpa [anyB] using h
theorem anyB_yes {k j : Int} (h : anyB k j = true) : k = 2 ∨ (k ≠ 2 ∧ j = 2) := by
  by_cases hk : k = 2
  · exact Or.inl hk
  · exact Or.inr ⟨hk, by simpa [anyB, hk] using h⟩

def sameB (k n : Int) (s : ByteArray) (j m : Int) (u : ByteArray) : Bool := if anyB k j = true then (txtV k n s).toList == (txtV j m u).toList else n == m
theorem sameB_true (k n : Int) (s : ByteArray) (j m : Int) (u : ByteArray) (h : anyB k j = true) : sameB k n s j m u = ((txtV k n s).toList == (txtV j m u).toList) := by unfold sameB; rw [if_pos h]
theorem sameB_false (k n : Int) (s : ByteArray) (j m : Int) (u : ByteArray) (h : anyB k j = false) : sameB k n s j m u = (n == m) := by unfold sameB; rw [if_neg (by simp [h])]

def lessB (k n : Int) (s : ByteArray) (j m : Int) (u : ByteArray) : Bool := if anyB k j = true then Op.bytesLess (txtV k n s).toList (txtV j m u).toList else decide (n < m)
theorem lessB_true (k n : Int) (s : ByteArray) (j m : Int) (u : ByteArray) (h : anyB k j = true) : lessB k n s j m u = (Op.bytesLess (txtV k n s).toList (txtV j m u).toList) := by unfold lessB; rw [if_pos h]
theorem lessB_false (k n : Int) (s : ByteArray) (j m : Int) (u : ByteArray) (h : anyB k j = false) : lessB k n s j m u = decide (n < m) := by unfold lessB; rw [if_neg (by simp [h])]

set_option maxHeartbeats 1000000 in
theorem implSameVal_any (k n : Int) (s : ByteArray) (j m : Int) (u : ByteArray) (w : World) (hn : Int64 n) (hm : Int64 m) (hs : s.size ≤ 1048576) (hu : u.size ≤ 1048576) (ht : Tab w) :
    Calls Tryd.prog 21 #[vl k n s, vl j m u] w fun e w' => e = .returned (.bool (sameB k n s j m u)) ∧ Below w.heap.size w w' := by
  have B0 : Below w.heap.size w (boxed (boxed w k n s 25) j m u 25) := ((Below.refl _ _).alloc (Nat.le_refl _) _).alloc (by simp) _
  have HT := Hid.mk (ht.grow B0)
  clear ht
  have HA := Hid.mk (fun w => anyText_any k n s j m u w)
  cases hk : anyB k j with
  | true =>
    have HF := Hid.mk (sameB_true k n s j m u hk)
    rw [hk] at HA
    clear hk
    go_enter Tryd.func21, Tryd.ntmps21
    go_wp2_with fail
    refine (HA.out _).mono ?_
    rintro e w1 ⟨rfl, hb1⟩
    have HT1 := Hid.mk (HT.out.grow hb1)
    have s1 := hb1.size
    simp at s1
    have B1 := B0.trans (hb1.mono (by simp; omega))
    have hA := fun o => hb1.cell (p := ⟨w.heap.size, o, none⟩) (by simp; omega)
    have hB := fun o => hb1.cell (p := ⟨w.heap.size + 1, o, none⟩) (by simp)
    have a0 := cell_regrown (w := w1) (a := ⟨w.heap.size, 0, none⟩) (v := .int .i64 k) (by rw [hA]; simp)
    have a1 := cell_regrown (w := w1) (a := ⟨w.heap.size, 1, none⟩) (v := .int .i64 n) (by rw [hA]; simp)
    have a2 := cell_regrown (w := w1) (a := ⟨w.heap.size, 2, none⟩) (v := .string s) (by rw [hA]; simp)
    have b0 := cell_regrown (w := w1) (a := ⟨w.heap.size + 1, 0, none⟩) (v := .int .i64 j) (by rw [hB]; simp)
    have b1 := cell_regrown (w := w1) (a := ⟨w.heap.size + 1, 1, none⟩) (v := .int .i64 m) (by rw [hB]; simp)
    have b2 := cell_regrown (w := w1) (a := ⟨w.heap.size + 1, 2, none⟩) (v := .string u) (by rw [hB]; simp)
    have cA := Hid.mk (fun d os => Calls.regrown_of (implTextOf_any k n s _ hn (HT1.out.grow (below_regrown w1 d os))))
    have cB := Hid.mk (fun d os => Calls.regrown_of (implTextOf_any j m u _ hm (HT1.out.grow (below_regrown w1 d os))))
    clear hA hB hb1 HT HT1 HA
    go_wp2_with fail
    refine wp_region_quiet_below (by kernel_rfl) (by kernel_rfl) ?_
    quiet_step (fail)
    quiet_step (exact cA.out _ _)
    quiet_step (fail)
    quiet_step (exact cB.out _ _)
    quiet_step (fail)
    quiet_step (fail)
    refine wpQuiet_nil ?_
    intro _ hw'
    obtain ⟨⟨dq, osq⟩, hw''⟩ := hw'
    subst hw''
    clear a0 a1 a2 b0 b1 b2 cA cB
    go_wp2
    go_ret
    exact ⟨ret_bool (by rw [HF.out]), B1.trans ((below_regrown _ dq osq).mono (by omega))⟩
  | false =>
    have HF := Hid.mk (sameB_false k n s j m u hk)
    obtain ⟨hk1, hk2⟩ := anyB_no hk
    have hvA : numV k n s = n := by simp [numV, hk1]
    have hvB : numV j m u = m := by simp [numV, hk2]
    rw [hk] at HA
    clear hk
    go_enter Tryd.func21, Tryd.ntmps21
    go_wp2_with fail
    refine (HA.out _).mono ?_
    rintro e w1 ⟨rfl, hb1⟩
    have HT1 := Hid.mk (HT.out.grow hb1)
    have s1 := hb1.size
    simp at s1
    have B1 := B0.trans (hb1.mono (by simp; omega))
    have hA := fun o => hb1.cell (p := ⟨w.heap.size, o, none⟩) (by simp; omega)
    have hB := fun o => hb1.cell (p := ⟨w.heap.size + 1, o, none⟩) (by simp)
    have a0 := cell_regrown (w := w1) (a := ⟨w.heap.size, 0, none⟩) (v := .int .i64 k) (by rw [hA]; simp)
    have a1 := cell_regrown (w := w1) (a := ⟨w.heap.size, 1, none⟩) (v := .int .i64 n) (by rw [hA]; simp)
    have a2 := cell_regrown (w := w1) (a := ⟨w.heap.size, 2, none⟩) (v := .string s) (by rw [hA]; simp)
    have b0 := cell_regrown (w := w1) (a := ⟨w.heap.size + 1, 0, none⟩) (v := .int .i64 j) (by rw [hB]; simp)
    have b1 := cell_regrown (w := w1) (a := ⟨w.heap.size + 1, 1, none⟩) (v := .int .i64 m) (by rw [hB]; simp)
    have b2 := cell_regrown (w := w1) (a := ⟨w.heap.size + 1, 2, none⟩) (v := .string u) (by rw [hB]; simp)
    have cA := Hid.mk (fun d os => Calls.regrown_of (w := w1) (d := d) (os := os) (implNumOf_any k n s _ hs))
    have cB := Hid.mk (fun d os => Calls.regrown_of (w := w1) (d := d) (os := os) (implNumOf_any j m u _ hu))
    rw [hvA] at cA
    rw [hvB] at cB
    clear hvA hvB
    clear hA hB hb1 HT HT1 HA
    go_wp2_with fail
    refine wp_region_quiet_below (by kernel_rfl) (by kernel_rfl) ?_
    quiet_step (fail)
    quiet_step (exact cA.out _ _)
    quiet_step (fail)
    quiet_step (exact cB.out _ _)
    quiet_step (fail)
    quiet_step (fail)
    refine wpQuiet_nil ?_
    intro _ hw'
    obtain ⟨⟨dq, osq⟩, hw''⟩ := hw'
    subst hw''
    clear a0 a1 a2 b0 b1 b2 cA cB
    go_wp2
    go_ret
    exact ⟨ret_bool (by rw [HF.out]), B1.trans ((below_regrown _ dq osq).mono (by omega))⟩

set_option maxHeartbeats 1000000 in
theorem specSameVal_any (k n : Int) (s : ByteArray) (j m : Int) (u : ByteArray) (w : World) (hn : Int64 n) (hm : Int64 m) :
    Calls Tryd.prog 22 #[vl k n s, vl j m u] w fun e w' => e = .returned (.bool (sameB k n s j m u)) ∧ Below w.heap.size w w' := by
  have B0 : Below w.heap.size w (boxed (boxed w k n s 25) j m u 25) := ((Below.refl _ _).alloc (Nat.le_refl _) _).alloc (by simp) _
  cases hk : anyB k j with
  | true =>
    have HF := Hid.mk (sameB_true k n s j m u hk)
    have B1 := B0
    rcases anyB_yes hk with hk1 | ⟨hk1, hk2⟩
    · have hb : (k != 2) = false := by simpa using hk1
      clear hk1
      clear hk
      have a0 := cell_regrown (w := boxed (boxed w k n s 25) j m u 25) (a := ⟨w.heap.size, 0, none⟩) (v := .int .i64 k) (by simp)
      have a1 := cell_regrown (w := boxed (boxed w k n s 25) j m u 25) (a := ⟨w.heap.size, 1, none⟩) (v := .int .i64 n) (by simp)
      have a2 := cell_regrown (w := boxed (boxed w k n s 25) j m u 25) (a := ⟨w.heap.size, 2, none⟩) (v := .string s) (by simp)
      have b0 := cell_regrown (w := boxed (boxed w k n s 25) j m u 25) (a := ⟨w.heap.size + 1, 0, none⟩) (v := .int .i64 j) (by simp)
      have b1 := cell_regrown (w := boxed (boxed w k n s 25) j m u 25) (a := ⟨w.heap.size + 1, 1, none⟩) (v := .int .i64 m) (by simp)
      have b2 := cell_regrown (w := boxed (boxed w k n s 25) j m u 25) (a := ⟨w.heap.size + 1, 2, none⟩) (v := .string u) (by simp)
      have cA := Hid.mk (fun d os => Calls.regrown_of (w := boxed (boxed w k n s 25) j m u 25) (d := d) (os := os) (specTextOf_any k n s _ hn))
      have cB := Hid.mk (fun d os => Calls.regrown_of (w := boxed (boxed w k n s 25) j m u 25) (d := d) (os := os) (specTextOf_any j m u _ hm))
      go_enter Tryd.func22, Tryd.ntmps22
      go_wp2_with fail
      refine wp_region_quiet_below (by kernel_rfl) (by kernel_rfl) ?_
      quiet_step (fail)
      quiet_step (exact cA.out _ _)
      quiet_step (fail)
      quiet_step (exact cB.out _ _)
      quiet_step (fail)
      quiet_step (fail)
      refine wpQuiet_nil ?_
      intro _ hw'
      obtain ⟨⟨dq, osq⟩, hw''⟩ := hw'
      subst hw''
      clear a0 a1 a2 b0 b1 b2 cA cB
      go_wp2
      go_ret
      exact ⟨ret_bool (by rw [HF.out]), B1.trans ((below_regrown _ dq osq).mono (by simp; omega))⟩
    · have hb : (k != 2) = true := by simpa using hk1
      have hb2 : (j != 2) = false := by simpa using hk2
      clear hk1 hk2
      clear hk
      have a0 := cell_regrown (w := boxed (boxed w k n s 25) j m u 25) (a := ⟨w.heap.size, 0, none⟩) (v := .int .i64 k) (by simp)
      have a1 := cell_regrown (w := boxed (boxed w k n s 25) j m u 25) (a := ⟨w.heap.size, 1, none⟩) (v := .int .i64 n) (by simp)
      have a2 := cell_regrown (w := boxed (boxed w k n s 25) j m u 25) (a := ⟨w.heap.size, 2, none⟩) (v := .string s) (by simp)
      have b0 := cell_regrown (w := boxed (boxed w k n s 25) j m u 25) (a := ⟨w.heap.size + 1, 0, none⟩) (v := .int .i64 j) (by simp)
      have b1 := cell_regrown (w := boxed (boxed w k n s 25) j m u 25) (a := ⟨w.heap.size + 1, 1, none⟩) (v := .int .i64 m) (by simp)
      have b2 := cell_regrown (w := boxed (boxed w k n s 25) j m u 25) (a := ⟨w.heap.size + 1, 2, none⟩) (v := .string u) (by simp)
      have cA := Hid.mk (fun d os => Calls.regrown_of (w := boxed (boxed w k n s 25) j m u 25) (d := d) (os := os) (specTextOf_any k n s _ hn))
      have cB := Hid.mk (fun d os => Calls.regrown_of (w := boxed (boxed w k n s 25) j m u 25) (d := d) (os := os) (specTextOf_any j m u _ hm))
      go_enter Tryd.func22, Tryd.ntmps22
      go_wp2_with fail
      refine wp_region_quiet_below (by kernel_rfl) (by kernel_rfl) ?_
      quiet_step (fail)
      quiet_step (exact cA.out _ _)
      quiet_step (fail)
      quiet_step (exact cB.out _ _)
      quiet_step (fail)
      quiet_step (fail)
      refine wpQuiet_nil ?_
      intro _ hw'
      obtain ⟨⟨dq, osq⟩, hw''⟩ := hw'
      subst hw''
      clear a0 a1 a2 b0 b1 b2 cA cB
      go_wp2
      go_ret
      exact ⟨ret_bool (by rw [HF.out]), B1.trans ((below_regrown _ dq osq).mono (by simp; omega))⟩
  | false =>
    have HF := Hid.mk (sameB_false k n s j m u hk)
    obtain ⟨hk1, hk2⟩ := anyB_no hk
    have hb : (k != 2) = true := by simpa using hk1
    have hb2 : (j != 2) = true := by simpa using hk2
    clear hk
    go_enter Tryd.func22, Tryd.ntmps22
    go_wp2
    go_ret
    exact ⟨ret_bool (by rw [HF.out]), B0⟩

set_option maxHeartbeats 1000000 in
theorem implLessVal_any (k n : Int) (s : ByteArray) (j m : Int) (u : ByteArray) (w : World) (hn : Int64 n) (hm : Int64 m) (hs : s.size ≤ 1048576) (hu : u.size ≤ 1048576) (ht : Tab w) :
    Calls Tryd.prog 20 #[vl k n s, vl j m u] w fun e w' => e = .returned (.bool (lessB k n s j m u)) ∧ Below w.heap.size w w' := by
  have B0 : Below w.heap.size w (boxed (boxed w k n s 25) j m u 25) := ((Below.refl _ _).alloc (Nat.le_refl _) _).alloc (by simp) _
  have HT := Hid.mk (ht.grow B0)
  clear ht
  have HA := Hid.mk (fun w => anyText_any k n s j m u w)
  cases hk : anyB k j with
  | true =>
    have HF := Hid.mk (lessB_true k n s j m u hk)
    rw [hk] at HA
    clear hk
    go_enter Tryd.func20, Tryd.ntmps20
    go_wp2_with fail
    refine (HA.out _).mono ?_
    rintro e w1 ⟨rfl, hb1⟩
    have HT1 := Hid.mk (HT.out.grow hb1)
    have s1 := hb1.size
    simp at s1
    have B1 := B0.trans (hb1.mono (by simp; omega))
    have hA := fun o => hb1.cell (p := ⟨w.heap.size, o, none⟩) (by simp; omega)
    have hB := fun o => hb1.cell (p := ⟨w.heap.size + 1, o, none⟩) (by simp)
    have a0 := cell_regrown (w := w1) (a := ⟨w.heap.size, 0, none⟩) (v := .int .i64 k) (by rw [hA]; simp)
    have a1 := cell_regrown (w := w1) (a := ⟨w.heap.size, 1, none⟩) (v := .int .i64 n) (by rw [hA]; simp)
    have a2 := cell_regrown (w := w1) (a := ⟨w.heap.size, 2, none⟩) (v := .string s) (by rw [hA]; simp)
    have b0 := cell_regrown (w := w1) (a := ⟨w.heap.size + 1, 0, none⟩) (v := .int .i64 j) (by rw [hB]; simp)
    have b1 := cell_regrown (w := w1) (a := ⟨w.heap.size + 1, 1, none⟩) (v := .int .i64 m) (by rw [hB]; simp)
    have b2 := cell_regrown (w := w1) (a := ⟨w.heap.size + 1, 2, none⟩) (v := .string u) (by rw [hB]; simp)
    have cA := Hid.mk (fun d os => Calls.regrown_of (implTextOf_any k n s _ hn (HT1.out.grow (below_regrown w1 d os))))
    have cB := Hid.mk (fun d os => Calls.regrown_of (implTextOf_any j m u _ hm (HT1.out.grow (below_regrown w1 d os))))
    clear hA hB hb1 HT HT1 HA
    go_wp2_with fail
    refine wp_region_quiet_below (by kernel_rfl) (by kernel_rfl) ?_
    quiet_step (fail)
    quiet_step (exact cA.out _ _)
    quiet_step (fail)
    quiet_step (exact cB.out _ _)
    quiet_step (fail)
    quiet_step (fail)
    refine wpQuiet_nil ?_
    intro _ hw'
    obtain ⟨⟨dq, osq⟩, hw''⟩ := hw'
    subst hw''
    clear a0 a1 a2 b0 b1 b2 cA cB
    go_wp2
    go_ret
    exact ⟨ret_bool (by rw [HF.out]), B1.trans ((below_regrown _ dq osq).mono (by omega))⟩
  | false =>
    have HF := Hid.mk (lessB_false k n s j m u hk)
    obtain ⟨hk1, hk2⟩ := anyB_no hk
    have hvA : numV k n s = n := by simp [numV, hk1]
    have hvB : numV j m u = m := by simp [numV, hk2]
    rw [hk] at HA
    clear hk
    go_enter Tryd.func20, Tryd.ntmps20
    go_wp2_with fail
    refine (HA.out _).mono ?_
    rintro e w1 ⟨rfl, hb1⟩
    have HT1 := Hid.mk (HT.out.grow hb1)
    have s1 := hb1.size
    simp at s1
    have B1 := B0.trans (hb1.mono (by simp; omega))
    have hA := fun o => hb1.cell (p := ⟨w.heap.size, o, none⟩) (by simp; omega)
    have hB := fun o => hb1.cell (p := ⟨w.heap.size + 1, o, none⟩) (by simp)
    have a0 := cell_regrown (w := w1) (a := ⟨w.heap.size, 0, none⟩) (v := .int .i64 k) (by rw [hA]; simp)
    have a1 := cell_regrown (w := w1) (a := ⟨w.heap.size, 1, none⟩) (v := .int .i64 n) (by rw [hA]; simp)
    have a2 := cell_regrown (w := w1) (a := ⟨w.heap.size, 2, none⟩) (v := .string s) (by rw [hA]; simp)
    have b0 := cell_regrown (w := w1) (a := ⟨w.heap.size + 1, 0, none⟩) (v := .int .i64 j) (by rw [hB]; simp)
    have b1 := cell_regrown (w := w1) (a := ⟨w.heap.size + 1, 1, none⟩) (v := .int .i64 m) (by rw [hB]; simp)
    have b2 := cell_regrown (w := w1) (a := ⟨w.heap.size + 1, 2, none⟩) (v := .string u) (by rw [hB]; simp)
    have cA := Hid.mk (fun d os => Calls.regrown_of (w := w1) (d := d) (os := os) (implNumOf_any k n s _ hs))
    have cB := Hid.mk (fun d os => Calls.regrown_of (w := w1) (d := d) (os := os) (implNumOf_any j m u _ hu))
    rw [hvA] at cA
    rw [hvB] at cB
    clear hvA hvB
    clear hA hB hb1 HT HT1 HA
    go_wp2_with fail
    refine wp_region_quiet_below (by kernel_rfl) (by kernel_rfl) ?_
    quiet_step (fail)
    quiet_step (exact cA.out _ _)
    quiet_step (fail)
    quiet_step (exact cB.out _ _)
    quiet_step (fail)
    quiet_step (fail)
    refine wpQuiet_nil ?_
    intro _ hw'
    obtain ⟨⟨dq, osq⟩, hw''⟩ := hw'
    subst hw''
    clear a0 a1 a2 b0 b1 b2 cA cB
    go_wp2
    go_ret
    exact ⟨ret_bool (by rw [HF.out]), B1.trans ((below_regrown _ dq osq).mono (by omega))⟩

set_option maxHeartbeats 1000000 in
theorem specLessVal_any (k n : Int) (s : ByteArray) (j m : Int) (u : ByteArray) (w : World) (hn : Int64 n) (hm : Int64 m) :
    Calls Tryd.prog 28 #[vl k n s, vl j m u] w fun e w' => e = .returned (.bool (lessB k n s j m u)) ∧ Below w.heap.size w w' := by
  have B0 : Below w.heap.size w (boxed (boxed w k n s 25) j m u 25) := ((Below.refl _ _).alloc (Nat.le_refl _) _).alloc (by simp) _
  cases hk : anyB k j with
  | true =>
    have HF := Hid.mk (lessB_true k n s j m u hk)
    have B1 := B0
    rcases anyB_yes hk with hk1 | ⟨hk1, hk2⟩
    · have hb : (k != 2) = false := by simpa using hk1
      clear hk1
      clear hk
      have a0 := cell_regrown (w := boxed (boxed w k n s 25) j m u 25) (a := ⟨w.heap.size, 0, none⟩) (v := .int .i64 k) (by simp)
      have a1 := cell_regrown (w := boxed (boxed w k n s 25) j m u 25) (a := ⟨w.heap.size, 1, none⟩) (v := .int .i64 n) (by simp)
      have a2 := cell_regrown (w := boxed (boxed w k n s 25) j m u 25) (a := ⟨w.heap.size, 2, none⟩) (v := .string s) (by simp)
      have b0 := cell_regrown (w := boxed (boxed w k n s 25) j m u 25) (a := ⟨w.heap.size + 1, 0, none⟩) (v := .int .i64 j) (by simp)
      have b1 := cell_regrown (w := boxed (boxed w k n s 25) j m u 25) (a := ⟨w.heap.size + 1, 1, none⟩) (v := .int .i64 m) (by simp)
      have b2 := cell_regrown (w := boxed (boxed w k n s 25) j m u 25) (a := ⟨w.heap.size + 1, 2, none⟩) (v := .string u) (by simp)
      have cA := Hid.mk (fun d os => Calls.regrown_of (w := boxed (boxed w k n s 25) j m u 25) (d := d) (os := os) (specTextOf_any k n s _ hn))
      have cB := Hid.mk (fun d os => Calls.regrown_of (w := boxed (boxed w k n s 25) j m u 25) (d := d) (os := os) (specTextOf_any j m u _ hm))
      go_enter Tryd.func28, Tryd.ntmps28
      go_wp2_with fail
      refine wp_region_quiet_below (by kernel_rfl) (by kernel_rfl) ?_
      quiet_step (fail)
      quiet_step (exact cA.out _ _)
      quiet_step (fail)
      quiet_step (exact cB.out _ _)
      quiet_step (fail)
      quiet_step (fail)
      refine wpQuiet_nil ?_
      intro _ hw'
      obtain ⟨⟨dq, osq⟩, hw''⟩ := hw'
      subst hw''
      clear a0 a1 a2 b0 b1 b2 cA cB
      go_wp2
      go_ret
      exact ⟨ret_bool (by rw [HF.out]), B1.trans ((below_regrown _ dq osq).mono (by simp; omega))⟩
    · have hb : (k != 2) = true := by simpa using hk1
      have hb2 : (j != 2) = false := by simpa using hk2
      clear hk1 hk2
      clear hk
      have a0 := cell_regrown (w := boxed (boxed w k n s 25) j m u 25) (a := ⟨w.heap.size, 0, none⟩) (v := .int .i64 k) (by simp)
      have a1 := cell_regrown (w := boxed (boxed w k n s 25) j m u 25) (a := ⟨w.heap.size, 1, none⟩) (v := .int .i64 n) (by simp)
      have a2 := cell_regrown (w := boxed (boxed w k n s 25) j m u 25) (a := ⟨w.heap.size, 2, none⟩) (v := .string s) (by simp)
      have b0 := cell_regrown (w := boxed (boxed w k n s 25) j m u 25) (a := ⟨w.heap.size + 1, 0, none⟩) (v := .int .i64 j) (by simp)
      have b1 := cell_regrown (w := boxed (boxed w k n s 25) j m u 25) (a := ⟨w.heap.size + 1, 1, none⟩) (v := .int .i64 m) (by simp)
      have b2 := cell_regrown (w := boxed (boxed w k n s 25) j m u 25) (a := ⟨w.heap.size + 1, 2, none⟩) (v := .string u) (by simp)
      have cA := Hid.mk (fun d os => Calls.regrown_of (w := boxed (boxed w k n s 25) j m u 25) (d := d) (os := os) (specTextOf_any k n s _ hn))
      have cB := Hid.mk (fun d os => Calls.regrown_of (w := boxed (boxed w k n s 25) j m u 25) (d := d) (os := os) (specTextOf_any j m u _ hm))
      go_enter Tryd.func28, Tryd.ntmps28
      go_wp2_with fail
      refine wp_region_quiet_below (by kernel_rfl) (by kernel_rfl) ?_
      quiet_step (fail)
      quiet_step (exact cA.out _ _)
      quiet_step (fail)
      quiet_step (exact cB.out _ _)
      quiet_step (fail)
      quiet_step (fail)
      refine wpQuiet_nil ?_
      intro _ hw'
      obtain ⟨⟨dq, osq⟩, hw''⟩ := hw'
      subst hw''
      clear a0 a1 a2 b0 b1 b2 cA cB
      go_wp2
      go_ret
      exact ⟨ret_bool (by rw [HF.out]), B1.trans ((below_regrown _ dq osq).mono (by simp; omega))⟩
  | false =>
    have HF := Hid.mk (lessB_false k n s j m u hk)
    obtain ⟨hk1, hk2⟩ := anyB_no hk
    have hb : (k != 2) = true := by simpa using hk1
    have hb2 : (j != 2) = true := by simpa using hk2
    clear hk
    go_enter Tryd.func28, Tryd.ntmps28
    go_wp2
    go_ret
    exact ⟨ret_bool (by rw [HF.out]), B0⟩
end Go.Proofs.YtincoibidgkiaaaDoor
