/- Values: what the program's valueOf answers, ValOk and Truth, the program's and the document's model's, and the laws' copies. -/
import Derived.Test.YtincoibidgkiaaaDoorBytes
namespace Go.Proofs.YtincoibidgkiaaaDoor
open Go.RowKit
set_option maxRecDepth 8000

/-- A value, as the program has it. -/
abbrev vl (k n : Int) (s : ByteArray) : Value := .agg #[.int .i64 k, .int .i64 n, .string s]

/-- The world with a value in a new box. -/
abbrev boxed (w : World) (k n : Int) (s : ByteArray) (t : Nat) : World := w.alloc (.cells #[.int .i64 k, .int .i64 n, .string s] t)

theorem valueOf_none (n : Int) (s : ByteArray) (w : World) :
    Calls Tryd.prog 33 #[vl 0 n s] w fun e w' => e = .returned (.iface 71 (vl 0 n s)) ∧ w' = boxed w 0 n s 25 := by
  go_enter Tryd.func33, Tryd.ntmps33
  go_wp2
  go_ret
  exact ⟨rfl, rfl⟩

theorem valueOf_int (n : Int) (s : ByteArray) (w : World) :
    Calls Tryd.prog 33 #[vl 1 n s] w fun e w' => e = .returned (.iface 59 (vl 1 n s)) ∧ w' = boxed w 1 n s 25 := by
  go_enter Tryd.func33, Tryd.ntmps33
  go_wp2
  go_ret
  exact ⟨rfl, rfl⟩

theorem valueOf_text (n : Int) (s : ByteArray) (w : World) :
    Calls Tryd.prog 33 #[vl 2 n s] w fun e w' => e = .returned (.iface 65 (vl 2 n s)) ∧ w' = boxed w 2 n s 25 := by
  go_enter Tryd.func33, Tryd.ntmps33
  go_wp2
  go_ret
  exact ⟨rfl, rfl⟩

theorem valueOf_stray (k n : Int) (s : ByteArray) (w : World) (h0 : k ≠ 0) (h1 : k ≠ 1) (h2 : k ≠ 2) :
    Calls Tryd.prog 33 #[vl k n s] w fun e w' => e = .returned (.iface 72 (vl k n s)) ∧ w' = boxed w k n s 25 := by
  go_enter Tryd.func33, Tryd.ntmps33
  go_wp2
  go_ret
  exact ⟨rfl, rfl⟩

/-- Whether a value is right. -/
def okB (k n : Int) (s : ByteArray) : Bool :=
  if k = 0 then n == 0 && s.toList.isEmpty else if k = 1 then Ma.wr n == n && s.toList.isEmpty else if k = 2 then decide ((s.size : Int) ≤ 200) && n == 0 else false

theorem okB0 (n : Int) (s : ByteArray) : okB 0 n s = (n == 0 && s.toList.isEmpty) := by simp [okB]
theorem okB1 (n : Int) (s : ByteArray) : okB 1 n s = (Ma.wr n == n && s.toList.isEmpty) := by simp [okB]
theorem okB2 (n : Int) (s : ByteArray) : okB 2 n s = (decide ((s.size : Int) ≤ 200) && n == 0) := by simp [okB]
theorem okBx (k n : Int) (s : ByteArray) (h0 : k ≠ 0) (h1 : k ≠ 1) (h2 : k ≠ 2) : okB k n s = false := by simp [okB, h0, h1, h2]

theorem ret_bool {a b : Bool} (h : a = b) : Ending.returned (.bool a) = .returned (.bool b) := by rw [h]

theorem noneRight (n : Int) (s : ByteArray) (w : World) :
    Calls Tryd.prog 99 #[vl 0 n s] w fun e w' => e = .returned (.bool (okB 0 n s)) ∧ Below w.heap.size w w' := by
  have H := Hid.mk (okB0 n s)
  by_cases h : n = 0
  all_goals
    go_enter Tryd.func99, Tryd.ntmps99
    go_wp2
    go_ret
    exact ⟨ret_bool (by rw [H.out]; simp [h]), (Below.refl _ _).alloc (Nat.le_refl _) _⟩

theorem intRight (n : Int) (s : ByteArray) (w : World) :
    Calls Tryd.prog 97 #[vl 1 n s] w fun e w' => e = .returned (.bool (okB 1 n s)) ∧ Below w.heap.size w w' := by
  have H := Hid.mk (okB1 n s)
  by_cases h : n = Ma.wr n
  · have h1 : (n == Ma.wr n) = true := by simpa using h
    have HH := Hid.mk h
    clear h
    go_enter Tryd.func97, Tryd.ntmps97
    go_wp2_with fail
    go_quiet ((go_at_call 59; exact Calls.quiet_of_same (implWrap_any _ _)))
    go_wp2
    go_ret
    exact ⟨ret_bool (by rw [H.out]; simp [← HH.out]), ((Below.refl _ _).alloc (Nat.le_refl _) _).trans (Below.drewSelf _ _ _)⟩
  · have h1 : (n == Ma.wr n) = false := by simpa using h
    have HH := Hid.mk h
    clear h
    go_enter Tryd.func97, Tryd.ntmps97
    go_wp2_with fail
    go_quiet ((go_at_call 59; exact Calls.quiet_of_same (implWrap_any _ _)))
    go_wp2
    go_ret
    exact ⟨ret_bool (by rw [H.out]; simp [Ne.symm HH.out]), ((Below.refl _ _).alloc (Nat.le_refl _) _).trans (Below.drewSelf _ _ _)⟩

theorem textRight (n : Int) (s : ByteArray) (w : World) :
    Calls Tryd.prog 98 #[vl 2 n s] w fun e w' => e = .returned (.bool (okB 2 n s)) ∧ Below w.heap.size w w' := by
  have H := Hid.mk (okB2 n s)
  by_cases h : n = 0
  all_goals
    go_enter Tryd.func98, Tryd.ntmps98
    go_wp2
    go_ret
    exact ⟨ret_bool (by rw [H.out]; simp [h]), (Below.refl _ _).alloc (Nat.le_refl _) _⟩

theorem strayRight (k n : Int) (s : ByteArray) (w : World) :
    Calls Tryd.prog 100 #[vl k n s] w fun e w' => e = .returned (.bool false) ∧ Below w.heap.size w w' := by
  go_enter Tryd.func100, Tryd.ntmps100
  go_wp2
  go_ret
  exact ⟨rfl, (Below.refl _ _).alloc (Nat.le_refl _) _⟩

theorem implValOk_any (k n : Int) (s : ByteArray) (w : World) :
    Calls Tryd.prog 11 #[vl k n s] w fun e w' => e = .returned (.bool (okB k n s)) ∧ Below w.heap.size w w' := by
  have B0 : Below w.heap.size w (boxed (boxed w k n s 25) k n s 25) := ((Below.refl _ _).alloc (Nat.le_refl _) _).alloc (by simp) _
  by_cases h0 : k = 0
  · subst h0
    have hm : ∀ w, (method 235 71 (vl 0 n s) "loop.example/g00288/impl.right").run Tryd.prog w = .ok (99, vl 0 n s) w := fun _ => by kernel_rfl
    go_enter Tryd.func11, Tryd.ntmps11
    go_wp2_with fail
    refine (valueOf_none _ _ _).mono ?_
    rintro e w' ⟨rfl, rfl⟩
    go_wp2_with fail
    refine (noneRight _ _ _).mono ?_
    rintro e w' ⟨rfl, hb⟩
    have B1 := B0.trans (hb.mono (by simp; omega))
    clear B0 hb
    go_wp2
    go_ret
    exact ⟨rfl, B1⟩
  by_cases h1 : k = 1
  · subst h1
    have hm : ∀ w, (method 235 59 (vl 1 n s) "loop.example/g00288/impl.right").run Tryd.prog w = .ok (97, vl 1 n s) w := fun _ => by kernel_rfl
    go_enter Tryd.func11, Tryd.ntmps11
    go_wp2_with fail
    refine (valueOf_int _ _ _).mono ?_
    rintro e w' ⟨rfl, rfl⟩
    go_wp2_with fail
    refine (intRight _ _ _).mono ?_
    rintro e w' ⟨rfl, hb⟩
    have B1 := B0.trans (hb.mono (by simp; omega))
    clear B0 hb
    go_wp2
    go_ret
    exact ⟨rfl, B1⟩
  by_cases h2 : k = 2
  · subst h2
    have hm : ∀ w, (method 235 65 (vl 2 n s) "loop.example/g00288/impl.right").run Tryd.prog w = .ok (98, vl 2 n s) w := fun _ => by kernel_rfl
    go_enter Tryd.func11, Tryd.ntmps11
    go_wp2_with fail
    refine (valueOf_text _ _ _).mono ?_
    rintro e w' ⟨rfl, rfl⟩
    go_wp2_with fail
    refine (textRight _ _ _).mono ?_
    rintro e w' ⟨rfl, hb⟩
    have B1 := B0.trans (hb.mono (by simp; omega))
    clear B0 hb
    go_wp2
    go_ret
    exact ⟨rfl, B1⟩
  · have hm : ∀ w, (method 235 72 (vl k n s) "loop.example/g00288/impl.right").run Tryd.prog w = .ok (100, vl k n s) w := fun _ => by kernel_rfl
    have HO := Hid.mk (okBx k n s h0 h1 h2)
    go_enter Tryd.func11, Tryd.ntmps11
    go_wp2_with fail
    refine (valueOf_stray _ _ _ _ h0 h1 h2).mono ?_
    rintro e w' ⟨rfl, rfl⟩
    go_wp2_with fail
    refine (strayRight _ _ _ _).mono ?_
    rintro e w' ⟨rfl, hb⟩
    have B1 := B0.trans (hb.mono (by simp; omega))
    clear B0 hb
    go_wp2
    go_ret
    exact ⟨ret_bool HO.out.symm, B1⟩

theorem specValOk_any (k n : Int) (s : ByteArray) (w : World) :
    Calls Tryd.prog 10 #[vl k n s] w fun e w' => e = .returned (.bool (okB k n s)) ∧ Below w.heap.size w w' := by
  by_cases h0 : k = 0
  · subst h0
    have H := Hid.mk (okB0 n s)
    by_cases h : n = 0
    all_goals
      go_enter Tryd.func10, Tryd.ntmps10
      go_wp2
      go_ret
      exact ⟨ret_bool (by rw [H.out]; simp [h]), (Below.refl _ _).alloc (Nat.le_refl _) _⟩
  by_cases h1 : k = 1
  · subst h1
    have H := Hid.mk (okB1 n s)
    by_cases h : Ma.wr n = n
    · have h1 : (Ma.wr n == n) = true := by simpa using h
      have HH := Hid.mk h
      clear h
      go_enter Tryd.func10, Tryd.ntmps10
      go_wp2_with fail
      go_quiet ((go_at_call 32; exact Calls.quiet_of_same (specWrap_any _ _)))
      go_wp2
      go_ret
      exact ⟨ret_bool (by rw [H.out]; simp [HH.out]), ((Below.refl _ _).alloc (Nat.le_refl _) _).trans (Below.drewSelf _ _ _)⟩
    · have h1 : (Ma.wr n == n) = false := by simpa using h
      have HH := Hid.mk h
      clear h
      go_enter Tryd.func10, Tryd.ntmps10
      go_wp2_with fail
      go_quiet ((go_at_call 32; exact Calls.quiet_of_same (specWrap_any _ _)))
      go_wp2
      go_ret
      exact ⟨ret_bool (by rw [H.out]; simp [HH.out]), ((Below.refl _ _).alloc (Nat.le_refl _) _).trans (Below.drewSelf _ _ _)⟩
  by_cases h2 : k = 2
  · subst h2
    have H := Hid.mk (okB2 n s)
    by_cases h : (s.size : Int) ≤ 200
    all_goals
      go_enter Tryd.func10, Tryd.ntmps10
      go_wp2
      go_ret
      exact ⟨ret_bool (by first | (rw [H.out]; simp [h]; done) | (rw [H.out, decide_eq_false (by omega)]; rfl)), (Below.refl _ _).alloc (Nat.le_refl _) _⟩
  · have HO := Hid.mk (okBx k n s h0 h1 h2)
    go_enter Tryd.func10, Tryd.ntmps10
    go_wp2
    go_ret
    exact ⟨ret_bool HO.out.symm, (Below.refl _ _).alloc (Nat.le_refl _) _⟩

/-- Whether a value is true. -/
def truB (k n : Int) (s : ByteArray) : Bool := if k = 2 then !s.toList.isEmpty else n != 0

/-- The empty text. -/
abbrev noTxt : ByteArray := ⟨#[]⟩

theorem isText_text (v : Value) (w : World) : (Instr.typeAssert (.iface 65 v) 51 65 true).run Tryd.prog w = .ok (.tuple #[v, .bool true]) w := by kernel_rfl
theorem isText_none (v : Value) (w : World) : (Instr.typeAssert (.iface 71 v) 51 65 true).run Tryd.prog w = .ok (.tuple #[vl 0 0 noTxt, .bool false]) w := by kernel_rfl
theorem isText_int (v : Value) (w : World) : (Instr.typeAssert (.iface 59 v) 51 65 true).run Tryd.prog w = .ok (.tuple #[vl 0 0 noTxt, .bool false]) w := by kernel_rfl
theorem isText_stray (v : Value) (w : World) : (Instr.typeAssert (.iface 72 v) 51 65 true).run Tryd.prog w = .ok (.tuple #[vl 0 0 noTxt, .bool false]) w := by kernel_rfl

/-- What valueOf answers of a value that is no text. -/
theorem valueOf_other (k n : Int) (s : ByteArray) (w : World) (h2 : k ≠ 2) :
    Calls Tryd.prog 33 #[vl k n s] w fun e w' => ∃ i, e = .returned i ∧ (∀ w, (Instr.typeAssert i 51 65 true).run Tryd.prog w = .ok (.tuple #[vl 0 0 noTxt, .bool false]) w) ∧ w' = boxed w k n s 25 := by
  by_cases h0 : k = 0
  · subst h0
    exact (valueOf_none n s w).mono (by rintro e w' ⟨rfl, rfl⟩; exact ⟨_, rfl, isText_none _, rfl⟩)
  by_cases h1 : k = 1
  · subst h1
    exact (valueOf_int n s w).mono (by rintro e w' ⟨rfl, rfl⟩; exact ⟨_, rfl, isText_int _, rfl⟩)
  · exact (valueOf_stray k n s w h0 h1 h2).mono (by rintro e w' ⟨rfl, rfl⟩; exact ⟨_, rfl, isText_stray _, rfl⟩)

theorem implTruth_any (k n : Int) (s : ByteArray) (w : World) :
    Calls Tryd.prog 23 #[vl k n s] w fun e w' => e = .returned (.bool (truB k n s)) ∧ Below w.heap.size w w' := by
  by_cases h2 : k = 2
  · subst h2
    have H : Hid (truB 2 n s = !s.toList.isEmpty) := by show _ = _; simp [truB]
    have ht := isText_text (vl 2 n s)
    go_enter Tryd.func23, Tryd.ntmps23
    go_wp2_with (go_at_call 33; refine (valueOf_text _ _ _).mono ?_; rintro e w' ⟨rfl, rfl⟩)
    go_ret
    refine ⟨ret_bool (by rw [H.out]), ?_⟩
    exact (((Below.refl _ _).alloc (Nat.le_refl _) _).alloc (by simp) _).alloc (by simp; omega) _
  · have H : Hid (truB k n s = (n != 0)) := by show _ = _; simp [truB, h2]
    go_enter Tryd.func23, Tryd.ntmps23
    go_wp2_with (go_at_call 33; refine (valueOf_other _ _ _ _ h2).mono ?_; rintro e w' ⟨i, rfl, ht, rfl⟩)
    go_ret
    refine ⟨ret_bool (by rw [H.out]), ?_⟩
    exact ((Below.refl _ _).alloc (Nat.le_refl _) _).alloc (by simp) _

theorem specTruth_any (k n : Int) (s : ByteArray) (w : World) :
    Calls Tryd.prog 24 #[vl k n s] w fun e w' => e = .returned (.bool (truB k n s)) ∧ Below w.heap.size w w' := by
  by_cases h2 : k = 2
  · subst h2
    have H : Hid (truB 2 n s = !s.toList.isEmpty) := by show _ = _; simp [truB]
    go_enter Tryd.func24, Tryd.ntmps24
    go_wp2
    go_ret
    exact ⟨ret_bool (by rw [H.out]), (Below.refl _ _).alloc (Nat.le_refl _) _⟩
  · have H : Hid (truB k n s = (n != 0)) := by show _ = _; simp [truB, h2]
    go_enter Tryd.func24, Tryd.ntmps24
    go_wp2
    go_ret
    exact ⟨ret_bool (by rw [H.out]), (Below.refl _ _).alloc (Nat.le_refl _) _⟩

theorem toVal_any (k n : Int) (s : ByteArray) (w : World) :
    Calls Tryd.prog 27 #[vl k n s] w fun e w' => e = .returned (vl k n s) ∧ Below w.heap.size w w' := by
  go_enter Tryd.func27, Tryd.ntmps27
  go_wp2
  exact bodyPost_ret (v := vl k n s) (by simp [results, Tryd.results27, go_sem]) rfl ⟨rfl, (((Below.refl _ _).alloc (Nat.le_refl _) _).alloc (by simp) _).alloc (by simp; omega) _⟩

theorem szVal_any (k n : Int) (s : ByteArray) (w : World) (hs : s.size ≤ maxLen) :
    Calls Tryd.prog 25 #[vl k n s, .int .i64 1048576] w fun e w' => e = .returned (.int .i64 (if 1048576 < s.size then -1 else 1048576 - (s.size : Int))) ∧ Below w.heap.size w w' := by
  unfold maxLen at hs
  by_cases h : 1048576 < s.size
  · rw [if_pos h]
    have h1 : (1048576 : Int) - (s.size : Int) < 0 := by omega
    go_enter Tryd.func25, Tryd.ntmps25
    go_wp2
    go_ret
    exact ⟨rfl, (Below.refl _ _).alloc (Nat.le_refl _) _⟩
  · rw [if_neg h]
    have h1 : ¬ (1048576 : Int) - (s.size : Int) < 0 := by omega
    go_enter Tryd.func25, Tryd.ntmps25
    go_wp2
    go_ret
    exact ⟨rfl, (Below.refl _ _).alloc (Nat.le_refl _) _⟩
end Go.Proofs.YtincoibidgkiaaaDoor
