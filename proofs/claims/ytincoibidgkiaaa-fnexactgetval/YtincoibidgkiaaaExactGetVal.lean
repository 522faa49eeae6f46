/- The law FnExactGetVal walked: the program's GetVal answers as the document's model of it, and writes into no argument. -/
import Derived.Test.YtincoibidgkiaaaGetVal
namespace Go.Proofs.Ytincoibidgkiaaa
open Go.RowKit

/-- A value against itself: the same. -/
theorem eqVal_same (k n : Int) (s : ByteArray) (w : World) :
    Calls Try.prog 55 #[vl k n s, vl k n s] w fun e w' => e = .returned (.bool true) ∧ Below w.heap.size w w' := by
  have h1 : (k != k) = false := by simp
  have h2 : (n != n) = false := by simp
  have h3 : (s.toList != s.toList) = false := by simp
  go_enter Try.func55, Try.ntmps55
  go_wp2
  go_ret
  exact ⟨rfl, ((Below.refl _ _).alloc (Nat.le_refl _) _).alloc (by simp) _⟩

theorem parts5 (r : Int × Int × ByteArray × Int × Bool) : ∃ k n s r2 r3, Hid (r = (k, n, s, r2, r3)) := ⟨r.1, r.2.1, r.2.2.1, r.2.2.2.1, r.2.2.2.2, rfl⟩

set_option maxHeartbeats 1000000 in
theorem fnExactGetVal_small (v : Value) (zs : List Int) (a : Int) (w : World) (h : Bs w v zs) (hlen : zs.length ≤ 1048576) :
    Calls Try.prog 17 #[v, .int .i64 a] w fun e w' => e = .returned (.bool true) ∧ Below w.heap.size w w' := by
  obtain ⟨k, n, s, r2, r3, Hr⟩ := parts5 (gV zs a)
  have hbz := h.1
  have HS : Hid (∀ v w, Bs w v zs → Calls Try.prog 53 #[v, .int .i64 a] w fun e w' => e = .returned (.tuple #[vl k n s, .int .i64 r2, .bool r3]) ∧ Below w.heap.size w w') := by
    intro v w h1
    have := specGetVal_any v zs a w h1 (by omega)
    rw [Hr.out] at this
    exact this
  have HI : Hid (∀ v w, Bs w v zs → Calls Try.prog 54 #[v, .int .i64 a] w fun e w' => e = .returned (.tuple #[vl k n s, .int .i64 r2, .bool r3]) ∧ Below w.heap.size w w') := by
    intro v w h1
    have := implGetVal_any v zs a w h1 (by omega)
    rw [Hr.out] at this
    exact this
  clear Hr
  obtain ⟨ao, cap, hv⟩ : ∃ ao cap, v = .slice ao zs.length cap := by obtain ⟨_, ao, cap, e, _⟩ := h; exact ⟨ao, cap, e⟩
  subst hv
  go_enter Try.func17, Try.ntmps17
  go_wp2_with fail
  refine (toByteS_any _ zs _ h (by omega)).mono ?_
  rintro e w1 ⟨rfl, ho1, hb1⟩
  have hO1 : Own w1 w.heap.size _ zs := ho1
  clear ho1
  go_wp2_with fail
  refine (HS.out _ w1 (hO1.bs hbz)).mono ?_
  rintro e w2 ⟨rfl, hb2⟩
  have B2 : Below w.heap.size w (boxed w2 k n s 46) := (hb1.trans (hb2.mono hb1.size)).alloc (Nat.le_trans hb1.size hb2.size) _
  have s2 : w.heap.size ≤ w2.heap.size := Nat.le_trans hb1.size hb2.size
  have e2 : (boxed w2 k n s 46).heap.size = w2.heap.size + 1 := by simp
  have HT := Hid.mk (toByteS_any _ zs _ (h.grow B2) (by omega))
  rw [e2] at HT
  clear hO1 hb1 hb2 e2
  go_wp2_with fail
  refine HT.out.mono ?_
  rintro e w3 ⟨rfl, ho3, hb3⟩
  have hX : Own w3 (w2.heap.size + 1) _ zs := ho3
  have B3 := B2.trans (hb3.mono (by omega))
  have C3 : Below (w2.heap.size + 1) (boxed w2 k n s 46) w3 := hb3
  have s3 := C3.size
  simp at s3
  clear ho3 hb3 B2
  go_wp2_with fail
  refine (HI.out _ w3 (hX.bs hbz)).mono ?_
  rintro e w4 ⟨rfl, hb4⟩
  have B4 : Below w.heap.size w (boxed w4 k n s 46) := (B3.trans (hb4.mono (by omega))).alloc (by have := hb4.size; omega) _
  have C4 : Below (w2.heap.size + 1) (boxed w2 k n s 46) w4 := C3.trans (hb4.mono (by omega))
  have s4 := C4.size
  simp at s4
  have hX4 := (hX.grow hb4).alloc (.cells #[.int .i64 k, .int .i64 n, .string s] 46)
  have hc := fun o => C4.cell (p := ⟨w2.heap.size, o, none⟩) (by simp)
  have hne : w4.heap.size ≠ w2.heap.size := by omega
  have hlt : w2.heap.size < w4.heap.size := by omega
  clear hX B3 hb4 C3 C4
  go_wp2_with fail
  refine (eqVal_same k n s _).mono ?_
  rintro e w5 ⟨rfl, hb5⟩
  have B5 := B4.trans (hb5.mono (by simp; omega))
  have hX5 := hX4.grow hb5
  have s5 := B5.size
  have hk2 : (r2 != r2) = false := by simp
  have hk3 : (r3 != r3) = false := by simp
  clear B4 hb5 hX4 hc
  go_wp2_with fail
  refine (toByteS_any _ zs _ (h.grow B5) (by omega)).mono ?_
  rintro e w6 ⟨rfl, ho6, hb6⟩
  have hT6 : Own w6 w5.heap.size _ zs := ho6
  have hX6 := hX5.grow hb6
  have B6 := B5.trans (hb6.mono B5.size)
  clear ho6 hX5 hb6 B5
  go_wp2_with fail
  refine (eqByteS_same _ _ zs w6 (hX6.bs hbz) (hT6.bs hbz)).mono ?_
  rintro e w7 ⟨rfl, n7, hw7⟩
  have hb7 : Below w6.heap.size w6 w7 := by rw [hw7]; exact Below.drewSelf _ _ _
  clear hw7
  have B7 := B6.trans (hb7.mono B6.size)
  clear hT6 hX6 hb7 B6
  go_wp2
  go_ret
  exact ⟨rfl, B7⟩

theorem fnExactGetVal_walk (v : Value) (zs : List Int) (a : Int) (w : World) (h : Bs w v zs) :
    Calls Try.prog 17 #[v, .int .i64 a] w fun e w' => e = .returned (.bool true) ∧ Below w.heap.size w w' := by
  by_cases hlen : zs.length ≤ 1048576
  · exact fnExactGetVal_small v zs a w h hlen
  · obtain ⟨ao, cap, rfl⟩ : ∃ ao cap, v = .slice ao zs.length cap := by obtain ⟨_, ao, cap, e, _⟩ := h; exact ⟨ao, cap, e⟩
    clear h
    have hlt : (1048576 : Int) < (zs.length : Int) := by omega
    go_enter Try.func17, Try.ntmps17
    go_wp2
    go_ret
    exact ⟨rfl, Below.refl _ _⟩
end Go.Proofs.Ytincoibidgkiaaa
