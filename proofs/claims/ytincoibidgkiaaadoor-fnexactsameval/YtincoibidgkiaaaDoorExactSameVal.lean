/- The law FnExactSameVal walked: at every two values the program's SameVal answers what the document's model of it answers. -/
import Derived.Test.YtincoibidgkiaaaDoorSame
namespace Go.Proofs.YtincoibidgkiaaaDoor
open Go.RowKit Go.Sort
set_option maxRecDepth 8000

/-- What is left of a bound, -1 where nothing is. -/
theorem szVal_left (k n : Int) (s : ByteArray) (l : Int) (w : World) (h0 : 0 ≤ l) (h1 : l ≤ 1048576) (hs : s.size ≤ maxLen) :
    Calls Tryd.prog 25 #[vl k n s, .int .i64 l] w fun e w' => e = .returned (.int .i64 (if l < s.size then -1 else l - (s.size : Int))) ∧ Below w.heap.size w w' := by
  unfold maxLen at hs
  by_cases h : l < s.size
  · rw [if_pos h]
    have h2 : l - (s.size : Int) < 0 := by omega
    go_enter Tryd.func25, Tryd.ntmps25
    go_wp2
    go_ret
    exact ⟨rfl, (Below.refl _ _).alloc (Nat.le_refl _) _⟩
  · rw [if_neg h]
    have h2 : ¬ l - (s.size : Int) < 0 := by omega
    go_enter Tryd.func25, Tryd.ntmps25
    go_wp2
    go_ret
    exact ⟨rfl, (Below.refl _ _).alloc (Nat.le_refl _) _⟩

set_option maxHeartbeats 1000000 in
theorem fnExactSameVal_walk (k n : Int) (s : ByteArray) (j m : Int) (u : ByteArray) (w : World) (hs : s.size ≤ maxLen) (hu : u.size ≤ maxLen) (hn : Int64 n) (hm : Int64 m) (ht : Tab w) :
    Calls Tryd.prog 6 #[vl k n s, vl j m u] w fun e w' => e = .returned (.bool true) ∧ Below w.heap.size w w' := by
  have B0 : Below w.heap.size w (boxed (boxed w k n s 40) j m u 40) := ((Below.refl _ _).alloc (Nat.le_refl _) _).alloc (by simp) _
  have HT := Hid.mk ht
  clear ht
  have hbb : (sameB k n s j m u != sameB k n s j m u) = false := by simp
  have HS := Hid.mk (fun w => szVal_left k n s 1048576 w (by omega) (by omega) hs)
  by_cases h : (1048576 : Int) < s.size
  · rw [if_pos h] at HS
    go_enter Tryd.func6, Tryd.ntmps6
    go_wp2_with fail
    refine (HS.out _).mono ?_
    rintro e w1 ⟨rfl, hb1⟩
    have B1 := B0.trans (hb1.mono (by simp; omega))
    clear B0 hb1
    go_wp2
    go_ret
    exact ⟨rfl, B1⟩
  · rw [if_neg h] at HS
    have h1 : ¬ (1048576 : Int) - (s.size : Int) < 0 := by omega
    have HU := Hid.mk (fun w => szVal_left j m u (1048576 - (s.size : Int)) w (by omega) (by omega) hu)
    by_cases h2 : (1048576 : Int) - (s.size : Int) < u.size
    · rw [if_pos h2] at HU
      go_enter Tryd.func6, Tryd.ntmps6
      go_wp2_with fail
      refine (HS.out _).mono ?_
      rintro e w1 ⟨rfl, hb1⟩
      have B1 := B0.trans (hb1.mono (by simp; omega))
      have s1 := hb1.size
      simp at s1
      have hB := fun o => hb1.cell (p := ⟨w.heap.size + 1, o, none⟩) (by simp)
      clear B0 hb1
      go_wp2_with fail
      refine (HU.out _).mono ?_
      rintro e w2 ⟨rfl, hb2⟩
      have B2 := B1.trans (hb2.mono (by omega))
      clear B1 hb2 hB
      go_wp2
      go_ret
      exact ⟨rfl, B2⟩
    · rw [if_neg h2] at HU
      have h3 : ¬ (1048576 : Int) - (s.size : Int) - (u.size : Int) < 0 := by omega
      go_enter Tryd.func6, Tryd.ntmps6
      go_wp2_with fail
      refine (HS.out _).mono ?_
      rintro e w1 ⟨rfl, hb1⟩
      have s1 := hb1.size
      simp at s1
      have C1 : Below (w.heap.size + 2) (boxed (boxed w k n s 40) j m u 40) w1 := hb1.mono (by simp)
      have hB := fun o => hb1.cell (p := ⟨w.heap.size + 1, o, none⟩) (by simp)
      clear hb1
      go_wp2_with fail
      refine (HU.out _).mono ?_
      rintro e w2 ⟨rfl, hb2⟩
      have C2 := C1.trans (hb2.mono (by omega))
      have s2 := hb2.size
      clear hb2 hB C1 HS HU
      have hA := fun o => C2.cell (p := ⟨w.heap.size, o, none⟩) (by simp)
      have hB := fun o => C2.cell (p := ⟨w.heap.size + 1, o, none⟩) (by simp)
      have a0 := cell_regrown (w := w2) (a := ⟨w.heap.size, 0, none⟩) (v := .int .i64 k) (by rw [hA]; simp)
      have a1 := cell_regrown (w := w2) (a := ⟨w.heap.size, 1, none⟩) (v := .int .i64 n) (by rw [hA]; simp)
      have a2 := cell_regrown (w := w2) (a := ⟨w.heap.size, 2, none⟩) (v := .string s) (by rw [hA]; simp)
      have b0 := cell_regrown (w := w2) (a := ⟨w.heap.size + 1, 0, none⟩) (v := .int .i64 j) (by rw [hB]; simp)
      have b1 := cell_regrown (w := w2) (a := ⟨w.heap.size + 1, 1, none⟩) (v := .int .i64 m) (by rw [hB]; simp)
      have b2 := cell_regrown (w := w2) (a := ⟨w.heap.size + 1, 2, none⟩) (v := .string u) (by rw [hB]; simp)
      have cA := Hid.mk (fun d os => Calls.regrown_of (w := w2) (d := d) (os := os) (toVal_any k n s _))
      have cB := Hid.mk (fun d os => Calls.regrown_of (w := w2) (d := d) (os := os) (toVal_any j m u _))
      have cC := Hid.mk (fun d os => Calls.regrown_of (w := w2) (d := d) (os := os) (specSameVal_any k n s j m u _ hn hm))
      clear hA hB
      go_wp2_with fail
      refine wp_region_quiet_below (by kernel_rfl) (by kernel_rfl) ?_
      quiet_step (fail)
      quiet_step (exact cA.out _ _)
      quiet_step (fail)
      quiet_step (exact cB.out _ _)
      quiet_step (exact cC.out _ _)
      quiet_step (fail)
      refine wpQuiet_nil ?_
      intro w3 hw'
      obtain ⟨⟨dq, osq⟩, hw''⟩ := hw'
      have hbw3 : Below w2.heap.size w2 w3 := by rw [hw'']; exact below_regrown _ _ _
      clear hw'' a0 a1 a2 b0 b1 b2 cA cB cC
      have C3 := C2.trans (hbw3.mono (by omega))
      have s3 := hbw3.size
      clear hbw3 C2
      have hA := fun o => C3.cell (p := ⟨w.heap.size, o, none⟩) (by simp)
      have hB := fun o => C3.cell (p := ⟨w.heap.size + 1, o, none⟩) (by simp)
      have a0 := cell_regrown (w := w3) (a := ⟨w.heap.size, 0, none⟩) (v := .int .i64 k) (by rw [hA]; simp)
      have a1 := cell_regrown (w := w3) (a := ⟨w.heap.size, 1, none⟩) (v := .int .i64 n) (by rw [hA]; simp)
      have a2 := cell_regrown (w := w3) (a := ⟨w.heap.size, 2, none⟩) (v := .string s) (by rw [hA]; simp)
      have b0 := cell_regrown (w := w3) (a := ⟨w.heap.size + 1, 0, none⟩) (v := .int .i64 j) (by rw [hB]; simp)
      have b1 := cell_regrown (w := w3) (a := ⟨w.heap.size + 1, 1, none⟩) (v := .int .i64 m) (by rw [hB]; simp)
      have b2 := cell_regrown (w := w3) (a := ⟨w.heap.size + 1, 2, none⟩) (v := .string u) (by rw [hB]; simp)
      have cA := Hid.mk (fun d os => Calls.regrown_of (w := w3) (d := d) (os := os) (toVal_any k n s _))
      have cB := Hid.mk (fun d os => Calls.regrown_of (w := w3) (d := d) (os := os) (toVal_any j m u _))
      have HT3 := Hid.mk (HT.out.grow (B0.trans (C3.mono (by omega))))
      have cC := Hid.mk (fun d os => Calls.regrown_of (implSameVal_any k n s j m u _ hn hm (by omega) (by omega) (HT3.out.grow (below_regrown w3 d os))))
      clear HT HT3
      clear hA hB
      go_wp2_with fail
      refine wp_region_quiet_below (by kernel_rfl) (by kernel_rfl) ?_
      quiet_step (fail)
      quiet_step (exact cA.out _ _)
      quiet_step (fail)
      quiet_step (exact cB.out _ _)
      quiet_step (exact cC.out _ _)
      quiet_step (fail)
      refine wpQuiet_nil ?_
      intro w4 hw'
      obtain ⟨⟨dq, osq⟩, hw''⟩ := hw'
      have hbw4 : Below w3.heap.size w3 w4 := by rw [hw'']; exact below_regrown _ _ _
      clear hw'' a0 a1 a2 b0 b1 b2 cA cB cC
      have B4 := B0.trans ((C3.trans (hbw4.mono (by omega))).mono (by omega))
      clear hbw4 C3
      go_wp2
      go_ret
      exact ⟨rfl, B4⟩
end Go.Proofs.YtincoibidgkiaaaDoor
