/- Marked tokens that are held, as the laws ask it. -/
import Derived.Test.YtapcbblfcmdbnaaDoorMarkTok
namespace Go.Proofs.YtapcbblfcmdbnaaDoor
open Go.RowKit
set_option maxRecDepth 8000

theorem marksT_get (j n i : Nat) (h' : i < (marksT j n).length) : (marksT j n)[i] = mkTk (j + 3 * i) := by simp [marksT]

set_option maxHeartbeats 1000000 in
theorem heldTokenS_marks (j n : Nat) (v : Value) (w : World) (h : Tl w (marksT j n) v) (hn : n ≤ 1048576) (hj : j ≤ 1048576) :
    Calls Tryd.prog 19 #[v, .int .i64 (j : Int)] w fun e w' => e = .returned (.int .i64 ((j + 3 * n : Nat) : Int)) ∧ Below w.heap.size w w' := by
  have HT : Hid (∀ (k : Nat) (i : Int), i = (k : Int) → k ≤ 1073741824 → ∀ w', Calls Tryd.prog 42 #[.int .i64 i] w' fun e w'' => e = .returned (.string (mkS k)) ∧ Below w'.heap.size w' w'') := fun k i hi hk w' => by rw [hi]; exact markText_any k w' hk
  obtain ⟨ao, cap, rfl, hl, hm, -, -, hc⟩ := h
  rw [marksT_len] at hl ⊢
  unfold maxLen at hm
  have HC : Hid (∀ k, k < n → ∃ b off, ao = some ⟨b, off, none⟩ ∧ Tk3 w b (off + k * 3) (mkTk (j + 3 * k))) := fun k hk => by
    obtain ⟨b, off, e, hcell⟩ := hc (by intro h0; have := marksT_len j n; rw [h0] at this; simp at this; omega)
    have hk' : k < (marksT j n).length := by rw [marksT_len]; exact hk
    have := hcell k hk'
    rw [marksT_get j n k hk'] at this
    exact ⟨b, off, e, this⟩
  clear hc
  go_enter Tryd.func19, Tryd.ntmps19
  go_wp2
  go_loopw [1, 5] (fun q i wr => ∃ (k : Nat), k ≤ n ∧ i = .int .i64 k ∧ q = .int .i64 ((j + 3 * k : Nat) : Int) ∧ Hid (Below w.heap.size w wr)) (fun _ i _ => n - (intOf i).toNat)
  case atStart => exact ⟨0, Nat.zero_le _, rfl, rfl, Below.refl _ _⟩
  case round =>
    obtain ⟨k, hk, rfl, rfl, HB⟩ := hrel
    by_cases hkl : k < n
    · obtain ⟨b, off, rfl, h4⟩ := HC.out k hkl
      have hbl := World.block_lt_of_cell? w _ h4.1
      obtain ⟨c0, c1, c2⟩ := h4.kept (w' := wr) (HB.out.block b hbl)
      have hki : (k : Int) < (n : Int) := by omega
      obtain ⟨q, hq⟩ : ∃ q : Int, ((j + 3 * k : Nat) : Int) = q := ⟨_, rfl⟩
      have HCT := Hid.mk (HT.out (j + 3 * k + 2) (q + 1 + 1) (by omega) (by omega))
      obtain ⟨ms, hms⟩ : ∃ ms, mkS (j + 3 * k + 2) = ms := ⟨_, rfl⟩
      simp only [mkTk] at c0 c1 c2
      rw [hq] at c0 c1 ⊢
      rw [hms] at c2 HCT
      have hq0 : 0 ≤ q := by omega
      have hq1 : q ≤ 8388608 := by omega
      have HQ := Hid.mk hq
      have g0 : (q != q) = false := by simp
      have g1 : (q + 1 != q + 1) = false := by simp
      have gs : (ms.toList != ms.toList) = false := by simp
      have cA := Hid.mk (fun d os => Calls.regrown_of (w := wr) (d := d) (os := os) (HCT.out _))
      have a2 := cell_regrown c2
      have hwl : b < wr.heap.size := Nat.lt_of_lt_of_le hbl HB.out.size
      clear hms hq h4 HCT
      go_wp2_with fail
      refine wp_region_quiet_below (by kernel_rfl) (by kernel_rfl) ?_
      quiet_step (fail)
      quiet_step (fail)
      quiet_step (fail)
      quiet_step (fail)
      quiet_step (fail)
      quiet_step (fail)
      quiet_step (exact cA.out _ _)
      quiet_step (fail)
      refine wpQuiet_nil ?_
      intro w6 hw'
      obtain ⟨⟨dq, osq⟩, hw''⟩ := hw'
      have hb6 : Below wr.heap.size wr w6 := by rw [hw'']; exact below_regrown _ _ _
      have HB2 := Hid.mk (HB.out.trans (hb6.mono HB.out.size))
      clear hw'' a2 cA hb6 HB c0 c1 c2
      go_wp2
      go_roundw
      case rel => exact ⟨k + 1, by omega, by go_num, by have := HQ.out; congr 1; omega, HB2⟩
      case measure => simp [intOf]; omega
    · have e : k = n := by omega
      subst e
      go_wp2
      go_ret
      exact ⟨rfl, HB.out⟩
end Go.Proofs.YtapcbblfcmdbnaaDoor
