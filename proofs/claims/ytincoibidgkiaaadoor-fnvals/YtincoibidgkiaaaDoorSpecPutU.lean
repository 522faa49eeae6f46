/- The document's model of PutU: the bytes handed in, and behind them the number in groups of seven bits, in memory of its own. -/
import Derived.Test.YtincoibidgkiaaaDoorApp
namespace Go.Proofs.YtincoibidgkiaaaDoor
open Go.RowKit

theorem UG_byte (f : Nat) (m : Int) (h0 : 0 ≤ m) : byteList (Ma.uG f m) := by
  induction f generalizing m with
  | zero => intro z hz; simp [Ma.uG] at hz
  | succ f ih =>
    unfold Ma.uG
    split
    · intro z hz
      rcases List.mem_cons.1 hz with rfl | hz
      · omega
      · exact ih (m / 128) (by omega) z hz
    · intro z hz
      simp at hz
      omega

/-- What a round of the loop comes to, and the last byte. -/
theorem ug_round {pre : List Int} {m N : Int} (h : pre ++ Ma.UG m = Ma.UG N) (h0 : 127 < m) (h1 : m ≤ 2147483647) : (pre ++ [m % 128 + 128]) ++ Ma.UG (m / 128) = Ma.UG N := by
  rw [← h, Ma.UG_step m h0 h1]; simp
theorem ug_pre {pre : List Int} {m N : Int} (h : pre ++ Ma.UG m = Ma.UG N) : pre.length ≤ 5 := by
  have := Ma.UG_length N
  rw [← h] at this
  simp at this
  omega

set_option maxHeartbeats 400000 in
theorem specPutU_any (v : Value) (zs : List Int) (n : Int) (w : World) (h : Bs w v zs) (hlen : zs.length ≤ 16777216) :
    Calls Tryd.prog 62 #[v, .int .i64 n] w fun e w' => ∃ v', e = .returned v' ∧
      Own w' w.heap.size v' (zs ++ Ma.UG (Ma.clamp n)) ∧ Below w.heap.size w w' := by
  have hbe : Below w.heap.size w (w.alloc (.cells #[] 5)) := (Below.refl _ _).alloc (Nat.le_refl _) _
  have ho0 : Own (w.alloc (.cells #[] 5)) w.heap.size (.slice (some ⟨w.heap.size, 0, none⟩) 0 0) [] := World.ownsRow_lit w #[] 0 (Nat.le_refl _) (by decide) rfl
  have hb1 := h.grow hbe
  obtain ⟨N, HN⟩ : ∃ N, Hid (Ma.clamp n = N) := ⟨_, rfl⟩
  rw [HN.out]
  have hN0 : 0 ≤ N := by rw [← HN.out]; exact Ma.clamp_lo n
  have hN1 : N ≤ 2147483647 := by rw [← HN.out]; exact Ma.clamp_hi n
  obtain ⟨ao, cap, rfl⟩ : ∃ ao cap, v = .slice ao zs.length cap := by obtain ⟨_, ao, cap, e, _⟩ := h; exact ⟨ao, cap, e⟩
  clear h
  have hcc := Ma.clamp_cases n
  rw [HN.out] at hcc
  rcases hcc with ⟨hn, hv⟩ | ⟨hn, hn2, hv⟩ | ⟨hn, hn2, hv⟩
  all_goals
    have HV := Hid.mk hv
    clear hv HN
    go_enter Tryd.func62, Tryd.ntmps62
    go_wp2_with (at_builtin; refine wpList_append_bs rfl _ _ rfl w.heap.size _ _ [] zs rfl ho0 rfl hb1 hbe (by simp) (by simp; omega) ?_)
    intro v1 w1 hown hbel hsz
    clear hbe ho0 hb1
    go_wp2
    go_loopw [1, 5] (fun q v' wr => ∃ (pre : List Int) (m : Int), q = .int .i64 m ∧ 0 ≤ m ∧ m ≤ 2147483647 ∧ Hid (pre ++ Ma.UG m = Ma.UG N) ∧ Own wr w.heap.size v' (zs ++ pre) ∧ Below w.heap.size w wr ∧ w.heap.size ≤ wr.heap.size) (fun q _ _ => (intOf q).toNat)
    case atStart =>
      exact ⟨[], N, congrArg (Value.int .i64) HV.out, hN0, hN1, rfl, by simpa using hown, hbel, hsz⟩
    case round =>
      obtain ⟨pre, m, rfl, hm0, hm1, hpre, hownr, hbelr, hszr⟩ := hrel
      by_cases hlt : 127 < m
      · have e1 := i64_and127 m
        have e2 := Ma.low7_128 m
        have e3 : 0 ≤ m % 128 := by omega
        have e4 : m % 128 < 128 := by omega
        have hb1 := Bs.one wr (m % 128 + 128) (by omega) (by omega)
        have hp := ug_pre hpre.out
        go_wp2_with (at_builtin; refine wpList_append_bs rfl _ _ rfl w.heap.size _ _ (zs ++ pre) [m % 128 + 128] rfl (hownr.alloc _) rfl hb1 (hbelr.alloc hszr _) (by simp; omega) (by simp; omega) ?_)
        intro v2 w2 hown2 hbel2 hsz2
        have hown3 : Own w2 w.heap.size v2 (zs ++ (pre ++ [m % 128 + 128])) := by first | exact hown2 | exact hown2.assoc
        have hr := Hid.mk (ug_round hpre.out hlt hm1)
        clear hb1 hpre hownr hbelr hszr
        go_wp2
        go_roundw
        case rel => exact ⟨pre ++ [m % 128 + 128], m / 128, rfl, by omega, by omega, hr, hown3, hbel2, hsz2⟩
        case measure => simp [intOf]; omega
      · have hb1 := Bs.one wr m (by omega) (by omega)
        have hp := ug_pre hpre.out
        go_wp2_with (at_builtin; refine wpList_append_bs rfl _ _ rfl w.heap.size _ _ (zs ++ pre) [m] rfl (hownr.alloc _) rfl hb1 (hbelr.alloc hszr _) (by simp; omega) (by simp; omega) ?_)
        intro v2 w2 hown2 hbel2 hsz2
        have hown3 : Own w2 w.heap.size v2 (zs ++ (pre ++ [m])) := by first | exact hown2 | exact hown2.assoc
        rw [← Ma.UG_last m (by omega), hpre.out] at hown3
        clear hb1 hpre hownr hbelr hszr
        go_wp2
        go_ret
        exact ⟨v2, rfl, hown3, hbel2⟩
end Go.Proofs.YtincoibidgkiaaaDoor
