/- The program's PutU: a copy of the bytes handed in, and behind them the number in groups of seven bits. -/
import Derived.Test.YtincoibidgkiaaaDoorSpecPutU
namespace Go.Proofs.YtincoibidgkiaaaDoor
open Go.RowKit

theorem ownCopy_any (v : Value) (zs : List Int) (w : World) (h : Bs w v zs) (hlen : zs.length ≤ 16777216) :
    Calls Tryd.prog 35 #[v] w fun e w' => ∃ v', e = .returned v' ∧ Own w' w.heap.size v' zs ∧ Below w.heap.size w w' := by
  obtain ⟨i0, hi, hz0, hz1, hz2⟩ := info_parts info5
  obtain ⟨ao, cap, rfl⟩ : ∃ ao cap, v = .slice ao zs.length cap := by obtain ⟨_, ao, cap, e, _⟩ := h; exact ⟨ao, cap, e⟩
  have H := Hid.mk h
  clear h
  go_enter Tryd.func35, Tryd.ntmps35
  go_wp2_with (at_make; refine wpList_make_own _ rfl _ _ 22 rfl w.heap.size 5 i0 (.int .u8 0) 1 Tryd.underlying22 hi hz0 hz1 _ _ _ (zs.length + 5) rfl rfl (by omega) (by rw [hz2]; omega) (by unfold maxLen; omega) (by simp) ?_)
  intro w1 hown hgrow
  have hbel : Below w.heap.size w w1 := (Below.refl _ _).grown hgrow (Nat.le_refl _) (by simp)
  have hsz : w.heap.size ≤ w1.heap.size := hgrow.size
  have hown' : Own w1 w.heap.size (.slice (some ⟨w.heap.size, 0, none⟩) 0 (zs.length + 5)) [] := hown
  have hb1 := H.out.grow hbel
  clear hown hgrow H
  go_wp2_with (at_builtin; refine wpList_append_bs rfl _ _ rfl w.heap.size _ _ [] zs rfl hown' rfl hb1 hbel hsz (by simp; omega) ?_)
  intro v2 w2 hown2 hbel2 hsz2
  clear hown' hb1 hbel hsz
  go_wp2
  go_ret
  exact ⟨v2, rfl, hown2, hbel2⟩

set_option maxHeartbeats 800000 in
theorem appendU_one (base nb : Nat) (v : Value) (xs : List Int) (n : Int) (w : World) (ho : Own w base v xs) (hbase : base ≤ w.heap.size) (hlen : xs.length ≤ 16777216)
    (hcell : w.cell? ⟨nb, 0, none⟩ = some (.int .i64 n)) :
    Calls Tryd.prog 54 #[v, .slice (some ⟨nb, 0, none⟩) 1 1] w fun e w' => ∃ v', e = .returned v' ∧ Own w' base v' (xs ++ Ma.UG (Ma.clamp n)) ∧ Below base w w' := by
  obtain ⟨N, HN⟩ : ∃ N, Hid (Ma.clamp n = N) := ⟨_, rfl⟩
  rw [HN.out]
  have hN0 : 0 ≤ N := by rw [← HN.out]; exact Ma.clamp_lo n
  have hN1 : N ≤ 2147483647 := by rw [← HN.out]; exact Ma.clamp_hi n
  have hcc := Ma.clamp_cases n
  rw [HN.out] at hcc
  have HC := Hid.mk hcc
  clear hcc HN
  go_enter Tryd.func54, Tryd.ntmps54
  go_wp2
  go_loopw [0, 6, 9] (fun v' _ i wr => (i = .int .i64 0 ∧ v' = v ∧ wr = w) ∨ (i = .int .i64 1 ∧ Own wr base v' (xs ++ Ma.UG N) ∧ Below base w wr)) (fun _ _ i _ => 1 - (intOf i).toNat)
  case atStart => exact Or.inl ⟨rfl, rfl, rfl⟩
  case round =>
    rcases hrel with ⟨rfl, rfl, rfl⟩ | ⟨rfl, hown, hbel⟩
    · obtain ⟨wo, rfl⟩ : ∃ wo : World, wo = wr := ⟨_, rfl⟩
      rcases HC.out with ⟨hn, hv⟩ | ⟨hn, hn2, hv⟩ | ⟨hn, hn2, hv⟩
      all_goals
        have HV := Hid.mk hv
        clear hv HC
        go_wp2
        go_loopw [0, 6] (fun v' q wr => ∃ (pre : List Int) (m : Int), q = .int .i64 m ∧ 0 ≤ m ∧ m ≤ 2147483647 ∧ Hid (pre ++ Ma.UG m = Ma.UG N) ∧ Own wr base v' (xs ++ pre) ∧ Below base wo wr ∧ base ≤ wr.heap.size) (fun _ q _ => (intOf q).toNat)
        case atStart =>
          exact ⟨[], N, congrArg (Value.int .i64) HV.out, hN0, hN1, rfl, by rw [List.append_nil]; exact ho, Below.refl _ _, hbase⟩
        case round =>
          obtain ⟨pre, m, rfl, hm0, hm1, hpre, hownr, hbelr, hszr⟩ := hrel
          have hp := ug_pre hpre.out
          clear ho hbase hcell
          by_cases hlt : 127 < m
          · have e1 := i64_and127 m
            have e2 := Ma.low7_128 m
            have e3 : 0 ≤ m % 128 := by omega
            have e4 : m % 128 < 128 := by omega
            have hb1 := Bs.one wr (m % 128 + 128) (by omega) (by omega)
            go_wp2_with (at_builtin; refine wpList_append_bs rfl _ _ rfl base _ _ (xs ++ pre) [m % 128 + 128] rfl (hownr.alloc _) rfl hb1 (hbelr.alloc hszr _) (by simp; omega) (by simp; omega) ?_)
            intro v2 w2 hown2 hbel2 hsz2
            have hown3 : Own w2 base v2 (xs ++ (pre ++ [m % 128 + 128])) := by first | exact hown2 | exact hown2.assoc
            have hr := Hid.mk (ug_round hpre.out hlt hm1)
            clear hb1 hpre hownr hbelr hszr hown2
            go_wp2
            go_roundw
            case rel => exact ⟨pre ++ [m % 128 + 128], m / 128, rfl, by omega, by omega, hr, hown3, hbel2, hsz2⟩
            case measure => simp [intOf]; omega
          · have hb1 := Bs.one wr m (by omega) (by omega)
            go_wp2_with (at_builtin; refine wpList_append_bs rfl _ _ rfl base _ _ (xs ++ pre) [m] rfl (hownr.alloc _) rfl hb1 (hbelr.alloc hszr _) (by simp; omega) (by simp; omega) ?_)
            intro v2 w2 hown2 hbel2 hsz2
            have hown3 : Own w2 base v2 (xs ++ (pre ++ [m])) := by first | exact hown2 | exact hown2.assoc
            rw [← Ma.UG_last m (by omega), hpre.out] at hown3
            clear hb1 hpre hownr hbelr hszr hown2
            go_wp2
            go_roundw
            case rel => exact Or.inr ⟨rfl, hown3, hbel2⟩
            case measure => simp [intOf]
    · clear HC
      go_wp2
      go_ret
      exact ⟨_, rfl, hown, hbel⟩

/-- A number in a new block. -/
theorem cell_num (w : World) (n : Int) : (w.alloc (.cells #[.int .i64 n] 3)).cell? ⟨w.heap.size, 0, none⟩ = some (.int .i64 n) := by simp

end Go.Proofs.YtincoibidgkiaaaDoor
