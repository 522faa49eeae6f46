/- The program's PutS: a copy of the bytes handed in, and behind them the wrapped number, with its sign, in groups of seven bits. -/
import Derived.Test.YtincoibidgkiaaaDoorImplPutU
import Derived.Test.YtincoibidgkiaaaDoorSpecPutS
namespace Go.Proofs.YtincoibidgkiaaaDoor
open Go.RowKit

set_option maxHeartbeats 800000 in
theorem appendS_one (base nb : Nat) (v : Value) (xs : List Int) (n : Int) (w : World) (ho : Own w base v xs) (hbase : base ≤ w.heap.size) (hlen : xs.length ≤ 16777216)
    (hcell : w.cell? ⟨nb, 0, none⟩ = some (.int .i64 n)) :
    Calls Tryd.prog 55 #[v, .slice (some ⟨nb, 0, none⟩) 1 1] w fun e w' => ∃ v', e = .returned v' ∧ Own w' base v' (xs ++ Ma.SG (Ma.wr n)) ∧ Below base w w' := by
  obtain ⟨N, HN⟩ : ∃ N, Hid (Ma.wr n = N) := ⟨_, rfl⟩
  rw [HN.out]
  have hN0 : -2147483648 ≤ N := by rw [← HN.out]; exact Ma.wr_lo n
  have hN1 : N ≤ 2147483647 := by rw [← HN.out]; exact Ma.wr_hi n
  go_enter Tryd.func55, Tryd.ntmps55
  go_wp2
  go_loopw [0, 6, 9] (fun v' _ i wr => (i = .int .i64 0 ∧ v' = v ∧ wr = w) ∨ (i = .int .i64 1 ∧ Own wr base v' (xs ++ Ma.SG N) ∧ Below base w wr)) (fun _ _ i _ => 1 - (intOf i).toNat)
  case atStart => exact Or.inl ⟨rfl, rfl, rfl⟩
  case round =>
    rcases hrel with ⟨rfl, rfl, rfl⟩ | ⟨rfl, hown, hbel⟩
    · obtain ⟨wo, rfl⟩ : ∃ wo : World, wo = wr := ⟨_, rfl⟩
      go_wp2_with (go_at_call 59; refine (implWrap_any _ _).mono ?_; rintro e w2 ⟨rfl, hw⟩; obtain rfl := hw.symm; clear hw; rw [HN.out])
      go_loopw [0, 6] (fun v' q wr => ∃ (pre : List Int) (m : Int), q = .int .i64 m ∧ -2147483648 ≤ m ∧ m ≤ 2147483647 ∧ Hid (pre ++ Ma.SG m = Ma.SG N) ∧ Own wr base v' (xs ++ pre) ∧ Below base wo wr ∧ base ≤ wr.heap.size) (fun _ q _ => (intOf q).natAbs)
      case atStart =>
        exact ⟨[], N, rfl, hN0, hN1, rfl, by rw [List.append_nil]; exact ho, Below.refl _ _, hbase⟩
      case round =>
        obtain ⟨pre, m, rfl, hm0, hm1, hpre, hownr, hbelr, hszr⟩ := hrel
        clear ho hbase hcell
        have e1 := i64_and127 m
        have e2 := Ma.low7_128 m
        have e3 : 0 ≤ m % 128 := by omega
        have e4 : m % 128 < 128 := by omega
        have hp := sg_pre hpre.out
        rcases (by omega : m < -64 ∨ (-64 ≤ m ∧ 63 < m) ∨ (-64 ≤ m ∧ m ≤ 63)) with h1 | ⟨h1, h2⟩ | ⟨h1, h2⟩
        case' inl => have hr := Hid.mk (sg_round hpre.out (Or.inl h1) hm0 hm1)
        case' inr.inl => have hr := Hid.mk (sg_round hpre.out (Or.inr h2) hm0 hm1)
        case inl | inr.inl =>
          have hb1 := Bs.one wr (m % 128 + 128) (by omega) (by omega)
          go_wp2_with (at_builtin; refine wpList_append_bs rfl _ _ rfl base _ _ (xs ++ pre) [m % 128 + 128] rfl (hownr.alloc _) rfl hb1 (hbelr.alloc hszr _) (by simp; omega) (by simp; omega) ?_)
          intro v2 w2 hown2 hbel2 hsz2
          have hown3 : Own w2 base v2 (xs ++ (pre ++ [m % 128 + 128])) := by first | exact hown2 | exact hown2.assoc
          clear hb1 hpre hownr hbelr hszr hown2
          go_wp2
          go_roundw
          case rel => exact ⟨pre ++ [m % 128 + 128], m / 128, rfl, by omega, by omega, hr, hown3, hbel2, hsz2⟩
          case measure => simp [intOf]; omega
        case inr.inr =>
          have hb1 := Bs.one wr (m % 128) (by omega) (by omega)
          go_wp2_with (at_builtin; refine wpList_append_bs rfl _ _ rfl base _ _ (xs ++ pre) [m % 128] rfl (hownr.alloc _) rfl hb1 (hbelr.alloc hszr _) (by simp; omega) (by simp; omega) ?_)
          intro v2 w2 hown2 hbel2 hsz2
          have hown3 : Own w2 base v2 (xs ++ (pre ++ [m % 128])) := by first | exact hown2 | exact hown2.assoc
          rw [← Ma.SG_last m (by omega) (by omega), hpre.out] at hown3
          clear hb1 hpre hownr hbelr hszr hown2
          go_wp2
          go_roundw
          case rel => exact Or.inr ⟨rfl, hown3, hbel2⟩
          case measure => simp [intOf]
    · go_wp2
      go_ret
      exact ⟨_, rfl, hown, hbel⟩

theorem implPutS_any (v : Value) (zs : List Int) (n : Int) (w : World) (h : Bs w v zs) (hlen : zs.length ≤ 16777216) :
    Calls Tryd.prog 60 #[v, .int .i64 n] w fun e w' => ∃ v', e = .returned v' ∧
      Own w' w.heap.size v' (zs ++ Ma.SG (Ma.wr n)) ∧ Below w.heap.size w w' := by
  have H := Hid.mk h
  clear h
  go_enter Tryd.func60, Tryd.ntmps60
  go_wp2_with fail
  refine (ownCopy_any v zs w H.out hlen).mono ?_
  rintro e w1 ⟨v1, rfl, hown, hbel⟩
  have hsz := hbel.size
  go_wp2_with fail
  refine (appendS_one w.heap.size w1.heap.size v1 zs n _ (hown.alloc _) (by simp; omega) hlen (cell_num w1 n)).mono ?_
  rintro e w2 ⟨v2, rfl, hown2, hbel2⟩
  have hb3 := (hbel.alloc hsz (.cells #[.int .i64 n] 3)).trans hbel2
  clear hown hbel hbel2
  go_wp2
  go_ret
  exact ⟨v2, rfl, hown2, hb3⟩
end Go.Proofs.YtincoibidgkiaaaDoor
