/- The document's model of PutS: the bytes handed in, and behind them the wrapped number, with its sign, in groups of seven bits, in memory of its own. -/
import Derived.Test.YtincoibidgkiaaaDoorSpecPutU
namespace Go.Proofs.YtincoibidgkiaaaDoor
open Go.RowKit

theorem SG_byte (f : Nat) (m : Int) : byteList (Ma.sG f m) := by
  induction f generalizing m with
  | zero => intro z hz; simp [Ma.sG] at hz
  | succ f ih =>
    unfold Ma.sG
    split
    · intro z hz
      rcases List.mem_cons.1 hz with rfl | hz
      · omega
      · exact ih (m / 128) z hz
    · intro z hz
      simp at hz
      omega

theorem sg_round {pre : List Int} {m N : Int} (h : pre ++ Ma.SG m = Ma.SG N) (h0 : m < -64 ∨ 63 < m) (h1 : -2147483648 ≤ m) (h2 : m ≤ 2147483647) : (pre ++ [m % 128 + 128]) ++ Ma.SG (m / 128) = Ma.SG N := by
  rw [← h, Ma.SG_step m h0 h1 h2]; simp
theorem sg_pre {pre : List Int} {m N : Int} (h : pre ++ Ma.SG m = Ma.SG N) : pre.length ≤ 5 := by
  have := Ma.SG_length N
  rw [← h] at this
  simp at this
  omega

set_option maxHeartbeats 400000 in
theorem specPutS_any (v : Value) (zs : List Int) (n : Int) (w : World) (h : Bs w v zs) (hlen : zs.length ≤ 16777216) :
    Calls Tryd.prog 63 #[v, .int .i64 n] w fun e w' => ∃ v', e = .returned v' ∧
      Own w' w.heap.size v' (zs ++ Ma.SG (Ma.wr n)) ∧ Below w.heap.size w w' := by
  have hbe : Below w.heap.size w (w.alloc (.cells #[] 5)) := (Below.refl _ _).alloc (Nat.le_refl _) _
  have ho0 : Own (w.alloc (.cells #[] 5)) w.heap.size (.slice (some ⟨w.heap.size, 0, none⟩) 0 0) [] := World.ownsRow_lit w #[] 0 (Nat.le_refl _) (by decide) rfl
  have hb1 := h.grow hbe
  obtain ⟨N, HN⟩ : ∃ N, Hid (Ma.wr n = N) := ⟨_, rfl⟩
  rw [HN.out]
  have hN0 : -2147483648 ≤ N := by rw [← HN.out]; exact Ma.wr_lo n
  have hN1 : N ≤ 2147483647 := by rw [← HN.out]; exact Ma.wr_hi n
  obtain ⟨ao, cap, rfl⟩ : ∃ ao cap, v = .slice ao zs.length cap := by obtain ⟨_, ao, cap, e, _⟩ := h; exact ⟨ao, cap, e⟩
  clear h
  go_enter Tryd.func63, Tryd.ntmps63
  go_wp2_with (at_builtin; refine wpList_append_bs rfl _ _ rfl w.heap.size _ _ [] zs rfl ho0 rfl hb1 hbe (by simp) (by simp; omega) ?_)
  intro v1 w1 hown hbel hsz
  clear hbe ho0 hb1
  go_wp2_with (go_at_call 32; refine (specWrap_any _ _).mono ?_; rintro e w' ⟨rfl, rfl⟩; rw [HN.out])
  go_loopw [1, 5] (fun q v' wr => ∃ (pre : List Int) (m : Int), q = .int .i64 m ∧ -2147483648 ≤ m ∧ m ≤ 2147483647 ∧ Hid (pre ++ Ma.SG m = Ma.SG N) ∧ Own wr w.heap.size v' (zs ++ pre) ∧ Below w.heap.size w wr ∧ w.heap.size ≤ wr.heap.size) (fun q _ _ => (intOf q).natAbs)
  case atStart =>
    exact ⟨[], N, rfl, hN0, hN1, rfl, by simpa using hown, hbel, hsz⟩
  case round =>
    obtain ⟨pre, m, rfl, hm0, hm1, hpre, hownr, hbelr, hszr⟩ := hrel
    have e1 := i64_and127 m
    have e2 := Ma.low7_128 m
    have e3 : 0 ≤ m % 128 := by omega
    have e4 : m % 128 < 128 := by omega
    have hp := sg_pre hpre.out
    rcases (by omega : m < -64 ∨ (-64 ≤ m ∧ 63 < m) ∨ (-64 ≤ m ∧ m ≤ 63)) with h1 | ⟨h1, h2⟩ | ⟨h1, h2⟩
    case' inl => have hr := Hid.mk (sg_round hpre.out (Or.inl h1) hm0 hm1)
    case' inr.inl => have hr := Hid.mk (sg_round hpre.out (Or.inr h2) hm0 hm1)
    case inl | inr.inl =>
      have hb1 := Bs.one wr (m % 128 + 128) (by omega) (by omega)
      go_wp2_with (at_builtin; refine wpList_append_bs rfl _ _ rfl w.heap.size _ _ (zs ++ pre) [m % 128 + 128] rfl (hownr.alloc _) rfl hb1 (hbelr.alloc hszr _) (by simp; omega) (by simp; omega) ?_)
      intro v2 w2 hown2 hbel2 hsz2
      have hown3 : Own w2 w.heap.size v2 (zs ++ (pre ++ [m % 128 + 128])) := by first | exact hown2 | exact hown2.assoc
      clear hb1 hpre hownr hbelr hszr
      go_wp2
      go_roundw
      case rel => exact ⟨pre ++ [m % 128 + 128], m / 128, rfl, by omega, by omega, hr, hown3, hbel2, hsz2⟩
      case measure => simp [intOf]; omega
    case inr.inr =>
      have hb1 := Bs.one wr (m % 128) (by omega) (by omega)
      go_wp2_with (at_builtin; refine wpList_append_bs rfl _ _ rfl w.heap.size _ _ (zs ++ pre) [m % 128] rfl (hownr.alloc _) rfl hb1 (hbelr.alloc hszr _) (by simp; omega) (by simp; omega) ?_)
      intro v2 w2 hown2 hbel2 hsz2
      have hown3 : Own w2 w.heap.size v2 (zs ++ (pre ++ [m % 128])) := by first | exact hown2 | exact hown2.assoc
      rw [← Ma.SG_last m (by omega) (by omega), hpre.out] at hown3
      clear hb1 hpre hownr hbelr hszr
      go_wp2
      go_ret
      exact ⟨v2, rfl, hown3, hbel2⟩
end Go.Proofs.YtincoibidgkiaaaDoor
