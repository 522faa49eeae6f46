/- The law FnWraps walked. -/
import Derived.Test.YtincoibidgkiaaaDraw
namespace Go.Proofs.Ytincoibidgkiaaa
open Go.RowKit

theorem big_any (v : Value) (zs : List Int) (w : World) (h : Bs w v zs) :
    Calls Try.prog 18 #[v] w fun e w' => e = .returned (.bool (decide ((1048576 : Int) < zs.length))) ∧ w' = w := by
  obtain ⟨ao, cap, rfl⟩ : ∃ ao cap, v = .slice ao zs.length cap := by obtain ⟨_, ao, cap, e, _⟩ := h; exact ⟨ao, cap, e⟩
  clear h
  go_enter Try.func18, Try.ntmps18
  go_wp2
  go_ret
  exact ⟨rfl, rfl⟩

theorem wr_add (n k : Int) : Ma.wr (Ma.wr n + Ma.wr k) = Ma.wr (wrap64 (n + k)) := by
  unfold Ma.wr wrap64
  omega

theorem wrap64_mod (x : Int) : wrap64 x % 4294967296 = x % 4294967296 := by
  unfold wrap64
  omega

theorem wr_mod (x : Int) : Ma.wr x % 4294967296 = x % 4294967296 := by
  unfold Ma.wr
  omega

theorem wr_mul (n k : Int) : Ma.wr (wrap64 (Ma.wr n * Ma.wr k)) = Ma.wr (wrap64 (n * k)) := by
  apply Ma.wr_cong
  rw [wrap64_mod, wrap64_mod, Int.mul_emod, wr_mod, wr_mod, ← Int.mul_emod]

set_option maxHeartbeats 1000000 in
theorem fnWraps_walk (v : Value) (zs : List Int) (w : World) (h : Bs w v zs) :
    Calls Try.prog 3 #[v] w fun e w' => e = .returned (.bool true) ∧ Below w.heap.size w w' := by
  have H := Hid.mk h
  clear h
  by_cases hlen : zs.length ≤ 1048576
  · have hd : decide ((1048576 : Int) < zs.length) = false := by simp; omega
    have HB := Hid.mk (big_any v zs w H.out)
    rw [hd] at HB
    clear hd
    go_enter Try.func3, Try.ntmps3
    go_wp2_with fail
    refine HB.out.mono ?_
    rintro e w1 ⟨rfl, hw⟩
    obtain rfl := hw.symm
    clear hw HB
    go_wp2_with fail
    refine (drawWrap_any v zs w H.out hlen).mono ?_
    rintro e w1 ⟨n, rfl, hb1⟩
    go_wp2_with fail
    refine (drawPutU_any v zs w1 (H.out.grow hb1) hlen).mono ?_
    rintro e w2 ⟨v2, ys, k, rfl, -, -, -, hb2⟩
    have B2 : Below w.heap.size w w2 := hb1.trans (hb2.mono hb1.size)
    clear hb1 hb2
    have l1 := Ma.wr_lo n
    have l2 := Ma.wr_hi n
    have q1 : (Ma.wr (Ma.wr n) == Ma.wr n) = true := by rw [Ma.wr_wr]; simp
    have q2 : (Ma.wr (Ma.wr n + Ma.wr k) == Ma.wr (wrap64 (n + k))) = true := by rw [wr_add]; simp
    have q3 : (Ma.wr (wrap64 (Ma.wr n * Ma.wr k)) == Ma.wr (wrap64 (n * k))) = true := by rw [wr_mul]; simp
    have a0 := Ma.wr_lo k
    have a1 := Ma.wr_hi k
    go_wp2_with (first | (go_at_call 21; refine (implWrap_any _ _).mono ?_; rintro e w' ⟨rfl, hw⟩; obtain rfl := hw.symm; clear hw) | (go_at_call 22; refine (specWrap_any _ _).mono ?_; rintro e w' ⟨rfl, hw⟩; obtain rfl := hw.symm; clear hw))
    go_ret
    exact ⟨rfl, B2⟩
  · have hd : decide ((1048576 : Int) < zs.length) = true := by simp; omega
    have HB := Hid.mk (big_any v zs w H.out)
    rw [hd] at HB
    go_enter Try.func3, Try.ntmps3
    go_wp2_with fail
    refine HB.out.mono ?_
    rintro e w1 ⟨rfl, hw⟩
    obtain rfl := hw.symm
    clear hw HB
    go_wp2
    go_ret
    exact ⟨rfl, Below.refl _ _⟩
end Go.Proofs.Ytincoibidgkiaaa
