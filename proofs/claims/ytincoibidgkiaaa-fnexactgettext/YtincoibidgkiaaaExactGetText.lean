/- The law FnExactGetText walked: the program's GetText answers as the document's model of it, and writes into no argument. -/
import Derived.Test.YtincoibidgkiaaaImplGetText
import Derived.Test.YtincoibidgkiaaaSpecGetText
namespace Go.Proofs.Ytincoibidgkiaaa
open Go.RowKit

set_option maxHeartbeats 1000000 in
theorem fnExactGetText_small (v : Value) (zs : List Int) (a : Int) (w : World) (h : Bs w v zs) (hlen : zs.length ≤ 1048576) :
    Calls Try.prog 12 #[v, .int .i64 a] w fun e w' => e = .returned (.bool true) ∧ Below w.heap.size w w' := by
  obtain ⟨r1, r2, r3, Hr⟩ : ∃ r1 r2 r3, Hid (gT zs a = (r1, r2, r3)) := ⟨_, _, _, rfl⟩
  have hbz := h.1
  have HS : Hid (∀ v w, Bs w v zs → Calls Try.prog 42 #[v, .int .i64 a] w fun e w' => e = .returned (.tuple #[.string r1, .int .i64 r2, .bool r3]) ∧ w' = w) := by
    intro v w h1
    have := specGetText_any v zs a w h1 (by omega)
    rw [Hr.out] at this
    exact this
  have HI : Hid (∀ v w, Bs w v zs → Calls Try.prog 32 #[v, .int .i64 a] w fun e w' => e = .returned (.tuple #[.string r1, .int .i64 r2, .bool r3]) ∧ w' = w) := by
    intro v w h1
    have := implGetText_any v zs a w h1 (by omega)
    rw [Hr.out] at this
    exact this
  clear Hr
  obtain ⟨ao, cap, hv⟩ : ∃ ao cap, v = .slice ao zs.length cap := by obtain ⟨_, ao, cap, e, _⟩ := h; exact ⟨ao, cap, e⟩
  subst hv
  go_enter Try.func12, Try.ntmps12
  go_wp2_with fail
  refine (toByteS_any _ zs _ h (by omega)).mono ?_
  rintro e w1 ⟨rfl, ho1, hb1⟩
  have hO1 : Own w1 w.heap.size _ zs := ho1
  clear ho1
  go_wp2_with fail
  refine (HS.out _ w1 (hO1.bs hbz)).mono ?_
  rintro e w2 ⟨rfl, hw⟩
  subst hw
  have B2 := hb1
  clear hO1 hb1
  go_wp2_with fail
  refine (toByteS_any _ zs _ (h.grow B2) (by omega)).mono ?_
  rintro e w3 ⟨rfl, ho3, hb3⟩
  have hX : Own w3 w2.heap.size _ zs := ho3
  have B3 := B2.trans (hb3.mono B2.size)
  clear ho3 hb3 B2
  go_wp2_with fail
  refine (HI.out _ w3 (hX.bs hbz)).mono ?_
  rintro e w4 ⟨rfl, hw⟩
  subst hw
  have B4 := B3
  have hX4 := hX
  clear hX B3
  go_wp2_with fail
  refine (toByteS_any _ zs _ (h.grow B4) (by omega)).mono ?_
  rintro e w6 ⟨rfl, ho6, hb6⟩
  have hT6 : Own w6 w4.heap.size _ zs := ho6
  have hX6 := hX4.grow hb6
  have B6 := B4.trans (hb6.mono B4.size)
  clear ho6 hX4 hb6 B4
  go_wp2_with fail
  refine (eqByteS_same _ _ zs w6 (hX6.bs hbz) (hT6.bs hbz)).mono ?_
  rintro e w7 ⟨rfl, n7, hw7⟩
  have hb7 : Below w6.heap.size w6 w7 := by rw [hw7]; exact Below.drewSelf _ _ _
  clear hw7
  have B7 := B6.trans (hb7.mono B6.size)
  clear hT6 hX6 hb7 B6
  go_wp2
  go_ret
  exact ⟨rfl, B7⟩

theorem fnExactGetText_walk (v : Value) (zs : List Int) (a : Int) (w : World) (h : Bs w v zs) :
    Calls Try.prog 12 #[v, .int .i64 a] w fun e w' => e = .returned (.bool true) ∧ Below w.heap.size w w' := by
  by_cases hlen : zs.length ≤ 1048576
  · exact fnExactGetText_small v zs a w h hlen
  · obtain ⟨ao, cap, rfl⟩ : ∃ ao cap, v = .slice ao zs.length cap := by obtain ⟨_, ao, cap, e, _⟩ := h; exact ⟨ao, cap, e⟩
    clear h
    have hlt : (1048576 : Int) < (zs.length : Int) := by omega
    go_enter Try.func12, Try.ntmps12
    go_wp2
    go_ret
    exact ⟨rfl, Below.refl _ _⟩
end Go.Proofs.Ytincoibidgkiaaa
