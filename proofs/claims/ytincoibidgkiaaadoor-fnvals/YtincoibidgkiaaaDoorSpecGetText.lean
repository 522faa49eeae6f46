/- GetText, spec. -/
import Derived.Test.YtincoibidgkiaaaDoorReadT
import Derived.Test.YtincoibidgkiaaaDoorSpecGetU
namespace Go.Proofs.YtincoibidgkiaaaDoor
open Go.RowKit

set_option maxRecDepth 8000 in
set_option maxHeartbeats 1000000 in
theorem specGetText_any (v : Value) (zs : List Int) (a : Int) (w : World) (h : Bs w v zs) (hlen : zs.length ≤ 16777216) :
    Calls Tryd.prog 47 #[v, .int .i64 a] w fun e w' => e = .returned (tripT (gT zs a)) ∧ w' = w := by
  obtain ⟨n, x, ok, Hr⟩ : ∃ n x ok, Hid (gU zs a = (n, x, ok)) := ⟨_, _, _, rfl⟩
  have HG : Hid (Calls Tryd.prog 45 #[v, .int .i64 a] w fun e w' => e = .returned (.tuple #[.int .i64 n, .int .i64 x, .bool ok]) ∧ w' = w) := by
    have := specGetU_any v zs a w h hlen
    rw [Hr.out] at this
    exact this
  cases ok with
  | false =>
    have Hf : Hid (gT zs a = (⟨#[]⟩, 0, false)) := by show _ = _; unfold gT; rw [Hr.out, if_pos (Or.inl rfl)]
    clear h
    go_enter Tryd.func47, Tryd.ntmps47
    go_wp2_with fail
    refine HG.out.mono ?_
    rintro e w1 ⟨rfl, hw⟩
    obtain rfl := hw.symm
    clear hw HG
    go_wp2
    go_ret3
    exact ⟨by rw [Hf.out]; rfl, rfl⟩
  | true =>
    obtain ⟨hn0, hn1, hx0, hx1⟩ := gU_ok Hr.out
    obtain ⟨b, off, cap, rfl, hl, hm⟩ := h.addr (by omega)
    have Hpart := Hid.mk fun p m (hm' : p + m ≤ zs.length) => h.part (p := p) (m := m) hm' hl hm rfl
    unfold maxLen at hm
    obtain ⟨n, rfl⟩ := Int.eq_ofNat_of_zero_le hn0
    obtain ⟨x, rfl⟩ := Int.eq_ofNat_of_zero_le (show 0 ≤ x by omega)
    clear h
    by_cases hlt : (zs.length : Int) - x < n
    · have Hf : Hid (gT zs a = (⟨#[]⟩, 0, false)) := by show _ = _; unfold gT; rw [Hr.out, if_pos (Or.inr hlt)]
      go_enter Tryd.func47, Tryd.ntmps47
      go_wp2_with fail
      refine HG.out.mono ?_
      rintro e w1 ⟨rfl, hw⟩
      obtain rfl := hw.symm
      clear hw HG
      go_wp2
      go_ret3
      exact ⟨by rw [Hf.out]; rfl, rfl⟩
    · have Hf : Hid (gT zs a = (strOf ((zs.drop x).take n), (x : Int) + n, true)) := by
        show _ = _; unfold gT; rw [Hr.out, if_neg (by rintro (h1 | h1) <;> simp_all)]; rfl
      by_cases hz : 0 < n
      · have hcv := run_strOf (Hpart.out x n (by omega)) (by simp; omega)
        go_enter Tryd.func47, Tryd.ntmps47
        go_wp2_with fail
        refine HG.out.mono ?_
        rintro e w1 ⟨rfl, hw⟩
        obtain rfl := hw.symm
        clear hw HG
        go_wp2
        go_ret3
        exact ⟨by rw [Hf.out]; rfl, rfl⟩
      · obtain rfl : n = 0 := by omega
        have hcv := run_strOf_none w
        go_enter Tryd.func47, Tryd.ntmps47
        go_wp2_with fail
        refine HG.out.mono ?_
        rintro e w1 ⟨rfl, hw⟩
        obtain rfl := hw.symm
        clear hw HG
        go_wp2
        all_goals go_ret3
        all_goals exact ⟨by rw [Hf.out]; simp [tripT], rfl⟩
end Go.Proofs.YtincoibidgkiaaaDoor
