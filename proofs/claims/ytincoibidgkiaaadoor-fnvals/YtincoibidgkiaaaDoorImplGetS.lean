/- The program's GetS. -/
import Derived.Test.YtincoibidgkiaaaDoorReadS
import Derived.Test.YtincoibidgkiaaaDoorImplGetU
import Derived.Test.YtincoibidgkiaaaDoorImplPutS
namespace Go.Proofs.YtincoibidgkiaaaDoor
open Go.RowKit

theorem implGetS_out (v : Value) (zs : List Int) (a : Int) (w : World) (h : Bs w v zs) (ha : a < 0 ∨ zs.length ≤ a) :
    Calls Tryd.prog 37 #[v, .int .i64 a] w fun e w' => e = .returned (trip (0, 0, false)) ∧ Below w.heap.size w w' := by
  have H := Hid.mk h
  clear h
  go_enter Tryd.func37, Tryd.ntmps37
  go_wp2_with fail
  refine (countGroups_out v zs a w H.out ha).mono ?_
  rintro e w1 ⟨rfl, hw⟩
  obtain rfl := hw.symm
  clear hw
  go_wp2
  go_ret3
  exact ⟨rfl, Below.refl _ _⟩

set_option maxHeartbeats 1000000 in
theorem implGetS_in (v : Value) (zs : List Int) (p : Nat) (w : World) (h : Bs w v zs) (hp : p < zs.length) (hlen : zs.length ≤ 16777216) :
    Calls Tryd.prog 37 #[v, .int .i64 (p : Int)] w fun e w' => e = .returned (trip (gSat (zs.drop p) p)) ∧ Below w.heap.size w w' := by
  have HC := Hid.mk (countGroups_in v zs p w h hp hlen)
  obtain ⟨b, off, cap, rfl, hl, hm⟩ := h.addr (by omega)
  have hb := h.1
  have hcell := fun k hk => h.cellAt (k := k) hk
  have Hcell := Hid.mk hcell
  have Hpart := Hid.mk fun m hm' => h.part (p := p) (m := m) hm' hl hm rfl
  clear h hcell
  unfold maxLen at hm
  obtain ⟨l, Hl⟩ : ∃ l, Hid (zs.drop p = l) := ⟨_, rfl⟩
  rw [Hl.out] at HC Hpart ⊢
  have Hll : Hid (l.length = zs.length - p) := by rw [← Hl.out]; exact List.length_drop
  rcases groups_cases 5 l with hno | ⟨k, hk, hkl, hall, hlast⟩
  · have Hcg := Hid.mk (cg_none 5 l hno)
    rw [Hcg.out] at HC
    have Hf := Hid.mk (gSat_none (a := (p : Int)) Hcg.out)
    clear hno
    go_enter Tryd.func37, Tryd.ntmps37
    go_wp2_with fail
    refine HC.out.mono ?_
    rintro e w1 ⟨rfl, hw⟩
    obtain rfl := hw.symm
    clear hw
    go_wp2
    go_ret3
    exact ⟨by rw [Hf.out]; rfl, Below.refl _ _⟩
  · have Hcg := Hid.mk (cg_full 5 l k hk hkl hall hlast)
    have hpk : p + (k + 1) ≤ zs.length := by have := Hll.out; omega
    obtain ⟨c, Hc⟩ : ∃ c, Hid (l.getD k 0 = c) := ⟨_, rfl⟩
    have hcz : zs.getD (p + k) 0 = c := by rw [← Hc.out, ← Hl.out]; simp [List.getD]
    have hcb := hb.getD (p + k)
    rw [hcz] at hcb
    obtain ⟨hc0, hc1⟩ := hcb
    have hc2 : c < 128 := by rw [← Hc.out]; exact hlast
    have h1 : w.cell? ⟨b, off + (p + k), none⟩ = some (.int .u8 c) := by rw [← hcz]; exact Hcell.out (p + k) (by omega)
    have HJ0 := Hid.mk (joinGroups_any _ _ w (Hpart.out (k + 1) hpk) (by simp; omega))
    have e0 : (l.take (k + 1)).length = k + 1 := by simp; omega
    rw [e0, jn_take l (k + 1) (k + 1) (Nat.le_refl _)] at HJ0
    obtain ⟨J, HJ⟩ : ∃ J, Hid (jn l (k + 1) = J) := ⟨_, rfl⟩
    rw [HJ.out] at HJ0
    rw [Hcg.out, Int.natCast_add, Int.natCast_one] at HC
    obtain ⟨M, HM⟩ : ∃ M, Hid (sgn l k = M) := ⟨_, rfl⟩
    have hMb := sgn_bd l k hk
    rw [HM.out] at hMb
    obtain ⟨hM0, hM1⟩ := hMb
    have Hsl := Hid.mk (sgn_len l k hk (by rw [Hc.out]; exact hc0) hlast)
    rw [HM.out] at Hsl
    have e64 := and64_u8 c hc0 hc2
    clear hcz hall hlast hkl Hcell Hpart hb Hl
    go_enter Tryd.func37, Tryd.ntmps37
    go_wp2_with fail
    refine HC.out.mono ?_
    rintro e w1 ⟨rfl, hw⟩
    obtain rfl := hw.symm
    clear hw
    go_wp2_with fail
    refine HJ0.out.mono ?_
    rintro e w1 ⟨rfl, hw⟩
    obtain rfl := hw.symm
    clear hw HC HJ0
    by_cases hs : 63 < c
    case' pos =>
      rw [if_pos hs] at e64
      have hMe : wrap64 (J - wrap64 (2 ^ (7 * (k + 1)))) = M := (sgn_hi l k hk c J Hc.out HJ.out hs).trans HM.out
    case' neg =>
      rw [if_neg hs] at e64
      have hMe : M = J := ((sgn_lo l k c J Hc.out HJ.out hs).trans HM.out).symm
      subst hMe
    case pos | neg =>
      go_wp2_with fail
      refine (implWrap_any _ w).mono ?_
      rintro e w1 ⟨rfl, hw⟩
      obtain rfl := hw.symm
      clear hw
      by_cases hwM : Ma.wr M = M
      · have hA : (M != Ma.wr M) = false := by simp [hwM]
        have HW := Hid.mk hwM
        clear hwM
        go_wp2_with fail
        refine (implPutS_any _ [] M _ (Bs.nil _) (by simp)).mono ?_
        rintro e w1 ⟨v1, rfl, hown, hbel⟩
        rw [List.nil_append, HW.out] at hown
        obtain ⟨ao1, cap1, hv1⟩ := hown.shape
        obtain ⟨q, Hq⟩ : ∃ q, Hid ((Ma.SG M).length = q) := ⟨_, rfl⟩
        have hq0 : q ≤ k + 1 := by rw [← Hq.out]; exact Hsl.out
        rw [Hq.out] at hv1
        subst hv1
        clear hown
        rcases (by omega : q < k + 1 ∨ k + 1 ≤ q) with hq | hq
        · have Hf := Hid.mk (gSat_long (a := (p : Int)) Hcg.out HM.out (by rw [Hq.out]; omega))
          go_wp2
          go_ret3
          exact ⟨by rw [Hf.out]; rfl, hbel⟩
        · have Hf := Hid.mk (gSat_yes (a := (p : Int)) Hcg.out HM.out HW.out (by rw [Hq.out]; omega))
          go_wp2
          go_ret3
          exact ⟨by rw [Hf.out, Int.add_assoc]; rfl, hbel⟩
      · have hA : (M != Ma.wr M) = true := by simp; exact fun h => hwM h.symm
        have Hf := Hid.mk (gSat_big (a := (p : Int)) Hcg.out HM.out hwM)
        clear hwM
        go_wp2
        go_ret3
        exact ⟨by rw [Hf.out]; rfl, Below.refl _ _⟩

theorem implGetS_any (v : Value) (zs : List Int) (a : Int) (w : World) (h : Bs w v zs) (hlen : zs.length ≤ 16777216) :
    Calls Tryd.prog 37 #[v, .int .i64 a] w fun e w' => e = .returned (trip (gS zs a)) ∧ Below w.heap.size w w' := by
  by_cases ha : a < 0 ∨ zs.length ≤ a
  · rw [gS_out ha]; exact implGetS_out v zs a w h ha
  · obtain ⟨p, rfl⟩ := Int.eq_ofNat_of_zero_le (show 0 ≤ a by omega)
    rw [gS_in (by omega)]
    exact implGetS_in v zs p w h (by omega) hlen
end Go.Proofs.YtincoibidgkiaaaDoor
