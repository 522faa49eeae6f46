/- The document's model of GetS. -/
import Derived.Test.YtincoibidgkiaaaDoorReadS
import Derived.Test.YtincoibidgkiaaaDoorSpecGetU
namespace Go.Proofs.YtincoibidgkiaaaDoor
open Go.RowKit

/-- The place is none. -/
theorem specGetS_out (v : Value) (zs : List Int) (a : Int) (w : World) (h : Bs w v zs) (ha : a < 0 ∨ zs.length ≤ a) :
    Calls Tryd.prog 46 #[v, .int .i64 a] w fun e w' => e = .returned (trip (0, 0, false)) ∧ Below w.heap.size w w' := by
  obtain ⟨ao, cap, rfl⟩ : ∃ ao cap, v = .slice ao zs.length cap := by obtain ⟨_, ao, cap, e, _⟩ := h; exact ⟨ao, cap, e⟩
  clear h
  rcases (by omega : a < 0 ∨ (0 ≤ a ∧ zs.length ≤ a)) with h1 | ⟨h1, h2⟩
  · go_enter Tryd.func46, Tryd.ntmps46
    go_wp2
    go_loop [7, 8] (fun n i => i = .int .i64 0 ∧ n = .int .i64 0) (fun _ _ => 0)
    case atStart => exact ⟨rfl, rfl⟩
    case round =>
      obtain ⟨rfl, rfl⟩ := hrel
      go_wp2
      go_ret3
      exact ⟨rfl, Below.refl _ _⟩
  · go_enter Tryd.func46, Tryd.ntmps46
    go_wp2
    go_loop [7, 8] (fun n i => i = .int .i64 0 ∧ n = .int .i64 0) (fun _ _ => 0)
    case atStart => exact ⟨rfl, rfl⟩
    case round =>
      obtain ⟨rfl, rfl⟩ := hrel
      go_wp2
      go_ret3
      exact ⟨rfl, Below.refl _ _⟩

set_option maxHeartbeats 1000000 in
theorem specGetS_in (v : Value) (zs : List Int) (p : Nat) (w : World) (h : Bs w v zs) (hp : p < zs.length) (hlen : zs.length ≤ 16777216) :
    Calls Tryd.prog 46 #[v, .int .i64 (p : Int)] w fun e w' => e = .returned (trip (gSat (zs.drop p) p)) ∧ Below w.heap.size w w' := by
  obtain ⟨hb, ao, cap, rfl, hl, hm, hn, hc⟩ := h
  obtain ⟨b, off, rfl, hcell⟩ := hc (by intro h0; rw [h0] at hp; simp at hp)
  unfold maxLen at hm
  obtain ⟨l, Hl⟩ : ∃ l, Hid (zs.drop p = l) := ⟨_, rfl⟩
  rw [Hl.out]
  have hll : l.length = zs.length - p := by rw [← Hl.out]; simp
  have Hll := Hid.mk hll
  clear hll hc hn
  have Hcell := Hid.mk hcell
  clear hcell
  go_enter Tryd.func46, Tryd.ntmps46
  go_wp2
  go_loop [7, 8] (fun n i => ∃ k : Nat, k ≤ 5 ∧ p + k ≤ zs.length ∧ i = .int .i64 k ∧ n = .int .i64 (jn l k) ∧ Hid (∀ i, i < k → 128 ≤ l.getD i 0)) (fun _ i => 5 - (intOf i).toNat)
  case atStart => exact ⟨0, by omega, by omega, rfl, rfl, fun i hi => by omega⟩
  case round =>
    obtain ⟨k, hk, hpk, rfl, rfl, Hall⟩ := hrel
    by_cases h5 : k < 5
    · by_cases hlt : p + k < zs.length
      · obtain ⟨c, Hc⟩ : ∃ c, Hid (l.getD k 0 = c) := ⟨_, rfl⟩
        have hcz : zs.getD (p + k) 0 = c := by rw [← Hc.out, ← Hl.out, drop_getD]
        have hcb := hb.getD (p + k)
        rw [hcz] at hcb
        obtain ⟨hc0, hc1⟩ := hcb
        have h1 : w.cell? ⟨b, off + (p + k), none⟩ = some (.int .u8 c) := by rw [← hcz]; exact Hcell.out (p + k) hlt
        have e1 := i64_and127 c
        have Hjs := Hid.mk (jn_step l k (by omega) c Hc.out)
        have Hlt := Hid.mk (show k < l.length by have := Hll.out; omega)
        clear hcz
        by_cases hc2 : 127 < c
        · have Hall' : Hid (∀ i, i < k + 1 → 128 ≤ l.getD i 0) := fun i hi => by
            by_cases e : i = k
            · subst e; rw [Hc.out]; omega
            · exact Hall.out i (by omega)
          go_wp2
          go_round
          case rel => exact ⟨k + 1, by omega, by omega, by go_num, congrArg (Value.int .i64) Hjs.out, Hall'⟩
          case measure => simp [intOf]; omega
        · have Hcg := Hid.mk (cg_full 5 l k h5 Hlt.out Hall.out (by rw [Hc.out]; omega))
          obtain ⟨J, HJ⟩ : ∃ J, Hid (jn l (k + 1) = J) := ⟨_, rfl⟩
          have hjs : bits .or .i64 (jn l k) (wrap64 (c % 128 * 2 ^ (7 * k))) = J := Hjs.out.trans HJ.out
          clear Hjs
          obtain ⟨M, HM⟩ : ∃ M, Hid (sgn l k = M) := ⟨_, rfl⟩
          have hMb := sgn_bd l k h5
          rw [HM.out] at hMb
          obtain ⟨hM0, hM1⟩ := hMb
          have hbe : Below w.heap.size w (w.alloc (.cells #[] 5)) := (Below.refl _ _).alloc (Nat.le_refl _) _
          by_cases hs : 63 < c
          case' pos => have hMe : wrap64 (J - wrap64 (2 ^ (7 * k + 7))) = M := (sgn_hi l k h5 c J Hc.out HJ.out hs).trans HM.out
          case' neg =>
            have hMe : M = J := ((sgn_lo l k c J Hc.out HJ.out hs).trans HM.out).symm
            subst hMe
          case pos | neg =>
            go_wp2_with fail
            refine (specWrap_any _ w).mono ?_
            rintro e w1 ⟨rfl, hw⟩
            obtain rfl := hw.symm
            clear hw
            by_cases hwM : Ma.wr M = M
            · have hA : (Ma.wr M != M) = false := by simp [hwM]
              have HW := Hid.mk hwM
              clear hwM
              go_wp2_with fail
              refine (specPutS_any _ [] M _ (Bs.empty _ _ _ (by decide)) (by simp)).mono ?_
              rintro e w1 ⟨v1, rfl, hown, hbel⟩
              rw [List.nil_append, HW.out] at hown
              have B1 : Below w.heap.size w w1 := hbe.trans (hbel.mono (by simp))
              obtain ⟨ao1, cap1, hv1⟩ := hown.shape
              obtain ⟨q, Hq⟩ : ∃ q, Hid ((Ma.SG M).length = q) := ⟨_, rfl⟩
              rw [Hq.out] at hv1
              subst hv1
              clear hown hbel hbe
              rcases (by omega : q < k + 1 ∨ k + 1 < q ∨ q = k + 1) with hq | hq | hq
              · have Hf := Hid.mk (gSat_long (a := (p : Int)) Hcg.out HM.out (by rw [Hq.out]; omega))
                go_wp2
                go_ret3
                exact ⟨by rw [Hf.out]; rfl, B1⟩
              · have Hf := Hid.mk (gSat_long (a := (p : Int)) Hcg.out HM.out (by rw [Hq.out]; omega))
                go_wp2
                go_ret3
                exact ⟨by rw [Hf.out]; rfl, B1⟩
              · have Hf := Hid.mk (gSat_yes (a := (p : Int)) Hcg.out HM.out HW.out (by rw [Hq.out]; omega))
                have hq1 : q ≤ k + 1 := by omega
                have hq2 : k + 1 ≤ q := by omega
                clear hq
                go_wp2
                go_ret3
                exact ⟨by rw [Hf.out]; rfl, B1⟩
            · have hA : (Ma.wr M != M) = true := by simp [hwM]
              have Hf := Hid.mk (gSat_big (a := (p : Int)) Hcg.out HM.out hwM)
              clear hwM
              go_wp2
              go_ret3
              exact ⟨by rw [Hf.out]; rfl, Below.refl _ _⟩
      · have Hf := Hid.mk (gSat_none (a := (p : Int)) (cg_none 5 l fun i _ hi => Hall.out i (by have := Hll.out; omega)))
        go_wp2
        go_ret3
        exact ⟨by rw [Hf.out]; rfl, Below.refl _ _⟩
    · have Hf := Hid.mk (gSat_none (a := (p : Int)) (cg_none 5 l fun i h1 _ => Hall.out i (by omega)))
      go_wp2
      go_ret3
      exact ⟨by rw [Hf.out]; rfl, Below.refl _ _⟩

theorem specGetS_any (v : Value) (zs : List Int) (a : Int) (w : World) (h : Bs w v zs) (hlen : zs.length ≤ 16777216) :
    Calls Tryd.prog 46 #[v, .int .i64 a] w fun e w' => e = .returned (trip (gS zs a)) ∧ Below w.heap.size w w' := by
  by_cases ha : a < 0 ∨ zs.length ≤ a
  · rw [gS_out ha]; exact specGetS_out v zs a w h ha
  · obtain ⟨p, rfl⟩ := Int.eq_ofNat_of_zero_le (show 0 ≤ a by omega)
    rw [gS_in (by omega)]
    exact specGetS_in v zs p w h (by omega) hlen
end Go.Proofs.YtincoibidgkiaaaDoor
