/- The program's GetU. -/
import Derived.Test.YtincoibidgkiaaaDoorRead
namespace Go.Proofs.YtincoibidgkiaaaDoor
open Go.RowKit

theorem joinGroups_any (v : Value) (l : List Int) (w : World) (h : Bs w v l) (hlen : l.length ≤ 5) :
    Calls Tryd.prog 58 #[v] w fun e w' => e = .returned (.int .i64 (jn l l.length)) ∧ w' = w := by
  obtain ⟨hb, ao, cap, rfl, hl, hm, hn, hc⟩ := h
  unfold maxLen at hm
  go_enter Tryd.func58, Tryd.ntmps58
  go_wp2
  go_loop [3, 8] (fun n i => ∃ k : Nat, k ≤ l.length ∧ i = .int .i64 k ∧ n = .int .i64 (jn l k)) (fun _ i => l.length - (intOf i).toNat)
  case atStart => exact ⟨0, Nat.zero_le _, rfl, rfl⟩
  case round =>
    obtain ⟨k, hk, rfl, rfl⟩ := hrel
    by_cases hlt : k < l.length
    · obtain ⟨b, off, rfl, hcell⟩ := hc (by intro h0; rw [h0] at hlt; simp at hlt)
      obtain ⟨c, Hc⟩ : ∃ c, Hid (l.getD k 0 = c) := ⟨_, rfl⟩
      have hcb := hb.getD k
      rw [Hc.out] at hcb
      obtain ⟨hc0, hc1⟩ := hcb
      have h1 : w.cell? ⟨b, off + k, none⟩ = some (.int .u8 c) := by rw [← Hc.out]; exact hcell k hlt
      have e1 : bits .and .u8 c 127 = c % 128 := Ma.and127_u8 c hc0 (by omega)
      clear hc hcell
      go_wp2
      go_round
      case rel => exact ⟨k + 1, by omega, by go_num, congrArg (Value.int .i64) (jn_step l k (by omega) c Hc.out)⟩
      case measure => simp [intOf]; omega
    · go_wp2
      go_ret
      have e : k = l.length := by omega
      subst e
      exact ⟨rfl, rfl⟩

theorem countGroups_out (v : Value) (zs : List Int) (a : Int) (w : World) (h : Bs w v zs) (ha : a < 0 ∨ zs.length ≤ a) :
    Calls Tryd.prog 57 #[v, .int .i64 a] w fun e w' => e = .returned (.int .i64 0) ∧ w' = w := by
  obtain ⟨ao, cap, rfl⟩ : ∃ ao cap, v = .slice ao zs.length cap := by obtain ⟨_, ao, cap, e, _⟩ := h; exact ⟨ao, cap, e⟩
  clear h
  rcases (by omega : a < 0 ∨ (0 ≤ a ∧ zs.length ≤ a)) with h1 | ⟨h1, h2⟩
  all_goals
    go_enter Tryd.func57, Tryd.ntmps57
    go_wp2
    go_ret
    exact ⟨rfl, rfl⟩

set_option maxHeartbeats 1000000 in
theorem countGroups_in (v : Value) (zs : List Int) (p : Nat) (w : World) (h : Bs w v zs) (hp : p < zs.length) (hlen : zs.length ≤ 16777216) :
    Calls Tryd.prog 57 #[v, .int .i64 (p : Int)] w fun e w' => e = .returned (.int .i64 (cg 5 (zs.drop p))) ∧ w' = w := by
  obtain ⟨hb, ao, cap, rfl, hl, hm, hn, hc⟩ := h
  obtain ⟨b, off, rfl, hcell⟩ := hc (by intro h0; rw [h0] at hp; simp at hp)
  unfold maxLen at hm
  obtain ⟨l, Hl⟩ : ∃ l, Hid (zs.drop p = l) := ⟨_, rfl⟩
  rw [Hl.out]
  have Hll : Hid (l.length = zs.length - p) := by rw [← Hl.out]; exact List.length_drop
  clear hc hn
  have Hcell := Hid.mk hcell
  clear hcell
  have hpn : decide ((p : Int) < 0) = false := by simp
  obtain ⟨m, hs⟩ : ∃ m : Nat, (p + 5 < zs.length ∧ m = 5) ∨ (zs.length ≤ p + 5 ∧ m = zs.length - p) := by
    by_cases h : p + 5 < zs.length
    · exact ⟨5, Or.inl ⟨h, rfl⟩⟩
    · exact ⟨_, Or.inr ⟨by omega, rfl⟩⟩
  rcases hs with ⟨hs, rfl⟩ | ⟨hs, rfl⟩
  · go_enter Tryd.func57, Tryd.ntmps57
    go_wp2
    go_loop [24] (fun i => ∃ k : Nat, k ≤ 5 ∧ i = .int .i64 k ∧ Hid (∀ i, i < k → 128 ≤ l.getD i 0)) (fun i => 5 - (intOf i).toNat)
    case atStart => exact ⟨0, Nat.zero_le _, rfl, fun i hi => by omega⟩
    case round =>
      obtain ⟨k, hk, rfl, Hall⟩ := hrel
      by_cases hlt : k < 5
      · obtain ⟨c, Hc⟩ : ∃ c, Hid (l.getD k 0 = c) := ⟨_, rfl⟩
        have hcz : zs.getD (p + k) 0 = c := by rw [← Hc.out, ← Hl.out]; simp [List.getD]
        have hcb := hb.getD (p + k)
        rw [hcz] at hcb
        obtain ⟨hc0, hc1⟩ := hcb
        have h1 : w.cell? ⟨b, off + (p + k), none⟩ = some (.int .u8 c) := by rw [← hcz]; exact Hcell.out (p + k) (by omega)
        rw [← Nat.add_assoc] at h1
        have Hlt := Hid.mk (show k < l.length by have := Hll.out; omega)
        clear hcz
        by_cases hc2 : c < 128
        · have Hcg := Hid.mk (cg_full 5 l k (by omega) Hlt.out Hall.out (by rw [Hc.out]; omega))
          go_wp2
          go_ret
          exact ⟨by rw [Hcg.out]; exact ret_int (by omega), rfl⟩
        · have Hall' : Hid (∀ i, i < k + 1 → 128 ≤ l.getD i 0) := fun i hi => by
            by_cases e : i = k
            · subst e; rw [Hc.out]; omega
            · exact Hall.out i (by omega)
          go_wp2
          go_round
          case rel => exact ⟨k + 1, by omega, by go_num, Hall'⟩
          case measure => simp [intOf]; omega
      · have Hcg := Hid.mk (cg_none 5 l fun i h1 _ => Hall.out i (by omega))
        go_wp2
        go_ret
        exact ⟨by rw [Hcg.out]; rfl, rfl⟩
  · go_enter Tryd.func57, Tryd.ntmps57
    go_wp2
    go_loop [24] (fun i => ∃ k : Nat, k ≤ zs.length - p ∧ i = .int .i64 k ∧ Hid (∀ i, i < k → 128 ≤ l.getD i 0)) (fun i => zs.length - p - (intOf i).toNat)
    case atStart => exact ⟨0, Nat.zero_le _, rfl, fun i hi => by omega⟩
    case round =>
      obtain ⟨k, hk, rfl, Hall⟩ := hrel
      by_cases hlt : k < zs.length - p
      · obtain ⟨c, Hc⟩ : ∃ c, Hid (l.getD k 0 = c) := ⟨_, rfl⟩
        have hcz : zs.getD (p + k) 0 = c := by rw [← Hc.out, ← Hl.out]; simp [List.getD]
        have hcb := hb.getD (p + k)
        rw [hcz] at hcb
        obtain ⟨hc0, hc1⟩ := hcb
        have h1 : w.cell? ⟨b, off + (p + k), none⟩ = some (.int .u8 c) := by rw [← hcz]; exact Hcell.out (p + k) (by omega)
        rw [← Nat.add_assoc] at h1
        have Hlt := Hid.mk (show k < l.length by have := Hll.out; omega)
        clear hcz
        by_cases hc2 : c < 128
        · have Hcg := Hid.mk (cg_full 5 l k (by omega) Hlt.out Hall.out (by rw [Hc.out]; omega))
          go_wp2
          go_ret
          exact ⟨by rw [Hcg.out]; exact ret_int (by omega), rfl⟩
        · have Hall' : Hid (∀ i, i < k + 1 → 128 ≤ l.getD i 0) := fun i hi => by
            by_cases e : i = k
            · subst e; rw [Hc.out]; omega
            · exact Hall.out i (by omega)
          go_wp2
          go_round
          case rel => exact ⟨k + 1, by omega, by go_num, Hall'⟩
          case measure => simp [intOf]; omega
      · have Hcg := Hid.mk (cg_none 5 l fun i _ h2 => Hall.out i (by have := Hll.out; omega))
        go_wp2
        go_ret
        exact ⟨by rw [Hcg.out]; rfl, rfl⟩

theorem implGetU_out (v : Value) (zs : List Int) (a : Int) (w : World) (h : Bs w v zs) (ha : a < 0 ∨ zs.length ≤ a) :
    Calls Tryd.prog 36 #[v, .int .i64 a] w fun e w' => e = .returned (trip (0, 0, false)) ∧ w' = w := by
  have H := Hid.mk h
  clear h
  go_enter Tryd.func36, Tryd.ntmps36
  go_wp2_with fail
  refine (countGroups_out v zs a w H.out ha).mono ?_
  rintro e w1 ⟨rfl, hw⟩
  subst hw
  go_wp2
  go_ret3
  exact ⟨rfl, rfl⟩

set_option maxHeartbeats 1000000 in
theorem implGetU_in (v : Value) (zs : List Int) (p : Nat) (w : World) (h : Bs w v zs) (hp : p < zs.length) (hlen : zs.length ≤ 16777216) :
    Calls Tryd.prog 36 #[v, .int .i64 (p : Int)] w fun e w' => e = .returned (trip (gUat (zs.drop p) p)) ∧ w' = w := by
  have HC := Hid.mk (countGroups_in v zs p w h hp hlen)
  obtain ⟨b, off, cap, rfl, hl, hm⟩ := h.addr (by omega)
  have hb := h.1
  have hcell := fun k hk => h.cellAt (k := k) hk
  have Hcell := Hid.mk hcell
  have Hpart := Hid.mk fun m hm' => h.part (p := p) (m := m) hm' hl hm rfl
  clear h hcell
  unfold maxLen at hm
  obtain ⟨l, Hl⟩ : ∃ l, Hid (zs.drop p = l) := ⟨_, rfl⟩
  rw [Hl.out] at HC Hpart ⊢
  have Hll : Hid (l.length = zs.length - p) := by rw [← Hl.out]; exact List.length_drop
  rcases groups_cases 5 l with hno | ⟨k, hk, hkl, hall, hlast⟩
  · have Hcg := Hid.mk (cg_none 5 l hno)
    rw [Hcg.out] at HC
    have Hf := Hid.mk (gUat_none (a := (p : Int)) Hcg.out)
    clear hno
    go_enter Tryd.func36, Tryd.ntmps36
    go_wp2_with fail
    refine HC.out.mono ?_
    rintro e w1 ⟨rfl, hw⟩
    subst hw
    go_wp2
    go_ret3
    exact ⟨by rw [Hf.out]; rfl, rfl⟩
  · have Hcg := Hid.mk (cg_full 5 l k hk hkl hall hlast)
    have hpk : p + (k + 1) ≤ zs.length := by have := Hll.out; omega
    obtain ⟨c, Hc⟩ : ∃ c, Hid (l.getD k 0 = c) := ⟨_, rfl⟩
    have hcz : zs.getD (p + k) 0 = c := by rw [← Hc.out, ← Hl.out]; simp [List.getD]
    have hcb := hb.getD (p + k)
    rw [hcz] at hcb
    obtain ⟨hc0, hc1⟩ := hcb
    have h1 : w.cell? ⟨b, off + (p + k), none⟩ = some (.int .u8 c) := by rw [← hcz]; exact Hcell.out (p + k) (by omega)
    have HJ0 := Hid.mk (joinGroups_any _ _ w (Hpart.out (k + 1) hpk) (by simp; omega))
    have e0 : (l.take (k + 1)).length = k + 1 := by simp; omega
    rw [e0, jn_take l (k + 1) (k + 1) (Nat.le_refl _)] at HJ0
    obtain ⟨J, HJ⟩ : ∃ J, Hid (jn l (k + 1) = J) := ⟨_, rfl⟩
    rw [HJ.out] at HJ0
    rw [Hcg.out, Int.natCast_add, Int.natCast_one] at HC
    clear hcz hall hlast hkl Hcell Hpart hb Hl
    go_enter Tryd.func36, Tryd.ntmps36
    go_wp2_with fail
    refine HC.out.mono ?_
    rintro e w1 ⟨rfl, hw⟩
    obtain rfl := hw.symm
    clear hw
    go_wp2_with fail
    refine HJ0.out.mono ?_
    rintro e w1 ⟨rfl, hw⟩
    obtain rfl := hw.symm
    clear hw HC HJ0
    rcases (by omega : 2147483647 < J ∨ (J ≤ 2147483647 ∧ k ≤ 0) ∨ (J ≤ 2147483647 ∧ 0 < k ∧ c ≤ 0) ∨ (J ≤ 2147483647 ∧ 0 < k ∧ 1 ≤ c)) with h4 | ⟨h4, h2⟩ | ⟨h4, h2, h3⟩ | ⟨h4, h2, h3⟩
    · have Hf := Hid.mk (gUat_big (a := (p : Int)) Hcg.out (by rw [HJ.out]; exact h4))
      go_wp2
      go_ret3
      exact ⟨by rw [Hf.out]; rfl, rfl⟩
    · have Hf := Hid.mk (gUat_yes (a := (p : Int)) Hcg.out Hc.out (Or.inl (by omega)) (by rw [HJ.out]; exact h4))
      go_wp2
      go_ret3
      exact ⟨by rw [Hf.out, HJ.out, Int.add_assoc]; rfl, rfl⟩
    · have hcb : (c == 0) = true := by simp; omega
      have Hf := Hid.mk (gUat_zero (a := (p : Int)) Hcg.out Hc.out h2 (by omega))
      go_wp2
      go_ret3
      exact ⟨by rw [Hf.out]; rfl, rfl⟩
    · have hcb : (c == 0) = false := by simp; omega
      have Hf := Hid.mk (gUat_yes (a := (p : Int)) Hcg.out Hc.out (Or.inr (by omega)) (by rw [HJ.out]; exact h4))
      go_wp2
      go_ret3
      exact ⟨by rw [Hf.out, HJ.out, Int.add_assoc]; rfl, rfl⟩

theorem implGetU_any (v : Value) (zs : List Int) (a : Int) (w : World) (h : Bs w v zs) (hlen : zs.length ≤ 16777216) :
    Calls Tryd.prog 36 #[v, .int .i64 a] w fun e w' => e = .returned (trip (gU zs a)) ∧ w' = w := by
  by_cases ha : a < 0 ∨ zs.length ≤ a
  · rw [gU_out ha]; exact implGetU_out v zs a w h ha
  · obtain ⟨p, rfl⟩ := Int.eq_ofNat_of_zero_le (show 0 ≤ a by omega)
    rw [gU_in (by omega)]
    exact implGetU_in v zs p w h (by omega) hlen
end Go.Proofs.YtincoibidgkiaaaDoor
