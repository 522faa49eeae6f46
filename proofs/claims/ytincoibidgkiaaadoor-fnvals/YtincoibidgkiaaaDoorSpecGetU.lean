/- The document's model of GetU. -/
import Derived.Test.YtincoibidgkiaaaDoorRead
namespace Go.Proofs.YtincoibidgkiaaaDoor
open Go.RowKit

theorem drop_getD (zs : List Int) (a i : Nat) : (zs.drop a).getD i 0 = zs.getD (a + i) 0 := by simp [List.getD]

/-- The place is none. -/
theorem specGetU_out (v : Value) (zs : List Int) (a : Int) (w : World) (h : Bs w v zs) (ha : a < 0 ∨ zs.length ≤ a) :
    Calls Tryd.prog 45 #[v, .int .i64 a] w fun e w' => e = .returned (trip (0, 0, false)) ∧ w' = w := by
  obtain ⟨ao, cap, rfl⟩ : ∃ ao cap, v = .slice ao zs.length cap := by obtain ⟨_, ao, cap, e, _⟩ := h; exact ⟨ao, cap, e⟩
  clear h
  rcases (by omega : a < 0 ∨ (0 ≤ a ∧ zs.length ≤ a)) with h1 | ⟨h1, h2⟩
  · go_enter Tryd.func45, Tryd.ntmps45
    go_wp2
    go_loop [7, 8] (fun n i => i = .int .i64 0 ∧ n = .int .i64 0) (fun _ _ => 0)
    case atStart => exact ⟨rfl, rfl⟩
    case round =>
      obtain ⟨rfl, rfl⟩ := hrel
      go_wp2
      go_ret3
      exact ⟨rfl, rfl⟩
  · go_enter Tryd.func45, Tryd.ntmps45
    go_wp2
    go_loop [7, 8] (fun n i => i = .int .i64 0 ∧ n = .int .i64 0) (fun _ _ => 0)
    case atStart => exact ⟨rfl, rfl⟩
    case round =>
      obtain ⟨rfl, rfl⟩ := hrel
      go_wp2
      go_ret3
      exact ⟨rfl, rfl⟩

set_option maxHeartbeats 1000000 in
theorem specGetU_in (v : Value) (zs : List Int) (p : Nat) (w : World) (h : Bs w v zs) (hp : p < zs.length) (hlen : zs.length ≤ 16777216) :
    Calls Tryd.prog 45 #[v, .int .i64 (p : Int)] w fun e w' => e = .returned (trip (gUat (zs.drop p) p)) ∧ w' = w := by
  obtain ⟨hb, ao, cap, rfl, hl, hm, hn, hc⟩ := h
  obtain ⟨b, off, rfl, hcell⟩ := hc (by intro h0; rw [h0] at hp; simp at hp)
  unfold maxLen at hm
  obtain ⟨l, Hl⟩ : ∃ l, Hid (zs.drop p = l) := ⟨_, rfl⟩
  rw [Hl.out]
  have hll : l.length = zs.length - p := by rw [← Hl.out]; simp
  have Hll := Hid.mk hll
  clear hll hc hn
  have Hcell := Hid.mk hcell
  clear hcell
  go_enter Tryd.func45, Tryd.ntmps45
  go_wp2
  go_loop [7, 8] (fun n i => ∃ k : Nat, k ≤ 5 ∧ p + k ≤ zs.length ∧ i = .int .i64 k ∧ n = .int .i64 (jn l k) ∧ Hid (∀ i, i < k → 128 ≤ l.getD i 0)) (fun _ i => 5 - (intOf i).toNat)
  case atStart => exact ⟨0, by omega, by omega, rfl, rfl, fun i hi => by omega⟩
  case round =>
    obtain ⟨k, hk, hpk, rfl, rfl, Hall⟩ := hrel
    by_cases h5 : k < 5
    · by_cases hlt : p + k < zs.length
      · obtain ⟨c, Hc⟩ : ∃ c, Hid (l.getD k 0 = c) := ⟨_, rfl⟩
        have hcz : zs.getD (p + k) 0 = c := by rw [← Hc.out, ← Hl.out, drop_getD]
        have hcb := hb.getD (p + k)
        rw [hcz] at hcb
        obtain ⟨hc0, hc1⟩ := hcb
        have h1 : w.cell? ⟨b, off + (p + k), none⟩ = some (.int .u8 c) := by rw [← hcz]; exact Hcell.out (p + k) hlt
        have e1 := i64_and127 c
        have Hjs := Hid.mk (jn_step l k (by omega) c Hc.out)
        have Hlt := Hid.mk (show k < l.length by have := Hll.out; omega)
        clear hcz
        by_cases hc2 : 127 < c
        · have Hall' : Hid (∀ i, i < k + 1 → 128 ≤ l.getD i 0) := fun i hi => by
            by_cases e : i = k
            · subst e; rw [Hc.out]; omega
            · exact Hall.out i (by omega)
          go_wp2
          go_round
          case rel => exact ⟨k + 1, by omega, by omega, by go_num, congrArg (Value.int .i64) Hjs.out, Hall'⟩
          case measure => simp [intOf]; omega
        · have Hcg := Hid.mk (cg_full 5 l k h5 Hlt.out Hall.out (by rw [Hc.out]; omega))
          obtain ⟨J, HJ⟩ : ∃ J, Hid (jn l (k + 1) = J) := ⟨_, rfl⟩
          have hjs : bits .or .i64 (jn l k) (wrap64 (c % 128 * 2 ^ (7 * k))) = J := Hjs.out.trans HJ.out
          clear Hjs
          rcases (by omega : (0 < k ∧ c ≤ 0) ∨ ((0 < k ∧ 1 ≤ c) ∧ 2147483647 < J) ∨ ((0 < k ∧ 1 ≤ c) ∧ J ≤ 2147483647) ∨ (k ≤ 0 ∧ 2147483647 < J) ∨ (k ≤ 0 ∧ J ≤ 2147483647)) with ⟨h2, h3⟩ | ⟨⟨h2, h3⟩, h4⟩ | ⟨⟨h2, h3⟩, h4⟩ | ⟨h2, h4⟩ | ⟨h2, h4⟩
          case' inl => have hcb : (c == 0) = true := by simp; omega
          case' inl => have Hf := Hid.mk (gUat_zero (a := (p : Int)) Hcg.out Hc.out h2 (by omega))
          case' inr.inl => have hcb : (c == 0) = false := by simp; omega
          case' inr.inl => have Hf := Hid.mk (gUat_big (a := (p : Int)) Hcg.out (by rw [HJ.out]; exact h4))
          case' inr.inr.inl => have hcb : (c == 0) = false := by simp; omega
          case' inr.inr.inl => have Hf := Hid.mk (gUat_yes (a := (p : Int)) Hcg.out Hc.out (Or.inr (by omega)) (by rw [HJ.out]; exact h4))
          case' inr.inr.inr.inl => have Hf := Hid.mk (gUat_big (a := (p : Int)) Hcg.out (by rw [HJ.out]; exact h4))
          case' inr.inr.inr.inr => have Hf := Hid.mk (gUat_yes (a := (p : Int)) Hcg.out Hc.out (Or.inl (by omega)) (by rw [HJ.out]; exact h4))
          all_goals
            go_wp2
            go_ret3
            exact ⟨by rw [Hf.out, ← HJ.out]; rfl, rfl⟩
      · have Hf := Hid.mk (gUat_none (a := (p : Int)) (cg_none 5 l fun i _ hi => Hall.out i (by have := Hll.out; omega)))
        go_wp2
        go_ret3
        exact ⟨by rw [Hf.out]; rfl, rfl⟩
    · have Hf := Hid.mk (gUat_none (a := (p : Int)) (cg_none 5 l fun i h1 _ => Hall.out i (by omega)))
      go_wp2
      go_ret3
      exact ⟨by rw [Hf.out]; rfl, rfl⟩

theorem specGetU_any (v : Value) (zs : List Int) (a : Int) (w : World) (h : Bs w v zs) (hlen : zs.length ≤ 16777216) :
    Calls Tryd.prog 45 #[v, .int .i64 a] w fun e w' => e = .returned (trip (gU zs a)) ∧ w' = w := by
  by_cases ha : a < 0 ∨ zs.length ≤ a
  · rw [gU_out ha]; exact specGetU_out v zs a w h ha
  · obtain ⟨p, rfl⟩ := Int.eq_ofNat_of_zero_le (show 0 ≤ a by omega)
    rw [gU_in (by omega)]
    exact specGetU_in v zs p w h (by omega) hlen
end Go.Proofs.YtincoibidgkiaaaDoor
