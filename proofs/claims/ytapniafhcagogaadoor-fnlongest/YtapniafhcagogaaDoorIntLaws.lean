/- Slices of numbers in the laws: the same, rising, whether one is there. -/
import Derived.Test.YtapniafhcagogaaDoorIntLeaf
namespace Go.Proofs.YtapniafhcagogaaDoor
open Go.RowKit

set_option maxHeartbeats 1000000 in
theorem sameInts_same (v v' : Value) (zs : List Int) (w : World) (h : Iz w v zs) (h' : Iz w v' zs) :
    Calls Tryd.prog 14 #[v, v'] w fun e w' => e = .returned (.bool true) ∧ ∃ n, w' = w.drewN n := by
  obtain ⟨ao, cap, rfl, hl, hm, hn, hc⟩ := h
  obtain ⟨ao2, cap2, rfl, hl2, hm2, hn2, hc2⟩ := h'
  unfold maxLen at hm hm2
  have hnn : ((zs.length : Int) != (zs.length : Int)) = false := by simp
  go_enter Tryd.func14, Tryd.ntmps14
  go_wp2
  go_loopw [5] (fun i wr => ∃ k : Nat, k ≤ zs.length ∧ i = .int .i64 k ∧ ∃ n, wr = w.drewN n) (fun i _ => zs.length - (intOf i).toNat)
  case atStart => exact ⟨0, Nat.zero_le _, rfl, 0, rfl⟩
  case round =>
    obtain ⟨k, hk, rfl, n, rfl⟩ := hrel
    by_cases hlt : k < zs.length
    · obtain ⟨b, off, rfl, hcell⟩ := hc (by intro h0; rw [h0] at hlt; simp at hlt)
      obtain ⟨b2, off2, rfl, hcell2⟩ := hc2 (by intro h0; rw [h0] at hlt; simp at hlt)
      obtain ⟨c, Hc⟩ : ∃ c, Hid (zs.getD k 0 = c) := ⟨_, rfl⟩
      have h1 : w.cell? ⟨b, off + k, none⟩ = some (.int .i64 c) := by rw [← Hc.out]; exact hcell k hlt
      have h2 : w.cell? ⟨b2, off2 + k, none⟩ = some (.int .i64 c) := by rw [← Hc.out]; exact hcell2 k hlt
      have hi1 : (k : Int) < (zs.length : Int) := by omega
      clear hc hc2 hcell hcell2
      go_wp2
      go_quiet (fail)
      go_wp2
      go_roundw
      case rel => exact ⟨k + 1, by omega, by go_num, _, rfl⟩
      case measure => simp [intOf]; omega
    · go_wp2
      go_ret
      exact ⟨rfl, n, rfl⟩

/-- Each is less than the next. -/
def RisesZ (zs : List Int) : Prop := ∀ k, k + 1 < zs.length → zs.getD k 0 < zs.getD (k + 1) 0

set_option maxHeartbeats 1000000 in
theorem rises_yes (v : Value) (zs : List Int) (w : World) (h : Iz w v zs) (hr : RisesZ zs) :
    Calls Tryd.prog 16 #[v] w fun e w' => e = .returned (.bool true) ∧ ∃ n, w' = w.drewN n := by
  obtain ⟨ao, cap, rfl, hl, hm, hn, hc⟩ := h
  unfold maxLen at hm
  go_enter Tryd.func16, Tryd.ntmps16
  go_wp2
  go_loopw [3] (fun i wr => ∃ k : Nat, i = .int .i64 ((k : Int) + 1) ∧ (k = 0 ∨ k + 1 ≤ zs.length) ∧ ∃ n, wr = w.drewN n) (fun i _ => zs.length + 1 - (intOf i).toNat)
  case atStart => exact ⟨0, rfl, .inl rfl, 0, rfl⟩
  case round =>
    obtain ⟨k, rfl, hk, n, rfl⟩ := hrel
    by_cases hlt : k + 1 < zs.length
    · obtain ⟨b, off, rfl, hcell⟩ := hc (by intro h0; rw [h0] at hlt; simp at hlt)
      have hrk := hr k hlt
      obtain ⟨c, Hc⟩ : ∃ c, Hid (zs.getD k 0 = c) := ⟨_, rfl⟩
      obtain ⟨d, Hd⟩ : ∃ d, Hid (zs.getD (k + 1) 0 = d) := ⟨_, rfl⟩
      have h1 : w.cell? ⟨b, off + k, none⟩ = some (.int .i64 c) := by rw [← Hc.out]; exact hcell k (by omega)
      have h2 : w.cell? ⟨b, off + (k + 1), none⟩ = some (.int .i64 d) := by rw [← Hd.out]; exact hcell (k + 1) hlt
      rw [Hc.out, Hd.out] at hrk
      have hge : decide (c ≥ d) = false := by simp; omega
      have hge' : decide (d ≤ c) = false := by simp; omega
      have hnd : ¬ d ≤ c := by omega
      have hi1 : (k : Int) + 1 < (zs.length : Int) := by omega
      have hi2 : (k : Int) < (zs.length : Int) := by omega
      have hik : ((k : Int) + 1).toNat = k + 1 := by omega
      clear hc hcell hr Hc Hd
      go_wp2
      go_quiet (fail)
      go_wp2
      go_roundw
      case rel => exact ⟨k + 1, by go_num, .inr (by omega), _, rfl⟩
      case measure => simp [intOf]; omega
    · have hi1 : ¬ (k : Int) + 1 < (zs.length : Int) := by omega
      go_wp2
      go_ret
      exact ⟨rfl, n, rfl⟩

set_option maxHeartbeats 1000000 in
theorem has_any (v : Value) (zs : List Int) (x : Int) (w : World) (h : Iz w v zs) :
    Calls Tryd.prog 20 #[v, .int .i64 x] w fun e w' => e = .returned (.bool (zs.contains x)) ∧ w' = w := by
  obtain ⟨ao, cap, rfl, hl, hm, hn, hc⟩ := h
  unfold maxLen at hm
  have HB : Hid (∀ k, k < zs.length → zs.getD k 0 = x → zs.contains x = true) := fun k hk he => by
    rw [List.contains_iff_mem, ← he]
    simp [List.getD, hk]
  have HN : Hid ((∀ k, k < zs.length → zs.getD k 0 ≠ x) → zs.contains x = false) := fun hne => by
    rw [Bool.eq_false_iff]
    intro hc
    rw [List.contains_iff_mem] at hc
    obtain ⟨k, hk, he⟩ := List.getElem_of_mem hc
    exact hne k hk (by simp [List.getD, hk, he])
  obtain ⟨r, hr⟩ : ∃ r, zs.contains x = r := ⟨_, rfl⟩
  rw [hr] at HB HN ⊢
  clear hr
  go_enter Tryd.func20, Tryd.ntmps20
  go_wp2
  go_loop [5] (fun i => ∃ k : Nat, k ≤ zs.length ∧ i = .int .i64 k ∧ Hid (∀ j, j < k → zs.getD j 0 ≠ x)) (fun i => zs.length - (intOf i).toNat)
  case atStart => exact ⟨0, Nat.zero_le _, rfl, fun j hj => by omega⟩
  case round =>
    obtain ⟨k, hk, rfl, HP⟩ := hrel
    by_cases hlt : k < zs.length
    · obtain ⟨b, off, rfl, hcell⟩ := hc (by intro h0; rw [h0] at hlt; simp at hlt)
      obtain ⟨c, hcc⟩ : ∃ c, zs.getD k 0 = c := ⟨_, rfl⟩
      have Hc := Hid.mk hcc
      have h1 : w.cell? ⟨b, off + k, none⟩ = some (.int .i64 c) := by rw [← hcc]; exact hcell k hlt
      have hi1 : (k : Int) < (zs.length : Int) := by omega
      clear hc hcell hcc
      by_cases hcx : c = x
      · have hr : r = true := HB.out k hlt (by rw [Hc.out, hcx])
        subst hr
        have hbeq : (c == x) = true := by simp [hcx]
        clear hcx
        go_wp2
        go_ret
        exact ⟨rfl, rfl⟩
      · have hbeq : (c == x) = false := by simp [hcx]
        have HP' : Hid (∀ j, j < k + 1 → zs.getD j 0 ≠ x) := fun j hj => by
          by_cases h : j = k
          · subst h; rw [Hc.out]; exact hcx
          · exact HP.out j (by omega)
        clear HP
        go_wp2
        go_round
        case rel => exact ⟨k + 1, by omega, by go_num, HP'⟩
        case measure => simp [intOf]; omega
    · have hr : r = false := HN.out (fun j hj => HP.out j (by omega))
      subst hr
      go_wp2
      go_ret
      exact ⟨rfl, rfl⟩
end Go.Proofs.YtapniafhcagogaaDoor
