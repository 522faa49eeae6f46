/- Slices of numbers: the same, marked, held. Slices of numbers in the laws: the same, rising, whether one is there. The law FnEnds walked. -/
import Derived.Test.YtapniafhcagogaaDoorLeaf
import Derived.Test.YtapniafhcagogaaDoorPlLong
import Derived.Test.YtapniafhcagogaaDoorPk5
import Derived.Test.YtapniafhcagogaaDoorCur
namespace Go.Proofs.YtapniafhcagogaaDoor
open Go.RowKit

/-- A slice that reads these numbers. -/
def Iz (w : World) (v : Value) (xs : List Int) : Prop := ∃ ao cap, v = .slice ao xs.length cap ∧ xs.length ≤ cap ∧ cap ≤ maxLen ∧ (ao = none → cap = 0) ∧ (xs ≠ [] → ∃ b off, ao = some ⟨b, off, none⟩ ∧ ∀ k, k < xs.length → w.cell? ⟨b, off + k, none⟩ = some (.int .i64 (xs.getD k 0)))
/-- A slice of the call's own with these numbers. -/
def OwnZ (w : World) (base : Nat) (v : Value) (xs : List Int) : Prop := w.ownsRow base 3 1 v xs.length (xs.map (Value.int .i64))

theorem Iz.grow {w w' : World} {v : Value} {xs : List Int} (h : Iz w v xs) (hb : Below w.heap.size w w') : Iz w' v xs := by
  obtain ⟨ao, cap, h1, h2, h3, h4, h5⟩ := h
  refine ⟨ao, cap, h1, h2, h3, h4, fun hn => ?_⟩
  obtain ⟨b, off, h6, h7⟩ := h5 hn
  have h0 : 0 < xs.length := List.length_pos_iff.2 hn
  have hbl : b < w.heap.size := World.block_lt_of_cell? w _ (h7 0 h0)
  exact ⟨b, off, h6, fun k hk => by rw [hb.cell (p := ⟨b, off + k, none⟩) hbl]; exact h7 k hk⟩
theorem OwnZ.iz {w : World} {base : Nat} {v : Value} {xs : List Int} (h : OwnZ w base v xs) : Iz w v xs := by
  rcases h.2 with ⟨h1, h2⟩ | ⟨g, cap, cur, rfl, hb, hg, hn, hm, hs, ht⟩
  · obtain rfl : xs = [] := List.length_eq_zero_iff.1 h2
    exact ⟨none, 0, h1, Nat.le_refl _, by simp, fun _ => rfl, fun h => absurd rfl h⟩
  · refine ⟨some ⟨g, 0, none⟩, cap, rfl, hn, hm, (fun h => by cases h), fun _ => ⟨g, 0, rfl, fun k hk => ?_⟩⟩
    have := h.cellAt k (by omega)
    rw [Nat.zero_add, this]
    simp [hk]
theorem OwnZ.mono {w : World} {base base' : Nat} {v : Value} {xs : List Int} (h : OwnZ w base v xs) (hle : base' ≤ base) : OwnZ w base' v xs := by
  refine ⟨h.1, ?_⟩
  rcases h.2 with h' | ⟨g, cap, cur, e, hb, rest⟩
  · exact Or.inl h'
  · exact Or.inr ⟨g, cap, cur, e, Nat.le_trans hle hb, rest⟩
theorem OwnZ.grow {w w' : World} {base : Nat} {v : Value} {xs : List Int} (h : OwnZ w base v xs) (hb : Below w.heap.size w w') : OwnZ w' base v xs :=
  World.ownsRow.kept (row := none) h ⟨hb.os, hb.tape, hb.output, hb.size, fun k hk _ => hb.block k hk⟩ (by
    rcases h.2 with ⟨rfl, _⟩ | ⟨g, cap, cur, rfl, _⟩
    · exact .inl rfl
    · exact .inr (by simp [Value.ownBlock]))

set_option maxHeartbeats 1000000 in
theorem eqIntS_same (v v' : Value) (zs : List Int) (w : World) (h : Iz w v zs) (h' : Iz w v' zs) :
    Calls Tryd.prog 32 #[v, v'] w fun e w' => e = .returned (.bool true) ∧ ∃ n, w' = w.drewN n := by
  obtain ⟨ao, cap, rfl, hl, hm, hn, hc⟩ := h
  obtain ⟨ao2, cap2, rfl, hl2, hm2, hn2, hc2⟩ := h'
  unfold maxLen at hm hm2
  have hnn : ((zs.length : Int) != (zs.length : Int)) = false := by simp
  go_enter Tryd.func32, Tryd.ntmps32
  go_wp2
  go_loopw [5] (fun i wr => ∃ k : Nat, k ≤ zs.length ∧ i = .int .i64 k ∧ ∃ n, wr = w.drewN n) (fun i _ => zs.length - (intOf i).toNat)
  case atStart => exact ⟨0, Nat.zero_le _, rfl, 0, rfl⟩
  case round =>
    obtain ⟨k, hk, rfl, n, rfl⟩ := hrel
    by_cases hlt : k < zs.length
    · obtain ⟨b, off, rfl, hcell⟩ := hc (by intro h0; rw [h0] at hlt; simp at hlt)
      obtain ⟨b2, off2, rfl, hcell2⟩ := hc2 (by intro h0; rw [h0] at hlt; simp at hlt)
      obtain ⟨c, Hc⟩ : ∃ c, Hid (zs.getD k 0 = c) := ⟨_, rfl⟩
      have h1 : w.cell? ⟨b, off + k, none⟩ = some (.int .i64 c) := by rw [← Hc.out]; exact hcell k hlt
      have h2 : w.cell? ⟨b2, off2 + k, none⟩ = some (.int .i64 c) := by rw [← Hc.out]; exact hcell2 k hlt
      have hi1 : (k : Int) < (zs.length : Int) := by omega
      clear hc hc2 hcell hcell2
      go_wp2
      go_quiet (fail)
      go_wp2
      go_roundw
      case rel => exact ⟨k + 1, by omega, by go_num, _, rfl⟩
      case measure => simp [intOf]; omega
    · go_wp2
      go_ret
      exact ⟨rfl, n, rfl⟩

/-- The marks that 'markIntS' lays. -/
def marksI (k : Int) (n : Nat) : List Int := (List.range n).map fun (i : Nat) => k + (i : Int)
theorem marksI_length (k : Int) (n : Nat) : (marksI k n).length = n := by simp [marksI]
theorem marksI_getD (k : Int) (n i : Nat) (h : i < n) : (marksI k n).getD i 0 = k + i := by simp [marksI, List.getD, h]
theorem markI_step (p : Int) (xs : List Int) (k : Nat) (hk : k < xs.length) :
    (marksI p k ++ xs.drop k).set k (p + (k : Int)) = marksI p (k + 1) ++ xs.drop (k + 1) := by
  apply List.ext_getElem?
  intro i
  by_cases h : i = k
  · subst h
    rw [List.getElem?_set_self (by simp [marksI]; omega), List.getElem?_append_left (by simp [marksI])]
    simp [marksI]
  · rw [List.getElem?_set_ne (by omega)]
    by_cases h2 : i < k
    · rw [List.getElem?_append_left (by simp [marksI]; omega), List.getElem?_append_left (by simp [marksI]; omega)]
      simp [marksI, h2, show i < k + 1 by omega]
    · rw [List.getElem?_append_right (by simp [marksI]; omega), List.getElem?_append_right (by simp [marksI]; omega)]
      simp only [marksI_length, List.getElem?_drop]
      congr 1
      omega
theorem map_set_int (xs : List Int) (k : Nat) (z : Int) : (xs.map (Value.int .i64)).set k (.int .i64 z) = (xs.set k z).map (Value.int .i64) := by
  rw [List.map_set]

set_option maxHeartbeats 1000000 in
theorem markIntS_any (base : Nat) (v : Value) (xs : List Int) (p : Int) (w : World) (h : OwnZ w base v xs) (hlen : xs.length ≤ 8388608) (hp0 : 0 ≤ p) (hp1 : p ≤ 1099511627776) :
    Calls Tryd.prog 35 #[v, .int .i64 p] w fun e w' => e = .returned (.int .i64 (p + xs.length)) ∧ OwnZ w' base v (marksI p xs.length) ∧ w.grownBy w' v.ownBlock := by
  unfold OwnZ at *
  rw [marksI_length]
  rcases h.2 with ⟨rfl, h0⟩ | ⟨g, cap, cur, rfl, hb', hg, hnc, hcm, hcs, htake⟩
  · obtain rfl : xs = [] := List.eq_nil_of_length_eq_zero h0
    go_enter Tryd.func35, Tryd.ntmps35
    go_wp2
    go_loop [1, 5] (fun q i => i = .int .i64 0 ∧ q = .int .i64 p) (fun _ _ => 0)
    case atStart => exact ⟨rfl, rfl⟩
    case round =>
      obtain ⟨rfl, rfl⟩ := hrel
      go_wp2
      go_ret
      exact ⟨by simp, World.ownsRow_nil _ _ _ _, World.grownBy.refl _ _⟩
  · clear hg htake hcs
    unfold maxLen at hcm
    go_enter Tryd.func35, Tryd.ntmps35
    go_wp2
    go_loopw [1, 5] (fun q i wr => ∃ k : Nat, k ≤ xs.length ∧ i = .int .i64 k ∧ q = .int .i64 (p + k) ∧ wr.ownsRow base 3 1 (.slice (some ⟨g, 0, none⟩) xs.length cap) xs.length ((marksI p k ++ xs.drop k).map (Value.int .i64)) ∧ w.grownBy wr (some g)) (fun _ i _ => xs.length - (intOf i).toNat)
    case atStart => exact ⟨0, Nat.zero_le _, rfl, by simp, by simpa [marksI] using h, World.grownBy.refl _ _⟩
    case round =>
      obtain ⟨k, hk, rfl, rfl, hownr, hgr⟩ := hrel
      by_cases hlt : k < xs.length
      · have hfr := hownr.frozenAt k
        have hold := hownr.cellAt k (by omega)
        obtain ⟨o, ho⟩ : ∃ o, ((marksI p k ++ xs.drop k).map (Value.int .i64))[k]? = some (.int .i64 o) := by
          have : k < (marksI p k ++ xs.drop k).length := by simp [marksI]; omega
          exact ⟨_, by rw [List.getElem?_map, List.getElem?_eq_getElem this]; rfl⟩
        rw [ho] at hold
        have R : (wr.setCell ⟨g, k, none⟩ (.int .i64 (p + (k : Int)))).ownsRow base 3 1 (.slice (some ⟨g, 0, none⟩) xs.length cap) xs.length ((marksI p (k + 1) ++ xs.drop (k + 1)).map (Value.int .i64)) ∧ w.grownBy (wr.setCell ⟨g, k, none⟩ (.int .i64 (p + (k : Int)))) (some g) := by
          have := hownr.stored k (.int .i64 (p + (k : Int)))
          rw [map_set_int, markI_step p xs k hlt] at this
          refine ⟨this.1, ?_⟩
          have q := this.2
          exact ⟨q.os.trans hgr.os, q.tape.trans hgr.tape, q.output.trans hgr.output, Nat.le_trans hgr.size q.size, fun j hj hne => (q.block j (Nat.lt_of_lt_of_le hj hgr.size) hne).trans (hgr.block j hj hne)⟩
        have HR := Hid.mk R
        clear hownr hgr h ho R
        go_wp2
        go_roundw
        case rel => exact ⟨k + 1, by omega, by go_num, by go_num, HR.out.1, HR.out.2⟩
        case measure => simp [intOf]; omega
      · go_wp2
        go_ret
        have e : k = xs.length := by omega
        subst e
        exact ⟨rfl, by simpa using hownr, hgr⟩

theorem heldIntS_marks (v : Value) (n : Nat) (p : Int) (w : World) (h : Iz w v (marksI p n)) (hlen : n ≤ 8388608) (hp0 : 0 ≤ p) (hp1 : p ≤ 1099511627776) :
    Calls Tryd.prog 36 #[v, .int .i64 p] w fun e w' => e = .returned (.int .i64 (p + n)) ∧ w' = w := by
  obtain ⟨ao, cap, rfl, hl, hm, hn, hc⟩ := h
  rw [marksI_length] at hl hc ⊢
  unfold maxLen at hm
  go_enter Tryd.func36, Tryd.ntmps36
  go_wp2
  go_loop [1, 5] (fun q i => ∃ k : Nat, k ≤ n ∧ i = .int .i64 k ∧ q = .int .i64 (p + k)) (fun _ i => n - (intOf i).toNat)
  case atStart => exact ⟨0, Nat.zero_le _, rfl, by simp⟩
  case round =>
    obtain ⟨k, hk, rfl, rfl⟩ := hrel
    by_cases hlt : k < n
    · obtain ⟨b, off, rfl, hcell⟩ := hc (by intro h0; have := marksI_length p n; rw [h0] at this; simp at this; omega)
      have h1 : w.cell? ⟨b, off + k, none⟩ = some (.int .i64 (p + (k : Int))) := by rw [hcell k hlt, marksI_getD p n k hlt]
      clear hc hcell
      go_wp2
      go_round
      case rel => exact ⟨k + 1, by omega, by go_num, by go_num⟩
      case measure => simp [intOf]; omega
    · go_wp2
      go_ret
      have e : k = n := by omega
      subst e
      exact ⟨rfl, rfl⟩
end Go.Proofs.YtapniafhcagogaaDoor

namespace Go.Proofs.YtapniafhcagogaaDoor
open Go.RowKit

set_option maxHeartbeats 1000000 in
theorem sameInts_same (v v' : Value) (zs : List Int) (w : World) (h : Iz w v zs) (h' : Iz w v' zs) :
    Calls Tryd.prog 14 #[v, v'] w fun e w' => e = .returned (.bool true) ∧ ∃ n, w' = w.drewN n := by
  obtain ⟨ao, cap, rfl, hl, hm, hn, hc⟩ := h
  obtain ⟨ao2, cap2, rfl, hl2, hm2, hn2, hc2⟩ := h'
  unfold maxLen at hm hm2
  have hnn : ((zs.length : Int) != (zs.length : Int)) = false := by simp
  go_enter Tryd.func14, Tryd.ntmps14
  go_wp2
  go_loopw [5] (fun i wr => ∃ k : Nat, k ≤ zs.length ∧ i = .int .i64 k ∧ ∃ n, wr = w.drewN n) (fun i _ => zs.length - (intOf i).toNat)
  case atStart => exact ⟨0, Nat.zero_le _, rfl, 0, rfl⟩
  case round =>
    obtain ⟨k, hk, rfl, n, rfl⟩ := hrel
    by_cases hlt : k < zs.length
    · obtain ⟨b, off, rfl, hcell⟩ := hc (by intro h0; rw [h0] at hlt; simp at hlt)
      obtain ⟨b2, off2, rfl, hcell2⟩ := hc2 (by intro h0; rw [h0] at hlt; simp at hlt)
      obtain ⟨c, Hc⟩ : ∃ c, Hid (zs.getD k 0 = c) := ⟨_, rfl⟩
      have h1 : w.cell? ⟨b, off + k, none⟩ = some (.int .i64 c) := by rw [← Hc.out]; exact hcell k hlt
      have h2 : w.cell? ⟨b2, off2 + k, none⟩ = some (.int .i64 c) := by rw [← Hc.out]; exact hcell2 k hlt
      have hi1 : (k : Int) < (zs.length : Int) := by omega
      clear hc hc2 hcell hcell2
      go_wp2
      go_quiet (fail)
      go_wp2
      go_roundw
      case rel => exact ⟨k + 1, by omega, by go_num, _, rfl⟩
      case measure => simp [intOf]; omega
    · go_wp2
      go_ret
      exact ⟨rfl, n, rfl⟩

/-- Each is less than the next. -/
def RisesZ (zs : List Int) : Prop := ∀ k, k + 1 < zs.length → zs.getD k 0 < zs.getD (k + 1) 0

set_option maxHeartbeats 1000000 in
theorem rises_yes (v : Value) (zs : List Int) (w : World) (h : Iz w v zs) (hr : RisesZ zs) :
    Calls Tryd.prog 16 #[v] w fun e w' => e = .returned (.bool true) ∧ ∃ n, w' = w.drewN n := by
  obtain ⟨ao, cap, rfl, hl, hm, hn, hc⟩ := h
  unfold maxLen at hm
  go_enter Tryd.func16, Tryd.ntmps16
  go_wp2
  go_loopw [3] (fun i wr => ∃ k : Nat, i = .int .i64 ((k : Int) + 1) ∧ (k = 0 ∨ k + 1 ≤ zs.length) ∧ ∃ n, wr = w.drewN n) (fun i _ => zs.length + 1 - (intOf i).toNat)
  case atStart => exact ⟨0, rfl, .inl rfl, 0, rfl⟩
  case round =>
    obtain ⟨k, rfl, hk, n, rfl⟩ := hrel
    by_cases hlt : k + 1 < zs.length
    · obtain ⟨b, off, rfl, hcell⟩ := hc (by intro h0; rw [h0] at hlt; simp at hlt)
      have hrk := hr k hlt
      obtain ⟨c, Hc⟩ : ∃ c, Hid (zs.getD k 0 = c) := ⟨_, rfl⟩
      obtain ⟨d, Hd⟩ : ∃ d, Hid (zs.getD (k + 1) 0 = d) := ⟨_, rfl⟩
      have h1 : w.cell? ⟨b, off + k, none⟩ = some (.int .i64 c) := by rw [← Hc.out]; exact hcell k (by omega)
      have h2 : w.cell? ⟨b, off + (k + 1), none⟩ = some (.int .i64 d) := by rw [← Hd.out]; exact hcell (k + 1) hlt
      rw [Hc.out, Hd.out] at hrk
      have hge : decide (c ≥ d) = false := by simp; omega
      have hge' : decide (d ≤ c) = false := by simp; omega
      have hnd : ¬ d ≤ c := by omega
      have hi1 : (k : Int) + 1 < (zs.length : Int) := by omega
      have hi2 : (k : Int) < (zs.length : Int) := by omega
      have hik : ((k : Int) + 1).toNat = k + 1 := by omega
      clear hc hcell hr Hc Hd
      go_wp2
      go_quiet (fail)
      go_wp2
      go_roundw
      case rel => exact ⟨k + 1, by go_num, .inr (by omega), _, rfl⟩
      case measure => simp [intOf]; omega
    · have hi1 : ¬ (k : Int) + 1 < (zs.length : Int) := by omega
      go_wp2
      go_ret
      exact ⟨rfl, n, rfl⟩

set_option maxHeartbeats 1000000 in
theorem has_any (v : Value) (zs : List Int) (x : Int) (w : World) (h : Iz w v zs) :
    Calls Tryd.prog 20 #[v, .int .i64 x] w fun e w' => e = .returned (.bool (zs.contains x)) ∧ w' = w := by
  obtain ⟨ao, cap, rfl, hl, hm, hn, hc⟩ := h
  unfold maxLen at hm
  have HB : Hid (∀ k, k < zs.length → zs.getD k 0 = x → zs.contains x = true) := fun k hk he => by
    rw [List.contains_iff_mem, ← he]
    simp [List.getD, hk]
  have HN : Hid ((∀ k, k < zs.length → zs.getD k 0 ≠ x) → zs.contains x = false) := fun hne => by
    rw [Bool.eq_false_iff]
    intro hc
    rw [List.contains_iff_mem] at hc
    obtain ⟨k, hk, he⟩ := List.getElem_of_mem hc
    exact hne k hk (by simp [List.getD, hk, he])
  obtain ⟨r, hr⟩ : ∃ r, zs.contains x = r := ⟨_, rfl⟩
  rw [hr] at HB HN ⊢
  clear hr
  go_enter Tryd.func20, Tryd.ntmps20
  go_wp2
  go_loop [5] (fun i => ∃ k : Nat, k ≤ zs.length ∧ i = .int .i64 k ∧ Hid (∀ j, j < k → zs.getD j 0 ≠ x)) (fun i => zs.length - (intOf i).toNat)
  case atStart => exact ⟨0, Nat.zero_le _, rfl, fun j hj => by omega⟩
  case round =>
    obtain ⟨k, hk, rfl, HP⟩ := hrel
    by_cases hlt : k < zs.length
    · obtain ⟨b, off, rfl, hcell⟩ := hc (by intro h0; rw [h0] at hlt; simp at hlt)
      obtain ⟨c, hcc⟩ : ∃ c, zs.getD k 0 = c := ⟨_, rfl⟩
      have Hc := Hid.mk hcc
      have h1 : w.cell? ⟨b, off + k, none⟩ = some (.int .i64 c) := by rw [← hcc]; exact hcell k hlt
      have hi1 : (k : Int) < (zs.length : Int) := by omega
      clear hc hcell hcc
      by_cases hcx : c = x
      · have hr : r = true := HB.out k hlt (by rw [Hc.out, hcx])
        subst hr
        have hbeq : (c == x) = true := by simp [hcx]
        clear hcx
        go_wp2
        go_ret
        exact ⟨rfl, rfl⟩
      · have hbeq : (c == x) = false := by simp [hcx]
        have HP' : Hid (∀ j, j < k + 1 → zs.getD j 0 ≠ x) := fun j hj => by
          by_cases h : j = k
          · subst h; rw [Hc.out]; exact hcx
          · exact HP.out j (by omega)
        clear HP
        go_wp2
        go_round
        case rel => exact ⟨k + 1, by omega, by go_num, HP'⟩
        case measure => simp [intOf]; omega
    · have hr : r = false := HN.out (fun j hj => HP.out j (by omega))
      subst hr
      go_wp2
      go_ret
      exact ⟨rfl, rfl⟩
end Go.Proofs.YtapniafhcagogaaDoor

namespace Go.Proofs.YtapniafhcagogaaDoor
open Go.RowKit
set_option maxRecDepth 8000

theorem OwnI.iz {w : World} {base : Nat} {v : Value} {xs : List Nat} (h : OwnI w base v xs) : Iz w v (xs.map fun (n : Nat) => (n : Int)) := by
  have h' : OwnZ w base v (xs.map fun (n : Nat) => (n : Int)) := by
    unfold OwnI at h
    unfold OwnZ
    rw [List.length_map, List.map_map]
    exact h
  exact h'.iz

theorem rowL_rises (n : Nat) (f : Nat → Bool) : RisesZ ((rowL n f).map fun (x : Nat) => (x : Int)) := by
  intro k hk
  rw [List.length_map] at hk
  have hp : (rowL n f).Pairwise (· < ·) := List.Pairwise.filter _ List.pairwise_lt_range
  have h1 := List.pairwise_iff_getElem.1 hp k (k + 1) (by omega) hk (by omega)
  simp only [List.getD, List.getElem?_map]
  rw [List.getElem?_eq_getElem (by omega), List.getElem?_eq_getElem hk]
  simp
  exact h1
theorem endsL_rises (t : Tr) (s : ByteArray) (at' : Int) : RisesZ ((endsL t s at').map fun (x : Nat) => (x : Int)) := by
  unfold endsL
  split
  · exact rowL_rises _ _
  · intro k hk; simp at hk
theorem endsL_bounds (t : Tr) (s : ByteArray) (at' : Int) : ∀ x ∈ endsL t s at', at' ≤ (x : Int) ∧ x ≤ s.size := by
  intro x hx
  unfold endsL at hx
  split at hx
  · rename_i h
    unfold rowL at hx
    obtain ⟨h1, h2⟩ := List.mem_filter.1 hx
    have h3 := UpM.tree s t at'.toNat x (by omega) h2
    omega
  · cases hx

set_option maxHeartbeats 2000000 in
theorem fnEnds_walk (v : Value) (zs : List Int) (w : World) (h : Bs w v zs) (hT : TabB w) :
    Calls Tryd.prog 3 #[v] w fun e w' => e = .returned (.bool true) ∧ Below w.heap.size w w' := by
  have H := Hid.mk h
  clear h
  have HB := Hid.mk (big_any v zs w H.out)
  by_cases hlen : zs.length ≤ 1048576
  · have hd : decide ((1048576 : Int) < zs.length) = false := by simp; omega
    rw [hd] at HB
    clear hd
    go_enter Tryd.func3, Tryd.ntmps3
    go_wp2_with fail
    refine HB.out.mono ?_
    rintro e w1 ⟨rfl, hw⟩
    obtain rfl := hw.symm
    clear hw HB
    go_wp2_with fail
    refine (drawEndsOf_any v zs w H.out hlen).mono ?_
    rintro e w1 ⟨t, u, s, at', rfl, hts, hs6, hr1, hb1⟩
    have HIO := Hid.mk (fun (w' : World) (hb : Below w.heap.size w w') (B : Nat → Prop) (u : Value) (h : Rl w' B t.l u) => endsOf_any t B u s at' w' h hts (hT.grow hb))
    have HSO := Hid.mk (fun (w' : World) (B : Nat → Prop) (u : Value) (h : Rl w' B t.l u) => specEndsOf_any t B u s at' w' h hts (by omega))
    have HRI := Hid.mk (endsL_rises t s at')
    have HBO := Hid.mk (endsL_bounds t s at')
    obtain ⟨au, cu, rfl, -⟩ := hr1.len
    obtain ⟨E, hE⟩ : ∃ E, endsL t s at' = E := ⟨_, rfl⟩
    obtain ⟨tk, htk⟩ : ∃ tk, t.k = tk := ⟨_, rfl⟩
    obtain ⟨ts, hts'⟩ : ∃ ts, t.s = ts := ⟨_, rfl⟩
    obtain ⟨l, hl⟩ : ∃ l, t.l = l := ⟨_, rfl⟩
    rw [htk, hts', hl, hE] at HIO HSO
    rw [hE] at HRI HBO
    rw [hl] at hr1
    rw [htk, hts', hl]
    have A0 : Below w1.heap.size w1 (w1.alloc (.cells #[.int .i64 tk, .string ts, .slice au l.length cu] 26)) := (Below.refl _ _).alloc (Nat.le_refl _) _
    have X2 := Hid.mk (Bz3.new w1 (.int .i64 tk) (.string ts) (.slice au l.length cu))
    have R2 := Hid.mk (hr1.grow A0)
    have B2 := Hid.mk (hb1.trans (A0.mono hb1.size))
    clear hts hr1 hb1 hE htk hts' hl A0 t
    go_wp2_with fail
    generalize w1.alloc (.cells #[.int .i64 tk, .string ts, .slice au l.length cu] 26) = W2 at X2 R2 B2 ⊢
    generalize w1.heap.size = p0 at X2 ⊢
    clear w1
    refine (HIO.out W2 B2.out _ _ R2.out).mono ?_
    rintro e w3 ⟨v3, rfl, ho3, hb3⟩
    have X3 := Hid.mk (X2.out.grow hb3)
    have R3 := Hid.mk (R2.out.grow hb3)
    have B3 := Hid.mk (B2.out.trans (hb3.mono B2.out.size))
    have I3 := Hid.mk (OwnI.iz ho3)
    obtain ⟨a3, c3, h3v, -⟩ := OwnI.iz ho3
    subst h3v
    rw [List.length_map] at I3 ⊢
    clear ho3 hb3 X2 R2 B2 HIO
    have x0 := X3.out.c0
    have x1 := X3.out.c1
    have x2 := X3.out.c2
    go_wp2_with fail
    refine (HSO.out w3 _ _ R3.out).mono ?_
    rintro e w4 ⟨v4, rfl, ho4, hb4⟩
    have B4 := Hid.mk (B3.out.trans (hb4.mono B3.out.size))
    have I4 := Hid.mk (I3.out.grow hb4)
    have HSM := Hid.mk (sameInts_same _ _ _ w4 I4.out (OwnI.iz ho4))
    obtain ⟨a4, c4, h4v, -⟩ := OwnI.iz ho4
    subst h4v
    rw [List.length_map] at HSM ⊢
    clear ho4 hb4 X3 R3 B3 I3 HSO x0 x1 x2
    go_wp2_with fail
    refine HSM.out.mono ?_
    rintro e w5 ⟨rfl, n5, hw5⟩
    have D5 : Below w4.heap.size w4 w5 := by rw [hw5]; exact Below.drewSelf _ _ _
    have B5 := Hid.mk (B4.out.trans (D5.mono B4.out.size))
    have I5 := Hid.mk (I4.out.grow D5)
    have HR5 := Hid.mk (rises_yes _ _ w5 I5.out HRI.out)
    clear hw5 D5 B4 I4 HSM HRI
    go_wp2_with fail
    refine HR5.out.mono ?_
    rintro e w6 ⟨rfl, n6, hw6⟩
    have D6 : Below w5.heap.size w5 w6 := by rw [hw6]; exact Below.drewSelf _ _ _
    have B6 := Hid.mk (B5.out.trans (D6.mono B5.out.size))
    obtain ⟨ao, cap, hv, hl1, hl2, hl3, hl4⟩ := I5.out.grow D6
    simp only [List.length_map, Value.slice.injEq] at hv hl1 hl4
    obtain ⟨rfl, -, rfl⟩ := hv
    have HCE : Hid (E ≠ [] → ∃ b off, a3 = some ⟨b, off, none⟩ ∧ ∀ k, k < E.length → w6.cell? ⟨b, off + k, none⟩ = some (.int .i64 ((E.map fun (n : Nat) => (n : Int)).getD k 0))) := fun hne => by
      obtain ⟨b, off, h1, h2⟩ := hl4 (by simpa using hne)
      exact ⟨b, off, h1, h2⟩
    have hcm : c3 ≤ 9223372036854775807 := by unfold maxLen at hl2; omega
    clear hw6 D6 B5 I5 HR5 hl2 hl3 hl4
    go_wp2
    go_loop [7] (fun q => ∃ k : Nat, k ≤ E.length ∧ q = .int .i64 k) (fun q => E.length - (intOf q).toNat)
    case atStart => exact ⟨0, Nat.zero_le _, rfl⟩
    case round =>
      obtain ⟨k, hk, rfl⟩ := hrel
      by_cases hlt : k < E.length
      · obtain ⟨b, off, rfl, hcell⟩ := HCE.out (by intro h0; rw [h0] at hlt; simp at hlt)
        have h1 := hcell k hlt
        obtain ⟨hb1, hb2⟩ := HBO.out E[k] (List.getElem_mem hlt)
        have he : (E.map fun (n : Nat) => (n : Int)).getD k 0 = ((E[k] : Nat) : Int) := by simp [List.getD, hlt]
        rw [he] at h1
        generalize E[k] = y at h1 hb1 hb2
        have hn1 : ¬ ((y : Int) < at') := by omega
        have hn2 : ¬ ((s.size : Int) < (y : Int)) := by omega
        have hi1 : (k : Int) < (E.length : Int) := by omega
        clear hcell he
        go_wp2
        go_round
        case rel => exact ⟨k + 1, by omega, by go_num⟩
        case measure => simp [intOf]; omega
      · go_wp2
        go_ret
        exact ⟨rfl, B6.out⟩
  · have hd : decide ((1048576 : Int) < zs.length) = true := by simp; omega
    rw [hd] at HB
    clear hd
    go_enter Tryd.func3, Tryd.ntmps3
    go_wp2_with fail
    refine HB.out.mono ?_
    rintro e w1 ⟨rfl, hw⟩
    obtain rfl := hw.symm
    go_wp2
    go_ret
    exact ⟨rfl, Below.refl _ _⟩
end Go.Proofs.YtapniafhcagogaaDoor
