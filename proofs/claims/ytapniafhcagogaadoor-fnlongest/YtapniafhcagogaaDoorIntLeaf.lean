/- Slices of numbers: the same, marked, held. -/
import Derived.Test.YtapniafhcagogaaDoorLeaf
namespace Go.Proofs.YtapniafhcagogaaDoor
open Go.RowKit

/-- A slice that reads these numbers. -/
def Iz (w : World) (v : Value) (xs : List Int) : Prop := ∃ ao cap, v = .slice ao xs.length cap ∧ xs.length ≤ cap ∧ cap ≤ maxLen ∧ (ao = none → cap = 0) ∧ (xs ≠ [] → ∃ b off, ao = some ⟨b, off, none⟩ ∧ ∀ k, k < xs.length → w.cell? ⟨b, off + k, none⟩ = some (.int .i64 (xs.getD k 0)))
/-- A slice of the call's own with these numbers. -/
def OwnZ (w : World) (base : Nat) (v : Value) (xs : List Int) : Prop := w.ownsRow base 3 1 v xs.length (xs.map (Value.int .i64))

theorem Iz.grow {w w' : World} {v : Value} {xs : List Int} (h : Iz w v xs) (hb : Below w.heap.size w w') : Iz w' v xs := by
  obtain ⟨ao, cap, h1, h2, h3, h4, h5⟩ := h
  refine ⟨ao, cap, h1, h2, h3, h4, fun hn => ?_⟩
  obtain ⟨b, off, h6, h7⟩ := h5 hn
  have h0 : 0 < xs.length := List.length_pos_iff.2 hn
  have hbl : b < w.heap.size := World.block_lt_of_cell? w _ (h7 0 h0)
  exact ⟨b, off, h6, fun k hk => by rw [hb.cell (p := ⟨b, off + k, none⟩) hbl]; exact h7 k hk⟩
theorem OwnZ.iz {w : World} {base : Nat} {v : Value} {xs : List Int} (h : OwnZ w base v xs) : Iz w v xs := by
  rcases h.2 with ⟨h1, h2⟩ | ⟨g, cap, cur, rfl, hb, hg, hn, hm, hs, ht⟩
  · obtain rfl : xs = [] := List.length_eq_zero_iff.1 h2
    exact ⟨none, 0, h1, Nat.le_refl _, by simp, fun _ => rfl, fun h => absurd rfl h⟩
  · refine ⟨some ⟨g, 0, none⟩, cap, rfl, hn, hm, (fun h => by cases h), fun _ => ⟨g, 0, rfl, fun k hk => ?_⟩⟩
    have := h.cellAt k (by omega)
    rw [Nat.zero_add, this]
    simp [hk]
theorem OwnZ.mono {w : World} {base base' : Nat} {v : Value} {xs : List Int} (h : OwnZ w base v xs) (hle : base' ≤ base) : OwnZ w base' v xs := by
  refine ⟨h.1, ?_⟩
  rcases h.2 with h' | ⟨g, cap, cur, e, hb, rest⟩
  · exact Or.inl h'
  · exact Or.inr ⟨g, cap, cur, e, Nat.le_trans hle hb, rest⟩
theorem OwnZ.grow {w w' : World} {base : Nat} {v : Value} {xs : List Int} (h : OwnZ w base v xs) (hb : Below w.heap.size w w') : OwnZ w' base v xs :=
  World.ownsRow.kept (row := none) h ⟨hb.os, hb.tape, hb.output, hb.size, fun k hk _ => hb.block k hk⟩ (by
    rcases h.2 with ⟨rfl, _⟩ | ⟨g, cap, cur, rfl, _⟩
    · exact .inl rfl
    · exact .inr (by simp [Value.ownBlock]))

set_option maxHeartbeats 1000000 in
theorem eqIntS_same (v v' : Value) (zs : List Int) (w : World) (h : Iz w v zs) (h' : Iz w v' zs) :
    Calls Tryd.prog 32 #[v, v'] w fun e w' => e = .returned (.bool true) ∧ ∃ n, w' = w.drewN n := by
  obtain ⟨ao, cap, rfl, hl, hm, hn, hc⟩ := h
  obtain ⟨ao2, cap2, rfl, hl2, hm2, hn2, hc2⟩ := h'
  unfold maxLen at hm hm2
  have hnn : ((zs.length : Int) != (zs.length : Int)) = false := by simp
  go_enter Tryd.func32, Tryd.ntmps32
  go_wp2
  go_loopw [5] (fun i wr => ∃ k : Nat, k ≤ zs.length ∧ i = .int .i64 k ∧ ∃ n, wr = w.drewN n) (fun i _ => zs.length - (intOf i).toNat)
  case atStart => exact ⟨0, Nat.zero_le _, rfl, 0, rfl⟩
  case round =>
    obtain ⟨k, hk, rfl, n, rfl⟩ := hrel
    by_cases hlt : k < zs.length
    · obtain ⟨b, off, rfl, hcell⟩ := hc (by intro h0; rw [h0] at hlt; simp at hlt)
      obtain ⟨b2, off2, rfl, hcell2⟩ := hc2 (by intro h0; rw [h0] at hlt; simp at hlt)
      obtain ⟨c, Hc⟩ : ∃ c, Hid (zs.getD k 0 = c) := ⟨_, rfl⟩
      have h1 : w.cell? ⟨b, off + k, none⟩ = some (.int .i64 c) := by rw [← Hc.out]; exact hcell k hlt
      have h2 : w.cell? ⟨b2, off2 + k, none⟩ = some (.int .i64 c) := by rw [← Hc.out]; exact hcell2 k hlt
      have hi1 : (k : Int) < (zs.length : Int) := by omega
      clear hc hc2 hcell hcell2
      go_wp2
      go_quiet (fail)
      go_wp2
      go_roundw
      case rel => exact ⟨k + 1, by omega, by go_num, _, rfl⟩
      case measure => simp [intOf]; omega
    · go_wp2
      go_ret
      exact ⟨rfl, n, rfl⟩

/-- The marks that 'markIntS' lays. -/
def marksI (k : Int) (n : Nat) : List Int := (List.range n).map fun (i : Nat) => k + (i : Int)
theorem marksI_length (k : Int) (n : Nat) : (marksI k n).length = n := by simp [marksI]
theorem marksI_getD (k : Int) (n i : Nat) (h : i < n) : (marksI k n).getD i 0 = k + i := by simp [marksI, List.getD, h]
theorem markI_step (p : Int) (xs : List Int) (k : Nat) (hk : k < xs.length) :
    (marksI p k ++ xs.drop k).set k (p + (k : Int)) = marksI p (k + 1) ++ xs.drop (k + 1) := by
  apply List.ext_getElem?
  intro i
  by_cases h : i = k
  · subst h
    rw [List.getElem?_set_self (by simp [marksI]; omega), List.getElem?_append_left (by simp [marksI])]
    simp [marksI]
  · rw [List.getElem?_set_ne (by omega)]
    by_cases h2 : i < k
    · rw [List.getElem?_append_left (by simp [marksI]; omega), List.getElem?_append_left (by simp [marksI]; omega)]
      simp [marksI, h2, show i < k + 1 by omega]
    · rw [List.getElem?_append_right (by simp [marksI]; omega), List.getElem?_append_right (by simp [marksI]; omega)]
      simp only [marksI_length, List.getElem?_drop]
      congr 1
      omega
theorem map_set_int (xs : List Int) (k : Nat) (z : Int) : (xs.map (Value.int .i64)).set k (.int .i64 z) = (xs.set k z).map (Value.int .i64) := by
  rw [List.map_set]

set_option maxHeartbeats 1000000 in
theorem markIntS_any (base : Nat) (v : Value) (xs : List Int) (p : Int) (w : World) (h : OwnZ w base v xs) (hlen : xs.length ≤ 8388608) (hp0 : 0 ≤ p) (hp1 : p ≤ 1099511627776) :
    Calls Tryd.prog 35 #[v, .int .i64 p] w fun e w' => e = .returned (.int .i64 (p + xs.length)) ∧ OwnZ w' base v (marksI p xs.length) ∧ w.grownBy w' v.ownBlock := by
  unfold OwnZ at *
  rw [marksI_length]
  rcases h.2 with ⟨rfl, h0⟩ | ⟨g, cap, cur, rfl, hb', hg, hnc, hcm, hcs, htake⟩
  · obtain rfl : xs = [] := List.eq_nil_of_length_eq_zero h0
    go_enter Tryd.func35, Tryd.ntmps35
    go_wp2
    go_loop [1, 5] (fun q i => i = .int .i64 0 ∧ q = .int .i64 p) (fun _ _ => 0)
    case atStart => exact ⟨rfl, rfl⟩
    case round =>
      obtain ⟨rfl, rfl⟩ := hrel
      go_wp2
      go_ret
      exact ⟨by simp, World.ownsRow_nil _ _ _ _, World.grownBy.refl _ _⟩
  · clear hg htake hcs
    unfold maxLen at hcm
    go_enter Tryd.func35, Tryd.ntmps35
    go_wp2
    go_loopw [1, 5] (fun q i wr => ∃ k : Nat, k ≤ xs.length ∧ i = .int .i64 k ∧ q = .int .i64 (p + k) ∧ wr.ownsRow base 3 1 (.slice (some ⟨g, 0, none⟩) xs.length cap) xs.length ((marksI p k ++ xs.drop k).map (Value.int .i64)) ∧ w.grownBy wr (some g)) (fun _ i _ => xs.length - (intOf i).toNat)
    case atStart => exact ⟨0, Nat.zero_le _, rfl, by simp, by simpa [marksI] using h, World.grownBy.refl _ _⟩
    case round =>
      obtain ⟨k, hk, rfl, rfl, hownr, hgr⟩ := hrel
      by_cases hlt : k < xs.length
      · have hfr := hownr.frozenAt k
        have hold := hownr.cellAt k (by omega)
        obtain ⟨o, ho⟩ : ∃ o, ((marksI p k ++ xs.drop k).map (Value.int .i64))[k]? = some (.int .i64 o) := by
          have : k < (marksI p k ++ xs.drop k).length := by simp [marksI]; omega
          exact ⟨_, by rw [List.getElem?_map, List.getElem?_eq_getElem this]; rfl⟩
        rw [ho] at hold
        have R : (wr.setCell ⟨g, k, none⟩ (.int .i64 (p + (k : Int)))).ownsRow base 3 1 (.slice (some ⟨g, 0, none⟩) xs.length cap) xs.length ((marksI p (k + 1) ++ xs.drop (k + 1)).map (Value.int .i64)) ∧ w.grownBy (wr.setCell ⟨g, k, none⟩ (.int .i64 (p + (k : Int)))) (some g) := by
          have := hownr.stored k (.int .i64 (p + (k : Int)))
          rw [map_set_int, markI_step p xs k hlt] at this
          refine ⟨this.1, ?_⟩
          have q := this.2
          exact ⟨q.os.trans hgr.os, q.tape.trans hgr.tape, q.output.trans hgr.output, Nat.le_trans hgr.size q.size, fun j hj hne => (q.block j (Nat.lt_of_lt_of_le hj hgr.size) hne).trans (hgr.block j hj hne)⟩
        have HR := Hid.mk R
        clear hownr hgr h ho R
        go_wp2
        go_roundw
        case rel => exact ⟨k + 1, by omega, by go_num, by go_num, HR.out.1, HR.out.2⟩
        case measure => simp [intOf]; omega
      · go_wp2
        go_ret
        have e : k = xs.length := by omega
        subst e
        exact ⟨rfl, by simpa using hownr, hgr⟩

theorem heldIntS_marks (v : Value) (n : Nat) (p : Int) (w : World) (h : Iz w v (marksI p n)) (hlen : n ≤ 8388608) (hp0 : 0 ≤ p) (hp1 : p ≤ 1099511627776) :
    Calls Tryd.prog 36 #[v, .int .i64 p] w fun e w' => e = .returned (.int .i64 (p + n)) ∧ w' = w := by
  obtain ⟨ao, cap, rfl, hl, hm, hn, hc⟩ := h
  rw [marksI_length] at hl hc ⊢
  unfold maxLen at hm
  go_enter Tryd.func36, Tryd.ntmps36
  go_wp2
  go_loop [1, 5] (fun q i => ∃ k : Nat, k ≤ n ∧ i = .int .i64 k ∧ q = .int .i64 (p + k)) (fun _ i => n - (intOf i).toNat)
  case atStart => exact ⟨0, Nat.zero_le _, rfl, by simp⟩
  case round =>
    obtain ⟨k, hk, rfl, rfl⟩ := hrel
    by_cases hlt : k < n
    · obtain ⟨b, off, rfl, hcell⟩ := hc (by intro h0; have := marksI_length p n; rw [h0] at this; simp at this; omega)
      have h1 : w.cell? ⟨b, off + k, none⟩ = some (.int .i64 (p + (k : Int))) := by rw [hcell k hlt, marksI_getD p n k hlt]
      clear hc hcell
      go_wp2
      go_round
      case rel => exact ⟨k + 1, by omega, by go_num, by go_num⟩
      case measure => simp [intOf]; omega
    · go_wp2
      go_ret
      have e : k = n := by omega
      subst e
      exact ⟨rfl, rfl⟩
end Go.Proofs.YtapniafhcagogaaDoor
