/- Slices of texts marked by the laws, and marks that are held. -/
import Derived.Test.YteomhjoodnjfbaaStrLeaf
namespace Go.Proofs.Yteomhjoodnjfbaa
open Go.RowKit
set_option maxRecDepth 8000

/-- The marks that 'markStringS' lays. -/
def marksT (p n : Nat) : List ByteArray := (List.range n).map fun i => mkS (p + i)
theorem marksT_length (p n : Nat) : (marksT p n).length = n := by simp [marksT]
theorem marksT_getD (p n i : Nat) (h : i < n) : (marksT p n).getD i ⟨#[]⟩ = mkS (p + i) := by simp [marksT, List.getD, h]
theorem markT_step (p : Nat) (xs : List ByteArray) (k : Nat) (hk : k < xs.length) :
    (marksT p k ++ xs.drop k).set k (mkS (p + k)) = marksT p (k + 1) ++ xs.drop (k + 1) := by
  apply List.ext_getElem?
  intro i
  by_cases h : i = k
  · subst h
    rw [List.getElem?_set_self (by simp [marksT]; omega), List.getElem?_append_left (by simp [marksT])]
    simp [marksT]
  · rw [List.getElem?_set_ne (by omega)]
    by_cases h2 : i < k
    · rw [List.getElem?_append_left (by simp [marksT]; omega), List.getElem?_append_left (by simp [marksT]; omega)]
      simp [marksT, h2, show i < k + 1 by omega]
    · rw [List.getElem?_append_right (by simp [marksT]; omega), List.getElem?_append_right (by simp [marksT]; omega)]
      simp only [marksT_length, List.getElem?_drop]
      congr 1
      omega
theorem map_set_st (xs : List ByteArray) (k : Nat) (z : ByteArray) : (xs.map Value.string).set k (.string z) = (xs.set k z).map Value.string := by
  rw [List.map_set]
/-- Where it lies. -/
theorem OwnT.lies {w : World} {base : Nat} {v : Value} {xs : List ByteArray} (h : OwnT w base v xs) : ∀ g, v.ownBlock = some g → base ≤ g ∧ g < w.heap.size := by
  intro g hg
  rcases h.2 with ⟨rfl, _⟩ | ⟨g', cap, cur, rfl, hb, hgb, _⟩
  · simp [Value.ownBlock] at hg
  · obtain rfl : g' = g := by simpa [Value.ownBlock] using hg
    exact ⟨hb, (Array.getElem?_eq_some_iff.1 hgb).1⟩

set_option maxHeartbeats 1000000 in
theorem markStringS_any (base : Nat) (v : Value) (xs : List ByteArray) (p : Nat) (w : World) (h : OwnT w base v xs) (hlen : xs.length ≤ 8388608) (hp1 : p ≤ 1048576) :
    Calls Try.prog 51 #[v, .int .i64 (p : Int)] w fun e w' => e = .returned (.int .i64 ((p + xs.length : Nat) : Int)) ∧ OwnT w' base v (marksT p xs.length) ∧ w.grownBy w' v.ownBlock := by
  have HT : Hid (∀ (k : Nat), k ≤ 1073741824 → ∀ w', Calls Try.prog 94 #[.int .i64 (k : Int)] w' fun e w'' => e = .returned (.string (mkS k)) ∧ Below w'.heap.size w' w'') := fun k hk w' => markText_any k w' hk
  unfold OwnT at *
  rw [marksT_length]
  rcases h.2 with ⟨rfl, h0⟩ | ⟨g, cap, cur, rfl, hb', hg, hnc, hcm, hcs, htake⟩
  · obtain rfl : xs = [] := List.eq_nil_of_length_eq_zero h0
    go_enter Try.func51, Try.ntmps51
    go_wp2
    go_loop [1, 5] (fun q i => i = .int .i64 0 ∧ q = .int .i64 (p : Int)) (fun _ _ => 0)
    case atStart => exact ⟨rfl, rfl⟩
    case round =>
      obtain ⟨rfl, rfl⟩ := hrel
      go_wp2
      go_ret
      exact ⟨by simp, World.ownsRow_nil _ _ _ _, World.grownBy.refl _ _⟩
  · clear hg htake hcs
    unfold maxLen at hcm
    go_enter Try.func51, Try.ntmps51
    go_wp2
    go_loopw [1, 5] (fun q i wr => ∃ k : Nat, k ≤ xs.length ∧ i = .int .i64 k ∧ q = .int .i64 ((p + k : Nat) : Int) ∧ Hid (wr.ownsRow base 9 1 (.slice (some ⟨g, 0, none⟩) xs.length cap) xs.length ((marksT p k ++ xs.drop k).map Value.string)) ∧ Hid (w.grownBy wr (some g))) (fun _ i _ => xs.length - (intOf i).toNat)
    case atStart => exact ⟨0, Nat.zero_le _, rfl, rfl, Hid.mk (by simpa [marksT] using h), World.grownBy.refl _ _⟩
    case round =>
      obtain ⟨k, hk, rfl, rfl, HO, HG⟩ := hrel
      clear h
      by_cases hlt : k < xs.length
      · have HC := Hid.mk (HT.out (p + k) (by omega) wr)
        have hki : (k : Int) < (xs.length : Int) := by omega
        obtain ⟨q, hq⟩ : ∃ q : Int, ((p + k : Nat) : Int) = q := ⟨_, rfl⟩
        have HQ := Hid.mk hq
        have hq0 : 0 ≤ q := by omega
        have hq1 : q ≤ 16777216 := by omega
        have HS := Hid.mk (markT_step p xs k hlt)
        generalize mkS (p + k) = ms at HC HS
        rw [hq] at HC
        rw [hq]
        clear hq
        go_wp2_with fail
        refine HC.out.mono ?_
        rintro e w2 ⟨rfl, hb2⟩
        have hown2 : w2.ownsRow base 9 1 (.slice (some ⟨g, 0, none⟩) xs.length cap) xs.length ((marksT p k ++ xs.drop k).map Value.string) := World.ownsRow.kept (row := none) HO.out ⟨hb2.os, hb2.tape, hb2.output, hb2.size, fun k hk _ => hb2.block k hk⟩ (.inr (by simp [Value.ownBlock]))
        have hfr := hown2.frozenAt k
        have hold := hown2.cellAt k (by omega)
        obtain ⟨o, ho⟩ : ∃ o, ((marksT p k ++ xs.drop k).map Value.string)[k]? = some (.string o) := by
          have : k < (marksT p k ++ xs.drop k).length := by simp [marksT]; omega
          exact ⟨_, by rw [List.getElem?_map, List.getElem?_eq_getElem this]; rfl⟩
        rw [ho] at hold
        have hst := hown2.stored k (.string ms)
        rw [map_set_st, HS.out] at hst
        have HR := Hid.mk hst.1
        have HG2 : Hid (w.grownBy (w2.setCell ⟨g, k, none⟩ (.string ms)) (some g)) := by
          have q2 := hst.2
          have q1 := HG.out
          have s2 := hb2.size
          exact ⟨q2.os.trans (hb2.os.trans q1.os), q2.tape.trans (hb2.tape.trans q1.tape), q2.output.trans (hb2.output.trans q1.output), Nat.le_trans q1.size (Nat.le_trans s2 q2.size), fun j hj hne => (q2.block j (by have := q1.size; omega) hne).trans ((hb2.block j (by have := q1.size; omega)).trans (q1.block j hj hne))⟩
        have hx0 : 0 < xs.length := by omega
        clear hown2 ho hst hb2 HC HO HG HS
        go_wp2
        go_roundw
        case rel => exact ⟨k + 1, by omega, by go_num, by have := HQ.out; congr 1; omega, HR, HG2⟩
        case measure => simp [intOf]; omega
      · have e : k = xs.length := by omega
        subst e
        go_wp2
        go_ret
        exact ⟨rfl, by simpa using HO.out, HG.out⟩

set_option maxHeartbeats 1000000 in
theorem heldStringS_marks (v : Value) (n p : Nat) (w : World) (h : Tz w v (marksT p n)) (hlen : n ≤ 8388608) (hp1 : p ≤ 1048576) :
    Calls Try.prog 52 #[v, .int .i64 (p : Int)] w fun e w' => e = .returned (.int .i64 ((p + n : Nat) : Int)) ∧ Below w.heap.size w w' := by
  obtain ⟨ao, cap, rfl, hl, hm, hn, hc⟩ := h
  rw [marksT_length] at hl hc ⊢
  unfold maxLen at hm
  have HC := Hid.mk hc
  have HNE : Hid (∀ k, k < n → marksT p n ≠ []) := fun k hk h0 => by have := marksT_length p n; rw [h0] at this; simp at this; omega
  clear hc
  go_enter Try.func52, Try.ntmps52
  go_wp2
  go_loopw [1, 5] (fun q i wr => ∃ k : Nat, k ≤ n ∧ i = .int .i64 k ∧ q = .int .i64 ((p + k : Nat) : Int) ∧ Hid (Below w.heap.size w wr)) (fun _ i _ => n - (intOf i).toNat)
  case atStart => exact ⟨0, Nat.zero_le _, rfl, rfl, Below.refl _ _⟩
  case round =>
    obtain ⟨k, hk, rfl, rfl, HB⟩ := hrel
    by_cases hlt : k < n
    · obtain ⟨b, off, rfl, hcell⟩ := HC.out (HNE.out k hlt)
      have h1 : w.cell? ⟨b, off + k, none⟩ = some (.string (mkS (p + k))) := by rw [hcell k hlt, marksT_getD p n k hlt]
      have h2 : wr.cell? ⟨b, off + k, none⟩ = some (.string (mkS (p + k))) := by rw [HB.out.cell (p := ⟨b, off + k, none⟩) (World.block_lt_of_cell? w _ h1)]; exact h1
      have cA := Hid.mk (fun d os => Calls.regrown_of (w := wr) (d := d) (os := os) (markText_any (p + k) _ (by omega)))
      obtain ⟨q, hq⟩ : ∃ q : Int, ((p + k : Nat) : Int) = q := ⟨_, rfl⟩
      have HQ := Hid.mk hq
      have hq0 : 0 ≤ q := by omega
      have hq1 : q ≤ 16777216 := by omega
      rw [hq] at cA
      generalize mkS (p + k) = ms at h2 cA
      rw [hq]
      have h4 : (ms.toList != ms.toList) = false := by simp
      have a0 := cell_regrown h2
      have hki : (k : Int) < (n : Int) := by omega
      clear hcell h1 h2 hq
      go_wp2_with fail
      refine wp_region_quiet_below (by kernel_rfl) (by kernel_rfl) ?_
      quiet_step (fail)
      quiet_step (fail)
      quiet_step (fail)
      quiet_step (fail)
      quiet_step (fail)
      quiet_step (exact cA.out _ _)
      quiet_step (fail)
      refine wpQuiet_nil ?_
      intro w6 hw'
      obtain ⟨⟨dq, osq⟩, hw''⟩ := hw'
      have hb6 : Below wr.heap.size wr w6 := by rw [hw'']; exact below_regrown _ _ _
      have HB2 := Hid.mk (HB.out.trans (hb6.mono HB.out.size))
      clear hw'' a0 cA hb6 HB
      go_wp2
      go_roundw
      case rel => exact ⟨k + 1, by omega, by go_num, by have := HQ.out; congr 1; omega, HB2⟩
      case measure => simp [intOf]; omega
    · have e : k = n := by omega
      subst e
      go_wp2
      go_ret
      exact ⟨rfl, HB.out⟩
end Go.Proofs.Yteomhjoodnjfbaa
