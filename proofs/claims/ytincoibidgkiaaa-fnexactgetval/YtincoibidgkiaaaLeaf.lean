/- The small functions of the laws over slices of bytes: a copy, whether two are the same, marks, whether marks are held. -/
import Derived.Test.YtincoibidgkiaaaBytes
namespace Go.Proofs.Ytincoibidgkiaaa
open Go.RowKit

theorem info5 : (Try.prog.info? 5).map (fun i => (i.zero, i.size, i.bytes)) = some (some (.int .u8 0), 1, 1) := by kernel_rfl

theorem U8_set (xs : List Int) (j : Nat) (z : Int) : (U8 xs).set j (.int .u8 z) = U8 (xs.set j z) := by simp [U8, List.map_set]
theorem made_u8 (n : Nat) : (madeCells #[Value.int .u8 0] n).toList = U8 (List.replicate n 0) := by
  rw [toList_madeCells_one]; simp [U8]

theorem copy_step (zs : List Int) (k : Nat) (hk : k < zs.length) :
    (zs.take k ++ List.replicate (zs.length - k) 0).set k (zs.getD k 0) = zs.take (k + 1) ++ List.replicate (zs.length - (k + 1)) 0 := by
  apply List.ext_getElem?
  intro i
  by_cases h : i = k
  · subst h
    rw [List.getElem?_set_self (by simp; omega), List.getElem?_append_left (by simp; omega)]
    simp [List.getD, hk]
  · rw [List.getElem?_set_ne (by omega)]
    simp only [List.getElem?_append, List.length_take, List.getElem?_take, List.getElem?_replicate]
    grind

set_option maxHeartbeats 400000 in
theorem toByteS_any (v : Value) (zs : List Int) (w : World) (h : Bs w v zs) (hlen : zs.length ≤ 4194304) :
    Calls Try.prog 36 #[v] w fun e w' => e = .returned (.slice (some ⟨w.heap.size, 0, none⟩) zs.length zs.length) ∧
      w'.ownsRow w.heap.size 5 1 (.slice (some ⟨w.heap.size, 0, none⟩) zs.length zs.length) zs.length (U8 zs) ∧ Below w.heap.size w w' := by
  have hsub := h
  obtain ⟨hb, ao, cap, rfl, hl, hm, hn, hc⟩ := h
  unfold maxLen at hm
  obtain ⟨i0, hi, hz0, hz1, hz2⟩ := info_parts info5
  go_enter Try.func36, Try.ntmps36
  go_wp2_with (at_make; refine wpList_make_full _ rfl _ _ 22 rfl w.heap.size 5 i0 (.int .u8 0) 1 Try.underlying22 hi hz0 hz1 _ _ _ _ zs.length rfl rfl rfl rfl (by rw [hz2]; omega) (by unfold maxLen; omega) (by simp) ?_)
  intro w1 hown hgrow
  rw [made_u8] at hown
  have hbel : Below w.heap.size w w1 := (Below.refl _ _).grown hgrow (Nat.le_refl _) (by simp)
  clear hgrow
  go_wp2
  go_loopw [4] (fun i wr => ∃ k : Nat, k ≤ zs.length ∧ i = .int .i64 k ∧ wr.ownsRow w.heap.size 5 1 (.slice (some ⟨w.heap.size, 0, none⟩) zs.length zs.length) zs.length (U8 (zs.take k ++ List.replicate (zs.length - k) 0)) ∧ Below w.heap.size w wr) (fun i _ => zs.length - (intOf i).toNat)
  case atStart => exact ⟨0, Nat.zero_le _, rfl, by simpa using hown, hbel⟩
  case round =>
    obtain ⟨k, hk, rfl, hownr, hbelr⟩ := hrel
    by_cases hlt : k < zs.length
    · obtain ⟨b, off, rfl, hcell⟩ := hc (by intro h0; rw [h0] at hlt; simp at hlt)
      obtain ⟨c, Hc⟩ : ∃ c, Hid (zs.getD k 0 = c) := ⟨_, rfl⟩
      have hcx : wr.cell? ⟨b, off + k, none⟩ = some (.int .u8 c) := by rw [← Hc.out]; exact (hsub.grow hbelr).cellAt hlt
      have hfr := hownr.frozenAt k
      have hold := hownr.cellAt k (by omega)
      have R : (wr.setCell ⟨w.heap.size, k, none⟩ (.int .u8 c)).ownsRow w.heap.size 5 1 (.slice (some ⟨w.heap.size, 0, none⟩) zs.length zs.length) zs.length (U8 (zs.take (k + 1) ++ List.replicate (zs.length - (k + 1)) 0)) ∧ Below w.heap.size w (wr.setCell ⟨w.heap.size, k, none⟩ (.int .u8 c)) := by
        refine ⟨?_, hbelr.setCell (Nat.le_refl _) _⟩
        have := (hownr.stored k (.int .u8 c)).1
        rw [U8_set, ← Hc.out, copy_step zs k hlt] at this
        rw [← Hc.out]
        exact this
      rw [U8_get _ k (by simp; omega)] at hold
      clear hownr hbelr hcell hc hsub
      go_wp2
      go_roundw
      case rel => exact ⟨k + 1, by omega, by go_num, R.1, R.2⟩
      case measure => simp [intOf]; omega
    · go_wp2
      go_ret
      have e : k = zs.length := by omega
      subst e
      refine ⟨rfl, by simpa using hownr, hbelr⟩

/-- A slice of bytes against one that reads the same: true. -/
theorem eqByteS_same (v u : Value) (zs : List Int) (w : World) (hv : Bs w v zs) (hu : Bs w u zs) :
    Calls Try.prog 37 #[v, u] w fun e w' => e = .returned (.bool true) ∧ ∃ n, w' = w.drewN n := by
  obtain ⟨hb, ao, cap, rfl, hl, hm, hn, hc⟩ := hv
  obtain ⟨_, ao2, cap2, rfl, hl2, hm2, hn2, hc2⟩ := hu
  unfold maxLen at hm hm2
  go_enter Try.func37, Try.ntmps37
  go_wp2
  go_loopw [5] (fun i wr => ∃ k : Nat, k ≤ zs.length ∧ i = .int .i64 k ∧ ∃ n, wr = w.drewN n) (fun i _ => zs.length - (intOf i).toNat)
  case atStart => exact ⟨0, Nat.zero_le _, rfl, 0, rfl⟩
  case round =>
    obtain ⟨k, hk, rfl, n, rfl⟩ := hrel
    by_cases hlt : k < zs.length
    · obtain ⟨b, off, rfl, hcell⟩ := hc (by intro h0; rw [h0] at hlt; simp at hlt)
      obtain ⟨b2, off2, rfl, hcell2⟩ := hc2 (by intro h0; rw [h0] at hlt; simp at hlt)
      obtain ⟨c, Hc⟩ : ∃ c, Hid (zs.getD k 0 = c) := ⟨_, rfl⟩
      have h1 : w.cell? ⟨b, off + k, none⟩ = some (.int .u8 c) := by rw [← Hc.out]; exact hcell k hlt
      have h2 : w.cell? ⟨b2, off2 + k, none⟩ = some (.int .u8 c) := by rw [← Hc.out]; exact hcell2 k hlt
      have hi1 : (k : Int) < (zs.length : Int) := by omega
      clear hc hc2 hcell hcell2
      go_wp2
      go_quiet (fail)
      go_wp2
      go_roundw
      case rel => exact ⟨k + 1, by omega, by go_num, _, rfl⟩
      case measure => simp [intOf]; omega
    · go_wp2
      go_ret
      exact ⟨rfl, n, rfl⟩

/-- The marks that 'markByteS' lays: k, k+1, .. as bytes. -/
def marks (k : Int) (n : Nat) : List Int := (List.range n).map fun (i : Nat) => (k + (i : Int)) % 256

theorem marks_length (k : Int) (n : Nat) : (marks k n).length = n := by simp [marks]
theorem marks_byte (k : Int) (n : Nat) : byteList (marks k n) := by
  intro z hz
  obtain ⟨i, _, rfl⟩ := List.mem_map.1 hz
  omega
theorem marks_getD (k : Int) (n i : Nat) (h : i < n) : (marks k n).getD i 0 = (k + i) % 256 := by simp [marks, List.getD, h]

theorem mark_step (xs : List Int) (k : Nat) (hk : k < xs.length) :
    (marks 1 k ++ xs.drop k).set k ((1 + (k : Int)) % 256) = marks 1 (k + 1) ++ xs.drop (k + 1) := by
  apply List.ext_getElem?
  intro i
  by_cases h : i = k
  · subst h
    rw [List.getElem?_set_self (by simp [marks]; omega), List.getElem?_append_left (by simp [marks])]
    simp [marks]
  · rw [List.getElem?_set_ne (by omega)]
    by_cases h2 : i < k
    · rw [List.getElem?_append_left (by simp [marks]; omega), List.getElem?_append_left (by simp [marks]; omega)]
      simp [marks, h2, show i < k + 1 by omega]
    · rw [List.getElem?_append_right (by simp [marks]; omega), List.getElem?_append_right (by simp [marks]; omega)]
      simp only [marks_length, List.getElem?_drop]
      congr 1
      omega

theorem wrap_u8_int (n : Int) : IntKind.u8.wrap n = n % 256 := IntKind.wrap_u8 n

/-- Marks laid into a slice of the call's own. -/
theorem markByteS_any (base : Nat) (v : Value) (xs : List Int) (w : World) (h : w.ownsRow base 5 1 v xs.length (U8 xs)) (hlen : xs.length ≤ 8388608) :
    Calls Try.prog 38 #[v, .int .i64 1] w fun e w' => e = .returned (.int .i64 (1 + xs.length)) ∧
      w'.ownsRow base 5 1 v xs.length (U8 (marks 1 xs.length)) ∧ w.grownBy w' v.ownBlock := by
  rcases h.2 with ⟨rfl, h0⟩ | ⟨g, cap, cur, rfl, hb', hg, hnc, hcm, hcs, htake⟩
  · obtain rfl : xs = [] := List.eq_nil_of_length_eq_zero h0
    go_enter Try.func38, Try.ntmps38
    go_wp2
    go_loop [1, 5] (fun q i => i = .int .i64 0 ∧ q = .int .i64 1) (fun _ _ => 0)
    case atStart => exact ⟨rfl, rfl⟩
    case round =>
      obtain ⟨rfl, rfl⟩ := hrel
      go_wp2
      go_ret
      exact ⟨rfl, World.ownsRow_nil _ _ _ _, World.grownBy.refl _ _⟩
  · clear hg htake hcs
    unfold maxLen at hcm
    go_enter Try.func38, Try.ntmps38
    go_wp2
    go_loopw [1, 5] (fun q i wr => ∃ k : Nat, k ≤ xs.length ∧ i = .int .i64 k ∧ q = .int .i64 (1 + k) ∧ wr.ownsRow base 5 1 (.slice (some ⟨g, 0, none⟩) xs.length cap) xs.length (U8 (marks 1 k ++ xs.drop k)) ∧ w.grownBy wr (some g)) (fun _ i _ => xs.length - (intOf i).toNat)
    case atStart => exact ⟨0, Nat.zero_le _, rfl, rfl, by simpa [marks] using h, World.grownBy.refl _ _⟩
    case round =>
      obtain ⟨k, hk, rfl, rfl, hownr, hgr⟩ := hrel
      by_cases hlt : k < xs.length
      · have hfr := hownr.frozenAt k
        have hold := hownr.cellAt k (by omega)
        rw [U8_get _ k (by simp [marks]; omega)] at hold
        have hwr := wrap_u8_int (1 + (k : Int))
        have R : (wr.setCell ⟨g, k, none⟩ (.int .u8 ((1 + (k : Int)) % 256))).ownsRow base 5 1 (.slice (some ⟨g, 0, none⟩) xs.length cap) xs.length (U8 (marks 1 (k + 1) ++ xs.drop (k + 1))) ∧ w.grownBy (wr.setCell ⟨g, k, none⟩ (.int .u8 ((1 + (k : Int)) % 256))) (some g) := by
          have := hownr.stored k (.int .u8 ((1 + (k : Int)) % 256))
          rw [U8_set, mark_step xs k hlt] at this
          refine ⟨this.1, ?_⟩
          have q := this.2
          exact ⟨q.os.trans hgr.os, q.tape.trans hgr.tape, q.output.trans hgr.output, Nat.le_trans hgr.size q.size, fun j hj hne => (q.block j (Nat.lt_of_lt_of_le hj hgr.size) hne).trans (hgr.block j hj hne)⟩
        clear hownr hgr h
        go_wp2
        go_roundw
        case rel => exact ⟨k + 1, by omega, by go_num, by go_num, R.1, R.2⟩
        case measure => simp [intOf]; omega
      · go_wp2
        go_ret
        have e : k = xs.length := by omega
        subst e
        exact ⟨rfl, by simpa using hownr, hgr⟩

/-- Marks that are held. -/
theorem heldByteS_marks (v : Value) (n : Nat) (w : World) (h : Bs w v (marks 1 n)) (hlen : n ≤ 8388608) :
    Calls Try.prog 39 #[v, .int .i64 1] w fun e w' => e = .returned (.int .i64 (1 + n)) ∧ w' = w := by
  obtain ⟨hb, ao, cap, rfl, hl, hm, hn, hc⟩ := h
  rw [marks_length] at hl hc ⊢
  unfold maxLen at hm
  go_enter Try.func39, Try.ntmps39
  go_wp2
  go_loop [1, 5] (fun q i => ∃ k : Nat, k ≤ n ∧ i = .int .i64 k ∧ q = .int .i64 (1 + k)) (fun _ i => n - (intOf i).toNat)
  case atStart => exact ⟨0, Nat.zero_le _, rfl, rfl⟩
  case round =>
    obtain ⟨k, hk, rfl, rfl⟩ := hrel
    by_cases hlt : k < n
    · obtain ⟨b, off, rfl, hcell⟩ := hc (by intro h0; have := marks_length 1 n; rw [h0] at this; simp at this; omega)
      have h1 : w.cell? ⟨b, off + k, none⟩ = some (.int .u8 ((1 + (k : Int)) % 256)) := by rw [hcell k hlt, marks_getD 1 n k hlt]
      have hwr := wrap_u8_int (1 + (k : Int))
      clear hc hcell
      go_wp2
      go_round
      case rel => exact ⟨k + 1, by omega, by go_num, by go_num⟩
      case measure => simp [intOf]; omega
    · go_wp2
      go_ret
      have e : k = n := by omega
      subst e
      exact ⟨rfl, rfl⟩
end Go.Proofs.Ytincoibidgkiaaa
