/- Slices of numbers copied by the laws. -/
import Derived.Test.YteomhjoodnjfbaaIntLeaf
namespace Go.Proofs.Yteomhjoodnjfbaa
open Go.RowKit
set_option maxRecDepth 8000

theorem infoZt : (Try.prog.info? 3).map (fun i => (i.zero, i.size, i.bytes)) = some (some (.int .i64 0), 1, 8) := by kernel_rfl
theorem made_z (n : Nat) : (madeCells #[Value.int .i64 0] n).toList = (List.replicate n (0 : Int)).map (Value.int .i64) := by
  rw [toList_madeCells_one]; simp

theorem Iz.cellAt {w : World} {b off n cap : Nat} {xs : List Int} (h : Iz w (.slice (some ⟨b, off, none⟩) n cap) xs) {k : Nat} (hk : k < xs.length) : w.cell? ⟨b, off + k, none⟩ = some (.int .i64 (xs.getD k 0)) := by
  obtain ⟨ao, cap', h1, _, _, _, h5⟩ := h
  obtain ⟨b', off', rfl, h7⟩ := h5 (by intro h0; rw [h0] at hk; simp at hk)
  simp only [Value.slice.injEq, Option.some.injEq, Addr.mk.injEq, and_true] at h1
  obtain ⟨⟨rfl, rfl⟩, _⟩ := h1
  exact h7 k hk

set_option maxHeartbeats 1000000 in
theorem toIntS_any (v : Value) (zs : List Int) (w : World) (h : Iz w v zs) (hlen : zs.length ≤ 4194304) :
    Calls Try.prog 18 #[v] w fun e w' => ∃ u, e = .returned u ∧ OwnZ w' w.heap.size u zs ∧ Below w.heap.size w w' := by
  have hsub := Hid.mk h
  obtain ⟨ao, cap, rfl, hl, hm, hn, hc⟩ := h
  unfold maxLen at hm
  clear hc
  have HB0 : Hid (∀ k, k < zs.length → ao ≠ none) := fun k hk h0 => by rw [hn h0] at hl; omega
  obtain ⟨i0, hi, hz0, hz1, hz2⟩ := info_parts infoZt
  go_enter Try.func18, Try.ntmps18
  go_wp2_with (at_make; refine wpList_make_full _ rfl _ _ 25 rfl w.heap.size 3 i0 (.int .i64 0) 1 Try.underlying25 hi hz0 hz1 _ _ _ _ zs.length rfl rfl rfl rfl (by rw [hz2]; omega) (by unfold maxLen; omega) (by simp) ?_)
  intro w1 hown hgrow
  rw [made_z] at hown
  have hbel : Below w.heap.size w w1 := (Below.refl _ _).grown hgrow (Nat.le_refl _) (by simp)
  clear hgrow
  go_wp2
  go_loopw [4] (fun i wr => ∃ k : Nat, k ≤ zs.length ∧ i = .int .i64 k ∧ wr.ownsRow w.heap.size 3 1 (.slice (some ⟨w.heap.size, 0, none⟩) zs.length zs.length) zs.length ((zs.take k ++ List.replicate (zs.length - k) 0).map (Value.int .i64)) ∧ Below w.heap.size w wr) (fun i _ => zs.length - (intOf i).toNat)
  case atStart => exact ⟨0, Nat.zero_le _, rfl, by simpa using hown, hbel⟩
  case round =>
    obtain ⟨k, hk, rfl, hownr, hbelr⟩ := hrel
    by_cases hlt : k < zs.length
    · obtain ⟨⟨b, off, r⟩, rfl⟩ : ∃ a, ao = some a := Option.ne_none_iff_exists'.1 (HB0.out k hlt)
      obtain rfl : r = none := by
        obtain ⟨ao', cap', h1, _, _, _, h5⟩ := hsub.out
        obtain ⟨b', off', rfl, h7⟩ := h5 (by intro h0; rw [h0] at hlt; simp at hlt)
        simp only [Value.slice.injEq, Option.some.injEq, Addr.mk.injEq] at h1
        exact h1.1.2.2
      obtain ⟨c, Hc⟩ : ∃ c, Hid (zs.getD k 0 = c) := ⟨_, rfl⟩
      have hcx : wr.cell? ⟨b, off + k, none⟩ = some (.int .i64 c) := by rw [← Hc.out]; exact (hsub.out.grow hbelr).cellAt hlt
      have hfr := hownr.frozenAt k
      have hold := hownr.cellAt k (by omega)
      have R : (wr.setCell ⟨w.heap.size, k, none⟩ (.int .i64 c)).ownsRow w.heap.size 3 1 (.slice (some ⟨w.heap.size, 0, none⟩) zs.length zs.length) zs.length ((zs.take (k + 1) ++ List.replicate (zs.length - (k + 1)) 0).map (Value.int .i64)) ∧ Below w.heap.size w (wr.setCell ⟨w.heap.size, k, none⟩ (.int .i64 c)) := by
        refine ⟨?_, hbelr.setCell (Nat.le_refl _) _⟩
        have := (hownr.stored k (.int .i64 c)).1
        rw [map_set_int, ← Hc.out, copy_step zs k hlt] at this
        rw [← Hc.out]
        exact this
      obtain ⟨o, ho⟩ : ∃ o, ((zs.take k ++ List.replicate (zs.length - k) 0).map (Value.int .i64))[k]? = some (.int .i64 o) := by
        have : k < (zs.take k ++ List.replicate (zs.length - k) 0).length := by simp; omega
        exact ⟨_, by rw [List.getElem?_map, List.getElem?_eq_getElem this]; rfl⟩
      rw [ho] at hold
      have HR := Hid.mk R
      clear hownr hbelr hsub R ho
      go_wp2
      go_roundw
      case rel => exact ⟨k + 1, by omega, by go_num, HR.out.1, HR.out.2⟩
      case measure => simp [intOf]; omega
    · go_wp2
      go_ret
      have e : k = zs.length := by omega
      subst e
      exact ⟨_, rfl, by unfold OwnZ; simpa using hownr, hbelr⟩

/-- The frame's word for a slice of numbers that came in. -/
theorem Iz.of_row {w : World} {a : Option Addr} {len cap : Nat} {zs : List Int}
    (h : (a = none ∧ len = 0 ∧ cap = 0 ∧ zs = []) ∨
      ∃ x, a = some x ∧ len ≤ cap ∧ cap ≤ maxLen ∧ zs.length = cap ∧ (∀ i, i < zs.length → w.cell? (x.add i) = some (.int .i64 (zs.getD i 0))) ∧ ∀ n ∈ zs, (Lit.int .i64 n).wf = true) :
    Iz w (.slice a len cap) (zs.take len) := by
  rcases h with ⟨rfl, rfl, rfl, rfl⟩ | ⟨x, rfl, hl, hm, hz, hcell, hwf⟩
  · exact ⟨none, 0, by simp, by simp, by simp, fun _ => rfl, fun h => by simp at h⟩
  · have hlen : (zs.take len).length = len := by simp; omega
    refine ⟨some x, cap, by rw [hlen], by omega, hm, fun h => by simp at h, fun hne => ?_⟩
    have hpos : 0 < len := by
      rcases Nat.eq_zero_or_pos len with h0 | h0
      · subst h0; simp at hne
      · exact h0
    obtain ⟨b, off, spot⟩ := x
    have hc := hcell 0 (by omega)
    have hspot : spot = none := by simpa [Addr.add] using World.cell?_spot hc
    subst hspot
    refine ⟨b, off, rfl, fun i hi => ?_⟩
    have := hcell i (by omega)
    rw [hlen] at hi
    rw [Addr.add_lit] at this
    rw [this]
    simp [List.getD, hi]
end Go.Proofs.Yteomhjoodnjfbaa
