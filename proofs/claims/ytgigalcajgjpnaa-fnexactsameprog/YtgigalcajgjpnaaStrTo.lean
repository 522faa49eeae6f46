/- A copy of a slice of texts, by the laws' own function. -/
import Derived.Test.YtgigalcajgjpnaaStrLeaf
namespace Go.Proofs.Ytgigalcajgjpnaa
open Go.RowKit
set_option maxRecDepth 8000

theorem Tz.cellAt {w : World} {b off n cap : Nat} {xs : List ByteArray} (h : Tz w (.slice (some ⟨b, off, none⟩) n cap) xs) {k : Nat} (hk : k < xs.length) : w.cell? ⟨b, off + k, none⟩ = some (.string (xs.getD k ⟨#[]⟩)) := by
  obtain ⟨ao, cap', h1, _, _, _, h5⟩ := h
  obtain ⟨b', off', rfl, h7⟩ := h5 (by intro h0; rw [h0] at hk; simp at hk)
  simp only [Value.slice.injEq, Option.some.injEq, Addr.mk.injEq, and_true] at h1
  obtain ⟨⟨rfl, rfl⟩, _⟩ := h1
  exact h7 k hk
theorem Tz.at {w : World} {ao : Option Addr} {n cap : Nat} {xs : List ByteArray} (h : Tz w (.slice ao n cap) xs) {k : Nat} (hk : k < xs.length) : ∃ b off, ao = some ⟨b, off, none⟩ ∧ ∀ w', Below w.heap.size w w' → w'.cell? ⟨b, off + k, none⟩ = some (.string (xs.getD k ⟨#[]⟩)) := by
  obtain ⟨ao', cap', h1, _, _, _, h5⟩ := id h
  obtain ⟨b', off', rfl, h7⟩ := h5 (by intro h0; rw [h0] at hk; simp at hk)
  simp only [Value.slice.injEq] at h1
  obtain ⟨rfl, rfl, rfl⟩ := h1
  exact ⟨b', off', rfl, fun w' hb => (h.grow hb).cellAt hk⟩

theorem made_t (n : Nat) : (madeCells #[Value.string ⟨#[]⟩] n).toList = (List.replicate n (⟨#[]⟩ : ByteArray)).map Value.string := by
  rw [toList_madeCells_one]; simp
theorem map_set_str (xs : List ByteArray) (k : Nat) (z : ByteArray) : (xs.map Value.string).set k (.string z) = (xs.set k z).map Value.string := by
  rw [List.map_set]
theorem copy_step_t (zs : List ByteArray) (k : Nat) (hk : k < zs.length) :
    (zs.take k ++ List.replicate (zs.length - k) (⟨#[]⟩ : ByteArray)).set k (zs.getD k ⟨#[]⟩) = zs.take (k + 1) ++ List.replicate (zs.length - (k + 1)) (⟨#[]⟩ : ByteArray) := by
  apply List.ext_getElem?
  intro i
  by_cases h : i = k
  · subst h
    rw [List.getElem?_set_self (by simp; omega), List.getElem?_append_left (by simp; omega)]
    simp [List.getD, hk]
  · rw [List.getElem?_set_ne (by omega)]
    simp only [List.getElem?_append, List.length_take, List.getElem?_take, List.getElem?_replicate]
    grind

set_option maxHeartbeats 1000000 in
theorem toStringS_any (v : Value) (zs : List ByteArray) (w : World) (h : Tz w v zs) (hlen : zs.length ≤ 4194304) :
    Calls Try.prog 79 #[v] w fun e w' => ∃ u, e = .returned u ∧ OwnT w' w.heap.size u zs ∧ Below w.heap.size w w' := by
  have hsub := Hid.mk h
  obtain ⟨ao, cap, rfl, hl, hm, hn, hc⟩ := h
  unfold maxLen at hm
  clear hc
  have HB0 : Hid (∀ k, k < zs.length → ao ≠ none) := fun k hk h0 => by rw [hn h0] at hl; omega
  obtain ⟨i0, hi, hz0, hz1, hz2⟩ := info_parts infoT
  go_enter Try.func79, Try.ntmps79
  go_wp2_with (at_make; refine wpList_make_full _ rfl _ _ 80 rfl w.heap.size 9 i0 (.string ⟨#[]⟩) 1 Try.underlying80 hi hz0 hz1 _ _ _ _ zs.length rfl rfl rfl rfl (by rw [hz2]; omega) (by unfold maxLen; omega) (by simp) ?_)
  intro w1 hown hgrow
  rw [made_t] at hown
  have hbel : Below w.heap.size w w1 := (Below.refl _ _).grown hgrow (Nat.le_refl _) (by simp)
  clear hgrow
  go_wp2
  go_loopw [4] (fun i wr => ∃ k : Nat, k ≤ zs.length ∧ i = .int .i64 k ∧ wr.ownsRow w.heap.size 9 1 (.slice (some ⟨w.heap.size, 0, none⟩) zs.length zs.length) zs.length ((zs.take k ++ List.replicate (zs.length - k) (⟨#[]⟩ : ByteArray)).map Value.string) ∧ Below w.heap.size w wr) (fun i _ => zs.length - (intOf i).toNat)
  case atStart => exact ⟨0, Nat.zero_le _, rfl, by simpa using hown, hbel⟩
  case round =>
    obtain ⟨k, hk, rfl, hownr, hbelr⟩ := hrel
    by_cases hlt : k < zs.length
    · obtain ⟨⟨b, off, r⟩, rfl⟩ : ∃ a, ao = some a := Option.ne_none_iff_exists'.1 (HB0.out k hlt)
      obtain rfl : r = none := by
        obtain ⟨ao', cap', h1, _, _, _, h5⟩ := hsub.out
        obtain ⟨b', off', rfl, h7⟩ := h5 (by intro h0; rw [h0] at hlt; simp at hlt)
        simp only [Value.slice.injEq, Option.some.injEq, Addr.mk.injEq] at h1
        exact h1.1.2.2
      obtain ⟨c, Hc⟩ : ∃ c, Hid (zs.getD k ⟨#[]⟩ = c) := ⟨_, rfl⟩
      have hcx : wr.cell? ⟨b, off + k, none⟩ = some (.string c) := by rw [← Hc.out]; exact (hsub.out.grow hbelr).cellAt hlt
      have hfr := hownr.frozenAt k
      have hold := hownr.cellAt k (by omega)
      have R : (wr.setCell ⟨w.heap.size, k, none⟩ (.string c)).ownsRow w.heap.size 9 1 (.slice (some ⟨w.heap.size, 0, none⟩) zs.length zs.length) zs.length ((zs.take (k + 1) ++ List.replicate (zs.length - (k + 1)) (⟨#[]⟩ : ByteArray)).map Value.string) ∧ Below w.heap.size w (wr.setCell ⟨w.heap.size, k, none⟩ (.string c)) := by
        refine ⟨?_, hbelr.setCell (Nat.le_refl _) _⟩
        have := (hownr.stored k (.string c)).1
        rw [map_set_str, ← Hc.out, copy_step_t zs k hlt] at this
        rw [← Hc.out]
        exact this
      obtain ⟨o, ho⟩ : ∃ o, ((zs.take k ++ List.replicate (zs.length - k) (⟨#[]⟩ : ByteArray)).map Value.string)[k]? = some (.string o) := by
        have : k < (zs.take k ++ List.replicate (zs.length - k) (⟨#[]⟩ : ByteArray)).length := by simp; omega
        exact ⟨_, by rw [List.getElem?_map, List.getElem?_eq_getElem this]; rfl⟩
      rw [ho] at hold
      have HR := Hid.mk R
      clear hownr hbelr hsub R ho
      go_wp2
      go_roundw
      case rel => exact ⟨k + 1, by omega, by go_num, HR.out.1, HR.out.2⟩
      case measure => simp [intOf]; omega
    · go_wp2
      go_ret
      have e : k = zs.length := by omega
      subst e
      exact ⟨_, rfl, by unfold OwnT; simpa using hownr, hbelr⟩
end Go.Proofs.Ytgigalcajgjpnaa
