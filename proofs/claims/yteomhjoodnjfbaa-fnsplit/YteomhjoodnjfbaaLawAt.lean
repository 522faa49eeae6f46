/- A byte of an input, as the laws take it. -/
import Derived.Test.YteomhjoodnjfbaaLeaf
namespace Go.Proofs.Yteomhjoodnjfbaa
open Go.RowKit
set_option maxRecDepth 8000

theorem at_any (v : Value) (zs : List Int) (w : World) (h : Bs w v zs) (hlen : zs.length ≤ 1048576) :
    Calls Try.prog 40 #[v, .int .i64 2] w fun e w' => ∃ x : Int, e = .returned (.int .i64 x) ∧ 0 ≤ x ∧ x < 256 ∧ w' = w := by
  obtain ⟨hb, ao, cap, rfl, hl, hm, hn, hc⟩ := h
  unfold maxLen at hm
  by_cases h2 : 2 < zs.length
  · obtain ⟨b, off, rfl, hcell⟩ := hc (by intro h0; rw [h0] at h2; simp at h2)
    have h1 := hcell 2 h2
    have hz : 0 ≤ zs.getD 2 0 ∧ zs.getD 2 0 < 256 := by
      have := hb _ (show zs.getD 2 0 ∈ zs by simp [List.getD, h2])
      omega
    obtain ⟨c, hcc⟩ : ∃ c, zs.getD 2 0 = c := ⟨_, rfl⟩
    rw [hcc] at h1 hz
    have hi : (2 : Int) < (zs.length : Int) := by omega
    have hw : IntKind.i64.wrap c = c := by rw [IntKind.wrap_i64]; omega
    clear hc hcell hcc hb
    go_enter Try.func40, Try.ntmps40
    go_wp2
    go_ret
    exact ⟨_, rfl, hz.1, hz.2, rfl⟩
  · have hi : ¬ (2 : Int) < (zs.length : Int) := by omega
    clear hc
    go_enter Try.func40, Try.ntmps40
    go_wp2
    go_ret
    exact ⟨_, rfl, by omega, by omega, rfl⟩
end Go.Proofs.Yteomhjoodnjfbaa
