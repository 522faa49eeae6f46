/- The built-in append onto a slice of bytes of the call's own, as a law for the walk. -/
import Derived.Test.YtapcbblfcmdbnaaLeaf
import Derived.Laws.AppendOwnNone
namespace Go.Proofs.Ytapcbblfcmdbnaa
open Go.RowKit

theorem Own.mono {w : World} {base b0 : Nat} {v : Value} {xs : List Int} (h : Own w base v xs) (hle : b0 ≤ base) : Own w b0 v xs := by
  refine ⟨h.1, ?_⟩
  rcases h.2 with ⟨rfl, h0⟩ | ⟨g, cap, cur, rfl, hb, hr⟩
  · exact Or.inl ⟨rfl, h0⟩
  · exact Or.inr ⟨g, cap, cur, rfl, Nat.le_trans hle hb, hr⟩

/-- One byte in a new block. -/
theorem Bs.one (w : World) (c : Int) (h0 : 0 ≤ c) (h1 : c ≤ 255) : Bs (w.alloc (.cells #[.int .u8 c] 5)) (.slice (some ⟨w.heap.size, 0, none⟩) 1 1) [c] := by
  refine ⟨by intro z hz; simp at hz; omega, _, 1, rfl, by simp, by decide, fun h => by simp at h, fun _ => ⟨_, 0, rfl, fun i hi => ?_⟩⟩
  obtain rfl : i = 0 := by simpa using hi
  simp

end Go.Proofs.Ytapcbblfcmdbnaa
