/- The law FnWraps walked. -/
import Derived.Test.YtincoibidgkiaaaDoorDraw
namespace Go.Proofs.YtincoibidgkiaaaDoor
open Go.RowKit

theorem big_any (v : Value) (zs : List Int) (w : World) (h : Bs w v zs) :
    Calls Tryd.prog 8 #[v] w fun e w' => e = .returned (.bool (decide ((1048576 : Int) < zs.length))) ∧ w' = w := by
  obtain ⟨ao, cap, rfl⟩ : ∃ ao cap, v = .slice ao zs.length cap := by obtain ⟨_, ao, cap, e, _⟩ := h; exact ⟨ao, cap, e⟩
  clear h
  go_enter Tryd.func8, Tryd.ntmps8
  go_wp2
  go_ret
  exact ⟨rfl, rfl⟩

theorem wr_add (n k : Int) : Ma.wr (Ma.wr n + Ma.wr k) = Ma.wr (wrap64 (n + k)) := by
  unfold Ma.wr wrap64
  omega

theorem wrap64_mod (x : Int) : wrap64 x % 4294967296 = x % 4294967296 := by
  unfold wrap64
  omega

theorem wr_mod (x : Int) : Ma.wr x % 4294967296 = x % 4294967296 := by
  unfold Ma.wr
  omega

theorem wr_mul (n k : Int) : Ma.wr (wrap64 (Ma.wr n * Ma.wr k)) = Ma.wr (wrap64 (n * k)) := by
  apply Ma.wr_cong
  rw [wrap64_mod, wrap64_mod, Int.mul_emod, wr_mod, wr_mod, ← Int.mul_emod]

end Go.Proofs.YtincoibidgkiaaaDoor
