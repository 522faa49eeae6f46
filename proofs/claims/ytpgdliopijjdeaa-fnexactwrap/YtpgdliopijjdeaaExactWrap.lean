/- The law FnExactWrap walked: both wrapping functions answer the same number. -/
import Derived.Test.YtpgdliopijjdeaaWrap
namespace Go.Proofs.Ytpgdliopijjdeaa
open Go.RowKit

theorem fnExactWrap_walk (n : Int) (w : World) :
    Calls Try.prog 6 #[.int .i64 n] w fun e w' => e = .returned (.bool true) ∧ Grown w w' := by
  have hb : (Ma.wr n != Ma.wr n) = false := by simp
  go_enter Try.func6, Try.ntmps6
  go_wp2_with (first | (go_at_call 16; refine (implWrap_any _ _).mono ?_; rintro e w' ⟨rfl, rfl⟩) | (go_at_call 17; refine (specWrap_any _ _).mono ?_; rintro e w' ⟨rfl, rfl⟩))
  go_ret
  exact ⟨rfl, by repeat (first | exact Grown.refl _ | apply Grown.drew | apply Grown.alloc)⟩
end Go.Proofs.Ytpgdliopijjdeaa
