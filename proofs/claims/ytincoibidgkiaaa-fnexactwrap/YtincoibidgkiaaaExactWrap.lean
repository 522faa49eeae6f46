/- The law FnExactWrap walked: both wrapping functions answer the same number. -/
import Derived.Test.YtincoibidgkiaaaWrap
namespace Go.Proofs.Ytincoibidgkiaaa
open Go.RowKit

theorem fnExactWrap_walk (n : Int) (w : World) :
    Calls Try.prog 6 #[.int .i64 n] w fun e w' => e = .returned (.bool true) ∧ Grown w w' := by
  have hb : (Ma.wr n != Ma.wr n) = false := by simp
  go_enter Try.func6, Try.ntmps6
  go_wp2_with (first | (go_at_call 21; refine (implWrap_any _ _).mono ?_; rintro e w' ⟨rfl, rfl⟩) | (go_at_call 22; refine (specWrap_any _ _).mono ?_; rintro e w' ⟨rfl, rfl⟩))
  go_ret
  exact ⟨rfl, by repeat (first | exact Grown.refl _ | apply Grown.drew | apply Grown.alloc)⟩
end Go.Proofs.Ytincoibidgkiaaa
