/- The law FnExactNameOk walked: at every text the program's NameOk answers what the document's model of it answers. -/
import Derived.Test.YtapcbblfcmdbnaaExWord
namespace Go.Proofs.Ytapcbblfcmdbnaa
open Go.RowKit
set_option maxRecDepth 8000

theorem fnExactNameOk_walk (s : ByteArray) (w : World) (hs : s.size ≤ maxLen) :
    Calls Try.prog 3 #[.string s] w fun e w' => e = .returned (.bool true) ∧ Below w.heap.size w w' := by
  have HS := Hid.mk (fun w => specNameOk_any s w hs)
  have HI := Hid.mk (fun w => implNameOk_any s w hs)
  unfold maxLen at hs
  have RB : Below w.heap.size w w := Below.refl _ _
  by_cases hz : (1048576 : Int) < (s.size : Int)
  · go_enter Try.func3, Try.ntmps3
    go_wp2
    go_ret
    exact ⟨rfl, RB⟩
  generalize nmB s = b at *
  have hbb : (b != b) = false := by simp
  go_enter Try.func3, Try.ntmps3
  go_wp2_with fail
  refine (HS.out _).mono ?_
  rintro e w1 ⟨rfl, hb1⟩
  have HB := Hid.mk hb1
  clear hb1
  go_wp2_with fail
  refine (HI.out _).mono ?_
  rintro e w2 ⟨rfl, hw⟩
  subst hw
  go_wp2
  go_ret
  exact ⟨rfl, HB.out⟩
end Go.Proofs.Ytapcbblfcmdbnaa
