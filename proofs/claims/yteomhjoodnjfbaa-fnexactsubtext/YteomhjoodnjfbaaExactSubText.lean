/- The law FnExactSubText walked: at every text and all numbers the program's SubText answers what the document's model of it answers. -/
import Derived.Test.YteomhjoodnjfbaaSubTxt
namespace Go.Proofs.Yteomhjoodnjfbaa
open Go.RowKit
set_option maxRecDepth 8000

set_option maxHeartbeats 1000000 in
theorem fnExactSubText_walk (s : ByteArray) (f n : Int) (w : World) (hs : s.size ≤ maxLen) :
    Calls Try.prog 11 #[.string s, .int .i64 f, .int .i64 n] w fun e w' => e = .returned (.bool true) ∧ Below w.heap.size w w' := by
  unfold maxLen at hs
  by_cases hz : (1048576 : Int) < (s.size : Int)
  · go_enter Try.func11, Try.ntmps11
    go_wp2
    go_ret
    exact ⟨rfl, Below.refl _ _⟩
  have HS := Hid.mk (fun w' => specSubText_any s f n w' (by omega))
  have HI := Hid.mk (fun w' => implSubText_any s f n w' (by omega))
  generalize subS s f n = x at *
  have h4 : (x.toList != x.toList) = false := by simp
  go_enter Try.func11, Try.ntmps11
  go_wp2_with fail
  refine (HS.out _).mono ?_
  rintro e w1 ⟨rfl, hw1⟩
  obtain rfl := hw1.symm
  clear hw1 HS
  go_wp2_with fail
  refine (HI.out _).mono ?_
  rintro e w2 ⟨rfl, hb⟩
  clear HI
  go_wp2
  go_ret
  exact ⟨rfl, hb⟩
end Go.Proofs.Yteomhjoodnjfbaa
