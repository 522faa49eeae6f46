/- The text of a mark: an m, and a number's digits. -/
import Derived.Test.YtgigalcajgjpnaaLeaf
import Derived.Test.YtgigalcajgjpnaaStrOf
import Derived.Test.YtgigalcajgjpnaaApp
namespace Go.Proofs.Ytgigalcajgjpnaa
open Go.RowKit
set_option maxRecDepth 8000

/-- A number's digits ahead of o. -/
def mDig (n : Nat) (o : ByteArray) : ByteArray := if _h : n = 0 then o else mDig (n / 10) (strOf [48 + (n : Int) % 10] ++ o)
termination_by n
theorem mDig_zero (o : ByteArray) : mDig 0 o = o := by rw [mDig]; simp
theorem mDig_step (n : Nat) (h : 0 < n) (o : ByteArray) : mDig n o = mDig (n / 10) (strOf [48 + (n : Int) % 10] ++ o) := by rw [mDig]; simp [show n ≠ 0 by omega]

/-- What markText answers. -/
def mkS (n : Nat) : ByteArray := if n = 0 then ⟨#[109, 48]⟩ else ⟨#[109]⟩ ++ mDig n ⟨#[]⟩

theorem run_byteM (c : Int) (h0 : 0 ≤ c) (h1 : c ≤ 255) (w : World) :
    (convert 22 9 (.slice (some ⟨w.heap.size, 0, none⟩) 1 1)).run Try.prog (w.alloc (.cells #[.int .u8 c] 5)) = .ok (.string (strOf [c])) (w.alloc (.cells #[.int .u8 c] 5)) := run_strOf (Bs.one w c h0 h1) rfl

end Go.Proofs.Ytgigalcajgjpnaa
