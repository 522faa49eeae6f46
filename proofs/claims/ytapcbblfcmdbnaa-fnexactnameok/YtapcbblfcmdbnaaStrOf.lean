/- Bytes as a string; what the built-in conversion of bytes to a string comes to. -/
import Derived.Test.YtapcbblfcmdbnaaBytes
import Derived.Laws.IdiomStrings
namespace Go.Proofs.Ytapcbblfcmdbnaa
open Go.RowKit

/-- Bytes as a string. -/
def strOf (l : List Int) : ByteArray := ⟨(l.map fun z => UInt8.ofNat z.toNat).toArray⟩

theorem u8_back (z : Int) (h0 : 0 ≤ z) (h1 : z ≤ 255) : ((UInt8.ofNat z.toNat).toNat : Int) = z := by
  rw [UInt8.toNat_ofNat']
  omega

theorem strOf_size (l : List Int) : (strOf l).size = l.length := by
  show (l.map fun z => UInt8.ofNat z.toNat).toArray.size = l.length
  simp

end Go.Proofs.Ytapcbblfcmdbnaa
