/- The built-in append of a string's bytes onto a slice of bytes of the call's own, as a law for the walk. -/
import Derived.Test.YtapcbblfcmdbnaaApp
import Derived.Lib.AppendStr
namespace Go.Proofs.Ytapcbblfcmdbnaa
open Go.RowKit

/-- A string's bytes as numbers. -/
def txt (s : ByteArray) : List Int := s.data.toList.map fun b => ((b.toNat : Nat) : Int)

theorem txt_length (s : ByteArray) : (txt s).length = s.size := by
  rw [txt, List.length_map, Array.length_toList]; rfl
theorem txt_cells (s : ByteArray) : Lib.strCells s = U8 (txt s) := by simp [Lib.strCells, U8, txt]
theorem txt_byte (s : ByteArray) : byteList (txt s) := by
  intro z hz
  obtain ⟨b, _, rfl⟩ := List.mem_map.1 hz
  have := b.toNat_lt
  omega

end Go.Proofs.Ytapcbblfcmdbnaa
