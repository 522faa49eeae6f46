/- PutVal: the kind in groups of seven bits, and behind it the number or the text. The program's and the document's model's. -/
import Derived.Test.YtapcbblfcmdbnaaDoorVal
import Derived.Test.YtapcbblfcmdbnaaDoorImplPutText
import Derived.Test.YtapcbblfcmdbnaaDoorSpecPutText
import Derived.Test.YtapcbblfcmdbnaaDoorImplPutS
import Derived.Test.YtapcbblfcmdbnaaDoorSpecPutS
import Derived.Test.YtapcbblfcmdbnaaDoorNear
import Derived.Deep.RegionHeld3
namespace Go.Proofs.YtapcbblfcmdbnaaDoor
open Go.RowKit
set_option maxRecDepth 8000

/-- A value's bytes. -/
def vG (k n : Int) (s : ByteArray) : List Int :=
  Ma.UG (Ma.clamp k) ++ (if k = 1 then Ma.SG (Ma.wr n) else if k = 2 then Ma.UG (Ma.clamp (s.size : Int)) ++ txt s else [])

theorem vG1 (n : Int) (s : ByteArray) : vG 1 n s = Ma.UG (Ma.clamp 1) ++ Ma.SG (Ma.wr n) := by simp [vG]
theorem vG2 (n : Int) (s : ByteArray) : vG 2 n s = Ma.UG (Ma.clamp 2) ++ (Ma.UG (Ma.clamp (s.size : Int)) ++ txt s) := by simp [vG]
theorem vGx (k n : Int) (s : ByteArray) (h1 : k ≠ 1) (h2 : k ≠ 2) : vG k n s = Ma.UG (Ma.clamp k) := by simp [vG, h1, h2]

theorem vG_byte (k n : Int) (s : ByteArray) : byteList (vG k n s) := by
  unfold vG
  refine (UG_byte 5 _ (Ma.clamp_lo _)).append ?_
  split
  · exact SG_byte 5 _
  split
  · exact (UG_byte 5 _ (Ma.clamp_lo _)).append (txt_byte s)
  · intro z hz; simp at hz

theorem vG_length (k n : Int) (s : ByteArray) (hs : s.size ≤ 1048576) : (vG k n s).length ≤ 1048586 := by
  unfold vG
  have h1 := Ma.UG_length (Ma.clamp k)
  have h2 := Ma.UG_length (Ma.clamp (s.size : Int))
  have h3 := Ma.SG_length (Ma.wr n)
  rw [List.length_append]
  split
  · omega
  split
  · rw [List.length_append, txt_length]; omega
  · simp; omega

end Go.Proofs.YtapcbblfcmdbnaaDoor
