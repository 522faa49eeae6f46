/- TextOf, SameVal and LessVal: the program's and the document's model's. -/
import Derived.Test.YtapcbblfcmdbnaaDoorTextOf
import Derived.Test.YtapcbblfcmdbnaaDoorNumOf
import Derived.Test.YtapcbblfcmdbnaaDoorPutVal
import Derived.Lib.QuietBelow
namespace Go.Proofs.YtapcbblfcmdbnaaDoor
open Go.RowKit Go.Sort
set_option maxRecDepth 8000

/-- The library's table of powers lies as its text lays it. -/
def Tab (w : World) : Prop := Lib.TabIs Tryd.prog w "internal/strconv.uint64pow10" .u64 Lib.pow10Tab

theorem Tab.grow {w w' : World} (h : Tab w) (hb : Below w.heap.size w w') : Tab w' := Lib.tabBelow_of_tabIs h w' hb

/-- A number as a machine's int holds it. -/
def Int64 (n : Int) : Prop := -9223372036854775808 ≤ n ∧ n ≤ 9223372036854775807

def txtV (k n : Int) (s : ByteArray) : ByteArray := if k = 1 then numS n else s

/-- Whether one of two is a text. -/
def anyB (k j : Int) : Bool := k == 2 || j == 2

theorem anyB_no {k j : Int} (h : anyB k j = false) : k ≠ 2 ∧ j ≠ 2 := by simpa [anyB] using h
theorem anyB_yes {k j : Int} (h : anyB k j = true) : k = 2 ∨ (k ≠ 2 ∧ j = 2) := by
  by_cases hk : k = 2
  · exact Or.inl hk
  · exact Or.inr ⟨hk, by simpa [anyB, hk] using h⟩

def sameB (k n : Int) (s : ByteArray) (j m : Int) (u : ByteArray) : Bool := if anyB k j = true then (txtV k n s).toList == (txtV j m u).toList else n == m
theorem sameB_true (k n : Int) (s : ByteArray) (j m : Int) (u : ByteArray) (h : anyB k j = true) : sameB k n s j m u = ((txtV k n s).toList == (txtV j m u).toList) := by unfold sameB; rw [if_pos h]
theorem sameB_false (k n : Int) (s : ByteArray) (j m : Int) (u : ByteArray) (h : anyB k j = false) : sameB k n s j m u = (n == m) := by unfold sameB; rw [if_neg (by simp [h])]

def lessB (k n : Int) (s : ByteArray) (j m : Int) (u : ByteArray) : Bool := if anyB k j = true then Op.bytesLess (txtV k n s).toList (txtV j m u).toList else decide (n < m)
theorem lessB_true (k n : Int) (s : ByteArray) (j m : Int) (u : ByteArray) (h : anyB k j = true) : lessB k n s j m u = (Op.bytesLess (txtV k n s).toList (txtV j m u).toList) := by unfold lessB; rw [if_pos h]
theorem lessB_false (k n : Int) (s : ByteArray) (j m : Int) (u : ByteArray) (h : anyB k j = false) : lessB k n s j m u = decide (n < m) := by unfold lessB; rw [if_neg (by simp [h])]

end Go.Proofs.YtapcbblfcmdbnaaDoor
