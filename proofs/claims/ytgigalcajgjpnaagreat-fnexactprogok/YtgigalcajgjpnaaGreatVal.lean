/- Values: what the program's valueOf answers, ValOk and Truth, the program's and the document's model's, and the laws' copies. -/
import Derived.Test.YtgigalcajgjpnaaGreatBytes
namespace Go.Proofs.YtgigalcajgjpnaaGreat
open Go.RowKit
set_option maxRecDepth 8000

/-- A value, as the program has it. -/
abbrev vl (k n : Int) (s : ByteArray) : Value := .agg #[.int .i64 k, .int .i64 n, .string s]

/-- The world with a value in a new box. -/
abbrev boxed (w : World) (k n : Int) (s : ByteArray) (t : Nat) : World := w.alloc (.cells #[.int .i64 k, .int .i64 n, .string s] t)

/-- Whether a value is right. -/
def okB (k n : Int) (s : ByteArray) : Bool :=
  if k = 0 then n == 0 && s.toList.isEmpty else if k = 1 then Ma.wr n == n && s.toList.isEmpty else if k = 2 then decide ((s.size : Int) ≤ 200) && n == 0 else false

theorem okB0 (n : Int) (s : ByteArray) : okB 0 n s = (n == 0 && s.toList.isEmpty) := by simp [okB]
theorem okB1 (n : Int) (s : ByteArray) : okB 1 n s = (Ma.wr n == n && s.toList.isEmpty) := by simp [okB]
theorem okB2 (n : Int) (s : ByteArray) : okB 2 n s = (decide ((s.size : Int) ≤ 200) && n == 0) := by simp [okB]
theorem okBx (k n : Int) (s : ByteArray) (h0 : k ≠ 0) (h1 : k ≠ 1) (h2 : k ≠ 2) : okB k n s = false := by simp [okB, h0, h1, h2]

theorem ret_bool {a b : Bool} (h : a = b) : Ending.returned (.bool a) = .returned (.bool b) := by rw [h]

/-- Whether a value is true. -/
def truB (k n : Int) (s : ByteArray) : Bool := if k = 2 then !s.toList.isEmpty else n != 0

/-- The empty text. -/
abbrev noTxt : ByteArray := ⟨#[]⟩

end Go.Proofs.YtgigalcajgjpnaaGreat
