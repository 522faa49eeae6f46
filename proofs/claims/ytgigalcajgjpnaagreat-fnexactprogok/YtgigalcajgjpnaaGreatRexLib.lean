/- A function of the library that the reader calls, by the kit's contract laid at this dump: strings.IndexByte (strings.Clone: TxtClone). -/
import Derived.Shelf.Small.Strs
import Derived.Test.YtgigalcajgjpnaaGreatTxtClone
import Derived.Lib.IndexLaws
import Derived.Test.YtgigalcajgjpnaaGreatRexRead
namespace Go.Proofs.YtgigalcajgjpnaaGreat
open Go.Shelf Go.RowKit

def ren137 : Go.Shelf.Ren := ⟨fun | 137 => 235 | 217 => 236 | 266 => 237 | n => n, fun | 9 => 9 | 5 => 5 | 3 => 3 | n => n, fun | n => n⟩
theorem lays137 : Go.Proofs.Lays.n137 Tryz.prog ren137 := {
  mixed := by kernel_rfl
  f137 := Tryz.func235.trans (congrArg some (by kernel_rfl))
  f217 := Tryz.func236.trans (congrArg some (by kernel_rfl))
  f266 := Tryz.func237.trans (congrArg some (by kernel_rfl))
  t3 := Tryz.underlying3
  a3 := Tryz.isAgg3
  z3 := Tryz.sizeOf3
  v3 := Tryz.zeroValue3
  t5 := Tryz.underlying5
  a5 := Tryz.isAgg5
  z5 := Tryz.sizeOf5
  v5 := Tryz.zeroValue5
  t9 := Tryz.underlying9
  a9 := Tryz.isAgg9
  z9 := Tryz.sizeOf9
  v9 := Tryz.zeroValue9 }
theorem indexByte_any (s : ByteArray) (c : Int) (w : World) :
    Calls Tryz.prog 235 #[.string s, .int .u8 c] w fun e w' => e = .returned (.int .i64 (Lib.indexByte s.data.toList c.toNat.toUInt8)) ∧ w' = w := Any.strings_IndexByte lays137 s c w

/-- Where a byte is found first. -/
theorem index_take (l : List UInt8) (c : UInt8) (n : Int) (hc : (c.toNat : Int) = n) :
    Lib.indexByte l c = (if ((l.map fun b => ((b.toNat : Nat) : Int)).takeWhile (fun z => z != n)).length < l.length then (((l.map fun b => ((b.toNat : Nat) : Int)).takeWhile (fun z => z != n)).length : Int) else -1) := by
  induction l with
  | nil => simp [Lib.indexByte]
  | cons b r ih =>
    rw [Lib.indexByte]
    by_cases hb : b = c
    · subst hb
      have : (((b.toNat : Nat) : Int) != n) = false := by simp [hc]
      simp [this]
    · have hne : (b == c) = false := by simpa using hb
      have h1 : (((b.toNat : Nat) : Int) != n) = true := by
        have : ¬ b.toNat = c.toNat := fun e => hb (UInt8.toNat_inj.1 e)
        simp; omega
      rw [hne, ih, List.map_cons, List.takeWhile_cons_of_pos (p := fun z => z != n) h1]
      simp only [Bool.false_eq_true, if_false, List.length_cons]
      generalize ((r.map fun b => ((b.toNat : Nat) : Int)).takeWhile (fun z => z != n)).length = m
      by_cases hl : m < r.length
      · simp only [hl, if_true]
        rw [if_neg (by simp), if_pos (by omega)]
        omega
      · simp only [hl, if_false]
        rw [if_pos (by rfl), if_neg (by omega)]

theorem index_txt (s : ByteArray) : Lib.indexByte s.data.toList 93 = (if ((txt s).takeWhile ne93).length < (txt s).length then (((txt s).takeWhile ne93).length : Int) else -1) := by
  have := index_take s.data.toList 93 93 rfl
  rw [this, txt_length]
  have e : s.data.toList.length = s.size := by rw [Array.length_toList]; rfl
  rw [e]
  rfl
end Go.Proofs.YtgigalcajgjpnaaGreat
