/- The built-in append of a string's bytes onto a slice of bytes of the call's own, as a law for the walk. -/
import Derived.Test.YtgigalcajgjpnaaGreatApp
import Derived.Lib.AppendStr
namespace Go.Proofs.YtgigalcajgjpnaaGreat
open Go.RowKit

/-- A string's bytes as numbers. -/
def txt (s : ByteArray) : List Int := s.data.toList.map fun b => ((b.toNat : Nat) : Int)

theorem txt_length (s : ByteArray) : (txt s).length = s.size := by
  rw [txt, List.length_map, Array.length_toList]; rfl
theorem txt_cells (s : ByteArray) : Lib.strCells s = U8 (txt s) := by simp [Lib.strCells, U8, txt]
theorem txt_byte (s : ByteArray) : byteList (txt s) := by
  intro z hz
  obtain ⟨b, _, rfl⟩ := List.mem_map.1 hz
  have := b.toNat_lt
  omega

theorem wpList_append_str {w0 w : World} {ops : Array Oper} {rest : List Oper} {o : Oper} {a : Act} {Q : Exit → Act → World → Prop} (hgd : o.guard = none) (s x : Operand)
    (ho : o.op = .call { callee := .builtin .append, args := #[s, x], argTypes := #[62, 9] })
    (base : Nat) (v : Value) (t : ByteArray) (xs : List Int) (hs : a.eval s = v) (hown : Own w base v xs) (hx : a.eval x = .string t)
    (hbel : Below base w0 w) (hbase : base ≤ w.heap.size) (hlen : xs.length + t.size ≤ 1073741824)
    (h : ∀ v' w', Own w' base v' (xs ++ txt t) → Below base w0 w' → base ≤ w'.heap.size → wpList Tryz.prog ops Q rest (a.put o.dst v') w') :
    wpList Tryz.prog ops Q (o :: rest) a w := by
  obtain ⟨i0, hi, hz0, hz1, hz2⟩ := info_parts info5
  refine Lib.wpList_append_own_string w hgd s x 62 9 ho base 5 i0 Tryz.underlying62 Tryz.underlying9 hi hz0 hz1 hz2 v xs.length (U8 xs) hs hown t hx (by unfold maxLen; omega) (by omega) hbase ?_
  intro v' w' hown' hgr _
  refine h v' w' ?_ (hbel.grown hgr hbase fun k hk => (World.ownsRow.lt hown k hk).1) (Nat.le_trans hbase hgr.size)
  unfold Own
  rw [U8_append, List.length_append, txt_length, ← txt_cells]
  exact hown'
end Go.Proofs.YtgigalcajgjpnaaGreat
