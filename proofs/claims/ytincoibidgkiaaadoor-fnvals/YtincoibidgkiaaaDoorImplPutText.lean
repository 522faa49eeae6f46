/- PutText, impl: a copy of the bytes handed in, the number of the text's bytes in groups of seven bits, and these. -/
import Derived.Test.YtincoibidgkiaaaDoorAppStr
import Derived.Test.YtincoibidgkiaaaDoorImplPutU
namespace Go.Proofs.YtincoibidgkiaaaDoor
open Go.RowKit

theorem appendText_own (base : Nat) (v : Value) (xs : List Int) (s : ByteArray) (w : World) (ho : Own w base v xs) (hbase : base ≤ w.heap.size) (hlen : xs.length ≤ 16777216) (hs : s.size ≤ 1048576) :
    Calls Tryd.prog 56 #[v, .string s] w fun e w' => ∃ v', e = .returned v' ∧
      Own w' base v' (xs ++ (Ma.UG (Ma.clamp (s.size : Int)) ++ txt s)) ∧ Below base w w' := by
  have hl := Ma.UG_length (Ma.clamp (s.size : Int))
  have B0 : Below base w (w.alloc (.cells #[.int .i64 (s.size : Int)] 3)) := (Below.refl _ _).alloc hbase _
  have ho1 := ho.alloc (.cells #[.int .i64 (s.size : Int)] 3)
  clear ho
  go_enter Tryd.func56, Tryd.ntmps56
  go_wp2_with fail
  refine (appendU_one base w.heap.size v xs (s.size : Int) _ ho1 (by simp; omega) hlen (cell_num w (s.size : Int))).mono ?_
  rintro e w1 ⟨v1, rfl, hown, hbel⟩
  have B1 := B0.trans hbel
  have hsz : base ≤ w1.heap.size := Nat.le_trans hbase B1.size
  clear ho1 B0 hbel
  go_wp2_with (at_builtin; refine wpList_append_str rfl _ _ rfl base _ _ (xs ++ Ma.UG (Ma.clamp (s.size : Int))) rfl hown rfl B1 hsz (by simp; omega) ?_)
  intro v2 w2 hown2 hbel2 hsz2
  have hown3 : Own w2 base v2 (xs ++ (Ma.UG (Ma.clamp (s.size : Int)) ++ txt s)) := by first | exact hown2 | exact hown2.assoc
  clear hown B1 hown2
  go_wp2
  go_ret
  exact ⟨v2, rfl, hown3, hbel2⟩

end Go.Proofs.YtincoibidgkiaaaDoor
