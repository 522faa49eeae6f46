/- PutText, spec: PutU of how many bytes the text has, and these. -/
import Derived.Test.YtincoibidgkiaaaDoorAppStr
import Derived.Test.YtincoibidgkiaaaDoorSpecPutU
namespace Go.Proofs.YtincoibidgkiaaaDoor
open Go.RowKit

theorem specPutText_any (v : Value) (zs : List Int) (s : ByteArray) (w : World) (h : Bs w v zs) (hlen : zs.length ≤ 16777216) (hs : s.size ≤ 1048576) :
    Calls Tryd.prog 64 #[v, .string s] w fun e w' => ∃ v', e = .returned v' ∧
      Own w' w.heap.size v' (zs ++ (Ma.UG (Ma.clamp (s.size : Int)) ++ txt s)) ∧ Below w.heap.size w w' := by
  have H := Hid.mk h
  clear h
  have hl := Ma.UG_length (Ma.clamp (s.size : Int))
  go_enter Tryd.func64, Tryd.ntmps64
  go_wp2_with fail
  refine (specPutU_any v zs (s.size : Int) w H.out hlen).mono ?_
  rintro e w1 ⟨v1, rfl, hown, hbel⟩
  have hsz := hbel.size
  go_wp2_with (at_builtin; refine wpList_append_str rfl _ _ rfl w.heap.size _ _ (zs ++ Ma.UG (Ma.clamp (s.size : Int))) rfl hown rfl hbel hsz (by simp; omega) ?_)
  intro v2 w2 hown2 hbel2 hsz2
  have hown3 : Own w2 w.heap.size v2 (zs ++ (Ma.UG (Ma.clamp (s.size : Int)) ++ txt s)) := by first | exact hown2 | exact hown2.assoc
  clear hown hbel hown2
  go_wp2
  go_ret
  exact ⟨v2, rfl, hown3, hbel2⟩
end Go.Proofs.YtincoibidgkiaaaDoor
