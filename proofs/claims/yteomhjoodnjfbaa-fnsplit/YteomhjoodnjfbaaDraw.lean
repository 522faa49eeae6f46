/- What the draws of chapter 1 hand over: some number; some bytes, in memory of their own. Which ones, no law asks. -/
import Derived.Test.YteomhjoodnjfbaaCur
import Derived.Test.YteomhjoodnjfbaaApp
namespace Go.Proofs.Yteomhjoodnjfbaa
open Go.RowKit

theorem grownBy_below {a b c : World} {row : Option Nat} {B : Nat} (hg : a.grownBy b row) (hb : Below B b c) (hB : a.heap.size ≤ B) : a.grownBy c row :=
  ⟨hb.os.trans hg.os, hb.tape.trans hg.tape, hb.output.trans hg.output, Nat.le_trans hg.size hb.size, fun k hk hne => (hb.block k (Nat.lt_of_lt_of_le hk hB)).trans (hg.block k hk hne)⟩

theorem Cur.below {w w' : World} {cb B : Nat} {v : Value} {zs : List Int} (h : Cur w cb v zs) (hk : Below B w w') (hcb : cb < B) (hv : zs ≠ [] → ∀ k, v.ownBlock = some k → k < B) : Cur w' cb v zs := by
  obtain ⟨hbs, hlen, hne, i, q, h0, h1, hc⟩ := h
  refine ⟨?_, hlen, hne, i, q, h0, h1, by rw [hk.block cb hcb]; exact hc⟩
  by_cases hz : zs = []
  · obtain ⟨hb, ao, cap, rfl, hl, hm, hn, hc⟩ := hbs
    exact ⟨hb, ao, cap, rfl, hl, hm, hn, fun h => absurd hz h⟩
  · exact hbs.below hk (hv hz)

/-- Some number. -/
theorem l1Num_any (cb : Nat) (v : Value) (zs : List Int) (w : World) (h : Cur w cb v zs) :
    Calls Try.prog 87 #[.pointer (some ⟨cb, 0, none⟩)] w fun e w' => ∃ x : Int, e = .returned (.int .i64 x) ∧ Cur w' cb v zs ∧ w.grownBy w' (some cb) := by
  have H := Hid.mk h
  clear h
  go_enter Try.func87, Try.ntmps87
  go_wp2_with fail
  refine (l1Below_any cb v zs 100000 w H.out).mono ?_
  rintro e w1 ⟨y, rfl, -, -, -, hC, hg⟩
  have HC := Hid.mk hC
  have HG := Hid.mk hg
  clear hC hg
  go_wp2_with fail
  refine (l1Int_any cb w1.heap.size 18 v zs [0, 1, -1, 63, 64, -64, -65, 127, 128, 300, 2147483647, -2147483648, 2147483648, -2147483649, 4294967296, 9223372036854775807, -9223372036854775808, y] _
    (HC.out.grow ((Below.refl _ _).alloc (Nat.le_refl _) _)) rfl (by omega) (by omega) (heap_alloc_new w1 _) (by have := HC.out.lt; omega)).mono ?_
  rintro e w2 ⟨x, rfl, -, hC, hg⟩
  have HC2 := Hid.mk hC
  have HG2 := Hid.mk (grownBy_trans (grownBy_trans HG.out (World.grownBy_alloc w1 _ _)) hg)
  clear hC hg HC HG
  go_wp2
  go_ret
  exact ⟨x, rfl, HC2.out, HG2.out⟩

end Go.Proofs.Yteomhjoodnjfbaa
