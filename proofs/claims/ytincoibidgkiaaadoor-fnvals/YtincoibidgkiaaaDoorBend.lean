/- More draws of chapter 1: a place; bytes that were bent. -/
import Derived.Test.YtincoibidgkiaaaDoorDraw
import Derived.Test.YtincoibidgkiaaaDoorSpecPutS
namespace Go.Proofs.YtincoibidgkiaaaDoor
open Go.RowKit

theorem l1At_any (cb : Nat) (v b : Value) (zs xs : List Int) (w : World) (h : Cur w cb v zs) (hb : Bs w b xs) (hlen : xs.length ≤ 100000) :
    Calls Tryd.prog 44 #[.pointer (some ⟨cb, 0, none⟩), b] w fun e w' => ∃ x : Int, e = .returned (.int .i64 x) ∧ Cur w' cb v zs ∧ w.grownBy w' (some cb) := by
  have H := Hid.mk h
  obtain ⟨ao, cap, rfl⟩ : ∃ ao cap, b = .slice ao xs.length cap := by obtain ⟨_, ao, cap, e, _⟩ := hb; exact ⟨ao, cap, e⟩
  clear h hb
  go_enter Tryd.func44, Tryd.ntmps44
  go_wp2_with fail
  refine (l1Below_any cb v zs ((xs.length : Int) + 1) w H.out).mono ?_
  rintro e w1 ⟨y, rfl, -, -, -, hC, hg⟩
  have HC := Hid.mk hC
  have HG := Hid.mk hg
  clear hC hg
  go_wp2_with fail
  refine (l1Int_any cb w1.heap.size 7 v zs [0, 0, 0, (xs.length : Int), y, -1, 9223372036854775807] _
    (HC.out.grow ((Below.refl _ _).alloc (Nat.le_refl _) _)) rfl (by omega) (by omega) (heap_alloc_new w1 _) (by have := HC.out.lt; omega)).mono ?_
  rintro e w2 ⟨x, rfl, -, hC, hg⟩
  have HC2 := Hid.mk hC
  have HG2 := Hid.mk (grownBy_trans (grownBy_trans HG.out (World.grownBy_alloc w1 _ _)) hg)
  clear hC hg HC HG
  go_wp2
  go_ret
  exact ⟨x, rfl, HC2.out, HG2.out⟩

theorem Below.ofGrown {w w' : World} {cb : Nat} (hg : w.grownBy w' (some cb)) (hc : cb < w.heap.size) : Below cb w w' :=
  ⟨hg.os, hg.tape, hg.output, hg.size, fun k hk => hg.block k (by omega) (fun e => by have := Option.some.inj e; omega)⟩

theorem byteList.set {xs : List Int} (h : byteList xs) (j : Nat) (z : Int) (h0 : 0 ≤ z) (h1 : z ≤ 255) : byteList (xs.set j z) := by
  intro y hy
  rcases List.mem_or_eq_of_mem_set hy with h2 | h2
  · exact h y h2
  · omega

end Go.Proofs.YtincoibidgkiaaaDoor
