/- What the draws of chapter 1 hand over: some number; some bytes, in memory of their own. Which ones, no law asks. -/
import Derived.Test.YtincoibidgkiaaaDoorCur
import Derived.Test.YtincoibidgkiaaaDoorApp
namespace Go.Proofs.YtincoibidgkiaaaDoor
open Go.RowKit

theorem grownBy_below {a b c : World} {row : Option Nat} {B : Nat} (hg : a.grownBy b row) (hb : Below B b c) (hB : a.heap.size ≤ B) : a.grownBy c row :=
  ⟨hb.os.trans hg.os, hb.tape.trans hg.tape, hb.output.trans hg.output, Nat.le_trans hg.size hb.size, fun k hk hne => (hb.block k (Nat.lt_of_lt_of_le hk hB)).trans (hg.block k hk hne)⟩

theorem Cur.below {w w' : World} {cb B : Nat} {v : Value} {zs : List Int} (h : Cur w cb v zs) (hk : Below B w w') (hcb : cb < B) (hv : zs ≠ [] → ∀ k, v.ownBlock = some k → k < B) : Cur w' cb v zs := by
  obtain ⟨hbs, hlen, hne, i, q, h0, h1, hc⟩ := h
  refine ⟨?_, hlen, hne, i, q, h0, h1, by rw [hk.block cb hcb]; exact hc⟩
  by_cases hz : zs = []
  · obtain ⟨hb, ao, cap, rfl, hl, hm, hn, hc⟩ := hbs
    exact ⟨hb, ao, cap, rfl, hl, hm, hn, fun h => absurd hz h⟩
  · exact hbs.below hk (hv hz)

/-- Some number. -/
theorem l1Num_any (cb : Nat) (v : Value) (zs : List Int) (w : World) (h : Cur w cb v zs) :
    Calls Tryd.prog 53 #[.pointer (some ⟨cb, 0, none⟩)] w fun e w' => ∃ x : Int, e = .returned (.int .i64 x) ∧ Cur w' cb v zs ∧ w.grownBy w' (some cb) := by
  have H := Hid.mk h
  clear h
  go_enter Tryd.func53, Tryd.ntmps53
  go_wp2_with fail
  refine (l1Below_any cb v zs 100000 w H.out).mono ?_
  rintro e w1 ⟨y, rfl, -, -, -, hC, hg⟩
  have HC := Hid.mk hC
  have HG := Hid.mk hg
  clear hC hg
  go_wp2_with fail
  refine (l1Int_any cb w1.heap.size 18 v zs [0, 1, -1, 63, 64, -64, -65, 127, 128, 300, 2147483647, -2147483648, 2147483648, -2147483649, 4294967296, 9223372036854775807, -9223372036854775808, y] _
    (HC.out.grow ((Below.refl _ _).alloc (Nat.le_refl _) _)) rfl (by omega) (by omega) (heap_alloc_new w1 _) (by have := HC.out.lt; omega)).mono ?_
  rintro e w2 ⟨x, rfl, -, hC, hg⟩
  have HC2 := Hid.mk hC
  have HG2 := Hid.mk (grownBy_trans (grownBy_trans HG.out (World.grownBy_alloc w1 _ _)) hg)
  clear hC hg HC HG
  go_wp2
  go_ret
  exact ⟨x, rfl, HC2.out, HG2.out⟩

set_option maxHeartbeats 1000000 in
/-- Some bytes, as many as are asked for. -/
theorem l1Bytes_any (cb : Nat) (v : Value) (zs : List Int) (n : Int) (w : World) (h : Cur w cb v zs) (hn : n ≤ 1000) :
    Calls Tryd.prog 52 #[.pointer (some ⟨cb, 0, none⟩), .int .i64 n] w fun e w' => ∃ v' ys, e = .returned v' ∧ Own w' w.heap.size v' ys ∧ byteList ys ∧ ys.length ≤ 1000 ∧ Cur w' cb v zs ∧ w.grownBy w' (some cb) := by
  have hbe : Below w.heap.size w (w.alloc (.cells #[] 5)) := (Below.refl _ _).alloc (Nat.le_refl _) _
  have ho0 : Own (w.alloc (.cells #[] 5)) w.heap.size (.slice (some ⟨w.heap.size, 0, none⟩) 0 0) [] := World.ownsRow_lit w #[] 0 (Nat.le_refl _) (by decide) rfl
  have hC0 := h.grow hbe
  have hg0 : w.grownBy (w.alloc (.cells #[] 5)) (some cb) := World.grownBy_alloc w _ _
  have hcb := h.lt
  have HV := Hid.mk fun hz => h.1.lt hz
  clear h
  have H0 := Hid.mk (And.intro ho0 (And.intro hC0 hg0))
  clear ho0 hC0 hg0 hbe
  go_enter Tryd.func52, Tryd.ntmps52
  go_wp2
  go_loopw [5, 6] (fun v' i wr => ∃ (k : Nat) (ys : List Int), k ≤ 1000 ∧ (k = 0 ∨ (k : Int) ≤ n) ∧ i = .int .i64 k ∧ ys.length = k ∧ byteList ys ∧ Own wr w.heap.size v' ys ∧ Cur wr cb v zs ∧ w.grownBy wr (some cb)) (fun _ i _ => (n - intOf i).toNat)
  case atStart => exact ⟨0, [], by omega, Or.inl rfl, rfl, rfl, by intro z hz; simp at hz, H0.out.1, H0.out.2.1, H0.out.2.2⟩
  case round =>
    obtain ⟨k, ys, hk, hkn, rfl, hys, hby, hown, hC, hg⟩ := hrel
    have HK := Hid.mk hkn
    have HY := Hid.mk hys
    clear hkn hys H0
    by_cases hlt : (k : Int) < n
    · go_wp2_with fail
      refine (l1Byte_any cb v zs wr hC).mono ?_
      rintro e w1 ⟨x, rfl, hx0, hx1, hC1, hg1⟩
      have hown1 := hown.other hg1 (fun j hj e => by have h1 := (hown.lt j hj).1; have h2 := Option.some.inj e; omega)
      have hg2 := grownBy_trans hg hg1
      have hsz := hg2.size
      have hb1 := Bs.one w1 x hx0 hx1
      have hbr : Below w.heap.size w1 (w1.alloc (.cells #[.int .u8 x] 5)) := (Below.refl _ _).alloc hsz _
      clear hown hC hg hg1
      have HC1 := Hid.mk hC1
      clear hC1
      go_wp2_with (at_builtin; refine wpList_append_bs rfl _ _ rfl w.heap.size _ _ ys [x] rfl (hown1.alloc _) rfl hb1 hbr (by simp; omega) (by have := HY.out; simp; omega) ?_)
      intro v2 w2 hown2 hbel2 hsz2
      have hC2 := HC1.out.below hbel2 hcb HV.out
      have hg3 := grownBy_below hg2 hbel2 (Nat.le_refl _)
      have hby2 : byteList (ys ++ [x]) := hby.append (by intro z hz; simp at hz; omega)
      clear hb1 hbr hown1 hbel2 hg2 HC1
      go_wp2
      go_roundw
      case rel => exact ⟨k + 1, ys ++ [x], by omega, Or.inr (by omega), by go_num, by have := HY.out; simp; omega, hby2, hown2, hC2, hg3⟩
      case measure => simp [intOf]; omega
    · go_wp2
      go_ret
      have hl := HY.out
      first | exact ⟨_, rfl, ys, hown, hby, by omega, hC, hg⟩ | exact ⟨_, ys, rfl, hown, hby, by omega, hC, hg⟩

theorem l1Some_any (cb : Nat) (v : Value) (zs : List Int) (w : World) (h : Cur w cb v zs) :
    Calls Tryd.prog 30 #[.pointer (some ⟨cb, 0, none⟩)] w fun e w' => ∃ v' ys, e = .returned v' ∧ Own w' w.heap.size v' ys ∧ byteList ys ∧ ys.length ≤ 1000 ∧ Cur w' cb v zs ∧ w.grownBy w' (some cb) := by
  have H := Hid.mk h
  clear h
  go_enter Tryd.func30, Tryd.ntmps30
  go_wp2_with fail
  refine (l1Int_any cb w.heap.size 5 v zs [0, 1, 2, 5, 9] _
    (H.out.grow ((Below.refl _ _).alloc (Nat.le_refl _) _)) rfl (by omega) (by omega) (heap_alloc_new w _) (by have := H.out.lt; omega)).mono ?_
  rintro e w1 ⟨x, rfl, hx, hC, hg⟩
  have hx9 : x ≤ 1000 := by simp at hx; omega
  have HC := Hid.mk hC
  have HG := Hid.mk (grownBy_trans (World.grownBy_alloc w _ _) hg)
  clear hC hg hx
  go_wp2_with fail
  refine (l1Bytes_any cb v zs x w1 HC.out hx9).mono ?_
  rintro e w2 ⟨v', ys, rfl, hown, hby, hl, hC, hg⟩
  have HC2 := Hid.mk hC
  have HG2 := Hid.mk (grownBy_trans HG.out hg)
  have hown2 := hown.mono HG.out.size
  clear hC hg HC HG hown
  go_wp2
  go_ret
  exact ⟨v', ys, rfl, hown2, hby, hl, HC2.out, HG2.out⟩

end Go.Proofs.YtincoibidgkiaaaDoor
