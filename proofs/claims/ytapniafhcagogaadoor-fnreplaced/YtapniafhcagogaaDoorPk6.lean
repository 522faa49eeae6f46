/- What the draws of chapter 1 hand over: some number; some bytes, in memory of their own. Which ones, no law asks. Draws of texts: a text of chapter 4; texts of chapter 6. -/
import Derived.Test.YtapniafhcagogaaDoorCur
import Derived.Test.YtapniafhcagogaaDoorApp
import Derived.Test.YtapniafhcagogaaDoorPk3
namespace Go.Proofs.YtapniafhcagogaaDoor
open Go.RowKit

theorem grownBy_below {a b c : World} {row : Option Nat} {B : Nat} (hg : a.grownBy b row) (hb : Below B b c) (hB : a.heap.size ≤ B) : a.grownBy c row :=
  ⟨hb.os.trans hg.os, hb.tape.trans hg.tape, hb.output.trans hg.output, Nat.le_trans hg.size hb.size, fun k hk hne => (hb.block k (Nat.lt_of_lt_of_le hk hB)).trans (hg.block k hk hne)⟩

theorem Cur.below {w w' : World} {cb B : Nat} {v : Value} {zs : List Int} (h : Cur w cb v zs) (hk : Below B w w') (hcb : cb < B) (hv : zs ≠ [] → ∀ k, v.ownBlock = some k → k < B) : Cur w' cb v zs := by
  obtain ⟨hbs, hlen, hne, i, q, h0, h1, hc⟩ := h
  refine ⟨?_, hlen, hne, i, q, h0, h1, by rw [hk.block cb hcb]; exact hc⟩
  by_cases hz : zs = []
  · obtain ⟨hb, ao, cap, rfl, hl, hm, hn, hc⟩ := hbs
    exact ⟨hb, ao, cap, rfl, hl, hm, hn, fun h => absurd hz h⟩
  · exact hbs.below hk (hv hz)

end Go.Proofs.YtapniafhcagogaaDoor

namespace Go.Proofs.YtapniafhcagogaaDoor
open Go.RowKit
set_option maxRecDepth 8000

theorem gyN {w w' : World} {R : Nat} (h : w.grownBy w' (some R)) (o : Obj) : w.grownBy (w'.alloc o) (some R) := grownBy_trans h (World.grownBy_alloc w' o _)
theorem one_size {y : ByteArray} (h : y ∈ ([⟨#[97]⟩, ⟨#[98]⟩, ⟨#[99]⟩, ⟨#[49]⟩, ⟨#[97]⟩, ⟨#[32]⟩] : List ByteArray)) : y.size = 1 := by
  have := (List.all_eq_true.1 (show ([⟨#[97]⟩, ⟨#[98]⟩, ⟨#[99]⟩, ⟨#[49]⟩, ⟨#[97]⟩, ⟨#[32]⟩] : List ByteArray).all (fun y => decide (y.size = 1)) = true by decide +kernel)) y h
  simpa using this

set_option maxHeartbeats 1000000 in
theorem l4Text_any (cb : Nat) (v : Value) (zs : List Int) (w : World) (h : Cur w cb v zs) :
    Calls Tryd.prog 42 #[.pointer (some ⟨cb, 0, none⟩)] w fun e w' => ∃ s : ByteArray, e = .returned (.string s) ∧ s.size ≤ 6 ∧ Cur w' cb v zs ∧ w.grownBy w' (some cb) := by
  have H := Hid.mk h
  clear h
  go_enter Tryd.func42, Tryd.ntmps42
  go_wp2_with fail
  refine (l1Below_any cb v zs 7 w H.out).mono ?_
  rintro e w1 ⟨x, rfl, hx0, hx7, -, hC1, hg1⟩
  have hx := hx7 (by omega)
  have HC1 := Hid.mk hC1
  have HG1 := Hid.mk hg1
  clear hC1 hg1 hx7 H
  go_wp2
  go_loopw [3, 4] (fun q i wr => ∃ (s : ByteArray) (k : Nat), q = .string s ∧ i = .int .i64 k ∧ s.size + k ≤ 6 ∧ Hid (Cur wr cb v zs) ∧ Hid (w.grownBy wr (some cb))) (fun _ i _ => (intOf i).toNat)
  case atStart => exact ⟨⟨#[]⟩, x.toNat, rfl, by rw [Int.toNat_of_nonneg hx0], by have : (⟨#[]⟩ : ByteArray).size = 0 := rfl; omega, HC1, HG1⟩
  case round =>
    obtain ⟨s, k, rfl, rfl, hsk, HC, HG⟩ := hrel
    clear HC1 HG1
    by_cases hk : (0 : Int) < (k : Int)
    · have e3 : ¬ 9223372036854775807 < s.size + 1 := by omega
      go_wp2_with fail
      have A0 : ∀ o, Below wr.heap.size wr (wr.alloc o) := fun o => (Below.refl _ _).alloc (Nat.le_refl _) _
      refine (l1Str_any cb wr.heap.size 6 v zs [⟨#[97]⟩, ⟨#[98]⟩, ⟨#[99]⟩, ⟨#[49]⟩, ⟨#[97]⟩, ⟨#[32]⟩] _ (HC.out.grow (A0 _)) rfl (by omega) (by omega) (heap_alloc_new wr _) (by have := HC.out.lt; omega)).mono ?_
      rintro e w2 ⟨y, rfl, hy, hC2, hg2⟩
      have hy1 := one_size hy
      have HC2 := Hid.mk hC2
      have HG2 := Hid.mk (grownBy_trans (gyN HG.out _) hg2)
      have e4 : ¬ 9223372036854775807 < s.size + y.size := by omega
      clear hC2 hg2 hy HC HG A0 e3
      go_wp2
      go_roundw
      case rel => exact ⟨s ++ y, k - 1, rfl, by go_num, by simp; omega, HC2, HG2⟩
      case measure => simp [intOf]; omega
    · go_wp2
      go_ret
      exact ⟨s, rfl, by omega, HC.out, HG.out⟩

theorem low_size {y : ByteArray} {L : List ByteArray} {n : Nat} (hL : L.all (fun y => decide (y.size ≤ n)) = true) (h : y ∈ L) : y.size ≤ n := by
  simpa using List.all_eq_true.1 hL y h

end Go.Proofs.YtapniafhcagogaaDoor
