/- More draws of chapter 1: a place; bytes that were bent. -/
import Derived.Test.YtincoibidgkiaaaDraw
import Derived.Test.YtincoibidgkiaaaSpecPutS
namespace Go.Proofs.Ytincoibidgkiaaa
open Go.RowKit

theorem l1At_any (cb : Nat) (v b : Value) (zs xs : List Int) (w : World) (h : Cur w cb v zs) (hb : Bs w b xs) (hlen : xs.length ≤ 100000) :
    Calls Try.prog 65 #[.pointer (some ⟨cb, 0, none⟩), b] w fun e w' => ∃ x : Int, e = .returned (.int .i64 x) ∧ Cur w' cb v zs ∧ w.grownBy w' (some cb) := by
  have H := Hid.mk h
  obtain ⟨ao, cap, rfl⟩ : ∃ ao cap, b = .slice ao xs.length cap := by obtain ⟨_, ao, cap, e, _⟩ := hb; exact ⟨ao, cap, e⟩
  clear h hb
  go_enter Try.func65, Try.ntmps65
  go_wp2_with fail
  refine (l1Below_any cb v zs ((xs.length : Int) + 1) w H.out).mono ?_
  rintro e w1 ⟨y, rfl, -, -, -, hC, hg⟩
  have HC := Hid.mk hC
  have HG := Hid.mk hg
  clear hC hg
  go_wp2_with fail
  refine (l1Int_any cb w1.heap.size 7 v zs [0, 0, 0, (xs.length : Int), y, -1, 9223372036854775807] _
    (HC.out.grow ((Below.refl _ _).alloc (Nat.le_refl _) _)) rfl (by omega) (by omega) (heap_alloc_new w1 _) (by have := HC.out.lt; omega)).mono ?_
  rintro e w2 ⟨x, rfl, -, hC, hg⟩
  have HC2 := Hid.mk hC
  have HG2 := Hid.mk (grownBy_trans (grownBy_trans HG.out (World.grownBy_alloc w1 _ _)) hg)
  clear hC hg HC HG
  go_wp2
  go_ret
  exact ⟨x, rfl, HC2.out, HG2.out⟩

theorem Below.ofGrown {w w' : World} {cb : Nat} (hg : w.grownBy w' (some cb)) (hc : cb < w.heap.size) : Below cb w w' :=
  ⟨hg.os, hg.tape, hg.output, hg.size, fun k hk => hg.block k (by omega) (fun e => by have := Option.some.inj e; omega)⟩

theorem byteList.set {xs : List Int} (h : byteList xs) (j : Nat) (z : Int) (h0 : 0 ≤ z) (h1 : z ≤ 255) : byteList (xs.set j z) := by
  intro y hy
  rcases List.mem_or_eq_of_mem_set hy with h2 | h2
  · exact h y h2
  · omega

set_option maxHeartbeats 1000000 in
/-- The bytes of b, bent or not, in memory of the draw's own. -/
theorem l1Bend_any (cb B : Nat) (v b : Value) (zs xs : List Int) (w : World) (h : Cur w cb v zs) (hv : zs ≠ [] → ∀ k, v.ownBlock = some k → k < B) (hB : cb < B) (hBw : B ≤ w.heap.size) (hb : Own w B b xs) (hby : byteList xs) (hpos : 0 < xs.length) (hlen : xs.length ≤ 100000) :
    Calls Try.prog 64 #[.pointer (some ⟨cb, 0, none⟩), b] w fun e w' => ∃ b' ys, e = .returned b' ∧ Own w' B b' ys ∧ byteList ys ∧ ys.length ≤ xs.length + 1 ∧ Cur w' cb v zs ∧ Below cb w w' := by
  obtain ⟨g, cap, rfl, hgB⟩ : ∃ g cap, b = .slice (some ⟨g, 0, none⟩) xs.length cap ∧ B ≤ g := by
    rcases hb.2 with ⟨_, h0⟩ | ⟨g, cap, cur, h1, h2, _⟩
    · omega
    · exact ⟨g, cap, h1, h2⟩
  have H := Hid.mk h
  have HB := Hid.mk hb
  have HV := Hid.mk hv
  clear h hb hv
  go_enter Try.func64, Try.ntmps64
  go_wp2_with fail
  refine (l1Below_any cb v zs 4 w H.out).mono ?_
  rintro e w1 ⟨y, rfl, hy0, hy4, -, hC, hg⟩
  have hy4' : y < 4 := hy4 (by omega)
  have HC := Hid.mk hC
  have HO : Hid (Own w1 B _ xs) := Hid.mk (HB.out.other hg (fun k hk e => by have h1 := (HB.out.lt k hk).1; have h2 := Option.some.inj e; omega))
  have HL : Hid (Below cb w w1) := Hid.mk (Below.ofGrown hg H.out.lt)
  have hsz : B ≤ w1.heap.size := Nat.le_trans hBw hg.size
  clear hC hg hy4 H HB
  rcases (by omega : y ≤ 0 ∨ (1 ≤ y ∧ y ≤ 1) ∨ 2 ≤ y) with hy | ⟨hy, hy2⟩ | hy
  · have hyb : (y == 0) = true := by simp; omega
    go_wp2_with fail
    refine (l1Below_any cb v zs (xs.length : Int) w1 HC.out).mono ?_
    rintro e w2 ⟨p, rfl, hp0, hp1, -, hC, hg⟩
    obtain ⟨p, rfl⟩ := Int.eq_ofNat_of_zero_le hp0
    have hp : p < xs.length := by have := hp1 (by omega); omega
    have HC2 := Hid.mk hC
    have HO2 := Hid.mk (HO.out.other hg (fun k hk e => by have h1 := (HO.out.lt k hk).1; have h2 := Option.some.inj e; omega))
    have HL2 := Hid.mk (HL.out.trans (Below.ofGrown hg HC.out.lt))
    have hsz2 : B ≤ w2.heap.size := Nat.le_trans hsz hg.size
    clear hC hg hp1 HC HO HL
    go_wp2_with fail
    refine (l1Int_any cb w2.heap.size 6 v zs [0, 63, 64, 127, 128, 255] _
      (HC2.out.grow ((Below.refl _ _).alloc (Nat.le_refl _) _)) rfl (by omega) (by omega) (heap_alloc_new w2 _) (by have := HC2.out.lt; omega)).mono ?_
    rintro e w3 ⟨x, rfl, hx, hC, hg⟩
    have hx2 : 0 ≤ x ∧ x ≤ 255 := by simp at hx; omega
    obtain ⟨hx0, hx1⟩ := hx2
    have HC3 := Hid.mk hC
    have hO3 := ((HO2.out.alloc (.cells #[.int .i64 0, .int .i64 63, .int .i64 64, .int .i64 127, .int .i64 128, .int .i64 255] 3)).other hg (fun k hk e => by have h1 := (HO2.out.lt k hk).1; have h2 := Option.some.inj e; omega))
    have HL3 := Hid.mk ((HL2.out.alloc (by omega) (.cells #[.int .i64 0, .int .i64 63, .int .i64 64, .int .i64 127, .int .i64 128, .int .i64 255] 3)).trans (Below.ofGrown hg (by have := HC2.out.lt; simp; omega)))
    have hfr := World.ownsRow.frozenAt hO3 p
    have hold := World.ownsRow.cellAt hO3 p (by omega)
    rw [U8_get _ p hp] at hold
    have hst := World.ownsRow.stored hO3 p (.int .u8 x)
    rw [U8_set] at hst
    have hE1 : Own (w3.setCell ⟨g, p, none⟩ (.int .u8 x)) B (.slice (some ⟨g, 0, none⟩) xs.length cap) (xs.set p x) := by
      unfold Own; rw [List.length_set]; exact hst.1
    have hBe : Below B w3 (w3.setCell ⟨g, p, none⟩ (.int .u8 x)) := (Below.refl _ _).setCell hgB _
    have hE2 := HC3.out.below hBe hB HV.out
    have hE3 := HL3.out.trans (hBe.mono (Nat.le_of_lt hB))
    have HE := Hid.mk (And.intro hE1 (And.intro hE2 hE3))
    clear hE1 hE2 hE3 hst hO3 hC hg hx HC2 HO2 HL2 HC3 HL3 hBe
    go_wp2
    go_ret
    first | exact ⟨_, rfl, _, HE.out.1, hby.set p x hx0 hx1, by rw [List.length_set]; omega, HE.out.2.1, HE.out.2.2⟩ | exact ⟨_, _, rfl, HE.out.1, hby.set p x hx0 hx1, by rw [List.length_set]; omega, HE.out.2.1, HE.out.2.2⟩
  · have hyb : (y == 0) = false := by simp; omega
    have hyc : (y == 1) = true := by simp; omega
    have hb1 := Bs.one w1 3 (by omega) (by omega)
    have hbr : Below B w1 (w1.alloc (.cells #[.int .u8 3] 5)) := (Below.refl _ _).alloc hsz _
    go_wp2_with (at_builtin; refine wpList_append_bs rfl _ _ rfl B _ _ xs [3] rfl (HO.out.alloc _) rfl hb1 hbr (by simp; omega) (by simp; omega) ?_)
    intro v2 w2 hown2 hbel2 hsz2
    have hE2 := HC.out.below hbel2 hB HV.out
    have hE3 := HL.out.trans (hbel2.mono (Nat.le_of_lt hB))
    have HE := Hid.mk (And.intro hE2 hE3)
    clear hb1 hbr hbel2 hE2 hE3 HC HO HL
    go_wp2
    go_ret
    have hby2 : byteList (xs ++ [3]) := hby.append (by intro z hz; simp at hz; omega)
    first | exact ⟨_, rfl, _, hown2, hby2, by simp, HE.out.1, HE.out.2⟩ | exact ⟨_, _, rfl, hown2, hby2, by simp, HE.out.1, HE.out.2⟩
  · have hyb : (y == 0) = false := by simp; omega
    have hyc : (y == 1) = false := by simp; omega
    go_wp2
    go_ret
    first | exact ⟨_, rfl, xs, HO.out, hby, by omega, HC.out, HL.out⟩ | exact ⟨_, xs, rfl, HO.out, hby, by omega, HC.out, HL.out⟩
end Go.Proofs.Ytincoibidgkiaaa
