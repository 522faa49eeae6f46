/- The cursor of a draw: a struct of the drawn bytes, a place in them and a number that is mixed on. Whatever it draws is a byte; nothing else turns. What the draws of chapter 1 hand over: some number; some bytes, in memory of their own. Which ones, no law asks. The cursor of a draw: one of some texts, and whether something comes once in so often. What the draws of chapter 2 hand over: some value: its number is one that an int holds, its text is short. Which one, no law asks. Draws of tokens. A scope in which the run jumps to several labels: what holds at every jump to a label, and a measure that every pass lowers. A scope with six labels. Blanks and remarks passed over: the program's passOver, from label to label. -/
import Derived.Test.YtapcbblfcmdbnaaDoorLeaf
import Derived.WalkSmall
import Derived.Test.YtapcbblfcmdbnaaDoorApp
import Derived.Test.YtapcbblfcmdbnaaDoorVal
import Derived.Test.YtapcbblfcmdbnaaDoorAppStr
import Derived.Test.YtapcbblfcmdbnaaDoorReadT
import Derived.Test.YtapcbblfcmdbnaaDoorPk1
import Derived.Test.YtapcbblfcmdbnaaDoorBytes
import Derived.Scope
import Derived.WalkMore
import Derived.Test.YtapcbblfcmdbnaaDoorLexDef
namespace Go.Proofs.YtapcbblfcmdbnaaDoor
open Go.RowKit

/-- The cursor in block cb over the bytes zs. -/
def Cur (w : World) (cb : Nat) (v : Value) (zs : List Int) : Prop :=
  Bs w v zs ∧ zs.length ≤ 1048576 ∧ (zs ≠ [] → ∀ k, v.ownBlock = some k → k ≠ cb) ∧
    ∃ i h : Int, 0 ≤ i ∧ i ≤ zs.length ∧ w.heap[cb]? = some (.cells #[v, .int .i64 i, .int .i64 h] 58 (0, 0))

theorem grownBy_trans {a b c : World} {row : Option Nat} (h : a.grownBy b row) (k : b.grownBy c row) : a.grownBy c row :=
  ⟨k.os.trans h.os, k.tape.trans h.tape, k.output.trans h.output, Nat.le_trans h.size k.size, fun j hj hne => (k.block j (Nat.lt_of_lt_of_le hj h.size) hne).trans (h.block j hj hne)⟩

theorem grownBy_drewN {a b : World} {row : Option Nat} (h : a.grownBy b row) (n : Nat) : a.grownBy (b.drewN n) row := ⟨h.os, h.tape, h.output, h.size, h.block⟩

theorem grownBy_setCell (w : World) (cb j : Nat) (u : Value) : w.grownBy (w.setCell ⟨cb, j, none⟩ u) (some cb) :=
  ⟨rfl, rfl, rfl, by simp [World.setCell], fun k _ hk => Below.heap_setCell w _ u k (fun e => hk (by rw [e]))⟩

theorem Bs.other' {w w' : World} {v : Value} {zs : List Int} {row : Option Nat} (h : Bs w v zs) (hg : w.grownBy w' row) (hne : zs ≠ [] → ∀ k, v.ownBlock = some k → some k ≠ row) : Bs w' v zs := by
  by_cases hz : zs = []
  · obtain ⟨hb, ao, cap, rfl, hl, hm, hn, hc⟩ := h
    exact ⟨hb, ao, cap, rfl, hl, hm, hn, fun h => absurd hz h⟩
  · exact h.other hg (hne hz)

/-- A cursor whose block has turned to this. -/
theorem Cur.turned {w w' : World} {cb : Nat} {v : Value} {zs : List Int} (h : Cur w cb v zs) (hg : w.grownBy w' (some cb)) (i q : Int) (h0 : 0 ≤ i) (h1 : i ≤ zs.length)
    (hc : w'.heap[cb]? = some (.cells #[v, .int .i64 i, .int .i64 q] 58 (0, 0))) : Cur w' cb v zs :=
  ⟨h.1.other' hg (fun hz k hk e => h.2.2.1 hz k hk (Option.some.inj e)), h.2.1, h.2.2.1, i, q, h0, h1, hc⟩

set_option maxHeartbeats 1000000 in
theorem l1Byte_any (cb : Nat) (v : Value) (zs : List Int) (w : World) (h : Cur w cb v zs) :
    Calls Tryd.prog 56 #[.pointer (some ⟨cb, 0, none⟩)] w fun e w' => ∃ x : Int, e = .returned (.int .i64 x) ∧ 0 ≤ x ∧ x ≤ 255 ∧ Cur w' cb v zs ∧ w.grownBy w' (some cb) := by
  have H := Hid.mk h
  obtain ⟨hbs, hlen, hne, i, q, hi0, hi1, hcb⟩ := h
  obtain ⟨hb, ao, cap, hv, hl, hm, hn, hc⟩ := hbs
  subst hv
  have c0 : w.cell? ⟨cb, 0, none⟩ = some (.slice ao zs.length cap) := by rw [cell_of_row w cb 0 _ _ _ hcb]; rfl
  have c1 : w.cell? ⟨cb, 1, none⟩ = some (.int .i64 i) := by rw [cell_of_row w cb 1 _ _ _ hcb]; rfl
  have c2 : w.cell? ⟨cb, 2, none⟩ = some (.int .i64 q) := by rw [cell_of_row w cb 2 _ _ _ hcb]; rfl
  have f1 : w.frozen? ⟨cb, 1, none⟩ = false := frozen_of_row w cb 1 _ _ hcb
  have f2 : w.frozen? ⟨cb, 2, none⟩ = false := frozen_of_row w cb 2 _ _ hcb
  have e255 := Ma.and255
  unfold maxLen at hm
  obtain ⟨X, hX⟩ : ∃ X, wrap64 (wrap64 (q * 6364136223846793005) + 1442695040888963407) = X := ⟨_, rfl⟩
  have hg2 := grownBy_setCell w cb 2 (.int .i64 X)
  have hh2 := heap_setCell_same w cb 2 _ _ (.int .i64 X) hcb
  by_cases hlt : i < zs.length
  · obtain ⟨p, rfl⟩ := Int.eq_ofNat_of_zero_le hi0
    have hz : zs ≠ [] := by intro h0; rw [h0] at hlt; simp at hlt; omega
    obtain ⟨b, off, rfl, hcell⟩ := hc hz
    have hbc : b ≠ cb := hne hz b rfl
    obtain ⟨c, Hc⟩ : ∃ c, Hid (zs.getD p 0 = c) := ⟨_, rfl⟩
    have hcb2 := hb.getD p
    rw [Hc.out] at hcb2
    obtain ⟨hc0, hc1⟩ := hcb2
    have hbyte : ∀ Y, (w.setCell ⟨cb, 2, none⟩ Y).cell? ⟨b, off + p, none⟩ = some (.int .u8 c) := fun Y => by
      rw [World.cell?_of_block (w := w) (Below.heap_setCell w _ Y b hbc), ← Hc.out]
      exact hcell p (by omega)
    have hplt : (p : Int) < (zs.length : Int) := hlt
    have hg1 := grownBy_setCell (w.setCell ⟨cb, 2, none⟩ (.int .i64 X)) cb 1 (.int .i64 ((p : Int) + 1))
    have hh1 := heap_setCell_same (w.setCell ⟨cb, 2, none⟩ (.int .i64 X)) cb 1 _ _ (.int .i64 ((p : Int) + 1)) hh2
    have HE : Hid (∀ n, Cur (((w.setCell ⟨cb, 2, none⟩ (.int .i64 X)).drewN n).setCell ⟨cb, 1, none⟩ (.int .i64 ((p : Int) + 1))) cb (.slice (some ⟨b, off, none⟩) zs.length cap) zs ∧
        w.grownBy (((w.setCell ⟨cb, 2, none⟩ (.int .i64 X)).drewN n).setCell ⟨cb, 1, none⟩ (.int .i64 ((p : Int) + 1))) (some cb)) := fun n => by
      have hg : w.grownBy (((w.setCell ⟨cb, 2, none⟩ (.int .i64 X)).drewN n).setCell ⟨cb, 1, none⟩ (.int .i64 ((p : Int) + 1))) (some cb) := grownBy_drewN (grownBy_trans hg2 hg1) n
      refine ⟨H.out.turned hg ((p : Int) + 1) X (by omega) (by omega) ?_, hg⟩
      exact hh1
    clear hc hne hcell hg1 hg2 hh1 hh2 hcb
    go_enter Tryd.func56, Tryd.ntmps56
    go_wp2
    go_quiet (fail)
    go_wp2
    go_quiet (fail)
    go_wp2
    go_quiet (fail)
    go_wp2
    go_ret
    refine ⟨_, rfl, Int.emod_nonneg _ (by decide), by omega, ?_⟩
    first | exact HE.out _ | (rw [World.drewN_drewN]; exact HE.out _)
  · have HE : Hid (∀ n, Cur ((w.setCell ⟨cb, 2, none⟩ (.int .i64 X)).drewN n) cb (.slice ao zs.length cap) zs ∧ w.grownBy ((w.setCell ⟨cb, 2, none⟩ (.int .i64 X)).drewN n) (some cb)) := fun n => by
      have hg := grownBy_drewN hg2 n
      refine ⟨H.out.turned hg i X hi0 hi1 ?_, hg⟩
      exact hh2
    clear hc hne hg2 hh2 hcb
    go_enter Tryd.func56, Tryd.ntmps56
    go_wp2
    go_quiet (fail)
    go_wp2
    go_quiet (fail)
    go_wp2
    go_ret
    refine ⟨_, rfl, Int.emod_nonneg _ (by decide), by omega, ?_⟩
    first | exact HE.out _ | (rw [World.drewN_drewN]; exact HE.out _)

set_option maxHeartbeats 1000000 in
theorem l1New_any (v : Value) (zs : List Int) (w : World) (h : Bs w v zs) (hlen : zs.length ≤ 1048576) :
    Calls Tryd.prog 20 #[v] w fun e w' => e = .returned (.pointer (some ⟨w.heap.size, 0, none⟩)) ∧ Cur w' w.heap.size v zs ∧ Below w.heap.size w w' := by
  have H := Hid.mk h
  have Hlt := Hid.mk h.lt
  obtain ⟨hb, ao, cap, hv, hl, hm, hn, hc⟩ := h
  subst hv
  unfold maxLen at hm
  have HE : Hid (∀ q : Int, Cur (w.alloc (.cells #[.slice ao zs.length cap, .int .i64 0, .int .i64 q] 58)) w.heap.size (.slice ao zs.length cap) zs) := fun q => by
    refine ⟨H.out.grow ((Below.refl _ _).alloc (Nat.le_refl _) _), hlen, fun hz k hk => by have := Hlt.out hz k hk; omega, 0, q, by omega, by omega, ?_⟩
    exact heap_alloc_new w _
  clear Hlt
  go_enter Tryd.func20, Tryd.ntmps20
  go_wp2
  go_loop [3, 4] (fun hq i => ∃ (k : Nat) (q : Int), k ≤ zs.length ∧ i = .int .i64 k ∧ hq = .int .i64 q) (fun _ i => zs.length - (intOf i).toNat)
  case atStart => exact ⟨0, _, Nat.zero_le _, rfl, rfl⟩
  case round =>
    obtain ⟨k, q, hk, rfl, rfl⟩ := hrel
    by_cases hlt : k < zs.length
    · by_cases h4 : (k : Int) < 4000
      · obtain ⟨b, off, rfl, hcell⟩ := hc (by intro h0; rw [h0] at hlt; simp at hlt)
        obtain ⟨c, Hc⟩ : ∃ c, Hid (zs.getD k 0 = c) := ⟨_, rfl⟩
        have h1 : w.cell? ⟨b, off + k, none⟩ = some (.int .u8 c) := by rw [← Hc.out]; exact hcell k hlt
        clear hc hcell
        go_wp2
        go_round
        case rel => exact ⟨k + 1, _, by omega, by go_num, rfl⟩
        case measure => simp [intOf]; omega
      · clear hc
        go_wp2
        go_ret
        exact ⟨rfl, HE.out q, (Below.refl _ _).alloc (Nat.le_refl _) _⟩
    · clear hc
      go_wp2
      go_ret
      exact ⟨rfl, HE.out q, (Below.refl _ _).alloc (Nat.le_refl _) _⟩

set_option maxHeartbeats 1000000 in
theorem l1Below_any (cb : Nat) (v : Value) (zs : List Int) (n : Int) (w : World) (h : Cur w cb v zs) :
    Calls Tryd.prog 33 #[.pointer (some ⟨cb, 0, none⟩), .int .i64 n] w fun e w' => ∃ x : Int, e = .returned (.int .i64 x) ∧ 0 ≤ x ∧ (0 < n → x < n) ∧ (n ≤ 0 → x = 0) ∧ Cur w' cb v zs ∧ w.grownBy w' (some cb) := by
  have H := Hid.mk h
  clear h
  rcases (by omega : n ≤ 0 ∨ (0 < n ∧ n ≤ 256) ∨ (0 < n ∧ 256 < n)) with hn | ⟨hn, hn2⟩ | ⟨hn, hn2⟩
  · go_enter Tryd.func33, Tryd.ntmps33
    go_wp2
    go_ret
    exact ⟨0, rfl, by omega, by omega, fun _ => rfl, H.out, World.grownBy.refl _ _⟩
  · go_enter Tryd.func33, Tryd.ntmps33
    go_wp2_with fail
    refine (l1Byte_any cb v zs w H.out).mono ?_
    rintro e w1 ⟨x, rfl, hx0, hx1, hC, hg⟩
    have HC := Hid.mk hC
    have HG := Hid.mk hg
    clear hC hg
    go_wp2
    go_ret
    exact ⟨_, rfl, Int.emod_nonneg _ (by omega), fun _ => Int.emod_lt_of_pos _ hn, by omega, HC.out, HG.out⟩
  · go_enter Tryd.func33, Tryd.ntmps33
    go_wp2_with fail
    refine (l1Byte_any cb v zs w H.out).mono ?_
    rintro e w1 ⟨x, rfl, hx0, hx1, hC, hg⟩
    have HC := Hid.mk hC
    have HG := Hid.mk hg
    clear hC hg
    go_wp2_with fail
    refine (l1Byte_any cb v zs w1 HC.out).mono ?_
    rintro e w2 ⟨y, rfl, hy0, hy1, hC, hg⟩
    have HC2 := Hid.mk hC
    have HG2 := Hid.mk (grownBy_trans HG.out hg)
    clear hC hg HC HG
    go_wp2_with fail
    refine (l1Byte_any cb v zs w2 HC2.out).mono ?_
    rintro e w3 ⟨z, rfl, hz0, hz1, hC, hg⟩
    have HC3 := Hid.mk hC
    have HG3 := Hid.mk (grownBy_trans HG2.out hg)
    clear hC hg HC2 HG2
    go_wp2
    go_ret
    exact ⟨_, rfl, Int.emod_nonneg _ (by omega), fun _ => Int.emod_lt_of_pos _ hn, by omega, HC3.out, HG3.out⟩

/-- A cursor behind whatever leaves its block and its bytes' block alone. -/
theorem Cur.grow {w w' : World} {cb : Nat} {v : Value} {zs : List Int} (h : Cur w cb v zs) (hk : Below w.heap.size w w') : Cur w' cb v zs := by
  obtain ⟨hbs, hlen, hne, i, q, h0, h1, hc⟩ := h
  refine ⟨hbs.grow hk, hlen, hne, i, q, h0, h1, ?_⟩
  rw [hk.block cb (Array.getElem?_eq_some_iff.1 hc).1]
  exact hc
theorem Cur.lt {w : World} {cb : Nat} {v : Value} {zs : List Int} (h : Cur w cb v zs) : cb < w.heap.size := by
  obtain ⟨_, _, _, i, q, _, _, hc⟩ := h
  exact (Array.getElem?_eq_some_iff.1 hc).1

/-- A list of numbers in a block of its own. -/
def Nums (w : World) (lb : Nat) (xs : List Int) : Prop := w.heap[lb]? = some (.cells (xs.map (Value.int .i64)).toArray 3 (0, 0))

set_option maxHeartbeats 1000000 in
theorem l1Int_any (cb lb n : Nat) (v : Value) (zs xs : List Int) (w : World) (h : Cur w cb v zs) (hn : n = xs.length) (hpos : 0 < n) (hbig : n ≤ 1000) (hx : Nums w lb xs) (hne : lb ≠ cb) :
    Calls Tryd.prog 67 #[.pointer (some ⟨cb, 0, none⟩), .slice (some ⟨lb, 0, none⟩) n n] w fun e w' => ∃ x : Int, e = .returned (.int .i64 x) ∧ x ∈ xs ∧ Cur w' cb v zs ∧ w.grownBy w' (some cb) := by
  have H := Hid.mk h
  have HX := Hid.mk hx
  clear h hx
  have Hn := Hid.mk hn
  clear hn
  go_enter Tryd.func67, Tryd.ntmps67
  go_wp2_with fail
  refine (l1Below_any cb v zs (n : Int) w H.out).mono ?_
  rintro e w1 ⟨x, rfl, hx0, hx1, -, hC, hg⟩
  obtain ⟨p, rfl⟩ := Int.eq_ofNat_of_zero_le hx0
  have hp : p < n := by have := hx1 (by omega); omega
  have hbl : w1.heap[lb]? = w.heap[lb]? := hg.block lb (Array.getElem?_eq_some_iff.1 HX.out).1 (fun e => hne (Option.some.inj e))
  obtain ⟨y, Hy⟩ : ∃ y, Hid (xs.getD p 0 = y) := ⟨_, rfl⟩
  have hcell : w1.cell? ⟨lb, p, none⟩ = some (.int .i64 y) := by
    have h1 := HX.out
    unfold Nums at h1
    rw [cell_of_row w1 lb p _ _ _ (hbl.trans h1), ← Hy.out]
    have := Hn.out
    simp [List.getD, show p < xs.length by omega]
  have hmem : y ∈ xs := by
    have := Hn.out
    rw [← Hy.out]
    have e : xs.getD p 0 = xs[p]'(by omega) := by simp [List.getD, show p < xs.length by omega]
    rw [e]; exact List.getElem_mem _
  have HC := Hid.mk hC
  have HG := Hid.mk hg
  have HM := Hid.mk hmem
  clear hC hg hx1 hbl hmem
  go_wp2
  go_ret
  exact ⟨y, rfl, HM.out, HC.out, HG.out⟩
theorem big_any (v : Value) (zs : List Int) (w : World) (h : Bs w v zs) :
    Calls Tryd.prog 6 #[v] w fun e w' => e = .returned (.bool (decide ((1048576 : Int) < zs.length))) ∧ w' = w := by
  obtain ⟨ao, cap, rfl⟩ : ∃ ao cap, v = .slice ao zs.length cap := by obtain ⟨_, ao, cap, e, _⟩ := h; exact ⟨ao, cap, e⟩
  clear h
  go_enter Tryd.func6, Tryd.ntmps6
  go_wp2
  go_ret
  exact ⟨rfl, rfl⟩
end Go.Proofs.YtapcbblfcmdbnaaDoor

namespace Go.Proofs.YtapcbblfcmdbnaaDoor
open Go.RowKit

theorem grownBy_below {a b c : World} {row : Option Nat} {B : Nat} (hg : a.grownBy b row) (hb : Below B b c) (hB : a.heap.size ≤ B) : a.grownBy c row :=
  ⟨hb.os.trans hg.os, hb.tape.trans hg.tape, hb.output.trans hg.output, Nat.le_trans hg.size hb.size, fun k hk hne => (hb.block k (Nat.lt_of_lt_of_le hk hB)).trans (hg.block k hk hne)⟩

theorem Cur.below {w w' : World} {cb B : Nat} {v : Value} {zs : List Int} (h : Cur w cb v zs) (hk : Below B w w') (hcb : cb < B) (hv : zs ≠ [] → ∀ k, v.ownBlock = some k → k < B) : Cur w' cb v zs := by
  obtain ⟨hbs, hlen, hne, i, q, h0, h1, hc⟩ := h
  refine ⟨?_, hlen, hne, i, q, h0, h1, by rw [hk.block cb hcb]; exact hc⟩
  by_cases hz : zs = []
  · obtain ⟨hb, ao, cap, rfl, hl, hm, hn, hc⟩ := hbs
    exact ⟨hb, ao, cap, rfl, hl, hm, hn, fun h => absurd hz h⟩
  · exact hbs.below hk (hv hz)

end Go.Proofs.YtapcbblfcmdbnaaDoor

namespace Go.Proofs.YtapcbblfcmdbnaaDoor
open Go.RowKit
set_option maxRecDepth 8000

/-- Blocks other than the cursor's stay. -/
theorem gcell {W w1 : World} {cb : Nat} (hg : W.grownBy w1 (some cb)) (b : Nat) (hb : b < W.heap.size) (hne : b ≠ cb) :
    (∀ o, w1.cell? ⟨b, o, none⟩ = W.cell? ⟨b, o, none⟩) ∧ (∀ o, w1.frozen? ⟨b, o, none⟩ = W.frozen? ⟨b, o, none⟩) :=
  ⟨fun o => World.cell?_of_block (a := ⟨b, o, none⟩) (hg.block b hb (fun e => hne (Option.some.inj e))), fun o => World.frozen?_of_block (a := ⟨b, o, none⟩) (hg.block b hb (fun e => hne (Option.some.inj e)))⟩

/-- A list of texts in a block of its own. -/
def Strs (w : World) (lb : Nat) (xs : List ByteArray) : Prop := w.heap[lb]? = some (.cells (xs.map Value.string).toArray 9 (0, 0))

set_option maxHeartbeats 1000000 in
theorem l1Str_any (cb lb n : Nat) (v : Value) (zs : List Int) (xs : List ByteArray) (w : World) (h : Cur w cb v zs) (hn : n = xs.length) (hpos : 0 < n) (hbig : n ≤ 1000) (hx : Strs w lb xs) (hne : lb ≠ cb) :
    Calls Tryd.prog 34 #[.pointer (some ⟨cb, 0, none⟩), .slice (some ⟨lb, 0, none⟩) n n] w fun e w' => ∃ x : ByteArray, e = .returned (.string x) ∧ x ∈ xs ∧ Cur w' cb v zs ∧ w.grownBy w' (some cb) := by
  have H := Hid.mk h
  have HX := Hid.mk hx
  clear h hx
  have Hn := Hid.mk hn
  clear hn
  go_enter Tryd.func34, Tryd.ntmps34
  go_wp2_with fail
  refine (l1Below_any cb v zs (n : Int) w H.out).mono ?_
  rintro e w1 ⟨x, rfl, hx0, hx1, -, hC, hg⟩
  obtain ⟨p, rfl⟩ := Int.eq_ofNat_of_zero_le hx0
  have hp : p < n := by have := hx1 (by omega); omega
  have hbl : w1.heap[lb]? = w.heap[lb]? := hg.block lb (Array.getElem?_eq_some_iff.1 HX.out).1 (fun e => hne (Option.some.inj e))
  obtain ⟨y, Hy⟩ : ∃ y, Hid (xs[p]? = some y) := ⟨_, List.getElem?_eq_getElem (by have := Hn.out; omega)⟩
  have hcell : w1.cell? ⟨lb, p, none⟩ = some (.string y) := by
    have h1 := HX.out
    unfold Strs at h1
    rw [cell_of_row w1 lb p _ _ _ (hbl.trans h1)]
    simp [Hy.out]
  have hmem : y ∈ xs := List.mem_of_getElem? Hy.out
  have HC := Hid.mk hC
  have HG := Hid.mk hg
  have HM := Hid.mk hmem
  clear hC hg hx1 hbl hmem
  go_wp2
  go_ret
  exact ⟨y, rfl, HM.out, HC.out, HG.out⟩

theorem l1Once_any (cb : Nat) (v : Value) (zs : List Int) (n : Int) (w : World) (h : Cur w cb v zs) :
    Calls Tryd.prog 35 #[.pointer (some ⟨cb, 0, none⟩), .int .i64 n] w fun e w' => ∃ b : Bool, e = .returned (.bool b) ∧ Cur w' cb v zs ∧ w.grownBy w' (some cb) := by
  have H := Hid.mk h
  clear h
  go_enter Tryd.func35, Tryd.ntmps35
  go_wp2_with fail
  refine (l1Below_any cb v zs n w H.out).mono ?_
  rintro e w1 ⟨x, rfl, -, -, -, hC, hg⟩
  have HC := Hid.mk hC
  have HG := Hid.mk hg
  clear hC hg
  go_wp2
  go_ret
  exact ⟨_, rfl, HC.out, HG.out⟩
end Go.Proofs.YtapcbblfcmdbnaaDoor

namespace Go.Proofs.YtapcbblfcmdbnaaDoor
open Go.RowKit
set_option maxRecDepth 8000

theorem below_set3 (W : World) (b B : Nat) (h : B ≤ b) (x y z : Value) : Below B W (((W.setCell ⟨b, 0, none⟩ x).setCell ⟨b, 1, none⟩ y).setCell ⟨b, 2, none⟩ z) :=
  (((Below.refl _ _).setCell h _).setCell h _).setCell h _

/-- A drawn value's bounds. -/
def Fair (n : Int) (s : ByteArray) : Prop := -9223372036854775808 ≤ n ∧ n ≤ 9223372036854775807 ∧ s.size ≤ 201

end Go.Proofs.YtapcbblfcmdbnaaDoor

namespace Go.Proofs.YtapcbblfcmdbnaaDoor
open Go.RowKit
set_option maxRecDepth 8000

theorem gyNew {w w' : World} {R : Nat} (h : w.grownBy w' (some R)) (o : Obj) : w.grownBy (w'.alloc o) (some R) := grownBy_trans h (World.grownBy_alloc w' o _)
theorem wpList_append_k2 {w0 w : World} {ops : Array Oper} {rest : List Oper} {o : Oper} {a : Act} {Q : Exit → Act → World → Prop} (hgd : o.guard = none) (s x : Operand)
    (ho : o.op = .call { callee := .builtin .append, args := #[s, x], argTypes := #[24, 24] })
    (base : Nat) (v : Value) (L : List Tk) (y z : Tk) (hs : a.eval s = v) (hown : OwnK w base v L) (lb : Nat) (hx : a.eval x = .slice (some ⟨lb, 0, none⟩) 2 2)
    (hc : w.heap[lb]? = some (.cells #[.int .i64 y.k, .int .i64 y.n, .string y.s, .int .i64 z.k, .int .i64 z.n, .string z.s] 31 (0, 0)))
    (hbel : Below base w0 w) (hbase : base ≤ w.heap.size) (hlen : L.length ≤ 1000000)
    (h : ∀ v' w', OwnK w' base v' (L ++ [y, z]) → Below base w0 w' → w.heap.size ≤ w'.heap.size → Kign w w' v v' → wpList Tryd.prog ops Q rest (a.put o.dst v') w') :
    wpList Tryd.prog ops Q (o :: rest) a w := by
  obtain ⟨i0, hi, hz0, hz1, hz2⟩ := info_parts infoToken
  refine wpList_append_own_at w hgd s x 24 ho base 31 i0 _ 3 32 Tryd.underlying24 hi hz0 hz1 hz2 rfl (by decide) v L.length (tkCells L) hs hown ⟨lb, 0, none⟩ 2 2 (tkCells [y, z]) hx rfl ?_ (by simp [tkCells, Value.oneCell']) (by unfold maxLen; omega) (by omega) hbase ?_
  · intro j q hq
    rw [Addr.add_lit, Nat.zero_add, cell_of_row w lb j _ _ (0, 0) hc]
    simpa [tkCells] using hq
  · intro v' w' hown' hgr _ hat
    refine h v' w' ?_ (hbel.grown hgr hbase fun k hk => (World.ownsRow.lt hown k hk).1) hgr.size ⟨hgr, ?_⟩
    rotate_left
    · rcases hat with hat | hat
      · exact .inl hat
      · exact .inr ⟨_, Nat.le_refl _, hat⟩
    unfold OwnK
    rw [tkCells_append, List.length_append]
    exact hown'
theorem OwnK.grown {w w' : World} {base : Nat} {v : Value} {L : List Tk} {row : Nat} (h : OwnK w base v L) (hg : w.grownBy w' (some row)) (hr : row < base) : OwnK w' base v L :=
  World.ownsRow.kept (row := some row) h hg (.inr fun e => by have := h.lies _ e; omega)

/-- A drawn token. -/
def drB (t : Tk) : Bool := tkOkB t && (t.k != 4) && !tiB t && !(t.k == 5 && t.s.toList == [47]) && decide (t.s.size ≤ 8)
theorem drB_in {L : List ByteArray} {k : Int} (hL : L.all (fun y => drB ⟨k, 0, y⟩) = true) {y : ByteArray} (h : y ∈ L) : drB ⟨k, 0, y⟩ = true := List.all_eq_true.1 hL y h
theorem dr_names : ([⟨#[120]⟩, ⟨#[112, 114, 105, 110, 116]⟩, ⟨#[110, 49]⟩, ⟨#[119, 104, 105, 108, 101]⟩] : List ByteArray).all (fun y => drB ⟨2, 0, y⟩) = true := by decide +kernel
theorem dr_texts : ([⟨#[]⟩, ⟨#[97, 32, 98]⟩, ⟨#[47]⟩, ⟨#[35]⟩] : List ByteArray).all (fun y => drB ⟨3, 0, y⟩) = true := by decide +kernel
theorem dr_marks : ([⟨#[123]⟩, ⟨#[125]⟩, ⟨#[40]⟩, ⟨#[41]⟩, ⟨#[60, 61]⟩, ⟨#[61, 61]⟩, ⟨#[61]⟩, ⟨#[60]⟩, ⟨#[38, 38]⟩, ⟨#[46]⟩, ⟨#[36]⟩, ⟨#[59]⟩, ⟨#[33]⟩] : List ByteArray).all (fun y => drB ⟨5, 0, y⟩) = true := by decide +kernel
theorem dr_nums : ([0, 7, 42, 2147483647] : List Int).all (fun n => drB ⟨1, n, ⟨#[]⟩⟩) = true := by decide +kernel
def rxB (y : ByteArray) : Bool := tkOkB ⟨4, 0, y⟩ && decide (y.size ≤ 8)
theorem rx_all : ([⟨#[97, 42, 98]⟩, ⟨#[120]⟩, ⟨#[94, 91, 97, 98, 93, 43, 36]⟩] : List ByteArray).all rxB = true := by decide +kernel
theorem tilde_ok : tkOkB ⟨5, 0, ⟨#[126]⟩⟩ = true ∧ tiB ⟨5, 0, ⟨#[126]⟩⟩ = true := by decide +kernel
/-- Tokens that may be joined. -/
def FitT (L : List Tk) : Prop := Fit L ∧ (∀ t ∈ L, t.s.size ≤ 8) ∧ tiL L = false
theorem FitT.nil : FitT [] := ⟨Fit.nil, by simp, rfl⟩
theorem FitT.one {L : List Tk} {t : Tk} (h : FitT L) (ht : drB t = true) : FitT (L ++ [t]) := by
  unfold drB at ht
  simp only [Bool.and_eq_true, Bool.not_eq_true', decide_eq_true_eq] at ht
  obtain ⟨⟨⟨⟨h1, h2⟩, h3⟩, h4⟩, h5⟩ := ht
  refine ⟨h.1.snoc h1 (fun e => by rw [e] at h2; simp at h2) (fun _ _ => h.2.2), ?_, by rw [tiL_snoc]; exact h3⟩
  intro x hx
  rcases List.mem_append.1 hx with hx | hx
  · exact h.2.1 x hx
  · rw [List.mem_singleton.1 hx]; exact h5
theorem FitT.two {L : List Tk} {y : ByteArray} (h : FitT L) (hy : rxB y = true) : FitT (L ++ [⟨5, 0, ⟨#[126]⟩⟩, ⟨4, 0, y⟩]) := by
  unfold rxB at hy
  simp only [Bool.and_eq_true, decide_eq_true_eq] at hy
  obtain ⟨t1, t2⟩ := tilde_ok
  have e : L ++ [⟨5, 0, ⟨#[126]⟩⟩, ⟨4, 0, y⟩] = (L ++ [(⟨5, 0, ⟨#[126]⟩⟩ : Tk)]) ++ [⟨4, 0, y⟩] := by simp
  rw [e]
  refine ⟨(h.1.snoc t1 (fun e => by simp at e) (fun _ _ => h.2.2)).snoc hy.1 (fun _ => by rw [tiL_snoc]; exact t2) (fun e => by simp at e), ?_, by rw [tiL_snoc]; rfl⟩
  intro x hx
  simp only [List.mem_append, List.mem_singleton] at hx
  rcases hx with (hx | rfl) | rfl
  · exact h.2.1 x hx
  · show (1 : Nat) ≤ 8; omega
  · exact hy.2

set_option maxHeartbeats 2000000 in
theorem l7Token_any (cb : Nat) (v : Value) (zs : List Int) (w : World) (h : Cur w cb v zs) :
    Calls Tryd.prog 43 #[.pointer (some ⟨cb, 0, none⟩)] w fun e w' => ∃ t : Tk, e = .returned (tkV t) ∧ drB t = true ∧ Cur w' cb v zs ∧ w.grownBy w' (some cb) := by
  have A0 : ∀ o, Below w.heap.size w (w.alloc o) := fun o => (Below.refl _ _).alloc (Nat.le_refl _) _
  have hlt := h.lt
  have HV := Hid.mk (fun hz k hk => h.1.lt hz k hk)
  have C0 := Hid.mk (h.grow (A0 (.cells #[.int .i64 0, .int .i64 0, .string ⟨#[]⟩] 31)))
  have G0 := Hid.mk (World.grownBy_alloc w (.cells #[.int .i64 0, .int .i64 0, .string ⟨#[]⟩] 31) (some cb))
  clear h A0
  go_enter Tryd.func43, Tryd.ntmps43
  go_wp2_with fail
  refine (l1Below_any cb v zs 4 _ C0.out).mono ?_
  rintro e w1 ⟨x, rfl, hx0, hx4, -, hC1, hg1⟩
  have hx := hx4 (by omega)
  have hc1 : ∀ o, w1.cell? ⟨w.heap.size, o, none⟩ = (w.alloc (.cells #[.int .i64 0, .int .i64 0, .string ⟨#[]⟩] 31)).cell? ⟨w.heap.size, o, none⟩ := fun o => World.cell?_of_block (hg1.block w.heap.size (by simp) (fun e => by have := Option.some.inj e; omega))
  have hf1 : ∀ o, w1.frozen? ⟨w.heap.size, o, none⟩ = false := fun o => frozen_of_row w1 w.heap.size o _ _ ((hg1.block w.heap.size (by simp) (fun e => by have := Option.some.inj e; omega)).trans (heap_alloc_new w _))
  have hs1 := hg1.size
  simp at hs1
  have C1 := Hid.mk hC1
  have G1 := Hid.mk (grownBy_trans G0.out hg1)
  clear hC1 hg1 hx4 C0 G0
  have A1 : ∀ o, Below w1.heap.size w1 (w1.alloc o) := fun o => (Below.refl _ _).alloc (Nat.le_refl _) _
  have hcl := C1.out.lt
  by_cases h0 : x = 0
  · subst h0
    go_wp2_with fail
    refine (l1Int_any cb w1.heap.size 4 v zs [0, 7, 42, 2147483647] _ (C1.out.grow (A1 _)) rfl (by omega) (by omega) (heap_alloc_new w1 _) (by omega)).mono ?_
    rintro e w2 ⟨y, rfl, hy, hC2, hg2⟩
    have hd : drB ⟨1, y, ⟨#[]⟩⟩ = true := List.all_eq_true.1 dr_nums y hy
    have hblk : w2.heap[w.heap.size]? = w1.heap[w.heap.size]? := (hg2.block w.heap.size (by simp; omega) (fun e => by have := Option.some.inj e; omega)).trans ((A1 _).block w.heap.size (by omega))
    have hc2 : ∀ o, w2.cell? ⟨w.heap.size, o, none⟩ = w1.cell? ⟨w.heap.size, o, none⟩ := fun o => World.cell?_of_block hblk
    have hf2 : ∀ o, w2.frozen? ⟨w.heap.size, o, none⟩ = false := fun o => by rw [← hf1 o]; exact World.frozen?_of_block hblk
    have k0 : w2.cell? ⟨w.heap.size, 0, none⟩ = some (.int .i64 0) := by rw [hc2, hc1]; go_simp
    have k1 : w2.cell? ⟨w.heap.size, 1, none⟩ = some (.int .i64 0) := by rw [hc2, hc1]; go_simp
    have k2 : w2.cell? ⟨w.heap.size, 2, none⟩ = some (.string ⟨#[]⟩) := by rw [hc2, hc1]; go_simp
    have f0 := hf2 0
    have f1 := hf2 1
    have f2 := hf2 2
    have C2 := Hid.mk hC2
    have G2 := Hid.mk (grownBy_trans (gyNew G1.out _) hg2)
    have HD := Hid.mk hd
    clear hC2 hg2 hy hd hblk hc2 hf2 hc1 hf1 C1 G1 A1
    go_wp2
    refine bodyPost_ret (v := tkV ⟨1, y, ⟨#[]⟩⟩) (by simp [results, Tryd.results43, go_sem, k0, k1, k2]) rfl ⟨⟨1, y, ⟨#[]⟩⟩, rfl, HD.out, ?_, ?_⟩
    · have q : Below w.heap.size w2 (((w2.setCell ⟨w.heap.size, 0, none⟩ (.int .i64 1)).setCell ⟨w.heap.size, 1, none⟩ (.int .i64 y)).setCell ⟨w.heap.size, 2, none⟩ (.string ⟨#[]⟩)) := (((Below.refl w.heap.size w2).setCell (p := ⟨w.heap.size, 0, none⟩) (Nat.le_refl w.heap.size) _).setCell (p := ⟨w.heap.size, 1, none⟩) (Nat.le_refl w.heap.size) _).setCell (p := ⟨w.heap.size, 2, none⟩) (Nat.le_refl w.heap.size) _
      exact C2.out.below q hlt (fun hz k hk => HV.out hz k hk)
    · have q : Below w.heap.size w2 (((w2.setCell ⟨w.heap.size, 0, none⟩ (.int .i64 1)).setCell ⟨w.heap.size, 1, none⟩ (.int .i64 y)).setCell ⟨w.heap.size, 2, none⟩ (.string ⟨#[]⟩)) := (((Below.refl w.heap.size w2).setCell (p := ⟨w.heap.size, 0, none⟩) (Nat.le_refl w.heap.size) _).setCell (p := ⟨w.heap.size, 1, none⟩) (Nat.le_refl w.heap.size) _).setCell (p := ⟨w.heap.size, 2, none⟩) (Nat.le_refl w.heap.size) _
      exact grownBy_below G2.out q (Nat.le_refl _)
  by_cases h1 : x = 1
  · subst h1
    go_wp2_with fail
    refine (l1Str_any cb w1.heap.size 4 v zs [⟨#[120]⟩, ⟨#[112, 114, 105, 110, 116]⟩, ⟨#[110, 49]⟩, ⟨#[119, 104, 105, 108, 101]⟩] _ (C1.out.grow (A1 _)) rfl (by omega) (by omega) (heap_alloc_new w1 _) (by omega)).mono ?_
    rintro e w2 ⟨y, rfl, hy, hC2, hg2⟩
    have hd : drB ⟨2, 0, y⟩ = true := drB_in dr_names hy
    have hblk : w2.heap[w.heap.size]? = w1.heap[w.heap.size]? := (hg2.block w.heap.size (by simp; omega) (fun e => by have := Option.some.inj e; omega)).trans ((A1 _).block w.heap.size (by omega))
    have hc2 : ∀ o, w2.cell? ⟨w.heap.size, o, none⟩ = w1.cell? ⟨w.heap.size, o, none⟩ := fun o => World.cell?_of_block hblk
    have hf2 : ∀ o, w2.frozen? ⟨w.heap.size, o, none⟩ = false := fun o => by rw [← hf1 o]; exact World.frozen?_of_block hblk
    have k0 : w2.cell? ⟨w.heap.size, 0, none⟩ = some (.int .i64 0) := by rw [hc2, hc1]; go_simp
    have k1 : w2.cell? ⟨w.heap.size, 1, none⟩ = some (.int .i64 0) := by rw [hc2, hc1]; go_simp
    have k2 : w2.cell? ⟨w.heap.size, 2, none⟩ = some (.string ⟨#[]⟩) := by rw [hc2, hc1]; go_simp
    have f0 := hf2 0
    have f1 := hf2 1
    have f2 := hf2 2
    have C2 := Hid.mk hC2
    have G2 := Hid.mk (grownBy_trans (gyNew G1.out _) hg2)
    have HD := Hid.mk hd
    clear hC2 hg2 hy hd hblk hc2 hf2 hc1 hf1 C1 G1 A1
    go_wp2
    refine bodyPost_ret (v := tkV ⟨2, 0, y⟩) (by simp [results, Tryd.results43, go_sem, k0, k1, k2]) rfl ⟨⟨2, 0, y⟩, rfl, HD.out, ?_, ?_⟩
    · have q : Below w.heap.size w2 (((w2.setCell ⟨w.heap.size, 0, none⟩ (.int .i64 2)).setCell ⟨w.heap.size, 1, none⟩ (.int .i64 0)).setCell ⟨w.heap.size, 2, none⟩ (.string y)) := (((Below.refl w.heap.size w2).setCell (p := ⟨w.heap.size, 0, none⟩) (Nat.le_refl w.heap.size) _).setCell (p := ⟨w.heap.size, 1, none⟩) (Nat.le_refl w.heap.size) _).setCell (p := ⟨w.heap.size, 2, none⟩) (Nat.le_refl w.heap.size) _
      exact C2.out.below q hlt (fun hz k hk => HV.out hz k hk)
    · have q : Below w.heap.size w2 (((w2.setCell ⟨w.heap.size, 0, none⟩ (.int .i64 2)).setCell ⟨w.heap.size, 1, none⟩ (.int .i64 0)).setCell ⟨w.heap.size, 2, none⟩ (.string y)) := (((Below.refl w.heap.size w2).setCell (p := ⟨w.heap.size, 0, none⟩) (Nat.le_refl w.heap.size) _).setCell (p := ⟨w.heap.size, 1, none⟩) (Nat.le_refl w.heap.size) _).setCell (p := ⟨w.heap.size, 2, none⟩) (Nat.le_refl w.heap.size) _
      exact grownBy_below G2.out q (Nat.le_refl _)
  by_cases h2 : x = 2
  · subst h2
    go_wp2_with fail
    refine (l1Str_any cb w1.heap.size 4 v zs [⟨#[]⟩, ⟨#[97, 32, 98]⟩, ⟨#[47]⟩, ⟨#[35]⟩] _ (C1.out.grow (A1 _)) rfl (by omega) (by omega) (heap_alloc_new w1 _) (by omega)).mono ?_
    rintro e w2 ⟨y, rfl, hy, hC2, hg2⟩
    have hd : drB ⟨3, 0, y⟩ = true := drB_in dr_texts hy
    have hblk : w2.heap[w.heap.size]? = w1.heap[w.heap.size]? := (hg2.block w.heap.size (by simp; omega) (fun e => by have := Option.some.inj e; omega)).trans ((A1 _).block w.heap.size (by omega))
    have hc2 : ∀ o, w2.cell? ⟨w.heap.size, o, none⟩ = w1.cell? ⟨w.heap.size, o, none⟩ := fun o => World.cell?_of_block hblk
    have hf2 : ∀ o, w2.frozen? ⟨w.heap.size, o, none⟩ = false := fun o => by rw [← hf1 o]; exact World.frozen?_of_block hblk
    have k0 : w2.cell? ⟨w.heap.size, 0, none⟩ = some (.int .i64 0) := by rw [hc2, hc1]; go_simp
    have k1 : w2.cell? ⟨w.heap.size, 1, none⟩ = some (.int .i64 0) := by rw [hc2, hc1]; go_simp
    have k2 : w2.cell? ⟨w.heap.size, 2, none⟩ = some (.string ⟨#[]⟩) := by rw [hc2, hc1]; go_simp
    have f0 := hf2 0
    have f1 := hf2 1
    have f2 := hf2 2
    have C2 := Hid.mk hC2
    have G2 := Hid.mk (grownBy_trans (gyNew G1.out _) hg2)
    have HD := Hid.mk hd
    clear hC2 hg2 hy hd hblk hc2 hf2 hc1 hf1 C1 G1 A1
    go_wp2
    refine bodyPost_ret (v := tkV ⟨3, 0, y⟩) (by simp [results, Tryd.results43, go_sem, k0, k1, k2]) rfl ⟨⟨3, 0, y⟩, rfl, HD.out, ?_, ?_⟩
    · have q : Below w.heap.size w2 (((w2.setCell ⟨w.heap.size, 0, none⟩ (.int .i64 3)).setCell ⟨w.heap.size, 1, none⟩ (.int .i64 0)).setCell ⟨w.heap.size, 2, none⟩ (.string y)) := (((Below.refl w.heap.size w2).setCell (p := ⟨w.heap.size, 0, none⟩) (Nat.le_refl w.heap.size) _).setCell (p := ⟨w.heap.size, 1, none⟩) (Nat.le_refl w.heap.size) _).setCell (p := ⟨w.heap.size, 2, none⟩) (Nat.le_refl w.heap.size) _
      exact C2.out.below q hlt (fun hz k hk => HV.out hz k hk)
    · have q : Below w.heap.size w2 (((w2.setCell ⟨w.heap.size, 0, none⟩ (.int .i64 3)).setCell ⟨w.heap.size, 1, none⟩ (.int .i64 0)).setCell ⟨w.heap.size, 2, none⟩ (.string y)) := (((Below.refl w.heap.size w2).setCell (p := ⟨w.heap.size, 0, none⟩) (Nat.le_refl w.heap.size) _).setCell (p := ⟨w.heap.size, 1, none⟩) (Nat.le_refl w.heap.size) _).setCell (p := ⟨w.heap.size, 2, none⟩) (Nat.le_refl w.heap.size) _
      exact grownBy_below G2.out q (Nat.le_refl _)
  · have e0 : (x == 0) = false := beq_false_of_ne h0
    have e1 : (x == 1) = false := beq_false_of_ne h1
    have e2 : (x == 2) = false := beq_false_of_ne h2
    clear h0 h1 h2
    go_wp2_with fail
    refine (l1Str_any cb w1.heap.size 13 v zs [⟨#[123]⟩, ⟨#[125]⟩, ⟨#[40]⟩, ⟨#[41]⟩, ⟨#[60, 61]⟩, ⟨#[61, 61]⟩, ⟨#[61]⟩, ⟨#[60]⟩, ⟨#[38, 38]⟩, ⟨#[46]⟩, ⟨#[36]⟩, ⟨#[59]⟩, ⟨#[33]⟩] _ (C1.out.grow (A1 _)) rfl (by omega) (by omega) (heap_alloc_new w1 _) (by omega)).mono ?_
    rintro e w2 ⟨y, rfl, hy, hC2, hg2⟩
    have hd : drB ⟨5, 0, y⟩ = true := drB_in dr_marks hy
    have hblk : w2.heap[w.heap.size]? = w1.heap[w.heap.size]? := (hg2.block w.heap.size (by simp; omega) (fun e => by have := Option.some.inj e; omega)).trans ((A1 _).block w.heap.size (by omega))
    have hc2 : ∀ o, w2.cell? ⟨w.heap.size, o, none⟩ = w1.cell? ⟨w.heap.size, o, none⟩ := fun o => World.cell?_of_block hblk
    have hf2 : ∀ o, w2.frozen? ⟨w.heap.size, o, none⟩ = false := fun o => by rw [← hf1 o]; exact World.frozen?_of_block hblk
    have k0 : w2.cell? ⟨w.heap.size, 0, none⟩ = some (.int .i64 0) := by rw [hc2, hc1]; go_simp
    have k1 : w2.cell? ⟨w.heap.size, 1, none⟩ = some (.int .i64 0) := by rw [hc2, hc1]; go_simp
    have k2 : w2.cell? ⟨w.heap.size, 2, none⟩ = some (.string ⟨#[]⟩) := by rw [hc2, hc1]; go_simp
    have f0 := hf2 0
    have f1 := hf2 1
    have f2 := hf2 2
    have C2 := Hid.mk hC2
    have G2 := Hid.mk (grownBy_trans (gyNew G1.out _) hg2)
    have HD := Hid.mk hd
    clear hC2 hg2 hy hd hblk hc2 hf2 hc1 hf1 C1 G1 A1
    go_wp2
    refine bodyPost_ret (v := tkV ⟨5, 0, y⟩) (by simp [results, Tryd.results43, go_sem, k0, k1, k2]) rfl ⟨⟨5, 0, y⟩, rfl, HD.out, ?_, ?_⟩
    · have q : Below w.heap.size w2 (((w2.setCell ⟨w.heap.size, 0, none⟩ (.int .i64 5)).setCell ⟨w.heap.size, 1, none⟩ (.int .i64 0)).setCell ⟨w.heap.size, 2, none⟩ (.string y)) := (((Below.refl w.heap.size w2).setCell (p := ⟨w.heap.size, 0, none⟩) (Nat.le_refl w.heap.size) _).setCell (p := ⟨w.heap.size, 1, none⟩) (Nat.le_refl w.heap.size) _).setCell (p := ⟨w.heap.size, 2, none⟩) (Nat.le_refl w.heap.size) _
      exact C2.out.below q hlt (fun hz k hk => HV.out hz k hk)
    · have q : Below w.heap.size w2 (((w2.setCell ⟨w.heap.size, 0, none⟩ (.int .i64 5)).setCell ⟨w.heap.size, 1, none⟩ (.int .i64 0)).setCell ⟨w.heap.size, 2, none⟩ (.string y)) := (((Below.refl w.heap.size w2).setCell (p := ⟨w.heap.size, 0, none⟩) (Nat.le_refl w.heap.size) _).setCell (p := ⟨w.heap.size, 1, none⟩) (Nat.le_refl w.heap.size) _).setCell (p := ⟨w.heap.size, 2, none⟩) (Nat.le_refl w.heap.size) _
      exact grownBy_below G2.out q (Nat.le_refl _)

set_option maxHeartbeats 4000000 in
theorem l7Tokens_any (cb : Nat) (v : Value) (zs : List Int) (m : Nat) (w : World) (h : Cur w cb v zs) (hm : m ≤ 20) :
    Calls Tryd.prog 21 #[.pointer (some ⟨cb, 0, none⟩), .int .i64 (m : Int)] w fun e w' => ∃ (u : Value) (L : List Tk), e = .returned u ∧ OwnK w' w.heap.size u L ∧ FitT L ∧ L.length ≤ 2 * m ∧ Cur w' cb v zs ∧ w.grownBy w' (some cb) := by
  have A0 : ∀ o, Below w.heap.size w (w.alloc o) := fun o => (Below.refl _ _).alloc (Nat.le_refl _) _
  have hlt := h.lt
  have HV := Hid.mk (fun hz k hk => h.1.lt hz k hk)
  have C0 := Hid.mk (h.grow (A0 (.cells #[] 31)))
  have G0 := Hid.mk (World.grownBy_alloc w (.cells #[] 31) (some cb))
  have O0 : Hid (OwnK (w.alloc (.cells #[] 31)) w.heap.size (.slice (some ⟨w.heap.size, 0, none⟩) 0 0) []) := World.ownsRow_lit w #[] 0 (Nat.le_refl _) (by decide) rfl
  clear h A0
  go_enter Tryd.func21, Tryd.ntmps21
  go_wp2_with fail
  refine (l1Below_any cb v zs m _ C0.out).mono ?_
  rintro e w1 ⟨x, rfl, hx0, hxm, hxn, hC1, hg1⟩
  have hxm' : x ≤ (m : Int) := by
    rcases Nat.eq_zero_or_pos m with h | h
    · have := hxn (by omega); omega
    · have := hxm (by omega); omega
  have C1 := Hid.mk hC1
  have G1 := Hid.mk (grownBy_trans G0.out hg1)
  have O1 := Hid.mk (O0.out.grown hg1 hlt)
  clear hC1 hg1 hxm hxn C0 G0 O0
  go_wp2
  go_loopw [5, 6] (fun o i wr => ∃ (k : Nat) (L : List Tk) (oa : Option Addr) (oc : Nat), o = .slice oa L.length oc ∧ i = .int .i64 (k : Int) ∧ L.length + 2 * k ≤ 2 * m ∧ L.length ≤ oc ∧ Hid (OwnK wr w.heap.size (.slice oa L.length oc) L) ∧ Hid (FitT L) ∧ Hid (Cur wr cb v zs) ∧ Hid (w.grownBy wr (some cb))) (fun _ i _ => (intOf i).toNat)
  case atStart => exact ⟨x.toNat, [], _, _, rfl, by rw [Int.toNat_of_nonneg hx0], by simp; omega, Nat.zero_le _, O1, FitT.nil, C1, G1⟩
  case round =>
    obtain ⟨k, L, oa, oc, rfl, rfl, hLk, hLc, HO, HF, HC, HG⟩ := hrel
    clear C1 G1 O1
    by_cases hk : (0 : Int) < (k : Int)
    · have hL40 : L.length ≤ 40 := by omega
      have hge := HG.out.size
      go_wp2_with fail
      refine (l1Once_any cb v zs 6 _ HC.out).mono ?_
      rintro e w2 ⟨b, rfl, hC2, hg2⟩
      have C2 := Hid.mk hC2
      have G2 := Hid.mk (grownBy_trans HG.out hg2)
      have O2 := Hid.mk (HO.out.grown hg2 hlt)
      have hs2 := hg2.size
      clear hC2 hg2 HC HG HO
      cases b with
      | true =>
        have A2 : ∀ o, Below w2.heap.size w2 (w2.alloc o) := fun o => (Below.refl _ _).alloc (Nat.le_refl _) _
        have hcl := C2.out.lt
        go_wp2_with fail
        refine (l1Str_any cb w2.heap.size 3 v zs [⟨#[97, 42, 98]⟩, ⟨#[120]⟩, ⟨#[94, 91, 97, 98, 93, 43, 36]⟩] _ (C2.out.grow (A2 _)) rfl (by omega) (by omega) (heap_alloc_new w2 _) (by omega)).mono ?_
        rintro e w3 ⟨y, rfl, hy, hC3, hg3⟩
        have HR := Hid.mk (List.all_eq_true.1 rx_all y hy)
        have C3 := Hid.mk hC3
        have G3 := Hid.mk (grownBy_trans (gyNew G2.out _) hg3)
        have O3 := Hid.mk ((O2.out.grow (A2 _)).grown hg3 hlt)
        have hs3 : w2.heap.size + 1 ≤ w3.heap.size := by have := hg3.size; simpa using this
        clear hC3 hg3 hy C2 G2 O2 A2 hcl
        have A3 : Below w3.heap.size w3 (w3.alloc (.cells #[.int .i64 5, .int .i64 0, .string ⟨#[126]⟩, .int .i64 4, .int .i64 0, .string y] 31)) := (Below.refl _ _).alloc (Nat.le_refl _) _
        have O4 := Hid.mk (O3.out.grow A3)
        have HN := Hid.mk (heap_alloc_new w3 (.cells #[.int .i64 5, .int .i64 0, .string ⟨#[126]⟩, .int .i64 4, .int .i64 0, .string y] 31))
        have hA3 : w.heap.size ≤ (w3.alloc (.cells #[.int .i64 5, .int .i64 0, .string ⟨#[126]⟩, .int .i64 4, .int .i64 0, .string y] 31)).heap.size := by simp; omega
        go_wp2_with (at_builtin; refine wpList_append_k2 (w0 := w3.alloc (.cells #[.int .i64 5, .int .i64 0, .string ⟨#[126]⟩, .int .i64 4, .int .i64 0, .string y] 31)) rfl _ _ rfl w.heap.size _ L ⟨5, 0, ⟨#[126]⟩⟩ ⟨4, 0, y⟩ rfl O4.out _ rfl HN.out (Below.refl _ _) hA3 (by omega) ?_)
        intro v5 w5 hown5 hbel5 hq5 hn5
        obtain ⟨va, vc, hv5, hvc⟩ := hown5.lenV
        subst hv5
        have HF5 := Hid.mk (HF.out.two HR.out)
        have C5 := Hid.mk ((C3.out.grow A3).below hbel5 hlt (fun hz k hk => HV.out hz k hk))
        have G5 := Hid.mk (grownBy_below (gyNew G3.out _) hbel5 (Nat.le_refl _))
        have hll : (L ++ [(⟨5, 0, ⟨#[126]⟩⟩ : Tk), ⟨4, 0, y⟩]).length = L.length + 2 := by simp
        obtain ⟨L', hL'⟩ : ∃ L', L ++ [(⟨5, 0, ⟨#[126]⟩⟩ : Tk), ⟨4, 0, y⟩] = L' := ⟨_, rfl⟩
        rw [hL'] at hown5 HF5 hll hvc ⊢
        have O5 := Hid.mk hown5
        clear hown5 hbel5 hq5 hn5 hL' C3 G3 O3 A3 O4 HN hA3 HF HR
        go_wp2
        go_roundw
        case rel => exact ⟨k - 1, L', va, vc, rfl, by go_num, by omega, hvc, O5, HF5, C5, G5⟩
        case measure => simp [intOf]; omega
      | false =>
        go_wp2_with fail
        refine (l7Token_any cb v zs _ C2.out).mono ?_
        rintro e w3 ⟨⟨tk, tn, ts⟩, rfl, ht, hC3, hg3⟩
        have HR := Hid.mk ht
        have C3 := Hid.mk hC3
        have G3 := Hid.mk (grownBy_trans G2.out hg3)
        have O3 := Hid.mk (O2.out.grown hg3 hlt)
        have hs3 := hg3.size
        clear hC3 hg3 ht C2 G2 O2
        have A3 : Below w3.heap.size w3 (w3.alloc (.cells #[.int .i64 tk, .int .i64 tn, .string ts] 31)) := (Below.refl _ _).alloc (Nat.le_refl _) _
        have O4 := Hid.mk (O3.out.grow A3)
        have HN := Hid.mk (heap_alloc_new w3 (.cells #[.int .i64 tk, .int .i64 tn, .string ts] 31))
        have hA3 : w.heap.size ≤ (w3.alloc (.cells #[.int .i64 tk, .int .i64 tn, .string ts] 31)).heap.size := by simp; omega
        go_wp2_with (at_builtin; refine wpList_append_k (w0 := w3.alloc (.cells #[.int .i64 tk, .int .i64 tn, .string ts] 31)) rfl _ _ rfl w.heap.size _ L ⟨tk, tn, ts⟩ rfl O4.out _ rfl HN.out (Below.refl _ _) hA3 (by omega) ?_)
        intro v5 w5 hown5 hbel5 hq5 hn5
        obtain ⟨va, vc, hv5, hvc⟩ := hown5.lenV
        subst hv5
        have HF5 := Hid.mk (HF.out.one HR.out)
        have C5 := Hid.mk ((C3.out.grow A3).below hbel5 hlt (fun hz k hk => HV.out hz k hk))
        have G5 := Hid.mk (grownBy_below (gyNew G3.out _) hbel5 (Nat.le_refl _))
        have hll : (L ++ [(⟨tk, tn, ts⟩ : Tk)]).length = L.length + 1 := by simp
        obtain ⟨L', hL'⟩ : ∃ L', L ++ [(⟨tk, tn, ts⟩ : Tk)] = L' := ⟨_, rfl⟩
        rw [hL'] at hown5 HF5 hll hvc ⊢
        have O5 := Hid.mk hown5
        clear hown5 hbel5 hq5 hn5 hL' C3 G3 O3 A3 O4 HN hA3 HF HR
        go_wp2
        go_roundw
        case rel => exact ⟨k - 1, L', va, vc, rfl, by go_num, by omega, hvc, O5, HF5, C5, G5⟩
        case measure => simp [intOf]; omega
    · go_wp2
      go_ret
      exact ⟨_, rfl, L, HO.out, HF.out, by omega, HC.out, HG.out⟩
end Go.Proofs.YtapcbblfcmdbnaaDoor

namespace Go.Proofs.YtapcbblfcmdbnaaDoor
open Go.RowKit

/-- As Q; by a goto to the label l: J l. -/
def Jmp (J : Nat → Act → World → Prop) (Q : Exit → Act → World → Prop) : Exit → Act → World → Prop
  | .goto l, a, w => J l a w
  | .normal, a, w => Q .normal a w
  | .exit i, a, w => Q (.exit i) a w
  | .ret, a, w => Q .ret a w
  | .panic c, a, w => Q (.panic c) a w
  | .outgrown, a, w => Q .outgrown a w

section
variable {P : Program} {a : Act} {w : World} {Q : Exit → Act → World → Prop}

theorem wp_scope_labels {c : Code} (R : Nat → Code) (J : Nat → Act → World → Prop) (μ : Nat → Act → World → Nat) (hf : ∀ l a w, J l a w → findLabel c l = some (R l))
    (first : c.wp P (Jmp J Q) a w)
    (pass : ∀ l a w, J l a w → (R l).wp P (Jmp (fun l' a' w' => J l' a' w' ∧ μ l' a' w' < μ l a w) Q) a w) : (Code.scope c).wp P Q a w := by
  intro b k cs
  have hg : ∀ l a w, J l a w → gotoIn l (.inScope c :: k) = some (.code (R l) :: .inScope c :: k) := fun l a w h => by simp [gotoIn, hf l a w h]
  have key : ∀ n l a w, μ l a w = n → J l a w → ∃ e a' w', Q e a' w' ∧ Arrives P (lone (b.at a (.code (R l) :: .inScope c :: k)) cs w) b k cs e a' w' := by
    intro n
    induction n using Nat.strongRecOn with
    | _ n ih =>
      intro l a w hn hJ
      obtain ⟨e, a₁, w₁, hq, harr⟩ := pass l a w hJ b (.inScope c :: k) cs
      cases e with
      | normal => exact ⟨.normal, a₁, w₁, hq, Steps.trans harr (.one step_inScope)⟩
      | exit id => exact ⟨.exit id, a₁, w₁, hq, fun k' hk => harr k' (by simp [exitTo, hk])⟩
      | goto l' =>
        obtain ⟨hJ', hlt⟩ := hq
        obtain ⟨e₂, a₂, w₂, hq₂, harr₂⟩ := ih _ (by omega) l' a₁ w₁ rfl hJ'
        exact ⟨e₂, a₂, w₂, hq₂, .of_steps (harr _ (hg l' a₁ w₁ hJ')) harr₂⟩
      | ret => exact ⟨_, a₁, w₁, hq, harr⟩
      | panic ch => exact ⟨_, a₁, w₁, hq, harr⟩
      | outgrown => exact ⟨_, a₁, w₁, hq, harr⟩
  obtain ⟨e, a₁, w₁, hq, harr⟩ := first b (.inScope c :: k) cs
  cases e with
  | normal => exact ⟨.normal, a₁, w₁, hq, .head step_scope (Steps.trans harr (.one step_inScope))⟩
  | exit id => exact ⟨.exit id, a₁, w₁, hq, fun k' hk => .head step_scope (harr k' (by simp [exitTo, hk]))⟩
  | goto l' =>
    obtain ⟨e₂, a₂, w₂, hq₂, harr₂⟩ := key _ l' a₁ w₁ rfl hq
    exact ⟨e₂, a₂, w₂, hq₂, .of_steps (.head step_scope (harr _ (hg l' a₁ w₁ hq))) harr₂⟩
  | ret => exact ⟨_, a₁, w₁, hq, .of_steps (.one step_scope) harr⟩
  | panic ch => exact ⟨_, a₁, w₁, hq, .of_steps (.one step_scope) harr⟩
  | outgrown => exact ⟨_, a₁, w₁, hq, .of_steps (.one step_scope) harr⟩
theorem wp_scope_two {c r0 r1 : Code} (J : Nat → Act → World → Prop) (μ : Nat → Act → World → Nat) (hJ : ∀ l a w, J l a w → l = 0 ∨ l = 1) (h0 : findLabel c 0 = some r0) (h1 : findLabel c 1 = some r1)
    (first : c.wp P (Jmp J Q) a w)
    (p0 : ∀ a w, J 0 a w → r0.wp P (Jmp (fun l' a' w' => J l' a' w' ∧ μ l' a' w' < μ 0 a w) Q) a w)
    (p1 : ∀ a w, J 1 a w → r1.wp P (Jmp (fun l' a' w' => J l' a' w' ∧ μ l' a' w' < μ 1 a w) Q) a w) : (Code.scope c).wp P Q a w := by
  refine wp_scope_labels (fun l => if l = 0 then r0 else r1) J μ ?_ first ?_
  · intro l a w h
    rcases hJ l a w h with rfl | rfl
    · exact h0
    · exact h1
  · intro l a w h
    rcases hJ l a w h with rfl | rfl
    · exact p0 a w h
    · exact p1 a w h
end
end Go.Proofs.YtapcbblfcmdbnaaDoor

namespace Go.Proofs.YtapcbblfcmdbnaaDoor
open Go.RowKit

section
variable {P : Program} {a : Act} {w : World} {Q : Exit → Act → World → Prop}

theorem wp_scope_six {c r0 r1 r2 r3 r4 r5 : Code} (J : Nat → Act → World → Prop) (μ : Nat → Act → World → Nat) (hJ : ∀ l a w, J l a w → l < 6)
    (h0 : findLabel c 0 = some r0) (h1 : findLabel c 1 = some r1) (h2 : findLabel c 2 = some r2) (h3 : findLabel c 3 = some r3) (h4 : findLabel c 4 = some r4) (h5 : findLabel c 5 = some r5)
    (first : c.wp P (Jmp J Q) a w)
    (p0 : ∀ a w, J 0 a w → r0.wp P (Jmp (fun l' a' w' => J l' a' w' ∧ μ l' a' w' < μ 0 a w) Q) a w)
    (p1 : ∀ a w, J 1 a w → r1.wp P (Jmp (fun l' a' w' => J l' a' w' ∧ μ l' a' w' < μ 1 a w) Q) a w)
    (p2 : ∀ a w, J 2 a w → r2.wp P (Jmp (fun l' a' w' => J l' a' w' ∧ μ l' a' w' < μ 2 a w) Q) a w)
    (p3 : ∀ a w, J 3 a w → r3.wp P (Jmp (fun l' a' w' => J l' a' w' ∧ μ l' a' w' < μ 3 a w) Q) a w)
    (p4 : ∀ a w, J 4 a w → r4.wp P (Jmp (fun l' a' w' => J l' a' w' ∧ μ l' a' w' < μ 4 a w) Q) a w)
    (p5 : ∀ a w, J 5 a w → r5.wp P (Jmp (fun l' a' w' => J l' a' w' ∧ μ l' a' w' < μ 5 a w) Q) a w) : (Code.scope c).wp P Q a w := by
  refine wp_scope_labels (fun l => match l with | 0 => r0 | 1 => r1 | 2 => r2 | 3 => r3 | 4 => r4 | _ => r5) J μ ?_ first ?_
  · intro l a w h
    have hl := hJ l a w h
    match l, hl with
    | 0, _ => exact h0
    | 1, _ => exact h1
    | 2, _ => exact h2
    | 3, _ => exact h3
    | 4, _ => exact h4
    | 5, _ => exact h5
  · intro l a w h
    have hl := hJ l a w h
    match l, hl with
    | 0, _ => exact p0 a w h
    | 1, _ => exact p1 a w h
    | 2, _ => exact p2 a w h
    | 3, _ => exact p3 a w h
    | 4, _ => exact p4 a w h
    | 5, _ => exact p5 a w h
end
end Go.Proofs.YtapcbblfcmdbnaaDoor

namespace Go.Proofs.YtapcbblfcmdbnaaDoor
open Go.RowKit
set_option maxRecDepth 8000

/-- How much is left: at the first label, at the second one. -/
def lpM (s : ByteArray) (l : Nat) (a : Act) : Nat := 4 * (s.size - (intOf (a.tmps.getD 1 undef)).toNat) + (if l = 0 then 2 else if (intOf (a.tmps.getD 1 undef)).toNat < s.size ∧ bt s (intOf (a.tmps.getD 1 undef)).toNat ≠ 10 then 0 else 3)
def lpN (s : ByteArray) (l k : Nat) : Nat := 4 * (s.size - k) + (if l = 0 then 2 else if k < s.size ∧ bt s k ≠ 10 then 0 else 3)
theorem lpN_0 (s : ByteArray) (k : Nat) : lpN s 0 k = 4 * (s.size - k) + 2 := rfl
theorem lpN_1 {s : ByteArray} {k : Nat} (h : k < s.size ∧ bt s k ≠ 10) : lpN s 1 k = 4 * (s.size - k) := by unfold lpN; rw [if_neg (by omega), if_pos h]; rfl
theorem lpN_2 {s : ByteArray} {k : Nat} (h : ¬ (k < s.size ∧ bt s k ≠ 10)) : lpN s 1 k = 4 * (s.size - k) + 3 := by unfold lpN; rw [if_neg (by omega), if_neg h]
theorem lpN_3 (s : ByteArray) (k : Nat) : lpN s 1 k ≤ 4 * (s.size - k) + 3 := by
  by_cases h : k < s.size ∧ bt s k ≠ 10
  · rw [lpN_1 h]; omega
  · rw [lpN_2 h]; omega

set_option maxHeartbeats 4000000 in
theorem passOver_any (s : ByteArray) (p : Nat) (w : World) (hs : s.size ≤ maxLen) (hp : p ≤ s.size) :
    Calls Tryd.prog 22 #[.string s, .int .i64 (p : Int)] w fun e w' => e = .returned (.int .i64 ((pas s p : Nat) : Int)) ∧ w' = w := by
  unfold maxLen at hs
  obtain ⟨R, hR⟩ : ∃ R, pas s p = R := ⟨_, rfl⟩
  rw [hR]
  go_enter Tryd.func22, Tryd.ntmps22
  go_wp2
  refine wp_scope_two (fun l a' w' => w' = w ∧ (l = 0 ∨ l = 1) ∧ ∃ (k : Nat) (u2 u3 u4 u5 u6 u7 u8 u9 u10 u11 u12 u13 u14 u15 u16 u17 u18 u19 u20 u21 u22 u23 u24 u25 u26 u27 u28 u29 u30 u31 u32 u33 u34 u35 u36 u37 u38 u39 : Value), a' = ({ tmps := #[.string s, .int .i64 (k : Int), u2, u3, u4, u5, u6, u7, u8, u9, u10, u11, u12, u13, u14, u15, u16, u17, u18, u19, u20, u21, u22, u23, u24, u25, u26, u27, u28, u29, u30, u31, u32, u33, u34, u35, u36, u37, u38, u39], defers := [] } : Act) ∧ k ≤ s.size ∧ (l = 0 → pas s k = R) ∧ (l = 1 → pas s (tw (neB 10) s k) = R)) (fun l a' _ => lpM s l a') (fun l a w h => h.2.1) rfl rfl ?_ ?_ ?_
  · have HK : Hid (pas s p = R) := hR
    clear hR
    go_wp2
    go_step3
    by_cases hlt : p < s.size
    · have hbt := byte_txt s p hlt
      obtain ⟨c, hcc⟩ : ∃ c, bt s p = c := ⟨_, rfl⟩
      have hbt' : ((s[p].toNat : Nat) : Int) = c := hbt.trans hcc
      have hki : (p : Int) < (s.size : Int) := by omega
      have HBL := Hid.mk (isBlank_any c)
      clear hbt
      cases hb : blB c with
      | true =>
        have HN : Hid (pas s (p + 1) = R) := (pas_blank hlt (by rw [hcc]; exact hb)).symm.trans HK.out
        rw [hb] at HBL
        go_wp2_with fail
        refine (HBL.out _).mono ?_
        rintro e w' ⟨rfl, rfl⟩
        go_wp2
        go_step3
        rw [show (p : Int) + 1 = ((p + 1 : Nat) : Int) by omega]
        exact ⟨rfl, .inl rfl, p + 1, _, _, _, _, _, _, _, _, _, _, _, _, _, _, _, _, _, _, _, _, _, _, _, _, _, _, _, _, _, _, _, _, _, _, _, _, _, _, rfl, by omega, fun _ => HN.out, fun h => by omega⟩
      | false =>
        rw [hb] at HBL
        by_cases h35 : c = 35
        · have HN : Hid (pas s (tw (neB 10) s p) = R) := (pas_mark hlt (by rw [hcc]; exact h35)).symm.trans HK.out
          subst h35
          go_wp2_with fail
          refine (HBL.out _).mono ?_
          rintro e w' ⟨rfl, rfl⟩
          go_wp2
          go_step3
          exact ⟨rfl, .inr rfl, p, _, _, _, _, _, _, _, _, _, _, _, _, _, _, _, _, _, _, _, _, _, _, _, _, _, _, _, _, _, _, _, _, _, _, _, _, _, _, rfl, by omega, fun h => by omega, fun _ => HN.out⟩
        · have HN : Hid (p = R) := (pas_stop hlt (by rw [hcc]; exact hb) (by rw [hcc]; exact h35)).symm.trans HK.out
          have e5 : (c == 35) = false := beq_false_of_ne h35
          clear h35
          go_wp2_with fail
          refine (HBL.out _).mono ?_
          rintro e w' ⟨rfl, rfl⟩
          go_wp2
          simp only [Jmp]
          go_ret
          exact ⟨by rw [HN.out]; rfl, rfl⟩
    · have HN : Hid (p = R) := (pas_end hlt).symm.trans HK.out
      have hki : ¬ (p : Int) < (s.size : Int) := by omega
      go_wp2
      simp only [Jmp]
      go_ret
      exact ⟨by rw [HN.out]; rfl, rfl⟩
  · rintro a' w' ⟨rfl, -, k, u2, u3, u4, u5, u6, u7, u8, u9, u10, u11, u12, u13, u14, u15, u16, u17, u18, u19, u20, u21, u22, u23, u24, u25, u26, u27, u28, u29, u30, u31, u32, u33, u34, u35, u36, u37, u38, u39, rfl, hk, h0, -⟩
    have HK : Hid (pas s k = R) := h0 rfl
    clear h0 hR hp
    by_cases hlt : k < s.size
    · have hbt := byte_txt s k hlt
      obtain ⟨c, hcc⟩ : ∃ c, bt s k = c := ⟨_, rfl⟩
      have hbt' : ((s[k].toNat : Nat) : Int) = c := hbt.trans hcc
      have hki : (k : Int) < (s.size : Int) := by omega
      have HBL := Hid.mk (isBlank_any c)
      clear hbt
      cases hb : blB c with
      | true =>
        have HN : Hid (pas s (k + 1) = R) := (pas_blank hlt (by rw [hcc]; exact hb)).symm.trans HK.out
        rw [hb] at HBL
        go_wp2_with fail
        refine (HBL.out _).mono ?_
        rintro e w' ⟨rfl, rfl⟩
        go_wp2
        go_step3
        rw [show (k : Int) + 1 = ((k + 1 : Nat) : Int) by omega]
        refine ⟨⟨rfl, .inl rfl, k + 1, _, _, _, _, _, _, _, _, _, _, _, _, _, _, _, _, _, _, _, _, _, _, _, _, _, _, _, _, _, _, _, _, _, _, _, _, _, _, rfl, by omega, fun _ => HN.out, fun h => by omega⟩, ?_⟩
        show lpN s 0 (k + 1) < lpN s 0 k
        rw [lpN_0, lpN_0]
        omega
      | false =>
        rw [hb] at HBL
        by_cases h35 : c = 35
        · have HN : Hid (pas s (tw (neB 10) s k) = R) := (pas_mark hlt (by rw [hcc]; exact h35)).symm.trans HK.out
          subst h35
          go_wp2_with fail
          refine (HBL.out _).mono ?_
          rintro e w' ⟨rfl, rfl⟩
          go_wp2
          go_step3
          refine ⟨⟨rfl, .inr rfl, k, _, _, _, _, _, _, _, _, _, _, _, _, _, _, _, _, _, _, _, _, _, _, _, _, _, _, _, _, _, _, _, _, _, _, _, _, _, _, rfl, by omega, fun h => by omega, fun _ => HN.out⟩, ?_⟩
          show lpN s 1 k < lpN s 0 k
          rw [lpN_0, lpN_1 ⟨hlt, by rw [hcc]; decide⟩]
          omega
        · have HN : Hid (k = R) := (pas_stop hlt (by rw [hcc]; exact hb) (by rw [hcc]; exact h35)).symm.trans HK.out
          have e5 : (c == 35) = false := beq_false_of_ne h35
          clear h35
          go_wp2_with fail
          refine (HBL.out _).mono ?_
          rintro e w' ⟨rfl, rfl⟩
          go_wp2
          simp only [Jmp]
          go_ret
          exact ⟨by rw [HN.out]; rfl, rfl⟩
    · have HN : Hid (k = R) := (pas_end hlt).symm.trans HK.out
      have hki : ¬ (k : Int) < (s.size : Int) := by omega
      go_wp2
      simp only [Jmp]
      go_ret
      exact ⟨by rw [HN.out]; rfl, rfl⟩
  · rintro a' w' ⟨rfl, -, k, u2, u3, u4, u5, u6, u7, u8, u9, u10, u11, u12, u13, u14, u15, u16, u17, u18, u19, u20, u21, u22, u23, u24, u25, u26, u27, u28, u29, u30, u31, u32, u33, u34, u35, u36, u37, u38, u39, rfl, hk, -, h1⟩
    have HK : Hid (pas s (tw (neB 10) s k) = R) := h1 rfl
    clear h1 hR hp
    by_cases hlt : k < s.size
    · have hbt := byte_txt s k hlt
      obtain ⟨c, hcc⟩ : ∃ c, bt s k = c := ⟨_, rfl⟩
      have hbt' : ((s[k].toNat : Nat) : Int) = c := hbt.trans hcc
      have hki : (k : Int) < (s.size : Int) := by omega
      clear hbt
      by_cases h10 : c = 10
      · have HN : Hid (pas s k = R) := by
          have h := HK.out
          rw [tw_stop hlt (by rw [hcc, h10]; decide)] at h
          exact h
        subst h10
        go_wp2
        go_step3
        refine ⟨⟨rfl, .inl rfl, k, _, _, _, _, _, _, _, _, _, _, _, _, _, _, _, _, _, _, _, _, _, _, _, _, _, _, _, _, _, _, _, _, _, _, _, _, _, _, rfl, by omega, fun _ => HN.out, fun h => by omega⟩, ?_⟩
        show lpN s 0 k < lpN s 1 k
        rw [lpN_0, lpN_2 (by rintro ⟨_, h⟩; exact h hcc)]
        omega
      · have HN : Hid (pas s (tw (neB 10) s (k + 1)) = R) := by
          have h := HK.out
          rw [tw_step hlt (by rw [hcc]; simpa [neB] using h10)] at h
          exact h
        have e10 : (c != 10) = true := by simpa using h10
        go_wp2
        go_step3
        rw [show (k : Int) + 1 = ((k + 1 : Nat) : Int) by omega]
        refine ⟨⟨rfl, .inr rfl, k + 1, _, _, _, _, _, _, _, _, _, _, _, _, _, _, _, _, _, _, _, _, _, _, _, _, _, _, _, _, _, _, _, _, _, _, _, _, _, _, rfl, by omega, fun h => by omega, fun _ => HN.out⟩, ?_⟩
        show lpN s 1 (k + 1) < lpN s 1 k
        rw [lpN_1 ⟨hlt, by rw [hcc]; exact h10⟩]
        have := lpN_3 s (k + 1)
        omega
    · have HN : Hid (pas s k = R) := by
        have h := HK.out
        rw [tw_end (by omega)] at h
        exact h
      have hki : ¬ (k : Int) < (s.size : Int) := by omega
      go_wp2
      go_step3
      refine ⟨⟨rfl, .inl rfl, k, _, _, _, _, _, _, _, _, _, _, _, _, _, _, _, _, _, _, _, _, _, _, _, _, _, _, _, _, _, _, _, _, _, _, _, _, _, _, rfl, by omega, fun _ => HN.out, fun h => by omega⟩, ?_⟩
      show lpN s 0 k < lpN s 1 k
      rw [lpN_0, lpN_2 (by rintro ⟨h, _⟩; exact hlt h)]
      omega
end Go.Proofs.YtapcbblfcmdbnaaDoor
