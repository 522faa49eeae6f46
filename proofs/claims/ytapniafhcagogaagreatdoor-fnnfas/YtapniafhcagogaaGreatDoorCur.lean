/- The cursor of a draw: a struct of the drawn bytes, a place in them and a number that is mixed on. Whatever it draws is a byte; nothing else turns. -/
import Derived.Test.YtapniafhcagogaaGreatDoorLeaf
import Derived.WalkSmall
namespace Go.Proofs.YtapniafhcagogaaGreatDoor
open Go.RowKit

/-- The cursor in block cb over the bytes zs. -/
def Cur (w : World) (cb : Nat) (v : Value) (zs : List Int) : Prop :=
  Bs w v zs ∧ zs.length ≤ 1048576 ∧ (zs ≠ [] → ∀ k, v.ownBlock = some k → k ≠ cb) ∧
    ∃ i h : Int, 0 ≤ i ∧ i ≤ zs.length ∧ w.heap[cb]? = some (.cells #[v, .int .i64 i, .int .i64 h] 63 (0, 0))

theorem grownBy_trans {a b c : World} {row : Option Nat} (h : a.grownBy b row) (k : b.grownBy c row) : a.grownBy c row :=
  ⟨k.os.trans h.os, k.tape.trans h.tape, k.output.trans h.output, Nat.le_trans h.size k.size, fun j hj hne => (k.block j (Nat.lt_of_lt_of_le hj h.size) hne).trans (h.block j hj hne)⟩

theorem grownBy_drewN {a b : World} {row : Option Nat} (h : a.grownBy b row) (n : Nat) : a.grownBy (b.drewN n) row := ⟨h.os, h.tape, h.output, h.size, h.block⟩

theorem grownBy_setCell (w : World) (cb j : Nat) (u : Value) : w.grownBy (w.setCell ⟨cb, j, none⟩ u) (some cb) :=
  ⟨rfl, rfl, rfl, by simp [World.setCell], fun k _ hk => Below.heap_setCell w _ u k (fun e => hk (by rw [e]))⟩

theorem Bs.other' {w w' : World} {v : Value} {zs : List Int} {row : Option Nat} (h : Bs w v zs) (hg : w.grownBy w' row) (hne : zs ≠ [] → ∀ k, v.ownBlock = some k → some k ≠ row) : Bs w' v zs := by
  by_cases hz : zs = []
  · obtain ⟨hb, ao, cap, rfl, hl, hm, hn, hc⟩ := h
    exact ⟨hb, ao, cap, rfl, hl, hm, hn, fun h => absurd hz h⟩
  · exact h.other hg (hne hz)

/-- A cursor whose block has turned to this. -/
theorem Cur.turned {w w' : World} {cb : Nat} {v : Value} {zs : List Int} (h : Cur w cb v zs) (hg : w.grownBy w' (some cb)) (i q : Int) (h0 : 0 ≤ i) (h1 : i ≤ zs.length)
    (hc : w'.heap[cb]? = some (.cells #[v, .int .i64 i, .int .i64 q] 63 (0, 0))) : Cur w' cb v zs :=
  ⟨h.1.other' hg (fun hz k hk e => h.2.2.1 hz k hk (Option.some.inj e)), h.2.1, h.2.2.1, i, q, h0, h1, hc⟩

set_option maxHeartbeats 1000000 in
theorem l1Byte_any (cb : Nat) (v : Value) (zs : List Int) (w : World) (h : Cur w cb v zs) :
    Calls Tryz.prog 54 #[.pointer (some ⟨cb, 0, none⟩)] w fun e w' => ∃ x : Int, e = .returned (.int .i64 x) ∧ 0 ≤ x ∧ x ≤ 255 ∧ Cur w' cb v zs ∧ w.grownBy w' (some cb) := by
  have H := Hid.mk h
  obtain ⟨hbs, hlen, hne, i, q, hi0, hi1, hcb⟩ := h
  obtain ⟨hb, ao, cap, hv, hl, hm, hn, hc⟩ := hbs
  subst hv
  have c0 : w.cell? ⟨cb, 0, none⟩ = some (.slice ao zs.length cap) := by rw [cell_of_row w cb 0 _ _ _ hcb]; rfl
  have c1 : w.cell? ⟨cb, 1, none⟩ = some (.int .i64 i) := by rw [cell_of_row w cb 1 _ _ _ hcb]; rfl
  have c2 : w.cell? ⟨cb, 2, none⟩ = some (.int .i64 q) := by rw [cell_of_row w cb 2 _ _ _ hcb]; rfl
  have f1 : w.frozen? ⟨cb, 1, none⟩ = false := frozen_of_row w cb 1 _ _ hcb
  have f2 : w.frozen? ⟨cb, 2, none⟩ = false := frozen_of_row w cb 2 _ _ hcb
  have e255 := Ma.and255
  unfold maxLen at hm
  obtain ⟨X, hX⟩ : ∃ X, wrap64 (wrap64 (q * 6364136223846793005) + 1442695040888963407) = X := ⟨_, rfl⟩
  have hg2 := grownBy_setCell w cb 2 (.int .i64 X)
  have hh2 := heap_setCell_same w cb 2 _ _ (.int .i64 X) hcb
  by_cases hlt : i < zs.length
  · obtain ⟨p, rfl⟩ := Int.eq_ofNat_of_zero_le hi0
    have hz : zs ≠ [] := by intro h0; rw [h0] at hlt; simp at hlt; omega
    obtain ⟨b, off, rfl, hcell⟩ := hc hz
    have hbc : b ≠ cb := hne hz b rfl
    obtain ⟨c, Hc⟩ : ∃ c, Hid (zs.getD p 0 = c) := ⟨_, rfl⟩
    have hcb2 := hb.getD p
    rw [Hc.out] at hcb2
    obtain ⟨hc0, hc1⟩ := hcb2
    have hbyte : ∀ Y, (w.setCell ⟨cb, 2, none⟩ Y).cell? ⟨b, off + p, none⟩ = some (.int .u8 c) := fun Y => by
      rw [World.cell?_of_block (w := w) (Below.heap_setCell w _ Y b hbc), ← Hc.out]
      exact hcell p (by omega)
    have hplt : (p : Int) < (zs.length : Int) := hlt
    have hg1 := grownBy_setCell (w.setCell ⟨cb, 2, none⟩ (.int .i64 X)) cb 1 (.int .i64 ((p : Int) + 1))
    have hh1 := heap_setCell_same (w.setCell ⟨cb, 2, none⟩ (.int .i64 X)) cb 1 _ _ (.int .i64 ((p : Int) + 1)) hh2
    have HE : Hid (∀ n, Cur (((w.setCell ⟨cb, 2, none⟩ (.int .i64 X)).drewN n).setCell ⟨cb, 1, none⟩ (.int .i64 ((p : Int) + 1))) cb (.slice (some ⟨b, off, none⟩) zs.length cap) zs ∧
        w.grownBy (((w.setCell ⟨cb, 2, none⟩ (.int .i64 X)).drewN n).setCell ⟨cb, 1, none⟩ (.int .i64 ((p : Int) + 1))) (some cb)) := fun n => by
      have hg : w.grownBy (((w.setCell ⟨cb, 2, none⟩ (.int .i64 X)).drewN n).setCell ⟨cb, 1, none⟩ (.int .i64 ((p : Int) + 1))) (some cb) := grownBy_drewN (grownBy_trans hg2 hg1) n
      refine ⟨H.out.turned hg ((p : Int) + 1) X (by omega) (by omega) ?_, hg⟩
      exact hh1
    clear hc hne hcell hg1 hg2 hh1 hh2 hcb
    go_enter Tryz.func54, Tryz.ntmps54
    go_wp2
    go_quiet (fail)
    go_wp2
    go_quiet (fail)
    go_wp2
    go_quiet (fail)
    go_wp2
    go_ret
    refine ⟨_, rfl, Int.emod_nonneg _ (by decide), by omega, ?_⟩
    first | exact HE.out _ | (rw [World.drewN_drewN]; exact HE.out _)
  · have HE : Hid (∀ n, Cur ((w.setCell ⟨cb, 2, none⟩ (.int .i64 X)).drewN n) cb (.slice ao zs.length cap) zs ∧ w.grownBy ((w.setCell ⟨cb, 2, none⟩ (.int .i64 X)).drewN n) (some cb)) := fun n => by
      have hg := grownBy_drewN hg2 n
      refine ⟨H.out.turned hg i X hi0 hi1 ?_, hg⟩
      exact hh2
    clear hc hne hg2 hh2 hcb
    go_enter Tryz.func54, Tryz.ntmps54
    go_wp2
    go_quiet (fail)
    go_wp2
    go_quiet (fail)
    go_wp2
    go_ret
    refine ⟨_, rfl, Int.emod_nonneg _ (by decide), by omega, ?_⟩
    first | exact HE.out _ | (rw [World.drewN_drewN]; exact HE.out _)

set_option maxHeartbeats 1000000 in
theorem l1New_any (v : Value) (zs : List Int) (w : World) (h : Bs w v zs) (hlen : zs.length ≤ 1048576) :
    Calls Tryz.prog 12 #[v] w fun e w' => e = .returned (.pointer (some ⟨w.heap.size, 0, none⟩)) ∧ Cur w' w.heap.size v zs ∧ Below w.heap.size w w' := by
  have H := Hid.mk h
  have Hlt := Hid.mk h.lt
  obtain ⟨hb, ao, cap, hv, hl, hm, hn, hc⟩ := h
  subst hv
  unfold maxLen at hm
  have HE : Hid (∀ q : Int, Cur (w.alloc (.cells #[.slice ao zs.length cap, .int .i64 0, .int .i64 q] 63)) w.heap.size (.slice ao zs.length cap) zs) := fun q => by
    refine ⟨H.out.grow ((Below.refl _ _).alloc (Nat.le_refl _) _), hlen, fun hz k hk => by have := Hlt.out hz k hk; omega, 0, q, by omega, by omega, ?_⟩
    exact heap_alloc_new w _
  clear Hlt
  go_enter Tryz.func12, Tryz.ntmps12
  go_wp2
  go_loop [3, 4] (fun hq i => ∃ (k : Nat) (q : Int), k ≤ zs.length ∧ i = .int .i64 k ∧ hq = .int .i64 q) (fun _ i => zs.length - (intOf i).toNat)
  case atStart => exact ⟨0, _, Nat.zero_le _, rfl, rfl⟩
  case round =>
    obtain ⟨k, q, hk, rfl, rfl⟩ := hrel
    by_cases hlt : k < zs.length
    · by_cases h4 : (k : Int) < 4000
      · obtain ⟨b, off, rfl, hcell⟩ := hc (by intro h0; rw [h0] at hlt; simp at hlt)
        obtain ⟨c, Hc⟩ : ∃ c, Hid (zs.getD k 0 = c) := ⟨_, rfl⟩
        have h1 : w.cell? ⟨b, off + k, none⟩ = some (.int .u8 c) := by rw [← Hc.out]; exact hcell k hlt
        clear hc hcell
        go_wp2
        go_round
        case rel => exact ⟨k + 1, _, by omega, by go_num, rfl⟩
        case measure => simp [intOf]; omega
      · clear hc
        go_wp2
        go_ret
        exact ⟨rfl, HE.out q, (Below.refl _ _).alloc (Nat.le_refl _) _⟩
    · clear hc
      go_wp2
      go_ret
      exact ⟨rfl, HE.out q, (Below.refl _ _).alloc (Nat.le_refl _) _⟩

set_option maxHeartbeats 1000000 in
theorem l1Below_any (cb : Nat) (v : Value) (zs : List Int) (n : Int) (w : World) (h : Cur w cb v zs) :
    Calls Tryz.prog 30 #[.pointer (some ⟨cb, 0, none⟩), .int .i64 n] w fun e w' => ∃ x : Int, e = .returned (.int .i64 x) ∧ 0 ≤ x ∧ (0 < n → x < n) ∧ (n ≤ 0 → x = 0) ∧ Cur w' cb v zs ∧ w.grownBy w' (some cb) := by
  have H := Hid.mk h
  clear h
  rcases (by omega : n ≤ 0 ∨ (0 < n ∧ n ≤ 256) ∨ (0 < n ∧ 256 < n)) with hn | ⟨hn, hn2⟩ | ⟨hn, hn2⟩
  · go_enter Tryz.func30, Tryz.ntmps30
    go_wp2
    go_ret
    exact ⟨0, rfl, by omega, by omega, fun _ => rfl, H.out, World.grownBy.refl _ _⟩
  · go_enter Tryz.func30, Tryz.ntmps30
    go_wp2_with fail
    refine (l1Byte_any cb v zs w H.out).mono ?_
    rintro e w1 ⟨x, rfl, hx0, hx1, hC, hg⟩
    have HC := Hid.mk hC
    have HG := Hid.mk hg
    clear hC hg
    go_wp2
    go_ret
    exact ⟨_, rfl, Int.emod_nonneg _ (by omega), fun _ => Int.emod_lt_of_pos _ hn, by omega, HC.out, HG.out⟩
  · go_enter Tryz.func30, Tryz.ntmps30
    go_wp2_with fail
    refine (l1Byte_any cb v zs w H.out).mono ?_
    rintro e w1 ⟨x, rfl, hx0, hx1, hC, hg⟩
    have HC := Hid.mk hC
    have HG := Hid.mk hg
    clear hC hg
    go_wp2_with fail
    refine (l1Byte_any cb v zs w1 HC.out).mono ?_
    rintro e w2 ⟨y, rfl, hy0, hy1, hC, hg⟩
    have HC2 := Hid.mk hC
    have HG2 := Hid.mk (grownBy_trans HG.out hg)
    clear hC hg HC HG
    go_wp2_with fail
    refine (l1Byte_any cb v zs w2 HC2.out).mono ?_
    rintro e w3 ⟨z, rfl, hz0, hz1, hC, hg⟩
    have HC3 := Hid.mk hC
    have HG3 := Hid.mk (grownBy_trans HG2.out hg)
    clear hC hg HC2 HG2
    go_wp2
    go_ret
    exact ⟨_, rfl, Int.emod_nonneg _ (by omega), fun _ => Int.emod_lt_of_pos _ hn, by omega, HC3.out, HG3.out⟩

/-- A cursor behind whatever leaves its block and its bytes' block alone. -/
theorem Cur.grow {w w' : World} {cb : Nat} {v : Value} {zs : List Int} (h : Cur w cb v zs) (hk : Below w.heap.size w w') : Cur w' cb v zs := by
  obtain ⟨hbs, hlen, hne, i, q, h0, h1, hc⟩ := h
  refine ⟨hbs.grow hk, hlen, hne, i, q, h0, h1, ?_⟩
  rw [hk.block cb (Array.getElem?_eq_some_iff.1 hc).1]
  exact hc
theorem Cur.lt {w : World} {cb : Nat} {v : Value} {zs : List Int} (h : Cur w cb v zs) : cb < w.heap.size := by
  obtain ⟨_, _, _, i, q, _, _, hc⟩ := h
  exact (Array.getElem?_eq_some_iff.1 hc).1

/-- A list of numbers in a block of its own. -/
def Nums (w : World) (lb : Nat) (xs : List Int) : Prop := w.heap[lb]? = some (.cells (xs.map (Value.int .i64)).toArray 3 (0, 0))

set_option maxHeartbeats 1000000 in
theorem l1Int_any (cb lb n : Nat) (v : Value) (zs xs : List Int) (w : World) (h : Cur w cb v zs) (hn : n = xs.length) (hpos : 0 < n) (hbig : n ≤ 1000) (hx : Nums w lb xs) (hne : lb ≠ cb) :
    Calls Tryz.prog 29 #[.pointer (some ⟨cb, 0, none⟩), .slice (some ⟨lb, 0, none⟩) n n] w fun e w' => ∃ x : Int, e = .returned (.int .i64 x) ∧ x ∈ xs ∧ Cur w' cb v zs ∧ w.grownBy w' (some cb) := by
  have H := Hid.mk h
  have HX := Hid.mk hx
  clear h hx
  have Hn := Hid.mk hn
  clear hn
  go_enter Tryz.func29, Tryz.ntmps29
  go_wp2_with fail
  refine (l1Below_any cb v zs (n : Int) w H.out).mono ?_
  rintro e w1 ⟨x, rfl, hx0, hx1, -, hC, hg⟩
  obtain ⟨p, rfl⟩ := Int.eq_ofNat_of_zero_le hx0
  have hp : p < n := by have := hx1 (by omega); omega
  have hbl : w1.heap[lb]? = w.heap[lb]? := hg.block lb (Array.getElem?_eq_some_iff.1 HX.out).1 (fun e => hne (Option.some.inj e))
  obtain ⟨y, Hy⟩ : ∃ y, Hid (xs.getD p 0 = y) := ⟨_, rfl⟩
  have hcell : w1.cell? ⟨lb, p, none⟩ = some (.int .i64 y) := by
    have h1 := HX.out
    unfold Nums at h1
    rw [cell_of_row w1 lb p _ _ _ (hbl.trans h1), ← Hy.out]
    have := Hn.out
    simp [List.getD, show p < xs.length by omega]
  have hmem : y ∈ xs := by
    have := Hn.out
    rw [← Hy.out]
    have e : xs.getD p 0 = xs[p]'(by omega) := by simp [List.getD, show p < xs.length by omega]
    rw [e]; exact List.getElem_mem _
  have HC := Hid.mk hC
  have HG := Hid.mk hg
  have HM := Hid.mk hmem
  clear hC hg hx1 hbl hmem
  go_wp2
  go_ret
  exact ⟨y, rfl, HM.out, HC.out, HG.out⟩
theorem big_any (v : Value) (zs : List Int) (w : World) (h : Bs w v zs) :
    Calls Tryz.prog 4 #[v] w fun e w' => e = .returned (.bool (decide ((1048576 : Int) < zs.length))) ∧ w' = w := by
  obtain ⟨ao, cap, rfl⟩ : ∃ ao cap, v = .slice ao zs.length cap := by obtain ⟨_, ao, cap, e, _⟩ := h; exact ⟨ao, cap, e⟩
  clear h
  go_enter Tryz.func4, Tryz.ntmps4
  go_wp2
  go_ret
  exact ⟨rfl, rfl⟩
end Go.Proofs.YtapniafhcagogaaGreatDoor
