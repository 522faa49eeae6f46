/- Nodes marked by the laws: nothing but their own block turns. -/
import Derived.Test.YtapniafhcagogaaNodeTo
import Derived.Test.YtapniafhcagogaaMarkT
import Derived.Test.YtapniafhcagogaaMarkMk
namespace Go.Proofs.Ytapniafhcagogaa
open Go.RowKit
set_option maxRecDepth 8000

theorem ndCells_k : ∀ (L : List Nd) (i : Nat) (x : Int) (h : i < L.length), (ndCells L).set (i * 4) (.int .i64 x) = ndCells (L.set i { L[i] with k := x })
  | y :: r, 0, x, _ => rfl
  | y :: r, i + 1, x, h => by
    have ih := ndCells_k r i x (by simpa using h)
    rw [show (i + 1) * 4 = i * 4 + 4 by omega]
    simp only [ndCells, List.set_cons_succ, List.getElem_cons_succ]
    rw [ih]
theorem ndCells_s : ∀ (L : List Nd) (i : Nat) (x : ByteArray) (h : i < L.length), (ndCells L).set (i * 4 + 1) (.string x) = ndCells (L.set i { L[i] with s := x })
  | y :: r, 0, x, _ => rfl
  | y :: r, i + 1, x, h => by
    have ih := ndCells_s r i x (by simpa using h)
    rw [show (i + 1) * 4 + 1 = i * 4 + 1 + 4 by omega]
    simp only [ndCells, List.set_cons_succ, List.getElem_cons_succ]
    rw [ih]
theorem ndCells_a : ∀ (L : List Nd) (i : Nat) (x : Int) (h : i < L.length), (ndCells L).set (i * 4 + 2) (.int .i64 x) = ndCells (L.set i { L[i] with a := x })
  | y :: r, 0, x, _ => rfl
  | y :: r, i + 1, x, h => by
    have ih := ndCells_a r i x (by simpa using h)
    rw [show (i + 1) * 4 + 2 = i * 4 + 2 + 4 by omega]
    simp only [ndCells, List.set_cons_succ, List.getElem_cons_succ]
    rw [ih]
theorem ndCells_b : ∀ (L : List Nd) (i : Nat) (x : Int) (h : i < L.length), (ndCells L).set (i * 4 + 3) (.int .i64 x) = ndCells (L.set i { L[i] with b := x })
  | y :: r, 0, x, _ => rfl
  | y :: r, i + 1, x, h => by
    have ih := ndCells_b r i x (by simpa using h)
    rw [show (i + 1) * 4 + 3 = i * 4 + 3 + 4 by omega]
    simp only [ndCells, List.set_cons_succ, List.getElem_cons_succ]
    rw [ih]
/-- A block of that many nodes, whatever they are. -/
def NBn (w : World) (g n : Nat) : Prop := ∃ M, NB w g M ∧ M.length = n
theorem NBn.kept {w w' : World} {g n : Nat} (h : NBn w g n) (hh : w'.heap[g]? = w.heap[g]?) : NBn w' g n := by
  obtain ⟨M, h1, h2⟩ := h
  exact ⟨M, h1.kept hh, h2⟩
theorem NBn.at4 {w : World} {g n : Nat} (h : NBn w g n) {i : Nat} (hi : i < n) : ∃ x : Nd, At4 w g (i * 4) x := by
  obtain ⟨M, h1, rfl⟩ := h
  exact ⟨_, h1.at4 hi⟩
theorem NBn.fr {w : World} {g n : Nat} (h : NBn w g n) (o : Nat) : w.frozen? ⟨g, o, none⟩ = false := by
  obtain ⟨M, h1, rfl⟩ := h
  exact h1.fr o
theorem NBn.stK {w : World} {g n i : Nat} (h : NBn w g n) (hi : i < n) (x : Int) : NBn (w.setCell ⟨g, i * 4, none⟩ (.int .i64 x)) g n := by
  obtain ⟨M, h1, rfl⟩ := h
  refine ⟨M.set i { M[i] with k := x }, ?_, by simp⟩
  unfold NB
  rw [heap_setCell_same w g (i * 4) _ _ _ h1, ← ndCells_k M i x hi]
  simp only [List.setIfInBounds_toArray]
theorem NBn.stS {w : World} {g n i : Nat} (h : NBn w g n) (hi : i < n) (x : ByteArray) : NBn (w.setCell ⟨g, i * 4 + 1, none⟩ (.string x)) g n := by
  obtain ⟨M, h1, rfl⟩ := h
  refine ⟨M.set i { M[i] with s := x }, ?_, by simp⟩
  unfold NB
  rw [heap_setCell_same w g (i * 4 + 1) _ _ _ h1, ← ndCells_s M i x hi]
  simp only [List.setIfInBounds_toArray]
theorem NBn.stA {w : World} {g n i : Nat} (h : NBn w g n) (hi : i < n) (x : Int) : NBn (w.setCell ⟨g, i * 4 + 2, none⟩ (.int .i64 x)) g n := by
  obtain ⟨M, h1, rfl⟩ := h
  refine ⟨M.set i { M[i] with a := x }, ?_, by simp⟩
  unfold NB
  rw [heap_setCell_same w g (i * 4 + 2) _ _ _ h1, ← ndCells_a M i x hi]
  simp only [List.setIfInBounds_toArray]
theorem NBn.stB {w : World} {g n i : Nat} (h : NBn w g n) (hi : i < n) (x : Int) : NBn (w.setCell ⟨g, i * 4 + 3, none⟩ (.int .i64 x)) g n := by
  obtain ⟨M, h1, rfl⟩ := h
  refine ⟨M.set i { M[i] with b := x }, ?_, by simp⟩
  unfold NB
  rw [heap_setCell_same w g (i * 4 + 3) _ _ _ h1, ← ndCells_b M i x hi]
  simp only [List.setIfInBounds_toArray]
theorem NBn.lt {w : World} {g n : Nat} (h : NBn w g n) : g < w.heap.size := by
  obtain ⟨M, h1, rfl⟩ := h
  exact h1.lt

set_option maxHeartbeats 1000000 in
theorem markNodeS_any (n g j : Nat) (w : World) (h : NBn w g n) (hn : n ≤ 1048576) (hj : j ≤ 1048576) :
    Calls Try.prog 53 #[.slice (some ⟨g, 0, none⟩) n n, .int .i64 (j : Int)] w fun e w' => e = .returned (.int .i64 ((j + 4 * n : Nat) : Int)) ∧ Mkd g w w' := by
  have HT : Hid (∀ (k : Nat) (i : Int), i = (k : Int) → k ≤ 1073741824 → ∀ w', Calls Try.prog 73 #[.int .i64 i] w' fun e w'' => e = .returned (.string (mkS k)) ∧ Below w'.heap.size w' w'') := fun k i hi hk w' => by rw [hi]; exact markText_any k w' hk
  have H0 := Hid.mk h
  clear h
  go_enter Try.func53, Try.ntmps53
  go_wp2
  go_loopw [1, 5] (fun q i wr => ∃ (k : Nat), k ≤ n ∧ i = .int .i64 k ∧ q = .int .i64 ((j + 4 * k : Nat) : Int) ∧ Hid (NBn wr g n) ∧ Hid (Mkd g w wr)) (fun _ i _ => n - (intOf i).toNat)
  case atStart => exact ⟨0, Nat.zero_le _, rfl, rfl, H0, Mkd.refl _ _⟩
  case round =>
    obtain ⟨k, hk, rfl, rfl, HM, HB⟩ := hrel
    clear H0
    by_cases hkl : k < n
    · have hki : (k : Int) < (n : Int) := by omega
      obtain ⟨q, hq⟩ : ∃ q : Int, ((j + 4 * k : Nat) : Int) = q := ⟨_, rfl⟩
      obtain ⟨x, c0, c1, c2, c3⟩ := HM.out.at4 hkl
      have f0 := HM.out.fr (k * 4)
      have HC := Hid.mk (HT.out (j + 4 * k + 1) (q + 1) (by omega) (by omega))
      have hq0 : 0 ≤ q := by omega
      have hq1 : q ≤ 8388608 := by omega
      have HQ := Hid.mk hq
      have HM1 := Hid.mk (HM.out.stK hkl q)
      have HB1 := Hid.mk (HB.out.set (o := k * 4) (.int .i64 q))
      obtain ⟨ms, hms⟩ : ∃ ms, mkS (j + 4 * k + 1) = ms := ⟨_, rfl⟩
      rw [hms] at HC
      rw [hq]
      have hk0 : 0 < n := by omega
      clear hms hq HM HB HT c1 c2 c3
      go_wp2_with fail
      refine (HC.out _).mono ?_
      rintro e w2 ⟨rfl, hb2⟩
      have HM2 := Hid.mk (HM1.out.kept (hb2.block g HM1.out.lt))
      have HB2 := Hid.mk (HB1.out.trans (Mkd.below hb2))
      obtain ⟨y, d0, d1, d2, d3⟩ := HM2.out.at4 hkl
      have f1 := HM2.out.fr (k * 4 + 1)
      have f2 := HM2.out.fr (k * 4 + 2)
      have f3 := HM2.out.fr (k * 4 + 3)
      have HF : Hid (NBn (((w2.setCell ⟨g, k * 4 + 1, none⟩ (.string ms)).setCell ⟨g, k * 4 + 2, none⟩ (.int .i64 (q + 1 + 1))).setCell ⟨g, k * 4 + 3, none⟩ (.int .i64 (q + 1 + 1 + 1))) g n) := ((HM2.out.stS hkl ms).stA hkl _).stB hkl _
      have HG : Hid (Mkd g w (((w2.setCell ⟨g, k * 4 + 1, none⟩ (.string ms)).setCell ⟨g, k * 4 + 2, none⟩ (.int .i64 (q + 1 + 1))).setCell ⟨g, k * 4 + 3, none⟩ (.int .i64 (q + 1 + 1 + 1)))) := ((HB2.out.set _).set _).set _
      clear hb2 HM1 HB1 HC HM2 HB2 c0 f0
      go_wp2
      go_roundw
      case rel => exact ⟨k + 1, by omega, by go_num, by have := HQ.out; congr 1; omega, HF, HG⟩
      case measure => simp [intOf]; omega
    · have e : k = n := by omega
      subst e
      go_wp2
      go_ret
      exact ⟨rfl, HB.out⟩

set_option maxHeartbeats 1000000 in
theorem markNfa_any (n g j : Nat) (w : World) (h : NBn w g n) (hn : n ≤ 1048576) (hj : j ≤ 1048576) :
    Calls Try.prog 26 #[.agg #[.slice (some ⟨g, 0, none⟩) n n], .int .i64 (j : Int)] w fun e w' => e = .returned (.int .i64 ((j + 4 * n : Nat) : Int)) ∧ Mkd g w w' := by
  have A0 : Below w.heap.size w (w.alloc (.cells #[.slice (some ⟨g, 0, none⟩) n n] 44)) := (Below.refl _ _).alloc (Nat.le_refl _) _
  have HC := Hid.mk (markNodeS_any n g j (w.alloc (.cells #[.slice (some ⟨g, 0, none⟩) n n] 44)) (h.kept (A0.block g h.lt)) hn hj)
  have HA := Hid.mk (Mkd.below (g := g) A0)
  clear h A0
  go_enter Try.func26, Try.ntmps26
  go_wp2_with fail
  refine HC.out.mono ?_
  rintro e w1 ⟨rfl, hm⟩
  have HM := Hid.mk (HA.out.trans hm)
  clear hm HC HA
  go_wp2
  go_ret
  exact ⟨rfl, HM.out⟩
end Go.Proofs.Ytapniafhcagogaa
