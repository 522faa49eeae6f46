/- What the program's walk reaches. -/
import Derived.Test.YtapniafhcagogaaGreatDoorNfaReach
namespace Go.Proofs.YtapniafhcagogaaGreatDoor
open Go.RowKit
set_option maxRecDepth 8000

/-- The cells of a walk. -/
def wkC (v : Value) (ab ae : Bool) (M : Nat → Bool) : List Value := v :: .bool ab :: .bool ae :: (List.range 300).map fun i => .bool (M i)
theorem wkC_get (v : Value) (ab ae : Bool) (M : Nat → Bool) (i : Nat) (h : i < 300) : (wkC v ab ae M)[3 + i]? = some (.bool (M i)) := by
  rw [show 3 + i = i + 1 + 1 + 1 by omega]
  simp [wkC, h]
theorem wkC_set (v : Value) (ab ae : Bool) (M : Nat → Bool) (i : Nat) (h : i < 300) : (wkC v ab ae M).set (3 + i) (.bool true) = wkC v ab ae (mk1 M i) := by
  rw [show 3 + i = i + 1 + 1 + 1 by omega]
  unfold wkC
  simp only [List.set_cons_succ]
  congr 3
  apply List.ext_getElem?
  intro j
  by_cases hj : i = j
  · subst hj
    rw [List.getElem?_set_self (by simpa using h)]
    simp [h, mk1]
  · rw [List.getElem?_set_ne hj]
    by_cases hj3 : j < 300
    · simp [hj3, mk1, Ne.symm hj]
    · simp [hj3]
/-- The block of a walk. -/
def WB (w : World) (g : Nat) (v : Value) (ab ae : Bool) (M : Nat → Bool) : Prop := w.heap[g]? = some (.cells (wkC v ab ae M).toArray 80 (0, 0))
theorem WB.lt {w : World} {g : Nat} {v : Value} {ab ae : Bool} {M : Nat → Bool} (h : WB w g v ab ae M) : g < w.heap.size := (Array.getElem?_eq_some_iff.1 h).1
theorem WB.c0 {w : World} {g : Nat} {v : Value} {ab ae : Bool} {M : Nat → Bool} (h : WB w g v ab ae M) : w.cell? ⟨g, 0, none⟩ = some v := by
  rw [cell_of_row w g _ _ _ (0, 0) h]; simp [wkC]
theorem WB.c1 {w : World} {g : Nat} {v : Value} {ab ae : Bool} {M : Nat → Bool} (h : WB w g v ab ae M) : w.cell? ⟨g, 1, none⟩ = some (.bool ab) := by
  rw [cell_of_row w g _ _ _ (0, 0) h]; simp [wkC]
theorem WB.c2 {w : World} {g : Nat} {v : Value} {ab ae : Bool} {M : Nat → Bool} (h : WB w g v ab ae M) : w.cell? ⟨g, 2, none⟩ = some (.bool ae) := by
  rw [cell_of_row w g _ _ _ (0, 0) h]; simp [wkC]
theorem WB.cm {w : World} {g : Nat} {v : Value} {ab ae : Bool} {M : Nat → Bool} (h : WB w g v ab ae M) {i : Nat} (hi : i < 300) : w.cell? ⟨g, 3 + i, none⟩ = some (.bool (M i)) := by
  rw [cell_of_row w g _ _ _ (0, 0) h, List.getElem?_toArray]; exact wkC_get v ab ae M i hi
theorem WB.fr {w : World} {g : Nat} {v : Value} {ab ae : Bool} {M : Nat → Bool} (h : WB w g v ab ae M) (o : Nat) : w.frozen? ⟨g, o, none⟩ = false := frozen_of_row w g o _ _ h
theorem WB.set {w : World} {g : Nat} {v : Value} {ab ae : Bool} {M : Nat → Bool} (h : WB w g v ab ae M) {i : Nat} (hi : i < 300) : WB (w.setCell ⟨g, 3 + i, none⟩ (.bool true)) g v ab ae (mk1 M i) := by
  unfold WB
  rw [heap_setCell_same w g (3 + i) _ _ (.bool true) h, List.setIfInBounds_toArray, wkC_set v ab ae M i hi]

/-- Reaching a node. -/
def ReachC (N : List Nd) (g : Nat) (ab ae : Bool) (u : Nat) : Prop := ∀ (M : Nat → Bool) (i : Nat) (v : Value) (w : World), WB w g v ab ae M → Nl w (fun b => b < g) N v → i < N.length → unM N.length M ≤ u →
  Calls Tryz.prog 41 #[.pointer (some ⟨g, 0, none⟩), .int .i64 (i : Int)] w fun e w' => (∃ x, e = .returned x) ∧ ∃ M', WB w' g v ab ae M' ∧ Grew N ab ae (fun j => j = i) M M' ∧ Below g w w'

set_option maxHeartbeats 2000000 in
theorem reach_step (N : List Nd) (hok : okNfa N = true) (g : Nat) (ab ae : Bool) (u : Nat) (ih : ∀ u', u' < u → ReachC N g ab ae u') : ReachC N g ab ae u := by
  intro M i v w hw hnl hi hu
  have hn3 := okNfa_size hok
  have hi3 : i < 300 := by omega
  have cm := hw.cm hi3
  have c0 := hw.c0
  obtain ⟨ao, cap, rfl, hl, hm, -, -, hc⟩ := id hnl
  unfold maxLen at hm
  by_cases hM : M i = true
  · rw [hM] at cm
    have HW := Hid.mk hw
    have HG : Hid (Grew N ab ae (fun j => j = i) M M) := Grew.here fun j hj => by subst hj; exact hM
    clear hnl hc hw ih hM
    go_enter Tryz.func41, Tryz.ntmps41
    go_wp2
    refine bodyPost_ret (v := .tuple #[]) (by simp [results, Tryz.results41, go_sem]) rfl ⟨⟨_, rfl⟩, M, HW.out, HG.out, Below.refl _ _⟩
  · have hMf : M i = false := by simpa using hM
    rw [hMf] at cm
    have fm := hw.fr (3 + i)
    have c1 := hw.c1
    have c2 := hw.c2
    obtain ⟨b, off, rfl, hbg, hcell⟩ := hc (by intro h0; rw [h0] at hi; simp at hi)
    obtain ⟨d0, d1, d2, d3⟩ := hcell i hi
    have hne : b ≠ g := Nat.ne_of_lt hbg
    have hne' : g ≠ b := fun h => hne h.symm
    have HW1 := Hid.mk (hw.set hi3)
    have B1 : Hid (Below g w (w.setCell ⟨g, 3 + i, none⟩ (.bool true))) := (Below.refl g w).setCell (p := ⟨g, 3 + i, none⟩) (Nat.le_refl _) _
    have HN := Hid.mk (fun w' (hb : Below g w w') => hnl.kept (w' := w') fun b hb' _ => hb.block b hb')
    have hlt := unM_lt hi hMf
    have HI := Hid.mk (ih (unM N.length (mk1 M i)) (by omega))
    have HF : Hid (∀ z ∈ fol ab ae N[i], ∃ q : Nat, z = (q : Int) ∧ q < N.length) := by
      intro z hz
      have := fol_in (ab := ab) (ae := ae) hok hi (by rw [ndAt_eq hi]; exact hz)
      exact ⟨z.toNat, by omega, by omega⟩
    have HO : Hid (∀ M' T, (∀ q : Nat, T q ↔ (q : Int) ∈ fol ab ae N[i]) → Grew N ab ae T (mk1 M i) M' → Grew N ab ae (fun j => j = i) M M') := by
      intro M' T hT hg
      refine Grew.one (hg.imp fun j => ?_)
      rw [ndAt_eq hi]
      exact hT j
    clear hnl hc hw ih hM hcell hu hlt
    generalize N[i] = x at d0 d1 d2 d3 HF HO
    obtain ⟨xk, xs, xa, xb⟩ := x
    simp only at d0 d1 d2 d3
    have hk0 : 0 < N.length := by omega
    by_cases k4 : xk = 4
    · subst k4
      have hfol : fol ab ae ⟨4, xs, xa, xb⟩ = [xa, xb] := rfl
      rw [hfol] at HF HO
      obtain ⟨na, rfl, hna⟩ := HF.out xa (by simp)
      obtain ⟨nb, rfl, hnb⟩ := HF.out xb (by simp)
      clear HF hfol
      go_enter Tryz.func41, Tryz.ntmps41
      go_wp2_with fail
      refine (HI.out _ _ _ _ HW1.out (HN.out _ B1.out) hna (Nat.le_refl _)).mono ?_
      rintro e w2 ⟨⟨x2, rfl⟩, M2, hW2, hG2, hb2⟩
      have B2 := Hid.mk (B1.out.trans hb2)
      have HW2 := Hid.mk hW2
      have HG2 := Hid.mk hG2
      have e0 := B2.out.cell (p := ⟨b, off + i * 4, none⟩) hbg
      have e3 := B2.out.cell (p := ⟨b, off + i * 4 + 3, none⟩) hbg
      rw [d0] at e0
      rw [d3] at e3
      clear hW2 hG2 hb2 B1 HW1
      go_wp2_with fail
      refine (HI.out _ _ _ _ HW2.out (HN.out _ B2.out) hnb (unM_le HG2.out.1)).mono ?_
      rintro e w3 ⟨⟨x3, rfl⟩, M3, hW3, hG3, hb3⟩
      have HG3 : Hid (Grew N ab ae (fun j => j = i) M M3) := HO.out M3 _ (fun q => by simp; omega) (HG2.out.comp hG3)
      have HW3 := Hid.mk hW3
      have B3 := Hid.mk (B2.out.trans hb3)
      clear hW3 hG3 hb3 HG2 HW2 B2 HO HI HN
      go_wp2
      refine bodyPost_end (v := .tuple #[]) (by simp [results, Tryz.results41, go_sem]) rfl ⟨⟨_, rfl⟩, M3, HW3.out, HG3.out, B3.out⟩
    by_cases h1 : xk = 5 ∧ ab = true ∨ xk = 6 ∧ ae = true
    · have hfol : fol ab ae ⟨xk, xs, xa, xb⟩ = [xa] := by unfold fol; rw [if_neg k4, if_pos h1]
      rw [hfol] at HF HO
      obtain ⟨na, rfl, hna⟩ := HF.out xa (by simp)
      clear HF hfol
      rcases h1 with ⟨rfl, rfl⟩ | ⟨rfl, rfl⟩
      all_goals
        go_enter Tryz.func41, Tryz.ntmps41
        go_wp2_with fail
        refine (HI.out _ _ _ _ HW1.out (HN.out _ B1.out) hna (Nat.le_refl _)).mono ?_
        rintro e w2 ⟨⟨x2, rfl⟩, M2, hW2, hG2, hb2⟩
        have HG2 := Hid.mk (HO.out M2 _ (fun q => by simp; omega) hG2)
        have B2 := Hid.mk (B1.out.trans hb2)
        have HW2 := Hid.mk hW2
        clear hW2 hG2 hb2 B1 HW1 HO HI HN
        go_wp2
        refine bodyPost_end (v := .tuple #[]) (by simp [results, Tryz.results41, go_sem]) rfl ⟨⟨_, rfl⟩, M2, HW2.out, HG2.out, B2.out⟩
    · have hfol : fol ab ae ⟨xk, xs, xa, xb⟩ = [] := by unfold fol; rw [if_neg k4, if_neg h1]
      rw [hfol] at HO
      have HG1 := Hid.mk (HO.out (mk1 M i) (fun _ => False) (fun q => by simp) (Grew.here fun _ h => h.elim))
      clear HF HI HO HN hfol
      have h5 : ¬ (xk = 5 ∧ ab = true) := fun h => h1 (.inl h)
      have h6 : ¬ (xk = 6 ∧ ae = true) := fun h => h1 (.inr h)
      clear h1
      by_cases k5 : xk = 5
      · subst k5
        have hab : ab = false := by cases ab with
          | false => rfl
          | true => exact absurd ⟨rfl, rfl⟩ h5
        subst hab
        clear h5 h6
        go_enter Tryz.func41, Tryz.ntmps41
        go_wp2
        refine bodyPost_end (v := .tuple #[]) (by simp [results, Tryz.results41, go_sem]) rfl ⟨⟨_, rfl⟩, _, HW1.out, HG1.out, B1.out⟩
      by_cases k6 : xk = 6
      · subst k6
        have hae : ae = false := by cases ae with
          | false => rfl
          | true => exact absurd ⟨rfl, rfl⟩ h6
        subst hae
        clear h5 h6
        go_enter Tryz.func41, Tryz.ntmps41
        go_wp2
        refine bodyPost_end (v := .tuple #[]) (by simp [results, Tryz.results41, go_sem]) rfl ⟨⟨_, rfl⟩, _, HW1.out, HG1.out, B1.out⟩
      clear h5 h6
      go_enter Tryz.func41, Tryz.ntmps41
      go_wp2
      refine bodyPost_end (v := .tuple #[]) (by simp [results, Tryz.results41, go_sem]) rfl ⟨⟨_, rfl⟩, _, HW1.out, HG1.out, B1.out⟩

theorem reach_any (N : List Nd) (hok : okNfa N = true) (g : Nat) (ab ae : Bool) (u : Nat) : ReachC N g ab ae u := by
  induction u using Nat.strongRecOn with
  | _ u ih => exact reach_step N hok g ab ae u ih
end Go.Proofs.YtapniafhcagogaaGreatDoor
