/- Which nodes are a machine: the program's question and the document's model's. -/
import Derived.Test.YtkdjkkldnidmjaaGreatDoorNodeOk
namespace Go.Proofs.YtkdjkkldnidmjaaGreatDoor
open Go.RowKit
set_option maxRecDepth 8000

theorem okNfa_true {N : List Nd} (h0 : 0 < N.length) (h2 : N.length ≤ 300) (h3 : (N[N.length - 1]'(by omega)).k = 7) (h4 : ∀ i (h : i < N.length), okNd N[i] N.length = true) : okNfa N = true := by
  unfold okNfa
  rw [List.getLast?_eq_getElem?, List.getElem?_eq_getElem (by omega : N.length - 1 < N.length)]
  have : (N.all fun x => okNd x N.length) = true := by
    rw [List.all_eq_true]
    intro x hx
    obtain ⟨i, hi, rfl⟩ := List.getElem_of_mem hx
    exact h4 i hi
  rw [this, decide_eq_true (show 1 ≤ N.length by omega), decide_eq_true h2, decide_eq_true (by simpa using h3)]
  rfl
theorem okNfa_len {N : List Nd} (h : N.length = 0 ∨ 300 < N.length) : okNfa N = false := by
  unfold okNfa
  rcases h with h | h
  · rw [decide_eq_false (show ¬ 1 ≤ N.length by omega)]; rfl
  · rw [decide_eq_false (show ¬ N.length ≤ 300 by omega)]; simp
theorem okNfa_last {N : List Nd} (h0 : 0 < N.length) (h3 : (N[N.length - 1]'(by omega)).k ≠ 7) : okNfa N = false := by
  unfold okNfa
  rw [List.getLast?_eq_getElem?, List.getElem?_eq_getElem (by omega : N.length - 1 < N.length)]
  simp [h3]
theorem okNfa_bad {N : List Nd} (i : Nat) (h : i < N.length) (hb : okNd N[i] N.length = false) : okNfa N = false := by
  unfold okNfa
  have : (N.all fun x => okNd x N.length) = false := by
    rw [List.all_eq_false]
    exact ⟨_, List.getElem_mem h, by rw [hb]; simp⟩
  rw [this]; simp

set_option maxHeartbeats 2000000 in
theorem implNfaOk_any (N : List Nd) (B : Nat → Prop) (v : Value) (w : World) (h : Nl w B N v) :
    Calls Tryz.prog 7 #[.agg #[v]] w fun e w' => e = .returned (.bool (okNfa N)) ∧ Below w.heap.size w w' := by
  obtain ⟨ao, cap, rfl, hl, hm, hn, hs, hc⟩ := h
  unfold maxLen at hm
  have HS := Hid.mk hs
  have HC := Hid.mk hc
  clear hs hc
  have A0 : Hid (∀ o, Below w.heap.size w (w.alloc o)) := fun o => (Below.refl _ _).alloc (Nat.le_refl _) _
  have H0 := Hid.mk (okNfa_len (N := N))
  have H1 : Hid (∀ (h0 : 0 < N.length), (N[N.length - 1]'(by omega)).k ≠ 7 → okNfa N = false) := fun h0 h => okNfa_last h0 h
  have H2 : Hid (∀ (h0 : 0 < N.length), N.length ≤ 300 → (N[N.length - 1]'(by omega)).k = 7 → (∀ i (h : i < N.length), okNd N[i] N.length = true) → okNfa N = true) := fun h0 h2 h3 h4 => okNfa_true h0 h2 h3 h4
  have H3 : Hid (∀ i (h : i < N.length), okNd N[i] N.length = false → okNfa N = false) := fun i h hb => okNfa_bad i h hb
  obtain ⟨r, hr⟩ : ∃ r, okNfa N = r := ⟨_, rfl⟩
  rw [hr] at H0 H1 H2 H3 ⊢
  clear hr
  by_cases hz : N.length = 0
  · have HR := Hid.mk (H0.out (.inl hz))
    clear H0 H1 H2 H3
    go_enter Tryz.func7, Tryz.ntmps7
    go_wp2
    go_ret
    exact ⟨ret_bn HR.out.symm, A0.out _⟩
  by_cases hbig : 300 < N.length
  · have HR := Hid.mk (H0.out (.inr hbig))
    clear H0 H1 H2 H3
    go_enter Tryz.func7, Tryz.ntmps7
    go_wp2
    go_ret
    exact ⟨ret_bn HR.out.symm, A0.out _⟩
  obtain ⟨b, off, rfl, _, hcell⟩ := HC.out (by intro h0; rw [h0] at hz; simp at hz)
  have hlst : N.length - 1 < N.length := by omega
  have hbl := World.block_lt_of_cell? w _ (hcell 0 (by omega)).1
  obtain ⟨c0, c1, c2, c3⟩ := (hcell (N.length - 1) hlst).kept (w' := w.alloc (.cells #[.slice (some ⟨b, off, none⟩) N.length cap] 31)) ((A0.out _).block b hbl)
  have HCC := Hid.mk hcell
  clear hcell HC
  obtain ⟨kl, hkl⟩ : ∃ kl, (N[N.length - 1]'hlst).k = kl := ⟨_, rfl⟩
  have HK := Hid.mk hkl
  rw [hkl] at c0
  clear hkl
  have e1 : ((N.length : Int) - 1) = ((N.length - 1 : Nat) : Int) := by omega
  by_cases h7 : kl = 7
  rotate_left
  · have HR := Hid.mk (H1.out (by omega) (by rw [HK.out]; exact h7))
    have h7' : (kl != 7) = true := bne_iff_ne.2 h7
    have hz' : ((N.length : Int) == 0) = false := beq_eq_false_iff_ne.2 (by omega)
    clear H0 H1 H2 H3 HCC HS
    go_enter Tryz.func7, Tryz.ntmps7
    go_wp2
    go_ret
    exact ⟨ret_bn HR.out.symm, A0.out _⟩
  subst h7
  have hz' : ((N.length : Int) == 0) = false := beq_eq_false_iff_ne.2 (by omega)
  have hbig' : ¬ 300 < (N.length : Int) := by omega
  have HT := Hid.mk (H2.out (by omega) (by omega) HK.out)
  clear H0 H1 H2
  have A1 : Hid (Below w.heap.size w (w.alloc (.cells #[.slice (some ⟨b, off, none⟩) N.length cap] 31))) := A0.out _
  go_enter Tryz.func7, Tryz.ntmps7
  go_wp2
  go_loopw [27] (fun i wr => ∃ (k : Nat), k ≤ N.length ∧ i = .int .i64 k ∧ Hid (∀ j (h : j < N.length), j < k → okNd N[j] N.length = true) ∧ Hid (Below (w.heap.size + 1) (w.alloc (.cells #[.slice (some ⟨b, off, none⟩) N.length cap] 31)) wr)) (fun i _ => N.length - (intOf i).toNat)
  case atStart => exact ⟨0, Nat.zero_le _, rfl, fun j _ h => absurd h (Nat.not_lt_zero j), Below.refl _ _⟩
  case round =>
    obtain ⟨k, hk, rfl, HJ, HB⟩ := hrel
    have hc1 := fun o => HB.out.cell (p := ⟨w.heap.size, o, none⟩) (by simp)
    have BW := Hid.mk (A1.out.trans (HB.out.mono (by omega)))
    clear c0 c1 c2 c3
    by_cases hkn : k < N.length
    · have h4 := (HCC.out k hkn).kept (w' := wr) (BW.out.block b hbl)
      have HN := Hid.mk (nodeOk_any N[k] N.length b (off + k * 4) wr h4 (HS.out _ (List.getElem_mem hkn)))
      have HF := Hid.mk (H3.out k hkn)
      have HJ' : Hid (okNd N[k] N.length = true → ∀ j (h : j < N.length), j < k + 1 → okNd N[j] N.length = true) := by
        intro hok j hj hjk
        by_cases hjk' : j < k
        · exact HJ.out j hj hjk'
        · obtain rfl : j = k := by omega
          exact hok
      obtain ⟨c0, c1, c2, c3⟩ := h4
      generalize N[k] = x at c0 c1 c2 c3 HN HF HJ'
      obtain ⟨xk, xs, xa, xb⟩ := x
      simp only at c0 c1 c2 c3
      have hki : (k : Int) < (N.length : Int) := by omega
      generalize okNd ⟨xk, xs, xa, xb⟩ N.length = ok at HN HF HJ'
      go_wp2_with fail
      refine HN.out.mono ?_
      rintro e w2 ⟨rfl, hb2⟩
      have hsz : w.heap.size + 1 ≤ wr.heap.size := by have := HB.out.size; simpa using this
      have HB2 := Hid.mk (HB.out.trans (hb2.mono hsz))
      have BW2 := Hid.mk (BW.out.trans (hb2.mono (by omega)))
      clear hb2 HN BW HB HJ hc1 c0 c1 c2 c3
      cases ok with
      | false =>
        have HR := Hid.mk (HF.out rfl)
        clear HF HJ'
        go_wp2
        go_ret
        exact ⟨ret_bn HR.out.symm, BW2.out⟩
      | true =>
        have HJ2 := Hid.mk (HJ'.out rfl)
        clear HF HJ'
        go_wp2
        go_roundw
        case rel => exact ⟨k + 1, by omega, by go_num, HJ2, HB2⟩
        case measure => simp [intOf]; omega
    · have HR := Hid.mk (HT.out fun j hj => HJ.out j hj (by omega))
      clear HJ HT H3
      go_wp2
      go_ret
      exact ⟨ret_bn HR.out.symm, BW.out⟩

theorem len13_any (x : Int) (r : Bool) (hr : decide (1 ≤ x ∧ x ≤ 300) = r) (w : World) : Calls Tryz.prog 70 #[.int .i64 x, .int .i64 1, .int .i64 300] w fun e w' => e = .returned (.bool r) ∧ w' = w := by
  have HD := Hid.mk hr
  clear hr
  by_cases h : 1 ≤ x
  · by_cases h2 : x ≤ 300
    · have H := Hid.mk ((decide_eq_true (show 1 ≤ x ∧ x ≤ 300 from ⟨h, h2⟩)).symm.trans HD.out)
      go_enter Tryz.func70, Tryz.ntmps70
      go_wp2
      go_ret
      exact ⟨ret_bn H.out, rfl⟩
    · have H := Hid.mk ((decide_eq_false (show ¬ (1 ≤ x ∧ x ≤ 300) from fun q => h2 q.2)).symm.trans HD.out)
      go_enter Tryz.func70, Tryz.ntmps70
      go_wp2
      go_ret
      exact ⟨ret_bn H.out, rfl⟩
  · have H := Hid.mk ((decide_eq_false (show ¬ (1 ≤ x ∧ x ≤ 300) from fun q => h q.1)).symm.trans HD.out)
    go_enter Tryz.func70, Tryz.ntmps70
    go_wp2
    go_ret
    exact ⟨ret_bn H.out, rfl⟩

end Go.Proofs.YtkdjkkldnidmjaaGreatDoor
