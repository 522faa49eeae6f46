/- Nodes copied by the laws; a copy is the same. -/
import Derived.Test.YteomhjoodnjfbaaNodeTo
namespace Go.Proofs.Yteomhjoodnjfbaa
open Go.RowKit
set_option maxRecDepth 8000

/-- The first k nodes are laid. -/
def filN (N : List Nd) (k : Nat) : List Nd := N.take k ++ List.replicate (N.length - k) nd0
theorem filN_len (N : List Nd) (k : Nat) (h : k ≤ N.length) : (filN N k).length = N.length := by simp [filN]; omega
theorem filN_zero (N : List Nd) : filN N 0 = List.replicate N.length nd0 := by simp [filN]
theorem filN_all (N : List Nd) : filN N N.length = N := by simp [filN]
theorem filN_set (N : List Nd) (k : Nat) (h : k < N.length) : (filN N k).set k N[k] = filN N (k + 1) := by
  unfold filN
  rw [List.set_append_right _ _ (by simp; omega), show k - (N.take k).length = 0 by simp; omega, show N.length - k = N.length - (k + 1) + 1 by omega, List.replicate_succ, List.set_cons_zero, List.take_succ_eq_append_getElem h, List.append_assoc]
  rfl

set_option maxHeartbeats 1000000 in
theorem toNodeS_any (N : List Nd) (B : Nat → Prop) (v : Value) (w : World) (h : Nl w B N v) (hsz : N.length ≤ 1048576) :
    Calls Try.prog 61 #[v] w fun e w' => e = .returned (.slice (some ⟨w.heap.size, 0, none⟩) N.length N.length) ∧ NB w' w.heap.size N ∧ Below w.heap.size w w' := by
  obtain ⟨ao, cap, rfl, hl, hm, hn, hs, hc⟩ := h
  unfold maxLen at hm
  have HC := Hid.mk hc
  clear hs hc
  have HZ : Hid (∀ w', NB w' w.heap.size (filN N N.length) → NB w' w.heap.size N) := by intro w' h; rw [filN_all] at h; exact h
  obtain ⟨i0, hi, hz0, hz1, hz2⟩ := info_parts infoNode
  obtain ⟨n, hnn⟩ : ∃ n, N.length = n := ⟨_, rfl⟩
  have HN := Hid.mk hnn
  rw [hnn] at hl hsz HZ
  rw [hnn]
  clear hnn
  go_enter Try.func61, Try.ntmps61
  go_wp2_with (at_make; refine wpList_make_full _ rfl _ _ 28 rfl 0 82 i0 _ 4 Try.underlying28 hi hz0 hz1 _ _ _ _ n rfl rfl rfl rfl (by rw [hz2]; omega) (by unfold maxLen; omega) (by simp) ?_)
  intro w1 hown hgrow
  have H1 : Hid (NB w1 w.heap.size (filN N 0)) := by
    have h := own_fullN hown
    show NB _ _ _
    unfold NB
    rw [h, filN_zero, HN.out, ← made_nd n]
    rfl
  have B1 : Hid (Below w.heap.size w w1) := (Below.refl _ _).grown hgrow (Nat.le_refl _) (by simp)
  clear hown hgrow hi hz0 hz1 hz2
  go_wp2
  go_loopw [4] (fun i wr => ∃ (k : Nat), k ≤ n ∧ i = .int .i64 k ∧ Hid (NB wr w.heap.size (filN N k)) ∧ Hid (Below w.heap.size w wr)) (fun i _ => n - (intOf i).toNat)
  case atStart => exact ⟨0, Nat.zero_le _, rfl, H1, B1⟩
  case round =>
    obtain ⟨k, hk, rfl, HF, HB⟩ := hrel
    clear H1 B1
    by_cases hkl : k < n
    · have hkN : k < N.length := by rw [HN.out]; exact hkl
      obtain ⟨b, off, rfl, _, hcell⟩ := HC.out (by intro h0; rw [h0] at hkN; simp at hkN)
      have h4 := hcell k hkN
      have hbl := World.block_lt_of_cell? w _ h4.1
      obtain ⟨c0, c1, c2, c3⟩ := h4.kept (w' := wr) (HB.out.block b hbl)
      have HT : Hid (∀ w', NB w' w.heap.size (filN N k) → NB (stN w' w.heap.size k N[k]) w.heap.size (filN N (k + 1))) := by
        intro w' h
        rw [← filN_set N k hkN]
        exact h.set (by rw [filN_len N k (by omega)]; exact hkN) _
      have hlen := filN_len N k (by omega)
      have HX := Hid.mk (toNode_any N[k] wr)
      generalize N[k] = x at c0 c1 c2 c3 HX HT
      obtain ⟨xk, xs, xa, xb⟩ := x
      simp only at c0 c1 c2 c3 HX HT
      have hki : (k : Int) < (n : Int) := by omega
      clear hcell h4
      go_wp2_with fail
      refine HX.out.mono ?_
      rintro e w2 ⟨rfl, hb2⟩
      have HB2 := Hid.mk (HB.out.trans (hb2.mono HB.out.size))
      have hF := HF.out.grow hb2
      have HF2 := Hid.mk (HT.out w2 hF)
      obtain ⟨o0, o1, o2, o3⟩ := hF.at4 (i := k) (by rw [hlen]; exact hkN)
      generalize (filN N k)[k]'(by rw [hlen]; exact hkN) = y at o0 o1 o2 o3
      have f0 := hF.fr (k * 4)
      have f1 := hF.fr (k * 4 + 1)
      have f2 := hF.fr (k * 4 + 2)
      have f3 := hF.fr (k * 4 + 3)
      have hk0 : 0 < n := by omega
      clear hb2 hF HX HF HB HT c0 c1 c2 c3 hlen
      go_wp2
      go_roundw
      case rel => exact ⟨k + 1, by omega, by go_num, HF2, (((HB2.out.setCell (Nat.le_refl _) _).setCell (Nat.le_refl _) _).setCell (Nat.le_refl _) _).setCell (Nat.le_refl _) _⟩
      case measure => simp [intOf]; omega
    · have e : k = n := by omega
      subst e
      go_wp2
      go_ret
      exact ⟨rfl, HZ.out _ HF.out, HB.out⟩

set_option maxHeartbeats 1000000 in
theorem toNfa_any (N : List Nd) (B : Nat → Prop) (v : Value) (w : World) (h : Nl w B N v) (hsz : N.length ≤ 1048576) :
    Calls Try.prog 17 #[.agg #[v]] w fun e w' => ∃ g, e = .returned (.agg #[.slice (some ⟨g, 0, none⟩) N.length N.length]) ∧ w.heap.size ≤ g ∧ NB w' g N ∧ Below w.heap.size w w' := by
  have HC := Hid.mk (fun w' (hb : Below w.heap.size w w') => toNodeS_any N B v w' (h.grow hb) hsz)
  obtain ⟨ao, cap, rfl, -⟩ := h
  generalize N.length = n at HC
  go_enter Try.func17, Try.ntmps17
  go_wp2_with fail
  refine (HC.out _ ?_).mono ?_
  · exact ((((Below.refl _ _).alloc (Nat.le_refl _) _).alloc (by simp) _).alloc (by simp; omega) _)
  rintro e w1 ⟨rfl, hb, hb1⟩
  have hc1 := fun o => hb1.cell (p := ⟨w.heap.size + 1, o, none⟩) (by simp)
  have hc2 := fun o => hb1.cell (p := ⟨w.heap.size + 1 + 1, o, none⟩) (by simp)
  have hf1 := fun o => hb1.frozen (p := ⟨w.heap.size + 1, o, none⟩) (by simp)
  have hf2 := fun o => hb1.frozen (p := ⟨w.heap.size + 1 + 1, o, none⟩) (by simp)
  have HR := Hid.mk hb
  have HB := Hid.mk hb1
  clear hb hb1 HC
  have hlt : w.heap.size ≤ (((w.alloc (.cells #[.slice ao n cap] 24)).alloc (.cells #[.slice none 0 0] 30)).alloc (.cells #[.slice none 0 0] 30)).heap.size := by simp; omega
  have hne : w.heap.size + 1 + 1 ≠ (((w.alloc (.cells #[.slice ao n cap] 24)).alloc (.cells #[.slice none 0 0] 30)).alloc (.cells #[.slice none 0 0] 30)).heap.size := by simp
  have hne' : w.heap.size + 1 ≠ (((w.alloc (.cells #[.slice ao n cap] 24)).alloc (.cells #[.slice none 0 0] 30)).alloc (.cells #[.slice none 0 0] 30)).heap.size := by simp
  have BA : Hid (Below w.heap.size w w1) := (((((Below.refl _ _).alloc (Nat.le_refl _) _).alloc (by simp) _).alloc (by simp; omega) _).trans (HB.out.mono (by simp; omega)))
  generalize (((w.alloc (.cells #[.slice ao n cap] 24)).alloc (.cells #[.slice none 0 0] 30)).alloc (.cells #[.slice none 0 0] 30)).heap.size = g at HR hlt hne hne' ⊢
  clear HB
  go_wp2
  refine bodyPost_ret (v := .agg #[.slice (some ⟨g, 0, none⟩) n n]) ?_ rfl ⟨g, rfl, hlt, ?_, ?_⟩
  · simp [results, Try.results17, go_sem, hc1]
  · exact HR.out.kept (by rw [heap_setCell_other _ _ _ _ (fun h => hne' h.symm), heap_setCell_other _ _ _ _ (fun h => hne h.symm)])
  · exact (BA.out.setCell (Nat.le_trans (Nat.le_succ _) (Nat.le_succ _)) _).setCell (Nat.le_succ _) _

set_option maxHeartbeats 1000000 in
theorem eqNode_same (x : Nd) (w : World) : Calls Try.prog 101 #[ndV x, ndV x] w fun e w' => e = .returned (.bool true) ∧ Below w.heap.size w w' := by
  obtain ⟨k, s, a, b⟩ := x
  have h1 : (k != k) = false := by simp
  have h2 : (a != a) = false := by simp
  have h3 : (b != b) = false := by simp
  have h4 : (s.toList != s.toList) = false := by simp
  have A0 : Hid (∀ o o', Below w.heap.size w ((w.alloc o).alloc o')) := fun o o' => ((Below.refl _ _).alloc (Nat.le_refl _) _).alloc (by simp) _
  go_enter Try.func101, Try.ntmps101
  go_wp2
  go_ret
  exact ⟨rfl, A0.out _ _⟩

set_option maxHeartbeats 1000000 in
theorem eqNodeS_same (N : List Nd) (B C : Nat → Prop) (v u : Value) (w : World) (h : Nl w B N v) (h' : Nl w C N u) :
    Calls Try.prog 64 #[v, u] w fun e w' => e = .returned (.bool true) ∧ Below w.heap.size w w' := by
  obtain ⟨ao, cap, rfl, hl, hm, -, -, hc⟩ := h
  obtain ⟨ao', cap', rfl, hl', hm', -, -, hc'⟩ := h'
  unfold maxLen at hm hm'
  have HC := Hid.mk hc
  have HC' := Hid.mk hc'
  clear hc hc'
  have hll : ((N.length : Int) != (N.length : Int)) = false := by simp
  go_enter Try.func64, Try.ntmps64
  go_wp2
  go_loopw [5] (fun i wr => ∃ (k : Nat), k ≤ N.length ∧ i = .int .i64 k ∧ Hid (Below w.heap.size w wr)) (fun i _ => N.length - (intOf i).toNat)
  case atStart => exact ⟨0, Nat.zero_le _, rfl, Below.refl _ _⟩
  case round =>
    obtain ⟨k, hk, rfl, HB⟩ := hrel
    by_cases hkl : k < N.length
    · obtain ⟨b, off, rfl, _, hcell⟩ := HC.out (by intro h0; rw [h0] at hkl; simp at hkl)
      obtain ⟨b', off', rfl, _, hcell'⟩ := HC'.out (by intro h0; rw [h0] at hkl; simp at hkl)
      have h4 := hcell k hkl
      have h4' := hcell' k hkl
      obtain ⟨c0, c1, c2, c3⟩ := h4.kept (w' := wr) (HB.out.block b (World.block_lt_of_cell? w _ h4.1))
      obtain ⟨d0, d1, d2, d3⟩ := h4'.kept (w' := wr) (HB.out.block b' (World.block_lt_of_cell? w _ h4'.1))
      generalize N[k] = x at c0 c1 c2 c3 d0 d1 d2 d3
      have cA := Hid.mk (fun d os => Calls.regrown_of (w := wr) (d := d) (os := os) (eqNode_same x _))
      obtain ⟨xk, xs, xa, xb⟩ := x
      simp only at c0 c1 c2 c3 d0 d1 d2 d3 cA
      have a0 := cell_regrown c0
      have a1 := cell_regrown c1
      have a2 := cell_regrown c2
      have a3 := cell_regrown c3
      have b0 := cell_regrown d0
      have b1 := cell_regrown d1
      have b2 := cell_regrown d2
      have b3 := cell_regrown d3
      have hki : (k : Int) < (N.length : Int) := by omega
      clear hcell h4 hcell' h4' c0 c1 c2 c3 d0 d1 d2 d3
      go_wp2_with fail
      refine wp_region_quiet_below (by kernel_rfl) (by kernel_rfl) ?_
      quiet_step (fail)
      quiet_step (fail)
      quiet_step (fail)
      quiet_step (fail)
      quiet_step (fail)
      quiet_step (fail)
      quiet_step (fail)
      quiet_step (fail)
      quiet_step (exact cA.out _ _)
      quiet_step (fail)
      refine wpQuiet_nil ?_
      intro w6 hw'
      obtain ⟨⟨dq, osq⟩, hw''⟩ := hw'
      have hb6 : Below wr.heap.size wr w6 := by rw [hw'']; exact below_regrown _ _ _
      have HB2 := Hid.mk (HB.out.trans (hb6.mono HB.out.size))
      clear hw'' a0 a1 a2 a3 b0 b1 b2 b3 cA hb6 HB
      go_wp2
      go_roundw
      case rel => exact ⟨k + 1, by omega, by go_num, HB2⟩
      case measure => simp [intOf]; omega
    · go_wp2
      go_ret
      exact ⟨rfl, HB.out⟩

set_option maxHeartbeats 1000000 in
theorem eqNfa_same (N : List Nd) (B C : Nat → Prop) (v u : Value) (w : World) (h : Nl w B N v) (h' : Nl w C N u) :
    Calls Try.prog 21 #[.agg #[v], .agg #[u]] w fun e w' => e = .returned (.bool true) ∧ Below w.heap.size w w' := by
  have HC := Hid.mk (fun w' (hb : Below w.heap.size w w') => eqNodeS_same N B C v u w' (h.grow hb) (h'.grow hb))
  obtain ⟨ao, cap, rfl, -⟩ := h
  obtain ⟨ao', cap', rfl, -⟩ := h'
  go_enter Try.func21, Try.ntmps21
  go_wp2_with fail
  refine (HC.out _ (((Below.refl _ _).alloc (Nat.le_refl _) _).alloc (by simp) _)).mono ?_
  rintro e w1 ⟨rfl, hb1⟩
  have B1 := Hid.mk ((((Below.refl w.heap.size w).alloc (Nat.le_refl _) _).alloc (by simp) _).trans (hb1.mono (by simp; omega)))
  clear hb1 HC
  go_wp2
  go_ret
  exact ⟨rfl, B1.out⟩
end Go.Proofs.Yteomhjoodnjfbaa
