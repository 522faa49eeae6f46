/- Onward of the model, at places of a machine. -/
import Derived.Test.YteomhjoodnjfbaaSpecSpread
import Derived.Test.YteomhjoodnjfbaaOnwA
namespace Go.Proofs.Yteomhjoodnjfbaa
open Go.RowKit
set_option maxRecDepth 8000

/-- What the first k of the places go on to with a byte. -/
def onK (N : List Nd) (l : List Int) (c : Int) (k : Nat) (j : Int) : Prop := ∃ i, i < k ∧ ∃ h : i < l.length, tkB (ndAt N (l[i]).toNat) c = true ∧ (ndAt N (l[i]).toNat).a = j
theorem onK_yes {N : List Nd} {l : List Int} {c : Int} {k : Nat} (h : k < l.length) (ht : tkB (ndAt N (l[k]).toNat) c = true) (j : Int) : onK N l c (k + 1) j ↔ onK N l c k j ∨ j = (ndAt N (l[k]).toNat).a := by
  constructor
  · rintro ⟨i, hi, hl, h1, h2⟩
    by_cases e : i = k
    · subst e; exact .inr h2.symm
    · exact .inl ⟨i, by omega, hl, h1, h2⟩
  · rintro (⟨i, hi, hl, h1, h2⟩ | rfl)
    · exact ⟨i, by omega, hl, h1, h2⟩
    · exact ⟨k, by omega, h, ht, rfl⟩
theorem onK_no {N : List Nd} {l : List Int} {c : Int} {k : Nat} (h : k < l.length) (ht : tkB (ndAt N (l[k]).toNat) c = false) (j : Int) : onK N l c (k + 1) j ↔ onK N l c k j := by
  constructor
  · rintro ⟨i, hi, hl, h1, h2⟩
    by_cases e : i = k
    · subst e; rw [ht] at h1; cases h1
    · exact ⟨i, by omega, hl, h1, h2⟩
  · rintro ⟨i, hi, hl, h1, h2⟩
    exact ⟨i, by omega, hl, h1, h2⟩
/-- A rising list of what the first k go on to. -/
def OnS (N : List Nd) (l : List Int) (c : Int) (k : Nat) (ys : List Int) : Prop := Ris ys ∧ (∀ j, j ∈ ys ↔ onK N l c k j) ∧ ys.length ≤ k
theorem OnS.zero (N : List Nd) (l : List Int) (c : Int) : OnS N l c 0 [] := ⟨List.Pairwise.nil, fun j => ⟨(fun h => by cases h), (fun h => by obtain ⟨i, hi, _⟩ := h; omega)⟩, Nat.le_refl _⟩
theorem OnS.yes {N : List Nd} {l : List Int} {c : Int} {k : Nat} {ys zs : List Int} (h : OnS N l c k ys) (hk : k < l.length) (ht : tkB (ndAt N (l[k]).toNat) c = true) (hp : PutL ys (ndAt N (l[k]).toNat).a zs) : OnS N l c (k + 1) zs := by
  refine ⟨hp.1, fun j => ?_, ?_⟩
  · rw [hp.2.1, h.2.1, onK_yes hk ht]
  · have := h.2.2
    rw [hp.2.2]
    split <;> omega
theorem OnS.no {N : List Nd} {l : List Int} {c : Int} {k : Nat} {ys : List Int} (h : OnS N l c k ys) (hk : k < l.length) (ht : tkB (ndAt N (l[k]).toNat) c = false) : OnS N l c (k + 1) ys :=
  ⟨h.1, fun j => by rw [h.2.1, onK_no hk ht], by have := h.2.2; omega⟩

set_option maxHeartbeats 4000000 in
theorem specOnward_any (N : List Nd) (B : Nat → Prop) (v u : Value) (l : List Int) (c : Int) (w : World) (h : Nl w B N v) (hl : Iz w u l) (hin : inN N.length l) (hll : l.length ≤ 300) :
    Calls Try.prog 66 #[.agg #[v], u, .int .u8 c] w fun e w' => ∃ x ys, e = .returned x ∧ OwnZ w' w.heap.size x ys ∧ OnS N l c l.length ys ∧ Below w.heap.size w w' := by
  obtain ⟨ao, cap, rfl, hl1, hm1, -, hsz1, hcN⟩ := id h
  obtain ⟨lo, lc, rfl, hl2, hm2, -, hcL⟩ := id hl
  unfold maxLen at hm1 hm2
  have HC1 := Hid.mk hcN
  have HC2 := Hid.mk hcL
  have HIn := Hid.mk hin
  have HSZ := Hid.mk hsz1
  have A0 : Hid (Below w.heap.size w (w.alloc (.cells #[.slice ao N.length cap] 30))) := (Below.refl _ _).alloc (Nat.le_refl _) _
  have A1 : Hid (Below (w.heap.size + 1) (w.alloc (.cells #[.slice ao N.length cap] 30)) ((w.alloc (.cells #[.slice ao N.length cap] 30)).alloc (.cells #[] 3))) := (Below.refl _ _).alloc (by simp) _
  have O0 : Hid (OwnZ ((w.alloc (.cells #[.slice ao N.length cap] 30)).alloc (.cells #[] 3)) w.heap.size (.slice (some ⟨w.heap.size + 1, 0, none⟩) 0 0) []) := by
    have h0 : OwnZ ((w.alloc (.cells #[.slice ao N.length cap] 30)).alloc (.cells #[] 3)) w.heap.size (.slice (some ⟨(w.alloc (.cells #[.slice ao N.length cap] 30)).heap.size, 0, none⟩) 0 0) [] := World.ownsRow_lit (w.alloc (.cells #[.slice ao N.length cap] 30)) #[] 0 (by simp) (by decide) rfl
    show OwnZ _ _ _ _
    simpa using h0
  clear h hl hin hcN hcL hsz1
  go_enter Try.func66, Try.ntmps66
  go_wp2
  go_loopw [7, 8] (fun q i wr => ∃ (k : Nat) (ys : List Int), k ≤ l.length ∧ i = .int .i64 k ∧ Hid (OwnZ wr w.heap.size q ys) ∧ Hid (OnS N l c k ys) ∧ Hid (Below (w.heap.size + 1) (w.alloc (.cells #[.slice ao N.length cap] 30)) wr)) (fun _ i _ => l.length - (intOf i).toNat)
  case atStart => exact ⟨0, [], Nat.zero_le _, rfl, O0, OnS.zero _ _ _, A1⟩
  case round =>
    obtain ⟨k, ys, hk, rfl, HY, HP, HB⟩ := hrel
    clear A1 O0
    have BW := Hid.mk (A0.out.trans (HB.out.mono (by omega)))
    have hsz : w.heap.size + 1 ≤ wr.heap.size := by have := HB.out.size; simpa using this
    by_cases hkl : k < l.length
    · obtain ⟨b2, off2, rfl, hcell2⟩ := HC2.out (by intro h0; rw [h0] at hkl; simp at hkl)
      have hcc0 := HIn.out l[k] (List.getElem_mem hkl)
      obtain ⟨m, hm⟩ : ∃ m : Nat, l[k] = (m : Int) := ⟨l[k].toNat, by omega⟩
      have hmN : m < N.length := by omega
      obtain ⟨b, off, rfl, _, hcell⟩ := HC1.out (by intro h0; rw [h0] at hmN; simp at hmN)
      have d0 : wr.cell? ⟨w.heap.size, 0, none⟩ = some (.slice (some ⟨b, off, none⟩) N.length cap) := by rw [HB.out.cell (p := ⟨w.heap.size, 0, none⟩) (by simp)]; simp
      have d1 : wr.cell? ⟨b2, off2 + k, none⟩ = some (.int .i64 (m : Int)) := by
        rw [BW.out.cell (p := ⟨b2, off2 + k, none⟩) (World.block_lt_of_cell? w _ (hcell2 k hkl)), hcell2 k hkl, ← hm]
        simp [List.getD, hkl]
      have d2 := (hcell m hmN).kept (w' := wr) (BW.out.block b (World.block_lt_of_cell? w _ (hcell m hmN).1))
      have HXS := Hid.mk (HSZ.out N[m] (List.getElem_mem hmN))
      have HYES : Hid (tkB N[m] c = true → ∀ zs, PutL ys N[m].a zs → OnS N l c (k + 1) zs) := by
        intro ht zs hp
        have e : ndAt N (l[k]).toNat = N[m] := by rw [hm, Int.toNat_natCast, ndAt_eq hmN]
        exact HP.out.yes hkl (by rw [e]; exact ht) (by rw [e]; exact hp)
      have HNO : Hid (tkB N[m] c = false → OnS N l c (k + 1) ys) := by
        intro ht
        have e : ndAt N (l[k]).toNat = N[m] := by rw [hm, Int.toNat_natCast, ndAt_eq hmN]
        exact HP.out.no hkl (by rw [e]; exact ht)
      generalize N[m] = x at d2 HXS HYES HNO
      obtain ⟨xk, xs', xa, xb⟩ := x
      obtain ⟨e0, e1, e2, e3⟩ := d2
      simp only at e0 e1 e2 e3 HXS
      have hkb : (k : Int) < (l.length : Int) := by omega
      have hcb : (m : Int) < (N.length : Int) := by omega
      have hbw := World.block_lt_of_cell? wr _ e0
      have hb2w := World.block_lt_of_cell? wr _ d1
      have hyl := HP.out.2.2
      have HRs := Hid.mk HP.out.1
      clear hcell hcell2 hm hcc0 HC1 HC2 HP
      -- the first region: is the place one of the machine's
      have a0 := cell_regrown d0
      have a1 := cell_regrown d1
      have hwm : IntKind.i64.wrap ((N.length : Int) - 1) = (N.length : Int) - 1 := by rw [IntKind.wrap_i64]; omega
      have hpb : plB (m : Int) N.length = true := by simp [plB]; omega
      have cA0 : Hid (∀ W, Calls Try.prog 58 #[.int .i64 (m : Int), .int .i64 0, .int .i64 ((N.length : Int) - 1)] W fun e w' => e = .returned (.bool true) ∧ Below W.heap.size W w') := fun W => (nIn_any (m : Int) N.length W).mono fun e w' h => ⟨by rw [h.1, hpb], by rw [h.2]; exact Below.refl _ _⟩
      obtain ⟨m1, hm1'⟩ : ∃ m1, (N.length : Int) - 1 = m1 := ⟨_, rfl⟩
      rw [hm1'] at cA0 hwm
      have cA := Hid.mk (fun d os => Calls.regrown_of (w := wr) (d := d) (os := os) (cA0.out _))
      go_wp2_with fail
      refine wp_region_quiet_below (by kernel_rfl) (by kernel_rfl) ?_
      quiet_step (fail)
      quiet_step (fail)
      quiet_step (fail)
      quiet_step (fail)
      quiet_step (fail)
      quiet_step (fail)
      quiet_step (fail)
      quiet_step (fail)
      quiet_step (exact cA.out _ _)
      quiet_step (fail)
      refine wpQuiet_nil ?_
      intro w2 hw'
      obtain ⟨⟨dq, osq⟩, hw''⟩ := hw'
      have hb2 : Below wr.heap.size wr w2 := by rw [hw'']; exact below_regrown _ _ _
      clear hw'' a0 a1 cA cA0 hwm hm1' hpb
      have HB2 := Hid.mk (HB.out.trans (hb2.mono hsz))
      have HY2 := Hid.mk (HY.out.grow hb2)
      have hsz2 : w.heap.size + 1 ≤ w2.heap.size := by have := hb2.size; omega
      have S0 : Hid (Below w2.heap.size w2 w2.drew) := Below.drewSelf _ _ 1
      have HD0 : Hid (∀ w', Below w2.heap.size w2 w' → w'.cell? ⟨w.heap.size, 0, none⟩ = some (.slice (some ⟨b, off, none⟩) N.length cap)) := fun w' hb => by rw [hb.cell (p := ⟨w.heap.size, 0, none⟩) (by simp; omega), hb2.cell (p := ⟨w.heap.size, 0, none⟩) (by simp; omega)]; exact d0
      have HD1 : Hid (∀ w', Below w2.heap.size w2 w' → w'.cell? ⟨b2, off2 + k, none⟩ = some (.int .i64 (m : Int))) := fun w' hb => by rw [hb.cell (p := ⟨b2, off2 + k, none⟩) (Nat.lt_of_lt_of_le hb2w hb2.size), hb2.cell (p := ⟨b2, off2 + k, none⟩) hb2w]; exact d1
      have HD2 : Hid (∀ w', Below w2.heap.size w2 w' → At4 w' b (off + m * 4) ⟨xk, xs', xa, xb⟩) := fun w' hb => At4.kept (w := wr) ⟨e0, e1, e2, e3⟩ ((hb.block b (Nat.lt_of_lt_of_le hbw hb2.size)).trans (hb2.block b hbw))
      clear HB HY BW hb2
      go_wp2_with fail
      refine wp_region_held_drew (S := Below w2.heap.size w2) (by kernel_rfl) S0.out (fun _ => ?_)
      refine takeHD (i := 0) (v := .pointer (some ⟨w.heap.size, 0, none⟩)) (some 27) rfl rfl (by kernel_rfl) (by kernel_rfl) (by kernel_rfl) (fun _ _ _ h => h) (Or.inl ⟨by kernel_rfl, fun w' hw => ?_⟩) S0.out ?_
      · go_simp
      simp only [Act.put, List.setIfInBounds_toArray]
      refine takeHD (i := 1) (v := .slice (some ⟨b, off, none⟩) N.length cap) (some 28) rfl rfl (by kernel_rfl) (by kernel_rfl) (by kernel_rfl) (fun _ _ _ h => h) (Or.inl ⟨by kernel_rfl, fun w' hw => ?_⟩) S0.out ?_
      · have hx := HD0.out w' hw; go_simp
      simp only [Act.put, List.setIfInBounds_toArray]
      refine takeHD (i := 2) (v := .slice (some ⟨b2, off2, none⟩) l.length lc) (some 29) rfl rfl (by kernel_rfl) (by kernel_rfl) (by kernel_rfl) (fun _ _ _ h => h) (Or.inl ⟨by kernel_rfl, fun w' hw => ?_⟩) S0.out ?_
      · go_simp
      simp only [Act.put, List.setIfInBounds_toArray]
      refine takeHD (i := 3) (v := .int .i64 (k : Int)) (some 30) rfl rfl (by kernel_rfl) (by kernel_rfl) (by kernel_rfl) (fun _ _ _ h => h) (Or.inl ⟨by kernel_rfl, fun w' hw => ?_⟩) S0.out ?_
      · go_simp
      simp only [Act.put, List.setIfInBounds_toArray]
      refine takeHD (i := 4) (v := .pointer (some ⟨b2, off2 + k, none⟩)) (some 31) rfl rfl (by kernel_rfl) (by kernel_rfl) (by kernel_rfl) (fun _ _ _ h => h) (Or.inl ⟨by kernel_rfl, fun w' hw => ?_⟩) S0.out ?_
      · go_simp
      simp only [Act.put, List.setIfInBounds_toArray]
      refine takeHD (i := 5) (v := .int .i64 (m : Int)) (some 32) rfl rfl (by kernel_rfl) (by kernel_rfl) (by kernel_rfl) (fun _ _ _ h => h) (Or.inl ⟨by kernel_rfl, fun w' hw => ?_⟩) S0.out ?_
      · have hx := HD1.out w' hw; go_simp
      simp only [Act.put, List.setIfInBounds_toArray]
      refine takeHD (i := 6) (v := .pointer (some ⟨b, off + m * 4, none⟩)) (some 33) rfl rfl (by kernel_rfl) (by kernel_rfl) (by kernel_rfl) (fun _ _ _ h => h) (Or.inl ⟨by kernel_rfl, fun w' hw => ?_⟩) S0.out ?_
      · go_simp
      simp only [Act.put, List.setIfInBounds_toArray]
      refine takeHD (i := 7) (v := ndV ⟨xk, xs', xa, xb⟩) (some 34) rfl rfl (by kernel_rfl) (by kernel_rfl) (by kernel_rfl) (fun _ _ _ h => h) (Or.inl ⟨by kernel_rfl, fun w' hw => ?_⟩) S0.out ?_
      · obtain ⟨x0, x1, x2, x3⟩ := HD2.out w' hw; simp only at x0 x1 x2 x3; go_simp
      simp only [Act.put, List.setIfInBounds_toArray]
      refine wpAnyH_ready (rs := [8]) (by kernel_rfl) (by simp) ?_
      refine AllReadyH.cons rfl (fun K hK => ?_) AllReadyH.nil
      rw [if_pos (by kernel_rfl)]
      go_wp2_with fail
      have S8 : Hid (Below w2.heap.size w2 (w2.drew.alloc (.cells #[.int .i64 0, .string ⟨#[]⟩, .int .i64 0, .int .i64 0] 82))) := S0.out.alloc (by simp) _
      refine hK.out _ _ S8.out (fun _ => ?_)
      clear hK K
      refine wpAnyH_ready (rs := [9]) (by kernel_rfl) (by simp) ?_
      refine AllReadyH.cons rfl (fun K hK => ?_) AllReadyH.nil
      rw [if_pos (by kernel_rfl)]
      go_wp2_with fail
      have S9 : Hid (Below w2.heap.size w2 ((w2.alloc (.cells #[.int .i64 xk, .string xs', .int .i64 xa, .int .i64 xb] 82)).drew)) := ((Below.refl w2.heap.size w2).alloc (Nat.le_refl _) _).trans (Below.drewSelf _ _ 1)
      refine hK.out _ _ S9.out (fun _ => ?_)
      clear hK K
      refine wpAnyH_done (by kernel_rfl) ?_ _
      have f0 : ((w2.alloc (.cells #[.int .i64 xk, .string xs', .int .i64 xa, .int .i64 xb] 82)).drew).cell? ⟨w2.heap.size, 0, none⟩ = some (.int .i64 xk) := by simp
      have f1 : ((w2.alloc (.cells #[.int .i64 xk, .string xs', .int .i64 xa, .int .i64 xb] 82)).drew).cell? ⟨w2.heap.size, 1, none⟩ = some (.string xs') := by simp
      have f2 : ((w2.alloc (.cells #[.int .i64 xk, .string xs', .int .i64 xa, .int .i64 xb] 82)).drew).cell? ⟨w2.heap.size, 2, none⟩ = some (.int .i64 xa) := by simp
      generalize ((w2.alloc (.cells #[.int .i64 xk, .string xs', .int .i64 xa, .int .i64 xb] 82)).drew) = W9 at S9 f0 f1 f2 ⊢
      have HY9 := Hid.mk (HY2.out.grow S9.out)
      have HB9 := Hid.mk (HB2.out.trans (S9.out.mono hsz2))
      have hsz9 : w.heap.size + 1 ≤ W9.heap.size := by have := S9.out.size; omega
      clear S0 S8 S9 HD0 HD1 HD2 e0 e1 e2 e3 d0 d1 HY2 HB2 hsz2 hsz
      by_cases hk2 : xk = 2
      · subst hk2
        have htk : tkB ⟨2, xs', xa, xb⟩ c = true := rfl
        have HQ := Hid.mk (l4Put_any ys xa _ W9 HY9.out.iz HRs.out (by omega))
        go_wp2_with fail
        refine HQ.out.mono ?_
        rintro e w10 ⟨x10, y10, rfl, ho10, hp10, hb10⟩
        have HY10 := Hid.mk (ho10.mono (base' := w.heap.size) (by omega))
        have HP10 := Hid.mk (HYES.out htk y10 hp10)
        have HB10 := Hid.mk (HB9.out.trans (hb10.mono (by omega)))
        clear ho10 hp10 hb10 HQ HY9 HB9 HYES HNO f0 f1 f2
        go_wp2
        go_roundw
        case rel => exact ⟨k + 1, y10, by omega, by go_num, HY10, HP10, HB10⟩
        case measure => simp [intOf]; omega
      · have h2 : (xk == 2) = false := beq_eq_false_iff_ne.2 hk2
        by_cases hk1 : xk = 1
        · subst hk1
          have HT := Hid.mk (l4Takes_none xs' c W9 HXS.out)
          have ht : tkB ⟨1, xs', xa, xb⟩ c = hasB xs' c := by simp [tkB]
          generalize hasB xs' c = hb at HT ht
          go_wp2_with fail
          refine HT.out.mono ?_
          rintro e W10 ⟨rfl, hW10⟩
          obtain rfl := hW10.symm
          clear hW10 HT
          cases hb with
          | true =>
            have htk : tkB ⟨1, xs', xa, xb⟩ c = true := ht
            have HQ := Hid.mk (l4Put_any ys xa _ W9 HY9.out.iz HRs.out (by omega))
            go_wp2_with fail
            refine HQ.out.mono ?_
            rintro e w10 ⟨x10, y10, rfl, ho10, hp10, hb10⟩
            have HY10 := Hid.mk (ho10.mono (base' := w.heap.size) (by omega))
            have HP10 := Hid.mk (HYES.out htk y10 hp10)
            have HB10 := Hid.mk (HB9.out.trans (hb10.mono (by omega)))
            clear ho10 hp10 hb10 HQ HY9 HB9 HYES HNO f0 f1 f2
            go_wp2
            go_roundw
            case rel => exact ⟨k + 1, y10, by omega, by go_num, HY10, HP10, HB10⟩
            case measure => simp [intOf]; omega
          | false =>
            have htk : tkB ⟨1, xs', xa, xb⟩ c = false := ht
            have HP9 := Hid.mk (HNO.out htk)
            clear HYES HNO
            go_wp2
            go_roundw
            case rel => exact ⟨k + 1, ys, by omega, by go_num, HY9, HP9, HB9⟩
            case measure => simp [intOf]; omega
        · have h1 : (xk == 1) = false := beq_eq_false_iff_ne.2 hk1
          by_cases hk3 : xk = 3
          · subst hk3
            have HT := Hid.mk (l4Takes_none xs' c W9 HXS.out)
            have ht : tkB ⟨3, xs', xa, xb⟩ c = hasB xs' c := by simp [tkB]
            have h31 : ((3 : Int) == 1) = false := rfl
            generalize hasB xs' c = hb at HT ht
            go_wp2_with fail
            refine HT.out.mono ?_
            rintro e W10 ⟨rfl, hW10⟩
            obtain rfl := hW10.symm
            clear hW10 HT
            cases hb with
            | true =>
              have htk : tkB ⟨3, xs', xa, xb⟩ c = true := ht
              have HQ := Hid.mk (l4Put_any ys xa _ W9 HY9.out.iz HRs.out (by omega))
              go_wp2_with fail
              refine HQ.out.mono ?_
              rintro e w10 ⟨x10, y10, rfl, ho10, hp10, hb10⟩
              have HY10 := Hid.mk (ho10.mono (base' := w.heap.size) (by omega))
              have HP10 := Hid.mk (HYES.out htk y10 hp10)
              have HB10 := Hid.mk (HB9.out.trans (hb10.mono (by omega)))
              clear ho10 hp10 hb10 HQ HY9 HB9 HYES HNO f0 f1 f2
              go_wp2
              go_roundw
              case rel => exact ⟨k + 1, y10, by omega, by go_num, HY10, HP10, HB10⟩
              case measure => simp [intOf]; omega
            | false =>
              have htk : tkB ⟨3, xs', xa, xb⟩ c = false := ht
              have HP9 := Hid.mk (HNO.out htk)
              clear HYES HNO
              go_wp2
              go_roundw
              case rel => exact ⟨k + 1, ys, by omega, by go_num, HY9, HP9, HB9⟩
              case measure => simp [intOf]; omega
          · have h3 : (xk == 3) = false := beq_eq_false_iff_ne.2 hk3
            have htk : tkB ⟨xk, xs', xa, xb⟩ c = false := by simp [tkB, hk2, hk1, hk3]
            have HP9 := Hid.mk (HNO.out htk)
            clear HYES HNO
            go_wp2
            go_roundw
            case rel => exact ⟨k + 1, ys, by omega, by go_num, HY9, HP9, HB9⟩
            case measure => simp [intOf]; omega
    · have e : k = l.length := by omega
      subst e
      clear HC1 HC2
      go_wp2
      go_ret
      exact ⟨_, ys, rfl, HY.out, HP.out, BW.out⟩
end Go.Proofs.Yteomhjoodnjfbaa
