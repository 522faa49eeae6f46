/- The model's reader: one that stands alone. The model's reader: a byte that stands for itself, and what cannot be read. The model's reader: a set. The model's reader: one behind the other, one or the other. -/
import Derived.Test.YtbbhikbdbndefaaGreatPk1
import Derived.Test.YtbbhikbdbndefaaGreatTake
import Derived.Deep.LoopGhost
namespace Go.Proofs.YtbbhikbdbndefaaGreat
open Go.RowKit
set_option maxRecDepth 8000

theorem takeWhile_stop (p : Int → Bool) : ∀ (L : List Int) (m : Nat), m ≤ L.length → (∀ i (h : i < L.length), i < m → p L[i] = true) → (∀ (h : m < L.length), p L[m] = false) → L.takeWhile p = L.take m := by
  intro L
  induction L with
  | nil => intro m _ _ _; simp
  | cons c r ih =>
    intro m hm hall hstop
    cases m with
    | zero =>
      have := hstop (by simp)
      rw [List.takeWhile_cons_of_neg (by simpa using this)]; rfl
    | succ m =>
      have h0 := hall 0 (by simp) (by omega)
      rw [List.takeWhile_cons_of_pos (by simpa using h0), List.take_succ_cons, ih m (by simpa using hm) (fun i hi him => by have := hall (i + 1) (by simpa using hi) (by omega); simpa using this) (fun hh => by have := hstop (by simpa using hh); simpa using this)]

theorem set_found (s : ByteArray) (a q : Nat) (ha : a ≤ q) (hq : q ≤ s.size) (hall : ∀ j (h : j < s.size), a ≤ j → j < q → ((s[j].toNat : Nat) : Int) ≠ 93) (hstop : ∀ (h : q < s.size), ((s[q].toNat : Nat) : Int) = 93) :
    ((txt s).drop a).takeWhile ne93 = ((txt s).drop a).take (q - a) := by
  have hg : ∀ i (h : i < ((txt s).drop a).length) (h' : a + i < s.size), ((txt s).drop a)[i] = ((s[a + i].toNat : Nat) : Int) := by
    intro i h h'
    rw [List.getElem_drop]
    simp [txt]
    rfl
  apply takeWhile_stop
  · rw [List.length_drop, txt_length]; omega
  · intro i hi him
    have hl : a + i < s.size := by rw [List.length_drop, txt_length] at hi; omega
    rw [hg i hi hl]
    have := hall (a + i) hl (by omega) (by omega)
    simpa [ne93] using this
  · intro hh
    have hl : a + (q - a) < s.size := by rw [List.length_drop, txt_length] at hh; omega
    rw [hg _ hh hl]
    have e : a + (q - a) = q := by omega
    have := hstop (by omega)
    simp only [e, ne93]
    rw [this]; rfl

theorem run_byte (c : Int) (h0 : 0 ≤ c) (h1 : c ≤ 255) (w : World) :
    (convert 72 9 (.slice (some ⟨w.heap.size, 0, none⟩) 1 1)).run Tryz.prog (w.alloc (.cells #[.int .u8 c] 5)) = .ok (.string (strOf [c])) (w.alloc (.cells #[.int .u8 c] 5)) := run_strOf (Bs.one w c h0 h1) rfl

set_option maxHeartbeats 4000000 in
theorem atom_end (n : Nat) (d : Int) (hd : d ≤ 9) (s : ByteArray) (R p : Nat) (w : World) (h : Sds w R s p false d) (hp : p ≤ s.size) (he : s.size ≤ p) :
    Calls Tryz.prog 99 #[.pointer (some ⟨R, 0, none⟩)] w fun e w' => SpOk w w' R s p d e (rdAtom (rd n) ((txt s).drop p)) := by
  obtain ⟨h0, hne, hb0, hg0⟩ := pre_boxS h
  have HS0 := Hid.mk h0
  have HB0 := Hid.mk hb0
  have HG0 := Hid.mk hg0
  have hRl := h.lt
  have c0 := h0.c0
  have c1 := h0.c1
  have c2 := h0.c2
  have HE : Hid (rdAtom (rd n) ((txt s).drop p) = none) := by show _ = _; rw [txt_end he, rdAtom]
  clear h h0 hb0 hg0
  go_enter Tryz.func99, Tryz.ntmps99
  go_wp2_with fail
  refine wp_region_quiet_lit (by kernel_rfl) (by kernel_rfl) (Qt.out ?_)
  refine Qt.step (fun K hK => ?_)
  go_simp
  refine hK _ ?_
  clear hK K
  refine Qt.step (fun K hK => ?_)
  go_simp
  refine hK _ ?_
  clear hK K
  refine Qt.step (fun K hK => ?_)
  go_simp
  refine hK _ ?_
  clear hK K
  refine Qt.step (fun K hK => ?_)
  go_simp
  refine hK _ ?_
  clear hK K
  refine Qt.step (fun K hK => ?_)
  go_simp
  refine hK _ ?_
  clear hK K
  refine Qt.step (fun K hK => ?_)
  go_simp
  refine hK _ ?_
  clear hK K
  refine Qt.step (fun K hK => ?_)
  go_simp
  refine hK _ ?_
  clear hK K
  refine Qt.step (fun K hK => ?_)
  go_simp
  refine hK _ ?_
  clear hK K
  refine Qt.step (fun K hK => ?_)
  go_simp
  refine hK _ ?_
  clear hK K
  refine Qt.step (fun K hK => ?_)
  go_simp
  refine hK _ ?_
  clear hK K
  refine Qt.step (fun K hK => ?_)
  go_simp
  refine hK _ ?_
  clear hK K
  refine Qt.step (fun K hK => ?_)
  go_simp
  refine hK _ ?_
  clear hK K
  refine Qt.step (fun K hK => ?_)
  go_simp
  refine hK _ ?_
  clear hK K
  refine Qt.step (fun K hK => ?_)
  go_simp
  refine hK _ ?_
  clear hK K
  refine Qt.step (fun K hK => ?_)
  go_simp
  refine hK _ ?_
  clear hK K
  refine Qt.step (fun K hK => ?_)
  go_simp
  refine hK _ ?_
  clear hK K
  refine Qt.nil ?_
  intro _ hw'
  obtain ⟨nq, hw''⟩ := hw'
  subst hw''
  have HS1 := Hid.mk (HS0.out.drew nq)
  have HB1 := Hid.mk (HB0.out.gb (gb_drew _ R nq) hne)
  have HG1 := Hid.mk (gb_trans HG0.out (gb_drew _ R nq))
  have HBad := Hid.mk (l3Bad_any s R p false d _ HS1.out)
  clear HS0 HB0 HG0 c0 c1 c2
  go_wp2_with fail
  refine HBad.out.mono ?_
  rintro e w7 ⟨rfl, hg7, hr7, hz7⟩
  have HB7 := Hid.mk (HB1.out.gb hg7 hne)
  have HG7 := Hid.mk (gb_trans HG1.out hg7)
  have HS7 := Hid.mk hr7
  clear HBad hg7 hr7 HB1 HG1 HS1
  have c0 := HB7.out.c0
  have c1 := HB7.out.c1
  have c2 := HB7.out.c2
  have f0 := HB7.out.fr
  go_wp2
  have hput := HB7.out.put (.int .i64 0) (.string ⟨#[]⟩) (.slice none 0 0)
  have hgp := gb_set3 HG7.out (Nat.le_refl _) (.int .i64 0) (.string ⟨#[]⟩) (.slice none 0 0)
  have hrp := HS7.out.set3 (Ne.symm hne) (.int .i64 0) (.string ⟨#[]⟩) (.slice none 0 0)
  unfold set3 at hput hgp hrp
  generalize ((w7.setCell ⟨w.heap.size, 0, none⟩ (.int .i64 0)).setCell ⟨w.heap.size, 1, none⟩ (.string ⟨#[]⟩)).setCell ⟨w.heap.size, 2, none⟩ (.slice none 0 0) = W at hput hgp hrp ⊢
  have r0 := hput.c0
  have r1 := hput.c1
  have r2 := hput.c2
  refine bodyPost_ret (v := .agg #[.int .i64 0, .string ⟨#[]⟩, .slice none 0 0]) ?_ rfl ⟨hgp, leaf 0, _, p, rfl, (ow_leaf w anyBlock 0).1, Ow.none _, by omega, by omega, Or.inl ⟨HE.out, d, hrp, by omega, by omega⟩⟩
  simp [results, Tryz.results99, go_sem, r0, r1, r2]

set_option maxHeartbeats 8000000 in
theorem atom_leafs (n : Nat) (d : Int) (s : ByteArray) (R p : Nat) (w : World) (h : Sds w R s p false d) (hlt : p < s.size) (hs : s.size ≤ 1048576) (c : Int) (hc : ((s[p].toNat : Nat) : Int) = c) (hc3 : c = 46 ∨ c = 94 ∨ c = 36) :
    Calls Tryz.prog 99 #[.pointer (some ⟨R, 0, none⟩)] w fun e w' => SpOk w w' R s p d e (rdAtom (rd n) ((txt s).drop p)) := by
  have HAT : Hid (rdAtom (rd n) ((txt s).drop p) = rdAtom (rd n) (c :: (txt s).drop (p + 1))) := by show _ = _; rw [txt_head hlt, hc]
  rcases hc3 with h46 | h94 | h36
  · have HE : Hid (rdAtom (rd n) ((txt s).drop p) = some (leaf 2, (txt s).drop (p + 1))) := by show _ = _; rw [HAT.out, rdAtom, if_pos h46]
    rw [h46] at hc
    clear HAT
    obtain ⟨h0, hne, hb0, hg0⟩ := pre_boxS h
    have HS0 := Hid.mk h0
    have HB0 := Hid.mk hb0
    have HG0 := Hid.mk hg0
    have hRl := h.lt
    have c0 := h0.c0
    have c1 := h0.c1
    have c2 := h0.c2
    have hb : ¬ s.size ≤ p := by omega
    have hpi : (p : Int) < (s.size : Int) := by omega
    clear h h0 hb0 hg0
    go_enter Tryz.func99, Tryz.ntmps99
    go_wp2_with fail
    refine wp_region_quiet_lit (by kernel_rfl) (by kernel_rfl) (Qt.out ?_)
    refine Qt.step (fun K hK => ?_)
    go_simp
    refine hK _ ?_
    clear hK K
    refine Qt.step (fun K hK => ?_)
    go_simp
    refine hK _ ?_
    clear hK K
    refine Qt.step (fun K hK => ?_)
    go_simp
    refine hK _ ?_
    clear hK K
    refine Qt.step (fun K hK => ?_)
    go_simp
    refine hK _ ?_
    clear hK K
    refine Qt.step (fun K hK => ?_)
    go_simp
    refine hK _ ?_
    clear hK K
    refine Qt.step (fun K hK => ?_)
    go_simp
    refine hK _ ?_
    clear hK K
    refine Qt.step (fun K hK => ?_)
    go_simp
    refine hK _ ?_
    clear hK K
    refine Qt.step (fun K hK => ?_)
    go_simp
    refine hK _ ?_
    clear hK K
    refine Qt.step (fun K hK => ?_)
    go_simp
    refine hK _ ?_
    clear hK K
    refine Qt.step (fun K hK => ?_)
    go_simp
    refine hK _ ?_
    clear hK K
    refine Qt.step (fun K hK => ?_)
    go_simp
    refine hK _ ?_
    clear hK K
    refine Qt.step (fun K hK => ?_)
    go_simp
    refine hK _ ?_
    clear hK K
    refine Qt.step (fun K hK => ?_)
    go_simp
    refine hK _ ?_
    clear hK K
    refine Qt.step (fun K hK => ?_)
    go_simp
    refine hK _ ?_
    clear hK K
    refine Qt.step (fun K hK => ?_)
    go_simp
    refine hK _ ?_
    clear hK K
    refine Qt.step (fun K hK => ?_)
    go_simp
    refine hK _ ?_
    clear hK K
    refine Qt.nil ?_
    intro _ hw'
    obtain ⟨nq1, hw''⟩ := hw'
    subst hw''
    go_wp2_with fail
    refine wp_region_quiet_lit (by kernel_rfl) (by kernel_rfl) (Qt.out ?_)
    refine Qt.step (fun K hK => ?_)
    go_simp
    refine hK _ ?_
    clear hK K
    refine Qt.step (fun K hK => ?_)
    go_simp
    refine hK _ ?_
    clear hK K
    refine Qt.step (fun K hK => ?_)
    go_simp
    refine hK _ ?_
    clear hK K
    refine Qt.step (fun K hK => ?_)
    go_simp
    refine hK _ ?_
    clear hK K
    refine Qt.step (fun K hK => ?_)
    go_simp
    refine hK _ ?_
    clear hK K
    refine Qt.step (fun K hK => ?_)
    go_simp
    refine hK _ ?_
    clear hK K
    refine Qt.step (fun K hK => ?_)
    go_simp
    refine hK _ ?_
    clear hK K
    refine Qt.step (fun K hK => ?_)
    go_simp
    refine hK _ ?_
    clear hK K
    refine Qt.step (fun K hK => ?_)
    go_simp
    refine hK _ ?_
    clear hK K
    refine Qt.step (fun K hK => ?_)
    go_simp
    refine hK _ ?_
    clear hK K
    refine Qt.nil ?_
    intro _ hw'
    obtain ⟨nq2, hw''⟩ := hw'
    subst hw''
    have HS3 := (HS0.out.drew nq1).drew nq2
    have HB3 := (HB0.out.gb (gb_drew _ R nq1) hne).gb (gb_drew _ R nq2) hne
    have HG3 := gb_trans (gb_trans HG0.out (gb_drew _ R nq1)) (gb_drew _ R nq2)
    have hz3 : (((w.alloc (.cells #[.int .i64 0, .string ⟨#[]⟩, .slice none 0 0] 128)).drewN nq1).drewN nq2).heap.size = w.heap.size + 1 := by simp
    generalize (((w.alloc (.cells #[.int .i64 0, .string ⟨#[]⟩, .slice none 0 0] 128)).drewN nq1).drewN nq2) = W3 at HS3 HB3 HG3 hz3 ⊢
    have HS4 : Hid (Sds (W3.setCell ⟨R, 1, none⟩ (.int .i64 ((p : Int) + 1))) R s (p + 1) false d) := by
      have := HS3.put1 (p + 1)
      rwa [show ((p + 1 : Nat) : Int) = (p : Int) + 1 by omega] at this
    have HB4 := Hid.mk (HB3.kept (w' := (W3.setCell ⟨R, 1, none⟩ (.int .i64 ((p : Int) + 1)))) (heap_setCell_other _ _ _ _ hne))
    have HG4 := Hid.mk (gb_put HG3 1 (.int .i64 ((p : Int) + 1)))
    have hz4 : (W3.setCell ⟨R, 1, none⟩ (.int .i64 ((p : Int) + 1))).heap.size = w.heap.size + 1 := by simp [hz3]
    clear HS0 HB0 HG0 c0 c1 c2
    have e1 := HS3.c1
    have e2 := HS3.fr 1
    have c0 := HB3.c0
    have c1 := HB3.c1
    have c2 := HB3.c2
    have f0 := HB3.fr
    have HS3' := Hid.mk HS3
    clear HS3 HB3 HG3
    go_wp2
    have hput := HB4.out.put (.int .i64 2) (.string ⟨#[]⟩) (.slice none 0 0)
    have hgp := gb_set3 HG4.out (Nat.le_refl _) (.int .i64 2) (.string ⟨#[]⟩) (.slice none 0 0)
    have hrp := HS4.out.set3 (Ne.symm hne) (.int .i64 2) (.string ⟨#[]⟩) (.slice none 0 0)
    unfold set3 at hput hgp hrp
    generalize (((W3.setCell ⟨R, 1, none⟩ (.int .i64 ((p : Int) + 1))).setCell ⟨w.heap.size, 0, none⟩ (.int .i64 2)).setCell ⟨w.heap.size, 1, none⟩ (.string ⟨#[]⟩)).setCell ⟨w.heap.size, 2, none⟩ (.slice none 0 0) = W at hput hgp hrp ⊢
    have r0 := hput.c0
    have r1 := hput.c1
    have r2 := hput.c2
    refine bodyPost_ret (v := .agg #[.int .i64 2, .string ⟨#[]⟩, .slice none 0 0]) ?_ rfl ⟨hgp, leaf 2, _, p + 1, rfl, (ow_leaf w anyBlock 2).1, Ow.none _, by omega, by omega, Or.inr ⟨HE.out, by omega, hrp⟩⟩
    simp [results, Tryz.results99, go_sem, r0, r1, r2]
  · have HE : Hid (rdAtom (rd n) ((txt s).drop p) = some (leaf 10, (txt s).drop (p + 1))) := by show _ = _; rw [HAT.out, rdAtom, if_neg (by omega), if_pos h94]
    rw [h94] at hc
    clear HAT
    obtain ⟨h0, hne, hb0, hg0⟩ := pre_boxS h
    have HS0 := Hid.mk h0
    have HB0 := Hid.mk hb0
    have HG0 := Hid.mk hg0
    have hRl := h.lt
    have c0 := h0.c0
    have c1 := h0.c1
    have c2 := h0.c2
    have hb : ¬ s.size ≤ p := by omega
    have hpi : (p : Int) < (s.size : Int) := by omega
    clear h h0 hb0 hg0
    go_enter Tryz.func99, Tryz.ntmps99
    go_wp2_with fail
    refine wp_region_quiet_lit (by kernel_rfl) (by kernel_rfl) (Qt.out ?_)
    refine Qt.step (fun K hK => ?_)
    go_simp
    refine hK _ ?_
    clear hK K
    refine Qt.step (fun K hK => ?_)
    go_simp
    refine hK _ ?_
    clear hK K
    refine Qt.step (fun K hK => ?_)
    go_simp
    refine hK _ ?_
    clear hK K
    refine Qt.step (fun K hK => ?_)
    go_simp
    refine hK _ ?_
    clear hK K
    refine Qt.step (fun K hK => ?_)
    go_simp
    refine hK _ ?_
    clear hK K
    refine Qt.step (fun K hK => ?_)
    go_simp
    refine hK _ ?_
    clear hK K
    refine Qt.step (fun K hK => ?_)
    go_simp
    refine hK _ ?_
    clear hK K
    refine Qt.step (fun K hK => ?_)
    go_simp
    refine hK _ ?_
    clear hK K
    refine Qt.step (fun K hK => ?_)
    go_simp
    refine hK _ ?_
    clear hK K
    refine Qt.step (fun K hK => ?_)
    go_simp
    refine hK _ ?_
    clear hK K
    refine Qt.step (fun K hK => ?_)
    go_simp
    refine hK _ ?_
    clear hK K
    refine Qt.step (fun K hK => ?_)
    go_simp
    refine hK _ ?_
    clear hK K
    refine Qt.step (fun K hK => ?_)
    go_simp
    refine hK _ ?_
    clear hK K
    refine Qt.step (fun K hK => ?_)
    go_simp
    refine hK _ ?_
    clear hK K
    refine Qt.step (fun K hK => ?_)
    go_simp
    refine hK _ ?_
    clear hK K
    refine Qt.step (fun K hK => ?_)
    go_simp
    refine hK _ ?_
    clear hK K
    refine Qt.nil ?_
    intro _ hw'
    obtain ⟨nq1, hw''⟩ := hw'
    subst hw''
    go_wp2_with fail
    refine wp_region_quiet_lit (by kernel_rfl) (by kernel_rfl) (Qt.out ?_)
    refine Qt.step (fun K hK => ?_)
    go_simp
    refine hK _ ?_
    clear hK K
    refine Qt.step (fun K hK => ?_)
    go_simp
    refine hK _ ?_
    clear hK K
    refine Qt.step (fun K hK => ?_)
    go_simp
    refine hK _ ?_
    clear hK K
    refine Qt.step (fun K hK => ?_)
    go_simp
    refine hK _ ?_
    clear hK K
    refine Qt.step (fun K hK => ?_)
    go_simp
    refine hK _ ?_
    clear hK K
    refine Qt.step (fun K hK => ?_)
    go_simp
    refine hK _ ?_
    clear hK K
    refine Qt.step (fun K hK => ?_)
    go_simp
    refine hK _ ?_
    clear hK K
    refine Qt.step (fun K hK => ?_)
    go_simp
    refine hK _ ?_
    clear hK K
    refine Qt.step (fun K hK => ?_)
    go_simp
    refine hK _ ?_
    clear hK K
    refine Qt.step (fun K hK => ?_)
    go_simp
    refine hK _ ?_
    clear hK K
    refine Qt.nil ?_
    intro _ hw'
    obtain ⟨nq2, hw''⟩ := hw'
    subst hw''
    have HS3 := (HS0.out.drew nq1).drew nq2
    have HB3 := (HB0.out.gb (gb_drew _ R nq1) hne).gb (gb_drew _ R nq2) hne
    have HG3 := gb_trans (gb_trans HG0.out (gb_drew _ R nq1)) (gb_drew _ R nq2)
    have hz3 : (((w.alloc (.cells #[.int .i64 0, .string ⟨#[]⟩, .slice none 0 0] 128)).drewN nq1).drewN nq2).heap.size = w.heap.size + 1 := by simp
    generalize (((w.alloc (.cells #[.int .i64 0, .string ⟨#[]⟩, .slice none 0 0] 128)).drewN nq1).drewN nq2) = W3 at HS3 HB3 HG3 hz3 ⊢
    have HS4 : Hid (Sds (W3.setCell ⟨R, 1, none⟩ (.int .i64 ((p : Int) + 1))) R s (p + 1) false d) := by
      have := HS3.put1 (p + 1)
      rwa [show ((p + 1 : Nat) : Int) = (p : Int) + 1 by omega] at this
    have HB4 := Hid.mk (HB3.kept (w' := (W3.setCell ⟨R, 1, none⟩ (.int .i64 ((p : Int) + 1)))) (heap_setCell_other _ _ _ _ hne))
    have HG4 := Hid.mk (gb_put HG3 1 (.int .i64 ((p : Int) + 1)))
    have hz4 : (W3.setCell ⟨R, 1, none⟩ (.int .i64 ((p : Int) + 1))).heap.size = w.heap.size + 1 := by simp [hz3]
    clear HS0 HB0 HG0 c0 c1 c2
    have e1 := HS3.c1
    have e2 := HS3.fr 1
    have c0 := HB3.c0
    have c1 := HB3.c1
    have c2 := HB3.c2
    have f0 := HB3.fr
    have HS3' := Hid.mk HS3
    clear HS3 HB3 HG3
    go_wp2
    have hput := HB4.out.put (.int .i64 10) (.string ⟨#[]⟩) (.slice none 0 0)
    have hgp := gb_set3 HG4.out (Nat.le_refl _) (.int .i64 10) (.string ⟨#[]⟩) (.slice none 0 0)
    have hrp := HS4.out.set3 (Ne.symm hne) (.int .i64 10) (.string ⟨#[]⟩) (.slice none 0 0)
    unfold set3 at hput hgp hrp
    generalize (((W3.setCell ⟨R, 1, none⟩ (.int .i64 ((p : Int) + 1))).setCell ⟨w.heap.size, 0, none⟩ (.int .i64 10)).setCell ⟨w.heap.size, 1, none⟩ (.string ⟨#[]⟩)).setCell ⟨w.heap.size, 2, none⟩ (.slice none 0 0) = W at hput hgp hrp ⊢
    have r0 := hput.c0
    have r1 := hput.c1
    have r2 := hput.c2
    refine bodyPost_ret (v := .agg #[.int .i64 10, .string ⟨#[]⟩, .slice none 0 0]) ?_ rfl ⟨hgp, leaf 10, _, p + 1, rfl, (ow_leaf w anyBlock 10).1, Ow.none _, by omega, by omega, Or.inr ⟨HE.out, by omega, hrp⟩⟩
    simp [results, Tryz.results99, go_sem, r0, r1, r2]
  · have HE : Hid (rdAtom (rd n) ((txt s).drop p) = some (leaf 11, (txt s).drop (p + 1))) := by show _ = _; rw [HAT.out, rdAtom, if_neg (by omega), if_neg (by omega), if_pos h36]
    rw [h36] at hc
    clear HAT
    obtain ⟨h0, hne, hb0, hg0⟩ := pre_boxS h
    have HS0 := Hid.mk h0
    have HB0 := Hid.mk hb0
    have HG0 := Hid.mk hg0
    have hRl := h.lt
    have c0 := h0.c0
    have c1 := h0.c1
    have c2 := h0.c2
    have hb : ¬ s.size ≤ p := by omega
    have hpi : (p : Int) < (s.size : Int) := by omega
    clear h h0 hb0 hg0
    go_enter Tryz.func99, Tryz.ntmps99
    go_wp2_with fail
    refine wp_region_quiet_lit (by kernel_rfl) (by kernel_rfl) (Qt.out ?_)
    refine Qt.step (fun K hK => ?_)
    go_simp
    refine hK _ ?_
    clear hK K
    refine Qt.step (fun K hK => ?_)
    go_simp
    refine hK _ ?_
    clear hK K
    refine Qt.step (fun K hK => ?_)
    go_simp
    refine hK _ ?_
    clear hK K
    refine Qt.step (fun K hK => ?_)
    go_simp
    refine hK _ ?_
    clear hK K
    refine Qt.step (fun K hK => ?_)
    go_simp
    refine hK _ ?_
    clear hK K
    refine Qt.step (fun K hK => ?_)
    go_simp
    refine hK _ ?_
    clear hK K
    refine Qt.step (fun K hK => ?_)
    go_simp
    refine hK _ ?_
    clear hK K
    refine Qt.step (fun K hK => ?_)
    go_simp
    refine hK _ ?_
    clear hK K
    refine Qt.step (fun K hK => ?_)
    go_simp
    refine hK _ ?_
    clear hK K
    refine Qt.step (fun K hK => ?_)
    go_simp
    refine hK _ ?_
    clear hK K
    refine Qt.step (fun K hK => ?_)
    go_simp
    refine hK _ ?_
    clear hK K
    refine Qt.step (fun K hK => ?_)
    go_simp
    refine hK _ ?_
    clear hK K
    refine Qt.step (fun K hK => ?_)
    go_simp
    refine hK _ ?_
    clear hK K
    refine Qt.step (fun K hK => ?_)
    go_simp
    refine hK _ ?_
    clear hK K
    refine Qt.step (fun K hK => ?_)
    go_simp
    refine hK _ ?_
    clear hK K
    refine Qt.step (fun K hK => ?_)
    go_simp
    refine hK _ ?_
    clear hK K
    refine Qt.nil ?_
    intro _ hw'
    obtain ⟨nq1, hw''⟩ := hw'
    subst hw''
    go_wp2_with fail
    refine wp_region_quiet_lit (by kernel_rfl) (by kernel_rfl) (Qt.out ?_)
    refine Qt.step (fun K hK => ?_)
    go_simp
    refine hK _ ?_
    clear hK K
    refine Qt.step (fun K hK => ?_)
    go_simp
    refine hK _ ?_
    clear hK K
    refine Qt.step (fun K hK => ?_)
    go_simp
    refine hK _ ?_
    clear hK K
    refine Qt.step (fun K hK => ?_)
    go_simp
    refine hK _ ?_
    clear hK K
    refine Qt.step (fun K hK => ?_)
    go_simp
    refine hK _ ?_
    clear hK K
    refine Qt.step (fun K hK => ?_)
    go_simp
    refine hK _ ?_
    clear hK K
    refine Qt.step (fun K hK => ?_)
    go_simp
    refine hK _ ?_
    clear hK K
    refine Qt.step (fun K hK => ?_)
    go_simp
    refine hK _ ?_
    clear hK K
    refine Qt.step (fun K hK => ?_)
    go_simp
    refine hK _ ?_
    clear hK K
    refine Qt.step (fun K hK => ?_)
    go_simp
    refine hK _ ?_
    clear hK K
    refine Qt.nil ?_
    intro _ hw'
    obtain ⟨nq2, hw''⟩ := hw'
    subst hw''
    have HS3 := (HS0.out.drew nq1).drew nq2
    have HB3 := (HB0.out.gb (gb_drew _ R nq1) hne).gb (gb_drew _ R nq2) hne
    have HG3 := gb_trans (gb_trans HG0.out (gb_drew _ R nq1)) (gb_drew _ R nq2)
    have hz3 : (((w.alloc (.cells #[.int .i64 0, .string ⟨#[]⟩, .slice none 0 0] 128)).drewN nq1).drewN nq2).heap.size = w.heap.size + 1 := by simp
    generalize (((w.alloc (.cells #[.int .i64 0, .string ⟨#[]⟩, .slice none 0 0] 128)).drewN nq1).drewN nq2) = W3 at HS3 HB3 HG3 hz3 ⊢
    have HS4 : Hid (Sds (W3.setCell ⟨R, 1, none⟩ (.int .i64 ((p : Int) + 1))) R s (p + 1) false d) := by
      have := HS3.put1 (p + 1)
      rwa [show ((p + 1 : Nat) : Int) = (p : Int) + 1 by omega] at this
    have HB4 := Hid.mk (HB3.kept (w' := (W3.setCell ⟨R, 1, none⟩ (.int .i64 ((p : Int) + 1)))) (heap_setCell_other _ _ _ _ hne))
    have HG4 := Hid.mk (gb_put HG3 1 (.int .i64 ((p : Int) + 1)))
    have hz4 : (W3.setCell ⟨R, 1, none⟩ (.int .i64 ((p : Int) + 1))).heap.size = w.heap.size + 1 := by simp [hz3]
    clear HS0 HB0 HG0 c0 c1 c2
    have e1 := HS3.c1
    have e2 := HS3.fr 1
    have c0 := HB3.c0
    have c1 := HB3.c1
    have c2 := HB3.c2
    have f0 := HB3.fr
    have HS3' := Hid.mk HS3
    clear HS3 HB3 HG3
    go_wp2
    have hput := HB4.out.put (.int .i64 11) (.string ⟨#[]⟩) (.slice none 0 0)
    have hgp := gb_set3 HG4.out (Nat.le_refl _) (.int .i64 11) (.string ⟨#[]⟩) (.slice none 0 0)
    have hrp := HS4.out.set3 (Ne.symm hne) (.int .i64 11) (.string ⟨#[]⟩) (.slice none 0 0)
    unfold set3 at hput hgp hrp
    generalize (((W3.setCell ⟨R, 1, none⟩ (.int .i64 ((p : Int) + 1))).setCell ⟨w.heap.size, 0, none⟩ (.int .i64 11)).setCell ⟨w.heap.size, 1, none⟩ (.string ⟨#[]⟩)).setCell ⟨w.heap.size, 2, none⟩ (.slice none 0 0) = W at hput hgp hrp ⊢
    have r0 := hput.c0
    have r1 := hput.c1
    have r2 := hput.c2
    refine bodyPost_ret (v := .agg #[.int .i64 11, .string ⟨#[]⟩, .slice none 0 0]) ?_ rfl ⟨hgp, leaf 11, _, p + 1, rfl, (ow_leaf w anyBlock 11).1, Ow.none _, by omega, by omega, Or.inr ⟨HE.out, by omega, hrp⟩⟩
    simp [results, Tryz.results99, go_sem, r0, r1, r2]

set_option maxHeartbeats 8000000 in
theorem atom_group (n : Nat) (d : Int) (_hd : d ≤ 9) (s : ByteArray) (R p : Nat) (w : World) (h : Sds w R s p false d) (hlt : p < s.size) (hs : s.size ≤ 1048576) (c : Int) (hc : ((s[p].toNat : Nat) : Int) = c) (h40 : c = 40) (hcg : SpC 104 (rdGroup (rd n)) d) :
    Calls Tryz.prog 99 #[.pointer (some ⟨R, 0, none⟩)] w fun e w' => SpOk w w' R s p d e (rdAtom (rd n) ((txt s).drop p)) := by
  have HE : Hid (rdAtom (rd n) ((txt s).drop p) = rdGroup (rd n) ((txt s).drop (p + 1))) := by show _ = _; rw [txt_head hlt, hc, rdAtom, if_neg (by omega), if_neg (by omega), if_neg (by omega), if_neg (by omega), if_pos h40]
  have HC := Hid.mk hcg
  rw [h40] at hc
  clear hcg
  obtain ⟨h0, hne, hb0, hg0⟩ := pre_boxS h
  have HS0 := Hid.mk h0
  have HB0 := Hid.mk hb0
  have HG0 := Hid.mk hg0
  have hRl := h.lt
  have c0 := h0.c0
  have c1 := h0.c1
  have c2 := h0.c2
  have hb : ¬ s.size ≤ p := by omega
  have hpi : (p : Int) < (s.size : Int) := by omega
  clear h h0 hb0 hg0
  go_enter Tryz.func99, Tryz.ntmps99
  go_wp2_with fail
  refine wp_region_quiet_lit (by kernel_rfl) (by kernel_rfl) (Qt.out ?_)
  refine Qt.step (fun K hK => ?_)
  go_simp
  refine hK _ ?_
  clear hK K
  refine Qt.step (fun K hK => ?_)
  go_simp
  refine hK _ ?_
  clear hK K
  refine Qt.step (fun K hK => ?_)
  go_simp
  refine hK _ ?_
  clear hK K
  refine Qt.step (fun K hK => ?_)
  go_simp
  refine hK _ ?_
  clear hK K
  refine Qt.step (fun K hK => ?_)
  go_simp
  refine hK _ ?_
  clear hK K
  refine Qt.step (fun K hK => ?_)
  go_simp
  refine hK _ ?_
  clear hK K
  refine Qt.step (fun K hK => ?_)
  go_simp
  refine hK _ ?_
  clear hK K
  refine Qt.step (fun K hK => ?_)
  go_simp
  refine hK _ ?_
  clear hK K
  refine Qt.step (fun K hK => ?_)
  go_simp
  refine hK _ ?_
  clear hK K
  refine Qt.step (fun K hK => ?_)
  go_simp
  refine hK _ ?_
  clear hK K
  refine Qt.step (fun K hK => ?_)
  go_simp
  refine hK _ ?_
  clear hK K
  refine Qt.step (fun K hK => ?_)
  go_simp
  refine hK _ ?_
  clear hK K
  refine Qt.step (fun K hK => ?_)
  go_simp
  refine hK _ ?_
  clear hK K
  refine Qt.step (fun K hK => ?_)
  go_simp
  refine hK _ ?_
  clear hK K
  refine Qt.step (fun K hK => ?_)
  go_simp
  refine hK _ ?_
  clear hK K
  refine Qt.step (fun K hK => ?_)
  go_simp
  refine hK _ ?_
  clear hK K
  refine Qt.nil ?_
  intro _ hw'
  obtain ⟨nq1, hw''⟩ := hw'
  subst hw''
  go_wp2_with fail
  refine wp_region_quiet_lit (by kernel_rfl) (by kernel_rfl) (Qt.out ?_)
  refine Qt.step (fun K hK => ?_)
  go_simp
  refine hK _ ?_
  clear hK K
  refine Qt.step (fun K hK => ?_)
  go_simp
  refine hK _ ?_
  clear hK K
  refine Qt.step (fun K hK => ?_)
  go_simp
  refine hK _ ?_
  clear hK K
  refine Qt.step (fun K hK => ?_)
  go_simp
  refine hK _ ?_
  clear hK K
  refine Qt.step (fun K hK => ?_)
  go_simp
  refine hK _ ?_
  clear hK K
  refine Qt.step (fun K hK => ?_)
  go_simp
  refine hK _ ?_
  clear hK K
  refine Qt.step (fun K hK => ?_)
  go_simp
  refine hK _ ?_
  clear hK K
  refine Qt.step (fun K hK => ?_)
  go_simp
  refine hK _ ?_
  clear hK K
  refine Qt.step (fun K hK => ?_)
  go_simp
  refine hK _ ?_
  clear hK K
  refine Qt.step (fun K hK => ?_)
  go_simp
  refine hK _ ?_
  clear hK K
  refine Qt.nil ?_
  intro _ hw'
  obtain ⟨nq2, hw''⟩ := hw'
  subst hw''
  have HS3 := (HS0.out.drew nq1).drew nq2
  have HB3 := (HB0.out.gb (gb_drew _ R nq1) hne).gb (gb_drew _ R nq2) hne
  have HG3 := gb_trans (gb_trans HG0.out (gb_drew _ R nq1)) (gb_drew _ R nq2)
  have hz3 : (((w.alloc (.cells #[.int .i64 0, .string ⟨#[]⟩, .slice none 0 0] 128)).drewN nq1).drewN nq2).heap.size = w.heap.size + 1 := by simp
  generalize (((w.alloc (.cells #[.int .i64 0, .string ⟨#[]⟩, .slice none 0 0] 128)).drewN nq1).drewN nq2) = W3 at HS3 HB3 HG3 hz3 ⊢
  have HS4 : Hid (Sds (W3.setCell ⟨R, 1, none⟩ (.int .i64 ((p : Int) + 1))) R s (p + 1) false d) := by
    have := HS3.put1 (p + 1)
    rwa [show ((p + 1 : Nat) : Int) = (p : Int) + 1 by omega] at this
  have HB4 := Hid.mk (HB3.kept (w' := (W3.setCell ⟨R, 1, none⟩ (.int .i64 ((p : Int) + 1)))) (heap_setCell_other _ _ _ _ hne))
  have HG4 := Hid.mk (gb_put HG3 1 (.int .i64 ((p : Int) + 1)))
  have hz4 : (W3.setCell ⟨R, 1, none⟩ (.int .i64 ((p : Int) + 1))).heap.size = w.heap.size + 1 := by simp [hz3]
  clear HS0 HB0 HG0 c0 c1 c2
  have e1 := HS3.c1
  have e2 := HS3.fr 1
  have c0 := HB3.c0
  have c1 := HB3.c1
  have c2 := HB3.c2
  have f0 := HB3.fr
  have HS3' := Hid.mk HS3
  clear HS3 HB3 HG3
  go_wp2_with fail
  refine (HC.out s R (p + 1) _ HS4.out (by omega) hs).mono ?_
  rintro e w6 ⟨hg6, t, u, p2, rfl, hsz, how, hp1, hp2, hcase⟩
  rw [hz4] at how
  have HB6 := Hid.mk (HB4.out.gb hg6 hne)
  have HG6 := Hid.mk (gb_trans HG4.out hg6)
  have HSZ := Hid.mk hsz
  obtain ⟨au, cu, rfl⟩ := how.value
  have HO6 := Hid.mk how
  obtain ⟨bad, d1, HS6, hcs⟩ : ∃ (bad : Bool) (d1 : Int), Hid (Sds w6 R s p2 bad d1) ∧ Hid ((bad = true ∧ rdAtom (rd n) ((txt s).drop p) = none ∧ d ≤ d1 ∧ d1 ≤ 9) ∨ (bad = false ∧ d1 = d ∧ p < p2 ∧ rdAtom (rd n) ((txt s).drop p) = some (t, (txt s).drop p2))) := by
    rcases hcase with ⟨hr0, d', hsd, e1, e2⟩ | ⟨hrd, hpp, hsd⟩
    · exact ⟨true, d', hsd, Or.inl ⟨rfl, HE.out.trans hr0, e1, e2⟩⟩
    · exact ⟨false, d, hsd, Or.inr ⟨rfl, rfl, by omega, HE.out.trans hrd⟩⟩
  obtain ⟨tk, htk⟩ : ∃ tk, t.k = tk := ⟨_, rfl⟩
  obtain ⟨ts, hts⟩ : ∃ ts, t.s = ts := ⟨_, rfl⟩
  rw [htk, hts]
  clear hg6 how hsz hcase HC HE HB4 HG4 HS4 c0 c1 c2 f0 e1 e2
  have c0 := HB6.out.c0
  have c1 := HB6.out.c1
  have c2 := HB6.out.c2
  have f0 := HB6.out.fr
  go_wp2
  have hput := HB6.out.put (.int .i64 tk) (.string ts) (.slice au t.l.length cu)
  have hgp := gb_set3 HG6.out (Nat.le_refl _) (.int .i64 tk) (.string ts) (.slice au t.l.length cu)
  have hrp := HS6.out.set3 (Ne.symm hne) (.int .i64 tk) (.string ts) (.slice au t.l.length cu)
  have hop := HO6.out.set3 (b := w.heap.size) (by unfold newFrom; omega) (.int .i64 tk) (.string ts) (.slice au t.l.length cu)
  unfold set3 at hput hgp hrp hop
  generalize ((w6.setCell ⟨w.heap.size, 0, none⟩ (.int .i64 tk)).setCell ⟨w.heap.size, 1, none⟩ (.string ts)).setCell ⟨w.heap.size, 2, none⟩ (.slice au t.l.length cu) = W at hput hgp hrp hop ⊢
  have r0 := hput.c0
  have r1 := hput.c1
  have r2 := hput.c2
  refine bodyPost_ret (v := .agg #[.int .i64 tk, .string ts, .slice au t.l.length cu]) ?_ rfl ⟨hgp, t, _, p2, by rw [htk, hts], HSZ.out, hop.mono (fun b hb => by unfold newFrom at *; omega), by omega, by omega, ?_⟩
  · simp [results, Tryz.results99, go_sem, r0, r1, r2]
  · rcases hcs.out with ⟨hb, he, e1, e2⟩ | ⟨hb, hd1, hpp, he⟩
    · exact Or.inl ⟨he, d1, by rw [hb] at hrp; exact hrp, e1, e2⟩
    · exact Or.inr ⟨he, hpp, by rw [hb, hd1] at hrp; exact hrp⟩
end Go.Proofs.YtbbhikbdbndefaaGreat

namespace Go.Proofs.YtbbhikbdbndefaaGreat
open Go.RowKit
set_option maxRecDepth 8000

set_option maxHeartbeats 8000000 in
theorem atom_byte (n : Nat) (d : Int) (_hd : d ≤ 9) (s : ByteArray) (R p : Nat) (w : World) (h : Sds w R s p false d) (hlt : p < s.size) (hs : s.size ≤ 1048576) (c : Int) (hc : ((s[p].toNat : Nat) : Int) = c) (n1 : c ≠ 46) (n2 : c ≠ 94) (n3 : c ≠ 36) (n4 : c ≠ 40) (n5 : c ≠ 91) (hrb : rb c = true) :
    Calls Tryz.prog 99 #[.pointer (some ⟨R, 0, none⟩)] w fun e w' => SpOk w w' R s p d e (rdAtom (rd n) ((txt s).drop p)) := by
  have HE : Hid (rdAtom (rd n) ((txt s).drop p) = some (.node 1 (strOf [c]) [], (txt s).drop (p + 1))) := by
    show _ = _
    rw [txt_head hlt, hc, rdAtom, if_neg n1, if_neg n2, if_neg n3, if_neg n5, if_neg n4, if_pos hrb]
  have b1 : (c == 46) = false := beq_eq_false_iff_ne.2 n1
  have b2 : (c == 94) = false := beq_eq_false_iff_ne.2 n2
  have b3 : (c == 36) = false := beq_eq_false_iff_ne.2 n3
  have b4 : (c == 40) = false := beq_eq_false_iff_ne.2 n4
  have hc0 : (0 : Int) ≤ c := by omega
  have hc1 : c ≤ 255 := by have := s[p].toNat_lt; omega
  have HBy := Hid.mk (fun w => specByte_any c hc0 hc1 w)
  rw [hrb] at HBy
  have HOS := Hid.mk (fun (w : World) (B : Nat → Prop) => ow_string w B 1 [c] (by simp))
  clear n1 n2 n3 n4 n5 hrb
  obtain ⟨h0, hne, hb0, hg0⟩ := pre_boxS h
  have HS0 := Hid.mk h0
  have HB0 := Hid.mk hb0
  have HG0 := Hid.mk hg0
  have hRl := h.lt
  have c0 := h0.c0
  have c1 := h0.c1
  have c2 := h0.c2
  have hb : ¬ s.size ≤ p := by omega
  have hpi : (p : Int) < (s.size : Int) := by omega
  clear h h0 hb0 hg0
  go_enter Tryz.func99, Tryz.ntmps99
  go_wp2_with fail
  refine wp_region_quiet_lit (by kernel_rfl) (by kernel_rfl) (Qt.out ?_)
  refine Qt.step (fun K hK => ?_)
  go_simp
  refine hK _ ?_
  clear hK K
  refine Qt.step (fun K hK => ?_)
  go_simp
  refine hK _ ?_
  clear hK K
  refine Qt.step (fun K hK => ?_)
  go_simp
  refine hK _ ?_
  clear hK K
  refine Qt.step (fun K hK => ?_)
  go_simp
  refine hK _ ?_
  clear hK K
  refine Qt.step (fun K hK => ?_)
  go_simp
  refine hK _ ?_
  clear hK K
  refine Qt.step (fun K hK => ?_)
  go_simp
  refine hK _ ?_
  clear hK K
  refine Qt.step (fun K hK => ?_)
  go_simp
  refine hK _ ?_
  clear hK K
  refine Qt.step (fun K hK => ?_)
  go_simp
  refine hK _ ?_
  clear hK K
  refine Qt.step (fun K hK => ?_)
  go_simp
  refine hK _ ?_
  clear hK K
  refine Qt.step (fun K hK => ?_)
  go_simp
  refine hK _ ?_
  clear hK K
  refine Qt.step (fun K hK => ?_)
  go_simp
  refine hK _ ?_
  clear hK K
  refine Qt.step (fun K hK => ?_)
  go_simp
  refine hK _ ?_
  clear hK K
  refine Qt.step (fun K hK => ?_)
  go_simp
  refine hK _ ?_
  clear hK K
  refine Qt.step (fun K hK => ?_)
  go_simp
  refine hK _ ?_
  clear hK K
  refine Qt.step (fun K hK => ?_)
  go_simp
  refine hK _ ?_
  clear hK K
  refine Qt.step (fun K hK => ?_)
  go_simp
  refine hK _ ?_
  clear hK K
  refine Qt.nil ?_
  intro _ hw'
  obtain ⟨nq1, hw''⟩ := hw'
  subst hw''
  go_wp2_with fail
  refine wp_region_quiet_lit (by kernel_rfl) (by kernel_rfl) (Qt.out ?_)
  refine Qt.step (fun K hK => ?_)
  go_simp
  refine hK _ ?_
  clear hK K
  refine Qt.step (fun K hK => ?_)
  go_simp
  refine hK _ ?_
  clear hK K
  refine Qt.step (fun K hK => ?_)
  go_simp
  refine hK _ ?_
  clear hK K
  refine Qt.step (fun K hK => ?_)
  go_simp
  refine hK _ ?_
  clear hK K
  refine Qt.step (fun K hK => ?_)
  go_simp
  refine hK _ ?_
  clear hK K
  refine Qt.step (fun K hK => ?_)
  go_simp
  refine hK _ ?_
  clear hK K
  refine Qt.step (fun K hK => ?_)
  go_simp
  refine hK _ ?_
  clear hK K
  refine Qt.step (fun K hK => ?_)
  go_simp
  refine hK _ ?_
  clear hK K
  refine Qt.step (fun K hK => ?_)
  go_simp
  refine hK _ ?_
  clear hK K
  refine Qt.step (fun K hK => ?_)
  go_simp
  refine hK _ ?_
  clear hK K
  refine Qt.nil ?_
  intro _ hw'
  obtain ⟨nq2, hw''⟩ := hw'
  subst hw''
  have HS3 := (HS0.out.drew nq1).drew nq2
  have HB3 := (HB0.out.gb (gb_drew _ R nq1) hne).gb (gb_drew _ R nq2) hne
  have HG3 := gb_trans (gb_trans HG0.out (gb_drew _ R nq1)) (gb_drew _ R nq2)
  have hz3 : (((w.alloc (.cells #[.int .i64 0, .string ⟨#[]⟩, .slice none 0 0] 128)).drewN nq1).drewN nq2).heap.size = w.heap.size + 1 := by simp
  generalize (((w.alloc (.cells #[.int .i64 0, .string ⟨#[]⟩, .slice none 0 0] 128)).drewN nq1).drewN nq2) = W3 at HS3 HB3 HG3 hz3 ⊢
  have HS4 : Hid (Sds (W3.setCell ⟨R, 1, none⟩ (.int .i64 ((p : Int) + 1))) R s (p + 1) false d) := by
    have := HS3.put1 (p + 1)
    rwa [show ((p + 1 : Nat) : Int) = (p : Int) + 1 by omega] at this
  have HB4 := Hid.mk (HB3.kept (w' := (W3.setCell ⟨R, 1, none⟩ (.int .i64 ((p : Int) + 1)))) (heap_setCell_other _ _ _ _ hne))
  have HG4 := Hid.mk (gb_put HG3 1 (.int .i64 ((p : Int) + 1)))
  have hz4 : (W3.setCell ⟨R, 1, none⟩ (.int .i64 ((p : Int) + 1))).heap.size = w.heap.size + 1 := by simp [hz3]
  clear HS0 HB0 HG0 c0 c1 c2
  have e1 := HS3.c1
  have e2 := HS3.fr 1
  have c0 := HB3.c0
  have c1 := HB3.c1
  have c2 := HB3.c2
  have f0 := HB3.fr
  have HS3' := Hid.mk HS3
  clear HS3 HB3 HG3
  have hcv : (convert 72 9 (.slice (some ⟨w.heap.size + 1, 0, none⟩) 1 1)).run Tryz.prog ((W3.setCell ⟨R, 1, none⟩ (.int .i64 ((p : Int) + 1))).alloc (.cells #[.int .u8 c] 5)) = .ok (.string (strOf [c])) ((W3.setCell ⟨R, 1, none⟩ (.int .i64 ((p : Int) + 1))).alloc (.cells #[.int .u8 c] 5)) := by
    have := run_byte c hc0 hc1 (W3.setCell ⟨R, 1, none⟩ (.int .i64 ((p : Int) + 1)))
    rwa [hz4] at this
  obtain ⟨ZZ, hZ⟩ : ∃ ZZ, strOf [c] = ZZ := ⟨_, rfl⟩
  rw [hZ] at HE HOS hcv
  go_wp2_with (go_at_call 101; refine (HBy.out _).mono ?_; rintro e w' ⟨rfl, rfl⟩)
  have hput0 := HB4.out.put (.int .i64 1) (.string ZZ) (.slice none 0 0)
  have hgp0 := gb_set3 HG4.out (Nat.le_refl _) (.int .i64 1) (.string ZZ) (.slice none 0 0)
  have hrp0 := HS4.out.set3 (Ne.symm hne) (.int .i64 1) (.string ZZ) (.slice none 0 0)
  have hal : Below (set3 (W3.setCell ⟨R, 1, none⟩ (.int .i64 ((p : Int) + 1))) w.heap.size (.int .i64 1) (.string ZZ) (.slice none 0 0)).heap.size (set3 (W3.setCell ⟨R, 1, none⟩ (.int .i64 ((p : Int) + 1))) w.heap.size (.int .i64 1) (.string ZZ) (.slice none 0 0)) ((set3 (W3.setCell ⟨R, 1, none⟩ (.int .i64 ((p : Int) + 1))) w.heap.size (.int .i64 1) (.string ZZ) (.slice none 0 0)).alloc (.cells #[.int .u8 c] 5)) := (Below.refl _ _).alloc (Nat.le_refl _) _
  have hput := hput0.kept (hal.block _ hput0.lt)
  have hgp := gb_below hgp0 hal
  have hrp := hrp0.grow hal
  unfold set3 at hput hgp hrp
  generalize ((((W3.setCell ⟨R, 1, none⟩ (.int .i64 ((p : Int) + 1))).setCell ⟨w.heap.size, 0, none⟩ (.int .i64 1)).setCell ⟨w.heap.size, 1, none⟩ (.string ZZ)).setCell ⟨w.heap.size, 2, none⟩ (.slice none 0 0)).alloc (.cells #[.int .u8 c] 5) = W at hput hgp hrp ⊢
  have r0 := hput.c0
  have r1 := hput.c1
  have r2 := hput.c2
  refine bodyPost_ret (v := .agg #[.int .i64 1, .string ZZ, .slice none 0 0]) ?_ rfl ⟨hgp, .node 1 ZZ [], _, p + 1, rfl, (HOS.out w anyBlock).1, Ow.none _, by omega, by omega, Or.inr ⟨HE.out, by omega, hrp⟩⟩
  simp [results, Tryz.results99, go_sem, r0, r1, r2]

set_option maxHeartbeats 8000000 in
theorem atom_bad (n : Nat) (d : Int) (hd : d ≤ 9) (s : ByteArray) (R p : Nat) (w : World) (h : Sds w R s p false d) (hlt : p < s.size) (hs : s.size ≤ 1048576) (c : Int) (hc : ((s[p].toNat : Nat) : Int) = c) (n1 : c ≠ 46) (n2 : c ≠ 94) (n3 : c ≠ 36) (n4 : c ≠ 40) (n5 : c ≠ 91) (hrb : rb c = false) :
    Calls Tryz.prog 99 #[.pointer (some ⟨R, 0, none⟩)] w fun e w' => SpOk w w' R s p d e (rdAtom (rd n) ((txt s).drop p)) := by
  have HE : Hid (rdAtom (rd n) ((txt s).drop p) = none) := by
    show _ = _
    rw [txt_head hlt, hc, rdAtom, if_neg n1, if_neg n2, if_neg n3, if_neg n5, if_neg n4, if_neg (by rw [hrb]; simp)]
  have b1 : (c == 46) = false := beq_eq_false_iff_ne.2 n1
  have b2 : (c == 94) = false := beq_eq_false_iff_ne.2 n2
  have b3 : (c == 36) = false := beq_eq_false_iff_ne.2 n3
  have b4 : (c == 40) = false := beq_eq_false_iff_ne.2 n4
  have hc0 : (0 : Int) ≤ c := by omega
  have hc1 : c ≤ 255 := by have := s[p].toNat_lt; omega
  have HBy := Hid.mk (fun w => specByte_any c hc0 hc1 w)
  have b5 : (c != 91) = true := by simpa using n5
  rw [hrb] at HBy
  clear n1 n2 n3 n4 n5 hrb
  obtain ⟨h0, hne, hb0, hg0⟩ := pre_boxS h
  have HS0 := Hid.mk h0
  have HB0 := Hid.mk hb0
  have HG0 := Hid.mk hg0
  have hRl := h.lt
  have c0 := h0.c0
  have c1 := h0.c1
  have c2 := h0.c2
  have hb : ¬ s.size ≤ p := by omega
  have hpi : (p : Int) < (s.size : Int) := by omega
  clear h h0 hb0 hg0
  go_enter Tryz.func99, Tryz.ntmps99
  go_wp2_with fail
  refine wp_region_quiet_lit (by kernel_rfl) (by kernel_rfl) (Qt.out ?_)
  refine Qt.step (fun K hK => ?_)
  go_simp
  refine hK _ ?_
  clear hK K
  refine Qt.step (fun K hK => ?_)
  go_simp
  refine hK _ ?_
  clear hK K
  refine Qt.step (fun K hK => ?_)
  go_simp
  refine hK _ ?_
  clear hK K
  refine Qt.step (fun K hK => ?_)
  go_simp
  refine hK _ ?_
  clear hK K
  refine Qt.step (fun K hK => ?_)
  go_simp
  refine hK _ ?_
  clear hK K
  refine Qt.step (fun K hK => ?_)
  go_simp
  refine hK _ ?_
  clear hK K
  refine Qt.step (fun K hK => ?_)
  go_simp
  refine hK _ ?_
  clear hK K
  refine Qt.step (fun K hK => ?_)
  go_simp
  refine hK _ ?_
  clear hK K
  refine Qt.step (fun K hK => ?_)
  go_simp
  refine hK _ ?_
  clear hK K
  refine Qt.step (fun K hK => ?_)
  go_simp
  refine hK _ ?_
  clear hK K
  refine Qt.step (fun K hK => ?_)
  go_simp
  refine hK _ ?_
  clear hK K
  refine Qt.step (fun K hK => ?_)
  go_simp
  refine hK _ ?_
  clear hK K
  refine Qt.step (fun K hK => ?_)
  go_simp
  refine hK _ ?_
  clear hK K
  refine Qt.step (fun K hK => ?_)
  go_simp
  refine hK _ ?_
  clear hK K
  refine Qt.step (fun K hK => ?_)
  go_simp
  refine hK _ ?_
  clear hK K
  refine Qt.step (fun K hK => ?_)
  go_simp
  refine hK _ ?_
  clear hK K
  refine Qt.nil ?_
  intro _ hw'
  obtain ⟨nq1, hw''⟩ := hw'
  subst hw''
  go_wp2_with fail
  refine wp_region_quiet_lit (by kernel_rfl) (by kernel_rfl) (Qt.out ?_)
  refine Qt.step (fun K hK => ?_)
  go_simp
  refine hK _ ?_
  clear hK K
  refine Qt.step (fun K hK => ?_)
  go_simp
  refine hK _ ?_
  clear hK K
  refine Qt.step (fun K hK => ?_)
  go_simp
  refine hK _ ?_
  clear hK K
  refine Qt.step (fun K hK => ?_)
  go_simp
  refine hK _ ?_
  clear hK K
  refine Qt.step (fun K hK => ?_)
  go_simp
  refine hK _ ?_
  clear hK K
  refine Qt.step (fun K hK => ?_)
  go_simp
  refine hK _ ?_
  clear hK K
  refine Qt.step (fun K hK => ?_)
  go_simp
  refine hK _ ?_
  clear hK K
  refine Qt.step (fun K hK => ?_)
  go_simp
  refine hK _ ?_
  clear hK K
  refine Qt.step (fun K hK => ?_)
  go_simp
  refine hK _ ?_
  clear hK K
  refine Qt.step (fun K hK => ?_)
  go_simp
  refine hK _ ?_
  clear hK K
  refine Qt.nil ?_
  intro _ hw'
  obtain ⟨nq2, hw''⟩ := hw'
  subst hw''
  have HS3 := (HS0.out.drew nq1).drew nq2
  have HB3 := (HB0.out.gb (gb_drew _ R nq1) hne).gb (gb_drew _ R nq2) hne
  have HG3 := gb_trans (gb_trans HG0.out (gb_drew _ R nq1)) (gb_drew _ R nq2)
  have hz3 : (((w.alloc (.cells #[.int .i64 0, .string ⟨#[]⟩, .slice none 0 0] 128)).drewN nq1).drewN nq2).heap.size = w.heap.size + 1 := by simp
  generalize (((w.alloc (.cells #[.int .i64 0, .string ⟨#[]⟩, .slice none 0 0] 128)).drewN nq1).drewN nq2) = W3 at HS3 HB3 HG3 hz3 ⊢
  have HS4 : Hid (Sds (W3.setCell ⟨R, 1, none⟩ (.int .i64 ((p : Int) + 1))) R s (p + 1) false d) := by
    have := HS3.put1 (p + 1)
    rwa [show ((p + 1 : Nat) : Int) = (p : Int) + 1 by omega] at this
  have HB4 := Hid.mk (HB3.kept (w' := (W3.setCell ⟨R, 1, none⟩ (.int .i64 ((p : Int) + 1)))) (heap_setCell_other _ _ _ _ hne))
  have HG4 := Hid.mk (gb_put HG3 1 (.int .i64 ((p : Int) + 1)))
  have hz4 : (W3.setCell ⟨R, 1, none⟩ (.int .i64 ((p : Int) + 1))).heap.size = w.heap.size + 1 := by simp [hz3]
  clear HS0 HB0 HG0 c0 c1 c2
  have e1 := HS3.c1
  have e2 := HS3.fr 1
  have c0 := HB3.c0
  have c1 := HB3.c1
  have c2 := HB3.c2
  have f0 := HB3.fr
  have HS3' := Hid.mk HS3
  clear HS3 HB3 HG3
  have HBad := Hid.mk (l3Bad_any s R (p + 1) false d _ HS4.out)
  go_wp2_with (first | (go_at_call 101; refine (HBy.out _).mono ?_; rintro e w' ⟨rfl, rfl⟩) | fail)
  refine HBad.out.mono ?_
  rintro e w7 ⟨rfl, hg7, hr7, hz7⟩
  have HB7 := Hid.mk (HB4.out.gb hg7 hne)
  have HG7 := Hid.mk (gb_trans HG4.out hg7)
  have HS7 := Hid.mk hr7
  clear HBad hg7 hr7 HB4 HG4 HS4 c0 c1 c2 f0 e1 e2
  have c0 := HB7.out.c0
  have c1 := HB7.out.c1
  have c2 := HB7.out.c2
  have f0 := HB7.out.fr
  go_wp2
  have hput := HB7.out.put (.int .i64 0) (.string ⟨#[]⟩) (.slice none 0 0)
  have hgp := gb_set3 HG7.out (Nat.le_refl _) (.int .i64 0) (.string ⟨#[]⟩) (.slice none 0 0)
  have hrp := HS7.out.set3 (Ne.symm hne) (.int .i64 0) (.string ⟨#[]⟩) (.slice none 0 0)
  unfold set3 at hput hgp hrp
  generalize ((w7.setCell ⟨w.heap.size, 0, none⟩ (.int .i64 0)).setCell ⟨w.heap.size, 1, none⟩ (.string ⟨#[]⟩)).setCell ⟨w.heap.size, 2, none⟩ (.slice none 0 0) = W at hput hgp hrp ⊢
  have r0 := hput.c0
  have r1 := hput.c1
  have r2 := hput.c2
  refine bodyPost_ret (v := .agg #[.int .i64 0, .string ⟨#[]⟩, .slice none 0 0]) ?_ rfl ⟨hgp, leaf 0, _, p + 1, rfl, (ow_leaf w anyBlock 0).1, Ow.none _, by omega, by omega, Or.inl ⟨HE.out, d, hrp, by omega, by omega⟩⟩
  simp [results, Tryz.results99, go_sem, r0, r1, r2]
end Go.Proofs.YtbbhikbdbndefaaGreat

namespace Go.Proofs.YtbbhikbdbndefaaGreat
open Go.RowKit
set_option maxRecDepth 8000

set_option maxHeartbeats 16000000 in
theorem atom_set (n : Nat) (d : Int) (hd : d ≤ 9) (s : ByteArray) (R p : Nat) (w : World) (h : Sds w R s p false d) (hlt : p < s.size) (hs : s.size ≤ 1048576) (hc : ((s[p].toNat : Nat) : Int) = 91) :
    Calls Tryz.prog 99 #[.pointer (some ⟨R, 0, none⟩)] w fun e w' => SpOk w w' R s p d e (rdAtom (rd n) ((txt s).drop p)) := by
  have HE : Hid (rdAtom (rd n) ((txt s).drop p) = rdSet ((txt s).drop (p + 1))) := by show _ = _; rw [txt_head hlt, hc, rdAtom, if_neg (by omega), if_neg (by omega), if_neg (by omega), if_pos rfl]
  have HBy : Hid (∀ w, Calls Tryz.prog 101 #[.int .u8 91] w fun e w' => e = .returned (.bool false) ∧ w' = w) := fun w => specByte_any 91 (by omega) (by omega) w
  obtain ⟨h0, hne, hb0, hg0⟩ := pre_boxS h
  have HS0 := Hid.mk h0
  have HB0 := Hid.mk hb0
  have HG0 := Hid.mk hg0
  have hRl := h.lt
  have c0 := h0.c0
  have c1 := h0.c1
  have c2 := h0.c2
  have hb : ¬ s.size ≤ p := by omega
  have hpi : (p : Int) < (s.size : Int) := by omega
  clear h h0 hb0 hg0
  go_enter Tryz.func99, Tryz.ntmps99
  go_wp2_with fail
  refine wp_region_quiet_lit (by kernel_rfl) (by kernel_rfl) (Qt.out ?_)
  refine Qt.step (fun K hK => ?_)
  go_simp
  refine hK _ ?_
  clear hK K
  refine Qt.step (fun K hK => ?_)
  go_simp
  refine hK _ ?_
  clear hK K
  refine Qt.step (fun K hK => ?_)
  go_simp
  refine hK _ ?_
  clear hK K
  refine Qt.step (fun K hK => ?_)
  go_simp
  refine hK _ ?_
  clear hK K
  refine Qt.step (fun K hK => ?_)
  go_simp
  refine hK _ ?_
  clear hK K
  refine Qt.step (fun K hK => ?_)
  go_simp
  refine hK _ ?_
  clear hK K
  refine Qt.step (fun K hK => ?_)
  go_simp
  refine hK _ ?_
  clear hK K
  refine Qt.step (fun K hK => ?_)
  go_simp
  refine hK _ ?_
  clear hK K
  refine Qt.step (fun K hK => ?_)
  go_simp
  refine hK _ ?_
  clear hK K
  refine Qt.step (fun K hK => ?_)
  go_simp
  refine hK _ ?_
  clear hK K
  refine Qt.step (fun K hK => ?_)
  go_simp
  refine hK _ ?_
  clear hK K
  refine Qt.step (fun K hK => ?_)
  go_simp
  refine hK _ ?_
  clear hK K
  refine Qt.step (fun K hK => ?_)
  go_simp
  refine hK _ ?_
  clear hK K
  refine Qt.step (fun K hK => ?_)
  go_simp
  refine hK _ ?_
  clear hK K
  refine Qt.step (fun K hK => ?_)
  go_simp
  refine hK _ ?_
  clear hK K
  refine Qt.step (fun K hK => ?_)
  go_simp
  refine hK _ ?_
  clear hK K
  refine Qt.nil ?_
  intro _ hw'
  obtain ⟨nq1, hw''⟩ := hw'
  subst hw''
  go_wp2_with fail
  refine wp_region_quiet_lit (by kernel_rfl) (by kernel_rfl) (Qt.out ?_)
  refine Qt.step (fun K hK => ?_)
  go_simp
  refine hK _ ?_
  clear hK K
  refine Qt.step (fun K hK => ?_)
  go_simp
  refine hK _ ?_
  clear hK K
  refine Qt.step (fun K hK => ?_)
  go_simp
  refine hK _ ?_
  clear hK K
  refine Qt.step (fun K hK => ?_)
  go_simp
  refine hK _ ?_
  clear hK K
  refine Qt.step (fun K hK => ?_)
  go_simp
  refine hK _ ?_
  clear hK K
  refine Qt.step (fun K hK => ?_)
  go_simp
  refine hK _ ?_
  clear hK K
  refine Qt.step (fun K hK => ?_)
  go_simp
  refine hK _ ?_
  clear hK K
  refine Qt.step (fun K hK => ?_)
  go_simp
  refine hK _ ?_
  clear hK K
  refine Qt.step (fun K hK => ?_)
  go_simp
  refine hK _ ?_
  clear hK K
  refine Qt.step (fun K hK => ?_)
  go_simp
  refine hK _ ?_
  clear hK K
  refine Qt.nil ?_
  intro _ hw'
  obtain ⟨nq2, hw''⟩ := hw'
  subst hw''
  have HS3 := (HS0.out.drew nq1).drew nq2
  have HB3 := (HB0.out.gb (gb_drew _ R nq1) hne).gb (gb_drew _ R nq2) hne
  have HG3 := gb_trans (gb_trans HG0.out (gb_drew _ R nq1)) (gb_drew _ R nq2)
  have hz3 : (((w.alloc (.cells #[.int .i64 0, .string ⟨#[]⟩, .slice none 0 0] 128)).drewN nq1).drewN nq2).heap.size = w.heap.size + 1 := by simp
  generalize (((w.alloc (.cells #[.int .i64 0, .string ⟨#[]⟩, .slice none 0 0] 128)).drewN nq1).drewN nq2) = W3 at HS3 HB3 HG3 hz3 ⊢
  have HS4 : Hid (Sds (W3.setCell ⟨R, 1, none⟩ (.int .i64 ((p : Int) + 1))) R s (p + 1) false d) := by
    have := HS3.put1 (p + 1)
    rwa [show ((p + 1 : Nat) : Int) = (p : Int) + 1 by omega] at this
  have HB4 := Hid.mk (HB3.kept (w' := (W3.setCell ⟨R, 1, none⟩ (.int .i64 ((p : Int) + 1)))) (heap_setCell_other _ _ _ _ hne))
  have HG4 := Hid.mk (gb_put HG3 1 (.int .i64 ((p : Int) + 1)))
  have hz4 : (W3.setCell ⟨R, 1, none⟩ (.int .i64 ((p : Int) + 1))).heap.size = w.heap.size + 1 := by simp [hz3]
  clear HS0 HB0 HG0 c0 c1 c2
  have e1 := HS3.c1
  have e2 := HS3.fr 1
  have c0 := HB3.c0
  have c1 := HB3.c1
  have c2 := HB3.c2
  have f0 := HB3.fr
  have HS3' := Hid.mk HS3
  clear HS3 HB3 HG3
  go_wp2_with (go_at_call 101; refine (HBy.out _).mono ?_; rintro e w' ⟨rfl, rfl⟩)
  clear HBy c0 c1 c2 f0 e1 e2 HS3'
  go_loopg [73] (s.size - (p + 1)) (fun k _ wr => ∃ (q : Nat), p + 1 ≤ q ∧ q ≤ s.size ∧ s.size - q = k ∧ wr.heap.size = w.heap.size + 1 ∧ Hid (w.grownBy wr (some R)) ∧ Hid (Sds wr R s q false d) ∧ Hid (Bx3 wr w.heap.size (.int .i64 0) (.string ⟨#[]⟩) (.slice none 0 0)) ∧ Hid (∀ j (h : j < s.size), p + 1 ≤ j → j < q → ((s[j].toNat : Nat) : Int) ≠ 93))
  case atStart => exact ⟨p + 1, by omega, by omega, rfl, hz4, HG4, HS4, HB4, fun j _ h1 h2 => by omega⟩
  case round =>
    obtain ⟨q, hq1, hq2, hgk, hzr, hg, hsd, hbx, hall⟩ := hrel
    clear HG4 HS4 HB4
    have c0 := hsd.out.c0
    have c1 := hsd.out.c1
    by_cases heq : q = s.size
    · have hge : ¬ q < s.size := by omega
      have HST : Hid (∀ (h : q < s.size), ((s[q].toNat : Nat) : Int) = 93) := fun h => absurd h hge
      have hbn : nextIs s q 93 = false := nextIs_end (by omega) 93
      clear heq
      go_wp2_with fail
      refine wp_region_quiet_lit (by kernel_rfl) (by kernel_rfl) (Qt.out ?_)
      refine Qt.step (fun K hK => ?_)
      go_simp
      refine hK _ ?_
      clear hK K
      refine Qt.step (fun K hK => ?_)
      go_simp
      refine hK _ ?_
      clear hK K
      refine Qt.step (fun K hK => ?_)
      go_simp
      refine hK _ ?_
      clear hK K
      refine Qt.step (fun K hK => ?_)
      go_simp
      refine hK _ ?_
      clear hK K
      refine Qt.step (fun K hK => ?_)
      go_simp
      refine hK _ ?_
      clear hK K
      refine Qt.step (fun K hK => ?_)
      go_simp
      refine hK _ ?_
      clear hK K
      refine Qt.step (fun K hK => ?_)
      go_simp
      refine hK _ ?_
      clear hK K
      refine Qt.step (fun K hK => ?_)
      go_simp
      refine hK _ ?_
      clear hK K
      refine Qt.step (fun K hK => ?_)
      go_simp
      refine hK _ ?_
      clear hK K
      refine Qt.step (fun K hK => ?_)
      go_simp
      refine hK _ ?_
      clear hK K
      refine Qt.step (fun K hK => ?_)
      go_simp
      refine hK _ ?_
      clear hK K
      refine Qt.step (fun K hK => ?_)
      go_simp
      refine hK _ ?_
      clear hK K
      refine Qt.step (fun K hK => ?_)
      go_simp
      refine hK _ ?_
      clear hK K
      refine Qt.step (fun K hK => ?_)
      go_simp
      refine hK _ ?_
      clear hK K
      refine Qt.step (fun K hK => ?_)
      go_simp
      refine hK _ ?_
      clear hK K
      refine Qt.step (fun K hK => ?_)
      go_simp
      refine hK _ ?_
      clear hK K
      refine Qt.step (fun K hK => ?_)
      go_simp
      refine hK _ ?_
      clear hK K
      refine Qt.step (fun K hK => ?_)
      go_simp
      refine hK _ ?_
      clear hK K
      refine Qt.step (fun K hK => ?_)
      go_simp
      refine hK _ ?_
      clear hK K
      refine Qt.step (fun K hK => ?_)
      go_simp
      refine hK _ ?_
      clear hK K
      refine Qt.step (fun K hK => ?_)
      go_simp
      refine hK _ ?_
      clear hK K
      refine Qt.step (fun K hK => ?_)
      go_simp
      refine hK _ ?_
      clear hK K
      refine Qt.nil ?_
      intro _ hw'
      obtain ⟨nq1, hw''⟩ := hw'
      subst hw''
      have HS1 := hsd.out.drew nq1
      have HB1 := hbx.out.gb (gb_drew _ R nq1) hne
      have HG1 := gb_trans hg.out (gb_drew _ R nq1)
      have hz1 : (wr.drewN nq1).heap.size = w.heap.size + 1 := hzr
      generalize (wr.drewN nq1) = W5 at HS1 HB1 HG1 hz1 ⊢
      clear c0 c1 hsd hbx hg
      have Hs1 := Hid.mk HS1
      have Hb1 := Hid.mk HB1
      have Hg1 := Hid.mk HG1
      clear HS1 HB1 HG1
      go_wp2_with fail
      have HSw : Hid ((fun (w' : World) => w'.cell? ⟨R, 0, none⟩ = some (.string s) ∧ w'.cell? ⟨R, 1, none⟩ = some (.int .i64 (q : Int))) W5.drew) := ⟨(Hs1.out.drew 1).c0, (Hs1.out.drew 1).c1⟩
      have hsl : ∀ w, (Instr.slice 9 (.string s) (some (.int .i64 ((p : Int) + 1))) (some (.int .i64 (q : Int))) none).run Tryz.prog w = .ok (.string (s.extract (p + 1) q)) w := fun w => by
        have := run_slice_string (P := Tryz.prog) w 9 s .i64 .i64 ((p : Int) + 1) (q : Int) Tryz.underlying9 (by omega) (by omega) (by omega)
        rw [this]; rfl
      refine wp_region_held_drew (S := fun (w' : World) => w'.cell? ⟨R, 0, none⟩ = some (.string s) ∧ w'.cell? ⟨R, 1, none⟩ = some (.int .i64 (q : Int))) (by kernel_rfl) HSw.out (fun _ => ?_)
      refine takeHD (i := 0) (v := .pointer (some ⟨R, 0, none⟩)) (some 102) rfl rfl (by kernel_rfl) (by kernel_rfl) (by kernel_rfl) (fun _ _ _ h => h) (Or.inl ⟨by kernel_rfl, fun w' hw => ?_⟩) HSw.out ?_
      · obtain ⟨hw0, hw1⟩ := hw
        go_simp
      simp only [Act.put, List.setIfInBounds_toArray]
      refine takeHD (i := 1) (v := .pointer (some ⟨R, 0, none⟩)) (some 103) rfl rfl (by kernel_rfl) (by kernel_rfl) (by kernel_rfl) (fun _ _ _ h => h) (Or.inl ⟨by kernel_rfl, fun w' hw => ?_⟩) HSw.out ?_
      · obtain ⟨hw0, hw1⟩ := hw
        go_simp
      simp only [Act.put, List.setIfInBounds_toArray]
      refine takeHD (i := 2) (v := .pointer (some ⟨R, 0, none⟩)) (some 104) rfl rfl (by kernel_rfl) (by kernel_rfl) (by kernel_rfl) (fun _ _ _ h => h) (Or.inl ⟨by kernel_rfl, fun w' hw => ?_⟩) HSw.out ?_
      · obtain ⟨hw0, hw1⟩ := hw
        go_simp
      simp only [Act.put, List.setIfInBounds_toArray]
      refine takeHD (i := 3) (v := .string s) (some 105) rfl rfl (by kernel_rfl) (by kernel_rfl) (by kernel_rfl) (fun _ _ _ h => h) (Or.inl ⟨by kernel_rfl, fun w' hw => ?_⟩) HSw.out ?_
      · obtain ⟨hw0, hw1⟩ := hw
        go_simp
      simp only [Act.put, List.setIfInBounds_toArray]
      refine takeHD (i := 4) (v := .int .i64 ((p : Int) + 1)) (some 106) rfl rfl (by kernel_rfl) (by kernel_rfl) (by kernel_rfl) (fun _ _ _ h => h) (Or.inl ⟨by kernel_rfl, fun w' hw => ?_⟩) HSw.out ?_
      · obtain ⟨hw0, hw1⟩ := hw
        go_simp
      simp only [Act.put, List.setIfInBounds_toArray]
      refine takeHD (i := 5) (v := .pointer (some ⟨R, 0, none⟩)) (some 107) rfl rfl (by kernel_rfl) (by kernel_rfl) (by kernel_rfl) (fun _ _ _ h => h) (Or.inl ⟨by kernel_rfl, fun w' hw => ?_⟩) HSw.out ?_
      · obtain ⟨hw0, hw1⟩ := hw
        go_simp
      simp only [Act.put, List.setIfInBounds_toArray]
      refine takeHD (i := 6) (v := .pointer (some ⟨R, 0, none⟩)) (some 108) rfl rfl (by kernel_rfl) (by kernel_rfl) (by kernel_rfl) (fun _ _ _ h => h) (Or.inl ⟨by kernel_rfl, fun w' hw => ?_⟩) HSw.out ?_
      · obtain ⟨hw0, hw1⟩ := hw
        go_simp
      simp only [Act.put, List.setIfInBounds_toArray]
      refine takeHD (i := 7) (v := .pointer (some ⟨R, 1, none⟩)) (some 109) rfl rfl (by kernel_rfl) (by kernel_rfl) (by kernel_rfl) (fun _ _ _ h => h) (Or.inl ⟨by kernel_rfl, fun w' hw => ?_⟩) HSw.out ?_
      · obtain ⟨hw0, hw1⟩ := hw
        go_simp
      simp only [Act.put, List.setIfInBounds_toArray]
      refine takeHD (i := 8) (v := .int .i64 (q : Int)) (some 110) rfl rfl (by kernel_rfl) (by kernel_rfl) (by kernel_rfl) (fun _ _ _ h => h) (Or.inl ⟨by kernel_rfl, fun w' hw => ?_⟩) HSw.out ?_
      · obtain ⟨hw0, hw1⟩ := hw
        go_simp
      simp only [Act.put, List.setIfInBounds_toArray]
      refine takeHD (i := 9) (v := .string (s.extract (p + 1) q)) (some 111) rfl rfl (by kernel_rfl) (by kernel_rfl) (by kernel_rfl) (fun _ _ _ h => h) (Or.inl ⟨by kernel_rfl, fun w' hw => ?_⟩) HSw.out ?_
      · obtain ⟨hw0, hw1⟩ := hw
        go_simp
      simp only [Act.put, List.setIfInBounds_toArray]
      refine takeHD (i := 10) (v := .agg #[.int .i64 3, .string (s.extract (p + 1) q), .slice none 0 0]) (some 112) rfl rfl (by kernel_rfl) (by kernel_rfl) (by kernel_rfl) (fun _ _ _ h => h) (Or.inl ⟨by kernel_rfl, fun w' hw => ?_⟩) HSw.out ?_
      · obtain ⟨hw0, hw1⟩ := hw
        go_simp
      simp only [Act.put, List.setIfInBounds_toArray]
      refine wpAnyH_ready (rs := [11]) (by kernel_rfl) (by simp) ?_
      refine AllReadyH.cons rfl (fun K hK => ?_) AllReadyH.nil
      rw [if_pos (by kernel_rfl)]
      go_wp2_with fail
      refine hK.out _ _ ⟨((Hs1.out.grow ((Below.refl _ _).alloc (Nat.le_refl _) _)).drew 1).c0, ((Hs1.out.grow ((Below.refl _ _).alloc (Nat.le_refl _) _)).drew 1).c1⟩ (fun _ => ?_)
      clear hK K
      refine wpAnyH_ready (rs := [12]) (by kernel_rfl) (by simp) ?_
      refine AllReadyH.cons rfl (fun K hK => ?_) AllReadyH.nil
      rw [if_pos (by kernel_rfl)]
      go_wp2_with fail
      refine hK.out _ _ ⟨((Hs1.out.grow ((Below.refl _ _).alloc (Nat.le_refl _) _)).drew 1).c0, ((Hs1.out.grow ((Below.refl _ _).alloc (Nat.le_refl _) _)).drew 1).c1⟩ (fun _ => ?_)
      clear hK K
      refine wpAnyH_done (by kernel_rfl) ?_ _
      have hal : Below W5.heap.size W5 (W5.alloc (.cells #[.int .i64 3, .string (s.extract (p + 1) q), .slice none 0 0] 128)) := (Below.refl _ _).alloc (Nat.le_refl _) _
      have hS6 : Sds (W5.alloc (.cells #[.int .i64 3, .string (s.extract (p + 1) q), .slice none 0 0] 128)).drew R s q false d := (Hs1.out.grow hal).drew 1
      have hB6 : Bx3 (W5.alloc (.cells #[.int .i64 3, .string (s.extract (p + 1) q), .slice none 0 0] 128)).drew w.heap.size (.int .i64 0) (.string ⟨#[]⟩) (.slice none 0 0) := (Hb1.out.kept (hal.block _ Hb1.out.lt)).gb (gb_drew _ R 1) hne
      have hX6 : Bx3 (W5.alloc (.cells #[.int .i64 3, .string (s.extract (p + 1) q), .slice none 0 0] 128)).drew (w.heap.size + 1) (.int .i64 3) (.string (s.extract (p + 1) q)) (.slice none 0 0) := by
        have := Bx3.new W5 (.int .i64 3) (.string (s.extract (p + 1) q)) (.slice none 0 0)
        rw [hz1] at this
        exact this
      have hG6 : w.grownBy (W5.alloc (.cells #[.int .i64 3, .string (s.extract (p + 1) q), .slice none 0 0] 128)).drew (some R) := gb_trans (gb_below Hg1.out hal) (gb_drew _ R 1)
      generalize (W5.alloc (.cells #[.int .i64 3, .string (s.extract (p + 1) q), .slice none 0 0] 128)).drew = W6 at hS6 hB6 hX6 hG6 ⊢
      have HS6 := Hid.mk hS6
      have HB6 := Hid.mk hB6
      have HX6 := Hid.mk hX6
      have HG6 := Hid.mk hG6
      have HTW := Hid.mk (set_found s (p + 1) q hq1 hq2 hall.out HST.out)
      have HXE : Hid (s.extract (p + 1) q = strOf (((txt s).drop (p + 1)).takeWhile ne93)) := by show _ = _; rw [extract_txt s (p + 1) q hq1 hq2, HTW.out]
      have hxne : w.heap.size + 1 ≠ R := by omega
      clear hS6 hB6 hX6 hG6 hal Hs1 Hb1 Hg1 HSw hsl HST
      have HE2 : Hid (rdAtom (rd n) ((txt s).drop p) = none) := by
        show _ = _
        rw [HE.out, rdSet, if_neg]
        rw [HTW.out, List.length_take, List.length_drop, txt_length]
        omega
      have HT := Hid.mk (l3Is_any s R q false d 93 W6 HS6.out hq2 hs false (by rw [hbn]; rfl))
      go_wp2_with fail
      refine HT.out.mono ?_
      rintro e w8 ⟨rfl, hg8, hr8, hz8⟩
      have HB8 := Hid.mk (HB6.out.gb hg8 hne)
      have HG8 := Hid.mk (gb_trans HG6.out hg8)
      have HS8 : Hid (Sds w8 R s q false d) := hr8
      have HBad := Hid.mk (l3Bad_any s R q false d w8 HS8.out)
      clear HT hg8 hr8 hz8 HB6 HG6 HS6 HX6 HTW HXE
      go_wp2_with fail
      refine HBad.out.mono ?_
      rintro e w9 ⟨rfl, hg9, hr9, hz9⟩
      have HB9 := Hid.mk (HB8.out.gb hg9 hne)
      have HG9 := Hid.mk (gb_trans HG8.out hg9)
      have HS9 := Hid.mk hr9
      clear HBad hg9 hr9 HB8 HG8 HS8
      have c0 := HB9.out.c0
      have c1 := HB9.out.c1
      have c2 := HB9.out.c2
      have f0 := HB9.out.fr
      go_wp2
      have hput := HB9.out.put (.int .i64 0) (.string ⟨#[]⟩) (.slice none 0 0)
      have hgp := gb_set3 HG9.out (Nat.le_refl _) (.int .i64 0) (.string ⟨#[]⟩) (.slice none 0 0)
      have hrp := HS9.out.set3 (Ne.symm hne) (.int .i64 0) (.string ⟨#[]⟩) (.slice none 0 0)
      unfold set3 at hput hgp hrp
      generalize ((w9.setCell ⟨w.heap.size, 0, none⟩ (.int .i64 0)).setCell ⟨w.heap.size, 1, none⟩ (.string ⟨#[]⟩)).setCell ⟨w.heap.size, 2, none⟩ (.slice none 0 0) = W at hput hgp hrp ⊢
      have r0 := hput.c0
      have r1 := hput.c1
      have r2 := hput.c2
      refine bodyPost_ret (v := .agg #[.int .i64 0, .string ⟨#[]⟩, .slice none 0 0]) ?_ rfl ⟨hgp, leaf 0, _, q, rfl, (ow_leaf w anyBlock 0).1, Ow.none _, by omega, by omega, Or.inl ⟨HE2.out, d, hrp, by omega, by omega⟩⟩
      simp [results, Tryz.results99, go_sem, r0, r1, r2]
    have hql : q < s.size := by omega
    have hqi : (q : Int) < (s.size : Int) := by omega
    clear heq
    by_cases h93 : ((s[q].toNat : Nat) : Int) = 93
    · have HST : Hid (∀ (h : q < s.size), ((s[q].toNat : Nat) : Int) = 93) := fun _ => h93
      have hbn : nextIs s q 93 = true := by rw [nextIs_at hql, h93]; rfl
      have hbq : (((s[q].toNat : Nat) : Int) != 93) = false := by rw [h93]; rfl
      clear h93
      go_wp2_with fail
      refine wp_region_quiet_lit (by kernel_rfl) (by kernel_rfl) (Qt.out ?_)
      refine Qt.step (fun K hK => ?_)
      go_simp
      refine hK _ ?_
      clear hK K
      refine Qt.step (fun K hK => ?_)
      go_simp
      refine hK _ ?_
      clear hK K
      refine Qt.step (fun K hK => ?_)
      go_simp
      refine hK _ ?_
      clear hK K
      refine Qt.step (fun K hK => ?_)
      go_simp
      refine hK _ ?_
      clear hK K
      refine Qt.step (fun K hK => ?_)
      go_simp
      refine hK _ ?_
      clear hK K
      refine Qt.step (fun K hK => ?_)
      go_simp
      refine hK _ ?_
      clear hK K
      refine Qt.step (fun K hK => ?_)
      go_simp
      refine hK _ ?_
      clear hK K
      refine Qt.step (fun K hK => ?_)
      go_simp
      refine hK _ ?_
      clear hK K
      refine Qt.step (fun K hK => ?_)
      go_simp
      refine hK _ ?_
      clear hK K
      refine Qt.step (fun K hK => ?_)
      go_simp
      refine hK _ ?_
      clear hK K
      refine Qt.step (fun K hK => ?_)
      go_simp
      refine hK _ ?_
      clear hK K
      refine Qt.step (fun K hK => ?_)
      go_simp
      refine hK _ ?_
      clear hK K
      refine Qt.step (fun K hK => ?_)
      go_simp
      refine hK _ ?_
      clear hK K
      refine Qt.step (fun K hK => ?_)
      go_simp
      refine hK _ ?_
      clear hK K
      refine Qt.step (fun K hK => ?_)
      go_simp
      refine hK _ ?_
      clear hK K
      refine Qt.step (fun K hK => ?_)
      go_simp
      refine hK _ ?_
      clear hK K
      refine Qt.step (fun K hK => ?_)
      go_simp
      refine hK _ ?_
      clear hK K
      refine Qt.step (fun K hK => ?_)
      go_simp
      refine hK _ ?_
      clear hK K
      refine Qt.step (fun K hK => ?_)
      go_simp
      refine hK _ ?_
      clear hK K
      refine Qt.step (fun K hK => ?_)
      go_simp
      refine hK _ ?_
      clear hK K
      refine Qt.step (fun K hK => ?_)
      go_simp
      refine hK _ ?_
      clear hK K
      refine Qt.step (fun K hK => ?_)
      go_simp
      refine hK _ ?_
      clear hK K
      refine Qt.nil ?_
      intro _ hw'
      obtain ⟨nq1, hw''⟩ := hw'
      subst hw''
      have HS1 := hsd.out.drew nq1
      have HB1 := hbx.out.gb (gb_drew _ R nq1) hne
      have HG1 := gb_trans hg.out (gb_drew _ R nq1)
      have hz1 : (wr.drewN nq1).heap.size = w.heap.size + 1 := hzr
      generalize (wr.drewN nq1) = W5 at HS1 HB1 HG1 hz1 ⊢
      clear c0 c1 hsd hbx hg
      have Hs1 := Hid.mk HS1
      have Hb1 := Hid.mk HB1
      have Hg1 := Hid.mk HG1
      clear HS1 HB1 HG1
      go_wp2_with fail
      have HSw : Hid ((fun (w' : World) => w'.cell? ⟨R, 0, none⟩ = some (.string s) ∧ w'.cell? ⟨R, 1, none⟩ = some (.int .i64 (q : Int))) W5.drew) := ⟨(Hs1.out.drew 1).c0, (Hs1.out.drew 1).c1⟩
      have hsl : ∀ w, (Instr.slice 9 (.string s) (some (.int .i64 ((p : Int) + 1))) (some (.int .i64 (q : Int))) none).run Tryz.prog w = .ok (.string (s.extract (p + 1) q)) w := fun w => by
        have := run_slice_string (P := Tryz.prog) w 9 s .i64 .i64 ((p : Int) + 1) (q : Int) Tryz.underlying9 (by omega) (by omega) (by omega)
        rw [this]; rfl
      refine wp_region_held_drew (S := fun (w' : World) => w'.cell? ⟨R, 0, none⟩ = some (.string s) ∧ w'.cell? ⟨R, 1, none⟩ = some (.int .i64 (q : Int))) (by kernel_rfl) HSw.out (fun _ => ?_)
      refine takeHD (i := 0) (v := .pointer (some ⟨R, 0, none⟩)) (some 102) rfl rfl (by kernel_rfl) (by kernel_rfl) (by kernel_rfl) (fun _ _ _ h => h) (Or.inl ⟨by kernel_rfl, fun w' hw => ?_⟩) HSw.out ?_
      · obtain ⟨hw0, hw1⟩ := hw
        go_simp
      simp only [Act.put, List.setIfInBounds_toArray]
      refine takeHD (i := 1) (v := .pointer (some ⟨R, 0, none⟩)) (some 103) rfl rfl (by kernel_rfl) (by kernel_rfl) (by kernel_rfl) (fun _ _ _ h => h) (Or.inl ⟨by kernel_rfl, fun w' hw => ?_⟩) HSw.out ?_
      · obtain ⟨hw0, hw1⟩ := hw
        go_simp
      simp only [Act.put, List.setIfInBounds_toArray]
      refine takeHD (i := 2) (v := .pointer (some ⟨R, 0, none⟩)) (some 104) rfl rfl (by kernel_rfl) (by kernel_rfl) (by kernel_rfl) (fun _ _ _ h => h) (Or.inl ⟨by kernel_rfl, fun w' hw => ?_⟩) HSw.out ?_
      · obtain ⟨hw0, hw1⟩ := hw
        go_simp
      simp only [Act.put, List.setIfInBounds_toArray]
      refine takeHD (i := 3) (v := .string s) (some 105) rfl rfl (by kernel_rfl) (by kernel_rfl) (by kernel_rfl) (fun _ _ _ h => h) (Or.inl ⟨by kernel_rfl, fun w' hw => ?_⟩) HSw.out ?_
      · obtain ⟨hw0, hw1⟩ := hw
        go_simp
      simp only [Act.put, List.setIfInBounds_toArray]
      refine takeHD (i := 4) (v := .int .i64 ((p : Int) + 1)) (some 106) rfl rfl (by kernel_rfl) (by kernel_rfl) (by kernel_rfl) (fun _ _ _ h => h) (Or.inl ⟨by kernel_rfl, fun w' hw => ?_⟩) HSw.out ?_
      · obtain ⟨hw0, hw1⟩ := hw
        go_simp
      simp only [Act.put, List.setIfInBounds_toArray]
      refine takeHD (i := 5) (v := .pointer (some ⟨R, 0, none⟩)) (some 107) rfl rfl (by kernel_rfl) (by kernel_rfl) (by kernel_rfl) (fun _ _ _ h => h) (Or.inl ⟨by kernel_rfl, fun w' hw => ?_⟩) HSw.out ?_
      · obtain ⟨hw0, hw1⟩ := hw
        go_simp
      simp only [Act.put, List.setIfInBounds_toArray]
      refine takeHD (i := 6) (v := .pointer (some ⟨R, 0, none⟩)) (some 108) rfl rfl (by kernel_rfl) (by kernel_rfl) (by kernel_rfl) (fun _ _ _ h => h) (Or.inl ⟨by kernel_rfl, fun w' hw => ?_⟩) HSw.out ?_
      · obtain ⟨hw0, hw1⟩ := hw
        go_simp
      simp only [Act.put, List.setIfInBounds_toArray]
      refine takeHD (i := 7) (v := .pointer (some ⟨R, 1, none⟩)) (some 109) rfl rfl (by kernel_rfl) (by kernel_rfl) (by kernel_rfl) (fun _ _ _ h => h) (Or.inl ⟨by kernel_rfl, fun w' hw => ?_⟩) HSw.out ?_
      · obtain ⟨hw0, hw1⟩ := hw
        go_simp
      simp only [Act.put, List.setIfInBounds_toArray]
      refine takeHD (i := 8) (v := .int .i64 (q : Int)) (some 110) rfl rfl (by kernel_rfl) (by kernel_rfl) (by kernel_rfl) (fun _ _ _ h => h) (Or.inl ⟨by kernel_rfl, fun w' hw => ?_⟩) HSw.out ?_
      · obtain ⟨hw0, hw1⟩ := hw
        go_simp
      simp only [Act.put, List.setIfInBounds_toArray]
      refine takeHD (i := 9) (v := .string (s.extract (p + 1) q)) (some 111) rfl rfl (by kernel_rfl) (by kernel_rfl) (by kernel_rfl) (fun _ _ _ h => h) (Or.inl ⟨by kernel_rfl, fun w' hw => ?_⟩) HSw.out ?_
      · obtain ⟨hw0, hw1⟩ := hw
        go_simp
      simp only [Act.put, List.setIfInBounds_toArray]
      refine takeHD (i := 10) (v := .agg #[.int .i64 3, .string (s.extract (p + 1) q), .slice none 0 0]) (some 112) rfl rfl (by kernel_rfl) (by kernel_rfl) (by kernel_rfl) (fun _ _ _ h => h) (Or.inl ⟨by kernel_rfl, fun w' hw => ?_⟩) HSw.out ?_
      · obtain ⟨hw0, hw1⟩ := hw
        go_simp
      simp only [Act.put, List.setIfInBounds_toArray]
      refine wpAnyH_ready (rs := [11]) (by kernel_rfl) (by simp) ?_
      refine AllReadyH.cons rfl (fun K hK => ?_) AllReadyH.nil
      rw [if_pos (by kernel_rfl)]
      go_wp2_with fail
      refine hK.out _ _ ⟨((Hs1.out.grow ((Below.refl _ _).alloc (Nat.le_refl _) _)).drew 1).c0, ((Hs1.out.grow ((Below.refl _ _).alloc (Nat.le_refl _) _)).drew 1).c1⟩ (fun _ => ?_)
      clear hK K
      refine wpAnyH_ready (rs := [12]) (by kernel_rfl) (by simp) ?_
      refine AllReadyH.cons rfl (fun K hK => ?_) AllReadyH.nil
      rw [if_pos (by kernel_rfl)]
      go_wp2_with fail
      refine hK.out _ _ ⟨((Hs1.out.grow ((Below.refl _ _).alloc (Nat.le_refl _) _)).drew 1).c0, ((Hs1.out.grow ((Below.refl _ _).alloc (Nat.le_refl _) _)).drew 1).c1⟩ (fun _ => ?_)
      clear hK K
      refine wpAnyH_done (by kernel_rfl) ?_ _
      have hal : Below W5.heap.size W5 (W5.alloc (.cells #[.int .i64 3, .string (s.extract (p + 1) q), .slice none 0 0] 128)) := (Below.refl _ _).alloc (Nat.le_refl _) _
      have hS6 : Sds (W5.alloc (.cells #[.int .i64 3, .string (s.extract (p + 1) q), .slice none 0 0] 128)).drew R s q false d := (Hs1.out.grow hal).drew 1
      have hB6 : Bx3 (W5.alloc (.cells #[.int .i64 3, .string (s.extract (p + 1) q), .slice none 0 0] 128)).drew w.heap.size (.int .i64 0) (.string ⟨#[]⟩) (.slice none 0 0) := (Hb1.out.kept (hal.block _ Hb1.out.lt)).gb (gb_drew _ R 1) hne
      have hX6 : Bx3 (W5.alloc (.cells #[.int .i64 3, .string (s.extract (p + 1) q), .slice none 0 0] 128)).drew (w.heap.size + 1) (.int .i64 3) (.string (s.extract (p + 1) q)) (.slice none 0 0) := by
        have := Bx3.new W5 (.int .i64 3) (.string (s.extract (p + 1) q)) (.slice none 0 0)
        rw [hz1] at this
        exact this
      have hG6 : w.grownBy (W5.alloc (.cells #[.int .i64 3, .string (s.extract (p + 1) q), .slice none 0 0] 128)).drew (some R) := gb_trans (gb_below Hg1.out hal) (gb_drew _ R 1)
      generalize (W5.alloc (.cells #[.int .i64 3, .string (s.extract (p + 1) q), .slice none 0 0] 128)).drew = W6 at hS6 hB6 hX6 hG6 ⊢
      have HS6 := Hid.mk hS6
      have HB6 := Hid.mk hB6
      have HX6 := Hid.mk hX6
      have HG6 := Hid.mk hG6
      have HTW := Hid.mk (set_found s (p + 1) q hq1 hq2 hall.out HST.out)
      have HXE : Hid (s.extract (p + 1) q = strOf (((txt s).drop (p + 1)).takeWhile ne93)) := by show _ = _; rw [extract_txt s (p + 1) q hq1 hq2, HTW.out]
      have hxne : w.heap.size + 1 ≠ R := by omega
      clear hS6 hB6 hX6 hG6 hal Hs1 Hb1 Hg1 HSw hsl HST
      have HE2 : Hid (rdAtom (rd n) ((txt s).drop p) = some (.node 3 (s.extract (p + 1) q) [], (txt s).drop (q + 1))) := by
        show _ = _
        have hl : (((txt s).drop (p + 1)).takeWhile ne93).length = q - (p + 1) := by rw [HTW.out, List.length_take, List.length_drop, txt_length]; omega
        rw [HE.out, rdSet, if_pos (by rw [hl, List.length_drop, txt_length]; omega), hl, ← HXE.out, List.drop_drop]
        congr 2
        congr 1
        omega
      have HOS := Hid.mk (fun (w : World) (B : Nat → Prop) => ow_string w B 3 (((txt s).drop (p + 1)).takeWhile ne93) (by rw [HTW.out, List.length_take, List.length_drop, txt_length]; omega))
      rw [← HXE.out] at HOS
      have HT := Hid.mk (l3Is_any s R q false d 93 W6 HS6.out hq2 hs true (by rw [hbn]; rfl))
      obtain ⟨ZZ, hZ⟩ : ∃ ZZ, s.extract (p + 1) q = ZZ := ⟨_, rfl⟩
      rw [hZ] at HE2 HOS HX6
      clear HTW HXE
      go_wp2_with fail
      refine HT.out.mono ?_
      rintro e w8 ⟨rfl, hg8, hr8, hz8⟩
      have HB8 := Hid.mk (HB6.out.gb hg8 hne)
      have HG8 := Hid.mk (gb_trans HG6.out hg8)
      have HX8 := Hid.mk (HX6.out.gb hg8 hxne)
      have HS8 : Hid (Sds w8 R s (q + 1) false d) := hr8
      have x0 := HX8.out.c0
      have x1 := HX8.out.c1
      have x2 := HX8.out.c2
      clear HT hg8 hr8 hz8 HB6 HG6 HS6 HX6
      have c0 := HB8.out.c0
      have c1 := HB8.out.c1
      have c2 := HB8.out.c2
      have f0 := HB8.out.fr
      go_wp2
      have hput := HB8.out.put (.int .i64 3) (.string ZZ) (.slice none 0 0)
      have hgp := gb_set3 HG8.out (Nat.le_refl _) (.int .i64 3) (.string ZZ) (.slice none 0 0)
      have hrp := HS8.out.set3 (Ne.symm hne) (.int .i64 3) (.string ZZ) (.slice none 0 0)
      unfold set3 at hput hgp hrp
      generalize ((w8.setCell ⟨w.heap.size, 0, none⟩ (.int .i64 3)).setCell ⟨w.heap.size, 1, none⟩ (.string ZZ)).setCell ⟨w.heap.size, 2, none⟩ (.slice none 0 0) = W at hput hgp hrp ⊢
      have r0 := hput.c0
      have r1 := hput.c1
      have r2 := hput.c2
      refine bodyPost_ret (v := .agg #[.int .i64 3, .string ZZ, .slice none 0 0]) ?_ rfl ⟨hgp, .node 3 ZZ [], _, q + 1, rfl, (HOS.out w anyBlock).1, Ow.none _, by omega, by omega, Or.inr ⟨HE2.out, by omega, hrp⟩⟩
      simp [results, Tryz.results99, go_sem, r0, r1, r2]
    · have hbq : (((s[q].toNat : Nat) : Int) != 93) = true := by simpa using h93
      have hall2 : Hid (∀ j (h : j < s.size), p + 1 ≤ j → j < q + 1 → ((s[j].toNat : Nat) : Int) ≠ 93) := by
        intro j hj h1 h2
        by_cases hj2 : j < q
        · exact hall.out j hj h1 hj2
        · obtain rfl : j = q := by omega
          exact h93
      clear h93 hall
      go_wp2_with fail
      refine wp_region_quiet_lit (by kernel_rfl) (by kernel_rfl) (Qt.out ?_)
      refine Qt.step (fun K hK => ?_)
      go_simp
      refine hK _ ?_
      clear hK K
      refine Qt.step (fun K hK => ?_)
      go_simp
      refine hK _ ?_
      clear hK K
      refine Qt.step (fun K hK => ?_)
      go_simp
      refine hK _ ?_
      clear hK K
      refine Qt.step (fun K hK => ?_)
      go_simp
      refine hK _ ?_
      clear hK K
      refine Qt.step (fun K hK => ?_)
      go_simp
      refine hK _ ?_
      clear hK K
      refine Qt.step (fun K hK => ?_)
      go_simp
      refine hK _ ?_
      clear hK K
      refine Qt.step (fun K hK => ?_)
      go_simp
      refine hK _ ?_
      clear hK K
      refine Qt.step (fun K hK => ?_)
      go_simp
      refine hK _ ?_
      clear hK K
      refine Qt.step (fun K hK => ?_)
      go_simp
      refine hK _ ?_
      clear hK K
      refine Qt.step (fun K hK => ?_)
      go_simp
      refine hK _ ?_
      clear hK K
      refine Qt.step (fun K hK => ?_)
      go_simp
      refine hK _ ?_
      clear hK K
      refine Qt.step (fun K hK => ?_)
      go_simp
      refine hK _ ?_
      clear hK K
      refine Qt.step (fun K hK => ?_)
      go_simp
      refine hK _ ?_
      clear hK K
      refine Qt.step (fun K hK => ?_)
      go_simp
      refine hK _ ?_
      clear hK K
      refine Qt.step (fun K hK => ?_)
      go_simp
      refine hK _ ?_
      clear hK K
      refine Qt.step (fun K hK => ?_)
      go_simp
      refine hK _ ?_
      clear hK K
      refine Qt.step (fun K hK => ?_)
      go_simp
      refine hK _ ?_
      clear hK K
      refine Qt.step (fun K hK => ?_)
      go_simp
      refine hK _ ?_
      clear hK K
      refine Qt.step (fun K hK => ?_)
      go_simp
      refine hK _ ?_
      clear hK K
      refine Qt.step (fun K hK => ?_)
      go_simp
      refine hK _ ?_
      clear hK K
      refine Qt.step (fun K hK => ?_)
      go_simp
      refine hK _ ?_
      clear hK K
      refine Qt.step (fun K hK => ?_)
      go_simp
      refine hK _ ?_
      clear hK K
      refine Qt.nil ?_
      intro _ hw'
      obtain ⟨nq1, hw''⟩ := hw'
      subst hw''
      have HS1 := hsd.out.drew nq1
      have HB1 := hbx.out.gb (gb_drew _ R nq1) hne
      have HG1 := gb_trans hg.out (gb_drew _ R nq1)
      have hz1 : (wr.drewN nq1).heap.size = w.heap.size + 1 := hzr
      generalize (wr.drewN nq1) = W5 at HS1 HB1 HG1 hz1 ⊢
      have HS2 : Hid (Sds (W5.setCell ⟨R, 1, none⟩ (.int .i64 ((q : Int) + 1))) R s (q + 1) false d) := by
        have := HS1.put1 (q + 1)
        rwa [show ((q + 1 : Nat) : Int) = (q : Int) + 1 by omega] at this
      have HB2 := Hid.mk (HB1.kept (w' := W5.setCell ⟨R, 1, none⟩ (.int .i64 ((q : Int) + 1))) (heap_setCell_other _ _ _ _ hne))
      have HG2 := Hid.mk (gb_put HG1 1 (.int .i64 ((q : Int) + 1)))
      have e1 := HS1.c1
      have e2 := HS1.fr 1
      clear HS1 HB1 HG1 hsd hbx hg c0 c1
      go_wp2
      go_roundg (s.size - (q + 1))
      case measure => omega
      case rel => exact ⟨q + 1, by omega, by omega, rfl, by simp [hz1], HG2, HS2, HB2, hall2⟩
end Go.Proofs.YtbbhikbdbndefaaGreat

namespace Go.Proofs.YtbbhikbdbndefaaGreat
open Go.RowKit
set_option maxRecDepth 8000

theorem atom_of (n : Nat) (d : Int) (hd : d ≤ 9) (hcg : SpC 104 (rdGroup (rd n)) d) : SpC 99 (rdAtom (rd n)) d := by
  intro s R p w h hp hs
  by_cases he : s.size ≤ p
  · exact atom_end n d hd s R p w h hp he
  have hlt : p < s.size := by omega
  obtain ⟨c, hc⟩ : ∃ c, ((s[p].toNat : Nat) : Int) = c := ⟨_, rfl⟩
  by_cases h3 : c = 46 ∨ c = 94 ∨ c = 36
  · exact atom_leafs n d s R p w h hlt hs c hc h3
  by_cases h40 : c = 40
  · exact atom_group n d hd s R p w h hlt hs c hc h40 hcg
  by_cases h91 : c = 91
  · exact atom_set n d hd s R p w h hlt hs (by rw [hc, h91])
  cases hrb : rb c with
  | true => exact atom_byte n d hd s R p w h hlt hs c hc (by omega) (by omega) (by omega) h40 h91 hrb
  | false => exact atom_bad n d hd s R p w h hlt hs c hc (by omega) (by omega) (by omega) h40 h91 hrb

theorem ow_first {w : World} {B : Nat → Prop} {x : Tr} {v : Value} (h : Ow w B [x] v) :
    ∃ g cap V, v = .slice (some ⟨g, 0, none⟩) 1 cap ∧ At3 w g 0 x.k x.s V ∧ Ow w B x.l V ∧ x.s.size ≤ maxLen := by
  cases h with
  | full _ l g cap xs V Bi hl hg hown hs hx hB hd hsub =>
    obtain ⟨x0, x1, x2⟩ := hx 0 (by simp)
    refine ⟨g, cap, V 0, rfl, ?_, (hsub 0 (by simp)).mono fun b hb => (hB 0 b hb).1, hs 0 (by simp)⟩
    exact ⟨by have := hown.cellAt 0 (by simp); rw [this]; simpa using x0, by have := hown.cellAt 1 (by simp); rw [this]; simpa using x1, by have := hown.cellAt 2 (by simp); rw [this]; simpa using x2⟩

theorem drop_len (s : ByteArray) (p : Nat) : s.size - p ≤ ((txt s).drop p).length := by rw [List.length_drop, txt_length]; exact Nat.le_refl _

theorem oneAll_many {k : Int} {l : List Tr} (h1 : l.length ≠ 1) (hl : l ≠ []) : oneAll k l = .node k ⟨#[]⟩ l := by
  match l, h1, hl with
  | [], _, hl => exact absurd rfl hl
  | [x], h1, _ => exact absurd rfl h1
  | x :: y :: r, _, _ => rfl

set_option maxHeartbeats 16000000 in
theorem choicesSp_of (n : Nat) (d : Int) (hd9 : d ≤ 9) (hc : SpC 90 (rdCat (rd n)) d) : SpC 85 (rdAlt (rd n)) d := by
  intro s R p w h hp hs
  obtain ⟨h0, hne, hb0, hg0⟩ := pre_boxS h
  have H0 := Hid.mk h0
  have HB0 := Hid.mk hb0
  have HG0 := Hid.mk hg0
  have hRl := h.lt
  have HC := Hid.mk hc
  clear h h0 hb0 hg0 hc
  go_enter Tryz.func85, Tryz.ntmps85
  go_wp2_with fail
  refine (HC.out s R p _ H0.out hp hs).mono ?_
  rintro e w1 ⟨hg1, t, u, p1, rfl, hsz, how, hp1, hp2, hcase⟩
  obtain ⟨au, cu, rfl⟩ := how.value
  have hbw : Below w1.heap.size w1 (w1.alloc (.cells #[.int .i64 t.k, .string t.s, .slice au t.l.length cu] 128)) := (Below.refl _ _).alloc (Nat.le_refl _) _
  have hs1 : w.heap.size + 1 ≤ w1.heap.size := by have := hg1.size; simpa using this
  have HB1 := Hid.mk ((HB0.out.gb hg1 hne).kept (hbw.block _ (HB0.out.gb hg1 hne).lt))
  have HG1 := Hid.mk (gb_below (gb_trans HG0.out hg1) hbw)
  have HO1 := Hid.mk (Ow.one (t := t) how hsz (C := newFrom (w.heap.size + 1)) (fun b hb _ => by unfold newFrom at *; simpa using hb) (by unfold newFrom; omega))
  obtain ⟨RR, hRR⟩ : ∃ RR, rdAlt (rd n) ((txt s).drop p) = RR := ⟨_, rfl⟩
  obtain ⟨bad, d1, HS1, hcs⟩ : ∃ (bad : Bool) (d1 : Int), Hid (Sds (w1.alloc (.cells #[.int .i64 t.k, .string t.s, .slice au t.l.length cu] 128)) R s p1 bad d1) ∧
      Hid ((bad = true ∧ d ≤ d1 ∧ d1 ≤ 9 ∧ RR = none) ∨ (bad = false ∧ d1 = d ∧ p < p1 ∧ ∃ m, s.size - p1 ≤ m ∧ RR = (rdAltL (rd n) m [t] ((txt s).drop p1)).map fun p => (oneAll 5 p.1, p.2))) := by
    rcases hcase with ⟨hr0, d', hsd, e1, e2⟩ | ⟨hrd, hpp, hsd⟩
    · exact ⟨true, d', hsd.grow hbw, Or.inl ⟨rfl, e1, e2, by rw [← hRR, rdAlt, hr0]⟩⟩
    · exact ⟨false, d, hsd.grow hbw, Or.inr ⟨rfl, rfl, hpp, _, drop_len s p1, by rw [← hRR, rdAlt, hrd]⟩⟩
  have HRR := Hid.mk hRR
  obtain ⟨tk, htk⟩ : ∃ tk, t.k = tk := ⟨_, rfl⟩
  obtain ⟨ts, hts⟩ : ∃ ts, t.s = ts := ⟨_, rfl⟩
  rw [htk, hts] at HB1 HG1 HO1 HS1
  rw [htk, hts]
  clear hg1 hsz how hbw H0 HB0 HG0 hRR htk hts hcase
  go_wp2
  go_loopg [3] (if bad = true then 0 else s.size - p1 + 1) (fun k v wr => ∃ (acc : List Tr) (pc : Nat) (bad : Bool) (d1 : Int), acc ≠ [] ∧ p ≤ pc ∧ pc ≤ s.size ∧ (if bad = true then 0 else s.size - pc + 1) = k ∧ acc.length + (s.size - pc) ≤ 1048577 ∧
      Hid ((bad = true ∧ d ≤ d1 ∧ d1 ≤ 9 ∧ RR = none) ∨ (bad = false ∧ d1 = d ∧ p < pc ∧ ∃ m, s.size - pc ≤ m ∧ RR = (rdAltL (rd n) m acc ((txt s).drop pc)).map fun p => (oneAll 5 p.1, p.2))) ∧
      Hid (w.grownBy wr (some R)) ∧ Hid (Sds wr R s pc bad d1) ∧ Hid (Bx3 wr w.heap.size (.int .i64 0) (.string ⟨#[]⟩) (.slice none 0 0)) ∧ Hid (Ow wr (newFrom (w.heap.size + 1)) acc v))
  case atStart => exact ⟨[t], p1, bad, d1, by simp, hp1, hp2, rfl, by simp; omega, hcs, HG1, HS1, HB1, HO1⟩
  case round =>
    clear HG1 HS1 HB1 HO1 hcs
    obtain ⟨acc, pc, bad, d1, hacc, hpc, hpc2, hgk, hlen, hcs, hg, hsd, hb, ho⟩ := hrel
    obtain ⟨v, rfl⟩ : ∃ v, v = u3 := ⟨_, rfl⟩
    cases hy : (!bad && nextIs s pc 124) with
    | false =>
      have HT := Hid.mk (l3Is_any s R pc bad d1 124 wr hsd.out hpc2 hs false hy)
      go_wp2_with fail
      refine HT.out.mono ?_
      rintro e w2 ⟨rfl, hg2, hr2, hz2⟩
      have HB2 := Hid.mk (hb.out.gb hg2 hne)
      have HG2 := Hid.mk (gb_trans hg.out hg2)
      have HS2 : Hid (Sds w2 R s pc bad d1) := hr2
      have HO2 := Hid.mk (ho.out.gb hg2 (by unfold newFrom; omega))
      clear HT hg2 hr2 hz2
      have HF : Hid ((bad = true ∧ d ≤ d1 ∧ d1 ≤ 9 ∧ RR = none) ∨ (bad = false ∧ d1 = d ∧ p < pc ∧ RR = some (oneAll 5 acc, (txt s).drop pc))) := by
        rcases hcs.out with h | ⟨hb, hd1, hpp, m, hm, he⟩
        · exact Or.inl h
        · exact Or.inr ⟨hb, hd1, hpp, by rw [he, rdAltL_stop (rd n) m acc s pc (by rw [hb] at hy; simpa using hy)]; rfl⟩
      clear hcs hg hsd hb ho HC
      by_cases hl1 : acc.length = 1
      · obtain ⟨x, rfl⟩ := List.length_eq_one_iff.1 hl1
        obtain ⟨g2, cap2, V2, rfl, hat, hoV, hsV⟩ := ow_first HO2.out
        obtain ⟨y0, y1, y2⟩ := hat
        simp only [Nat.zero_add] at y1 y2
        obtain ⟨a4, c4, rfl⟩ := hoV.value
        have HO4 := Hid.mk hoV
        have HSZ := Hid.mk hsV
        have HF2 : Hid ((bad = true ∧ d ≤ d1 ∧ d1 ≤ 9 ∧ RR = none) ∨ (bad = false ∧ d1 = d ∧ p < pc ∧ RR = some (x, (txt s).drop pc))) := HF.out
        have h1b : ((([x] : List Tr).length : Int) == 1) = true := by simp
        obtain ⟨xk, hxk⟩ : ∃ xk, x.k = xk := ⟨_, rfl⟩
        obtain ⟨xs, hxs⟩ : ∃ xs, x.s = xs := ⟨_, rfl⟩
        rw [hxk] at y0
        rw [hxs] at y1
        clear HO2 hoV hsV HF hl1
        have c0 := HB2.out.c0
        have c1 := HB2.out.c1
        have c2 := HB2.out.c2
        have f0 := HB2.out.fr
        go_wp2
        have hput := HB2.out.put (.int .i64 xk) (.string xs) (.slice a4 x.l.length c4)
        have hgp := gb_set3 HG2.out (Nat.le_refl _) (.int .i64 xk) (.string xs) (.slice a4 x.l.length c4)
        have hrp := HS2.out.set3 (Ne.symm hne) (.int .i64 xk) (.string xs) (.slice a4 x.l.length c4)
        have hop := HO4.out.set3 (b := w.heap.size) (by unfold newFrom; omega) (.int .i64 xk) (.string xs) (.slice a4 x.l.length c4)
        unfold set3 at hput hgp hrp hop
        generalize ((w2.setCell ⟨w.heap.size, 0, none⟩ (.int .i64 xk)).setCell ⟨w.heap.size, 1, none⟩ (.string xs)).setCell ⟨w.heap.size, 2, none⟩ (.slice a4 x.l.length c4) = W at hput hgp hrp hop ⊢
        have r0 := hput.c0
        have r1 := hput.c1
        have r2 := hput.c2
        refine bodyPost_ret (v := .agg #[.int .i64 xk, .string xs, .slice a4 x.l.length c4]) ?_ rfl ⟨hgp, x, _, pc, by rw [hxk, hxs], HSZ.out, hop.mono (fun b hb => by unfold newFrom at *; omega), by omega, by omega, ?_⟩
        · simp [results, Tryz.results85, go_sem, r0, r1, r2]
        · rcases HF2.out with ⟨hb, e1, e2, he⟩ | ⟨hb, hd1, hpp, he⟩
          · exact Or.inl ⟨HRR.out.trans he, d1, by rw [hb] at hrp; exact hrp, e1, e2⟩
          · exact Or.inr ⟨HRR.out.trans he, hpp, by rw [hb, hd1] at hrp; exact hrp⟩
      · have HF2 : Hid ((bad = true ∧ d ≤ d1 ∧ d1 ≤ 9 ∧ RR = none) ∨ (bad = false ∧ d1 = d ∧ p < pc ∧ RR = some (.node 5 ⟨#[]⟩ acc, (txt s).drop pc))) := by
          have := HF.out
          rw [oneAll_many hl1 hacc] at this
          exact this
        obtain ⟨a4, c4, rfl⟩ := HO2.out.value
        have h1b : ((acc.length : Int) == 1) = false := beq_eq_false_iff_ne.2 (by omega)
        clear HF hl1
        have c0 := HB2.out.c0
        have c1 := HB2.out.c1
        have c2 := HB2.out.c2
        have f0 := HB2.out.fr
        go_wp2
        have hput := HB2.out.put (.int .i64 5) (.string ⟨#[]⟩) (.slice a4 acc.length c4)
        have hgp := gb_set3 HG2.out (Nat.le_refl _) (.int .i64 5) (.string ⟨#[]⟩) (.slice a4 acc.length c4)
        have hrp := HS2.out.set3 (Ne.symm hne) (.int .i64 5) (.string ⟨#[]⟩) (.slice a4 acc.length c4)
        have hop := HO2.out.set3 (b := w.heap.size) (by unfold newFrom; omega) (.int .i64 5) (.string ⟨#[]⟩) (.slice a4 acc.length c4)
        unfold set3 at hput hgp hrp hop
        generalize ((w2.setCell ⟨w.heap.size, 0, none⟩ (.int .i64 5)).setCell ⟨w.heap.size, 1, none⟩ (.string ⟨#[]⟩)).setCell ⟨w.heap.size, 2, none⟩ (.slice a4 acc.length c4) = W at hput hgp hrp hop ⊢
        have r0 := hput.c0
        have r1 := hput.c1
        have r2 := hput.c2
        refine bodyPost_ret (v := .agg #[.int .i64 5, .string ⟨#[]⟩, .slice a4 acc.length c4]) ?_ rfl ⟨hgp, .node 5 ⟨#[]⟩ acc, _, pc, rfl, (by show (⟨#[]⟩ : ByteArray).size ≤ maxLen; decide), hop.mono (fun b hb => by unfold newFrom at *; omega), by omega, by omega, ?_⟩
        · simp [results, Tryz.results85, go_sem, r0, r1, r2]
        · rcases HF2.out with ⟨hb, e1, e2, he⟩ | ⟨hb, hd1, hpp, he⟩
          · exact Or.inl ⟨HRR.out.trans he, d1, by rw [hb] at hrp; exact hrp, e1, e2⟩
          · exact Or.inr ⟨HRR.out.trans he, hpp, by rw [hb, hd1] at hrp; exact hrp⟩
    | true =>
      have hbf : bad = false := by cases bad <;> simp_all
      subst hbf
      have hy' : nextIs s pc 124 = true := by simpa using hy
      have hlt1 := nextIs_lt hy'
      have HT := Hid.mk (l3Is_any s R pc false d1 124 wr hsd.out hpc2 hs true hy)
      obtain ⟨pq, hpqe⟩ : ∃ pq, pq = pc + 1 := ⟨_, rfl⟩
      have hpq : pq ≤ s.size := by omega
      have hsw : w.heap.size + 1 ≤ wr.heap.size := by have := hb.out.lt; omega
      go_wp2_with fail
      refine HT.out.mono ?_
      rintro e w2 ⟨rfl, hg2, hr2, hz2⟩
      have HB2 := Hid.mk (hb.out.gb hg2 hne)
      have HG2 := Hid.mk (gb_trans hg.out hg2)
      have HS2 : Hid (Sds w2 R s pq false d1) := by rw [hpqe]; exact hr2
      have HO2 := Hid.mk (ho.out.gb hg2 (by unfold newFrom; omega))
      have hs2 : w.heap.size + 1 ≤ w2.heap.size := by omega
      clear HT hg2 hr2 hz2
      rcases hcs.out with ⟨hbt, _⟩ | ⟨_, hd1, hpp, m, hm, he⟩
      · cases hbt
      subst hd1
      obtain ⟨m', rfl⟩ : ∃ m', m = m' + 1 := ⟨m - 1, by omega⟩
      have HST0 : Hid (rdCat (rd n) ((txt s).drop pq) = none → RR = none) := by intro hh; rw [he, rdAltL, if_pos (head_is.1 hy'), tail_is, ← hpqe, hh]; rfl
      have HST1 : Hid (∀ t2 q2, rdCat (rd n) ((txt s).drop pq) = some (t2, q2) → RR = (rdAltL (rd n) m' (acc ++ [t2]) q2).map fun p => (oneAll 5 p.1, p.2)) := by intro t2 q2 hh; rw [he, rdAltL, if_pos (head_is.1 hy'), tail_is, ← hpqe, hh]
      go_wp2_with fail
      refine (HC.out s R pq _ HS2.out hpq hs).mono ?_
      rintro e w4 ⟨hg4, t2, u2, p2, rfl, hsz4, how4, hp3, hp4, hcase4⟩
      obtain ⟨a2, k2, rfl⟩ := how4.value
      have hs4 : w.heap.size + 1 ≤ w4.heap.size := by have := hg4.size; omega
      have hbw : Below w4.heap.size w4 (w4.alloc (.cells #[.int .i64 t2.k, .string t2.s, .slice a2 t2.l.length k2] 128)) := (Below.refl _ _).alloc (Nat.le_refl _) _
      have HB4 := Hid.mk ((HB2.out.gb hg4 hne).kept (hbw.block _ (HB2.out.gb hg4 hne).lt))
      have HG4 := Hid.mk (gb_below (gb_trans HG2.out hg4) hbw)
      have HOA := Hid.mk ((HO2.out.there.gb hg4 (fun hh => by have := hh.1; unfold newFrom at this; omega)).grow hbw)
      have HX4 := Hid.mk (Bx3.new w4 (.int .i64 t2.k) (.string t2.s) (.slice a2 t2.l.length k2))
      have HO4 := Hid.mk (how4.grow hbw)
      have HSZ4 := Hid.mk hsz4
      have Hlen : Hid (acc.length ≤ 1048576) := by show _ ≤ _; omega
      obtain ⟨bad2, d2, HS4, hcs2⟩ : ∃ (bad2 : Bool) (d2 : Int), Hid (Sds (w4.alloc (.cells #[.int .i64 t2.k, .string t2.s, .slice a2 t2.l.length k2] 128)) R s p2 bad2 d2) ∧
          Hid ((bad2 = true ∧ d1 ≤ d2 ∧ d2 ≤ 9 ∧ RR = none) ∨ (bad2 = false ∧ d2 = d1 ∧ pq < p2 ∧ RR = (rdAltL (rd n) m' (acc ++ [t2]) ((txt s).drop p2)).map fun p => (oneAll 5 p.1, p.2))) := by
        rcases hcase4 with ⟨hr0, d', hsd4, e1, e2⟩ | ⟨hrd, hpp4, hsd4⟩
        · exact ⟨true, d', hsd4.grow hbw, Or.inl ⟨rfl, e1, e2, HST0.out hr0⟩⟩
        · exact ⟨false, d1, hsd4.grow hbw, Or.inr ⟨rfl, rfl, hpp4, HST1.out _ _ hrd⟩⟩
      obtain ⟨tk2, htk2⟩ : ∃ tk, t2.k = tk := ⟨_, rfl⟩
      obtain ⟨ts2, hts2⟩ : ∃ ts, t2.s = ts := ⟨_, rfl⟩
      have HX5 : Hid (Bx3 (w4.alloc (.cells #[.int .i64 tk2, .string ts2, .slice a2 t2.l.length k2] 128)) w4.heap.size (.int .i64 t2.k) (.string t2.s) (.slice a2 t2.l.length k2)) := by
        rw [← htk2, ← hts2]; exact HX4.out
      rw [htk2, hts2] at HB4 HG4 HOA HO4 HS4
      rw [htk2, hts2]
      have Hsz2 : Hid (w2.heap.size ≤ w4.heap.size) := hg4.size
      have Hw2 : Hid (w.heap.size + 1 ≤ w2.heap.size) := hs2
      clear hg4 hsz4 how4 hbw hcs hg hsd hb ho HST0 HST1 HB2 HG2 HS2 HO2 HX4 htk2 hts2 hcase4 he
      go_wp2_with (at_builtin; refine wpList_append_ow rfl _ _ rfl (fun b => newFrom (w.heap.size + 1) b ∧ b < w2.heap.size) (newFrom w2.heap.size) (newFrom (w.heap.size + 1)) _ (.slice a2 t2.l.length k2) acc t2 w4.heap.size hacc rfl HOA.out rfl HX5.out HO4.out HSZ4.out (fun b hb hb2 => by unfold newFrom at *; omega) (fun b hb => hb.1) (fun b hb => by have := Hw2.out; unfold newFrom at *; omega) (by have := Hsz2.out; have := Hw2.out; unfold newFrom; simp; omega) Hlen.out ?_)
      intro v6 w6 g6 ho6 hB6 hB6b hgr6
      have HO6 := Hid.mk ho6
      have hg6 := hB6
      unfold newFrom at hg6
      have HB6 := Hid.mk (HB4.out.kept (hgr6.block _ HB4.out.lt (by simp; omega)))
      have HG6 : Hid (w.grownBy w6 (some R)) := ⟨hgr6.os.trans HG4.out.os, hgr6.tape.trans HG4.out.tape, hgr6.output.trans HG4.out.output, Nat.le_trans HG4.out.size hgr6.size, fun k hk hne => (hgr6.block k (Nat.lt_of_lt_of_le hk HG4.out.size) (by simp; omega)).trans (HG4.out.block k hk hne)⟩
      have HS6 := Hid.mk (HS4.out.kept (hgr6.block R HS4.out.lt (by simp; omega)))
      have hcs3 : Hid ((bad2 = true ∧ d1 ≤ d2 ∧ d2 ≤ 9 ∧ RR = none) ∨ (bad2 = false ∧ d2 = d1 ∧ p < p2 ∧ ∃ m, s.size - p2 ≤ m ∧ RR = (rdAltL (rd n) m (acc ++ [t2]) ((txt s).drop p2)).map fun p => (oneAll 5 p.1, p.2))) := by
        rcases hcs2.out with h | ⟨e1, e2, e3, e4⟩
        · exact Or.inl h
        · exact Or.inr ⟨e1, e2, by omega, m', by omega, e4⟩
      have hms : (if bad2 = true then 0 else s.size - p2 + 1) < s.size - pc + 1 := by
        rcases hcs2.out with ⟨e1, _⟩ | ⟨e1, _, e3, _⟩
        · rw [if_pos e1]; omega
        · rw [if_neg (by rw [e1]; simp)]; omega
      clear ho6 hB6 hB6b hgr6 HB4 HG4 HS4 HOA HO4 HSZ4 HX5 hg6 Hlen Hsz2 Hw2 hcs2
      go_wp2
      go_roundg (if bad2 = true then 0 else s.size - p2 + 1)
      case measure => rw [← hgk]; simpa using hms
      case rel => exact ⟨acc ++ [t2], p2, bad2, d2, by simp, by omega, by omega, rfl, by simp; omega, hcs3, HG6, HS6, HB6, HO6⟩
end Go.Proofs.YtbbhikbdbndefaaGreat
