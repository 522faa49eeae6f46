/- The draw of what is replaced: an expression, two texts, whether all. The law FnReplaced walked: a drawn text in which nothing matches stays as it is; with itself in the place of what matches once, too; once is no more often than all. -/
import Derived.Test.YtapniafhcagogaaDoorPk7
import Derived.Test.YtapniafhcagogaaDoorPk2
import Derived.Deep.Strs
namespace Go.Proofs.YtapniafhcagogaaDoor
open Go.RowKit
set_option maxRecDepth 8000

set_option maxHeartbeats 4000000 in
theorem drawReplace_any (v : Value) (zs : List Int) (w : World) (h : Bs w v zs) (hlen : zs.length ≤ 1048576) :
    Calls Tryd.prog 27 #[v] w fun e w' => ∃ (t : Tr) (u : Value) (s y : ByteArray) (bl : Bool), e = .returned (.tuple #[rx t.k t.s u, .string s, .string y, .bool bl]) ∧ t.s.size ≤ maxLen ∧ s.size ≤ 6 ∧ y.size ≤ 2 ∧ Rl w' (newFrom w.heap.size) t.l u ∧ Below w.heap.size w w' := by
  have H := Hid.mk (h.grow ((Below.refl w.heap.size w).alloc (Nat.le_refl _) (.cells #[.int .i64 0, .string ⟨#[]⟩, .slice none 0 0] 26)))
  have Z0 := Hid.mk (Bz3.new w (.int .i64 0) (.string ⟨#[]⟩) (.slice none 0 0))
  have A0 : Hid (Below w.heap.size w (w.alloc (.cells #[.int .i64 0, .string ⟨#[]⟩, .slice none 0 0] 26))) := (Below.refl _ _).alloc (Nat.le_refl _) _
  have hv0 : zs ≠ [] → ∀ k, v.ownBlock = some k → k < w.heap.size := fun hz k hk => h.lt hz k hk
  have HV0 := Hid.mk hv0
  have S0 : (w.alloc (.cells #[.int .i64 0, .string ⟨#[]⟩, .slice none 0 0] 26)).heap.size = w.heap.size + 1 := by simp
  clear h hv0
  go_enter Tryd.func27, Tryd.ntmps27
  go_wp2_with fail
  generalize w.alloc (.cells #[.int .i64 0, .string ⟨#[]⟩, .slice none 0 0] 26) = W0 at H Z0 A0 S0 ⊢
  refine (l1New_any v zs W0 H.out hlen).mono ?_
  rintro e w1 ⟨rfl, hC1, hb1⟩
  have C1 := Hid.mk hC1
  have Z1 := Hid.mk (Z0.out.grow hb1)
  have B1 := Hid.mk (A0.out.trans (hb1.mono (by omega)))
  rw [S0] at C1 ⊢
  clear hC1 hb1 H Z0 A0 S0
  go_wp2_with fail
  refine (l3Draw_any 2 (by omega) (w.heap.size + 1) v zs w1 C1.out).mono ?_
  rintro e w2 ⟨t, u, rfl, hdn, how, hC2, hg2⟩
  have hts := hdn.size
  obtain ⟨au, cu, rfl, -⟩ := how.rl.len
  obtain ⟨tk, htk⟩ : ∃ tk, t.k = tk := ⟨_, rfl⟩
  obtain ⟨ts, hts'⟩ : ∃ ts, t.s = ts := ⟨_, rfl⟩
  obtain ⟨l, hl⟩ : ∃ l, t.l = l := ⟨_, rfl⟩
  have A3 : Below w2.heap.size w2 (w2.alloc (.cells #[.int .i64 tk, .string ts, .slice au l.length cu] 26)) := (Below.refl _ _).alloc (Nat.le_refl _) _
  have s12 := hg2.size
  have hc1 := C1.out.lt
  have C3 := Hid.mk (hC2.grow A3)
  have Z3 := Hid.mk ((Z1.out.by hg2 (by omega)).grow A3)
  have X3 := Hid.mk (Bz3.new w2 (.int .i64 tk) (.string ts) (.slice au l.length cu))
  have R3 := Hid.mk ((how.rl.imp (C := newFrom (w.heap.size + 2)) (fun b hb _ => by unfold newFrom at *; omega)).grow A3)
  have B2 : Below w.heap.size w w2 := B1.out.grown hg2 B1.out.size (fun k e => by simp at e; omega)
  have B3 := Hid.mk (B2.trans (A3.mono B2.size))
  have S3 : (w2.alloc (.cells #[.int .i64 tk, .string ts, .slice au l.length cu] 26)).heap.size = w2.heap.size + 1 := by simp
  rw [htk, hts', hl]
  rw [hl] at R3
  rw [hts'] at hts
  clear hdn how hC2 hg2 htk hts' hl C1 Z1 B1 B2 A3 t
  go_wp2_with fail
  generalize w2.alloc (.cells #[.int .i64 tk, .string ts, .slice au l.length cu] 26) = W3 at C3 Z3 X3 R3 B3 S3 ⊢
  have hb6 : w.heap.size + 2 ≤ w2.heap.size := by omega
  generalize w2.heap.size = b6 at X3 S3 hb6 ⊢
  clear s12 hc1 w1 w2
  refine (l1Once_any (w.heap.size + 1) v zs 10 W3 C3.out).mono ?_
  rintro e w4 ⟨bo, rfl, hC4, hg4⟩
  have s34 := hg4.size
  have C4 := Hid.mk hC4
  have Z4 := Hid.mk (Z3.out.by hg4 (by omega))
  have X4 := Hid.mk (X3.out.by hg4 (by omega))
  have R4 := Hid.mk ((R3.out.imp (C := fun b => w.heap.size + 2 ≤ b ∧ b < W3.heap.size) (fun b hb hlt => ⟨hb, hlt⟩)).kept (w' := w4) (fun b hb hlt => hg4.block b hlt (by simp; omega)))
  have B4 : Hid (Below w.heap.size w w4) := B3.out.grown hg4 B3.out.size (fun k e => by simp at e; omega)
  have hs4 : b6 < w4.heap.size := by omega
  clear hC4 hg4 C3 Z3 X3 R3 B3 s34
  cases bo with
  | false =>
    have hbw : b6 < w4.heap.size := X4.out.lt
    have SS : Kc w4 (w.heap.size + 1) w.heap.size w4.drew := Kc.refl _ _ _
    have HX := Hid.mk (fun (w' : World) (hk : Kc w4 (w.heap.size + 1) w.heap.size w') => X4.out.kept (hk.2.2.2.2 b6 X4.out.lt (by omega) (by omega)))
    go_wp2_with fail
    refine wp_region_held_drew (S := Kc w4 (w.heap.size + 1) w.heap.size) (by kernel_rfl) SS (fun _ => ?_)
    refine takeHD (i := 0) (v := rx tk ts (.slice au l.length cu)) (some 16) rfl rfl (by kernel_rfl) (by kernel_rfl) (by kernel_rfl) (fun _ _ _ h => h) (Or.inl ⟨by kernel_rfl, fun w' hw => ?_⟩) SS ?_
    · have Y := HX.out w' hw; have y0 := Y.c0; have y1 := Y.c1; have y2 := Y.c2; go_simp
    simp only [Act.put, List.setIfInBounds_toArray]
    refine takeHD (i := 1) (v := .pointer (some ⟨w.heap.size + 1, 0, none⟩)) (some 17) rfl rfl (by kernel_rfl) (by kernel_rfl) (by kernel_rfl) (fun _ _ _ h => h) (Or.inl ⟨by kernel_rfl, fun w' hw => ?_⟩) SS ?_
    · kernel_rfl
    simp only [Act.put, List.setIfInBounds_toArray]
    refine takeHD (i := 3) (v := .pointer (some ⟨w.heap.size + 1, 0, none⟩)) (some 19) rfl rfl (by kernel_rfl) (by kernel_rfl) (by kernel_rfl) (fun _ _ _ h => h) (Or.inl ⟨by kernel_rfl, fun w' hw => ?_⟩) SS ?_
    · kernel_rfl
    simp only [Act.put, List.setIfInBounds_toArray]
    refine takeHD (i := 6) (v := .pointer (some ⟨w.heap.size + 1, 0, none⟩)) (some 22) rfl rfl (by kernel_rfl) (by kernel_rfl) (by kernel_rfl) (fun _ _ _ h => h) (Or.inl ⟨by kernel_rfl, fun w' hw => ?_⟩) SS ?_
    · kernel_rfl
    simp only [Act.put, List.setIfInBounds_toArray]
    have D0 : Below w4.heap.size w4 w4.drew := Below.drewSelf _ _ 1
    refine wpAnyH_ready (rs := [2, 4]) (by kernel_rfl) (by simp) ?_
    refine AllReadyH.cons rfl (fun K hK => ?_) (AllReadyH.cons rfl (fun K hK => ?_) AllReadyH.nil)
    · rw [if_pos (by kernel_rfl)]
      go_wp2_with fail
      have CA := Hid.mk (C4.out.grow D0)
      have ZA := Hid.mk (Z4.out.grow D0)
      refine (l4Text_any (w.heap.size + 1) v zs _ CA.out).mono ?_
      rintro e w7 ⟨s, rfl, hs6, hC7, hg7⟩
      have K7 := SS.grown hg7
      refine hK.out _ _ K7 (fun _ => ?_)
      clear hK K
      have C7 := Hid.mk hC7
      have Z7 := Hid.mk (ZA.out.by hg7 (by omega))
      have s7 := hC7.lt
      clear hC7 hg7
      refine wpAnyH_ready (rs := [4]) (by kernel_rfl) (by simp) ?_
      refine AllReadyH.cons rfl (fun K hK => ?_) AllReadyH.nil
      rw [if_pos (by kernel_rfl)]
      go_wp2_with fail
      have K8 := K7.alloc (.cells #[.string ⟨#[]⟩, .string ⟨#[120]⟩, .string ⟨#[121, 121]⟩, .string ⟨#[97]⟩] 9)
      refine hK.out _ _ K8 (fun _ => ?_)
      clear hK K
      have D8 : Below w7.heap.size w7 (w7.alloc (.cells #[.string ⟨#[]⟩, .string ⟨#[120]⟩, .string ⟨#[121, 121]⟩, .string ⟨#[97]⟩] 9)) := (Below.refl _ _).alloc (Nat.le_refl _) _
      have C8 := Hid.mk (C7.out.grow D8)
      have Z8 := Hid.mk (Z7.out.grow D8)
      clear C7 Z7 CA ZA D8
      refine wpAnyH_ready (rs := [5]) (by kernel_rfl) (by simp) ?_
      refine AllReadyH.cons rfl (fun K hK => ?_) AllReadyH.nil
      rw [if_pos (by kernel_rfl)]
      go_wp2_with fail
      refine (l1Str_any (w.heap.size + 1) w7.heap.size 4 v zs [⟨#[]⟩, ⟨#[120]⟩, ⟨#[121, 121]⟩, ⟨#[97]⟩] _ C8.out rfl (by omega) (by omega) (heap_alloc_new w7 _) (by omega)).mono ?_
      rintro e w9 ⟨y, rfl, hy, hC9, hg9⟩
      have hy2 : y.size ≤ 2 := low_size (by decide +kernel) hy
      have K9 := K8.grown hg9
      refine hK.out _ _ K9 (fun _ => ?_)
      clear hK K hy
      have C9 := Hid.mk hC9
      have Z9 := Hid.mk (Z8.out.by hg9 (by omega))
      clear hC9 hg9
      refine wpAnyH_ready (rs := [7]) (by kernel_rfl) (by simp) ?_
      refine AllReadyH.cons rfl (fun K hK => ?_) AllReadyH.nil
      rw [if_pos (by kernel_rfl)]
      go_wp2_with fail
      refine (l1Once_any (w.heap.size + 1) v zs 2 _ C9.out).mono ?_
      rintro e w11 ⟨bl, rfl, hC11, hg11⟩
      have K11 := K9.grown hg11
      refine hK.out _ _ K11 (fun _ => ?_)
      clear hK K hC11
      have Z11 := Hid.mk (Z9.out.by hg11 (by omega))
      clear hg11 Z9 C9 Z8
      have z0 := Z11.out.c0
      have z1 := Z11.out.c1
      have z2 := Z11.out.c2
      have zf := Z11.out.fr
      refine wpAnyH_ready (rs := [8]) (by kernel_rfl) (by simp) ?_
      refine AllReadyH.cons rfl (fun K hK => ?_) AllReadyH.nil
      rw [if_pos (by kernel_rfl)]
      go_wp2_with fail
      have K10 : Kc w4 (w.heap.size + 1) w.heap.size (sz3 w11 w.heap.size (.int .i64 tk) (.string ts) (.slice au l.length cu)) := ⟨K11.1, K11.2.1, K11.2.2.1, by rw [sz3_size]; exact K11.2.2.2.1, fun b h1 h2 h3 => (sz3_other _ _ _ _ _ _ h3).trans (K11.2.2.2.2 b h1 h2 h3)⟩
      refine hK.out _ _ K10 (fun _ => ?_)
      clear hK K
      refine wpAnyH_ready (rs := [9]) (by kernel_rfl) (by simp) ?_
      refine AllReadyH.cons rfl (fun K hK => ?_) AllReadyH.nil
      rw [if_pos (by kernel_rfl)]
      go_wp2_with fail
      refine hK.out _ _ K10 (fun _ => ?_)
      clear hK K
      refine wpAnyH_ready (rs := [10]) (by kernel_rfl) (by simp) ?_
      refine AllReadyH.cons rfl (fun K hK => ?_) AllReadyH.nil
      rw [if_pos (by kernel_rfl)]
      go_wp2_with fail
      refine hK.out _ _ K10 (fun _ => ?_)
      clear hK K
      refine wpAnyH_ready (rs := [11]) (by kernel_rfl) (by simp) ?_
      refine AllReadyH.cons rfl (fun K hK => ?_) AllReadyH.nil
      rw [if_pos (by kernel_rfl)]
      go_wp2_with fail
      refine hK.out _ _ K10 (fun _ => ?_)
      clear hK K
      refine wpAnyH_done (by kernel_rfl) ?_ _
      have Y10 := Z11.out.put (.int .i64 tk) (.string ts) (.slice au l.length cu)
      have q0 := Y10.c0
      have q1 := Y10.c1
      have q2 := Y10.c2
      have R10 := (R4.out.imp (C := fun b => w.heap.size + 2 ≤ b ∧ b < w4.heap.size) (fun b hb hlt => ⟨by first | exact hb.1 | exact hb, hlt⟩)).kept (w' := sz3 w11 w.heap.size (.int .i64 tk) (.string ts) (.slice au l.length cu)) (fun b hb _ => K10.2.2.2.2 b hb.2 (by omega) (by omega))
      have B10 := B4.out.trans (K10.below (n := w.heap.size) (by omega) (Nat.le_refl _) B4.out.size)
      clear z0 z1 z2 zf Z11
      go_wp2_with fail
      exact bodyPost_ret (v := .tuple #[rx tk ts (.slice au l.length cu), .string s, .string y, .bool bl]) (by simp [results, Tryd.results27, go_sem, q0, q1, q2]) rfl ⟨.node tk ts l, .slice au l.length cu, s, y, bl, rfl, hts, hs6, hy2, R10.imp (fun b hb _ => by unfold newFrom; omega), B10⟩
    · rw [if_pos (by kernel_rfl)]
      go_wp2_with fail
      have K6 := SS.alloc (.cells #[.string ⟨#[]⟩, .string ⟨#[120]⟩, .string ⟨#[121, 121]⟩, .string ⟨#[97]⟩] 9)
      refine hK.out _ _ K6 (fun _ => ?_)
      clear hK K
      have D8 : Below w4.heap.size w4 (w4.drew.alloc (.cells #[.string ⟨#[]⟩, .string ⟨#[120]⟩, .string ⟨#[121, 121]⟩, .string ⟨#[97]⟩] 9)) := D0.alloc (Nat.le_refl _) _
      have CA := Hid.mk (C4.out.grow D8)
      have ZA := Hid.mk (Z4.out.grow D8)
      have hN := heap_alloc_new w4.drew (.cells #[.string ⟨#[]⟩, .string ⟨#[120]⟩, .string ⟨#[121, 121]⟩, .string ⟨#[97]⟩] 9)
      have hcl := C4.out.lt
      refine wpAnyH_ready (rs := [2]) (by kernel_rfl) (by simp) ?_
      refine AllReadyH.cons rfl (fun K hK => ?_) AllReadyH.nil
      rw [if_pos (by kernel_rfl)]
      go_wp2_with fail
      refine (l4Text_any (w.heap.size + 1) v zs _ CA.out).mono ?_
      rintro e w7 ⟨s, rfl, hs6, hC7, hg7⟩
      have K7 := K6.grown hg7
      refine hK.out _ _ K7 (fun _ => ?_)
      clear hK K
      have C7 := Hid.mk hC7
      have Z7 := Hid.mk (ZA.out.by hg7 (by omega))
      have hN7 := (hg7.block w4.heap.size (by simp) (by simp; omega)).trans hN
      clear hC7 hg7 CA ZA D8
      refine wpAnyH_ready (rs := [5]) (by kernel_rfl) (by simp) ?_
      refine AllReadyH.cons rfl (fun K hK => ?_) AllReadyH.nil
      rw [if_pos (by kernel_rfl)]
      go_wp2_with fail
      refine (l1Str_any (w.heap.size + 1) w4.heap.size 4 v zs [⟨#[]⟩, ⟨#[120]⟩, ⟨#[121, 121]⟩, ⟨#[97]⟩] _ C7.out rfl (by omega) (by omega) hN7 (by omega)).mono ?_
      rintro e w9 ⟨y, rfl, hy, hC9, hg9⟩
      have hy2 : y.size ≤ 2 := low_size (by decide +kernel) hy
      have K9 := K7.grown hg9
      refine hK.out _ _ K9 (fun _ => ?_)
      clear hK K hy
      have C9 := Hid.mk hC9
      have Z9 := Hid.mk (Z7.out.by hg9 (by omega))
      clear hC9 hg9
      refine wpAnyH_ready (rs := [7]) (by kernel_rfl) (by simp) ?_
      refine AllReadyH.cons rfl (fun K hK => ?_) AllReadyH.nil
      rw [if_pos (by kernel_rfl)]
      go_wp2_with fail
      refine (l1Once_any (w.heap.size + 1) v zs 2 _ C9.out).mono ?_
      rintro e w11 ⟨bl, rfl, hC11, hg11⟩
      have K11 := K9.grown hg11
      refine hK.out _ _ K11 (fun _ => ?_)
      clear hK K hC11
      have Z11 := Hid.mk (Z9.out.by hg11 (by omega))
      clear hg11 Z9 C9 Z7
      have z0 := Z11.out.c0
      have z1 := Z11.out.c1
      have z2 := Z11.out.c2
      have zf := Z11.out.fr
      refine wpAnyH_ready (rs := [8]) (by kernel_rfl) (by simp) ?_
      refine AllReadyH.cons rfl (fun K hK => ?_) AllReadyH.nil
      rw [if_pos (by kernel_rfl)]
      go_wp2_with fail
      have K10 : Kc w4 (w.heap.size + 1) w.heap.size (sz3 w11 w.heap.size (.int .i64 tk) (.string ts) (.slice au l.length cu)) := ⟨K11.1, K11.2.1, K11.2.2.1, by rw [sz3_size]; exact K11.2.2.2.1, fun b h1 h2 h3 => (sz3_other _ _ _ _ _ _ h3).trans (K11.2.2.2.2 b h1 h2 h3)⟩
      refine hK.out _ _ K10 (fun _ => ?_)
      clear hK K
      refine wpAnyH_ready (rs := [9]) (by kernel_rfl) (by simp) ?_
      refine AllReadyH.cons rfl (fun K hK => ?_) AllReadyH.nil
      rw [if_pos (by kernel_rfl)]
      go_wp2_with fail
      refine hK.out _ _ K10 (fun _ => ?_)
      clear hK K
      refine wpAnyH_ready (rs := [10]) (by kernel_rfl) (by simp) ?_
      refine AllReadyH.cons rfl (fun K hK => ?_) AllReadyH.nil
      rw [if_pos (by kernel_rfl)]
      go_wp2_with fail
      refine hK.out _ _ K10 (fun _ => ?_)
      clear hK K
      refine wpAnyH_ready (rs := [11]) (by kernel_rfl) (by simp) ?_
      refine AllReadyH.cons rfl (fun K hK => ?_) AllReadyH.nil
      rw [if_pos (by kernel_rfl)]
      go_wp2_with fail
      refine hK.out _ _ K10 (fun _ => ?_)
      clear hK K
      refine wpAnyH_done (by kernel_rfl) ?_ _
      have Y10 := Z11.out.put (.int .i64 tk) (.string ts) (.slice au l.length cu)
      have q0 := Y10.c0
      have q1 := Y10.c1
      have q2 := Y10.c2
      have R10 := (R4.out.imp (C := fun b => w.heap.size + 2 ≤ b ∧ b < w4.heap.size) (fun b hb hlt => ⟨by first | exact hb.1 | exact hb, hlt⟩)).kept (w' := sz3 w11 w.heap.size (.int .i64 tk) (.string ts) (.slice au l.length cu)) (fun b hb _ => K10.2.2.2.2 b hb.2 (by omega) (by omega))
      have B10 := B4.out.trans (K10.below (n := w.heap.size) (by omega) (Nat.le_refl _) B4.out.size)
      clear z0 z1 z2 zf Z11
      go_wp2_with fail
      exact bodyPost_ret (v := .tuple #[rx tk ts (.slice au l.length cu), .string s, .string y, .bool bl]) (by simp [results, Tryd.results27, go_sem, q0, q1, q2]) rfl ⟨.node tk ts l, .slice au l.length cu, s, y, bl, rfl, hts, hs6, hy2, R10.imp (fun b hb _ => by unfold newFrom; omega), B10⟩
  | true =>
    go_wp2_with fail
    refine (l3Any_any (w.heap.size + 1) v zs w4 C4.out).mono ?_
    rintro e w5 ⟨t, u5, rfl, ht5, hr5, hC5, hg5⟩
    obtain ⟨a5, c5, rfl, -⟩ := hr5.len
    obtain ⟨k5, hk5⟩ : ∃ tk, t.k = tk := ⟨_, rfl⟩
    obtain ⟨s5, hs5⟩ : ∃ ts, t.s = ts := ⟨_, rfl⟩
    obtain ⟨l5, hl5⟩ : ∃ l, t.l = l := ⟨_, rfl⟩
    rw [hk5, hs5, hl5]
    rw [hs5] at ht5
    rw [hl5] at hr5
    clear hk5 hs5 hl5 t hts
    have hts := ht5
    have s45 := hg5.size
    have X5 := Hid.mk (X4.out.by hg5 (by omega))
    have x0 := X5.out.c0
    have x1 := X5.out.c1
    have x2 := X5.out.c2
    have xf := X5.out.fr
    have C6 := Hid.mk (hC5.sz3 (b := b6) (by omega) (fun hz k hk => by have := HV0.out hz k hk; omega) (.int .i64 k5) (.string s5) (.slice a5 l5.length c5))
    have Z6 := Hid.mk ((Z4.out.by hg5 (by omega)).kept (w' := sz3 w5 b6 (.int .i64 k5) (.string s5) (.slice a5 l5.length c5)) (sz3_other _ _ _ _ _ _ (by omega)))
    have X6 := Hid.mk (X5.out.put (.int .i64 k5) (.string s5) (.slice a5 l5.length c5))
    have R6 := Hid.mk ((hr5.imp (C := fun b => w4.heap.size + 1 ≤ b) (fun b hb _ => hb)).kept (w' := sz3 w5 b6 (.int .i64 k5) (.string s5) (.slice a5 l5.length c5)) (fun b hb _ => sz3_other _ _ _ _ _ _ (by omega)) |>.imp (C := newFrom (w.heap.size + 2)) (fun b hb _ => by unfold newFrom; omega))
    have B5 : Below w.heap.size w w5 := B4.out.grown hg5 B4.out.size (fun k e => by simp at e; omega)
    have B6 : Hid (Below w.heap.size w (sz3 w5 b6 (.int .i64 k5) (.string s5) (.slice a5 l5.length c5))) := ⟨B5.os, B5.tape, B5.output, by rw [sz3_size]; exact B5.size, fun b hb => (sz3_other _ _ _ _ _ _ (by omega)).trans (B5.block b hb)⟩
    clear ht5 hr5 hC5 hg5 C4 Z4 X4 R4 B4 B5 X5
    go_wp2_with fail
    clear x0 x1 x2 xf
    obtain ⟨w6, hw6⟩ : ∃ w6, sz3 w5 b6 (.int .i64 k5) (.string s5) (.slice a5 l5.length c5) = w6 := ⟨_, rfl⟩
    rw [hw6] at C6 Z6 X6 R6 B6
    have hw6' : ((w5.setCell ⟨b6, 0, none⟩ (.int .i64 k5)).setCell ⟨b6, 1, none⟩ (.string s5)).setCell ⟨b6, 2, none⟩ (.slice a5 l5.length c5) = w6 := hw6
    rw [hw6']
    clear hw6 hw6'
    clear s45
    have hbw : b6 < w6.heap.size := X6.out.lt
    have SS : Kc w6 (w.heap.size + 1) w.heap.size w6.drew := Kc.refl _ _ _
    have HX := Hid.mk (fun (w' : World) (hk : Kc w6 (w.heap.size + 1) w.heap.size w') => X6.out.kept (hk.2.2.2.2 b6 X6.out.lt (by omega) (by omega)))
    refine wp_region_held_drew (S := Kc w6 (w.heap.size + 1) w.heap.size) (by kernel_rfl) SS (fun _ => ?_)
    refine takeHD (i := 0) (v := rx k5 s5 (.slice a5 l5.length c5)) (some 16) rfl rfl (by kernel_rfl) (by kernel_rfl) (by kernel_rfl) (fun _ _ _ h => h) (Or.inl ⟨by kernel_rfl, fun w' hw => ?_⟩) SS ?_
    · have Y := HX.out w' hw; have y0 := Y.c0; have y1 := Y.c1; have y2 := Y.c2; go_simp
    simp only [Act.put, List.setIfInBounds_toArray]
    refine takeHD (i := 1) (v := .pointer (some ⟨w.heap.size + 1, 0, none⟩)) (some 17) rfl rfl (by kernel_rfl) (by kernel_rfl) (by kernel_rfl) (fun _ _ _ h => h) (Or.inl ⟨by kernel_rfl, fun w' hw => ?_⟩) SS ?_
    · kernel_rfl
    simp only [Act.put, List.setIfInBounds_toArray]
    refine takeHD (i := 3) (v := .pointer (some ⟨w.heap.size + 1, 0, none⟩)) (some 19) rfl rfl (by kernel_rfl) (by kernel_rfl) (by kernel_rfl) (fun _ _ _ h => h) (Or.inl ⟨by kernel_rfl, fun w' hw => ?_⟩) SS ?_
    · kernel_rfl
    simp only [Act.put, List.setIfInBounds_toArray]
    refine takeHD (i := 6) (v := .pointer (some ⟨w.heap.size + 1, 0, none⟩)) (some 22) rfl rfl (by kernel_rfl) (by kernel_rfl) (by kernel_rfl) (fun _ _ _ h => h) (Or.inl ⟨by kernel_rfl, fun w' hw => ?_⟩) SS ?_
    · kernel_rfl
    simp only [Act.put, List.setIfInBounds_toArray]
    have D0 : Below w6.heap.size w6 w6.drew := Below.drewSelf _ _ 1
    refine wpAnyH_ready (rs := [2, 4]) (by kernel_rfl) (by simp) ?_
    refine AllReadyH.cons rfl (fun K hK => ?_) (AllReadyH.cons rfl (fun K hK => ?_) AllReadyH.nil)
    · rw [if_pos (by kernel_rfl)]
      go_wp2_with fail
      have CA := Hid.mk (C6.out.grow D0)
      have ZA := Hid.mk (Z6.out.grow D0)
      refine (l4Text_any (w.heap.size + 1) v zs _ CA.out).mono ?_
      rintro e w7 ⟨s, rfl, hs6, hC7, hg7⟩
      have K7 := SS.grown hg7
      refine hK.out _ _ K7 (fun _ => ?_)
      clear hK K
      have C7 := Hid.mk hC7
      have Z7 := Hid.mk (ZA.out.by hg7 (by omega))
      have s7 := hC7.lt
      clear hC7 hg7
      refine wpAnyH_ready (rs := [4]) (by kernel_rfl) (by simp) ?_
      refine AllReadyH.cons rfl (fun K hK => ?_) AllReadyH.nil
      rw [if_pos (by kernel_rfl)]
      go_wp2_with fail
      have K8 := K7.alloc (.cells #[.string ⟨#[]⟩, .string ⟨#[120]⟩, .string ⟨#[121, 121]⟩, .string ⟨#[97]⟩] 9)
      refine hK.out _ _ K8 (fun _ => ?_)
      clear hK K
      have D8 : Below w7.heap.size w7 (w7.alloc (.cells #[.string ⟨#[]⟩, .string ⟨#[120]⟩, .string ⟨#[121, 121]⟩, .string ⟨#[97]⟩] 9)) := (Below.refl _ _).alloc (Nat.le_refl _) _
      have C8 := Hid.mk (C7.out.grow D8)
      have Z8 := Hid.mk (Z7.out.grow D8)
      clear C7 Z7 CA ZA D8
      refine wpAnyH_ready (rs := [5]) (by kernel_rfl) (by simp) ?_
      refine AllReadyH.cons rfl (fun K hK => ?_) AllReadyH.nil
      rw [if_pos (by kernel_rfl)]
      go_wp2_with fail
      refine (l1Str_any (w.heap.size + 1) w7.heap.size 4 v zs [⟨#[]⟩, ⟨#[120]⟩, ⟨#[121, 121]⟩, ⟨#[97]⟩] _ C8.out rfl (by omega) (by omega) (heap_alloc_new w7 _) (by omega)).mono ?_
      rintro e w9 ⟨y, rfl, hy, hC9, hg9⟩
      have hy2 : y.size ≤ 2 := low_size (by decide +kernel) hy
      have K9 := K8.grown hg9
      refine hK.out _ _ K9 (fun _ => ?_)
      clear hK K hy
      have C9 := Hid.mk hC9
      have Z9 := Hid.mk (Z8.out.by hg9 (by omega))
      clear hC9 hg9
      refine wpAnyH_ready (rs := [7]) (by kernel_rfl) (by simp) ?_
      refine AllReadyH.cons rfl (fun K hK => ?_) AllReadyH.nil
      rw [if_pos (by kernel_rfl)]
      go_wp2_with fail
      refine (l1Once_any (w.heap.size + 1) v zs 2 _ C9.out).mono ?_
      rintro e w11 ⟨bl, rfl, hC11, hg11⟩
      have K11 := K9.grown hg11
      refine hK.out _ _ K11 (fun _ => ?_)
      clear hK K hC11
      have Z11 := Hid.mk (Z9.out.by hg11 (by omega))
      clear hg11 Z9 C9 Z8
      have z0 := Z11.out.c0
      have z1 := Z11.out.c1
      have z2 := Z11.out.c2
      have zf := Z11.out.fr
      refine wpAnyH_ready (rs := [8]) (by kernel_rfl) (by simp) ?_
      refine AllReadyH.cons rfl (fun K hK => ?_) AllReadyH.nil
      rw [if_pos (by kernel_rfl)]
      go_wp2_with fail
      have K10 : Kc w6 (w.heap.size + 1) w.heap.size (sz3 w11 w.heap.size (.int .i64 k5) (.string s5) (.slice a5 l5.length c5)) := ⟨K11.1, K11.2.1, K11.2.2.1, by rw [sz3_size]; exact K11.2.2.2.1, fun b h1 h2 h3 => (sz3_other _ _ _ _ _ _ h3).trans (K11.2.2.2.2 b h1 h2 h3)⟩
      refine hK.out _ _ K10 (fun _ => ?_)
      clear hK K
      refine wpAnyH_ready (rs := [9]) (by kernel_rfl) (by simp) ?_
      refine AllReadyH.cons rfl (fun K hK => ?_) AllReadyH.nil
      rw [if_pos (by kernel_rfl)]
      go_wp2_with fail
      refine hK.out _ _ K10 (fun _ => ?_)
      clear hK K
      refine wpAnyH_ready (rs := [10]) (by kernel_rfl) (by simp) ?_
      refine AllReadyH.cons rfl (fun K hK => ?_) AllReadyH.nil
      rw [if_pos (by kernel_rfl)]
      go_wp2_with fail
      refine hK.out _ _ K10 (fun _ => ?_)
      clear hK K
      refine wpAnyH_ready (rs := [11]) (by kernel_rfl) (by simp) ?_
      refine AllReadyH.cons rfl (fun K hK => ?_) AllReadyH.nil
      rw [if_pos (by kernel_rfl)]
      go_wp2_with fail
      refine hK.out _ _ K10 (fun _ => ?_)
      clear hK K
      refine wpAnyH_done (by kernel_rfl) ?_ _
      have Y10 := Z11.out.put (.int .i64 k5) (.string s5) (.slice a5 l5.length c5)
      have q0 := Y10.c0
      have q1 := Y10.c1
      have q2 := Y10.c2
      have R10 := (R6.out.imp (C := fun b => w.heap.size + 2 ≤ b ∧ b < w6.heap.size) (fun b hb hlt => ⟨by first | exact hb.1 | exact hb, hlt⟩)).kept (w' := sz3 w11 w.heap.size (.int .i64 k5) (.string s5) (.slice a5 l5.length c5)) (fun b hb _ => K10.2.2.2.2 b hb.2 (by omega) (by omega))
      have B10 := B6.out.trans (K10.below (n := w.heap.size) (by omega) (Nat.le_refl _) B6.out.size)
      clear z0 z1 z2 zf Z11
      go_wp2_with fail
      exact bodyPost_ret (v := .tuple #[rx k5 s5 (.slice a5 l5.length c5), .string s, .string y, .bool bl]) (by simp [results, Tryd.results27, go_sem, q0, q1, q2]) rfl ⟨.node k5 s5 l5, .slice a5 l5.length c5, s, y, bl, rfl, hts, hs6, hy2, R10.imp (fun b hb _ => by unfold newFrom; omega), B10⟩
    · rw [if_pos (by kernel_rfl)]
      go_wp2_with fail
      have K6 := SS.alloc (.cells #[.string ⟨#[]⟩, .string ⟨#[120]⟩, .string ⟨#[121, 121]⟩, .string ⟨#[97]⟩] 9)
      refine hK.out _ _ K6 (fun _ => ?_)
      clear hK K
      have D8 : Below w6.heap.size w6 (w6.drew.alloc (.cells #[.string ⟨#[]⟩, .string ⟨#[120]⟩, .string ⟨#[121, 121]⟩, .string ⟨#[97]⟩] 9)) := D0.alloc (Nat.le_refl _) _
      have CA := Hid.mk (C6.out.grow D8)
      have ZA := Hid.mk (Z6.out.grow D8)
      have hN := heap_alloc_new w6.drew (.cells #[.string ⟨#[]⟩, .string ⟨#[120]⟩, .string ⟨#[121, 121]⟩, .string ⟨#[97]⟩] 9)
      have hcl := C6.out.lt
      refine wpAnyH_ready (rs := [2]) (by kernel_rfl) (by simp) ?_
      refine AllReadyH.cons rfl (fun K hK => ?_) AllReadyH.nil
      rw [if_pos (by kernel_rfl)]
      go_wp2_with fail
      refine (l4Text_any (w.heap.size + 1) v zs _ CA.out).mono ?_
      rintro e w7 ⟨s, rfl, hs6, hC7, hg7⟩
      have K7 := K6.grown hg7
      refine hK.out _ _ K7 (fun _ => ?_)
      clear hK K
      have C7 := Hid.mk hC7
      have Z7 := Hid.mk (ZA.out.by hg7 (by omega))
      have hN7 := (hg7.block w6.heap.size (by simp) (by simp; omega)).trans hN
      clear hC7 hg7 CA ZA D8
      refine wpAnyH_ready (rs := [5]) (by kernel_rfl) (by simp) ?_
      refine AllReadyH.cons rfl (fun K hK => ?_) AllReadyH.nil
      rw [if_pos (by kernel_rfl)]
      go_wp2_with fail
      refine (l1Str_any (w.heap.size + 1) w6.heap.size 4 v zs [⟨#[]⟩, ⟨#[120]⟩, ⟨#[121, 121]⟩, ⟨#[97]⟩] _ C7.out rfl (by omega) (by omega) hN7 (by omega)).mono ?_
      rintro e w9 ⟨y, rfl, hy, hC9, hg9⟩
      have hy2 : y.size ≤ 2 := low_size (by decide +kernel) hy
      have K9 := K7.grown hg9
      refine hK.out _ _ K9 (fun _ => ?_)
      clear hK K hy
      have C9 := Hid.mk hC9
      have Z9 := Hid.mk (Z7.out.by hg9 (by omega))
      clear hC9 hg9
      refine wpAnyH_ready (rs := [7]) (by kernel_rfl) (by simp) ?_
      refine AllReadyH.cons rfl (fun K hK => ?_) AllReadyH.nil
      rw [if_pos (by kernel_rfl)]
      go_wp2_with fail
      refine (l1Once_any (w.heap.size + 1) v zs 2 _ C9.out).mono ?_
      rintro e w11 ⟨bl, rfl, hC11, hg11⟩
      have K11 := K9.grown hg11
      refine hK.out _ _ K11 (fun _ => ?_)
      clear hK K hC11
      have Z11 := Hid.mk (Z9.out.by hg11 (by omega))
      clear hg11 Z9 C9 Z7
      have z0 := Z11.out.c0
      have z1 := Z11.out.c1
      have z2 := Z11.out.c2
      have zf := Z11.out.fr
      refine wpAnyH_ready (rs := [8]) (by kernel_rfl) (by simp) ?_
      refine AllReadyH.cons rfl (fun K hK => ?_) AllReadyH.nil
      rw [if_pos (by kernel_rfl)]
      go_wp2_with fail
      have K10 : Kc w6 (w.heap.size + 1) w.heap.size (sz3 w11 w.heap.size (.int .i64 k5) (.string s5) (.slice a5 l5.length c5)) := ⟨K11.1, K11.2.1, K11.2.2.1, by rw [sz3_size]; exact K11.2.2.2.1, fun b h1 h2 h3 => (sz3_other _ _ _ _ _ _ h3).trans (K11.2.2.2.2 b h1 h2 h3)⟩
      refine hK.out _ _ K10 (fun _ => ?_)
      clear hK K
      refine wpAnyH_ready (rs := [9]) (by kernel_rfl) (by simp) ?_
      refine AllReadyH.cons rfl (fun K hK => ?_) AllReadyH.nil
      rw [if_pos (by kernel_rfl)]
      go_wp2_with fail
      refine hK.out _ _ K10 (fun _ => ?_)
      clear hK K
      refine wpAnyH_ready (rs := [10]) (by kernel_rfl) (by simp) ?_
      refine AllReadyH.cons rfl (fun K hK => ?_) AllReadyH.nil
      rw [if_pos (by kernel_rfl)]
      go_wp2_with fail
      refine hK.out _ _ K10 (fun _ => ?_)
      clear hK K
      refine wpAnyH_ready (rs := [11]) (by kernel_rfl) (by simp) ?_
      refine AllReadyH.cons rfl (fun K hK => ?_) AllReadyH.nil
      rw [if_pos (by kernel_rfl)]
      go_wp2_with fail
      refine hK.out _ _ K10 (fun _ => ?_)
      clear hK K
      refine wpAnyH_done (by kernel_rfl) ?_ _
      have Y10 := Z11.out.put (.int .i64 k5) (.string s5) (.slice a5 l5.length c5)
      have q0 := Y10.c0
      have q1 := Y10.c1
      have q2 := Y10.c2
      have R10 := (R6.out.imp (C := fun b => w.heap.size + 2 ≤ b ∧ b < w6.heap.size) (fun b hb hlt => ⟨by first | exact hb.1 | exact hb, hlt⟩)).kept (w' := sz3 w11 w.heap.size (.int .i64 k5) (.string s5) (.slice a5 l5.length c5)) (fun b hb _ => K10.2.2.2.2 b hb.2 (by omega) (by omega))
      have B10 := B6.out.trans (K10.below (n := w.heap.size) (by omega) (Nat.le_refl _) B6.out.size)
      clear z0 z1 z2 zf Z11
      go_wp2_with fail
      exact bodyPost_ret (v := .tuple #[rx k5 s5 (.slice a5 l5.length c5), .string s, .string y, .bool bl]) (by simp [results, Tryd.results27, go_sem, q0, q1, q2]) rfl ⟨.node k5 s5 l5, .slice a5 l5.length c5, s, y, bl, rfl, hts, hs6, hy2, R10.imp (fun b hb _ => by unfold newFrom; omega), B10⟩
end Go.Proofs.YtapniafhcagogaaDoor

namespace Go.Proofs.YtapniafhcagogaaDoor
open Go.RowKit
set_option maxRecDepth 8000

set_option maxHeartbeats 4000000 in
theorem fnReplaced_walk (v : Value) (zs : List Int) (w : World) (h : Bs w v zs) (hT : TabB w) :
    Calls Tryd.prog 6 #[v] w fun e w' => e = .returned (.bool true) ∧ Below w.heap.size w w' := by
  have H := Hid.mk h
  clear h
  have HB := Hid.mk (big_any v zs w H.out)
  by_cases hlen : zs.length ≤ 1048576
  · have hd : decide ((1048576 : Int) < zs.length) = false := by simp; omega
    rw [hd] at HB
    clear hd
    go_enter Tryd.func6, Tryd.ntmps6
    go_wp2_with fail
    refine HB.out.mono ?_
    rintro e w1 ⟨rfl, hw⟩
    obtain rfl := hw.symm
    clear hw HB
    go_wp2_with fail
    refine (drawReplace_any v zs w H.out hlen).mono ?_
    rintro e w2 ⟨t, u, s, y, bl, rfl, hts, hs, hy, hr2, hb2⟩
    obtain ⟨au, cu, rfl, -⟩ := hr2.len
    have HI := Hid.mk (fun (z : ByteArray) (all : Bool) (hz : z.size ≤ 1048576) (w' : World) (B : Nat → Prop) (h' : Rl w' B t.l (.slice au t.l.length cu)) (hT' : TabB w') => implReplace_any t B _ s z all w' h' hts (by omega) hz hT')
    have HS := Hid.mk (fun (w' : World) (B : Nat → Prop) (h' : Rl w' B t.l (.slice au t.l.length cu)) => specReplace_any t B _ s y bl w' h' hts (by omega) (by omega))
    have HL := Hid.mk (fun (w' : World) (B : Nat → Prop) (h' : Rl w' B t.l (.slice au t.l.length cu)) (hT' : TabB w') => longest_any t B _ s w' h' hts hT')
    have HN := Hid.mk (fun (h : longE t s = none) => rep_none t s y bl h)
    have HO := Hid.mk (fun a e (h : longE t s = some (a, e)) => rep_once t s y a e (by omega) h)
    have HO2 := Hid.mk (fun a e (h : longE t s = some (a, e)) => rep_once t s (s.extract a e) a e (by rw [ByteArray.size_extract]; omega) h)
    have A3 : Below w2.heap.size w2 (w2.alloc (.cells #[.int .i64 t.k, .string t.s, .slice au t.l.length cu] 26)) := (Below.refl _ _).alloc (Nat.le_refl _) _
    have X3 := Hid.mk (Bz3.new w2 (.int .i64 t.k) (.string t.s) (.slice au t.l.length cu))
    have R3 := Hid.mk (hr2.grow A3)
    have B3 := Hid.mk (hb2.trans (A3.mono hb2.size))
    have T3 := Hid.mk (hT.grow B3.out)
    obtain ⟨tk, htk⟩ : ∃ tk, t.k = tk := ⟨_, rfl⟩
    obtain ⟨ts, hts'⟩ : ∃ ts, t.s = ts := ⟨_, rfl⟩
    obtain ⟨tl, htl⟩ : ∃ tl, t.l = tl := ⟨_, rfl⟩
    obtain ⟨LE, hLE⟩ : ∃ LE, longE t s = LE := ⟨_, rfl⟩
    obtain ⟨FR, hFR⟩ : ∃ FR, repR t s = FR := ⟨_, rfl⟩
    rw [htk, hts', htl, hFR] at HI HS
    rw [htk, hts', htl, hLE] at HL
    rw [hLE, hFR] at HN HO HO2
    rw [htk, hts', htl] at X3 R3 B3 T3 ⊢
    clear htk hts' htl hLE hFR hts hr2 hb2 A3 hT H
    go_wp2_with fail
    generalize w2.alloc (.cells #[.int .i64 tk, .string ts, .slice au tl.length cu] 26) = W3 at X3 R3 B3 T3 ⊢
    generalize w2.heap.size = bx at X3 ⊢
    refine (HI.out y bl (by omega) W3 _ R3.out T3.out).mono ?_
    rintro e w4 ⟨rfl, hb4⟩
    have X4 := Hid.mk (X3.out.grow hb4)
    have R4 := Hid.mk (R3.out.grow hb4)
    have B4 := Hid.mk (B3.out.trans (hb4.mono B3.out.size))
    have T4 := Hid.mk (T3.out.grow hb4)
    obtain ⟨x, hx⟩ : ∃ x, (FR y bl).1 = x := ⟨_, rfl⟩
    obtain ⟨n, hn⟩ : ∃ n, (FR y bl).2 = n := ⟨_, rfl⟩
    have HXN : Hid (FR y bl = (x, n)) := by show _ = _; rw [← hx, ← hn]
    have HS' := Hid.mk (HS.out w4 _ R4.out)
    rw [hx, hn] at HS' ⊢
    clear hb4 X3 R3 B3 T3 hx hn HS
    have x0 := X4.out.c0
    have x1 := X4.out.c1
    have x2 := X4.out.c2
    go_wp2_with fail
    refine HS'.out.mono ?_
    rintro e w5 ⟨rfl, hb5⟩
    have X5 := Hid.mk (X4.out.grow hb5)
    have R5 := Hid.mk (R4.out.grow hb5)
    have B5 := Hid.mk (B4.out.trans (hb5.mono B4.out.size))
    have T5 := Hid.mk (T4.out.grow hb5)
    clear hb5 X4 R4 B4 T4 x0 x1 x2 HS'
    have hxx : (x.toList != x.toList) = false := by simp
    have hnn : ((n : Int) != (n : Int)) = false := by simp
    have x0 := X5.out.c0
    have x1 := X5.out.c1
    have x2 := X5.out.c2
    go_wp2_with fail
    refine (HL.out w5 _ R5.out T5.out).mono ?_
    rintro e w6 ⟨rfl, hb6⟩
    have X6 := Hid.mk (X5.out.grow hb6)
    have R6 := Hid.mk (R5.out.grow hb6)
    have B6 := Hid.mk (B5.out.trans (hb6.mono B5.out.size))
    have T6 := Hid.mk (T5.out.grow hb6)
    clear hb6 X5 R5 B5 T5 x0 x1 x2 HL
    cases LE with
    | none =>
      have hF := HN.out rfl
      rw [HXN.out] at hF
      simp only [Prod.mk.injEq] at hF
      obtain ⟨rfl, rfl⟩ := hF
      have hss : (x.toList == x.toList) = true := by simp
      simp only [longV]
      clear HI HO HO2 HN HXN
      go_wp2
      go_ret
      exact ⟨rfl, B6.out⟩
    | some ae =>
      obtain ⟨a, e⟩ := ae
      obtain ⟨hae, hes, hF1, hF2⟩ := HO.out a e rfl
      obtain ⟨-, -, hF3, -⟩ := HO2.out a e rfl
      rw [rep_self s a e hae hes] at hF3
      have HI1 := Hid.mk (HI.out y false (by omega))
      have HI2 := Hid.mk (HI.out (s.extract a e) false (by rw [ByteArray.size_extract]; omega))
      have HI3 := Hid.mk (HI.out y true (by omega))
      rw [hF1] at HI1
      rw [hF3] at HI2
      obtain ⟨m3, hm3⟩ : ∃ m3, (FR y true).2 = m3 := ⟨_, rfl⟩
      obtain ⟨x3, hx3⟩ : ∃ x3, (FR y true).1 = x3 := ⟨_, rfl⟩
      rw [hm3, hx3] at HI3
      rw [hm3] at hF2
      clear HI HO HO2 HN HXN hF1 hF3 hm3 hx3
      have x0 := X6.out.c0
      have x1 := X6.out.c1
      have x2 := X6.out.c2
      simp only [longV]
      go_wp2_with fail
      refine (HI1.out w6 _ R6.out T6.out).mono ?_
      rintro e1 w7 ⟨rfl, hb7⟩
      have X7 := Hid.mk (X6.out.grow hb7)
      have R7 := Hid.mk (R6.out.grow hb7)
      have B7 := Hid.mk (B6.out.trans (hb7.mono B6.out.size))
      have T7 := Hid.mk (T6.out.grow hb7)
      clear hb7 X6 R6 B6 T6 x0 x1 x2 HI1
      have cA := Hid.mk (fun d os => Calls.regrown_of (w := w7) (d := d) (os := os) (HI2.out _ _ (R7.out.grow (below_regrown _ _ _)) (T7.out.grow (below_regrown _ _ _))))
      have a0 := cell_regrown X7.out.c0
      have a1 := cell_regrown X7.out.c1
      have a2 := cell_regrown X7.out.c2
      have hai : (a : Int) ≤ (e : Int) := by omega
      have hei : (e : Int) ≤ (s.size : Int) := by omega
      go_wp2_with fail
      refine wp_region_quiet_below (by kernel_rfl) (by kernel_rfl) ?_
      quiet_step (fail)
      quiet_step (fail)
      quiet_step (fail)
      quiet_step (fail)
      quiet_step (fail)
      quiet_step (fail)
      quiet_step (exact cA.out _ _)
      quiet_step (fail)
      quiet_step (fail)
      quiet_step (fail)
      quiet_step (fail)
      quiet_step (fail)
      refine wpQuiet_nil ?_
      intro w8 hw'
      obtain ⟨⟨dq, osq⟩, hw''⟩ := hw'
      have hb8 : Below w7.heap.size w7 w8 := by rw [hw'']; exact below_regrown _ _ _
      have X8 := Hid.mk (X7.out.grow hb8)
      have R8 := Hid.mk (R7.out.grow hb8)
      have B8 := Hid.mk (B7.out.trans (hb8.mono B7.out.size))
      have T8 := Hid.mk (T7.out.grow hb8)
      clear hw'' a0 a1 a2 cA hb8 X7 R7 B7 T7 HI2
      have x0 := X8.out.c0
      have x1 := X8.out.c1
      have x2 := X8.out.c2
      go_wp2_with fail
      refine (HI3.out w8 _ R8.out T8.out).mono ?_
      rintro e1 w9 ⟨rfl, hb9⟩
      have B9 := Hid.mk (B8.out.trans (hb9.mono B8.out.size))
      clear hb9 X8 R8 B8 T8 x0 x1 x2 HI3
      have z1 : ¬ 9223372036854775807 < (s.extract 0 a).size + y.size := by rw [ByteArray.size_extract]; omega
      have z2 : ¬ 9223372036854775807 < (s.extract 0 a ++ y).size + (s.extract e s.size).size := by rw [ByteArray.size_append, ByteArray.size_extract, ByteArray.size_extract]; omega
      have z3 := z1
      have z4 := z2
      rw [ByteArray.size_extract] at z3
      rw [ByteArray.size_append, ByteArray.size_extract, ByteArray.size_extract] at z4
      have hmi : (1 : Int) ≤ (m3 : Int) := by omega
      have has : (a : Int) ≤ (s.size : Int) := by omega
      have hss : (s.toList == s.toList) = true := by simp
      have hoo : ((s.extract 0 a ++ y ++ s.extract e s.size).toList == (s.extract 0 a ++ y ++ s.extract e s.size).toList) = true := by simp
      go_wp2
      go_quiet (fail)
      go_wp2
      go_ret
      exact ⟨rfl, B9.out.trans (Below.drewSelf _ _ _)⟩
  · have hd : decide ((1048576 : Int) < zs.length) = true := by simp; omega
    rw [hd] at HB
    clear hd H
    go_enter Tryd.func6, Tryd.ntmps6
    go_wp2_with fail
    refine HB.out.mono ?_
    rintro e w1 ⟨rfl, hw⟩
    obtain rfl := hw.symm
    clear hw HB
    go_wp2
    go_ret
    exact ⟨rfl, Below.refl _ _⟩
end Go.Proofs.YtapniafhcagogaaDoor
