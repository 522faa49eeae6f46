/- Draws of chapter 4: a text; an expression, a text and a place. -/
import Derived.Test.YtapniafhcagogaaDoorRexAny
import Derived.Test.YtapniafhcagogaaDoorTake
import Derived.Test.YtapniafhcagogaaDoorDrawTxt
namespace Go.Proofs.YtapniafhcagogaaDoor
open Go.RowKit
set_option maxRecDepth 8000

/-- Whatever lay there, but the cursor and one block, lies as it lay. -/
def Kc (W : World) (cb b2 : Nat) (w' : World) : Prop := w'.os = W.os ∧ w'.tape = W.tape ∧ w'.output = W.output ∧ W.heap.size ≤ w'.heap.size ∧ ∀ b, b < W.heap.size → b ≠ cb → b ≠ b2 → w'.heap[b]? = W.heap[b]?
theorem Kc.refl (W : World) (cb b2 : Nat) : Kc W cb b2 W := ⟨rfl, rfl, rfl, Nat.le_refl _, fun _ _ _ _ => rfl⟩
theorem Kc.grown {W X Y : World} {cb b2 : Nat} (h : Kc W cb b2 X) (hg : X.grownBy Y (some cb)) : Kc W cb b2 Y := ⟨hg.os.trans h.1, hg.tape.trans h.2.1, hg.output.trans h.2.2.1, Nat.le_trans h.2.2.2.1 hg.size, fun b h1 h2 h3 => (hg.block b (Nat.lt_of_lt_of_le h1 h.2.2.2.1) (fun e => h2 (Option.some.inj e))).trans (h.2.2.2.2 b h1 h2 h3)⟩
theorem Kc.alloc {W X : World} {cb b2 : Nat} (h : Kc W cb b2 X) (o : Obj) : Kc W cb b2 (X.alloc o) := h.grown (gy_alloc X cb o)
theorem Kc.below {W X : World} {cb b2 n : Nat} (h : Kc W cb b2 X) (h1 : n ≤ cb) (h2 : n ≤ b2) (hn : n ≤ W.heap.size) : Below n W X := ⟨h.1, h.2.1, h.2.2.1, h.2.2.2.1, fun b hb => h.2.2.2.2 b (by omega) (by omega) (by omega)⟩

set_option maxHeartbeats 2000000 in
theorem drawLongest_any (v : Value) (zs : List Int) (w : World) (h : Bs w v zs) (hlen : zs.length ≤ 1048576) :
    Calls Tryd.prog 23 #[v] w fun e w' => ∃ (t : Tr) (u : Value) (s : ByteArray), e = .returned (.tuple #[rx t.k t.s u, .string s]) ∧ t.s.size ≤ maxLen ∧ s.size ≤ 6 ∧ Rl w' (newFrom w.heap.size) t.l u ∧ Below w.heap.size w w' := by
  have H := Hid.mk (h.grow ((Below.refl w.heap.size w).alloc (Nat.le_refl _) (.cells #[.int .i64 0, .string ⟨#[]⟩, .slice none 0 0] 26)))
  have Z0 := Hid.mk (Bz3.new w (.int .i64 0) (.string ⟨#[]⟩) (.slice none 0 0))
  have A0 : Hid (Below w.heap.size w (w.alloc (.cells #[.int .i64 0, .string ⟨#[]⟩, .slice none 0 0] 26))) := (Below.refl _ _).alloc (Nat.le_refl _) _
  have hv0 : zs ≠ [] → ∀ k, v.ownBlock = some k → k < w.heap.size := fun hz k hk => h.lt hz k hk
  have HV0 := Hid.mk hv0
  have S0 : (w.alloc (.cells #[.int .i64 0, .string ⟨#[]⟩, .slice none 0 0] 26)).heap.size = w.heap.size + 1 := by simp
  clear h hv0
  go_enter Tryd.func23, Tryd.ntmps23
  go_wp2_with fail
  generalize w.alloc (.cells #[.int .i64 0, .string ⟨#[]⟩, .slice none 0 0] 26) = W0 at H Z0 A0 S0 ⊢
  refine (l1New_any v zs W0 H.out hlen).mono ?_
  rintro e w1 ⟨rfl, hC1, hb1⟩
  have C1 := Hid.mk hC1
  have Z1 := Hid.mk (Z0.out.grow hb1)
  have B1 := Hid.mk (A0.out.trans (hb1.mono (by omega)))
  rw [S0] at C1 ⊢
  clear hC1 hb1 H Z0 A0 S0
  go_wp2_with fail
  refine (l3Draw_any 3 (by omega) (w.heap.size + 1) v zs w1 C1.out).mono ?_
  rintro e w2 ⟨t, u, rfl, hdn, how, hC2, hg2⟩
  have hts := hdn.size
  obtain ⟨au, cu, rfl, -⟩ := how.rl.len
  obtain ⟨tk, htk⟩ : ∃ tk, t.k = tk := ⟨_, rfl⟩
  obtain ⟨ts, hts'⟩ : ∃ ts, t.s = ts := ⟨_, rfl⟩
  obtain ⟨l, hl⟩ : ∃ l, t.l = l := ⟨_, rfl⟩
  have A3 : Below w2.heap.size w2 (w2.alloc (.cells #[.int .i64 tk, .string ts, .slice au l.length cu] 26)) := (Below.refl _ _).alloc (Nat.le_refl _) _
  have s12 := hg2.size
  have hc1 := C1.out.lt
  have C3 := Hid.mk (hC2.grow A3)
  have Z3 := Hid.mk ((Z1.out.by hg2 (by omega)).grow A3)
  have X3 := Hid.mk (Bz3.new w2 (.int .i64 tk) (.string ts) (.slice au l.length cu))
  have R3 := Hid.mk ((how.rl.imp (C := newFrom (w.heap.size + 2)) (fun b hb _ => by unfold newFrom at *; omega)).grow A3)
  have B2 : Below w.heap.size w w2 := B1.out.grown hg2 B1.out.size (fun k e => by simp at e; omega)
  have B3 := Hid.mk (B2.trans (A3.mono B2.size))
  have S3 : (w2.alloc (.cells #[.int .i64 tk, .string ts, .slice au l.length cu] 26)).heap.size = w2.heap.size + 1 := by simp
  rw [htk, hts', hl]
  rw [hl] at R3
  rw [hts'] at hts
  clear hdn how hC2 hg2 htk hts' hl C1 Z1 B1 B2 A3 t
  go_wp2_with fail
  generalize w2.alloc (.cells #[.int .i64 tk, .string ts, .slice au l.length cu] 26) = W3 at C3 Z3 X3 R3 B3 S3 ⊢
  have hb6 : w.heap.size + 2 ≤ w2.heap.size := by omega
  generalize w2.heap.size = b6 at X3 S3 hb6 ⊢
  clear s12 hc1 w1 w2
  refine (l1Once_any (w.heap.size + 1) v zs 10 W3 C3.out).mono ?_
  rintro e w4 ⟨bo, rfl, hC4, hg4⟩
  have s34 := hg4.size
  have C4 := Hid.mk hC4
  have Z4 := Hid.mk (Z3.out.by hg4 (by omega))
  have X4 := Hid.mk (X3.out.by hg4 (by omega))
  have R4 := Hid.mk ((R3.out.imp (C := fun b => w.heap.size + 2 ≤ b ∧ b < W3.heap.size) (fun b hb hlt => ⟨hb, hlt⟩)).kept (w' := w4) (fun b hb hlt => hg4.block b hlt (by simp; omega)))
  have B4 : Hid (Below w.heap.size w w4) := B3.out.grown hg4 B3.out.size (fun k e => by simp at e; omega)
  have hs4 : b6 < w4.heap.size := by omega
  clear hC4 hg4 C3 Z3 X3 R3 B3 s34
  cases bo with
  | false =>
    have hbw : b6 < w4.heap.size := X4.out.lt
    have SS : Kc w4 (w.heap.size + 1) w.heap.size w4.drew := Kc.refl _ _ _
    have HX := Hid.mk (fun (w' : World) (hk : Kc w4 (w.heap.size + 1) w.heap.size w') => X4.out.kept (hk.2.2.2.2 b6 X4.out.lt (by omega) (by omega)))
    go_wp2_with fail
    refine wp_region_held_drew (S := Kc w4 (w.heap.size + 1) w.heap.size) (by kernel_rfl) SS (fun _ => ?_)
    refine takeHD (i := 0) (v := rx tk ts (.slice au l.length cu)) (some 14) rfl rfl (by kernel_rfl) (by kernel_rfl) (by kernel_rfl) (fun _ _ _ h => h) (Or.inl ⟨by kernel_rfl, fun w' hw => ?_⟩) SS ?_
    · have Y := HX.out w' hw; have y0 := Y.c0; have y1 := Y.c1; have y2 := Y.c2; go_simp
    simp only [Act.put, List.setIfInBounds_toArray]
    refine takeHD (i := 1) (v := .pointer (some ⟨w.heap.size + 1, 0, none⟩)) (some 15) rfl rfl (by kernel_rfl) (by kernel_rfl) (by kernel_rfl) (fun _ _ _ h => h) (Or.inl ⟨by kernel_rfl, fun w' hw => ?_⟩) SS ?_
    · kernel_rfl
    simp only [Act.put, List.setIfInBounds_toArray]
    refine wpAnyH_ready (rs := [2]) (by kernel_rfl) (by simp) ?_
    refine AllReadyH.cons rfl (fun K hK => ?_) AllReadyH.nil
    rw [if_pos (by kernel_rfl)]
    go_wp2_with fail
    refine (l4Text_any (w.heap.size + 1) v zs w4.drew (C4.out.grow (Below.drewSelf _ _ 1))).mono ?_
    rintro e w9 ⟨s, rfl, hs6, hC9, hg9⟩
    have K9 := SS.grown hg9
    refine hK.out _ _ K9 (fun _ => ?_)
    clear hK K hC9
    have Z9 := Hid.mk ((Z4.out.grow (Below.drewSelf _ _ 1)).by hg9 (by omega))
    have z0 := Z9.out.c0
    have z1 := Z9.out.c1
    have z2 := Z9.out.c2
    have zf := Z9.out.fr
    clear hg9
    refine wpAnyH_ready (rs := [3]) (by kernel_rfl) (by simp) ?_
    refine AllReadyH.cons rfl (fun K hK => ?_) AllReadyH.nil
    rw [if_pos (by kernel_rfl)]
    go_wp2_with fail
    have K10 : Kc w4 (w.heap.size + 1) w.heap.size (sz3 w9 w.heap.size (.int .i64 tk) (.string ts) (.slice au l.length cu)) := ⟨K9.1, K9.2.1, K9.2.2.1, by rw [sz3_size]; exact K9.2.2.2.1, fun b h1 h2 h3 => (sz3_other _ _ _ _ _ _ h3).trans (K9.2.2.2.2 b h1 h2 h3)⟩
    refine hK.out _ _ K10 (fun _ => ?_)
    clear hK K
    refine wpAnyH_ready (rs := [4]) (by kernel_rfl) (by simp) ?_
    refine AllReadyH.cons rfl (fun K hK => ?_) AllReadyH.nil
    rw [if_pos (by kernel_rfl)]
    go_wp2_with fail
    refine hK.out _ _ K10 (fun _ => ?_)
    clear hK K
    refine wpAnyH_done (by kernel_rfl) ?_ _
    have Y10 := Z9.out.put (.int .i64 tk) (.string ts) (.slice au l.length cu)
    have q0 := Y10.c0
    have q1 := Y10.c1
    have q2 := Y10.c2
    have R10 := (R4.out.imp (C := fun b => w.heap.size + 2 ≤ b ∧ b < w4.heap.size) (fun b hb hlt => ⟨by first | exact hb.1 | exact hb, hlt⟩)).kept (w' := sz3 w9 w.heap.size (.int .i64 tk) (.string ts) (.slice au l.length cu)) (fun b hb _ => K10.2.2.2.2 b hb.2 (by omega) (by omega))
    have B10 := B4.out.trans (K10.below (n := w.heap.size) (by omega) (Nat.le_refl _) B4.out.size)
    clear z0 z1 z2 zf Z9 K9
    go_wp2_with fail
    exact bodyPost_ret (v := .tuple #[rx tk ts (.slice au l.length cu), .string s]) (by simp [results, Tryd.results23, go_sem, q0, q1, q2]) rfl ⟨.node tk ts l, .slice au l.length cu, s, rfl, hts, hs6, R10.imp (fun b hb _ => by unfold newFrom; omega), B10⟩
  | true =>
    go_wp2_with fail
    refine (l3Any_any (w.heap.size + 1) v zs w4 C4.out).mono ?_
    rintro e w5 ⟨t, u5, rfl, ht5, hr5, hC5, hg5⟩
    obtain ⟨a5, c5, rfl, -⟩ := hr5.len
    obtain ⟨k5, hk5⟩ : ∃ tk, t.k = tk := ⟨_, rfl⟩
    obtain ⟨s5, hs5⟩ : ∃ ts, t.s = ts := ⟨_, rfl⟩
    obtain ⟨l5, hl5⟩ : ∃ l, t.l = l := ⟨_, rfl⟩
    rw [hk5, hs5, hl5]
    rw [hs5] at ht5
    rw [hl5] at hr5
    clear hk5 hs5 hl5 t hts
    have hts := ht5
    have s45 := hg5.size
    have X5 := Hid.mk (X4.out.by hg5 (by omega))
    have x0 := X5.out.c0
    have x1 := X5.out.c1
    have x2 := X5.out.c2
    have xf := X5.out.fr
    have C6 := Hid.mk (hC5.sz3 (b := b6) (by omega) (fun hz k hk => by have := HV0.out hz k hk; omega) (.int .i64 k5) (.string s5) (.slice a5 l5.length c5))
    have Z6 := Hid.mk ((Z4.out.by hg5 (by omega)).kept (w' := sz3 w5 b6 (.int .i64 k5) (.string s5) (.slice a5 l5.length c5)) (sz3_other _ _ _ _ _ _ (by omega)))
    have X6 := Hid.mk (X5.out.put (.int .i64 k5) (.string s5) (.slice a5 l5.length c5))
    have R6 := Hid.mk ((hr5.imp (C := fun b => w4.heap.size + 1 ≤ b) (fun b hb _ => hb)).kept (w' := sz3 w5 b6 (.int .i64 k5) (.string s5) (.slice a5 l5.length c5)) (fun b hb _ => sz3_other _ _ _ _ _ _ (by omega)) |>.imp (C := newFrom (w.heap.size + 2)) (fun b hb _ => by unfold newFrom; omega))
    have B5 : Below w.heap.size w w5 := B4.out.grown hg5 B4.out.size (fun k e => by simp at e; omega)
    have B6 : Hid (Below w.heap.size w (sz3 w5 b6 (.int .i64 k5) (.string s5) (.slice a5 l5.length c5))) := ⟨B5.os, B5.tape, B5.output, by rw [sz3_size]; exact B5.size, fun b hb => (sz3_other _ _ _ _ _ _ (by omega)).trans (B5.block b hb)⟩
    clear ht5 hr5 hC5 hg5 C4 Z4 X4 R4 B4 B5 X5
    go_wp2_with fail
    clear x0 x1 x2 xf
    obtain ⟨w6, hw6⟩ : ∃ w6, sz3 w5 b6 (.int .i64 k5) (.string s5) (.slice a5 l5.length c5) = w6 := ⟨_, rfl⟩
    rw [hw6] at C6 Z6 X6 R6 B6
    have hw6' : ((w5.setCell ⟨b6, 0, none⟩ (.int .i64 k5)).setCell ⟨b6, 1, none⟩ (.string s5)).setCell ⟨b6, 2, none⟩ (.slice a5 l5.length c5) = w6 := hw6
    rw [hw6']
    clear hw6 hw6'
    clear s45
    have hbw : b6 < w6.heap.size := X6.out.lt
    have SS : Kc w6 (w.heap.size + 1) w.heap.size w6.drew := Kc.refl _ _ _
    have HX := Hid.mk (fun (w' : World) (hk : Kc w6 (w.heap.size + 1) w.heap.size w') => X6.out.kept (hk.2.2.2.2 b6 X6.out.lt (by omega) (by omega)))
    refine wp_region_held_drew (S := Kc w6 (w.heap.size + 1) w.heap.size) (by kernel_rfl) SS (fun _ => ?_)
    refine takeHD (i := 0) (v := rx k5 s5 (.slice a5 l5.length c5)) (some 14) rfl rfl (by kernel_rfl) (by kernel_rfl) (by kernel_rfl) (fun _ _ _ h => h) (Or.inl ⟨by kernel_rfl, fun w' hw => ?_⟩) SS ?_
    · have Y := HX.out w' hw; have y0 := Y.c0; have y1 := Y.c1; have y2 := Y.c2; go_simp
    simp only [Act.put, List.setIfInBounds_toArray]
    refine takeHD (i := 1) (v := .pointer (some ⟨w.heap.size + 1, 0, none⟩)) (some 15) rfl rfl (by kernel_rfl) (by kernel_rfl) (by kernel_rfl) (fun _ _ _ h => h) (Or.inl ⟨by kernel_rfl, fun w' hw => ?_⟩) SS ?_
    · kernel_rfl
    simp only [Act.put, List.setIfInBounds_toArray]
    refine wpAnyH_ready (rs := [2]) (by kernel_rfl) (by simp) ?_
    refine AllReadyH.cons rfl (fun K hK => ?_) AllReadyH.nil
    rw [if_pos (by kernel_rfl)]
    go_wp2_with fail
    refine (l4Text_any (w.heap.size + 1) v zs w6.drew (C6.out.grow (Below.drewSelf _ _ 1))).mono ?_
    rintro e w9 ⟨s, rfl, hs6, hC9, hg9⟩
    have K9 := SS.grown hg9
    refine hK.out _ _ K9 (fun _ => ?_)
    clear hK K hC9
    have Z9 := Hid.mk ((Z6.out.grow (Below.drewSelf _ _ 1)).by hg9 (by omega))
    have z0 := Z9.out.c0
    have z1 := Z9.out.c1
    have z2 := Z9.out.c2
    have zf := Z9.out.fr
    clear hg9
    refine wpAnyH_ready (rs := [3]) (by kernel_rfl) (by simp) ?_
    refine AllReadyH.cons rfl (fun K hK => ?_) AllReadyH.nil
    rw [if_pos (by kernel_rfl)]
    go_wp2_with fail
    have K10 : Kc w6 (w.heap.size + 1) w.heap.size (sz3 w9 w.heap.size (.int .i64 k5) (.string s5) (.slice a5 l5.length c5)) := ⟨K9.1, K9.2.1, K9.2.2.1, by rw [sz3_size]; exact K9.2.2.2.1, fun b h1 h2 h3 => (sz3_other _ _ _ _ _ _ h3).trans (K9.2.2.2.2 b h1 h2 h3)⟩
    refine hK.out _ _ K10 (fun _ => ?_)
    clear hK K
    refine wpAnyH_ready (rs := [4]) (by kernel_rfl) (by simp) ?_
    refine AllReadyH.cons rfl (fun K hK => ?_) AllReadyH.nil
    rw [if_pos (by kernel_rfl)]
    go_wp2_with fail
    refine hK.out _ _ K10 (fun _ => ?_)
    clear hK K
    refine wpAnyH_done (by kernel_rfl) ?_ _
    have Y10 := Z9.out.put (.int .i64 k5) (.string s5) (.slice a5 l5.length c5)
    have q0 := Y10.c0
    have q1 := Y10.c1
    have q2 := Y10.c2
    have R10 := (R6.out.imp (C := fun b => w.heap.size + 2 ≤ b ∧ b < w6.heap.size) (fun b hb hlt => ⟨by first | exact hb.1 | exact hb, hlt⟩)).kept (w' := sz3 w9 w.heap.size (.int .i64 k5) (.string s5) (.slice a5 l5.length c5)) (fun b hb _ => K10.2.2.2.2 b hb.2 (by omega) (by omega))
    have B10 := B6.out.trans (K10.below (n := w.heap.size) (by omega) (Nat.le_refl _) B6.out.size)
    clear z0 z1 z2 zf Z9 K9
    go_wp2_with fail
    exact bodyPost_ret (v := .tuple #[rx k5 s5 (.slice a5 l5.length c5), .string s]) (by simp [results, Tryd.results23, go_sem, q0, q1, q2]) rfl ⟨.node k5 s5 l5, .slice a5 l5.length c5, s, rfl, hts, hs6, R10.imp (fun b hb _ => by unfold newFrom; omega), B10⟩

set_option maxHeartbeats 2000000 in
theorem drawEndsOf_any (v : Value) (zs : List Int) (w : World) (h : Bs w v zs) (hlen : zs.length ≤ 1048576) :
    Calls Tryd.prog 12 #[v] w fun e w' => ∃ (t : Tr) (u : Value) (s : ByteArray) (at' : Int), e = .returned (.tuple #[rx t.k t.s u, .string s, .int .i64 at']) ∧ t.s.size ≤ maxLen ∧ s.size ≤ 6 ∧ Rl w' (newFrom w.heap.size) t.l u ∧ Below w.heap.size w w' := by
  have H := Hid.mk (h.grow ((Below.refl w.heap.size w).alloc (Nat.le_refl _) (.cells #[.int .i64 0, .string ⟨#[]⟩, .slice none 0 0] 26)))
  have Z0 := Hid.mk (Bz3.new w (.int .i64 0) (.string ⟨#[]⟩) (.slice none 0 0))
  have A0 : Hid (Below w.heap.size w (w.alloc (.cells #[.int .i64 0, .string ⟨#[]⟩, .slice none 0 0] 26))) := (Below.refl _ _).alloc (Nat.le_refl _) _
  have hv0 : zs ≠ [] → ∀ k, v.ownBlock = some k → k < w.heap.size := fun hz k hk => h.lt hz k hk
  have HV0 := Hid.mk hv0
  have S0 : (w.alloc (.cells #[.int .i64 0, .string ⟨#[]⟩, .slice none 0 0] 26)).heap.size = w.heap.size + 1 := by simp
  clear h hv0
  go_enter Tryd.func12, Tryd.ntmps12
  go_wp2_with fail
  generalize w.alloc (.cells #[.int .i64 0, .string ⟨#[]⟩, .slice none 0 0] 26) = W0 at H Z0 A0 S0 ⊢
  refine (l1New_any v zs W0 H.out hlen).mono ?_
  rintro e w1 ⟨rfl, hC1, hb1⟩
  have C1 := Hid.mk hC1
  have Z1 := Hid.mk (Z0.out.grow hb1)
  have B1 := Hid.mk (A0.out.trans (hb1.mono (by omega)))
  rw [S0] at C1 ⊢
  clear hC1 hb1 H Z0 A0 S0
  go_wp2_with fail
  refine (l3Draw_any 3 (by omega) (w.heap.size + 1) v zs w1 C1.out).mono ?_
  rintro e w2 ⟨t, u, rfl, hdn, how, hC2, hg2⟩
  have hts := hdn.size
  obtain ⟨au, cu, rfl, -⟩ := how.rl.len
  obtain ⟨tk, htk⟩ : ∃ tk, t.k = tk := ⟨_, rfl⟩
  obtain ⟨ts, hts'⟩ : ∃ ts, t.s = ts := ⟨_, rfl⟩
  obtain ⟨l, hl⟩ : ∃ l, t.l = l := ⟨_, rfl⟩
  have A3 : Below w2.heap.size w2 (w2.alloc (.cells #[.int .i64 tk, .string ts, .slice au l.length cu] 26)) := (Below.refl _ _).alloc (Nat.le_refl _) _
  have s12 := hg2.size
  have hc1 := C1.out.lt
  have C3 := Hid.mk (hC2.grow A3)
  have Z3 := Hid.mk ((Z1.out.by hg2 (by omega)).grow A3)
  have X3 := Hid.mk (Bz3.new w2 (.int .i64 tk) (.string ts) (.slice au l.length cu))
  have R3 := Hid.mk ((how.rl.imp (C := newFrom (w.heap.size + 2)) (fun b hb _ => by unfold newFrom at *; omega)).grow A3)
  have B2 : Below w.heap.size w w2 := B1.out.grown hg2 B1.out.size (fun k e => by simp at e; omega)
  have B3 := Hid.mk (B2.trans (A3.mono B2.size))
  have S3 : (w2.alloc (.cells #[.int .i64 tk, .string ts, .slice au l.length cu] 26)).heap.size = w2.heap.size + 1 := by simp
  rw [htk, hts', hl]
  rw [hl] at R3
  rw [hts'] at hts
  clear hdn how hC2 hg2 htk hts' hl C1 Z1 B1 B2 A3 t
  go_wp2_with fail
  generalize w2.alloc (.cells #[.int .i64 tk, .string ts, .slice au l.length cu] 26) = W3 at C3 Z3 X3 R3 B3 S3 ⊢
  have hb6 : w.heap.size + 2 ≤ w2.heap.size := by omega
  generalize w2.heap.size = b6 at X3 S3 hb6 ⊢
  clear s12 hc1 w1 w2
  refine (l1Once_any (w.heap.size + 1) v zs 10 W3 C3.out).mono ?_
  rintro e w4 ⟨bo, rfl, hC4, hg4⟩
  have s34 := hg4.size
  have C4 := Hid.mk hC4
  have Z4 := Hid.mk (Z3.out.by hg4 (by omega))
  have X4 := Hid.mk (X3.out.by hg4 (by omega))
  have R4 := Hid.mk ((R3.out.imp (C := fun b => w.heap.size + 2 ≤ b ∧ b < W3.heap.size) (fun b hb hlt => ⟨hb, hlt⟩)).kept (w' := w4) (fun b hb hlt => hg4.block b hlt (by simp; omega)))
  have B4 : Hid (Below w.heap.size w w4) := B3.out.grown hg4 B3.out.size (fun k e => by simp at e; omega)
  have hs4 : b6 < w4.heap.size := by omega
  clear hC4 hg4 C3 Z3 X3 R3 B3 s34
  cases bo with
  | false =>
    go_wp2_with fail
    refine (l4Text_any (w.heap.size + 1) v zs w4 C4.out).mono ?_
    rintro e w7 ⟨s, rfl, hs6, hC7, hg7⟩
    have s67 := hg7.size
    have C7 := Hid.mk hC7
    have Z7 := Hid.mk (Z4.out.by hg7 (by omega))
    have X7 := Hid.mk (X4.out.by hg7 (by omega))
    have R7 := Hid.mk ((R4.out.imp (C := fun b => w.heap.size + 2 ≤ b ∧ b < w4.heap.size) (fun b hb hlt => ⟨by first | exact hb.1 | exact hb, hlt⟩)).kept (w' := w7) (fun b hb hlt => hg7.block b hlt (by simp; omega)))
    have B7 : Hid (Below w.heap.size w w7) := B4.out.grown hg7 B4.out.size (fun k e => by simp at e; omega)
    clear hC7 hg7 C4 Z4 X4 R4 B4
    have hbw : b6 < w7.heap.size := X7.out.lt
    have SS : Kc w7 (w.heap.size + 1) w.heap.size w7.drew := Kc.refl _ _ _
    have HX := Hid.mk (fun (w' : World) (hk : Kc w7 (w.heap.size + 1) w.heap.size w') => X7.out.kept (hk.2.2.2.2 b6 X7.out.lt (by omega) (by omega)))
    go_wp2_with fail
    refine wp_region_held_drew (S := Kc w7 (w.heap.size + 1) w.heap.size) (by kernel_rfl) SS (fun _ => ?_)
    refine takeHD (i := 0) (v := rx tk ts (.slice au l.length cu)) (some 18) rfl rfl (by kernel_rfl) (by kernel_rfl) (by kernel_rfl) (fun _ _ _ h => h) (Or.inl ⟨by kernel_rfl, fun w' hw => ?_⟩) SS ?_
    · have Y := HX.out w' hw; have y0 := Y.c0; have y1 := Y.c1; have y2 := Y.c2; go_simp
    simp only [Act.put, List.setIfInBounds_toArray]
    refine takeHD (i := 1) (v := .string s) (some 19) rfl rfl (by kernel_rfl) (by kernel_rfl) (by kernel_rfl) (fun _ _ _ h => h) (Or.inl ⟨by kernel_rfl, fun w' hw => ?_⟩) SS ?_
    · kernel_rfl
    simp only [Act.put, List.setIfInBounds_toArray]
    refine takeHD (i := 2) (v := .pointer (some ⟨w.heap.size + 1, 0, none⟩)) (some 20) rfl rfl (by kernel_rfl) (by kernel_rfl) (by kernel_rfl) (fun _ _ _ h => h) (Or.inl ⟨by kernel_rfl, fun w' hw => ?_⟩) SS ?_
    · kernel_rfl
    simp only [Act.put, List.setIfInBounds_toArray]
    refine takeHD (i := 3) (v := .string s) (some 21) rfl rfl (by kernel_rfl) (by kernel_rfl) (by kernel_rfl) (fun _ _ _ h => h) (Or.inl ⟨by kernel_rfl, fun w' hw => ?_⟩) SS ?_
    · kernel_rfl
    simp only [Act.put, List.setIfInBounds_toArray]
    refine takeHD (i := 4) (v := .int .i64 (s.size : Int)) (some 22) rfl rfl (by kernel_rfl) (by kernel_rfl) (by kernel_rfl) (fun _ _ _ h => h) (Or.inl ⟨by kernel_rfl, fun w' hw => ?_⟩) SS ?_
    · go_simp
    simp only [Act.put, List.setIfInBounds_toArray]
    refine takeHD (i := 5) (v := .string s) (some 23) rfl rfl (by kernel_rfl) (by kernel_rfl) (by kernel_rfl) (fun _ _ _ h => h) (Or.inl ⟨by kernel_rfl, fun w' hw => ?_⟩) SS ?_
    · kernel_rfl
    simp only [Act.put, List.setIfInBounds_toArray]
    refine takeHD (i := 6) (v := .int .i64 (s.size : Int)) (some 24) rfl rfl (by kernel_rfl) (by kernel_rfl) (by kernel_rfl) (fun _ _ _ h => h) (Or.inl ⟨by kernel_rfl, fun w' hw => ?_⟩) SS ?_
    · go_simp
    simp only [Act.put, List.setIfInBounds_toArray]
    refine takeHD (i := 7) (v := .int .i64 ((s.size : Int) + 1)) (some 25) rfl rfl (by kernel_rfl) (by kernel_rfl) (by kernel_rfl) (fun _ _ _ h => h) (Or.inl ⟨by kernel_rfl, fun w' hw => ?_⟩) SS ?_
    · first | (go_simp; done) | (go_simp; intro h; omega) | (go_simp; rw [IntKind.wrap_i64]; omega)
    simp only [Act.put, List.setIfInBounds_toArray]
    refine wpAnyH_ready (rs := [8]) (by kernel_rfl) (by simp) ?_
    refine AllReadyH.cons rfl (fun K hK => ?_) AllReadyH.nil
    rw [if_pos (by kernel_rfl)]
    go_wp2_with fail
    have K8 := SS.alloc (.cells #[.int .i64 0, .int .i64 0, .int .i64 1, .int .i64 (s.size : Int), .int .i64 (-1), .int .i64 ((s.size : Int) + 1)] 3)
    refine hK.out _ _ K8 (fun _ => ?_)
    clear hK K
    refine wpAnyH_ready (rs := [9]) (by kernel_rfl) (by simp) ?_
    refine AllReadyH.cons rfl (fun K hK => ?_) AllReadyH.nil
    rw [if_pos (by kernel_rfl)]
    go_wp2_with fail
    have D8 : Below w7.heap.size w7 (w7.drew.alloc (.cells #[.int .i64 0, .int .i64 0, .int .i64 1, .int .i64 (s.size : Int), .int .i64 (-1), .int .i64 ((s.size : Int) + 1)] 3)) := (Below.drewSelf w7.heap.size w7 1).alloc (Nat.le_refl _) _
    refine (l1Int_any (w.heap.size + 1) w7.heap.size 6 v zs [0, 0, 1, (s.size : Int), -1, (s.size : Int) + 1] _ (C7.out.grow D8) rfl (by omega) (by omega) (heap_alloc_new w7.drew _) (by have := C7.out.lt; omega)).mono ?_
    rintro e w9 ⟨at', rfl, hat, hC9, hg9⟩
    have K9 := K8.grown hg9
    refine hK.out _ _ K9 (fun _ => ?_)
    clear hK K hC9 hat
    have Z9 := Hid.mk ((Z7.out.grow D8).by hg9 (by omega))
    have z0 := Z9.out.c0
    have z1 := Z9.out.c1
    have z2 := Z9.out.c2
    have zf := Z9.out.fr
    clear hg9 D8
    refine wpAnyH_ready (rs := [10]) (by kernel_rfl) (by simp) ?_
    refine AllReadyH.cons rfl (fun K hK => ?_) AllReadyH.nil
    rw [if_pos (by kernel_rfl)]
    go_wp2_with fail
    have K10 : Kc w7 (w.heap.size + 1) w.heap.size (sz3 w9 w.heap.size (.int .i64 tk) (.string ts) (.slice au l.length cu)) := ⟨K9.1, K9.2.1, K9.2.2.1, by rw [sz3_size]; exact K9.2.2.2.1, fun b h1 h2 h3 => (sz3_other _ _ _ _ _ _ h3).trans (K9.2.2.2.2 b h1 h2 h3)⟩
    refine hK.out _ _ K10 (fun _ => ?_)
    clear hK K
    refine wpAnyH_ready (rs := [11]) (by kernel_rfl) (by simp) ?_
    refine AllReadyH.cons rfl (fun K hK => ?_) AllReadyH.nil
    rw [if_pos (by kernel_rfl)]
    go_wp2_with fail
    refine hK.out _ _ K10 (fun _ => ?_)
    clear hK K
    refine wpAnyH_ready (rs := [12]) (by kernel_rfl) (by simp) ?_
    refine AllReadyH.cons rfl (fun K hK => ?_) AllReadyH.nil
    rw [if_pos (by kernel_rfl)]
    go_wp2_with fail
    refine hK.out _ _ K10 (fun _ => ?_)
    clear hK K
    refine wpAnyH_done (by kernel_rfl) ?_ _
    have Y10 := Z9.out.put (.int .i64 tk) (.string ts) (.slice au l.length cu)
    have q0 := Y10.c0
    have q1 := Y10.c1
    have q2 := Y10.c2
    have R10 := (R7.out.imp (C := fun b => w.heap.size + 2 ≤ b ∧ b < w7.heap.size) (fun b hb hlt => ⟨hb.1, hlt⟩)).kept (w' := sz3 w9 w.heap.size (.int .i64 tk) (.string ts) (.slice au l.length cu)) (fun b hb _ => K10.2.2.2.2 b hb.2 (by omega) (by omega))
    have B10 := B7.out.trans (K10.below (n := w.heap.size) (by omega) (Nat.le_refl _) B7.out.size)
    clear z0 z1 z2 zf Z9 K9 K8
    go_wp2_with fail
    exact bodyPost_ret (v := .tuple #[rx tk ts (.slice au l.length cu), .string s, .int .i64 at']) (by simp [results, Tryd.results12, go_sem, q0, q1, q2]) rfl ⟨.node tk ts l, .slice au l.length cu, s, at', rfl, hts, hs6, R10.imp (fun b hb _ => by unfold newFrom; omega), B10⟩
  | true =>
    go_wp2_with fail
    refine (l3Any_any (w.heap.size + 1) v zs w4 C4.out).mono ?_
    rintro e w5 ⟨t, u5, rfl, ht5, hr5, hC5, hg5⟩
    obtain ⟨a5, c5, rfl, -⟩ := hr5.len
    obtain ⟨k5, hk5⟩ : ∃ tk, t.k = tk := ⟨_, rfl⟩
    obtain ⟨s5, hs5⟩ : ∃ ts, t.s = ts := ⟨_, rfl⟩
    obtain ⟨l5, hl5⟩ : ∃ l, t.l = l := ⟨_, rfl⟩
    rw [hk5, hs5, hl5]
    rw [hs5] at ht5
    rw [hl5] at hr5
    clear hk5 hs5 hl5 t hts
    have hts := ht5
    have s45 := hg5.size
    have X5 := Hid.mk (X4.out.by hg5 (by omega))
    have x0 := X5.out.c0
    have x1 := X5.out.c1
    have x2 := X5.out.c2
    have xf := X5.out.fr
    have C6 := Hid.mk (hC5.sz3 (b := b6) (by omega) (fun hz k hk => by have := HV0.out hz k hk; omega) (.int .i64 k5) (.string s5) (.slice a5 l5.length c5))
    have Z6 := Hid.mk ((Z4.out.by hg5 (by omega)).kept (w' := sz3 w5 b6 (.int .i64 k5) (.string s5) (.slice a5 l5.length c5)) (sz3_other _ _ _ _ _ _ (by omega)))
    have X6 := Hid.mk (X5.out.put (.int .i64 k5) (.string s5) (.slice a5 l5.length c5))
    have R6 := Hid.mk ((hr5.imp (C := fun b => w4.heap.size + 1 ≤ b) (fun b hb _ => hb)).kept (w' := sz3 w5 b6 (.int .i64 k5) (.string s5) (.slice a5 l5.length c5)) (fun b hb _ => sz3_other _ _ _ _ _ _ (by omega)) |>.imp (C := newFrom (w.heap.size + 2)) (fun b hb _ => by unfold newFrom; omega))
    have B5 : Below w.heap.size w w5 := B4.out.grown hg5 B4.out.size (fun k e => by simp at e; omega)
    have B6 : Hid (Below w.heap.size w (sz3 w5 b6 (.int .i64 k5) (.string s5) (.slice a5 l5.length c5))) := ⟨B5.os, B5.tape, B5.output, by rw [sz3_size]; exact B5.size, fun b hb => (sz3_other _ _ _ _ _ _ (by omega)).trans (B5.block b hb)⟩
    clear ht5 hr5 hC5 hg5 C4 Z4 X4 R4 B4 B5 X5
    go_wp2_with fail
    clear x0 x1 x2 xf
    obtain ⟨w6, hw6⟩ : ∃ w6, sz3 w5 b6 (.int .i64 k5) (.string s5) (.slice a5 l5.length c5) = w6 := ⟨_, rfl⟩
    rw [hw6] at C6 Z6 X6 R6 B6
    have hw6' : ((w5.setCell ⟨b6, 0, none⟩ (.int .i64 k5)).setCell ⟨b6, 1, none⟩ (.string s5)).setCell ⟨b6, 2, none⟩ (.slice a5 l5.length c5) = w6 := hw6
    rw [hw6']
    clear hw6 hw6'
    clear s45
    refine (l4Text_any (w.heap.size + 1) v zs w6 C6.out).mono ?_
    rintro e w7 ⟨s, rfl, hs6, hC7, hg7⟩
    have s67 := hg7.size
    have C7 := Hid.mk hC7
    have Z7 := Hid.mk (Z6.out.by hg7 (by omega))
    have X7 := Hid.mk (X6.out.by hg7 (by omega))
    have R7 := Hid.mk ((R6.out.imp (C := fun b => w.heap.size + 2 ≤ b ∧ b < w6.heap.size) (fun b hb hlt => ⟨by first | exact hb.1 | exact hb, hlt⟩)).kept (w' := w7) (fun b hb hlt => hg7.block b hlt (by simp; omega)))
    have B7 : Hid (Below w.heap.size w w7) := B6.out.grown hg7 B6.out.size (fun k e => by simp at e; omega)
    clear hC7 hg7 C6 Z6 X6 R6 B6
    have hbw : b6 < w7.heap.size := X7.out.lt
    have SS : Kc w7 (w.heap.size + 1) w.heap.size w7.drew := Kc.refl _ _ _
    have HX := Hid.mk (fun (w' : World) (hk : Kc w7 (w.heap.size + 1) w.heap.size w') => X7.out.kept (hk.2.2.2.2 b6 X7.out.lt (by omega) (by omega)))
    go_wp2_with fail
    refine wp_region_held_drew (S := Kc w7 (w.heap.size + 1) w.heap.size) (by kernel_rfl) SS (fun _ => ?_)
    refine takeHD (i := 0) (v := rx k5 s5 (.slice a5 l5.length c5)) (some 18) rfl rfl (by kernel_rfl) (by kernel_rfl) (by kernel_rfl) (fun _ _ _ h => h) (Or.inl ⟨by kernel_rfl, fun w' hw => ?_⟩) SS ?_
    · have Y := HX.out w' hw; have y0 := Y.c0; have y1 := Y.c1; have y2 := Y.c2; go_simp
    simp only [Act.put, List.setIfInBounds_toArray]
    refine takeHD (i := 1) (v := .string s) (some 19) rfl rfl (by kernel_rfl) (by kernel_rfl) (by kernel_rfl) (fun _ _ _ h => h) (Or.inl ⟨by kernel_rfl, fun w' hw => ?_⟩) SS ?_
    · kernel_rfl
    simp only [Act.put, List.setIfInBounds_toArray]
    refine takeHD (i := 2) (v := .pointer (some ⟨w.heap.size + 1, 0, none⟩)) (some 20) rfl rfl (by kernel_rfl) (by kernel_rfl) (by kernel_rfl) (fun _ _ _ h => h) (Or.inl ⟨by kernel_rfl, fun w' hw => ?_⟩) SS ?_
    · kernel_rfl
    simp only [Act.put, List.setIfInBounds_toArray]
    refine takeHD (i := 3) (v := .string s) (some 21) rfl rfl (by kernel_rfl) (by kernel_rfl) (by kernel_rfl) (fun _ _ _ h => h) (Or.inl ⟨by kernel_rfl, fun w' hw => ?_⟩) SS ?_
    · kernel_rfl
    simp only [Act.put, List.setIfInBounds_toArray]
    refine takeHD (i := 4) (v := .int .i64 (s.size : Int)) (some 22) rfl rfl (by kernel_rfl) (by kernel_rfl) (by kernel_rfl) (fun _ _ _ h => h) (Or.inl ⟨by kernel_rfl, fun w' hw => ?_⟩) SS ?_
    · go_simp
    simp only [Act.put, List.setIfInBounds_toArray]
    refine takeHD (i := 5) (v := .string s) (some 23) rfl rfl (by kernel_rfl) (by kernel_rfl) (by kernel_rfl) (fun _ _ _ h => h) (Or.inl ⟨by kernel_rfl, fun w' hw => ?_⟩) SS ?_
    · kernel_rfl
    simp only [Act.put, List.setIfInBounds_toArray]
    refine takeHD (i := 6) (v := .int .i64 (s.size : Int)) (some 24) rfl rfl (by kernel_rfl) (by kernel_rfl) (by kernel_rfl) (fun _ _ _ h => h) (Or.inl ⟨by kernel_rfl, fun w' hw => ?_⟩) SS ?_
    · go_simp
    simp only [Act.put, List.setIfInBounds_toArray]
    refine takeHD (i := 7) (v := .int .i64 ((s.size : Int) + 1)) (some 25) rfl rfl (by kernel_rfl) (by kernel_rfl) (by kernel_rfl) (fun _ _ _ h => h) (Or.inl ⟨by kernel_rfl, fun w' hw => ?_⟩) SS ?_
    · first | (go_simp; done) | (go_simp; intro h; omega) | (go_simp; rw [IntKind.wrap_i64]; omega)
    simp only [Act.put, List.setIfInBounds_toArray]
    refine wpAnyH_ready (rs := [8]) (by kernel_rfl) (by simp) ?_
    refine AllReadyH.cons rfl (fun K hK => ?_) AllReadyH.nil
    rw [if_pos (by kernel_rfl)]
    go_wp2_with fail
    have K8 := SS.alloc (.cells #[.int .i64 0, .int .i64 0, .int .i64 1, .int .i64 (s.size : Int), .int .i64 (-1), .int .i64 ((s.size : Int) + 1)] 3)
    refine hK.out _ _ K8 (fun _ => ?_)
    clear hK K
    refine wpAnyH_ready (rs := [9]) (by kernel_rfl) (by simp) ?_
    refine AllReadyH.cons rfl (fun K hK => ?_) AllReadyH.nil
    rw [if_pos (by kernel_rfl)]
    go_wp2_with fail
    have D8 : Below w7.heap.size w7 (w7.drew.alloc (.cells #[.int .i64 0, .int .i64 0, .int .i64 1, .int .i64 (s.size : Int), .int .i64 (-1), .int .i64 ((s.size : Int) + 1)] 3)) := (Below.drewSelf w7.heap.size w7 1).alloc (Nat.le_refl _) _
    refine (l1Int_any (w.heap.size + 1) w7.heap.size 6 v zs [0, 0, 1, (s.size : Int), -1, (s.size : Int) + 1] _ (C7.out.grow D8) rfl (by omega) (by omega) (heap_alloc_new w7.drew _) (by have := C7.out.lt; omega)).mono ?_
    rintro e w9 ⟨at', rfl, hat, hC9, hg9⟩
    have K9 := K8.grown hg9
    refine hK.out _ _ K9 (fun _ => ?_)
    clear hK K hC9 hat
    have Z9 := Hid.mk ((Z7.out.grow D8).by hg9 (by omega))
    have z0 := Z9.out.c0
    have z1 := Z9.out.c1
    have z2 := Z9.out.c2
    have zf := Z9.out.fr
    clear hg9 D8
    refine wpAnyH_ready (rs := [10]) (by kernel_rfl) (by simp) ?_
    refine AllReadyH.cons rfl (fun K hK => ?_) AllReadyH.nil
    rw [if_pos (by kernel_rfl)]
    go_wp2_with fail
    have K10 : Kc w7 (w.heap.size + 1) w.heap.size (sz3 w9 w.heap.size (.int .i64 k5) (.string s5) (.slice a5 l5.length c5)) := ⟨K9.1, K9.2.1, K9.2.2.1, by rw [sz3_size]; exact K9.2.2.2.1, fun b h1 h2 h3 => (sz3_other _ _ _ _ _ _ h3).trans (K9.2.2.2.2 b h1 h2 h3)⟩
    refine hK.out _ _ K10 (fun _ => ?_)
    clear hK K
    refine wpAnyH_ready (rs := [11]) (by kernel_rfl) (by simp) ?_
    refine AllReadyH.cons rfl (fun K hK => ?_) AllReadyH.nil
    rw [if_pos (by kernel_rfl)]
    go_wp2_with fail
    refine hK.out _ _ K10 (fun _ => ?_)
    clear hK K
    refine wpAnyH_ready (rs := [12]) (by kernel_rfl) (by simp) ?_
    refine AllReadyH.cons rfl (fun K hK => ?_) AllReadyH.nil
    rw [if_pos (by kernel_rfl)]
    go_wp2_with fail
    refine hK.out _ _ K10 (fun _ => ?_)
    clear hK K
    refine wpAnyH_done (by kernel_rfl) ?_ _
    have Y10 := Z9.out.put (.int .i64 k5) (.string s5) (.slice a5 l5.length c5)
    have q0 := Y10.c0
    have q1 := Y10.c1
    have q2 := Y10.c2
    have R10 := (R7.out.imp (C := fun b => w.heap.size + 2 ≤ b ∧ b < w7.heap.size) (fun b hb hlt => ⟨hb.1, hlt⟩)).kept (w' := sz3 w9 w.heap.size (.int .i64 k5) (.string s5) (.slice a5 l5.length c5)) (fun b hb _ => K10.2.2.2.2 b hb.2 (by omega) (by omega))
    have B10 := B7.out.trans (K10.below (n := w.heap.size) (by omega) (Nat.le_refl _) B7.out.size)
    clear z0 z1 z2 zf Z9 K9 K8
    go_wp2_with fail
    exact bodyPost_ret (v := .tuple #[rx k5 s5 (.slice a5 l5.length c5), .string s, .int .i64 at']) (by simp [results, Tryd.results12, go_sem, q0, q1, q2]) rfl ⟨.node k5 s5 l5, .slice a5 l5.length c5, s, at', rfl, hts, hs6, R10.imp (fun b hb _ => by unfold newFrom; omega), B10⟩
end Go.Proofs.YtapniafhcagogaaDoor
