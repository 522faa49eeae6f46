/- The laws of sameness walked: FnExactSameProg; what the program's own function answers is handed in. -/
import Derived.Test.YtgigalcajgjpnaaUfU
import Derived.Test.YtgigalcajgjpnaaPgSame
import Derived.Test.YtgigalcajgjpnaaPgEq
import Derived.Test.YtgigalcajgjpnaaTake
namespace Go.Proofs.Ytgigalcajgjpnaa
open Go.RowKit
set_option maxRecDepth 8000

set_option maxHeartbeats 4000000 in
theorem fnExactSameProg_of (HI : ∀ (a b : Pg) (x0 x1 y0 y1 : Value) (w : World), Ul w (uf w) a.r x0 → Fl w (uf w) a.f x1 → Ul w (uf w) b.r y0 → Fl w (uf w) b.f y1 → a.sz ≤ 1048576 → b.sz ≤ 1048576 → Calls Try.prog 15 #[pgV x0 x1, pgV y0 y1] w fun e w' => e = .returned (.bool (sameP a b)) ∧ Below w.heap.size w w') (a b : Pg) (va0 va1 vb0 vb1 : Value) (w : World) (ha0 : Ul w anyBlock a.r va0) (ha1 : Fl w anyBlock a.f va1) (hb0 : Ul w anyBlock b.r vb0) (hb1 : Fl w anyBlock b.f vb1)  :
    Calls Try.prog 4 #[pgV va0 va1, pgV vb0 vb1] w fun e w' => e = .returned (.bool true) ∧ Below w.heap.size w w' := by
  have HSA := Hid.mk (fun (w' : World) (hw : Below w.heap.size w w') => szProg_any a anyBlock va0 va1 w' 1048576 (ha0.grow hw) (ha1.grow hw) (by omega) (by omega))
  have HSB := Hid.mk (fun (m : Int) (c0 : 0 ≤ m) (c1 : m ≤ 1048576) (w' : World) (hw : Below w.heap.size w w') => szProg_any b anyBlock vb0 vb1 w' m (hb0.grow hw) (hb1.grow hw) c0 c1)
  have HTA := Hid.mk (fun (hz : a.sz ≤ 1048576) (w' : World) (hw : Below w.heap.size w w') => toProg_any a anyBlock va0 va1 w' (ha0.grow hw) (ha1.grow hw) hz)
  have HTB := Hid.mk (fun (hz : b.sz ≤ 1048576) (w' : World) (hw : Below w.heap.size w w') => toProg_any b anyBlock vb0 vb1 w' (hb0.grow hw) (hb1.grow hw) hz)
  have HSO := Hid.mk (fun (w' : World) (B C : Nat → Prop) (x0 x1 y0 y1 : Value) (h0 : Ul w' B a.r x0) (h1 : Fl w' B a.f x1) (g0 : Ul w' C b.r y0) (g1 : Fl w' C b.f y1) => specSameProg_any a b B C x0 x1 y0 y1 w' h0 h1 g0 g1)
  have HIO := Hid.mk (fun (hza : a.sz ≤ 1048576) (hzb : b.sz ≤ 1048576) (w' : World) (x0 x1 y0 y1 : Value) (h0 : Ul w' (uf w') a.r x0) (h1 : Fl w' (uf w') a.f x1) (g0 : Ul w' (uf w') b.r y0) (g1 : Fl w' (uf w') b.f y1) => HI a b x0 x1 y0 y1 w' h0 h1 g0 g1  hza hzb)
  have HEA := Hid.mk (fun (w' : World) (B C : Nat → Prop) (x0 x1 y0 y1 : Value) (h0 : Ul w' B a.r x0) (h1 : Fl w' B a.f x1) (g0 : Ul w' C a.r y0) (g1 : Fl w' C a.f y1) => eqProg_any a B C x0 x1 y0 y1 w' h0 h1 g0 g1)
  have HEB := Hid.mk (fun (w' : World) (B C : Nat → Prop) (x0 x1 y0 y1 : Value) (h0 : Ul w' B b.r x0) (h1 : Fl w' B b.f x1) (g0 : Ul w' C b.r y0) (g1 : Fl w' C b.f y1) => eqProg_any b B C x0 x1 y0 y1 w' h0 h1 g0 g1)
  have HZA : Hid (¬ leftOf 1048576 a.sz < 0 → a.sz ≤ 1048576 ∧ 0 ≤ leftOf 1048576 a.sz ∧ leftOf 1048576 a.sz ≤ 1048576) := by
    intro h
    unfold leftOf at h ⊢
    split at h <;> split <;> omega
  have HZB : Hid (∀ m : Int, m ≤ 1048576 → ¬ leftOf m b.sz < 0 → b.sz ≤ 1048576) := by
    intro m hm h
    unfold leftOf at h
    split at h <;> omega
  clear HI
  obtain ⟨ao0, ac0, rfl, -, -, -⟩ := ha0.len
  obtain ⟨ao1, ac1, rfl, -, -, -⟩ := ha1.len
  obtain ⟨bo0, bc0, rfl, -, -, -⟩ := hb0.len
  obtain ⟨bo1, bc1, rfl, -, -, -⟩ := hb1.len
  clear ha0 ha1 hb0 hb1
  have B0 : Below w.heap.size w ((w.alloc (.cells #[(.slice ao0 a.r.length ac0), (.slice ao1 a.f.length ac1)] 46)).alloc (.cells #[(.slice bo0 b.r.length bc0), (.slice bo1 b.f.length bc1)] 46)) := ((Below.refl _ _).alloc (Nat.le_refl _) _).alloc (by simp) _
  obtain ⟨m1, hm1⟩ : ∃ m, leftOf 1048576 a.sz = m := ⟨_, rfl⟩
  rw [hm1] at HSA HZA
  clear hm1
  obtain ⟨r, hr⟩ : ∃ r, sameP a b = r := ⟨_, rfl⟩
  rw [hr] at HSO HIO
  clear hr
  have hrr : (r != r) = false := by simp
  by_cases hm1 : m1 < 0
  · clear HSB HTA HTB HSO HIO HEA HEB HZA HZB
    go_enter Try.func4, Try.ntmps4
    go_wp2_with fail
    refine (HSA.out _ B0).mono ?_
    rintro e w1 ⟨rfl, hb1⟩
    have C1 : Hid (Below (w.heap.size + 2) ((w.alloc (.cells #[(.slice ao0 a.r.length ac0), (.slice ao1 a.f.length ac1)] 46)).alloc (.cells #[(.slice bo0 b.r.length bc0), (.slice bo1 b.f.length bc1)] 46)) w1) := hb1.mono (by simp)
    have s1 : w.heap.size + 2 ≤ w1.heap.size := by have := hb1.size; simp at this; omega
    have hc1 := fun o => C1.out.cell (p := ⟨w.heap.size, o, none⟩) (by simp <;> omega)
    have hd1 := fun o => C1.out.cell (p := ⟨w.heap.size + 1, o, none⟩) (by simp)
    clear hb1 HSA
    go_wp2
    go_ret
    exact ⟨rfl, B0.trans (C1.out.mono (by omega))⟩
  obtain ⟨hza, c0, c1⟩ := HZA.out hm1
  have HTA := Hid.mk (HTA.out hza)
  have HIO := Hid.mk (HIO.out hza)
  have HSB := Hid.mk (HSB.out m1 c0 c1)
  have HZB := Hid.mk (HZB.out m1 c1)
  obtain ⟨m2, hm2⟩ : ∃ m, leftOf m1 b.sz = m := ⟨_, rfl⟩
  rw [hm2] at HSB HZB
  clear hm2 HZA hza c0 c1
  by_cases hm2 : m2 < 0
  · clear HTA HTB HSO HIO HEA HEB HZB
    go_enter Try.func4, Try.ntmps4
    go_wp2_with fail
    refine (HSA.out _ B0).mono ?_
    rintro e w1 ⟨rfl, hb1⟩
    have C1 : Hid (Below (w.heap.size + 2) ((w.alloc (.cells #[(.slice ao0 a.r.length ac0), (.slice ao1 a.f.length ac1)] 46)).alloc (.cells #[(.slice bo0 b.r.length bc0), (.slice bo1 b.f.length bc1)] 46)) w1) := hb1.mono (by simp)
    have s1 : w.heap.size + 2 ≤ w1.heap.size := by have := hb1.size; simp at this; omega
    have hc1 := fun o => C1.out.cell (p := ⟨w.heap.size, o, none⟩) (by simp <;> omega)
    have hd1 := fun o => C1.out.cell (p := ⟨w.heap.size + 1, o, none⟩) (by simp)
    clear hb1 HSA
    go_wp2_with fail
    refine (HSB.out _ (B0.trans (C1.out.mono (by omega)))).mono ?_
    rintro e w2 ⟨rfl, hb2⟩
    have C2 : Hid (Below (w.heap.size + 2) ((w.alloc (.cells #[(.slice ao0 a.r.length ac0), (.slice ao1 a.f.length ac1)] 46)).alloc (.cells #[(.slice bo0 b.r.length bc0), (.slice bo1 b.f.length bc1)] 46)) w2) := C1.out.trans (hb2.mono (by omega))
    have s2 : w.heap.size + 2 ≤ w2.heap.size := Nat.le_trans s1 hb2.size
    clear hb2 HSB C1 hc1 hd1 s1
    go_wp2
    go_ret
    exact ⟨rfl, B0.trans (C2.out.mono (by omega))⟩
  have HTB := Hid.mk (HTB.out (HZB.out hm2))
  have HIO := Hid.mk (HIO.out (HZB.out hm2))
  clear HZB
  go_enter Try.func4, Try.ntmps4
  go_wp2_with fail
  refine (HSA.out _ B0).mono ?_
  rintro e w1 ⟨rfl, hb1⟩
  have C1 : Hid (Below (w.heap.size + 2) ((w.alloc (.cells #[(.slice ao0 a.r.length ac0), (.slice ao1 a.f.length ac1)] 46)).alloc (.cells #[(.slice bo0 b.r.length bc0), (.slice bo1 b.f.length bc1)] 46)) w1) := hb1.mono (by simp)
  have s1 : w.heap.size + 2 ≤ w1.heap.size := by have := hb1.size; simp at this; omega
  have hc1 := fun o => C1.out.cell (p := ⟨w.heap.size, o, none⟩) (by simp <;> omega)
  have hd1 := fun o => C1.out.cell (p := ⟨w.heap.size + 1, o, none⟩) (by simp)
  clear hb1 HSA
  go_wp2_with fail
  refine (HSB.out _ (B0.trans (C1.out.mono (by omega)))).mono ?_
  rintro e w2 ⟨rfl, hb2⟩
  have C2 : Hid (Below (w.heap.size + 2) ((w.alloc (.cells #[(.slice ao0 a.r.length ac0), (.slice ao1 a.f.length ac1)] 46)).alloc (.cells #[(.slice bo0 b.r.length bc0), (.slice bo1 b.f.length bc1)] 46)) w2) := C1.out.trans (hb2.mono (by omega))
  have s2 : w.heap.size + 2 ≤ w2.heap.size := Nat.le_trans s1 hb2.size
  clear hb2 HSB C1 hc1 hd1 s1
  have S0 : Hid (Below w2.heap.size w2 w2.drew) := Below.drewSelf _ _ 1
  have HX : Hid (∀ w', Below w2.heap.size w2 w' → ∀ o, w'.cell? ⟨w.heap.size, o, none⟩ = ((w.alloc (.cells #[(.slice ao0 a.r.length ac0), (.slice ao1 a.f.length ac1)] 46)).alloc (.cells #[(.slice bo0 b.r.length bc0), (.slice bo1 b.f.length bc1)] 46)).cell? ⟨w.heap.size, o, none⟩) := by
    intro w' hb o
    rw [hb.cell (p := ⟨w.heap.size, o, none⟩) (by show w.heap.size < _; omega)]
    exact C2.out.cell (p := ⟨w.heap.size, o, none⟩) (by simp <;> omega)
  have HY : Hid (∀ w', Below w2.heap.size w2 w' → ∀ o, w'.cell? ⟨w.heap.size + 1, o, none⟩ = ((w.alloc (.cells #[(.slice ao0 a.r.length ac0), (.slice ao1 a.f.length ac1)] 46)).alloc (.cells #[(.slice bo0 b.r.length bc0), (.slice bo1 b.f.length bc1)] 46)).cell? ⟨w.heap.size + 1, o, none⟩) := by
    intro w' hb o
    rw [hb.cell (p := ⟨w.heap.size + 1, o, none⟩) (by show w.heap.size + 1 < _; omega)]
    exact C2.out.cell (p := ⟨w.heap.size + 1, o, none⟩) (by simp <;> omega)
  go_wp2_with fail
  refine wp_region_held_drew (S := Below w2.heap.size w2) (by kernel_rfl) S0.out (fun _ => ?_)
  refine takeHD (i := 0) (v := pgV (.slice ao0 a.r.length ac0) (.slice ao1 a.f.length ac1)) (some 20) rfl rfl (by kernel_rfl) (by kernel_rfl) (by kernel_rfl) (fun _ _ _ h => h) (Or.inl ⟨by kernel_rfl, fun w' hw => ?_⟩) S0.out ?_
  · have hq := HX.out w' hw
    go_simp
  simp only [Act.put, List.setIfInBounds_toArray]
  refine takeHD (i := 2) (v := pgV (.slice bo0 b.r.length bc0) (.slice bo1 b.f.length bc1)) (some 22) rfl rfl (by kernel_rfl) (by kernel_rfl) (by kernel_rfl) (fun _ _ _ h => h) (Or.inl ⟨by kernel_rfl, fun w' hw => ?_⟩) S0.out ?_
  · have hq := HY.out w' hw
    go_simp
  simp only [Act.put, List.setIfInBounds_toArray]
  refine wpAnyH_ready (rs := [1]) (by kernel_rfl) (by simp) ?_
  refine AllReadyH.cons rfl (fun K hK => ?_) AllReadyH.nil
  rw [if_pos (by kernel_rfl)]
  go_wp2_with fail
  refine (HTA.out _ (B0.trans ((C2.out.trans (S0.out.mono (by omega))).mono (by omega)))).mono ?_
  rintro e w3 ⟨u0, u1, rfl, gu0, gu1, hb3⟩
  have S3 : Hid (Below w2.heap.size w2 w3) := S0.out.trans hb3
  refine hK.out _ _ S3.out (fun _ => ?_)
  clear hK K
  refine wpAnyH_ready (rs := [3]) (by kernel_rfl) (by simp) ?_
  refine AllReadyH.cons rfl (fun K hK => ?_) AllReadyH.nil
  rw [if_pos (by kernel_rfl)]
  go_wp2_with fail
  refine (HTB.out _ (B0.trans ((C2.out.trans (S3.out.mono (by omega))).mono (by omega)))).mono ?_
  rintro e w4 ⟨q0, q1, rfl, gq0, gq1, hb4⟩
  have S4 : Hid (Below w2.heap.size w2 w4) := S3.out.trans (hb4.mono S3.out.size)
  refine hK.out _ _ S4.out (fun _ => ?_)
  clear hK K
  have GU0 := Hid.mk (gu0.any.grow hb4)
  have GU1 := Hid.mk (gu1.any.grow hb4)
  clear hb3 hb4 gu0 gu1
  refine wpAnyH_ready (rs := [4]) (by kernel_rfl) (by simp) ?_
  refine AllReadyH.cons rfl (fun K hK => ?_) AllReadyH.nil
  rw [if_pos (by kernel_rfl)]
  go_wp2_with fail
  refine (HSO.out _ _ _ _ _ _ _ GU0.out GU1.out gq0 gq1).mono ?_
  rintro e w5 ⟨rfl, hb5⟩
  have S5 : Hid (Below w2.heap.size w2 w5) := S4.out.trans (hb5.mono S4.out.size)
  refine hK.out _ _ S5.out (fun _ => ?_)
  clear hK K hb5 S3 S4 HX HY HSO gq0 gq1 GU0 GU1
  refine wpAnyH_ready (rs := [5]) (by kernel_rfl) (by simp) ?_
  refine AllReadyH.cons rfl (fun K hK => ?_) AllReadyH.nil
  rw [if_pos (by kernel_rfl)]
  go_wp2_with fail
  refine hK.out _ _ S5.out (fun _ => ?_)
  clear hK K
  refine wpAnyH_done (by kernel_rfl) ?_ _
  have C5 : Hid (Below (w.heap.size + 2) ((w.alloc (.cells #[(.slice ao0 a.r.length ac0), (.slice ao1 a.f.length ac1)] 46)).alloc (.cells #[(.slice bo0 b.r.length bc0), (.slice bo1 b.f.length bc1)] 46)) w5) := C2.out.trans (S5.out.mono (by omega))
  have s5 : w.heap.size + 2 ≤ w5.heap.size := Nat.le_trans s2 S5.out.size
  have hc5 := fun o => C5.out.cell (p := ⟨w.heap.size, o, none⟩) (by simp <;> omega)
  have hd5 := fun o => C5.out.cell (p := ⟨w.heap.size + 1, o, none⟩) (by simp)
  clear S0 S5 C2 s2
  go_wp2_with fail
  refine (HTA.out _ (B0.trans (C5.out.mono (by omega)))).mono ?_
  rintro e w6 ⟨x0, x1, rfl, gx0, gx1, hb6⟩
  obtain ⟨xo0, xc0, rfl, -, -, -⟩ := gx0.len
  obtain ⟨xo1, xc1, rfl, -, -, -⟩ := gx1.len
  have A6 : Below w6.heap.size w6 (w6.alloc (.cells #[(.slice xo0 a.r.length xc0), (.slice xo1 a.f.length xc1)] 37)) := (Below.refl _ _).alloc (Nat.le_refl _) _
  have GX0 := Hid.mk (gx0.ufOf.growU A6)
  have GX1 := Hid.mk (gx1.ufOf.growU A6)
  have C6 : Hid (Below (w.heap.size + 2) ((w.alloc (.cells #[(.slice ao0 a.r.length ac0), (.slice ao1 a.f.length ac1)] 46)).alloc (.cells #[(.slice bo0 b.r.length bc0), (.slice bo1 b.f.length bc1)] 46)) (w6.alloc (.cells #[(.slice xo0 a.r.length xc0), (.slice xo1 a.f.length xc1)] 37))) := (C5.out.trans (hb6.mono (by omega))).trans (A6.mono (by have := hb6.size; omega))
  have s6 : w.heap.size + 2 ≤ w6.heap.size := Nat.le_trans s5 hb6.size
  have hc6 := fun o => C6.out.cell (p := ⟨w.heap.size, o, none⟩) (by simp <;> omega)
  have hd6 := fun o => C6.out.cell (p := ⟨w.heap.size + 1, o, none⟩) (by simp)
  clear hb6 A6 C5 hc5 hd5 s5 gx0 gx1
  go_wp2_with fail
  refine (HTB.out _ (B0.trans (C6.out.mono (by omega)))).mono ?_
  rintro e w7 ⟨y0, y1, rfl, gy0, gy1, hb7⟩
  obtain ⟨yo0, yc0, rfl, -, -, -⟩ := gy0.len
  obtain ⟨yo1, yc1, rfl, -, -, -⟩ := gy1.len
  have A7 : Below w7.heap.size w7 (w7.alloc (.cells #[(.slice yo0 b.r.length yc0), (.slice yo1 b.f.length yc1)] 37)) := (Below.refl _ _).alloc (Nat.le_refl _) _
  have GY0 := Hid.mk (gy0.ufOf.growU A7)
  have GY1 := Hid.mk (gy1.ufOf.growU A7)
  have GX0 := Hid.mk ((GX0.out.growU hb7).growU A7)
  have GX1 := Hid.mk ((GX1.out.growU hb7).growU A7)
  have C7 : Hid (Below (w.heap.size + 2) ((w.alloc (.cells #[(.slice ao0 a.r.length ac0), (.slice ao1 a.f.length ac1)] 46)).alloc (.cells #[(.slice bo0 b.r.length bc0), (.slice bo1 b.f.length bc1)] 46)) (w7.alloc (.cells #[(.slice yo0 b.r.length yc0), (.slice yo1 b.f.length yc1)] 37))) := (C6.out.trans (hb7.mono (by simp; omega))).trans (A7.mono (by have := hb7.size; simp at this; omega))
  have D7 : Hid (Below (w6.heap.size + 1) (w6.alloc (.cells #[(.slice xo0 a.r.length xc0), (.slice xo1 a.f.length xc1)] 37)) (w7.alloc (.cells #[(.slice yo0 b.r.length yc0), (.slice yo1 b.f.length yc1)] 37))) := (hb7.mono (by simp)).trans (A7.mono (by have := hb7.size; simpa using this))
  have s7 : w6.heap.size + 1 ≤ w7.heap.size := by have := hb7.size; simpa using this
  have he7 := fun o => D7.out.cell (p := ⟨w6.heap.size, o, none⟩) (by simp)
  clear hb7 A7 C6 hc6 hd6 gy0 gy1
  go_wp2_with fail
  refine (HIO.out _ _ _ _ _ GX0.out GX1.out GY0.out GY1.out).mono ?_
  rintro e w8 ⟨rfl, hb8⟩
  have GX0 := Hid.mk (GX0.out.grow hb8)
  have GY0 := Hid.mk (GY0.out.grow hb8)
  have GX1 := Hid.mk (GX1.out.grow hb8)
  have GY1 := Hid.mk (GY1.out.grow hb8)
  have C8 : Hid (Below (w.heap.size + 2) ((w.alloc (.cells #[(.slice ao0 a.r.length ac0), (.slice ao1 a.f.length ac1)] 46)).alloc (.cells #[(.slice bo0 b.r.length bc0), (.slice bo1 b.f.length bc1)] 46)) w8) := C7.out.trans (hb8.mono (by simp; omega))
  have D8 : Hid (Below (w6.heap.size + 1) (w6.alloc (.cells #[(.slice xo0 a.r.length xc0), (.slice xo1 a.f.length xc1)] 37)) w8) := D7.out.trans (hb8.mono (by simp; omega))
  have E8 : Hid (Below (w7.heap.size + 1) (w7.alloc (.cells #[(.slice yo0 b.r.length yc0), (.slice yo1 b.f.length yc1)] 37)) w8) := hb8.mono (by simp)
  have s8 : w7.heap.size + 1 ≤ w8.heap.size := by have := hb8.size; simpa using this
  clear hb8 C7 D7 he7 HIO
  have S0 : Hid (Below w8.heap.size w8 w8.drew) := Below.drewSelf _ _ 1
  have HX : Hid (∀ w', Below w8.heap.size w8 w' → ∀ o, w'.cell? ⟨w6.heap.size, o, none⟩ = (w6.alloc (.cells #[(.slice xo0 a.r.length xc0), (.slice xo1 a.f.length xc1)] 37)).cell? ⟨w6.heap.size, o, none⟩) := by
    intro w' hb o
    rw [hb.cell (p := ⟨w6.heap.size, o, none⟩) (by show w6.heap.size < _; omega)]
    exact D8.out.cell (p := ⟨w6.heap.size, o, none⟩) (by simp <;> omega)
  have HY : Hid (∀ w', Below w8.heap.size w8 w' → ∀ o, w'.cell? ⟨w.heap.size, o, none⟩ = ((w.alloc (.cells #[(.slice ao0 a.r.length ac0), (.slice ao1 a.f.length ac1)] 46)).alloc (.cells #[(.slice bo0 b.r.length bc0), (.slice bo1 b.f.length bc1)] 46)).cell? ⟨w.heap.size, o, none⟩) := by
    intro w' hb o
    rw [hb.cell (p := ⟨w.heap.size, o, none⟩) (by show w.heap.size < _; omega)]
    exact C8.out.cell (p := ⟨w.heap.size, o, none⟩) (by simp <;> omega)
  go_wp2_with fail
  refine wp_region_held_drew (S := Below w8.heap.size w8) (by kernel_rfl) S0.out (fun _ => ?_)
  refine takeHD (i := 0) (v := pgV (.slice xo0 a.r.length xc0) (.slice xo1 a.f.length xc1)) (some 35) rfl rfl (by kernel_rfl) (by kernel_rfl) (by kernel_rfl) (fun _ _ _ h => h) (Or.inl ⟨by kernel_rfl, fun w' hw => ?_⟩) S0.out ?_
  · have hq := HX.out w' hw
    go_simp
  simp only [Act.put, List.setIfInBounds_toArray]
  refine takeHD (i := 1) (v := pgV (.slice ao0 a.r.length ac0) (.slice ao1 a.f.length ac1)) (some 36) rfl rfl (by kernel_rfl) (by kernel_rfl) (by kernel_rfl) (fun _ _ _ h => h) (Or.inl ⟨by kernel_rfl, fun w' hw => ?_⟩) S0.out ?_
  · have hq := HY.out w' hw
    go_simp
  simp only [Act.put, List.setIfInBounds_toArray]
  refine wpAnyH_ready (rs := [2]) (by kernel_rfl) (by simp) ?_
  refine AllReadyH.cons rfl (fun K hK => ?_) AllReadyH.nil
  rw [if_pos (by kernel_rfl)]
  go_wp2_with fail
  refine (HTA.out _ (B0.trans ((C8.out.trans (S0.out.mono (by omega))).mono (by omega)))).mono ?_
  rintro e z1 ⟨p0, p1, rfl, gp0, gp1, hz1⟩
  have S1 : Hid (Below w8.heap.size w8 z1) := S0.out.trans hz1
  refine hK.out _ _ S1.out (fun _ => ?_)
  clear hK K
  refine wpAnyH_ready (rs := [3]) (by kernel_rfl) (by simp) ?_
  refine AllReadyH.cons rfl (fun K hK => ?_) AllReadyH.nil
  rw [if_pos (by kernel_rfl)]
  go_wp2_with fail
  refine (HEA.out _ _ _ _ _ _ _ (GX0.out.grow S1.out) (GX1.out.grow S1.out) gp0 gp1).mono ?_
  rintro e w9 ⟨rfl, hz2⟩
  have S2 : Hid (Below w8.heap.size w8 w9) := S1.out.trans (hz2.mono S1.out.size)
  refine hK.out _ _ S2.out (fun _ => ?_)
  clear hK K hz1 hz2 S1 HX HY gp0 gp1
  refine wpAnyH_ready (rs := [4]) (by kernel_rfl) (by simp) ?_
  refine AllReadyH.cons rfl (fun K hK => ?_) AllReadyH.nil
  rw [if_pos (by kernel_rfl)]
  go_wp2_with fail
  refine hK.out _ _ S2.out (fun _ => ?_)
  clear hK K
  refine wpAnyH_done (by kernel_rfl) ?_ _
  have C9 : Hid (Below (w.heap.size + 2) ((w.alloc (.cells #[(.slice ao0 a.r.length ac0), (.slice ao1 a.f.length ac1)] 46)).alloc (.cells #[(.slice bo0 b.r.length bc0), (.slice bo1 b.f.length bc1)] 46)) w9) := C8.out.trans (S2.out.mono (by omega))
  have E9 : Hid (Below (w7.heap.size + 1) (w7.alloc (.cells #[(.slice yo0 b.r.length yc0), (.slice yo1 b.f.length yc1)] 37)) w9) := E8.out.trans (S2.out.mono (by omega))
  have s9 : w7.heap.size + 1 ≤ w9.heap.size := Nat.le_trans s8 S2.out.size
  have GY0 := Hid.mk (GY0.out.grow S2.out)
  have GY1 := Hid.mk (GY1.out.grow S2.out)
  clear S0 S2 C8 D8 E8 HEA HTA GX0 GX1
  have S0 : Hid (Below w9.heap.size w9 w9.drew) := Below.drewSelf _ _ 1
  have HX : Hid (∀ w', Below w9.heap.size w9 w' → ∀ o, w'.cell? ⟨w7.heap.size, o, none⟩ = (w7.alloc (.cells #[(.slice yo0 b.r.length yc0), (.slice yo1 b.f.length yc1)] 37)).cell? ⟨w7.heap.size, o, none⟩) := by
    intro w' hb o
    rw [hb.cell (p := ⟨w7.heap.size, o, none⟩) (by show w7.heap.size < _; omega)]
    exact E9.out.cell (p := ⟨w7.heap.size, o, none⟩) (by simp <;> omega)
  have HY : Hid (∀ w', Below w9.heap.size w9 w' → ∀ o, w'.cell? ⟨w.heap.size + 1, o, none⟩ = ((w.alloc (.cells #[(.slice ao0 a.r.length ac0), (.slice ao1 a.f.length ac1)] 46)).alloc (.cells #[(.slice bo0 b.r.length bc0), (.slice bo1 b.f.length bc1)] 46)).cell? ⟨w.heap.size + 1, o, none⟩) := by
    intro w' hb o
    rw [hb.cell (p := ⟨w.heap.size + 1, o, none⟩) (by show w.heap.size + 1 < _; omega)]
    exact C9.out.cell (p := ⟨w.heap.size + 1, o, none⟩) (by simp <;> omega)
  go_wp2_with fail
  refine wp_region_held_drew (S := Below w9.heap.size w9) (by kernel_rfl) S0.out (fun _ => ?_)
  refine takeHD (i := 0) (v := pgV (.slice yo0 b.r.length yc0) (.slice yo1 b.f.length yc1)) (some 40) rfl rfl (by kernel_rfl) (by kernel_rfl) (by kernel_rfl) (fun _ _ _ h => h) (Or.inl ⟨by kernel_rfl, fun w' hw => ?_⟩) S0.out ?_
  · have hq := HX.out w' hw
    go_simp
  simp only [Act.put, List.setIfInBounds_toArray]
  refine takeHD (i := 1) (v := pgV (.slice bo0 b.r.length bc0) (.slice bo1 b.f.length bc1)) (some 41) rfl rfl (by kernel_rfl) (by kernel_rfl) (by kernel_rfl) (fun _ _ _ h => h) (Or.inl ⟨by kernel_rfl, fun w' hw => ?_⟩) S0.out ?_
  · have hq := HY.out w' hw
    go_simp
  simp only [Act.put, List.setIfInBounds_toArray]
  refine wpAnyH_ready (rs := [2]) (by kernel_rfl) (by simp) ?_
  refine AllReadyH.cons rfl (fun K hK => ?_) AllReadyH.nil
  rw [if_pos (by kernel_rfl)]
  go_wp2_with fail
  refine (HTB.out _ (B0.trans ((C9.out.trans (S0.out.mono (by omega))).mono (by omega)))).mono ?_
  rintro e z1 ⟨p0, p1, rfl, gp0, gp1, hz1⟩
  have S1 : Hid (Below w9.heap.size w9 z1) := S0.out.trans hz1
  refine hK.out _ _ S1.out (fun _ => ?_)
  clear hK K
  refine wpAnyH_ready (rs := [3]) (by kernel_rfl) (by simp) ?_
  refine AllReadyH.cons rfl (fun K hK => ?_) AllReadyH.nil
  rw [if_pos (by kernel_rfl)]
  go_wp2_with fail
  refine (HEB.out _ _ _ _ _ _ _ (GY0.out.grow S1.out) (GY1.out.grow S1.out) gp0 gp1).mono ?_
  rintro e wz ⟨rfl, hz2⟩
  have S2 : Hid (Below w9.heap.size w9 wz) := S1.out.trans (hz2.mono S1.out.size)
  refine hK.out _ _ S2.out (fun _ => ?_)
  clear hK K hz1 hz2 S1 HX HY gp0 gp1
  refine wpAnyH_ready (rs := [4]) (by kernel_rfl) (by simp) ?_
  refine AllReadyH.cons rfl (fun K hK => ?_) AllReadyH.nil
  rw [if_pos (by kernel_rfl)]
  go_wp2_with fail
  refine hK.out _ _ S2.out (fun _ => ?_)
  clear hK K
  refine wpAnyH_done (by kernel_rfl) ?_ _
  go_wp2
  go_ret
  exact ⟨rfl, B0.trans ((C9.out.trans (S2.out.mono (by omega))).mono (by omega))⟩

end Go.Proofs.Ytgigalcajgjpnaa
