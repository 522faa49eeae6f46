/- The laws of sameness walked: FnExactSameExpr; what the program's own function answers is handed in. -/
import Derived.Test.YtgigalcajgjpnaaUfU
import Derived.Test.YtgigalcajgjpnaaExSame
import Derived.Test.YtgigalcajgjpnaaTake
namespace Go.Proofs.Ytgigalcajgjpnaa
open Go.RowKit
set_option maxRecDepth 8000

set_option maxHeartbeats 4000000 in
theorem fnExactSameExpr_of (HI : ∀ (a b : Ex) (x0 y0 : Value) (w : World), El w (uf w) a.l x0 → El w (uf w) b.l y0 → a.s.size ≤ maxLen → b.s.size ≤ maxLen → a.sz ≤ 1048576 → b.sz ≤ 1048576 → Calls Try.prog 11 #[xx a.k a.n a.s x0, xx b.k b.n b.s y0] w fun e w' => e = .returned (.bool (sameX a b)) ∧ Below w.heap.size w w') (a b : Ex) (va0 vb0 : Value) (w : World) (ha0 : El w anyBlock a.l va0) (hb0 : El w anyBlock b.l vb0) (hsa : a.s.size ≤ maxLen) (hsb : b.s.size ≤ maxLen) :
    Calls Try.prog 5 #[xx a.k a.n a.s va0, xx b.k b.n b.s vb0] w fun e w' => e = .returned (.bool true) ∧ Below w.heap.size w w' := by
  have HSA := Hid.mk (fun (w' : World) (hw : Below w.heap.size w w') => szExpr_any a anyBlock va0 w' 1048576 (ha0.grow hw) hsa (by omega) (by omega))
  have HSB := Hid.mk (fun (m : Int) (c0 : 0 ≤ m) (c1 : m ≤ 1048576) (w' : World) (hw : Below w.heap.size w w') => szExpr_any b anyBlock vb0 w' m (hb0.grow hw) hsb c0 c1)
  have HTA := Hid.mk (fun (hz : a.sz ≤ 1048576) (w' : World) (hw : Below w.heap.size w w') => toExprF_any a anyBlock va0 w' (ha0.grow hw) (by have := a.sz_eq; omega))
  have HTB := Hid.mk (fun (hz : b.sz ≤ 1048576) (w' : World) (hw : Below w.heap.size w w') => toExprF_any b anyBlock vb0 w' (hb0.grow hw) (by have := b.sz_eq; omega))
  have HSO := Hid.mk (fun (w' : World) (B C : Nat → Prop) (x0 y0 : Value) (h0 : El w' B a.l x0) (g0 : El w' C b.l y0) => specSameExpr_any a b B C x0 y0 w' h0 g0)
  have HIO := Hid.mk (fun (hza : a.sz ≤ 1048576) (hzb : b.sz ≤ 1048576) (w' : World) (x0 y0 : Value) (h0 : El w' (uf w') a.l x0) (g0 : El w' (uf w') b.l y0) => HI a b x0 y0 w' h0 g0 hsa hsb hza hzb)
  have HEA := Hid.mk (fun (w' : World) (B C : Nat → Prop) (x0 y0 : Value) (h0 : El w' B a.l x0) (g0 : El w' C a.l y0) => eqExpr_any a B C x0 y0 w' h0 g0)
  have HEB := Hid.mk (fun (w' : World) (B C : Nat → Prop) (x0 y0 : Value) (h0 : El w' B b.l x0) (g0 : El w' C b.l y0) => eqExpr_any b B C x0 y0 w' h0 g0)
  have HZA : Hid (¬ leftOf 1048576 a.sz < 0 → a.sz ≤ 1048576 ∧ 0 ≤ leftOf 1048576 a.sz ∧ leftOf 1048576 a.sz ≤ 1048576) := by
    intro h
    unfold leftOf at h ⊢
    split at h <;> split <;> omega
  have HZB : Hid (∀ m : Int, m ≤ 1048576 → ¬ leftOf m b.sz < 0 → b.sz ≤ 1048576) := by
    intro m hm h
    unfold leftOf at h
    split at h <;> omega
  clear HI
  obtain ⟨ao0, ac0, rfl, -, -, -⟩ := ha0.len
  obtain ⟨bo0, bc0, rfl, -, -, -⟩ := hb0.len
  clear ha0 hb0
  have B0 : Below w.heap.size w ((w.alloc (.cells #[.int .i64 a.k, .int .i64 a.n, .string a.s, (.slice ao0 a.l.length ac0)] 52)).alloc (.cells #[.int .i64 b.k, .int .i64 b.n, .string b.s, (.slice bo0 b.l.length bc0)] 52)) := ((Below.refl _ _).alloc (Nat.le_refl _) _).alloc (by simp) _
  obtain ⟨m1, hm1⟩ : ∃ m, leftOf 1048576 a.sz = m := ⟨_, rfl⟩
  rw [hm1] at HSA HZA
  clear hm1
  obtain ⟨r, hr⟩ : ∃ r, sameX a b = r := ⟨_, rfl⟩
  rw [hr] at HSO HIO
  clear hr
  have hrr : (r != r) = false := by simp
  by_cases hm1 : m1 < 0
  · clear HSB HTA HTB HSO HIO HEA HEB HZA HZB
    go_enter Try.func5, Try.ntmps5
    go_wp2_with fail
    refine (HSA.out _ B0).mono ?_
    rintro e w1 ⟨rfl, hb1⟩
    have C1 : Hid (Below (w.heap.size + 2) ((w.alloc (.cells #[.int .i64 a.k, .int .i64 a.n, .string a.s, (.slice ao0 a.l.length ac0)] 52)).alloc (.cells #[.int .i64 b.k, .int .i64 b.n, .string b.s, (.slice bo0 b.l.length bc0)] 52)) w1) := hb1.mono (by simp)
    have s1 : w.heap.size + 2 ≤ w1.heap.size := by have := hb1.size; simp at this; omega
    have hc1 := fun o => C1.out.cell (p := ⟨w.heap.size, o, none⟩) (by simp <;> omega)
    have hd1 := fun o => C1.out.cell (p := ⟨w.heap.size + 1, o, none⟩) (by simp)
    clear hb1 HSA
    go_wp2
    go_ret
    exact ⟨rfl, B0.trans (C1.out.mono (by omega))⟩
  obtain ⟨hza, c0, c1⟩ := HZA.out hm1
  have HTA := Hid.mk (HTA.out hza)
  have HIO := Hid.mk (HIO.out hza)
  have HSB := Hid.mk (HSB.out m1 c0 c1)
  have HZB := Hid.mk (HZB.out m1 c1)
  obtain ⟨m2, hm2⟩ : ∃ m, leftOf m1 b.sz = m := ⟨_, rfl⟩
  rw [hm2] at HSB HZB
  clear hm2 HZA hza c0 c1
  by_cases hm2 : m2 < 0
  · clear HTA HTB HSO HIO HEA HEB HZB
    go_enter Try.func5, Try.ntmps5
    go_wp2_with fail
    refine (HSA.out _ B0).mono ?_
    rintro e w1 ⟨rfl, hb1⟩
    have C1 : Hid (Below (w.heap.size + 2) ((w.alloc (.cells #[.int .i64 a.k, .int .i64 a.n, .string a.s, (.slice ao0 a.l.length ac0)] 52)).alloc (.cells #[.int .i64 b.k, .int .i64 b.n, .string b.s, (.slice bo0 b.l.length bc0)] 52)) w1) := hb1.mono (by simp)
    have s1 : w.heap.size + 2 ≤ w1.heap.size := by have := hb1.size; simp at this; omega
    have hc1 := fun o => C1.out.cell (p := ⟨w.heap.size, o, none⟩) (by simp <;> omega)
    have hd1 := fun o => C1.out.cell (p := ⟨w.heap.size + 1, o, none⟩) (by simp)
    clear hb1 HSA
    go_wp2_with fail
    refine (HSB.out _ (B0.trans (C1.out.mono (by omega)))).mono ?_
    rintro e w2 ⟨rfl, hb2⟩
    have C2 : Hid (Below (w.heap.size + 2) ((w.alloc (.cells #[.int .i64 a.k, .int .i64 a.n, .string a.s, (.slice ao0 a.l.length ac0)] 52)).alloc (.cells #[.int .i64 b.k, .int .i64 b.n, .string b.s, (.slice bo0 b.l.length bc0)] 52)) w2) := C1.out.trans (hb2.mono (by omega))
    have s2 : w.heap.size + 2 ≤ w2.heap.size := Nat.le_trans s1 hb2.size
    clear hb2 HSB C1 hc1 hd1 s1
    go_wp2
    go_ret
    exact ⟨rfl, B0.trans (C2.out.mono (by omega))⟩
  have HTB := Hid.mk (HTB.out (HZB.out hm2))
  have HIO := Hid.mk (HIO.out (HZB.out hm2))
  clear HZB
  go_enter Try.func5, Try.ntmps5
  go_wp2_with fail
  refine (HSA.out _ B0).mono ?_
  rintro e w1 ⟨rfl, hb1⟩
  have C1 : Hid (Below (w.heap.size + 2) ((w.alloc (.cells #[.int .i64 a.k, .int .i64 a.n, .string a.s, (.slice ao0 a.l.length ac0)] 52)).alloc (.cells #[.int .i64 b.k, .int .i64 b.n, .string b.s, (.slice bo0 b.l.length bc0)] 52)) w1) := hb1.mono (by simp)
  have s1 : w.heap.size + 2 ≤ w1.heap.size := by have := hb1.size; simp at this; omega
  have hc1 := fun o => C1.out.cell (p := ⟨w.heap.size, o, none⟩) (by simp <;> omega)
  have hd1 := fun o => C1.out.cell (p := ⟨w.heap.size + 1, o, none⟩) (by simp)
  clear hb1 HSA
  go_wp2_with fail
  refine (HSB.out _ (B0.trans (C1.out.mono (by omega)))).mono ?_
  rintro e w2 ⟨rfl, hb2⟩
  have C2 : Hid (Below (w.heap.size + 2) ((w.alloc (.cells #[.int .i64 a.k, .int .i64 a.n, .string a.s, (.slice ao0 a.l.length ac0)] 52)).alloc (.cells #[.int .i64 b.k, .int .i64 b.n, .string b.s, (.slice bo0 b.l.length bc0)] 52)) w2) := C1.out.trans (hb2.mono (by omega))
  have s2 : w.heap.size + 2 ≤ w2.heap.size := Nat.le_trans s1 hb2.size
  clear hb2 HSB C1 hc1 hd1 s1
  have S0 : Hid (Below w2.heap.size w2 w2.drew) := Below.drewSelf _ _ 1
  have HX : Hid (∀ w', Below w2.heap.size w2 w' → ∀ o, w'.cell? ⟨w.heap.size, o, none⟩ = ((w.alloc (.cells #[.int .i64 a.k, .int .i64 a.n, .string a.s, (.slice ao0 a.l.length ac0)] 52)).alloc (.cells #[.int .i64 b.k, .int .i64 b.n, .string b.s, (.slice bo0 b.l.length bc0)] 52)).cell? ⟨w.heap.size, o, none⟩) := by
    intro w' hb o
    rw [hb.cell (p := ⟨w.heap.size, o, none⟩) (by show w.heap.size < _; omega)]
    exact C2.out.cell (p := ⟨w.heap.size, o, none⟩) (by simp <;> omega)
  have HY : Hid (∀ w', Below w2.heap.size w2 w' → ∀ o, w'.cell? ⟨w.heap.size + 1, o, none⟩ = ((w.alloc (.cells #[.int .i64 a.k, .int .i64 a.n, .string a.s, (.slice ao0 a.l.length ac0)] 52)).alloc (.cells #[.int .i64 b.k, .int .i64 b.n, .string b.s, (.slice bo0 b.l.length bc0)] 52)).cell? ⟨w.heap.size + 1, o, none⟩) := by
    intro w' hb o
    rw [hb.cell (p := ⟨w.heap.size + 1, o, none⟩) (by show w.heap.size + 1 < _; omega)]
    exact C2.out.cell (p := ⟨w.heap.size + 1, o, none⟩) (by simp <;> omega)
  go_wp2_with fail
  refine wp_region_held_drew (S := Below w2.heap.size w2) (by kernel_rfl) S0.out (fun _ => ?_)
  refine takeHD (i := 0) (v := xx a.k a.n a.s (.slice ao0 a.l.length ac0)) (some 20) rfl rfl (by kernel_rfl) (by kernel_rfl) (by kernel_rfl) (fun _ _ _ h => h) (Or.inl ⟨by kernel_rfl, fun w' hw => ?_⟩) S0.out ?_
  · have hq := HX.out w' hw
    go_simp
  simp only [Act.put, List.setIfInBounds_toArray]
  refine takeHD (i := 2) (v := xx b.k b.n b.s (.slice bo0 b.l.length bc0)) (some 22) rfl rfl (by kernel_rfl) (by kernel_rfl) (by kernel_rfl) (fun _ _ _ h => h) (Or.inl ⟨by kernel_rfl, fun w' hw => ?_⟩) S0.out ?_
  · have hq := HY.out w' hw
    go_simp
  simp only [Act.put, List.setIfInBounds_toArray]
  refine wpAnyH_ready (rs := [1]) (by kernel_rfl) (by simp) ?_
  refine AllReadyH.cons rfl (fun K hK => ?_) AllReadyH.nil
  rw [if_pos (by kernel_rfl)]
  go_wp2_with fail
  refine (HTA.out _ (B0.trans ((C2.out.trans (S0.out.mono (by omega))).mono (by omega)))).mono ?_
  rintro e w3 ⟨u0, rfl, gu0, hb3⟩
  have S3 : Hid (Below w2.heap.size w2 w3) := S0.out.trans hb3
  refine hK.out _ _ S3.out (fun _ => ?_)
  clear hK K
  refine wpAnyH_ready (rs := [3]) (by kernel_rfl) (by simp) ?_
  refine AllReadyH.cons rfl (fun K hK => ?_) AllReadyH.nil
  rw [if_pos (by kernel_rfl)]
  go_wp2_with fail
  refine (HTB.out _ (B0.trans ((C2.out.trans (S3.out.mono (by omega))).mono (by omega)))).mono ?_
  rintro e w4 ⟨q0, rfl, gq0, hb4⟩
  have S4 : Hid (Below w2.heap.size w2 w4) := S3.out.trans (hb4.mono S3.out.size)
  refine hK.out _ _ S4.out (fun _ => ?_)
  clear hK K
  have GU0 := Hid.mk (gu0.any.grow hb4)
  clear hb3 hb4 gu0
  refine wpAnyH_ready (rs := [4]) (by kernel_rfl) (by simp) ?_
  refine AllReadyH.cons rfl (fun K hK => ?_) AllReadyH.nil
  rw [if_pos (by kernel_rfl)]
  go_wp2_with fail
  refine (HSO.out _ _ _ _ _ GU0.out gq0).mono ?_
  rintro e w5 ⟨rfl, hb5⟩
  have S5 : Hid (Below w2.heap.size w2 w5) := S4.out.trans (hb5.mono S4.out.size)
  refine hK.out _ _ S5.out (fun _ => ?_)
  clear hK K hb5 S3 S4 HX HY HSO gq0 GU0
  refine wpAnyH_ready (rs := [5]) (by kernel_rfl) (by simp) ?_
  refine AllReadyH.cons rfl (fun K hK => ?_) AllReadyH.nil
  rw [if_pos (by kernel_rfl)]
  go_wp2_with fail
  refine hK.out _ _ S5.out (fun _ => ?_)
  clear hK K
  refine wpAnyH_done (by kernel_rfl) ?_ _
  have C5 : Hid (Below (w.heap.size + 2) ((w.alloc (.cells #[.int .i64 a.k, .int .i64 a.n, .string a.s, (.slice ao0 a.l.length ac0)] 52)).alloc (.cells #[.int .i64 b.k, .int .i64 b.n, .string b.s, (.slice bo0 b.l.length bc0)] 52)) w5) := C2.out.trans (S5.out.mono (by omega))
  have s5 : w.heap.size + 2 ≤ w5.heap.size := Nat.le_trans s2 S5.out.size
  have hc5 := fun o => C5.out.cell (p := ⟨w.heap.size, o, none⟩) (by simp <;> omega)
  have hd5 := fun o => C5.out.cell (p := ⟨w.heap.size + 1, o, none⟩) (by simp)
  clear S0 S5 C2 s2
  go_wp2_with fail
  refine (HTA.out _ (B0.trans (C5.out.mono (by omega)))).mono ?_
  rintro e w6 ⟨x0, rfl, gx0, hb6⟩
  obtain ⟨xo0, xc0, rfl, -, -, -⟩ := gx0.len
  have A6 : Below w6.heap.size w6 (w6.alloc (.cells #[.int .i64 a.k, .int .i64 a.n, .string a.s, (.slice xo0 a.l.length xc0)] 26)) := (Below.refl _ _).alloc (Nat.le_refl _) _
  have GX0 := Hid.mk (gx0.ufOf.growU A6)
  have C6 : Hid (Below (w.heap.size + 2) ((w.alloc (.cells #[.int .i64 a.k, .int .i64 a.n, .string a.s, (.slice ao0 a.l.length ac0)] 52)).alloc (.cells #[.int .i64 b.k, .int .i64 b.n, .string b.s, (.slice bo0 b.l.length bc0)] 52)) (w6.alloc (.cells #[.int .i64 a.k, .int .i64 a.n, .string a.s, (.slice xo0 a.l.length xc0)] 26))) := (C5.out.trans (hb6.mono (by omega))).trans (A6.mono (by have := hb6.size; omega))
  have s6 : w.heap.size + 2 ≤ w6.heap.size := Nat.le_trans s5 hb6.size
  have hc6 := fun o => C6.out.cell (p := ⟨w.heap.size, o, none⟩) (by simp <;> omega)
  have hd6 := fun o => C6.out.cell (p := ⟨w.heap.size + 1, o, none⟩) (by simp)
  clear hb6 A6 C5 hc5 hd5 s5 gx0
  go_wp2_with fail
  refine (HTB.out _ (B0.trans (C6.out.mono (by omega)))).mono ?_
  rintro e w7 ⟨y0, rfl, gy0, hb7⟩
  obtain ⟨yo0, yc0, rfl, -, -, -⟩ := gy0.len
  have A7 : Below w7.heap.size w7 (w7.alloc (.cells #[.int .i64 b.k, .int .i64 b.n, .string b.s, (.slice yo0 b.l.length yc0)] 26)) := (Below.refl _ _).alloc (Nat.le_refl _) _
  have GY0 := Hid.mk (gy0.ufOf.growU A7)
  have GX0 := Hid.mk ((GX0.out.growU hb7).growU A7)
  have C7 : Hid (Below (w.heap.size + 2) ((w.alloc (.cells #[.int .i64 a.k, .int .i64 a.n, .string a.s, (.slice ao0 a.l.length ac0)] 52)).alloc (.cells #[.int .i64 b.k, .int .i64 b.n, .string b.s, (.slice bo0 b.l.length bc0)] 52)) (w7.alloc (.cells #[.int .i64 b.k, .int .i64 b.n, .string b.s, (.slice yo0 b.l.length yc0)] 26))) := (C6.out.trans (hb7.mono (by simp; omega))).trans (A7.mono (by have := hb7.size; simp at this; omega))
  have D7 : Hid (Below (w6.heap.size + 1) (w6.alloc (.cells #[.int .i64 a.k, .int .i64 a.n, .string a.s, (.slice xo0 a.l.length xc0)] 26)) (w7.alloc (.cells #[.int .i64 b.k, .int .i64 b.n, .string b.s, (.slice yo0 b.l.length yc0)] 26))) := (hb7.mono (by simp)).trans (A7.mono (by have := hb7.size; simpa using this))
  have s7 : w6.heap.size + 1 ≤ w7.heap.size := by have := hb7.size; simpa using this
  have he7 := fun o => D7.out.cell (p := ⟨w6.heap.size, o, none⟩) (by simp)
  clear hb7 A7 C6 hc6 hd6 gy0
  go_wp2_with fail
  refine (HIO.out _ _ _ GX0.out GY0.out).mono ?_
  rintro e w8 ⟨rfl, hb8⟩
  have GX0 := Hid.mk (GX0.out.grow hb8)
  have GY0 := Hid.mk (GY0.out.grow hb8)
  have C8 : Hid (Below (w.heap.size + 2) ((w.alloc (.cells #[.int .i64 a.k, .int .i64 a.n, .string a.s, (.slice ao0 a.l.length ac0)] 52)).alloc (.cells #[.int .i64 b.k, .int .i64 b.n, .string b.s, (.slice bo0 b.l.length bc0)] 52)) w8) := C7.out.trans (hb8.mono (by simp; omega))
  have D8 : Hid (Below (w6.heap.size + 1) (w6.alloc (.cells #[.int .i64 a.k, .int .i64 a.n, .string a.s, (.slice xo0 a.l.length xc0)] 26)) w8) := D7.out.trans (hb8.mono (by simp; omega))
  have E8 : Hid (Below (w7.heap.size + 1) (w7.alloc (.cells #[.int .i64 b.k, .int .i64 b.n, .string b.s, (.slice yo0 b.l.length yc0)] 26)) w8) := hb8.mono (by simp)
  have s8 : w7.heap.size + 1 ≤ w8.heap.size := by have := hb8.size; simpa using this
  clear hb8 C7 D7 he7 HIO
  have S0 : Hid (Below w8.heap.size w8 w8.drew) := Below.drewSelf _ _ 1
  have HX : Hid (∀ w', Below w8.heap.size w8 w' → ∀ o, w'.cell? ⟨w6.heap.size, o, none⟩ = (w6.alloc (.cells #[.int .i64 a.k, .int .i64 a.n, .string a.s, (.slice xo0 a.l.length xc0)] 26)).cell? ⟨w6.heap.size, o, none⟩) := by
    intro w' hb o
    rw [hb.cell (p := ⟨w6.heap.size, o, none⟩) (by show w6.heap.size < _; omega)]
    exact D8.out.cell (p := ⟨w6.heap.size, o, none⟩) (by simp <;> omega)
  have HY : Hid (∀ w', Below w8.heap.size w8 w' → ∀ o, w'.cell? ⟨w.heap.size, o, none⟩ = ((w.alloc (.cells #[.int .i64 a.k, .int .i64 a.n, .string a.s, (.slice ao0 a.l.length ac0)] 52)).alloc (.cells #[.int .i64 b.k, .int .i64 b.n, .string b.s, (.slice bo0 b.l.length bc0)] 52)).cell? ⟨w.heap.size, o, none⟩) := by
    intro w' hb o
    rw [hb.cell (p := ⟨w.heap.size, o, none⟩) (by show w.heap.size < _; omega)]
    exact C8.out.cell (p := ⟨w.heap.size, o, none⟩) (by simp <;> omega)
  go_wp2_with fail
  refine wp_region_held_drew (S := Below w8.heap.size w8) (by kernel_rfl) S0.out (fun _ => ?_)
  refine takeHD (i := 0) (v := xx a.k a.n a.s (.slice xo0 a.l.length xc0)) (some 35) rfl rfl (by kernel_rfl) (by kernel_rfl) (by kernel_rfl) (fun _ _ _ h => h) (Or.inl ⟨by kernel_rfl, fun w' hw => ?_⟩) S0.out ?_
  · have hq := HX.out w' hw
    go_simp
  simp only [Act.put, List.setIfInBounds_toArray]
  refine takeHD (i := 1) (v := xx a.k a.n a.s (.slice ao0 a.l.length ac0)) (some 36) rfl rfl (by kernel_rfl) (by kernel_rfl) (by kernel_rfl) (fun _ _ _ h => h) (Or.inl ⟨by kernel_rfl, fun w' hw => ?_⟩) S0.out ?_
  · have hq := HY.out w' hw
    go_simp
  simp only [Act.put, List.setIfInBounds_toArray]
  refine wpAnyH_ready (rs := [2]) (by kernel_rfl) (by simp) ?_
  refine AllReadyH.cons rfl (fun K hK => ?_) AllReadyH.nil
  rw [if_pos (by kernel_rfl)]
  go_wp2_with fail
  refine (HTA.out _ (B0.trans ((C8.out.trans (S0.out.mono (by omega))).mono (by omega)))).mono ?_
  rintro e z1 ⟨p0, rfl, gp0, hz1⟩
  have S1 : Hid (Below w8.heap.size w8 z1) := S0.out.trans hz1
  refine hK.out _ _ S1.out (fun _ => ?_)
  clear hK K
  refine wpAnyH_ready (rs := [3]) (by kernel_rfl) (by simp) ?_
  refine AllReadyH.cons rfl (fun K hK => ?_) AllReadyH.nil
  rw [if_pos (by kernel_rfl)]
  go_wp2_with fail
  refine (HEA.out _ _ _ _ _ (GX0.out.grow S1.out) gp0).mono ?_
  rintro e w9 ⟨rfl, hz2⟩
  have S2 : Hid (Below w8.heap.size w8 w9) := S1.out.trans (hz2.mono S1.out.size)
  refine hK.out _ _ S2.out (fun _ => ?_)
  clear hK K hz1 hz2 S1 HX HY gp0
  refine wpAnyH_ready (rs := [4]) (by kernel_rfl) (by simp) ?_
  refine AllReadyH.cons rfl (fun K hK => ?_) AllReadyH.nil
  rw [if_pos (by kernel_rfl)]
  go_wp2_with fail
  refine hK.out _ _ S2.out (fun _ => ?_)
  clear hK K
  refine wpAnyH_done (by kernel_rfl) ?_ _
  have C9 : Hid (Below (w.heap.size + 2) ((w.alloc (.cells #[.int .i64 a.k, .int .i64 a.n, .string a.s, (.slice ao0 a.l.length ac0)] 52)).alloc (.cells #[.int .i64 b.k, .int .i64 b.n, .string b.s, (.slice bo0 b.l.length bc0)] 52)) w9) := C8.out.trans (S2.out.mono (by omega))
  have E9 : Hid (Below (w7.heap.size + 1) (w7.alloc (.cells #[.int .i64 b.k, .int .i64 b.n, .string b.s, (.slice yo0 b.l.length yc0)] 26)) w9) := E8.out.trans (S2.out.mono (by omega))
  have s9 : w7.heap.size + 1 ≤ w9.heap.size := Nat.le_trans s8 S2.out.size
  have GY0 := Hid.mk (GY0.out.grow S2.out)
  clear S0 S2 C8 D8 E8 HEA HTA GX0
  have S0 : Hid (Below w9.heap.size w9 w9.drew) := Below.drewSelf _ _ 1
  have HX : Hid (∀ w', Below w9.heap.size w9 w' → ∀ o, w'.cell? ⟨w7.heap.size, o, none⟩ = (w7.alloc (.cells #[.int .i64 b.k, .int .i64 b.n, .string b.s, (.slice yo0 b.l.length yc0)] 26)).cell? ⟨w7.heap.size, o, none⟩) := by
    intro w' hb o
    rw [hb.cell (p := ⟨w7.heap.size, o, none⟩) (by show w7.heap.size < _; omega)]
    exact E9.out.cell (p := ⟨w7.heap.size, o, none⟩) (by simp <;> omega)
  have HY : Hid (∀ w', Below w9.heap.size w9 w' → ∀ o, w'.cell? ⟨w.heap.size + 1, o, none⟩ = ((w.alloc (.cells #[.int .i64 a.k, .int .i64 a.n, .string a.s, (.slice ao0 a.l.length ac0)] 52)).alloc (.cells #[.int .i64 b.k, .int .i64 b.n, .string b.s, (.slice bo0 b.l.length bc0)] 52)).cell? ⟨w.heap.size + 1, o, none⟩) := by
    intro w' hb o
    rw [hb.cell (p := ⟨w.heap.size + 1, o, none⟩) (by show w.heap.size + 1 < _; omega)]
    exact C9.out.cell (p := ⟨w.heap.size + 1, o, none⟩) (by simp <;> omega)
  go_wp2_with fail
  refine wp_region_held_drew (S := Below w9.heap.size w9) (by kernel_rfl) S0.out (fun _ => ?_)
  refine takeHD (i := 0) (v := xx b.k b.n b.s (.slice yo0 b.l.length yc0)) (some 40) rfl rfl (by kernel_rfl) (by kernel_rfl) (by kernel_rfl) (fun _ _ _ h => h) (Or.inl ⟨by kernel_rfl, fun w' hw => ?_⟩) S0.out ?_
  · have hq := HX.out w' hw
    go_simp
  simp only [Act.put, List.setIfInBounds_toArray]
  refine takeHD (i := 1) (v := xx b.k b.n b.s (.slice bo0 b.l.length bc0)) (some 41) rfl rfl (by kernel_rfl) (by kernel_rfl) (by kernel_rfl) (fun _ _ _ h => h) (Or.inl ⟨by kernel_rfl, fun w' hw => ?_⟩) S0.out ?_
  · have hq := HY.out w' hw
    go_simp
  simp only [Act.put, List.setIfInBounds_toArray]
  refine wpAnyH_ready (rs := [2]) (by kernel_rfl) (by simp) ?_
  refine AllReadyH.cons rfl (fun K hK => ?_) AllReadyH.nil
  rw [if_pos (by kernel_rfl)]
  go_wp2_with fail
  refine (HTB.out _ (B0.trans ((C9.out.trans (S0.out.mono (by omega))).mono (by omega)))).mono ?_
  rintro e z1 ⟨p0, rfl, gp0, hz1⟩
  have S1 : Hid (Below w9.heap.size w9 z1) := S0.out.trans hz1
  refine hK.out _ _ S1.out (fun _ => ?_)
  clear hK K
  refine wpAnyH_ready (rs := [3]) (by kernel_rfl) (by simp) ?_
  refine AllReadyH.cons rfl (fun K hK => ?_) AllReadyH.nil
  rw [if_pos (by kernel_rfl)]
  go_wp2_with fail
  refine (HEB.out _ _ _ _ _ (GY0.out.grow S1.out) gp0).mono ?_
  rintro e wz ⟨rfl, hz2⟩
  have S2 : Hid (Below w9.heap.size w9 wz) := S1.out.trans (hz2.mono S1.out.size)
  refine hK.out _ _ S2.out (fun _ => ?_)
  clear hK K hz1 hz2 S1 HX HY gp0
  refine wpAnyH_ready (rs := [4]) (by kernel_rfl) (by simp) ?_
  refine AllReadyH.cons rfl (fun K hK => ?_) AllReadyH.nil
  rw [if_pos (by kernel_rfl)]
  go_wp2_with fail
  refine hK.out _ _ S2.out (fun _ => ?_)
  clear hK K
  refine wpAnyH_done (by kernel_rfl) ?_ _
  go_wp2
  go_ret
  exact ⟨rfl, B0.trans ((C9.out.trans (S2.out.mono (by omega))).mono (by omega))⟩

end Go.Proofs.Ytgigalcajgjpnaa
