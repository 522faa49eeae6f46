/- The law FnRexes walked. -/
import Derived.Test.YtapniafhcagogaaRexAny
import Derived.Test.YtapniafhcagogaaRexParI
namespace Go.Proofs.Ytapniafhcagogaa
open Go.RowKit
set_option maxRecDepth 8000

set_option maxHeartbeats 1000000 in
theorem drawRexText_any (v : Value) (zs : List Int) (w : World) (h : Bs w v zs) (hlen : zs.length ≤ 1048576) :
    Calls Try.prog 10 #[v] w fun e w' => ∃ (t : Tr) (u : Value), e = .returned (rx t.k t.s u) ∧ t.s.size ≤ maxLen ∧ Rl w' anyBlock t.l u ∧ Below w.heap.size w w' := by
  have H := Hid.mk h
  clear h
  have HB0 := Hid.mk (Bz3.new w (.int .i64 0) (.string ⟨#[]⟩) (.slice none 0 0))
  have B0 : Below w.heap.size w (w.alloc (.cells #[.int .i64 0, .string ⟨#[]⟩, .slice none 0 0] 26)) := (Below.refl _ _).alloc (Nat.le_refl _) _
  have HNW := Hid.mk (l1New_any v zs _ (H.out.grow B0) hlen)
  have esz : (w.alloc (.cells #[.int .i64 0, .string ⟨#[]⟩, .slice none 0 0] 26)).heap.size = w.heap.size + 1 := by simp
  rw [esz] at HNW
  clear esz
  go_enter Try.func10, Try.ntmps10
  go_wp2_with fail
  refine HNW.out.mono ?_
  rintro e w1 ⟨rfl, hC1, hb1⟩
  clear HNW
  have HC1 := Hid.mk hC1
  have HB1 := Hid.mk (HB0.out.grow (hb1.mono (by simp)))
  have BB1 := Hid.mk (B0.trans (hb1.mono (by omega)))
  have hs1 : w.heap.size + 1 ≤ w1.heap.size := by have := hb1.size; simpa using this
  clear hC1 hb1 HB0 B0
  go_wp2_with fail
  refine (l3Any_any _ v zs w1 HC1.out).mono ?_
  rintro e w2 ⟨t, u, rfl, hz, hr, hC2, hg2⟩
  have HB2 := Hid.mk (HB1.out.by hg2 (by simp))
  have BB2 : Hid (Below w.heap.size w w2) := BB1.out.grown hg2 BB1.out.size (fun k e => by simp at e; omega)
  have HR2 := Hid.mk hr
  have HZ := Hid.mk hz
  obtain ⟨au, cu, rfl, -⟩ := hr.len
  obtain ⟨tk, htk⟩ : ∃ tk, t.k = tk := ⟨_, rfl⟩
  obtain ⟨ts, hts⟩ : ∃ ts, t.s = ts := ⟨_, rfl⟩
  obtain ⟨l, hl⟩ : ∃ l, t.l = l := ⟨_, rfl⟩
  rw [htk, hts, hl]
  rw [hl] at HR2
  rw [hts] at HZ
  clear htk hts hl
  have c0 := HB2.out.c0
  have c1 := HB2.out.c1
  have c2 := HB2.out.c2
  have f0 := HB2.out.fr
  clear hC2 hg2 hr hz HB1 HC1 BB1
  go_wp2
  have hput := HB2.out.put (.int .i64 tk) (.string ts) (.slice au l.length cu)
  have hb := BB2.out.trans ((((Below.refl w.heap.size w2).setCell (p := ⟨w.heap.size, 0, none⟩) (Nat.le_refl _) (.int .i64 tk)).setCell (p := ⟨w.heap.size, 1, none⟩) (Nat.le_refl _) (.string ts)).setCell (p := ⟨w.heap.size, 2, none⟩) (Nat.le_refl _) (.slice au l.length cu))
  have hrp := HR2.out.kept (w' := sz3 w2 w.heap.size (.int .i64 tk) (.string ts) (.slice au l.length cu)) (fun b hb _ => sz3_other _ _ _ _ _ _ (by unfold newFrom at hb; omega))
  unfold sz3 at hput hrp
  generalize ((w2.setCell ⟨w.heap.size, 0, none⟩ (.int .i64 tk)).setCell ⟨w.heap.size, 1, none⟩ (.string ts)).setCell ⟨w.heap.size, 2, none⟩ (.slice au l.length cu) = W at hput hrp hb ⊢
  have r0 := hput.c0
  have r1 := hput.c1
  have r2 := hput.c2
  refine bodyPost_ret (v := rx tk ts (.slice au l.length cu)) ?_ rfl ⟨.node tk ts l, _, rfl, HZ.out, hrp.any, hb⟩
  simp [results, Try.results10, go_sem, r0, r1, r2]

theorem IsTx.own {t : Tr} (h : okR t = true) : IsTx (rexS t) t := by
  refine ⟨h, ?_⟩
  unfold rexS
  rw [if_pos h, txt_strOf (tl_byte t)]

set_option maxHeartbeats 1000000 in
theorem fnRexes_walk (v : Value) (zs : List Int) (w : World) (h : Bs w v zs) :
    Calls Try.prog 3 #[v] w fun e w' => e = .returned (.bool true) ∧ Below w.heap.size w w' := by
  have H := Hid.mk h
  clear h
  have HB := Hid.mk (big_any v zs w H.out)
  by_cases hlen : zs.length ≤ 1048576
  · have hd : decide ((1048576 : Int) < zs.length) = false := by simp; omega
    rw [hd] at HB
    clear hd
    go_enter Try.func3, Try.ntmps3
    go_wp2_with fail
    refine HB.out.mono ?_
    rintro e w1 ⟨rfl, hw⟩
    obtain rfl := hw.symm
    clear hw HB
    go_wp2_with fail
    refine (drawRexText_any v zs w H.out hlen).mono ?_
    rintro e w1 ⟨t, u, rfl, hz, hr, hb1⟩
    obtain ⟨au, cu, rfl, -⟩ := hr.len
    have HIT := Hid.mk (fun (w' : World) (B : Nat → Prop) (u : Value) (h : Rl w' B t.l u) => implRexText_any t B u w' h hz)
    have HSO := Hid.mk (fun (w' : World) (B : Nat → Prop) (u : Value) (h : Rl w' B t.l u) => specRexOk_any t B u w' h hz)
    have HIO := Hid.mk (fun (w' : World) (B : Nat → Prop) (u : Value) (h : Rl w' B t.l u) => implRexOk_any t B u w' h hz)
    have HPA := Hid.mk (fun (h : okR t = true) (w' : World) => implParse_yes (rexS t) t w' (IsTx.own h))
    have HE : Hid (okR t = false → (rexS t) = ⟨#[]⟩) := by intro h; unfold rexS; rw [if_neg (by rw [h]; simp)]
    have A1 : Below w1.heap.size w1 (w1.alloc (.cells #[.int .i64 t.k, .string t.s, .slice au t.l.length cu] 26)) := (Below.refl _ _).alloc (Nat.le_refl _) _
    have X1 := Hid.mk (Bz3.new w1 (.int .i64 t.k) (.string t.s) (.slice au t.l.length cu))
    have R1 := Hid.mk (hr.grow A1)
    have B1 := Hid.mk (hb1.trans (A1.mono hb1.size))
    obtain ⟨ok, hok⟩ : ∃ ok, okR t = ok := ⟨_, rfl⟩
    obtain ⟨S, hS⟩ : ∃ S, rexS t = S := ⟨_, rfl⟩
    obtain ⟨tk, htk⟩ : ∃ tk, t.k = tk := ⟨_, rfl⟩
    obtain ⟨ts, hts⟩ : ∃ ts, t.s = ts := ⟨_, rfl⟩
    obtain ⟨l, hl⟩ : ∃ l, t.l = l := ⟨_, rfl⟩
    rw [htk, hts, hl, hS] at HIT
    rw [htk, hts, hl, hok] at HSO HIO
    rw [htk, hts, hl, hS, hok] at HPA
    rw [hok, hS] at HE
    rw [htk, hts, hl] at X1 R1 B1
    rw [htk, hts, hl]
    clear hr hb1 A1 hz hok hS htk hts hl
    go_wp2_with fail
    generalize w1.alloc (.cells #[.int .i64 tk, .string ts, .slice au l.length cu] 26) = W1 at X1 R1 B1 ⊢
    generalize w1.heap.size = p0 at X1 ⊢
    clear w1
    refine (HIT.out W1 _ _ R1.out).mono ?_
    rintro e w2 ⟨rfl, hb2⟩
    have X2 := Hid.mk (X1.out.grow hb2)
    have R2 := Hid.mk (R1.out.grow hb2)
    have B2 := Hid.mk (B1.out.trans (hb2.mono B1.out.size))
    have x0 := X2.out.c0
    have x1 := X2.out.c1
    have x2 := X2.out.c2
    clear hb2 X1 R1 B1
    go_wp2_with fail
    refine (HSO.out w2 _ _ R2.out).mono ?_
    rintro e w3 ⟨rfl, hb3⟩
    have X3 := Hid.mk (X2.out.grow hb3)
    have R3 := Hid.mk (R2.out.grow hb3)
    have B3 := Hid.mk (B2.out.trans (hb3.mono B2.out.size))
    clear x0 x1 x2 hb3 X2 R2 B2
    have x0 := X3.out.c0
    have x1 := X3.out.c1
    have x2 := X3.out.c2
    cases ok with
    | false =>
      have hS := HE.out rfl
      subst hS
      clear HPA HE
      go_wp2_with fail
      refine (HIO.out w3 _ _ R3.out).mono ?_
      rintro e w4 ⟨rfl, hb4⟩
      have B4 := B3.out.trans (hb4.mono B3.out.size)
      clear x0 x1 x2 hb4 X3 R3 B3
      go_wp2
      go_ret
      exact ⟨rfl, B4⟩
    | true =>
      have HP := Hid.mk (HPA.out rfl)
      clear HPA HE
      go_wp2_with fail
      refine (HP.out w3).mono ?_
      rintro e w4 ⟨u4, rfl, how, hz4, hb4⟩
      obtain ⟨a4, c4, rfl⟩ := how.value
      have A4 : Below w4.heap.size w4 (w4.alloc (.cells #[.int .i64 tk, .string ts, .slice a4 l.length c4] 26)) := (Below.refl _ _).alloc (Nat.le_refl _) _
      have Y4 := Hid.mk (Bz3.new w4 (.int .i64 tk) (.string ts) (.slice a4 l.length c4))
      have S4 := Hid.mk (how.rl.any.grow A4)
      have X4 := Hid.mk ((X3.out.grow hb4).grow A4)
      have R4 := Hid.mk ((R3.out.grow hb4).grow A4)
      have B4 := Hid.mk (B3.out.trans ((hb4.trans (A4.mono hb4.size)).mono B3.out.size))
      have hss : (S.toList == S.toList) = true := by simp
      clear x0 x1 x2 how hz4 hb4 A4 X3 R3 B3 HP
      go_wp2_with fail
      generalize w4.alloc (.cells #[.int .i64 tk, .string ts, .slice a4 l.length c4] 26) = W4 at Y4 S4 X4 R4 B4 ⊢
      generalize w4.heap.size = p1 at Y4 ⊢
      clear w4
      refine (HIT.out W4 _ _ S4.out).mono ?_
      rintro e w5 ⟨rfl, hb5⟩
      have Y5 := Hid.mk (Y4.out.grow hb5)
      have S5 := Hid.mk (S4.out.grow hb5)
      have X5 := Hid.mk (X4.out.grow hb5)
      have R5 := Hid.mk (R4.out.grow hb5)
      have B5 := Hid.mk (B4.out.trans (hb5.mono B4.out.size))
      have x0 := X5.out.c0
      have x1 := X5.out.c1
      have x2 := X5.out.c2
      have y0 := Y5.out.c0
      have y1 := Y5.out.c1
      have y2 := Y5.out.c2
      clear hb5 Y4 S4 X4 R4 B4
      go_wp2_with fail
      refine (HIO.out w5 _ _ R5.out).mono ?_
      rintro e w6 ⟨rfl, hb6⟩
      have Y6 := Hid.mk (Y5.out.grow hb6)
      have S6 := Hid.mk (S5.out.grow hb6)
      have X6 := Hid.mk (X5.out.grow hb6)
      have B6 := Hid.mk (B5.out.trans (hb6.mono B5.out.size))
      clear x0 x1 x2 y0 y1 y2 hb6 Y5 S5 X5 R5 B5
      have x0 := X6.out.c0
      have x1 := X6.out.c1
      have x2 := X6.out.c2
      have y0 := Y6.out.c0
      have y1 := Y6.out.c1
      have y2 := Y6.out.c2
      go_wp2_with fail
      refine (HIO.out w6 _ _ S6.out).mono ?_
      rintro e w7 ⟨rfl, hb7⟩
      have Y7 := Hid.mk (Y6.out.grow hb7)
      have X7 := Hid.mk (X6.out.grow hb7)
      have B7 := Hid.mk (B6.out.trans (hb7.mono B6.out.size))
      clear x0 x1 x2 y0 y1 y2 hb7 Y6 S6 X6 B6
      have x0 := X7.out.c0
      have x1 := X7.out.c1
      have x2 := X7.out.c2
      have y0 := Y7.out.c0
      have y1 := Y7.out.c1
      have y2 := Y7.out.c2
      go_wp2
      go_ret
      exact ⟨rfl, B7.out⟩
  · have hd : decide ((1048576 : Int) < zs.length) = true := by simp; omega
    rw [hd] at HB
    go_enter Try.func3, Try.ntmps3
    go_wp2_with fail
    refine HB.out.mono ?_
    rintro e w1 ⟨rfl, hw⟩
    obtain rfl := hw.symm
    clear hw HB
    go_wp2
    go_ret
    exact ⟨rfl, Below.refl _ _⟩
end Go.Proofs.Ytapniafhcagogaa
