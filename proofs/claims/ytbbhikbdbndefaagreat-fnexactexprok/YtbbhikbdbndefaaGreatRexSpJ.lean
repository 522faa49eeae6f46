/- The model's reader: one with its mark. -/
import Derived.Test.YtbbhikbdbndefaaGreatRexSpI
namespace Go.Proofs.YtbbhikbdbndefaaGreat
open Go.RowKit
set_option maxRecDepth 8000

theorem next_mark (s : ByteArray) (p : Nat) : (nextIs s p 42 = true ∨ nextIs s p 43 = true ∨ nextIs s p 63 = true) ∨ (nextIs s p 42 = false ∧ nextIs s p 43 = false ∧ nextIs s p 63 = false) := by
  cases nextIs s p 42 <;> cases nextIs s p 43 <;> cases nextIs s p 63 <;> simp
theorem next_one (s : ByteArray) (p : Nat) (a b : Int) (hab : a ≠ b) (h : nextIs s p a = true) : nextIs s p b = false := by
  have hlt := nextIs_lt h
  rw [nextIs_at hlt] at h ⊢
  have e : ((s[p].toNat : Nat) : Int) = a := by simpa using h
  rw [e]
  exact beq_eq_false_iff_ne.2 hab

set_option maxHeartbeats 2000000 in
theorem item_of (n : Nat) (d : Int) (hd : d ≤ 9) (hc : SpC 99 (rdAtom (rd n)) d) : SpC 94 (rdItem (rd n)) d := by
  intro s R p w h hp hs
  obtain ⟨h0, hne, hb0, hg0⟩ := pre_boxS h
  have H0 := Hid.mk h0
  have HB0 := Hid.mk hb0
  have HG0 := Hid.mk hg0
  have hRl := h.lt
  have HC := Hid.mk (hc s R p _ h0 hp hs)
  clear h h0 hb0 hg0 hc
  go_enter Tryz.func94, Tryz.ntmps94
  go_wp2_with fail
  refine HC.out.mono ?_
  rintro e w1 ⟨hg1, t, u, p1, rfl, hsz, how, hp1, hp2, hcase⟩
  obtain ⟨au, cu, rfl⟩ := how.value
  have hbw : Below w1.heap.size w1 (w1.alloc (.cells #[.int .i64 t.k, .string t.s, .slice au t.l.length cu] 128)) := (Below.refl _ _).alloc (Nat.le_refl _) _
  have hs1 : w.heap.size + 1 ≤ w1.heap.size := by have := hg1.size; simpa using this
  have HB1 := Hid.mk ((HB0.out.gb hg1 hne).kept (hbw.block _ (HB0.out.gb hg1 hne).lt))
  have HG1 := Hid.mk (gb_below (gb_trans HG0.out hg1) hbw)
  have HX1 := Hid.mk (Bx3.new w1 (.int .i64 t.k) (.string t.s) (.slice au t.l.length cu))
  have HO1 := Hid.mk ((how.grow hbw).mono (C := newFrom (w.heap.size + 1)) (fun b hb => by unfold newFrom at *; simpa using hb))
  have HSZ := Hid.mk hsz
  have hxne : w1.heap.size ≠ R := by omega
  obtain ⟨bad, pc, d1, HS1, hpc, hcs⟩ : ∃ (bad : Bool) (pc : Prop) (d1 : Int), Hid (Sds (w1.alloc (.cells #[.int .i64 t.k, .string t.s, .slice au t.l.length cu] 128)) R s p1 bad d1) ∧ (d ≤ d1 ∧ d1 ≤ 9) ∧
      Hid ((bad = true ∧ rdItem (rd n) ((txt s).drop p) = none) ∨ (bad = false ∧ d1 = d ∧ p < p1 ∧ rdItem (rd n) ((txt s).drop p) = some (rdMark t ((txt s).drop p1)))) := by
    rcases hcase with ⟨hr0, d', hsd, e1, e2⟩ | ⟨hrd, hpp, hsd⟩
    · exact ⟨true, True, d', hsd.grow hbw, ⟨e1, e2⟩, Or.inl ⟨rfl, by rw [rdItem, hr0]⟩⟩
    · exact ⟨false, True, d, hsd.grow hbw, ⟨by omega, hd⟩, Or.inr ⟨rfl, rfl, hpp, by rw [rdItem, hrd]⟩⟩
  obtain ⟨tk, htk⟩ : ∃ tk, t.k = tk := ⟨_, rfl⟩
  obtain ⟨ts, hts⟩ : ∃ ts, t.s = ts := ⟨_, rfl⟩
  rw [htk, hts] at HB1 HG1 HX1 HO1 HS1
  rw [htk, hts]
  clear HC hg1 hsz how hbw H0 HB0 HG0 hcase pc
  by_cases hno : ∀ c : Int, (c = 42 ∨ c = 43 ∨ c = 63) → (!bad && nextIs s p1 c) = false
  · have HY0 : Hid ((!bad && nextIs s p1 42) = false) := hno 42 (by omega)
    have HY1 : Hid ((!bad && nextIs s p1 43) = false) := hno 43 (by omega)
    have HY2 : Hid ((!bad && nextIs s p1 63) = false) := hno 63 (by omega)
    have HM : Hid (bad = false → rdMark t ((txt s).drop p1) = (t, (txt s).drop p1)) := by
      intro hb
      apply mark_none
      intro k hk
      have := hno (markAt k) (by unfold markAt; split; omega; split <;> omega)
      rw [hb] at this
      simpa using this
    clear hno
    go_wp2_with fail
    refine (l3Is_any s R p1 bad d1 42 _ HS1.out hp2 hs false HY0.out).mono ?_
    rintro e w2 ⟨rfl, hg, hr, hz⟩
    have HB2 := Hid.mk (HB1.out.gb hg hne)
    have HG2 := Hid.mk (gb_trans HG1.out hg)
    have HX2 := Hid.mk (HX1.out.gb hg hxne)
    have HO2 := Hid.mk (HO1.out.gb hg (by unfold newFrom; omega))
    have HS2 : Hid (Sds w2 R s p1 bad d1) := hr
    have hz2 : w.heap.size + 1 ≤ w2.heap.size := by have := HX2.out.lt; omega
    clear hg hr hz HB1 HG1 HS1 HX1 HO1
    go_wp2_with fail
    refine (l3Is_any s R p1 bad d1 43 _ HS2.out hp2 hs false HY1.out).mono ?_
    rintro e w3 ⟨rfl, hg, hr, hz⟩
    have HB3 := Hid.mk (HB2.out.gb hg hne)
    have HG3 := Hid.mk (gb_trans HG2.out hg)
    have HX3 := Hid.mk (HX2.out.gb hg hxne)
    have HO3 := Hid.mk (HO2.out.gb hg (by unfold newFrom; omega))
    have HS3 : Hid (Sds w3 R s p1 bad d1) := hr
    have hz3 : w.heap.size + 1 ≤ w3.heap.size := by have := HX3.out.lt; omega
    clear hg hr hz HB2 HG2 HS2 HX2 HO2
    go_wp2_with fail
    refine (l3Is_any s R p1 bad d1 63 _ HS3.out hp2 hs false HY2.out).mono ?_
    rintro e w4 ⟨rfl, hg, hr, hz⟩
    have HB4 := Hid.mk (HB3.out.gb hg hne)
    have HG4 := Hid.mk (gb_trans HG3.out hg)
    have HX4 := Hid.mk (HX3.out.gb hg hxne)
    have HO4 := Hid.mk (HO3.out.gb hg (by unfold newFrom; omega))
    have HS4 : Hid (Sds w4 R s p1 bad d1) := hr
    have hz4 : w.heap.size + 1 ≤ w4.heap.size := by have := HX4.out.lt; omega
    clear hg hr hz HB3 HG3 HS3 HX3 HO3
    have x0 := HX4.out.c0
    have x1 := HX4.out.c1
    have x2 := HX4.out.c2
    have c0 := HB4.out.c0
    have c1 := HB4.out.c1
    have c2 := HB4.out.c2
    have f0 := HB4.out.fr
    go_wp2
    have hput := HB4.out.put (.int .i64 tk) (.string ts) (.slice au t.l.length cu)
    have hgp := gb_set3 HG4.out (Nat.le_refl _) (.int .i64 tk) (.string ts) (.slice au t.l.length cu)
    have hrp := HS4.out.set3 (Ne.symm hne) (.int .i64 tk) (.string ts) (.slice au t.l.length cu)
    have hop := HO4.out.set3 (b := w.heap.size) (by unfold newFrom; omega) (.int .i64 tk) (.string ts) (.slice au t.l.length cu)
    unfold set3 at hput hgp hrp hop
    generalize ((w4.setCell ⟨w.heap.size, 0, none⟩ (.int .i64 tk)).setCell ⟨w.heap.size, 1, none⟩ (.string ts)).setCell ⟨w.heap.size, 2, none⟩ (.slice au t.l.length cu) = W at hput hgp hrp hop ⊢
    have r0 := hput.c0
    have r1 := hput.c1
    have r2 := hput.c2
    refine bodyPost_ret (v := .agg #[.int .i64 tk, .string ts, .slice au t.l.length cu]) ?_ rfl ⟨hgp, t, _, p1, by rw [htk, hts], HSZ.out, hop.mono (fun b hb => by unfold newFrom at *; omega), by omega, by omega, ?_⟩
    · simp [results, Tryz.results94, go_sem, r0, r1, r2]
    · rcases hcs.out with ⟨hb, he⟩ | ⟨hb, hd1, hpp, he⟩
      · exact Or.inl ⟨he, d1, by rw [hb] at hrp; exact hrp, hpc.1, hpc.2⟩
      · exact Or.inr ⟨by rw [he, HM.out hb], hpp, by rw [hb, hd1] at hrp; exact hrp⟩
  have hbf : bad = false := by
    cases bad with
    | false => rfl
    | true => exact absurd (fun c _ => rfl) hno
  have hmk : ∃ k : Nat, k < 3 ∧ nextIs s p1 (markAt k) = true := by
    apply Decidable.byContradiction
    intro hh
    apply hno
    intro c hc
    rw [hbf]
    cases hx : nextIs s p1 c with
    | false => rfl
    | true =>
      exfalso
      apply hh
      rcases hc with rfl | rfl | rfl
      · exact ⟨0, by omega, hx⟩
      · exact ⟨1, by omega, hx⟩
      · exact ⟨2, by omega, hx⟩
  subst hbf
  clear hno
  obtain ⟨hd1, hpp, HIT⟩ : d1 = d ∧ p < p1 ∧ Hid (rdItem (rd n) ((txt s).drop p) = some (rdMark t ((txt s).drop p1))) := by
    rcases hcs.out with ⟨hb, _⟩ | ⟨_, a, b, c⟩
    · cases hb
    · exact ⟨a, b, c⟩
  obtain ⟨k, hk, hyes⟩ := hmk
  by_cases hk0 : k = 0
  · subst hk0
    have hyes' : nextIs s p1 42 = true := hyes
    have hlt1 := nextIs_lt hyes'
    have HM := Hid.mk (mark_yes s p1 t 0 (by omega) hyes)
    have HE2 : Hid (rdItem (rd n) ((txt s).drop p) = some (rep 6 t, (txt s).drop (p1 + 1))) := by show _ = _; rw [HIT.out, HM.out]; rfl
    have HY0 : Hid ((!false && nextIs s p1 42) = true) := by show _ = _; rw [hyes']; rfl
    clear HM HIT hyes hyes'
    go_wp2_with fail
    refine (l3Is_any s R p1 false d1 42 _ HS1.out hp2 hs true HY0.out).mono ?_
    rintro e w2 ⟨rfl, hg, hr, hz⟩
    have HB2 := Hid.mk (HB1.out.gb hg hne)
    have HG2 := Hid.mk (gb_trans HG1.out hg)
    have HX2 := Hid.mk (HX1.out.gb hg hxne)
    have HO2 := Hid.mk (HO1.out.gb hg (by unfold newFrom; omega))
    have HS2 : Hid (Sds w2 R s (p1 + 1) false d1) := hr
    have hz2 : w.heap.size + 1 ≤ w2.heap.size := by have := HX2.out.lt; omega
    clear hg hr hz HB1 HG1 HS1 HX1 HO1
    have x0 := HX2.out.c0
    have x1 := HX2.out.c1
    have x2 := HX2.out.c2
    have hbw3 : Below w2.heap.size w2 (w2.alloc (.cells #[.int .i64 tk, .string ts, .slice au t.l.length cu] 128)) := (Below.refl _ _).alloc (Nat.le_refl _) _
    have HO9 : Hid (Ow (w2.alloc (.cells #[.int .i64 tk, .string ts, .slice au t.l.length cu] 128)) (newFrom (w.heap.size + 1)) [t] (.slice (some ⟨w2.heap.size, 0, none⟩) 1 1)) := by
      have := Ow.one (t := t) HO2.out HSZ.out (C := newFrom (w.heap.size + 1)) (fun b hb _ => hb) (by unfold newFrom; omega)
      rw [htk, hts] at this
      exact this
    have HB9 := Hid.mk (HB2.out.kept (hbw3.block _ HB2.out.lt))
    have HG9 := Hid.mk (gb_below HG2.out hbw3)
    have HS9 := Hid.mk (HS2.out.grow hbw3)
    clear HB2 HG2 HS2 HO2
    have c0 := HB9.out.c0
    have c1 := HB9.out.c1
    have c2 := HB9.out.c2
    have f0 := HB9.out.fr
    go_wp2
    have hput := HB9.out.put (.int .i64 6) (.string ⟨#[]⟩) (.slice (some ⟨w2.heap.size, 0, none⟩) 1 1)
    have hgp := gb_set3 HG9.out (Nat.le_refl _) (.int .i64 6) (.string ⟨#[]⟩) (.slice (some ⟨w2.heap.size, 0, none⟩) 1 1)
    have hrp := HS9.out.set3 (Ne.symm hne) (.int .i64 6) (.string ⟨#[]⟩) (.slice (some ⟨w2.heap.size, 0, none⟩) 1 1)
    have hop := HO9.out.set3 (b := w.heap.size) (by unfold newFrom; omega) (.int .i64 6) (.string ⟨#[]⟩) (.slice (some ⟨w2.heap.size, 0, none⟩) 1 1)
    unfold set3 at hput hgp hrp hop
    generalize (((w2.alloc (.cells #[.int .i64 tk, .string ts, .slice au t.l.length cu] 128)).setCell ⟨w.heap.size, 0, none⟩ (.int .i64 6)).setCell ⟨w.heap.size, 1, none⟩ (.string ⟨#[]⟩)).setCell ⟨w.heap.size, 2, none⟩ (.slice (some ⟨w2.heap.size, 0, none⟩) 1 1) = W at hput hgp hrp hop ⊢
    have r0 := hput.c0
    have r1 := hput.c1
    have r2 := hput.c2
    refine bodyPost_ret (v := .agg #[.int .i64 6, .string ⟨#[]⟩, .slice (some ⟨w2.heap.size, 0, none⟩) 1 1]) ?_ rfl ⟨hgp, rep 6 t, _, p1 + 1, rfl, (by show (⟨#[]⟩ : ByteArray).size ≤ maxLen; decide), hop.mono (fun b hb => by unfold newFrom at *; omega), by omega, by omega, Or.inr ⟨HE2.out, by omega, by rw [hd1] at hrp; exact hrp⟩⟩
    simp [results, Tryz.results94, go_sem, r0, r1, r2]
  by_cases hk1 : k = 1
  · subst hk1
    have hyes' : nextIs s p1 43 = true := hyes
    have hlt1 := nextIs_lt hyes'
    have HM := Hid.mk (mark_yes s p1 t 1 (by omega) hyes)
    have HE2 : Hid (rdItem (rd n) ((txt s).drop p) = some (rep 7 t, (txt s).drop (p1 + 1))) := by show _ = _; rw [HIT.out, HM.out]; rfl
    have HY0 : Hid ((!false && nextIs s p1 42) = false) := by show _ = _; rw [next_one s p1 43 42 (by omega) hyes']; rfl
    have HY1 : Hid ((!false && nextIs s p1 43) = true) := by show _ = _; rw [hyes']; rfl
    clear HM HIT hyes hyes'
    go_wp2_with fail
    refine (l3Is_any s R p1 false d1 42 _ HS1.out hp2 hs false HY0.out).mono ?_
    rintro e w2 ⟨rfl, hg, hr, hz⟩
    have HB2 := Hid.mk (HB1.out.gb hg hne)
    have HG2 := Hid.mk (gb_trans HG1.out hg)
    have HX2 := Hid.mk (HX1.out.gb hg hxne)
    have HO2 := Hid.mk (HO1.out.gb hg (by unfold newFrom; omega))
    have HS2 : Hid (Sds w2 R s p1 false d1) := hr
    have hz2 : w.heap.size + 1 ≤ w2.heap.size := by have := HX2.out.lt; omega
    clear hg hr hz HB1 HG1 HS1 HX1 HO1
    go_wp2_with fail
    refine (l3Is_any s R p1 false d1 43 _ HS2.out hp2 hs true HY1.out).mono ?_
    rintro e w3 ⟨rfl, hg, hr, hz⟩
    have HB3 := Hid.mk (HB2.out.gb hg hne)
    have HG3 := Hid.mk (gb_trans HG2.out hg)
    have HX3 := Hid.mk (HX2.out.gb hg hxne)
    have HO3 := Hid.mk (HO2.out.gb hg (by unfold newFrom; omega))
    have HS3 : Hid (Sds w3 R s (p1 + 1) false d1) := hr
    have hz3 : w.heap.size + 1 ≤ w3.heap.size := by have := HX3.out.lt; omega
    clear hg hr hz HB2 HG2 HS2 HX2 HO2
    have x0 := HX3.out.c0
    have x1 := HX3.out.c1
    have x2 := HX3.out.c2
    have hbw3 : Below w3.heap.size w3 (w3.alloc (.cells #[.int .i64 tk, .string ts, .slice au t.l.length cu] 128)) := (Below.refl _ _).alloc (Nat.le_refl _) _
    have HO9 : Hid (Ow (w3.alloc (.cells #[.int .i64 tk, .string ts, .slice au t.l.length cu] 128)) (newFrom (w.heap.size + 1)) [t] (.slice (some ⟨w3.heap.size, 0, none⟩) 1 1)) := by
      have := Ow.one (t := t) HO3.out HSZ.out (C := newFrom (w.heap.size + 1)) (fun b hb _ => hb) (by unfold newFrom; omega)
      rw [htk, hts] at this
      exact this
    have HB9 := Hid.mk (HB3.out.kept (hbw3.block _ HB3.out.lt))
    have HG9 := Hid.mk (gb_below HG3.out hbw3)
    have HS9 := Hid.mk (HS3.out.grow hbw3)
    clear HB3 HG3 HS3 HO3
    have c0 := HB9.out.c0
    have c1 := HB9.out.c1
    have c2 := HB9.out.c2
    have f0 := HB9.out.fr
    go_wp2
    have hput := HB9.out.put (.int .i64 7) (.string ⟨#[]⟩) (.slice (some ⟨w3.heap.size, 0, none⟩) 1 1)
    have hgp := gb_set3 HG9.out (Nat.le_refl _) (.int .i64 7) (.string ⟨#[]⟩) (.slice (some ⟨w3.heap.size, 0, none⟩) 1 1)
    have hrp := HS9.out.set3 (Ne.symm hne) (.int .i64 7) (.string ⟨#[]⟩) (.slice (some ⟨w3.heap.size, 0, none⟩) 1 1)
    have hop := HO9.out.set3 (b := w.heap.size) (by unfold newFrom; omega) (.int .i64 7) (.string ⟨#[]⟩) (.slice (some ⟨w3.heap.size, 0, none⟩) 1 1)
    unfold set3 at hput hgp hrp hop
    generalize (((w3.alloc (.cells #[.int .i64 tk, .string ts, .slice au t.l.length cu] 128)).setCell ⟨w.heap.size, 0, none⟩ (.int .i64 7)).setCell ⟨w.heap.size, 1, none⟩ (.string ⟨#[]⟩)).setCell ⟨w.heap.size, 2, none⟩ (.slice (some ⟨w3.heap.size, 0, none⟩) 1 1) = W at hput hgp hrp hop ⊢
    have r0 := hput.c0
    have r1 := hput.c1
    have r2 := hput.c2
    refine bodyPost_ret (v := .agg #[.int .i64 7, .string ⟨#[]⟩, .slice (some ⟨w3.heap.size, 0, none⟩) 1 1]) ?_ rfl ⟨hgp, rep 7 t, _, p1 + 1, rfl, (by show (⟨#[]⟩ : ByteArray).size ≤ maxLen; decide), hop.mono (fun b hb => by unfold newFrom at *; omega), by omega, by omega, Or.inr ⟨HE2.out, by omega, by rw [hd1] at hrp; exact hrp⟩⟩
    simp [results, Tryz.results94, go_sem, r0, r1, r2]
  by_cases hk2 : k = 2
  · subst hk2
    have hyes' : nextIs s p1 63 = true := hyes
    have hlt1 := nextIs_lt hyes'
    have HM := Hid.mk (mark_yes s p1 t 2 (by omega) hyes)
    have HE2 : Hid (rdItem (rd n) ((txt s).drop p) = some (rep 8 t, (txt s).drop (p1 + 1))) := by show _ = _; rw [HIT.out, HM.out]; rfl
    have HY0 : Hid ((!false && nextIs s p1 42) = false) := by show _ = _; rw [next_one s p1 63 42 (by omega) hyes']; rfl
    have HY1 : Hid ((!false && nextIs s p1 43) = false) := by show _ = _; rw [next_one s p1 63 43 (by omega) hyes']; rfl
    have HY2 : Hid ((!false && nextIs s p1 63) = true) := by show _ = _; rw [hyes']; rfl
    clear HM HIT hyes hyes'
    go_wp2_with fail
    refine (l3Is_any s R p1 false d1 42 _ HS1.out hp2 hs false HY0.out).mono ?_
    rintro e w2 ⟨rfl, hg, hr, hz⟩
    have HB2 := Hid.mk (HB1.out.gb hg hne)
    have HG2 := Hid.mk (gb_trans HG1.out hg)
    have HX2 := Hid.mk (HX1.out.gb hg hxne)
    have HO2 := Hid.mk (HO1.out.gb hg (by unfold newFrom; omega))
    have HS2 : Hid (Sds w2 R s p1 false d1) := hr
    have hz2 : w.heap.size + 1 ≤ w2.heap.size := by have := HX2.out.lt; omega
    clear hg hr hz HB1 HG1 HS1 HX1 HO1
    go_wp2_with fail
    refine (l3Is_any s R p1 false d1 43 _ HS2.out hp2 hs false HY1.out).mono ?_
    rintro e w3 ⟨rfl, hg, hr, hz⟩
    have HB3 := Hid.mk (HB2.out.gb hg hne)
    have HG3 := Hid.mk (gb_trans HG2.out hg)
    have HX3 := Hid.mk (HX2.out.gb hg hxne)
    have HO3 := Hid.mk (HO2.out.gb hg (by unfold newFrom; omega))
    have HS3 : Hid (Sds w3 R s p1 false d1) := hr
    have hz3 : w.heap.size + 1 ≤ w3.heap.size := by have := HX3.out.lt; omega
    clear hg hr hz HB2 HG2 HS2 HX2 HO2
    go_wp2_with fail
    refine (l3Is_any s R p1 false d1 63 _ HS3.out hp2 hs true HY2.out).mono ?_
    rintro e w4 ⟨rfl, hg, hr, hz⟩
    have HB4 := Hid.mk (HB3.out.gb hg hne)
    have HG4 := Hid.mk (gb_trans HG3.out hg)
    have HX4 := Hid.mk (HX3.out.gb hg hxne)
    have HO4 := Hid.mk (HO3.out.gb hg (by unfold newFrom; omega))
    have HS4 : Hid (Sds w4 R s (p1 + 1) false d1) := hr
    have hz4 : w.heap.size + 1 ≤ w4.heap.size := by have := HX4.out.lt; omega
    clear hg hr hz HB3 HG3 HS3 HX3 HO3
    have x0 := HX4.out.c0
    have x1 := HX4.out.c1
    have x2 := HX4.out.c2
    have hbw3 : Below w4.heap.size w4 (w4.alloc (.cells #[.int .i64 tk, .string ts, .slice au t.l.length cu] 128)) := (Below.refl _ _).alloc (Nat.le_refl _) _
    have HO9 : Hid (Ow (w4.alloc (.cells #[.int .i64 tk, .string ts, .slice au t.l.length cu] 128)) (newFrom (w.heap.size + 1)) [t] (.slice (some ⟨w4.heap.size, 0, none⟩) 1 1)) := by
      have := Ow.one (t := t) HO4.out HSZ.out (C := newFrom (w.heap.size + 1)) (fun b hb _ => hb) (by unfold newFrom; omega)
      rw [htk, hts] at this
      exact this
    have HB9 := Hid.mk (HB4.out.kept (hbw3.block _ HB4.out.lt))
    have HG9 := Hid.mk (gb_below HG4.out hbw3)
    have HS9 := Hid.mk (HS4.out.grow hbw3)
    clear HB4 HG4 HS4 HO4
    have c0 := HB9.out.c0
    have c1 := HB9.out.c1
    have c2 := HB9.out.c2
    have f0 := HB9.out.fr
    go_wp2
    have hput := HB9.out.put (.int .i64 8) (.string ⟨#[]⟩) (.slice (some ⟨w4.heap.size, 0, none⟩) 1 1)
    have hgp := gb_set3 HG9.out (Nat.le_refl _) (.int .i64 8) (.string ⟨#[]⟩) (.slice (some ⟨w4.heap.size, 0, none⟩) 1 1)
    have hrp := HS9.out.set3 (Ne.symm hne) (.int .i64 8) (.string ⟨#[]⟩) (.slice (some ⟨w4.heap.size, 0, none⟩) 1 1)
    have hop := HO9.out.set3 (b := w.heap.size) (by unfold newFrom; omega) (.int .i64 8) (.string ⟨#[]⟩) (.slice (some ⟨w4.heap.size, 0, none⟩) 1 1)
    unfold set3 at hput hgp hrp hop
    generalize (((w4.alloc (.cells #[.int .i64 tk, .string ts, .slice au t.l.length cu] 128)).setCell ⟨w.heap.size, 0, none⟩ (.int .i64 8)).setCell ⟨w.heap.size, 1, none⟩ (.string ⟨#[]⟩)).setCell ⟨w.heap.size, 2, none⟩ (.slice (some ⟨w4.heap.size, 0, none⟩) 1 1) = W at hput hgp hrp hop ⊢
    have r0 := hput.c0
    have r1 := hput.c1
    have r2 := hput.c2
    refine bodyPost_ret (v := .agg #[.int .i64 8, .string ⟨#[]⟩, .slice (some ⟨w4.heap.size, 0, none⟩) 1 1]) ?_ rfl ⟨hgp, rep 8 t, _, p1 + 1, rfl, (by show (⟨#[]⟩ : ByteArray).size ≤ maxLen; decide), hop.mono (fun b hb => by unfold newFrom at *; omega), by omega, by omega, Or.inr ⟨HE2.out, by omega, by rw [hd1] at hrp; exact hrp⟩⟩
    simp [results, Tryz.results94, go_sem, r0, r1, r2]
  omega
end Go.Proofs.YtbbhikbdbndefaaGreat
