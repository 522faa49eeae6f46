/- Two programs: the program's SameProg says whether they are the same. -/
import Derived.Test.YtijpmnenegdmnaaQEqfF
import Derived.Test.YtijpmnenegdmnaaQPgSame
import Derived.Test.YtijpmnenegdmnaaQUfU
namespace Go.Proofs.Ytijpmnenegdmnaa
open Go.RowKit
set_option maxRecDepth 8000
set_option linter.unusedSimpArgs false

theorem Ul.cells {w : World} {B : Nat → Prop} {l : List Ru} {v : Value} (h : Ul w B l v) : Ul w (fun b => B b ∧ ∃ c e f, w.heap[b]? = some (.cells c e f)) l v := by
  obtain ⟨ao, cap, h1, h2, h3, h4, h5⟩ := h
  refine ⟨ao, cap, h1, h2, h3, h4, fun hl => ?_⟩
  obtain ⟨b, off, X, Y, e, hb, hc⟩ := h5 hl
  exact ⟨b, off, X, Y, e, ⟨hb, cells_at (hc 0 (List.length_pos_iff.2 hl)).1.1⟩, fun i h => ⟨(hc i h).1, (hc i h).2.1.cells, (hc i h).2.2.1.cells, (hc i h).2.2.2⟩⟩
theorem Tb.cells {w : World} {B : Nat → Prop} {l : List ByteArray} {v : Value} (h : Tb w B v l) : Tb w (fun b => B b ∧ ∃ c e f, w.heap[b]? = some (.cells c e f)) v l := by
  obtain ⟨ao, cap, h1, h2, h3, h4, h5, h6⟩ := h
  refine ⟨ao, cap, h1, h2, h3, h4, h5, fun hl => ?_⟩
  obtain ⟨b, off, e, hb, hc⟩ := h6 hl
  exact ⟨b, off, e, ⟨hb, cells_at (hc 0 (List.length_pos_iff.2 hl))⟩, hc⟩
theorem Fl.cells {w : World} {B : Nat → Prop} {l : List Fu} {v : Value} (h : Fl w B l v) : Fl w (fun b => B b ∧ ∃ c e f, w.heap[b]? = some (.cells c e f)) l v := by
  obtain ⟨ao, cap, h1, h2, h3, h4, h5⟩ := h
  refine ⟨ao, cap, h1, h2, h3, h4, fun hl => ?_⟩
  obtain ⟨b, off, X, Y, e, hb, hc⟩ := h5 hl
  exact ⟨b, off, X, Y, e, ⟨hb, cells_at (hc 0 (List.length_pos_iff.2 hl)).1.1⟩, fun i h => ⟨(hc i h).1, (hc i h).2.1.cells, (hc i h).2.2.1.cells, (hc i h).2.2.2⟩⟩
theorem ddOf {w w' : World} (hb : Below w.heap.size w w') {n : Nat} (hn : w.heap.size ≤ n) {b : Nat} (hlt : b < w.heap.size) (h : uf w b ∧ ∃ c e f, w.heap[b]? = some (.cells c e f)) : DD w' n b := by
  obtain ⟨hf, c, e, f, hc⟩ := h
  have hh := hb.block b hlt
  exact ⟨by omega, ⟨c, e, f, hh.trans hc⟩, fun o => by rw [World.frozen?_of_block (w := w) (a := ⟨b, o, none⟩) hh]; exact hf o⟩
theorem Ul.toD {w w' : World} {l : List Ru} {v : Value} (h : Ul w (uf w) l v) (hb : Below w.heap.size w w') {n : Nat} (hn : w.heap.size ≤ n) : Ul w' (DD w' n) l v := (h.cells.imp fun _ hq hlt => ddOf hb hn hlt hq).grow hb
theorem Fl.toD {w w' : World} {l : List Fu} {v : Value} (h : Fl w (uf w) l v) (hb : Below w.heap.size w w') {n : Nat} (hn : w.heap.size ≤ n) : Fl w' (DD w' n) l v := (h.cells.imp fun _ hq hlt => ddOf hb hn hlt hq).grow hb

set_option maxHeartbeats 8000000 in
theorem implSameProg_any (a b : Pg) (x0 x1 y0 y1 : Value) (w : World) (hx0 : Ul w (uf w) a.r x0) (hx1 : Fl w (uf w) a.f x1) (hy0 : Ul w (uf w) b.r y0) (hy1 : Fl w (uf w) b.f y1) (hza : a.sz ≤ 68719476736) (hzb : b.sz ≤ 68719476736) :
    Calls Try.prog 12 #[pgV x0 x1, pgV y0 y1] w fun e w' => e = .returned (.bool (sameP a b)) ∧ Below w.heap.size w w' := by
  obtain ⟨xo, xc, rfl, -⟩ := hx0.len
  obtain ⟨xfo, xfc, rfl, -⟩ := hx1.len
  obtain ⟨yo, yc, rfl, -⟩ := hy0.len
  obtain ⟨yfo, yfc, rfl, -⟩ := hy1.len
  have HB2 : Hid (Below w.heap.size w ((w.alloc (.cells #[.slice xo a.r.length xc, .slice xfo a.f.length xfc] 37)).alloc (.cells #[.slice yo b.r.length yc, .slice yfo b.f.length yfc] 37))) := ((Below.refl _ _).alloc (Nat.le_refl _) _).alloc (by simp) _
  have HS2 : Hid (((w.alloc (.cells #[.slice xo a.r.length xc, .slice xfo a.f.length xfc] 37)).alloc (.cells #[.slice yo b.r.length yc, .slice yfo b.f.length yfc] 37)).heap.size = w.heap.size + 1 + 1) := by simp [Hid]
  have HX2 : Hid (((w.alloc (.cells #[.slice xo a.r.length xc, .slice xfo a.f.length xfc] 37)).alloc (.cells #[.slice yo b.r.length yc, .slice yfo b.f.length yfc] 37)).heap[w.heap.size]? = some (.cells #[.slice xo a.r.length xc, .slice xfo a.f.length xfc] 37 (0, 0))) := ((World.grownBy_alloc _ _ none).block _ (by simp) (by simp)).trans (MapKept.heap_alloc w _).1
  have HY2 : Hid (((w.alloc (.cells #[.slice xo a.r.length xc, .slice xfo a.f.length xfc] 37)).alloc (.cells #[.slice yo b.r.length yc, .slice yfo b.f.length yfc] 37)).heap[w.heap.size + 1]? = some (.cells #[.slice yo b.r.length yc, .slice yfo b.f.length yfc] 37 (0, 0))) := by
    unfold Hid
    simpa using (MapKept.heap_alloc (w.alloc (.cells #[.slice xo a.r.length xc, .slice xfo a.f.length xfc] 37)) (.cells #[.slice yo b.r.length yc, .slice yfo b.f.length yfc] 37)).1
  have HX0 := Hid.mk hx0
  have HX1 := Hid.mk hx1
  have HY0 := Hid.mk hy0
  have HY1 := Hid.mk hy1
  have HZA := Hid.mk hza
  have HZB := Hid.mk hzb
  clear hx0 hx1 hy0 hy1 hza hzb
  have HP := Hid.mk (sameP_iff (a := a) (b := b))
  obtain ⟨R, hR⟩ : ∃ R, sameP a b = R := ⟨_, rfl⟩
  rw [hR] at HP
  rw [hR]
  clear hR
  go_enter Try.func12, Try.ntmps12
  go_wp2_with fail
  generalize ((w.alloc (.cells #[.slice xo a.r.length xc, .slice xfo a.f.length xfc] 37)).alloc (.cells #[.slice yo b.r.length yc, .slice yfo b.f.length yfc] 37)) = W2 at *
  obtain ⟨B1, B2, B3, hb3, hs3⟩ := three_alloc W2 (w.heap.size + 1 + 1) HS2.out (.cells #[] 55) (.cells #[] 51) (.cells #[.slice (some ⟨w.heap.size + 1 + 1, 0, none⟩) 0 0] 56)
  have hb6 := World.grownBy_alloc (((W2.alloc (.cells #[] 55)).alloc (.cells #[] 51)).alloc (.cells #[.slice (some ⟨w.heap.size + 1 + 1, 0, none⟩) 0 0] 56)) (.cells #[.slice (some ⟨w.heap.size + 1 + 1 + 1, 0, none⟩) 0 0] 52) none
  have B4 := (MapKept.heap_alloc (((W2.alloc (.cells #[] 55)).alloc (.cells #[] 51)).alloc (.cells #[.slice (some ⟨w.heap.size + 1 + 1, 0, none⟩) 0 0] 56)) (.cells #[.slice (some ⟨w.heap.size + 1 + 1 + 1, 0, none⟩) 0 0] 52)).1
  rw [hs3] at B4
  have D1 := (hb6.block _ (by rw [hs3]; omega) (by simp)).trans B1
  have D2 := (hb6.block _ (by rw [hs3]; omega) (by simp)).trans B2
  have D3 := (hb6.block _ (by rw [hs3]; omega) (by simp)).trans B3
  have hbw : Below w.heap.size w ((((W2.alloc (.cells #[] 55)).alloc (.cells #[] 51)).alloc (.cells #[.slice (some ⟨w.heap.size + 1 + 1, 0, none⟩) 0 0] 56)).alloc (.cells #[.slice (some ⟨w.heap.size + 1 + 1 + 1, 0, none⟩) 0 0] 52)) := (HB2.out.trans (hb3.mono (by omega))).grown hb6 (by rw [hs3]; omega) (by simp)
  have hX6 := (hb6.block w.heap.size (by rw [hs3]; omega) (by simp)).trans ((hb3.block w.heap.size (by omega)).trans HX2.out)
  have hY6 := (hb6.block (w.heap.size + 1) (by rw [hs3]; omega) (by simp)).trans ((hb3.block (w.heap.size + 1) (by omega)).trans HY2.out)
  have hs6 : w.heap.size + 1 + 1 + 1 + 1 + 1 ≤ ((((W2.alloc (.cells #[] 55)).alloc (.cells #[] 51)).alloc (.cells #[.slice (some ⟨w.heap.size + 1 + 1, 0, none⟩) 0 0] 56)).alloc (.cells #[.slice (some ⟨w.heap.size + 1 + 1 + 1, 0, none⟩) 0 0] 52)).heap.size := by have := hb6.size; rw [hs3] at this; exact this
  clear B1 B2 B3 hb3 hs3 hb6 HB2 HS2 HX2 HY2
  generalize ((((W2.alloc (.cells #[] 55)).alloc (.cells #[] 51)).alloc (.cells #[.slice (some ⟨w.heap.size + 1 + 1, 0, none⟩) 0 0] 56)).alloc (.cells #[.slice (some ⟨w.heap.size + 1 + 1 + 1, 0, none⟩) 0 0] 52)) = W6 at *
  have HPS : Hid (PgS (DD W6 w.heap.size) (w.heap.size + 1 + 1) (w.heap.size + 1 + 1 + 1 + 1) (w.heap.size + 1 + 1 + 1 + 1 + 1) [] [] W6) := by
    refine ⟨_, _, DD W6 w.heap.size, DD.dks _ _, fun _ h => h, fun b hb => ?_, D3, B4, ⟨rfl, .inr ⟨_, 0, _, rfl, Nat.le_refl _, D1, Nat.le_refl _, Nat.zero_le _, rfl, rfl⟩⟩, ⟨rfl, .inr ⟨_, 0, _, rfl, by omega, D2, Nat.le_refl _, Nat.zero_le _, rfl, rfl⟩⟩, ⟨?_, ?_, ?_, ?_, ?_⟩, ?_, fun _ h => (by cases h), fun _ h => (by cases h), by omega, by omega⟩
    · have := hb.1
      refine ⟨by omega, by omega, ?_, ?_⟩ <;> (intro e; simp [Value.ownBlock] at e; try omega)
    · intro e; simp [Value.ownBlock] at e; try omega
    · intro e; simp [Value.ownBlock] at e; try omega
    · intro e; simp [Value.ownBlock] at e; try omega
    · intro e; simp [Value.ownBlock] at e; try omega
    · omega
    · intro g hg e
      simp [Value.ownBlock] at hg e
      omega
  have GX0 := Hid.mk (HX0.out.toD hbw (Nat.le_refl _))
  have GX1 := Hid.mk (HX1.out.toD hbw (Nat.le_refl _))
  have GY0 := Hid.mk (HY0.out.toD hbw (Nat.le_refl _))
  have GY1 := Hid.mk (HY1.out.toD hbw (Nat.le_refl _))
  have HW := Hid.mk hbw
  have HX6 := Hid.mk hX6
  have HY6 := Hid.mk hY6
  have hlr := gsz_length Ru.sz a.r
  have hlf := gsz_length Fu.sz a.f
  have hzp : a.sz = gsz Ru.sz a.r + gsz Fu.sz a.f := rfl
  have hzq : b.sz = gsz Ru.sz b.r + gsz Fu.sz b.f := rfl
  have HLN : Hid (a.r.length ≤ 68719476736 ∧ a.f.length ≤ 68719476736 ∧ gsz Ru.sz b.r + gsz Fu.sz b.f ≤ 68719476736) := by
    refine Hid.mk ?_
    have := HZA.out
    have := HZB.out
    omega
  clear hlr hlf hzp hzq HX0 HX1 HY0 HY1 hbw D1 D2 D3 B4 hX6 hY6 HZA HZB
  refine (equalFuncR_any (DD W6 w.heap.size) (w.heap.size + 1 + 1) _ _ [] [] W6 HPS.out a.r b.r _ _ GX0.out GY0.out (by have := HLN.out.1; simp; omega) (by have := HLN.out.1; simp; omega)).mono ?_
  rintro e w1 ⟨r, rfl, hr1, hb1, hk1, hr2⟩
  have HB1 := Hid.mk hb1
  have HR1 := Hid.mk hr1
  have HW1 : Hid (Below w.heap.size w w1) := HW.out.trans (hb1.mono (by omega))
  clear hb1 hr1
  cases r with
  | false =>
    have HF : Hid (R = false) := by
      refine Hid.mk ?_
      cases R with
      | false => rfl
      | true => exact absurd (by rw [HP.out.1 rfl]) (HR1.out rfl)
    clear hk1 hr2
    go_wp2
    go_ret
    have hr := HF.out
    subst hr
    exact ⟨rfl, HW1.out⟩
  | true =>
    obtain ⟨BN, TN, hp1, he1, hz1, hl1, hl2⟩ := hr2 rfl
    have HP1 := Hid.mk hp1
    have HE1 := Hid.mk he1
    have HZ1 := Hid.mk (And.intro hz1 (And.intro hl1 hl2))
    have hD1 : ∀ b', DD W6 w.heap.size b' → b' < W6.heap.size := fun b' hb => by have := hb.1; omega
    have HGX : Hid (Fl w1 (DD W6 w.heap.size) a.f (.slice xfo a.f.length xfc)) := GX1.out.kept fun b' hb _ => hk1 b' hb
    have HGY : Hid (Fl w1 (DD W6 w.heap.size) b.f (.slice yfo b.f.length yfc)) := GY1.out.kept fun b' hb _ => hk1 b' hb
    have cX1 : ∀ o, w1.cell? ⟨w.heap.size, o, none⟩ = #[Value.slice xo a.r.length xc, .slice xfo a.f.length xfc][o]? := fun o => cell_of_row w1 _ o _ _ (0, 0) ((HB1.out.block w.heap.size (by omega)).trans HX6.out)
    have cY1 : ∀ o, w1.cell? ⟨w.heap.size + 1, o, none⟩ = #[Value.slice yo b.r.length yc, .slice yfo b.f.length yfc][o]? := fun o => cell_of_row w1 _ o _ _ (0, 0) ((HB1.out.block (w.heap.size + 1) (by omega)).trans HY6.out)
    clear hp1 he1 hz1 hl1 hl2 hr2 hk1 hD1
    go_wp2_with fail
    refine (equalFuncF_any (DD W6 w.heap.size) (w.heap.size + 1 + 1) _ _ _ _ w1 HP1.out a.f b.f _ _ HGX.out HGY.out (by have := HLN.out; have := HZ1.out; simp; omega) (by have := HLN.out; have := HZ1.out; simp; omega)).mono ?_
    rintro e w2 ⟨r, rfl, hr1, hb2, hk2, hr2⟩
    have HB2 := Hid.mk hb2
    have HR2 := Hid.mk hr1
    have HW2 : Hid (Below w.heap.size w w2) := HW1.out.trans (hb2.mono (by omega))
    clear hb2 hr1 hk2
    cases r with
    | false =>
      have HF : Hid (R = false) := by
        refine Hid.mk ?_
        cases R with
        | false => rfl
        | true => exact absurd (by rw [HP.out.1 rfl]) (HR2.out rfl)
      clear hr2
      go_wp2
      go_ret
      have hr := HF.out
      subst hr
      exact ⟨rfl, HW2.out⟩
    | true =>
      obtain ⟨BM, TM, hp2, he2, hz2, hl3, hl4⟩ := hr2 rfl
      have HE2 := Hid.mk he2
      obtain ⟨vb, tv, D, q1, q2, q3, q4, q5, q6, q7, q8, q9, q10, q11, q12, q13⟩ := hp2
      have cb : w2.cell? ⟨w.heap.size + 1 + 1 + 1 + 1, 0, none⟩ = some vb := by rw [cell_of_row w2 _ 0 _ _ (0, 0) q4]; rfl
      have ct : w2.cell? ⟨w.heap.size + 1 + 1 + 1 + 1 + 1, 0, none⟩ = some tv := by rw [cell_of_row w2 _ 0 _ _ (0, 0) q5]; rfl
      have HC : Hid (Calls Try.prog 21 #[vb, tv] w2 fun e w' => ∃ r, e = .returned (.bool r) ∧ (r = true ↔ Sme ([] ++ BN ++ BM) ∧ Sme ([] ++ TN ++ TM)) ∧ Below (w.heap.size + 1 + 1) w2 w') :=
        sameStmts_any _ _ vb tv w2 (w.heap.size + 1 + 1) D q6 q7 q1 (fun b' hb => ⟨(q3 b' hb).2.2.1, (q3 b' hb).2.2.2⟩) q9 q10 q11 (by
          have h1 := HZ1.out
          have h2 := HLN.out
          rw [List.nil_append, List.nil_append, my_append, mx_append]
          omega) (by have := (Array.getElem?_eq_some_iff.1 q4).1; omega)
      have HFIN : Hid ((Sme ([] ++ BN ++ BM) ∧ Sme ([] ++ TN ++ TM)) ↔ a = b) := by
        refine Hid.mk ?_
        rw [List.nil_append, List.nil_append, Sme.app, Sme.app]
        constructor
        · rintro ⟨⟨h1, h2⟩, h3, h4⟩
          have e1 := HE1.out.2 ⟨h1, h3⟩
          have e2 := HE2.out.2 ⟨h2, h4⟩
          cases a
          cases b
          simp at e1 e2
          rw [e1, e2]
        · rintro rfl
          have e1 := HE1.out.1 rfl
          have e2 := HE2.out.1 rfl
          exact ⟨⟨e1.1, e2.1⟩, e1.2, e2.2⟩
      obtain ⟨vbo, vbc, evb⟩ := q6.len
      obtain ⟨tvo, tvc, etv⟩ := q7.len
      obtain ⟨nv, hnv⟩ : ∃ n, ([] ++ BN ++ BM : List (Prr St)).length = n := ⟨_, rfl⟩
      obtain ⟨nt, hnt⟩ : ∃ n, ([] ++ TN ++ TM : List (Prr Ex)).length = n := ⟨_, rfl⟩
      rw [hnv] at evb
      rw [hnt] at etv
      clear hnv hnt q1 q2 q3 q4 q5 q6 q7 q8 q9 q10 q11 q12 q13 hz2 hl3 hl4 hr2 he2 cX1 cY1
      subst evb
      subst etv
      go_wp2_with fail
      refine HC.out.mono ?_
      rintro e w3 ⟨r, rfl, hr3, hb3⟩
      have HR3 := Hid.mk hr3
      have HW3 : Hid (Below w.heap.size w w3) := HW2.out.trans (hb3.mono (by omega))
      have HRR : Hid (r = R) := by
        refine Hid.mk ?_
        have h1 := hr3.trans HFIN.out
        rw [← HP.out] at h1
        cases r <;> cases R <;> simp_all
      clear hr3 hb3 cb ct
      go_wp2
      go_ret
      have hr := HRR.out
      subst hr
      exact ⟨rfl, HW3.out⟩
end Go.Proofs.Ytijpmnenegdmnaa
