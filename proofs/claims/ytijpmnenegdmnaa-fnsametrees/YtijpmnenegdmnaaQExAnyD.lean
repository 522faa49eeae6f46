/- A drawn term, bent or not: l8Any. -/
import Derived.Test.YtijpmnenegdmnaaQRun1
namespace Go.Proofs.Ytijpmnenegdmnaa
open Go.RowKit
set_option maxRecDepth 8000
set_option linter.unusedSimpArgs false

theorem DxS.re {m : Nat} {k n : Int} {s : ByteArray} {t : Ex} (h : DxS m t) (hs : s.size ≤ 100) : DxS (m + 1) (.node k n s t.l) := by
  refine ⟨fun x hx => ?_, ?_⟩
  · cases hx with
    | self => exact hs
    | sub hm hx => exact h.1 x (.sub hm hx)
  · have h1 := h.2
    have h2 := t.sz_eq
    have h3 : 1 ≤ 5 ^ m := Nat.one_le_pow _ _ (by omega)
    rw [Ex.sz, Nat.pow_succ]
    omega
theorem Bz4.put0 {w : World} {b : Nat} {x y z u : Value} (h : Bz4 w b x y z u) (x' : Value) : Bz4 (w.setCell ⟨b, 0, none⟩ x') b x' y z u := by
  unfold Bz4 at *
  have hlt := (Array.getElem?_eq_some_iff.1 h).1
  have h' : w.heap[b] = .cells #[x, y, z, u] 26 (0, 0) := by simpa [Array.getElem?_eq_getElem hlt] using h
  show (w.heap.modify b _)[b]? = _
  rw [Array.getElem?_eq_getElem (by simpa using hlt), Array.getElem_modify_self, h']
  rfl
theorem Bz4.put1 {w : World} {b : Nat} {x y z u : Value} (h : Bz4 w b x y z u) (y' : Value) : Bz4 (w.setCell ⟨b, 1, none⟩ y') b x y' z u := by
  unfold Bz4 at *
  have hlt := (Array.getElem?_eq_some_iff.1 h).1
  have h' : w.heap[b] = .cells #[x, y, z, u] 26 (0, 0) := by simpa [Array.getElem?_eq_getElem hlt] using h
  show (w.heap.modify b _)[b]? = _
  rw [Array.getElem?_eq_getElem (by simpa using hlt), Array.getElem_modify_self, h']
  rfl
/-- One negation more. -/
theorem neg_sh {t : Ex} {c : Nat} (h : (∀ x, InX x t → x.s.size ≤ 100) ∧ t.sz ≤ c) : (∀ x, InX x (.node 8 0 ⟨#[]⟩ [t]) → x.s.size ≤ 100) ∧ (Ex.node 8 0 ⟨#[]⟩ [t]).sz ≤ c + 1 := by
  refine ⟨fun x hx => ?_, ?_⟩
  · cases hx with
    | self => exact (by decide : (⟨#[]⟩ : ByteArray).size ≤ 100)
    | sub hm hx =>
      obtain rfl := List.mem_singleton.1 hm
      exact h.1 x hx
  · have := h.2
    simp only [Ex.sz, szx, show (⟨#[]⟩ : ByteArray).size = 0 from rfl]
    omega

/-- A list of terms in new blocks, none of them the box eb. -/
def ElO (w : World) (n eb : Nat) (l : List Ex) (v : Value) : Prop := El w (fun b => nf w n b ∧ some b ≠ some eb) l v
theorem ElO.by {w w' : World} {n eb R : Nat} {l : List Ex} {v : Value} (h : ElO w n eb l v) (hg : w.grownBy w' (some R)) (hR : R < n) : ElO w' n eb l v := El.nfOwn h fun b hb hn hlt => ⟨hg.block b hlt (by have := hb.1; intro e; simp at e; omega), hn⟩
theorem ElO.grow {w w' : World} {n eb : Nat} {l : List Ex} {v : Value} (h : ElO w n eb l v) (hg : Below w.heap.size w w') : ElO w' n eb l v := El.nfOwn h fun b _ hn hlt => ⟨hg.block b hlt, hn⟩
theorem ElO.set {w w' : World} {n eb : Nat} {l : List Ex} {v : Value} (h : ElO w n eb l v) (hg : w.grownBy w' (some eb)) : ElO w' n eb l v := El.nfOwn h fun b _ hn hlt => ⟨hg.block b hlt hn, hn⟩
theorem ElO.el {w : World} {n eb : Nat} {l : List Ex} {v : Value} (h : ElO w n eb l v) : El w (nf w n) l v := El.imp h fun _ hb _ => hb.1

theorem El.aloneD {w : World} {D : Nat → Prop} {a : Ex} {x : Value} {g : Nat} (hg : w.heap[g]? = some (.cells #[.int .i64 a.k, .int .i64 a.n, .string a.s, x] 26 (0, 0))) (hD : D g) (hs : a.s.size ≤ maxLen) (hx : El w D a.l x) : El w D [a] (.slice (some ⟨g, 0, none⟩) 1 1) := by
  have := El.full (w := w) (B := D) [a] g 0 1 (fun _ => x) hD (by simp) (by simp) (by unfold maxLen; omega) (fun i h => by
      have h0 : i = 0 := by simpa using h
      subst h0
      exact hs)
    (fun i h => by
      have h0 : i = 0 := by simpa using h
      subst h0
      exact ⟨by rw [cell_of_row w _ _ _ _ (0, 0) hg]; rfl, by rw [cell_of_row w _ _ _ _ (0, 0) hg]; rfl, by rw [cell_of_row w _ _ _ _ (0, 0) hg]; rfl, by rw [cell_of_row w _ _ _ _ (0, 0) hg]; rfl⟩)
    (fun i h => by
      have h0 : i = 0 := by simpa using h
      subst h0
      exact hx)
  exact this
theorem Bz4.four {w : World} {b : Nat} {x y z u : Value} (h : Bz4 w b x y z u) (x' y' z' u' : Value) : Bz4 (set4 w b x' y' z' u') b x' y' z' u' := (((h.put0 x').put1 y').put2 z').put3 u'

def AnyX : Prop := ∀ (cb : Nat) (v : Value) (zs : List Int) (w : World), Cur w cb v zs →
  Calls Try.prog 15 #[.pointer (some ⟨cb, 0, none⟩)] w fun e w' => ∃ t u, e = .returned (xx t.k t.n t.s u) ∧ DxS 4 t ∧ El w' (nf w' (w.heap.size + 1)) t.l u ∧ Cur w' cb v zs ∧ w.grownBy w' (some cb)

set_option maxHeartbeats 8000000 in
theorem l8Any_any : AnyX := by
  intro cb v zs w h
  have hlt := h.lt
  have HNE : Hid (w.heap.size ≠ cb) := by show _ ≠ _; omega
  have HV : Hid (zs ≠ [] → ∀ k, v.ownBlock = some k → k < w.heap.size) := fun hz k hk => h.1.lt hz k hk
  have HC0 := Hid.mk (h.grow ((Below.refl _ _).alloc (Nat.le_refl _) (.cells #[.int .i64 0, .int .i64 0, .string ⟨#[]⟩, .slice none 0 0] 26)))
  have HB0 := Hid.mk (Bz4.new w (.int .i64 0) (.int .i64 0) (.string ⟨#[]⟩) (.slice none 0 0))
  have HG0 := Hid.mk (gy_alloc w cb (.cells #[.int .i64 0, .int .i64 0, .string ⟨#[]⟩, .slice none 0 0] 26))
  have HFIN : Hid (∀ (W : World) (t : Ex) (u : Value), DxS 4 t → El W (nf W (w.heap.size + 1)) t.l u → Cur W cb v zs → w.grownBy W (some cb) → DxS 4 t ∧ El (set4 W w.heap.size (.int .i64 t.k) (.int .i64 t.n) (.string t.s) u) (nf (set4 W w.heap.size (.int .i64 t.k) (.int .i64 t.n) (.string t.s) u) (w.heap.size + 1)) t.l u ∧ Cur (set4 W w.heap.size (.int .i64 t.k) (.int .i64 t.n) (.string t.s) u) cb v zs ∧ w.grownBy (set4 W w.heap.size (.int .i64 t.k) (.int .i64 t.n) (.string t.s) u) (some cb)) := by
    intro W t u h1 h2 h3 h4
    exact ⟨h1, h2.by (set4_by _ _ _ _ _ _) (by omega), h3.set4 HNE.out (fun hz k hk => by have := HV.out hz k hk; omega) _ _ _ _, gy_far h4 (set4_by _ _ _ _ _ _) (Nat.le_refl _)⟩
  clear h
  have HD3 := Hid.mk (drX_any 3 (by omega))
  go_enter Try.func15, Try.ntmps15
  go_wp2_with fail
  refine (HD3.out cb v zs _ HC0.out).mono ?_
  rintro e w1 ⟨t0, u0, rfl, hd0, he0, hC1, hg1⟩
  obtain ⟨uo, uc, rfl, -, -, -⟩ := he0.len
  have A2 : Below w1.heap.size w1 (w1.alloc (.cells #[.int .i64 t0.k, .int .i64 t0.n, .string t0.s, .slice uo t0.l.length uc] 26)) := (Below.refl _ _).alloc (Nat.le_refl _) _
  have hs1 : w.heap.size + 1 ≤ w1.heap.size := by have := hg1.size; simpa using this
  have HB2 := Hid.mk ((HB0.out.row hg1 (fun g e => by cases e; exact fun e => HNE.out e.symm)).grow A2)
  have HX2 := Hid.mk (Bz4.new w1 (.int .i64 t0.k) (.int .i64 t0.n) (.string t0.s) (.slice uo t0.l.length uc))
  have HE2 : Hid (ElO (w1.alloc (.cells #[.int .i64 t0.k, .int .i64 t0.n, .string t0.s, .slice uo t0.l.length uc] 26)) (w.heap.size + 1) w1.heap.size t0.l (.slice uo t0.l.length uc)) := (El.imp (El.grow (El.imp (C := fun b => nf w1 (w.heap.size + 1) b ∧ b < w1.heap.size) he0 fun b hb hlt => ⟨⟨by have := hb.1; simp at this; omega, hb.2⟩, hlt⟩) A2) fun b hb _ => ⟨⟨hb.1.1, fun o => by rw [A2.frozen (p := ⟨b, o, none⟩) hb.2]; exact hb.1.2 o⟩, by intro e; have := hb.2; simp at e; omega⟩)
  have HC2 := Hid.mk (hC1.grow A2)
  have HG2 := Hid.mk (gy_below (grownBy_trans HG0.out hg1) A2)
  have HD0 := Hid.mk hd0
  clear hd0 he0 hC1 hg1 HC0 HB0 HG0 A2
  obtain ⟨eb, heb⟩ : ∃ b, w1.heap.size = b := ⟨_, rfl⟩
  rw [heb] at HX2 hs1 HE2
  go_wp2_with fail
  refine (l1Below_any cb v zs 14 _ HC2.out).mono ?_
  rintro e w3 ⟨x, rfl, hx0, hx1, -, hC3, hg3⟩
  have hebc : eb ≠ cb := by omega
  have HB3 := Hid.mk (HB2.out.row hg3 (fun g e => by cases e; exact fun e => HNE.out e.symm))
  have HX3 := Hid.mk (HX2.out.row hg3 (fun g e => by cases e; exact fun e => hebc e.symm))
  have HE3 := Hid.mk (ElO.by HE2.out hg3 (by omega))
  have HC3 := Hid.mk hC3
  have HG3 := Hid.mk (grownBy_trans HG2.out hg3)
  clear hC3 hg3 HB2 HX2 HE2 HC2 HG2 heb
  have hbe : w.heap.size ≠ eb := by omega
  have hbe' : eb ≠ w.heap.size := by omega
  by_cases e0 : x = 0
  · subst e0
    go_wp2_with fail
    refine (l1Below_any cb v zs 20 _ HC3.out).mono ?_
    rintro e w4 ⟨y, rfl, -, -, -, hC4, hg4⟩
    have HB4 := Hid.mk (HB3.out.row hg4 (fun g e => by cases e; exact fun e => HNE.out e.symm))
    have HX4 := Hid.mk (HX3.out.row hg4 (fun g e => by cases e; exact fun e => hebc e.symm))
    have HE4 := Hid.mk (ElO.by HE3.out hg4 (by omega))
    have HC4 := Hid.mk hC4
    have HG4 := Hid.mk (grownBy_trans HG3.out hg4)
    clear hC4 hg4
    clear HB3 HX3 HE3 HC3 HG3
    have G5 := gb_set w4 eb 0 (.int .i64 y)
    have HB5 := Hid.mk (HB4.out.row G5 (fun g e => by cases e; exact fun e => hbe e.symm))
    have HX5 := Hid.mk (HX4.out.put0 (.int .i64 y))
    have HE5 := Hid.mk (ElO.set HE4.out G5)
    have HC5 := Hid.mk (HC4.out.row G5 (fun g e => by cases e; exact ⟨hebc, fun hz k hk => by have := HV.out hz k hk; omega⟩))
    have HG5 := Hid.mk (gy_far HG4.out G5 (by omega))
    have q0 := HX4.out.c0
    have qf := HX4.out.fr
    clear HB4 HX4 HE4 HC4 HG4 G5
    have HF := Hid.mk (HFIN.out (w4.setCell ⟨eb, 0, none⟩ (.int .i64 y)) (.node y t0.n t0.s t0.l) (.slice uo t0.l.length uc) (HD0.out.re (HD0.out.1 _ (.self _))) (ElO.el HE5.out) (HC5.out) (HG5.out))
    have z0 := HB5.out.c0
    have z1 := HB5.out.c1
    have z2 := HB5.out.c2
    have z3 := HB5.out.c3
    have zf := HB5.out.fr
    have y0 := HX5.out.c0
    have y1 := HX5.out.c1
    have y2 := HX5.out.c2
    have y3 := HX5.out.c3
    have yf := HX5.out.fr
    clear HFIN
    go_wp2
    have f0 : (((((w4.setCell ⟨eb, 0, none⟩ (.int .i64 y)).setCell ⟨w.heap.size, 0, none⟩ (.int .i64 y)).setCell ⟨w.heap.size, 1, none⟩ (.int .i64 t0.n)).setCell ⟨w.heap.size, 2, none⟩ (.string t0.s)).setCell ⟨w.heap.size, 3, none⟩ (.slice uo t0.l.length uc)).cell? ⟨w.heap.size, 0, none⟩ = some (.int .i64 y) := by go_simp
    have f1 : (((((w4.setCell ⟨eb, 0, none⟩ (.int .i64 y)).setCell ⟨w.heap.size, 0, none⟩ (.int .i64 y)).setCell ⟨w.heap.size, 1, none⟩ (.int .i64 t0.n)).setCell ⟨w.heap.size, 2, none⟩ (.string t0.s)).setCell ⟨w.heap.size, 3, none⟩ (.slice uo t0.l.length uc)).cell? ⟨w.heap.size, 1, none⟩ = some (.int .i64 t0.n) := by go_simp
    have f2 : (((((w4.setCell ⟨eb, 0, none⟩ (.int .i64 y)).setCell ⟨w.heap.size, 0, none⟩ (.int .i64 y)).setCell ⟨w.heap.size, 1, none⟩ (.int .i64 t0.n)).setCell ⟨w.heap.size, 2, none⟩ (.string t0.s)).setCell ⟨w.heap.size, 3, none⟩ (.slice uo t0.l.length uc)).cell? ⟨w.heap.size, 2, none⟩ = some (.string t0.s) := by go_simp
    have f3 : (((((w4.setCell ⟨eb, 0, none⟩ (.int .i64 y)).setCell ⟨w.heap.size, 0, none⟩ (.int .i64 y)).setCell ⟨w.heap.size, 1, none⟩ (.int .i64 t0.n)).setCell ⟨w.heap.size, 2, none⟩ (.string t0.s)).setCell ⟨w.heap.size, 3, none⟩ (.slice uo t0.l.length uc)).cell? ⟨w.heap.size, 3, none⟩ = some (.slice uo t0.l.length uc) := by go_simp
    obtain ⟨h1, h2, h3, h4⟩ := HF.out
    refine bodyPost_ret (v := .agg #[(.int .i64 y), (.int .i64 t0.n), (.string t0.s), (.slice uo t0.l.length uc)]) ?_ rfl ⟨.node y t0.n t0.s t0.l, _, rfl, h1, h2, h3, h4⟩
    generalize (((((w4.setCell ⟨eb, 0, none⟩ (.int .i64 y)).setCell ⟨w.heap.size, 0, none⟩ (.int .i64 y)).setCell ⟨w.heap.size, 1, none⟩ (.int .i64 t0.n)).setCell ⟨w.heap.size, 2, none⟩ (.string t0.s)).setCell ⟨w.heap.size, 3, none⟩ (.slice uo t0.l.length uc)) = W at f0 f1 f2 f3
    simp [results, Try.results15, go_sem, f0, f1, f2, f3]
  by_cases e1 : x = 1
  · subst e1
    go_wp2_with fail
    refine (l1Str_any cb w3.heap.size 6 v zs [⟨#[]⟩, ⟨#[97]⟩, ⟨#[112, 114, 105, 110, 116]⟩, ⟨#[61, 61]⟩, ⟨#[97, 42, 42]⟩, ⟨#[120, 39, 121]⟩] _ (HC3.out.grow ((Below.refl _ _).alloc (Nat.le_refl _) _)) rfl (by omega) (by omega) (heap_alloc_new w3 _) (by have := HC3.out.lt; omega)).mono ?_
    rintro e w4 ⟨y, rfl, hy, hC4, hg4⟩
    have hys : y.size ≤ 100 := by
      simp only [List.mem_cons, List.not_mem_nil, or_false] at hy
      rcases hy with h | h | h | h | h | h <;> subst h <;> decide
    have HB4 := Hid.mk ((HB3.out.grow ((Below.refl _ _).alloc (Nat.le_refl _) _)).row hg4 (fun g e => by cases e; exact fun e => HNE.out e.symm))
    have HX4 := Hid.mk ((HX3.out.grow ((Below.refl _ _).alloc (Nat.le_refl _) _)).row hg4 (fun g e => by cases e; exact fun e => hebc e.symm))
    have HE4 := Hid.mk (ElO.by (ElO.grow HE3.out ((Below.refl _ _).alloc (Nat.le_refl _) _)) hg4 (by omega))
    have HC4 := Hid.mk hC4
    have HG4 := Hid.mk (grownBy_trans (gy_below HG3.out ((Below.refl _ _).alloc (Nat.le_refl _) _)) hg4)
    clear hC4 hg4
    clear HB3 HX3 HE3 HC3 HG3
    have G5 := gb_set w4 eb 2 (.string y)
    have HB5 := Hid.mk (HB4.out.row G5 (fun g e => by cases e; exact fun e => hbe e.symm))
    have HX5 := Hid.mk (HX4.out.put2 (.string y))
    have HE5 := Hid.mk (ElO.set HE4.out G5)
    have HC5 := Hid.mk (HC4.out.row G5 (fun g e => by cases e; exact ⟨hebc, fun hz k hk => by have := HV.out hz k hk; omega⟩))
    have HG5 := Hid.mk (gy_far HG4.out G5 (by omega))
    have q0 := HX4.out.c2
    have qf := HX4.out.fr
    clear HB4 HX4 HE4 HC4 HG4 G5
    have HF := Hid.mk (HFIN.out (w4.setCell ⟨eb, 2, none⟩ (.string y)) (.node t0.k t0.n y t0.l) (.slice uo t0.l.length uc) (HD0.out.re hys) (ElO.el HE5.out) (HC5.out) (HG5.out))
    have z0 := HB5.out.c0
    have z1 := HB5.out.c1
    have z2 := HB5.out.c2
    have z3 := HB5.out.c3
    have zf := HB5.out.fr
    have y0 := HX5.out.c0
    have y1 := HX5.out.c1
    have y2 := HX5.out.c2
    have y3 := HX5.out.c3
    have yf := HX5.out.fr
    clear HFIN
    go_wp2
    have f0 : (((((w4.setCell ⟨eb, 2, none⟩ (.string y)).setCell ⟨w.heap.size, 0, none⟩ (.int .i64 t0.k)).setCell ⟨w.heap.size, 1, none⟩ (.int .i64 t0.n)).setCell ⟨w.heap.size, 2, none⟩ (.string y)).setCell ⟨w.heap.size, 3, none⟩ (.slice uo t0.l.length uc)).cell? ⟨w.heap.size, 0, none⟩ = some (.int .i64 t0.k) := by go_simp
    have f1 : (((((w4.setCell ⟨eb, 2, none⟩ (.string y)).setCell ⟨w.heap.size, 0, none⟩ (.int .i64 t0.k)).setCell ⟨w.heap.size, 1, none⟩ (.int .i64 t0.n)).setCell ⟨w.heap.size, 2, none⟩ (.string y)).setCell ⟨w.heap.size, 3, none⟩ (.slice uo t0.l.length uc)).cell? ⟨w.heap.size, 1, none⟩ = some (.int .i64 t0.n) := by go_simp
    have f2 : (((((w4.setCell ⟨eb, 2, none⟩ (.string y)).setCell ⟨w.heap.size, 0, none⟩ (.int .i64 t0.k)).setCell ⟨w.heap.size, 1, none⟩ (.int .i64 t0.n)).setCell ⟨w.heap.size, 2, none⟩ (.string y)).setCell ⟨w.heap.size, 3, none⟩ (.slice uo t0.l.length uc)).cell? ⟨w.heap.size, 2, none⟩ = some (.string y) := by go_simp
    have f3 : (((((w4.setCell ⟨eb, 2, none⟩ (.string y)).setCell ⟨w.heap.size, 0, none⟩ (.int .i64 t0.k)).setCell ⟨w.heap.size, 1, none⟩ (.int .i64 t0.n)).setCell ⟨w.heap.size, 2, none⟩ (.string y)).setCell ⟨w.heap.size, 3, none⟩ (.slice uo t0.l.length uc)).cell? ⟨w.heap.size, 3, none⟩ = some (.slice uo t0.l.length uc) := by go_simp
    obtain ⟨h1, h2, h3, h4⟩ := HF.out
    refine bodyPost_ret (v := .agg #[(.int .i64 t0.k), (.int .i64 t0.n), (.string y), (.slice uo t0.l.length uc)]) ?_ rfl ⟨.node t0.k t0.n y t0.l, _, rfl, h1, h2, h3, h4⟩
    generalize (((((w4.setCell ⟨eb, 2, none⟩ (.string y)).setCell ⟨w.heap.size, 0, none⟩ (.int .i64 t0.k)).setCell ⟨w.heap.size, 1, none⟩ (.int .i64 t0.n)).setCell ⟨w.heap.size, 2, none⟩ (.string y)).setCell ⟨w.heap.size, 3, none⟩ (.slice uo t0.l.length uc)) = W at f0 f1 f2 f3
    simp [results, Try.results15, go_sem, f0, f1, f2, f3]
  by_cases e2 : x = 2
  · subst e2
    go_wp2_with fail
    refine (l1Int_any cb w3.heap.size 3 v zs [-1, 5, 2147483648] _ (HC3.out.grow ((Below.refl _ _).alloc (Nat.le_refl _) _)) rfl (by omega) (by omega) (heap_alloc_new w3 _) (by have := HC3.out.lt; omega)).mono ?_
    rintro e w4 ⟨y, rfl, hy, hC4, hg4⟩
    have HB4 := Hid.mk ((HB3.out.grow ((Below.refl _ _).alloc (Nat.le_refl _) _)).row hg4 (fun g e => by cases e; exact fun e => HNE.out e.symm))
    have HX4 := Hid.mk ((HX3.out.grow ((Below.refl _ _).alloc (Nat.le_refl _) _)).row hg4 (fun g e => by cases e; exact fun e => hebc e.symm))
    have HE4 := Hid.mk (ElO.by (ElO.grow HE3.out ((Below.refl _ _).alloc (Nat.le_refl _) _)) hg4 (by omega))
    have HC4 := Hid.mk hC4
    have HG4 := Hid.mk (grownBy_trans (gy_below HG3.out ((Below.refl _ _).alloc (Nat.le_refl _) _)) hg4)
    clear hC4 hg4
    clear HB3 HX3 HE3 HC3 HG3
    have G5 := gb_set w4 eb 1 (.int .i64 y)
    have HB5 := Hid.mk (HB4.out.row G5 (fun g e => by cases e; exact fun e => hbe e.symm))
    have HX5 := Hid.mk (HX4.out.put1 (.int .i64 y))
    have HE5 := Hid.mk (ElO.set HE4.out G5)
    have HC5 := Hid.mk (HC4.out.row G5 (fun g e => by cases e; exact ⟨hebc, fun hz k hk => by have := HV.out hz k hk; omega⟩))
    have HG5 := Hid.mk (gy_far HG4.out G5 (by omega))
    have q0 := HX4.out.c1
    have qf := HX4.out.fr
    clear HB4 HX4 HE4 HC4 HG4 G5
    have HF := Hid.mk (HFIN.out (w4.setCell ⟨eb, 1, none⟩ (.int .i64 y)) (.node t0.k y t0.s t0.l) (.slice uo t0.l.length uc) (HD0.out.re (HD0.out.1 _ (.self _))) (ElO.el HE5.out) (HC5.out) (HG5.out))
    have z0 := HB5.out.c0
    have z1 := HB5.out.c1
    have z2 := HB5.out.c2
    have z3 := HB5.out.c3
    have zf := HB5.out.fr
    have y0 := HX5.out.c0
    have y1 := HX5.out.c1
    have y2 := HX5.out.c2
    have y3 := HX5.out.c3
    have yf := HX5.out.fr
    clear HFIN
    go_wp2
    have f0 : (((((w4.setCell ⟨eb, 1, none⟩ (.int .i64 y)).setCell ⟨w.heap.size, 0, none⟩ (.int .i64 t0.k)).setCell ⟨w.heap.size, 1, none⟩ (.int .i64 y)).setCell ⟨w.heap.size, 2, none⟩ (.string t0.s)).setCell ⟨w.heap.size, 3, none⟩ (.slice uo t0.l.length uc)).cell? ⟨w.heap.size, 0, none⟩ = some (.int .i64 t0.k) := by go_simp
    have f1 : (((((w4.setCell ⟨eb, 1, none⟩ (.int .i64 y)).setCell ⟨w.heap.size, 0, none⟩ (.int .i64 t0.k)).setCell ⟨w.heap.size, 1, none⟩ (.int .i64 y)).setCell ⟨w.heap.size, 2, none⟩ (.string t0.s)).setCell ⟨w.heap.size, 3, none⟩ (.slice uo t0.l.length uc)).cell? ⟨w.heap.size, 1, none⟩ = some (.int .i64 y) := by go_simp
    have f2 : (((((w4.setCell ⟨eb, 1, none⟩ (.int .i64 y)).setCell ⟨w.heap.size, 0, none⟩ (.int .i64 t0.k)).setCell ⟨w.heap.size, 1, none⟩ (.int .i64 y)).setCell ⟨w.heap.size, 2, none⟩ (.string t0.s)).setCell ⟨w.heap.size, 3, none⟩ (.slice uo t0.l.length uc)).cell? ⟨w.heap.size, 2, none⟩ = some (.string t0.s) := by go_simp
    have f3 : (((((w4.setCell ⟨eb, 1, none⟩ (.int .i64 y)).setCell ⟨w.heap.size, 0, none⟩ (.int .i64 t0.k)).setCell ⟨w.heap.size, 1, none⟩ (.int .i64 y)).setCell ⟨w.heap.size, 2, none⟩ (.string t0.s)).setCell ⟨w.heap.size, 3, none⟩ (.slice uo t0.l.length uc)).cell? ⟨w.heap.size, 3, none⟩ = some (.slice uo t0.l.length uc) := by go_simp
    obtain ⟨h1, h2, h3, h4⟩ := HF.out
    refine bodyPost_ret (v := .agg #[(.int .i64 t0.k), (.int .i64 y), (.string t0.s), (.slice uo t0.l.length uc)]) ?_ rfl ⟨.node t0.k y t0.s t0.l, _, rfl, h1, h2, h3, h4⟩
    generalize (((((w4.setCell ⟨eb, 1, none⟩ (.int .i64 y)).setCell ⟨w.heap.size, 0, none⟩ (.int .i64 t0.k)).setCell ⟨w.heap.size, 1, none⟩ (.int .i64 y)).setCell ⟨w.heap.size, 2, none⟩ (.string t0.s)).setCell ⟨w.heap.size, 3, none⟩ (.slice uo t0.l.length uc)) = W at f0 f1 f2 f3
    simp [results, Try.results15, go_sem, f0, f1, f2, f3]
  by_cases e3 : x = 3
  · subst e3
    go_wp2_with fail
    refine (l1Below_any cb v zs 12 _ HC3.out).mono ?_
    rintro e w4 ⟨y, rfl, hy0, hy1, -, hC4, hg4⟩
    have hy12 : y < 12 := hy1 (by omega)
    have HB4 := Hid.mk (HB3.out.row hg4 (fun g e => by cases e; exact fun e => HNE.out e.symm))
    have HX4 := Hid.mk (HX3.out.row hg4 (fun g e => by cases e; exact fun e => hebc e.symm))
    have HE4 := Hid.mk (ElO.by HE3.out hg4 (by omega))
    have HC4 := Hid.mk hC4
    have HG4 := Hid.mk (grownBy_trans HG3.out hg4)
    clear hC4 hg4
    clear HB3 HX3 HE3 HC3 HG3
    clear hy1
    obtain ⟨N, rfl⟩ : ∃ N : Nat, y = N := ⟨y.toNat, by omega⟩
    have hN : N ≤ 11 := by omega
    have HD4 : Hid ((∀ x, InX x t0 → x.s.size ≤ 100) ∧ t0.sz ≤ 50000 + (N - N)) := ⟨HD0.out.1, by have := HD0.out.2; omega⟩
    go_wp2
    go_loopw [4] (fun i wr => ∃ (j : Nat) (t : Ex) (u : Value), i = .int .i64 j ∧ j ≤ N ∧ Hid (Bz4 wr eb (.int .i64 t.k) (.int .i64 t.n) (.string t.s) u) ∧ Hid (ElO wr (w.heap.size + 1) eb t.l u) ∧ Hid (Bz4 wr w.heap.size (.int .i64 0) (.int .i64 0) (.string ⟨#[]⟩) (.slice none 0 0)) ∧ Hid (Cur wr cb v zs) ∧ Hid (w.grownBy wr (some cb)) ∧ Hid ((∀ x, InX x t → x.s.size ≤ 100) ∧ t.sz ≤ 50000 + (N - j))) (fun i _ => (intOf i).toNat)
    case atStart => exact ⟨N, t0, _, rfl, Nat.le_refl _, HX4, HE4, HB4, HC4, HG4, HD4⟩
    case round =>
      clear HX4 HE4 HB4 HC4 HG4 HD4
      obtain ⟨j, t, u, rfl, hj, HX, HE, HB, HC, HG, HD⟩ := hrel
      obtain ⟨vo, vc, rfl, -, -, -⟩ := El.len HE.out
      have hel : eb < wr.heap.size := HX.out.lt
      have hwl : w.heap.size < wr.heap.size := HB.out.lt
      by_cases hj0 : 0 < j
      · have hi1 : (0 : Int) < (j : Int) := by omega
        have y0 := HX.out.c0
        have y1 := HX.out.c1
        have y2 := HX.out.c2
        have y3 := HX.out.c3
        have A5 : Below wr.heap.size wr (wr.alloc (.cells #[.int .i64 t.k, .int .i64 t.n, .string t.s, .slice vo t.l.length vc] 26)) := (Below.refl _ _).alloc (Nat.le_refl _) _
        have HN5 := Hid.mk (heap_alloc_new wr (.cells #[.int .i64 t.k, .int .i64 t.n, .string t.s, .slice vo t.l.length vc] 26))
        go_wp2_with fail
        refine (l8Of_any 8 (some ⟨wr.heap.size, 0, none⟩) 1 1 _).mono ?_
        rintro e w6 ⟨rfl, hb6⟩
        have B6 : Below wr.heap.size wr w6 := A5.trans (hb6.mono A5.size)
        have hg6 := (hb6.block wr.heap.size (by simp)).trans HN5.out
        have HX6 := Hid.mk (HX.out.grow B6)
        have HB6 := Hid.mk (HB.out.grow B6)
        have HE6 := Hid.mk (ElO.grow HE.out B6)
        have HC6 := Hid.mk (HC.out.grow B6)
        have HG6 := Hid.mk (gy_below HG.out B6)
        have hlb : wr.heap.size ≠ eb := by omega
        have HL6 : Hid (ElO w6 (w.heap.size + 1) eb [t] (.slice (some ⟨wr.heap.size, 0, none⟩) 1 1)) := El.aloneD hg6 ⟨⟨by omega, fun o => frozen_of_row w6 _ o _ _ hg6⟩, by intro e; simp at e; omega⟩ (by have := HD.out.1 _ (.self t); unfold maxLen; omega) HE6.out
        have G7 := set4_by w6 eb (.int .i64 8) (.int .i64 0) (.string ⟨#[]⟩) (.slice (some ⟨wr.heap.size, 0, none⟩) 1 1)
        have HX7 := Hid.mk (HX6.out.four (.int .i64 8) (.int .i64 0) (.string ⟨#[]⟩) (.slice (some ⟨wr.heap.size, 0, none⟩) 1 1))
        have HB7 := Hid.mk (HB6.out.row G7 (fun g e => by cases e; exact fun e => hbe e.symm))
        have HL7 := Hid.mk (ElO.set HL6.out G7)
        have HC7 := Hid.mk (HC6.out.row G7 (fun g e => by cases e; exact ⟨hebc, fun hz k hk => by have := HV.out hz k hk; omega⟩))
        have HG7 := Hid.mk (gy_far HG6.out G7 (by omega))
        have HD7 : Hid ((∀ x, InX x (.node 8 0 ⟨#[]⟩ [t]) → x.s.size ≤ 100) ∧ (Ex.node 8 0 ⟨#[]⟩ [t]).sz ≤ 50000 + (N - (j - 1))) := ⟨(neg_sh HD.out).1, by have := (neg_sh HD.out).2; omega⟩
        have x0 := HX6.out.c0
        have x1 := HX6.out.c1
        have x2 := HX6.out.c2
        have x3 := HX6.out.c3
        have xf := HX6.out.fr
        have hjj : ((j : Int) - 1) = ((j - 1 : Nat) : Int) := by omega
        clear y0 y1 y2 y3 HX HB HE HC HG HD HX6 HB6 HE6 HC6 HG6 HL6 HN5 G7 A5 B6 hb6 hg6 hlb
        go_wp2
        go_roundw
        case measure => simp [intOf]; omega
        case rel => exact ⟨j - 1, .node 8 0 ⟨#[]⟩ [t], _, by first | rfl | (simp; omega), by omega, HX7, HL7, HB7, HC7, HG7, HD7⟩
      · obtain rfl : j = 0 := by omega
        have hi1 : ¬ ((0 : Int) < ((0 : Nat) : Int)) := by omega
        have HDF : Hid (DxS 4 t) := ⟨HD.out.1, by have := HD.out.2; omega⟩
        have HF := Hid.mk (HFIN.out wr (t) (.slice vo t.l.length vc) (HDF.out) (ElO.el HE.out) (HC.out) (HG.out))
        have z0 := HB.out.c0
        have z1 := HB.out.c1
        have z2 := HB.out.c2
        have z3 := HB.out.c3
        have zf := HB.out.fr
        have y0 := HX.out.c0
        have y1 := HX.out.c1
        have y2 := HX.out.c2
        have y3 := HX.out.c3
        have yf := HX.out.fr
        clear HFIN
        go_wp2
        have f0 : ((((wr.setCell ⟨w.heap.size, 0, none⟩ (.int .i64 t.k)).setCell ⟨w.heap.size, 1, none⟩ (.int .i64 t.n)).setCell ⟨w.heap.size, 2, none⟩ (.string t.s)).setCell ⟨w.heap.size, 3, none⟩ (.slice vo t.l.length vc)).cell? ⟨w.heap.size, 0, none⟩ = some (.int .i64 t.k) := by go_simp
        have f1 : ((((wr.setCell ⟨w.heap.size, 0, none⟩ (.int .i64 t.k)).setCell ⟨w.heap.size, 1, none⟩ (.int .i64 t.n)).setCell ⟨w.heap.size, 2, none⟩ (.string t.s)).setCell ⟨w.heap.size, 3, none⟩ (.slice vo t.l.length vc)).cell? ⟨w.heap.size, 1, none⟩ = some (.int .i64 t.n) := by go_simp
        have f2 : ((((wr.setCell ⟨w.heap.size, 0, none⟩ (.int .i64 t.k)).setCell ⟨w.heap.size, 1, none⟩ (.int .i64 t.n)).setCell ⟨w.heap.size, 2, none⟩ (.string t.s)).setCell ⟨w.heap.size, 3, none⟩ (.slice vo t.l.length vc)).cell? ⟨w.heap.size, 2, none⟩ = some (.string t.s) := by go_simp
        have f3 : ((((wr.setCell ⟨w.heap.size, 0, none⟩ (.int .i64 t.k)).setCell ⟨w.heap.size, 1, none⟩ (.int .i64 t.n)).setCell ⟨w.heap.size, 2, none⟩ (.string t.s)).setCell ⟨w.heap.size, 3, none⟩ (.slice vo t.l.length vc)).cell? ⟨w.heap.size, 3, none⟩ = some (.slice vo t.l.length vc) := by go_simp
        obtain ⟨h1, h2, h3, h4⟩ := HF.out
        refine bodyPost_ret (v := .agg #[(.int .i64 t.k), (.int .i64 t.n), (.string t.s), (.slice vo t.l.length vc)]) ?_ rfl ⟨t, _, rfl, h1, h2, h3, h4⟩
        generalize ((((wr.setCell ⟨w.heap.size, 0, none⟩ (.int .i64 t.k)).setCell ⟨w.heap.size, 1, none⟩ (.int .i64 t.n)).setCell ⟨w.heap.size, 2, none⟩ (.string t.s)).setCell ⟨w.heap.size, 3, none⟩ (.slice vo t.l.length vc)) = W at f0 f1 f2 f3
        simp [results, Try.results15, go_sem, f0, f1, f2, f3]
  have n0 : (x == 0) = false := by simpa using e0
  have n1 : (x == 1) = false := by simpa using e1
  have n2 : (x == 2) = false := by simpa using e2
  have n3 : (x == 3) = false := by simpa using e3
  have HF := Hid.mk (HFIN.out w3 (t0) (.slice uo t0.l.length uc) (HD0.out.mono (by omega)) (ElO.el HE3.out) (HC3.out) (HG3.out))
  have z0 := HB3.out.c0
  have z1 := HB3.out.c1
  have z2 := HB3.out.c2
  have z3 := HB3.out.c3
  have zf := HB3.out.fr
  have y0 := HX3.out.c0
  have y1 := HX3.out.c1
  have y2 := HX3.out.c2
  have y3 := HX3.out.c3
  have yf := HX3.out.fr
  clear HFIN
  go_wp2
  have f0 : ((((w3.setCell ⟨w.heap.size, 0, none⟩ (.int .i64 t0.k)).setCell ⟨w.heap.size, 1, none⟩ (.int .i64 t0.n)).setCell ⟨w.heap.size, 2, none⟩ (.string t0.s)).setCell ⟨w.heap.size, 3, none⟩ (.slice uo t0.l.length uc)).cell? ⟨w.heap.size, 0, none⟩ = some (.int .i64 t0.k) := by go_simp
  have f1 : ((((w3.setCell ⟨w.heap.size, 0, none⟩ (.int .i64 t0.k)).setCell ⟨w.heap.size, 1, none⟩ (.int .i64 t0.n)).setCell ⟨w.heap.size, 2, none⟩ (.string t0.s)).setCell ⟨w.heap.size, 3, none⟩ (.slice uo t0.l.length uc)).cell? ⟨w.heap.size, 1, none⟩ = some (.int .i64 t0.n) := by go_simp
  have f2 : ((((w3.setCell ⟨w.heap.size, 0, none⟩ (.int .i64 t0.k)).setCell ⟨w.heap.size, 1, none⟩ (.int .i64 t0.n)).setCell ⟨w.heap.size, 2, none⟩ (.string t0.s)).setCell ⟨w.heap.size, 3, none⟩ (.slice uo t0.l.length uc)).cell? ⟨w.heap.size, 2, none⟩ = some (.string t0.s) := by go_simp
  have f3 : ((((w3.setCell ⟨w.heap.size, 0, none⟩ (.int .i64 t0.k)).setCell ⟨w.heap.size, 1, none⟩ (.int .i64 t0.n)).setCell ⟨w.heap.size, 2, none⟩ (.string t0.s)).setCell ⟨w.heap.size, 3, none⟩ (.slice uo t0.l.length uc)).cell? ⟨w.heap.size, 3, none⟩ = some (.slice uo t0.l.length uc) := by go_simp
  obtain ⟨h1, h2, h3, h4⟩ := HF.out
  refine bodyPost_ret (v := .agg #[(.int .i64 t0.k), (.int .i64 t0.n), (.string t0.s), (.slice uo t0.l.length uc)]) ?_ rfl ⟨t0, _, rfl, h1, h2, h3, h4⟩
  generalize ((((w3.setCell ⟨w.heap.size, 0, none⟩ (.int .i64 t0.k)).setCell ⟨w.heap.size, 1, none⟩ (.int .i64 t0.n)).setCell ⟨w.heap.size, 2, none⟩ (.string t0.s)).setCell ⟨w.heap.size, 3, none⟩ (.slice uo t0.l.length uc)) = W at f0 f1 f2 f3
  simp [results, Try.results15, go_sem, f0, f1, f2, f3]
end Go.Proofs.Ytijpmnenegdmnaa
