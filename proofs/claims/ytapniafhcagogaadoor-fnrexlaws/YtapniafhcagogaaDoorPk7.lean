/- The law FnLongest walked. A drawn expression that is right, and a text. What the law FnRexLaws turns on: plain mathematics. A byte of an input, as the laws take it. -/
import Derived.Test.YtapniafhcagogaaDoorPk6
import Derived.Test.YtapniafhcagogaaDoorPk5
import Derived.Test.YtapniafhcagogaaDoorLeaf
namespace Go.Proofs.YtapniafhcagogaaDoor
open Go.RowKit
set_option maxRecDepth 8000

theorem endsL_row {t : Tr} {s : ByteArray} (hok : okR t = true ∧ s.size ≤ 200) {q : Nat} (hq : q ≤ s.size) : endsL t s (q : Int) = rowL s.size (t.endM s q) := by
  unfold endsL
  rw [if_pos ⟨hok.1, hok.2, by omega, by omega⟩]
  simp
/-- The first place with an end is what Longest says. -/
theorem first_end (t : Tr) (s : ByteArray) (p : Nat) (hp : p ≤ s.size) (hno : ∀ q, q < p → endsL t s (q : Int) = []) (e : Nat) (he : (endsL t s (p : Int)).getLast? = some e) : longE t s = some (p, e) := by
  have hok : okR t = true ∧ s.size ≤ 200 := by
    unfold endsL at he
    split at he
    · rename_i h; exact ⟨h.1, h.2.1⟩
    · cases he
  rw [endsL_row hok hp] at he
  unfold longE
  rw [if_pos hok]
  have key : ∀ j i D, i + j = p → j < D → longF s.size (t.endM s) i D = some (p, e) := by
    intro j
    induction j with
    | zero =>
      intro i D hi hD
      obtain rfl : i = p := by omega
      obtain ⟨D, rfl⟩ : ∃ D', D = D' + 1 := ⟨D - 1, by omega⟩
      rw [longF, he]
    | succ j ih =>
      intro i D hi hD
      obtain ⟨D, rfl⟩ : ∃ D', D = D' + 1 := ⟨D - 1, by omega⟩
      have h0 := hno i (by omega)
      rw [endsL_row hok (by omega)] at h0
      rw [longF, h0]
      exact ih (i + 1) D (by omega) (by omega)
  exact key p 0 _ (by omega) (by omega)
theorem no_end (t : Tr) (s : ByteArray) (hno : ∀ q, q ≤ s.size → endsL t s (q : Int) = []) : longE t s = none := by
  unfold longE
  split
  · rename_i hok
    have key : ∀ D i, i + D ≤ s.size + 1 → longF s.size (t.endM s) i D = none := by
      intro D
      induction D with
      | zero => intro i _; rfl
      | succ D ih =>
        intro i hi
        have h0 := hno i (by omega)
        rw [endsL_row hok (by omega)] at h0
        rw [longF, h0]
        exact ih (i + 1) (by omega)
    exact key _ 0 (by omega)
  · rfl

theorem map_last (y : Nat) (ys : List Nat) : (List.map (fun (n : Nat) => (n : Int)) (y :: ys)).getD ys.length 0 = (((y :: ys).getLast (by simp) : Nat) : Int) := by
  rw [List.getLast_eq_getElem, List.getD, List.getElem?_map, List.getElem?_eq_getElem (by simp)]
  rfl

set_option maxHeartbeats 2000000 in
theorem fnLongest_walk (v : Value) (zs : List Int) (w : World) (h : Bs w v zs) (hT : TabB w) :
    Calls Tryd.prog 5 #[v] w fun e w' => e = .returned (.bool true) ∧ Below w.heap.size w w' := by
  have H := Hid.mk h
  clear h
  have HB := Hid.mk (big_any v zs w H.out)
  by_cases hlen : zs.length ≤ 1048576
  · have hd : decide ((1048576 : Int) < zs.length) = false := by simp; omega
    rw [hd] at HB
    clear hd
    go_enter Tryd.func5, Tryd.ntmps5
    go_wp2_with fail
    refine HB.out.mono ?_
    rintro e w1 ⟨rfl, hw⟩
    obtain rfl := hw.symm
    clear hw HB
    go_wp2_with fail
    refine (drawLongest_any v zs w H.out hlen).mono ?_
    rintro e w1 ⟨t, u, s, rfl, hts, hs6, hr1, hb1⟩
    have HIL := Hid.mk (fun (w' : World) (hb : Below w.heap.size w w') (B : Nat → Prop) (u : Value) (h : Rl w' B t.l u) => longest_any t B u s w' h hts (hT.grow hb))
    have HIM := Hid.mk (fun (w' : World) (hb : Below w.heap.size w w') (B : Nat → Prop) (u : Value) (h : Rl w' B t.l u) => matches_any t B u s w' h hts (hT.grow hb))
    have HSM := Hid.mk (fun (w' : World) (B : Nat → Prop) (u : Value) (h : Rl w' B t.l u) => specMatches_any t B u s w' h hts (by omega))
    have HIO := Hid.mk (fun (p : Nat) (w' : World) (hb : Below w.heap.size w w') (B : Nat → Prop) (u : Value) (h : Rl w' B t.l u) => endsOf_any t B u s (p : Int) w' h hts (hT.grow hb))
    have HFE := Hid.mk (first_end t s)
    have HNE := Hid.mk (no_end t s)
    obtain ⟨au, cu, rfl, -⟩ := hr1.len
    obtain ⟨b, hb⟩ : ∃ b, longE t s = b := ⟨_, rfl⟩
    obtain ⟨E, hE⟩ : ∃ E : Nat → List Nat, (fun (p : Nat) => endsL t s (p : Int)) = E := ⟨_, rfl⟩
    have hE' : ∀ p : Nat, endsL t s (p : Int) = E p := fun p => by rw [← hE]
    obtain ⟨tk, htk⟩ : ∃ tk, t.k = tk := ⟨_, rfl⟩
    obtain ⟨ts, hts'⟩ : ∃ ts, t.s = ts := ⟨_, rfl⟩
    obtain ⟨l, hl⟩ : ∃ l, t.l = l := ⟨_, rfl⟩
    simp only [hE'] at HIO HFE HNE
    rw [htk, hts', hl, hb] at HIL HIM HSM
    rw [htk, hts', hl] at HIO
    rw [hb] at HFE HNE
    rw [hl] at hr1
    rw [htk, hts', hl]
    obtain ⟨r0, r1, r2, hr, hsome, hfe, hne⟩ : ∃ (r0 r1 : Int) (r2 : Bool), longV b = .tuple #[.int .i64 r0, .int .i64 r1, .bool r2] ∧ b.isSome = r2 ∧ (∀ p e, b = some (p, e) → r0 = (p : Int) ∧ r1 = (e : Int) ∧ r2 = true) ∧ (b = none → r0 = 0 ∧ r1 = 0 ∧ r2 = false) := by
      cases b with
      | none => exact ⟨_, _, _, rfl, rfl, (fun p e h => by cases h), fun _ => ⟨rfl, rfl, rfl⟩⟩
      | some q => exact ⟨_, _, _, rfl, rfl, (fun p e h => by cases h; exact ⟨rfl, rfl, rfl⟩), fun h => by cases h⟩
    rw [hr] at HIL
    rw [hsome] at HIM HSM
    have HF : Hid (∀ p, p ≤ s.size → (∀ q, q < p → E q = []) → ∀ e, (E p).getLast? = some e → r0 = (p : Int) ∧ r1 = (e : Int) ∧ r2 = true) := fun p hp hq e he => hfe p e (HFE.out p hp hq e he)
    have HN : Hid ((∀ q, q ≤ s.size → E q = []) → r0 = 0 ∧ r1 = 0 ∧ r2 = false) := fun hq => hne (HNE.out hq)
    have A0 : Below w1.heap.size w1 (w1.alloc (.cells #[.int .i64 tk, .string ts, .slice au l.length cu] 26)) := (Below.refl _ _).alloc (Nat.le_refl _) _
    have X2 := Hid.mk (Bz3.new w1 (.int .i64 tk) (.string ts) (.slice au l.length cu))
    have R2 := Hid.mk (hr1.grow A0)
    have B2 := Hid.mk (hb1.trans (A0.mono hb1.size))
    have hrr : (r2 != r2) = false := by simp
    clear hts hr1 hb1 hE hE' htk hts' hl A0 t hr hsome hfe hne HFE HNE hb
    go_wp2_with fail
    generalize w1.alloc (.cells #[.int .i64 tk, .string ts, .slice au l.length cu] 26) = W2 at X2 R2 B2 ⊢
    generalize w1.heap.size = p0 at X2 ⊢
    clear w1
    refine (HIL.out W2 B2.out _ _ R2.out).mono ?_
    rintro e w3 ⟨rfl, hb3⟩
    have X3 := Hid.mk (X2.out.grow hb3)
    have R3 := Hid.mk (R2.out.grow hb3)
    have B3 := Hid.mk (B2.out.trans (hb3.mono B2.out.size))
    clear hb3 X2 R2 B2 HIL
    have x0 := X3.out.c0
    have x1 := X3.out.c1
    have x2 := X3.out.c2
    go_wp2_with fail
    refine (HIM.out w3 B3.out _ _ R3.out).mono ?_
    rintro e w4 ⟨rfl, hb4⟩
    have X4 := Hid.mk (X3.out.grow hb4)
    have R4 := Hid.mk (R3.out.grow hb4)
    have B4 := Hid.mk (B3.out.trans (hb4.mono B3.out.size))
    clear hb4 X3 R3 B3 HIM x0 x1 x2
    have x0 := X4.out.c0
    have x1 := X4.out.c1
    have x2 := X4.out.c2
    go_wp2_with fail
    refine (HSM.out w4 _ _ R4.out).mono ?_
    rintro e w5 ⟨rfl, hb5⟩
    have X5 := Hid.mk (X4.out.grow hb5)
    have R5 := Hid.mk (R4.out.grow hb5)
    have B5 := Hid.mk (B4.out.trans (hb5.mono B4.out.size))
    clear hb5 X4 R4 B4 HSM x0 x1 x2
    go_wp2
    clear hrr
    go_loopw [8] (fun q wr => ∃ k : Nat, k ≤ s.size + 1 ∧ q = .int .i64 k ∧ Hid (∀ j, j < k → E j = []) ∧ Hid (Bz3 wr p0 (.int .i64 tk) (.string ts) (.slice au l.length cu)) ∧ Hid (Rl wr (newFrom w.heap.size) l (.slice au l.length cu)) ∧ Hid (Below w.heap.size w wr)) (fun q _ => s.size + 1 - (intOf q).toNat)
    case atStart => exact ⟨0, Nat.zero_le _, rfl, (fun j hj => by omega), X5, R5, B5⟩
    case round =>
      obtain ⟨k, hk, rfl, HP, HX, HR, HBr⟩ := hrel
      clear X5 R5 B5
      by_cases hlt : (k : Int) ≤ (s.size : Int)
      · have x0 := HX.out.c0
        have x1 := HX.out.c1
        have x2 := HX.out.c2
        go_wp2_with fail
        refine (HIO.out k wr HBr.out _ _ HR.out).mono ?_
        rintro e w6 ⟨v6, rfl, ho6, hb6⟩
        have X6 := Hid.mk (HX.out.grow hb6)
        have R6 := Hid.mk (HR.out.grow hb6)
        have B6 := Hid.mk (HBr.out.trans (hb6.mono HBr.out.size))
        have I6 := OwnI.iz ho6
        clear x0 x1 x2 HX HR HBr hb6
        cases hEk : E k with
        | nil =>
          rw [hEk] at I6
          obtain ⟨a6, c6, rfl, -⟩ := I6
          have HP' : Hid (∀ j, j < k + 1 → E j = []) := fun j hj => by
            by_cases h : j = k
            · subst h; exact hEk
            · exact HP.out j (by omega)
          clear HP hEk ho6
          simp only [List.map_nil, List.length_nil]
          go_wp2
          go_roundw
          case rel => exact ⟨k + 1, by omega, by go_num, HP', X6, R6, B6⟩
          case measure => simp [intOf]; omega
        | cons y ys =>
          have hlast : (E k).getLast? = some ((y :: ys).getLast (by simp)) := by rw [hEk, List.getLast?_eq_some_getLast (by simp)]
          obtain ⟨e0, e1, e2⟩ := HF.out k (by omega) HP.out _ hlast
          rw [hEk] at I6
          obtain ⟨a6, c6, rfl, h1, h2, -, h4⟩ := I6
          obtain ⟨bq, off, rfl, hcell⟩ := h4 (by simp)
          have hcl := hcell ys.length (by simp)
          have hgl := map_last y ys
          rw [hgl, ← e1] at hcl
          subst e0 e2
          simp only [List.length_map, List.length_cons] at h1 ⊢
          have hpos : (0 : Int) < ((ys.length : Nat) : Int) + 1 := by omega
          have hcm : c6 ≤ 9223372036854775807 := by unfold maxLen at h2; omega
          have hyl : (ys.length : Int) ≤ 9223372036854775806 := by omega
          clear h2 h4 hcell hgl hlast hEk HP ho6 HF HN e1
          go_wp2
          go_ret
          exact ⟨rfl, B6.out⟩
      · obtain ⟨e0, e1, e2⟩ := HN.out (fun q hq => HP.out q (by omega))
        subst e0 e1 e2
        go_wp2
        go_ret
        exact ⟨rfl, HBr.out⟩
  · have hd : decide ((1048576 : Int) < zs.length) = true := by simp; omega
    rw [hd] at HB
    clear hd
    go_enter Tryd.func5, Tryd.ntmps5
    go_wp2_with fail
    refine HB.out.mono ?_
    rintro e w1 ⟨rfl, hw⟩
    obtain rfl := hw.symm
    go_wp2
    go_ret
    exact ⟨rfl, Below.refl _ _⟩
end Go.Proofs.YtapniafhcagogaaDoor

namespace Go.Proofs.YtapniafhcagogaaDoor
open Go.RowKit
set_option maxRecDepth 8000

/-- A drawn expression is right. -/
theorem Dn.okT : ∀ {d : Nat} {t : Tr}, Dn d t → t.okT = true := by
  intro d
  induction d with
  | zero =>
    intro t h
    obtain ⟨h1, h2⟩ := h
    rw [okT_eq, h1]
    cases t with
    | node k s l => simp only [Tr.l] at h1; subst h1; rw [okL, Bool.true_and]; exact h2.1
  | succ d ih =>
    intro t h
    rcases h with ⟨h1, h2⟩ | ⟨h1, _, _, h4⟩
    · rw [okT_eq, h1]
      cases t with
      | node k s l => simp only [Tr.l] at h1; subst h1; rw [okL, Bool.true_and]; exact h2.1
    · rw [okT_eq, h1, Bool.and_true, okL_iff]
      exact fun x hx => ih (h4 x hx)
theorem cntL_le (l : List Tr) (m : Nat) (h : ∀ x ∈ l, x.cnt ≤ m) : cntL l ≤ l.length * m := by
  induction l with
  | nil => simp [cntL]
  | cons x r ih =>
    have h1 := h x (List.mem_cons_self ..)
    have h2 := ih (fun y hy => h y (List.mem_cons_of_mem _ hy))
    rw [cntL, List.length_cons, Nat.add_mul, Nat.one_mul]
    omega
theorem Dn.cnt : ∀ {d : Nat} {t : Tr}, Dn d t → d ≤ 3 → t.cnt ≤ [1, 4, 13, 40].getD d 0 := by
  intro d
  induction d with
  | zero =>
    intro t h _
    rw [cnt_eq, h.1]
    simp [cntL]
  | succ d ih =>
    intro t h hd
    have hpos : 1 ≤ [1, 4, 13, 40].getD (d + 1) 0 := by
      rcases (show d = 0 ∨ d = 1 ∨ d = 2 by omega) with rfl | rfl | rfl <;> decide
    rcases h with ⟨h1, h2⟩ | ⟨_, _, h3, h4⟩
    · rw [cnt_eq, h1]
      simp only [cntL]
      omega
    · have h5 := cntL_le t.l ([1, 4, 13, 40].getD d 0) (fun x hx => ih (h4 x hx) (by omega))
      rw [cnt_eq]
      have h6 : t.l.length * [1, 4, 13, 40].getD d 0 ≤ 3 * [1, 4, 13, 40].getD d 0 := Nat.mul_le_mul_right _ h3
      have h7 : 1 + 3 * [1, 4, 13, 40].getD d 0 = [1, 4, 13, 40].getD (d + 1) 0 := by
        rcases (show d = 0 ∨ d = 1 ∨ d = 2 by omega) with rfl | rfl | rfl <;> decide
      omega
theorem Dn.dp : ∀ {d : Nat} {t : Tr}, Dn d t → ∀ f, d < f → dpF f t = true := by
  intro d
  induction d with
  | zero =>
    intro t h f hf
    obtain ⟨f, rfl⟩ : ∃ f', f = f' + 1 := ⟨f - 1, by omega⟩
    rw [dpF, h.1]
    rfl
  | succ d ih =>
    intro t h f hf
    obtain ⟨f, rfl⟩ : ∃ f', f = f' + 1 := ⟨f - 1, by omega⟩
    rcases h with ⟨h1, h2⟩ | ⟨_, _, h3, h4⟩
    · rw [dpF, h1]; rfl
    · rw [dpF, List.all_eq_true]
      exact fun x hx => ih (h4 x hx) f (by omega)
theorem Dn.okR {t : Tr} (h : Dn 3 t) : okR t = true := by
  have h1 := h.cnt (Nat.le_refl 3)
  have h2 := h.dp 6 (by omega)
  have h3 := ((parts_spec 6 t).1).2 ⟨h2, by simp at h1; omega⟩
  unfold Proofs.YtapniafhcagogaaDoor.okR
  rw [decide_eq_true h3, h.okT]
  rfl

set_option maxHeartbeats 2000000 in
theorem drawRex_any (v : Value) (zs : List Int) (w : World) (h : Bs w v zs) (hlen : zs.length ≤ 1048576) :
    Calls Tryd.prog 17 #[v] w fun e w' => ∃ (t : Tr) (u : Value) (s : ByteArray), e = .returned (.tuple #[rx t.k t.s u, .string s]) ∧ Dn 3 t ∧ s.size ≤ 6 ∧ Rl w' (newFrom w.heap.size) t.l u ∧ Below w.heap.size w w' := by
  have H := Hid.mk (h.grow ((Below.refl w.heap.size w).alloc (Nat.le_refl _) (.cells #[.int .i64 0, .string ⟨#[]⟩, .slice none 0 0] 26)))
  have Z0 := Hid.mk (Bz3.new w (.int .i64 0) (.string ⟨#[]⟩) (.slice none 0 0))
  have A0 : Hid (Below w.heap.size w (w.alloc (.cells #[.int .i64 0, .string ⟨#[]⟩, .slice none 0 0] 26))) := (Below.refl _ _).alloc (Nat.le_refl _) _
  have S0 : (w.alloc (.cells #[.int .i64 0, .string ⟨#[]⟩, .slice none 0 0] 26)).heap.size = w.heap.size + 1 := by simp
  clear h
  go_enter Tryd.func17, Tryd.ntmps17
  go_wp2_with fail
  generalize w.alloc (.cells #[.int .i64 0, .string ⟨#[]⟩, .slice none 0 0] 26) = W0 at H Z0 A0 S0 ⊢
  refine (l1New_any v zs W0 H.out hlen).mono ?_
  rintro e w1 ⟨rfl, hC1, hb1⟩
  have C1 := Hid.mk hC1
  have Z1 := Hid.mk (Z0.out.grow hb1)
  have B1 := Hid.mk (A0.out.trans (hb1.mono (by omega)))
  rw [S0] at C1 ⊢
  clear hC1 hb1 H Z0 A0 S0
  go_wp2_with fail
  refine (l3Draw_any 3 (by omega) (w.heap.size + 1) v zs w1 C1.out).mono ?_
  rintro e w2 ⟨t, u, rfl, hdn, how, hC2, hg2⟩
  obtain ⟨au, cu, rfl, -⟩ := how.rl.len
  obtain ⟨tk, htk⟩ : ∃ tk, t.k = tk := ⟨_, rfl⟩
  obtain ⟨ts, hts'⟩ : ∃ ts, t.s = ts := ⟨_, rfl⟩
  have s12 := hg2.size
  have hc1 := C1.out.lt
  have C2 := Hid.mk hC2
  have Z2 := Hid.mk (Z1.out.by hg2 (by omega))
  have R2 := Hid.mk (how.rl.imp (C := fun b => w.heap.size + 2 ≤ b ∧ b < w2.heap.size) (fun b hb hlt => ⟨by unfold newFrom at hb; omega, hlt⟩))
  have B2 : Hid (Below w.heap.size w w2) := B1.out.grown hg2 B1.out.size (fun k e => by simp at e; omega)
  have HDN := Hid.mk hdn
  rw [htk, hts']
  have HTK := Hid.mk htk
  have HTS := Hid.mk hts'
  clear hdn how hC2 hg2 htk hts' C1 Z1 B1
  go_wp2_with fail
  refine (l4Text_any (w.heap.size + 1) v zs w2 C2.out).mono ?_
  rintro e w3 ⟨s, rfl, hs6, hC3, hg3⟩
  have Z3 := Hid.mk (Z2.out.by hg3 (by omega))
  have R3 := Hid.mk (R2.out.kept (w' := w3) (fun b hb hlt => hg3.block b hlt (by simp; omega)))
  have B3 : Hid (Below w.heap.size w w3) := B2.out.grown hg3 B2.out.size (fun k e => by simp at e; omega)
  clear hC3 hg3 C2 Z2 R2 B2
  have z0 := Z3.out.c0
  have z1 := Z3.out.c1
  have z2 := Z3.out.c2
  have zf := Z3.out.fr
  have Y4 := Z3.out.put (.int .i64 tk) (.string ts) (.slice au t.l.length cu)
  have R4 := Hid.mk (R3.out.kept (w' := sz3 w3 w.heap.size (.int .i64 tk) (.string ts) (.slice au t.l.length cu)) (fun b hb _ => sz3_other _ _ _ _ _ _ (by omega)))
  have B4 : Hid (Below w.heap.size w (sz3 w3 w.heap.size (.int .i64 tk) (.string ts) (.slice au t.l.length cu))) := ⟨B3.out.os, B3.out.tape, B3.out.output, by rw [sz3_size]; exact B3.out.size, fun b hb => (sz3_other _ _ _ _ _ _ (by omega)).trans (B3.out.block b hb)⟩
  clear R3 B3 Z3
  have HY4 := Hid.mk Y4
  clear Y4
  generalize hll : t.l.length = ll at *
  go_wp2_with fail
  have q0 := HY4.out.c0
  have q1 := HY4.out.c1
  have q2 := HY4.out.c2
  refine bodyPost_ret (v := .tuple #[rx tk ts (.slice au ll cu), .string s]) (by simp [results, Tryd.results17, go_sem, q0, q1, q2]) rfl ⟨t, .slice au ll cu, s, by rw [HTK.out, HTS.out], HDN.out, hs6, R4.out.imp (fun b hb _ => by unfold newFrom; omega), B4.out⟩

set_option maxHeartbeats 2000000 in
theorem drawMatches_any (v : Value) (zs : List Int) (w : World) (h : Bs w v zs) (hlen : zs.length ≤ 1048576) :
    Calls Tryd.prog 18 #[v] w fun e w' => ∃ (t : Tr) (u : Value) (s : ByteArray), e = .returned (.tuple #[rx t.k t.s u, .string s]) ∧ Dn 3 t ∧ s.size ≤ 6 ∧ Rl w' (newFrom w.heap.size) t.l u ∧ Below w.heap.size w w' := by
  have H := Hid.mk (h.grow ((Below.refl w.heap.size w).alloc (Nat.le_refl _) (.cells #[.int .i64 0, .string ⟨#[]⟩, .slice none 0 0] 26)))
  have Z0 := Hid.mk (Bz3.new w (.int .i64 0) (.string ⟨#[]⟩) (.slice none 0 0))
  have A0 : Hid (Below w.heap.size w (w.alloc (.cells #[.int .i64 0, .string ⟨#[]⟩, .slice none 0 0] 26))) := (Below.refl _ _).alloc (Nat.le_refl _) _
  have S0 : (w.alloc (.cells #[.int .i64 0, .string ⟨#[]⟩, .slice none 0 0] 26)).heap.size = w.heap.size + 1 := by simp
  clear h
  go_enter Tryd.func18, Tryd.ntmps18
  go_wp2_with fail
  generalize w.alloc (.cells #[.int .i64 0, .string ⟨#[]⟩, .slice none 0 0] 26) = W0 at H Z0 A0 S0 ⊢
  refine (l1New_any v zs W0 H.out hlen).mono ?_
  rintro e w1 ⟨rfl, hC1, hb1⟩
  have C1 := Hid.mk hC1
  have Z1 := Hid.mk (Z0.out.grow hb1)
  have B1 := Hid.mk (A0.out.trans (hb1.mono (by omega)))
  rw [S0] at C1 ⊢
  clear hC1 hb1 H Z0 A0 S0
  go_wp2_with fail
  refine (l3Draw_any 3 (by omega) (w.heap.size + 1) v zs w1 C1.out).mono ?_
  rintro e w2 ⟨t, u, rfl, hdn, how, hC2, hg2⟩
  obtain ⟨au, cu, rfl, -⟩ := how.rl.len
  obtain ⟨tk, htk⟩ : ∃ tk, t.k = tk := ⟨_, rfl⟩
  obtain ⟨ts, hts'⟩ : ∃ ts, t.s = ts := ⟨_, rfl⟩
  have s12 := hg2.size
  have hc1 := C1.out.lt
  have C2 := Hid.mk hC2
  have Z2 := Hid.mk (Z1.out.by hg2 (by omega))
  have R2 := Hid.mk (how.rl.imp (C := fun b => w.heap.size + 2 ≤ b ∧ b < w2.heap.size) (fun b hb hlt => ⟨by unfold newFrom at hb; omega, hlt⟩))
  have B2 : Hid (Below w.heap.size w w2) := B1.out.grown hg2 B1.out.size (fun k e => by simp at e; omega)
  have HDN := Hid.mk hdn
  rw [htk, hts']
  have HTK := Hid.mk htk
  have HTS := Hid.mk hts'
  clear hdn how hC2 hg2 htk hts' C1 Z1 B1
  go_wp2_with fail
  refine (l4Text_any (w.heap.size + 1) v zs w2 C2.out).mono ?_
  rintro e w3 ⟨s, rfl, hs6, hC3, hg3⟩
  have Z3 := Hid.mk (Z2.out.by hg3 (by omega))
  have R3 := Hid.mk (R2.out.kept (w' := w3) (fun b hb hlt => hg3.block b hlt (by simp; omega)))
  have B3 : Hid (Below w.heap.size w w3) := B2.out.grown hg3 B2.out.size (fun k e => by simp at e; omega)
  clear hC3 hg3 C2 Z2 R2 B2
  have z0 := Z3.out.c0
  have z1 := Z3.out.c1
  have z2 := Z3.out.c2
  have zf := Z3.out.fr
  have Y4 := Z3.out.put (.int .i64 tk) (.string ts) (.slice au t.l.length cu)
  have R4 := Hid.mk (R3.out.kept (w' := sz3 w3 w.heap.size (.int .i64 tk) (.string ts) (.slice au t.l.length cu)) (fun b hb _ => sz3_other _ _ _ _ _ _ (by omega)))
  have B4 : Hid (Below w.heap.size w (sz3 w3 w.heap.size (.int .i64 tk) (.string ts) (.slice au t.l.length cu))) := ⟨B3.out.os, B3.out.tape, B3.out.output, by rw [sz3_size]; exact B3.out.size, fun b hb => (sz3_other _ _ _ _ _ _ (by omega)).trans (B3.out.block b hb)⟩
  clear R3 B3 Z3
  have HY4 := Hid.mk Y4
  clear Y4
  generalize hll : t.l.length = ll at *
  go_wp2_with fail
  have q0 := HY4.out.c0
  have q1 := HY4.out.c1
  have q2 := HY4.out.c2
  refine bodyPost_ret (v := .tuple #[rx tk ts (.slice au ll cu), .string s]) (by simp [results, Tryd.results18, go_sem, q0, q1, q2]) rfl ⟨t, .slice au ll cu, s, by rw [HTK.out, HTS.out], HDN.out, hs6, R4.out.imp (fun b hb _ => by unfold newFrom; omega), B4.out⟩
end Go.Proofs.YtapniafhcagogaaDoor

namespace Go.Proofs.YtapniafhcagogaaDoor

def oneT : Tr := .node 1 ⟨#[97]⟩ []
def starT : Tr := .node 6 ⟨#[]⟩ [oneT]
def altT : Tr := .node 5 ⟨#[]⟩ [oneT, starT]
def plusT : Tr := .node 7 ⟨#[]⟩ [oneT]

theorem okR_star : okR starT = true := by decide +kernel
theorem okR_alt : okR altT = true := by decide +kernel
theorem okR_plus : okR plusT = true := by decide +kernel

theorem endM_star (s : ByteArray) : starT.endM s = mMany s.size (oneT.endM s) := by rw [endM_eq]; rfl
theorem endM_plus (s : ByteArray) : plusT.endM s = mThen s.size (oneT.endM s) (mMany s.size (oneT.endM s)) := by rw [endM_eq]; rfl
theorem endM_alt (s : ByteArray) : altT.endM s = mAdd (mAdd mNone (oneT.endM s)) (starT.endM s) := by rw [endM_eq]; rfl
theorem endM_two (s : ByteArray) (r q : Tr) : (Tr.node 5 ⟨#[]⟩ [r, q]).endM s = mAdd (mAdd mNone (r.endM s)) (q.endM s) := by rw [endM_eq]; rfl

theorem rowL_congr {n : Nat} {f g : Nat → Bool} (h : ∀ j, j ≤ n → f j = g j) : rowL n f = rowL n g := by
  unfold rowL
  apply List.filter_congr
  intro j hj
  exact h j (by have := List.mem_range.1 hj; omega)
theorem rowL_cons {n i : Nat} {f g : Nat → Bool} (hi : i ≤ n) (hg : ∀ j, g j = true → i < j) (hf : ∀ j, j ≤ n → f j = (j == i || g j)) : rowL n f = i :: rowL n g := by
  unfold rowL
  have e : List.range (n + 1) = List.range i ++ i :: List.range' (i + 1) (n - i) := by
    rw [List.range_eq_range', List.range_eq_range']
    have h1 := List.range'_append (s := 0) (m := i) (n := n - i + 1) (step := 1)
    simp only [Nat.one_mul, Nat.zero_add] at h1
    rw [show n + 1 = i + (n - i + 1) by omega, ← h1, List.range'_succ]
  have e1 : (List.range i).filter f = [] := by
    rw [List.filter_eq_nil_iff]
    intro j hj
    have hj' := List.mem_range.1 hj
    rw [hf j (by omega)]
    simp only [Bool.or_eq_true, beq_iff_eq]
    rintro (h | h)
    · omega
    · have := hg j h; omega
  have e2 : (List.range i).filter g = [] := by
    rw [List.filter_eq_nil_iff]
    intro j hj h
    have hj' := List.mem_range.1 hj
    have := hg j h
    omega
  have e3 : (List.range' (i + 1) (n - i)).filter f = (List.range' (i + 1) (n - i)).filter g := by
    apply List.filter_congr
    intro j hj
    have hj' := List.mem_range'_1.1 hj
    rw [hf j (by omega)]
    have : (j == i) = false := by simp; omega
    rw [this, Bool.false_or]
  have h4 : f i = true := by rw [hf i hi]; simp
  have h5 : g i = false := by
    cases h : g i with
    | false => rfl
    | true => have := hg i h; omega
  rw [e, List.filter_append, List.filter_append, e1, e2, List.nil_append, List.nil_append, List.filter_cons, List.filter_cons, h4, h5, e3]
  rfl

theorem one_step {s : ByteArray} {i j : Nat} (h : oneT.endM s i j = true) : j = i + 1 ∧ i < s.size := by
  rw [endM_eq] at h
  have h' : mOne s 1 ⟨#[97]⟩ i j = true := h
  simp only [mOne, Bool.and_eq_true, decide_eq_true_iff] at h'
  omega
theorem alt_star (s : ByteArray) (i : Nat) (hi : i ≤ s.size) : rowL s.size (altT.endM s i) = rowL s.size (starT.endM s i) := by
  apply rowL_congr
  intro j hj
  rw [endM_alt, endM_star, Bool.eq_iff_iff]
  simp only [mAdd, mNone, Bool.false_or, Bool.or_eq_true, Bool.and_eq_true, decide_eq_true_iff]
  constructor
  · rintro (⟨h1, h2⟩ | ⟨_, h⟩)
    · have := one_step h2
      exact (mMany_iff hj).2 (.inr ⟨j, hj, by omega, Nat.le_refl _, h2, (mMany_iff hj).2 (.inl rfl)⟩)
    · exact h
  · intro h
    exact .inr ⟨(UpM.many s.size _ i j hi h).1, h⟩
theorem star_plus (s : ByteArray) (i : Nat) (hi : i ≤ s.size) : rowL s.size (starT.endM s i) = i :: rowL s.size (plusT.endM s i) := by
  refine rowL_cons hi (fun j h => ?_) (fun j hj => ?_)
  · rw [endM_plus] at h
    obtain ⟨m, h1, h2, h3, h4, _⟩ := mThen_iff.1 h
    have := one_step h4
    omega
  · rw [endM_plus, endM_star, Bool.eq_iff_iff, mMany_iff hj, Bool.or_eq_true, beq_iff_eq, mThen_iff]
    constructor
    · rintro (h | ⟨m, h1, h2, h3, h4, h5⟩)
      · exact .inl h.symm
      · exact .inr ⟨m, h1, by omega, h3, h4, h5⟩
    · rintro (h | ⟨m, h1, h2, h3, h4, h5⟩)
      · exact .inl h.symm
      · have := one_step h4
        exact .inr ⟨m, h1, by omega, h3, h4, h5⟩

theorem map_contains (xs : List Nat) (k : Nat) : (xs.map fun (n : Nat) => (n : Int)).contains (k : Int) = xs.contains k := by
  rw [Bool.eq_iff_iff, List.contains_iff_mem, List.contains_iff_mem, List.mem_map]
  constructor
  · rintro ⟨x, hx, h⟩
    have : x = k := by omega
    subst this; exact hx
  · intro h; exact ⟨k, h, rfl⟩
theorem rowL_contains {n k : Nat} (f : Nat → Bool) (hk : k ≤ n) : (rowL n f).contains k = f k := by
  rw [Bool.eq_iff_iff, List.contains_iff_mem]
  unfold rowL
  rw [List.mem_filter, List.mem_range]
  exact ⟨fun h => h.2, fun h => ⟨by omega, h⟩⟩
theorem both_ends {s : ByteArray} {r q : Tr} (hr : okR r = true) (hq : okR q = true) (hb : okR (.node 5 ⟨#[]⟩ [r, q]) = true) (hs : s.size ≤ 200) {i k : Nat} (hi : i ≤ s.size) (hk : k ≤ s.size) :
    ((endsL (.node 5 ⟨#[]⟩ [r, q]) s (i : Int)).map fun (n : Nat) => (n : Int)).contains (k : Int) = (((endsL r s (i : Int)).map fun (n : Nat) => (n : Int)).contains (k : Int) || ((endsL q s (i : Int)).map fun (n : Nat) => (n : Int)).contains (k : Int)) := by
  rw [map_contains, map_contains, map_contains, endsL_row ⟨hb, hs⟩ hi, endsL_row ⟨hr, hs⟩ hi, endsL_row ⟨hq, hs⟩ hi, rowL_contains _ hk, rowL_contains _ hk, rowL_contains _ hk, endM_two, Bool.eq_iff_iff]
  simp only [mAdd, mNone, Bool.false_or, Bool.or_eq_true, Bool.and_eq_true, decide_eq_true_iff]
  constructor
  · rintro (⟨_, h⟩ | ⟨_, h⟩); exact .inl h; exact .inr h
  · rintro (h | h)
    · exact .inl ⟨(UpM.tree s r i k hi h).1, h⟩
    · exact .inr ⟨(UpM.tree s q i k hi h).1, h⟩
theorem three_ends {s : ByteArray} (hs : s.size ≤ 200) {i : Nat} (hi : i ≤ s.size) : endsL altT s (i : Int) = endsL starT s (i : Int) ∧ (endsL starT s (i : Int)).length = (endsL plusT s (i : Int)).length + 1 ∧ (endsL starT s (i : Int)).contains i = true := by
  rw [endsL_row ⟨okR_alt, hs⟩ hi, endsL_row ⟨okR_star, hs⟩ hi, endsL_row ⟨okR_plus, hs⟩ hi]
  refine ⟨alt_star s i hi, ?_, ?_⟩
  · rw [star_plus s i hi, List.length_cons]
  · rw [star_plus s i hi]; simp
end Go.Proofs.YtapniafhcagogaaDoor

namespace Go.Proofs.YtapniafhcagogaaDoor
open Go.RowKit
set_option maxRecDepth 8000

theorem at_any (v : Value) (zs : List Int) (w : World) (h : Bs w v zs) (hlen : zs.length ≤ 1048576) :
    Calls Tryd.prog 19 #[v, .int .i64 2] w fun e w' => ∃ x : Int, e = .returned (.int .i64 x) ∧ 0 ≤ x ∧ x < 256 ∧ w' = w := by
  obtain ⟨hb, ao, cap, rfl, hl, hm, hn, hc⟩ := h
  unfold maxLen at hm
  by_cases h2 : 2 < zs.length
  · obtain ⟨b, off, rfl, hcell⟩ := hc (by intro h0; rw [h0] at h2; simp at h2)
    have h1 := hcell 2 h2
    have hz : 0 ≤ zs.getD 2 0 ∧ zs.getD 2 0 < 256 := by
      have := hb _ (show zs.getD 2 0 ∈ zs by simp [List.getD, h2])
      omega
    obtain ⟨c, hcc⟩ : ∃ c, zs.getD 2 0 = c := ⟨_, rfl⟩
    rw [hcc] at h1 hz
    have hi : (2 : Int) < (zs.length : Int) := by omega
    have hw : IntKind.i64.wrap c = c := by rw [IntKind.wrap_i64]; omega
    clear hc hcell hcc hb
    go_enter Tryd.func19, Tryd.ntmps19
    go_wp2
    go_ret
    exact ⟨_, rfl, hz.1, hz.2, rfl⟩
  · have hi : ¬ (2 : Int) < (zs.length : Int) := by omega
    clear hc
    go_enter Tryd.func19, Tryd.ntmps19
    go_wp2
    go_ret
    exact ⟨_, rfl, by omega, by omega, rfl⟩
end Go.Proofs.YtapniafhcagogaaDoor
