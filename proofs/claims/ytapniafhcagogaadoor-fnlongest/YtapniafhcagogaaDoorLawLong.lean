/- The law FnLongest walked. -/
import Derived.Test.YtapniafhcagogaaDoorLawEnds
namespace Go.Proofs.YtapniafhcagogaaDoor
open Go.RowKit
set_option maxRecDepth 8000

theorem endsL_row {t : Tr} {s : ByteArray} (hok : okR t = true ∧ s.size ≤ 200) {q : Nat} (hq : q ≤ s.size) : endsL t s (q : Int) = rowL s.size (t.endM s q) := by
  unfold endsL
  rw [if_pos ⟨hok.1, hok.2, by omega, by omega⟩]
  simp
/-- The first place with an end is what Longest says. -/
theorem first_end (t : Tr) (s : ByteArray) (p : Nat) (hp : p ≤ s.size) (hno : ∀ q, q < p → endsL t s (q : Int) = []) (e : Nat) (he : (endsL t s (p : Int)).getLast? = some e) : longE t s = some (p, e) := by
  have hok : okR t = true ∧ s.size ≤ 200 := by
    unfold endsL at he
    split at he
    · rename_i h; exact ⟨h.1, h.2.1⟩
    · cases he
  rw [endsL_row hok hp] at he
  unfold longE
  rw [if_pos hok]
  have key : ∀ j i D, i + j = p → j < D → longF s.size (t.endM s) i D = some (p, e) := by
    intro j
    induction j with
    | zero =>
      intro i D hi hD
      obtain rfl : i = p := by omega
      obtain ⟨D, rfl⟩ : ∃ D', D = D' + 1 := ⟨D - 1, by omega⟩
      rw [longF, he]
    | succ j ih =>
      intro i D hi hD
      obtain ⟨D, rfl⟩ : ∃ D', D = D' + 1 := ⟨D - 1, by omega⟩
      have h0 := hno i (by omega)
      rw [endsL_row hok (by omega)] at h0
      rw [longF, h0]
      exact ih (i + 1) D (by omega) (by omega)
  exact key p 0 _ (by omega) (by omega)
theorem no_end (t : Tr) (s : ByteArray) (hno : ∀ q, q ≤ s.size → endsL t s (q : Int) = []) : longE t s = none := by
  unfold longE
  split
  · rename_i hok
    have key : ∀ D i, i + D ≤ s.size + 1 → longF s.size (t.endM s) i D = none := by
      intro D
      induction D with
      | zero => intro i _; rfl
      | succ D ih =>
        intro i hi
        have h0 := hno i (by omega)
        rw [endsL_row hok (by omega)] at h0
        rw [longF, h0]
        exact ih (i + 1) (by omega)
    exact key _ 0 (by omega)
  · rfl

theorem map_last (y : Nat) (ys : List Nat) : (List.map (fun (n : Nat) => (n : Int)) (y :: ys)).getD ys.length 0 = (((y :: ys).getLast (by simp) : Nat) : Int) := by
  rw [List.getLast_eq_getElem, List.getD, List.getElem?_map, List.getElem?_eq_getElem (by simp)]
  rfl

set_option maxHeartbeats 2000000 in
theorem fnLongest_walk (v : Value) (zs : List Int) (w : World) (h : Bs w v zs) (hT : TabB w) :
    Calls Tryd.prog 5 #[v] w fun e w' => e = .returned (.bool true) ∧ Below w.heap.size w w' := by
  have H := Hid.mk h
  clear h
  have HB := Hid.mk (big_any v zs w H.out)
  by_cases hlen : zs.length ≤ 1048576
  · have hd : decide ((1048576 : Int) < zs.length) = false := by simp; omega
    rw [hd] at HB
    clear hd
    go_enter Tryd.func5, Tryd.ntmps5
    go_wp2_with fail
    refine HB.out.mono ?_
    rintro e w1 ⟨rfl, hw⟩
    obtain rfl := hw.symm
    clear hw HB
    go_wp2_with fail
    refine (drawLongest_any v zs w H.out hlen).mono ?_
    rintro e w1 ⟨t, u, s, rfl, hts, hs6, hr1, hb1⟩
    have HIL := Hid.mk (fun (w' : World) (hb : Below w.heap.size w w') (B : Nat → Prop) (u : Value) (h : Rl w' B t.l u) => longest_any t B u s w' h hts (hT.grow hb))
    have HIM := Hid.mk (fun (w' : World) (hb : Below w.heap.size w w') (B : Nat → Prop) (u : Value) (h : Rl w' B t.l u) => matches_any t B u s w' h hts (hT.grow hb))
    have HSM := Hid.mk (fun (w' : World) (B : Nat → Prop) (u : Value) (h : Rl w' B t.l u) => specMatches_any t B u s w' h hts (by omega))
    have HIO := Hid.mk (fun (p : Nat) (w' : World) (hb : Below w.heap.size w w') (B : Nat → Prop) (u : Value) (h : Rl w' B t.l u) => endsOf_any t B u s (p : Int) w' h hts (hT.grow hb))
    have HFE := Hid.mk (first_end t s)
    have HNE := Hid.mk (no_end t s)
    obtain ⟨au, cu, rfl, -⟩ := hr1.len
    obtain ⟨b, hb⟩ : ∃ b, longE t s = b := ⟨_, rfl⟩
    obtain ⟨E, hE⟩ : ∃ E : Nat → List Nat, (fun (p : Nat) => endsL t s (p : Int)) = E := ⟨_, rfl⟩
    have hE' : ∀ p : Nat, endsL t s (p : Int) = E p := fun p => by rw [← hE]
    obtain ⟨tk, htk⟩ : ∃ tk, t.k = tk := ⟨_, rfl⟩
    obtain ⟨ts, hts'⟩ : ∃ ts, t.s = ts := ⟨_, rfl⟩
    obtain ⟨l, hl⟩ : ∃ l, t.l = l := ⟨_, rfl⟩
    simp only [hE'] at HIO HFE HNE
    rw [htk, hts', hl, hb] at HIL HIM HSM
    rw [htk, hts', hl] at HIO
    rw [hb] at HFE HNE
    rw [hl] at hr1
    rw [htk, hts', hl]
    obtain ⟨r0, r1, r2, hr, hsome, hfe, hne⟩ : ∃ (r0 r1 : Int) (r2 : Bool), longV b = .tuple #[.int .i64 r0, .int .i64 r1, .bool r2] ∧ b.isSome = r2 ∧ (∀ p e, b = some (p, e) → r0 = (p : Int) ∧ r1 = (e : Int) ∧ r2 = true) ∧ (b = none → r0 = 0 ∧ r1 = 0 ∧ r2 = false) := by
      cases b with
      | none => exact ⟨_, _, _, rfl, rfl, (fun p e h => by cases h), fun _ => ⟨rfl, rfl, rfl⟩⟩
      | some q => exact ⟨_, _, _, rfl, rfl, (fun p e h => by cases h; exact ⟨rfl, rfl, rfl⟩), fun h => by cases h⟩
    rw [hr] at HIL
    rw [hsome] at HIM HSM
    have HF : Hid (∀ p, p ≤ s.size → (∀ q, q < p → E q = []) → ∀ e, (E p).getLast? = some e → r0 = (p : Int) ∧ r1 = (e : Int) ∧ r2 = true) := fun p hp hq e he => hfe p e (HFE.out p hp hq e he)
    have HN : Hid ((∀ q, q ≤ s.size → E q = []) → r0 = 0 ∧ r1 = 0 ∧ r2 = false) := fun hq => hne (HNE.out hq)
    have A0 : Below w1.heap.size w1 (w1.alloc (.cells #[.int .i64 tk, .string ts, .slice au l.length cu] 26)) := (Below.refl _ _).alloc (Nat.le_refl _) _
    have X2 := Hid.mk (Bz3.new w1 (.int .i64 tk) (.string ts) (.slice au l.length cu))
    have R2 := Hid.mk (hr1.grow A0)
    have B2 := Hid.mk (hb1.trans (A0.mono hb1.size))
    have hrr : (r2 != r2) = false := by simp
    clear hts hr1 hb1 hE hE' htk hts' hl A0 t hr hsome hfe hne HFE HNE hb
    go_wp2_with fail
    generalize w1.alloc (.cells #[.int .i64 tk, .string ts, .slice au l.length cu] 26) = W2 at X2 R2 B2 ⊢
    generalize w1.heap.size = p0 at X2 ⊢
    clear w1
    refine (HIL.out W2 B2.out _ _ R2.out).mono ?_
    rintro e w3 ⟨rfl, hb3⟩
    have X3 := Hid.mk (X2.out.grow hb3)
    have R3 := Hid.mk (R2.out.grow hb3)
    have B3 := Hid.mk (B2.out.trans (hb3.mono B2.out.size))
    clear hb3 X2 R2 B2 HIL
    have x0 := X3.out.c0
    have x1 := X3.out.c1
    have x2 := X3.out.c2
    go_wp2_with fail
    refine (HIM.out w3 B3.out _ _ R3.out).mono ?_
    rintro e w4 ⟨rfl, hb4⟩
    have X4 := Hid.mk (X3.out.grow hb4)
    have R4 := Hid.mk (R3.out.grow hb4)
    have B4 := Hid.mk (B3.out.trans (hb4.mono B3.out.size))
    clear hb4 X3 R3 B3 HIM x0 x1 x2
    have x0 := X4.out.c0
    have x1 := X4.out.c1
    have x2 := X4.out.c2
    go_wp2_with fail
    refine (HSM.out w4 _ _ R4.out).mono ?_
    rintro e w5 ⟨rfl, hb5⟩
    have X5 := Hid.mk (X4.out.grow hb5)
    have R5 := Hid.mk (R4.out.grow hb5)
    have B5 := Hid.mk (B4.out.trans (hb5.mono B4.out.size))
    clear hb5 X4 R4 B4 HSM x0 x1 x2
    go_wp2
    clear hrr
    go_loopw [8] (fun q wr => ∃ k : Nat, k ≤ s.size + 1 ∧ q = .int .i64 k ∧ Hid (∀ j, j < k → E j = []) ∧ Hid (Bz3 wr p0 (.int .i64 tk) (.string ts) (.slice au l.length cu)) ∧ Hid (Rl wr (newFrom w.heap.size) l (.slice au l.length cu)) ∧ Hid (Below w.heap.size w wr)) (fun q _ => s.size + 1 - (intOf q).toNat)
    case atStart => exact ⟨0, Nat.zero_le _, rfl, (fun j hj => by omega), X5, R5, B5⟩
    case round =>
      obtain ⟨k, hk, rfl, HP, HX, HR, HBr⟩ := hrel
      clear X5 R5 B5
      by_cases hlt : (k : Int) ≤ (s.size : Int)
      · have x0 := HX.out.c0
        have x1 := HX.out.c1
        have x2 := HX.out.c2
        go_wp2_with fail
        refine (HIO.out k wr HBr.out _ _ HR.out).mono ?_
        rintro e w6 ⟨v6, rfl, ho6, hb6⟩
        have X6 := Hid.mk (HX.out.grow hb6)
        have R6 := Hid.mk (HR.out.grow hb6)
        have B6 := Hid.mk (HBr.out.trans (hb6.mono HBr.out.size))
        have I6 := OwnI.iz ho6
        clear x0 x1 x2 HX HR HBr hb6
        cases hEk : E k with
        | nil =>
          rw [hEk] at I6
          obtain ⟨a6, c6, rfl, -⟩ := I6
          have HP' : Hid (∀ j, j < k + 1 → E j = []) := fun j hj => by
            by_cases h : j = k
            · subst h; exact hEk
            · exact HP.out j (by omega)
          clear HP hEk ho6
          simp only [List.map_nil, List.length_nil]
          go_wp2
          go_roundw
          case rel => exact ⟨k + 1, by omega, by go_num, HP', X6, R6, B6⟩
          case measure => simp [intOf]; omega
        | cons y ys =>
          have hlast : (E k).getLast? = some ((y :: ys).getLast (by simp)) := by rw [hEk, List.getLast?_eq_some_getLast (by simp)]
          obtain ⟨e0, e1, e2⟩ := HF.out k (by omega) HP.out _ hlast
          rw [hEk] at I6
          obtain ⟨a6, c6, rfl, h1, h2, -, h4⟩ := I6
          obtain ⟨bq, off, rfl, hcell⟩ := h4 (by simp)
          have hcl := hcell ys.length (by simp)
          have hgl := map_last y ys
          rw [hgl, ← e1] at hcl
          subst e0 e2
          simp only [List.length_map, List.length_cons] at h1 ⊢
          have hpos : (0 : Int) < ((ys.length : Nat) : Int) + 1 := by omega
          have hcm : c6 ≤ 9223372036854775807 := by unfold maxLen at h2; omega
          have hyl : (ys.length : Int) ≤ 9223372036854775806 := by omega
          clear h2 h4 hcell hgl hlast hEk HP ho6 HF HN e1
          go_wp2
          go_ret
          exact ⟨rfl, B6.out⟩
      · obtain ⟨e0, e1, e2⟩ := HN.out (fun q hq => HP.out q (by omega))
        subst e0 e1 e2
        go_wp2
        go_ret
        exact ⟨rfl, HBr.out⟩
  · have hd : decide ((1048576 : Int) < zs.length) = true := by simp; omega
    rw [hd] at HB
    clear hd
    go_enter Tryd.func5, Tryd.ntmps5
    go_wp2_with fail
    refine HB.out.mono ?_
    rintro e w1 ⟨rfl, hw⟩
    obtain rfl := hw.symm
    go_wp2
    go_ret
    exact ⟨rfl, Below.refl _ _⟩
end Go.Proofs.YtapniafhcagogaaDoor
