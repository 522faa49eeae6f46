/- EndsOf, Longest and Matches: the model's answers. -/
import Derived.Test.YtapniafhcagogaaDoorSpecRow
import Derived.Test.YtapniafhcagogaaDoorExactRexOk
namespace Go.Proofs.YtapniafhcagogaaDoor
open Go.RowKit
set_option maxRecDepth 8000

/-- The places where what begins at this one may end. -/
def endsL (t : Tr) (s : ByteArray) (at' : Int) : List Nat := if okR t = true ∧ s.size ≤ 200 ∧ 0 ≤ at' ∧ at' ≤ s.size then rowL s.size (t.endM s at'.toNat) else []

theorem OwnI.mono {w : World} {base base' : Nat} {v : Value} {xs : List Nat} (h : OwnI w base v xs) (hle : base' ≤ base) : OwnI w base' v xs := by
  refine ⟨h.1, ?_⟩
  rcases h.2 with h' | ⟨g, cap, cur, e, hb, rest⟩
  · exact Or.inl h'
  · exact Or.inr ⟨g, cap, cur, e, Nat.le_trans hle hb, rest⟩

theorem okR_okT {t : Tr} (h : okR t = true) : t.okT = true := by
  unfold okR at h
  rw [Bool.and_eq_true] at h
  exact h.2

set_option maxHeartbeats 1000000 in
theorem specEndsOf_any (t : Tr) (B : Nat → Prop) (v : Value) (s : ByteArray) (at' : Int) (w : World) (h : Rl w B t.l v) (hts : t.s.size ≤ maxLen) (hs : s.size ≤ 1048576) :
    Calls Tryd.prog 15 #[rx t.k t.s v, .string s, .int .i64 at'] w fun e w' => ∃ u, e = .returned u ∧ OwnI w' w.heap.size u (endsL t s at') ∧ Below w.heap.size w w' := by
  have HRO := Hid.mk (fun (w' : World) (hb : Below w.heap.size w w') => specRexOk_any t B v w' (h.grow hb) hts)
  have HAL := Hid.mk (fun (h1 : s.size ≤ 200) (h2 : okR t = true) (w' : World) (hb : Below w.heap.size w w') => l4All_any s h1 t B v w' (h.grow hb) hts (okR_okT h2))
  have HE : Hid (endsL t s at' = if okR t = true ∧ s.size ≤ 200 ∧ 0 ≤ at' ∧ at' ≤ s.size then rowL s.size (t.endM s at'.toNat) else []) := rfl
  have HNIL : Hid (∀ wz, Below w.heap.size w wz → OwnI (wz.alloc (.cells #[] 3)) w.heap.size (.slice (some ⟨wz.heap.size, 0, none⟩) 0 0) []) := fun wz hz =>
    World.ownsRow_lit (base := w.heap.size) (e := 3) (size := 1) wz #[] 0 hz.size (by decide) rfl
  obtain ⟨ao, cap, rfl, -⟩ := h.len
  obtain ⟨E, hE⟩ : ∃ E, endsL t s at' = E := ⟨_, rfl⟩
  obtain ⟨M, hM⟩ : ∃ M, t.endM s = M := ⟨_, rfl⟩
  obtain ⟨ok, hok⟩ : ∃ ok, okR t = ok := ⟨_, rfl⟩
  obtain ⟨tk, htk⟩ : ∃ tk, t.k = tk := ⟨_, rfl⟩
  obtain ⟨ts, hts'⟩ : ∃ ts, t.s = ts := ⟨_, rfl⟩
  obtain ⟨l, hl⟩ : ∃ l, t.l = l := ⟨_, rfl⟩
  rw [htk, hts', hl, hok] at HRO
  rw [htk, hts', hl, hok, hM] at HAL
  rw [hE, hok, hM] at HE
  rw [htk, hts', hl, hE]
  clear h hts htk hts' hl hok hE hM
  have A0 : Below w.heap.size w (w.alloc (.cells #[.int .i64 tk, .string ts, .slice ao l.length cap] 26)) := (Below.refl _ _).alloc (Nat.le_refl _) _
  have X0 := Hid.mk (Bz3.new w (.int .i64 tk) (.string ts) (.slice ao l.length cap))
  cases ok with
  | false =>
    have hEE : E = [] := by rw [HE.out, if_neg (by simp)]
    subst hEE
    go_enter Tryd.func15, Tryd.ntmps15
    go_wp2_with fail
    refine (HRO.out _ A0).mono ?_
    rintro e w1 ⟨rfl, hb1⟩
    have B1 := Hid.mk (A0.trans (hb1.mono (by simp)))
    have X1 := X0.out.grow hb1
    have x0 := X1.c0
    have x1 := X1.c1
    have x2 := X1.c2
    clear hb1 HRO HAL HE X1
    go_wp2
    go_ret
    exact ⟨_, rfl, HNIL.out w1 B1.out, B1.out.alloc B1.out.size _⟩
  | true =>
    by_cases hsz : s.size ≤ 200
    · have hs0 : ¬ (200 : Int) < (s.size : Int) := by omega
      cases hin : inB 0 (s.size : Int) at' with
      | false =>
        have hEE : E = [] := by
          rw [HE.out, if_neg]
          rintro ⟨_, _, h1, h2⟩
          simp [inB, h1, h2] at hin
        subst hEE
        have HIN := Hid.mk (fun w' => l1In_any at' 0 (s.size : Int) w')
        rw [hin] at HIN
        clear hin
        go_enter Tryd.func15, Tryd.ntmps15
        go_wp2_with fail
        refine (HRO.out _ A0).mono ?_
        rintro e w1 ⟨rfl, hb1⟩
        have B1 := Hid.mk (A0.trans (hb1.mono (by simp)))
        have X1 := X0.out.grow hb1
        have x0 := X1.c0
        have x1 := X1.c1
        have x2 := X1.c2
        clear hb1 HRO HAL HE X1
        go_wp2_with (go_at_call 48; refine (HIN.out _).mono ?_; rintro e w' ⟨rfl, rfl⟩)
        go_ret
        exact ⟨_, rfl, HNIL.out _ B1.out, B1.out.alloc B1.out.size _⟩
      | true =>
        have hat : 0 ≤ at' ∧ at' ≤ s.size := by
          simp [inB] at hin
          omega
        obtain ⟨p, rfl⟩ := Int.eq_ofNat_of_zero_le hat.1
        have hpn : p ≤ s.size := by omega
        have hEE : E = rowL s.size (M p) := by
          rw [HE.out, if_pos ⟨rfl, hsz, by omega, by omega⟩]
          simp
        subst hEE
        have HIN := Hid.mk (fun w' => l1In_any (p : Int) 0 (s.size : Int) w')
        rw [hin] at HIN
        have HAL' := Hid.mk (HAL.out hsz rfl)
        clear hin HAL HE
        go_enter Tryd.func15, Tryd.ntmps15
        go_wp2_with fail
        refine (HRO.out _ A0).mono ?_
        rintro e w1 ⟨rfl, hb1⟩
        have B1 := Hid.mk (A0.trans (hb1.mono (by simp)))
        have X1 := X0.out.grow hb1
        have x0 := X1.c0
        have x1 := X1.c1
        have x2 := X1.c2
        clear hb1 HRO X1
        go_wp2_with (go_at_call 48; refine (HIN.out _).mono ?_; rintro e w' ⟨rfl, rfl⟩)
        refine (HAL'.out _ B1.out).mono ?_
        rintro e w2 ⟨v2, rfl, ⟨g, cg, R, rfl, hc1, hc2, hap, hq⟩, hb2⟩
        have B2 := Hid.mk (B1.out.trans (hb2.mono B1.out.size))
        have o1 := hq.outer p hpn
        have HROW := Hid.mk (l4Row_any s.size hsz (M p) (R p) w2 (hq.inner p hpn))
        have hcm : cg ≤ 9223372036854775807 := by unfold maxLen at hc2; omega
        have hpi : (p : Int) < (s.size : Int) + 1 := by omega
        clear hb2 hap hq hc1 hc2 B1 HAL' x0 x1 x2
        go_wp2_with fail
        refine HROW.out.mono ?_
        rintro e w3 ⟨v3, rfl, ho3, hb3⟩
        have B3 := Hid.mk (B2.out.trans (hb3.mono B2.out.size))
        have HO3 := Hid.mk (OwnI.mono ho3 B2.out.size)
        clear hb3 ho3 HROW o1
        go_wp2
        go_ret
        exact ⟨_, rfl, HO3.out, B3.out⟩
    · have hs0 : (200 : Int) < (s.size : Int) := by omega
      have hEE : E = [] := by rw [HE.out, if_neg (fun h => hsz h.2.1)]
      subst hEE
      go_enter Tryd.func15, Tryd.ntmps15
      go_wp2_with fail
      refine (HRO.out _ A0).mono ?_
      rintro e w1 ⟨rfl, hb1⟩
      have B1 := Hid.mk (A0.trans (hb1.mono (by simp)))
      have X1 := X0.out.grow hb1
      have x0 := X1.c0
      have x1 := X1.c1
      have x2 := X1.c2
      clear hb1 HRO HAL HE X1
      go_wp2
      go_ret
      exact ⟨_, rfl, HNIL.out w1 B1.out, B1.out.alloc B1.out.size _⟩

/-- The first place from i on that has an end, and its last one. -/
def longF (n : Nat) (M : Mat) (i : Nat) : Nat → Option (Nat × Nat)
  | 0 => none
  | d + 1 => match (rowL n (M i)).getLast? with
    | some e => some (i, e)
    | none => longF n M (i + 1) d
/-- What is longest. -/
def longE (t : Tr) (s : ByteArray) : Option (Nat × Nat) := if okR t = true ∧ s.size ≤ 200 then longF s.size (t.endM s) 0 (s.size + 1) else none
def longV : Option (Nat × Nat) → Value
  | none => .tuple #[.int .i64 0, .int .i64 0, .bool false]
  | some (i, e) => .tuple #[.int .i64 (i : Int), .int .i64 (e : Int), .bool true]

theorem OwnI.value {w : World} {base : Nat} {v : Value} {xs : List Nat} (h : OwnI w base v xs) : (v = .slice none 0 0 ∧ xs = []) ∨ ∃ g cap, v = .slice (some ⟨g, 0, none⟩) xs.length cap ∧ cap ≤ maxLen ∧ xs.length ≤ cap ∧ base ≤ g ∧ ∀ j (hj : j < xs.length), w.cell? ⟨g, j, none⟩ = some (.int .i64 (xs[j] : Int)) := by
  rcases h.2 with ⟨h1, h2⟩ | ⟨g, cap, cur, rfl, hb, hg, hn, hm, rest⟩
  · exact Or.inl ⟨h1, List.length_eq_zero_iff.1 h2⟩
  · refine Or.inr ⟨g, cap, rfl, hm, hn, hb, fun j hj => ?_⟩
    rw [World.ownsRow.cellAt h j (by omega)]
    simp [hj]

theorem rowL_len (n : Nat) (f : Nat → Bool) : (rowL n f).length ≤ n + 1 := rowUpto_len f (n + 1)

set_option maxHeartbeats 1000000 in
theorem specLongest_any (t : Tr) (B : Nat → Prop) (v : Value) (s : ByteArray) (w : World) (h : Rl w B t.l v) (hts : t.s.size ≤ maxLen) (hs : s.size ≤ 1048576) :
    Calls Tryd.prog 37 #[rx t.k t.s v, .string s] w fun e w' => e = .returned (longV (longE t s)) ∧ Below w.heap.size w w' := by
  have HRO := Hid.mk (fun (w' : World) (hb : Below w.heap.size w w') => specRexOk_any t B v w' (h.grow hb) hts)
  have HAL := Hid.mk (fun (h1 : s.size ≤ 200) (h2 : okR t = true) (w' : World) (hb : Below w.heap.size w w') => l4All_any s h1 t B v w' (h.grow hb) hts (okR_okT h2))
  have HE : Hid (longE t s = if okR t = true ∧ s.size ≤ 200 then longF s.size (t.endM s) 0 (s.size + 1) else none) := rfl
  obtain ⟨ao, cap, rfl, -⟩ := h.len
  obtain ⟨E, hE⟩ : ∃ E, longE t s = E := ⟨_, rfl⟩
  obtain ⟨M, hM⟩ : ∃ M, t.endM s = M := ⟨_, rfl⟩
  obtain ⟨ok, hok⟩ : ∃ ok, okR t = ok := ⟨_, rfl⟩
  obtain ⟨tk, htk⟩ : ∃ tk, t.k = tk := ⟨_, rfl⟩
  obtain ⟨ts, hts'⟩ : ∃ ts, t.s = ts := ⟨_, rfl⟩
  obtain ⟨l, hl⟩ : ∃ l, t.l = l := ⟨_, rfl⟩
  rw [htk, hts', hl, hok] at HRO
  rw [htk, hts', hl, hok, hM] at HAL
  rw [hE, hok, hM] at HE
  rw [htk, hts', hl, hE]
  clear h hts htk hts' hl hok hE hM
  have A0 : Below w.heap.size w (w.alloc (.cells #[.int .i64 tk, .string ts, .slice ao l.length cap] 26)) := (Below.refl _ _).alloc (Nat.le_refl _) _
  have X0 := Hid.mk (Bz3.new w (.int .i64 tk) (.string ts) (.slice ao l.length cap))
  by_cases hno : ok = false ∨ ¬ s.size ≤ 200
  · have hEE : E = none := by
      rw [HE.out, if_neg]
      rintro ⟨h1, h2⟩
      rcases hno with h | h
      · rw [h] at h1; cases h1
      · exact h h2
    subst hEE
    cases ok with
    | false =>
      go_enter Tryd.func37, Tryd.ntmps37
      go_wp2_with fail
      refine (HRO.out _ A0).mono ?_
      rintro e w1 ⟨rfl, hb1⟩
      have B1 := Hid.mk (A0.trans (hb1.mono (by simp)))
      clear hb1 HRO HAL HE
      go_wp2
      go_ret3
      exact ⟨rfl, B1.out⟩
    | true =>
      have hs0 : (200 : Int) < (s.size : Int) := by
        rcases hno with h | h
        · cases h
        · omega
      go_enter Tryd.func37, Tryd.ntmps37
      go_wp2_with fail
      refine (HRO.out _ A0).mono ?_
      rintro e w1 ⟨rfl, hb1⟩
      have B1 := Hid.mk (A0.trans (hb1.mono (by simp)))
      clear hb1 HRO HAL HE
      go_wp2
      go_ret3
      exact ⟨rfl, B1.out⟩
  · obtain rfl : ok = true := by
      cases ok with
      | true => rfl
      | false => exact absurd (Or.inl rfl) hno
    have hsz : s.size ≤ 200 := Decidable.byContradiction fun h => hno (Or.inr h)
    have HEE : Hid (E = longF s.size M 0 (s.size + 1)) := by show _ = _; rw [HE.out, if_pos ⟨rfl, hsz⟩]
    have hs0 : ¬ (200 : Int) < (s.size : Int) := by omega
    have HAL' := Hid.mk (HAL.out hsz rfl)
    clear HE HAL hno
    go_enter Tryd.func37, Tryd.ntmps37
    go_wp2_with fail
    refine (HRO.out _ A0).mono ?_
    rintro e w1 ⟨rfl, hb1⟩
    have B1 := Hid.mk (A0.trans (hb1.mono (by simp)))
    have X1 := X0.out.grow hb1
    have x0 := X1.c0
    have x1 := X1.c1
    have x2 := X1.c2
    clear hb1 HRO X1
    go_wp2_with fail
    refine (HAL'.out _ B1.out).mono ?_
    rintro e w2 ⟨v2, rfl, ⟨g, cg, R, rfl, hc1, hc2, hap, hq⟩, hb2⟩
    have B2 := Hid.mk (B1.out.trans (hb2.mono B1.out.size))
    have HQ2 := Hid.mk hq
    have hcm : cg ≤ 9223372036854775807 := by unfold maxLen at hc2; omega
    have HROW := Hid.mk (fun (wz : World) (i : Nat) (hi : i ≤ s.size) (hq : Mq wz g R s.size M) => l4Row_any s.size hsz (M i) (R i) wz (hq.inner i hi))
    clear hb2 hap hq hc1 hc2 B1 HAL' x0 x1 x2
    go_wp2
    go_loopw [8] (fun q wr => ∃ (i : Nat), i ≤ s.size + 1 ∧ q = .int .i64 i ∧ Hid (E = longF s.size M i (s.size + 1 - i)) ∧ Hid (Mq wr g R s.size M) ∧ Hid (Below w.heap.size w wr)) (fun q _ => s.size + 1 - (intOf q).toNat)
    case atStart => exact ⟨0, Nat.zero_le _, rfl, HEE, HQ2, B2⟩
    case round =>
      obtain ⟨i, hi, rfl, HEr, HQr, HBr⟩ := hrel
      clear HEE HQ2 B2
      by_cases hin : (i : Int) ≤ (s.size : Int)
      · have hil : i ≤ s.size := by omega
        have o1 := HQr.out.outer i hil
        have HC := Hid.mk (HROW.out wr i hil HQr.out)
        have HEN : Hid (E = match (rowL s.size (M i)).getLast? with | some e => some (i, e) | none => longF s.size M (i + 1) (s.size + 1 - (i + 1))) := by
          show _ = _
          rw [HEr.out, show s.size + 1 - i = (s.size + 1 - (i + 1)) + 1 by omega, longF]
        have hrl := rowL_len s.size (M i)
        obtain ⟨L, hL⟩ : ∃ L, rowL s.size (M i) = L := ⟨_, rfl⟩
        rw [hL] at HC HEN hrl
        clear hL HEr
        go_wp2_with fail
        refine HC.out.mono ?_
        rintro e w3 ⟨v3, rfl, ho3, hb3⟩
        have HQ3 := Hid.mk (HQr.out.grow hb3)
        have B3 := Hid.mk (HBr.out.trans (hb3.mono HBr.out.size))
        by_cases hLn : L = []
        · subst hLn
          have HE3 : Hid (E = longF s.size M (i + 1) (s.size + 1 - (i + 1))) := HEN.out
          rcases ho3.value with ⟨rfl, -⟩ | ⟨g3, c3, rfl, hc3, -, -, -⟩
          · clear hb3 ho3 HEN HC o1 HQr HBr
            go_wp2
            go_roundw
            case rel => exact ⟨i + 1, by omega, by go_num, HE3, HQ3, B3⟩
            case measure => simp [intOf]; omega
          · have hc3' : c3 ≤ 9223372036854775807 := by unfold maxLen at hc3; omega
            clear hb3 ho3 HEN HC o1 HQr HBr hc3
            go_wp2
            go_roundw
            case rel => exact ⟨i + 1, by omega, by go_num, HE3, HQ3, B3⟩
            case measure => simp [intOf]; omega
        · have hlp : 0 < L.length := List.length_pos_iff.2 hLn
          obtain ⟨z, hz⟩ : ∃ z, L.getLast? = some z := ⟨_, List.getLast?_eq_some_getLast hLn⟩
          have hzl : L[L.length - 1]'(by omega) = z := by
            rw [List.getLast?_eq_getElem?, List.getElem?_eq_getElem (by omega)] at hz
            exact Option.some.inj hz
          have HE3 : E = some (i, z) := by rw [HEN.out, hz]
          subst HE3
          rcases ho3.value with ⟨rfl, h0⟩ | ⟨g3, c3, rfl, hc3, hc4, -, hcell⟩
          · exact absurd h0 hLn
          · have y1 := hcell (L.length - 1) (by omega)
            rw [hzl] at y1
            have hc3' : c3 ≤ 9223372036854775807 := by unfold maxLen at hc3; omega
            obtain ⟨m, hm⟩ : ∃ m, L.length = m + 1 := ⟨L.length - 1, by omega⟩
            rw [hm] at y1 hc4 ⊢
            have y1' : w3.cell? ⟨g3, m, none⟩ = some (.int .i64 (z : Int)) := y1
            have hm2 : m ≤ 300 := by omega
            clear hb3 ho3 HEN HC o1 HQr HBr hc3 hcell hz hzl y1 hm hrl hlp
            go_wp2
            go_quiet (fail)
            go_wp2
            go_ret3
            exact ⟨rfl, B3.out.trans (Below.drewSelf _ _ _)⟩
      · have hEE : E = none := by rw [HEr.out, show s.size + 1 - i = 0 by omega]; rfl
        subst hEE
        clear HEr
        go_wp2
        go_ret3
        exact ⟨rfl, HBr.out⟩

set_option maxHeartbeats 1000000 in
theorem specMatches_any (t : Tr) (B : Nat → Prop) (v : Value) (s : ByteArray) (w : World) (h : Rl w B t.l v) (hts : t.s.size ≤ maxLen) (hs : s.size ≤ 1048576) :
    Calls Tryd.prog 26 #[rx t.k t.s v, .string s] w fun e w' => e = .returned (.bool (longE t s).isSome) ∧ Below w.heap.size w w' := by
  have HL := Hid.mk (fun (w' : World) (hb : Below w.heap.size w w') => specLongest_any t B v s w' (h.grow hb) hts hs)
  obtain ⟨ao, cap, rfl, -⟩ := h.len
  have A0 : Below w.heap.size w (w.alloc (.cells #[.int .i64 t.k, .string t.s, .slice ao t.l.length cap] 26)) := (Below.refl _ _).alloc (Nat.le_refl _) _
  have RB : Below w.heap.size w w := Below.refl _ _
  cases hE : longE t s with
  | none =>
    rw [hE] at HL
    clear h hts hE
    go_enter Tryd.func26, Tryd.ntmps26
    go_wp2_with fail
    refine (HL.out _ (by first | exact RB | exact A0)).mono ?_
    rintro e w1 ⟨rfl, hb1⟩
    have B1 : Below w.heap.size w w1 := by first | exact hb1 | exact A0.trans (hb1.mono (by simp))
    clear hb1 HL A0 RB
    unfold longV
    go_wp2
    go_ret
    exact ⟨rfl, B1⟩
  | some p =>
    obtain ⟨i, z⟩ := p
    rw [hE] at HL
    clear h hts hE
    go_enter Tryd.func26, Tryd.ntmps26
    go_wp2_with fail
    refine (HL.out _ (by first | exact RB | exact A0)).mono ?_
    rintro e w1 ⟨rfl, hb1⟩
    have B1 : Below w.heap.size w w1 := by first | exact hb1 | exact A0.trans (hb1.mono (by simp))
    clear hb1 HL A0 RB
    unfold longV
    go_wp2
    go_ret
    exact ⟨rfl, B1⟩
end Go.Proofs.YtapniafhcagogaaDoor
