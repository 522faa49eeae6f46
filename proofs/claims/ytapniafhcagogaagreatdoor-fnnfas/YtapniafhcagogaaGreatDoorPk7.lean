/- EndsOf, Longest and Matches: the model's answers. The places that have an end, each with its ends: the iterator. Matches and Longest: the program's. Longest: the program's. EndsOf: the program's; the places of a set collected. The cursor of a draw: one of some texts, and whether something comes once in so often. Drawn regular expressions: parts without parts. An expression more at the end of a list that is owned, or of none; and trees as they are drawn. -/
import Derived.Test.YtapniafhcagogaaGreatDoorSpecRow
import Derived.Test.YtapniafhcagogaaGreatDoorPk3
import Derived.Test.YtapniafhcagogaaGreatDoorPk6
import Derived.ChangeKeysEq
import Derived.Laws.StructEq
import Derived.Maps.AppendAt
import Derived.Test.YtapniafhcagogaaGreatDoorCur
import Derived.Test.YtapniafhcagogaaGreatDoorRexBox
import Derived.Test.YtapniafhcagogaaGreatDoorRexOkI
import Derived.Test.YtapniafhcagogaaGreatDoorRexTo
namespace Go.Proofs.YtapniafhcagogaaGreatDoor
open Go.RowKit
set_option maxRecDepth 8000

/-- The places where what begins at this one may end. -/
def endsL (t : Tr) (s : ByteArray) (at' : Int) : List Nat := if okR t = true ∧ s.size ≤ 200 ∧ 0 ≤ at' ∧ at' ≤ s.size then rowL s.size (t.endM s at'.toNat) else []

theorem OwnI.mono {w : World} {base base' : Nat} {v : Value} {xs : List Nat} (h : OwnI w base v xs) (hle : base' ≤ base) : OwnI w base' v xs := by
  refine ⟨h.1, ?_⟩
  rcases h.2 with h' | ⟨g, cap, cur, e, hb, rest⟩
  · exact Or.inl h'
  · exact Or.inr ⟨g, cap, cur, e, Nat.le_trans hle hb, rest⟩

theorem okR_okT {t : Tr} (h : okR t = true) : t.okT = true := by
  unfold okR at h
  rw [Bool.and_eq_true] at h
  exact h.2

/-- The first place from i on that has an end, and its last one. -/
def longF (n : Nat) (M : Mat) (i : Nat) : Nat → Option (Nat × Nat)
  | 0 => none
  | d + 1 => match (rowL n (M i)).getLast? with
    | some e => some (i, e)
    | none => longF n M (i + 1) d
/-- What is longest. -/
def longE (t : Tr) (s : ByteArray) : Option (Nat × Nat) := if okR t = true ∧ s.size ≤ 200 then longF s.size (t.endM s) 0 (s.size + 1) else none
def longV : Option (Nat × Nat) → Value
  | none => .tuple #[.int .i64 0, .int .i64 0, .bool false]
  | some (i, e) => .tuple #[.int .i64 (i : Int), .int .i64 (e : Int), .bool true]

theorem OwnI.value {w : World} {base : Nat} {v : Value} {xs : List Nat} (h : OwnI w base v xs) : (v = .slice none 0 0 ∧ xs = []) ∨ ∃ g cap, v = .slice (some ⟨g, 0, none⟩) xs.length cap ∧ cap ≤ maxLen ∧ xs.length ≤ cap ∧ base ≤ g ∧ ∀ j (hj : j < xs.length), w.cell? ⟨g, j, none⟩ = some (.int .i64 (xs[j] : Int)) := by
  rcases h.2 with ⟨h1, h2⟩ | ⟨g, cap, cur, rfl, hb, hg, hn, hm, rest⟩
  · exact Or.inl ⟨h1, List.length_eq_zero_iff.1 h2⟩
  · refine Or.inr ⟨g, cap, rfl, hm, hn, hb, fun j hj => ?_⟩
    rw [World.ownsRow.cellAt h j (by omega)]
    simp [hj]

theorem rowL_len (n : Nat) (f : Nat → Bool) : (rowL n f).length ≤ n + 1 := rowUpto_len f (n + 1)

set_option maxHeartbeats 1000000 in
theorem specLongest_any (t : Tr) (B : Nat → Prop) (v : Value) (s : ByteArray) (w : World) (h : Rl w B t.l v) (hts : t.s.size ≤ maxLen) (hs : s.size ≤ 1048576) :
    Calls Tryz.prog 24 #[rx t.k t.s v, .string s] w fun e w' => e = .returned (longV (longE t s)) ∧ Below w.heap.size w w' := by
  have HRO := Hid.mk (fun (w' : World) (hb : Below w.heap.size w w') => specRexOk_any t B v w' (h.grow hb) hts)
  have HAL := Hid.mk (fun (h1 : s.size ≤ 200) (h2 : okR t = true) (w' : World) (hb : Below w.heap.size w w') => l4All_any s h1 t B v w' (h.grow hb) hts (okR_okT h2))
  have HE : Hid (longE t s = if okR t = true ∧ s.size ≤ 200 then longF s.size (t.endM s) 0 (s.size + 1) else none) := rfl
  obtain ⟨ao, cap, rfl, -⟩ := h.len
  obtain ⟨E, hE⟩ : ∃ E, longE t s = E := ⟨_, rfl⟩
  obtain ⟨M, hM⟩ : ∃ M, t.endM s = M := ⟨_, rfl⟩
  obtain ⟨ok, hok⟩ : ∃ ok, okR t = ok := ⟨_, rfl⟩
  obtain ⟨tk, htk⟩ : ∃ tk, t.k = tk := ⟨_, rfl⟩
  obtain ⟨ts, hts'⟩ : ∃ ts, t.s = ts := ⟨_, rfl⟩
  obtain ⟨l, hl⟩ : ∃ l, t.l = l := ⟨_, rfl⟩
  rw [htk, hts', hl, hok] at HRO
  rw [htk, hts', hl, hok, hM] at HAL
  rw [hE, hok, hM] at HE
  rw [htk, hts', hl, hE]
  clear h hts htk hts' hl hok hE hM
  have A0 : Below w.heap.size w (w.alloc (.cells #[.int .i64 tk, .string ts, .slice ao l.length cap] 26)) := (Below.refl _ _).alloc (Nat.le_refl _) _
  have X0 := Hid.mk (Bz3.new w (.int .i64 tk) (.string ts) (.slice ao l.length cap))
  by_cases hno : ok = false ∨ ¬ s.size ≤ 200
  · have hEE : E = none := by
      rw [HE.out, if_neg]
      rintro ⟨h1, h2⟩
      rcases hno with h | h
      · rw [h] at h1; cases h1
      · exact h h2
    subst hEE
    cases ok with
    | false =>
      go_enter Tryz.func24, Tryz.ntmps24
      go_wp2_with fail
      refine (HRO.out _ A0).mono ?_
      rintro e w1 ⟨rfl, hb1⟩
      have B1 := Hid.mk (A0.trans (hb1.mono (by simp)))
      clear hb1 HRO HAL HE
      go_wp2
      go_ret3
      exact ⟨rfl, B1.out⟩
    | true =>
      have hs0 : (200 : Int) < (s.size : Int) := by
        rcases hno with h | h
        · cases h
        · omega
      go_enter Tryz.func24, Tryz.ntmps24
      go_wp2_with fail
      refine (HRO.out _ A0).mono ?_
      rintro e w1 ⟨rfl, hb1⟩
      have B1 := Hid.mk (A0.trans (hb1.mono (by simp)))
      clear hb1 HRO HAL HE
      go_wp2
      go_ret3
      exact ⟨rfl, B1.out⟩
  · obtain rfl : ok = true := by
      cases ok with
      | true => rfl
      | false => exact absurd (Or.inl rfl) hno
    have hsz : s.size ≤ 200 := Decidable.byContradiction fun h => hno (Or.inr h)
    have HEE : Hid (E = longF s.size M 0 (s.size + 1)) := by show _ = _; rw [HE.out, if_pos ⟨rfl, hsz⟩]
    have hs0 : ¬ (200 : Int) < (s.size : Int) := by omega
    have HAL' := Hid.mk (HAL.out hsz rfl)
    clear HE HAL hno
    go_enter Tryz.func24, Tryz.ntmps24
    go_wp2_with fail
    refine (HRO.out _ A0).mono ?_
    rintro e w1 ⟨rfl, hb1⟩
    have B1 := Hid.mk (A0.trans (hb1.mono (by simp)))
    have X1 := X0.out.grow hb1
    have x0 := X1.c0
    have x1 := X1.c1
    have x2 := X1.c2
    clear hb1 HRO X1
    go_wp2_with fail
    refine (HAL'.out _ B1.out).mono ?_
    rintro e w2 ⟨v2, rfl, ⟨g, cg, R, rfl, hc1, hc2, hap, hq⟩, hb2⟩
    have B2 := Hid.mk (B1.out.trans (hb2.mono B1.out.size))
    have HQ2 := Hid.mk hq
    have hcm : cg ≤ 9223372036854775807 := by unfold maxLen at hc2; omega
    have HROW := Hid.mk (fun (wz : World) (i : Nat) (hi : i ≤ s.size) (hq : Mq wz g R s.size M) => l4Row_any s.size hsz (M i) (R i) wz (hq.inner i hi))
    clear hb2 hap hq hc1 hc2 B1 HAL' x0 x1 x2
    go_wp2
    go_loopw [8] (fun q wr => ∃ (i : Nat), i ≤ s.size + 1 ∧ q = .int .i64 i ∧ Hid (E = longF s.size M i (s.size + 1 - i)) ∧ Hid (Mq wr g R s.size M) ∧ Hid (Below w.heap.size w wr)) (fun q _ => s.size + 1 - (intOf q).toNat)
    case atStart => exact ⟨0, Nat.zero_le _, rfl, HEE, HQ2, B2⟩
    case round =>
      obtain ⟨i, hi, rfl, HEr, HQr, HBr⟩ := hrel
      clear HEE HQ2 B2
      by_cases hin : (i : Int) ≤ (s.size : Int)
      · have hil : i ≤ s.size := by omega
        have o1 := HQr.out.outer i hil
        have HC := Hid.mk (HROW.out wr i hil HQr.out)
        have HEN : Hid (E = match (rowL s.size (M i)).getLast? with | some e => some (i, e) | none => longF s.size M (i + 1) (s.size + 1 - (i + 1))) := by
          show _ = _
          rw [HEr.out, show s.size + 1 - i = (s.size + 1 - (i + 1)) + 1 by omega, longF]
        have hrl := rowL_len s.size (M i)
        obtain ⟨L, hL⟩ : ∃ L, rowL s.size (M i) = L := ⟨_, rfl⟩
        rw [hL] at HC HEN hrl
        clear hL HEr
        go_wp2_with fail
        refine HC.out.mono ?_
        rintro e w3 ⟨v3, rfl, ho3, hb3⟩
        have HQ3 := Hid.mk (HQr.out.grow hb3)
        have B3 := Hid.mk (HBr.out.trans (hb3.mono HBr.out.size))
        by_cases hLn : L = []
        · subst hLn
          have HE3 : Hid (E = longF s.size M (i + 1) (s.size + 1 - (i + 1))) := HEN.out
          rcases ho3.value with ⟨rfl, -⟩ | ⟨g3, c3, rfl, hc3, -, -, -⟩
          · clear hb3 ho3 HEN HC o1 HQr HBr
            go_wp2
            go_roundw
            case rel => exact ⟨i + 1, by omega, by go_num, HE3, HQ3, B3⟩
            case measure => simp [intOf]; omega
          · have hc3' : c3 ≤ 9223372036854775807 := by unfold maxLen at hc3; omega
            clear hb3 ho3 HEN HC o1 HQr HBr hc3
            go_wp2
            go_roundw
            case rel => exact ⟨i + 1, by omega, by go_num, HE3, HQ3, B3⟩
            case measure => simp [intOf]; omega
        · have hlp : 0 < L.length := List.length_pos_iff.2 hLn
          obtain ⟨z, hz⟩ : ∃ z, L.getLast? = some z := ⟨_, List.getLast?_eq_some_getLast hLn⟩
          have hzl : L[L.length - 1]'(by omega) = z := by
            rw [List.getLast?_eq_getElem?, List.getElem?_eq_getElem (by omega)] at hz
            exact Option.some.inj hz
          have HE3 : E = some (i, z) := by rw [HEN.out, hz]
          subst HE3
          rcases ho3.value with ⟨rfl, h0⟩ | ⟨g3, c3, rfl, hc3, hc4, -, hcell⟩
          · exact absurd h0 hLn
          · have y1 := hcell (L.length - 1) (by omega)
            rw [hzl] at y1
            have hc3' : c3 ≤ 9223372036854775807 := by unfold maxLen at hc3; omega
            obtain ⟨m, hm⟩ : ∃ m, L.length = m + 1 := ⟨L.length - 1, by omega⟩
            rw [hm] at y1 hc4 ⊢
            have y1' : w3.cell? ⟨g3, m, none⟩ = some (.int .i64 (z : Int)) := y1
            have hm2 : m ≤ 300 := by omega
            clear hb3 ho3 HEN HC o1 HQr HBr hc3 hcell hz hzl y1 hm hrl hlp
            go_wp2
            go_quiet (fail)
            go_wp2
            go_ret3
            exact ⟨rfl, B3.out.trans (Below.drewSelf _ _ _)⟩
      · have hEE : E = none := by rw [HEr.out, show s.size + 1 - i = 0 by omega]; rfl
        subst hEE
        clear HEr
        go_wp2
        go_ret3
        exact ⟨rfl, HBr.out⟩

set_option maxHeartbeats 1000000 in
theorem specMatches_any (t : Tr) (B : Nat → Prop) (v : Value) (s : ByteArray) (w : World) (h : Rl w B t.l v) (hts : t.s.size ≤ maxLen) (hs : s.size ≤ 1048576) :
    Calls Tryz.prog 10 #[rx t.k t.s v, .string s] w fun e w' => e = .returned (.bool (longE t s).isSome) ∧ Below w.heap.size w w' := by
  have HL := Hid.mk (fun (w' : World) (hb : Below w.heap.size w w') => specLongest_any t B v s w' (h.grow hb) hts hs)
  obtain ⟨ao, cap, rfl, -⟩ := h.len
  have A0 : Below w.heap.size w (w.alloc (.cells #[.int .i64 t.k, .string t.s, .slice ao t.l.length cap] 26)) := (Below.refl _ _).alloc (Nat.le_refl _) _
  have RB : Below w.heap.size w w := Below.refl _ _
  cases hE : longE t s with
  | none =>
    rw [hE] at HL
    clear h hts hE
    go_enter Tryz.func10, Tryz.ntmps10
    go_wp2_with fail
    refine (HL.out _ (by first | exact RB | exact A0)).mono ?_
    rintro e w1 ⟨rfl, hb1⟩
    have B1 : Below w.heap.size w w1 := by first | exact hb1 | exact A0.trans (hb1.mono (by simp))
    clear hb1 HL A0 RB
    unfold longV
    go_wp2
    go_ret
    exact ⟨rfl, B1⟩
  | some p =>
    obtain ⟨i, z⟩ := p
    rw [hE] at HL
    clear h hts hE
    go_enter Tryz.func10, Tryz.ntmps10
    go_wp2_with fail
    refine (HL.out _ (by first | exact RB | exact A0)).mono ?_
    rintro e w1 ⟨rfl, hb1⟩
    have B1 : Below w.heap.size w w1 := by first | exact hb1 | exact A0.trans (hb1.mono (by simp))
    clear hb1 HL A0 RB
    unfold longV
    go_wp2
    go_ret
    exact ⟨rfl, B1⟩
end Go.Proofs.YtapniafhcagogaaGreatDoor

namespace Go.Proofs.YtapniafhcagogaaGreatDoor
open Go.RowKit Go.Shelf
set_option maxRecDepth 8000

attribute [local go_sem] Oper.semAt_some

/-- Whether a place has an end. -/
def neB (M : Mat) (i : Nat) : Bool := !(rowUpto (M i) 256).isEmpty

theorem wd_zero {f : Nat → Bool} {j : Nat} : wd f j = 0 ↔ ∀ b, b < 64 → f (64 * j + b) = false := by
  constructor
  · intro h b hb
    have := wd_test f j b
    rw [h, Nat.zero_testBit, decide_eq_true hb, Bool.true_and] at this
    exact this.symm
  · intro h
    apply Nat.eq_of_testBit_eq
    intro b
    rw [wd_test, Nat.zero_testBit]
    by_cases hb : b < 64
    · rw [h b hb, Bool.and_false]
    · rw [decide_eq_false hb, Bool.false_and]
theorem neB_false {M : Mat} {i : Nat} : neB M i = false ↔ wd (M i) 0 = 0 ∧ wd (M i) 1 = 0 ∧ wd (M i) 2 = 0 ∧ wd (M i) 3 = 0 := by
  have e : neB M i = false ↔ ∀ k, k < 256 → M i k = false := by
    unfold neB
    rw [Bool.not_eq_false', List.isEmpty_iff]
    constructor
    · intro h k hk
      cases hm : M i k with
      | false => rfl
      | true =>
        have := (mem_rowUpto (M i) 256 k).2 ⟨hk, hm⟩
        rw [h] at this
        cases this
    · intro h
      apply List.eq_nil_iff_forall_not_mem.2
      intro k hk
      have := (mem_rowUpto (M i) 256 k).1 hk
      rw [h k this.1] at this
      cases this.2
  rw [e]
  simp only [wd_zero]
  constructor
  · intro h; exact ⟨fun b hb => h _ (by omega), fun b hb => h _ (by omega), fun b hb => h _ (by omega), fun b hb => h _ (by omega)⟩
  · rintro ⟨h0, h1, h2, h3⟩ k hk
    rcases (show k / 64 = 0 ∨ k / 64 = 1 ∨ k / 64 = 2 ∨ k / 64 = 3 by omega) with h | h | h | h
    · have := h0 (k % 64) (by omega); rwa [show 64 * 0 + k % 64 = k by omega] at this
    · have := h1 (k % 64) (by omega); rwa [show 64 * 1 + k % 64 = k by omega] at this
    · have := h2 (k % 64) (by omega); rwa [show 64 * 2 + k % 64 = k by omega] at this
    · have := h3 (k % 64) (by omega); rwa [show 64 * 3 + k % 64 = k by omega] at this

theorem cellsU64 : Tryz.prog.cellsOf 88 = 1 := by kernel_rfl
theorem plain_u64 : Tryz.prog.plainKey 88 = true := by kernel_rfl
theorem infoU64 : (Tryz.prog.info? 88).isSome = true := by kernel_rfl
theorem eq_step (W : World) (xs ys : Array Value) (i : Nat) (is : List Nat) (x y : Int) (hx : xs[i]? = some (.int .u64 x)) (hy : ys[i]? = some (.int .u64 y)) :
    (Op.eqItems 9999 88 1 xs ys (i :: is)).run Tryz.prog W = if (x == y) = true then (Op.eqItems 9999 88 1 xs ys is).run Tryz.prog W else .ok false W := by
  simp only [Op.eqItems, Sem.run_bind, Nat.mul_one]
  rw [run_part_plain W plain_u64 hx, Result.andThen_ok, run_part_plain W plain_u64 hy, Result.andThen_ok, run_equalIn_int W 9998 88 .u64 .u64 x y Tryz.underlying88, Result.andThen_ok]
  cases (x == y)
  · simp [Sem.run_pure]
  · simp
theorem eq_places (a b c d : Int) (W : World) : (Op.equalIn 10000 90 (.agg #[.int .u64 a, .int .u64 b, .int .u64 c, .int .u64 d]) (.agg #[.int .u64 0, .int .u64 0, .int .u64 0, .int .u64 0])).run Tryz.prog W = .ok (a == 0 && b == 0 && c == 0 && d == 0) W := by
  obtain ⟨i, hi⟩ := Option.isSome_iff_exists.1 infoU64
  rw [show (10000 : Nat) = 9999 + 1 from rfl, run_equalIn_array W 9999 _ _ (n := 4) Tryz.underlying90 hi, cellsU64, show List.range 4 = [0, 1, 2, 3] from rfl,
    eq_step W _ _ 0 _ a 0 rfl rfl, eq_step W _ _ 1 _ b 0 rfl rfl, eq_step W _ _ 2 _ c 0 rfl rfl, eq_step W _ _ 3 _ d 0 rfl rfl]
  cases (a == 0) <;> cases (b == 0) <;> cases (c == 0) <;> cases (d == 0) <;> rfl

theorem placesWithEnds_any (t : Tr) (v : Value) (s : ByteArray) (w : World) :
    Calls Tryz.prog 23 #[rx t.k t.s v, .string s] w fun e w' => e = .returned (.func (.func 45) #[] #[.pointer (some ⟨w.heap.size, 0, none⟩), .pointer (some ⟨w.heap.size + 1, 0, none⟩)]) ∧
      w' = (w.alloc (.cells #[.int .i64 t.k, .string t.s, v] 26)).alloc (.cells #[.string s] 9) := by
  go_enter Tryz.func23, Tryz.ntmps23
  go_wp2
  go_ret
  exact ⟨rfl, rfl⟩

/-- Cells lie as they lay. -/
structure KeepsCells (W W' : World) : Prop where
  size : W.heap.size ≤ W'.heap.size
  same : ∀ (k : Nat) (o : Obj), W.heap[k]? = some o → o.isCells = true → W'.heap[k]? = some o
theorem cellsK_t {A B C : World} (h : KeepsCells A B) (k : KeepsCells B C) : KeepsCells A C := ⟨Nat.le_trans h.size k.size, fun i o hi ho => k.same i o (h.same i o hi ho) ho⟩
theorem cellsK_b {w : World} (W : World) (l : Nat) (o o' : Obj) (_ : w.heap.size ≤ l) (h : W.heap[l]? = some o) (hc : o.isCells = false) (_ : o.isWalk = false) : KeepsCells W (W.putObj l o') :=
  ⟨by simp, fun k x hk hx => (World.putObj_heap_other (fun e => by subst e; rw [h] at hk; cases hk; rw [hc] at hx; cases hx)).trans hk⟩
theorem Below.grownAll {w w' : World} (h : Below w.heap.size w w') : w.grownBy w' none := ⟨h.os, h.tape, h.output, h.size, fun k hk _ => h.block k hk⟩

set_option maxRecDepth 100000 in
set_option maxHeartbeats 2000000 in
theorem pwe1_yes (n : Nat) (hn : 1 ≤ n) (l br bs : Nat) (t : Tr) (B : Nat → Prop) (v : Value) (s : ByteArray) (J Jx : List Nat → World → Prop) (W : World) (h : Rl W B t.l v) (hts : t.s.size ≤ maxLen) (hT : TabB W)
    (hr : Bz3 W br (.int .i64 t.k) (.string t.s) v) (hbs : Boxed W bs 9 (.string s)) (hs : s.size ≤ 200) (hok : okR t = true)
    (hJ : ∀ pre W1 W2, J pre W1 → Below W1.heap.size W1 W2 → J pre W2) (hJx : ∀ pre W1 W2, Jx pre W1 → Below W1.heap.size W1 W2 → Jx pre W2)
    (hY : ∀ pre (x : Nat) W1, J pre W1 → pre.length < s.size + 1 → YieldAt .wide (n - 1) Tryz.prog l #[.int .i64 (x : Int), aggW (t.endM s x)] W1 fun e W' =>
      (e = .returned (.bool true) ∧ J (pre ++ [x]) W' ∧ KeepsCells W1 W') ∨ (e = .returned (.bool false) ∧ Jx (pre ++ [x]) W'))
    (h0 : J [] W) :
    CallsIn .wide n Tryz.prog 45 #[.func (.yield l) #[] #[], .pointer (some ⟨br, 0, none⟩), .pointer (some ⟨bs, 0, none⟩)] W fun e W' => (∃ v, e = .returned v) ∧
      ((∃ ys, ys = rowUpto (neB (t.endM s)) (s.size + 1) ∧ J ys W') ∨ (∃ pre, (∃ k, k ≤ s.size + 1 ∧ pre = rowUpto (neB (t.endM s)) k) ∧ Jx pre W')) := by
  have HCM := Hid.mk (canMatch_any t B v s W h hts)
  rw [decide_eq_true hs, hok, Bool.true_and] at HCM
  have HEE := Hid.mk (fun (w' : World) (hb : Below W.heap.size W w') => endsEverywhere_any s hs t B v w' (h.grow hb) hts (okR_okT hok) (hT.grow hb))
  obtain ⟨M, hM⟩ : ∃ M, t.endM s = M := ⟨_, rfl⟩
  rw [hM] at HEE hY
  rw [hM]
  obtain ⟨ao, cap, rfl, -⟩ := h.len
  obtain ⟨tk, htk⟩ : ∃ tk, t.k = tk := ⟨_, rfl⟩
  obtain ⟨ts, hts'⟩ : ∃ ts, t.s = ts := ⟨_, rfl⟩
  obtain ⟨tl, htl⟩ : ∃ tl, t.l.length = tl := ⟨_, rfl⟩
  rw [htk, hts', htl] at HCM HEE hr
  obtain ⟨m, hm⟩ : ∃ m, s.size + 1 = m := ⟨_, rfl⟩
  have HM := Hid.mk hm
  unfold plS at HEE
  rw [hm] at HEE hY
  rw [hm]
  have hm2 : m ≤ 201 := by omega
  have HY := Hid.mk hY
  have HJ := Hid.mk hJ
  have HJX := Hid.mk hJx
  have HR := Hid.mk hr
  have HS := Hid.mk hbs
  have x0 := hr.c0
  have x1 := hr.c1
  have x2 := hr.c2
  have s0 := hbs.cell
  clear h hts hok hM htk hts' htl hY hm hJ hJx hT hr hbs
  refine callsIn_of_wp Tryz.func45 rfl trivial ?_ rfl
  simp only [Tryz.ntmps45, List.size_toArray, List.length_cons, List.length_nil, Nat.reduceAdd, Nat.reduceSub, Array.replicate_succ, Array.replicate_zero, List.push_toArray, List.append_toArray, List.nil_append, List.cons_append]
  gi_wp2_with (first
    | (refine ⟨trivial, ?_⟩; gi_at_call 46; refine (callsIn_wide.2 HCM.out).mono ?_; rintro e W2 ⟨rfl, hb2⟩; have X2 := HR.out.grow hb2; have S2 := (hb2.block _ HS.out.lt).trans HS.out; have y0 := X2.c0; have y1 := X2.c1; have y2 := X2.c2; have y3 := Boxed.cell S2; clear X2 S2 HCM x0 x1 x2 s0)
    | (refine ⟨trivial, ?_⟩; gi_at_call 47; refine (callsIn_wide.2 (HEE.out _ hb2)).mono ?_; rintro e W3 ⟨g, rfl, hg, hq3, hb3⟩; clear HEE y0 y1 y2 y3))
  have HJ3 := Hid.mk (HJ.out _ _ _ (HJ.out _ _ _ h0 hb2) hb3)
  have HQ3 := Hid.mk hq3
  clear h0 hq3 hb3 hg hb2
  gi_loopw [14] (fun q wr => ∃ (i : Nat), i ≤ m ∧ q = .int .i64 i ∧ Hid (J (rowUpto (neB M) i) wr) ∧ Hid (Pq wr g s.size M)) (fun q _ => m - (intOf q).toNat)
  case atStart => exact ⟨0, Nat.zero_le _, rfl, HJ3, HQ3⟩
  case round =>
    obtain ⟨i, hi, rfl, HJr, HQr⟩ := hrel
    clear HJ3 HQ3
    by_cases him : (i : Int) < (m : Int)
    · have hil : i ≤ s.size := by have := HM.out; omega
      have a0 := HQr.out.cell hil (show 0 < 4 by omega)
      have a1 := HQr.out.cell hil (show 1 < 4 by omega)
      have a2 := HQr.out.cell hil (show 2 < 4 by omega)
      have a3 := HQr.out.cell hil (show 3 < 4 by omega)
      rw [Nat.add_zero] at a0
      have heq := eq_places (wd (M i) 0 : Int) (wd (M i) 1 : Int) (wd (M i) 2 : Int) (wd (M i) 3 : Int)
      have HB : Hid (∀ o, Below wr.heap.size wr (wr.alloc o)) := fun o => (Below.refl _ _).alloc (Nat.le_refl _) _
      cases hne : neB M i with
      | false =>
        obtain ⟨z0, z1, z2, z3⟩ := neB_false.1 hne
        rw [z0, z1, z2, z3] at heq
        rw [z0] at a0
        rw [z1] at a1
        rw [z2] at a2
        rw [z3] at a3
        simp only [Int.natCast_zero, beq_self_eq_true, Bool.and_self] at heq
        have HN := Hid.mk (rowUpto_no _ _ hne)
        clear hne z0 z1 z2 z3
        gi_wp2
        refine ⟨fun _ h => (by cases h), ?_⟩
        gi_wp2
        go_roundw
        case rel => exact ⟨i + 1, by omega, by go_num, by show J _ _; rw [HN.out]; exact HJ.out _ _ _ HJr.out (HB.out _), HQr.out.grow (HB.out _)⟩
        case measure => simp [intOf]; omega
      | true =>
        have hz : ((wd (M i) 0 : Int) == 0 && (wd (M i) 1 : Int) == 0 && (wd (M i) 2 : Int) == 0 && (wd (M i) 3 : Int) == 0) = false := by
          rw [Bool.eq_false_iff]
          intro h
          simp only [Bool.and_eq_true, beq_iff_eq] at h
          rw [neB_false.2 ⟨by omega, by omega, by omega, by omega⟩] at hne
          cases hne
        rw [hz] at heq
        have HN := Hid.mk (rowUpto_yes _ _ hne)
        have HJ1 := HJ.out _ _ _ HJr.out (HB.out (.cells #[.int .u64 (wd (M i) 0 : Int), .int .u64 (wd (M i) 1 : Int), .int .u64 (wd (M i) 2 : Int), .int .u64 (wd (M i) 3 : Int)] 90))
        obtain ⟨fn, tmps, assign, body, hy, hR⟩ := HY.out _ i _ HJ1 (by have := rowUpto_len (neB M) i; omega)
        have HQ1 := Hid.mk (HQr.out.grow (HB.out (.cells #[.int .u64 (wd (M i) 0 : Int), .int .u64 (wd (M i) 1 : Int), .int .u64 (wd (M i) 2 : Int), .int .u64 (wd (M i) 3 : Int)] 90)))
        clear hz hne HJ1 HJr HQr
        gi_wp2
        refine hR.mono ?_
        rintro e W4 (⟨rfl, hJ4, hk4⟩ | ⟨rfl, hJx4⟩)
        · have HJn : Hid (J (rowUpto (neB M) (i + 1)) W4) := by
            show J _ _
            rw [HN.out]; exact hJ4
          have HQn : Hid (Pq W4 g s.size M) := hk4.same _ _ HQ1.out rfl
          clear hy hR hJ4 hk4 heq a0 a1 a2 a3
          gi_wp2
          go_roundw
          case rel => exact ⟨i + 1, by omega, by go_num, HJn, HQn⟩
          case measure => simp [intOf]; omega
        · have HJX4 := Hid.mk hJx4
          clear hy hR hJx4 heq a0 a1 a2 a3
          gi_wp2
          refine bodyPost_ret (results_none rfl _ _ _) rfl ?_
          exact ⟨⟨_, rfl⟩, .inr ⟨_, ⟨i + 1, by omega, HN.out.symm⟩, HJX4.out⟩⟩
    · obtain rfl : i = m := by omega
      have HJe := HJr
      clear HJr
      gi_wp2
      go_end0
      first | exact ⟨⟨_, rfl⟩, .inl ⟨_, rfl, HJe.out⟩⟩ | exact ⟨⟨_, rfl⟩, .inl HJe.out⟩
end Go.Proofs.YtapniafhcagogaaGreatDoor

namespace Go.Proofs.YtapniafhcagogaaGreatDoor
open Go.RowKit Go.Shelf
set_option maxRecDepth 8000

attribute [local go_sem] Oper.semAt_some

theorem rowL_upto {n : Nat} {M : Mat} (h : UpM n M) (hn : n < 256) {i : Nat} (hi : i ≤ n) : rowUpto (M i) 256 = rowL n (M i) := by
  have := rowUpto_gap (M i) (n + 1) 256 (by omega) (fun b h1 _ => by
    cases hb : M i b with
    | false => rfl
    | true => have := h i b hi hb; omega)
  rw [this]
  rfl
def lastP (M : Mat) (x : Nat) : Nat := (rowUpto (M x) 256).getLast?.getD 0
theorem longF_eq {n : Nat} {M : Mat} (h : UpM n M) (hn : n < 256) : ∀ d i, i + d ≤ n + 1 → longF n M i d = ((List.range' i d).filter (neB M)).head?.map (fun x => (x, lastP M x)) := by
  intro d
  induction d with
  | zero => intro i _; rfl
  | succ d ih =>
    intro i hi
    have e := rowL_upto h hn (show i ≤ n by omega)
    rw [longF, List.range'_succ, List.filter_cons]
    unfold neB lastP
    rw [e]
    cases hl : (rowL n (M i)).getLast? with
    | none =>
      rw [List.getLast?_eq_none_iff] at hl
      rw [hl]
      simp only [List.isEmpty_nil, Bool.not_true, Bool.false_eq_true, if_false]
      exact ih (i + 1) (by omega)
    | some x =>
      have hne : (rowL n (M i)).isEmpty = false := by
        rw [List.isEmpty_eq_false_iff]
        intro e'
        rw [e'] at hl
        cases hl
      rw [hne]
      simp only [Bool.not_false, if_true, List.head?_cons, Option.map_some]
      rw [e, hl]
      rfl

/-- The places that come. -/
def comes (t : Tr) (s : ByteArray) : List Nat := if okR t = true ∧ s.size ≤ 200 then rowUpto (neB (t.endM s)) (s.size + 1) else []
theorem longE_comes (t : Tr) (s : ByteArray) : longE t s = (comes t s).head?.map (fun x => (x, lastP (t.endM s) x)) := by
  unfold longE comes
  by_cases h : okR t = true ∧ s.size ≤ 200
  · rw [if_pos h, if_pos h, longF_eq (UpM.tree s t) (by omega) _ _ (by omega)]
    unfold rowUpto
    rw [List.range_eq_range']
  · rw [if_neg h, if_neg h]
    rfl
theorem upto_head {f : Nat → Bool} {k n x : Nat} (hk : k ≤ n) (h : rowUpto f k = [x]) : (rowUpto f n).head? = some x := by
  unfold rowUpto at *
  have : List.range n = List.range k ++ List.range' k (n - k) := by
    rw [List.range_eq_range', List.range_eq_range']
    have := List.range'_append (s := 0) (m := k) (n := n - k) (step := 1)
    simp only [Nat.one_mul, Nat.zero_add] at this
    rw [this, show k + (n - k) = n by omega]
  rw [this, List.filter_append, h]
  rfl

set_option maxRecDepth 100000 in
set_option maxHeartbeats 2000000 in
theorem pwe1_no (n : Nat) (hn : 1 ≤ n) (l br bs : Nat) (t : Tr) (B : Nat → Prop) (v : Value) (s : ByteArray) (W : World) (h : Rl W B t.l v) (hts : t.s.size ≤ maxLen)
    (hr : Bz3 W br (.int .i64 t.k) (.string t.s) v) (hbs : Boxed W bs 9 (.string s)) (hno : (decide (s.size ≤ 200) && okR t) = false) :
    CallsIn .wide n Tryz.prog 45 #[.func (.yield l) #[] #[], .pointer (some ⟨br, 0, none⟩), .pointer (some ⟨bs, 0, none⟩)] W fun e W' => (∃ v, e = .returned v) ∧ Below W.heap.size W W' := by
  have HCM := Hid.mk (canMatch_any t B v s W h hts)
  rw [hno] at HCM
  obtain ⟨ao, cap, rfl, -⟩ := h.len
  obtain ⟨tk, htk⟩ : ∃ tk, t.k = tk := ⟨_, rfl⟩
  obtain ⟨ts, hts'⟩ : ∃ ts, t.s = ts := ⟨_, rfl⟩
  obtain ⟨tl, htl⟩ : ∃ tl, t.l.length = tl := ⟨_, rfl⟩
  rw [htk, hts', htl] at HCM hr
  have x0 := hr.c0
  have x1 := hr.c1
  have x2 := hr.c2
  have s0 := hbs.cell
  clear h hts htk hts' htl hr hbs hno
  refine callsIn_of_wp Tryz.func45 rfl trivial ?_ rfl
  simp only [Tryz.ntmps45, List.size_toArray, List.length_cons, List.length_nil, Nat.reduceAdd, Nat.reduceSub, Array.replicate_succ, Array.replicate_zero, List.push_toArray, List.append_toArray, List.nil_append, List.cons_append]
  gi_wp2_with (refine ⟨trivial, ?_⟩; gi_at_call 46; refine (callsIn_wide.2 HCM.out).mono ?_; rintro e W2 ⟨rfl, hb2⟩)
  refine bodyPost_ret (results_none rfl _ _ _) rfl ?_
  exact ⟨⟨_, rfl⟩, hb2⟩

theorem foldl_zip2 (ts : Array Value) (p q : Nat) (u v : Value) : (#[p, q].zip #[u, v]).foldl (fun t (x : Nat × Value) => match x with | (p, v) => t.setIfInBounds p v) ts = (ts.setIfInBounds p u).setIfInBounds q v := by
  have e : #[p, q].zip #[u, v] = #[(p, u), (q, v)] := by simp
  rw [e]
  rfl

/-- **The iterator over the places that have an end.** -/
theorem pwe_stops (n : Nat) (hn : 1 ≤ n) (br bs : Nat) (t : Tr) (B : Nat → Prop) (v : Value) (s : ByteArray) (w : World) (h : Rl w B t.l v) (hts : t.s.size ≤ maxLen) (hT : TabB w)
    (hr : Bz3 w br (.int .i64 t.k) (.string t.s) v) (hbs : Boxed w bs 9 (.string s)) :
    SeqStopsK .wide n Tryz.prog 45 #[.pointer (some ⟨br, 0, none⟩), .pointer (some ⟨bs, 0, none⟩)] (fun (x : Nat) => #[.int .i64 (x : Int), aggW (t.endM s x)]) KeepsCells (fun ys => ys = comes t s)
      (fun pre => ∀ x, pre = [x] → (comes t s).head? = some x) (s.size + 1) w := by
  intro l J Jx W hW hJ hJx hY h0
  have aJ : ∀ pre W1 W2, J pre W1 → Below W1.heap.size W1 W2 → J pre W2 := fun pre W1 W2 hj hb => hJ pre W1 W2 none hj (Below.grownAll hb) (fun r e => by cases e)
  have aJx : ∀ pre W1 W2, Jx pre W1 → Below W1.heap.size W1 W2 → Jx pre W2 := fun pre W1 W2 hj hb => hJx pre W1 W2 none hj (Below.grownAll hb) (fun r e => by cases e)
  have hS : Boxed W bs 9 (.string s) := (hW.block _ hbs.lt).trans hbs
  by_cases hok : okR t = true ∧ s.size ≤ 200
  · refine (pwe1_yes n hn l br bs t B v s J Jx W (h.grow hW) hts (hT.grow hW) (hr.grow hW) hS hok.2 hok.1 aJ aJx hY h0).mono ?_
    rintro e W' ⟨h1, (⟨ys, h2, h3⟩ | ⟨pre, ⟨k, hk, h2⟩, h3⟩)⟩
    · exact ⟨h1, .inl ⟨ys, by unfold comes; rw [if_pos hok]; exact h2, h3⟩⟩
    · refine ⟨h1, .inr ⟨pre, fun x hx => ?_, h3⟩⟩
      unfold comes
      rw [if_pos hok]
      exact upto_head hk (h2.symm.trans hx)
  · refine (pwe1_no n hn l br bs t B v s W (h.grow hW) hts (hr.grow hW) hS ?_).mono ?_
    · rw [Bool.eq_false_iff]
      intro e
      simp only [Bool.and_eq_true, decide_eq_true_iff] at e
      exact hok ⟨e.2, e.1⟩
    · rintro e W' ⟨h1, h2⟩
      exact ⟨h1, .inl ⟨[], by unfold comes; rw [if_neg hok], aJ _ _ _ h0 h2⟩⟩

set_option maxRecDepth 100000 in
set_option maxHeartbeats 2000000 in
theorem matches_any (t : Tr) (B : Nat → Prop) (v : Value) (s : ByteArray) (w : World) (h : Rl w B t.l v) (hts : t.s.size ≤ maxLen) (hT : TabB w) :
    Calls Tryz.prog 9 #[rx t.k t.s v, .string s] w fun e w' => e = .returned (.bool (longE t s).isSome) ∧ Below w.heap.size w w' := by
  have HE := Hid.mk (longE_comes t s)
  have HP := Hid.mk (fun w' => placesWithEnds_any t v s w')
  have HST := Hid.mk (fun (br bs : Nat) (w' : World) (hb : Below w.heap.size w w') => pwe_stops 3 (by omega) br bs t B v s w' (h.grow hb) hts (hT.grow hb))
  obtain ⟨ao, cap, rfl, -⟩ := h.len
  obtain ⟨E, hE⟩ : ∃ E, longE t s = E := ⟨_, rfl⟩
  obtain ⟨C, hC⟩ : ∃ C, comes t s = C := ⟨_, rfl⟩
  obtain ⟨M, hM⟩ : ∃ M, t.endM s = M := ⟨_, rfl⟩
  obtain ⟨tk, htk⟩ : ∃ tk, t.k = tk := ⟨_, rfl⟩
  obtain ⟨ts, hts'⟩ : ∃ ts, t.s = ts := ⟨_, rfl⟩
  obtain ⟨tl, htl⟩ : ∃ tl, t.l.length = tl := ⟨_, rfl⟩
  rw [htk, hts', htl] at HP HST
  rw [hM, hC] at HST HE
  rw [hE] at HE
  rw [htk, hts', htl, hE]
  clear h hts hT hE hC hM htk hts' htl
  refine (callsIn_wide (n := 4)).1 ?_
  refine callsIn_of_wp_marks Tryz.func9 rfl trivial ?_ rfl
  simp only [Tryz.ntmps9, List.size_toArray, List.length_cons, List.length_nil, Nat.reduceAdd, Nat.reduceSub, Array.replicate_succ, Array.replicate_zero, List.push_toArray, List.append_toArray, List.nil_append, List.cons_append]
  gi_wp2_with (refine ⟨trivial, ?_⟩; gi_at_call 23; refine (callsIn_wide.2 (HP.out _)).mono ?_; rintro e w' ⟨rfl, rfl⟩)
  obtain ⟨V0, hV0⟩ : ∃ V0, w.alloc (.cells #[.int .i64 tk, .string ts, .slice ao tl cap] 26) = V0 := ⟨_, rfl⟩
  have S0 : V0.heap.size = w.heap.size + 1 := by rw [← hV0]; simp
  have B0 : Below w.heap.size w V0 := by rw [← hV0]; exact (Below.refl _ _).alloc (Nat.le_refl _) _
  rw [hV0]
  clear hV0
  have R1 := Boxed.new V0 4 (.bool false)
  have B1 : Below w.heap.size w (V0.alloc (.cells #[.bool false] 4)) := B0.alloc (by omega) _
  rw [S0] at R1
  have S1 : (V0.alloc (.cells #[.bool false] 4)).heap.size = w.heap.size + 2 := by simp [S0]
  generalize V0.alloc (.cells #[.bool false] 4) = V1 at R1 B1 S1 ⊢
  have X2 := Bz3.new V1 (.int .i64 tk) (.string ts) (.slice ao tl cap)
  have R2 := R1.alloc (.cells #[.int .i64 tk, .string ts, .slice ao tl cap] 26)
  have B2 : Below w.heap.size w (V1.alloc (.cells #[.int .i64 tk, .string ts, .slice ao tl cap] 26)) := B1.alloc (by omega) _
  have S2 : (V1.alloc (.cells #[.int .i64 tk, .string ts, .slice ao tl cap] 26)).heap.size = w.heap.size + 3 := by simp [S1]
  rw [S1] at X2
  generalize V1.alloc (.cells #[.int .i64 tk, .string ts, .slice ao tl cap] 26) = V2 at X2 R2 B2 S2 ⊢
  have Y3 := Boxed.new V2 9 (.string s)
  have A3 : Below V2.heap.size V2 (V2.alloc (.cells #[.string s] 9)) := (Below.refl _ _).alloc (Nat.le_refl _) _
  have X3 := X2.grow A3
  have R3 := R2.alloc (.cells #[.string s] 9)
  have B3 := B2.trans (A3.mono B2.size)
  have S3 : (V2.alloc (.cells #[.string s] 9)).heap.size = w.heap.size + 4 := by simp [S2]
  rw [S2] at Y3
  generalize V2.alloc (.cells #[.string s] 9) = Wl at Y3 X3 R3 B3 S3 ⊢
  clear R1 B1 S1 X2 R2 B2 S2 A3 B0 S0
  have hSEQ := HST.out (w.heap.size + 1 + 1) (w.heap.size + 1 + 1 + 1) Wl B3 X3 Y3
  obtain ⟨II, hII⟩ : ∃ II : List Nat → World → Prop, ∀ pre W, II pre W ↔ pre = [] ∧ Boxed W (w.heap.size + 1) 4 (.bool false) ∧ Below w.heap.size w W := ⟨_, fun _ _ => Iff.rfl⟩
  obtain ⟨IX, hIX⟩ : ∃ IX : Code → List Nat → World → Prop, ∀ c pre W, IX c pre W ↔ c = .ret ∧ (∃ x, pre = [x]) ∧ Boxed W (w.heap.size + 1) 4 (.bool true) ∧ Below w.heap.size w W := ⟨_, fun _ _ _ => Iff.rfl⟩
  have hOWN : OwnFrom Wl.heap.size II := by
    intro q X Y row hs hg hr
    obtain ⟨h1, h2, h3⟩ := (hII _ _).1 hs
    exact (hII _ _).2 ⟨h1, boxed_owned h2 hg hr, ownFrom_below (w₀ := w) (Nat.le_refl w.heap.size) (show w.heap.size ≤ Wl.heap.size by omega) q X Y row h3 hg hr⟩
  have hOWX : ∀ c, OwnFrom Wl.heap.size (IX c) := by
    intro c q X Y row hs hg hr
    obtain ⟨h0, h1, h2, h3⟩ := (hIX _ _ _).1 hs
    exact (hIX _ _ _).2 ⟨h0, h1, boxed_owned h2 hg hr, ownFrom_below (w₀ := w) (Nat.le_refl w.heap.size) (show w.heap.size ≤ Wl.heap.size by omega) q X Y row h3 hg hr⟩
  have h00 : II [] Wl := (hII _ _).2 ⟨rfl, R3, B3⟩
  refine wpIn_rangeFunc_ownF rfl (by omega) (gf := 45) (lb := #[.pointer (some ⟨w.heap.size + 1 + 1, 0, none⟩), .pointer (some ⟨w.heap.size + 1 + 1 + 1, 0, none⟩)]) rfl trivial (enters_of Tryz.func45 (by kernel_rfl) rfl)
    hSEQ cellsK_t cellsK_b (Below.refl _ _) (fun _ => rfl) II IX hOWN hOWX h00
    (fun x => { tmps := #[rx tk ts (.slice ao tl cap), .string s, .pointer (some ⟨w.heap.size, 0, none⟩), undef, .pointer (some ⟨w.heap.size + 1, 0, none⟩), rx tk ts (.slice ao tl cap), .string s, .func (.func 45) #[] #[.pointer (some ⟨w.heap.size + 1 + 1, 0, none⟩), .pointer (some ⟨w.heap.size + 1 + 1 + 1, 0, none⟩)], .int .i64 (x : Int), aggW (M x)], defers := [] }) ?assign ?body ?done ?stop
  case assign =>
    intro l x W K hK
    refine wpIn_skip ?_
    show K { tmps := _, defers := [] } W
    rw [foldl_zip2]
    exact hK
  case body =>
    intro l pre x W hi _
    obtain ⟨rfl, hc, hB⟩ := (hII _ _).1 hi
    have c0 := hc.cell
    have f0 := hc.frozen
    gi_wp2
    refine ⟨KeepsOthers.setCell _ _ _, (hIX _ _ _).2 ⟨rfl, ⟨x, rfl⟩, ?_, hB.setCell (p := ⟨w.heap.size + 1, 0, none⟩) (by simp) _⟩⟩
    exact heap_setCell_same W (w.heap.size + 1) _ _ _ _ hc
  case done =>
    intro D ys W hD hys hi hK
    obtain ⟨rfl, hc, hB⟩ := (hII _ _).1 hi
    have c0 := hc.cell
    have f0 := hc.frozen
    have hE0 : E = none := by rw [HE.out, ← hys]; rfl
    subst hE0
    gi_wp2
    have hc' : Boxed (W.setCell ⟨w.heap.size + 1, 0, none⟩ (.bool false)) (w.heap.size + 1) 4 (.bool false) := heap_setCell_same W (w.heap.size + 1) _ _ _ _ hc
    have hK' := (KeepsOthers.setCell W ⟨w.heap.size + 1, 0, none⟩ (.bool false)).same D _ hK rfl
    refine leaves_marks _ _ (.cons (B := w.heap.size) (by omega) hK' (by simp) .nil) (fun W' hb hcc => ?_)
    have cW := Boxed.cell (hcc _ _ hc' rfl)
    exact ⟨.bool false, by simp [results, Tryz.results9, go_sem, cW], rfl, (hB.setCell (p := ⟨w.heap.size + 1, 0, none⟩) (by simp) _).trans hb⟩
  case stop =>
    intro D c pre W hD hsp hi hK
    obtain ⟨rfl, ⟨x, rfl⟩, hc, hB⟩ := (hIX _ _ _).1 hi
    have hE0 : E = some (x, lastP M x) := by rw [HE.out, hsp x rfl]; rfl
    subst hE0
    gi_wp2
    refine leaves_marks _ _ (.cons (B := w.heap.size) (by omega) hK (by simp) .nil) (fun W' hb hcc => ?_)
    have cW := Boxed.cell (hcc _ _ hc rfl)
    exact ⟨.bool true, by simp [results, Tryz.results9, go_sem, cW], rfl, hB.trans hb⟩
end Go.Proofs.YtapniafhcagogaaGreatDoor

namespace Go.Proofs.YtapniafhcagogaaGreatDoor
open Go.RowKit Go.Shelf
set_option maxRecDepth 8000

attribute [local go_sem] Oper.semAt_some

theorem boxed_set {W : World} {B : Nat} {t : TypeId} {v : Value} (h : Boxed W B t v) (u : Value) : Boxed (W.setCell ⟨B, 0, none⟩ u) B t u := heap_setCell_same W B 0 _ _ u h

end Go.Proofs.YtapniafhcagogaaGreatDoor

namespace Go.Proofs.YtapniafhcagogaaGreatDoor
open Go.RowKit Go.Shelf
end Go.Proofs.YtapniafhcagogaaGreatDoor

namespace Go.Proofs.YtapniafhcagogaaGreatDoor
open Go.RowKit
set_option maxRecDepth 8000

/-- Blocks other than the cursor's stay. -/
theorem gcell {W w1 : World} {cb : Nat} (hg : W.grownBy w1 (some cb)) (b : Nat) (hb : b < W.heap.size) (hne : b ≠ cb) :
    (∀ o, w1.cell? ⟨b, o, none⟩ = W.cell? ⟨b, o, none⟩) ∧ (∀ o, w1.frozen? ⟨b, o, none⟩ = W.frozen? ⟨b, o, none⟩) :=
  ⟨fun o => World.cell?_of_block (a := ⟨b, o, none⟩) (hg.block b hb (fun e => hne (Option.some.inj e))), fun o => World.frozen?_of_block (a := ⟨b, o, none⟩) (hg.block b hb (fun e => hne (Option.some.inj e)))⟩

/-- A list of texts in a block of its own. -/
def Strs (w : World) (lb : Nat) (xs : List ByteArray) : Prop := w.heap[lb]? = some (.cells (xs.map Value.string).toArray 9 (0, 0))

set_option maxHeartbeats 1000000 in
theorem l1Str_any (cb lb n : Nat) (v : Value) (zs : List Int) (xs : List ByteArray) (w : World) (h : Cur w cb v zs) (hn : n = xs.length) (hpos : 0 < n) (hbig : n ≤ 1000) (hx : Strs w lb xs) (hne : lb ≠ cb) :
    Calls Tryz.prog 32 #[.pointer (some ⟨cb, 0, none⟩), .slice (some ⟨lb, 0, none⟩) n n] w fun e w' => ∃ x : ByteArray, e = .returned (.string x) ∧ x ∈ xs ∧ Cur w' cb v zs ∧ w.grownBy w' (some cb) := by
  have H := Hid.mk h
  have HX := Hid.mk hx
  clear h hx
  have Hn := Hid.mk hn
  clear hn
  go_enter Tryz.func32, Tryz.ntmps32
  go_wp2_with fail
  refine (l1Below_any cb v zs (n : Int) w H.out).mono ?_
  rintro e w1 ⟨x, rfl, hx0, hx1, -, hC, hg⟩
  obtain ⟨p, rfl⟩ := Int.eq_ofNat_of_zero_le hx0
  have hp : p < n := by have := hx1 (by omega); omega
  have hbl : w1.heap[lb]? = w.heap[lb]? := hg.block lb (Array.getElem?_eq_some_iff.1 HX.out).1 (fun e => hne (Option.some.inj e))
  obtain ⟨y, Hy⟩ : ∃ y, Hid (xs[p]? = some y) := ⟨_, List.getElem?_eq_getElem (by have := Hn.out; omega)⟩
  have hcell : w1.cell? ⟨lb, p, none⟩ = some (.string y) := by
    have h1 := HX.out
    unfold Strs at h1
    rw [cell_of_row w1 lb p _ _ _ (hbl.trans h1)]
    simp [Hy.out]
  have hmem : y ∈ xs := List.mem_of_getElem? Hy.out
  have HC := Hid.mk hC
  have HG := Hid.mk hg
  have HM := Hid.mk hmem
  clear hC hg hx1 hbl hmem
  go_wp2
  go_ret
  exact ⟨y, rfl, HM.out, HC.out, HG.out⟩

theorem l1Once_any (cb : Nat) (v : Value) (zs : List Int) (n : Int) (w : World) (h : Cur w cb v zs) :
    Calls Tryz.prog 27 #[.pointer (some ⟨cb, 0, none⟩), .int .i64 n] w fun e w' => ∃ b : Bool, e = .returned (.bool b) ∧ Cur w' cb v zs ∧ w.grownBy w' (some cb) := by
  have H := Hid.mk h
  clear h
  go_enter Tryz.func27, Tryz.ntmps27
  go_wp2_with fail
  refine (l1Below_any cb v zs n w H.out).mono ?_
  rintro e w1 ⟨x, rfl, -, -, -, hC, hg⟩
  have HC := Hid.mk hC
  have HG := Hid.mk hg
  clear hC hg
  go_wp2
  go_ret
  exact ⟨_, rfl, HC.out, HG.out⟩
end Go.Proofs.YtapniafhcagogaaGreatDoor

namespace Go.Proofs.YtapniafhcagogaaGreatDoor
open Go.RowKit
set_option maxRecDepth 8000

/-- A part without parts, as it is drawn. -/
def Lf (k : Int) (s : ByteArray) : Prop := nodeB (.node k s []) = true ∧ (k ≤ 3 ∨ 9 ≤ k) ∧ s.size ≤ 3

theorem Lf.any : Lf 2 ⟨#[]⟩ := ⟨by decide +kernel, Or.inl (by omega), by decide⟩

set_option maxHeartbeats 1000000 in
theorem l3Leaf_any (cb : Nat) (v : Value) (zs : List Int) (w : World) (h : Cur w cb v zs) :
    Calls Tryz.prog 28 #[.pointer (some ⟨cb, 0, none⟩)] w fun e w' => ∃ k s, e = .returned (rx k s (.slice none 0 0)) ∧ Lf k s ∧ Cur w' cb v zs ∧ w.grownBy w' (some cb) := by
  have hlt := h.lt
  have HNE : Hid (w.heap.size ≠ cb) := by show _ ≠ _; omega
  have HV : Hid (zs ≠ [] → ∀ k, v.ownBlock = some k → k ≠ w.heap.size) := fun hz k hk => by have := h.1.lt hz k hk; omega
  have HC0 := Hid.mk (h.grow ((Below.refl _ _).alloc (Nat.le_refl _) (.cells #[.int .i64 0, .string ⟨#[]⟩, .slice none 0 0] 26)))
  have HB0 := Hid.mk (Bz3.new w (.int .i64 0) (.string ⟨#[]⟩) (.slice none 0 0))
  clear h
  go_enter Tryz.func28, Tryz.ntmps28
  go_wp2_with fail
  refine (l1Below_any cb v zs 8 _ HC0.out).mono ?_
  rintro e w1 ⟨x, rfl, hx0, -, -, hC, hg⟩
  have HB := Hid.mk (HB0.out.by hg HNE.out)
  have HG := Hid.mk (grownBy_trans (gy_alloc w cb _) hg)
  have HC := Hid.mk hC
  clear hC hg HC0 HB0
  by_cases hk0 : x = 0
  · subst hk0
    have c0 := HB.out.c0
    have c1 := HB.out.c1
    have c2 := HB.out.c2
    have f0 := HB.out.fr
    go_wp2
    have hput := HB.out.put (.int .i64 2) (.string ⟨#[]⟩) (.slice none 0 0)
    have hgp := gy_sz3 HG.out (Nat.le_refl _) (.int .i64 2) (.string ⟨#[]⟩) (.slice none 0 0)
    have hcp := HC.out.sz3 (b := w.heap.size) HNE.out HV.out (.int .i64 2) (.string ⟨#[]⟩) (.slice none 0 0)
    unfold sz3 at hput hgp hcp
    generalize ((w1.setCell ⟨w.heap.size, 0, none⟩ (.int .i64 2)).setCell ⟨w.heap.size, 1, none⟩ (.string ⟨#[]⟩)).setCell ⟨w.heap.size, 2, none⟩ (.slice none 0 0) = W at hput hgp hcp ⊢
    have r0 := hput.c0
    have r1 := hput.c1
    have r2 := hput.c2
    refine bodyPost_ret (v := rx 2 ⟨#[]⟩ (.slice none 0 0)) ?_ rfl ⟨_, _, rfl, Lf.any, hcp, hgp⟩
    simp [results, Tryz.results28, go_sem, r0, r1, r2]
  by_cases hk1 : x = 1
  · subst hk1
    go_wp2_with fail
    refine (l1Str_any cb w1.heap.size 4 v zs [⟨#[97,98]⟩, ⟨#[98]⟩, ⟨#[97,98,99]⟩, ⟨#[49,50]⟩] _ (HC.out.grow ((Below.refl _ _).alloc (Nat.le_refl _) _)) rfl (by omega) (by omega) (heap_alloc_new w1 _) (by have := HC.out.lt; omega)).mono ?_
    rintro e w2 ⟨y, rfl, hy, hC2, hg2⟩
    have HB2 := Hid.mk ((HB.out.grow ((Below.refl _ _).alloc (Nat.le_refl _) _)).by hg2 HNE.out)
    have HG2 := Hid.mk (grownBy_trans (gy_new HG.out _) hg2)
    have HC2 := Hid.mk hC2
    have HL : Hid (Lf 3 y) := by
      simp only [List.mem_cons, List.not_mem_nil, or_false] at hy
      rcases hy with rfl | rfl | rfl | rfl
      all_goals exact ⟨by decide +kernel, by omega, by decide⟩
    clear hy hC2 hg2 HB HG HC
    have c0 := HB2.out.c0
    have c1 := HB2.out.c1
    have c2 := HB2.out.c2
    have f0 := HB2.out.fr
    go_wp2
    have hput := HB2.out.put (.int .i64 3) (.string y) (.slice none 0 0)
    have hgp := gy_sz3 HG2.out (Nat.le_refl _) (.int .i64 3) (.string y) (.slice none 0 0)
    have hcp := HC2.out.sz3 (b := w.heap.size) HNE.out HV.out (.int .i64 3) (.string y) (.slice none 0 0)
    unfold sz3 at hput hgp hcp
    generalize ((w2.setCell ⟨w.heap.size, 0, none⟩ (.int .i64 3)).setCell ⟨w.heap.size, 1, none⟩ (.string y)).setCell ⟨w.heap.size, 2, none⟩ (.slice none 0 0) = W at hput hgp hcp ⊢
    have r0 := hput.c0
    have r1 := hput.c1
    have r2 := hput.c2
    refine bodyPost_ret (v := rx 3 y (.slice none 0 0)) ?_ rfl ⟨_, _, rfl, HL.out, hcp, hgp⟩
    simp [results, Tryz.results28, go_sem, r0, r1, r2]
  by_cases hk2 : x = 2
  · subst hk2
    go_wp2_with fail
    refine (l1Int_any cb w1.heap.size 4 v zs [9, 10, 11, 2] _ (HC.out.grow ((Below.refl _ _).alloc (Nat.le_refl _) _)) rfl (by omega) (by omega) (heap_alloc_new w1 _) (by have := HC.out.lt; omega)).mono ?_
    rintro e w2 ⟨y, rfl, hy, hC2, hg2⟩
    have HB2 := Hid.mk ((HB.out.grow ((Below.refl _ _).alloc (Nat.le_refl _) _)).by hg2 HNE.out)
    have HG2 := Hid.mk (grownBy_trans (gy_new HG.out _) hg2)
    have HC2 := Hid.mk hC2
    have HL : Hid (Lf y ⟨#[]⟩) := by
      simp only [List.mem_cons, List.not_mem_nil, or_false] at hy
      rcases hy with rfl | rfl | rfl | rfl
      all_goals exact ⟨by decide +kernel, by omega, by decide⟩
    clear hy hC2 hg2 HB HG HC
    have c0 := HB2.out.c0
    have c1 := HB2.out.c1
    have c2 := HB2.out.c2
    have f0 := HB2.out.fr
    go_wp2
    have hput := HB2.out.put (.int .i64 y) (.string ⟨#[]⟩) (.slice none 0 0)
    have hgp := gy_sz3 HG2.out (Nat.le_refl _) (.int .i64 y) (.string ⟨#[]⟩) (.slice none 0 0)
    have hcp := HC2.out.sz3 (b := w.heap.size) HNE.out HV.out (.int .i64 y) (.string ⟨#[]⟩) (.slice none 0 0)
    unfold sz3 at hput hgp hcp
    generalize ((w2.setCell ⟨w.heap.size, 0, none⟩ (.int .i64 y)).setCell ⟨w.heap.size, 1, none⟩ (.string ⟨#[]⟩)).setCell ⟨w.heap.size, 2, none⟩ (.slice none 0 0) = W at hput hgp hcp ⊢
    have r0 := hput.c0
    have r1 := hput.c1
    have r2 := hput.c2
    refine bodyPost_ret (v := rx y ⟨#[]⟩ (.slice none 0 0)) ?_ rfl ⟨_, _, rfl, HL.out, hcp, hgp⟩
    simp [results, Tryz.results28, go_sem, r0, r1, r2]
  · have hb0 : (x == 0) = false := beq_eq_false_iff_ne.2 hk0
    have hb1 : (x == 1) = false := beq_eq_false_iff_ne.2 hk1
    have hb2 : (x == 2) = false := beq_eq_false_iff_ne.2 hk2
    clear hk0 hk1 hk2
    go_wp2_with fail
    refine (l1Str_any cb w1.heap.size 4 v zs [⟨#[97]⟩, ⟨#[98]⟩, ⟨#[99]⟩, ⟨#[49]⟩] _ (HC.out.grow ((Below.refl _ _).alloc (Nat.le_refl _) _)) rfl (by omega) (by omega) (heap_alloc_new w1 _) (by have := HC.out.lt; omega)).mono ?_
    rintro e w2 ⟨y, rfl, hy, hC2, hg2⟩
    have HB2 := Hid.mk ((HB.out.grow ((Below.refl _ _).alloc (Nat.le_refl _) _)).by hg2 HNE.out)
    have HG2 := Hid.mk (grownBy_trans (gy_new HG.out _) hg2)
    have HC2 := Hid.mk hC2
    have HL : Hid (Lf 1 y) := by
      simp only [List.mem_cons, List.not_mem_nil, or_false] at hy
      rcases hy with rfl | rfl | rfl | rfl
      all_goals exact ⟨by decide +kernel, by omega, by decide⟩
    clear hy hC2 hg2 HB HG HC
    have c0 := HB2.out.c0
    have c1 := HB2.out.c1
    have c2 := HB2.out.c2
    have f0 := HB2.out.fr
    go_wp2
    have hput := HB2.out.put (.int .i64 1) (.string y) (.slice none 0 0)
    have hgp := gy_sz3 HG2.out (Nat.le_refl _) (.int .i64 1) (.string y) (.slice none 0 0)
    have hcp := HC2.out.sz3 (b := w.heap.size) HNE.out HV.out (.int .i64 1) (.string y) (.slice none 0 0)
    unfold sz3 at hput hgp hcp
    generalize ((w2.setCell ⟨w.heap.size, 0, none⟩ (.int .i64 1)).setCell ⟨w.heap.size, 1, none⟩ (.string y)).setCell ⟨w.heap.size, 2, none⟩ (.slice none 0 0) = W at hput hgp hcp ⊢
    have r0 := hput.c0
    have r1 := hput.c1
    have r2 := hput.c2
    refine bodyPost_ret (v := rx 1 y (.slice none 0 0)) ?_ rfl ⟨_, _, rfl, HL.out, hcp, hgp⟩
    simp [results, Tryz.results28, go_sem, r0, r1, r2]
end Go.Proofs.YtapniafhcagogaaGreatDoor

namespace Go.Proofs.YtapniafhcagogaaGreatDoor
open Go.RowKit
set_option maxRecDepth 8000

theorem Ow.first {w w' : World} {D C : Nat → Prop} {t : Tr} {u v' : Value}
    (ht : Ow w D t.l u) (hst : t.s.size ≤ maxLen)
    (hown : w'.ownsRow 0 26 3 v' 1 [.int .i64 t.k, .string t.s, u]) (hgr : w.grownBy w' Option.none) (hv : v'.ownBlock = Option.none ∨ v'.ownBlock = some w.heap.size)
    (hCD : ∀ b, D b → C b) (hCn : C w.heap.size) : Ow w' C [t] v' := by
  obtain ⟨g', cap', rfl⟩ : ∃ g' cap', v' = .slice (some ⟨g', 0, Option.none⟩) [t].length cap' := by
    rcases hown.2 with ⟨_, h0⟩ | ⟨g', cap', cur, h', _⟩
    · omega
    · exact ⟨g', cap', by rw [h']; simp⟩
  have hg' : g' = w.heap.size := by simpa [Value.ownBlock] using hv
  subst hg'
  refine Ow.full C [t] _ cap' _ (fun _ => u) (fun i b => i = 0 ∧ D b ∧ b < w.heap.size) (by simp) hCn hown (fun i hi => ?_) (fun i hi => ?_) (fun i b hb => ⟨hCD b hb.2.1, by omega⟩) (fun i j b hij h1 h2 => by omega) fun i hi => ?_
  · obtain rfl : i = 0 := by simpa using hi
    exact hst
  · obtain rfl : i = 0 := by simpa using hi
    exact ⟨rfl, rfl, rfl⟩
  · obtain rfl : i = 0 := by simpa using hi
    exact (ht.there.kept fun b hb hlt => hgr.block b hlt (by simp)).mono fun b hb => ⟨rfl, hb⟩

theorem wpList_append_any {w : World} {ops : Array Oper} {rest : List Oper} {o : Oper} {a : Act} {Q : Exit → Act → World → Prop} (hgd : o.guard = none) (s x : Operand)
    (ho : o.op = .call { callee := .builtin .append, args := #[s, x], argTypes := #[24, 24] })
    (B D C : Nat → Prop) (v u : Value) (l : List Tr) (t : Tr) (c : Nat) (hs : a.eval s = v) (hO : Ow w B l v) (hx : a.eval x = .slice (some ⟨c, 0, none⟩) 1 1)
    (hbx : Bz3 w c (.int .i64 t.k) (.string t.s) u) (ht : Ow w D t.l u) (hst : t.s.size ≤ maxLen) (hBD : ∀ b, D b → ¬ B b) (hCB : ∀ b, B b → C b) (hCD : ∀ b, D b → C b) (hCn : C w.heap.size) (hlen : l.length ≤ 1048576)
    (h : ∀ v' w', Ow w' C (l ++ [t]) v' → (∃ row, (∀ g, row = some g → B g) ∧ w.grownBy w' row) → wpList Tryz.prog ops Q rest (a.put o.dst v') w') :
    wpList Tryz.prog ops Q (o :: rest) a w := by
  obtain ⟨i0, hi, hz0, hz1, hz2⟩ := info_parts infoRex
  obtain ⟨au, cu, hu⟩ := ht.value
  have cells : ∀ (j : Nat) (q : Value), [Value.int .i64 t.k, .string t.s, u][j]? = some q → w.cell? ((⟨c, 0, none⟩ : Addr).add j) = some q := by
    intro j q hq
    rw [Addr.add_lit, Nat.zero_add]
    match j, hq with
    | 0, hq => simp at hq; subst hq; exact hbx.c0
    | 1, hq => simp at hq; subst hq; exact hbx.c1
    | 2, hq => simp at hq; subst hq; exact hbx.c2
  have ones : ∀ q ∈ [Value.int .i64 t.k, .string t.s, u], q.oneCell' = true := by
    intro q hq
    rcases List.mem_cons.1 hq with rfl | hq
    · rfl
    rcases List.mem_cons.1 hq with rfl | hq
    · rfl
    obtain rfl : q = u := by simpa using hq
    rw [hu]; rfl
  cases hO with
  | none =>
    refine wpList_append_own_at w hgd s x 24 ho 0 26 i0 _ 3 48 Tryz.underlying24 hi hz0 hz1 hz2 rfl (by decide) _ 0 [] hs (World.ownsRow_nil w 0 _ 3) _ 1 1 [.int .i64 t.k, .string t.s, u] hx rfl cells ones (by decide) (by decide) (Nat.zero_le _) ?_
    intro v' w' hown' hgr _ hv
    exact h v' w' (Ow.first ht hst hown' hgr hv hCD hCn) ⟨none, (fun g hg => by cases hg), hgr⟩
  | full _ l g cap xs V Bi hl hg hown hss hx' hB hd hsub =>
    refine wpList_append_own_at w hgd s x 24 ho 0 26 i0 _ 3 48 Tryz.underlying24 hi hz0 hz1 hz2 rfl (by decide) _ l.length xs hs hown _ 1 1 [.int .i64 t.k, .string t.s, u] hx rfl cells ones (by unfold maxLen; omega) (by omega) (Nat.zero_le _) ?_
    intro v' w' hown' hgr _ hv
    exact h v' w' (Ow.snoc hg hss hst hown.1 hx' hB hd hsub ht hBD hown' hgr hv hCB hCD hCn) ⟨some g, (fun g' e => by simp at e; exact e ▸ hg), hgr⟩

/-- A tree as it is drawn, at most d deep below its root. -/
def Dn : Nat → Tr → Prop
  | 0, t => t.l = [] ∧ Lf t.k t.s
  | d + 1, t => (t.l = [] ∧ Lf t.k t.s) ∨ (nodeB t = true ∧ t.s = ⟨#[]⟩ ∧ t.l.length ≤ 3 ∧ ∀ x ∈ t.l, Dn d x)

theorem Dn.leaf {d : Nat} {k : Int} {s : ByteArray} (h : Lf k s) : Dn d (.node k s []) := by
  cases d with
  | zero => exact ⟨rfl, h⟩
  | succ d => exact Or.inl ⟨rfl, h⟩

theorem Dn.size {d : Nat} {t : Tr} (h : Dn d t) : t.s.size ≤ maxLen := by
  have h3 : ∀ n, n ≤ 3 → n ≤ maxLen := fun n hn => Nat.le_trans hn (by decide)
  cases d with
  | zero => exact h3 _ h.2.2.2
  | succ d =>
    rcases h with h | ⟨_, h, _⟩
    · exact h3 _ h.2.2.2
    · rw [h]; decide

/-- What may stand below a part of kind k. -/
def Fits (k : Int) (x : Tr) : Prop := x.k ≠ k ∧ (repB k = true → repB x.k = false)

theorem Dn.node {d : Nat} {k : Int} {l : List Tr} (hk : k = 4 ∨ k = 5 ∨ k = 6 ∨ k = 7 ∨ k = 8) (h1 : repB k = true → l.length = 1) (h2 : repB k = false → 2 ≤ l.length) (h3 : l.length ≤ 3) (hl : ∀ x ∈ l, Dn d x ∧ Fits k x) : Dn (d + 1) (.node k ⟨#[]⟩ l) := by
  refine Or.inr ⟨?_, rfl, h3, fun x hx => (hl x hx).1⟩
  have hkk : kinds l k = false := by
    unfold kinds
    rw [List.any_eq_false]
    intro x hx
    simp [(hl x hx).2.1]
  have hh : repB k = true → repB (headK l) = false := by
    intro hr
    match l, h1 hr with
    | [x], _ => exact (hl x (by simp)).2.2 hr
  rcases hk with rfl | rfl | rfl | rfl | rfl
  · have := h2 rfl
    simp [nodeB, Tr.k, Tr.s, Tr.l, hkk]
    exact ⟨decide_eq_true this, decide_eq_true (by omega)⟩
  · have := h2 rfl
    simp [nodeB, Tr.k, Tr.s, Tr.l, hkk]
    exact ⟨decide_eq_true this, decide_eq_true (by omega)⟩
  · simp [nodeB, Tr.k, Tr.s, Tr.l, h1 rfl, hh rfl]
  · simp [nodeB, Tr.k, Tr.s, Tr.l, h1 rfl, hh rfl]
  · simp [nodeB, Tr.k, Tr.s, Tr.l, h1 rfl, hh rfl]

theorem Lf.fits {k j : Int} {s : ByteArray} (h : Lf j s) (hk : k = 4 ∨ k = 5 ∨ k = 6 ∨ k = 7 ∨ k = 8) : Fits k (.node j s []) := by
  refine ⟨?_, fun _ => ?_⟩
  · show j ≠ k
    have := h.2.1
    omega
  · show repB j = false
    have := h.2.1
    simp only [repB, Bool.or_eq_false_iff, beq_eq_false_iff_ne]
    omega
end Go.Proofs.YtapniafhcagogaaGreatDoor
