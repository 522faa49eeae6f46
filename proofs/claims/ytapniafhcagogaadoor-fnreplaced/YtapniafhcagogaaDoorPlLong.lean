/- The places that have an end, each with its ends: the iterator. Matches and Longest: the program's. Longest: the program's. EndsOf: the program's; the places of a set collected. -/
import Derived.Test.YtapniafhcagogaaDoorPlTreeB
import Derived.Test.YtapniafhcagogaaDoorPlCan
import Derived.Test.YtapniafhcagogaaDoorSpecEnds
import Derived.ChangeKeysEq
import Derived.Laws.StructEq
import Derived.Maps.AppendAt
namespace Go.Proofs.YtapniafhcagogaaDoor
open Go.RowKit Go.Shelf
set_option maxRecDepth 8000

attribute [local go_sem] Oper.semAt_some

/-- Whether a place has an end. -/
def neB (M : Mat) (i : Nat) : Bool := !(rowUpto (M i) 256).isEmpty

theorem wd_zero {f : Nat → Bool} {j : Nat} : wd f j = 0 ↔ ∀ b, b < 64 → f (64 * j + b) = false := by
  constructor
  · intro h b hb
    have := wd_test f j b
    rw [h, Nat.zero_testBit, decide_eq_true hb, Bool.true_and] at this
    exact this.symm
  · intro h
    apply Nat.eq_of_testBit_eq
    intro b
    rw [wd_test, Nat.zero_testBit]
    by_cases hb : b < 64
    · rw [h b hb, Bool.and_false]
    · rw [decide_eq_false hb, Bool.false_and]
theorem neB_false {M : Mat} {i : Nat} : neB M i = false ↔ wd (M i) 0 = 0 ∧ wd (M i) 1 = 0 ∧ wd (M i) 2 = 0 ∧ wd (M i) 3 = 0 := by
  have e : neB M i = false ↔ ∀ k, k < 256 → M i k = false := by
    unfold neB
    rw [Bool.not_eq_false', List.isEmpty_iff]
    constructor
    · intro h k hk
      cases hm : M i k with
      | false => rfl
      | true =>
        have := (mem_rowUpto (M i) 256 k).2 ⟨hk, hm⟩
        rw [h] at this
        cases this
    · intro h
      apply List.eq_nil_iff_forall_not_mem.2
      intro k hk
      have := (mem_rowUpto (M i) 256 k).1 hk
      rw [h k this.1] at this
      cases this.2
  rw [e]
  simp only [wd_zero]
  constructor
  · intro h; exact ⟨fun b hb => h _ (by omega), fun b hb => h _ (by omega), fun b hb => h _ (by omega), fun b hb => h _ (by omega)⟩
  · rintro ⟨h0, h1, h2, h3⟩ k hk
    rcases (show k / 64 = 0 ∨ k / 64 = 1 ∨ k / 64 = 2 ∨ k / 64 = 3 by omega) with h | h | h | h
    · have := h0 (k % 64) (by omega); rwa [show 64 * 0 + k % 64 = k by omega] at this
    · have := h1 (k % 64) (by omega); rwa [show 64 * 1 + k % 64 = k by omega] at this
    · have := h2 (k % 64) (by omega); rwa [show 64 * 2 + k % 64 = k by omega] at this
    · have := h3 (k % 64) (by omega); rwa [show 64 * 3 + k % 64 = k by omega] at this

theorem cellsU64 : Tryd.prog.cellsOf 66 = 1 := by kernel_rfl
theorem plain_u64 : Tryd.prog.plainKey 66 = true := by kernel_rfl
theorem infoU64 : (Tryd.prog.info? 66).isSome = true := by kernel_rfl
theorem eq_step (W : World) (xs ys : Array Value) (i : Nat) (is : List Nat) (x y : Int) (hx : xs[i]? = some (.int .u64 x)) (hy : ys[i]? = some (.int .u64 y)) :
    (Op.eqItems 9999 66 1 xs ys (i :: is)).run Tryd.prog W = if (x == y) = true then (Op.eqItems 9999 66 1 xs ys is).run Tryd.prog W else .ok false W := by
  simp only [Op.eqItems, Sem.run_bind, Nat.mul_one]
  rw [run_part_plain W plain_u64 hx, Result.andThen_ok, run_part_plain W plain_u64 hy, Result.andThen_ok, run_equalIn_int W 9998 66 .u64 .u64 x y Tryd.underlying66, Result.andThen_ok]
  cases (x == y)
  · simp [Sem.run_pure]
  · simp
theorem eq_places (a b c d : Int) (W : World) : (Op.equalIn 10000 68 (.agg #[.int .u64 a, .int .u64 b, .int .u64 c, .int .u64 d]) (.agg #[.int .u64 0, .int .u64 0, .int .u64 0, .int .u64 0])).run Tryd.prog W = .ok (a == 0 && b == 0 && c == 0 && d == 0) W := by
  obtain ⟨i, hi⟩ := Option.isSome_iff_exists.1 infoU64
  rw [show (10000 : Nat) = 9999 + 1 from rfl, run_equalIn_array W 9999 _ _ (n := 4) Tryd.underlying68 hi, cellsU64, show List.range 4 = [0, 1, 2, 3] from rfl,
    eq_step W _ _ 0 _ a 0 rfl rfl, eq_step W _ _ 1 _ b 0 rfl rfl, eq_step W _ _ 2 _ c 0 rfl rfl, eq_step W _ _ 3 _ d 0 rfl rfl]
  cases (a == 0) <;> cases (b == 0) <;> cases (c == 0) <;> cases (d == 0) <;> rfl

theorem placesWithEnds_any (t : Tr) (v : Value) (s : ByteArray) (w : World) :
    Calls Tryd.prog 56 #[rx t.k t.s v, .string s] w fun e w' => e = .returned (.func (.func 87) #[] #[.pointer (some ⟨w.heap.size, 0, none⟩), .pointer (some ⟨w.heap.size + 1, 0, none⟩)]) ∧
      w' = (w.alloc (.cells #[.int .i64 t.k, .string t.s, v] 26)).alloc (.cells #[.string s] 9) := by
  go_enter Tryd.func56, Tryd.ntmps56
  go_wp2
  go_ret
  exact ⟨rfl, rfl⟩

/-- Cells lie as they lay. -/
structure KeepsCells (W W' : World) : Prop where
  size : W.heap.size ≤ W'.heap.size
  same : ∀ (k : Nat) (o : Obj), W.heap[k]? = some o → o.isCells = true → W'.heap[k]? = some o
theorem cellsK_t {A B C : World} (h : KeepsCells A B) (k : KeepsCells B C) : KeepsCells A C := ⟨Nat.le_trans h.size k.size, fun i o hi ho => k.same i o (h.same i o hi ho) ho⟩
theorem cellsK_b {w : World} (W : World) (l : Nat) (o o' : Obj) (_ : w.heap.size ≤ l) (h : W.heap[l]? = some o) (hc : o.isCells = false) (_ : o.isWalk = false) : KeepsCells W (W.putObj l o') :=
  ⟨by simp, fun k x hk hx => (World.putObj_heap_other (fun e => by subst e; rw [h] at hk; cases hk; rw [hc] at hx; cases hx)).trans hk⟩
theorem Below.grownAll {w w' : World} (h : Below w.heap.size w w') : w.grownBy w' none := ⟨h.os, h.tape, h.output, h.size, fun k hk _ => h.block k hk⟩

set_option maxRecDepth 100000 in
set_option maxHeartbeats 2000000 in
theorem pwe1_yes (n : Nat) (hn : 1 ≤ n) (l br bs : Nat) (t : Tr) (B : Nat → Prop) (v : Value) (s : ByteArray) (J Jx : List Nat → World → Prop) (W : World) (h : Rl W B t.l v) (hts : t.s.size ≤ maxLen) (hT : TabB W)
    (hr : Bz3 W br (.int .i64 t.k) (.string t.s) v) (hbs : Boxed W bs 9 (.string s)) (hs : s.size ≤ 200) (hok : okR t = true)
    (hJ : ∀ pre W1 W2, J pre W1 → Below W1.heap.size W1 W2 → J pre W2) (hJx : ∀ pre W1 W2, Jx pre W1 → Below W1.heap.size W1 W2 → Jx pre W2)
    (hY : ∀ pre (x : Nat) W1, J pre W1 → pre.length < s.size + 1 → YieldAt .wide (n - 1) Tryd.prog l #[.int .i64 (x : Int), aggW (t.endM s x)] W1 fun e W' =>
      (e = .returned (.bool true) ∧ J (pre ++ [x]) W' ∧ KeepsCells W1 W') ∨ (e = .returned (.bool false) ∧ Jx (pre ++ [x]) W'))
    (h0 : J [] W) :
    CallsIn .wide n Tryd.prog 87 #[.func (.yield l) #[] #[], .pointer (some ⟨br, 0, none⟩), .pointer (some ⟨bs, 0, none⟩)] W fun e W' => (∃ v, e = .returned v) ∧
      ((∃ ys, ys = rowUpto (neB (t.endM s)) (s.size + 1) ∧ J ys W') ∨ (∃ pre, (∃ k, k ≤ s.size + 1 ∧ pre = rowUpto (neB (t.endM s)) k) ∧ Jx pre W')) := by
  have HCM := Hid.mk (canMatch_any t B v s W h hts)
  rw [decide_eq_true hs, hok, Bool.true_and] at HCM
  have HEE := Hid.mk (fun (w' : World) (hb : Below W.heap.size W w') => endsEverywhere_any s hs t B v w' (h.grow hb) hts (okR_okT hok) (hT.grow hb))
  obtain ⟨M, hM⟩ : ∃ M, t.endM s = M := ⟨_, rfl⟩
  rw [hM] at HEE hY
  rw [hM]
  obtain ⟨ao, cap, rfl, -⟩ := h.len
  obtain ⟨tk, htk⟩ : ∃ tk, t.k = tk := ⟨_, rfl⟩
  obtain ⟨ts, hts'⟩ : ∃ ts, t.s = ts := ⟨_, rfl⟩
  obtain ⟨tl, htl⟩ : ∃ tl, t.l.length = tl := ⟨_, rfl⟩
  rw [htk, hts', htl] at HCM HEE hr
  obtain ⟨m, hm⟩ : ∃ m, s.size + 1 = m := ⟨_, rfl⟩
  have HM := Hid.mk hm
  unfold plS at HEE
  rw [hm] at HEE hY
  rw [hm]
  have hm2 : m ≤ 201 := by omega
  have HY := Hid.mk hY
  have HJ := Hid.mk hJ
  have HJX := Hid.mk hJx
  have HR := Hid.mk hr
  have HS := Hid.mk hbs
  have x0 := hr.c0
  have x1 := hr.c1
  have x2 := hr.c2
  have s0 := hbs.cell
  clear h hts hok hM htk hts' htl hY hm hJ hJx hT hr hbs
  refine callsIn_of_wp Tryd.func87 rfl trivial ?_ rfl
  simp only [Tryd.ntmps87, List.size_toArray, List.length_cons, List.length_nil, Nat.reduceAdd, Nat.reduceSub, Array.replicate_succ, Array.replicate_zero, List.push_toArray, List.append_toArray, List.nil_append, List.cons_append]
  gi_wp2_with (first
    | (refine ⟨trivial, ?_⟩; gi_at_call 44; refine (callsIn_wide.2 HCM.out).mono ?_; rintro e W2 ⟨rfl, hb2⟩; have X2 := HR.out.grow hb2; have S2 := (hb2.block _ HS.out.lt).trans HS.out; have y0 := X2.c0; have y1 := X2.c1; have y2 := X2.c2; have y3 := Boxed.cell S2; clear X2 S2 HCM x0 x1 x2 s0)
    | (refine ⟨trivial, ?_⟩; gi_at_call 46; refine (callsIn_wide.2 (HEE.out _ hb2)).mono ?_; rintro e W3 ⟨g, rfl, hg, hq3, hb3⟩; clear HEE y0 y1 y2 y3))
  have HJ3 := Hid.mk (HJ.out _ _ _ (HJ.out _ _ _ h0 hb2) hb3)
  have HQ3 := Hid.mk hq3
  clear h0 hq3 hb3 hg hb2
  gi_loopw [14] (fun q wr => ∃ (i : Nat), i ≤ m ∧ q = .int .i64 i ∧ Hid (J (rowUpto (neB M) i) wr) ∧ Hid (Pq wr g s.size M)) (fun q _ => m - (intOf q).toNat)
  case atStart => exact ⟨0, Nat.zero_le _, rfl, HJ3, HQ3⟩
  case round =>
    obtain ⟨i, hi, rfl, HJr, HQr⟩ := hrel
    clear HJ3 HQ3
    by_cases him : (i : Int) < (m : Int)
    · have hil : i ≤ s.size := by have := HM.out; omega
      have a0 := HQr.out.cell hil (show 0 < 4 by omega)
      have a1 := HQr.out.cell hil (show 1 < 4 by omega)
      have a2 := HQr.out.cell hil (show 2 < 4 by omega)
      have a3 := HQr.out.cell hil (show 3 < 4 by omega)
      rw [Nat.add_zero] at a0
      have heq := eq_places (wd (M i) 0 : Int) (wd (M i) 1 : Int) (wd (M i) 2 : Int) (wd (M i) 3 : Int)
      have HB : Hid (∀ o, Below wr.heap.size wr (wr.alloc o)) := fun o => (Below.refl _ _).alloc (Nat.le_refl _) _
      cases hne : neB M i with
      | false =>
        obtain ⟨z0, z1, z2, z3⟩ := neB_false.1 hne
        rw [z0, z1, z2, z3] at heq
        rw [z0] at a0
        rw [z1] at a1
        rw [z2] at a2
        rw [z3] at a3
        simp only [Int.natCast_zero, beq_self_eq_true, Bool.and_self] at heq
        have HN := Hid.mk (rowUpto_no _ _ hne)
        clear hne z0 z1 z2 z3
        gi_wp2
        refine ⟨fun _ h => (by cases h), ?_⟩
        gi_wp2
        go_roundw
        case rel => exact ⟨i + 1, by omega, by go_num, by show J _ _; rw [HN.out]; exact HJ.out _ _ _ HJr.out (HB.out _), HQr.out.grow (HB.out _)⟩
        case measure => simp [intOf]; omega
      | true =>
        have hz : ((wd (M i) 0 : Int) == 0 && (wd (M i) 1 : Int) == 0 && (wd (M i) 2 : Int) == 0 && (wd (M i) 3 : Int) == 0) = false := by
          rw [Bool.eq_false_iff]
          intro h
          simp only [Bool.and_eq_true, beq_iff_eq] at h
          rw [neB_false.2 ⟨by omega, by omega, by omega, by omega⟩] at hne
          cases hne
        rw [hz] at heq
        have HN := Hid.mk (rowUpto_yes _ _ hne)
        have HJ1 := HJ.out _ _ _ HJr.out (HB.out (.cells #[.int .u64 (wd (M i) 0 : Int), .int .u64 (wd (M i) 1 : Int), .int .u64 (wd (M i) 2 : Int), .int .u64 (wd (M i) 3 : Int)] 68))
        obtain ⟨fn, tmps, assign, body, hy, hR⟩ := HY.out _ i _ HJ1 (by have := rowUpto_len (neB M) i; omega)
        have HQ1 := Hid.mk (HQr.out.grow (HB.out (.cells #[.int .u64 (wd (M i) 0 : Int), .int .u64 (wd (M i) 1 : Int), .int .u64 (wd (M i) 2 : Int), .int .u64 (wd (M i) 3 : Int)] 68)))
        clear hz hne HJ1 HJr HQr
        gi_wp2
        refine hR.mono ?_
        rintro e W4 (⟨rfl, hJ4, hk4⟩ | ⟨rfl, hJx4⟩)
        · have HJn : Hid (J (rowUpto (neB M) (i + 1)) W4) := by
            show J _ _
            rw [HN.out]; exact hJ4
          have HQn : Hid (Pq W4 g s.size M) := hk4.same _ _ HQ1.out rfl
          clear hy hR hJ4 hk4 heq a0 a1 a2 a3
          gi_wp2
          go_roundw
          case rel => exact ⟨i + 1, by omega, by go_num, HJn, HQn⟩
          case measure => simp [intOf]; omega
        · have HJX4 := Hid.mk hJx4
          clear hy hR hJx4 heq a0 a1 a2 a3
          gi_wp2
          refine bodyPost_ret (results_none rfl _ _ _) rfl ?_
          exact ⟨⟨_, rfl⟩, .inr ⟨_, ⟨i + 1, by omega, HN.out.symm⟩, HJX4.out⟩⟩
    · obtain rfl : i = m := by omega
      have HJe := HJr
      clear HJr
      gi_wp2
      go_end0
      first | exact ⟨⟨_, rfl⟩, .inl ⟨_, rfl, HJe.out⟩⟩ | exact ⟨⟨_, rfl⟩, .inl HJe.out⟩
end Go.Proofs.YtapniafhcagogaaDoor

namespace Go.Proofs.YtapniafhcagogaaDoor
open Go.RowKit Go.Shelf
set_option maxRecDepth 8000

attribute [local go_sem] Oper.semAt_some

theorem rowL_upto {n : Nat} {M : Mat} (h : UpM n M) (hn : n < 256) {i : Nat} (hi : i ≤ n) : rowUpto (M i) 256 = rowL n (M i) := by
  have := rowUpto_gap (M i) (n + 1) 256 (by omega) (fun b h1 _ => by
    cases hb : M i b with
    | false => rfl
    | true => have := h i b hi hb; omega)
  rw [this]
  rfl
def lastP (M : Mat) (x : Nat) : Nat := (rowUpto (M x) 256).getLast?.getD 0
theorem longF_eq {n : Nat} {M : Mat} (h : UpM n M) (hn : n < 256) : ∀ d i, i + d ≤ n + 1 → longF n M i d = ((List.range' i d).filter (neB M)).head?.map (fun x => (x, lastP M x)) := by
  intro d
  induction d with
  | zero => intro i _; rfl
  | succ d ih =>
    intro i hi
    have e := rowL_upto h hn (show i ≤ n by omega)
    rw [longF, List.range'_succ, List.filter_cons]
    unfold neB lastP
    rw [e]
    cases hl : (rowL n (M i)).getLast? with
    | none =>
      rw [List.getLast?_eq_none_iff] at hl
      rw [hl]
      simp only [List.isEmpty_nil, Bool.not_true, Bool.false_eq_true, if_false]
      exact ih (i + 1) (by omega)
    | some x =>
      have hne : (rowL n (M i)).isEmpty = false := by
        rw [List.isEmpty_eq_false_iff]
        intro e'
        rw [e'] at hl
        cases hl
      rw [hne]
      simp only [Bool.not_false, if_true, List.head?_cons, Option.map_some]
      rw [e, hl]
      rfl

/-- The places that come. -/
def comes (t : Tr) (s : ByteArray) : List Nat := if okR t = true ∧ s.size ≤ 200 then rowUpto (neB (t.endM s)) (s.size + 1) else []
theorem longE_comes (t : Tr) (s : ByteArray) : longE t s = (comes t s).head?.map (fun x => (x, lastP (t.endM s) x)) := by
  unfold longE comes
  by_cases h : okR t = true ∧ s.size ≤ 200
  · rw [if_pos h, if_pos h, longF_eq (UpM.tree s t) (by omega) _ _ (by omega)]
    unfold rowUpto
    rw [List.range_eq_range']
  · rw [if_neg h, if_neg h]
    rfl
theorem upto_head {f : Nat → Bool} {k n x : Nat} (hk : k ≤ n) (h : rowUpto f k = [x]) : (rowUpto f n).head? = some x := by
  unfold rowUpto at *
  have : List.range n = List.range k ++ List.range' k (n - k) := by
    rw [List.range_eq_range', List.range_eq_range']
    have := List.range'_append (s := 0) (m := k) (n := n - k) (step := 1)
    simp only [Nat.one_mul, Nat.zero_add] at this
    rw [this, show k + (n - k) = n by omega]
  rw [this, List.filter_append, h]
  rfl

set_option maxRecDepth 100000 in
set_option maxHeartbeats 2000000 in
theorem pwe1_no (n : Nat) (hn : 1 ≤ n) (l br bs : Nat) (t : Tr) (B : Nat → Prop) (v : Value) (s : ByteArray) (W : World) (h : Rl W B t.l v) (hts : t.s.size ≤ maxLen)
    (hr : Bz3 W br (.int .i64 t.k) (.string t.s) v) (hbs : Boxed W bs 9 (.string s)) (hno : (decide (s.size ≤ 200) && okR t) = false) :
    CallsIn .wide n Tryd.prog 87 #[.func (.yield l) #[] #[], .pointer (some ⟨br, 0, none⟩), .pointer (some ⟨bs, 0, none⟩)] W fun e W' => (∃ v, e = .returned v) ∧ Below W.heap.size W W' := by
  have HCM := Hid.mk (canMatch_any t B v s W h hts)
  rw [hno] at HCM
  obtain ⟨ao, cap, rfl, -⟩ := h.len
  obtain ⟨tk, htk⟩ : ∃ tk, t.k = tk := ⟨_, rfl⟩
  obtain ⟨ts, hts'⟩ : ∃ ts, t.s = ts := ⟨_, rfl⟩
  obtain ⟨tl, htl⟩ : ∃ tl, t.l.length = tl := ⟨_, rfl⟩
  rw [htk, hts', htl] at HCM hr
  have x0 := hr.c0
  have x1 := hr.c1
  have x2 := hr.c2
  have s0 := hbs.cell
  clear h hts htk hts' htl hr hbs hno
  refine callsIn_of_wp Tryd.func87 rfl trivial ?_ rfl
  simp only [Tryd.ntmps87, List.size_toArray, List.length_cons, List.length_nil, Nat.reduceAdd, Nat.reduceSub, Array.replicate_succ, Array.replicate_zero, List.push_toArray, List.append_toArray, List.nil_append, List.cons_append]
  gi_wp2_with (refine ⟨trivial, ?_⟩; gi_at_call 44; refine (callsIn_wide.2 HCM.out).mono ?_; rintro e W2 ⟨rfl, hb2⟩)
  refine bodyPost_ret (results_none rfl _ _ _) rfl ?_
  exact ⟨⟨_, rfl⟩, hb2⟩

theorem foldl_zip2 (ts : Array Value) (p q : Nat) (u v : Value) : (#[p, q].zip #[u, v]).foldl (fun t (x : Nat × Value) => match x with | (p, v) => t.setIfInBounds p v) ts = (ts.setIfInBounds p u).setIfInBounds q v := by
  have e : #[p, q].zip #[u, v] = #[(p, u), (q, v)] := by simp
  rw [e]
  rfl

/-- **The iterator over the places that have an end.** -/
theorem pwe_stops (n : Nat) (hn : 1 ≤ n) (br bs : Nat) (t : Tr) (B : Nat → Prop) (v : Value) (s : ByteArray) (w : World) (h : Rl w B t.l v) (hts : t.s.size ≤ maxLen) (hT : TabB w)
    (hr : Bz3 w br (.int .i64 t.k) (.string t.s) v) (hbs : Boxed w bs 9 (.string s)) :
    SeqStopsK .wide n Tryd.prog 87 #[.pointer (some ⟨br, 0, none⟩), .pointer (some ⟨bs, 0, none⟩)] (fun (x : Nat) => #[.int .i64 (x : Int), aggW (t.endM s x)]) KeepsCells (fun ys => ys = comes t s)
      (fun pre => ∀ x, pre = [x] → (comes t s).head? = some x) (s.size + 1) w := by
  intro l J Jx W hW hJ hJx hY h0
  have aJ : ∀ pre W1 W2, J pre W1 → Below W1.heap.size W1 W2 → J pre W2 := fun pre W1 W2 hj hb => hJ pre W1 W2 none hj (Below.grownAll hb) (fun r e => by cases e)
  have aJx : ∀ pre W1 W2, Jx pre W1 → Below W1.heap.size W1 W2 → Jx pre W2 := fun pre W1 W2 hj hb => hJx pre W1 W2 none hj (Below.grownAll hb) (fun r e => by cases e)
  have hS : Boxed W bs 9 (.string s) := (hW.block _ hbs.lt).trans hbs
  by_cases hok : okR t = true ∧ s.size ≤ 200
  · refine (pwe1_yes n hn l br bs t B v s J Jx W (h.grow hW) hts (hT.grow hW) (hr.grow hW) hS hok.2 hok.1 aJ aJx hY h0).mono ?_
    rintro e W' ⟨h1, (⟨ys, h2, h3⟩ | ⟨pre, ⟨k, hk, h2⟩, h3⟩)⟩
    · exact ⟨h1, .inl ⟨ys, by unfold comes; rw [if_pos hok]; exact h2, h3⟩⟩
    · refine ⟨h1, .inr ⟨pre, fun x hx => ?_, h3⟩⟩
      unfold comes
      rw [if_pos hok]
      exact upto_head hk (h2.symm.trans hx)
  · refine (pwe1_no n hn l br bs t B v s W (h.grow hW) hts (hr.grow hW) hS ?_).mono ?_
    · rw [Bool.eq_false_iff]
      intro e
      simp only [Bool.and_eq_true, decide_eq_true_iff] at e
      exact hok ⟨e.2, e.1⟩
    · rintro e W' ⟨h1, h2⟩
      exact ⟨h1, .inl ⟨[], by unfold comes; rw [if_neg hok], aJ _ _ _ h0 h2⟩⟩

set_option maxRecDepth 100000 in
set_option maxHeartbeats 2000000 in
theorem matches_any (t : Tr) (B : Nat → Prop) (v : Value) (s : ByteArray) (w : World) (h : Rl w B t.l v) (hts : t.s.size ≤ maxLen) (hT : TabB w) :
    Calls Tryd.prog 25 #[rx t.k t.s v, .string s] w fun e w' => e = .returned (.bool (longE t s).isSome) ∧ Below w.heap.size w w' := by
  have HE := Hid.mk (longE_comes t s)
  have HP := Hid.mk (fun w' => placesWithEnds_any t v s w')
  have HST := Hid.mk (fun (br bs : Nat) (w' : World) (hb : Below w.heap.size w w') => pwe_stops 3 (by omega) br bs t B v s w' (h.grow hb) hts (hT.grow hb))
  obtain ⟨ao, cap, rfl, -⟩ := h.len
  obtain ⟨E, hE⟩ : ∃ E, longE t s = E := ⟨_, rfl⟩
  obtain ⟨C, hC⟩ : ∃ C, comes t s = C := ⟨_, rfl⟩
  obtain ⟨M, hM⟩ : ∃ M, t.endM s = M := ⟨_, rfl⟩
  obtain ⟨tk, htk⟩ : ∃ tk, t.k = tk := ⟨_, rfl⟩
  obtain ⟨ts, hts'⟩ : ∃ ts, t.s = ts := ⟨_, rfl⟩
  obtain ⟨tl, htl⟩ : ∃ tl, t.l.length = tl := ⟨_, rfl⟩
  rw [htk, hts', htl] at HP HST
  rw [hM, hC] at HST HE
  rw [hE] at HE
  rw [htk, hts', htl, hE]
  clear h hts hT hE hC hM htk hts' htl
  refine (callsIn_wide (n := 4)).1 ?_
  refine callsIn_of_wp_marks Tryd.func25 rfl trivial ?_ rfl
  simp only [Tryd.ntmps25, List.size_toArray, List.length_cons, List.length_nil, Nat.reduceAdd, Nat.reduceSub, Array.replicate_succ, Array.replicate_zero, List.push_toArray, List.append_toArray, List.nil_append, List.cons_append]
  gi_wp2_with (refine ⟨trivial, ?_⟩; gi_at_call 56; refine (callsIn_wide.2 (HP.out _)).mono ?_; rintro e w' ⟨rfl, rfl⟩)
  obtain ⟨V0, hV0⟩ : ∃ V0, w.alloc (.cells #[.int .i64 tk, .string ts, .slice ao tl cap] 26) = V0 := ⟨_, rfl⟩
  have S0 : V0.heap.size = w.heap.size + 1 := by rw [← hV0]; simp
  have B0 : Below w.heap.size w V0 := by rw [← hV0]; exact (Below.refl _ _).alloc (Nat.le_refl _) _
  rw [hV0]
  clear hV0
  have R1 := Boxed.new V0 4 (.bool false)
  have B1 : Below w.heap.size w (V0.alloc (.cells #[.bool false] 4)) := B0.alloc (by omega) _
  rw [S0] at R1
  have S1 : (V0.alloc (.cells #[.bool false] 4)).heap.size = w.heap.size + 2 := by simp [S0]
  generalize V0.alloc (.cells #[.bool false] 4) = V1 at R1 B1 S1 ⊢
  have X2 := Bz3.new V1 (.int .i64 tk) (.string ts) (.slice ao tl cap)
  have R2 := R1.alloc (.cells #[.int .i64 tk, .string ts, .slice ao tl cap] 26)
  have B2 : Below w.heap.size w (V1.alloc (.cells #[.int .i64 tk, .string ts, .slice ao tl cap] 26)) := B1.alloc (by omega) _
  have S2 : (V1.alloc (.cells #[.int .i64 tk, .string ts, .slice ao tl cap] 26)).heap.size = w.heap.size + 3 := by simp [S1]
  rw [S1] at X2
  generalize V1.alloc (.cells #[.int .i64 tk, .string ts, .slice ao tl cap] 26) = V2 at X2 R2 B2 S2 ⊢
  have Y3 := Boxed.new V2 9 (.string s)
  have A3 : Below V2.heap.size V2 (V2.alloc (.cells #[.string s] 9)) := (Below.refl _ _).alloc (Nat.le_refl _) _
  have X3 := X2.grow A3
  have R3 := R2.alloc (.cells #[.string s] 9)
  have B3 := B2.trans (A3.mono B2.size)
  have S3 : (V2.alloc (.cells #[.string s] 9)).heap.size = w.heap.size + 4 := by simp [S2]
  rw [S2] at Y3
  generalize V2.alloc (.cells #[.string s] 9) = Wl at Y3 X3 R3 B3 S3 ⊢
  clear R1 B1 S1 X2 R2 B2 S2 A3 B0 S0
  have hSEQ := HST.out (w.heap.size + 1 + 1) (w.heap.size + 1 + 1 + 1) Wl B3 X3 Y3
  obtain ⟨II, hII⟩ : ∃ II : List Nat → World → Prop, ∀ pre W, II pre W ↔ pre = [] ∧ Boxed W (w.heap.size + 1) 4 (.bool false) ∧ Below w.heap.size w W := ⟨_, fun _ _ => Iff.rfl⟩
  obtain ⟨IX, hIX⟩ : ∃ IX : Code → List Nat → World → Prop, ∀ c pre W, IX c pre W ↔ c = .ret ∧ (∃ x, pre = [x]) ∧ Boxed W (w.heap.size + 1) 4 (.bool true) ∧ Below w.heap.size w W := ⟨_, fun _ _ _ => Iff.rfl⟩
  have hOWN : OwnFrom Wl.heap.size II := by
    intro q X Y row hs hg hr
    obtain ⟨h1, h2, h3⟩ := (hII _ _).1 hs
    exact (hII _ _).2 ⟨h1, boxed_owned h2 hg hr, ownFrom_below (w₀ := w) (Nat.le_refl w.heap.size) (show w.heap.size ≤ Wl.heap.size by omega) q X Y row h3 hg hr⟩
  have hOWX : ∀ c, OwnFrom Wl.heap.size (IX c) := by
    intro c q X Y row hs hg hr
    obtain ⟨h0, h1, h2, h3⟩ := (hIX _ _ _).1 hs
    exact (hIX _ _ _).2 ⟨h0, h1, boxed_owned h2 hg hr, ownFrom_below (w₀ := w) (Nat.le_refl w.heap.size) (show w.heap.size ≤ Wl.heap.size by omega) q X Y row h3 hg hr⟩
  have h00 : II [] Wl := (hII _ _).2 ⟨rfl, R3, B3⟩
  refine wpIn_rangeFunc_ownF rfl (by omega) (gf := 87) (lb := #[.pointer (some ⟨w.heap.size + 1 + 1, 0, none⟩), .pointer (some ⟨w.heap.size + 1 + 1 + 1, 0, none⟩)]) rfl trivial (enters_of Tryd.func87 (by kernel_rfl) rfl)
    hSEQ cellsK_t cellsK_b (Below.refl _ _) (fun _ => rfl) II IX hOWN hOWX h00
    (fun x => { tmps := #[rx tk ts (.slice ao tl cap), .string s, .pointer (some ⟨w.heap.size, 0, none⟩), undef, .pointer (some ⟨w.heap.size + 1, 0, none⟩), rx tk ts (.slice ao tl cap), .string s, .func (.func 87) #[] #[.pointer (some ⟨w.heap.size + 1 + 1, 0, none⟩), .pointer (some ⟨w.heap.size + 1 + 1 + 1, 0, none⟩)], .int .i64 (x : Int), aggW (M x)], defers := [] }) ?assign ?body ?done ?stop
  case assign =>
    intro l x W K hK
    refine wpIn_skip ?_
    show K { tmps := _, defers := [] } W
    rw [foldl_zip2]
    exact hK
  case body =>
    intro l pre x W hi _
    obtain ⟨rfl, hc, hB⟩ := (hII _ _).1 hi
    have c0 := hc.cell
    have f0 := hc.frozen
    gi_wp2
    refine ⟨KeepsOthers.setCell _ _ _, (hIX _ _ _).2 ⟨rfl, ⟨x, rfl⟩, ?_, hB.setCell (p := ⟨w.heap.size + 1, 0, none⟩) (by simp) _⟩⟩
    exact heap_setCell_same W (w.heap.size + 1) _ _ _ _ hc
  case done =>
    intro D ys W hD hys hi hK
    obtain ⟨rfl, hc, hB⟩ := (hII _ _).1 hi
    have c0 := hc.cell
    have f0 := hc.frozen
    have hE0 : E = none := by rw [HE.out, ← hys]; rfl
    subst hE0
    gi_wp2
    have hc' : Boxed (W.setCell ⟨w.heap.size + 1, 0, none⟩ (.bool false)) (w.heap.size + 1) 4 (.bool false) := heap_setCell_same W (w.heap.size + 1) _ _ _ _ hc
    have hK' := (KeepsOthers.setCell W ⟨w.heap.size + 1, 0, none⟩ (.bool false)).same D _ hK rfl
    refine leaves_marks _ _ (.cons (B := w.heap.size) (by omega) hK' (by simp) .nil) (fun W' hb hcc => ?_)
    have cW := Boxed.cell (hcc _ _ hc' rfl)
    exact ⟨.bool false, by simp [results, Tryd.results25, go_sem, cW], rfl, (hB.setCell (p := ⟨w.heap.size + 1, 0, none⟩) (by simp) _).trans hb⟩
  case stop =>
    intro D c pre W hD hsp hi hK
    obtain ⟨rfl, ⟨x, rfl⟩, hc, hB⟩ := (hIX _ _ _).1 hi
    have hE0 : E = some (x, lastP M x) := by rw [HE.out, hsp x rfl]; rfl
    subst hE0
    gi_wp2
    refine leaves_marks _ _ (.cons (B := w.heap.size) (by omega) hK (by simp) .nil) (fun W' hb hcc => ?_)
    have cW := Boxed.cell (hcc _ _ hc rfl)
    exact ⟨.bool true, by simp [results, Tryd.results25, go_sem, cW], rfl, hB.trans hb⟩
end Go.Proofs.YtapniafhcagogaaDoor

namespace Go.Proofs.YtapniafhcagogaaDoor
open Go.RowKit Go.Shelf
set_option maxRecDepth 8000

attribute [local go_sem] Oper.semAt_some

theorem boxed_set {W : World} {B : Nat} {t : TypeId} {v : Value} (h : Boxed W B t v) (u : Value) : Boxed (W.setCell ⟨B, 0, none⟩ u) B t u := heap_setCell_same W B 0 _ _ u h

set_option maxRecDepth 100000 in
set_option maxHeartbeats 2000000 in
theorem longest_any (t : Tr) (B : Nat → Prop) (v : Value) (s : ByteArray) (w : World) (h : Rl w B t.l v) (hts : t.s.size ≤ maxLen) (hT : TabB w) :
    Calls Tryd.prog 24 #[rx t.k t.s v, .string s] w fun e w' => e = .returned (longV (longE t s)) ∧ Below w.heap.size w w' := by
  have HE := Hid.mk (longE_comes t s)
  have HP := Hid.mk (fun w' => placesWithEnds_any t v s w')
  have HST := Hid.mk (fun (br bs : Nat) (w' : World) (hb : Below w.heap.size w w') => pwe_stops 3 (by omega) br bs t B v s w' (h.grow hb) hts (hT.grow hb))
  obtain ⟨ao, cap, rfl, -⟩ := h.len
  obtain ⟨E, hE⟩ : ∃ E, longE t s = E := ⟨_, rfl⟩
  obtain ⟨C, hC⟩ : ∃ C, comes t s = C := ⟨_, rfl⟩
  obtain ⟨M, hM⟩ : ∃ M, t.endM s = M := ⟨_, rfl⟩
  obtain ⟨tk, htk⟩ : ∃ tk, t.k = tk := ⟨_, rfl⟩
  obtain ⟨ts, hts'⟩ : ∃ ts, t.s = ts := ⟨_, rfl⟩
  obtain ⟨tl, htl⟩ : ∃ tl, t.l.length = tl := ⟨_, rfl⟩
  rw [htk, hts', htl] at HP HST
  rw [hM, hC] at HST HE
  rw [hE] at HE
  rw [htk, hts', htl, hE]
  have HTB := Hid.mk hT
  clear h hts hT hE hC hM htk hts' htl
  refine (callsIn_wide (n := 4)).1 ?_
  refine callsIn_of_wp_marks Tryd.func24 rfl trivial ?_ rfl
  simp only [Tryd.ntmps24, List.size_toArray, List.length_cons, List.length_nil, Nat.reduceAdd, Nat.reduceSub, Array.replicate_succ, Array.replicate_zero, List.push_toArray, List.append_toArray, List.nil_append, List.cons_append]
  gi_wp2_with (refine ⟨trivial, ?_⟩; gi_at_call 56; refine (callsIn_wide.2 (HP.out _)).mono ?_; rintro e w' ⟨rfl, rfl⟩)
  obtain ⟨V0, hV0⟩ : ∃ V0, w.alloc (.cells #[.int .i64 tk, .string ts, .slice ao tl cap] 26) = V0 := ⟨_, rfl⟩
  have S0 : V0.heap.size = w.heap.size + 1 := by rw [← hV0]; simp
  have B0 : Below w.heap.size w V0 := by rw [← hV0]; exact (Below.refl _ _).alloc (Nat.le_refl _) _
  rw [hV0]
  clear hV0
  have P1 := Boxed.new V0 3 (.int .i64 0)
  rw [S0] at P1
  have B1 : Below w.heap.size w (V0.alloc (.cells #[.int .i64 0] 3)) := B0.alloc (by omega) _
  have S1 : (V0.alloc (.cells #[.int .i64 0] 3)).heap.size = w.heap.size + 2 := by simp [S0]
  generalize V0.alloc (.cells #[.int .i64 0] 3) = V1 at P1 B1 S1 ⊢
  have P2 := Boxed.new V1 3 (.int .i64 0)
  rw [S1] at P2
  replace P1 := P1.alloc (.cells #[.int .i64 0] 3)
  have B2 : Below w.heap.size w (V1.alloc (.cells #[.int .i64 0] 3)) := B1.alloc (by omega) _
  have S2 : (V1.alloc (.cells #[.int .i64 0] 3)).heap.size = w.heap.size + 3 := by simp [S1]
  generalize V1.alloc (.cells #[.int .i64 0] 3) = V2 at P1 P2 B2 S2 ⊢
  have P3 := Boxed.new V2 4 (.bool false)
  rw [S2] at P3
  replace P1 := P1.alloc (.cells #[.bool false] 4)
  replace P2 := P2.alloc (.cells #[.bool false] 4)
  have B3 : Below w.heap.size w (V2.alloc (.cells #[.bool false] 4)) := B2.alloc (by omega) _
  have S3 : (V2.alloc (.cells #[.bool false] 4)).heap.size = w.heap.size + 4 := by simp [S2]
  generalize V2.alloc (.cells #[.bool false] 4) = V3 at P1 P2 P3 B3 S3 ⊢
  have X4 := Bz3.new V3 (.int .i64 tk) (.string ts) (.slice ao tl cap)
  rw [S3] at X4
  replace P1 := P1.alloc (.cells #[.int .i64 tk, .string ts, .slice ao tl cap] 26)
  replace P2 := P2.alloc (.cells #[.int .i64 tk, .string ts, .slice ao tl cap] 26)
  replace P3 := P3.alloc (.cells #[.int .i64 tk, .string ts, .slice ao tl cap] 26)
  have B4 : Below w.heap.size w (V3.alloc (.cells #[.int .i64 tk, .string ts, .slice ao tl cap] 26)) := B3.alloc (by omega) _
  have S4 : (V3.alloc (.cells #[.int .i64 tk, .string ts, .slice ao tl cap] 26)).heap.size = w.heap.size + 5 := by simp [S3]
  generalize V3.alloc (.cells #[.int .i64 tk, .string ts, .slice ao tl cap] 26) = V4 at P1 P2 P3 X4 B4 S4 ⊢
  have Y5 := Boxed.new V4 9 (.string s)
  rw [S4] at Y5
  have A5 : Below V4.heap.size V4 (V4.alloc (.cells #[.string s] 9)) := (Below.refl _ _).alloc (Nat.le_refl _) _
  have X5 := X4.grow A5
  replace P1 := P1.alloc (.cells #[.string s] 9)
  replace P2 := P2.alloc (.cells #[.string s] 9)
  replace P3 := P3.alloc (.cells #[.string s] 9)
  have B5 := B4.trans (A5.mono B4.size)
  have S5 : (V4.alloc (.cells #[.string s] 9)).heap.size = w.heap.size + 6 := by simp [S4]
  generalize V4.alloc (.cells #[.string s] 9) = Wl at P1 P2 P3 X5 Y5 B5 S5 ⊢
  clear B0 S0 B1 S1 B2 S2 B3 S3 X4 B4 S4 A5
  have hSEQ := HST.out (w.heap.size + 4) (w.heap.size + 5) Wl B5 X5 Y5
  obtain ⟨II, hII⟩ : ∃ II : List Nat → World → Prop, ∀ pre W, II pre W ↔ pre = [] ∧ Boxed W (w.heap.size + 1) 3 (.int .i64 0) ∧ Boxed W (w.heap.size + 2) 3 (.int .i64 0) ∧ Boxed W (w.heap.size + 3) 4 (.bool false) ∧ Below w.heap.size w W := ⟨_, fun _ _ => Iff.rfl⟩
  obtain ⟨IX, hIX⟩ : ∃ IX : Code → List Nat → World → Prop, ∀ c pre W, IX c pre W ↔ c = .ret ∧ (∃ x : Nat, pre = [x] ∧ Boxed W (w.heap.size + 1) 3 (.int .i64 (x : Int)) ∧ Boxed W (w.heap.size + 2) 3 (.int .i64 (lastP M x : Int)) ∧ Boxed W (w.heap.size + 3) 4 (.bool true)) ∧ Below w.heap.size w W := ⟨_, fun _ _ _ => Iff.rfl⟩
  obtain ⟨AX, hAX⟩ : ∃ AX : Nat → Act → World → Prop, ∀ x a' W, AX x a' W ↔ ∃ Bx, w.heap.size + 4 ≤ Bx ∧ W.heap[Bx]? = some (.cells #[.int .u64 (wd (M x) 0 : Int), .int .u64 (wd (M x) 1 : Int), .int .u64 (wd (M x) 2 : Int), .int .u64 (wd (M x) 3 : Int)] 68 (0, 0)) ∧
      a' = { tmps := #[rx tk ts (.slice ao tl cap), .string s, .pointer (some ⟨w.heap.size, 0, none⟩), undef, .pointer (some ⟨w.heap.size + 1, 0, none⟩), .pointer (some ⟨w.heap.size + 2, 0, none⟩), .pointer (some ⟨w.heap.size + 3, 0, none⟩), .int .i64 (x : Int), .pointer (some ⟨Bx, 0, none⟩), rx tk ts (.slice ao tl cap), .string s, .func (.func 87) #[] #[.pointer (some ⟨w.heap.size + 4, 0, none⟩), .pointer (some ⟨w.heap.size + 5, 0, none⟩)], .int .i64 (x : Int), aggW (M x), undef, undef, undef], defers := [] } := ⟨_, fun _ _ _ => Iff.rfl⟩
  have hOWN : OwnFrom Wl.heap.size II := by
    intro q X Y row hs hg hr
    obtain ⟨h1, h2, h2b, h2c, h3⟩ := (hII _ _).1 hs
    exact (hII _ _).2 ⟨h1, boxed_owned h2 hg hr, boxed_owned h2b hg hr, boxed_owned h2c hg hr, ownFrom_below (w₀ := w) (Nat.le_refl w.heap.size) (show w.heap.size ≤ Wl.heap.size by omega) q X Y row h3 hg hr⟩
  have hOWX : ∀ c, OwnFrom Wl.heap.size (IX c) := by
    intro c q X Y row hs hg hr
    obtain ⟨h0, ⟨x, h1, h2, h2b, h2c⟩, h3⟩ := (hIX _ _ _).1 hs
    exact (hIX _ _ _).2 ⟨h0, ⟨x, h1, boxed_owned h2 hg hr, boxed_owned h2b hg hr, boxed_owned h2c hg hr⟩, ownFrom_below (w₀ := w) (Nat.le_refl w.heap.size) (show w.heap.size ≤ Wl.heap.size by omega) q X Y row h3 hg hr⟩
  have hOWA : ∀ x a', OwnFrom Wl.heap.size (fun (_ : Unit) W => AX x a' W) := by
    intro x a' q X Y row hs hg hr
    obtain ⟨Bx, h1, h2, h3⟩ := (hAX _ _ _).1 hs
    exact (hAX _ _ _).2 ⟨Bx, h1, own_cells h2 rfl hg hr, h3⟩
  have h00 : II [] Wl := (hII _ _).2 ⟨rfl, P1, P2, P3, B5⟩
  refine wpIn_rangeFunc_ownH rfl (by omega) (gf := 87) (lb := #[.pointer (some ⟨w.heap.size + 4, 0, none⟩), .pointer (some ⟨w.heap.size + 5, 0, none⟩)]) rfl trivial (enters_of Tryd.func87 (by kernel_rfl) rfl)
    hSEQ cellsK_t cellsK_b (Below.refl _ _) (fun _ => rfl) II IX hOWN hOWX h00 AX hOWA ?assign ?body ?done ?stop
  case assign =>
    intro l pre x W K hi hK
    obtain ⟨rfl, h1, h2, h3, hB⟩ := (hII _ _).1 hi
    gi_wp2
    have hn := heap_alloc_new W (.cells #[.int .u64 (wd (M x) 0 : Int), .int .u64 (wd (M x) 1 : Int), .int .u64 (wd (M x) 2 : Int), .int .u64 (wd (M x) 3 : Int)] 68)
    refine hK _ _ ((KeepsOthers.alloc W _).from _) ⟨by simp, fun k o hk _ => (Below.heap_alloc W _ k (Array.getElem?_eq_some_iff.1 hk).1).trans hk⟩ ((hII _ _).2 ⟨rfl, h1.alloc _, h2.alloc _, h3.alloc _, hB.alloc hB.size _⟩) ((hAX _ _ _).2 ⟨W.heap.size, by have := h3.lt; omega, hn, rfl⟩)
  case body =>
    intro l pre x a' W _ _ hi ha _
    obtain ⟨rfl, h1, h2, h3, hB⟩ := (hII _ _).1 hi
    obtain ⟨Bx, hBx, hcx, rfl⟩ := (hAX _ _ _).1 ha
    have c0 : W.cell? ⟨Bx, 0, none⟩ = some (.int .u64 (wd (M x) 0 : Int)) := by rw [cell_of_row W Bx 0 _ _ (0, 0) hcx]; rfl
    have c1 : W.cell? ⟨Bx, 1, none⟩ = some (.int .u64 (wd (M x) 1 : Int)) := by rw [cell_of_row W Bx 1 _ _ (0, 0) hcx]; rfl
    have c2 : W.cell? ⟨Bx, 2, none⟩ = some (.int .u64 (wd (M x) 2 : Int)) := by rw [cell_of_row W Bx 2 _ _ (0, 0) hcx]; rfl
    have c3 : W.cell? ⟨Bx, 3, none⟩ = some (.int .u64 (wd (M x) 3 : Int)) := by rw [cell_of_row W Bx 3 _ _ (0, 0) hcx]; rfl
    have HL := Hid.mk (last_any (M x) W (HTB.out.grow hB))
    clear hcx hi ha
    gi_wp2_with (refine ⟨trivial, ?_⟩; gi_at_call 57; refine (CallsIn.inRound l (callsIn_wide.2 HL.out)).mono ?_; rintro e W2 ⟨rfl, hb2⟩; have q1 : Boxed W2 _ _ _ := (hb2.block _ h1.lt).trans h1; have q2 : Boxed W2 _ _ _ := (hb2.block _ h2.lt).trans h2; have q3 : Boxed W2 _ _ _ := (hb2.block _ h3.lt).trans h3; have g1 := q1.cell; have g2 := q2.cell; have g3 := q3.cell; have f1 := q1.frozen; have f2 := q2.frozen; have f3 := q3.frozen)
    have KO2 : KeepsOthers W W2 := ⟨hb2.size, fun k o hk _ => (hb2.block k (Array.getElem?_eq_some_iff.1 hk).1).trans hk⟩
    obtain ⟨L, hL⟩ : ∃ L, lastP M x = L := ⟨_, rfl⟩
    have hL' : (rowUpto (M x) 256).getLast?.getD 0 = L := hL
    rw [hL']
    have k1 := KeepsOthers.setCell W2 ⟨w.heap.size + 1, 0, none⟩ (.int .i64 (x : Int))
    have r1 := boxed_set q1 (.int .i64 (x : Int))
    have r2 := q2.other (B' := w.heap.size + 1) (by omega) (.int .i64 (x : Int))
    have r3 := q3.other (B' := w.heap.size + 1) (by omega) (.int .i64 (x : Int))
    have e1 : Below w.heap.size w (W2.setCell ⟨w.heap.size + 1, 0, none⟩ (.int .i64 (x : Int))) := (hB.trans (hb2.mono hB.size)).setCell (p := ⟨w.heap.size + 1, 0, none⟩) (by simp) _
    generalize W2.setCell ⟨w.heap.size + 1, 0, none⟩ (.int .i64 (x : Int)) = W3 at k1 r1 r2 r3 e1 ⊢
    have k2 := KeepsOthers.setCell W3 ⟨w.heap.size + 2, 0, none⟩ (.int .i64 (L : Int))
    have t1 := r1.other (B' := w.heap.size + 2) (by omega) (.int .i64 (L : Int))
    have t2 := boxed_set r2 (.int .i64 (L : Int))
    have t3 := r3.other (B' := w.heap.size + 2) (by omega) (.int .i64 (L : Int))
    have e2 : Below w.heap.size w (W3.setCell ⟨w.heap.size + 2, 0, none⟩ (.int .i64 (L : Int))) := e1.setCell (p := ⟨w.heap.size + 2, 0, none⟩) (by simp) _
    generalize W3.setCell ⟨w.heap.size + 2, 0, none⟩ (.int .i64 (L : Int)) = W4 at k2 t1 t2 t3 e2 ⊢
    have k3 := KeepsOthers.setCell W4 ⟨w.heap.size + 3, 0, none⟩ (.bool true)
    have v1 := t1.other (B' := w.heap.size + 3) (by omega) (.bool true)
    have v2 := t2.other (B' := w.heap.size + 3) (by omega) (.bool true)
    have v3 := boxed_set t3 (.bool true)
    have e3 : Below w.heap.size w (W4.setCell ⟨w.heap.size + 3, 0, none⟩ (.bool true)) := e2.setCell (p := ⟨w.heap.size + 3, 0, none⟩) (by simp) _
    rw [← hL] at v2
    exact ⟨((KO2.trans k1).trans (k2.trans k3)).from _, (hIX _ _ _).2 ⟨rfl, ⟨x, rfl, v1, v2, v3⟩, e3⟩⟩
  case done =>
    intro D ys W hD hys hi hK
    obtain ⟨rfl, h1, h2, h3, hB⟩ := (hII _ _).1 hi
    have c1 := h1.cell
    have c2 := h2.cell
    have c3 := h3.cell
    have f1 := h1.frozen
    have f2 := h2.frozen
    have f3 := h3.frozen
    have hE0 : E = none := by rw [HE.out, ← hys]; rfl
    subst hE0
    gi_wp2
    have k1 := KeepsOthers.setCell W ⟨w.heap.size + 1, 0, none⟩ (.int .i64 0)
    have r1 := boxed_set h1 (.int .i64 0)
    have r2 := h2.other (B' := w.heap.size + 1) (by omega) (.int .i64 0)
    have r3 := h3.other (B' := w.heap.size + 1) (by omega) (.int .i64 0)
    have e1 : Below w.heap.size w (W.setCell ⟨w.heap.size + 1, 0, none⟩ (.int .i64 0)) := hB.setCell (p := ⟨w.heap.size + 1, 0, none⟩) (by simp) _
    generalize W.setCell ⟨w.heap.size + 1, 0, none⟩ (.int .i64 0) = W3 at k1 r1 r2 r3 e1 ⊢
    have k2 := KeepsOthers.setCell W3 ⟨w.heap.size + 1 + 1, 0, none⟩ (.int .i64 0)
    have t1 := r1.other (B' := w.heap.size + 1 + 1) (by omega) (.int .i64 0)
    have t2 := boxed_set r2 (.int .i64 0)
    have t3 := r3.other (B' := w.heap.size + 1 + 1) (by omega) (.int .i64 0)
    have e2 : Below w.heap.size w (W3.setCell ⟨w.heap.size + 1 + 1, 0, none⟩ (.int .i64 0)) := e1.setCell (p := ⟨w.heap.size + 1 + 1, 0, none⟩) (by simp; omega) _
    generalize W3.setCell ⟨w.heap.size + 1 + 1, 0, none⟩ (.int .i64 0) = W4 at k2 t1 t2 t3 e2 ⊢
    have k3 := KeepsOthers.setCell W4 ⟨w.heap.size + 1 + 1 + 1, 0, none⟩ (.bool false)
    have v1 := t1.other (B' := w.heap.size + 1 + 1 + 1) (by omega) (.bool false)
    have v2 := t2.other (B' := w.heap.size + 1 + 1 + 1) (by omega) (.bool false)
    have v3 := boxed_set t3 (.bool false)
    have e3 : Below w.heap.size w (W4.setCell ⟨w.heap.size + 1 + 1 + 1, 0, none⟩ (.bool false)) := e2.setCell (p := ⟨w.heap.size + 1 + 1 + 1, 0, none⟩) (by simp; omega) _
    have hK' := (k1.trans (k2.trans k3)).same D _ hK rfl
    refine leaves_marks _ _ (.cons (B := w.heap.size) (by omega) hK' (by simp) .nil) (fun W' hb hcc => ?_)
    have z1 := Boxed.cell (hcc _ _ v1 rfl)
    have z2 := Boxed.cell (hcc _ _ v2 rfl)
    have z3 := Boxed.cell (hcc _ _ v3 rfl)
    exact ⟨.tuple #[.int .i64 0, .int .i64 0, .bool false], by simp [results, Tryd.results24, go_sem, z1, z2, z3], rfl, e3.trans hb⟩
  case stop =>
    intro D c pre W hD hsp hi hK
    obtain ⟨rfl, ⟨x, rfl, h1, h2, h3⟩, hB⟩ := (hIX _ _ _).1 hi
    have hE0 : E = some (x, lastP M x) := by rw [HE.out, hsp x rfl]; rfl
    subst hE0
    gi_wp2
    refine leaves_marks _ _ (.cons (B := w.heap.size) (by omega) hK (by simp) .nil) (fun W' hb hcc => ?_)
    have z1 := Boxed.cell (hcc _ _ h1 rfl)
    have z2 := Boxed.cell (hcc _ _ h2 rfl)
    have z3 := Boxed.cell (hcc _ _ h3 rfl)
    exact ⟨.tuple #[.int .i64 (x : Int), .int .i64 (lastP M x : Int), .bool true], by simp [results, Tryd.results24, go_sem, z1, z2, z3], rfl, hB.trans hb⟩
end Go.Proofs.YtapniafhcagogaaDoor

namespace Go.Proofs.YtapniafhcagogaaDoor
open Go.RowKit Go.Shelf
set_option maxRecDepth 8000

attribute [local go_sem] Oper.semAt_some

set_option maxRecDepth 100000 in
set_option maxHeartbeats 2000000 in
theorem appendSeq_any (f : Nat → Bool) (Bn : Nat) (w : World) (hT : TabB w) (hBn : Bn < w.heap.size) (hc : ∀ j, j < 4 → w.cell? ⟨Bn, j, none⟩ = some (.int .u64 (wd f j : Int))) :
    Calls Tryd.prog 69 #[.slice none 0 0, .func (.func 74) #[] #[.pointer (some ⟨Bn, 0, none⟩)]] w fun e w' => ∃ v, e = .returned v ∧ OwnI w' w.heap.size v (rowUpto f 256) ∧ Below w.heap.size w w' := by
  obtain ⟨i0, hi, hz0, hz1, hz2⟩ := info_parts infoInt
  refine (callsIn_wide (n := 4)).1 ?_
  refine callsIn_of_wp_marks Tryd.func69 rfl trivial ?_ rfl
  simp only [Tryd.ntmps69, List.size_toArray, List.length_cons, List.length_nil, Nat.reduceAdd, Nat.reduceSub, Array.replicate_succ, Array.replicate_zero, List.push_toArray, List.append_toArray, List.nil_append, List.cons_append]
  gi_wp2
  have bO := Boxed.new w 29 (.slice none 0 0)
  have hB0 : Below w.heap.size w (w.alloc (.cells #[.slice none 0 0] 29)) := (Below.refl _ w).alloc (Nat.le_refl _) _
  have S0 : (w.alloc (.cells #[.slice none 0 0] 29)).heap.size = w.heap.size + 1 := by simp
  have hc0 : ∀ j, j < 4 → (w.alloc (.cells #[.slice none 0 0] 29)).cell? ⟨Bn, j, none⟩ = some (.int .u64 (wd f j : Int)) := fun j hj => by rw [hB0.cell (p := ⟨Bn, j, none⟩) hBn]; exact hc j hj
  have R0 : (w.alloc (.cells #[.slice none 0 0] 29)).ownsRow w.heap.size 3 1 (.slice none 0 0) ([] : List Nat).length (([] : List Nat).map fun (x : Nat) => Value.int .i64 (x : Int)) := World.ownsRow_nil _ _ _ _
  generalize w.alloc (.cells #[.slice none 0 0] 29) = Wl at bO hB0 S0 hc0 R0 ⊢
  have hSEQ := all_stops 3 (by omega) Bn w.heap.size f Wl (by omega) (by omega) hc0 (fun w' hb => hT.grow (hB0.trans hb))
  refine wpIn_rangeFunc_ownG rfl (by omega) (gf := 74) (lb := #[.pointer (some ⟨Bn, 0, none⟩)]) rfl trivial (enters_of Tryd.func74 (by kernel_rfl) rfl)
    hSEQ belowK_t (belowK_b (by omega)) (Below.refl _ _) (fun _ => rfl)
    (fun pre W => (∃ v, Boxed W w.heap.size 29 v ∧ W.ownsRow w.heap.size 3 1 v pre.length (pre.map fun (x : Nat) => Value.int .i64 (x : Int)) ∧ True) ∧ Below w.heap.size w W)
    (fun _ _ _ => False)
    (OwnFrom.and (Own.from (holdsRow_own w.heap.size w.heap.size 29 3 1 (fun (pre : List Nat) => pre.length) (fun (pre : List Nat) => pre.map fun (x : Nat) => Value.int .i64 (x : Int)) (fun _ _ => True)) _) (ownFrom_below (Nat.le_refl _) (by omega)))
    (fun _ _ _ _ _ hs _ _ => hs)
    ⟨⟨_, bO, R0, trivial⟩, hB0⟩
    (fun x => { tmps := #[.slice none 0 0, .func (.func 74) #[] #[.pointer (some ⟨Bn, 0, none⟩)], .pointer (some ⟨w.heap.size, 0, none⟩), undef, .slice none 0 0, .int .i64 (x : Int), .func (.func 74) #[] #[.pointer (some ⟨Bn, 0, none⟩)], .int .i64 (x : Int), undef, undef, undef, undef, undef], defers := [] }) ?assign ?body ?done ?stop
  case assign =>
    intro l x W K hK
    gi_wp2
    exact hK
  case body =>
    rintro l pre x W ⟨⟨v, hv, hrow, _⟩, hB⟩ hlt
    have hcv := hv.cell
    gi_wp2_with (gi_at_builtin; refine wpListIn_append_own _ rfl _ _ 29 rfl w.heap.size 3 i0 (.int .i64 0) 1 8 Tryd.underlying29 hi hz0 hz1 hz2 rfl (by decide) _ _ _ rfl (hrow.alloc _) ⟨W.heap.size, 0, none⟩ 1 1 [.int .i64 (x : Int)] rfl rfl (cell_one_new _ _ _) (by simp [Value.oneCell']) (by unfold maxLen; omega) (by omega) (by have := hB.size; simp; omega) ?_; intro v' w1 hown' hgrow _; obtain ⟨g', cap', rfl⟩ := ownsRow_succ hown'; obtain ⟨hv1, hv2, hr2, hk2, hb2⟩ := hv.appended (by decide) hrow hB.size (Nat.le_refl _) hown' hgrow; have hc1 := hv1.cell; have hf1 := hv1.frozen)
    exact ⟨hk2.from _, hb2, ⟨_, hv2, by simpa using hr2, trivial⟩, hB.trans hb2⟩
  case done =>
    rintro D ys W hD rfl ⟨⟨v, hv, hrow, _⟩, hB⟩ hK
    have hcv := hv.cell
    gi_wp2
    refine ⟨by simp, .inl ⟨_, _, rfl, run_takeDeferred hK, ?_⟩⟩
    exact ⟨_, results_tmp rfl _ _ _, v, rfl, ownsRow_putObj hrow _ hK rfl, hB.trans (belowK_b (w := w) (Nat.le_refl _) W D _ _ (by omega) hK rfl rfl)⟩
  case stop =>
    rintro D c pre W _ _ h _
    exact h.elim

theorem collect_any (f : Nat → Bool) (Bn : Nat) (w : World) (hT : TabB w) (hBn : Bn < w.heap.size) (hc : ∀ j, j < 4 → w.cell? ⟨Bn, j, none⟩ = some (.int .u64 (wd f j : Int))) :
    Calls Tryd.prog 45 #[.func (.func 74) #[] #[.pointer (some ⟨Bn, 0, none⟩)]] w fun e w' => ∃ v, e = .returned v ∧ OwnI w' w.heap.size v (rowUpto f 256) ∧ Below w.heap.size w w' := by
  have HA := Hid.mk (appendSeq_any f Bn w hT hBn hc)
  clear hT hBn hc
  go_enter Tryd.func45, Tryd.ntmps45
  go_wp2_with fail
  refine HA.out.mono ?_
  rintro e w1 ⟨v1, rfl, ho1, hb1⟩
  have HO := Hid.mk ho1
  have HB := Hid.mk hb1
  clear ho1 hb1 HA
  go_wp2
  go_ret
  exact ⟨_, rfl, HO.out, HB.out⟩

set_option maxHeartbeats 2000000 in
theorem endsOf_any (t : Tr) (B : Nat → Prop) (v : Value) (s : ByteArray) (at' : Int) (w : World) (h : Rl w B t.l v) (hts : t.s.size ≤ maxLen) (hT : TabB w) :
    Calls Tryd.prog 13 #[rx t.k t.s v, .string s, .int .i64 at'] w fun e w' => ∃ u, e = .returned u ∧ OwnI w' w.heap.size u (endsL t s at') ∧ Below w.heap.size w w' := by
  have A0 : Below w.heap.size w (w.alloc (.cells #[.int .i64 t.k, .string t.s, v] 26)) := (Below.refl _ _).alloc (Nat.le_refl _) _
  have X0 := Hid.mk (Bz3.new w (.int .i64 t.k) (.string t.s) v)
  have HCM := Hid.mk (canMatch_any t B v s _ (h.grow A0) hts)
  have HEE := Hid.mk (fun (hs : s.size ≤ 200) (hok : okR t = true) (w' : World) (hb : Below w.heap.size w w') => endsEverywhere_any s hs t B v w' (h.grow hb) hts (okR_okT hok) (hT.grow hb))
  have HE : Hid (endsL t s at' = if okR t = true ∧ s.size ≤ 200 ∧ 0 ≤ at' ∧ at' ≤ s.size then rowL s.size (t.endM s at'.toNat) else []) := rfl
  have HU := Hid.mk (fun (hs : s.size ≤ 200) (i : Nat) (hi : i ≤ s.size) => rowL_upto (UpM.tree s t) (by omega) hi)
  have HNIL : Hid (∀ wz, Below w.heap.size w wz → OwnI (wz.alloc (.cells #[] 3)) w.heap.size (.slice (some ⟨wz.heap.size, 0, none⟩) 0 0) []) := fun wz hz =>
    World.ownsRow_lit (base := w.heap.size) (e := 3) (size := 1) wz #[] 0 hz.size (by decide) rfl
  obtain ⟨ao, cap, rfl, -⟩ := h.len
  obtain ⟨E, hE⟩ : ∃ E, endsL t s at' = E := ⟨_, rfl⟩
  obtain ⟨M, hM⟩ : ∃ M, t.endM s = M := ⟨_, rfl⟩
  obtain ⟨ok, hok⟩ : ∃ ok, okR t = ok := ⟨_, rfl⟩
  obtain ⟨tk, htk⟩ : ∃ tk, t.k = tk := ⟨_, rfl⟩
  obtain ⟨ts, hts'⟩ : ∃ ts, t.s = ts := ⟨_, rfl⟩
  obtain ⟨tl, htl⟩ : ∃ tl, t.l.length = tl := ⟨_, rfl⟩
  rw [htk, hts', htl] at A0 X0 HCM HEE
  rw [hok] at HCM HEE
  rw [hM] at HEE HU
  rw [hE, hok, hM] at HE
  rw [htk, hts', htl, hE]
  clear h hts htk hts' htl hok hE hM
  have x0 := X0.out.c0
  have x1 := X0.out.c1
  have x2 := X0.out.c2
  cases hcm : (decide (s.size ≤ 200) && ok) with
  | false =>
    rw [hcm] at HCM
    have hEE : E = [] := by
      rw [HE.out, if_neg]
      rintro ⟨h1, h2, _⟩
      rw [h1, decide_eq_true h2] at hcm
      cases hcm
    subst hEE
    clear hcm HEE HE HU
    go_enter Tryd.func13, Tryd.ntmps13
    go_wp2_with (go_at_call 44; refine HCM.out.mono ?_; rintro e w1 ⟨rfl, hb1⟩)
    go_ret
    have B1 := A0.trans (hb1.mono (by simp))
    exact ⟨_, rfl, HNIL.out w1 B1, B1.alloc B1.size _⟩
  | true =>
    rw [hcm] at HCM
    have hcm' := hcm
    rw [Bool.and_eq_true, decide_eq_true_iff] at hcm'
    obtain ⟨hs, rfl⟩ := hcm'
    clear hcm
    by_cases hlo : at' < 0
    · have hEE : E = [] := by rw [HE.out, if_neg (by omega)]
      subst hEE
      clear HEE HE HU
      go_enter Tryd.func13, Tryd.ntmps13
      go_wp2_with (go_at_call 44; refine HCM.out.mono ?_; rintro e w1 ⟨rfl, hb1⟩)
      go_ret
      have B1 := A0.trans (hb1.mono (by simp))
      exact ⟨_, rfl, HNIL.out w1 B1, B1.alloc B1.size _⟩
    · by_cases hhi : (s.size : Int) < at'
      · have hEE : E = [] := by rw [HE.out, if_neg (by omega)]
        subst hEE
        clear HEE HE HU
        go_enter Tryd.func13, Tryd.ntmps13
        go_wp2_with (go_at_call 44; refine HCM.out.mono ?_; rintro e w1 ⟨rfl, hb1⟩)
        go_ret
        have B1 := A0.trans (hb1.mono (by simp))
        exact ⟨_, rfl, HNIL.out w1 B1, B1.alloc B1.size _⟩
      · obtain ⟨p, rfl⟩ := Int.eq_ofNat_of_zero_le (show 0 ≤ at' by omega)
        have hp : p ≤ s.size := by omega
        have hEE : E = rowUpto (M p) 256 := by
          rw [HE.out, if_pos ⟨rfl, hs, by omega, by omega⟩, HU.out hs p hp]
          simp
        subst hEE
        have HEE' := Hid.mk (HEE.out hs rfl)
        clear HEE HE HU
        go_enter Tryd.func13, Tryd.ntmps13
        go_wp2_with (go_at_call 44; refine HCM.out.mono ?_; rintro e w1 ⟨rfl, hb1⟩; have X1 := X0.out.grow hb1; have y0 := X1.c0; have y1 := X1.c1; have y2 := X1.c2; clear X1 x0 x1 x2 HCM X0)
        have B1 := A0.trans (hb1.mono (by simp))
        refine (HEE'.out w1 B1).mono ?_
        rintro e w2 ⟨g, rfl, hg, hq, hb2⟩
        have B2 := B1.trans (hb2.mono B1.size)
        have a0 := hq.cell hp (show 0 < 4 by omega)
        have a1 := hq.cell hp (show 1 < 4 by omega)
        have a2 := hq.cell hp (show 2 < 4 by omega)
        have a3 := hq.cell hp (show 3 < 4 by omega)
        rw [Nat.add_zero] at a0
        have HB2 := Hid.mk B2
        have hpi : (p : Int) < (s.size : Int) + 1 := by omega
        clear hb1 hb2 B1 y0 y1 y2 HEE' hq hg B2 A0
        go_wp2_with (go_at_call 47; refine (all_any (M p) _).mono ?_; rintro e w3 ⟨rfl, rfl⟩)
        have V3 : Below w2.heap.size w2 (boxW w2 (M p)) := (Below.refl _ _).alloc (Nat.le_refl _) _
        have B3 := HB2.out.trans (V3.mono HB2.out.size)
        refine (collect_any (M p) w2.heap.size _ (hT.grow B3) (by simp) (boxW_cell w2 (M p))).mono ?_
        rintro e w4 ⟨v4, rfl, ho4, hb4⟩
        have HO4 := Hid.mk (OwnI.mono ho4 B3.size)
        have B4 := Hid.mk (B3.trans (hb4.mono B3.size))
        clear ho4 hb4 V3 B3 HB2 a0 a1 a2 a3
        go_wp2
        go_ret
        exact ⟨_, rfl, HO4.out, B4.out⟩
end Go.Proofs.YtapniafhcagogaaDoor
