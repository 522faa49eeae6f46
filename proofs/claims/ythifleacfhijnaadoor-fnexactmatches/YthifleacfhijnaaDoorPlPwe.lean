/- The places that have an end, each with its ends: the iterator. -/
import Derived.Test.YthifleacfhijnaaDoorPlTreeB
import Derived.Test.YthifleacfhijnaaDoorPlCan
import Derived.Test.YthifleacfhijnaaDoorSpecEnds
import Derived.ChangeKeysEq
import Derived.Laws.StructEq
namespace Go.Proofs.YthifleacfhijnaaDoor
open Go.RowKit Go.Shelf
set_option maxRecDepth 8000

attribute [local go_sem] Oper.semAt_some

/-- Whether a place has an end. -/
def neB (M : Mat) (i : Nat) : Bool := !(rowUpto (M i) 256).isEmpty

theorem wd_zero {f : Nat → Bool} {j : Nat} : wd f j = 0 ↔ ∀ b, b < 64 → f (64 * j + b) = false := by
  constructor
  · intro h b hb
    have := wd_test f j b
    rw [h, Nat.zero_testBit, decide_eq_true hb, Bool.true_and] at this
    exact this.symm
  · intro h
    apply Nat.eq_of_testBit_eq
    intro b
    rw [wd_test, Nat.zero_testBit]
    by_cases hb : b < 64
    · rw [h b hb, Bool.and_false]
    · rw [decide_eq_false hb, Bool.false_and]
theorem neB_false {M : Mat} {i : Nat} : neB M i = false ↔ wd (M i) 0 = 0 ∧ wd (M i) 1 = 0 ∧ wd (M i) 2 = 0 ∧ wd (M i) 3 = 0 := by
  have e : neB M i = false ↔ ∀ k, k < 256 → M i k = false := by
    unfold neB
    rw [Bool.not_eq_false', List.isEmpty_iff]
    constructor
    · intro h k hk
      cases hm : M i k with
      | false => rfl
      | true =>
        have := (mem_rowUpto (M i) 256 k).2 ⟨hk, hm⟩
        rw [h] at this
        cases this
    · intro h
      apply List.eq_nil_iff_forall_not_mem.2
      intro k hk
      have := (mem_rowUpto (M i) 256 k).1 hk
      rw [h k this.1] at this
      cases this.2
  rw [e]
  simp only [wd_zero]
  constructor
  · intro h; exact ⟨fun b hb => h _ (by omega), fun b hb => h _ (by omega), fun b hb => h _ (by omega), fun b hb => h _ (by omega)⟩
  · rintro ⟨h0, h1, h2, h3⟩ k hk
    rcases (show k / 64 = 0 ∨ k / 64 = 1 ∨ k / 64 = 2 ∨ k / 64 = 3 by omega) with h | h | h | h
    · have := h0 (k % 64) (by omega); rwa [show 64 * 0 + k % 64 = k by omega] at this
    · have := h1 (k % 64) (by omega); rwa [show 64 * 1 + k % 64 = k by omega] at this
    · have := h2 (k % 64) (by omega); rwa [show 64 * 2 + k % 64 = k by omega] at this
    · have := h3 (k % 64) (by omega); rwa [show 64 * 3 + k % 64 = k by omega] at this

theorem cellsU64 : Tryd.prog.cellsOf 61 = 1 := by kernel_rfl
theorem plain_u64 : Tryd.prog.plainKey 61 = true := by kernel_rfl
theorem infoU64 : (Tryd.prog.info? 61).isSome = true := by kernel_rfl
theorem eq_step (W : World) (xs ys : Array Value) (i : Nat) (is : List Nat) (x y : Int) (hx : xs[i]? = some (.int .u64 x)) (hy : ys[i]? = some (.int .u64 y)) :
    (Op.eqItems 9999 61 1 xs ys (i :: is)).run Tryd.prog W = if (x == y) = true then (Op.eqItems 9999 61 1 xs ys is).run Tryd.prog W else .ok false W := by
  simp only [Op.eqItems, Sem.run_bind, Nat.mul_one]
  rw [run_part_plain W plain_u64 hx, Result.andThen_ok, run_part_plain W plain_u64 hy, Result.andThen_ok, run_equalIn_int W 9998 61 .u64 .u64 x y Tryd.underlying61, Result.andThen_ok]
  cases (x == y)
  · simp [Sem.run_pure]
  · simp
theorem eq_places (a b c d : Int) (W : World) : (Op.equalIn 10000 63 (.agg #[.int .u64 a, .int .u64 b, .int .u64 c, .int .u64 d]) (.agg #[.int .u64 0, .int .u64 0, .int .u64 0, .int .u64 0])).run Tryd.prog W = .ok (a == 0 && b == 0 && c == 0 && d == 0) W := by
  obtain ⟨i, hi⟩ := Option.isSome_iff_exists.1 infoU64
  rw [show (10000 : Nat) = 9999 + 1 from rfl, run_equalIn_array W 9999 _ _ (n := 4) Tryd.underlying63 hi, cellsU64, show List.range 4 = [0, 1, 2, 3] from rfl,
    eq_step W _ _ 0 _ a 0 rfl rfl, eq_step W _ _ 1 _ b 0 rfl rfl, eq_step W _ _ 2 _ c 0 rfl rfl, eq_step W _ _ 3 _ d 0 rfl rfl]
  cases (a == 0) <;> cases (b == 0) <;> cases (c == 0) <;> cases (d == 0) <;> rfl

theorem placesWithEnds_any (t : Tr) (v : Value) (s : ByteArray) (w : World) :
    Calls Tryd.prog 49 #[rx t.k t.s v, .string s] w fun e w' => e = .returned (.func (.func 75) #[] #[.pointer (some ⟨w.heap.size, 0, none⟩), .pointer (some ⟨w.heap.size + 1, 0, none⟩)]) ∧
      w' = (w.alloc (.cells #[.int .i64 t.k, .string t.s, v] 26)).alloc (.cells #[.string s] 9) := by
  go_enter Tryd.func49, Tryd.ntmps49
  go_wp2
  go_ret
  exact ⟨rfl, rfl⟩

/-- Cells lie as they lay. -/
structure KeepsCells (W W' : World) : Prop where
  size : W.heap.size ≤ W'.heap.size
  same : ∀ (k : Nat) (o : Obj), W.heap[k]? = some o → o.isCells = true → W'.heap[k]? = some o
theorem cellsK_t {A B C : World} (h : KeepsCells A B) (k : KeepsCells B C) : KeepsCells A C := ⟨Nat.le_trans h.size k.size, fun i o hi ho => k.same i o (h.same i o hi ho) ho⟩
theorem cellsK_b {w : World} (W : World) (l : Nat) (o o' : Obj) (_ : w.heap.size ≤ l) (h : W.heap[l]? = some o) (hc : o.isCells = false) (_ : o.isWalk = false) : KeepsCells W (W.putObj l o') :=
  ⟨by simp, fun k x hk hx => (World.putObj_heap_other (fun e => by subst e; rw [h] at hk; cases hk; rw [hc] at hx; cases hx)).trans hk⟩
theorem Below.grownAll {w w' : World} (h : Below w.heap.size w w') : w.grownBy w' none := ⟨h.os, h.tape, h.output, h.size, fun k hk _ => h.block k hk⟩

set_option maxRecDepth 100000 in
set_option maxHeartbeats 2000000 in
theorem pwe1_yes (n : Nat) (hn : 1 ≤ n) (l br bs : Nat) (t : Tr) (B : Nat → Prop) (v : Value) (s : ByteArray) (J Jx : List Nat → World → Prop) (W : World) (h : Rl W B t.l v) (hts : t.s.size ≤ maxLen) (hT : TabB W)
    (hr : Bz3 W br (.int .i64 t.k) (.string t.s) v) (hbs : Boxed W bs 9 (.string s)) (hs : s.size ≤ 200) (hok : okR t = true)
    (hJ : ∀ pre W1 W2, J pre W1 → Below W1.heap.size W1 W2 → J pre W2) (hJx : ∀ pre W1 W2, Jx pre W1 → Below W1.heap.size W1 W2 → Jx pre W2)
    (hY : ∀ pre (x : Nat) W1, J pre W1 → pre.length < s.size + 1 → YieldAt .wide (n - 1) Tryd.prog l #[.int .i64 (x : Int), aggW (t.endM s x)] W1 fun e W' =>
      (e = .returned (.bool true) ∧ J (pre ++ [x]) W' ∧ KeepsCells W1 W') ∨ (e = .returned (.bool false) ∧ Jx (pre ++ [x]) W'))
    (h0 : J [] W) :
    CallsIn .wide n Tryd.prog 75 #[.func (.yield l) #[] #[], .pointer (some ⟨br, 0, none⟩), .pointer (some ⟨bs, 0, none⟩)] W fun e W' => (∃ v, e = .returned v) ∧
      ((∃ ys, ys = rowUpto (neB (t.endM s)) (s.size + 1) ∧ J ys W') ∨ (∃ pre, (∃ k, k ≤ s.size + 1 ∧ pre = rowUpto (neB (t.endM s)) k) ∧ Jx pre W')) := by
  have HCM := Hid.mk (canMatch_any t B v s W h hts)
  rw [decide_eq_true hs, hok, Bool.true_and] at HCM
  have HEE := Hid.mk (fun (w' : World) (hb : Below W.heap.size W w') => endsEverywhere_any s hs t B v w' (h.grow hb) hts (okR_okT hok) (hT.grow hb))
  obtain ⟨M, hM⟩ : ∃ M, t.endM s = M := ⟨_, rfl⟩
  rw [hM] at HEE hY
  rw [hM]
  obtain ⟨ao, cap, rfl, -⟩ := h.len
  obtain ⟨tk, htk⟩ : ∃ tk, t.k = tk := ⟨_, rfl⟩
  obtain ⟨ts, hts'⟩ : ∃ ts, t.s = ts := ⟨_, rfl⟩
  obtain ⟨tl, htl⟩ : ∃ tl, t.l.length = tl := ⟨_, rfl⟩
  rw [htk, hts', htl] at HCM HEE hr
  obtain ⟨m, hm⟩ : ∃ m, s.size + 1 = m := ⟨_, rfl⟩
  have HM := Hid.mk hm
  unfold plS at HEE
  rw [hm] at HEE hY
  rw [hm]
  have hm2 : m ≤ 201 := by omega
  have HY := Hid.mk hY
  have HJ := Hid.mk hJ
  have HJX := Hid.mk hJx
  have HR := Hid.mk hr
  have HS := Hid.mk hbs
  have x0 := hr.c0
  have x1 := hr.c1
  have x2 := hr.c2
  have s0 := hbs.cell
  clear h hts hok hM htk hts' htl hY hm hJ hJx hT hr hbs
  refine callsIn_of_wp Tryd.func75 rfl trivial ?_ rfl
  simp only [Tryd.ntmps75, List.size_toArray, List.length_cons, List.length_nil, Nat.reduceAdd, Nat.reduceSub, Array.replicate_succ, Array.replicate_zero, List.push_toArray, List.append_toArray, List.nil_append, List.cons_append]
  gi_wp2_with (first
    | (refine ⟨trivial, ?_⟩; gi_at_call 39; refine (callsIn_wide.2 HCM.out).mono ?_; rintro e W2 ⟨rfl, hb2⟩; have X2 := HR.out.grow hb2; have S2 := (hb2.block _ HS.out.lt).trans HS.out; have y0 := X2.c0; have y1 := X2.c1; have y2 := X2.c2; have y3 := Boxed.cell S2; clear X2 S2 HCM x0 x1 x2 s0)
    | (refine ⟨trivial, ?_⟩; gi_at_call 41; refine (callsIn_wide.2 (HEE.out _ hb2)).mono ?_; rintro e W3 ⟨g, rfl, hg, hq3, hb3⟩; clear HEE y0 y1 y2 y3))
  have HJ3 := Hid.mk (HJ.out _ _ _ (HJ.out _ _ _ h0 hb2) hb3)
  have HQ3 := Hid.mk hq3
  clear h0 hq3 hb3 hg hb2
  gi_loopw [14] (fun q wr => ∃ (i : Nat), i ≤ m ∧ q = .int .i64 i ∧ Hid (J (rowUpto (neB M) i) wr) ∧ Hid (Pq wr g s.size M)) (fun q _ => m - (intOf q).toNat)
  case atStart => exact ⟨0, Nat.zero_le _, rfl, HJ3, HQ3⟩
  case round =>
    obtain ⟨i, hi, rfl, HJr, HQr⟩ := hrel
    clear HJ3 HQ3
    by_cases him : (i : Int) < (m : Int)
    · have hil : i ≤ s.size := by have := HM.out; omega
      have a0 := HQr.out.cell hil (show 0 < 4 by omega)
      have a1 := HQr.out.cell hil (show 1 < 4 by omega)
      have a2 := HQr.out.cell hil (show 2 < 4 by omega)
      have a3 := HQr.out.cell hil (show 3 < 4 by omega)
      rw [Nat.add_zero] at a0
      have heq := eq_places (wd (M i) 0 : Int) (wd (M i) 1 : Int) (wd (M i) 2 : Int) (wd (M i) 3 : Int)
      have HB : Hid (∀ o, Below wr.heap.size wr (wr.alloc o)) := fun o => (Below.refl _ _).alloc (Nat.le_refl _) _
      cases hne : neB M i with
      | false =>
        obtain ⟨z0, z1, z2, z3⟩ := neB_false.1 hne
        rw [z0, z1, z2, z3] at heq
        rw [z0] at a0
        rw [z1] at a1
        rw [z2] at a2
        rw [z3] at a3
        simp only [Int.natCast_zero, beq_self_eq_true, Bool.and_self] at heq
        have HN := Hid.mk (rowUpto_no _ _ hne)
        clear hne z0 z1 z2 z3
        gi_wp2
        refine ⟨fun _ h => (by cases h), ?_⟩
        gi_wp2
        go_roundw
        case rel => exact ⟨i + 1, by omega, by go_num, by show J _ _; rw [HN.out]; exact HJ.out _ _ _ HJr.out (HB.out _), HQr.out.grow (HB.out _)⟩
        case measure => simp [intOf]; omega
      | true =>
        have hz : ((wd (M i) 0 : Int) == 0 && (wd (M i) 1 : Int) == 0 && (wd (M i) 2 : Int) == 0 && (wd (M i) 3 : Int) == 0) = false := by
          rw [Bool.eq_false_iff]
          intro h
          simp only [Bool.and_eq_true, beq_iff_eq] at h
          rw [neB_false.2 ⟨by omega, by omega, by omega, by omega⟩] at hne
          cases hne
        rw [hz] at heq
        have HN := Hid.mk (rowUpto_yes _ _ hne)
        have HJ1 := HJ.out _ _ _ HJr.out (HB.out (.cells #[.int .u64 (wd (M i) 0 : Int), .int .u64 (wd (M i) 1 : Int), .int .u64 (wd (M i) 2 : Int), .int .u64 (wd (M i) 3 : Int)] 63))
        obtain ⟨fn, tmps, assign, body, hy, hR⟩ := HY.out _ i _ HJ1 (by have := rowUpto_len (neB M) i; omega)
        have HQ1 := Hid.mk (HQr.out.grow (HB.out (.cells #[.int .u64 (wd (M i) 0 : Int), .int .u64 (wd (M i) 1 : Int), .int .u64 (wd (M i) 2 : Int), .int .u64 (wd (M i) 3 : Int)] 63)))
        clear hz hne HJ1 HJr HQr
        gi_wp2
        refine hR.mono ?_
        rintro e W4 (⟨rfl, hJ4, hk4⟩ | ⟨rfl, hJx4⟩)
        · have HJn : Hid (J (rowUpto (neB M) (i + 1)) W4) := by
            show J _ _
            rw [HN.out]; exact hJ4
          have HQn : Hid (Pq W4 g s.size M) := hk4.same _ _ HQ1.out rfl
          clear hy hR hJ4 hk4 heq a0 a1 a2 a3
          gi_wp2
          go_roundw
          case rel => exact ⟨i + 1, by omega, by go_num, HJn, HQn⟩
          case measure => simp [intOf]; omega
        · have HJX4 := Hid.mk hJx4
          clear hy hR hJx4 heq a0 a1 a2 a3
          gi_wp2
          refine bodyPost_ret (results_none rfl _ _ _) rfl ?_
          exact ⟨⟨_, rfl⟩, .inr ⟨_, ⟨i + 1, by omega, HN.out.symm⟩, HJX4.out⟩⟩
    · obtain rfl : i = m := by omega
      have HJe := HJr
      clear HJr
      gi_wp2
      go_end0
      first | exact ⟨⟨_, rfl⟩, .inl ⟨_, rfl, HJe.out⟩⟩ | exact ⟨⟨_, rfl⟩, .inl HJe.out⟩
end Go.Proofs.YthifleacfhijnaaDoor
