/- Matches and Longest: the program's. -/
import Derived.Test.YthifleacfhijnaaDoorPlPwe
namespace Go.Proofs.YthifleacfhijnaaDoor
open Go.RowKit Go.Shelf
set_option maxRecDepth 8000

attribute [local go_sem] Oper.semAt_some

theorem rowL_upto {n : Nat} {M : Mat} (h : UpM n M) (hn : n < 256) {i : Nat} (hi : i ≤ n) : rowUpto (M i) 256 = rowL n (M i) := by
  have := rowUpto_gap (M i) (n + 1) 256 (by omega) (fun b h1 _ => by
    cases hb : M i b with
    | false => rfl
    | true => have := h i b hi hb; omega)
  rw [this]
  rfl
def lastP (M : Mat) (x : Nat) : Nat := (rowUpto (M x) 256).getLast?.getD 0
theorem longF_eq {n : Nat} {M : Mat} (h : UpM n M) (hn : n < 256) : ∀ d i, i + d ≤ n + 1 → longF n M i d = ((List.range' i d).filter (neB M)).head?.map (fun x => (x, lastP M x)) := by
  intro d
  induction d with
  | zero => intro i _; rfl
  | succ d ih =>
    intro i hi
    have e := rowL_upto h hn (show i ≤ n by omega)
    rw [longF, List.range'_succ, List.filter_cons]
    unfold neB lastP
    rw [e]
    cases hl : (rowL n (M i)).getLast? with
    | none =>
      rw [List.getLast?_eq_none_iff] at hl
      rw [hl]
      simp only [List.isEmpty_nil, Bool.not_true, Bool.false_eq_true, if_false]
      exact ih (i + 1) (by omega)
    | some x =>
      have hne : (rowL n (M i)).isEmpty = false := by
        rw [List.isEmpty_eq_false_iff]
        intro e'
        rw [e'] at hl
        cases hl
      rw [hne]
      simp only [Bool.not_false, if_true, List.head?_cons, Option.map_some]
      rw [e, hl]
      rfl

/-- The places that come. -/
def comes (t : Tr) (s : ByteArray) : List Nat := if okR t = true ∧ s.size ≤ 200 then rowUpto (neB (t.endM s)) (s.size + 1) else []
theorem longE_comes (t : Tr) (s : ByteArray) : longE t s = (comes t s).head?.map (fun x => (x, lastP (t.endM s) x)) := by
  unfold longE comes
  by_cases h : okR t = true ∧ s.size ≤ 200
  · rw [if_pos h, if_pos h, longF_eq (UpM.tree s t) (by omega) _ _ (by omega)]
    unfold rowUpto
    rw [List.range_eq_range']
  · rw [if_neg h, if_neg h]
    rfl
theorem upto_head {f : Nat → Bool} {k n x : Nat} (hk : k ≤ n) (h : rowUpto f k = [x]) : (rowUpto f n).head? = some x := by
  unfold rowUpto at *
  have : List.range n = List.range k ++ List.range' k (n - k) := by
    rw [List.range_eq_range', List.range_eq_range']
    have := List.range'_append (s := 0) (m := k) (n := n - k) (step := 1)
    simp only [Nat.one_mul, Nat.zero_add] at this
    rw [this, show k + (n - k) = n by omega]
  rw [this, List.filter_append, h]
  rfl

set_option maxRecDepth 100000 in
set_option maxHeartbeats 2000000 in
theorem pwe1_no (n : Nat) (hn : 1 ≤ n) (l br bs : Nat) (t : Tr) (B : Nat → Prop) (v : Value) (s : ByteArray) (W : World) (h : Rl W B t.l v) (hts : t.s.size ≤ maxLen)
    (hr : Bz3 W br (.int .i64 t.k) (.string t.s) v) (hbs : Boxed W bs 9 (.string s)) (hno : (decide (s.size ≤ 200) && okR t) = false) :
    CallsIn .wide n Tryd.prog 75 #[.func (.yield l) #[] #[], .pointer (some ⟨br, 0, none⟩), .pointer (some ⟨bs, 0, none⟩)] W fun e W' => (∃ v, e = .returned v) ∧ Below W.heap.size W W' := by
  have HCM := Hid.mk (canMatch_any t B v s W h hts)
  rw [hno] at HCM
  obtain ⟨ao, cap, rfl, -⟩ := h.len
  obtain ⟨tk, htk⟩ : ∃ tk, t.k = tk := ⟨_, rfl⟩
  obtain ⟨ts, hts'⟩ : ∃ ts, t.s = ts := ⟨_, rfl⟩
  obtain ⟨tl, htl⟩ : ∃ tl, t.l.length = tl := ⟨_, rfl⟩
  rw [htk, hts', htl] at HCM hr
  have x0 := hr.c0
  have x1 := hr.c1
  have x2 := hr.c2
  have s0 := hbs.cell
  clear h hts htk hts' htl hr hbs hno
  refine callsIn_of_wp Tryd.func75 rfl trivial ?_ rfl
  simp only [Tryd.ntmps75, List.size_toArray, List.length_cons, List.length_nil, Nat.reduceAdd, Nat.reduceSub, Array.replicate_succ, Array.replicate_zero, List.push_toArray, List.append_toArray, List.nil_append, List.cons_append]
  gi_wp2_with (refine ⟨trivial, ?_⟩; gi_at_call 39; refine (callsIn_wide.2 HCM.out).mono ?_; rintro e W2 ⟨rfl, hb2⟩)
  refine bodyPost_ret (results_none rfl _ _ _) rfl ?_
  exact ⟨⟨_, rfl⟩, hb2⟩

theorem foldl_zip2 (ts : Array Value) (p q : Nat) (u v : Value) : (#[p, q].zip #[u, v]).foldl (fun t (x : Nat × Value) => match x with | (p, v) => t.setIfInBounds p v) ts = (ts.setIfInBounds p u).setIfInBounds q v := by
  have e : #[p, q].zip #[u, v] = #[(p, u), (q, v)] := by simp
  rw [e]
  rfl

/-- **The iterator over the places that have an end.** -/
theorem pwe_stops (n : Nat) (hn : 1 ≤ n) (br bs : Nat) (t : Tr) (B : Nat → Prop) (v : Value) (s : ByteArray) (w : World) (h : Rl w B t.l v) (hts : t.s.size ≤ maxLen) (hT : TabB w)
    (hr : Bz3 w br (.int .i64 t.k) (.string t.s) v) (hbs : Boxed w bs 9 (.string s)) :
    SeqStopsK .wide n Tryd.prog 75 #[.pointer (some ⟨br, 0, none⟩), .pointer (some ⟨bs, 0, none⟩)] (fun (x : Nat) => #[.int .i64 (x : Int), aggW (t.endM s x)]) KeepsCells (fun ys => ys = comes t s)
      (fun pre => ∀ x, pre = [x] → (comes t s).head? = some x) (s.size + 1) w := by
  intro l J Jx W hW hJ hJx hY h0
  have aJ : ∀ pre W1 W2, J pre W1 → Below W1.heap.size W1 W2 → J pre W2 := fun pre W1 W2 hj hb => hJ pre W1 W2 none hj (Below.grownAll hb) (fun r e => by cases e)
  have aJx : ∀ pre W1 W2, Jx pre W1 → Below W1.heap.size W1 W2 → Jx pre W2 := fun pre W1 W2 hj hb => hJx pre W1 W2 none hj (Below.grownAll hb) (fun r e => by cases e)
  have hS : Boxed W bs 9 (.string s) := (hW.block _ hbs.lt).trans hbs
  by_cases hok : okR t = true ∧ s.size ≤ 200
  · refine (pwe1_yes n hn l br bs t B v s J Jx W (h.grow hW) hts (hT.grow hW) (hr.grow hW) hS hok.2 hok.1 aJ aJx hY h0).mono ?_
    rintro e W' ⟨h1, (⟨ys, h2, h3⟩ | ⟨pre, ⟨k, hk, h2⟩, h3⟩)⟩
    · exact ⟨h1, .inl ⟨ys, by unfold comes; rw [if_pos hok]; exact h2, h3⟩⟩
    · refine ⟨h1, .inr ⟨pre, fun x hx => ?_, h3⟩⟩
      unfold comes
      rw [if_pos hok]
      exact upto_head hk (h2.symm.trans hx)
  · refine (pwe1_no n hn l br bs t B v s W (h.grow hW) hts (hr.grow hW) hS ?_).mono ?_
    · rw [Bool.eq_false_iff]
      intro e
      simp only [Bool.and_eq_true, decide_eq_true_iff] at e
      exact hok ⟨e.2, e.1⟩
    · rintro e W' ⟨h1, h2⟩
      exact ⟨h1, .inl ⟨[], by unfold comes; rw [if_neg hok], aJ _ _ _ h0 h2⟩⟩

set_option maxRecDepth 100000 in
set_option maxHeartbeats 2000000 in
theorem matches_any (t : Tr) (B : Nat → Prop) (v : Value) (s : ByteArray) (w : World) (h : Rl w B t.l v) (hts : t.s.size ≤ maxLen) (hT : TabB w) :
    Calls Tryd.prog 23 #[rx t.k t.s v, .string s] w fun e w' => e = .returned (.bool (longE t s).isSome) ∧ Below w.heap.size w w' := by
  have HE := Hid.mk (longE_comes t s)
  have HP := Hid.mk (fun w' => placesWithEnds_any t v s w')
  have HST := Hid.mk (fun (br bs : Nat) (w' : World) (hb : Below w.heap.size w w') => pwe_stops 3 (by omega) br bs t B v s w' (h.grow hb) hts (hT.grow hb))
  obtain ⟨ao, cap, rfl, -⟩ := h.len
  obtain ⟨E, hE⟩ : ∃ E, longE t s = E := ⟨_, rfl⟩
  obtain ⟨C, hC⟩ : ∃ C, comes t s = C := ⟨_, rfl⟩
  obtain ⟨M, hM⟩ : ∃ M, t.endM s = M := ⟨_, rfl⟩
  obtain ⟨tk, htk⟩ : ∃ tk, t.k = tk := ⟨_, rfl⟩
  obtain ⟨ts, hts'⟩ : ∃ ts, t.s = ts := ⟨_, rfl⟩
  obtain ⟨tl, htl⟩ : ∃ tl, t.l.length = tl := ⟨_, rfl⟩
  rw [htk, hts', htl] at HP HST
  rw [hM, hC] at HST HE
  rw [hE] at HE
  rw [htk, hts', htl, hE]
  clear h hts hT hE hC hM htk hts' htl
  refine (callsIn_wide (n := 4)).1 ?_
  refine callsIn_of_wp_marks Tryd.func23 rfl trivial ?_ rfl
  simp only [Tryd.ntmps23, List.size_toArray, List.length_cons, List.length_nil, Nat.reduceAdd, Nat.reduceSub, Array.replicate_succ, Array.replicate_zero, List.push_toArray, List.append_toArray, List.nil_append, List.cons_append]
  gi_wp2_with (refine ⟨trivial, ?_⟩; gi_at_call 49; refine (callsIn_wide.2 (HP.out _)).mono ?_; rintro e w' ⟨rfl, rfl⟩)
  obtain ⟨V0, hV0⟩ : ∃ V0, w.alloc (.cells #[.int .i64 tk, .string ts, .slice ao tl cap] 26) = V0 := ⟨_, rfl⟩
  have S0 : V0.heap.size = w.heap.size + 1 := by rw [← hV0]; simp
  have B0 : Below w.heap.size w V0 := by rw [← hV0]; exact (Below.refl _ _).alloc (Nat.le_refl _) _
  rw [hV0]
  clear hV0
  have R1 := Boxed.new V0 4 (.bool false)
  have B1 : Below w.heap.size w (V0.alloc (.cells #[.bool false] 4)) := B0.alloc (by omega) _
  rw [S0] at R1
  have S1 : (V0.alloc (.cells #[.bool false] 4)).heap.size = w.heap.size + 2 := by simp [S0]
  generalize V0.alloc (.cells #[.bool false] 4) = V1 at R1 B1 S1 ⊢
  have X2 := Bz3.new V1 (.int .i64 tk) (.string ts) (.slice ao tl cap)
  have R2 := R1.alloc (.cells #[.int .i64 tk, .string ts, .slice ao tl cap] 26)
  have B2 : Below w.heap.size w (V1.alloc (.cells #[.int .i64 tk, .string ts, .slice ao tl cap] 26)) := B1.alloc (by omega) _
  have S2 : (V1.alloc (.cells #[.int .i64 tk, .string ts, .slice ao tl cap] 26)).heap.size = w.heap.size + 3 := by simp [S1]
  rw [S1] at X2
  generalize V1.alloc (.cells #[.int .i64 tk, .string ts, .slice ao tl cap] 26) = V2 at X2 R2 B2 S2 ⊢
  have Y3 := Boxed.new V2 9 (.string s)
  have A3 : Below V2.heap.size V2 (V2.alloc (.cells #[.string s] 9)) := (Below.refl _ _).alloc (Nat.le_refl _) _
  have X3 := X2.grow A3
  have R3 := R2.alloc (.cells #[.string s] 9)
  have B3 := B2.trans (A3.mono B2.size)
  have S3 : (V2.alloc (.cells #[.string s] 9)).heap.size = w.heap.size + 4 := by simp [S2]
  rw [S2] at Y3
  generalize V2.alloc (.cells #[.string s] 9) = Wl at Y3 X3 R3 B3 S3 ⊢
  clear R1 B1 S1 X2 R2 B2 S2 A3 B0 S0
  have hSEQ := HST.out (w.heap.size + 1 + 1) (w.heap.size + 1 + 1 + 1) Wl B3 X3 Y3
  obtain ⟨II, hII⟩ : ∃ II : List Nat → World → Prop, ∀ pre W, II pre W ↔ pre = [] ∧ Boxed W (w.heap.size + 1) 4 (.bool false) ∧ Below w.heap.size w W := ⟨_, fun _ _ => Iff.rfl⟩
  obtain ⟨IX, hIX⟩ : ∃ IX : Code → List Nat → World → Prop, ∀ c pre W, IX c pre W ↔ c = .ret ∧ (∃ x, pre = [x]) ∧ Boxed W (w.heap.size + 1) 4 (.bool true) ∧ Below w.heap.size w W := ⟨_, fun _ _ _ => Iff.rfl⟩
  have hOWN : OwnFrom Wl.heap.size II := by
    intro q X Y row hs hg hr
    obtain ⟨h1, h2, h3⟩ := (hII _ _).1 hs
    exact (hII _ _).2 ⟨h1, boxed_owned h2 hg hr, ownFrom_below (w₀ := w) (Nat.le_refl w.heap.size) (show w.heap.size ≤ Wl.heap.size by omega) q X Y row h3 hg hr⟩
  have hOWX : ∀ c, OwnFrom Wl.heap.size (IX c) := by
    intro c q X Y row hs hg hr
    obtain ⟨h0, h1, h2, h3⟩ := (hIX _ _ _).1 hs
    exact (hIX _ _ _).2 ⟨h0, h1, boxed_owned h2 hg hr, ownFrom_below (w₀ := w) (Nat.le_refl w.heap.size) (show w.heap.size ≤ Wl.heap.size by omega) q X Y row h3 hg hr⟩
  have h00 : II [] Wl := (hII _ _).2 ⟨rfl, R3, B3⟩
  refine wpIn_rangeFunc_ownF rfl (by omega) (gf := 75) (lb := #[.pointer (some ⟨w.heap.size + 1 + 1, 0, none⟩), .pointer (some ⟨w.heap.size + 1 + 1 + 1, 0, none⟩)]) rfl trivial (enters_of Tryd.func75 (by kernel_rfl) rfl)
    hSEQ cellsK_t cellsK_b (Below.refl _ _) (fun _ => rfl) II IX hOWN hOWX h00
    (fun x => { tmps := #[rx tk ts (.slice ao tl cap), .string s, .pointer (some ⟨w.heap.size, 0, none⟩), undef, .pointer (some ⟨w.heap.size + 1, 0, none⟩), rx tk ts (.slice ao tl cap), .string s, .func (.func 75) #[] #[.pointer (some ⟨w.heap.size + 1 + 1, 0, none⟩), .pointer (some ⟨w.heap.size + 1 + 1 + 1, 0, none⟩)], .int .i64 (x : Int), aggW (M x)], defers := [] }) ?assign ?body ?done ?stop
  case assign =>
    intro l x W K hK
    refine wpIn_skip ?_
    show K { tmps := _, defers := [] } W
    rw [foldl_zip2]
    exact hK
  case body =>
    intro l pre x W hi _
    obtain ⟨rfl, hc, hB⟩ := (hII _ _).1 hi
    have c0 := hc.cell
    have f0 := hc.frozen
    gi_wp2
    refine ⟨KeepsOthers.setCell _ _ _, (hIX _ _ _).2 ⟨rfl, ⟨x, rfl⟩, ?_, hB.setCell (p := ⟨w.heap.size + 1, 0, none⟩) (by simp) _⟩⟩
    exact heap_setCell_same W (w.heap.size + 1) _ _ _ _ hc
  case done =>
    intro D ys W hD hys hi hK
    obtain ⟨rfl, hc, hB⟩ := (hII _ _).1 hi
    have c0 := hc.cell
    have f0 := hc.frozen
    have hE0 : E = none := by rw [HE.out, ← hys]; rfl
    subst hE0
    gi_wp2
    have hc' : Boxed (W.setCell ⟨w.heap.size + 1, 0, none⟩ (.bool false)) (w.heap.size + 1) 4 (.bool false) := heap_setCell_same W (w.heap.size + 1) _ _ _ _ hc
    have hK' := (KeepsOthers.setCell W ⟨w.heap.size + 1, 0, none⟩ (.bool false)).same D _ hK rfl
    refine leaves_marks _ _ (.cons (B := w.heap.size) (by omega) hK' (by simp) .nil) (fun W' hb hcc => ?_)
    have cW := Boxed.cell (hcc _ _ hc' rfl)
    exact ⟨.bool false, by simp [results, Tryd.results23, go_sem, cW], rfl, (hB.setCell (p := ⟨w.heap.size + 1, 0, none⟩) (by simp) _).trans hb⟩
  case stop =>
    intro D c pre W hD hsp hi hK
    obtain ⟨rfl, ⟨x, rfl⟩, hc, hB⟩ := (hIX _ _ _).1 hi
    have hE0 : E = some (x, lastP M x) := by rw [HE.out, hsp x rfl]; rfl
    subst hE0
    gi_wp2
    refine leaves_marks _ _ (.cons (B := w.heap.size) (by omega) hK (by simp) .nil) (fun W' hb hcc => ?_)
    have cW := Boxed.cell (hcc _ _ hc rfl)
    exact ⟨.bool true, by simp [results, Tryd.results23, go_sem, cW], rfl, hB.trans hb⟩
end Go.Proofs.YthifleacfhijnaaDoor
