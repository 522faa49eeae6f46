/- A part is laid behind nodes: l5Lay of the model, the parts of one node. -/
import Derived.Test.YtapniafhcagogaaLaySz
import Derived.Test.YtapniafhcagogaaNfaLen
import Derived.Test.YtapniafhcagogaaAppNode
namespace Go.Proofs.Ytapniafhcagogaa
open Go.RowKit
set_option maxRecDepth 8000

/-- A part is laid behind the nodes of a slice of the call's own. -/
def LyC (t : Tr) : Prop := ∀ (B : Nat → Prop) (v o : Value) (base : Nat) (L : List Nd) (w : World), Rl w B t.l v → (∀ b, B b → b < base) → base ≤ w.heap.size → OwnN w base o L →
  t.s.size ≤ maxLen → t.okT = true → L.length + t.nsz ≤ 1000000 →
  Calls Try.prog 48 #[o, rx t.k t.s v] w fun e w' => ∃ o', e = .returned o' ∧ OwnN w' base o' (L ++ t.lay L.length) ∧ Nign w w' o o'

theorem alt_ok (t : Tr) (h : t.okT = true) : t.alt = true := by
  refine Tr.ind (P := fun t => t.okT = true → t.alt = true) ?_ t h
  intro t ih h
  have hl : ∀ x ∈ t.l, x.alt = true := fun x hx => ih x hx (okT_kids h x hx)
  have h2 := okT_two h
  cases t with
  | node k s l =>
    simp only [Tr.k, Tr.l] at hl h2
    rw [Tr.alt, Bool.and_eq_true]
    constructor
    · by_cases hk : k = 5
      · have := h2 (.inr hk)
        cases l with
        | nil => simp at this
        | cons _ _ => simp
      · simp [hk]
    · clear h2 ih h
      induction l with
      | nil => rfl
      | cons x r ih => rw [altL, hl x (List.mem_cons_self ..), ih fun y hy => hl y (List.mem_cons_of_mem _ hy)]; rfl
theorem OwnN.lenV {w : World} {base : Nat} {v : Value} {L : List Nd} (h : OwnN w base v L) : ∃ ao cap, v = .slice ao L.length cap ∧ L.length ≤ cap := by
  rcases h.2 with ⟨e, h0⟩ | ⟨g, cap, cur, e, -, -, hle, -⟩
  · exact ⟨none, 0, by rw [e, h0], by omega⟩
  · exact ⟨_, cap, e, hle⟩

set_option maxHeartbeats 2000000 in
theorem l5Lay_1 (t : Tr) (hk : t.k = 1) : LyC t := by
  intro B v o base L w h hB hbase hO hts hok hn
  have halt := alt_ok t hok
  have HC := Hid.mk (l5Size_any t B v)
  have hlay := lay_eq t L.length
  rw [if_pos hk] at hlay
  rw [hlay]
  obtain ⟨ao, cap, rfl, hl1, hl2, -⟩ := h.len
  unfold maxLen at hl2
  have X0 := Hid.mk (Bz3.new w (.int .i64 t.k) (.string t.s) (.slice ao t.l.length cap))
  have A0 : Hid (Below w.heap.size w (w.alloc (.cells #[.int .i64 t.k, .string t.s, .slice ao t.l.length cap] 26))) := (Below.refl _ _).alloc (Nat.le_refl _) _
  have HC1 := Hid.mk (HC.out _ (h.grow A0.out) hts halt (by omega))
  have HO := Hid.mk hO
  obtain ⟨oa, oc, hov, hoc⟩ := hO.lenV
  subst hov
  rw [hk] at X0 A0 HC1 ⊢
  generalize t.s = ts at *
  generalize t.nsz = N at *
  generalize t.l.length = tl at *
  clear hlay hO h HC hk halt hok
  go_enter Try.func48, Try.ntmps48
  have x0 := X0.out.c0
  have x1 := X0.out.c1
  have x2 := X0.out.c2
  go_wp2_with fail
  refine HC1.out.mono ?_
  rintro e w1 ⟨rfl, hb1⟩
  have HX1 := Hid.mk (X0.out.grow hb1)
  have HB1 := Hid.mk (A0.out.trans (hb1.mono A0.out.size))
  have y0 := HX1.out.c0
  have y1 := HX1.out.c1
  clear x0 x1 x2 X0 HC1 hb1
  have hsz := HB1.out.size
  have HN1 : Hid ((w1.alloc (.cells #[.int .i64 1, .string ts, .int .i64 ((L.length : Int) + 1), .int .i64 0] 69)).heap[w1.heap.size]? = some (.cells #[.int .i64 1, .string ts, .int .i64 ((L.length : Int) + 1), .int .i64 0] 69 (0, 0))) := heap_alloc_new _ _
  have BA : Hid (Below w.heap.size w (w1.alloc (.cells #[.int .i64 1, .string ts, .int .i64 ((L.length : Int) + 1), .int .i64 0] 69))) := HB1.out.alloc hsz _
  have HO1 := Hid.mk (HO.out.grow BA.out)
  go_wp2_with (at_builtin; refine wpList_append_n (w0 := w) rfl _ _ rfl base _ L ⟨1, ts, (L.length : Int) + 1, 0⟩ rfl HO1.out _ rfl HN1.out (BA.out.mono hbase) (by simp; omega) (by omega) ?_)
  intro v3 w3 hown3 hbel3 hq hn3
  have hni := hn3.ahead BA.out
  have HO3 := Hid.mk hown3
  have HN3 := Hid.mk hni
  clear hown3 hbel3 hq hn3 hni HN1 BA HO1 y0 y1 HX1 HB1 A0 HO
  go_wp2
  go_ret
  exact ⟨_, rfl, HO3.out, HN3.out⟩
set_option maxHeartbeats 2000000 in
theorem l5Lay_2 (t : Tr) (hk : t.k = 2) : LyC t := by
  intro B v o base L w h hB hbase hO hts hok hn
  have halt := alt_ok t hok
  have HC := Hid.mk (l5Size_any t B v)
  have hlay := lay_eq t L.length
  rw [if_neg (by omega), if_pos hk] at hlay
  rw [hlay]
  obtain ⟨ao, cap, rfl, hl1, hl2, -⟩ := h.len
  unfold maxLen at hl2
  have X0 := Hid.mk (Bz3.new w (.int .i64 t.k) (.string t.s) (.slice ao t.l.length cap))
  have A0 : Hid (Below w.heap.size w (w.alloc (.cells #[.int .i64 t.k, .string t.s, .slice ao t.l.length cap] 26))) := (Below.refl _ _).alloc (Nat.le_refl _) _
  have HC1 := Hid.mk (HC.out _ (h.grow A0.out) hts halt (by omega))
  have HO := Hid.mk hO
  obtain ⟨oa, oc, hov, hoc⟩ := hO.lenV
  subst hov
  rw [hk] at X0 A0 HC1 ⊢
  generalize t.s = ts at *
  generalize t.nsz = N at *
  generalize t.l.length = tl at *
  clear hlay hO h HC hk halt hok
  go_enter Try.func48, Try.ntmps48
  have x0 := X0.out.c0
  have x1 := X0.out.c1
  have x2 := X0.out.c2
  go_wp2_with fail
  refine HC1.out.mono ?_
  rintro e w1 ⟨rfl, hb1⟩
  have HX1 := Hid.mk (X0.out.grow hb1)
  have HB1 := Hid.mk (A0.out.trans (hb1.mono A0.out.size))
  have y0 := HX1.out.c0
  have y1 := HX1.out.c1
  clear x0 x1 x2 X0 HC1 hb1
  have hsz := HB1.out.size
  have HN1 : Hid ((w1.alloc (.cells #[.int .i64 2, .string ⟨#[]⟩, .int .i64 ((L.length : Int) + 1), .int .i64 0] 69)).heap[w1.heap.size]? = some (.cells #[.int .i64 2, .string ⟨#[]⟩, .int .i64 ((L.length : Int) + 1), .int .i64 0] 69 (0, 0))) := heap_alloc_new _ _
  have BA : Hid (Below w.heap.size w (w1.alloc (.cells #[.int .i64 2, .string ⟨#[]⟩, .int .i64 ((L.length : Int) + 1), .int .i64 0] 69))) := HB1.out.alloc hsz _
  have HO1 := Hid.mk (HO.out.grow BA.out)
  go_wp2_with (at_builtin; refine wpList_append_n (w0 := w) rfl _ _ rfl base _ L ⟨2, ⟨#[]⟩, (L.length : Int) + 1, 0⟩ rfl HO1.out _ rfl HN1.out (BA.out.mono hbase) (by simp; omega) (by omega) ?_)
  intro v3 w3 hown3 hbel3 hq hn3
  have hni := hn3.ahead BA.out
  have HO3 := Hid.mk hown3
  have HN3 := Hid.mk hni
  clear hown3 hbel3 hq hn3 hni HN1 BA HO1 y0 y1 HX1 HB1 A0 HO
  go_wp2
  go_ret
  exact ⟨_, rfl, HO3.out, HN3.out⟩
set_option maxHeartbeats 2000000 in
theorem l5Lay_3 (t : Tr) (hk : t.k = 3) : LyC t := by
  intro B v o base L w h hB hbase hO hts hok hn
  have halt := alt_ok t hok
  have HC := Hid.mk (l5Size_any t B v)
  have hlay := lay_eq t L.length
  rw [if_neg (by omega), if_neg (by omega), if_pos hk] at hlay
  rw [hlay]
  obtain ⟨ao, cap, rfl, hl1, hl2, -⟩ := h.len
  unfold maxLen at hl2
  have X0 := Hid.mk (Bz3.new w (.int .i64 t.k) (.string t.s) (.slice ao t.l.length cap))
  have A0 : Hid (Below w.heap.size w (w.alloc (.cells #[.int .i64 t.k, .string t.s, .slice ao t.l.length cap] 26))) := (Below.refl _ _).alloc (Nat.le_refl _) _
  have HC1 := Hid.mk (HC.out _ (h.grow A0.out) hts halt (by omega))
  have HO := Hid.mk hO
  obtain ⟨oa, oc, hov, hoc⟩ := hO.lenV
  subst hov
  rw [hk] at X0 A0 HC1 ⊢
  generalize t.s = ts at *
  generalize t.nsz = N at *
  generalize t.l.length = tl at *
  clear hlay hO h HC hk halt hok
  go_enter Try.func48, Try.ntmps48
  have x0 := X0.out.c0
  have x1 := X0.out.c1
  have x2 := X0.out.c2
  go_wp2_with fail
  refine HC1.out.mono ?_
  rintro e w1 ⟨rfl, hb1⟩
  have HX1 := Hid.mk (X0.out.grow hb1)
  have HB1 := Hid.mk (A0.out.trans (hb1.mono A0.out.size))
  have y0 := HX1.out.c0
  have y1 := HX1.out.c1
  clear x0 x1 x2 X0 HC1 hb1
  have hsz := HB1.out.size
  have HN1 : Hid ((w1.alloc (.cells #[.int .i64 3, .string ts, .int .i64 ((L.length : Int) + 1), .int .i64 0] 69)).heap[w1.heap.size]? = some (.cells #[.int .i64 3, .string ts, .int .i64 ((L.length : Int) + 1), .int .i64 0] 69 (0, 0))) := heap_alloc_new _ _
  have BA : Hid (Below w.heap.size w (w1.alloc (.cells #[.int .i64 3, .string ts, .int .i64 ((L.length : Int) + 1), .int .i64 0] 69))) := HB1.out.alloc hsz _
  have HO1 := Hid.mk (HO.out.grow BA.out)
  go_wp2_with (at_builtin; refine wpList_append_n (w0 := w) rfl _ _ rfl base _ L ⟨3, ts, (L.length : Int) + 1, 0⟩ rfl HO1.out _ rfl HN1.out (BA.out.mono hbase) (by simp; omega) (by omega) ?_)
  intro v3 w3 hown3 hbel3 hq hn3
  have hni := hn3.ahead BA.out
  have HO3 := Hid.mk hown3
  have HN3 := Hid.mk hni
  clear hown3 hbel3 hq hn3 hni HN1 BA HO1 y0 y1 HX1 HB1 A0 HO
  go_wp2
  go_ret
  exact ⟨_, rfl, HO3.out, HN3.out⟩
set_option maxHeartbeats 2000000 in
theorem l5Lay_10 (t : Tr) (hk : t.k = 10) : LyC t := by
  intro B v o base L w h hB hbase hO hts hok hn
  have halt := alt_ok t hok
  have HC := Hid.mk (l5Size_any t B v)
  have hlay := lay_eq t L.length
  rw [if_neg (by omega), if_neg (by omega), if_neg (by omega), if_neg (by omega), if_neg (by omega), if_neg (by omega), if_neg (by omega), if_neg (by omega), if_pos hk] at hlay
  rw [hlay]
  obtain ⟨ao, cap, rfl, hl1, hl2, -⟩ := h.len
  unfold maxLen at hl2
  have X0 := Hid.mk (Bz3.new w (.int .i64 t.k) (.string t.s) (.slice ao t.l.length cap))
  have A0 : Hid (Below w.heap.size w (w.alloc (.cells #[.int .i64 t.k, .string t.s, .slice ao t.l.length cap] 26))) := (Below.refl _ _).alloc (Nat.le_refl _) _
  have HC1 := Hid.mk (HC.out _ (h.grow A0.out) hts halt (by omega))
  have HO := Hid.mk hO
  obtain ⟨oa, oc, hov, hoc⟩ := hO.lenV
  subst hov
  rw [hk] at X0 A0 HC1 ⊢
  generalize t.s = ts at *
  generalize t.nsz = N at *
  generalize t.l.length = tl at *
  clear hlay hO h HC hk halt hok
  go_enter Try.func48, Try.ntmps48
  have x0 := X0.out.c0
  have x1 := X0.out.c1
  have x2 := X0.out.c2
  go_wp2_with fail
  refine HC1.out.mono ?_
  rintro e w1 ⟨rfl, hb1⟩
  have HX1 := Hid.mk (X0.out.grow hb1)
  have HB1 := Hid.mk (A0.out.trans (hb1.mono A0.out.size))
  have y0 := HX1.out.c0
  have y1 := HX1.out.c1
  clear x0 x1 x2 X0 HC1 hb1
  have hsz := HB1.out.size
  have HN1 : Hid ((w1.alloc (.cells #[.int .i64 5, .string ⟨#[]⟩, .int .i64 ((L.length : Int) + 1), .int .i64 0] 69)).heap[w1.heap.size]? = some (.cells #[.int .i64 5, .string ⟨#[]⟩, .int .i64 ((L.length : Int) + 1), .int .i64 0] 69 (0, 0))) := heap_alloc_new _ _
  have BA : Hid (Below w.heap.size w (w1.alloc (.cells #[.int .i64 5, .string ⟨#[]⟩, .int .i64 ((L.length : Int) + 1), .int .i64 0] 69))) := HB1.out.alloc hsz _
  have HO1 := Hid.mk (HO.out.grow BA.out)
  go_wp2_with (at_builtin; refine wpList_append_n (w0 := w) rfl _ _ rfl base _ L ⟨5, ⟨#[]⟩, (L.length : Int) + 1, 0⟩ rfl HO1.out _ rfl HN1.out (BA.out.mono hbase) (by simp; omega) (by omega) ?_)
  intro v3 w3 hown3 hbel3 hq hn3
  have hni := hn3.ahead BA.out
  have HO3 := Hid.mk hown3
  have HN3 := Hid.mk hni
  clear hown3 hbel3 hq hn3 hni HN1 BA HO1 y0 y1 HX1 HB1 A0 HO
  go_wp2
  go_ret
  exact ⟨_, rfl, HO3.out, HN3.out⟩
set_option maxHeartbeats 2000000 in
theorem l5Lay_11 (t : Tr) (hk : t.k = 11) : LyC t := by
  intro B v o base L w h hB hbase hO hts hok hn
  have halt := alt_ok t hok
  have HC := Hid.mk (l5Size_any t B v)
  have hlay := lay_eq t L.length
  rw [if_neg (by omega), if_neg (by omega), if_neg (by omega), if_neg (by omega), if_neg (by omega), if_neg (by omega), if_neg (by omega), if_neg (by omega), if_neg (by omega), if_pos hk] at hlay
  rw [hlay]
  obtain ⟨ao, cap, rfl, hl1, hl2, -⟩ := h.len
  unfold maxLen at hl2
  have X0 := Hid.mk (Bz3.new w (.int .i64 t.k) (.string t.s) (.slice ao t.l.length cap))
  have A0 : Hid (Below w.heap.size w (w.alloc (.cells #[.int .i64 t.k, .string t.s, .slice ao t.l.length cap] 26))) := (Below.refl _ _).alloc (Nat.le_refl _) _
  have HC1 := Hid.mk (HC.out _ (h.grow A0.out) hts halt (by omega))
  have HO := Hid.mk hO
  obtain ⟨oa, oc, hov, hoc⟩ := hO.lenV
  subst hov
  rw [hk] at X0 A0 HC1 ⊢
  generalize t.s = ts at *
  generalize t.nsz = N at *
  generalize t.l.length = tl at *
  clear hlay hO h HC hk halt hok
  go_enter Try.func48, Try.ntmps48
  have x0 := X0.out.c0
  have x1 := X0.out.c1
  have x2 := X0.out.c2
  go_wp2_with fail
  refine HC1.out.mono ?_
  rintro e w1 ⟨rfl, hb1⟩
  have HX1 := Hid.mk (X0.out.grow hb1)
  have HB1 := Hid.mk (A0.out.trans (hb1.mono A0.out.size))
  have y0 := HX1.out.c0
  have y1 := HX1.out.c1
  clear x0 x1 x2 X0 HC1 hb1
  have hsz := HB1.out.size
  have HN1 : Hid ((w1.alloc (.cells #[.int .i64 6, .string ⟨#[]⟩, .int .i64 ((L.length : Int) + 1), .int .i64 0] 69)).heap[w1.heap.size]? = some (.cells #[.int .i64 6, .string ⟨#[]⟩, .int .i64 ((L.length : Int) + 1), .int .i64 0] 69 (0, 0))) := heap_alloc_new _ _
  have BA : Hid (Below w.heap.size w (w1.alloc (.cells #[.int .i64 6, .string ⟨#[]⟩, .int .i64 ((L.length : Int) + 1), .int .i64 0] 69))) := HB1.out.alloc hsz _
  have HO1 := Hid.mk (HO.out.grow BA.out)
  go_wp2_with (at_builtin; refine wpList_append_n (w0 := w) rfl _ _ rfl base _ L ⟨6, ⟨#[]⟩, (L.length : Int) + 1, 0⟩ rfl HO1.out _ rfl HN1.out (BA.out.mono hbase) (by simp; omega) (by omega) ?_)
  intro v3 w3 hown3 hbel3 hq hn3
  have hni := hn3.ahead BA.out
  have HO3 := Hid.mk hown3
  have HN3 := Hid.mk hni
  clear hown3 hbel3 hq hn3 hni HN1 BA HO1 y0 y1 HX1 HB1 A0 HO
  go_wp2
  go_ret
  exact ⟨_, rfl, HO3.out, HN3.out⟩
end Go.Proofs.Ytapniafhcagogaa
