/- A part is laid behind nodes: l5Lay of the model, the parts of one part. -/
import Derived.Test.YtapniafhcagogaaLayS
namespace Go.Proofs.Ytapniafhcagogaa
open Go.RowKit
set_option maxRecDepth 8000

theorem OwnN.own {w : World} {base : Nat} {o : Value} {L : List Nd} (h : OwnN w base o L) {g : Nat} (hg : o.ownBlock = some g) : base ≤ g ∧ g < w.heap.size := World.ownsRow.lt h g hg
theorem Nign.box {w w' : World} {o o' : Value} (h : Nign w w' o o') {b : Nat} {x y z : Value} (hb : Bz3 w b x y z) (hne : ∀ g, o.ownBlock = some g → g < b) : Bz3 w' b x y z := by
  refine hb.kept (h.1.block b hb.lt fun e => ?_)
  exact Nat.lt_irrefl _ (hne b e.symm)
theorem Nign.tree {w w' : World} {o o' : Value} (h : Nign w w' o o') {base : Nat} {L : List Nd} (ho : OwnN w base o L) {B : Nat → Prop} (hB : ∀ b, B b → b < base) {l : List Tr} {v : Value} (hr : Rl w B l v) : Rl w' B l v := by
  refine hr.kept fun b hb hlt => h.1.block b hlt fun e => ?_
  have h1 := (ho.own e.symm).1
  have h2 := hB b hb
  omega
theorem layL_one (x : Tr) (p : Nat) : layL [x] p = x.lay p := by rw [layL, layL, List.append_nil]

set_option maxHeartbeats 2000000 in
theorem l5Lay_8 (t : Tr) (hk : t.k = 8) (ih : ∀ x ∈ t.l, LyC x) : LyC t := by
  intro B v o base L w h hB hbase hO hts hok hn
  have halt := alt_ok t hok
  have HC := Hid.mk (l5Size_any t B v)
  have hlay := lay_eq t L.length
  rw [if_neg (by omega), if_neg (by omega), if_neg (by omega), if_neg (by omega), if_neg (by omega), if_neg (by omega), if_neg (by omega), if_pos hk] at hlay
  have hnsz := nsz_eq t
  rw [if_neg (by omega), if_neg (by omega), if_neg (by omega)] at hnsz
  rw [← hnsz] at hlay
  obtain ⟨x, hx⟩ := okT_one hok (.inr (.inr hk))
  have hokx := okT_kids hok x (by rw [hx]; exact List.mem_singleton.2 rfl)
  have hihx := ih x (by rw [hx]; exact List.mem_singleton.2 rfl)
  have hnx : x.nsz + 1 ≤ t.nsz := by rw [hnsz, hx, nszL, nszL]; omega
  rw [hx, layL_one] at hlay
  rw [hlay]
  obtain ⟨ao, cap, rfl, hl1, hl2, -⟩ := h.len
  unfold maxLen at hl2
  have X0 := Hid.mk (Bz3.new w (.int .i64 t.k) (.string t.s) (.slice ao t.l.length cap))
  have A0 : Hid (Below w.heap.size w (w.alloc (.cells #[.int .i64 t.k, .string t.s, .slice ao t.l.length cap] 26))) := (Below.refl _ _).alloc (Nat.le_refl _) _
  have HC1 := Hid.mk (HC.out _ (h.grow A0.out) hts halt (by omega))
  have HO := Hid.mk hO
  have HR := Hid.mk h
  obtain ⟨oa, oc, hov, hoc⟩ := hO.lenV
  subst hov
  have HOW : Hid (∀ g, (Value.slice oa L.length oc).ownBlock = some g → g < w.heap.size) := fun g hg => (hO.own hg).2
  rw [hk] at X0 A0 HC1 ⊢
  have hlen1 : t.l.length = 1 := by rw [hx]; rfl
  rw [hlen1] at X0 A0 HC1 HR hl1 ⊢
  rw [hx] at HR
  generalize t.s = ts at *
  generalize t.nsz = N at *
  have HIX := Hid.mk hihx
  have HOX := Hid.mk hokx
  clear hlay hO h HC hk halt hok hx hlen1 hihx hokx ih hnsz
  go_enter Try.func48, Try.ntmps48
  have x0 := X0.out.c0
  have x1 := X0.out.c1
  have x2 := X0.out.c2
  go_wp2_with fail
  refine HC1.out.mono ?_
  rintro e w1 ⟨rfl, hb1⟩
  have HX1 := Hid.mk (X0.out.grow hb1)
  have HB1 := Hid.mk (A0.out.trans (hb1.mono A0.out.size))
  have y0 := HX1.out.c0
  have y1 := HX1.out.c1
  clear x0 x1 x2 X0 HC1 hb1
  have hsz := HB1.out.size
  have HN1 : Hid ((w1.alloc (.cells #[.int .i64 4, .string ⟨#[]⟩, .int .i64 ((L.length : Int) + 1), .int .i64 ((L.length : Int) + (N : Int))] 69)).heap[w1.heap.size]? = some (.cells #[.int .i64 4, .string ⟨#[]⟩, .int .i64 ((L.length : Int) + 1), .int .i64 ((L.length : Int) + (N : Int))] 69 (0, 0))) := heap_alloc_new _ _
  have BN : Hid (Below w1.heap.size w1 (w1.alloc (.cells #[.int .i64 4, .string ⟨#[]⟩, .int .i64 ((L.length : Int) + 1), .int .i64 ((L.length : Int) + (N : Int))] 69))) := (Below.refl _ _).alloc (Nat.le_refl _) _
  have BA := Hid.mk (HB1.out.trans (BN.out.mono hsz))
  have HO1 := Hid.mk (HO.out.grow BA.out)
  have HXA := Hid.mk (HX1.out.grow BN.out)
  have HRA := Hid.mk (HR.out.grow BA.out)
  go_wp2_with (at_builtin; refine wpList_append_n (w0 := w) rfl _ _ rfl base _ L ⟨4, ⟨#[]⟩, (L.length : Int) + 1, (L.length : Int) + (N : Int)⟩ rfl HO1.out _ rfl HN1.out (BA.out.mono hbase) (by simp; omega) (by omega) ?_)
  intro v3 w3 hown3 hbel3 hq hn3
  have hsz3 : w1.heap.size ≤ w3.heap.size := by first | omega | (have := hq; simp at this; omega)
  have HX3 := Hid.mk (hn3.box HXA.out HOW.out)
  have HR3 := Hid.mk (hn3.tree HO1.out hB HRA.out)
  have hni := hn3.ahead BA.out
  have HO3 := Hid.mk hown3
  have HN3 := Hid.mk hni
  obtain ⟨b, off, V, rfl, hel⟩ := HR3.out.elems (by simp)
  obtain ⟨⟨c0, c1, c2⟩, hsub, hss⟩ := hel 0 (by simp)
  simp only [List.getElem_cons_zero, Nat.zero_mul, Nat.add_zero] at c0 c1 c2 hsub hss
  have HCX := Hid.mk (HIX.out B (V 0) v3 base _ w3 hsub hB (by omega) hown3 hss HOX.out (by simp; omega))
  obtain ⟨oa3, oc3, hov3, hoc3⟩ := hown3.lenV
  subst hov3
  have z2 := HX3.out.c2
  clear hel hsub hss hown3 hbel3 hq hn3 hni HN1 BA HO1 y0 y1 HX1 HB1 A0 HO HR HRA HXA BN HOW HIX HOX
  generalize hM : L ++ [(⟨4, ⟨#[]⟩, (L.length : Int) + 1, (L.length : Int) + (N : Int)⟩ : Nd)] = M at *
  have HM := Hid.mk hM
  clear hM
  go_wp2_with fail
  refine HCX.out.mono ?_
  rintro e w4 ⟨o4, rfl, hown4, hn4⟩
  have HO4 := Hid.mk hown4
  have HN4 := Hid.mk (HN3.out.trans hn4)
  clear hown4 hn4 HCX HN3 HO3 z2 c0 c1 c2 HX3 HR3
  go_wp2
  go_ret
  refine ⟨_, rfl, ?_, HN4.out⟩
  have := HO4.out
  rw [← HM.out, List.append_assoc, List.length_append] at this
  exact this
set_option maxHeartbeats 2000000 in
theorem l5Lay_7 (t : Tr) (hk : t.k = 7) (ih : ∀ x ∈ t.l, LyC x) : LyC t := by
  intro B v o base L w h hB hbase hO hts hok hn
  have halt := alt_ok t hok
  have HC := Hid.mk (l5Size_any t B v)
  have hlay := lay_eq t L.length
  rw [if_neg (by omega), if_neg (by omega), if_neg (by omega), if_neg (by omega), if_neg (by omega), if_neg (by omega), if_pos hk] at hlay
  have hnsz := nsz_eq t
  rw [if_neg (by omega), if_neg (by omega), if_neg (by omega)] at hnsz
  rw [← hnsz] at hlay
  obtain ⟨x, hx⟩ := okT_one hok (.inr (.inl hk))
  have hokx := okT_kids hok x (by rw [hx]; exact List.mem_singleton.2 rfl)
  have hihx := ih x (by rw [hx]; exact List.mem_singleton.2 rfl)
  have hnx : x.nsz + 1 ≤ t.nsz := by rw [hnsz, hx, nszL, nszL]; omega
  rw [hx, layL_one] at hlay
  rw [hlay]
  obtain ⟨ao, cap, rfl, hl1, hl2, -⟩ := h.len
  unfold maxLen at hl2
  have X0 := Hid.mk (Bz3.new w (.int .i64 t.k) (.string t.s) (.slice ao t.l.length cap))
  have A0 : Hid (Below w.heap.size w (w.alloc (.cells #[.int .i64 t.k, .string t.s, .slice ao t.l.length cap] 26))) := (Below.refl _ _).alloc (Nat.le_refl _) _
  have HC1 := Hid.mk (HC.out _ (h.grow A0.out) hts halt (by omega))
  have HO := Hid.mk hO
  have HR := Hid.mk h
  obtain ⟨oa, oc, hov, hoc⟩ := hO.lenV
  subst hov
  have HOW : Hid (∀ g, (Value.slice oa L.length oc).ownBlock = some g → g < w.heap.size) := fun g hg => (hO.own hg).2
  rw [hk] at X0 A0 HC1 ⊢
  have hlen1 : t.l.length = 1 := by rw [hx]; rfl
  rw [hlen1] at X0 A0 HC1 HR hl1 ⊢
  rw [hx] at HR
  generalize t.s = ts at *
  generalize t.nsz = N at *
  have HIX := Hid.mk hihx
  have HOX := Hid.mk hokx
  have HOK := Hid.mk hokx
  clear hlay hO h HC hk halt hok hx hlen1 hihx hokx ih hnsz
  go_enter Try.func48, Try.ntmps48
  have x0 := X0.out.c0
  have x1 := X0.out.c1
  have x2 := X0.out.c2
  go_wp2_with fail
  refine HC1.out.mono ?_
  rintro e w1 ⟨rfl, hb1⟩
  have HX1 := Hid.mk (X0.out.grow hb1)
  have HB1 := Hid.mk (A0.out.trans (hb1.mono A0.out.size))
  have y0 := HX1.out.c0
  have y1 := HX1.out.c1
  have y2 := HX1.out.c2
  have hsz := HB1.out.size
  clear x0 x1 x2 X0 HC1 hb1
  have HO1 := Hid.mk (HO.out.grow HB1.out)
  have HR1 := Hid.mk (HR.out.grow HB1.out)
  obtain ⟨b, off, V, rfl, hel⟩ := HR1.out.elems (by simp)
  obtain ⟨⟨c0, c1, c2⟩, hsub, hss⟩ := hel 0 (by simp)
  simp only [List.getElem_cons_zero, Nat.zero_mul, Nat.add_zero] at c0 c1 c2 hsub hss
  have HCX := Hid.mk (HIX.out B (V 0) _ base _ w1 hsub hB (by omega) HO1.out hss HOX.out (by omega))
  clear hel hsub hss HIX HOX HR HO A0 HR1
  go_wp2_with fail
  refine HCX.out.mono ?_
  rintro e w4 ⟨o4, rfl, hown4, hn4⟩
  have hsz4 := hn4.1.size
  have HO4 := Hid.mk hown4
  have HN4 := Hid.mk (hn4.ahead HB1.out)
  obtain ⟨oa4, oc4, hov4, hoc4⟩ := hown4.lenV
  subst hov4
  have hlen4 : (L ++ x.lay L.length).length ≤ 1000000 := by rw [List.length_append, lay_len x HOK.out]; omega
  generalize hM : L ++ x.lay L.length = M at *
  have HM := Hid.mk hM
  clear hM hown4 hn4 HCX y0 y1 y2 c0 c1 c2 HX1 HO1
  have HN5 : Hid ((w4.alloc (.cells #[.int .i64 4, .string ⟨#[]⟩, .int .i64 (L.length : Int), .int .i64 ((L.length : Int) + (N : Int))] 69)).heap[w4.heap.size]? = some (.cells #[.int .i64 4, .string ⟨#[]⟩, .int .i64 (L.length : Int), .int .i64 ((L.length : Int) + (N : Int))] 69 (0, 0))) := heap_alloc_new _ _
  have BN : Hid (Below w4.heap.size w4 (w4.alloc (.cells #[.int .i64 4, .string ⟨#[]⟩, .int .i64 (L.length : Int), .int .i64 ((L.length : Int) + (N : Int))] 69))) := (Below.refl _ _).alloc (Nat.le_refl _) _
  have HO5 := Hid.mk (HO4.out.grow BN.out)
  go_wp2_with (at_builtin; refine wpList_append_n (w0 := w4) rfl _ _ rfl base _ M ⟨4, ⟨#[]⟩, (L.length : Int), ((L.length : Int) + (N : Int))⟩ rfl HO5.out _ rfl HN5.out (BN.out.mono (by omega)) (by simp; omega) (by omega) ?_)
  intro v6 w6 hown6 hbel6 hq6 hn6
  have HO6 := Hid.mk hown6
  have HN6 := Hid.mk (HN4.out.trans (hn6.ahead BN.out))
  clear hown6 hbel6 hq6 hn6 HN5 BN HO5 HO4 HN4
  go_wp2
  go_ret
  refine ⟨_, rfl, ?_, HN6.out⟩
  have := HO6.out
  rw [← HM.out, List.append_assoc] at this
  exact this
set_option maxHeartbeats 2000000 in
theorem l5Lay_6 (t : Tr) (hk : t.k = 6) (ih : ∀ x ∈ t.l, LyC x) : LyC t := by
  intro B v o base L w h hB hbase hO hts hok hn
  have halt := alt_ok t hok
  have HC := Hid.mk (l5Size_any t B v)
  have hlay := lay_eq t L.length
  rw [if_neg (by omega), if_neg (by omega), if_neg (by omega), if_neg (by omega), if_neg (by omega), if_pos hk] at hlay
  have hnsz := nsz_eq t
  rw [if_neg (by omega), if_neg (by omega), if_pos hk] at hnsz
  rw [← hnsz] at hlay
  obtain ⟨x, hx⟩ := okT_one hok (.inl hk)
  have hokx := okT_kids hok x (by rw [hx]; exact List.mem_singleton.2 rfl)
  have hihx := ih x (by rw [hx]; exact List.mem_singleton.2 rfl)
  have hnx : x.nsz + 2 ≤ t.nsz := by rw [hnsz, hx, nszL, nszL]; omega
  rw [hx, layL_one] at hlay
  rw [hlay]
  obtain ⟨ao, cap, rfl, hl1, hl2, -⟩ := h.len
  unfold maxLen at hl2
  have X0 := Hid.mk (Bz3.new w (.int .i64 t.k) (.string t.s) (.slice ao t.l.length cap))
  have A0 : Hid (Below w.heap.size w (w.alloc (.cells #[.int .i64 t.k, .string t.s, .slice ao t.l.length cap] 26))) := (Below.refl _ _).alloc (Nat.le_refl _) _
  have HC1 := Hid.mk (HC.out _ (h.grow A0.out) hts halt (by omega))
  have HO := Hid.mk hO
  have HR := Hid.mk h
  obtain ⟨oa, oc, hov, hoc⟩ := hO.lenV
  subst hov
  have HOW : Hid (∀ g, (Value.slice oa L.length oc).ownBlock = some g → g < w.heap.size) := fun g hg => (hO.own hg).2
  rw [hk] at X0 A0 HC1 ⊢
  have hlen1 : t.l.length = 1 := by rw [hx]; rfl
  rw [hlen1] at X0 A0 HC1 HR hl1 ⊢
  rw [hx] at HR
  generalize t.s = ts at *
  generalize t.nsz = N at *
  have HIX := Hid.mk hihx
  have HOX := Hid.mk hokx
  have HOK := Hid.mk hokx
  clear hlay hO h HC hk halt hok hx hlen1 hihx hokx ih hnsz
  go_enter Try.func48, Try.ntmps48
  have x0 := X0.out.c0
  have x1 := X0.out.c1
  have x2 := X0.out.c2
  go_wp2_with fail
  refine HC1.out.mono ?_
  rintro e w1 ⟨rfl, hb1⟩
  have HX1 := Hid.mk (X0.out.grow hb1)
  have HB1 := Hid.mk (A0.out.trans (hb1.mono A0.out.size))
  have y0 := HX1.out.c0
  have y1 := HX1.out.c1
  clear x0 x1 x2 X0 HC1 hb1
  have hsz := HB1.out.size
  have HN1 : Hid ((w1.alloc (.cells #[.int .i64 4, .string ⟨#[]⟩, .int .i64 ((L.length : Int) + 1), .int .i64 ((L.length : Int) + (N : Int))] 69)).heap[w1.heap.size]? = some (.cells #[.int .i64 4, .string ⟨#[]⟩, .int .i64 ((L.length : Int) + 1), .int .i64 ((L.length : Int) + (N : Int))] 69 (0, 0))) := heap_alloc_new _ _
  have BN : Hid (Below w1.heap.size w1 (w1.alloc (.cells #[.int .i64 4, .string ⟨#[]⟩, .int .i64 ((L.length : Int) + 1), .int .i64 ((L.length : Int) + (N : Int))] 69))) := (Below.refl _ _).alloc (Nat.le_refl _) _
  have BA := Hid.mk (HB1.out.trans (BN.out.mono hsz))
  have HO1 := Hid.mk (HO.out.grow BA.out)
  have HXA := Hid.mk (HX1.out.grow BN.out)
  have HRA := Hid.mk (HR.out.grow BA.out)
  go_wp2_with (at_builtin; refine wpList_append_n (w0 := w) rfl _ _ rfl base _ L ⟨4, ⟨#[]⟩, (L.length : Int) + 1, (L.length : Int) + (N : Int)⟩ rfl HO1.out _ rfl HN1.out (BA.out.mono hbase) (by simp; omega) (by omega) ?_)
  intro v3 w3 hown3 hbel3 hq hn3
  have hsz3 : w1.heap.size ≤ w3.heap.size := by first | omega | (have := hq; simp at this; omega)
  have HX3 := Hid.mk (hn3.box HXA.out HOW.out)
  have HR3 := Hid.mk (hn3.tree HO1.out hB HRA.out)
  have hni := hn3.ahead BA.out
  have HO3 := Hid.mk hown3
  have HN3 := Hid.mk hni
  obtain ⟨b, off, V, rfl, hel⟩ := HR3.out.elems (by simp)
  obtain ⟨⟨c0, c1, c2⟩, hsub, hss⟩ := hel 0 (by simp)
  simp only [List.getElem_cons_zero, Nat.zero_mul, Nat.add_zero] at c0 c1 c2 hsub hss
  have HCX := Hid.mk (HIX.out B (V 0) v3 base _ w3 hsub hB (by omega) hown3 hss HOX.out (by simp; omega))
  obtain ⟨oa3, oc3, hov3, hoc3⟩ := hown3.lenV
  subst hov3
  have z2 := HX3.out.c2
  clear hel hsub hss hown3 hbel3 hq hn3 hni HN1 BA HO1 y0 y1 HX1 HB1 A0 HO HR HRA HXA BN HOW HIX HOX
  generalize hM : L ++ [(⟨4, ⟨#[]⟩, (L.length : Int) + 1, (L.length : Int) + (N : Int)⟩ : Nd)] = M at *
  have HM := Hid.mk hM
  clear hM
  go_wp2_with fail
  refine HCX.out.mono ?_
  rintro e w4 ⟨o4, rfl, hown4, hn4⟩
  have hsz4 := hn4.1.size
  have HO4 := Hid.mk hown4
  have HN4 := Hid.mk (HN3.out.trans hn4)
  obtain ⟨oa4, oc4, hov4, hoc4⟩ := hown4.lenV
  subst hov4
  have hlen4 : (M ++ x.lay M.length).length ≤ 1000000 := by rw [List.length_append, lay_len x HOK.out, ← HM.out, List.length_append]; simp; omega
  generalize hP : M ++ x.lay M.length = P at *
  have HP := Hid.mk hP
  clear hP hown4 hn4 HCX HN3 HO3 z2 c0 c1 c2 HX3 HR3
  have HN5 : Hid ((w4.alloc (.cells #[.int .i64 4, .string ⟨#[]⟩, .int .i64 (L.length : Int), .int .i64 (L.length : Int)] 69)).heap[w4.heap.size]? = some (.cells #[.int .i64 4, .string ⟨#[]⟩, .int .i64 (L.length : Int), .int .i64 (L.length : Int)] 69 (0, 0))) := heap_alloc_new _ _
  have BN : Hid (Below w4.heap.size w4 (w4.alloc (.cells #[.int .i64 4, .string ⟨#[]⟩, .int .i64 (L.length : Int), .int .i64 (L.length : Int)] 69))) := (Below.refl _ _).alloc (Nat.le_refl _) _
  have HO5 := Hid.mk (HO4.out.grow BN.out)
  go_wp2_with (at_builtin; refine wpList_append_n (w0 := w4) rfl _ _ rfl base _ P ⟨4, ⟨#[]⟩, (L.length : Int), (L.length : Int)⟩ rfl HO5.out _ rfl HN5.out (BN.out.mono (by omega)) (by simp; omega) (by omega) ?_)
  intro v6 w6 hown6 hbel6 hq6 hn6
  have HO6 := Hid.mk hown6
  have HN6 := Hid.mk (HN4.out.trans (hn6.ahead BN.out))
  clear hown6 hbel6 hq6 hn6 HN5 BN HO5 HO4 HN4
  go_wp2
  go_ret
  refine ⟨_, rfl, ?_, HN6.out⟩
  have := HO6.out
  rw [← HP.out, ← HM.out, List.append_assoc, List.append_assoc, List.length_append] at this
  exact this
end Go.Proofs.Ytapniafhcagogaa
