/- A part is laid behind nodes: l5Lay of the model, the parts of one part. A part is laid behind nodes: l5Lay of the model, nothing and one behind the other. A part is laid behind nodes: l5Alt of the model, one or the other. l5Lay of the model, whole. RexOk, the program's: it goes through the parts and counts down. Whether an expression can match a text at all: the program's. Whether two regular expressions are the same, by the laws' own function: two that read the same tree are. The law FnExactRexOk walked: at every regular expression the program's RexOk answers what the document's model of it answers. -/
import Derived.Test.YtkdjkkldnidmjaaGreatDoorPk2
import Derived.Test.YtkdjkkldnidmjaaGreatDoorRexOkI
import Derived.Test.YtkdjkkldnidmjaaGreatDoorRexTo
import Derived.Lib.QuietBelow
import Derived.Test.YtkdjkkldnidmjaaGreatDoorRexOkT
import Derived.Test.YtkdjkkldnidmjaaGreatDoorTake
namespace Go.Proofs.YtkdjkkldnidmjaaGreatDoor
open Go.RowKit
set_option maxRecDepth 8000

theorem OwnN.own {w : World} {base : Nat} {o : Value} {L : List Nd} (h : OwnN w base o L) {g : Nat} (hg : o.ownBlock = some g) : base ≤ g ∧ g < w.heap.size := World.ownsRow.lt h g hg
theorem Nign.box {w w' : World} {o o' : Value} (h : Nign w w' o o') {b : Nat} {x y z : Value} (hb : Bz3 w b x y z) (hne : ∀ g, o.ownBlock = some g → g < b) : Bz3 w' b x y z := by
  refine hb.kept (h.1.block b hb.lt fun e => ?_)
  exact Nat.lt_irrefl _ (hne b e.symm)
theorem Nign.tree {w w' : World} {o o' : Value} (h : Nign w w' o o') {base : Nat} {L : List Nd} (ho : OwnN w base o L) {B : Nat → Prop} (hB : ∀ b, B b → b < base) {l : List Tr} {v : Value} (hr : Rl w B l v) : Rl w' B l v := by
  refine hr.kept fun b hb hlt => h.1.block b hlt fun e => ?_
  have h1 := (ho.own e.symm).1
  have h2 := hB b hb
  omega
theorem layL_one (x : Tr) (p : Nat) : layL [x] p = x.lay p := by rw [layL, layL, List.append_nil]

set_option maxHeartbeats 2000000 in
theorem l5Lay_8 (t : Tr) (hk : t.k = 8) (ih : ∀ x ∈ t.l, LyC x) : LyC t := by
  intro B v o base L w h hB hbase hO hts hok hn
  have halt := alt_ok t hok
  have HC := Hid.mk (l5Size_any t B v)
  have hlay := lay_eq t L.length
  rw [if_neg (by omega), if_neg (by omega), if_neg (by omega), if_neg (by omega), if_neg (by omega), if_neg (by omega), if_neg (by omega), if_pos hk] at hlay
  have hnsz := nsz_eq t
  rw [if_neg (by omega), if_neg (by omega), if_neg (by omega)] at hnsz
  rw [← hnsz] at hlay
  obtain ⟨x, hx⟩ := okT_one hok (.inr (.inr hk))
  have hokx := okT_kids hok x (by rw [hx]; exact List.mem_singleton.2 rfl)
  have hihx := ih x (by rw [hx]; exact List.mem_singleton.2 rfl)
  have hnx : x.nsz + 1 ≤ t.nsz := by rw [hnsz, hx, nszL, nszL]; omega
  rw [hx, layL_one] at hlay
  rw [hlay]
  obtain ⟨ao, cap, rfl, hl1, hl2, -⟩ := h.len
  unfold maxLen at hl2
  have X0 := Hid.mk (Bz3.new w (.int .i64 t.k) (.string t.s) (.slice ao t.l.length cap))
  have A0 : Hid (Below w.heap.size w (w.alloc (.cells #[.int .i64 t.k, .string t.s, .slice ao t.l.length cap] 26))) := (Below.refl _ _).alloc (Nat.le_refl _) _
  have HC1 := Hid.mk (HC.out _ (h.grow A0.out) hts halt (by omega))
  have HO := Hid.mk hO
  have HR := Hid.mk h
  obtain ⟨oa, oc, hov, hoc⟩ := hO.lenV
  subst hov
  have HOW : Hid (∀ g, (Value.slice oa L.length oc).ownBlock = some g → g < w.heap.size) := fun g hg => (hO.own hg).2
  rw [hk] at X0 A0 HC1 ⊢
  have hlen1 : t.l.length = 1 := by rw [hx]; rfl
  rw [hlen1] at X0 A0 HC1 HR hl1 ⊢
  rw [hx] at HR
  generalize t.s = ts at *
  generalize t.nsz = N at *
  have HIX := Hid.mk hihx
  have HOX := Hid.mk hokx
  clear hlay hO h HC hk halt hok hx hlen1 hihx hokx ih hnsz
  go_enter Tryz.func26, Tryz.ntmps26
  have x0 := X0.out.c0
  have x1 := X0.out.c1
  have x2 := X0.out.c2
  go_wp2_with fail
  refine HC1.out.mono ?_
  rintro e w1 ⟨rfl, hb1⟩
  have HX1 := Hid.mk (X0.out.grow hb1)
  have HB1 := Hid.mk (A0.out.trans (hb1.mono A0.out.size))
  have y0 := HX1.out.c0
  have y1 := HX1.out.c1
  clear x0 x1 x2 X0 HC1 hb1
  have hsz := HB1.out.size
  have HN1 : Hid ((w1.alloc (.cells #[.int .i64 4, .string ⟨#[]⟩, .int .i64 ((L.length : Int) + 1), .int .i64 ((L.length : Int) + (N : Int))] 43)).heap[w1.heap.size]? = some (.cells #[.int .i64 4, .string ⟨#[]⟩, .int .i64 ((L.length : Int) + 1), .int .i64 ((L.length : Int) + (N : Int))] 43 (0, 0))) := heap_alloc_new _ _
  have BN : Hid (Below w1.heap.size w1 (w1.alloc (.cells #[.int .i64 4, .string ⟨#[]⟩, .int .i64 ((L.length : Int) + 1), .int .i64 ((L.length : Int) + (N : Int))] 43))) := (Below.refl _ _).alloc (Nat.le_refl _) _
  have BA := Hid.mk (HB1.out.trans (BN.out.mono hsz))
  have HO1 := Hid.mk (HO.out.grow BA.out)
  have HXA := Hid.mk (HX1.out.grow BN.out)
  have HRA := Hid.mk (HR.out.grow BA.out)
  go_wp2_with (at_builtin; refine wpList_append_n (w0 := w) rfl _ _ rfl base _ L ⟨4, ⟨#[]⟩, (L.length : Int) + 1, (L.length : Int) + (N : Int)⟩ rfl HO1.out _ rfl HN1.out (BA.out.mono hbase) (by simp; omega) (by omega) ?_)
  intro v3 w3 hown3 hbel3 hq hn3
  have hsz3 : w1.heap.size ≤ w3.heap.size := by first | omega | (have := hq; simp at this; omega)
  have HX3 := Hid.mk (hn3.box HXA.out HOW.out)
  have HR3 := Hid.mk (hn3.tree HO1.out hB HRA.out)
  have hni := hn3.ahead BA.out
  have HO3 := Hid.mk hown3
  have HN3 := Hid.mk hni
  obtain ⟨b, off, V, rfl, hel⟩ := HR3.out.elems (by simp)
  obtain ⟨⟨c0, c1, c2⟩, hsub, hss⟩ := hel 0 (by simp)
  simp only [List.getElem_cons_zero, Nat.zero_mul, Nat.add_zero] at c0 c1 c2 hsub hss
  have HCX := Hid.mk (HIX.out B (V 0) v3 base _ w3 hsub hB (by omega) hown3 hss HOX.out (by simp; omega))
  obtain ⟨oa3, oc3, hov3, hoc3⟩ := hown3.lenV
  subst hov3
  have z2 := HX3.out.c2
  clear hel hsub hss hown3 hbel3 hq hn3 hni HN1 BA HO1 y0 y1 HX1 HB1 A0 HO HR HRA HXA BN HOW HIX HOX
  generalize hM : L ++ [(⟨4, ⟨#[]⟩, (L.length : Int) + 1, (L.length : Int) + (N : Int)⟩ : Nd)] = M at *
  have HM := Hid.mk hM
  clear hM
  go_wp2_with fail
  refine HCX.out.mono ?_
  rintro e w4 ⟨o4, rfl, hown4, hn4⟩
  have HO4 := Hid.mk hown4
  have HN4 := Hid.mk (HN3.out.trans hn4)
  clear hown4 hn4 HCX HN3 HO3 z2 c0 c1 c2 HX3 HR3
  go_wp2
  go_ret
  refine ⟨_, rfl, ?_, HN4.out⟩
  have := HO4.out
  rw [← HM.out, List.append_assoc, List.length_append] at this
  exact this
set_option maxHeartbeats 2000000 in
theorem l5Lay_7 (t : Tr) (hk : t.k = 7) (ih : ∀ x ∈ t.l, LyC x) : LyC t := by
  intro B v o base L w h hB hbase hO hts hok hn
  have halt := alt_ok t hok
  have HC := Hid.mk (l5Size_any t B v)
  have hlay := lay_eq t L.length
  rw [if_neg (by omega), if_neg (by omega), if_neg (by omega), if_neg (by omega), if_neg (by omega), if_neg (by omega), if_pos hk] at hlay
  have hnsz := nsz_eq t
  rw [if_neg (by omega), if_neg (by omega), if_neg (by omega)] at hnsz
  rw [← hnsz] at hlay
  obtain ⟨x, hx⟩ := okT_one hok (.inr (.inl hk))
  have hokx := okT_kids hok x (by rw [hx]; exact List.mem_singleton.2 rfl)
  have hihx := ih x (by rw [hx]; exact List.mem_singleton.2 rfl)
  have hnx : x.nsz + 1 ≤ t.nsz := by rw [hnsz, hx, nszL, nszL]; omega
  rw [hx, layL_one] at hlay
  rw [hlay]
  obtain ⟨ao, cap, rfl, hl1, hl2, -⟩ := h.len
  unfold maxLen at hl2
  have X0 := Hid.mk (Bz3.new w (.int .i64 t.k) (.string t.s) (.slice ao t.l.length cap))
  have A0 : Hid (Below w.heap.size w (w.alloc (.cells #[.int .i64 t.k, .string t.s, .slice ao t.l.length cap] 26))) := (Below.refl _ _).alloc (Nat.le_refl _) _
  have HC1 := Hid.mk (HC.out _ (h.grow A0.out) hts halt (by omega))
  have HO := Hid.mk hO
  have HR := Hid.mk h
  obtain ⟨oa, oc, hov, hoc⟩ := hO.lenV
  subst hov
  have HOW : Hid (∀ g, (Value.slice oa L.length oc).ownBlock = some g → g < w.heap.size) := fun g hg => (hO.own hg).2
  rw [hk] at X0 A0 HC1 ⊢
  have hlen1 : t.l.length = 1 := by rw [hx]; rfl
  rw [hlen1] at X0 A0 HC1 HR hl1 ⊢
  rw [hx] at HR
  generalize t.s = ts at *
  generalize t.nsz = N at *
  have HIX := Hid.mk hihx
  have HOX := Hid.mk hokx
  have HOK := Hid.mk hokx
  clear hlay hO h HC hk halt hok hx hlen1 hihx hokx ih hnsz
  go_enter Tryz.func26, Tryz.ntmps26
  have x0 := X0.out.c0
  have x1 := X0.out.c1
  have x2 := X0.out.c2
  go_wp2_with fail
  refine HC1.out.mono ?_
  rintro e w1 ⟨rfl, hb1⟩
  have HX1 := Hid.mk (X0.out.grow hb1)
  have HB1 := Hid.mk (A0.out.trans (hb1.mono A0.out.size))
  have y0 := HX1.out.c0
  have y1 := HX1.out.c1
  have y2 := HX1.out.c2
  have hsz := HB1.out.size
  clear x0 x1 x2 X0 HC1 hb1
  have HO1 := Hid.mk (HO.out.grow HB1.out)
  have HR1 := Hid.mk (HR.out.grow HB1.out)
  obtain ⟨b, off, V, rfl, hel⟩ := HR1.out.elems (by simp)
  obtain ⟨⟨c0, c1, c2⟩, hsub, hss⟩ := hel 0 (by simp)
  simp only [List.getElem_cons_zero, Nat.zero_mul, Nat.add_zero] at c0 c1 c2 hsub hss
  have HCX := Hid.mk (HIX.out B (V 0) _ base _ w1 hsub hB (by omega) HO1.out hss HOX.out (by omega))
  clear hel hsub hss HIX HOX HR HO A0 HR1
  go_wp2_with fail
  refine HCX.out.mono ?_
  rintro e w4 ⟨o4, rfl, hown4, hn4⟩
  have hsz4 := hn4.1.size
  have HO4 := Hid.mk hown4
  have HN4 := Hid.mk (hn4.ahead HB1.out)
  obtain ⟨oa4, oc4, hov4, hoc4⟩ := hown4.lenV
  subst hov4
  have hlen4 : (L ++ x.lay L.length).length ≤ 1000000 := by rw [List.length_append, lay_len x HOK.out]; omega
  generalize hM : L ++ x.lay L.length = M at *
  have HM := Hid.mk hM
  clear hM hown4 hn4 HCX y0 y1 y2 c0 c1 c2 HX1 HO1
  have HN5 : Hid ((w4.alloc (.cells #[.int .i64 4, .string ⟨#[]⟩, .int .i64 (L.length : Int), .int .i64 ((L.length : Int) + (N : Int))] 43)).heap[w4.heap.size]? = some (.cells #[.int .i64 4, .string ⟨#[]⟩, .int .i64 (L.length : Int), .int .i64 ((L.length : Int) + (N : Int))] 43 (0, 0))) := heap_alloc_new _ _
  have BN : Hid (Below w4.heap.size w4 (w4.alloc (.cells #[.int .i64 4, .string ⟨#[]⟩, .int .i64 (L.length : Int), .int .i64 ((L.length : Int) + (N : Int))] 43))) := (Below.refl _ _).alloc (Nat.le_refl _) _
  have HO5 := Hid.mk (HO4.out.grow BN.out)
  go_wp2_with (at_builtin; refine wpList_append_n (w0 := w4) rfl _ _ rfl base _ M ⟨4, ⟨#[]⟩, (L.length : Int), ((L.length : Int) + (N : Int))⟩ rfl HO5.out _ rfl HN5.out (BN.out.mono (by omega)) (by simp; omega) (by omega) ?_)
  intro v6 w6 hown6 hbel6 hq6 hn6
  have HO6 := Hid.mk hown6
  have HN6 := Hid.mk (HN4.out.trans (hn6.ahead BN.out))
  clear hown6 hbel6 hq6 hn6 HN5 BN HO5 HO4 HN4
  go_wp2
  go_ret
  refine ⟨_, rfl, ?_, HN6.out⟩
  have := HO6.out
  rw [← HM.out, List.append_assoc] at this
  exact this
set_option maxHeartbeats 2000000 in
theorem l5Lay_6 (t : Tr) (hk : t.k = 6) (ih : ∀ x ∈ t.l, LyC x) : LyC t := by
  intro B v o base L w h hB hbase hO hts hok hn
  have halt := alt_ok t hok
  have HC := Hid.mk (l5Size_any t B v)
  have hlay := lay_eq t L.length
  rw [if_neg (by omega), if_neg (by omega), if_neg (by omega), if_neg (by omega), if_neg (by omega), if_pos hk] at hlay
  have hnsz := nsz_eq t
  rw [if_neg (by omega), if_neg (by omega), if_pos hk] at hnsz
  rw [← hnsz] at hlay
  obtain ⟨x, hx⟩ := okT_one hok (.inl hk)
  have hokx := okT_kids hok x (by rw [hx]; exact List.mem_singleton.2 rfl)
  have hihx := ih x (by rw [hx]; exact List.mem_singleton.2 rfl)
  have hnx : x.nsz + 2 ≤ t.nsz := by rw [hnsz, hx, nszL, nszL]; omega
  rw [hx, layL_one] at hlay
  rw [hlay]
  obtain ⟨ao, cap, rfl, hl1, hl2, -⟩ := h.len
  unfold maxLen at hl2
  have X0 := Hid.mk (Bz3.new w (.int .i64 t.k) (.string t.s) (.slice ao t.l.length cap))
  have A0 : Hid (Below w.heap.size w (w.alloc (.cells #[.int .i64 t.k, .string t.s, .slice ao t.l.length cap] 26))) := (Below.refl _ _).alloc (Nat.le_refl _) _
  have HC1 := Hid.mk (HC.out _ (h.grow A0.out) hts halt (by omega))
  have HO := Hid.mk hO
  have HR := Hid.mk h
  obtain ⟨oa, oc, hov, hoc⟩ := hO.lenV
  subst hov
  have HOW : Hid (∀ g, (Value.slice oa L.length oc).ownBlock = some g → g < w.heap.size) := fun g hg => (hO.own hg).2
  rw [hk] at X0 A0 HC1 ⊢
  have hlen1 : t.l.length = 1 := by rw [hx]; rfl
  rw [hlen1] at X0 A0 HC1 HR hl1 ⊢
  rw [hx] at HR
  generalize t.s = ts at *
  generalize t.nsz = N at *
  have HIX := Hid.mk hihx
  have HOX := Hid.mk hokx
  have HOK := Hid.mk hokx
  clear hlay hO h HC hk halt hok hx hlen1 hihx hokx ih hnsz
  go_enter Tryz.func26, Tryz.ntmps26
  have x0 := X0.out.c0
  have x1 := X0.out.c1
  have x2 := X0.out.c2
  go_wp2_with fail
  refine HC1.out.mono ?_
  rintro e w1 ⟨rfl, hb1⟩
  have HX1 := Hid.mk (X0.out.grow hb1)
  have HB1 := Hid.mk (A0.out.trans (hb1.mono A0.out.size))
  have y0 := HX1.out.c0
  have y1 := HX1.out.c1
  clear x0 x1 x2 X0 HC1 hb1
  have hsz := HB1.out.size
  have HN1 : Hid ((w1.alloc (.cells #[.int .i64 4, .string ⟨#[]⟩, .int .i64 ((L.length : Int) + 1), .int .i64 ((L.length : Int) + (N : Int))] 43)).heap[w1.heap.size]? = some (.cells #[.int .i64 4, .string ⟨#[]⟩, .int .i64 ((L.length : Int) + 1), .int .i64 ((L.length : Int) + (N : Int))] 43 (0, 0))) := heap_alloc_new _ _
  have BN : Hid (Below w1.heap.size w1 (w1.alloc (.cells #[.int .i64 4, .string ⟨#[]⟩, .int .i64 ((L.length : Int) + 1), .int .i64 ((L.length : Int) + (N : Int))] 43))) := (Below.refl _ _).alloc (Nat.le_refl _) _
  have BA := Hid.mk (HB1.out.trans (BN.out.mono hsz))
  have HO1 := Hid.mk (HO.out.grow BA.out)
  have HXA := Hid.mk (HX1.out.grow BN.out)
  have HRA := Hid.mk (HR.out.grow BA.out)
  go_wp2_with (at_builtin; refine wpList_append_n (w0 := w) rfl _ _ rfl base _ L ⟨4, ⟨#[]⟩, (L.length : Int) + 1, (L.length : Int) + (N : Int)⟩ rfl HO1.out _ rfl HN1.out (BA.out.mono hbase) (by simp; omega) (by omega) ?_)
  intro v3 w3 hown3 hbel3 hq hn3
  have hsz3 : w1.heap.size ≤ w3.heap.size := by first | omega | (have := hq; simp at this; omega)
  have HX3 := Hid.mk (hn3.box HXA.out HOW.out)
  have HR3 := Hid.mk (hn3.tree HO1.out hB HRA.out)
  have hni := hn3.ahead BA.out
  have HO3 := Hid.mk hown3
  have HN3 := Hid.mk hni
  obtain ⟨b, off, V, rfl, hel⟩ := HR3.out.elems (by simp)
  obtain ⟨⟨c0, c1, c2⟩, hsub, hss⟩ := hel 0 (by simp)
  simp only [List.getElem_cons_zero, Nat.zero_mul, Nat.add_zero] at c0 c1 c2 hsub hss
  have HCX := Hid.mk (HIX.out B (V 0) v3 base _ w3 hsub hB (by omega) hown3 hss HOX.out (by simp; omega))
  obtain ⟨oa3, oc3, hov3, hoc3⟩ := hown3.lenV
  subst hov3
  have z2 := HX3.out.c2
  clear hel hsub hss hown3 hbel3 hq hn3 hni HN1 BA HO1 y0 y1 HX1 HB1 A0 HO HR HRA HXA BN HOW HIX HOX
  generalize hM : L ++ [(⟨4, ⟨#[]⟩, (L.length : Int) + 1, (L.length : Int) + (N : Int)⟩ : Nd)] = M at *
  have HM := Hid.mk hM
  clear hM
  go_wp2_with fail
  refine HCX.out.mono ?_
  rintro e w4 ⟨o4, rfl, hown4, hn4⟩
  have hsz4 := hn4.1.size
  have HO4 := Hid.mk hown4
  have HN4 := Hid.mk (HN3.out.trans hn4)
  obtain ⟨oa4, oc4, hov4, hoc4⟩ := hown4.lenV
  subst hov4
  have hlen4 : (M ++ x.lay M.length).length ≤ 1000000 := by rw [List.length_append, lay_len x HOK.out, ← HM.out, List.length_append]; simp; omega
  generalize hP : M ++ x.lay M.length = P at *
  have HP := Hid.mk hP
  clear hP hown4 hn4 HCX HN3 HO3 z2 c0 c1 c2 HX3 HR3
  have HN5 : Hid ((w4.alloc (.cells #[.int .i64 4, .string ⟨#[]⟩, .int .i64 (L.length : Int), .int .i64 (L.length : Int)] 43)).heap[w4.heap.size]? = some (.cells #[.int .i64 4, .string ⟨#[]⟩, .int .i64 (L.length : Int), .int .i64 (L.length : Int)] 43 (0, 0))) := heap_alloc_new _ _
  have BN : Hid (Below w4.heap.size w4 (w4.alloc (.cells #[.int .i64 4, .string ⟨#[]⟩, .int .i64 (L.length : Int), .int .i64 (L.length : Int)] 43))) := (Below.refl _ _).alloc (Nat.le_refl _) _
  have HO5 := Hid.mk (HO4.out.grow BN.out)
  go_wp2_with (at_builtin; refine wpList_append_n (w0 := w4) rfl _ _ rfl base _ P ⟨4, ⟨#[]⟩, (L.length : Int), (L.length : Int)⟩ rfl HO5.out _ rfl HN5.out (BN.out.mono (by omega)) (by simp; omega) (by omega) ?_)
  intro v6 w6 hown6 hbel6 hq6 hn6
  have HO6 := Hid.mk hown6
  have HN6 := Hid.mk (HN4.out.trans (hn6.ahead BN.out))
  clear hown6 hbel6 hq6 hn6 HN5 BN HO5 HO4 HN4
  go_wp2
  go_ret
  refine ⟨_, rfl, ?_, HN6.out⟩
  have := HO6.out
  rw [← HP.out, ← HM.out, List.append_assoc, List.append_assoc, List.length_append] at this
  exact this
end Go.Proofs.YtkdjkkldnidmjaaGreatDoor

namespace Go.Proofs.YtkdjkkldnidmjaaGreatDoor
open Go.RowKit
set_option maxRecDepth 8000

theorem layL_take : ∀ (l : List Tr) (k : Nat) (h : k < l.length) (p : Nat), layL (l.take (k + 1)) p = layL (l.take k) p ++ l[k].lay (p + nszL (l.take k))
  | t :: r, 0, _, p => by simp [layL, nszL]
  | t :: r, k + 1, h, p => by
    have := layL_take r k (by simpa using h) (p + t.nsz)
    simp only [List.take_succ_cons, layL, nszL, List.getElem_cons_succ, List.append_assoc] at this ⊢
    rw [this, Nat.add_assoc]

set_option maxHeartbeats 2000000 in
theorem l5Lay_9 (t : Tr) (hk : t.k = 9) : LyC t := by
  intro B v o base L w h hB hbase hO hts hok hn
  have halt := alt_ok t hok
  have HC := Hid.mk (l5Size_any t B v)
  have hlay := lay_eq t L.length
  rw [if_neg (by omega), if_neg (by omega), if_neg (by omega), if_neg (by omega), if_neg (by omega), if_neg (by omega), if_neg (by omega), if_neg (by omega), if_neg (by omega), if_neg (by omega)] at hlay
  rw [hlay]
  obtain ⟨ao, cap, rfl, hl1, hl2, -⟩ := h.len
  unfold maxLen at hl2
  have X0 := Hid.mk (Bz3.new w (.int .i64 t.k) (.string t.s) (.slice ao t.l.length cap))
  have A0 : Hid (Below w.heap.size w (w.alloc (.cells #[.int .i64 t.k, .string t.s, .slice ao t.l.length cap] 26))) := (Below.refl _ _).alloc (Nat.le_refl _) _
  have HC1 := Hid.mk (HC.out _ (h.grow A0.out) hts halt (by omega))
  have HO := Hid.mk hO
  have HR := Hid.mk h
  obtain ⟨oa, oc, hov, hoc⟩ := hO.lenV
  subst hov
  have HOW : Hid (∀ g, (Value.slice oa L.length oc).ownBlock = some g → g < w.heap.size) := fun g hg => (hO.own hg).2
  rw [hk] at X0 A0 HC1 ⊢
  generalize t.s = ts at *
  generalize t.nsz = N at *
  generalize t.l = tl at *
  clear hlay hO h HC hk halt hok
  go_enter Tryz.func26, Tryz.ntmps26
  have x0 := X0.out.c0
  have x1 := X0.out.c1
  have x2 := X0.out.c2
  go_wp2_with fail
  refine HC1.out.mono ?_
  rintro e w1 ⟨rfl, hb1⟩
  have HX1 := Hid.mk (X0.out.grow hb1)
  have HB1 := Hid.mk (A0.out.trans (hb1.mono A0.out.size))
  have y0 := HX1.out.c0
  have y2 := HX1.out.c2
  have hsz := HB1.out.size
  clear x0 x1 x2 X0 HC1 hb1 A0
  have HO1 := Hid.mk (HO.out.grow HB1.out)
  have HR1 := Hid.mk (HR.out.grow HB1.out)
  clear HO HR
  have HN1 : Hid (Nign w w1 (.slice oa L.length oc) (.slice oa L.length oc)) := (Nign.refl w1 _).ahead HB1.out
  clear HR1 HOW
  go_wp2
  go_ret
  refine ⟨_, rfl, ?_, HN1.out⟩
  rw [List.append_nil]
  exact HO1.out
set_option maxHeartbeats 2000000 in
theorem l5Lay_4 (t : Tr) (hk : t.k = 4) (ih : ∀ x ∈ t.l, LyC x) : LyC t := by
  intro B v o base L w h hB hbase hO hts hok hn
  have halt := alt_ok t hok
  have HC := Hid.mk (l5Size_any t B v)
  have hlay := lay_eq t L.length
  rw [if_neg (by omega), if_neg (by omega), if_neg (by omega), if_pos hk] at hlay
  have hnsz := nsz_eq t
  rw [if_pos (.inr hk)] at hnsz
  have hkids := okT_kids hok
  rw [hlay]
  obtain ⟨ao, cap, rfl, hl1, hl2, -⟩ := h.len
  unfold maxLen at hl2
  have X0 := Hid.mk (Bz3.new w (.int .i64 t.k) (.string t.s) (.slice ao t.l.length cap))
  have A0 : Hid (Below w.heap.size w (w.alloc (.cells #[.int .i64 t.k, .string t.s, .slice ao t.l.length cap] 26))) := (Below.refl _ _).alloc (Nat.le_refl _) _
  have HC1 := Hid.mk (HC.out _ (h.grow A0.out) hts halt (by omega))
  have HO := Hid.mk hO
  have HR := Hid.mk h
  obtain ⟨oa, oc, hov, hoc⟩ := hO.lenV
  subst hov
  have HOW : Hid (∀ g, (Value.slice oa L.length oc).ownBlock = some g → g < w.heap.size) := fun g hg => (hO.own hg).2
  rw [hk] at X0 A0 HC1 ⊢
  have HIH := Hid.mk ih
  have HKI := Hid.mk hkids
  obtain ⟨l, hl⟩ : ∃ l, t.l = l := ⟨_, rfl⟩
  rw [hl] at X0 HIH HKI HR hnsz hl1 A0 HC1 ⊢
  generalize t.s = ts at *
  generalize t.nsz = N at *
  have HLE := Hid.mk (nszL_le l)
  have HTK := Hid.mk (nszL_take l)
  have HLT := Hid.mk (layL_take l)
  have HLL : Hid (∀ k p, (layL (l.take k) p).length = nszL (l.take k)) := fun k p => layL_len _ (fun x hx => lay_len x (HKI.out x (List.mem_of_mem_take hx))) p
  have HALL : Hid (layL (l.take l.length) L.length = layL l L.length) := by show _ = _; rw [List.take_length]
  have H0 : Hid (L ++ layL (l.take 0) L.length = L) := by show _ = _; rw [List.take_zero, layL, List.append_nil]
  clear hlay hO h HC hk halt hok ih hkids hl
  go_enter Tryz.func26, Tryz.ntmps26
  have x0 := X0.out.c0
  have x1 := X0.out.c1
  have x2 := X0.out.c2
  go_wp2_with fail
  refine HC1.out.mono ?_
  rintro e w1 ⟨rfl, hb1⟩
  have HX1 := Hid.mk (X0.out.grow hb1)
  have HB1 := Hid.mk (A0.out.trans (hb1.mono A0.out.size))
  have y0 := HX1.out.c0
  have y2 := HX1.out.c2
  have hsz := HB1.out.size
  clear x0 x1 x2 X0 HC1 hb1 A0
  have HO1 := Hid.mk (HO.out.grow HB1.out)
  have HR1 := Hid.mk (HR.out.grow HB1.out)
  clear HO HR
  go_wp2
  go_loopw [0, 7] (fun q i wr => ∃ (k : Nat) (qa : Option Addr) (qc : Nat) (M : List Nd), k ≤ l.length ∧ i = .int .i64 k ∧ q = .slice qa M.length qc ∧ M.length ≤ qc ∧ Hid (M = L ++ layL (l.take k) L.length) ∧ Hid (OwnN wr base q M) ∧ Hid (Nign w1 wr (.slice oa L.length oc) q)) (fun _ i _ => l.length - (intOf i).toNat)
  case atStart => exact ⟨0, oa, oc, L, Nat.zero_le _, rfl, rfl, hoc, H0.out.symm, HO1.out, Nign.refl _ _⟩
  case round =>
    obtain ⟨k, qa, qc, M, hkl0, rfl, rfl, hMc, HM, HOM, HNM⟩ := hrel
    have HXR := Hid.mk (HNM.out.box HX1.out HOW.out)
    have HRR := Hid.mk (HNM.out.tree HO1.out hB HR1.out)
    have hszr := HNM.out.1.size
    have z2 := HXR.out.c2
    clear y0 y2 H0
    by_cases hkl : k < l.length
    · obtain ⟨b, off, V, rfl, hel⟩ := HRR.out.elems (by intro hn; rw [hn] at hkl; simp at hkl)
      obtain ⟨⟨c0, c1, c2⟩, hsub, hss⟩ := hel k hkl
      have hle := HLE.out (k + 1)
      have htk := HTK.out k hkl
      have hml : M.length = L.length + nszL (l.take k) := by rw [HM.out, List.length_append, HLL.out]
      have HCX := Hid.mk (HIH.out l[k] (List.getElem_mem hkl) B (V k) _ base M wr hsub hB (by omega) HOM.out hss (HKI.out _ (List.getElem_mem hkl)) (by omega))
      have HNX : Hid (M ++ l[k].lay M.length = L ++ layL (l.take (k + 1)) L.length) := by
        show _ = _
        rw [HLT.out k hkl L.length, ← List.append_assoc, ← HM.out, hml]
      generalize l[k] = x at c0 c1 c2 HCX HNX
      have hi1 : (k : Int) < (l.length : Int) := by omega
      clear hel hsub hss hle htk hml HRR HXR HIH HKI HLE HTK HLT HLL HM HOM
      go_wp2_with fail
      refine HCX.out.mono ?_
      rintro e w4 ⟨o4, rfl, hown4, hn4⟩
      have HO4 := Hid.mk hown4
      have HN4 := Hid.mk (HNM.out.trans hn4)
      obtain ⟨oa4, oc4, hov4, hoc4⟩ := hown4.lenV
      subst hov4
      generalize hP : M ++ x.lay M.length = P at *
      clear hP hown4 hn4 HCX HNM c0 c1 c2 z2
      go_wp2
      go_roundw
      case rel => exact ⟨k + 1, oa4, oc4, P, by omega, by go_num, rfl, hoc4, HNX, HO4, HN4⟩
      case measure => simp [intOf]; omega
    · have e : k = l.length := by omega
      subst e
      have HN9 := Hid.mk (HNM.out.ahead HB1.out)
      have HM9 : Hid (OwnN wr base (.slice qa M.length qc) (L ++ layL l L.length)) := by
        show OwnN _ _ _ _
        have := HOM.out
        rw [← HALL.out, ← HM.out]
        exact this
      clear HRR HXR HIH HKI HLE HTK HLT HLL HM HOM HALL HNM
      go_wp2
      go_ret
      exact ⟨_, rfl, HM9.out, HN9.out⟩
end Go.Proofs.YtkdjkkldnidmjaaGreatDoor

namespace Go.Proofs.YtkdjkkldnidmjaaGreatDoor
open Go.RowKit
set_option maxRecDepth 8000

/-- The parts before the last of one or the other. -/
def layK : List Tr → Nat → Nat → List Nd
  | [], _, _ => []
  | t :: r, p, q => split (p + 1) (p + 2 + t.nsz) :: (t.lay (p + 1) ++ split q q :: layK r (p + 2 + t.nsz) q)
theorem layK_snoc : ∀ (l : List Tr) (x : Tr) (p q : Nat), layK (l ++ [x]) p q = layK l p q ++ (split (p + nszL l + 2 * l.length + 1) (p + nszL l + 2 * l.length + 2 + x.nsz) :: (x.lay (p + nszL l + 2 * l.length + 1) ++ [split q q]))
  | [], x, p, q => by simp [layK, nszL]
  | t :: r, x, p, q => by
    have := layK_snoc r x (p + 2 + t.nsz) q
    have e : p + 2 + t.nsz + nszL r + 2 * r.length = p + (t.nsz + nszL r) + 2 * (r.length + 1) := by omega
    rw [e] at this
    simp only [List.cons_append, layK, nszL, List.length_cons, List.append_assoc, this]
theorem layA_snoc : ∀ (l : List Tr) (x : Tr) (p q : Nat), layA (l ++ [x]) p q = layK l p q ++ x.lay (p + nszL l + 2 * l.length)
  | [], x, p, q => by simp [layK, layA, nszL]
  | t :: r, x, p, q => by
    have := layA_snoc r x (p + 2 + t.nsz) q
    have e : p + 2 + t.nsz + nszL r + 2 * r.length = p + (t.nsz + nszL r) + 2 * (r.length + 1) := by omega
    rw [e] at this
    have hn : (r ++ [x]).isEmpty = false := by cases r <;> rfl
    simp only [List.cons_append, layK, layA, nszL, List.length_cons, List.append_assoc, this, hn, Bool.false_eq_true, if_false]
theorem layK_len : ∀ (l : List Tr), (∀ x ∈ l, ∀ p, (x.lay p).length = x.nsz) → ∀ p q, (layK l p q).length = nszL l + 2 * l.length
  | [], _, p, q => by simp [layK, nszL]
  | t :: r, h, p, q => by
    have := layK_len r (fun x hx => h x (List.mem_cons_of_mem _ hx)) (p + 2 + t.nsz) q
    simp only [layK, nszL, List.length_cons, List.length_append, h t (List.mem_cons_self ..), this]
    omega

set_option maxHeartbeats 4000000 in
theorem l5Alt_any (l : List Tr) (hne : l ≠ []) (ih : ∀ x ∈ l, LyC x) (hok : ∀ x ∈ l, x.okT = true) (B : Nat → Prop) (v o : Value) (base : Nat) (L : List Nd) (q : Nat) (w : World) (h : Rl w B l v) (hB : ∀ b, B b → b < base) (hbase : base ≤ w.heap.size) (hO : OwnN w base o L)
    (hn : L.length + nszL l + 2 * (l.length - 1) ≤ 1000000) :
    Calls Tryz.prog 51 #[o, v, .int .i64 (q : Int)] w fun e w' => ∃ o', e = .returned o' ∧ OwnN w' base o' (L ++ layA l L.length q) ∧ Nign w w' o o' := by
  obtain ⟨ao, cap, rfl, hl1, hl2, -⟩ := h.len
  unfold maxLen at hl2
  have hpos : 0 < l.length := List.length_pos_iff.2 hne
  obtain ⟨oa, oc, hov, hoc⟩ := hO.lenV
  subst hov
  have HO := Hid.mk hO
  have HR := Hid.mk h
  have HIH := Hid.mk ih
  have HKI := Hid.mk hok
  have HLE := Hid.mk (nszL_le l)
  have HTK := Hid.mk (nszL_take l)
  have HLL : Hid (∀ k p, k ≤ l.length → (layK (l.take k) p q).length = nszL (l.take k) + 2 * k) := fun k p hk => by
    have := layK_len (l.take k) (fun x hx => lay_len x (hok x (List.mem_of_mem_take hx))) p q
    rwa [List.length_take, Nat.min_eq_left hk] at this
  have HST : Hid (∀ k (hk : k < l.length) p, layK (l.take (k + 1)) p q = layK (l.take k) p q ++ (split (p + nszL (l.take k) + 2 * k + 1) (p + nszL (l.take k) + 2 * k + 2 + l[k].nsz) :: (l[k].lay (p + nszL (l.take k) + 2 * k + 1) ++ [split q q]))) := fun k hk p => by
    have := layK_snoc (l.take k) l[k] p q
    rw [List.length_take, Nat.min_eq_left (by omega)] at this
    rw [List.take_succ_eq_append_getElem hk, this]
  have HEN : Hid (∀ k (hk : k < l.length), k + 1 = l.length → ∀ p, layA l p q = layK (l.take k) p q ++ l[k].lay (p + nszL (l.take k) + 2 * k)) := fun k hk he p => by
    have := layA_snoc (l.take k) l[k] p q
    rw [List.length_take, Nat.min_eq_left (by omega), ← List.take_succ_eq_append_getElem hk, he, List.take_length] at this
    exact this
  have H0 : Hid (L = L ++ layK (l.take 0) L.length q) := by show _ = _; rw [List.take_zero, layK, List.append_nil]
  clear hO h ih hok hne
  go_enter Tryz.func51, Tryz.ntmps51
  go_wp2
  go_loopw [0, 7] (fun u i wr => ∃ (k : Nat) (qa : Option Addr) (qc : Nat) (M : List Nd), k + 1 ≤ l.length ∧ i = .int .i64 k ∧ u = .slice qa M.length qc ∧ M.length ≤ qc ∧ Hid (M = L ++ layK (l.take k) L.length q) ∧ Hid (OwnN wr base u M) ∧ Hid (Nign w wr (.slice oa L.length oc) u)) (fun _ i _ => l.length - (intOf i).toNat)
  case atStart => exact ⟨0, oa, oc, L, by omega, rfl, rfl, hoc, H0, HO, Nign.refl _ _⟩
  case round =>
    obtain ⟨k, qa, qc, M, hkl0, rfl, rfl, hMc, HM, HOM, HNM⟩ := hrel
    have HRR := Hid.mk (HNM.out.tree HO.out hB HR.out)
    have hszr := HNM.out.1.size
    have hkl : k < l.length := by omega
    have hle := HLE.out (k + 1)
    have htk := HTK.out k hkl
    have hml : M.length = L.length + nszL (l.take k) + 2 * k := by rw [HM.out, List.length_append, HLL.out k _ (by omega)]; omega
    have hokk := HKI.out l[k] (List.getElem_mem hkl)
    have hihk := HIH.out l[k] (List.getElem_mem hkl)
    obtain ⟨b, off, V, rfl, hel⟩ := HRR.out.elems (by intro hn; rw [hn] at hkl; simp at hkl)
    obtain ⟨⟨c0, c1, c2⟩, hsub, hss⟩ := hel k hkl
    have hi1 : (k : Int) < (l.length : Int) := by omega
    clear H0
    by_cases hkl1 : k + 1 < l.length
    · have hST := HST.out k hkl L.length
      have HS := Hid.mk (l5Size_any l[k] B (V k) wr hsub hss (alt_ok _ hokk) (by omega))
      have hi2 : (k : Int) < (l.length : Int) - 1 := by omega
      obtain ⟨x, hx⟩ : ∃ x, l[k] = x := ⟨_, rfl⟩
      rw [hx] at c0 c1 hsub hss HS hokk hihk hST htk
      have hM5 : M.length + 2 + x.nsz ≤ 1000000 := by omega
      have HNX : Hid (L ++ layK (l.take (k + 1)) L.length q = M ++ (split (M.length + 1) (M.length + 2 + x.nsz) :: (x.lay (M.length + 1) ++ [split q q]))) := by
        show _ = _
        rw [hST, hml, ← List.append_assoc, ← HM.out]
      have HIX := Hid.mk hihk
      have HOK := Hid.mk hokk
      obtain ⟨xn, hxn⟩ : ∃ xn, x.nsz = xn := ⟨_, rfl⟩
      rw [hxn] at HS hM5 HNX
      have HXN := Hid.mk hxn
      have HX := Hid.mk hx
      clear hel hle htk hml hST hokk hihk hsub hss hxn hx
      go_wp2_with fail
      refine HS.out.mono ?_
      rintro e w2 ⟨rfl, hb2⟩
      have hs2 := hb2.size
      have HB2 := Hid.mk hb2
      have HN1 : Hid ((w2.alloc (.cells #[.int .i64 4, .string ⟨#[]⟩, .int .i64 ((M.length : Int) + 1), .int .i64 ((M.length : Int) + 2 + (xn : Int))] 43)).heap[w2.heap.size]? = some (.cells #[.int .i64 4, .string ⟨#[]⟩, .int .i64 ((M.length : Int) + 1), .int .i64 ((M.length : Int) + 2 + (xn : Int))] 43 (0, 0))) := heap_alloc_new _ _
      have BN : Hid (Below wr.heap.size wr (w2.alloc (.cells #[.int .i64 4, .string ⟨#[]⟩, .int .i64 ((M.length : Int) + 1), .int .i64 ((M.length : Int) + 2 + (xn : Int))] 43))) := hb2.alloc hs2 _
      have HO1 := Hid.mk (HOM.out.grow BN.out)
      have HRA := Hid.mk (HRR.out.grow BN.out)
      clear HS hb2 c0 c1 c2
      go_wp2_with (at_builtin; refine wpList_append_n (w0 := wr) rfl _ _ rfl base _ M ⟨4, ⟨#[]⟩, (M.length : Int) + 1, (M.length : Int) + 2 + (xn : Int)⟩ rfl HO1.out _ rfl HN1.out (BN.out.mono (by omega)) (by simp; omega) (by omega) ?_)
      intro v3 w3 hown3 hbel3 hq3 hn3
      have hsz3 : w2.heap.size ≤ w3.heap.size := by first | omega | (have := hq3; simp at this; omega)
      have HR3 := Hid.mk (hn3.tree HO1.out hB HRA.out)
      have HN3 := Hid.mk (HNM.out.trans (hn3.ahead BN.out))
      obtain ⟨b', off', V', hbo, hel⟩ := HR3.out.elems (by intro hn; rw [hn] at hkl; simp at hkl)
      cases hbo
      obtain ⟨⟨c0, c1, c2⟩, hsub, hss⟩ := hel k hkl
      rw [HX.out] at c0 c1 hsub hss
      have HCX := Hid.mk (HIX.out B (V' k) v3 base _ w3 hsub hB (by omega) hown3 hss HOK.out (by rw [HXN.out]; simp; omega))
      obtain ⟨oa3, oc3, hov3, hoc3⟩ := hown3.lenV
      subst hov3
      clear hel hsub hss hown3 hbel3 hq3 hn3 HN1 BN HO1 HRA HR3 HB2 HOM HRR HNM
      generalize hM1 : M ++ [(⟨4, ⟨#[]⟩, (M.length : Int) + 1, (M.length : Int) + 2 + (xn : Int)⟩ : Nd)] = M1 at *
      have HM1 := Hid.mk hM1
      clear hM1
      go_wp2_with fail
      refine HCX.out.mono ?_
      rintro e w4 ⟨o4, rfl, hown4, hn4⟩
      have hsz4 := hn4.1.size
      have HO4 := Hid.mk hown4
      have HN4 := Hid.mk (HN3.out.trans hn4)
      obtain ⟨oa4, oc4, hov4, hoc4⟩ := hown4.lenV
      subst hov4
      have hlen4 : (M1 ++ x.lay M1.length).length ≤ 1000000 := by rw [List.length_append, lay_len x HOK.out, HXN.out, ← HM1.out, List.length_append]; simp; omega
      generalize hP : M1 ++ x.lay M1.length = P at *
      have HP := Hid.mk hP
      clear hP hown4 hn4 HCX HN3 c0 c1 c2
      have HN5 : Hid ((w4.alloc (.cells #[.int .i64 4, .string ⟨#[]⟩, .int .i64 (q : Int), .int .i64 (q : Int)] 43)).heap[w4.heap.size]? = some (.cells #[.int .i64 4, .string ⟨#[]⟩, .int .i64 (q : Int), .int .i64 (q : Int)] 43 (0, 0))) := heap_alloc_new _ _
      have BN : Hid (Below w4.heap.size w4 (w4.alloc (.cells #[.int .i64 4, .string ⟨#[]⟩, .int .i64 (q : Int), .int .i64 (q : Int)] 43))) := (Below.refl _ _).alloc (Nat.le_refl _) _
      have HO5 := Hid.mk (HO4.out.grow BN.out)
      go_wp2_with (at_builtin; refine wpList_append_n (w0 := w4) rfl _ _ rfl base _ P ⟨4, ⟨#[]⟩, (q : Int), (q : Int)⟩ rfl HO5.out _ rfl HN5.out (BN.out.mono (by omega)) (by simp; omega) (by omega) ?_)
      intro v6 w6 hown6 hbel6 hq6 hn6
      have HO6 := Hid.mk hown6
      have HN6 := Hid.mk (HN4.out.trans (hn6.ahead BN.out))
      obtain ⟨oa6, oc6, hov6, hoc6⟩ := hown6.lenV
      subst hov6
      have HNY : Hid (P ++ [(⟨4, ⟨#[]⟩, (q : Int), (q : Int)⟩ : Nd)] = L ++ layK (l.take (k + 1)) L.length q) := by
        show _ = _
        rw [HNX.out, ← HP.out, ← HM1.out, List.append_assoc, List.append_assoc, List.length_append]
        rfl
      generalize P ++ [(⟨4, ⟨#[]⟩, (q : Int), (q : Int)⟩ : Nd)] = P1 at *
      clear hown6 hbel6 hq6 hn6 HN5 BN HO5 HO4 HN4 HP HM1 HNX
      go_wp2
      go_roundw
      case rel => exact ⟨k + 1, oa6, oc6, P1, by omega, by go_num, rfl, hoc6, HNY, HO6, HN6⟩
      case measure => simp [intOf]; omega
    · have he : k + 1 = l.length := by omega
      have hEN := HEN.out k hkl he L.length
      have HCX := Hid.mk (hihk B (V k) _ base M wr hsub hB (by omega) HOM.out hss hokk (by omega))
      have HNX : Hid (M ++ l[k].lay M.length = L ++ layA l L.length q) := by
        show _ = _
        rw [hEN, ← List.append_assoc, ← HM.out, hml]
      have hi2 : ¬ (k : Int) < (l.length : Int) - 1 := by omega
      have hk1 : (l.length : Int) - 1 = (k : Int) := by omega
      generalize l[k] = x at c0 c1 c2 HCX HNX
      clear hel hsub hss hle htk hml hEN hokk hihk HRR HIH HKI HLE HTK HLL HST HEN HM HOM
      go_wp2_with fail
      refine HCX.out.mono ?_
      rintro e w4 ⟨o4, rfl, hown4, hn4⟩
      rw [HNX.out] at hown4
      have HO4 := Hid.mk hown4
      have HN4 := Hid.mk (HNM.out.trans hn4)
      clear hown4 hn4 HCX HNM c0 c1 c2
      go_wp2
      go_ret
      exact ⟨_, rfl, HO4.out, HN4.out⟩
end Go.Proofs.YtkdjkkldnidmjaaGreatDoor

namespace Go.Proofs.YtkdjkkldnidmjaaGreatDoor
open Go.RowKit
set_option maxRecDepth 8000

set_option maxHeartbeats 2000000 in
theorem l5Lay_5 (t : Tr) (hk : t.k = 5) (ih : ∀ x ∈ t.l, LyC x) : LyC t := by
  intro B v o base L w h hB hbase hO hts hok hn
  have halt := alt_ok t hok
  have HC := Hid.mk (l5Size_any t B v)
  have hlay := lay_eq t L.length
  rw [if_neg (by omega), if_neg (by omega), if_neg (by omega), if_neg (by omega), if_pos hk] at hlay
  have hnsz := nsz_eq t
  rw [if_neg (by omega), if_pos hk] at hnsz
  have h2 := okT_two hok (.inr hk)
  rw [← hnsz] at hlay
  have hkids := okT_kids hok
  rw [hlay]
  obtain ⟨ao, cap, rfl, hl1, hl2, -⟩ := h.len
  unfold maxLen at hl2
  have X0 := Hid.mk (Bz3.new w (.int .i64 t.k) (.string t.s) (.slice ao t.l.length cap))
  have A0 : Hid (Below w.heap.size w (w.alloc (.cells #[.int .i64 t.k, .string t.s, .slice ao t.l.length cap] 26))) := (Below.refl _ _).alloc (Nat.le_refl _) _
  have HC1 := Hid.mk (HC.out _ (h.grow A0.out) hts halt (by omega))
  have HO := Hid.mk hO
  have HR := Hid.mk h
  obtain ⟨oa, oc, hov, hoc⟩ := hO.lenV
  subst hov
  have HOW : Hid (∀ g, (Value.slice oa L.length oc).ownBlock = some g → g < w.heap.size) := fun g hg => (hO.own hg).2
  rw [hk] at X0 A0 HC1 ⊢
  have HIH := Hid.mk ih
  have HKI := Hid.mk hkids
  obtain ⟨l, hl⟩ : ∃ l, t.l = l := ⟨_, rfl⟩
  rw [hl] at X0 HIH HKI HR hnsz hl1 A0 HC1 h2 ⊢
  generalize t.s = ts at *
  generalize t.nsz = N at *
  obtain ⟨q, hq⟩ : ∃ q : Nat, L.length + N = q := ⟨_, rfl⟩
  have HEQ : Hid ((q : Int) = (L.length : Int) + (N : Int)) := by show _ = _; omega
  rw [hq]
  have HNS : Hid (L.length + nszL l + 2 * (l.length - 1) ≤ 1000000) := by show _ ≤ _; omega
  clear hlay hO h HC hk halt hok ih hkids hl hnsz hq
  go_enter Tryz.func26, Tryz.ntmps26
  have x0 := X0.out.c0
  have x1 := X0.out.c1
  have x2 := X0.out.c2
  go_wp2_with fail
  refine HC1.out.mono ?_
  rintro e w1 ⟨rfl, hb1⟩
  have HX1 := Hid.mk (X0.out.grow hb1)
  have HB1 := Hid.mk (A0.out.trans (hb1.mono A0.out.size))
  have y0 := HX1.out.c0
  have y2 := HX1.out.c2
  have hsz := HB1.out.size
  clear x0 x1 x2 X0 HC1 hb1 A0
  have HO1 := Hid.mk (HO.out.grow HB1.out)
  have HR1 := Hid.mk (HR.out.grow HB1.out)
  clear HO HR
  have HCX := Hid.mk (l5Alt_any l (by intro e; rw [e] at h2; simp at h2) HIH.out HKI.out B _ _ base L q w1 HR1.out hB (by omega) HO1.out HNS.out)
  rw [HEQ.out] at HCX
  clear HIH HKI HR1 HO1 HOW
  go_wp2_with fail
  refine HCX.out.mono ?_
  rintro e w4 ⟨o4, rfl, hown4, hn4⟩
  have HO4 := Hid.mk hown4
  have HN4 := Hid.mk (hn4.ahead HB1.out)
  clear hown4 hn4 HCX y0 y2 HX1
  go_wp2
  go_ret
  exact ⟨_, rfl, HO4.out, HN4.out⟩

/-- l5Lay of the model: a right part is laid behind the nodes. -/
theorem l5Lay_any : ∀ t : Tr, LyC t := Tr.ind fun t ih => by
  intro B v o base L w h hB hbase hO hts hok hn
  rcases okT_kinds hok with hk | hk | hk | hk | hk | hk | hk | hk | hk | hk | hk
  · exact l5Lay_1 t hk B v o base L w h hB hbase hO hts hok hn
  · exact l5Lay_2 t hk B v o base L w h hB hbase hO hts hok hn
  · exact l5Lay_3 t hk B v o base L w h hB hbase hO hts hok hn
  · exact l5Lay_4 t hk ih B v o base L w h hB hbase hO hts hok hn
  · exact l5Lay_5 t hk ih B v o base L w h hB hbase hO hts hok hn
  · exact l5Lay_6 t hk ih B v o base L w h hB hbase hO hts hok hn
  · exact l5Lay_7 t hk ih B v o base L w h hB hbase hO hts hok hn
  · exact l5Lay_8 t hk ih B v o base L w h hB hbase hO hts hok hn
  · exact l5Lay_9 t hk B v o base L w h hB hbase hO hts hok hn
  · exact l5Lay_10 t hk B v o base L w h hB hbase hO hts hok hn
  · exact l5Lay_11 t hk B v o base L w h hB hbase hO hts hok hn
end Go.Proofs.YtkdjkkldnidmjaaGreatDoor

namespace Go.Proofs.YtkdjkkldnidmjaaGreatDoor
open Go.RowKit
set_option maxRecDepth 8000

def RoomC (f : Nat) : Prop := ∀ (t : Tr) (B : Nat → Prop) (v : Value) (w : World) (r : Int), Rl w B t.l v → t.s.size ≤ maxLen → 0 ≤ r → r ≤ 60 →
  Calls Tryz.prog 33 #[rx t.k t.s v, .int .i64 (7 - (f : Int)), .int .i64 r] w fun e w' => e = .returned (.int .i64 (roomF f t r)) ∧ Below w.heap.size w w'

theorem ret_i {a b : Int} (h : a = b) : Ending.returned (.int .i64 a) = .returned (.int .i64 b) := by rw [h]

theorem room_zero : RoomC 0 := by
  intro t B v w r h hs h0 h1
  obtain ⟨ao, cap, rfl, hl1, hl2, hl3⟩ := h.len
  obtain ⟨k, hk⟩ : ∃ k, t.k = k := ⟨_, rfl⟩
  obtain ⟨s, hsn⟩ : ∃ s, t.s = s := ⟨_, rfl⟩
  have HR : Hid (roomF 0 t r = -1) := rfl
  rw [hk, hsn]
  clear h
  go_enter Tryz.func33, Tryz.ntmps33
  go_wp2
  go_ret
  exact ⟨ret_i HR.out.symm, (Below.refl _ _).alloc (Nat.le_refl _) _⟩

set_option maxHeartbeats 1000000 in
theorem room_succ (f : Nat) (hf : f ≤ 5) (ih : RoomC f) : RoomC (f + 1) := by
  intro t B v w r h hs h0 h1
  have HNB := Hid.mk (fun (w' : World) (hb : Below w.heap.size w w') => implNode_any t B v w' (h.grow hb) hs)
  have HE : Hid (roomF (f + 1) t r = if r = 0 ∨ nodeB t = false then -1 else t.l.foldl (roomG (roomF f)) (r - 1)) := rfl
  obtain ⟨R, hR⟩ : ∃ R, roomF (f + 1) t r = R := ⟨_, rfl⟩
  obtain ⟨nb, hnb⟩ : ∃ nb, nodeB t = nb := ⟨_, rfl⟩
  obtain ⟨k, hk⟩ : ∃ k, t.k = k := ⟨_, rfl⟩
  obtain ⟨s, hsn⟩ : ∃ s, t.s = s := ⟨_, rfl⟩
  obtain ⟨l, hln⟩ : ∃ l, t.l = l := ⟨_, rfl⟩
  rw [hk, hsn, hnb] at HNB
  rw [hR, hnb, hln] at HE
  rw [hln] at h
  rw [hk, hsn, hR]
  clear hR hnb hk hsn hln hs
  obtain ⟨ao, cap, rfl, hl1, hl2, hl3⟩ := h.len
  have hm : cap ≤ 9223372036854775807 := by unfold maxLen at hl2; omega
  have HH := Hid.mk h
  have HI := Hid.mk ih
  clear ih h hl2
  have B0 : Below w.heap.size w (w.alloc (.cells #[.int .i64 k, .string s, .slice ao l.length cap] 26)) := (Below.refl _ _).alloc (Nat.le_refl _) _
  obtain ⟨d, hd⟩ : ∃ d : Int, 7 - ((f + 1 : Nat) : Int) = d := ⟨_, rfl⟩
  rw [hd]
  have hd6 : ¬ 6 < d := by omega
  have hd7 : d + 1 = 7 - (f : Int) := by omega
  by_cases hr0 : r = 0
  · subst hr0
    have HR : Hid (R = -1) := by show _ = _; rw [HE.out, if_pos (Or.inl rfl)]
    clear HE HNB HI HH
    go_enter Tryz.func33, Tryz.ntmps33
    go_wp2
    go_ret
    exact ⟨ret_i HR.out.symm, B0⟩
  have hrb : (r == 0) = false := beq_eq_false_iff_ne.2 hr0
  cases nb with
  | false =>
    have HR : Hid (R = -1) := by show _ = _; rw [HE.out, if_pos (Or.inr rfl)]
    clear HE HI HH
    go_enter Tryz.func33, Tryz.ntmps33
    go_wp2_with fail
    refine (HNB.out _ B0).mono ?_
    rintro e w1 ⟨rfl, hb1⟩
    have B1 := B0.trans (hb1.mono (by simp))
    clear B0 hb1 HNB
    go_wp2
    go_ret
    exact ⟨ret_i HR.out.symm, B1⟩
  | true =>
    have HR : Hid (R = l.foldl (roomG (roomF f)) (r - 1)) := by show _ = _; rw [HE.out, if_neg (by simpa using hr0)]
    clear HE
    go_enter Tryz.func33, Tryz.ntmps33
    go_wp2_with fail
    refine (HNB.out _ B0).mono ?_
    rintro e w1 ⟨rfl, hb1⟩
    have B1 := B0.trans (hb1.mono (by simp))
    have hc1 := fun o => hb1.cell (p := ⟨w.heap.size, o, none⟩) (by simp)
    clear B0 hb1 HNB
    have hr1 : 0 ≤ r - 1 := by omega
    go_wp2
    go_loopw [2, 25] (fun q i wr => ∃ (k : Nat) (m : Int), k ≤ l.length ∧ i = .int .i64 k ∧ q = .int .i64 m ∧ 0 ≤ m ∧ m ≤ 60 ∧ Hid (m = (l.take k).foldl (roomG (roomF f)) (r - 1)) ∧ Below w.heap.size w wr) (fun _ i _ => l.length - (intOf i).toNat)
    case atStart => exact ⟨0, r - 1, Nat.zero_le _, rfl, rfl, by omega, by omega, rfl, B1⟩
    case round =>
      obtain ⟨k, m, hk, rfl, rfl, m0, m1, Hm, hbel⟩ := hrel
      clear B1 hc1
      by_cases hkl : k < l.length
      · obtain ⟨b, off, V, rfl, hel⟩ := HH.out.elems (by intro hn; rw [hn] at hkl; simp at hkl)
        obtain ⟨h3, hsub, hss⟩ := hel k hkl
        have HT := Hid.mk (room_take (f := f) l k (r - 1) hkl)
        have HC := Hid.mk (room_cut (f := f) l (k + 1) (r - 1))
        obtain ⟨t, ht⟩ : ∃ t, l[k] = t := ⟨_, rfl⟩
        rw [ht] at h3 hsub hss HT
        clear ht hel
        obtain ⟨c0, c1, c2⟩ := h3.kept (w' := wr) (hbel.block b (World.block_lt_of_cell? w _ h3.1))
        have hs1 := hbel.size
        have HCall := Hid.mk (fun (w' : World) (hb : Below w.heap.size w w') => HI.out t B (V k) w' m (hsub.grow hb) hss m0 m1)
        obtain ⟨bd0, bd1⟩ := room_bd f t m m0
        obtain ⟨av, cv, hv, -, -, -⟩ := hsub.len
        rw [hv] at c2 HCall
        obtain ⟨tk, htk⟩ : ∃ tk, t.k = tk := ⟨_, rfl⟩
        obtain ⟨ts, hts⟩ : ∃ ts, t.s = ts := ⟨_, rfl⟩
        rw [htk, hts] at HCall
        rw [htk] at c0
        rw [hts] at c1
        obtain ⟨q, hq⟩ : ∃ q, roomF f t m = q := ⟨_, rfl⟩
        rw [hq] at bd0 bd1 HCall
        have HQ : Hid ((l.take (k + 1)).foldl (roomG (roomF f)) (r - 1) = q) := by
          show _ = _
          rw [HT.out, ← Hm.out, roomG, if_neg (by omega), hq]
        have hi1 : (k : Int) < (l.length : Int) := by omega
        have B2 := hbel.alloc hs1 (.cells #[.int .i64 tk, .string ts, .slice av t.l.length cv] 26)
        clear hsub hss h3 hv HT Hm hq htk hts hbel
        by_cases hq0 : q < 0
        · have HF : Hid (R = -1) := by show _ = _; rw [HR.out]; exact HC.out (by rw [HQ.out]; omega)
          clear HQ HC
          go_wp2_with fail
          refine (HCall.out _ B2).mono ?_
          rintro e w2 ⟨rfl, hb2⟩
          have B3 := B2.trans (hb2.mono (by simp; omega))
          clear B2 hb2 HCall
          go_wp2
          go_ret
          exact ⟨ret_i HF.out.symm, B3⟩
        · clear HC
          go_wp2_with fail
          refine (HCall.out _ B2).mono ?_
          rintro e w2 ⟨rfl, hb2⟩
          have B3 := B2.trans (hb2.mono (by simp; omega))
          clear B2 hb2 HCall
          go_wp2
          go_roundw
          case rel => exact ⟨k + 1, q, by omega, by go_num, rfl, by omega, by omega, HQ.out.symm, B3⟩
          case measure => simp [intOf]; omega
      · have e : k = l.length := by omega
        subst e
        have HF : Hid (R = m) := by show _ = _; rw [HR.out, Hm.out, List.take_length]
        clear Hm
        go_wp2
        go_ret
        exact ⟨ret_i HF.out.symm, hbel⟩

theorem implRexOk_any (t : Tr) (B : Nat → Prop) (v : Value) (w : World) (h : Rl w B t.l v) (hs : t.s.size ≤ maxLen) :
    Calls Tryz.prog 15 #[rx t.k t.s v] w fun e w' => e = .returned (.bool (okR t)) ∧ Below w.heap.size w w' := by
  have R6 : RoomC 6 := room_succ 5 (by omega) (room_succ 4 (by omega) (room_succ 3 (by omega) (room_succ 2 (by omega) (room_succ 1 (by omega) (room_succ 0 (by omega) room_zero)))))
  have HC := Hid.mk (fun (w' : World) (hb : Below w.heap.size w w') => R6 t B v w' 60 (h.grow hb) hs (by omega) (by omega))
  have HO := Hid.mk (okR_room t)
  obtain ⟨b, hb⟩ : ∃ b, okR t = b := ⟨_, rfl⟩
  obtain ⟨q, hq⟩ : ∃ q, roomF 6 t 60 = q := ⟨_, rfl⟩
  obtain ⟨k, hk⟩ : ∃ k, t.k = k := ⟨_, rfl⟩
  obtain ⟨s, hsn⟩ : ∃ s, t.s = s := ⟨_, rfl⟩
  rw [hk, hsn, hq] at HC
  rw [hb, hq] at HO
  rw [hk, hsn, hb]
  obtain ⟨ao, cap, rfl, hl1, hl2, hl3⟩ := h.len
  have B0 : Below w.heap.size w (w.alloc (.cells #[.int .i64 k, .string s, .slice ao t.l.length cap] 26)) := (Below.refl _ _).alloc (Nat.le_refl _) _
  clear h hk hsn hq hb R6 hl2
  go_enter Tryz.func15, Tryz.ntmps15
  go_wp2_with fail
  refine (HC.out _ B0).mono ?_
  rintro e w1 ⟨rfl, hb1⟩
  have B1 := B0.trans (hb1.mono (by simp))
  clear B0 hb1 HC
  go_wp2
  go_ret
  exact ⟨ret_b HO.out, B1⟩
end Go.Proofs.YtkdjkkldnidmjaaGreatDoor

namespace Go.Proofs.YtkdjkkldnidmjaaGreatDoor
open Go.RowKit
set_option maxRecDepth 8000

attribute [local go_sem] Oper.semAt_some

theorem canMatch_any (t : Tr) (B : Nat → Prop) (v : Value) (s : ByteArray) (w : World) (h : Rl w B t.l v) (hs : t.s.size ≤ maxLen) :
    Calls Tryz.prog 44 #[rx t.k t.s v, .string s] w fun e w' => e = .returned (.bool (decide (s.size ≤ 200) && okR t)) ∧ Below w.heap.size w w' := by
  have HK := Hid.mk (fun (w' : World) (hb : Below w.heap.size w w') => implRexOk_any t B v w' (h.grow hb) hs)
  obtain ⟨ao, cap, rfl, -⟩ := h.len
  have A0 : Below w.heap.size w (w.alloc (.cells #[.int .i64 t.k, .string t.s, .slice ao t.l.length cap] 26)) := (Below.refl _ _).alloc (Nat.le_refl _) _
  have RB : Below w.heap.size w w := Below.refl _ _
  clear h hs
  by_cases h2 : s.size ≤ 200
  · have hi : ((s.size : Nat) : Int) ≤ 200 := by omega
    rw [decide_eq_true h2, Bool.true_and]
    clear h2
    go_enter Tryz.func44, Tryz.ntmps44
    go_wp2_with fail
    refine (HK.out _ (by first | exact RB | exact A0)).mono ?_
    rintro e w1 ⟨rfl, hb1⟩
    have B1 : Below w.heap.size w w1 := by first | exact hb1 | exact A0.trans (hb1.mono (by simp))
    clear hb1 HK A0 RB
    go_wp2
    go_ret
    exact ⟨rfl, B1⟩
  · have hi : ¬ ((s.size : Nat) : Int) ≤ 200 := by omega
    rw [decide_eq_false h2, Bool.false_and]
    clear h2 HK
    go_enter Tryz.func44, Tryz.ntmps44
    go_wp2
    go_ret
    exact ⟨rfl, by first | exact RB | exact A0⟩
end Go.Proofs.YtkdjkkldnidmjaaGreatDoor

namespace Go.Proofs.YtkdjkkldnidmjaaGreatDoor
open Go.RowKit
end Go.Proofs.YtkdjkkldnidmjaaGreatDoor

namespace Go.Proofs.YtkdjkkldnidmjaaGreatDoor
open Go.RowKit
set_option maxRecDepth 8000

theorem specRexOk_any (t : Tr) (B : Nat → Prop) (v : Value) (w : World) (h : Rl w B t.l v) (hs : t.s.size ≤ maxLen) :
    Calls Tryz.prog 25 #[rx t.k t.s v] w fun e w' => e = .returned (.bool (okR t)) ∧ Below w.heap.size w w' := by
  have R6 : PartsC 6 := parts_succ 5 (by omega) (parts_succ 4 (by omega) (parts_succ 3 (by omega) (parts_succ 2 (by omega) (parts_succ 1 (by omega) (parts_succ 0 (by omega) parts_zero)))))
  have HC := Hid.mk (fun (w' : World) (hb : Below w.heap.size w w') => R6 t B v w' (h.grow hb))
  have HK := Hid.mk (fun (w' : World) (hb : Below w.heap.size w w') => specOk_any t B v w' (h.grow hb) hs)
  have HO : Hid (okR t = (decide (partsF 6 t ≤ 60) && t.okT)) := rfl
  obtain ⟨b, hb⟩ : ∃ b, okR t = b := ⟨_, rfl⟩
  obtain ⟨q, hq⟩ : ∃ q, partsF 6 t = q := ⟨_, rfl⟩
  obtain ⟨o, ho⟩ : ∃ o, t.okT = o := ⟨_, rfl⟩
  obtain ⟨k, hk⟩ : ∃ k, t.k = k := ⟨_, rfl⟩
  obtain ⟨s, hsn⟩ : ∃ s, t.s = s := ⟨_, rfl⟩
  rw [hk, hsn, hq] at HC
  rw [hk, hsn, ho] at HK
  rw [hb, hq, ho] at HO
  rw [hk, hsn, hb]
  obtain ⟨ao, cap, rfl, hl1, hl2, hl3⟩ := h.len
  have B0 : Below w.heap.size w (w.alloc (.cells #[.int .i64 k, .string s, .slice ao t.l.length cap] 26)) := (Below.refl _ _).alloc (Nat.le_refl _) _
  clear h hk hsn hq hb ho R6 hl2
  by_cases h60 : q ≤ 60
  · have h60' : (q : Int) ≤ 60 := by omega
    have HR : Hid (o = b) := by show _ = _; rw [HO.out, decide_eq_true h60]; rfl
    clear HO
    go_enter Tryz.func25, Tryz.ntmps25
    go_wp2_with fail
    refine (HC.out _ B0).mono ?_
    rintro e w1 ⟨rfl, hb1⟩
    have B1 := B0.trans (hb1.mono (by simp))
    have hc1 := fun o => hb1.cell (p := ⟨w.heap.size, o, none⟩) (by simp)
    have hs1 := hb1.size
    simp at hs1
    clear B0 hb1 HC
    go_wp2_with fail
    refine (HK.out _ B1).mono ?_
    rintro e w2 ⟨rfl, hb2⟩
    have B2 := B1.trans (hb2.mono (by omega))
    clear B1 hb2 HK hc1
    go_wp2
    go_ret
    exact ⟨ret_b HR.out, B2⟩
  · have h60' : ¬ (q : Int) ≤ 60 := by omega
    have HR : Hid (false = b) := by show _ = _; rw [HO.out, decide_eq_false h60]; rfl
    clear HO HK
    go_enter Tryz.func25, Tryz.ntmps25
    go_wp2_with fail
    refine (HC.out _ B0).mono ?_
    rintro e w1 ⟨rfl, hb1⟩
    have B1 := B0.trans (hb1.mono (by simp))
    clear B0 hb1 HC
    go_wp2
    go_ret
    exact ⟨ret_b HR.out, B1⟩

end Go.Proofs.YtkdjkkldnidmjaaGreatDoor
