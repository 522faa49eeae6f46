/- The law FnSameTrees walked: drawn terms, statements and programs are held against each other the same by the program and by the model, each is the same as itself. -/
import Derived.Test.YtijpmnenegdmnaaQDrawSm
import Derived.Test.YtijpmnenegdmnaaQSameXI
import Derived.Test.YtijpmnenegdmnaaQSameYI
import Derived.Test.YtijpmnenegdmnaaQSamePI
import Derived.Test.YtijpmnenegdmnaaQPgSame
namespace Go.Proofs.Ytijpmnenegdmnaa
open Go.RowKit
set_option maxRecDepth 8000
set_option linter.unusedSimpArgs false

theorem byteList_of_wf {zs : List Int} (h : ∀ n ∈ zs, (Lit.int .u8 n).wf = true) : byteList zs := by
  intro z hz
  exact bounds_u8 (h z hz)
theorem byteList.take {zs : List Int} (h : byteList zs) (n : Nat) : byteList (zs.take n) := fun z hz => h z (List.mem_of_mem_take hz)
theorem Bs.of_row {w : World} {a : Option Addr} {len cap : Nat} {zs : List Int}
    (h : (a = none ∧ len = 0 ∧ cap = 0 ∧ zs = []) ∨
      ∃ x, a = some x ∧ len ≤ cap ∧ cap ≤ maxLen ∧ zs.length = cap ∧ (∀ i, i < zs.length → w.cell? (x.add i) = some (.int .u8 (zs.getD i 0))) ∧ ∀ n ∈ zs, (Lit.int .u8 n).wf = true) :
    Bs w (.slice a len cap) (zs.take len) ∧ (zs.take len).length = len := by
  rcases h with ⟨rfl, rfl, rfl, rfl⟩ | ⟨x, rfl, hl, hm, hz, hcell, hwf⟩
  · exact ⟨⟨by intro z hz; simp at hz, none, 0, by simp, by simp, by simp, fun _ => rfl, fun h => by simp at h⟩, rfl⟩
  · have hlen : (zs.take len).length = len := by simp; omega
    refine ⟨⟨(byteList_of_wf hwf).take len, some x, cap, by rw [hlen], by omega, hm, fun h => by simp at h, fun hne => ?_⟩, hlen⟩
    have hpos : 0 < len := by
      rcases Nat.eq_zero_or_pos len with h0 | h0
      · subst h0; simp at hne
      · exact h0
    obtain ⟨b, off, spot⟩ := x
    have hc := hcell 0 (by omega)
    have hspot : spot = none := by simpa [Addr.add] using World.cell?_spot hc
    subst hspot
    refine ⟨b, off, rfl, fun i hi => ?_⟩
    have := hcell i (by omega)
    rw [hlen] at hi
    rw [Addr.add_lit] at this
    rw [this]
    simp [List.getD, hi]
theorem sameX_comm (a b : Ex) : sameX b a = sameX a b := by
  by_cases h : a = b
  · rw [h]
  · rw [sameX_no h, sameX_no fun e => h e.symm]
theorem El.ufN {w : World} {n : Nat} {ob : Option Nat} {l : List Ex} {v : Value} (h : El w (fun b => nf w n b ∧ some b ≠ ob) l v) : El w (uf w) l v := h.imp fun _ hb _ => hb.1.2
theorem Sl.ufN {w : World} {n : Nat} {ob : Option Nat} {l : List St} {v : Value} (h : Sl w (fun b => nf w n b ∧ some b ≠ ob) l v) : Sl w (uf w) l v := h.imp fun _ hb _ => hb.1.2
theorem two_boxes (w : World) (c d : Array Value) (t u : Nat) : ((w.alloc (.cells c t)).alloc (.cells d u)).heap[w.heap.size]? = some (.cells c t (0, 0)) ∧ ((w.alloc (.cells c t)).alloc (.cells d u)).heap[w.heap.size + 1]? = some (.cells d u (0, 0)) ∧ ((w.alloc (.cells c t)).alloc (.cells d u)).heap.size = w.heap.size + 2 ∧ Below w.heap.size w ((w.alloc (.cells c t)).alloc (.cells d u)) := by
  refine ⟨?_, ?_, by simp, ((Below.refl _ _).alloc (Nat.le_refl _) _).alloc (by simp) _⟩
  · have h := heap_alloc_new w (.cells c t)
    have hb : Below (w.alloc (.cells c t)).heap.size (w.alloc (.cells c t)) ((w.alloc (.cells c t)).alloc (.cells d u)) := (Below.refl _ _).alloc (Nat.le_refl _) _
    exact (hb.block w.heap.size (by simp)).trans h
  · have h := heap_alloc_new (w.alloc (.cells c t)) (.cells d u)
    simpa using h

set_option maxHeartbeats 40000000 in
theorem fnSameTrees_small (v : Value) (zs : List Int) (w : World) (H : Hid (Bs w v zs)) (hlen : zs.length ≤ 1048576) :
    Calls Try.prog 3 #[v] w fun e w' => e = .returned (.bool true) ∧ Below w.heap.size w w' := by
  have hd : decide ((1048576 : Int) < zs.length) = false := by simp; omega
  have HB := Hid.mk (big_any v zs w H.out)
  rw [hd] at HB
  clear hd
  go_enter Try.func3, Try.ntmps3
  go_wp2_with fail
  refine HB.out.mono ?_
  rintro e w1 ⟨rfl, hw⟩
  obtain rfl := hw.symm
  clear hw HB
  go_wp2_with fail
  refine (drawSameExpr_any v zs w H.out hlen).mono ?_
  rintro e w2 ⟨a, b, u, u', rfl, ⟨⟨ha, hb⟩, ea, eb⟩, hl⟩
  obtain ⟨ao, an, ac, rfl⟩ : ∃ o n c, u = .slice o n c := by obtain ⟨o, c, h, -⟩ := ea.len; exact ⟨_, _, _, h⟩
  obtain ⟨bo, bn, bc, rfl⟩ : ∃ o n c, u' = .slice o n c := by obtain ⟨o, c, h, -⟩ := eb.len; exact ⟨_, _, _, h⟩
  obtain ⟨t1, t2, t3, t4⟩ := two_boxes w2 #[.int .i64 a.k, .int .i64 a.n, .string a.s, .slice ao an ac] #[.int .i64 b.k, .int .i64 b.n, .string b.s, .slice bo bn bc] 26 26
  have s2 := hl.size
  have B3 := Hid.mk (hl.trans (t4.mono s2))
  have TA := Hid.mk t1
  have TB' := Hid.mk t2
  have HXa := Hid.mk (ea.ufOf.growU t4)
  have HXb := Hid.mk (eb.ufOf.growU t4)
  have hsa := ha.1 _ (.self _)
  have hsb := hb.1 _ (.self _)
  have HZa : Hid (a.sz ≤ 68719476736) := by have := ha.2; simp [Hid]; omega
  have HZb : Hid (b.sz ≤ 68719476736) := by have := hb.2; simp [Hid]; omega
  have H3 := Hid.mk (H.out.grow B3.out)
  clear ha hb ea eb hl t1 t2 H
  go_wp2_with fail
  generalize (w2.alloc (.cells #[.int .i64 a.k, .int .i64 a.n, .string a.s, .slice ao an ac] 26)).alloc (.cells #[.int .i64 b.k, .int .i64 b.n, .string b.s, .slice bo bn bc] 26) = w3 at *
  obtain ⟨ba, hba⟩ : ∃ c, w2.heap.size = c := ⟨_, rfl⟩
  simp only [hba] at *
  clear t4 hba
  refine (drawSameStmt_any v zs w3 H3.out hlen).mono ?_
  rintro e w4 ⟨⟨x, u1, u2, u3⟩, ⟨y, u1', u2', u3'⟩, rfl, ⟨⟨hx, hy⟩, ex, ey⟩, hl⟩
  obtain ⟨x1, x2, x3, rfl⟩ : ∃ o n c, u1 = .slice o n c := by obtain ⟨o, c, h, -⟩ := ex.1.len; exact ⟨_, _, _, h⟩
  obtain ⟨x4, x5, x6, rfl⟩ : ∃ o n c, u2 = .slice o n c := by obtain ⟨o, c, h, -⟩ := ex.2.1.len; exact ⟨_, _, _, h⟩
  obtain ⟨x7, x8, x9, rfl⟩ : ∃ o n c, u3 = .slice o n c := by obtain ⟨o, c, h, -⟩ := ex.2.2.len; exact ⟨_, _, _, h⟩
  obtain ⟨y1, y2, y3, rfl⟩ : ∃ o n c, u1' = .slice o n c := by obtain ⟨o, c, h, -⟩ := ey.1.len; exact ⟨_, _, _, h⟩
  obtain ⟨y4, y5, y6, rfl⟩ : ∃ o n c, u2' = .slice o n c := by obtain ⟨o, c, h, -⟩ := ey.2.1.len; exact ⟨_, _, _, h⟩
  obtain ⟨y7, y8, y9, rfl⟩ : ∃ o n c, u3' = .slice o n c := by obtain ⟨o, c, h, -⟩ := ey.2.2.len; exact ⟨_, _, _, h⟩
  simp only at hx hy
  obtain ⟨t1, t2, t3', t4⟩ := two_boxes w4 #[.int .i64 x.k, .string x.s, .string x.t, .slice x1 x2 x3, .slice x4 x5 x6, .slice x7 x8 x9] #[.int .i64 y.k, .string y.s, .string y.t, .slice y1 y2 y3, .slice y4 y5 y6, .slice y7 y8 y9] 31 31
  have s4 := hl.size
  have L5 : Below w3.heap.size w3 ((w4.alloc (.cells #[.int .i64 x.k, .string x.s, .string x.t, .slice x1 x2 x3, .slice x4 x5 x6, .slice x7 x8 x9] 31)).alloc (.cells #[.int .i64 y.k, .string y.s, .string y.t, .slice y1 y2 y3, .slice y4 y5 y6, .slice y7 y8 y9] 31)) := hl.trans (t4.mono s4)
  have B5 := Hid.mk (B3.out.trans (L5.mono B3.out.size))
  have TA5 := Hid.mk ((L5.block ba (by omega)).trans TA.out)
  have TB5 := Hid.mk ((L5.block (ba + 1) (by omega)).trans TB'.out)
  have HXa5 := Hid.mk (HXa.out.growU L5)
  have HXb5 := Hid.mk (HXb.out.growU L5)
  have TX := Hid.mk t1
  have TY := Hid.mk t2
  have HYx : Hid (El ((w4.alloc (.cells #[.int .i64 x.k, .string x.s, .string x.t, .slice x1 x2 x3, .slice x4 x5 x6, .slice x7 x8 x9] 31)).alloc (.cells #[.int .i64 y.k, .string y.s, .string y.t, .slice y1 y2 y3, .slice y4 y5 y6, .slice y7 y8 y9] 31)) (uf ((w4.alloc (.cells #[.int .i64 x.k, .string x.s, .string x.t, .slice x1 x2 x3, .slice x4 x5 x6, .slice x7 x8 x9] 31)).alloc (.cells #[.int .i64 y.k, .string y.s, .string y.t, .slice y1 y2 y3, .slice y4 y5 y6, .slice y7 y8 y9] 31))) x.x (.slice x1 x2 x3) ∧ Sl ((w4.alloc (.cells #[.int .i64 x.k, .string x.s, .string x.t, .slice x1 x2 x3, .slice x4 x5 x6, .slice x7 x8 x9] 31)).alloc (.cells #[.int .i64 y.k, .string y.s, .string y.t, .slice y1 y2 y3, .slice y4 y5 y6, .slice y7 y8 y9] 31)) (uf ((w4.alloc (.cells #[.int .i64 x.k, .string x.s, .string x.t, .slice x1 x2 x3, .slice x4 x5 x6, .slice x7 x8 x9] 31)).alloc (.cells #[.int .i64 y.k, .string y.s, .string y.t, .slice y1 y2 y3, .slice y4 y5 y6, .slice y7 y8 y9] 31))) x.a (.slice x4 x5 x6) ∧ Sl ((w4.alloc (.cells #[.int .i64 x.k, .string x.s, .string x.t, .slice x1 x2 x3, .slice x4 x5 x6, .slice x7 x8 x9] 31)).alloc (.cells #[.int .i64 y.k, .string y.s, .string y.t, .slice y1 y2 y3, .slice y4 y5 y6, .slice y7 y8 y9] 31)) (uf ((w4.alloc (.cells #[.int .i64 x.k, .string x.s, .string x.t, .slice x1 x2 x3, .slice x4 x5 x6, .slice x7 x8 x9] 31)).alloc (.cells #[.int .i64 y.k, .string y.s, .string y.t, .slice y1 y2 y3, .slice y4 y5 y6, .slice y7 y8 y9] 31))) x.b (.slice x7 x8 x9)) := ⟨ex.1.ufN.growU t4, ex.2.1.ufN.growU t4, ex.2.2.ufN.growU t4⟩
  have HYy : Hid (El ((w4.alloc (.cells #[.int .i64 x.k, .string x.s, .string x.t, .slice x1 x2 x3, .slice x4 x5 x6, .slice x7 x8 x9] 31)).alloc (.cells #[.int .i64 y.k, .string y.s, .string y.t, .slice y1 y2 y3, .slice y4 y5 y6, .slice y7 y8 y9] 31)) (uf ((w4.alloc (.cells #[.int .i64 x.k, .string x.s, .string x.t, .slice x1 x2 x3, .slice x4 x5 x6, .slice x7 x8 x9] 31)).alloc (.cells #[.int .i64 y.k, .string y.s, .string y.t, .slice y1 y2 y3, .slice y4 y5 y6, .slice y7 y8 y9] 31))) y.x (.slice y1 y2 y3) ∧ Sl ((w4.alloc (.cells #[.int .i64 x.k, .string x.s, .string x.t, .slice x1 x2 x3, .slice x4 x5 x6, .slice x7 x8 x9] 31)).alloc (.cells #[.int .i64 y.k, .string y.s, .string y.t, .slice y1 y2 y3, .slice y4 y5 y6, .slice y7 y8 y9] 31)) (uf ((w4.alloc (.cells #[.int .i64 x.k, .string x.s, .string x.t, .slice x1 x2 x3, .slice x4 x5 x6, .slice x7 x8 x9] 31)).alloc (.cells #[.int .i64 y.k, .string y.s, .string y.t, .slice y1 y2 y3, .slice y4 y5 y6, .slice y7 y8 y9] 31))) y.a (.slice y4 y5 y6) ∧ Sl ((w4.alloc (.cells #[.int .i64 x.k, .string x.s, .string x.t, .slice x1 x2 x3, .slice x4 x5 x6, .slice x7 x8 x9] 31)).alloc (.cells #[.int .i64 y.k, .string y.s, .string y.t, .slice y1 y2 y3, .slice y4 y5 y6, .slice y7 y8 y9] 31)) (uf ((w4.alloc (.cells #[.int .i64 x.k, .string x.s, .string x.t, .slice x1 x2 x3, .slice x4 x5 x6, .slice x7 x8 x9] 31)).alloc (.cells #[.int .i64 y.k, .string y.s, .string y.t, .slice y1 y2 y3, .slice y4 y5 y6, .slice y7 y8 y9] 31))) y.b (.slice y7 y8 y9)) := ⟨ey.1.ufN.growU t4, ey.2.1.ufN.growU t4, ey.2.2.ufN.growU t4⟩
  have hsx := hx.1.sizes
  have hsy := hy.1.sizes
  have HZx : Hid (x.sz ≤ 68719476736) := by have := hx.2; simp [Hid]; omega
  have HZy : Hid (y.sz ≤ 68719476736) := by have := hy.2; simp [Hid]; omega
  have H5 := Hid.mk (H3.out.grow L5)
  clear hx hy ex ey hl t1 t2 t4 L5 TA TB' HXa HXb B3 H3
  go_wp2_with fail
  generalize (w4.alloc (.cells #[.int .i64 x.k, .string x.s, .string x.t, .slice x1 x2 x3, .slice x4 x5 x6, .slice x7 x8 x9] 31)).alloc (.cells #[.int .i64 y.k, .string y.s, .string y.t, .slice y1 y2 y3, .slice y4 y5 y6, .slice y7 y8 y9] 31) = w5 at *
  obtain ⟨bx, hbx⟩ : ∃ c, w4.heap.size = c := ⟨_, rfl⟩
  simp only [hbx] at *
  clear hbx
  refine (drawSameProg_any v zs w5 H5.out hlen).mono ?_
  rintro e w6 ⟨u1, u2, u1', u2', rfl, ⟨p, q, ⟨hp, hq⟩, ⟨ep1, ep2⟩, eq1, eq2⟩, hl⟩
  obtain ⟨p1, p2, p3, rfl⟩ : ∃ o n c, u1 = .slice o n c := by obtain ⟨o, c, h, -⟩ := ep1.len; exact ⟨_, _, _, h⟩
  obtain ⟨p4, p5, p6, rfl⟩ : ∃ o n c, u2 = .slice o n c := by obtain ⟨o, c, h, -⟩ := ep2.len; exact ⟨_, _, _, h⟩
  obtain ⟨q1, q2, q3, rfl⟩ : ∃ o n c, u1' = .slice o n c := by obtain ⟨o, c, h, -⟩ := eq1.len; exact ⟨_, _, _, h⟩
  obtain ⟨q4, q5, q6, rfl⟩ : ∃ o n c, u2' = .slice o n c := by obtain ⟨o, c, h, -⟩ := eq2.len; exact ⟨_, _, _, h⟩
  obtain ⟨t1, t2, t3'', t4⟩ := two_boxes w6 #[.slice p1 p2 p3, .slice p4 p5 p6] #[.slice q1 q2 q3, .slice q4 q5 q6] 37 37
  have s6 := hl.size
  have L7 : Below w5.heap.size w5 ((w6.alloc (.cells #[.slice p1 p2 p3, .slice p4 p5 p6] 37)).alloc (.cells #[.slice q1 q2 q3, .slice q4 q5 q6] 37)) := hl.trans (t4.mono s6)
  have B7 := Hid.mk (B5.out.trans (L7.mono B5.out.size))
  have TA7 := Hid.mk ((L7.block ba (by omega)).trans TA5.out)
  have TB7 := Hid.mk ((L7.block (ba + 1) (by omega)).trans TB5.out)
  have TX7 := Hid.mk ((L7.block bx (by omega)).trans TX.out)
  have TY7 := Hid.mk ((L7.block (bx + 1) (by omega)).trans TY.out)
  have TP7 := Hid.mk t1
  have TQ7 := Hid.mk t2
  have HXa7 := Hid.mk (HXa5.out.growU L7)
  have HXb7 := Hid.mk (HXb5.out.growU L7)
  have HYx7 := Hid.mk (And.intro (HYx.out.1.growU L7) (And.intro (HYx.out.2.1.growU L7) (HYx.out.2.2.growU L7)))
  have HYy7 := Hid.mk (And.intro (HYy.out.1.growU L7) (And.intro (HYy.out.2.1.growU L7) (HYy.out.2.2.growU L7)))
  have HP7 := Hid.mk (And.intro (ep1.ufOf.growU t4) (ep2.ufOf.growU t4))
  have HQ7 := Hid.mk (And.intro (eq1.ufOf.growU t4) (eq2.ufOf.growU t4))
  have HZp := Hid.mk hp
  have HZq := Hid.mk hq
  clear hp hq ep1 ep2 eq1 eq2 hl t1 t2 t4 L7 TA5 TB5 TX TY HXa5 HXb5 HYx HYy B5 H5
  go_upto_region 6 with fail
  generalize (w6.alloc (.cells #[.slice p1 p2 p3, .slice p4 p5 p6] 37)).alloc (.cells #[.slice q1 q2 q3, .slice q4 q5 q6] 37) = w7 at *
  obtain ⟨bp, hbp⟩ : ∃ c, w6.heap.size = c := ⟨_, rfl⟩
  simp only [hbp] at *
  clear hbp
  have ml : ∀ {n : Nat}, n ≤ 100 → n ≤ maxLen := fun h => by unfold maxLen; omega
  obtain ⟨r1, hr1⟩ : ∃ r, sameX a b = r := ⟨_, rfl⟩
  obtain ⟨r2, hr2⟩ : ∃ r, sameS x y = r := ⟨_, rfl⟩
  obtain ⟨r3, hr3⟩ : ∃ r, sameP p q = r := ⟨_, rfl⟩
  have caa := Hid.mk (fun d os => Calls.regrown_of (w := w7) (d := d) (os := os) (implSameExpr_any a a _ _ _ (HXa7.out.growU (below_regrown w7 d os)) (HXa7.out.growU (below_regrown w7 d os)) (ml hsa) (ml hsa) HZa.out))
  have cab := Hid.mk (fun d os => Calls.regrown_of (w := w7) (d := d) (os := os) (implSameExpr_any a b _ _ _ (HXa7.out.growU (below_regrown w7 d os)) (HXb7.out.growU (below_regrown w7 d os)) (ml hsa) (ml hsb) HZb.out))
  have cba := Hid.mk (fun d os => Calls.regrown_of (w := w7) (d := d) (os := os) (implSameExpr_any b a _ _ _ (HXb7.out.growU (below_regrown w7 d os)) (HXa7.out.growU (below_regrown w7 d os)) (ml hsb) (ml hsa) HZa.out))
  have sab := Hid.mk (fun d os => Calls.regrown_of (w := w7) (d := d) (os := os) (specSameExpr_any a b _ _ _ _ _ (HXa7.out.growU (below_regrown w7 d os)) (HXb7.out.growU (below_regrown w7 d os))))
  have cxx := Hid.mk (fun d os => Calls.regrown_of (w := w7) (d := d) (os := os) (implSameStmt_any x x _ _ _ _ _ _ _ (HYx7.out.1.growU (below_regrown w7 d os)) (HYx7.out.2.1.growU (below_regrown w7 d os)) (HYx7.out.2.2.growU (below_regrown w7 d os)) (HYx7.out.1.growU (below_regrown w7 d os)) (HYx7.out.2.1.growU (below_regrown w7 d os)) (HYx7.out.2.2.growU (below_regrown w7 d os)) (ml hsx.1) (ml hsx.2) (ml hsx.1) (ml hsx.2) HZx.out))
  have cxy := Hid.mk (fun d os => Calls.regrown_of (w := w7) (d := d) (os := os) (implSameStmt_any x y _ _ _ _ _ _ _ (HYx7.out.1.growU (below_regrown w7 d os)) (HYx7.out.2.1.growU (below_regrown w7 d os)) (HYx7.out.2.2.growU (below_regrown w7 d os)) (HYy7.out.1.growU (below_regrown w7 d os)) (HYy7.out.2.1.growU (below_regrown w7 d os)) (HYy7.out.2.2.growU (below_regrown w7 d os)) (ml hsx.1) (ml hsx.2) (ml hsy.1) (ml hsy.2) HZy.out))
  have sxy := Hid.mk (fun d os => Calls.regrown_of (w := w7) (d := d) (os := os) (sameST_any x y _ _ _ _ _ _ _ _ _ (HYx7.out.1.growU (below_regrown w7 d os)) (HYx7.out.2.1.growU (below_regrown w7 d os)) (HYx7.out.2.2.growU (below_regrown w7 d os)) (HYy7.out.1.growU (below_regrown w7 d os)) (HYy7.out.2.1.growU (below_regrown w7 d os)) (HYy7.out.2.2.growU (below_regrown w7 d os))))
  have cpq := Hid.mk (fun d os => Calls.regrown_of (w := w7) (d := d) (os := os) (implSameProg_any p q _ _ _ _ _ (HP7.out.1.growU (below_regrown w7 d os)) (HP7.out.2.growU (below_regrown w7 d os)) (HQ7.out.1.growU (below_regrown w7 d os)) (HQ7.out.2.growU (below_regrown w7 d os)) HZp.out HZq.out))
  have spq := Hid.mk (fun d os => Calls.regrown_of (w := w7) (d := d) (os := os) (specSameProg_any p q _ _ _ _ _ _ _ (HP7.out.1.growU (below_regrown w7 d os)) (HP7.out.2.growU (below_regrown w7 d os)) (HQ7.out.1.growU (below_regrown w7 d os)) (HQ7.out.2.growU (below_regrown w7 d os))))
  rw [show sameX a a = true from sameX_iff.2 rfl] at caa
  rw [sameX_comm a b, hr1] at cba
  rw [hr1] at cab sab
  rw [show sameS x x = true from sameS_iff.2 rfl] at cxx
  rw [hr2] at cxy sxy
  rw [hr3] at cpq spq
  have g1 : (r1 == r1) = true := by simp
  have g2 : (r2 == r2) = true := by simp
  have g3 : (r3 == r3) = true := by simp
  clear hr1 hr2 hr3 HXa7 HXb7 HYx7 HYy7 HP7 HQ7 HZa HZb HZx HZy HZp HZq hsa hsb hsx hsy
  have ka0 := cell_regrown (w := w7) (a := ⟨ba, 0, none⟩) (v := .int .i64 a.k) (by rw [cell_of_row w7 _ _ _ _ (0, 0) TA7.out]; rfl)
  have ka1 := cell_regrown (w := w7) (a := ⟨ba, 1, none⟩) (v := .int .i64 a.n) (by rw [cell_of_row w7 _ _ _ _ (0, 0) TA7.out]; rfl)
  have ka2 := cell_regrown (w := w7) (a := ⟨ba, 2, none⟩) (v := .string a.s) (by rw [cell_of_row w7 _ _ _ _ (0, 0) TA7.out]; rfl)
  have ka3 := cell_regrown (w := w7) (a := ⟨ba, 3, none⟩) (v := .slice ao an ac) (by rw [cell_of_row w7 _ _ _ _ (0, 0) TA7.out]; rfl)
  have kb0 := cell_regrown (w := w7) (a := ⟨(ba + 1), 0, none⟩) (v := .int .i64 b.k) (by rw [cell_of_row w7 _ _ _ _ (0, 0) TB7.out]; rfl)
  have kb1 := cell_regrown (w := w7) (a := ⟨(ba + 1), 1, none⟩) (v := .int .i64 b.n) (by rw [cell_of_row w7 _ _ _ _ (0, 0) TB7.out]; rfl)
  have kb2 := cell_regrown (w := w7) (a := ⟨(ba + 1), 2, none⟩) (v := .string b.s) (by rw [cell_of_row w7 _ _ _ _ (0, 0) TB7.out]; rfl)
  have kb3 := cell_regrown (w := w7) (a := ⟨(ba + 1), 3, none⟩) (v := .slice bo bn bc) (by rw [cell_of_row w7 _ _ _ _ (0, 0) TB7.out]; rfl)
  have kx0 := cell_regrown (w := w7) (a := ⟨bx, 0, none⟩) (v := .int .i64 x.k) (by rw [cell_of_row w7 _ _ _ _ (0, 0) TX7.out]; rfl)
  have kx1 := cell_regrown (w := w7) (a := ⟨bx, 1, none⟩) (v := .string x.s) (by rw [cell_of_row w7 _ _ _ _ (0, 0) TX7.out]; rfl)
  have kx2 := cell_regrown (w := w7) (a := ⟨bx, 2, none⟩) (v := .string x.t) (by rw [cell_of_row w7 _ _ _ _ (0, 0) TX7.out]; rfl)
  have kx3 := cell_regrown (w := w7) (a := ⟨bx, 3, none⟩) (v := .slice x1 x2 x3) (by rw [cell_of_row w7 _ _ _ _ (0, 0) TX7.out]; rfl)
  have kx4 := cell_regrown (w := w7) (a := ⟨bx, 4, none⟩) (v := .slice x4 x5 x6) (by rw [cell_of_row w7 _ _ _ _ (0, 0) TX7.out]; rfl)
  have kx5 := cell_regrown (w := w7) (a := ⟨bx, 5, none⟩) (v := .slice x7 x8 x9) (by rw [cell_of_row w7 _ _ _ _ (0, 0) TX7.out]; rfl)
  have ky0 := cell_regrown (w := w7) (a := ⟨(bx + 1), 0, none⟩) (v := .int .i64 y.k) (by rw [cell_of_row w7 _ _ _ _ (0, 0) TY7.out]; rfl)
  have ky1 := cell_regrown (w := w7) (a := ⟨(bx + 1), 1, none⟩) (v := .string y.s) (by rw [cell_of_row w7 _ _ _ _ (0, 0) TY7.out]; rfl)
  have ky2 := cell_regrown (w := w7) (a := ⟨(bx + 1), 2, none⟩) (v := .string y.t) (by rw [cell_of_row w7 _ _ _ _ (0, 0) TY7.out]; rfl)
  have ky3 := cell_regrown (w := w7) (a := ⟨(bx + 1), 3, none⟩) (v := .slice y1 y2 y3) (by rw [cell_of_row w7 _ _ _ _ (0, 0) TY7.out]; rfl)
  have ky4 := cell_regrown (w := w7) (a := ⟨(bx + 1), 4, none⟩) (v := .slice y4 y5 y6) (by rw [cell_of_row w7 _ _ _ _ (0, 0) TY7.out]; rfl)
  have ky5 := cell_regrown (w := w7) (a := ⟨(bx + 1), 5, none⟩) (v := .slice y7 y8 y9) (by rw [cell_of_row w7 _ _ _ _ (0, 0) TY7.out]; rfl)
  have kp0 := cell_regrown (w := w7) (a := ⟨bp, 0, none⟩) (v := .slice p1 p2 p3) (by rw [cell_of_row w7 _ _ _ _ (0, 0) TP7.out]; rfl)
  have kp1 := cell_regrown (w := w7) (a := ⟨bp, 1, none⟩) (v := .slice p4 p5 p6) (by rw [cell_of_row w7 _ _ _ _ (0, 0) TP7.out]; rfl)
  have kq0 := cell_regrown (w := w7) (a := ⟨(bp + 1), 0, none⟩) (v := .slice q1 q2 q3) (by rw [cell_of_row w7 _ _ _ _ (0, 0) TQ7.out]; rfl)
  have kq1 := cell_regrown (w := w7) (a := ⟨(bp + 1), 1, none⟩) (v := .slice q4 q5 q6) (by rw [cell_of_row w7 _ _ _ _ (0, 0) TQ7.out]; rfl)
  clear TA7 TB7 TX7 TY7 TP7 TQ7
  go_wp2_with fail
  refine wp_region_quiet_below (by kernel_rfl) (by kernel_rfl) ?_
  quiet_step (fail)
  quiet_step (fail)
  quiet_step (exact caa.out _ _)
  quiet_step (fail)
  quiet_step (fail)
  quiet_step (fail)
  quiet_step (exact cab.out _ _)
  quiet_step (fail)
  quiet_step (fail)
  quiet_step (exact sab.out _ _)
  quiet_step (fail)
  quiet_step (fail)
  quiet_step (fail)
  quiet_step (fail)
  quiet_step (fail)
  quiet_step (exact cab.out _ _)
  quiet_step (fail)
  quiet_step (fail)
  quiet_step (exact cba.out _ _)
  quiet_step (fail)
  quiet_step (fail)
  quiet_step (fail)
  quiet_step (fail)
  quiet_step (fail)
  quiet_step (exact cxx.out _ _)
  quiet_step (fail)
  quiet_step (fail)
  quiet_step (fail)
  quiet_step (fail)
  quiet_step (exact cxy.out _ _)
  quiet_step (fail)
  quiet_step (fail)
  quiet_step (exact sxy.out _ _)
  quiet_step (fail)
  quiet_step (fail)
  quiet_step (fail)
  quiet_step (fail)
  quiet_step (fail)
  quiet_step (exact cpq.out _ _)
  quiet_step (fail)
  quiet_step (fail)
  quiet_step (exact spq.out _ _)
  quiet_step (fail)
  quiet_step (fail)
  quiet_step (fail)
  refine wpQuiet_nil ?_
  intro w8 hw'
  obtain ⟨⟨dq, osq⟩, hw''⟩ := hw'
  have hb8 : Below w7.heap.size w7 w8 := by rw [hw'']; exact below_regrown _ _ _
  have B8 := B7.out.trans (hb8.mono B7.out.size)
  clear hw'' caa cab cba sab cxx cxy sxy cpq spq hb8
  clear ka0 ka1 ka2 ka3 kb0 kb1 kb2 kb3 kx0 kx1 kx2 kx3 kx4 kx5 ky0 ky1 ky2 ky3 ky4 ky5 kp0 kp1 kq0 kq1
  go_wp2
  go_ret
  exact ⟨rfl, B8⟩

theorem fnSameTrees_walk (v : Value) (zs : List Int) (w : World) (h : Bs w v zs) :
    Calls Try.prog 3 #[v] w fun e w' => e = .returned (.bool true) ∧ Below w.heap.size w w' := by
  by_cases hlen : zs.length ≤ 1048576
  · exact fnSameTrees_small v zs w (Hid.mk h) hlen
  · have hd : decide ((1048576 : Int) < zs.length) = true := by simp; omega
    have HB := Hid.mk (big_any v zs w h)
    rw [hd] at HB
    clear hd h
    go_enter Try.func3, Try.ntmps3
    go_wp2_with fail
    refine HB.out.mono ?_
    rintro e w1 ⟨rfl, hw⟩
    obtain rfl := hw.symm
    clear hw HB
    go_wp2
    go_ret
    exact ⟨rfl, Below.refl _ _⟩
end Go.Proofs.Ytijpmnenegdmnaa
