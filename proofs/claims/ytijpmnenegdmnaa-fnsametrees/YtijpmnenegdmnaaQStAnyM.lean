/- What is wanted to bend a drawn statement: sizes, rows that are appended to, a box that is stored over. -/
import Derived.Test.YtijpmnenegdmnaaQStBoxD
import Derived.Test.YtijpmnenegdmnaaQExAnyD
namespace Go.Proofs.Ytijpmnenegdmnaa
open Go.RowKit
set_option maxRecDepth 8000

/-- The texts within are short. -/
def ShT (t : St) : Prop := ∀ y, InSt y t → y.s.size ≤ 100 ∧ y.t.size ≤ 100 ∧ ∀ e ∈ y.x, ∀ x, InX x e → x.s.size ≤ 100
/-- .. and there is not much in all. -/
def DyN (c : Nat) (t : St) : Prop := ShT t ∧ t.sz ≤ c
theorem DyS.n {m c : Nat} {t : St} (h : DyS m t) (hc : 110000 * 8 ^ m ≤ c) : DyN c t := ⟨h.1, Nat.le_trans h.2 hc⟩
theorem DyN.mono {c c' : Nat} {t : St} (h : DyN c t) (hc : c ≤ c') : DyN c' t := ⟨h.1, Nat.le_trans h.2 hc⟩
theorem ShT.sizes {t : St} (h : ShT t) : t.s.size ≤ 100 ∧ t.t.size ≤ 100 := ⟨(h t (.self t)).1, (h t (.self t)).2.1⟩
theorem DyN.mk {c : Nat} {k : Int} {s t : ByteArray} {x : List Ex} {a b : List St} (hs : s.size ≤ 100) (ht : t.size ≤ 100) (hx : ∀ e ∈ x, ∀ y, InX y e → y.s.size ≤ 100) (ha : ∀ y ∈ a, ShT y) (hb : ∀ y ∈ b, ShT y) (hz : 200 + szx x + szy a + szy b ≤ c) : DyN c (.node k s t x a b) := by
  refine ⟨fun y hy => ?_, by rw [St.sz]; omega⟩
  cases hy with
  | self => exact ⟨hs, ht, hx⟩
  | inA h hy => exact ha _ h y hy
  | inB h hy => exact hb _ h y hy
theorem ShT.x {t : St} (h : ShT t) : ∀ e ∈ t.x, ∀ y, InX y e → y.s.size ≤ 100 := (h t (.self t)).2.2
theorem ShT.a {t : St} (h : ShT t) : ∀ y ∈ t.a, ShT y := fun _ hy z hz => h z (.inA hy hz)
theorem ShT.b {t : St} (h : ShT t) : ∀ y ∈ t.b, ShT y := fun _ hy z hz => h z (.inB hy hz)
theorem DyN.re {c : Nat} {t : St} {k : Int} {s u : ByteArray} (h : DyN c t) (hs : s.size ≤ 100) (hu : u.size ≤ 100) : DyN (c + 200) (.node k s u t.x t.a t.b) := by
  refine DyN.mk hs hu h.1.x h.1.a h.1.b ?_
  have := h.2
  rw [t.sz_eq] at this
  omega
theorem szx_app (l m : List Ex) : szx (l ++ m) = szx l + szx m := by
  induction l with
  | nil => simp [szx]
  | cons x l ih => simp only [List.cons_append, szx, ih]; omega
theorem szy_app (l m : List St) : szy (l ++ m) = szy l + szy m := by
  induction l with
  | nil => simp [szy]
  | cons x l ih => simp only [List.cons_append, szy, ih]; omega
theorem DyN.addX {c m : Nat} {t : St} {e : Ex} (h : DyN c t) (he : DxS m e) : DyN (c + 201 + 400 * 5 ^ m) (.node t.k t.s t.t (t.x ++ [e]) t.a t.b) := by
  refine DyN.mk h.1.sizes.1 h.1.sizes.2 (fun x hx => ?_) h.1.a h.1.b ?_
  · rcases List.mem_append.1 hx with hx | hx
    · exact h.1.x x hx
    · obtain rfl := List.mem_singleton.1 hx
      exact he.1
  · have := h.2
    have := he.2
    rw [t.sz_eq] at *
    rw [szx_app]
    simp only [szx]
    omega
theorem DyN.addA {c m : Nat} {t y : St} (h : DyN c t) (he : DyS m y) : DyN (c + 201 + 110000 * 8 ^ m) (.node t.k t.s t.t t.x (t.a ++ [y]) t.b) := by
  have h1 := h.2
  have h2 := he.2
  rw [t.sz_eq] at h1
  refine DyN.mk h.1.sizes.1 h.1.sizes.2 h.1.x (fun x hx => ?_) h.1.b ?_
  · rcases List.mem_append.1 hx with hx | hx
    · exact h.1.a x hx
    · obtain rfl := List.mem_singleton.1 hx
      exact he.1
  · rw [szy_app]
    simp only [szy]
    omega
theorem DyN.wrap {c : Nat} {t : St} (h : DyN c t) : DyN (c + 210) (.node 6 ⟨#[]⟩ ⟨#[]⟩ [.node 1 0 ⟨#[]⟩ []] [t] []) := by
  have h1 := h.2
  refine DyN.mk (by decide) (by decide) (fun e he y hy => ?_) (fun y hy => ?_) (by simp) ?_
  · obtain rfl := List.mem_singleton.1 he
    cases hy with
    | self => exact (by decide : (⟨#[]⟩ : ByteArray).size ≤ 100)
    | sub hm _ => cases hm
  · obtain rfl := List.mem_singleton.1 hy
    exact h.1
  · simp only [szx, szy, Ex.sz, show (⟨#[]⟩ : ByteArray).size = 0 from rfl]
    omega

theorem el_of_row {w : World} {base : Nat} {v : Value} {L : List Xv} {D : Nat → Prop} (hr : w.ownsRow base 26 4 v L.length (exCells L)) (hD : ∀ k, v.ownBlock = some k → nf w base k → D k) (hok : ∀ q ∈ L, El w D q.1.l q.2 ∧ q.1.s.size ≤ 100) : El w D (L.map (·.1)) v := by
  by_cases hl : L = []
  · subst hl
    rcases hr.2 with ⟨rfl, -⟩ | ⟨g, cap, cur, rfl, -, -, -, hm, -⟩
    · exact .empty Option.none 0 (by simp) fun _ => rfl
    · exact .empty _ _ hm fun h => by cases h
  · rcases id hr.2 with ⟨-, h0⟩ | ⟨g, cap, cur, rfl, hb, hg, hc, hm, -⟩
    · exact absurd (List.length_eq_zero_iff.1 h0) hl
    · have hlen : (L.map (·.1)).length = L.length := by simp
      have hcell := hr.cells (g := g) rfl
      have hd : ∀ i (h : i < L.length), (L.getD i (.node 0 0 ⟨#[]⟩ [], undef)) = L[i] := fun i h => by simp [List.getD_eq_getElem?_getD, h]
      have := El.full (w := w) (B := D) (L.map (·.1)) g 0 cap (fun i => (L.getD i (.node 0 0 ⟨#[]⟩ [], undef)).2)
        (hD g rfl ⟨hb, fun o => frozen_of_row w g o _ _ hg⟩) (by simpa using hl) (by rw [hlen]; exact hc) hm
        (fun i h => by rw [hlen] at h; have := (hok _ (List.getElem_mem h)).2; simp only [List.getElem_map]; unfold maxLen; omega)
        (fun i h => by
          rw [hlen] at h
          obtain ⟨s0, s1, s2, s3⟩ := exCells_at L i h
          have r0 := hcell _ _ s0
          have r1 := hcell _ _ s1
          have r2 := hcell _ _ s2
          have r3 := hcell _ _ s3
          simp only [Addr.add_lit] at r0 r1 r2 r3
          simp only [List.getElem_map, hd i h]
          exact ⟨r0, r1, r2, r3⟩)
        (fun i h => by rw [hlen] at h; simp only [List.getElem_map, hd i h]; exact (hok _ (List.getElem_mem h)).1)
      rwa [hlen] at this
theorem sl_of_row {w : World} {base : Nat} {v : Value} {L : List Yv} {D : Nat → Prop} (hr : w.ownsRow base 31 6 v L.length (stCells L)) (hD : ∀ k, v.ownBlock = some k → nf w base k → D k) (hok : ∀ q ∈ L, (El w D q.t.x q.x ∧ Sl w D q.t.a q.a ∧ Sl w D q.t.b q.b) ∧ q.t.s.size ≤ 100 ∧ q.t.t.size ≤ 100) : Sl w D (L.map Yv.t) v := by
  by_cases hl : L = []
  · subst hl
    rcases hr.2 with ⟨rfl, -⟩ | ⟨g, cap, cur, rfl, -, -, -, hm, -⟩
    · exact .empty Option.none 0 (by simp) fun _ => rfl
    · exact .empty _ _ hm fun h => by cases h
  · rcases id hr.2 with ⟨-, h0⟩ | ⟨g, cap, cur, rfl, hb, hg, hc, hm, -⟩
    · exact absurd (List.length_eq_zero_iff.1 h0) hl
    · have hlen : (L.map Yv.t).length = L.length := by simp
      have hcell := hr.cells (g := g) rfl
      have hd : ∀ i (h : i < L.length), (L.getD i ⟨.node 0 ⟨#[]⟩ ⟨#[]⟩ [] [] [], undef, undef, undef⟩) = L[i] := fun i h => by simp [List.getD_eq_getElem?_getD, h]
      have := Sl.full (w := w) (B := D) (L.map Yv.t) g 0 cap (fun i => (L.getD i ⟨.node 0 ⟨#[]⟩ ⟨#[]⟩ [] [] [], undef, undef, undef⟩).x) (fun i => (L.getD i ⟨.node 0 ⟨#[]⟩ ⟨#[]⟩ [] [] [], undef, undef, undef⟩).a) (fun i => (L.getD i ⟨.node 0 ⟨#[]⟩ ⟨#[]⟩ [] [] [], undef, undef, undef⟩).b)
        (hD g rfl ⟨hb, fun o => frozen_of_row w g o _ _ hg⟩) (by simpa using hl) (by rw [hlen]; exact hc) hm
        (fun i h => by rw [hlen] at h; have := (hok _ (List.getElem_mem h)).2; simp only [List.getElem_map]; unfold maxLen; omega)
        (fun i h => by
          rw [hlen] at h
          obtain ⟨s0, s1, s2, s3, s4, s5⟩ := stCells_at L i h
          have r0 := hcell _ _ s0
          have r1 := hcell _ _ s1
          have r2 := hcell _ _ s2
          have r3 := hcell _ _ s3
          have r4 := hcell _ _ s4
          have r5 := hcell _ _ s5
          simp only [Addr.add_lit] at r0 r1 r2 r3 r4 r5
          simp only [List.getElem_map, hd i h]
          exact ⟨r0, r1, r2, r3, r4, r5⟩)
        (fun i h => by rw [hlen] at h; simp only [List.getElem_map, hd i h]; exact (hok _ (List.getElem_mem h)).1.1)
        (fun i h => by rw [hlen] at h; simp only [List.getElem_map, hd i h]; exact (hok _ (List.getElem_mem h)).1.2.1)
        (fun i h => by rw [hlen] at h; simp only [List.getElem_map, hd i h]; exact (hok _ (List.getElem_mem h)).1.2.2)
      rwa [hlen] at this

/-- What is in new blocks and not in two. -/
theorem nfo_kept {w w' : World} {base eb : Nat} {ob : Option Nat} (hg : w.grownBy w' ob) {b : Nat} (hb : (nf w base b ∧ some b ≠ some eb) ∧ some b ≠ ob) (hlt : b < w.heap.size) : nf w' base b ∧ some b ≠ some eb :=
  ⟨⟨hb.1.1.1, fun o => by rw [World.frozen?_of_block (w := w) (a := ⟨b, o, none⟩) (hg.block b hlt hb.2)]; exact hb.1.1.2 o⟩, hb.1.2⟩
theorem El.nfo {w w' : World} {base eb : Nat} {ob : Option Nat} {l : List Ex} {v : Value} (h : El w (fun b => (nf w base b ∧ some b ≠ some eb) ∧ some b ≠ ob) l v) (hg : w.grownBy w' ob) : El w' (fun b => nf w' base b ∧ some b ≠ some eb) l v :=
  ((h.imp (C := fun b => ((nf w base b ∧ some b ≠ some eb) ∧ some b ≠ ob) ∧ b < w.heap.size) fun _ hb hlt => ⟨hb, hlt⟩).kept fun b hb hlt => hg.block b hlt hb.1.2).imp fun _ hb _ => nfo_kept hg hb.1 hb.2
theorem Sl.nfo {w w' : World} {base eb : Nat} {ob : Option Nat} {l : List St} {v : Value} (h : Sl w (fun b => (nf w base b ∧ some b ≠ some eb) ∧ some b ≠ ob) l v) (hg : w.grownBy w' ob) : Sl w' (fun b => nf w' base b ∧ some b ≠ some eb) l v :=
  ((h.imp (C := fun b => ((nf w base b ∧ some b ≠ some eb) ∧ some b ≠ ob) ∧ b < w.heap.size) fun _ hb hlt => ⟨hb, hlt⟩).kept fun b hb hlt => hg.block b hlt hb.1.2).imp fun _ hb _ => nfo_kept hg hb.1 hb.2

/-- One term more behind a row; a box eb stays out of it. -/
theorem wp_append_xe {w : World} {o : Oper} {a : Act} {K : Act → World → Prop} {Q : Exit → Act → World → Prop} (s x : Operand)
    (ho : o.op = .call { callee := .builtin .append, args := #[s, x], argTypes := #[24, 24] })
    (base n eb : Nat) (v : Value) (L : List Xv) (t : Ex) (u : Value) (hs : a.eval s = v) (hown : w.ownsRow base 26 4 v L.length (exCells L))
    (hels : ∀ q ∈ L, El w (fun b => (nf w base b ∧ some b ≠ some eb) ∧ some b ≠ v.ownBlock) q.1.l q.2 ∧ q.1.s.size ≤ 100) (heb : ∀ k, v.ownBlock = some k → k ≠ eb) (hlt : eb < w.heap.size)
    (lb : Nat) (hx : a.eval x = .slice (some ⟨lb, 0, none⟩) 1 1)
    (hc : w.heap[lb]? = some (.cells #[.int .i64 t.k, .int .i64 t.n, .string t.s, u] 26 (0, 0)))
    (ht : El w (nf w n) t.l u) (hts : t.s.size ≤ 100) (hn : base ≤ n) (hen : eb < n) (hrow : ∀ k, v.ownBlock = some k → k < n) (hbase : base ≤ w.heap.size) (hlen : L.length ≤ 1000000000)
    (h : ∀ v' w', El w' (fun b => nf w' base b ∧ some b ≠ some eb) (L.map (·.1) ++ [t]) v' → w.grownBy w' v.ownBlock → K (a.put o.dst v') w') :
    o.wp Try.prog a w K Q := by
  obtain ⟨i0, hi, hz0, hz1, hz2⟩ := info_parts infoExpr
  have hu : u.oneCell' = true := by obtain ⟨_, _, e, -⟩ := ht.len; rw [e]; simp [Value.oneCell']
  have hones : ∀ q ∈ exCells [(t, u)], q.oneCell' = true := by
    intro q hq
    simp only [exCells, List.mem_cons, List.not_mem_nil, or_false] at hq
    rcases hq with rfl | rfl | rfl | rfl
    · rfl
    · rfl
    · rfl
    · exact hu
  have hnews : ∀ j q, (exCells [(t, u)])[j]? = some q → w.cell? ((⟨lb, 0, none⟩ : Addr).add j) = some q := by
    intro j q hq
    rw [Addr.add_lit, Nat.zero_add, cell_of_row w lb j _ _ (0, 0) hc]
    simpa [exCells] using hq
  obtain ⟨v', w', hr, hown', hgr, -, hv⟩ := run_append_own_at (P := Try.prog) w base 24 o.type 26 i0 _ 4 56 Try.underlying24 hi hz0 hz1 hz2 rfl (by decide) v L.length (exCells L) hown ⟨lb, 0, none⟩ 1 1 (exCells [(t, u)]) rfl hnews hones (by unfold maxLen; omega) (by omega) hbase
  unfold Oper.wp execOp
  simp only [ho, resolve, invoke, builtin, Sem.run_bind, Sem.run_pure, Result.andThen_ok, List.map_toArray, List.map_cons, List.map_nil, hs, hx, hr]
  refine h v' w' ?_ hgr
  have hown2 : w'.ownsRow base 26 4 v' (L ++ [(t, u)]).length (exCells (L ++ [(t, u)])) := by
    rw [exCells_append, List.length_append]
    exact hown'
  have := el_of_row (D := fun b => nf w' base b ∧ some b ≠ some eb) hown2 (fun k hk hnf => ⟨hnf, by
      rcases hv with hv | hv
      · have := heb k (hv ▸ hk); simpa using this
      · rw [hv] at hk; simp at hk; simp; omega⟩) (fun q hq => by
      rcases List.mem_append.1 hq with hq | hq
      · exact ⟨(hels q hq).1.nfo hgr, (hels q hq).2⟩
      · obtain rfl : q = (t, u) := by simpa using hq
        exact ⟨El.nfo (ht.imp fun b hb _ => ⟨⟨⟨by have := hb.1; omega, hb.2⟩, by have := hb.1; simp; omega⟩, fun e => by have := hrow b e.symm; have := hb.1; omega⟩) hgr, hts⟩)
  rw [List.map_append] at this
  exact this
/-- One statement more behind a row; a box eb stays out of it. -/
theorem wp_append_ye {w : World} {o : Oper} {a : Act} {K : Act → World → Prop} {Q : Exit → Act → World → Prop} (s x : Operand)
    (ho : o.op = .call { callee := .builtin .append, args := #[s, x], argTypes := #[29, 29] })
    (base n eb : Nat) (v : Value) (L : List Yv) (q : Yv) (hs : a.eval s = v) (hown : w.ownsRow base 31 6 v L.length (stCells L))
    (hels : ∀ p ∈ L, (El w (fun b => (nf w base b ∧ some b ≠ some eb) ∧ some b ≠ v.ownBlock) p.t.x p.x ∧ Sl w (fun b => (nf w base b ∧ some b ≠ some eb) ∧ some b ≠ v.ownBlock) p.t.a p.a ∧ Sl w (fun b => (nf w base b ∧ some b ≠ some eb) ∧ some b ≠ v.ownBlock) p.t.b p.b) ∧ p.t.s.size ≤ 100 ∧ p.t.t.size ≤ 100) (heb : ∀ k, v.ownBlock = some k → k ≠ eb) (hlt : eb < w.heap.size)
    (lb : Nat) (hx : a.eval x = .slice (some ⟨lb, 0, none⟩) 1 1)
    (hc : w.heap[lb]? = some (.cells #[.int .i64 q.t.k, .string q.t.s, .string q.t.t, q.x, q.a, q.b] 31 (0, 0)))
    (hqx : El w (nf w n) q.t.x q.x) (hqa : Sl w (nf w n) q.t.a q.a) (hqb : Sl w (nf w n) q.t.b q.b) (hqs : q.t.s.size ≤ 100 ∧ q.t.t.size ≤ 100) (hn : base ≤ n) (hen : eb < n) (hrow : ∀ k, v.ownBlock = some k → k < n) (hbase : base ≤ w.heap.size) (hlen : L.length ≤ 1000000000)
    (h : ∀ v' w', Sl w' (fun b => nf w' base b ∧ some b ≠ some eb) (L.map Yv.t ++ [q.t]) v' → w.grownBy w' v.ownBlock → K (a.put o.dst v') w') :
    o.wp Try.prog a w K Q := by
  obtain ⟨i0, hi, hz0, hz1, hz2⟩ := info_parts (show (Try.prog.info? 31).map (fun i => (i.zero, i.size, i.bytes)) = some (some (.agg #[.int .i64 0, .string ByteArray.empty, .string ByteArray.empty, .slice none 0 0, .slice none 0 0, .slice none 0 0]), 6, 112) by kernel_rfl)
  have hones : ∀ u ∈ stCells [q], u.oneCell' = true := by
    intro u hu
    obtain ⟨_, _, e1, -⟩ := hqx.len
    obtain ⟨_, _, e2, -⟩ := hqa.len
    obtain ⟨_, _, e3, -⟩ := hqb.len
    simp only [stCells, List.mem_cons, List.not_mem_nil, or_false] at hu
    rcases hu with rfl | rfl | rfl | rfl | rfl | rfl
    · rfl
    · rfl
    · rfl
    · rw [e1]; simp [Value.oneCell']
    · rw [e2]; simp [Value.oneCell']
    · rw [e3]; simp [Value.oneCell']
  have hnews : ∀ j u, (stCells [q])[j]? = some u → w.cell? ((⟨lb, 0, none⟩ : Addr).add j) = some u := by
    intro j u hu
    rw [Addr.add_lit, Nat.zero_add, cell_of_row w lb j _ _ (0, 0) hc]
    simpa [stCells] using hu
  obtain ⟨v', w', hr, hown', hgr, -, hv⟩ := run_append_own_at (P := Try.prog) w base 29 o.type 31 i0 _ 6 112 Try.underlying29 hi hz0 hz1 hz2 rfl (by decide) v L.length (stCells L) hown ⟨lb, 0, none⟩ 1 1 (stCells [q]) rfl hnews hones (by unfold maxLen; omega) (by omega) hbase
  unfold Oper.wp execOp
  simp only [ho, resolve, invoke, builtin, Sem.run_bind, Sem.run_pure, Result.andThen_ok, List.map_toArray, List.map_cons, List.map_nil, hs, hx, hr]
  refine h v' w' ?_ hgr
  have hown2 : w'.ownsRow base 31 6 v' (L ++ [q]).length (stCells (L ++ [q])) := by
    rw [stCells_append, List.length_append]
    exact hown'
  have hC : ∀ b, nf w n b → b < w.heap.size → (nf w base b ∧ some b ≠ some eb) ∧ some b ≠ v.ownBlock := fun b hb _ => ⟨⟨⟨by have := hb.1; omega, hb.2⟩, by have := hb.1; simp; omega⟩, fun e => by have := hrow b e.symm; have := hb.1; omega⟩
  have := sl_of_row (D := fun b => nf w' base b ∧ some b ≠ some eb) hown2 (fun k hk hnf => ⟨hnf, by
      rcases hv with hv | hv
      · have := heb k (hv ▸ hk); simpa using this
      · rw [hv] at hk; simp at hk; simp; omega⟩) (fun p hp => by
      rcases List.mem_append.1 hp with hp | hp
      · exact ⟨⟨(hels p hp).1.1.nfo hgr, (hels p hp).1.2.1.nfo hgr, (hels p hp).1.2.2.nfo hgr⟩, (hels p hp).2⟩
      · obtain rfl : p = q := by simpa using hp
        exact ⟨⟨El.nfo (hqx.imp hC) hgr, Sl.nfo (hqa.imp hC) hgr, Sl.nfo (hqb.imp hC) hgr⟩, hqs⟩)
  rw [List.map_append] at this
  exact this

/-- A statement that is held by its parts, none of them in the box eb. -/
theorem Yq.rd {d : Nat} {w : World} {n0 n1 n2 n3 eb : Nat} {q : Yv} (h : Yq d w n0 n1 n2 n3 q) (he : n3 ≤ eb) : YRd w n0 (some eb) q := by
  obtain ⟨h1, ⟨a, b, c, e⟩, ⟨L, e2, o2, l2, r2⟩, ⟨M, e3, o3, l3, r3⟩, h4⟩ := h
  refine ⟨?_, ?_, Sl.imp h4 fun _ hb _ => ⟨⟨by have := hb.1.1; omega, hb.1.2⟩, by have := hb.2.1; simp; omega⟩⟩
  · rw [← e2]
    exact el_of_row o2 (fun k hk hnf => ⟨hnf, by have := l2 k hk; simp; omega⟩) fun q hq => ⟨(r2 q hq).1.imp fun _ hb _ => ⟨hb.1, by have := hb.2.1; simp; omega⟩, (r2 q hq).2.size⟩
  · rw [← e3]
    have hi : ∀ b, bd w n1 n2 q.a.ownBlock b → nf w n0 b ∧ some b ≠ some eb := fun _ hb => ⟨⟨by have := hb.1.1; omega, hb.1.2⟩, by have := hb.2.1; simp; omega⟩
    exact sl_of_row o3 (fun k hk hnf => ⟨⟨by have := hnf.1; omega, hnf.2⟩, by have := l3 k hk; simp; omega⟩) fun q hq => ⟨⟨(r3 q hq).1.1.imp fun b hb _ => hi b hb, (r3 q hq).1.2.1.imp fun b hb _ => hi b hb, (r3 q hq).1.2.2.imp fun b hb _ => hi b hb⟩, (r3 q hq).2.sizes⟩
theorem YRd.by {w w' : World} {n eb : Nat} {R : Nat} {q : Yv} (h : YRd w n (some eb) q) (hg : w.grownBy w' (some R)) (hR : R < n ∨ R = eb) : YRd w' n (some eb) q :=
  h.kept fun b hb hn hlt => ⟨hg.block b hlt (by have := hb.1; intro e; simp at e; simp at hn; omega), hn⟩
theorem YRd.grow {w w' : World} {n eb : Nat} {q : Yv} (h : YRd w n (some eb) q) (hg : Below w.heap.size w w') : YRd w' n (some eb) q := h.kept fun b _ hn hlt => ⟨hg.block b hlt, hn⟩
theorem Sl.aloneD {w : World} {D : Nat → Prop} {a : St} {x y z : Value} {g : Nat} (hg : w.heap[g]? = some (.cells #[.int .i64 a.k, .string a.s, .string a.t, x, y, z] 31 (0, 0))) (hD : D g) (hs : a.s.size ≤ 100) (ht : a.t.size ≤ 100) (hx : El w D a.x x) (hy : Sl w D a.a y) (hz : Sl w D a.b z) : Sl w D [a] (.slice (some ⟨g, 0, none⟩) 1 1) := by
  have := Sl.full (w := w) (B := D) [a] g 0 1 (fun _ => x) (fun _ => y) (fun _ => z) hD (by simp) (by simp) (by unfold maxLen; omega) (fun i h => by
      have h0 : i = 0 := by simpa using h
      subst h0
      exact ⟨by simp only [List.getElem_cons_zero]; unfold maxLen; omega, by simp only [List.getElem_cons_zero]; unfold maxLen; omega⟩)
    (fun i h => by
      have h0 : i = 0 := by simpa using h
      subst h0
      refine ⟨?_, ?_, ?_, ?_, ?_, ?_⟩ <;> (rw [cell_of_row w _ _ _ _ (0, 0) hg]; rfl))
    (fun i h => by
      have h0 : i = 0 := by simpa using h
      subst h0
      exact hx)
    (fun i h => by
      have h0 : i = 0 := by simpa using h
      subst h0
      exact hy)
    (fun i h => by
      have h0 : i = 0 := by simpa using h
      subst h0
      exact hz)
  exact this
theorem Bz6.put0 {w : World} {b : Nat} {x y z u p q : Value} (h : Bz6 w b x y z u p q) (x' : Value) : Bz6 (w.setCell ⟨b, 0, none⟩ x') b x' y z u p q := by
  unfold Bz6 at *
  rw [heap_setCell_same w b 0 _ _ x' h]; rfl
theorem Bz6.six {w : World} {b : Nat} {x y z u p q : Value} (h : Bz6 w b x y z u p q) (x' y' z' u' p' q' : Value) : Bz6 (box6 w b x' y' z' u' p' q') b x' y' z' u' p' q' := (((((h.put0 x').put1 y').put2 z').put3 u').put4 p').put5 q'
theorem szx_len (l : List Ex) : l.length ≤ szx l := by
  induction l with
  | nil => simp
  | cons x l ih => simp only [List.length_cons, szx]; omega
theorem szy_len (l : List St) : l.length ≤ szy l := by
  induction l with
  | nil => simp
  | cons x l ih => simp only [List.length_cons, szy]; omega
theorem YRd.none {w : World} {n : Nat} {ob : Option Nat} {q : Yv} (h : YRd w n ob q) : YRd w n Option.none q := ⟨h.1.imp fun _ hb _ => ⟨hb.1, by simp⟩, h.2.1.imp fun _ hb _ => ⟨hb.1, by simp⟩, h.2.2.imp fun _ hb _ => ⟨hb.1, by simp⟩⟩
theorem Yq.base {d : Nat} {w : World} {n0 n0' n1 n2 n3 : Nat} {q : Yv} (h : Yq d w n0 n1 n2 n3 q) (hb : n0' ≤ n0) : Yq d w n0' n1 n2 n3 q := ⟨h.1, ⟨by have := h.2.1; omega, h.2.1.2⟩, h.2.2.1.base hb, h.2.2.2⟩
/-- The row of terms, to be appended to. -/
theorem Yq.rowX {d : Nat} {w : World} {n0 n1 n2 n3 eb : Nat} {q : Yv} (h : Yq d w n0 n1 n2 n3 q) (he : n3 ≤ eb) : ∃ L : List Xv, L.map (·.1) = q.t.x ∧ w.ownsRow n0 26 4 q.x L.length (exCells L) ∧
    (∀ p ∈ L, El w (fun b => (nf w n0 b ∧ some b ≠ some eb) ∧ some b ≠ q.x.ownBlock) p.1.l p.2 ∧ p.1.s.size ≤ 100) ∧ (∀ k, q.x.ownBlock = some k → n0 ≤ k ∧ k < n1) ∧ L.length ≤ 110000 * 8 ^ d := by
  obtain ⟨h1, ⟨a, b, c, e⟩, ⟨L, e2, o2, l2, r2⟩, -, -⟩ := h
  refine ⟨L, e2, o2, fun p hp => ⟨(r2 p hp).1.imp fun _ hb _ => ⟨⟨hb.1, by have := hb.2.1; simp; omega⟩, hb.2.2⟩, (r2 p hp).2.size⟩, fun k hk => ⟨(World.ownsRow.lt o2 k hk).1, l2 k hk⟩, ?_⟩
  have h3 := h1.2
  have h4 := szx_len q.t.x
  rw [q.t.sz_eq] at h3
  rw [← e2, List.length_map] at h4
  rw [← e2] at h3
  omega
/-- The row of statements, to be appended to. -/
theorem Yq.rowA {d : Nat} {w : World} {n0 n1 n2 n3 eb : Nat} {q : Yv} (h : Yq d w n0 n1 n2 n3 q) (he : n3 ≤ eb) : ∃ M : List Yv, M.map Yv.t = q.t.a ∧ w.ownsRow n1 31 6 q.a M.length (stCells M) ∧
    (∀ p ∈ M, (El w (fun b => (nf w n1 b ∧ some b ≠ some eb) ∧ some b ≠ q.a.ownBlock) p.t.x p.x ∧ Sl w (fun b => (nf w n1 b ∧ some b ≠ some eb) ∧ some b ≠ q.a.ownBlock) p.t.a p.a ∧ Sl w (fun b => (nf w n1 b ∧ some b ≠ some eb) ∧ some b ≠ q.a.ownBlock) p.t.b p.b) ∧ p.t.s.size ≤ 100 ∧ p.t.t.size ≤ 100) ∧ (∀ k, q.a.ownBlock = some k → n1 ≤ k ∧ k < n2) ∧ M.length ≤ 110000 * 8 ^ d := by
  obtain ⟨h1, ⟨a, b, c, e⟩, -, ⟨M, e3, o3, l3, r3⟩, -⟩ := h
  have hi : ∀ b, bd w n1 n2 q.a.ownBlock b → (nf w n1 b ∧ some b ≠ some eb) ∧ some b ≠ q.a.ownBlock := fun _ hb => ⟨⟨hb.1, by have := hb.2.1; simp; omega⟩, hb.2.2⟩
  refine ⟨M, e3, o3, fun p hp => ⟨⟨(r3 p hp).1.1.imp fun b hb _ => hi b hb, (r3 p hp).1.2.1.imp fun b hb _ => hi b hb, (r3 p hp).1.2.2.imp fun b hb _ => hi b hb⟩, (r3 p hp).2.sizes⟩, fun k hk => ⟨(World.ownsRow.lt o3 k hk).1, l3 k hk⟩, ?_⟩
  have h3 := h1.2
  have h4 := szy_len q.t.a
  rw [q.t.sz_eq] at h3
  rw [← e3, List.length_map] at h4
  rw [← e3] at h3
  omega
/-- Behind an append to the row of terms: the rest. -/
theorem Yq.pastX {d : Nat} {w w' : World} {n0 n1 n2 n3 eb : Nat} {q : Yv} (h : Yq d w n0 n1 n2 n3 q) (he : n3 ≤ eb) (hg : w.grownBy w' q.x.ownBlock) {k : Int} {s t : ByteArray} {x : List Ex} {u : Value} (hx : El w' (fun b => nf w' n0 b ∧ some b ≠ some eb) x u) : YRd w' n0 (some eb) ⟨.node k s t x q.t.a q.t.b, u, q.a, q.b⟩ := by
  obtain ⟨h1, ⟨a, b, c, e⟩, ⟨L, e2, o2, l2, r2⟩, ha, hb⟩ := h
  have hz := hg.size
  have hr : ∀ g, q.x.ownBlock = some g → g < n1 := l2
  have h0 : Yq d w' n1 n1 n2 n3 ⟨.node q.t.k q.t.s q.t.t [] q.t.a q.t.b, .slice Option.none 0 0, q.a, q.b⟩ := ⟨⟨fun y hy => by
      cases hy with
      | self => exact ⟨(h1.1 _ (.self _)).1, (h1.1 _ (.self _)).2.1, by simp [St.x]⟩
      | inA h hy => exact h1.1 _ (.inA h hy)
      | inB h hy => exact h1.1 _ (.inB h hy), by have := h1.2; rw [q.t.sz_eq] at this; simp only [St.sz, szx]; omega⟩, ⟨Nat.le_refl _, b, c, by omega⟩, ⟨[], rfl, ⟨rfl, .inl ⟨rfl, rfl⟩⟩, fun k h => by simp [Value.ownBlock] at h, by simp⟩, ha.keep hg fun g e => .inl (hr g e), hb.keep hg fun g e => .inl (by have := hr g e; omega)⟩
  have h2 := h0.rd he
  exact ⟨hx, h2.2.1.imp fun _ hb _ => ⟨⟨by have := hb.1.1; omega, hb.1.2⟩, hb.2⟩, h2.2.2.imp fun _ hb _ => ⟨⟨by have := hb.1.1; omega, hb.1.2⟩, hb.2⟩⟩
/-- Behind an append to the row of statements: the rest. -/
theorem Yq.pastA {d : Nat} {w w' : World} {n0 n1 n2 n3 eb : Nat} {q : Yv} (h : Yq d w n0 n1 n2 n3 q) (he : n3 ≤ eb) (hg : w.grownBy w' q.a.ownBlock) {k : Int} {s t : ByteArray} {x : List St} {u : Value} (hx : Sl w' (fun b => nf w' n1 b ∧ some b ≠ some eb) x u) : YRd w' n0 (some eb) ⟨.node k s t q.t.x x q.t.b, q.x, u, q.b⟩ := by
  obtain ⟨h1, ⟨a, b, c, e⟩, hX, ⟨M, e3, o3, l3, r3⟩, hb⟩ := h
  have hz := hg.size
  have hr : ∀ g, q.a.ownBlock = some g → n1 ≤ g ∧ g < n2 := fun k hk => ⟨(World.ownsRow.lt o3 k hk).1, l3 k hk⟩
  have h0 : Yq d w' n0 n1 n2 n3 ⟨.node q.t.k q.t.s q.t.t q.t.x [] q.t.b, q.x, .slice Option.none 0 0, q.b⟩ := ⟨⟨fun y hy => by
      cases hy with
      | self => exact ⟨(h1.1 _ (.self _)).1, (h1.1 _ (.self _)).2.1, (h1.1 _ (.self _)).2.2⟩
      | inA h hy => cases h
      | inB h hy => exact h1.1 _ (.inB h hy), by have := h1.2; rw [q.t.sz_eq] at this; simp only [St.sz, szy]; omega⟩, ⟨a, b, c, by omega⟩, hX.keep hg fun g e => .inr (hr g e).1, YB.zero _ _ _ _, hb.keep hg fun g e => .inl (hr g e).2⟩
  have h2 := h0.rd he
  exact ⟨h2.1, hx.imp fun _ hb _ => ⟨⟨by have := hb.1.1; omega, hb.1.2⟩, hb.2⟩, h2.2.2⟩
theorem drewB (B : Nat) (w : World) : Below B w w.drew := Below.drewSelf _ _ 1
end Go.Proofs.Ytijpmnenegdmnaa
