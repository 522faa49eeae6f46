/- Rows of drawn statements: one more appended, read as a list. -/
import Derived.Test.YtijpmnenegdmnaaQExAnyD
import Derived.Test.YtijpmnenegdmnaaQStTo
namespace Go.Proofs.Ytijpmnenegdmnaa
open Go.RowKit
set_option maxRecDepth 8000

/-- A statement within a statement. -/
inductive InSt : St → St → Prop
  | self (t : St) : InSt t t
  | inA {x y t : St} (h : y ∈ t.a) (hx : InSt x y) : InSt x t
  | inB {x y t : St} (h : y ∈ t.b) (hx : InSt x y) : InSt x t
/-- The texts within are short, and there are not many parts: as many as m levels may have. -/
def DyS (m : Nat) (t : St) : Prop := (∀ y, InSt y t → y.s.size ≤ 100 ∧ y.t.size ≤ 100 ∧ ∀ e ∈ y.x, ∀ x, InX x e → x.s.size ≤ 100) ∧ t.sz ≤ 110000 * 8 ^ m
theorem DyS.mono {m m' : Nat} {t : St} (h : DyS m t) (hm : m ≤ m') : DyS m' t := ⟨h.1, Nat.le_trans h.2 (Nat.mul_le_mul_left _ (Nat.pow_le_pow_right (by omega) hm))⟩
theorem szy_le {m : Nat} {l : List St} (hl : ∀ x ∈ l, DyS m x) : szy l ≤ l.length * (1 + 110000 * 8 ^ m) := by
  induction l with
  | nil => simp [szy]
  | cons x l ih =>
    have h1 := (hl x (by simp)).2
    have h2 := ih fun y hy => hl y (List.mem_cons_of_mem _ hy)
    simp only [szy, List.length_cons, Nat.add_mul, Nat.one_mul]
    rw [Nat.add_comm (l.length * _)] at *
    omega
/-- Two terms of three levels, lists of three statements each. -/
theorem DyS.node {m : Nat} {k : Int} {s t : ByteArray} {x : List Ex} {a b : List St} (hs : s.size ≤ 100) (ht : t.size ≤ 100) (hx : ∀ e ∈ x, DxS 3 e) (hxl : x.length ≤ 2) (ha : ∀ y ∈ a, DyS m y) (hb : ∀ y ∈ b, DyS m y) (hal : a.length ≤ 3) (hbl : b.length ≤ 3) : DyS (m + 1) (.node k s t x a b) := by
  refine ⟨fun y hy => ?_, ?_⟩
  · cases hy with
    | self => exact ⟨hs, ht, fun e he => (hx e he).1⟩
    | inA h hy => exact (ha _ h).1 y hy
    | inB h hy => exact (hb _ h).1 y hy
  · have h1 := szx_le hx
    have h2 : x.length * (1 + 400 * 5 ^ 3) ≤ 2 * (1 + 400 * 5 ^ 3) := Nat.mul_le_mul_right _ hxl
    have h3 := szy_le ha
    have h4 := szy_le hb
    have h5 : a.length * (1 + 110000 * 8 ^ m) ≤ 3 * (1 + 110000 * 8 ^ m) := Nat.mul_le_mul_right _ hal
    have h6 : b.length * (1 + 110000 * 8 ^ m) ≤ 3 * (1 + 110000 * 8 ^ m) := Nat.mul_le_mul_right _ hbl
    have h7 : 1 ≤ 8 ^ m := Nat.one_le_pow _ _ (by omega)
    rw [St.sz, Nat.pow_succ]
    omega
theorem DyS.leaf {k : Int} {s t : ByteArray} {x : List Ex} (hs : s.size ≤ 100) (ht : t.size ≤ 100) (hx : ∀ e ∈ x, DxS 3 e) (hxl : x.length ≤ 2) : DyS 0 (.node k s t x [] []) := by
  refine ⟨fun y hy => ?_, ?_⟩
  · cases hy with
    | self => exact ⟨hs, ht, fun e he => (hx e he).1⟩
    | inA h hy => cases h
    | inB h hy => cases h
  · have h1 := szx_le hx
    have h2 : x.length * (1 + 400 * 5 ^ 3) ≤ 2 * (1 + 400 * 5 ^ 3) := Nat.mul_le_mul_right _ hxl
    rw [St.sz]
    simp only [szy]
    omega

/-- A statement with the slices that are read within. -/
structure Yv where
  t : St
  x : Value
  a : Value
  b : Value
def stCells : List Yv → List Value
  | [] => []
  | q :: r => .int .i64 q.t.k :: .string q.t.s :: .string q.t.t :: q.x :: q.a :: q.b :: stCells r
theorem stCells_length (L : List Yv) : (stCells L).length = L.length * 6 := by
  induction L with
  | nil => rfl
  | cons q r ih => simp only [stCells, List.length_cons, ih]; omega
theorem stCells_append (L M : List Yv) : stCells (L ++ M) = stCells L ++ stCells M := by
  induction L with
  | nil => rfl
  | cons q r ih => simp only [List.cons_append, stCells, ih]
theorem stCells_at (L : List Yv) : ∀ i (h : i < L.length), (stCells L)[i * 6]? = some (.int .i64 L[i].t.k) ∧ (stCells L)[i * 6 + 1]? = some (.string L[i].t.s) ∧ (stCells L)[i * 6 + 2]? = some (.string L[i].t.t) ∧ (stCells L)[i * 6 + 3]? = some L[i].x ∧ (stCells L)[i * 6 + 4]? = some L[i].a ∧ (stCells L)[i * 6 + 5]? = some L[i].b := by
  induction L with
  | nil => intro i h; simp at h
  | cons q r ih =>
    intro i h
    cases i with
    | zero => simp [stCells]
    | succ i =>
      have := ih i (by simpa using h)
      have e0 : (i + 1) * 6 = i * 6 + 6 := by omega
      simp only [stCells, e0, List.getElem?_cons_succ, List.getElem_cons_succ]
      exact this

theorem Sl.nfOwn {w w' : World} {base : Nat} {ob ob' : Option Nat} {l : List St} {v : Value} (h : Sl w (fun b => nf w base b ∧ some b ≠ ob) l v) (hk : ∀ b, nf w base b → some b ≠ ob → b < w.heap.size → w'.heap[b]? = w.heap[b]? ∧ some b ≠ ob') : Sl w' (fun b => nf w' base b ∧ some b ≠ ob') l v := by
  refine ((h.imp (C := fun b => (nf w base b ∧ some b ≠ ob) ∧ b < w.heap.size) fun b hb hlt => ⟨hb, hlt⟩).kept fun b hb hlt => (hk b hb.1.1 hb.1.2 hlt).1).imp fun b hb _ => ⟨⟨hb.1.1.1, fun o => ?_⟩, (hk b hb.1.1 hb.1.2 hb.2).2⟩
  rw [World.frozen?_of_block (w := w) (a := ⟨b, o, none⟩) (hk b hb.1.1 hb.1.2 hb.2).1]
  exact hb.1.1.2 o
/-- What is read within a drawn statement, apart from a block. -/
def YRd (w : World) (n : Nat) (ob : Option Nat) (q : Yv) : Prop := El w (fun b => nf w n b ∧ some b ≠ ob) q.t.x q.x ∧ Sl w (fun b => nf w n b ∧ some b ≠ ob) q.t.a q.a ∧ Sl w (fun b => nf w n b ∧ some b ≠ ob) q.t.b q.b
theorem YRd.kept {w w' : World} {n : Nat} {ob ob' : Option Nat} {q : Yv} (h : YRd w n ob q) (hk : ∀ b, nf w n b → some b ≠ ob → b < w.heap.size → w'.heap[b]? = w.heap[b]? ∧ some b ≠ ob') : YRd w' n ob' q := ⟨h.1.nfOwn hk, h.2.1.nfOwn hk, h.2.2.nfOwn hk⟩

/-- A row of drawn statements, of the call's own from base on; what is within lies from base on, too, and not in the row. -/
def OwnY (m : Nat) (w : World) (base : Nat) (v : Value) (L : List Yv) : Prop :=
  w.ownsRow base 31 6 v L.length (stCells L) ∧ ∀ q ∈ L, YRd w base v.ownBlock q ∧ DyS m q.t

theorem DyS.sizes {m : Nat} {t : St} (h : DyS m t) : t.s.size ≤ 100 ∧ t.t.size ≤ 100 := ⟨(h.1 t (.self t)).1, (h.1 t (.self t)).2.1⟩
theorem OwnY.sl {m : Nat} {w : World} {base : Nat} {v : Value} {L : List Yv} (h : OwnY m w base v L) : Sl w (nf w base) (L.map Yv.t) v ∧ ∀ t ∈ L.map Yv.t, DyS m t := by
  obtain ⟨h, hok⟩ := h
  refine ⟨?_, fun t ht => by obtain ⟨q, hq, rfl⟩ := List.mem_map.1 ht; exact (hok q hq).2⟩
  by_cases hl : L = []
  · subst hl
    rcases h.2 with ⟨rfl, -⟩ | ⟨g, cap, cur, rfl, -, -, -, hm, -⟩
    · exact .empty Option.none 0 (by simp) fun _ => rfl
    · exact .empty _ _ hm fun h => by cases h
  · rcases id h.2 with ⟨-, h0⟩ | ⟨g, cap, cur, rfl, hb, hg, hc, hm, -⟩
    · exact absurd (List.length_eq_zero_iff.1 h0) hl
    · have hlen : (L.map Yv.t).length = L.length := by simp
      have hcell := h.cells (g := g) rfl
      have hd : ∀ i (h : i < L.length), (L.getD i ⟨.node 0 ⟨#[]⟩ ⟨#[]⟩ [] [] [], undef, undef, undef⟩) = L[i] := fun i h => by simp [List.getD_eq_getElem?_getD, h]
      have := Sl.full (w := w) (B := nf w base) (L.map Yv.t) g 0 cap (fun i => (L.getD i ⟨.node 0 ⟨#[]⟩ ⟨#[]⟩ [] [] [], undef, undef, undef⟩).x) (fun i => (L.getD i ⟨.node 0 ⟨#[]⟩ ⟨#[]⟩ [] [] [], undef, undef, undef⟩).a) (fun i => (L.getD i ⟨.node 0 ⟨#[]⟩ ⟨#[]⟩ [] [] [], undef, undef, undef⟩).b)
        ⟨hb, fun o => frozen_of_row w g o _ _ hg⟩ (by simpa using hl) (by rw [hlen]; exact hc) hm
        (fun i h => by rw [hlen] at h; have := (hok _ (List.getElem_mem h)).2.sizes; simp only [List.getElem_map]; unfold maxLen; omega)
        (fun i h => by
          rw [hlen] at h
          obtain ⟨s0, s1, s2, s3, s4, s5⟩ := stCells_at L i h
          have r0 := hcell _ _ s0
          have r1 := hcell _ _ s1
          have r2 := hcell _ _ s2
          have r3 := hcell _ _ s3
          have r4 := hcell _ _ s4
          have r5 := hcell _ _ s5
          simp only [Addr.add_lit] at r0 r1 r2 r3 r4 r5
          simp only [List.getElem_map, hd i h]
          exact ⟨r0, r1, r2, r3, r4, r5⟩)
        (fun i h => by rw [hlen] at h; simp only [List.getElem_map, hd i h]; exact (hok _ (List.getElem_mem h)).1.1.imp fun b hb _ => hb.1)
        (fun i h => by rw [hlen] at h; simp only [List.getElem_map, hd i h]; exact (hok _ (List.getElem_mem h)).1.2.1.imp fun b hb _ => hb.1)
        (fun i h => by rw [hlen] at h; simp only [List.getElem_map, hd i h]; exact (hok _ (List.getElem_mem h)).1.2.2.imp fun b hb _ => hb.1)
      rwa [hlen] at this

theorem OwnY.by {m : Nat} {w w' : World} {base R : Nat} {v : Value} {L : List Yv} (h : OwnY m w base v L) (hg : w.grownBy w' (some R)) (hR : R < base) : OwnY m w' base v L := by
  refine ⟨World.ownsRow.kept h.1 hg ?_, fun q hq => ⟨(h.2 q hq).1.kept fun b hb hn hlt => ⟨hg.block b hlt (by have := hb.1; rintro e; simp at e; omega), hn⟩, (h.2 q hq).2⟩⟩
  cases hv : v.ownBlock with
  | none => exact .inl rfl
  | some k => exact .inr fun e => by have := (World.ownsRow.lt h.1 k hv).1; simp at e; omega
theorem OwnY.grow {m : Nat} {w w' : World} {base : Nat} {v : Value} {L : List Yv} (h : OwnY m w base v L) (hb : Below w.heap.size w w') : OwnY m w' base v L :=
  ⟨own_grow h.1 hb, fun q hq => ⟨(h.2 q hq).1.kept fun b _ hn hlt => ⟨hb.block b hlt, hn⟩, (h.2 q hq).2⟩⟩

/-- One statement more, whose parts lie from n on, where the row lies below n. -/
theorem wp_append_y {w : World} {o : Oper} {a : Act} {K : Act → World → Prop} {Q : Exit → Act → World → Prop} (s x : Operand)
    (ho : o.op = .call { callee := .builtin .append, args := #[s, x], argTypes := #[29, 29] })
    (m base n : Nat) (v : Value) (L : List Yv) (q : Yv) (hs : a.eval s = v) (hown : OwnY m w base v L) (lb : Nat) (hx : a.eval x = .slice (some ⟨lb, 0, none⟩) 1 1)
    (hc : w.heap[lb]? = some (.cells #[.int .i64 q.t.k, .string q.t.s, .string q.t.t, q.x, q.a, q.b] 31 (0, 0)))
    (hqx : El w (nf w n) q.t.x q.x) (hqa : Sl w (nf w n) q.t.a q.a) (hqb : Sl w (nf w n) q.t.b q.b) (hd : DyS m q.t) (hn : base ≤ n) (hrow : ∀ k, v.ownBlock = some k → k < n) (hbase : base ≤ w.heap.size) (hlen : L.length ≤ 1000)
    (h : ∀ v' w', OwnY m w' base v' (L ++ [q]) → (∃ row, (∀ g, row = some g → base ≤ g) ∧ w.grownBy w' row) → K (a.put o.dst v') w') :
    o.wp Try.prog a w K Q := by
  obtain ⟨i0, hi, hz0, hz1, hz2⟩ := info_parts (show (Try.prog.info? 31).map (fun i => (i.zero, i.size, i.bytes)) = some (some (.agg #[.int .i64 0, .string ByteArray.empty, .string ByteArray.empty, .slice none 0 0, .slice none 0 0, .slice none 0 0]), 6, 112) by kernel_rfl)
  have hones : ∀ u ∈ stCells [q], u.oneCell' = true := by
    intro u hu
    obtain ⟨_, _, e1, -⟩ := hqx.len
    obtain ⟨_, _, e2, -⟩ := hqa.len
    obtain ⟨_, _, e3, -⟩ := hqb.len
    simp only [stCells, List.mem_cons, List.not_mem_nil, or_false] at hu
    rcases hu with rfl | rfl | rfl | rfl | rfl | rfl
    · rfl
    · rfl
    · rfl
    · rw [e1]; simp [Value.oneCell']
    · rw [e2]; simp [Value.oneCell']
    · rw [e3]; simp [Value.oneCell']
  have hnews : ∀ j u, (stCells [q])[j]? = some u → w.cell? ((⟨lb, 0, none⟩ : Addr).add j) = some u := by
    intro j u hu
    rw [Addr.add_lit, Nat.zero_add, cell_of_row w lb j _ _ (0, 0) hc]
    simpa [stCells] using hu
  obtain ⟨v', w', hr, hown', hgr, -, hv⟩ := run_append_own_at (P := Try.prog) w base 29 o.type 31 i0 _ 6 112 Try.underlying29 hi hz0 hz1 hz2 rfl (by decide) v L.length (stCells L) hown.1 ⟨lb, 0, none⟩ 1 1 (stCells [q]) rfl hnews hones (by unfold maxLen; omega) (by omega) hbase
  unfold Oper.wp execOp
  simp only [ho, resolve, invoke, builtin, Sem.run_bind, Sem.run_pure, Result.andThen_ok, List.map_toArray, List.map_cons, List.map_nil, hs, hx, hr]
  have hrow' : ∀ k, v.ownBlock = some k → base ≤ k := fun k hk => (World.ownsRow.lt hown.1 k hk).1
  refine h v' w' ⟨?_, fun p hp => ?_⟩ ⟨v.ownBlock, hrow', hgr⟩
  · rw [stCells_append, List.length_append]
    exact hown'
  · have hne : ∀ b, b < w.heap.size → some b ≠ v.ownBlock → some b ≠ v'.ownBlock := by
      intro b hb h1
      rcases hv with hv | hv
      · rw [hv]; exact h1
      · rw [hv]; intro e; simp at e; omega
    rcases List.mem_append.1 hp with hp | hp
    · obtain ⟨h1, h2⟩ := hown.2 p hp
      exact ⟨h1.kept fun b _ hn hlt => ⟨hgr.block b hlt hn, hne b hlt hn⟩, h2⟩
    · obtain rfl : p = q := by simpa using hp
      have hnb : ∀ b, nf w n b → some b ≠ v.ownBlock := by
        intro b hb e
        have := hrow b e.symm
        have := hb.1
        omega
      have hC : ∀ b, nf w n b → nf w base b ∧ some b ≠ v.ownBlock := fun b hb => ⟨⟨by have := hb.1; omega, hb.2⟩, hnb b hb⟩
      exact ⟨YRd.kept ⟨hqx.imp fun b hb _ => hC b hb, hqa.imp fun b hb _ => hC b hb, hqb.imp fun b hb _ => hC b hb⟩ fun b _ hn hlt => ⟨hgr.block b hlt hn, hne b hlt hn⟩, hd⟩
end Go.Proofs.Ytijpmnenegdmnaa
