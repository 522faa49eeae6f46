/- Rows of drawn rules: one more appended; the statements of the first one are a row that may be appended to. -/
import Derived.Test.YtijpmnenegdmnaaQPgNoN
import Derived.Test.YtijpmnenegdmnaaQPgSz
namespace Go.Proofs.Ytijpmnenegdmnaa
open Go.RowKit
set_option maxRecDepth 8000

/-- A rule with the slices that are read within. -/
structure Uv where
  r : Ru
  x : Value
  a : Value
def ruCells : List Uv → List Value
  | [] => []
  | q :: r => .int .i64 q.r.k :: .int .i64 q.r.p.k :: .int .i64 q.r.p.n :: .string q.r.p.s :: q.x :: q.a :: ruCells r
theorem ruCells_append (L M : List Uv) : ruCells (L ++ M) = ruCells L ++ ruCells M := by
  induction L with
  | nil => rfl
  | cons q r ih => simp only [List.cons_append, ruCells, ih]
theorem ruCells_at (L : List Uv) : ∀ i (h : i < L.length), (ruCells L)[i * 6]? = some (.int .i64 L[i].r.k) ∧ (ruCells L)[i * 6 + 1]? = some (.int .i64 L[i].r.p.k) ∧ (ruCells L)[i * 6 + 2]? = some (.int .i64 L[i].r.p.n) ∧ (ruCells L)[i * 6 + 3]? = some (.string L[i].r.p.s) ∧ (ruCells L)[i * 6 + 4]? = some L[i].x ∧ (ruCells L)[i * 6 + 5]? = some L[i].a := by
  induction L with
  | nil => intro i h; simp at h
  | cons q r ih =>
    intro i h
    cases i with
    | zero => simp [ruCells]
    | succ i =>
      have := ih i (by simpa using h)
      have e0 : (i + 1) * 6 = i * 6 + 6 := by omega
      simp only [ruCells, e0, List.getElem?_cons_succ, List.getElem_cons_succ]
      exact this

/-- New blocks, apart from two. -/
def dd (w : World) (base : Nat) (ob gb : Option Nat) (b : Nat) : Prop := nf w base b ∧ some b ≠ ob ∧ some b ≠ gb
theorem dd_kept {w w' : World} {base : Nat} {ob ob' gb : Option Nat} {row : Option Nat} (hg : w.grownBy w' row) (hr : ∀ g, row = some g → g < base ∨ ob = some g) (hob : ∀ b, b < w.heap.size → some b ≠ ob → some b ≠ ob') {b : Nat} (hb : dd w base ob gb b) (hlt : b < w.heap.size) : w'.heap[b]? = w.heap[b]? ∧ dd w' base ob' gb b := by
  have hh : w'.heap[b]? = w.heap[b]? := hg.block b hlt fun e => by
    rcases hr b e.symm with h | h
    · have := hb.1.1; omega
    · exact hb.2.1 h.symm
  exact ⟨hh, ⟨hb.1.1, fun o => by rw [World.frozen?_of_block (w := w) (a := ⟨b, o, none⟩) hh]; exact hb.1.2 o⟩, hob b hlt hb.2.1, hb.2.2⟩
section
variable {w w' : World} {base : Nat} {ob ob' gb : Option Nat} {row : Option Nat} (hg : w.grownBy w' row) (hr : ∀ g, row = some g → g < base ∨ ob = some g) (hob : ∀ b, b < w.heap.size → some b ≠ ob → some b ≠ ob')
include hg hr hob
theorem El.ddk {l : List Ex} {v : Value} (h : El w (dd w base ob gb) l v) : El w' (dd w' base ob' gb) l v :=
  ((h.imp (C := fun b => dd w base ob gb b ∧ b < w.heap.size) fun _ hb hlt => ⟨hb, hlt⟩).kept fun _ hb hlt => (dd_kept hg hr hob hb.1 hlt).1).imp fun _ hb _ => (dd_kept hg hr hob hb.1 hb.2).2
theorem Sl.ddk {l : List St} {v : Value} (h : Sl w (dd w base ob gb) l v) : Sl w' (dd w' base ob' gb) l v :=
  ((h.imp (C := fun b => dd w base ob gb b ∧ b < w.heap.size) fun _ hb hlt => ⟨hb, hlt⟩).kept fun _ hb hlt => (dd_kept hg hr hob hb.1 hlt).1).imp fun _ hb _ => (dd_kept hg hr hob hb.1 hb.2).2
end

/-- A rule that is only read; one whose statements are a row of their own. -/
def Rd1 (w : World) (base : Nat) (ob gb : Option Nat) (u : Uv) : Prop := El w (dd w base ob gb) u.r.p.l u.x ∧ Sl w (dd w base ob gb) u.r.a u.a ∧ u.r.p.s.size ≤ 100 ∧ u.r.sz ≤ 100000000
def RowA (w : World) (base : Nat) (ob gb : Option Nat) (l : List St) (v : Value) : Prop := ∃ M : List Yv, M.map Yv.t = l ∧ w.ownsRow base 31 6 v M.length (stCells M) ∧ (∀ k, v.ownBlock = some k → some k ≠ ob) ∧ ∀ q ∈ M, (El w (dd w base ob gb) q.t.x q.x ∧ Sl w (dd w base ob gb) q.t.a q.a ∧ Sl w (dd w base ob gb) q.t.b q.b) ∧ ShT q.t
def Rd0 (w : World) (base : Nat) (ob : Option Nat) (u : Uv) : Prop := El w (dd w base ob u.a.ownBlock) u.r.p.l u.x ∧ RowA w base ob u.a.ownBlock u.r.a u.a ∧ u.r.p.s.size ≤ 100 ∧ u.r.sz ≤ 100000000
def RdU (w : World) (base : Nat) (ob : Option Nat) : List Uv → Prop
  | [] => True
  | u0 :: us => Rd0 w base ob u0 ∧ ∀ u ∈ us, Rd1 w base ob u0.a.ownBlock u
def PgI (w : World) (base : Nat) (V : Value) (U : List Uv) : Prop := w.ownsRow base 59 6 V U.length (ruCells U) ∧ RdU w base V.ownBlock U

section
variable {w w' : World} {base : Nat} {ob ob' gb : Option Nat} {row : Option Nat} (hg : w.grownBy w' row) (hr : ∀ g, row = some g → g < base ∨ ob = some g) (hob : ∀ b, b < w.heap.size → some b ≠ ob → some b ≠ ob')
include hg hr hob
theorem Rd1.ddk {u : Uv} (h : Rd1 w base ob gb u) : Rd1 w' base ob' gb u := ⟨El.ddk hg hr hob h.1, Sl.ddk hg hr hob h.2.1, h.2.2⟩
theorem RowA.ddk {l : List St} {v : Value} (h : RowA w base ob gb l v) : RowA w' base ob' gb l v := by
  obtain ⟨M, e, h1, h2, h3⟩ := h
  refine ⟨M, e, World.ownsRow.kept h1 hg ?_, fun k hk => hob k (World.ownsRow.lt h1 k hk).2 (h2 k hk), fun q hq => ⟨⟨El.ddk hg hr hob (h3 q hq).1.1, Sl.ddk hg hr hob (h3 q hq).1.2.1, Sl.ddk hg hr hob (h3 q hq).1.2.2⟩, (h3 q hq).2⟩⟩
  cases hv : v.ownBlock with
  | none => exact .inl rfl
  | some k =>
    refine .inr fun e => ?_
    rcases hr k e.symm with h | h
    · have := (World.ownsRow.lt h1 k hv).1; omega
    · exact h2 k hv h.symm
theorem Rd0.ddk {u : Uv} (h : Rd0 w base ob u) : Rd0 w' base ob' u := ⟨El.ddk hg hr hob h.1, RowA.ddk hg hr hob h.2.1, h.2.2⟩
theorem RdU.ddk {U : List Uv} (h : RdU w base ob U) : RdU w' base ob' U := by
  cases U with
  | nil => trivial
  | cons u0 us => exact ⟨Rd0.ddk hg hr hob h.1, fun u hu => Rd1.ddk hg hr hob (h.2 u hu)⟩
end
theorem PgI.by {w w' : World} {base R : Nat} {V : Value} {U : List Uv} (h : PgI w base V U) (hg : w.grownBy w' (some R)) (hR : R < base) : PgI w' base V U := by
  refine ⟨World.ownsRow.kept h.1 hg ?_, RdU.ddk hg (fun g e => by cases e; exact .inl hR) (fun _ _ h => h) h.2⟩
  cases hv : V.ownBlock with
  | none => exact .inl rfl
  | some k => exact .inr fun e => by have := (World.ownsRow.lt h.1 k hv).1; simp at e; omega
theorem PgI.grow {w w' : World} {base : Nat} {V : Value} {U : List Uv} (h : PgI w base V U) (hb : Below w.heap.size w w') : PgI w' base V U :=
  ⟨own_grow h.1 hb, RdU.ddk (row := none) ⟨hb.os, hb.tape, hb.output, hb.size, fun k h1 _ => hb.block k h1⟩ (fun g e => by cases e) (fun _ _ h => h) h.2⟩
theorem pgI_none (w : World) (base : Nat) : PgI w base (.slice Option.none 0 0) [] := ⟨⟨rfl, .inl ⟨rfl, rfl⟩⟩, trivial⟩

/-- A rule that is made of new blocks, from n on. -/
def New0 (w : World) (n : Nat) (u : Uv) : Prop := Rd0 w n Option.none u
theorem New0.rd0 {w : World} {n base : Nat} {ob : Option Nat} {u : Uv} (h : New0 w n u) (hb : base ≤ n) (ho : ∀ k, ob = some k → k < n) : Rd0 w base ob u := by
  obtain ⟨h1, ⟨M, e, r1, -, r3⟩, h3⟩ := h
  have hi : ∀ b, dd w n Option.none u.a.ownBlock b → dd w base ob u.a.ownBlock b := fun b hb' => ⟨⟨by have := hb'.1.1; omega, hb'.1.2⟩, fun e => by have := ho b e.symm; have := hb'.1.1; omega, hb'.2.2⟩
  refine ⟨h1.imp fun b hb' _ => hi b hb', ⟨M, e, ⟨r1.1, r1.2.imp id fun ⟨g, cap, cur, e, hg, r⟩ => ⟨g, cap, cur, e, Nat.le_trans hb hg, r⟩⟩, fun k hk e => by have := ho k e.symm; have := (World.ownsRow.lt r1 k hk).1; omega, fun q hq => ⟨⟨(r3 q hq).1.1.imp fun b hb' _ => hi b hb', (r3 q hq).1.2.1.imp fun b hb' _ => hi b hb', (r3 q hq).1.2.2.imp fun b hb' _ => hi b hb'⟩, (r3 q hq).2⟩⟩, h3⟩
theorem RowA.sl {w : World} {base : Nat} {ob gb : Option Nat} {l : List St} {v : Value} (h : RowA w base ob gb l v) : Sl w (fun b => nf w base b ∧ some b ≠ ob) l v := by
  obtain ⟨M, rfl, h1, h2, h3⟩ := h
  exact sl_of_row h1 (fun k hk hn => ⟨hn, h2 k hk⟩) fun q hq => ⟨⟨(h3 q hq).1.1.imp fun _ hb _ => ⟨hb.1, hb.2.1⟩, (h3 q hq).1.2.1.imp fun _ hb _ => ⟨hb.1, hb.2.1⟩, (h3 q hq).1.2.2.imp fun _ hb _ => ⟨hb.1, hb.2.1⟩⟩, (h3 q hq).2.sizes⟩
theorem New0.rd1 {w : World} {n base : Nat} {ob gb : Option Nat} {u : Uv} (h : New0 w n u) (hb : base ≤ n) (ho : ∀ k, ob = some k → k < n) (hgb : ∀ k, gb = some k → k < n) : Rd1 w base ob gb u := by
  have hi : ∀ b, nf w n b → dd w base ob gb b := fun b hb' => ⟨⟨by have := hb'.1; omega, hb'.2⟩, fun e => by have := ho b e.symm; have := hb'.1; omega, fun e => by have := hgb b e.symm; have := hb'.1; omega⟩
  exact ⟨h.1.imp fun b hb' _ => hi b hb'.1, h.2.1.sl.imp fun b hb' _ => hi b hb'.1, h.2.2⟩

theorem ul_of_row {w : World} {base : Nat} {v : Value} {L : List Uv} {D : Nat → Prop} (hr : w.ownsRow base 59 6 v L.length (ruCells L)) (hD : ∀ k, v.ownBlock = some k → nf w base k → D k) (hok : ∀ u ∈ L, El w D u.r.p.l u.x ∧ Sl w D u.r.a u.a ∧ u.r.p.s.size ≤ 100) : Ul w D (L.map Uv.r) v := by
  have hlen : (L.map Uv.r).length = L.length := by simp
  rcases id hr.2 with ⟨rfl, h0⟩ | ⟨g, cap, cur, rfl, hb, hg, hc, hm, -⟩
  · obtain rfl := List.length_eq_zero_iff.1 h0
    exact Ul.zero _ _
  · have hcell := hr.cells (g := g) rfl
    have hd : ∀ i (h : i < L.length), (L.getD i ⟨⟨0, .node 0 0 ⟨#[]⟩ [], []⟩, undef, undef⟩) = L[i] := fun i h => by simp [List.getD_eq_getElem?_getD, h]
    refine ⟨_, cap, by rw [hlen], by rw [hlen]; exact hc, hm, fun h => (by cases h), fun hne => ⟨g, 0, fun i => (L.getD i ⟨⟨0, .node 0 0 ⟨#[]⟩ [], []⟩, undef, undef⟩).x, fun i => (L.getD i ⟨⟨0, .node 0 0 ⟨#[]⟩ [], []⟩, undef, undef⟩).a, rfl, hD g rfl ⟨hb, fun o => frozen_of_row w g o _ _ hg⟩, fun i h => ?_⟩⟩
    rw [hlen] at h
    obtain ⟨s0, s1, s2, s3, s4, s5⟩ := ruCells_at L i h
    have r0 := hcell _ _ s0
    have r1 := hcell _ _ s1
    have r2 := hcell _ _ s2
    have r3 := hcell _ _ s3
    have r4 := hcell _ _ s4
    have r5 := hcell _ _ s5
    simp only [Addr.add_lit] at r0 r1 r2 r3 r4 r5
    obtain ⟨k1, k2, k3⟩ := hok _ (List.getElem_mem h)
    simp only [List.getElem_map, hd i h]
    exact ⟨⟨r0, r1, r2, r3, r4, r5⟩, k1, k2, by unfold maxLen; omega⟩
theorem PgI.ul {w : World} {base : Nat} {V : Value} {U : List Uv} (h : PgI w base V U) : Ul w (nf w base) (U.map Uv.r) V := by
  refine ul_of_row h.1 (fun k _ hn => hn) fun u hu => ?_
  obtain ⟨-, h2⟩ := h
  cases U with
  | nil => cases hu
  | cons u0 us =>
    rcases List.mem_cons.1 hu with rfl | hu
    · exact ⟨h2.1.1.imp fun _ hb _ => hb.1, h2.1.2.1.sl.imp fun _ hb _ => hb.1, h2.1.2.2.1⟩
    · exact ⟨(h2.2 u hu).1.imp fun _ hb _ => hb.1, (h2.2 u hu).2.1.imp fun _ hb _ => hb.1, (h2.2 u hu).2.2.1⟩
theorem PgI.szs {w : World} {base : Nat} {V : Value} {U : List Uv} (h : PgI w base V U) : ∀ u ∈ U, u.r.sz ≤ 100000000 := by
  intro u hu
  obtain ⟨-, h2⟩ := h
  cases U with
  | nil => cases hu
  | cons u0 us =>
    rcases List.mem_cons.1 hu with rfl | hu
    · exact h2.1.2.2.2
    · exact (h2.2 u hu).2.2.2
theorem PgI.gb {w : World} {base : Nat} {V : Value} {U : List Uv} (h : PgI w base V U) : ∀ u0 ∈ U.head?, ∀ k, u0.a.ownBlock = some k → k < w.heap.size := by
  obtain ⟨-, h2⟩ := h
  cases U with
  | nil => intro u0 h; cases h
  | cons u us =>
    intro u0 h k hk
    cases h
    obtain ⟨-, ⟨M, -, r1, -⟩, -⟩ := h2.1
    exact (World.ownsRow.lt r1 k hk).2

/-- One rule more, all of whose blocks lie from n on. -/
theorem wp_append_u {w : World} {o : Oper} {a : Act} {K : Act → World → Prop} {Q : Exit → Act → World → Prop} (s x : Operand)
    (ho : o.op = .call { callee := .builtin .append, args := #[s, x], argTypes := #[34, 34] })
    (base n : Nat) (v : Value) (L : List Uv) (q : Uv) (hs : a.eval s = v) (hown : PgI w base v L) (lb : Nat) (hx : a.eval x = .slice (some ⟨lb, 0, none⟩) 1 1)
    (hc : w.heap[lb]? = some (.cells #[.int .i64 q.r.k, .int .i64 q.r.p.k, .int .i64 q.r.p.n, .string q.r.p.s, q.x, q.a] 59 (0, 0)))
    (hq : New0 w n q) (hn : base ≤ n) (hrow : ∀ k, v.ownBlock = some k → k < n) (hgb : ∀ u0 ∈ L.head?, ∀ k, u0.a.ownBlock = some k → k < n) (hbase : base ≤ w.heap.size) (hlen : L.length ≤ 1000)
    (h : ∀ v' w', PgI w' base v' (L ++ [q]) → w.grownBy w' v.ownBlock → K (a.put o.dst v') w') :
    o.wp Try.prog a w K Q := by
  obtain ⟨i0, hi, hz0, hz1, hz2⟩ := info_parts (show (Try.prog.info? 59).map (fun i => (i.zero, i.size, i.bytes)) = some (some (.agg #[.int .i64 0, .int .i64 0, .int .i64 0, .string ByteArray.empty, .slice none 0 0, .slice none 0 0]), 6, 88) by kernel_rfl)
  have hones : ∀ u ∈ ruCells [q], u.oneCell' = true := by
    intro u hu
    obtain ⟨_, _, e1, -⟩ := hq.1.len
    obtain ⟨_, _, e2, -⟩ := hq.2.1.sl.len
    simp only [ruCells, List.mem_cons, List.not_mem_nil, or_false] at hu
    rcases hu with rfl | rfl | rfl | rfl | rfl | rfl
    · rfl
    · rfl
    · rfl
    · rfl
    · rw [e1]; simp [Value.oneCell']
    · rw [e2]; simp [Value.oneCell']
  have hnews : ∀ j u, (ruCells [q])[j]? = some u → w.cell? ((⟨lb, 0, none⟩ : Addr).add j) = some u := by
    intro j u hu
    rw [Addr.add_lit, Nat.zero_add, cell_of_row w lb j _ _ (0, 0) hc]
    simpa [ruCells] using hu
  obtain ⟨v', w', hr, hown', hgr, -, hv⟩ := run_append_own_at (P := Try.prog) w base 34 o.type 59 i0 _ 6 88 Try.underlying34 hi hz0 hz1 hz2 rfl (by decide) v L.length (ruCells L) hown.1 ⟨lb, 0, none⟩ 1 1 (ruCells [q]) rfl hnews hones (by unfold maxLen; omega) (by omega) hbase
  unfold Oper.wp execOp
  simp only [ho, resolve, invoke, builtin, Sem.run_bind, Sem.run_pure, Result.andThen_ok, List.map_toArray, List.map_cons, List.map_nil, hs, hx, hr]
  have hob : ∀ b, b < w.heap.size → some b ≠ v.ownBlock → some b ≠ v'.ownBlock := by
    intro b hb h1
    rcases hv with hv | hv
    · rw [hv]; exact h1
    · rw [hv]; intro e; simp at e; omega
  have hr2 : ∀ g, v.ownBlock = some g → g < base ∨ v.ownBlock = some g := fun g e => .inr e
  refine h v' w' ⟨?_, ?_⟩ hgr
  · rw [ruCells_append, List.length_append]
    exact hown'
  · have hU := RdU.ddk hgr hr2 hob hown.2
    cases L with
    | nil => exact ⟨Rd0.ddk hgr hr2 hob (hq.rd0 hn hrow), by simp⟩
    | cons u0 us =>
      refine ⟨hU.1, fun u hu => ?_⟩
      rcases List.mem_append.1 hu with hu | hu
      · exact hU.2 u hu
      · obtain rfl : u = q := by simpa using hu
        exact Rd1.ddk hgr hr2 hob (hq.rd1 hn hrow (hgb u0 rfl))
theorem wpList_append_u {w : World} {ops : Array Oper} {rest : List Oper} {o : Oper} {a : Act} {Q : Exit → Act → World → Prop} (hgd : o.guard = none) (s x : Operand)
    (ho : o.op = .call { callee := .builtin .append, args := #[s, x], argTypes := #[34, 34] })
    (base n : Nat) (v : Value) (L : List Uv) (q : Uv) (hs : a.eval s = v) (hown : PgI w base v L) (lb : Nat) (hx : a.eval x = .slice (some ⟨lb, 0, none⟩) 1 1)
    (hc : w.heap[lb]? = some (.cells #[.int .i64 q.r.k, .int .i64 q.r.p.k, .int .i64 q.r.p.n, .string q.r.p.s, q.x, q.a] 59 (0, 0)))
    (hq : New0 w n q) (hn : base ≤ n) (hrow : ∀ k, v.ownBlock = some k → k < n) (hgb : ∀ u0 ∈ L.head?, ∀ k, u0.a.ownBlock = some k → k < n) (hbase : base ≤ w.heap.size) (hlen : L.length ≤ 1000)
    (h : ∀ v' w', PgI w' base v' (L ++ [q]) → w.grownBy w' v.ownBlock → wpList Try.prog ops Q rest (a.put o.dst v') w') :
    wpList Try.prog ops Q (o :: rest) a w := by
  refine wpList_plain hgd fun K hK => ?_
  exact wp_append_u s x ho base n v L q hs hown lb hx hc hq hn hrow hgb hbase hlen fun v' w' h1 h2 => hK _ _ (h v' w' h1 h2)
end Go.Proofs.Ytijpmnenegdmnaa
