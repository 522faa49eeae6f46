/- What is wanted to bend a drawn program: the first rule's parts stored over, a program that is read. -/
import Derived.Test.YtijpmnenegdmnaaQPgDrawD
import Derived.Test.YtijpmnenegdmnaaQOrdF
namespace Go.Proofs.Ytijpmnenegdmnaa
open Go.RowKit
set_option maxRecDepth 8000

theorem Ul.bnd {w w' : World} {n0 n1 : Nat} {ob : Option Nat} {l : List Ru} {v : Value} (h : Ul w (bd w n0 n1 ob) l v) (hk : ∀ b, n0 ≤ b → b < n1 → b < w.heap.size → w'.heap[b]? = w.heap[b]?) : Ul w' (bd w' n0 n1 ob) l v :=
  ((h.imp (C := fun b => bd w n0 n1 ob b ∧ b < w.heap.size) fun _ hb hlt => ⟨hb, hlt⟩).kept fun b hb hlt => hk b hb.1.1.1 hb.1.2.1 hlt).imp fun _ hb _ => bd_kept hk hb.1 hb.2
theorem Fl.bnd {w w' : World} {n0 n1 : Nat} {ob : Option Nat} {l : List Fu} {v : Value} (h : Fl w (bd w n0 n1 ob) l v) (hk : ∀ b, n0 ≤ b → b < n1 → b < w.heap.size → w'.heap[b]? = w.heap[b]?) : Fl w' (bd w' n0 n1 ob) l v :=
  ((h.imp (C := fun b => bd w n0 n1 ob b ∧ b < w.heap.size) fun _ hb hlt => ⟨hb, hlt⟩).kept fun b hb hlt => hk b hb.1.1.1 hb.1.2.1 hlt).imp fun _ hb _ => bd_kept hk hb.1 hb.2
theorem gsz_le {α : Type} {g : α → Nat} {c : Nat} {l : List α} (h : ∀ x ∈ l, g x ≤ c) : gsz g l ≤ l.length * (1 + c) := by
  induction l with
  | nil => simp [gsz]
  | cons x l ih =>
    have h1 := h x (by simp)
    have h2 := ih fun y hy => h y (List.mem_cons_of_mem _ hy)
    simp only [gsz, List.length_cons, Nat.add_mul, Nat.one_mul] at *
    omega

theorem fl_take {w : World} {B : Nat → Prop} {l : List Fu} {o : Option Addr} {n cap : Nat} (h : Fl w B l (.slice o n cap)) (k : Nat) (hk : k ≤ l.length) : Fl w B (l.take k) (.slice o k cap) := by
  obtain ⟨ao, cap', e, h2, h3, h4, h5⟩ := h
  cases e
  have hl : (l.take k).length = k := by simp; omega
  refine ⟨o, cap, by rw [hl], by omega, h3, h4, fun hn => ?_⟩
  obtain ⟨b, off, X, Y, e, hb, hc⟩ := h5 (by intro e; subst e; simp at hn)
  refine ⟨b, off, X, Y, e, hb, fun i hi => ?_⟩
  have := hc i (by omega)
  rw [List.getElem_take]
  exact this
/-- A program that is read, of new blocks. -/
def PgR (w : World) (base : Nat) (V fv : Value) : Prop := ∃ p : Pg, Ul w (nf w base) p.r V ∧ Fl w (nf w base) p.f fv ∧ p.sz ≤ 34359738368
theorem pgR_of {w : World} {base : Nat} {R : List Ru} {F : List Fu} {V fv : Value} (hu : Ul w (nf w base) R V) (hf : Fl w (nf w base) F fv) (hr : ∀ r ∈ R, r.sz ≤ 1000000000) (hs : ∀ f ∈ F, f.sz ≤ 1000000000) (hR : R.length ≤ 3) (hF : F.length ≤ 3) : PgR w base V fv := by
  refine ⟨⟨R, F⟩, hu, hf, ?_⟩
  have h1 := gsz_le hr
  have h2 := gsz_le hs
  have h3 : R.length * (1 + 1000000000) ≤ 3 * (1 + 1000000000) := Nat.mul_le_mul_right _ hR
  have h4 : F.length * (1 + 1000000000) ≤ 3 * (1 + 1000000000) := Nat.mul_le_mul_right _ hF
  simp only [Pg.sz]
  omega
theorem PgR.keep {w w' : World} {base R : Nat} {V fv : Value} (h : PgR w base V fv) (hg : w.grownBy w' (some R)) (hR : R < base) : PgR w' base V fv := by
  obtain ⟨p, hu, hf, hz⟩ := h
  have hk : ∀ b, nf w base b → b < w.heap.size → w'.heap[b]? = w.heap[b]? := fun b hb hlt => hg.block b hlt (by have := hb.1; intro e; simp at e; omega)
  have hi : ∀ b, nf w base b ∧ b < w.heap.size → nf w' base b := fun b hb => ⟨hb.1.1, fun o => by rw [World.frozen?_of_block (w := w) (a := ⟨b, o, none⟩) (hk b hb.1 hb.2)]; exact hb.1.2 o⟩
  exact ⟨p, ((hu.imp (C := fun b => nf w base b ∧ b < w.heap.size) fun _ hb hlt => ⟨hb, hlt⟩).kept fun b hb hlt => hk b hb.1 hlt).imp fun b hb _ => hi b hb, ((hf.imp (C := fun b => nf w base b ∧ b < w.heap.size) fun _ hb hlt => ⟨hb, hlt⟩).kept fun b hb hlt => hk b hb.1 hlt).imp fun b hb _ => hi b hb, hz⟩
theorem PgD.pgR {w : World} {base : Nat} {V fv : Value} (h : PgD w base V fv) : ∃ p : Pg, Ul w (nf w base) p.r V ∧ Fl w (nf w base) p.f fv ∧ gsz Ru.sz p.r ≤ 1000000000 := by
  obtain ⟨U, F, n0, n1, h0, h1, hF, hI, -, hU, -⟩ := h
  refine ⟨⟨U.map Uv.r, F.map Fv.f⟩, hI.ul.imp fun _ hb _ => ⟨by have := hb.1; omega, hb.2⟩, hF.fl.imp fun _ hb _ => hb.1, ?_⟩
  have h2 := gsz_le (g := Ru.sz) (c := 100000000) (l := U.map Uv.r) fun r hr => by obtain ⟨u, hu, rfl⟩ := List.mem_map.1 hr; exact hI.szs u hu
  have h3 : (U.map Uv.r).length * (1 + 100000000) ≤ 3 * (1 + 100000000) := Nat.mul_le_mul_right _ (by simpa using hU)
  simp only at *
  omega
theorem PgR.shape {w : World} {base : Nat} {V fv : Value} (h : PgR w base V fv) : (∃ o n c, V = .slice o n c) ∧ ∃ o n c, fv = .slice o n c := by
  obtain ⟨p, hu, hf, -⟩ := h
  obtain ⟨o, c, e, -⟩ := hu.len
  obtain ⟨o', c', e', -⟩ := hf.len
  exact ⟨⟨_, _, _, e⟩, ⟨_, _, _, e'⟩⟩

theorem rd_rest {w : World} {base : Nat} {ob gb : Option Nat} {us : List Uv} (h : ∀ u ∈ us, Rd1 w base ob gb u) : ∀ u ∈ us, El w (nf w base) u.r.p.l u.x ∧ Sl w (nf w base) u.r.a u.a ∧ u.r.p.s.size ≤ 100 :=
  fun u hu => ⟨(h u hu).1.imp fun _ hb _ => hb.1, (h u hu).2.1.imp fun _ hb _ => hb.1, (h u hu).2.2.1⟩
/-- The rules, when the first one's cells hold something else. -/
theorem ul_first {w : World} {n1 g n cap : Nat} {u1 : Uv} {us : List Uv} {ob gb : Option Nat} (hr : w.ownsRow n1 59 6 (.slice (some ⟨g, 0, none⟩) n cap) (u1 :: us).length (ruCells (u1 :: us))) (hp : El w (nf w n1) u1.r.p.l u1.x) (ha : Sl w (nf w n1) u1.r.a u1.a) (hs : u1.r.p.s.size ≤ 100) (h : ∀ u ∈ us, Rd1 w n1 ob gb u) : Ul w (nf w n1) (u1.r :: us.map Uv.r) (.slice (some ⟨g, 0, none⟩) n cap) := by
  have := ul_of_row (D := nf w n1) hr (fun k _ hn => hn) fun u hu => by
    rcases List.mem_cons.1 hu with rfl | hu
    · exact ⟨hp, ha, hs⟩
    · exact rd_rest h u hu
  exact this
section
variable {w : World} {n1 g n cap : Nat} {u0 : Uv} {us : List Uv} (h : PgI w n1 (.slice (some ⟨g, 0, none⟩) n cap) (u0 :: us)) (hn : (u0 :: us).length = n)
include h hn
theorem PgI.setK (k : Int) : Ul (w.setCell ⟨g, 0, none⟩ (.int .i64 k)) (nf (w.setCell ⟨g, 0, none⟩ (.int .i64 k)) n1) (⟨k, u0.r.p, u0.r.a⟩ :: us.map Uv.r) (.slice (some ⟨g, 0, none⟩) n cap) := by
  subst hn
  obtain ⟨h1, h2⟩ := h
  obtain ⟨s1, g1⟩ := World.ownsRow.stored h1 0 (.int .i64 k)
  have h3 := RdU.ddk (ob' := some g) g1 (fun _ e => .inr e) (fun _ _ h => h) h2
  exact ul_first (u1 := ⟨⟨k, u0.r.p, u0.r.a⟩, u0.x, u0.a⟩) s1 (h3.1.1.imp fun _ hb _ => hb.1) (h3.1.2.1.sl.imp fun _ hb _ => hb.1) h3.1.2.2.1 h3.2
theorem PgI.setP {t : Ex} {u : Value} (ht : El w (fun b => nf w n1 b ∧ some b ≠ some g) t.l u) (hs : t.s.size ≤ 100) : Ul (setP w g (.int .i64 t.k) (.int .i64 t.n) (.string t.s) u) (nf (setP w g (.int .i64 t.k) (.int .i64 t.n) (.string t.s) u) n1) (⟨u0.r.k, t, u0.r.a⟩ :: us.map Uv.r) (.slice (some ⟨g, 0, none⟩) n cap) := by
  subst hn
  obtain ⟨h1, h2⟩ := h
  have s1 := (World.ownsRow.stored h1 1 (.int .i64 t.k)).1
  have s2 := (World.ownsRow.stored s1 2 (.int .i64 t.n)).1
  have s3 := (World.ownsRow.stored s2 3 (.string t.s)).1
  have s4 := (World.ownsRow.stored s3 4 u).1
  have gg := setP_by w g (.int .i64 t.k) (.int .i64 t.n) (.string t.s) u
  have h3 := RdU.ddk (ob' := some g) gg (fun _ e => .inr e) (fun _ _ h => h) h2
  have h4 : El (setP w g (.int .i64 t.k) (.int .i64 t.n) (.string t.s) u) (fun b => nf (setP w g (.int .i64 t.k) (.int .i64 t.n) (.string t.s) u) n1 b ∧ some b ≠ some g) t.l u := ht.nfOwn fun b _ hne hlt => ⟨gg.block b hlt hne, hne⟩
  exact ul_first (u1 := ⟨⟨u0.r.k, t, u0.r.a⟩, u, u0.a⟩) s4 (h4.imp fun _ hb _ => hb.1) (h3.1.2.1.sl.imp fun _ hb _ => hb.1) hs h3.2
omit hn in
/-- The row of the first rule's statements, to be appended to. -/
theorem PgI.rowA : ∃ M : List Yv, M.map Yv.t = u0.r.a ∧ w.ownsRow n1 31 6 u0.a M.length (stCells M) ∧
    (∀ p ∈ M, (El w (fun b => (nf w n1 b ∧ some b ≠ some g) ∧ some b ≠ u0.a.ownBlock) p.t.x p.x ∧ Sl w (fun b => (nf w n1 b ∧ some b ≠ some g) ∧ some b ≠ u0.a.ownBlock) p.t.a p.a ∧ Sl w (fun b => (nf w n1 b ∧ some b ≠ some g) ∧ some b ≠ u0.a.ownBlock) p.t.b p.b) ∧ p.t.s.size ≤ 100 ∧ p.t.t.size ≤ 100) ∧ (∀ k, u0.a.ownBlock = some k → n1 ≤ k ∧ k ≠ g ∧ k < w.heap.size) ∧ M.length ≤ 100000000 := by
  obtain ⟨h1, h2⟩ := h
  obtain ⟨hp, ⟨M, e, r1, r2, r3⟩, -, hz⟩ := h2.1
  have hi : ∀ b, dd w n1 (some g) u0.a.ownBlock b → (nf w n1 b ∧ some b ≠ some g) ∧ some b ≠ u0.a.ownBlock := fun _ hb => ⟨⟨hb.1, hb.2.1⟩, hb.2.2⟩
  refine ⟨M, e, r1, fun p hp => ⟨⟨(r3 p hp).1.1.imp fun b hb _ => hi b hb, (r3 p hp).1.2.1.imp fun b hb _ => hi b hb, (r3 p hp).1.2.2.imp fun b hb _ => hi b hb⟩, (r3 p hp).2.sizes⟩, fun k hk => ⟨(World.ownsRow.lt r1 k hk).1, fun e => r2 k hk (by rw [e]; rfl), (World.ownsRow.lt r1 k hk).2⟩, ?_⟩
  have h4 := szy_len u0.r.a
  rw [← e, List.length_map] at h4
  simp only [Ru.sz, ← e] at hz
  omega
/-- Behind an append to the first rule's statements, which is stored in the rule. -/
theorem PgI.setA {w' : World} (hg : w.grownBy w' u0.a.ownBlock) {l : List St} {u : Value} (hl : Sl w' (fun b => nf w' n1 b ∧ some b ≠ some g) l u) : Ul (w'.setCell ⟨g, 5, none⟩ u) (nf (w'.setCell ⟨g, 5, none⟩ u) n1) (⟨u0.r.k, u0.r.p, l⟩ :: us.map Uv.r) (.slice (some ⟨g, 0, none⟩) n cap) := by
  subst hn
  obtain ⟨h1, h2⟩ := h
  obtain ⟨⟨hp, ⟨M, e, r1, r2, r3⟩, hs, -⟩, hus⟩ := h2
  have hne : (Value.slice (some ⟨g, 0, none⟩) (u0 :: us).length cap).ownBlock ≠ u0.a.ownBlock := by
    intro e
    exact r2 g e.symm rfl
  have k1 := World.ownsRow.kept h1 hg (.inr hne)
  obtain ⟨s1, g1⟩ := World.ownsRow.stored k1 5 u
  have hk : ∀ b, dd w n1 (some g) u0.a.ownBlock b → b < w.heap.size → (w'.setCell ⟨g, 5, none⟩ u).heap[b]? = w.heap[b]? := fun b hb hlt => (g1.block b (Nat.lt_of_lt_of_le hlt hg.size) hb.2.1).trans (hg.block b hlt hb.2.2)
  have hi : ∀ b, dd w n1 (some g) u0.a.ownBlock b ∧ b < w.heap.size → nf (w'.setCell ⟨g, 5, none⟩ u) n1 b := fun b hb => ⟨hb.1.1.1, fun o => by rw [World.frozen?_of_block (w := w) (a := ⟨b, o, none⟩) (hk b hb.1 hb.2)]; exact hb.1.1.2 o⟩
  have ee : ∀ {l : List Ex} {v : Value}, El w (dd w n1 (some g) u0.a.ownBlock) l v → El (w'.setCell ⟨g, 5, none⟩ u) (nf (w'.setCell ⟨g, 5, none⟩ u) n1) l v := fun h => ((h.imp (C := fun b => dd w n1 (some g) u0.a.ownBlock b ∧ b < w.heap.size) fun _ hb hlt => ⟨hb, hlt⟩).kept fun b hb hlt => hk b hb.1 hlt).imp fun b hb _ => hi b hb
  have se : ∀ {l : List St} {v : Value}, Sl w (dd w n1 (some g) u0.a.ownBlock) l v → Sl (w'.setCell ⟨g, 5, none⟩ u) (nf (w'.setCell ⟨g, 5, none⟩ u) n1) l v := fun h => ((h.imp (C := fun b => dd w n1 (some g) u0.a.ownBlock b ∧ b < w.heap.size) fun _ hb hlt => ⟨hb, hlt⟩).kept fun b hb hlt => hk b hb.1 hlt).imp fun b hb _ => hi b hb
  have hl2 : Sl (w'.setCell ⟨g, 5, none⟩ u) (fun b => nf (w'.setCell ⟨g, 5, none⟩ u) n1 b ∧ some b ≠ some g) l u := hl.nfOwn fun b _ hne hlt => ⟨g1.block b hlt hne, hne⟩
  have := ul_of_row (L := ⟨⟨u0.r.k, u0.r.p, l⟩, u0.x, u⟩ :: us) (D := nf (w'.setCell ⟨g, 5, none⟩ u) n1) s1 (fun k _ hn => hn) fun v hv => by
    rcases List.mem_cons.1 hv with rfl | hv
    · exact ⟨ee hp, hl2.imp fun _ hb _ => hb.1, hs⟩
    · exact ⟨ee (hus v hv).1, se (hus v hv).2.1, (hus v hv).2.2.1⟩
  exact this
/-- The first rule's cells. -/
theorem PgI.cells : w.cell? ⟨g, 0, none⟩ = some (.int .i64 u0.r.k) ∧ w.cell? ⟨g, 1, none⟩ = some (.int .i64 u0.r.p.k) ∧ w.cell? ⟨g, 2, none⟩ = some (.int .i64 u0.r.p.n) ∧ w.cell? ⟨g, 3, none⟩ = some (.string u0.r.p.s) ∧ w.cell? ⟨g, 4, none⟩ = some u0.x ∧ w.cell? ⟨g, 5, none⟩ = some u0.a ∧ ∀ j, w.frozen? ⟨g, j, none⟩ = false := by
  subst hn
  obtain ⟨h1, -⟩ := h
  have hcell := h1.cells (g := g) rfl
  have r0 := hcell 0 _ rfl
  have r1 := hcell 1 _ rfl
  have r2 := hcell 2 _ rfl
  have r3 := hcell 3 _ rfl
  have r4 := hcell 4 _ rfl
  have r5 := hcell 5 _ rfl
  simp only [Addr.add_lit, Nat.zero_add] at r0 r1 r2 r3 r4 r5
  refine ⟨r0, r1, r2, r3, r4, r5, fun j => ?_⟩
  rcases id h1.2 with ⟨h', -⟩ | ⟨g', cap', cur, e, hb, hg, -⟩
  · simp at h'
  · cases e
    exact frozen_of_row w g j _ _ hg
end

/-- The row of functions, to be appended to. -/
theorem FnI.rowF {w : World} {base n0 eb : Nat} {v : Value} {F : List Fv} (h : FnI w base n0 v F) (he : n0 ≤ eb) : ∀ p ∈ F, (Tb w (fun b => (nf w base b ∧ some b ≠ some eb) ∧ some b ≠ v.ownBlock) p.x p.f.ps ∧ Sl w (fun b => (nf w base b ∧ some b ≠ some eb) ∧ some b ≠ v.ownBlock) p.f.a p.a) ∧ p.f.n.size ≤ 100 := by
  have hi : ∀ b, bd w base n0 v.ownBlock b → (nf w base b ∧ some b ≠ some eb) ∧ some b ≠ v.ownBlock := fun _ hb => ⟨⟨hb.1, by have := hb.2.1; simp; omega⟩, hb.2.2⟩
  exact fun p hp => ⟨⟨(h.2.2 p hp).1.imp fun b hb _ => hi b hb, (h.2.2 p hp).2.1.imp fun b hb _ => hi b hb⟩, (h.2.2 p hp).2.2.1⟩
theorem Tb.nfo {w w' : World} {base eb : Nat} {ob : Option Nat} {l : List ByteArray} {v : Value} (h : Tb w (fun b => (nf w base b ∧ some b ≠ some eb) ∧ some b ≠ ob) v l) (hg : w.grownBy w' ob) : Tb w' (fun b => nf w' base b ∧ some b ≠ some eb) v l :=
  ((h.imp (C := fun b => ((nf w base b ∧ some b ≠ some eb) ∧ some b ≠ ob) ∧ b < w.heap.size) fun _ hb hlt => ⟨hb, hlt⟩).kept fun b hb hlt => hg.block b hlt hb.1.2).imp fun _ hb _ => nfo_kept hg hb.1 hb.2
/-- One function more behind a row; a box eb stays out of it. -/
theorem wp_append_fe {w : World} {o : Oper} {a : Act} {K : Act → World → Prop} {Q : Exit → Act → World → Prop} (s x : Operand)
    (ho : o.op = .call { callee := .builtin .append, args := #[s, x], argTypes := #[35, 35] })
    (base n eb : Nat) (v : Value) (L : List Fv) (q : Fv) (hs : a.eval s = v) (hown : w.ownsRow base 63 3 v L.length (fnCells L))
    (hels : ∀ p ∈ L, (Tb w (fun b => (nf w base b ∧ some b ≠ some eb) ∧ some b ≠ v.ownBlock) p.x p.f.ps ∧ Sl w (fun b => (nf w base b ∧ some b ≠ some eb) ∧ some b ≠ v.ownBlock) p.f.a p.a) ∧ p.f.n.size ≤ 100) (heb : ∀ k, v.ownBlock = some k → k ≠ eb) (hlt : eb < w.heap.size)
    (lb : Nat) (hx : a.eval x = .slice (some ⟨lb, 0, none⟩) 1 1)
    (hc : w.heap[lb]? = some (.cells #[.string q.f.n, q.x, q.a] 63 (0, 0)))
    (hqx : Tb w (nf w n) q.x q.f.ps) (hqa : Sl w (nf w n) q.f.a q.a) (hqs : q.f.n.size ≤ 100) (hn : base ≤ n) (hen : eb < n) (hrow : ∀ k, v.ownBlock = some k → k < n) (hbase : base ≤ w.heap.size) (hlen : L.length ≤ 1000)
    (h : ∀ v' w', Fl w' (fun b => nf w' base b ∧ some b ≠ some eb) (L.map Fv.f ++ [q.f]) v' → w.grownBy w' v.ownBlock → K (a.put o.dst v') w') :
    o.wp Try.prog a w K Q := by
  obtain ⟨i0, hi, hz0, hz1, hz2⟩ := info_parts (show (Try.prog.info? 63).map (fun i => (i.zero, i.size, i.bytes)) = some (some (.agg #[.string ByteArray.empty, .slice none 0 0, .slice none 0 0]), 3, 64) by kernel_rfl)
  have hones : ∀ u ∈ fnCells [q], u.oneCell' = true := by
    intro u hu
    obtain ⟨_, _, e1, -⟩ := hqx.len
    obtain ⟨_, _, e2, -⟩ := hqa.len
    simp only [fnCells, List.mem_cons, List.not_mem_nil, or_false] at hu
    rcases hu with rfl | rfl | rfl
    · rfl
    · rw [e1]; simp [Value.oneCell']
    · rw [e2]; simp [Value.oneCell']
  have hnews : ∀ j u, (fnCells [q])[j]? = some u → w.cell? ((⟨lb, 0, none⟩ : Addr).add j) = some u := by
    intro j u hu
    rw [Addr.add_lit, Nat.zero_add, cell_of_row w lb j _ _ (0, 0) hc]
    simpa [fnCells] using hu
  obtain ⟨v', w', hr, hown', hgr, -, hv⟩ := run_append_own_at (P := Try.prog) w base 35 o.type 63 i0 _ 3 64 Try.underlying35 hi hz0 hz1 hz2 rfl (by decide) v L.length (fnCells L) hown ⟨lb, 0, none⟩ 1 1 (fnCells [q]) rfl hnews hones (by unfold maxLen; omega) (by omega) hbase
  unfold Oper.wp execOp
  simp only [ho, resolve, invoke, builtin, Sem.run_bind, Sem.run_pure, Result.andThen_ok, List.map_toArray, List.map_cons, List.map_nil, hs, hx, hr]
  refine h v' w' ?_ hgr
  have hown2 : w'.ownsRow base 63 3 v' (L ++ [q]).length (fnCells (L ++ [q])) := by
    rw [fnCells_append, List.length_append]
    exact hown'
  have hC : ∀ b, nf w n b → b < w.heap.size → (nf w base b ∧ some b ≠ some eb) ∧ some b ≠ v.ownBlock := fun b hb _ => ⟨⟨⟨by have := hb.1; omega, hb.2⟩, by have := hb.1; simp; omega⟩, fun e => by have := hrow b e.symm; have := hb.1; omega⟩
  have := fl_of_row (D := fun b => nf w' base b ∧ some b ≠ some eb) hown2 (fun k hk hnf => ⟨hnf, by
      rcases hv with hv | hv
      · have := heb k (hv ▸ hk); simpa using this
      · rw [hv] at hk; simp at hk; simp; omega⟩) (fun p hp => by
      rcases List.mem_append.1 hp with hp | hp
      · exact ⟨(hels p hp).1.1.nfo hgr, (hels p hp).1.2.nfo hgr, (hels p hp).2⟩
      · obtain rfl : p = q := by simpa using hp
        exact ⟨Tb.nfo (hqx.imp hC) hgr, Sl.nfo (hqa.imp hC) hgr, hqs⟩)
  rw [List.map_append] at this
  exact this

theorem Fl.nfe {w w' : World} {base eb : Nat} {l : List Fu} {v : Value} (h : Fl w (fun b => nf w base b ∧ some b ≠ some eb) l v) (hg : w.grownBy w' (some eb)) : Fl w' (nf w' base) l v :=
  ((h.imp (C := fun b => (nf w base b ∧ some b ≠ some eb) ∧ b < w.heap.size) fun _ hb hlt => ⟨hb, hlt⟩).kept fun b hb hlt => hg.block b hlt hb.1.2).imp fun b hb _ => ⟨hb.1.1.1, fun o => by rw [World.frozen?_of_block (w := w) (a := ⟨b, o, Option.none⟩) (hg.block b hb.2 hb.1.2)]; exact hb.1.1.2 o⟩
theorem frozen_of_own {w : World} {base g size n cap m : Nat} {e : TypeId} {xs : List Value} (h : w.ownsRow base e size (.slice (some ⟨g, 0, Option.none⟩) n cap) m xs) : ∀ j, w.frozen? ⟨g, j, Option.none⟩ = false := by
  intro j
  rcases id h.2 with ⟨h', -⟩ | ⟨g', cap', cur, e, hb, hg, -⟩
  · simp at h'
  · cases e
    exact frozen_of_row w g j _ _ hg
/-- A statement that is nothing. -/
def zY : Yv := ⟨.node 0 ⟨#[]⟩ ⟨#[]⟩ [] [] [], .slice Option.none 0 0, .slice Option.none 0 0, .slice Option.none 0 0⟩
def RowEls (w : World) (base eb : Nat) (ob : Option Nat) (p : Yv) : Prop := (El w (fun b => (nf w base b ∧ some b ≠ some eb) ∧ some b ≠ ob) p.t.x p.x ∧ Sl w (fun b => (nf w base b ∧ some b ≠ some eb) ∧ some b ≠ ob) p.t.a p.a ∧ Sl w (fun b => (nf w base b ∧ some b ≠ some eb) ∧ some b ≠ ob) p.t.b p.b) ∧ p.t.s.size ≤ 100 ∧ p.t.t.size ≤ 100
theorem RowEls.kept {w w' : World} {base eb : Nat} {ob ob' : Option Nat} {p : Yv} (h : RowEls w base eb ob p) (hk : ∀ b, base ≤ b → b < w.heap.size → some b ≠ some eb → some b ≠ ob → w'.heap[b]? = w.heap[b]? ∧ some b ≠ ob') : RowEls w' base eb ob' p := by
  have hi : ∀ b, ((nf w base b ∧ some b ≠ some eb) ∧ some b ≠ ob) ∧ b < w.heap.size → (nf w' base b ∧ some b ≠ some eb) ∧ some b ≠ ob' := fun b hb => ⟨⟨⟨hb.1.1.1.1, fun o => by rw [World.frozen?_of_block (w := w) (a := ⟨b, o, Option.none⟩) (hk b hb.1.1.1.1 hb.2 hb.1.1.2 hb.1.2).1]; exact hb.1.1.1.2 o⟩, hb.1.1.2⟩, (hk b hb.1.1.1.1 hb.2 hb.1.1.2 hb.1.2).2⟩
  have ee : ∀ {l : List Ex} {v : Value}, El w (fun b => (nf w base b ∧ some b ≠ some eb) ∧ some b ≠ ob) l v → El w' (fun b => (nf w' base b ∧ some b ≠ some eb) ∧ some b ≠ ob') l v := fun h => ((h.imp (C := fun b => ((nf w base b ∧ some b ≠ some eb) ∧ some b ≠ ob) ∧ b < w.heap.size) fun _ hb hlt => ⟨hb, hlt⟩).kept fun b hb hlt => (hk b hb.1.1.1.1 hlt hb.1.1.2 hb.1.2).1).imp fun b hb _ => hi b hb
  have se : ∀ {l : List St} {v : Value}, Sl w (fun b => (nf w base b ∧ some b ≠ some eb) ∧ some b ≠ ob) l v → Sl w' (fun b => (nf w' base b ∧ some b ≠ some eb) ∧ some b ≠ ob') l v := fun h => ((h.imp (C := fun b => ((nf w base b ∧ some b ≠ some eb) ∧ some b ≠ ob) ∧ b < w.heap.size) fun _ hb hlt => ⟨hb, hlt⟩).kept fun b hb hlt => (hk b hb.1.1.1.1 hlt hb.1.1.2 hb.1.2).1).imp fun b hb _ => hi b hb
  exact ⟨⟨ee h.1.1, se h.1.2.1, se h.1.2.2⟩, h.2⟩
/-- A statement that is nothing behind a row. -/
theorem wp_append_zz {w : World} {o : Oper} {a : Act} {K : Act → World → Prop} {Q : Exit → Act → World → Prop} (s x : Operand)
    (ho : o.op = .call { callee := .builtin .append, args := #[s, x], argTypes := #[29, 29] })
    (base eb : Nat) (v : Value) (L : List Yv) (hs : a.eval s = v) (hown : w.ownsRow base 31 6 v L.length (stCells L))
    (hels : ∀ p ∈ L, RowEls w base eb v.ownBlock p)
    (lb : Nat) (hx : a.eval x = .slice (some ⟨lb, 0, none⟩) 1 1)
    (hc : w.heap[lb]? = some (.cells #[.int .i64 0, .string ⟨#[]⟩, .string ⟨#[]⟩, .slice none 0 0, .slice none 0 0, .slice none 0 0] 31 (0, 0)))
    (hbase : base ≤ w.heap.size) (hlen : L.length ≤ 1000000000)
    (h : ∀ v' w', w'.ownsRow base 31 6 v' (L ++ [zY]).length (stCells (L ++ [zY])) → (∀ p ∈ L, RowEls w' base eb v'.ownBlock p) → w.grownBy w' v.ownBlock → (v'.ownBlock = v.ownBlock ∨ v'.ownBlock = some w.heap.size) → K (a.put o.dst v') w') :
    o.wp Try.prog a w K Q := by
  obtain ⟨i0, hi, hz0, hz1, hz2⟩ := info_parts (show (Try.prog.info? 31).map (fun i => (i.zero, i.size, i.bytes)) = some (some (.agg #[.int .i64 0, .string ByteArray.empty, .string ByteArray.empty, .slice none 0 0, .slice none 0 0, .slice none 0 0]), 6, 112) by kernel_rfl)
  have hones : ∀ u ∈ stCells [zY], u.oneCell' = true := by
    intro u hu
    simp only [stCells, zY, List.mem_cons, List.not_mem_nil, or_false] at hu
    rcases hu with rfl | rfl | rfl | rfl | rfl | rfl <;> simp [Value.oneCell']
  have hnews : ∀ j u, (stCells [zY])[j]? = some u → w.cell? ((⟨lb, 0, none⟩ : Addr).add j) = some u := by
    intro j u hu
    rw [Addr.add_lit, Nat.zero_add, cell_of_row w lb j _ _ (0, 0) hc]
    simpa [stCells, zY, St.k, St.s, St.t] using hu
  obtain ⟨v', w', hr, hown', hgr, -, hv⟩ := run_append_own_at (P := Try.prog) w base 29 o.type 31 i0 _ 6 112 Try.underlying29 hi hz0 hz1 hz2 rfl (by decide) v L.length (stCells L) hown ⟨lb, 0, none⟩ 1 1 (stCells [zY]) rfl hnews hones (by unfold maxLen; omega) (by omega) hbase
  unfold Oper.wp execOp
  simp only [ho, resolve, invoke, builtin, Sem.run_bind, Sem.run_pure, Result.andThen_ok, List.map_toArray, List.map_cons, List.map_nil, hs, hx, hr]
  refine h v' w' ?_ (fun p hp => (hels p hp).kept fun b _ hlt _ hne => ⟨hgr.block b hlt hne, ?_⟩) hgr hv
  · rw [stCells_append, List.length_append]
    exact hown'
  · rcases hv with hv | hv
    · rw [hv]; exact hne
    · rw [hv]; intro e; simp at e; omega
/-- The last one of a row, stored over. -/
theorem row_last {w : World} {base h n cap : Nat} {L : List Yv} {z q : Yv} (hr : w.ownsRow base 31 6 (.slice (some ⟨h, 0, none⟩) n cap) (L ++ [z]).length (stCells (L ++ [z]))) (hn : (L ++ [z]).length = n) :
    ((((((w.setCell ⟨h, L.length * 6, none⟩ (.int .i64 q.t.k)).setCell ⟨h, L.length * 6 + 1, none⟩ (.string q.t.s)).setCell ⟨h, L.length * 6 + 2, none⟩ (.string q.t.t)).setCell ⟨h, L.length * 6 + 3, none⟩ q.x).setCell ⟨h, L.length * 6 + 4, none⟩ q.a).setCell ⟨h, L.length * 6 + 5, none⟩ q.b).ownsRow base 31 6 (.slice (some ⟨h, 0, none⟩) n cap) (L ++ [q]).length (stCells (L ++ [q])) := by
  subst hn
  have s0 := (World.ownsRow.stored hr (L.length * 6) (.int .i64 q.t.k)).1
  have s1 := (World.ownsRow.stored s0 (L.length * 6 + 1) (.string q.t.s)).1
  have s2 := (World.ownsRow.stored s1 (L.length * 6 + 2) (.string q.t.t)).1
  have s3 := (World.ownsRow.stored s2 (L.length * 6 + 3) q.x).1
  have s4 := (World.ownsRow.stored s3 (L.length * 6 + 4) q.a).1
  have s5 := (World.ownsRow.stored s4 (L.length * 6 + 5) q.b).1
  have e : ((((((stCells (L ++ [z])).set (L.length * 6) (.int .i64 q.t.k)).set (L.length * 6 + 1) (.string q.t.s)).set (L.length * 6 + 2) (.string q.t.t)).set (L.length * 6 + 3) q.x).set (L.length * 6 + 4) q.a).set (L.length * 6 + 5) q.b = stCells (L ++ [q]) := by
    rw [stCells_append, stCells_append, ← stCells_length L]
    simp only [List.set_append, Nat.lt_irrefl, if_false, Nat.sub_self, show ∀ k, ¬ ((stCells L).length + k < (stCells L).length) from fun k => by omega, Nat.add_sub_cancel_left]
    simp [stCells]
  rw [e] at s5
  have hl : (L ++ [z]).length = (L ++ [q]).length := by simp
  rw [hl] at s5 ⊢
  exact s5
theorem own_len {w : World} {base size n cap m : Nat} {o : Option Addr} {e : TypeId} {xs : List Value} (h : w.ownsRow base e size (.slice o n cap) m xs) : n = m := by
  rcases id h.2 with ⟨h', h0⟩ | ⟨g', cap', cur, e, -⟩
  · cases h'; exact h0.symm
  · cases e; rfl
theorem own_some {w : World} {base size m : Nat} {v : Value} {e : TypeId} {xs : List Value} (h : w.ownsRow base e size v m xs) (hm : 0 < m) : ∃ g cap, v = .slice (some ⟨g, 0, Option.none⟩) m cap := by
  rcases id h.2 with ⟨h', h0⟩ | ⟨g', cap', cur, e, -⟩
  · omega
  · exact ⟨_, _, e⟩
theorem row_c5 {w : World} {n1 g n cap m : Nat} {u : Uv} {us : List Uv} (h : w.ownsRow n1 59 6 (.slice (some ⟨g, 0, Option.none⟩) n cap) m (ruCells (u :: us))) : w.cell? ⟨g, 5, Option.none⟩ = some u.a := by
  have := h.cells (g := g) rfl 5 _ rfl
  simpa only [Addr.add_lit, Nat.zero_add] using this
/-- Six cells of a block are stored. -/
abbrev six6 (w : World) (b o : Nat) (x y z u p q : Value) : World := (((((w.setCell ⟨b, o, Option.none⟩ x).setCell ⟨b, o + 1, Option.none⟩ y).setCell ⟨b, o + 2, Option.none⟩ z).setCell ⟨b, o + 3, Option.none⟩ u).setCell ⟨b, o + 4, Option.none⟩ p).setCell ⟨b, o + 5, Option.none⟩ q
theorem six6_by (w : World) (b o : Nat) (x y z u p q : Value) : w.grownBy (six6 w b o x y z u p q) (some b) :=
  grownBy_trans (grownBy_trans (grownBy_trans (grownBy_trans (grownBy_trans (gb_set w b o x) (gb_set _ b (o + 1) y)) (gb_set _ b (o + 2) z)) (gb_set _ b (o + 3) u)) (gb_set _ b (o + 4) p)) (gb_set _ b (o + 5) q)
/-- The cells of the last one of a row. -/
theorem row_lastc {w : World} {base h n cap m : Nat} {L : List Yv} (hr : w.ownsRow base 31 6 (.slice (some ⟨h, 0, Option.none⟩) n cap) m (stCells (L ++ [zY]))) : w.cell? ⟨h, L.length * 6, Option.none⟩ = some (.int .i64 0) ∧ w.cell? ⟨h, L.length * 6 + 1, Option.none⟩ = some (.string ⟨#[]⟩) ∧ w.cell? ⟨h, L.length * 6 + 2, Option.none⟩ = some (.string ⟨#[]⟩) ∧ w.cell? ⟨h, L.length * 6 + 3, Option.none⟩ = some (.slice Option.none 0 0) ∧ w.cell? ⟨h, L.length * 6 + 4, Option.none⟩ = some (.slice Option.none 0 0) ∧ w.cell? ⟨h, L.length * 6 + 5, Option.none⟩ = some (.slice Option.none 0 0) := by
  have hcell := hr.cells (g := h) rfl
  have hz : (L ++ [zY])[L.length]'(by simp) = zY := by simp
  obtain ⟨s0, s1, s2, s3, s4, s5⟩ := stCells_at (L ++ [zY]) L.length (by simp)
  rw [hz] at s0 s1 s2 s3 s4 s5
  have r0 := hcell _ _ s0
  have r1 := hcell _ _ s1
  have r2 := hcell _ _ s2
  have r3 := hcell _ _ s3
  have r4 := hcell _ _ s4
  have r5 := hcell _ _ s5
  simp only [Addr.add_lit, Nat.zero_add] at r0 r1 r2 r3 r4 r5
  exact ⟨r0, r1, r2, r3, r4, r5⟩
/-- The rules, the first one's statements another list. -/
theorem PgI.fin {w W : World} {n1 g n cap : Nat} {u0 : Uv} {us : List Uv} (h : PgI w n1 (.slice (some ⟨g, 0, Option.none⟩) n cap) (u0 :: us)) (hn : (u0 :: us).length = n) {l : List St} {u : Value} (hrow : W.ownsRow n1 59 6 (.slice (some ⟨g, 0, Option.none⟩) n cap) (u0 :: us).length (ruCells (⟨⟨u0.r.k, u0.r.p, l⟩, u0.x, u⟩ :: us)))
    (hk : ∀ b, n1 ≤ b → b < w.heap.size → some b ≠ some g → some b ≠ u0.a.ownBlock → W.heap[b]? = w.heap[b]?) (hl : Sl W (nf W n1) l u) : Ul W (nf W n1) (⟨u0.r.k, u0.r.p, l⟩ :: us.map Uv.r) (.slice (some ⟨g, 0, Option.none⟩) n cap) := by
  subst hn
  obtain ⟨h1, h2⟩ := h
  obtain ⟨⟨hp, -, hs, -⟩, hus⟩ := h2
  have hi : ∀ b, dd w n1 (some g) u0.a.ownBlock b ∧ b < w.heap.size → nf W n1 b := fun b hb => ⟨hb.1.1.1, fun o => by rw [World.frozen?_of_block (w := w) (a := ⟨b, o, Option.none⟩) (hk b hb.1.1.1 hb.2 hb.1.2.1 hb.1.2.2)]; exact hb.1.1.2 o⟩
  have ee : ∀ {l : List Ex} {v : Value}, El w (dd w n1 (some g) u0.a.ownBlock) l v → El W (nf W n1) l v := fun h => ((h.imp (C := fun b => dd w n1 (some g) u0.a.ownBlock b ∧ b < w.heap.size) fun _ hb hlt => ⟨hb, hlt⟩).kept fun b hb hlt => hk b hb.1.1.1 hlt hb.1.2.1 hb.1.2.2).imp fun b hb _ => hi b hb
  have se : ∀ {l : List St} {v : Value}, Sl w (dd w n1 (some g) u0.a.ownBlock) l v → Sl W (nf W n1) l v := fun h => ((h.imp (C := fun b => dd w n1 (some g) u0.a.ownBlock b ∧ b < w.heap.size) fun _ hb hlt => ⟨hb, hlt⟩).kept fun b hb hlt => hk b hb.1.1.1 hlt hb.1.2.1 hb.1.2.2).imp fun b hb _ => hi b hb
  have := ul_of_row (L := ⟨⟨u0.r.k, u0.r.p, l⟩, u0.x, u⟩ :: us) (D := nf W n1) hrow (fun k _ hn => hn) fun v hv => by
    rcases List.mem_cons.1 hv with rfl | hv
    · exact ⟨ee hp, hl, hs⟩
    · exact ⟨ee (hus v hv).1, se (hus v hv).2.1, (hus v hv).2.2.1⟩
  exact this
end Go.Proofs.Ytijpmnenegdmnaa
