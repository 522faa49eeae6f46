/- Rows of pairs of lists: the last taken off, some put behind. -/
import Derived.Test.YtijpmnenegdmnaaQUfSame
import Derived.Test.YtijpmnenegdmnaaQJoinX
import Derived.Maps.AppendAt
namespace Go.Proofs.Ytijpmnenegdmnaa
open Go.RowKit
set_option maxRecDepth 8000

/-- The cells of a row of pairs. -/
def prCells {T : Type} : List (Prr T) → List Value
  | [] => []
  | q :: W => q.u :: q.v :: prCells W
theorem prCells_length {T : Type} (W : List (Prr T)) : (prCells W).length = W.length * 2 := by
  induction W with
  | nil => rfl
  | cons q W ih => simp only [prCells, List.length_cons, ih]; omega
theorem prCells_append {T : Type} (W V : List (Prr T)) : prCells (W ++ V) = prCells W ++ prCells V := by
  induction W with
  | nil => rfl
  | cons q W ih => simp only [List.cons_append, prCells, ih]
theorem prCells_one {T : Type} {V : List (Prr T)} (h : ∀ q ∈ V, q.u.oneCell' = true ∧ q.v.oneCell' = true) : ∀ x ∈ prCells V, x.oneCell' = true := by
  induction V with
  | nil => simp [prCells]
  | cons q V ih =>
    intro x hx
    simp only [prCells, List.mem_cons] at hx
    rcases hx with rfl | rfl | hx
    · exact (h q (by simp)).1
    · exact (h q (by simp)).2
    · exact ih (fun y hy => h y (List.mem_cons_of_mem _ hy)) x hx

theorem cells_at {w : World} {b o : Nat} {v : Value} (h : w.cell? ⟨b, o, none⟩ = some v) : ∃ c e f, w.heap[b]? = some (.cells c e f) := by
  unfold World.cell? at h
  cases hh : w.heap[b]? with
  | none => simp [hh] at h
  | some x => cases x <;> simp [hh] at h <;> exact ⟨_, _, _, rfl⟩

/-- A row of pairs, of the call's own from base on. -/
def OwnRX (w : World) (base : Nat) (v : Value) (W : List (Prr Ex)) : Prop := w.ownsRow base 51 2 v W.length (prCells W)

theorem OwnRX.len {w : World} {base : Nat} {v : Value} {W : List (Prr Ex)} (h : OwnRX w base v W) : ∃ ao cap, v = .slice ao W.length cap := by
  rcases h.2 with ⟨rfl, h0⟩ | ⟨g, cap, cur, rfl, -⟩
  · exact ⟨none, 0, by rw [h0]⟩
  · exact ⟨_, cap, rfl⟩
theorem OwnRX.lt {w : World} {base : Nat} {v : Value} {W : List (Prr Ex)} (h : OwnRX w base v W) {k : Nat} (hk : v.ownBlock = some k) : base ≤ k ∧ k < w.heap.size := World.ownsRow.lt h k hk
theorem OwnRX.kept {w w' : World} {base : Nat} {v : Value} {W : List (Prr Ex)} (h : OwnRX w base v W) (hk : ∀ k, v.ownBlock = some k → w'.heap[k]? = w.heap[k]?) : OwnRX w' base v W := by
  refine ⟨h.1, ?_⟩
  rcases h.2 with h0 | ⟨g, cap, cur, rfl, hb, hg, h1, h2, h3, h4⟩
  · exact .inl h0
  · exact .inr ⟨g, cap, cur, rfl, hb, (hk g rfl).trans hg, h1, h2, h3, h4⟩

/-- The last one, and the others. -/
theorem OwnRX.pop {w : World} {base : Nat} {v : Value} {W : List (Prr Ex)} {q : Prr Ex} (h : OwnRX w base v (W ++ [q])) : ∃ g cap, v = .slice (some ⟨g, 0, none⟩) (W.length + 1) cap ∧ W.length + 1 ≤ cap ∧ cap ≤ maxLen ∧ base ≤ g ∧ g < w.heap.size ∧
    w.cell? ⟨g, W.length * 2, none⟩ = some q.u ∧ w.cell? ⟨g, W.length * 2 + 1, none⟩ = some q.v ∧ OwnRX w base (.slice (some ⟨g, 0, none⟩) W.length cap) W := by
  have hcs := fun g hg => World.ownsRow.cells h (g := g) hg
  have hp : (prCells (W ++ [q]))[W.length * 2]? = some q.u ∧ (prCells (W ++ [q]))[W.length * 2 + 1]? = some q.v := by
    rw [prCells_append, ← prCells_length W]
    simp [prCells]
  rcases id h.2 with ⟨-, h0⟩ | ⟨g, cap, cur, rfl, hb, hg, h1, h2, h3, h4⟩
  · simp at h0
  · have hlen : (W ++ [q]).length = W.length + 1 := by simp
    have c0 := hcs g rfl _ _ hp.1
    have c1 := hcs g rfl _ _ hp.2
    simp only [Addr.add_lit, Nat.zero_add] at c0 c1
    refine ⟨g, cap, by rw [hlen], by rw [← hlen]; exact h1, h2, hb, (Array.getElem?_eq_some_iff.1 hg).1, c0, c1, prCells_length W, .inr ⟨g, cap, cur, rfl, hb, hg, by omega, h2, h3, ?_⟩⟩
    have h5 : prCells W = (prCells (W ++ [q])).take (W.length * 2) := by
      rw [prCells_append, List.take_append_of_le_length (by rw [prCells_length]; omega), ← prCells_length W, List.take_length]
    rw [h5, ← h4, List.take_take, hlen]
    congr 1
    omega

/-- Some more, read off a new block. -/
theorem wp_append_rX {w : World} {o : Oper} {a : Act} {K : Act → World → Prop} {Q : Exit → Act → World → Prop} (s x : Operand)
    (ho : o.op = .call { callee := .builtin .append, args := #[s, x], argTypes := #[52, 52] })
    (base : Nat) (v : Value) (W V : List (Prr Ex)) (hs : a.eval s = v) (hown : OwnRX w base v W) (lb c : Nat) (hx : a.eval x = .slice (some ⟨lb, 0, none⟩) V.length c)
    (hc : w.heap[lb]? = some (.cells (prCells V).toArray 51 (0, 0))) (hone : ∀ q ∈ V, q.u.oneCell' = true ∧ q.v.oneCell' = true) (hbase : base ≤ w.heap.size) (hlen : W.length + V.length ≤ 2199023255552)
    (h : ∀ v' w', OwnRX w' base v' (W ++ V) → w.grownBy w' v.ownBlock → (v'.ownBlock = v.ownBlock ∨ v'.ownBlock = some w.heap.size) → K (a.put o.dst v') w') :
    o.wp Try.prog a w K Q := by
  obtain ⟨i0, hi, hz0, hz1, hz2⟩ := info_parts (show (Try.prog.info? 51).map (fun i => (i.zero, i.size, i.bytes)) = some (some (.agg #[.slice none 0 0, .slice none 0 0]), 2, 48) by kernel_rfl)
  have hones : ∀ q ∈ prCells V, q.oneCell' = true := prCells_one hone
  have hnews : ∀ j q, (prCells V)[j]? = some q → w.cell? ((⟨lb, 0, none⟩ : Addr).add j) = some q := by
    intro j q hq
    rw [Addr.add_lit, Nat.zero_add, cell_of_row w lb j _ _ (0, 0) hc]
    simpa using hq
  obtain ⟨v', w', hr, hown', hgr, -, hv⟩ := run_append_own_at (P := Try.prog) w base 52 o.type 51 i0 _ 2 48 (by kernel_rfl) hi hz0 hz1 hz2 rfl (by decide) v W.length (prCells W) hown ⟨lb, 0, none⟩ V.length c (prCells V) (prCells_length V) hnews hones (by unfold maxLen; omega) (by omega) hbase
  unfold Oper.wp execOp
  simp only [ho, resolve, invoke, builtin, Sem.run_bind, Sem.run_pure, Result.andThen_ok, List.map_toArray, List.map_cons, List.map_nil, hs, hx, hr]
  refine h v' w' ?_ hgr hv
  show w'.ownsRow base _ 2 v' (W ++ V).length (prCells (W ++ V))
  rw [prCells_append, List.length_append]
  exact hown'
theorem wpList_append_rX {w : World} {ops : Array Oper} {rest : List Oper} {o : Oper} {a : Act} {Q : Exit → Act → World → Prop} (hgd : o.guard = none) (s x : Operand)
    (ho : o.op = .call { callee := .builtin .append, args := #[s, x], argTypes := #[52, 52] })
    (base : Nat) (v : Value) (W V : List (Prr Ex)) (hs : a.eval s = v) (hown : OwnRX w base v W) (lb c : Nat) (hx : a.eval x = .slice (some ⟨lb, 0, none⟩) V.length c)
    (hc : w.heap[lb]? = some (.cells (prCells V).toArray 51 (0, 0))) (hone : ∀ q ∈ V, q.u.oneCell' = true ∧ q.v.oneCell' = true) (hbase : base ≤ w.heap.size) (hlen : W.length + V.length ≤ 2199023255552)
    (h : ∀ v' w', OwnRX w' base v' (W ++ V) → w.grownBy w' v.ownBlock → (v'.ownBlock = v.ownBlock ∨ v'.ownBlock = some w.heap.size) → wpList Try.prog ops Q rest (a.put o.dst v') w') :
    wpList Try.prog ops Q (o :: rest) a w := by
  refine wpList_plain hgd fun K hK => ?_
  exact wp_append_rX s x ho base v W V hs hown lb c hx hc hone hbase hlen fun v' w' h1 h2 h3 => hK _ _ (h v' w' h1 h2 h3)

/-- The same slice, but for its spare room, reads the same list. -/
theorem El.det {w : World} {B : Nat → Prop} {l : List Ex} {v : Value} (h : El w B l v) : ∀ {B' : Nat → Prop} {l' : List Ex} {v' : Value}, El w B' l' v' → (∃ ao n c c', v = .slice ao n c ∧ v' = .slice ao n c') → l = l' := by
  induction h with
  | empty ao cap hm hn =>
    intro B' l' v' h' ⟨ao', n, c, c', e1, e2⟩
    obtain ⟨a1, a2, rfl, -⟩ := h'.len
    simp at e1 e2
    have : l'.length = 0 := by omega
    exact (List.length_eq_zero_iff.1 this).symm
  | full l b off cap V hb hl hc hm hs hcell hsub ih =>
    intro B' l' v' h' ⟨ao', n, c, c', e1, e2⟩
    obtain ⟨a1, a2, rfl, -⟩ := h'.len
    simp at e1 e2
    obtain ⟨rfl, rfl, rfl⟩ := e1
    obtain ⟨rfl, hlen, rfl⟩ := e2
    have hl' : l' ≠ [] := by rintro rfl; simp at hlen; exact hl (by simpa using hlen.symm)
    obtain ⟨b', off', V', he, hel⟩ := h'.elems hl'
    simp at he
    obtain ⟨rfl, rfl⟩ := he
    refine List.ext_getElem hlen.symm fun i h1 h2 => ?_
    obtain ⟨x, hx, -⟩ := hel i h2
    have y := hcell i h1
    have e0 := y.1.symm.trans x.1
    have e1 := y.2.1.symm.trans x.2.1
    have e2 := y.2.2.1.symm.trans x.2.2.1
    have e3 := y.2.2.2.symm.trans x.2.2.2
    simp at e0 e1 e2 e3
    obtain ⟨ao2, c2, ev, -⟩ := (hsub i h1).len
    have e4 : l[i].l = l'[i].l := ih i h1 hx ⟨ao2, _, c2, c2, ev, by rw [← e3]; exact ev⟩
    rw [← Ex.eta l[i], ← Ex.eta l'[i], e0, e1, e2, e4]

open Classical in
/-- The list that begins at a place. -/
noncomputable def treeX (w : World) (p : Plc) : List Ex :=
  if h : ∃ l, l ≠ [] ∧ ∃ B c, El w B l (.slice (some p.a) l.length c) ∧ (l.length : Int) = p.n then Classical.choose h else []
theorem treeX_eq {w : World} {B : Nat → Prop} {l : List Ex} {b off c n : Nat} (h : El w B l (.slice (some ⟨b, off, none⟩) n c)) (hl : l ≠ []) : treeX w ⟨⟨b, off, none⟩, n⟩ = l := by
  obtain ⟨_, _, e, -⟩ := h.len
  simp at e
  obtain ⟨-, rfl, -⟩ := e
  have hex : ∃ l', l' ≠ [] ∧ ∃ B c, El w B l' (.slice (some (⟨⟨b, off, none⟩, l.length⟩ : Plc).a) l'.length c) ∧ (l'.length : Int) = (⟨⟨b, off, none⟩, l.length⟩ : Plc).n := ⟨l, hl, B, c, h, rfl⟩
  unfold treeX
  rw [dif_pos hex]
  obtain ⟨-, B', c', h', hn⟩ := Classical.choose_spec hex
  have hn1 : ((Classical.choose hex).length : Int) = (l.length : Int) := hn
  have hn' : (Classical.choose hex).length = l.length := by omega
  refine (h.det h' ⟨some ⟨b, off, none⟩, l.length, c, c', rfl, ?_⟩).symm
  rw [hn']
theorem El.cells {w : World} {B : Nat → Prop} {l : List Ex} {v : Value} (h : El w B l v) : El w (fun b => B b ∧ ∃ c e f, w.heap[b]? = some (.cells c e f)) l v := by
  induction h with
  | empty ao cap hm hn => exact .empty ao cap hm hn
  | full l b off cap V hb hl hc hm hs hcell hsub ih =>
    exact .full l b off cap V ⟨hb, cells_at (hcell 0 (List.length_pos_iff.2 hl)).1⟩ hl hc hm hs hcell ih

end Go.Proofs.Ytijpmnenegdmnaa
