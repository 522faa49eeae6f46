/- Rows of pairs of lists: the last taken off, some put behind. -/
import Derived.Test.YtijpmnenegdmnaaQUfSame
import Derived.Test.YtijpmnenegdmnaaQJoinY
import Derived.Test.YtijpmnenegdmnaaQPairX
import Derived.Test.YtijpmnenegdmnaaQStTree
import Derived.Maps.AppendAt
namespace Go.Proofs.Ytijpmnenegdmnaa
open Go.RowKit
set_option maxRecDepth 8000

/-- A row of pairs, of the call's own from base on. -/
def OwnRY (w : World) (base : Nat) (v : Value) (W : List (Prr St)) : Prop := w.ownsRow base 55 2 v W.length (prCells W)

theorem OwnRY.len {w : World} {base : Nat} {v : Value} {W : List (Prr St)} (h : OwnRY w base v W) : ∃ ao cap, v = .slice ao W.length cap := by
  rcases h.2 with ⟨rfl, h0⟩ | ⟨g, cap, cur, rfl, -⟩
  · exact ⟨none, 0, by rw [h0]⟩
  · exact ⟨_, cap, rfl⟩
theorem OwnRY.lt {w : World} {base : Nat} {v : Value} {W : List (Prr St)} (h : OwnRY w base v W) {k : Nat} (hk : v.ownBlock = some k) : base ≤ k ∧ k < w.heap.size := World.ownsRow.lt h k hk
theorem OwnRY.kept {w w' : World} {base : Nat} {v : Value} {W : List (Prr St)} (h : OwnRY w base v W) (hk : ∀ k, v.ownBlock = some k → w'.heap[k]? = w.heap[k]?) : OwnRY w' base v W := by
  refine ⟨h.1, ?_⟩
  rcases h.2 with h0 | ⟨g, cap, cur, rfl, hb, hg, h1, h2, h3, h4⟩
  · exact .inl h0
  · exact .inr ⟨g, cap, cur, rfl, hb, (hk g rfl).trans hg, h1, h2, h3, h4⟩

/-- The last one, and the others. -/
theorem OwnRY.pop {w : World} {base : Nat} {v : Value} {W : List (Prr St)} {q : Prr St} (h : OwnRY w base v (W ++ [q])) : ∃ g cap, v = .slice (some ⟨g, 0, none⟩) (W.length + 1) cap ∧ W.length + 1 ≤ cap ∧ cap ≤ maxLen ∧ base ≤ g ∧ g < w.heap.size ∧
    w.cell? ⟨g, W.length * 2, none⟩ = some q.u ∧ w.cell? ⟨g, W.length * 2 + 1, none⟩ = some q.v ∧ OwnRY w base (.slice (some ⟨g, 0, none⟩) W.length cap) W := by
  have hcs := fun g hg => World.ownsRow.cells h (g := g) hg
  have hp : (prCells (W ++ [q]))[W.length * 2]? = some q.u ∧ (prCells (W ++ [q]))[W.length * 2 + 1]? = some q.v := by
    rw [prCells_append, ← prCells_length W]
    simp [prCells]
  rcases id h.2 with ⟨-, h0⟩ | ⟨g, cap, cur, rfl, hb, hg, h1, h2, h3, h4⟩
  · simp at h0
  · have hlen : (W ++ [q]).length = W.length + 1 := by simp
    have c0 := hcs g rfl _ _ hp.1
    have c1 := hcs g rfl _ _ hp.2
    simp only [Addr.add_lit, Nat.zero_add] at c0 c1
    refine ⟨g, cap, by rw [hlen], by rw [← hlen]; exact h1, h2, hb, (Array.getElem?_eq_some_iff.1 hg).1, c0, c1, prCells_length W, .inr ⟨g, cap, cur, rfl, hb, hg, by omega, h2, h3, ?_⟩⟩
    have h5 : prCells W = (prCells (W ++ [q])).take (W.length * 2) := by
      rw [prCells_append, List.take_append_of_le_length (by rw [prCells_length]; omega), ← prCells_length W, List.take_length]
    rw [h5, ← h4, List.take_take, hlen]
    congr 1
    omega

/-- Some more, read off a new block. -/
theorem wp_append_rY {w : World} {o : Oper} {a : Act} {K : Act → World → Prop} {Q : Exit → Act → World → Prop} (s x : Operand)
    (ho : o.op = .call { callee := .builtin .append, args := #[s, x], argTypes := #[56, 56] })
    (base : Nat) (v : Value) (W V : List (Prr St)) (hs : a.eval s = v) (hown : OwnRY w base v W) (lb c : Nat) (hx : a.eval x = .slice (some ⟨lb, 0, none⟩) V.length c)
    (hc : w.heap[lb]? = some (.cells (prCells V).toArray 55 (0, 0))) (hone : ∀ q ∈ V, q.u.oneCell' = true ∧ q.v.oneCell' = true) (hbase : base ≤ w.heap.size) (hlen : W.length + V.length ≤ 2199023255552)
    (h : ∀ v' w', OwnRY w' base v' (W ++ V) → w.grownBy w' v.ownBlock → (v'.ownBlock = v.ownBlock ∨ v'.ownBlock = some w.heap.size) → K (a.put o.dst v') w') :
    o.wp Try.prog a w K Q := by
  obtain ⟨i0, hi, hz0, hz1, hz2⟩ := info_parts (show (Try.prog.info? 55).map (fun i => (i.zero, i.size, i.bytes)) = some (some (.agg #[.slice none 0 0, .slice none 0 0]), 2, 48) by kernel_rfl)
  have hones : ∀ q ∈ prCells V, q.oneCell' = true := prCells_one hone
  have hnews : ∀ j q, (prCells V)[j]? = some q → w.cell? ((⟨lb, 0, none⟩ : Addr).add j) = some q := by
    intro j q hq
    rw [Addr.add_lit, Nat.zero_add, cell_of_row w lb j _ _ (0, 0) hc]
    simpa using hq
  obtain ⟨v', w', hr, hown', hgr, -, hv⟩ := run_append_own_at (P := Try.prog) w base 56 o.type 55 i0 _ 2 48 (by kernel_rfl) hi hz0 hz1 hz2 rfl (by decide) v W.length (prCells W) hown ⟨lb, 0, none⟩ V.length c (prCells V) (prCells_length V) hnews hones (by unfold maxLen; omega) (by omega) hbase
  unfold Oper.wp execOp
  simp only [ho, resolve, invoke, builtin, Sem.run_bind, Sem.run_pure, Result.andThen_ok, List.map_toArray, List.map_cons, List.map_nil, hs, hx, hr]
  refine h v' w' ?_ hgr hv
  show w'.ownsRow base _ 2 v' (W ++ V).length (prCells (W ++ V))
  rw [prCells_append, List.length_append]
  exact hown'
theorem wpList_append_rY {w : World} {ops : Array Oper} {rest : List Oper} {o : Oper} {a : Act} {Q : Exit → Act → World → Prop} (hgd : o.guard = none) (s x : Operand)
    (ho : o.op = .call { callee := .builtin .append, args := #[s, x], argTypes := #[56, 56] })
    (base : Nat) (v : Value) (W V : List (Prr St)) (hs : a.eval s = v) (hown : OwnRY w base v W) (lb c : Nat) (hx : a.eval x = .slice (some ⟨lb, 0, none⟩) V.length c)
    (hc : w.heap[lb]? = some (.cells (prCells V).toArray 55 (0, 0))) (hone : ∀ q ∈ V, q.u.oneCell' = true ∧ q.v.oneCell' = true) (hbase : base ≤ w.heap.size) (hlen : W.length + V.length ≤ 2199023255552)
    (h : ∀ v' w', OwnRY w' base v' (W ++ V) → w.grownBy w' v.ownBlock → (v'.ownBlock = v.ownBlock ∨ v'.ownBlock = some w.heap.size) → wpList Try.prog ops Q rest (a.put o.dst v') w') :
    wpList Try.prog ops Q (o :: rest) a w := by
  refine wpList_plain hgd fun K hK => ?_
  exact wp_append_rY s x ho base v W V hs hown lb c hx hc hone hbase hlen fun v' w' h1 h2 h3 => hK _ _ (h v' w' h1 h2 h3)

/-- The same slice, but for its spare room, reads the same list. -/
theorem Sl.det {w : World} {B : Nat → Prop} {l : List St} {v : Value} (h : Sl w B l v) : ∀ {B' : Nat → Prop} {l' : List St} {v' : Value}, Sl w B' l' v' → (∃ ao n c c', v = .slice ao n c ∧ v' = .slice ao n c') → l = l' := by
  induction h with
  | empty ao cap hm hn =>
    intro B' l' v' h' ⟨ao', n, c, c', e1, e2⟩
    obtain ⟨a1, a2, rfl, -⟩ := h'.len
    simp at e1 e2
    have : l'.length = 0 := by omega
    exact (List.length_eq_zero_iff.1 this).symm
  | full l b off cap X Y Z hb hl hc hm hs hcell hx ha hz iha ihz =>
    intro B' l' v' h' ⟨ao', n, c, c', e1, e2⟩
    obtain ⟨a1, a2, rfl, -⟩ := h'.len
    simp at e1 e2
    obtain ⟨rfl, rfl, rfl⟩ := e1
    obtain ⟨rfl, hlen, rfl⟩ := e2
    have hl' : l' ≠ [] := by rintro rfl; simp at hlen; exact hl (by simpa using hlen.symm)
    obtain ⟨b', off', X', Y', Z', he, hel⟩ := h'.elems hl'
    simp at he
    obtain ⟨rfl, rfl⟩ := he
    refine List.ext_getElem hlen.symm fun i h1 h2 => ?_
    obtain ⟨x, gx, ga, gb, -⟩ := hel i h2
    have y := hcell i h1
    have e0 := y.1.symm.trans x.1
    have e1 := y.2.1.symm.trans x.2.1
    have e2 := y.2.2.1.symm.trans x.2.2.1
    have e3 := y.2.2.2.1.symm.trans x.2.2.2.1
    have e4 := y.2.2.2.2.1.symm.trans x.2.2.2.2.1
    have e5 := y.2.2.2.2.2.symm.trans x.2.2.2.2.2
    simp at e0 e1 e2 e3 e4 e5
    obtain ⟨ao2, c2, ev2, -⟩ := (hx i h1).len
    obtain ⟨ao3, c3, ev3, -⟩ := (ha i h1).len
    obtain ⟨ao4, c4, ev4, -⟩ := (hz i h1).len
    have e6 : l[i].x = l'[i].x := (hx i h1).det gx ⟨ao2, _, c2, c2, ev2, by rw [← e3]; exact ev2⟩
    have e7 : l[i].a = l'[i].a := iha i h1 ga ⟨ao3, _, c3, c3, ev3, by rw [← e4]; exact ev3⟩
    have e8 : l[i].b = l'[i].b := ihz i h1 gb ⟨ao4, _, c4, c4, ev4, by rw [← e5]; exact ev4⟩
    rw [← St.eta l[i], ← St.eta l'[i], e0, e1, e2, e6, e7, e8]

open Classical in
/-- The list that begins at a place. -/
noncomputable def treeY (w : World) (p : Plc) : List St :=
  if h : ∃ l, l ≠ [] ∧ ∃ B c, Sl w B l (.slice (some p.a) l.length c) ∧ (l.length : Int) = p.n then Classical.choose h else []
theorem treeY_eq {w : World} {B : Nat → Prop} {l : List St} {b off c n : Nat} (h : Sl w B l (.slice (some ⟨b, off, none⟩) n c)) (hl : l ≠ []) : treeY w ⟨⟨b, off, none⟩, n⟩ = l := by
  obtain ⟨_, _, e, -⟩ := h.len
  simp at e
  obtain ⟨-, rfl, -⟩ := e
  have hex : ∃ l', l' ≠ [] ∧ ∃ B c, Sl w B l' (.slice (some (⟨⟨b, off, none⟩, l.length⟩ : Plc).a) l'.length c) ∧ (l'.length : Int) = (⟨⟨b, off, none⟩, l.length⟩ : Plc).n := ⟨l, hl, B, c, h, rfl⟩
  unfold treeY
  rw [dif_pos hex]
  obtain ⟨-, B', c', h', hn⟩ := Classical.choose_spec hex
  have hn1 : ((Classical.choose hex).length : Int) = (l.length : Int) := hn
  have hn' : (Classical.choose hex).length = l.length := by omega
  refine (h.det h' ⟨some ⟨b, off, none⟩, l.length, c, c', rfl, ?_⟩).symm
  rw [hn']
theorem Sl.cells {w : World} {B : Nat → Prop} {l : List St} {v : Value} (h : Sl w B l v) : Sl w (fun b => B b ∧ ∃ c e f, w.heap[b]? = some (.cells c e f)) l v := by
  induction h with
  | empty ao cap hm hn => exact .empty ao cap hm hn
  | full l b off cap X Y Z hb hl hc hm hs hcell hx ha hz iha ihz =>
    exact .full l b off cap X Y Z ⟨hb, cells_at (hcell 0 (List.length_pos_iff.2 hl)).1⟩ hl hc hm hs hcell (fun i h => (hx i h).cells) iha ihz
theorem Sl.block {w : World} {B : Nat → Prop} {l : List St} {b off n cap : Nat} (h : Sl w B l (.slice (some ⟨b, off, none⟩) n cap)) (hl : l ≠ []) : B b := by
  cases h with
  | empty _ _ _ _ => exact absurd rfl hl
  | full _ _ _ _ X Y Z hb => exact hb

/-- Of statements. -/
noncomputable def labY : Lab St where
  sons t := [t.a, t.b]
  hd a b := (a.k = b.k ∧ a.s = b.s ∧ a.t = b.t) ∧ a.x = b.x
  c := 2
  num _ := rfl
  eqv := ⟨fun _ => ⟨⟨rfl, rfl, rfl⟩, rfl⟩, fun h => ⟨⟨h.1.1.symm, h.1.2.1.symm, h.1.2.2.symm⟩, h.2.symm⟩, fun h g => ⟨⟨h.1.1.trans g.1.1, h.1.2.1.trans g.1.2.1, h.1.2.2.trans g.1.2.2⟩, h.2.trans g.2⟩⟩
  all t u h e := by
    have : t.a = u.a ∧ t.b = u.b := by simpa using e
    rw [← t.eta, ← u.eta, h.1.1, h.1.2.1, h.1.2.2, h.2, this.1, this.2]
  wt t := SizeOf.sizeOf t
  low t s hs x hx := by
    have hs' : s = t.a ∨ s = t.b := by simpa using hs
    cases t
    have := List.sizeOf_lt_of_mem hx
    rcases hs' with rfl | rfl
    · simp only [St.a] at *
      simp only [St.node.sizeOf_spec]
      omega
    · simp only [St.b] at *
      simp only [St.node.sizeOf_spec]
      omega
  self t u h := by subst h; exact ⟨⟨rfl, rfl, rfl⟩, rfl⟩

end Go.Proofs.Ytijpmnenegdmnaa
