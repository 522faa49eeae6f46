/- Statements without one that goes to the next line: l10NoNext. -/
import Derived.Test.YtijpmnenegdmnaaQStAnyM
namespace Go.Proofs.Ytijpmnenegdmnaa
open Go.RowKit
set_option maxRecDepth 8000
set_option linter.unusedSimpArgs false

mutual
/-- A print in the place of what goes to the next line. -/
def nn : St → St
  | .node k s t x a b => if k = 8 then .node 1 ⟨#[]⟩ ⟨#[]⟩ [.node 1 1 ⟨#[]⟩ []] [] [] else .node k s t x (nnL a) (nnL b)
def nnL : List St → List St
  | [] => []
  | t :: r => nn t :: nnL r
end
theorem nnL_length (l : List St) : (nnL l).length = l.length := by
  induction l with
  | nil => rfl
  | cons t r ih => simp only [nnL, List.length_cons, ih]
theorem nnL_take (l : List St) (k : Nat) (h : k < l.length) : nnL (l.take (k + 1)) = nnL (l.take k) ++ [nn l[k]] := by
  induction l generalizing k with
  | nil => simp at h
  | cons t r ih =>
    cases k with
    | zero => simp [nnL]
    | succ k => simp only [List.take_succ_cons, nnL, List.getElem_cons_succ, List.cons_append]; rw [ih k (by simpa using h)]
theorem nnL_all (l : List St) : nnL (l.take l.length) = nnL l := by rw [List.take_length]
theorem nnL_mem {l : List St} {y : St} (h : y ∈ nnL l) : ∃ t ∈ l, y = nn t := by
  induction l with
  | nil => simp [nnL] at h
  | cons t r ih =>
    rw [nnL] at h
    rcases List.mem_cons.1 h with rfl | h
    · exact ⟨t, by simp, rfl⟩
    · obtain ⟨u, hu, e⟩ := ih h
      exact ⟨u, List.mem_cons_of_mem _ hu, e⟩
theorem nn_eq (t : St) : nn t = if t.k = 8 then .node 1 ⟨#[]⟩ ⟨#[]⟩ [.node 1 1 ⟨#[]⟩ []] [] [] else .node t.k t.s t.t t.x (nnL t.a) (nnL t.b) := by
  cases t; rw [nn]; rfl
theorem ShT.node {k : Int} {s t : ByteArray} {x : List Ex} {a b : List St} (hs : s.size ≤ 100) (ht : t.size ≤ 100) (hx : ∀ e ∈ x, ∀ y, InX y e → y.s.size ≤ 100) (ha : ∀ y ∈ a, ShT y) (hb : ∀ y ∈ b, ShT y) : ShT (.node k s t x a b) := (DyN.mk (c := 200 + szx x + szy a + szy b) hs ht hx ha hb (Nat.le_refl _)).1
theorem nn_sh (t : St) : ShT t → ShT (nn t) := by
  refine St.ind (P := fun t => ShT t → ShT (nn t)) (fun t iha ihb h => ?_) t
  rw [nn_eq]
  by_cases h8 : t.k = 8
  · rw [if_pos h8]
    refine ShT.node (by decide) (by decide) (fun e he y hy => ?_) (by simp) (by simp)
    obtain rfl := List.mem_singleton.1 he
    cases hy with
    | self => exact (by decide : (⟨#[]⟩ : ByteArray).size ≤ 100)
    | sub hm _ => cases hm
  · rw [if_neg h8]
    refine ShT.node h.sizes.1 h.sizes.2 h.x (fun y hy => ?_) (fun y hy => ?_)
    · obtain ⟨u, hu, rfl⟩ := nnL_mem hy
      exact iha u hu (h.a u hu)
    · obtain ⟨u, hu, rfl⟩ := nnL_mem hy
      exact ihb u hu (h.b u hu)
theorem szy_nnL {l : List St} (h : ∀ t ∈ l, (nn t).sz ≤ 2 * t.sz + 1) : szy (nnL l) ≤ 2 * szy l := by
  induction l with
  | nil => simp [nnL, szy]
  | cons t r ih =>
    have h1 := h t (by simp)
    have h2 := ih fun y hy => h y (List.mem_cons_of_mem _ hy)
    rw [nnL]
    simp only [szy]
    omega
theorem nn_sz (t : St) : (nn t).sz ≤ 2 * t.sz + 1 := by
  refine St.ind (P := fun t => (nn t).sz ≤ 2 * t.sz + 1) (fun t iha ihb => ?_) t
  rw [nn_eq]
  by_cases h8 : t.k = 8
  · rw [if_pos h8]
    simp only [St.sz, szx, szy, Ex.sz, show (⟨#[]⟩ : ByteArray).size = 0 from rfl]
    omega
  · rw [if_neg h8]
    have h1 := szy_nnL iha
    have h2 := szy_nnL ihb
    rw [t.sz_eq]
    simp only [St.sz]
    omega

/-- Old blocks, and new ones that are not the row. -/
def oc (O : Nat → Prop) (w : World) (base : Nat) (ob : Option Nat) (b : Nat) : Prop := O b ∨ (nf w base b ∧ some b ≠ ob)
def RdC (O : Nat → Prop) (w : World) (base : Nat) (ob : Option Nat) (q : Yv) : Prop := El w (oc O w base ob) q.t.x q.x ∧ Sl w (oc O w base ob) q.t.a q.a ∧ Sl w (oc O w base ob) q.t.b q.b
/-- A row of statements, of the call's own; what is within is old, or new and not the row. -/
def OwnC (O : Nat → Prop) (w : World) (base : Nat) (v : Value) (L : List Yv) : Prop := w.ownsRow base 31 6 v L.length (stCells L) ∧ ∀ q ∈ L, RdC O w base v.ownBlock q ∧ ShT q.t
theorem oc_kept {O : Nat → Prop} {w w' : World} {base : Nat} {ob ob' : Option Nat} (hk : ∀ b, oc O w base ob b → b < w.heap.size → w'.heap[b]? = w.heap[b]? ∧ (O b ∨ some b ≠ ob')) {b : Nat} (hb : oc O w base ob b) (hlt : b < w.heap.size) : oc O w' base ob' b := by
  obtain ⟨h1, h2⟩ := hk b hb hlt
  rcases hb with hb | hb
  · exact .inl hb
  · rcases h2 with h2 | h2
    · exact .inl h2
    · exact .inr ⟨⟨hb.1.1, fun o => by rw [World.frozen?_of_block (w := w) (a := ⟨b, o, none⟩) h1]; exact hb.1.2 o⟩, h2⟩
theorem RdC.kept {O : Nat → Prop} {w w' : World} {base : Nat} {ob ob' : Option Nat} {q : Yv} (h : RdC O w base ob q) (hk : ∀ b, oc O w base ob b → b < w.heap.size → w'.heap[b]? = w.heap[b]? ∧ (O b ∨ some b ≠ ob')) : RdC O w' base ob' q := by
  refine ⟨?_, ?_, ?_⟩
  · exact ((h.1.imp (C := fun b => oc O w base ob b ∧ b < w.heap.size) fun _ hb hlt => ⟨hb, hlt⟩).kept fun b hb hlt => (hk b hb.1 hlt).1).imp fun _ hb _ => oc_kept hk hb.1 hb.2
  · exact ((h.2.1.imp (C := fun b => oc O w base ob b ∧ b < w.heap.size) fun _ hb hlt => ⟨hb, hlt⟩).kept fun b hb hlt => (hk b hb.1 hlt).1).imp fun _ hb _ => oc_kept hk hb.1 hb.2
  · exact ((h.2.2.imp (C := fun b => oc O w base ob b ∧ b < w.heap.size) fun _ hb hlt => ⟨hb, hlt⟩).kept fun b hb hlt => (hk b hb.1 hlt).1).imp fun _ hb _ => oc_kept hk hb.1 hb.2
theorem OwnC.grow {O : Nat → Prop} {w w' : World} {base : Nat} {v : Value} {L : List Yv} (h : OwnC O w base v L) (hb : Below w.heap.size w w') : OwnC O w' base v L :=
  ⟨own_grow h.1 hb, fun q hq => ⟨(h.2 q hq).1.kept fun b hb' hlt => ⟨hb.block b hlt, hb'.imp id (·.2)⟩, (h.2 q hq).2⟩⟩
theorem OwnC.sl {O : Nat → Prop} {w : World} {base : Nat} {v : Value} {L : List Yv} (h : OwnC O w base v L) : Sl w (oc O w base none) (L.map Yv.t) v :=
  sl_of_row h.1 (fun k _ hn => .inr ⟨hn, by simp⟩) fun q hq => ⟨⟨(h.2 q hq).1.1.imp fun _ hb _ => hb.imp id fun h => ⟨h.1, by simp⟩, (h.2 q hq).1.2.1.imp fun _ hb _ => hb.imp id fun h => ⟨h.1, by simp⟩, (h.2 q hq).1.2.2.imp fun _ hb _ => hb.imp id fun h => ⟨h.1, by simp⟩⟩, (h.2 q hq).2.sizes⟩

/-- One statement more behind such a row. -/
theorem wp_append_c {O : Nat → Prop} {w : World} {o : Oper} {a : Act} {K : Act → World → Prop} {Q : Exit → Act → World → Prop} (s x : Operand)
    (ho : o.op = .call { callee := .builtin .append, args := #[s, x], argTypes := #[29, 29] })
    (base : Nat) (v : Value) (L : List Yv) (q : Yv) (hs : a.eval s = v) (hown : OwnC O w base v L) (hO : ∀ b, O b → b < base) (lb : Nat) (hx : a.eval x = .slice (some ⟨lb, 0, none⟩) 1 1)
    (hc : w.heap[lb]? = some (.cells #[.int .i64 q.t.k, .string q.t.s, .string q.t.t, q.x, q.a, q.b] 31 (0, 0)))
    (hq : RdC O w base v.ownBlock q) (hd : ShT q.t) (hbase : base ≤ w.heap.size) (hlen : L.length ≤ 1000000000000)
    (h : ∀ v' w', OwnC O w' base v' (L ++ [q]) → w.grownBy w' v.ownBlock → (v'.ownBlock = v.ownBlock ∨ v'.ownBlock = some w.heap.size) → K (a.put o.dst v') w') :
    o.wp Try.prog a w K Q := by
  obtain ⟨i0, hi, hz0, hz1, hz2⟩ := info_parts (show (Try.prog.info? 31).map (fun i => (i.zero, i.size, i.bytes)) = some (some (.agg #[.int .i64 0, .string ByteArray.empty, .string ByteArray.empty, .slice none 0 0, .slice none 0 0, .slice none 0 0]), 6, 112) by kernel_rfl)
  have hones : ∀ u ∈ stCells [q], u.oneCell' = true := by
    intro u hu
    obtain ⟨_, _, e1, -⟩ := hq.1.len
    obtain ⟨_, _, e2, -⟩ := hq.2.1.len
    obtain ⟨_, _, e3, -⟩ := hq.2.2.len
    simp only [stCells, List.mem_cons, List.not_mem_nil, or_false] at hu
    rcases hu with rfl | rfl | rfl | rfl | rfl | rfl
    · rfl
    · rfl
    · rfl
    · rw [e1]; simp [Value.oneCell']
    · rw [e2]; simp [Value.oneCell']
    · rw [e3]; simp [Value.oneCell']
  have hnews : ∀ j u, (stCells [q])[j]? = some u → w.cell? ((⟨lb, 0, none⟩ : Addr).add j) = some u := by
    intro j u hu
    rw [Addr.add_lit, Nat.zero_add, cell_of_row w lb j _ _ (0, 0) hc]
    simpa [stCells] using hu
  obtain ⟨v', w', hr, hown', hgr, -, hv⟩ := run_append_own_at (P := Try.prog) w base 29 o.type 31 i0 _ 6 112 Try.underlying29 hi hz0 hz1 hz2 rfl (by decide) v L.length (stCells L) hown.1 ⟨lb, 0, none⟩ 1 1 (stCells [q]) rfl hnews hones (by unfold maxLen; omega) (by omega) hbase
  unfold Oper.wp execOp
  simp only [ho, resolve, invoke, builtin, Sem.run_bind, Sem.run_pure, Result.andThen_ok, List.map_toArray, List.map_cons, List.map_nil, hs, hx, hr]
  have hk : ∀ b, oc O w base v.ownBlock b → b < w.heap.size → w'.heap[b]? = w.heap[b]? ∧ (O b ∨ some b ≠ v'.ownBlock) := by
    intro b hb hlt
    have hne : some b ≠ v.ownBlock := by
      rcases hb with hb | hb
      · intro e
        have := (World.ownsRow.lt hown.1 b e.symm).1
        have := hO b hb
        omega
      · exact hb.2
    refine ⟨hgr.block b hlt hne, .inr ?_⟩
    rcases hv with hv | hv
    · rw [hv]; exact hne
    · rw [hv]; intro e; simp at e; omega
  refine h v' w' ⟨?_, fun p hp => ?_⟩ hgr hv
  · rw [stCells_append, List.length_append]
    exact hown'
  · rcases List.mem_append.1 hp with hp | hp
    · exact ⟨(hown.2 p hp).1.kept hk, (hown.2 p hp).2⟩
    · obtain rfl : p = q := by simpa using hp
      exact ⟨hq.kept hk, hd⟩
theorem wpList_append_c {O : Nat → Prop} {w : World} {ops : Array Oper} {rest : List Oper} {o : Oper} {a : Act} {Q : Exit → Act → World → Prop} (hgd : o.guard = none) (s x : Operand)
    (ho : o.op = .call { callee := .builtin .append, args := #[s, x], argTypes := #[29, 29] })
    (base : Nat) (v : Value) (L : List Yv) (q : Yv) (hs : a.eval s = v) (hown : OwnC O w base v L) (hO : ∀ b, O b → b < base) (lb : Nat) (hx : a.eval x = .slice (some ⟨lb, 0, none⟩) 1 1)
    (hc : w.heap[lb]? = some (.cells #[.int .i64 q.t.k, .string q.t.s, .string q.t.t, q.x, q.a, q.b] 31 (0, 0)))
    (hq : RdC O w base v.ownBlock q) (hd : ShT q.t) (hbase : base ≤ w.heap.size) (hlen : L.length ≤ 1000000000000)
    (h : ∀ v' w', OwnC O w' base v' (L ++ [q]) → w.grownBy w' v.ownBlock → (v'.ownBlock = v.ownBlock ∨ v'.ownBlock = some w.heap.size) → wpList Try.prog ops Q rest (a.put o.dst v') w') :
    wpList Try.prog ops Q (o :: rest) a w := by
  refine wpList_plain hgd fun K hK => ?_
  exact wp_append_c s x ho base v L q hs hown hO lb hx hc hq hd hbase hlen fun v' w' h1 h2 h3 => hK _ _ (h v' w' h1 h2 h3)

/-- Old blocks, and new ones from n on. -/
def On (O : Nat → Prop) (w : World) (n b : Nat) : Prop := O b ∨ nf w n b
theorem on_kept {O : Nat → Prop} {w w' : World} {n : Nat} (hk : ∀ b, On O w n b → b < w.heap.size → w'.heap[b]? = w.heap[b]?) {b : Nat} (hb : On O w n b) (hlt : b < w.heap.size) : On O w' n b :=
  hb.imp id fun h => ⟨h.1, fun o => by rw [World.frozen?_of_block (w := w) (a := ⟨b, o, none⟩) (hk b hb hlt)]; exact h.2 o⟩
theorem El.onKeep {O : Nat → Prop} {w w' : World} {n : Nat} {l : List Ex} {v : Value} (h : El w (On O w n) l v) (hk : ∀ b, On O w n b → b < w.heap.size → w'.heap[b]? = w.heap[b]?) : El w' (On O w' n) l v :=
  ((h.imp (C := fun b => On O w n b ∧ b < w.heap.size) fun _ hb hlt => ⟨hb, hlt⟩).kept fun b hb hlt => hk b hb.1 hlt).imp fun _ hb _ => on_kept hk hb.1 hb.2
theorem Sl.onKeep {O : Nat → Prop} {w w' : World} {n : Nat} {l : List St} {v : Value} (h : Sl w (On O w n) l v) (hk : ∀ b, On O w n b → b < w.heap.size → w'.heap[b]? = w.heap[b]?) : Sl w' (On O w' n) l v :=
  ((h.imp (C := fun b => On O w n b ∧ b < w.heap.size) fun _ hb hlt => ⟨hb, hlt⟩).kept fun b hb hlt => hk b hb.1 hlt).imp fun _ hb _ => on_kept hk hb.1 hb.2

theorem on_far {w w1 w' : World} {B : Nat → Prop} {xb n : Nat} (hg : w1.grownBy w' (some xb)) (hs : w.heap.size ≤ xb) (hn : xb < n) : ∀ b, On (fun b => B b ∧ b < w.heap.size) w1 n b → b < w1.heap.size → w'.heap[b]? = w1.heap[b]? := by
  intro b hb hlt
  refine hg.block b hlt fun e => ?_
  simp at e
  rcases hb with h | h
  · have := h.2; omega
  · have := h.1; omega
/-- What l10NoNext answers. -/
def NNr (O : Nat → Prop) (w' : World) (base : Nat) (l : List St) (u : Value) : Prop := ∃ M : List Yv, M.map Yv.t = nnL l ∧ OwnC O w' base u M
def NN (l : List St) : Prop := ∀ (B : Nat → Prop) (v : Value) (w : World), Sl w B l v → (∀ t ∈ l, ShT t) → l.length ≤ 1000000000000 →
  Calls Try.prog 36 #[v] w fun e w' => ∃ u, e = .returned u ∧ NNr (fun b => B b ∧ b < w.heap.size) w' w.heap.size l u ∧ Below w.heap.size w w'
theorem NNr.sl {O : Nat → Prop} {w : World} {base : Nat} {l : List St} {u : Value} (h : NNr O w base l u) : Sl w (oc O w base none) (nnL l) u := by
  obtain ⟨M, e, ho⟩ := h
  rw [← e]
  exact ho.sl
theorem NNr.shape {O : Nat → Prop} {w : World} {base : Nat} {l : List St} {u : Value} (h : NNr O w base l u) : ∃ o n c, u = .slice o n c := by
  obtain ⟨o, c, e, -⟩ := h.sl.len
  exact ⟨_, _, _, e⟩

set_option maxHeartbeats 8000000 in
theorem nn_step (l : List St) (iha : ∀ t ∈ l, NN t.a ∧ NN t.b) (h0 : l ≠ [] → NN []) (hbig : ∀ t ∈ l, t.a.length ≤ 1000000000000 ∧ t.b.length ≤ 1000000000000) : NN l := by
  intro B v w h hsh hln
  obtain ⟨ao, cap, rfl, hl1, hl2, hl3⟩ := h.len
  have hm : cap ≤ 9223372036854775807 := by unfold maxLen at hl2; omega
  have HI := Hid.mk iha
  have H0 := Hid.mk h0
  have HS := Hid.mk hsh
  have HBG := Hid.mk hbig
  have H1 : Hid (Sl w (fun b => B b ∧ b < w.heap.size) l (.slice ao l.length cap)) := h.imp fun _ hb hlt => ⟨hb, hlt⟩
  have HO1 : Hid (OwnC (fun b => B b ∧ b < w.heap.size) (w.alloc (.cells #[] 31)) w.heap.size (.slice (some ⟨w.heap.size, 0, none⟩) 0 0) []) := ⟨⟨rfl, .inr ⟨_, 0, _, rfl, Nat.le_refl _, (MapKept.heap_alloc w _).1, Nat.le_refl _, Nat.zero_le _, rfl, rfl⟩⟩, by simp⟩
  have HE1 : Hid (([] : List Yv).map Yv.t = nnL (l.take 0)) := rfl
  have HB1 : Below w.heap.size w (w.alloc (.cells #[] 31)) := (Below.refl _ _).alloc (Nat.le_refl _) _
  clear iha h0 hsh h hl2 hl3 hbig
  go_enter Try.func36, Try.ntmps36
  go_wp2
  go_loopw [3, 4] (fun V i wr => ∃ (k : Nat) (M : List Yv), k ≤ l.length ∧ i = .int .i64 k ∧ Hid (M.map Yv.t = nnL (l.take k)) ∧ Hid (OwnC (fun b => B b ∧ b < w.heap.size) wr w.heap.size V M) ∧ Below w.heap.size w wr) (fun _ i _ => l.length - (intOf i).toNat)
  case atStart => exact ⟨0, [], Nat.zero_le _, rfl, HE1, HO1, HB1⟩
  case round =>
    clear HO1 HE1 HB1
    obtain ⟨k, M, hk, rfl, HE, HO, hbel⟩ := hrel
    obtain ⟨V, hV⟩ : ∃ V, V = u3 := ⟨_, rfl⟩
    subst hV
    have hs1 := hbel.size
    by_cases hkl : k < l.length
    · have hi1 : (k : Int) < (l.length : Int) := by omega
      have hne : l ≠ [] := by intro hn; rw [hn] at hkl; simp at hkl
      obtain ⟨bb, off, X, Y, Z, rfl, hel⟩ := H1.out.elems hne
      obtain ⟨h3, hx, hy, hz, -⟩ := hel k hkl
      have HN0 := Hid.mk (H0.out hne)
      have HIa := Hid.mk (HI.out _ (List.getElem_mem hkl)).1
      have HIb := Hid.mk (HI.out _ (List.getElem_mem hkl)).2
      have HSt := Hid.mk (HS.out _ (List.getElem_mem hkl))
      have HBt := Hid.mk (HBG.out _ (List.getElem_mem hkl))
      have HTK := Hid.mk (nnL_take l k hkl)
      have HML : Hid (M.length ≤ 1000000000000) := by
        refine Hid.mk ?_
        have e := congrArg List.length HE.out
        rw [List.length_map, nnL_length, List.length_take] at e
        omega
      obtain ⟨t, ht⟩ : ∃ t, l[k] = t := ⟨_, rfl⟩
      rw [ht] at h3 hx hy hz HIa HIb HSt HBt HTK
      clear ht hel
      obtain ⟨vx, hvx⟩ : ∃ v, X k = v := ⟨_, rfl⟩
      obtain ⟨vy, hvy⟩ : ∃ v, Y k = v := ⟨_, rfl⟩
      obtain ⟨vz, hvz⟩ : ∃ v, Z k = v := ⟨_, rfl⟩
      rw [hvx, hvy, hvz] at h3
      rw [hvx] at hx
      rw [hvy] at hy
      rw [hvz] at hz
      clear hvx hvy hvz
      obtain ⟨xo, xn, xc, rfl⟩ : ∃ o n c, vx = .slice o n c := by obtain ⟨o, c, h, -⟩ := hx.len; exact ⟨_, _, _, h⟩
      obtain ⟨yo, yn, yc, rfl⟩ : ∃ o n c, vy = .slice o n c := by obtain ⟨o, c, h, -⟩ := hy.len; exact ⟨_, _, _, h⟩
      obtain ⟨zo, zn, zc, rfl⟩ : ∃ o n c, vz = .slice o n c := by obtain ⟨o, c, h, -⟩ := hz.len; exact ⟨_, _, _, h⟩
      obtain ⟨c0, c1, c2, c3, c4, c5⟩ := h3.kept (w' := wr) (hbel.block bb (World.block_lt_of_cell? w _ h3.1))
      have HX := Hid.mk (hx.grow hbel)
      have HY := Hid.mk (hy.grow hbel)
      have HZ := Hid.mk (hz.grow hbel)
      clear hx hy hz h3
      have HW : Hid (Below wr.heap.size wr (wr.alloc (.cells #[.int .i64 t.k, .string t.s, .string t.t, .slice xo xn xc, .slice yo yn yc, .slice zo zn zc] 31))) := (Below.refl _ _).alloc (Nat.le_refl _) _
      have HX1 := Hid.mk (Bz6.new wr (.int .i64 t.k) (.string t.s) (.string t.t) (.slice xo xn xc) (.slice yo yn yc) (.slice zo zn zc))
      by_cases h8 : t.k = 8
      · have h8b : (t.k == 8) = true := by rw [h8]; rfl
        have H8 := Hid.mk h8
        clear h8
        go_wp2_with fail
        refine (l8Int_any 1 _).mono ?_
        rintro e w0 ⟨rfl, hb0⟩
        have hx0 : wr.heap.size < w0.heap.size := by have := hb0.size; have := HX1.out.lt; omega
        have HXz := Hid.mk (HX1.out.grow hb0)
        have HWz := Hid.mk (HW.out.trans (hb0.mono HW.out.size))
        have G1 : w0.grownBy ((((((w0.setCell ⟨wr.heap.size, 0, none⟩ (.int .i64 1)).setCell ⟨wr.heap.size, 1, none⟩ (.string ⟨#[]⟩)).setCell ⟨wr.heap.size, 2, none⟩ (.string ⟨#[]⟩)).setCell ⟨wr.heap.size, 3, none⟩ (.slice (some ⟨w0.heap.size, 0, none⟩) 1 1)).setCell ⟨wr.heap.size, 4, none⟩ (.slice none 0 0)).setCell ⟨wr.heap.size, 5, none⟩ (.slice none 0 0)) (some wr.heap.size) := box6_by w0 wr.heap.size (.int .i64 1) (.string ⟨#[]⟩) (.string ⟨#[]⟩) (.slice (some ⟨w0.heap.size, 0, none⟩) 1 1) (.slice none 0 0) (.slice none 0 0)
        have hss : ((((((w0.setCell ⟨wr.heap.size, 0, none⟩ (.int .i64 1)).setCell ⟨wr.heap.size, 1, none⟩ (.string ⟨#[]⟩)).setCell ⟨wr.heap.size, 2, none⟩ (.string ⟨#[]⟩)).setCell ⟨wr.heap.size, 3, none⟩ (.slice (some ⟨w0.heap.size, 0, none⟩) 1 1)).setCell ⟨wr.heap.size, 4, none⟩ (.slice none 0 0)).setCell ⟨wr.heap.size, 5, none⟩ (.slice none 0 0)).heap.size = w0.heap.size := by simp
        have HXs : Hid (Bz6 ((((((w0.setCell ⟨wr.heap.size, 0, none⟩ (.int .i64 1)).setCell ⟨wr.heap.size, 1, none⟩ (.string ⟨#[]⟩)).setCell ⟨wr.heap.size, 2, none⟩ (.string ⟨#[]⟩)).setCell ⟨wr.heap.size, 3, none⟩ (.slice (some ⟨w0.heap.size, 0, none⟩) 1 1)).setCell ⟨wr.heap.size, 4, none⟩ (.slice none 0 0)).setCell ⟨wr.heap.size, 5, none⟩ (.slice none 0 0)) wr.heap.size (.int .i64 1) (.string ⟨#[]⟩) (.string ⟨#[]⟩) (.slice (some ⟨w0.heap.size, 0, none⟩) 1 1) (.slice none 0 0) (.slice none 0 0)) := HXz.out.six (.int .i64 1) (.string ⟨#[]⟩) (.string ⟨#[]⟩) (.slice (some ⟨w0.heap.size, 0, none⟩) 1 1) (.slice none 0 0) (.slice none 0 0)
        have HWs := Hid.mk (HWz.out.grown G1 (by omega) (fun g e => by cases e; exact Nat.le_refl _))
        have hla := heap_alloc_new ((((((w0.setCell ⟨wr.heap.size, 0, none⟩ (.int .i64 1)).setCell ⟨wr.heap.size, 1, none⟩ (.string ⟨#[]⟩)).setCell ⟨wr.heap.size, 2, none⟩ (.string ⟨#[]⟩)).setCell ⟨wr.heap.size, 3, none⟩ (.slice (some ⟨w0.heap.size, 0, none⟩) 1 1)).setCell ⟨wr.heap.size, 4, none⟩ (.slice none 0 0)).setCell ⟨wr.heap.size, 5, none⟩ (.slice none 0 0)) (.cells #[.int .i64 1, .int .i64 1, .string ⟨#[]⟩, .slice none 0 0] 26)
        rw [hss] at hla
        have A1 : Below ((((((w0.setCell ⟨wr.heap.size, 0, none⟩ (.int .i64 1)).setCell ⟨wr.heap.size, 1, none⟩ (.string ⟨#[]⟩)).setCell ⟨wr.heap.size, 2, none⟩ (.string ⟨#[]⟩)).setCell ⟨wr.heap.size, 3, none⟩ (.slice (some ⟨w0.heap.size, 0, none⟩) 1 1)).setCell ⟨wr.heap.size, 4, none⟩ (.slice none 0 0)).setCell ⟨wr.heap.size, 5, none⟩ (.slice none 0 0)).heap.size ((((((w0.setCell ⟨wr.heap.size, 0, none⟩ (.int .i64 1)).setCell ⟨wr.heap.size, 1, none⟩ (.string ⟨#[]⟩)).setCell ⟨wr.heap.size, 2, none⟩ (.string ⟨#[]⟩)).setCell ⟨wr.heap.size, 3, none⟩ (.slice (some ⟨w0.heap.size, 0, none⟩) 1 1)).setCell ⟨wr.heap.size, 4, none⟩ (.slice none 0 0)).setCell ⟨wr.heap.size, 5, none⟩ (.slice none 0 0)) (((((((w0.setCell ⟨wr.heap.size, 0, none⟩ (.int .i64 1)).setCell ⟨wr.heap.size, 1, none⟩ (.string ⟨#[]⟩)).setCell ⟨wr.heap.size, 2, none⟩ (.string ⟨#[]⟩)).setCell ⟨wr.heap.size, 3, none⟩ (.slice (some ⟨w0.heap.size, 0, none⟩) 1 1)).setCell ⟨wr.heap.size, 4, none⟩ (.slice none 0 0)).setCell ⟨wr.heap.size, 5, none⟩ (.slice none 0 0)).alloc (.cells #[.int .i64 1, .int .i64 1, .string ⟨#[]⟩, .slice none 0 0] 26)) := (Below.refl _ _).alloc (Nat.le_refl _) _
        have HXb : Hid (Bz6 (((((((w0.setCell ⟨wr.heap.size, 0, none⟩ (.int .i64 1)).setCell ⟨wr.heap.size, 1, none⟩ (.string ⟨#[]⟩)).setCell ⟨wr.heap.size, 2, none⟩ (.string ⟨#[]⟩)).setCell ⟨wr.heap.size, 3, none⟩ (.slice (some ⟨w0.heap.size, 0, none⟩) 1 1)).setCell ⟨wr.heap.size, 4, none⟩ (.slice none 0 0)).setCell ⟨wr.heap.size, 5, none⟩ (.slice none 0 0)).alloc (.cells #[.int .i64 1, .int .i64 1, .string ⟨#[]⟩, .slice none 0 0] 26)) wr.heap.size (.int .i64 1) (.string ⟨#[]⟩) (.string ⟨#[]⟩) (.slice (some ⟨w0.heap.size, 0, none⟩) 1 1) (.slice none 0 0) (.slice none 0 0)) := HXs.out.grow A1
        have HW1 : Hid (Below wr.heap.size wr (((((((w0.setCell ⟨wr.heap.size, 0, none⟩ (.int .i64 1)).setCell ⟨wr.heap.size, 1, none⟩ (.string ⟨#[]⟩)).setCell ⟨wr.heap.size, 2, none⟩ (.string ⟨#[]⟩)).setCell ⟨wr.heap.size, 3, none⟩ (.slice (some ⟨w0.heap.size, 0, none⟩) 1 1)).setCell ⟨wr.heap.size, 4, none⟩ (.slice none 0 0)).setCell ⟨wr.heap.size, 5, none⟩ (.slice none 0 0)).alloc (.cells #[.int .i64 1, .int .i64 1, .string ⟨#[]⟩, .slice none 0 0] 26))) := HWs.out.alloc (by omega) (.cells #[.int .i64 1, .int .i64 1, .string ⟨#[]⟩, .slice none 0 0] 26)
        have HXE1 : Hid (El (((((((w0.setCell ⟨wr.heap.size, 0, none⟩ (.int .i64 1)).setCell ⟨wr.heap.size, 1, none⟩ (.string ⟨#[]⟩)).setCell ⟨wr.heap.size, 2, none⟩ (.string ⟨#[]⟩)).setCell ⟨wr.heap.size, 3, none⟩ (.slice (some ⟨w0.heap.size, 0, none⟩) 1 1)).setCell ⟨wr.heap.size, 4, none⟩ (.slice none 0 0)).setCell ⟨wr.heap.size, 5, none⟩ (.slice none 0 0)).alloc (.cells #[.int .i64 1, .int .i64 1, .string ⟨#[]⟩, .slice none 0 0] 26)) (On (fun b => B b ∧ b < w.heap.size) (((((((w0.setCell ⟨wr.heap.size, 0, none⟩ (.int .i64 1)).setCell ⟨wr.heap.size, 1, none⟩ (.string ⟨#[]⟩)).setCell ⟨wr.heap.size, 2, none⟩ (.string ⟨#[]⟩)).setCell ⟨wr.heap.size, 3, none⟩ (.slice (some ⟨w0.heap.size, 0, none⟩) 1 1)).setCell ⟨wr.heap.size, 4, none⟩ (.slice none 0 0)).setCell ⟨wr.heap.size, 5, none⟩ (.slice none 0 0)).alloc (.cells #[.int .i64 1, .int .i64 1, .string ⟨#[]⟩, .slice none 0 0] 26)) (wr.heap.size + 1)) [.node 1 1 ⟨#[]⟩ []] (.slice (some ⟨w0.heap.size, 0, none⟩) 1 1)) := El.aloneD (a := .node 1 1 ⟨#[]⟩ []) hla (.inr ⟨by omega, fun o => frozen_of_row _ _ o _ _ hla⟩) (by decide) (El.zero _ _)
        have z0 := HXz.out.c0
        have z1 := HXz.out.c1
        have z2 := HXz.out.c2
        have z3 := HXz.out.c3
        have z4 := HXz.out.c4
        have z5 := HXz.out.c5
        have zf := HXz.out.fr
        clear HXz HXs HWs HWz hla G1 HX HY HZ HIa HIb HX1 HW A1 hss
        have HX1 := HXb
        clear HXb
        clear c0 c1 c2 c3 c4 c5
        go_upto_region 8 with fail
        clear z0 z1 z2 z3 z4 z5 zf hb0
        generalize (((((((w0.setCell ⟨wr.heap.size, 0, none⟩ (.int .i64 1)).setCell ⟨wr.heap.size, 1, none⟩ (.string ⟨#[]⟩)).setCell ⟨wr.heap.size, 2, none⟩ (.string ⟨#[]⟩)).setCell ⟨wr.heap.size, 3, none⟩ (.slice (some ⟨w0.heap.size, 0, none⟩) 1 1)).setCell ⟨wr.heap.size, 4, none⟩ (.slice none 0 0)).setCell ⟨wr.heap.size, 5, none⟩ (.slice none 0 0)).alloc (.cells #[.int .i64 1, .int .i64 1, .string ⟨#[]⟩, .slice none 0 0] 26)) = w1 at *
        generalize w0.heap.size = lx at *
        have hw1 : wr.heap.size < w1.heap.size := HX1.out.lt
        have q4 := HX1.out.c4
        go_wp2_with fail
        clear q4
        refine (HN0.out (fun b => B b ∧ b < w.heap.size) (.slice none 0 0) w1 (Sl.zero _ _) (by simp) (by simp)).mono ?_
        rintro e w2 ⟨ua, rfl, hA, hbA⟩
        obtain ⟨uo, un, uc, rfl⟩ := hA.shape
        have HA2 : Hid (Sl w2 (On (fun b => B b ∧ b < w.heap.size) w2 (wr.heap.size + 1)) (nnL ([])) (.slice uo un uc)) := hA.sl.imp fun b hb _ => hb.elim (fun h => .inl h.1) (fun h => .inr ⟨by have := h.1.1; omega, h.1.2⟩)
        have HXE2 := Hid.mk (HXE1.out.onKeep (fun b _ hlt => hbA.block b hlt))
        have HW2 := Hid.mk (HW1.out.trans (hbA.mono (by omega)))
        have HX2 := Hid.mk (HX1.out.grow hbA)
        have G3 := gb_set w2 wr.heap.size 4 (.slice uo un uc)
        have HA3 := Hid.mk (HA2.out.onKeep (w' := w2.setCell ⟨wr.heap.size, 4, none⟩ (.slice uo un uc)) (on_far G3 hs1 (by omega)))
        have HXE3 := Hid.mk (HXE2.out.onKeep (on_far G3 hs1 (by omega)))
        have HW3 := Hid.mk (HW2.out.setCell (p := ⟨wr.heap.size, 4, none⟩) (Nat.le_refl _) (.slice uo un uc))
        have HX3 := Hid.mk (HX2.out.put4 (.slice uo un uc))
        have z4 := HX2.out.c4
        have zf := HX2.out.fr
        clear hA hbA HA2 HXE1 HXE2 HW1 HW2 HX1 HX2 G3
        go_upto_region 9 with fail
        clear z4 zf
        generalize w2.setCell ⟨wr.heap.size, 4, none⟩ (.slice uo un uc) = w3 at *
        have hw3 : wr.heap.size < w3.heap.size := HX3.out.lt
        have q5 := HX3.out.c5
        go_wp2_with fail
        clear q5
        refine (HN0.out (fun b => B b ∧ b < w.heap.size) (.slice none 0 0) w3 (Sl.zero _ _) (by simp) (by simp)).mono ?_
        rintro e w4 ⟨ub, rfl, hB, hbB⟩
        obtain ⟨po, pn, pc, rfl⟩ := hB.shape
        have HB4 : Hid (Sl w4 (On (fun b => B b ∧ b < w.heap.size) w4 (wr.heap.size + 1)) (nnL ([])) (.slice po pn pc)) := hB.sl.imp fun b hb _ => hb.elim (fun h => .inl h.1) (fun h => .inr ⟨by have := h.1.1; omega, h.1.2⟩)
        have HA4 := Hid.mk (HA3.out.onKeep (fun b _ hlt => hbB.block b hlt))
        have HXE4 := Hid.mk (HXE3.out.onKeep (fun b _ hlt => hbB.block b hlt))
        have HW4 := Hid.mk (HW3.out.trans (hbB.mono (by omega)))
        have HX4 := Hid.mk (HX3.out.grow hbB)
        have G5 := gb_set w4 wr.heap.size 5 (.slice po pn pc)
        have HA5 := Hid.mk (HA4.out.onKeep (w' := w4.setCell ⟨wr.heap.size, 5, none⟩ (.slice po pn pc)) (on_far G5 hs1 (by omega)))
        have HB5 := Hid.mk (HB4.out.onKeep (w' := w4.setCell ⟨wr.heap.size, 5, none⟩ (.slice po pn pc)) (on_far G5 hs1 (by omega)))
        have HXE5 := Hid.mk (HXE4.out.onKeep (on_far G5 hs1 (by omega)))
        have HW5 := Hid.mk (HW4.out.setCell (p := ⟨wr.heap.size, 5, none⟩) (Nat.le_refl _) (.slice po pn pc))
        have HX5 := Hid.mk (HX4.out.put5 (.slice po pn pc))
        have z5 := HX4.out.c5
        have zf := HX4.out.fr
        clear hB hbB HA3 HA4 HB4 HXE3 HXE4 HW3 HW4 HX3 HX4 G5
        go_upto_region 10 with fail
        clear z5 zf
        generalize w4.setCell ⟨wr.heap.size, 5, none⟩ (.slice po pn pc) = w5 at *
        have hw5 : wr.heap.size < w5.heap.size := HX5.out.lt
        have A6 : Below w5.heap.size w5 (w5.alloc (.cells #[.int .i64 (1), .string (⟨#[]⟩), .string (⟨#[]⟩), (.slice (some ⟨lx, 0, none⟩) 1 1), .slice uo un uc, .slice po pn pc] 31)) := (Below.refl _ _).alloc (Nat.le_refl _) _
        have HN := Hid.mk (heap_alloc_new w5 (.cells #[.int .i64 (1), .string (⟨#[]⟩), .string (⟨#[]⟩), (.slice (some ⟨lx, 0, none⟩) 1 1), .slice uo un uc, .slice po pn pc] 31))
        have HO6 := Hid.mk ((HO.out.grow HW5.out).grow A6)
        have HROW : Hid (∀ g, V.ownBlock = some g → w.heap.size ≤ g ∧ g < wr.heap.size) := fun g hg => World.ownsRow.lt HO.out.1 g hg
        have hin : ∀ b, On (fun b => B b ∧ b < w.heap.size) (w5.alloc (.cells #[.int .i64 (1), .string (⟨#[]⟩), .string (⟨#[]⟩), (.slice (some ⟨lx, 0, none⟩) 1 1), .slice uo un uc, .slice po pn pc] 31)) (wr.heap.size + 1) b → oc (fun b => B b ∧ b < w.heap.size) (w5.alloc (.cells #[.int .i64 (1), .string (⟨#[]⟩), .string (⟨#[]⟩), (.slice (some ⟨lx, 0, none⟩) 1 1), .slice uo un uc, .slice po pn pc] 31)) w.heap.size V.ownBlock b := fun b hb => hb.imp id fun h => ⟨⟨by have := h.1; omega, h.2⟩, fun e => by have := HROW.out b e.symm; have := h.1; omega⟩
        have HQ : Hid (RdC (fun b => B b ∧ b < w.heap.size) (w5.alloc (.cells #[.int .i64 (1), .string (⟨#[]⟩), .string (⟨#[]⟩), (.slice (some ⟨lx, 0, none⟩) 1 1), .slice uo un uc, .slice po pn pc] 31)) w.heap.size V.ownBlock ⟨.node (1) (⟨#[]⟩) (⟨#[]⟩) ([.node 1 1 ⟨#[]⟩ []]) (nnL ([])) (nnL ([])), (.slice (some ⟨lx, 0, none⟩) 1 1), .slice uo un uc, .slice po pn pc⟩) := ⟨(HXE5.out.onKeep (fun b _ hlt => A6.block b hlt)).imp fun b hb _ => hin b hb, (HA5.out.onKeep (fun b _ hlt => A6.block b hlt)).imp fun b hb _ => hin b hb, (HB5.out.onKeep (fun b _ hlt => A6.block b hlt)).imp fun b hb _ => hin b hb⟩
        have HSQ : Hid (ShT (nn t)) := nn_sh t HSt.out
        have HEQ : nn t = .node (1) (⟨#[]⟩) (⟨#[]⟩) ([.node 1 1 ⟨#[]⟩ []]) (nnL ([])) (nnL ([])) := by rw [nn_eq, if_pos H8.out]; rfl
        rw [HEQ] at HSQ HTK
        have HW6 := Hid.mk (hbel.trans ((HW5.out.mono (B' := w.heap.size) hs1).alloc (by omega) (.cells #[.int .i64 (1), .string (⟨#[]⟩), .string (⟨#[]⟩), (.slice (some ⟨lx, 0, none⟩) 1 1), .slice uo un uc, .slice po pn pc] 31)))
        have hbs : w.heap.size ≤ (w5.alloc (.cells #[.int .i64 (1), .string (⟨#[]⟩), .string (⟨#[]⟩), (.slice (some ⟨lx, 0, none⟩) 1 1), .slice uo un uc, .slice po pn pc] 31)).heap.size := HW6.out.size
        have y0 := HX5.out.c0
        have y1 := HX5.out.c1
        have y2 := HX5.out.c2
        have y3 := HX5.out.c3
        have y4 := HX5.out.c4
        have y5 := HX5.out.c5
        clear HA5 HB5 HXE5 HW5 HX5 HO A6 hin HEQ
        go_wp2_with (at_builtin; refine wpList_append_c rfl _ _ rfl w.heap.size V M ⟨.node (1) (⟨#[]⟩) (⟨#[]⟩) ([.node 1 1 ⟨#[]⟩ []]) (nnL ([])) (nnL ([])), (.slice (some ⟨lx, 0, none⟩) 1 1), .slice uo un uc, .slice po pn pc⟩ rfl HO6.out (fun _ h => h.2) w5.heap.size rfl HN.out HQ.out HSQ.out hbs HML.out ?_; rintro V' w7 hO7 hg7 -)
        have HO7 := Hid.mk hO7
        have hb7 : Below w.heap.size w w7 := HW6.out.grown hg7 hbs (fun g hg => (HROW.out g hg).1)
        have HE7 : Hid ((M ++ [(⟨.node (1) (⟨#[]⟩) (⟨#[]⟩) ([.node 1 1 ⟨#[]⟩ []]) (nnL ([])) (nnL ([])), (.slice (some ⟨lx, 0, none⟩) 1 1), .slice uo un uc, .slice po pn pc⟩ : Yv)]).map Yv.t = nnL (l.take (k + 1))) := by show _ = _; rw [List.map_append, HE.out, HTK.out]; rfl
        clear hO7 hg7 HO6 HW6 HN HQ y0 y1 y2 y3 y4 y5
        go_roundw
        case measure => simp [intOf]; omega
        case rel => exact ⟨k + 1, M ++ [⟨.node (1) (⟨#[]⟩) (⟨#[]⟩) ([.node 1 1 ⟨#[]⟩ []]) (nnL ([])) (nnL ([])), (.slice (some ⟨lx, 0, none⟩) 1 1), .slice uo un uc, .slice po pn pc⟩], by omega, by first | rfl | go_num, HE7, HO7, hb7⟩
      · have h8b : (t.k == 8) = false := beq_eq_false_iff_ne.2 h8
        go_upto_region 8 with fail
        clear c0 c1 c2 c3 c4 c5
        generalize wr.alloc (.cells #[.int .i64 t.k, .string t.s, .string t.t, .slice xo xn xc, .slice yo yn yc, .slice zo zn zc] 31) = w1 at *
        have HXE1 := HX
        have HW1 := HW
        have hw1 : wr.heap.size < w1.heap.size := HX1.out.lt
        have q4 := HX1.out.c4
        go_wp2_with fail
        clear q4
        refine (HIa.out (fun b => B b ∧ b < w.heap.size) (.slice yo yn yc) w1 (HY.out.grow HW1.out) (HSt.out.a) (HBt.out.1)).mono ?_
        rintro e w2 ⟨ua, rfl, hA, hbA⟩
        obtain ⟨uo, un, uc, rfl⟩ := hA.shape
        have HA2 : Hid (Sl w2 (On (fun b => B b ∧ b < w.heap.size) w2 (wr.heap.size + 1)) (nnL (t.a)) (.slice uo un uc)) := hA.sl.imp fun b hb _ => hb.elim (fun h => .inl h.1) (fun h => .inr ⟨by have := h.1.1; omega, h.1.2⟩)
        have HXE2 := Hid.mk (HX.out)
        have HW2 := Hid.mk (HW1.out.trans (hbA.mono (by omega)))
        have HX2 := Hid.mk (HX1.out.grow hbA)
        have G3 := gb_set w2 wr.heap.size 4 (.slice uo un uc)
        have HA3 := Hid.mk (HA2.out.onKeep (w' := w2.setCell ⟨wr.heap.size, 4, none⟩ (.slice uo un uc)) (on_far G3 hs1 (by omega)))
        have HXE3 := Hid.mk (HX.out)
        have HW3 := Hid.mk (HW2.out.setCell (p := ⟨wr.heap.size, 4, none⟩) (Nat.le_refl _) (.slice uo un uc))
        have HX3 := Hid.mk (HX2.out.put4 (.slice uo un uc))
        have z4 := HX2.out.c4
        have zf := HX2.out.fr
        clear hA hbA HA2 HXE1 HXE2 HW1 HW2 HX1 HX2 G3
        go_upto_region 9 with fail
        clear z4 zf
        generalize w2.setCell ⟨wr.heap.size, 4, none⟩ (.slice uo un uc) = w3 at *
        have hw3 : wr.heap.size < w3.heap.size := HX3.out.lt
        have q5 := HX3.out.c5
        go_wp2_with fail
        clear q5
        refine (HIb.out (fun b => B b ∧ b < w.heap.size) (.slice zo zn zc) w3 (HZ.out.grow HW3.out) (HSt.out.b) (HBt.out.2)).mono ?_
        rintro e w4 ⟨ub, rfl, hB, hbB⟩
        obtain ⟨po, pn, pc, rfl⟩ := hB.shape
        have HB4 : Hid (Sl w4 (On (fun b => B b ∧ b < w.heap.size) w4 (wr.heap.size + 1)) (nnL (t.b)) (.slice po pn pc)) := hB.sl.imp fun b hb _ => hb.elim (fun h => .inl h.1) (fun h => .inr ⟨by have := h.1.1; omega, h.1.2⟩)
        have HA4 := Hid.mk (HA3.out.onKeep (fun b _ hlt => hbB.block b hlt))
        have HXE4 := Hid.mk (HX.out)
        have HW4 := Hid.mk (HW3.out.trans (hbB.mono (by omega)))
        have HX4 := Hid.mk (HX3.out.grow hbB)
        have G5 := gb_set w4 wr.heap.size 5 (.slice po pn pc)
        have HA5 := Hid.mk (HA4.out.onKeep (w' := w4.setCell ⟨wr.heap.size, 5, none⟩ (.slice po pn pc)) (on_far G5 hs1 (by omega)))
        have HB5 := Hid.mk (HB4.out.onKeep (w' := w4.setCell ⟨wr.heap.size, 5, none⟩ (.slice po pn pc)) (on_far G5 hs1 (by omega)))
        have HXE5 := Hid.mk (HX.out)
        have HW5 := Hid.mk (HW4.out.setCell (p := ⟨wr.heap.size, 5, none⟩) (Nat.le_refl _) (.slice po pn pc))
        have HX5 := Hid.mk (HX4.out.put5 (.slice po pn pc))
        have z5 := HX4.out.c5
        have zf := HX4.out.fr
        clear hB hbB HA3 HA4 HB4 HXE3 HXE4 HW3 HW4 HX3 HX4 G5
        go_upto_region 10 with fail
        clear z5 zf
        generalize w4.setCell ⟨wr.heap.size, 5, none⟩ (.slice po pn pc) = w5 at *
        have hw5 : wr.heap.size < w5.heap.size := HX5.out.lt
        have A6 : Below w5.heap.size w5 (w5.alloc (.cells #[.int .i64 (t.k), .string (t.s), .string (t.t), (.slice xo xn xc), .slice uo un uc, .slice po pn pc] 31)) := (Below.refl _ _).alloc (Nat.le_refl _) _
        have HN := Hid.mk (heap_alloc_new w5 (.cells #[.int .i64 (t.k), .string (t.s), .string (t.t), (.slice xo xn xc), .slice uo un uc, .slice po pn pc] 31))
        have HO6 := Hid.mk ((HO.out.grow HW5.out).grow A6)
        have HROW : Hid (∀ g, V.ownBlock = some g → w.heap.size ≤ g ∧ g < wr.heap.size) := fun g hg => World.ownsRow.lt HO.out.1 g hg
        have hin : ∀ b, On (fun b => B b ∧ b < w.heap.size) (w5.alloc (.cells #[.int .i64 (t.k), .string (t.s), .string (t.t), (.slice xo xn xc), .slice uo un uc, .slice po pn pc] 31)) (wr.heap.size + 1) b → oc (fun b => B b ∧ b < w.heap.size) (w5.alloc (.cells #[.int .i64 (t.k), .string (t.s), .string (t.t), (.slice xo xn xc), .slice uo un uc, .slice po pn pc] 31)) w.heap.size V.ownBlock b := fun b hb => hb.imp id fun h => ⟨⟨by have := h.1; omega, h.2⟩, fun e => by have := HROW.out b e.symm; have := h.1; omega⟩
        have HQ : Hid (RdC (fun b => B b ∧ b < w.heap.size) (w5.alloc (.cells #[.int .i64 (t.k), .string (t.s), .string (t.t), (.slice xo xn xc), .slice uo un uc, .slice po pn pc] 31)) w.heap.size V.ownBlock ⟨.node (t.k) (t.s) (t.t) (t.x) (nnL (t.a)) (nnL (t.b)), (.slice xo xn xc), .slice uo un uc, .slice po pn pc⟩) := ⟨((HX.out.grow HW5.out).grow A6).imp fun b hb _ => .inl hb, (HA5.out.onKeep (fun b _ hlt => A6.block b hlt)).imp fun b hb _ => hin b hb, (HB5.out.onKeep (fun b _ hlt => A6.block b hlt)).imp fun b hb _ => hin b hb⟩
        have HSQ : Hid (ShT (nn t)) := nn_sh t HSt.out
        have HEQ : nn t = .node (t.k) (t.s) (t.t) (t.x) (nnL (t.a)) (nnL (t.b)) := by rw [nn_eq, if_neg h8]
        rw [HEQ] at HSQ HTK
        have HW6 := Hid.mk (hbel.trans ((HW5.out.mono (B' := w.heap.size) hs1).alloc (by omega) (.cells #[.int .i64 (t.k), .string (t.s), .string (t.t), (.slice xo xn xc), .slice uo un uc, .slice po pn pc] 31)))
        have hbs : w.heap.size ≤ (w5.alloc (.cells #[.int .i64 (t.k), .string (t.s), .string (t.t), (.slice xo xn xc), .slice uo un uc, .slice po pn pc] 31)).heap.size := HW6.out.size
        have y0 := HX5.out.c0
        have y1 := HX5.out.c1
        have y2 := HX5.out.c2
        have y3 := HX5.out.c3
        have y4 := HX5.out.c4
        have y5 := HX5.out.c5
        clear HA5 HB5 HXE5 HW5 HX5 HO A6 hin HEQ
        go_wp2_with (at_builtin; refine wpList_append_c rfl _ _ rfl w.heap.size V M ⟨.node (t.k) (t.s) (t.t) (t.x) (nnL (t.a)) (nnL (t.b)), (.slice xo xn xc), .slice uo un uc, .slice po pn pc⟩ rfl HO6.out (fun _ h => h.2) w5.heap.size rfl HN.out HQ.out HSQ.out hbs HML.out ?_; rintro V' w7 hO7 hg7 -)
        have HO7 := Hid.mk hO7
        have hb7 : Below w.heap.size w w7 := HW6.out.grown hg7 hbs (fun g hg => (HROW.out g hg).1)
        have HE7 : Hid ((M ++ [(⟨.node (t.k) (t.s) (t.t) (t.x) (nnL (t.a)) (nnL (t.b)), (.slice xo xn xc), .slice uo un uc, .slice po pn pc⟩ : Yv)]).map Yv.t = nnL (l.take (k + 1))) := by show _ = _; rw [List.map_append, HE.out, HTK.out]; rfl
        clear hO7 hg7 HO6 HW6 HN HQ y0 y1 y2 y3 y4 y5
        go_roundw
        case measure => simp [intOf]; omega
        case rel => exact ⟨k + 1, M ++ [⟨.node (t.k) (t.s) (t.t) (t.x) (nnL (t.a)) (nnL (t.b)), (.slice xo xn xc), .slice uo un uc, .slice po pn pc⟩], by omega, by first | rfl | go_num, HE7, HO7, hb7⟩
    · have hi1 : ¬ ((k : Int) < (l.length : Int)) := by omega
      obtain rfl : k = l.length := by omega
      have HR : Hid (NNr (fun b => B b ∧ b < w.heap.size) wr w.heap.size l V) := ⟨M, by rw [HE.out, nnL_all], HO.out⟩
      obtain ⟨vo, vn, vc, rfl⟩ := HR.out.shape
      clear HE HO
      go_wp2
      go_ret
      exact ⟨_, rfl, HR.out, hbel⟩
theorem nn_nil : NN [] := nn_step [] (by simp) (fun h => absurd rfl h) (by simp)
theorem nn_any (l : List St) (hsz : szy l ≤ 1000000000000) : NN l := by
  have H : ∀ t : St, t.sz ≤ 1000000000000 → NN t.a ∧ NN t.b := by
    intro t
    refine St.ind (P := fun t => t.sz ≤ 1000000000000 → NN t.a ∧ NN t.b) (fun t iha ihb h => ?_) t
    have h1 := t.sz_eq
    have hm : ∀ {l : List St} {y : St}, y ∈ l → y.sz + 1 ≤ szy l := by
      intro l y hy
      induction l with
      | nil => cases hy
      | cons a r ih =>
        rw [szy]
        rcases List.mem_cons.1 hy with rfl | hy
        · omega
        · have := ih hy; omega
    have hs : ∀ y : St, y.sz ≤ 1000000000000 → y.a.length ≤ 1000000000000 ∧ y.b.length ≤ 1000000000000 := by
      intro y hy
      have h2 := y.sz_eq
      have h3 := szy_len y.a
      have h4 := szy_len y.b
      omega
    exact ⟨nn_step t.a (fun y hy => iha y hy (by have := hm hy; omega)) (fun _ => nn_nil) (fun y hy => hs y (by have := hm hy; omega)), nn_step t.b (fun y hy => ihb y hy (by have := hm hy; omega)) (fun _ => nn_nil) (fun y hy => hs y (by have := hm hy; omega))⟩
  have := H (.node 0 ⟨#[]⟩ ⟨#[]⟩ [] l []) (by simp only [St.sz, szx, szy, show (⟨#[]⟩ : ByteArray).size = 0 from rfl]; omega)
  exact this.1
end Go.Proofs.Ytijpmnenegdmnaa
