/- An expression more at the end of a list that is owned, or of none; and trees as they are drawn. -/
import Derived.Test.YtapniafhcagogaaDoorRexLeafD
import Derived.Test.YtapniafhcagogaaDoorRexTo
namespace Go.Proofs.YtapniafhcagogaaDoor
open Go.RowKit
set_option maxRecDepth 8000

theorem Ow.first {w w' : World} {D C : Nat → Prop} {t : Tr} {u v' : Value}
    (ht : Ow w D t.l u) (hst : t.s.size ≤ maxLen)
    (hown : w'.ownsRow 0 26 3 v' 1 [.int .i64 t.k, .string t.s, u]) (hgr : w.grownBy w' Option.none) (hv : v'.ownBlock = Option.none ∨ v'.ownBlock = some w.heap.size)
    (hCD : ∀ b, D b → C b) (hCn : C w.heap.size) : Ow w' C [t] v' := by
  obtain ⟨g', cap', rfl⟩ : ∃ g' cap', v' = .slice (some ⟨g', 0, Option.none⟩) [t].length cap' := by
    rcases hown.2 with ⟨_, h0⟩ | ⟨g', cap', cur, h', _⟩
    · omega
    · exact ⟨g', cap', by rw [h']; simp⟩
  have hg' : g' = w.heap.size := by simpa [Value.ownBlock] using hv
  subst hg'
  refine Ow.full C [t] _ cap' _ (fun _ => u) (fun i b => i = 0 ∧ D b ∧ b < w.heap.size) (by simp) hCn hown (fun i hi => ?_) (fun i hi => ?_) (fun i b hb => ⟨hCD b hb.2.1, by omega⟩) (fun i j b hij h1 h2 => by omega) fun i hi => ?_
  · obtain rfl : i = 0 := by simpa using hi
    exact hst
  · obtain rfl : i = 0 := by simpa using hi
    exact ⟨rfl, rfl, rfl⟩
  · obtain rfl : i = 0 := by simpa using hi
    exact (ht.there.kept fun b hb hlt => hgr.block b hlt (by simp)).mono fun b hb => ⟨rfl, hb⟩

theorem wpList_append_any {w : World} {ops : Array Oper} {rest : List Oper} {o : Oper} {a : Act} {Q : Exit → Act → World → Prop} (hgd : o.guard = none) (s x : Operand)
    (ho : o.op = .call { callee := .builtin .append, args := #[s, x], argTypes := #[24, 24] })
    (B D C : Nat → Prop) (v u : Value) (l : List Tr) (t : Tr) (c : Nat) (hs : a.eval s = v) (hO : Ow w B l v) (hx : a.eval x = .slice (some ⟨c, 0, none⟩) 1 1)
    (hbx : Bz3 w c (.int .i64 t.k) (.string t.s) u) (ht : Ow w D t.l u) (hst : t.s.size ≤ maxLen) (hBD : ∀ b, D b → ¬ B b) (hCB : ∀ b, B b → C b) (hCD : ∀ b, D b → C b) (hCn : C w.heap.size) (hlen : l.length ≤ 1048576)
    (h : ∀ v' w', Ow w' C (l ++ [t]) v' → (∃ row, (∀ g, row = some g → B g) ∧ w.grownBy w' row) → wpList Tryd.prog ops Q rest (a.put o.dst v') w') :
    wpList Tryd.prog ops Q (o :: rest) a w := by
  obtain ⟨i0, hi, hz0, hz1, hz2⟩ := info_parts infoRex
  obtain ⟨au, cu, hu⟩ := ht.value
  have cells : ∀ (j : Nat) (q : Value), [Value.int .i64 t.k, .string t.s, u][j]? = some q → w.cell? ((⟨c, 0, none⟩ : Addr).add j) = some q := by
    intro j q hq
    rw [Addr.add_lit, Nat.zero_add]
    match j, hq with
    | 0, hq => simp at hq; subst hq; exact hbx.c0
    | 1, hq => simp at hq; subst hq; exact hbx.c1
    | 2, hq => simp at hq; subst hq; exact hbx.c2
  have ones : ∀ q ∈ [Value.int .i64 t.k, .string t.s, u], q.oneCell' = true := by
    intro q hq
    rcases List.mem_cons.1 hq with rfl | hq
    · rfl
    rcases List.mem_cons.1 hq with rfl | hq
    · rfl
    obtain rfl : q = u := by simpa using hq
    rw [hu]; rfl
  cases hO with
  | none =>
    refine wpList_append_own_at w hgd s x 24 ho 0 26 i0 _ 3 48 Tryd.underlying24 hi hz0 hz1 hz2 rfl (by decide) _ 0 [] hs (World.ownsRow_nil w 0 _ 3) _ 1 1 [.int .i64 t.k, .string t.s, u] hx rfl cells ones (by decide) (by decide) (Nat.zero_le _) ?_
    intro v' w' hown' hgr _ hv
    exact h v' w' (Ow.first ht hst hown' hgr hv hCD hCn) ⟨none, (fun g hg => by cases hg), hgr⟩
  | full _ l g cap xs V Bi hl hg hown hss hx' hB hd hsub =>
    refine wpList_append_own_at w hgd s x 24 ho 0 26 i0 _ 3 48 Tryd.underlying24 hi hz0 hz1 hz2 rfl (by decide) _ l.length xs hs hown _ 1 1 [.int .i64 t.k, .string t.s, u] hx rfl cells ones (by unfold maxLen; omega) (by omega) (Nat.zero_le _) ?_
    intro v' w' hown' hgr _ hv
    exact h v' w' (Ow.snoc hg hss hst hown.1 hx' hB hd hsub ht hBD hown' hgr hv hCB hCD hCn) ⟨some g, (fun g' e => by simp at e; exact e ▸ hg), hgr⟩

/-- A tree as it is drawn, at most d deep below its root. -/
def Dn : Nat → Tr → Prop
  | 0, t => t.l = [] ∧ Lf t.k t.s
  | d + 1, t => (t.l = [] ∧ Lf t.k t.s) ∨ (nodeB t = true ∧ t.s = ⟨#[]⟩ ∧ t.l.length ≤ 3 ∧ ∀ x ∈ t.l, Dn d x)

theorem Dn.leaf {d : Nat} {k : Int} {s : ByteArray} (h : Lf k s) : Dn d (.node k s []) := by
  cases d with
  | zero => exact ⟨rfl, h⟩
  | succ d => exact Or.inl ⟨rfl, h⟩

theorem Dn.size {d : Nat} {t : Tr} (h : Dn d t) : t.s.size ≤ maxLen := by
  have h3 : ∀ n, n ≤ 3 → n ≤ maxLen := fun n hn => Nat.le_trans hn (by decide)
  cases d with
  | zero => exact h3 _ h.2.2.2
  | succ d =>
    rcases h with h | ⟨_, h, _⟩
    · exact h3 _ h.2.2.2
    · rw [h]; decide

/-- What may stand below a part of kind k. -/
def Fits (k : Int) (x : Tr) : Prop := x.k ≠ k ∧ (repB k = true → repB x.k = false)

theorem Dn.node {d : Nat} {k : Int} {l : List Tr} (hk : k = 4 ∨ k = 5 ∨ k = 6 ∨ k = 7 ∨ k = 8) (h1 : repB k = true → l.length = 1) (h2 : repB k = false → 2 ≤ l.length) (h3 : l.length ≤ 3) (hl : ∀ x ∈ l, Dn d x ∧ Fits k x) : Dn (d + 1) (.node k ⟨#[]⟩ l) := by
  refine Or.inr ⟨?_, rfl, h3, fun x hx => (hl x hx).1⟩
  have hkk : kinds l k = false := by
    unfold kinds
    rw [List.any_eq_false]
    intro x hx
    simp [(hl x hx).2.1]
  have hh : repB k = true → repB (headK l) = false := by
    intro hr
    match l, h1 hr with
    | [x], _ => exact (hl x (by simp)).2.2 hr
  rcases hk with rfl | rfl | rfl | rfl | rfl
  · have := h2 rfl
    simp [nodeB, Tr.k, Tr.s, Tr.l, hkk]
    exact ⟨decide_eq_true this, decide_eq_true (by omega)⟩
  · have := h2 rfl
    simp [nodeB, Tr.k, Tr.s, Tr.l, hkk]
    exact ⟨decide_eq_true this, decide_eq_true (by omega)⟩
  · simp [nodeB, Tr.k, Tr.s, Tr.l, h1 rfl, hh rfl]
  · simp [nodeB, Tr.k, Tr.s, Tr.l, h1 rfl, hh rfl]
  · simp [nodeB, Tr.k, Tr.s, Tr.l, h1 rfl, hh rfl]

theorem Lf.fits {k j : Int} {s : ByteArray} (h : Lf j s) (hk : k = 4 ∨ k = 5 ∨ k = 6 ∨ k = 7 ∨ k = 8) : Fits k (.node j s []) := by
  refine ⟨?_, fun _ => ?_⟩
  · show j ≠ k
    have := h.2.1
    omega
  · show repB j = false
    have := h.2.1
    simp only [repB, Bool.or_eq_false_iff, beq_eq_false_iff_ne]
    omega
end Go.Proofs.YtapniafhcagogaaDoor
