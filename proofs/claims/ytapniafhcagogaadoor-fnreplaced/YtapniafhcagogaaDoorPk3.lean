/- The cursor of a draw: one of some texts, and whether something comes once in so often. Drawn regular expressions: parts without parts. An expression more at the end of a list that is owned, or of none; and trees as they are drawn. -/
import Derived.Test.YtapniafhcagogaaDoorCur
import Derived.Test.YtapniafhcagogaaDoorRexBox
import Derived.Test.YtapniafhcagogaaDoorRexOkI
import Derived.Test.YtapniafhcagogaaDoorRexTo
namespace Go.Proofs.YtapniafhcagogaaDoor
open Go.RowKit
set_option maxRecDepth 8000

/-- Blocks other than the cursor's stay. -/
theorem gcell {W w1 : World} {cb : Nat} (hg : W.grownBy w1 (some cb)) (b : Nat) (hb : b < W.heap.size) (hne : b ≠ cb) :
    (∀ o, w1.cell? ⟨b, o, none⟩ = W.cell? ⟨b, o, none⟩) ∧ (∀ o, w1.frozen? ⟨b, o, none⟩ = W.frozen? ⟨b, o, none⟩) :=
  ⟨fun o => World.cell?_of_block (a := ⟨b, o, none⟩) (hg.block b hb (fun e => hne (Option.some.inj e))), fun o => World.frozen?_of_block (a := ⟨b, o, none⟩) (hg.block b hb (fun e => hne (Option.some.inj e)))⟩

/-- A list of texts in a block of its own. -/
def Strs (w : World) (lb : Nat) (xs : List ByteArray) : Prop := w.heap[lb]? = some (.cells (xs.map Value.string).toArray 9 (0, 0))

set_option maxHeartbeats 1000000 in
theorem l1Str_any (cb lb n : Nat) (v : Value) (zs : List Int) (xs : List ByteArray) (w : World) (h : Cur w cb v zs) (hn : n = xs.length) (hpos : 0 < n) (hbig : n ≤ 1000) (hx : Strs w lb xs) (hne : lb ≠ cb) :
    Calls Tryd.prog 58 #[.pointer (some ⟨cb, 0, none⟩), .slice (some ⟨lb, 0, none⟩) n n] w fun e w' => ∃ x : ByteArray, e = .returned (.string x) ∧ x ∈ xs ∧ Cur w' cb v zs ∧ w.grownBy w' (some cb) := by
  have H := Hid.mk h
  have HX := Hid.mk hx
  clear h hx
  have Hn := Hid.mk hn
  clear hn
  go_enter Tryd.func58, Tryd.ntmps58
  go_wp2_with fail
  refine (l1Below_any cb v zs (n : Int) w H.out).mono ?_
  rintro e w1 ⟨x, rfl, hx0, hx1, -, hC, hg⟩
  obtain ⟨p, rfl⟩ := Int.eq_ofNat_of_zero_le hx0
  have hp : p < n := by have := hx1 (by omega); omega
  have hbl : w1.heap[lb]? = w.heap[lb]? := hg.block lb (Array.getElem?_eq_some_iff.1 HX.out).1 (fun e => hne (Option.some.inj e))
  obtain ⟨y, Hy⟩ : ∃ y, Hid (xs[p]? = some y) := ⟨_, List.getElem?_eq_getElem (by have := Hn.out; omega)⟩
  have hcell : w1.cell? ⟨lb, p, none⟩ = some (.string y) := by
    have h1 := HX.out
    unfold Strs at h1
    rw [cell_of_row w1 lb p _ _ _ (hbl.trans h1)]
    simp [Hy.out]
  have hmem : y ∈ xs := List.mem_of_getElem? Hy.out
  have HC := Hid.mk hC
  have HG := Hid.mk hg
  have HM := Hid.mk hmem
  clear hC hg hx1 hbl hmem
  go_wp2
  go_ret
  exact ⟨y, rfl, HM.out, HC.out, HG.out⟩

theorem l1Once_any (cb : Nat) (v : Value) (zs : List Int) (n : Int) (w : World) (h : Cur w cb v zs) :
    Calls Tryd.prog 40 #[.pointer (some ⟨cb, 0, none⟩), .int .i64 n] w fun e w' => ∃ b : Bool, e = .returned (.bool b) ∧ Cur w' cb v zs ∧ w.grownBy w' (some cb) := by
  have H := Hid.mk h
  clear h
  go_enter Tryd.func40, Tryd.ntmps40
  go_wp2_with fail
  refine (l1Below_any cb v zs n w H.out).mono ?_
  rintro e w1 ⟨x, rfl, -, -, -, hC, hg⟩
  have HC := Hid.mk hC
  have HG := Hid.mk hg
  clear hC hg
  go_wp2
  go_ret
  exact ⟨_, rfl, HC.out, HG.out⟩
end Go.Proofs.YtapniafhcagogaaDoor

namespace Go.Proofs.YtapniafhcagogaaDoor
open Go.RowKit
set_option maxRecDepth 8000

/-- A part without parts, as it is drawn. -/
def Lf (k : Int) (s : ByteArray) : Prop := nodeB (.node k s []) = true ∧ (k ≤ 3 ∨ 9 ≤ k) ∧ s.size ≤ 3

theorem Lf.any : Lf 2 ⟨#[]⟩ := ⟨by decide +kernel, Or.inl (by omega), by decide⟩

set_option maxHeartbeats 1000000 in
theorem l3Leaf_any (cb : Nat) (v : Value) (zs : List Int) (w : World) (h : Cur w cb v zs) :
    Calls Tryd.prog 66 #[.pointer (some ⟨cb, 0, none⟩)] w fun e w' => ∃ k s, e = .returned (rx k s (.slice none 0 0)) ∧ Lf k s ∧ Cur w' cb v zs ∧ w.grownBy w' (some cb) := by
  have hlt := h.lt
  have HNE : Hid (w.heap.size ≠ cb) := by show _ ≠ _; omega
  have HV : Hid (zs ≠ [] → ∀ k, v.ownBlock = some k → k ≠ w.heap.size) := fun hz k hk => by have := h.1.lt hz k hk; omega
  have HC0 := Hid.mk (h.grow ((Below.refl _ _).alloc (Nat.le_refl _) (.cells #[.int .i64 0, .string ⟨#[]⟩, .slice none 0 0] 26)))
  have HB0 := Hid.mk (Bz3.new w (.int .i64 0) (.string ⟨#[]⟩) (.slice none 0 0))
  clear h
  go_enter Tryd.func66, Tryd.ntmps66
  go_wp2_with fail
  refine (l1Below_any cb v zs 8 _ HC0.out).mono ?_
  rintro e w1 ⟨x, rfl, hx0, -, -, hC, hg⟩
  have HB := Hid.mk (HB0.out.by hg HNE.out)
  have HG := Hid.mk (grownBy_trans (gy_alloc w cb _) hg)
  have HC := Hid.mk hC
  clear hC hg HC0 HB0
  by_cases hk0 : x = 0
  · subst hk0
    have c0 := HB.out.c0
    have c1 := HB.out.c1
    have c2 := HB.out.c2
    have f0 := HB.out.fr
    go_wp2
    have hput := HB.out.put (.int .i64 2) (.string ⟨#[]⟩) (.slice none 0 0)
    have hgp := gy_sz3 HG.out (Nat.le_refl _) (.int .i64 2) (.string ⟨#[]⟩) (.slice none 0 0)
    have hcp := HC.out.sz3 (b := w.heap.size) HNE.out HV.out (.int .i64 2) (.string ⟨#[]⟩) (.slice none 0 0)
    unfold sz3 at hput hgp hcp
    generalize ((w1.setCell ⟨w.heap.size, 0, none⟩ (.int .i64 2)).setCell ⟨w.heap.size, 1, none⟩ (.string ⟨#[]⟩)).setCell ⟨w.heap.size, 2, none⟩ (.slice none 0 0) = W at hput hgp hcp ⊢
    have r0 := hput.c0
    have r1 := hput.c1
    have r2 := hput.c2
    refine bodyPost_ret (v := rx 2 ⟨#[]⟩ (.slice none 0 0)) ?_ rfl ⟨_, _, rfl, Lf.any, hcp, hgp⟩
    simp [results, Tryd.results66, go_sem, r0, r1, r2]
  by_cases hk1 : x = 1
  · subst hk1
    go_wp2_with fail
    refine (l1Str_any cb w1.heap.size 4 v zs [⟨#[97,98]⟩, ⟨#[98]⟩, ⟨#[97,98,99]⟩, ⟨#[49,50]⟩] _ (HC.out.grow ((Below.refl _ _).alloc (Nat.le_refl _) _)) rfl (by omega) (by omega) (heap_alloc_new w1 _) (by have := HC.out.lt; omega)).mono ?_
    rintro e w2 ⟨y, rfl, hy, hC2, hg2⟩
    have HB2 := Hid.mk ((HB.out.grow ((Below.refl _ _).alloc (Nat.le_refl _) _)).by hg2 HNE.out)
    have HG2 := Hid.mk (grownBy_trans (gy_new HG.out _) hg2)
    have HC2 := Hid.mk hC2
    have HL : Hid (Lf 3 y) := by
      simp only [List.mem_cons, List.not_mem_nil, or_false] at hy
      rcases hy with rfl | rfl | rfl | rfl
      all_goals exact ⟨by decide +kernel, by omega, by decide⟩
    clear hy hC2 hg2 HB HG HC
    have c0 := HB2.out.c0
    have c1 := HB2.out.c1
    have c2 := HB2.out.c2
    have f0 := HB2.out.fr
    go_wp2
    have hput := HB2.out.put (.int .i64 3) (.string y) (.slice none 0 0)
    have hgp := gy_sz3 HG2.out (Nat.le_refl _) (.int .i64 3) (.string y) (.slice none 0 0)
    have hcp := HC2.out.sz3 (b := w.heap.size) HNE.out HV.out (.int .i64 3) (.string y) (.slice none 0 0)
    unfold sz3 at hput hgp hcp
    generalize ((w2.setCell ⟨w.heap.size, 0, none⟩ (.int .i64 3)).setCell ⟨w.heap.size, 1, none⟩ (.string y)).setCell ⟨w.heap.size, 2, none⟩ (.slice none 0 0) = W at hput hgp hcp ⊢
    have r0 := hput.c0
    have r1 := hput.c1
    have r2 := hput.c2
    refine bodyPost_ret (v := rx 3 y (.slice none 0 0)) ?_ rfl ⟨_, _, rfl, HL.out, hcp, hgp⟩
    simp [results, Tryd.results66, go_sem, r0, r1, r2]
  by_cases hk2 : x = 2
  · subst hk2
    go_wp2_with fail
    refine (l1Int_any cb w1.heap.size 4 v zs [9, 10, 11, 2] _ (HC.out.grow ((Below.refl _ _).alloc (Nat.le_refl _) _)) rfl (by omega) (by omega) (heap_alloc_new w1 _) (by have := HC.out.lt; omega)).mono ?_
    rintro e w2 ⟨y, rfl, hy, hC2, hg2⟩
    have HB2 := Hid.mk ((HB.out.grow ((Below.refl _ _).alloc (Nat.le_refl _) _)).by hg2 HNE.out)
    have HG2 := Hid.mk (grownBy_trans (gy_new HG.out _) hg2)
    have HC2 := Hid.mk hC2
    have HL : Hid (Lf y ⟨#[]⟩) := by
      simp only [List.mem_cons, List.not_mem_nil, or_false] at hy
      rcases hy with rfl | rfl | rfl | rfl
      all_goals exact ⟨by decide +kernel, by omega, by decide⟩
    clear hy hC2 hg2 HB HG HC
    have c0 := HB2.out.c0
    have c1 := HB2.out.c1
    have c2 := HB2.out.c2
    have f0 := HB2.out.fr
    go_wp2
    have hput := HB2.out.put (.int .i64 y) (.string ⟨#[]⟩) (.slice none 0 0)
    have hgp := gy_sz3 HG2.out (Nat.le_refl _) (.int .i64 y) (.string ⟨#[]⟩) (.slice none 0 0)
    have hcp := HC2.out.sz3 (b := w.heap.size) HNE.out HV.out (.int .i64 y) (.string ⟨#[]⟩) (.slice none 0 0)
    unfold sz3 at hput hgp hcp
    generalize ((w2.setCell ⟨w.heap.size, 0, none⟩ (.int .i64 y)).setCell ⟨w.heap.size, 1, none⟩ (.string ⟨#[]⟩)).setCell ⟨w.heap.size, 2, none⟩ (.slice none 0 0) = W at hput hgp hcp ⊢
    have r0 := hput.c0
    have r1 := hput.c1
    have r2 := hput.c2
    refine bodyPost_ret (v := rx y ⟨#[]⟩ (.slice none 0 0)) ?_ rfl ⟨_, _, rfl, HL.out, hcp, hgp⟩
    simp [results, Tryd.results66, go_sem, r0, r1, r2]
  · have hb0 : (x == 0) = false := beq_eq_false_iff_ne.2 hk0
    have hb1 : (x == 1) = false := beq_eq_false_iff_ne.2 hk1
    have hb2 : (x == 2) = false := beq_eq_false_iff_ne.2 hk2
    clear hk0 hk1 hk2
    go_wp2_with fail
    refine (l1Str_any cb w1.heap.size 4 v zs [⟨#[97]⟩, ⟨#[98]⟩, ⟨#[99]⟩, ⟨#[49]⟩] _ (HC.out.grow ((Below.refl _ _).alloc (Nat.le_refl _) _)) rfl (by omega) (by omega) (heap_alloc_new w1 _) (by have := HC.out.lt; omega)).mono ?_
    rintro e w2 ⟨y, rfl, hy, hC2, hg2⟩
    have HB2 := Hid.mk ((HB.out.grow ((Below.refl _ _).alloc (Nat.le_refl _) _)).by hg2 HNE.out)
    have HG2 := Hid.mk (grownBy_trans (gy_new HG.out _) hg2)
    have HC2 := Hid.mk hC2
    have HL : Hid (Lf 1 y) := by
      simp only [List.mem_cons, List.not_mem_nil, or_false] at hy
      rcases hy with rfl | rfl | rfl | rfl
      all_goals exact ⟨by decide +kernel, by omega, by decide⟩
    clear hy hC2 hg2 HB HG HC
    have c0 := HB2.out.c0
    have c1 := HB2.out.c1
    have c2 := HB2.out.c2
    have f0 := HB2.out.fr
    go_wp2
    have hput := HB2.out.put (.int .i64 1) (.string y) (.slice none 0 0)
    have hgp := gy_sz3 HG2.out (Nat.le_refl _) (.int .i64 1) (.string y) (.slice none 0 0)
    have hcp := HC2.out.sz3 (b := w.heap.size) HNE.out HV.out (.int .i64 1) (.string y) (.slice none 0 0)
    unfold sz3 at hput hgp hcp
    generalize ((w2.setCell ⟨w.heap.size, 0, none⟩ (.int .i64 1)).setCell ⟨w.heap.size, 1, none⟩ (.string y)).setCell ⟨w.heap.size, 2, none⟩ (.slice none 0 0) = W at hput hgp hcp ⊢
    have r0 := hput.c0
    have r1 := hput.c1
    have r2 := hput.c2
    refine bodyPost_ret (v := rx 1 y (.slice none 0 0)) ?_ rfl ⟨_, _, rfl, HL.out, hcp, hgp⟩
    simp [results, Tryd.results66, go_sem, r0, r1, r2]
end Go.Proofs.YtapniafhcagogaaDoor

namespace Go.Proofs.YtapniafhcagogaaDoor
open Go.RowKit
set_option maxRecDepth 8000

theorem Ow.first {w w' : World} {D C : Nat → Prop} {t : Tr} {u v' : Value}
    (ht : Ow w D t.l u) (hst : t.s.size ≤ maxLen)
    (hown : w'.ownsRow 0 26 3 v' 1 [.int .i64 t.k, .string t.s, u]) (hgr : w.grownBy w' Option.none) (hv : v'.ownBlock = Option.none ∨ v'.ownBlock = some w.heap.size)
    (hCD : ∀ b, D b → C b) (hCn : C w.heap.size) : Ow w' C [t] v' := by
  obtain ⟨g', cap', rfl⟩ : ∃ g' cap', v' = .slice (some ⟨g', 0, Option.none⟩) [t].length cap' := by
    rcases hown.2 with ⟨_, h0⟩ | ⟨g', cap', cur, h', _⟩
    · omega
    · exact ⟨g', cap', by rw [h']; simp⟩
  have hg' : g' = w.heap.size := by simpa [Value.ownBlock] using hv
  subst hg'
  refine Ow.full C [t] _ cap' _ (fun _ => u) (fun i b => i = 0 ∧ D b ∧ b < w.heap.size) (by simp) hCn hown (fun i hi => ?_) (fun i hi => ?_) (fun i b hb => ⟨hCD b hb.2.1, by omega⟩) (fun i j b hij h1 h2 => by omega) fun i hi => ?_
  · obtain rfl : i = 0 := by simpa using hi
    exact hst
  · obtain rfl : i = 0 := by simpa using hi
    exact ⟨rfl, rfl, rfl⟩
  · obtain rfl : i = 0 := by simpa using hi
    exact (ht.there.kept fun b hb hlt => hgr.block b hlt (by simp)).mono fun b hb => ⟨rfl, hb⟩

theorem wpList_append_any {w : World} {ops : Array Oper} {rest : List Oper} {o : Oper} {a : Act} {Q : Exit → Act → World → Prop} (hgd : o.guard = none) (s x : Operand)
    (ho : o.op = .call { callee := .builtin .append, args := #[s, x], argTypes := #[24, 24] })
    (B D C : Nat → Prop) (v u : Value) (l : List Tr) (t : Tr) (c : Nat) (hs : a.eval s = v) (hO : Ow w B l v) (hx : a.eval x = .slice (some ⟨c, 0, none⟩) 1 1)
    (hbx : Bz3 w c (.int .i64 t.k) (.string t.s) u) (ht : Ow w D t.l u) (hst : t.s.size ≤ maxLen) (hBD : ∀ b, D b → ¬ B b) (hCB : ∀ b, B b → C b) (hCD : ∀ b, D b → C b) (hCn : C w.heap.size) (hlen : l.length ≤ 1048576)
    (h : ∀ v' w', Ow w' C (l ++ [t]) v' → (∃ row, (∀ g, row = some g → B g) ∧ w.grownBy w' row) → wpList Tryd.prog ops Q rest (a.put o.dst v') w') :
    wpList Tryd.prog ops Q (o :: rest) a w := by
  obtain ⟨i0, hi, hz0, hz1, hz2⟩ := info_parts infoRex
  obtain ⟨au, cu, hu⟩ := ht.value
  have cells : ∀ (j : Nat) (q : Value), [Value.int .i64 t.k, .string t.s, u][j]? = some q → w.cell? ((⟨c, 0, none⟩ : Addr).add j) = some q := by
    intro j q hq
    rw [Addr.add_lit, Nat.zero_add]
    match j, hq with
    | 0, hq => simp at hq; subst hq; exact hbx.c0
    | 1, hq => simp at hq; subst hq; exact hbx.c1
    | 2, hq => simp at hq; subst hq; exact hbx.c2
  have ones : ∀ q ∈ [Value.int .i64 t.k, .string t.s, u], q.oneCell' = true := by
    intro q hq
    rcases List.mem_cons.1 hq with rfl | hq
    · rfl
    rcases List.mem_cons.1 hq with rfl | hq
    · rfl
    obtain rfl : q = u := by simpa using hq
    rw [hu]; rfl
  cases hO with
  | none =>
    refine wpList_append_own_at w hgd s x 24 ho 0 26 i0 _ 3 48 Tryd.underlying24 hi hz0 hz1 hz2 rfl (by decide) _ 0 [] hs (World.ownsRow_nil w 0 _ 3) _ 1 1 [.int .i64 t.k, .string t.s, u] hx rfl cells ones (by decide) (by decide) (Nat.zero_le _) ?_
    intro v' w' hown' hgr _ hv
    exact h v' w' (Ow.first ht hst hown' hgr hv hCD hCn) ⟨none, (fun g hg => by cases hg), hgr⟩
  | full _ l g cap xs V Bi hl hg hown hss hx' hB hd hsub =>
    refine wpList_append_own_at w hgd s x 24 ho 0 26 i0 _ 3 48 Tryd.underlying24 hi hz0 hz1 hz2 rfl (by decide) _ l.length xs hs hown _ 1 1 [.int .i64 t.k, .string t.s, u] hx rfl cells ones (by unfold maxLen; omega) (by omega) (Nat.zero_le _) ?_
    intro v' w' hown' hgr _ hv
    exact h v' w' (Ow.snoc hg hss hst hown.1 hx' hB hd hsub ht hBD hown' hgr hv hCB hCD hCn) ⟨some g, (fun g' e => by simp at e; exact e ▸ hg), hgr⟩

/-- A tree as it is drawn, at most d deep below its root. -/
def Dn : Nat → Tr → Prop
  | 0, t => t.l = [] ∧ Lf t.k t.s
  | d + 1, t => (t.l = [] ∧ Lf t.k t.s) ∨ (nodeB t = true ∧ t.s = ⟨#[]⟩ ∧ t.l.length ≤ 3 ∧ ∀ x ∈ t.l, Dn d x)

theorem Dn.leaf {d : Nat} {k : Int} {s : ByteArray} (h : Lf k s) : Dn d (.node k s []) := by
  cases d with
  | zero => exact ⟨rfl, h⟩
  | succ d => exact Or.inl ⟨rfl, h⟩

theorem Dn.size {d : Nat} {t : Tr} (h : Dn d t) : t.s.size ≤ maxLen := by
  have h3 : ∀ n, n ≤ 3 → n ≤ maxLen := fun n hn => Nat.le_trans hn (by decide)
  cases d with
  | zero => exact h3 _ h.2.2.2
  | succ d =>
    rcases h with h | ⟨_, h, _⟩
    · exact h3 _ h.2.2.2
    · rw [h]; decide

/-- What may stand below a part of kind k. -/
def Fits (k : Int) (x : Tr) : Prop := x.k ≠ k ∧ (repB k = true → repB x.k = false)

theorem Dn.node {d : Nat} {k : Int} {l : List Tr} (hk : k = 4 ∨ k = 5 ∨ k = 6 ∨ k = 7 ∨ k = 8) (h1 : repB k = true → l.length = 1) (h2 : repB k = false → 2 ≤ l.length) (h3 : l.length ≤ 3) (hl : ∀ x ∈ l, Dn d x ∧ Fits k x) : Dn (d + 1) (.node k ⟨#[]⟩ l) := by
  refine Or.inr ⟨?_, rfl, h3, fun x hx => (hl x hx).1⟩
  have hkk : kinds l k = false := by
    unfold kinds
    rw [List.any_eq_false]
    intro x hx
    simp [(hl x hx).2.1]
  have hh : repB k = true → repB (headK l) = false := by
    intro hr
    match l, h1 hr with
    | [x], _ => exact (hl x (by simp)).2.2 hr
  rcases hk with rfl | rfl | rfl | rfl | rfl
  · have := h2 rfl
    simp [nodeB, Tr.k, Tr.s, Tr.l, hkk]
    exact ⟨decide_eq_true this, decide_eq_true (by omega)⟩
  · have := h2 rfl
    simp [nodeB, Tr.k, Tr.s, Tr.l, hkk]
    exact ⟨decide_eq_true this, decide_eq_true (by omega)⟩
  · simp [nodeB, Tr.k, Tr.s, Tr.l, h1 rfl, hh rfl]
  · simp [nodeB, Tr.k, Tr.s, Tr.l, h1 rfl, hh rfl]
  · simp [nodeB, Tr.k, Tr.s, Tr.l, h1 rfl, hh rfl]

theorem Lf.fits {k j : Int} {s : ByteArray} (h : Lf j s) (hk : k = 4 ∨ k = 5 ∨ k = 6 ∨ k = 7 ∨ k = 8) : Fits k (.node j s []) := by
  refine ⟨?_, fun _ => ?_⟩
  · show j ≠ k
    have := h.2.1
    omega
  · show repB j = false
    have := h.2.1
    simp only [repB, Bool.or_eq_false_iff, beq_eq_false_iff_ne]
    omega
end Go.Proofs.YtapniafhcagogaaDoor
