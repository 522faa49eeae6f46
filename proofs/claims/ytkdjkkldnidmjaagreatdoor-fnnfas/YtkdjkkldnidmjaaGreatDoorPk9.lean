/- The cursor of a draw: one of some texts, and whether something comes once in so often. Drawn regular expressions: parts without parts. An expression more at the end of a list that is owned, or of none; and trees as they are drawn. Drawn regular expressions. -/
import Derived.Test.YtkdjkkldnidmjaaGreatDoorCur
import Derived.Test.YtkdjkkldnidmjaaGreatDoorRexBox
import Derived.Test.YtkdjkkldnidmjaaGreatDoorRexOkI
import Derived.Test.YtkdjkkldnidmjaaGreatDoorRexTo
namespace Go.Proofs.YtkdjkkldnidmjaaGreatDoor
open Go.RowKit
set_option maxRecDepth 8000

/-- Blocks other than the cursor's stay. -/
theorem gcell {W w1 : World} {cb : Nat} (hg : W.grownBy w1 (some cb)) (b : Nat) (hb : b < W.heap.size) (hne : b ≠ cb) :
    (∀ o, w1.cell? ⟨b, o, none⟩ = W.cell? ⟨b, o, none⟩) ∧ (∀ o, w1.frozen? ⟨b, o, none⟩ = W.frozen? ⟨b, o, none⟩) :=
  ⟨fun o => World.cell?_of_block (a := ⟨b, o, none⟩) (hg.block b hb (fun e => hne (Option.some.inj e))), fun o => World.frozen?_of_block (a := ⟨b, o, none⟩) (hg.block b hb (fun e => hne (Option.some.inj e)))⟩

/-- A list of texts in a block of its own. -/
def Strs (w : World) (lb : Nat) (xs : List ByteArray) : Prop := w.heap[lb]? = some (.cells (xs.map Value.string).toArray 9 (0, 0))

set_option maxHeartbeats 1000000 in
theorem l1Str_any (cb lb n : Nat) (v : Value) (zs : List Int) (xs : List ByteArray) (w : World) (h : Cur w cb v zs) (hn : n = xs.length) (hpos : 0 < n) (hbig : n ≤ 1000) (hx : Strs w lb xs) (hne : lb ≠ cb) :
    Calls Tryz.prog 32 #[.pointer (some ⟨cb, 0, none⟩), .slice (some ⟨lb, 0, none⟩) n n] w fun e w' => ∃ x : ByteArray, e = .returned (.string x) ∧ x ∈ xs ∧ Cur w' cb v zs ∧ w.grownBy w' (some cb) := by
  have H := Hid.mk h
  have HX := Hid.mk hx
  clear h hx
  have Hn := Hid.mk hn
  clear hn
  go_enter Tryz.func32, Tryz.ntmps32
  go_wp2_with fail
  refine (l1Below_any cb v zs (n : Int) w H.out).mono ?_
  rintro e w1 ⟨x, rfl, hx0, hx1, -, hC, hg⟩
  obtain ⟨p, rfl⟩ := Int.eq_ofNat_of_zero_le hx0
  have hp : p < n := by have := hx1 (by omega); omega
  have hbl : w1.heap[lb]? = w.heap[lb]? := hg.block lb (Array.getElem?_eq_some_iff.1 HX.out).1 (fun e => hne (Option.some.inj e))
  obtain ⟨y, Hy⟩ : ∃ y, Hid (xs[p]? = some y) := ⟨_, List.getElem?_eq_getElem (by have := Hn.out; omega)⟩
  have hcell : w1.cell? ⟨lb, p, none⟩ = some (.string y) := by
    have h1 := HX.out
    unfold Strs at h1
    rw [cell_of_row w1 lb p _ _ _ (hbl.trans h1)]
    simp [Hy.out]
  have hmem : y ∈ xs := List.mem_of_getElem? Hy.out
  have HC := Hid.mk hC
  have HG := Hid.mk hg
  have HM := Hid.mk hmem
  clear hC hg hx1 hbl hmem
  go_wp2
  go_ret
  exact ⟨y, rfl, HM.out, HC.out, HG.out⟩

theorem l1Once_any (cb : Nat) (v : Value) (zs : List Int) (n : Int) (w : World) (h : Cur w cb v zs) :
    Calls Tryz.prog 27 #[.pointer (some ⟨cb, 0, none⟩), .int .i64 n] w fun e w' => ∃ b : Bool, e = .returned (.bool b) ∧ Cur w' cb v zs ∧ w.grownBy w' (some cb) := by
  have H := Hid.mk h
  clear h
  go_enter Tryz.func27, Tryz.ntmps27
  go_wp2_with fail
  refine (l1Below_any cb v zs n w H.out).mono ?_
  rintro e w1 ⟨x, rfl, -, -, -, hC, hg⟩
  have HC := Hid.mk hC
  have HG := Hid.mk hg
  clear hC hg
  go_wp2
  go_ret
  exact ⟨_, rfl, HC.out, HG.out⟩
end Go.Proofs.YtkdjkkldnidmjaaGreatDoor

namespace Go.Proofs.YtkdjkkldnidmjaaGreatDoor
open Go.RowKit
set_option maxRecDepth 8000

/-- A part without parts, as it is drawn. -/
def Lf (k : Int) (s : ByteArray) : Prop := nodeB (.node k s []) = true ∧ (k ≤ 3 ∨ 9 ≤ k) ∧ s.size ≤ 3

theorem Lf.any : Lf 2 ⟨#[]⟩ := ⟨by decide +kernel, Or.inl (by omega), by decide⟩

set_option maxHeartbeats 1000000 in
theorem l3Leaf_any (cb : Nat) (v : Value) (zs : List Int) (w : World) (h : Cur w cb v zs) :
    Calls Tryz.prog 28 #[.pointer (some ⟨cb, 0, none⟩)] w fun e w' => ∃ k s, e = .returned (rx k s (.slice none 0 0)) ∧ Lf k s ∧ Cur w' cb v zs ∧ w.grownBy w' (some cb) := by
  have hlt := h.lt
  have HNE : Hid (w.heap.size ≠ cb) := by show _ ≠ _; omega
  have HV : Hid (zs ≠ [] → ∀ k, v.ownBlock = some k → k ≠ w.heap.size) := fun hz k hk => by have := h.1.lt hz k hk; omega
  have HC0 := Hid.mk (h.grow ((Below.refl _ _).alloc (Nat.le_refl _) (.cells #[.int .i64 0, .string ⟨#[]⟩, .slice none 0 0] 26)))
  have HB0 := Hid.mk (Bz3.new w (.int .i64 0) (.string ⟨#[]⟩) (.slice none 0 0))
  clear h
  go_enter Tryz.func28, Tryz.ntmps28
  go_wp2_with fail
  refine (l1Below_any cb v zs 8 _ HC0.out).mono ?_
  rintro e w1 ⟨x, rfl, hx0, -, -, hC, hg⟩
  have HB := Hid.mk (HB0.out.by hg HNE.out)
  have HG := Hid.mk (grownBy_trans (gy_alloc w cb _) hg)
  have HC := Hid.mk hC
  clear hC hg HC0 HB0
  by_cases hk0 : x = 0
  · subst hk0
    have c0 := HB.out.c0
    have c1 := HB.out.c1
    have c2 := HB.out.c2
    have f0 := HB.out.fr
    go_wp2
    have hput := HB.out.put (.int .i64 2) (.string ⟨#[]⟩) (.slice none 0 0)
    have hgp := gy_sz3 HG.out (Nat.le_refl _) (.int .i64 2) (.string ⟨#[]⟩) (.slice none 0 0)
    have hcp := HC.out.sz3 (b := w.heap.size) HNE.out HV.out (.int .i64 2) (.string ⟨#[]⟩) (.slice none 0 0)
    unfold sz3 at hput hgp hcp
    generalize ((w1.setCell ⟨w.heap.size, 0, none⟩ (.int .i64 2)).setCell ⟨w.heap.size, 1, none⟩ (.string ⟨#[]⟩)).setCell ⟨w.heap.size, 2, none⟩ (.slice none 0 0) = W at hput hgp hcp ⊢
    have r0 := hput.c0
    have r1 := hput.c1
    have r2 := hput.c2
    refine bodyPost_ret (v := rx 2 ⟨#[]⟩ (.slice none 0 0)) ?_ rfl ⟨_, _, rfl, Lf.any, hcp, hgp⟩
    simp [results, Tryz.results28, go_sem, r0, r1, r2]
  by_cases hk1 : x = 1
  · subst hk1
    go_wp2_with fail
    refine (l1Str_any cb w1.heap.size 4 v zs [⟨#[97,98]⟩, ⟨#[98]⟩, ⟨#[97,98,99]⟩, ⟨#[49,50]⟩] _ (HC.out.grow ((Below.refl _ _).alloc (Nat.le_refl _) _)) rfl (by omega) (by omega) (heap_alloc_new w1 _) (by have := HC.out.lt; omega)).mono ?_
    rintro e w2 ⟨y, rfl, hy, hC2, hg2⟩
    have HB2 := Hid.mk ((HB.out.grow ((Below.refl _ _).alloc (Nat.le_refl _) _)).by hg2 HNE.out)
    have HG2 := Hid.mk (grownBy_trans (gy_new HG.out _) hg2)
    have HC2 := Hid.mk hC2
    have HL : Hid (Lf 3 y) := by
      simp only [List.mem_cons, List.not_mem_nil, or_false] at hy
      rcases hy with rfl | rfl | rfl | rfl
      all_goals exact ⟨by decide +kernel, by omega, by decide⟩
    clear hy hC2 hg2 HB HG HC
    have c0 := HB2.out.c0
    have c1 := HB2.out.c1
    have c2 := HB2.out.c2
    have f0 := HB2.out.fr
    go_wp2
    have hput := HB2.out.put (.int .i64 3) (.string y) (.slice none 0 0)
    have hgp := gy_sz3 HG2.out (Nat.le_refl _) (.int .i64 3) (.string y) (.slice none 0 0)
    have hcp := HC2.out.sz3 (b := w.heap.size) HNE.out HV.out (.int .i64 3) (.string y) (.slice none 0 0)
    unfold sz3 at hput hgp hcp
    generalize ((w2.setCell ⟨w.heap.size, 0, none⟩ (.int .i64 3)).setCell ⟨w.heap.size, 1, none⟩ (.string y)).setCell ⟨w.heap.size, 2, none⟩ (.slice none 0 0) = W at hput hgp hcp ⊢
    have r0 := hput.c0
    have r1 := hput.c1
    have r2 := hput.c2
    refine bodyPost_ret (v := rx 3 y (.slice none 0 0)) ?_ rfl ⟨_, _, rfl, HL.out, hcp, hgp⟩
    simp [results, Tryz.results28, go_sem, r0, r1, r2]
  by_cases hk2 : x = 2
  · subst hk2
    go_wp2_with fail
    refine (l1Int_any cb w1.heap.size 4 v zs [9, 10, 11, 2] _ (HC.out.grow ((Below.refl _ _).alloc (Nat.le_refl _) _)) rfl (by omega) (by omega) (heap_alloc_new w1 _) (by have := HC.out.lt; omega)).mono ?_
    rintro e w2 ⟨y, rfl, hy, hC2, hg2⟩
    have HB2 := Hid.mk ((HB.out.grow ((Below.refl _ _).alloc (Nat.le_refl _) _)).by hg2 HNE.out)
    have HG2 := Hid.mk (grownBy_trans (gy_new HG.out _) hg2)
    have HC2 := Hid.mk hC2
    have HL : Hid (Lf y ⟨#[]⟩) := by
      simp only [List.mem_cons, List.not_mem_nil, or_false] at hy
      rcases hy with rfl | rfl | rfl | rfl
      all_goals exact ⟨by decide +kernel, by omega, by decide⟩
    clear hy hC2 hg2 HB HG HC
    have c0 := HB2.out.c0
    have c1 := HB2.out.c1
    have c2 := HB2.out.c2
    have f0 := HB2.out.fr
    go_wp2
    have hput := HB2.out.put (.int .i64 y) (.string ⟨#[]⟩) (.slice none 0 0)
    have hgp := gy_sz3 HG2.out (Nat.le_refl _) (.int .i64 y) (.string ⟨#[]⟩) (.slice none 0 0)
    have hcp := HC2.out.sz3 (b := w.heap.size) HNE.out HV.out (.int .i64 y) (.string ⟨#[]⟩) (.slice none 0 0)
    unfold sz3 at hput hgp hcp
    generalize ((w2.setCell ⟨w.heap.size, 0, none⟩ (.int .i64 y)).setCell ⟨w.heap.size, 1, none⟩ (.string ⟨#[]⟩)).setCell ⟨w.heap.size, 2, none⟩ (.slice none 0 0) = W at hput hgp hcp ⊢
    have r0 := hput.c0
    have r1 := hput.c1
    have r2 := hput.c2
    refine bodyPost_ret (v := rx y ⟨#[]⟩ (.slice none 0 0)) ?_ rfl ⟨_, _, rfl, HL.out, hcp, hgp⟩
    simp [results, Tryz.results28, go_sem, r0, r1, r2]
  · have hb0 : (x == 0) = false := beq_eq_false_iff_ne.2 hk0
    have hb1 : (x == 1) = false := beq_eq_false_iff_ne.2 hk1
    have hb2 : (x == 2) = false := beq_eq_false_iff_ne.2 hk2
    clear hk0 hk1 hk2
    go_wp2_with fail
    refine (l1Str_any cb w1.heap.size 4 v zs [⟨#[97]⟩, ⟨#[98]⟩, ⟨#[99]⟩, ⟨#[49]⟩] _ (HC.out.grow ((Below.refl _ _).alloc (Nat.le_refl _) _)) rfl (by omega) (by omega) (heap_alloc_new w1 _) (by have := HC.out.lt; omega)).mono ?_
    rintro e w2 ⟨y, rfl, hy, hC2, hg2⟩
    have HB2 := Hid.mk ((HB.out.grow ((Below.refl _ _).alloc (Nat.le_refl _) _)).by hg2 HNE.out)
    have HG2 := Hid.mk (grownBy_trans (gy_new HG.out _) hg2)
    have HC2 := Hid.mk hC2
    have HL : Hid (Lf 1 y) := by
      simp only [List.mem_cons, List.not_mem_nil, or_false] at hy
      rcases hy with rfl | rfl | rfl | rfl
      all_goals exact ⟨by decide +kernel, by omega, by decide⟩
    clear hy hC2 hg2 HB HG HC
    have c0 := HB2.out.c0
    have c1 := HB2.out.c1
    have c2 := HB2.out.c2
    have f0 := HB2.out.fr
    go_wp2
    have hput := HB2.out.put (.int .i64 1) (.string y) (.slice none 0 0)
    have hgp := gy_sz3 HG2.out (Nat.le_refl _) (.int .i64 1) (.string y) (.slice none 0 0)
    have hcp := HC2.out.sz3 (b := w.heap.size) HNE.out HV.out (.int .i64 1) (.string y) (.slice none 0 0)
    unfold sz3 at hput hgp hcp
    generalize ((w2.setCell ⟨w.heap.size, 0, none⟩ (.int .i64 1)).setCell ⟨w.heap.size, 1, none⟩ (.string y)).setCell ⟨w.heap.size, 2, none⟩ (.slice none 0 0) = W at hput hgp hcp ⊢
    have r0 := hput.c0
    have r1 := hput.c1
    have r2 := hput.c2
    refine bodyPost_ret (v := rx 1 y (.slice none 0 0)) ?_ rfl ⟨_, _, rfl, HL.out, hcp, hgp⟩
    simp [results, Tryz.results28, go_sem, r0, r1, r2]
end Go.Proofs.YtkdjkkldnidmjaaGreatDoor

namespace Go.Proofs.YtkdjkkldnidmjaaGreatDoor
open Go.RowKit
set_option maxRecDepth 8000

theorem Ow.first {w w' : World} {D C : Nat → Prop} {t : Tr} {u v' : Value}
    (ht : Ow w D t.l u) (hst : t.s.size ≤ maxLen)
    (hown : w'.ownsRow 0 26 3 v' 1 [.int .i64 t.k, .string t.s, u]) (hgr : w.grownBy w' Option.none) (hv : v'.ownBlock = Option.none ∨ v'.ownBlock = some w.heap.size)
    (hCD : ∀ b, D b → C b) (hCn : C w.heap.size) : Ow w' C [t] v' := by
  obtain ⟨g', cap', rfl⟩ : ∃ g' cap', v' = .slice (some ⟨g', 0, Option.none⟩) [t].length cap' := by
    rcases hown.2 with ⟨_, h0⟩ | ⟨g', cap', cur, h', _⟩
    · omega
    · exact ⟨g', cap', by rw [h']; simp⟩
  have hg' : g' = w.heap.size := by simpa [Value.ownBlock] using hv
  subst hg'
  refine Ow.full C [t] _ cap' _ (fun _ => u) (fun i b => i = 0 ∧ D b ∧ b < w.heap.size) (by simp) hCn hown (fun i hi => ?_) (fun i hi => ?_) (fun i b hb => ⟨hCD b hb.2.1, by omega⟩) (fun i j b hij h1 h2 => by omega) fun i hi => ?_
  · obtain rfl : i = 0 := by simpa using hi
    exact hst
  · obtain rfl : i = 0 := by simpa using hi
    exact ⟨rfl, rfl, rfl⟩
  · obtain rfl : i = 0 := by simpa using hi
    exact (ht.there.kept fun b hb hlt => hgr.block b hlt (by simp)).mono fun b hb => ⟨rfl, hb⟩

theorem wpList_append_any {w : World} {ops : Array Oper} {rest : List Oper} {o : Oper} {a : Act} {Q : Exit → Act → World → Prop} (hgd : o.guard = none) (s x : Operand)
    (ho : o.op = .call { callee := .builtin .append, args := #[s, x], argTypes := #[24, 24] })
    (B D C : Nat → Prop) (v u : Value) (l : List Tr) (t : Tr) (c : Nat) (hs : a.eval s = v) (hO : Ow w B l v) (hx : a.eval x = .slice (some ⟨c, 0, none⟩) 1 1)
    (hbx : Bz3 w c (.int .i64 t.k) (.string t.s) u) (ht : Ow w D t.l u) (hst : t.s.size ≤ maxLen) (hBD : ∀ b, D b → ¬ B b) (hCB : ∀ b, B b → C b) (hCD : ∀ b, D b → C b) (hCn : C w.heap.size) (hlen : l.length ≤ 1048576)
    (h : ∀ v' w', Ow w' C (l ++ [t]) v' → (∃ row, (∀ g, row = some g → B g) ∧ w.grownBy w' row) → wpList Tryz.prog ops Q rest (a.put o.dst v') w') :
    wpList Tryz.prog ops Q (o :: rest) a w := by
  obtain ⟨i0, hi, hz0, hz1, hz2⟩ := info_parts infoRex
  obtain ⟨au, cu, hu⟩ := ht.value
  have cells : ∀ (j : Nat) (q : Value), [Value.int .i64 t.k, .string t.s, u][j]? = some q → w.cell? ((⟨c, 0, none⟩ : Addr).add j) = some q := by
    intro j q hq
    rw [Addr.add_lit, Nat.zero_add]
    match j, hq with
    | 0, hq => simp at hq; subst hq; exact hbx.c0
    | 1, hq => simp at hq; subst hq; exact hbx.c1
    | 2, hq => simp at hq; subst hq; exact hbx.c2
  have ones : ∀ q ∈ [Value.int .i64 t.k, .string t.s, u], q.oneCell' = true := by
    intro q hq
    rcases List.mem_cons.1 hq with rfl | hq
    · rfl
    rcases List.mem_cons.1 hq with rfl | hq
    · rfl
    obtain rfl : q = u := by simpa using hq
    rw [hu]; rfl
  cases hO with
  | none =>
    refine wpList_append_own_at w hgd s x 24 ho 0 26 i0 _ 3 48 Tryz.underlying24 hi hz0 hz1 hz2 rfl (by decide) _ 0 [] hs (World.ownsRow_nil w 0 _ 3) _ 1 1 [.int .i64 t.k, .string t.s, u] hx rfl cells ones (by decide) (by decide) (Nat.zero_le _) ?_
    intro v' w' hown' hgr _ hv
    exact h v' w' (Ow.first ht hst hown' hgr hv hCD hCn) ⟨none, (fun g hg => by cases hg), hgr⟩
  | full _ l g cap xs V Bi hl hg hown hss hx' hB hd hsub =>
    refine wpList_append_own_at w hgd s x 24 ho 0 26 i0 _ 3 48 Tryz.underlying24 hi hz0 hz1 hz2 rfl (by decide) _ l.length xs hs hown _ 1 1 [.int .i64 t.k, .string t.s, u] hx rfl cells ones (by unfold maxLen; omega) (by omega) (Nat.zero_le _) ?_
    intro v' w' hown' hgr _ hv
    exact h v' w' (Ow.snoc hg hss hst hown.1 hx' hB hd hsub ht hBD hown' hgr hv hCB hCD hCn) ⟨some g, (fun g' e => by simp at e; exact e ▸ hg), hgr⟩

/-- A tree as it is drawn, at most d deep below its root. -/
def Dn : Nat → Tr → Prop
  | 0, t => t.l = [] ∧ Lf t.k t.s
  | d + 1, t => (t.l = [] ∧ Lf t.k t.s) ∨ (nodeB t = true ∧ t.s = ⟨#[]⟩ ∧ t.l.length ≤ 3 ∧ ∀ x ∈ t.l, Dn d x)

theorem Dn.leaf {d : Nat} {k : Int} {s : ByteArray} (h : Lf k s) : Dn d (.node k s []) := by
  cases d with
  | zero => exact ⟨rfl, h⟩
  | succ d => exact Or.inl ⟨rfl, h⟩

theorem Dn.size {d : Nat} {t : Tr} (h : Dn d t) : t.s.size ≤ maxLen := by
  have h3 : ∀ n, n ≤ 3 → n ≤ maxLen := fun n hn => Nat.le_trans hn (by decide)
  cases d with
  | zero => exact h3 _ h.2.2.2
  | succ d =>
    rcases h with h | ⟨_, h, _⟩
    · exact h3 _ h.2.2.2
    · rw [h]; decide

/-- What may stand below a part of kind k. -/
def Fits (k : Int) (x : Tr) : Prop := x.k ≠ k ∧ (repB k = true → repB x.k = false)

theorem Dn.node {d : Nat} {k : Int} {l : List Tr} (hk : k = 4 ∨ k = 5 ∨ k = 6 ∨ k = 7 ∨ k = 8) (h1 : repB k = true → l.length = 1) (h2 : repB k = false → 2 ≤ l.length) (h3 : l.length ≤ 3) (hl : ∀ x ∈ l, Dn d x ∧ Fits k x) : Dn (d + 1) (.node k ⟨#[]⟩ l) := by
  refine Or.inr ⟨?_, rfl, h3, fun x hx => (hl x hx).1⟩
  have hkk : kinds l k = false := by
    unfold kinds
    rw [List.any_eq_false]
    intro x hx
    simp [(hl x hx).2.1]
  have hh : repB k = true → repB (headK l) = false := by
    intro hr
    match l, h1 hr with
    | [x], _ => exact (hl x (by simp)).2.2 hr
  rcases hk with rfl | rfl | rfl | rfl | rfl
  · have := h2 rfl
    simp [nodeB, Tr.k, Tr.s, Tr.l, hkk]
    exact ⟨decide_eq_true this, decide_eq_true (by omega)⟩
  · have := h2 rfl
    simp [nodeB, Tr.k, Tr.s, Tr.l, hkk]
    exact ⟨decide_eq_true this, decide_eq_true (by omega)⟩
  · simp [nodeB, Tr.k, Tr.s, Tr.l, h1 rfl, hh rfl]
  · simp [nodeB, Tr.k, Tr.s, Tr.l, h1 rfl, hh rfl]
  · simp [nodeB, Tr.k, Tr.s, Tr.l, h1 rfl, hh rfl]

theorem Lf.fits {k j : Int} {s : ByteArray} (h : Lf j s) (hk : k = 4 ∨ k = 5 ∨ k = 6 ∨ k = 7 ∨ k = 8) : Fits k (.node j s []) := by
  refine ⟨?_, fun _ => ?_⟩
  · show j ≠ k
    have := h.2.1
    omega
  · show repB j = false
    have := h.2.1
    simp only [repB, Bool.or_eq_false_iff, beq_eq_false_iff_ne]
    omega
end Go.Proofs.YtkdjkkldnidmjaaGreatDoor

namespace Go.Proofs.YtkdjkkldnidmjaaGreatDoor
open Go.RowKit
set_option maxRecDepth 8000

def DrC (d : Nat) : Prop := ∀ (cb : Nat) (v : Value) (zs : List Int) (w : World), Cur w cb v zs →
  Calls Tryz.prog 13 #[.pointer (some ⟨cb, 0, none⟩), .int .i64 (d : Int)] w fun e w' => ∃ t u, e = .returned (rx t.k t.s u) ∧ Dn d t ∧ Ow w' (newFrom (w.heap.size + 1)) t.l u ∧ Cur w' cb v zs ∧ w.grownBy w' (some cb)

set_option maxHeartbeats 1000000 in
theorem l3Draw_zero : DrC 0 := by
  intro cb v zs w h
  have hlt := h.lt
  have HNE : Hid (w.heap.size ≠ cb) := by show _ ≠ _; omega
  have HV : Hid (zs ≠ [] → ∀ k, v.ownBlock = some k → k ≠ w.heap.size) := fun hz k hk => by have := h.1.lt hz k hk; omega
  have HV2 : Hid (zs ≠ [] → ∀ k, v.ownBlock = some k → k < w.heap.size) := fun hz k hk => h.1.lt hz k hk
  have HCC := Hid.mk (h.grow ((Below.refl _ _).alloc (Nat.le_refl _) (.cells #[.int .i64 0, .string ⟨#[]⟩, .slice none 0 0] 26)))
  have HBB := Hid.mk (Bz3.new w (.int .i64 0) (.string ⟨#[]⟩) (.slice none 0 0))
  have HGG := Hid.mk (gy_alloc w cb (.cells #[.int .i64 0, .string ⟨#[]⟩, .slice none 0 0] 26))
  clear h
  have HC0 := HCC
  have HB0 := HBB
  have HG0 := HGG
  clear HCC HBB HGG HV2
  go_enter Tryz.func13, Tryz.ntmps13
  go_wp2_with fail
  refine (l3Leaf_any cb v zs _ HC0.out).mono ?_
  rintro e w2 ⟨lk, ls, rfl, hL, hC2, hg2⟩
  have HB2 := Hid.mk (HB0.out.by hg2 HNE.out)
  have HG2 := Hid.mk (grownBy_trans HG0.out hg2)
  have HC2 := Hid.mk hC2
  have HL := Hid.mk hL
  clear hL hC2 hg2 HB0 HC0 HG0
  have c0 := HB2.out.c0
  have c1 := HB2.out.c1
  have c2 := HB2.out.c2
  have f0 := HB2.out.fr
  go_wp2
  have hput := HB2.out.put (.int .i64 lk) (.string ls) (.slice none 0 0)
  have hgp := gy_sz3 HG2.out (Nat.le_refl _) (.int .i64 lk) (.string ls) (.slice none 0 0)
  have hcp := HC2.out.sz3 (b := w.heap.size) HNE.out HV.out (.int .i64 lk) (.string ls) (.slice none 0 0)
  unfold sz3 at hput hgp hcp
  generalize ((w2.setCell ⟨w.heap.size, 0, none⟩ (.int .i64 lk)).setCell ⟨w.heap.size, 1, none⟩ (.string ls)).setCell ⟨w.heap.size, 2, none⟩ (.slice none 0 0) = W at hput hgp hcp ⊢
  have r0 := hput.c0
  have r1 := hput.c1
  have r2 := hput.c2
  refine bodyPost_ret (v := rx lk ls (.slice none 0 0)) ?_ rfl ⟨.node lk ls [], _, rfl, Dn.leaf HL.out, Ow.none _, hcp, hgp⟩
  simp [results, Tryz.results13, go_sem, r0, r1, r2]

set_option maxHeartbeats 2000000 in
theorem l3Draw_succ (d : Nat) (hd : d ≤ 100) (ih : DrC d) : DrC (d + 1) := by
  intro cb v zs w h
  have hlt := h.lt
  have HNE : Hid (w.heap.size ≠ cb) := by show _ ≠ _; omega
  have HV : Hid (zs ≠ [] → ∀ k, v.ownBlock = some k → k ≠ w.heap.size) := fun hz k hk => by have := h.1.lt hz k hk; omega
  have HV2 : Hid (zs ≠ [] → ∀ k, v.ownBlock = some k → k < w.heap.size) := fun hz k hk => h.1.lt hz k hk
  have HCC := Hid.mk (h.grow ((Below.refl _ _).alloc (Nat.le_refl _) (.cells #[.int .i64 0, .string ⟨#[]⟩, .slice none 0 0] 26)))
  have HBB := Hid.mk (Bz3.new w (.int .i64 0) (.string ⟨#[]⟩) (.slice none 0 0))
  have HGG := Hid.mk (gy_alloc w cb (.cells #[.int .i64 0, .string ⟨#[]⟩, .slice none 0 0] 26))
  clear h
  have IH := Hid.mk ih
  obtain ⟨D, hD⟩ : ∃ D : Int, ((d + 1 : Nat) : Int) = D := ⟨_, rfl⟩
  rw [hD]
  have hD0 : (D == 0) = false := beq_eq_false_iff_ne.2 (by omega)
  have hD1 : D - 1 = (d : Int) := by omega
  have hDw : -9223372036854775808 ≤ D - 1 ∧ D - 1 ≤ 9223372036854775807 := by omega
  clear ih hD
  go_enter Tryz.func13, Tryz.ntmps13
  go_wp2_with fail
  refine (l1Once_any cb v zs 4 _ HCC.out).mono ?_
  rintro e w1 ⟨b, rfl, hC, hg⟩
  have HC0 := Hid.mk hC
  have HB0 := Hid.mk (HBB.out.by hg HNE.out)
  have HG0 := Hid.mk (grownBy_trans HGG.out hg)
  clear hC hg HCC HBB HGG
  cases b with
  | true =>
    go_wp2_with fail
    refine (l3Leaf_any cb v zs _ HC0.out).mono ?_
    rintro e w2 ⟨lk, ls, rfl, hL, hC2, hg2⟩
    have HB2 := Hid.mk (HB0.out.by hg2 HNE.out)
    have HG2 := Hid.mk (grownBy_trans HG0.out hg2)
    have HC2 := Hid.mk hC2
    have HL := Hid.mk hL
    clear hL hC2 hg2 HB0 HC0 HG0
    have c0 := HB2.out.c0
    have c1 := HB2.out.c1
    have c2 := HB2.out.c2
    have f0 := HB2.out.fr
    go_wp2
    have hput := HB2.out.put (.int .i64 lk) (.string ls) (.slice none 0 0)
    have hgp := gy_sz3 HG2.out (Nat.le_refl _) (.int .i64 lk) (.string ls) (.slice none 0 0)
    have hcp := HC2.out.sz3 (b := w.heap.size) HNE.out HV.out (.int .i64 lk) (.string ls) (.slice none 0 0)
    unfold sz3 at hput hgp hcp
    generalize ((w2.setCell ⟨w.heap.size, 0, none⟩ (.int .i64 lk)).setCell ⟨w.heap.size, 1, none⟩ (.string ls)).setCell ⟨w.heap.size, 2, none⟩ (.slice none 0 0) = W at hput hgp hcp ⊢
    have r0 := hput.c0
    have r1 := hput.c1
    have r2 := hput.c2
    refine bodyPost_ret (v := rx lk ls (.slice none 0 0)) ?_ rfl ⟨.node lk ls [], _, rfl, Dn.leaf HL.out, Ow.none _, hcp, hgp⟩
    simp [results, Tryz.results13, go_sem, r0, r1, r2]
  | false =>
    go_wp2_with fail
    refine (l1Int_any cb w1.heap.size 6 v zs [4, 4, 5, 6, 7, 8] _ (HC0.out.grow ((Below.refl _ _).alloc (Nat.le_refl _) _)) rfl (by omega) (by omega) (heap_alloc_new w1 _) (by have := HC0.out.lt; omega)).mono ?_
    rintro e w2 ⟨K, rfl, hK, hC2, hg2⟩
    have HK : Hid (K = 4 ∨ K = 5 ∨ K = 6 ∨ K = 7 ∨ K = 8) := by simp at hK; show _ ∨ _; omega
    have HB2 := Hid.mk ((HB0.out.grow ((Below.refl _ _).alloc (Nat.le_refl _) _)).by hg2 HNE.out)
    have HG2 := Hid.mk (grownBy_trans (gy_new HG0.out _) hg2)
    have HC2 := Hid.mk hC2
    clear hK hC2 hg2 HB0 HG0 HC0
    go_wp2_with fail
    have hrne : w2.heap.size ≠ cb := by have := HC2.out.lt; omega
    have hrlt : w.heap.size < w2.heap.size := HB2.out.lt
    refine (l1Below_any cb v zs 2 _ (HC2.out.grow ((Below.refl _ _).alloc (Nat.le_refl _) _))).mono ?_
    rintro e w3 ⟨y, rfl, hy0, hy1', -, hC3, hg3⟩
    have hy1 := hy1' (by omega)
    have HX3 := Hid.mk ((Bz3.new w2 (.int .i64 K) (.string ⟨#[]⟩) (.slice none 0 0)).by hg3 hrne)
    have HB3 := Hid.mk ((HB2.out.grow ((Below.refl _ _).alloc (Nat.le_refl _) _)).by hg3 HNE.out)
    have HG3 := Hid.mk (grownBy_trans (gy_new HG2.out _) hg3)
    have HC3 := Hid.mk hC3
    clear hC3 hg3 hy1' HB2 HG2 HC2
    generalize w2.heap.size = rb at *
    clear w2
    cases hrep : repB K with
    | true =>
      go_wp2_with (go_at_call 31; refine (specRepeat_any _ _).mono ?_; rintro e w' ⟨rfl, rfl⟩)
      go_loopw [8] (fun i wr => ∃ (k : Nat) (L : List Tr) (vr : Value), k ≤ 1 ∧ i = .int .i64 k ∧ L.length = k ∧ Hid (Bz3 wr rb (.int .i64 K) (.string ⟨#[]⟩) vr) ∧ Hid (Ow wr (newFrom (rb + 1)) L vr) ∧ Hid (∀ x ∈ L, Dn d x ∧ Fits K x) ∧ Hid (Cur wr cb v zs) ∧ Hid (w.grownBy wr (some cb)) ∧ Hid (Bz3 wr w.heap.size (.int .i64 0) (.string ⟨#[]⟩) (.slice none 0 0))) (fun i _ => 1 - (intOf i).toNat)
      case atStart => exact ⟨0, [], _, by omega, rfl, rfl, HX3, Ow.none _, fun x hx => absurd hx (by simp), HC3, HG3, HB3⟩
      case round =>
        obtain ⟨k, L, vr, hk, rfl, hLk, HX, HO, HL, HC, HG, HB⟩ := hrel
        have HLK := Hid.mk hLk
        clear HX3 HC3 HG3 HB3 hLk
        by_cases hkn : (k : Int) < 1
        · go_wp2_with fail
          refine (IH.out cb v zs wr HC.out).mono ?_
          rintro e w4 ⟨t, u, rfl, hDn, hO4, hC4, hg4⟩
          have HTS := Hid.mk hDn.size
          have HDN := Hid.mk hDn
          have HC4 := Hid.mk hC4
          have HX4 := Hid.mk (HX.out.by hg4 hrne)
          have HO4 := Hid.mk (HO.out.there.by hg4 (fun h => by have := h.1; unfold newFrom at this; omega))
          have HB4 := Hid.mk (HB.out.by hg4 HNE.out)
          have HG4 := Hid.mk (grownBy_trans HG.out hg4)
          have HU4 := Hid.mk hO4
          have HRM : Hid (rb < wr.heap.size) := HX.out.lt
          have hs4 := hg4.size
          obtain ⟨au, cu, rfl⟩ := hO4.value
          obtain ⟨tk, htk⟩ : ∃ tk, t.k = tk := ⟨_, rfl⟩
          obtain ⟨ts, hts⟩ : ∃ ts, t.s = ts := ⟨_, rfl⟩
          rw [htk, hts]
          have HTK := Hid.mk htk
          have HTT := Hid.mk hts
          clear hDn hO4 hC4 hg4 HX HO HB HG HC htk hts
          by_cases hne : tk = K
          · have hb1 : (tk == K) = true := beq_iff_eq.2 hne
            clear hne
            have x2 := HX4.out.c2
            have xf := HX4.out.fr
            have hr4 := HX4.out.lt
            have A1 : Below w4.heap.size w4 (w4.alloc (.cells #[.int .i64 tk, .string ts, .slice au t.l.length cu] 26)) := (Below.refl _ _).alloc (Nat.le_refl _) _
            have HC5 := Hid.mk (HC4.out.grow A1)
            have hxc : w4.heap.size ≠ cb := by have := HC4.out.lt; omega
            go_wp2_with (first | (go_at_call 31; refine (specRepeat_any _ _).mono ?_; rintro e w' ⟨rfl, rfl⟩))
            refine (l3Leaf_any cb v zs _ HC5.out).mono ?_
            rintro e w5 ⟨lk, ls, rfl, hLf, hC5, hg5⟩
            have hXB5 := (Bz3.new w4 (.int .i64 tk) (.string ts) (.slice au t.l.length cu)).by hg5 hxc
            have hX5 := (HX4.out.grow A1).by hg5 hrne
            have hB5 := (HB4.out.grow A1).by hg5 HNE.out
            have hG5 := grownBy_trans (gy_below HG4.out A1) hg5
            have hO5 := (HO4.out.grow A1).by hg5 (fun h => by have := h.1; unfold newFrom at this; omega)
            have hs5 : wr.heap.size ≤ w5.heap.size := by have := hg5.size; simp at this; omega
            have y0 := hXB5.c0
            have y1 := hXB5.c1
            have y2 := hXB5.c2
            have yf := hXB5.fr
            have y2' := hX5.c2
            have yf' := hX5.fr
            have hwl : w.heap.size < w4.heap.size := HB4.out.lt
            generalize w4.heap.size = xb at *
            have hxl := hXB5.lt
            have A2 : Below (sz3 w5 xb (.int .i64 lk) (.string ls) (.slice none 0 0)).heap.size (sz3 w5 xb (.int .i64 lk) (.string ls) (.slice none 0 0)) ((sz3 w5 xb (.int .i64 lk) (.string ls) (.slice none 0 0)).alloc (.cells #[.int .i64 lk, .string ls, .slice none 0 0] 26)) := (Below.refl _ _).alloc (Nat.le_refl _) _
            have HX7 := Hid.mk ((hX5.kept (w' := sz3 w5 xb (.int .i64 lk) (.string ls) (.slice none 0 0)) (sz3_other _ _ _ _ _ _ (by omega))).grow A2)
            have HB7 := Hid.mk ((hB5.kept (w' := sz3 w5 xb (.int .i64 lk) (.string ls) (.slice none 0 0)) (sz3_other _ _ _ _ _ _ (by omega))).grow A2)
            have HG7 := Hid.mk (gy_below (gy_sz3 hG5 (by omega) (.int .i64 lk) (.string ls) (.slice none 0 0)) A2)
            have HC7 := Hid.mk ((hC5.sz3 (b := xb) hxc (fun hz k hk => by have := HV2.out hz k hk; omega) (.int .i64 lk) (.string ls) (.slice none 0 0)).grow A2)
            have HOL := Hid.mk ((hO5.sz3 (b := xb) (fun h => by have := h.2; omega) (.int .i64 lk) (.string ls) (.slice none 0 0)).grow A2)
            have HOT : Hid (Ow ((sz3 w5 xb (.int .i64 lk) (.string ls) (.slice none 0 0)).alloc (.cells #[.int .i64 lk, .string ls, .slice none 0 0] 26)) (newFrom (wr.heap.size + 1)) (Tr.node lk ls []).l (.slice none 0 0)) := Ow.none _
            have HXB : Hid (Bz3 ((sz3 w5 xb (.int .i64 lk) (.string ls) (.slice none 0 0)).alloc (.cells #[.int .i64 lk, .string ls, .slice none 0 0] 26)) w5.heap.size (.int .i64 lk) (.string ls) (.slice none 0 0)) := by
              have := Bz3.new (sz3 w5 xb (.int .i64 lk) (.string ls) (.slice none 0 0)) (.int .i64 lk) (.string ls) (.slice none 0 0)
              rw [sz3_size] at this
              exact this
            have HCN : Hid (newFrom (rb + 1) ((sz3 w5 xb (.int .i64 lk) (.string ls) (.slice none 0 0)).alloc (.cells #[.int .i64 lk, .string ls, .slice none 0 0] 26)).heap.size) := by show _ ≤ _; simp; omega
            have HLS : Hid (ls.size ≤ maxLen) := Nat.le_trans hLf.2.2 (by decide)
            have HLF := Hid.mk hLf
            unfold sz3 at HX7 HB7 HG7 HC7 HOL HXB HOT HCN
            clear A1 A2 HX4 HB4 HG4 HC4 HO4 HU4 HC5 hXB5 hX5 hB5 hG5 hO5 hC5 hg5 hLf
            have hrM : rb < wr.heap.size := HRM.out
            go_wp2_with (first | (go_at_call 31; refine (specRepeat_any _ _).mono ?_; rintro e w' ⟨rfl, rfl⟩) | (at_builtin; refine wpList_append_any rfl _ _ rfl (fun b => newFrom (rb + 1) b ∧ b < wr.heap.size) (newFrom (wr.heap.size + 1)) (newFrom (rb + 1)) _ (.slice none 0 0) L (Tr.node lk ls []) w5.heap.size rfl HOL.out rfl HXB.out HOT.out HLS.out (fun b hb hb2 => by have := hb2.2; unfold newFrom at hb; omega) (fun b hb => hb.1) (fun b hb => by have := HRM.out; unfold newFrom at *; omega) (HCN.out) (by have := HLK.out; have := hk; omega) ?_))
            intro v6 w6 ho6 row hrow hg6
            obtain ⟨a6, c6, rfl⟩ := ho6.value
            have hX6 := HX7.out.row hg6 (fun g e => by have := (hrow g e).1; unfold newFrom at this; omega)
            have hB6 := HB7.out.row hg6 (fun g e => by have := (hrow g e).1; unfold newFrom at this; omega)
            have hG6 := gy_row HG7.out hg6 (fun g e => by have := (hrow g e).1; unfold newFrom at this; omega)
            have hC6 := HC7.out.row hg6 (fun g e => ⟨by have := (hrow g e).1; unfold newFrom at this; omega, fun hz k hk => by have := HV2.out hz k hk; have := (hrow g e).1; unfold newFrom at this; omega⟩)
            have x2' := hX6.c2
            have xf' := hX6.fr
            have HX8 := Hid.mk (hX6.put2 (.slice a6 (L ++ [(Tr.node lk ls [])]).length c6))
            have HO8 := Hid.mk (ho6.kept (w' := w6.setCell ⟨rb, 2, none⟩ (.slice a6 (L ++ [(Tr.node lk ls [])]).length c6)) (fun b hb _ => heap_setCell_other _ _ _ _ (by unfold newFrom at hb; show b ≠ rb; omega)))
            have HB8 := Hid.mk (hB6.row (gb_set w6 rb 2 (.slice a6 (L ++ [(Tr.node lk ls [])]).length c6)) (fun g e => by simp at e; omega))
            have HG8 := Hid.mk (gy_row hG6 (gb_set w6 rb 2 (.slice a6 (L ++ [(Tr.node lk ls [])]).length c6)) (fun g e => by simp at e; omega))
            have HC8 := Hid.mk (hC6.row (gb_set w6 rb 2 (.slice a6 (L ++ [(Tr.node lk ls [])]).length c6)) (fun g e => by simp at e; exact ⟨by omega, fun hz k hk => by have := HV2.out hz k hk; omega⟩))
            have HL8 : Hid (∀ x ∈ L ++ [(Tr.node lk ls [])], Dn d x ∧ Fits K x) := by
              intro x hx
              rcases List.mem_append.1 hx with hx | hx
              · exact HL.out x hx
              · obtain rfl : x = (Tr.node lk ls []) := by simpa using hx
                exact ⟨Dn.leaf HLF.out, HLF.out.fits HK.out⟩
            have hll : Hid ((L ++ [(Tr.node lk ls [])]).length = k + 1) := by show _ = _; simp [HLK.out]
            generalize L ++ [(Tr.node lk ls [])] = L8 at HX8 HO8 HB8 HG8 HC8 HL8 hll ⊢
            clear ho6 hrow hg6 hX6 hB6 hG6 hC6 HX7 HB7 HG7 HC7 HOL HXB HOT HL
            go_wp2
            go_roundw
            case rel => exact ⟨k + 1, L8, _, by omega, by go_num, hll.out, HX8, HO8, HL8, HC8, HG8, HB8⟩
            case measure => simp [intOf]; omega
          · cases hb2 : repB tk with
            | true =>
              have hb1 : (tk == K) = false := beq_eq_false_iff_ne.2 hne
              have x2 := HX4.out.c2
              have xf := HX4.out.fr
              have hr4 := HX4.out.lt
              have A1 : Below w4.heap.size w4 (w4.alloc (.cells #[.int .i64 tk, .string ts, .slice au t.l.length cu] 26)) := (Below.refl _ _).alloc (Nat.le_refl _) _
              have HC5 := Hid.mk (HC4.out.grow A1)
              have hxc : w4.heap.size ≠ cb := by have := HC4.out.lt; omega
              go_wp2_with (first | (go_at_call 31; refine (specRepeat_any _ _).mono ?_; rintro e w' ⟨rfl, rfl⟩))
              refine (l3Leaf_any cb v zs _ HC5.out).mono ?_
              rintro e w5 ⟨lk, ls, rfl, hLf, hC5, hg5⟩
              have hXB5 := (Bz3.new w4 (.int .i64 tk) (.string ts) (.slice au t.l.length cu)).by hg5 hxc
              have hX5 := (HX4.out.grow A1).by hg5 hrne
              have hB5 := (HB4.out.grow A1).by hg5 HNE.out
              have hG5 := grownBy_trans (gy_below HG4.out A1) hg5
              have hO5 := (HO4.out.grow A1).by hg5 (fun h => by have := h.1; unfold newFrom at this; omega)
              have hs5 : wr.heap.size ≤ w5.heap.size := by have := hg5.size; simp at this; omega
              have y0 := hXB5.c0
              have y1 := hXB5.c1
              have y2 := hXB5.c2
              have yf := hXB5.fr
              have y2' := hX5.c2
              have yf' := hX5.fr
              have hwl : w.heap.size < w4.heap.size := HB4.out.lt
              generalize w4.heap.size = xb at *
              have hxl := hXB5.lt
              have A2 : Below (sz3 w5 xb (.int .i64 lk) (.string ls) (.slice none 0 0)).heap.size (sz3 w5 xb (.int .i64 lk) (.string ls) (.slice none 0 0)) ((sz3 w5 xb (.int .i64 lk) (.string ls) (.slice none 0 0)).alloc (.cells #[.int .i64 lk, .string ls, .slice none 0 0] 26)) := (Below.refl _ _).alloc (Nat.le_refl _) _
              have HX7 := Hid.mk ((hX5.kept (w' := sz3 w5 xb (.int .i64 lk) (.string ls) (.slice none 0 0)) (sz3_other _ _ _ _ _ _ (by omega))).grow A2)
              have HB7 := Hid.mk ((hB5.kept (w' := sz3 w5 xb (.int .i64 lk) (.string ls) (.slice none 0 0)) (sz3_other _ _ _ _ _ _ (by omega))).grow A2)
              have HG7 := Hid.mk (gy_below (gy_sz3 hG5 (by omega) (.int .i64 lk) (.string ls) (.slice none 0 0)) A2)
              have HC7 := Hid.mk ((hC5.sz3 (b := xb) hxc (fun hz k hk => by have := HV2.out hz k hk; omega) (.int .i64 lk) (.string ls) (.slice none 0 0)).grow A2)
              have HOL := Hid.mk ((hO5.sz3 (b := xb) (fun h => by have := h.2; omega) (.int .i64 lk) (.string ls) (.slice none 0 0)).grow A2)
              have HOT : Hid (Ow ((sz3 w5 xb (.int .i64 lk) (.string ls) (.slice none 0 0)).alloc (.cells #[.int .i64 lk, .string ls, .slice none 0 0] 26)) (newFrom (wr.heap.size + 1)) (Tr.node lk ls []).l (.slice none 0 0)) := Ow.none _
              have HXB : Hid (Bz3 ((sz3 w5 xb (.int .i64 lk) (.string ls) (.slice none 0 0)).alloc (.cells #[.int .i64 lk, .string ls, .slice none 0 0] 26)) w5.heap.size (.int .i64 lk) (.string ls) (.slice none 0 0)) := by
                have := Bz3.new (sz3 w5 xb (.int .i64 lk) (.string ls) (.slice none 0 0)) (.int .i64 lk) (.string ls) (.slice none 0 0)
                rw [sz3_size] at this
                exact this
              have HCN : Hid (newFrom (rb + 1) ((sz3 w5 xb (.int .i64 lk) (.string ls) (.slice none 0 0)).alloc (.cells #[.int .i64 lk, .string ls, .slice none 0 0] 26)).heap.size) := by show _ ≤ _; simp; omega
              have HLS : Hid (ls.size ≤ maxLen) := Nat.le_trans hLf.2.2 (by decide)
              have HLF := Hid.mk hLf
              unfold sz3 at HX7 HB7 HG7 HC7 HOL HXB HOT HCN
              clear A1 A2 HX4 HB4 HG4 HC4 HO4 HU4 HC5 hXB5 hX5 hB5 hG5 hO5 hC5 hg5 hLf
              have hrM : rb < wr.heap.size := HRM.out
              go_wp2_with (first | (go_at_call 31; refine (specRepeat_any _ _).mono ?_; rintro e w' ⟨rfl, rfl⟩) | (at_builtin; refine wpList_append_any rfl _ _ rfl (fun b => newFrom (rb + 1) b ∧ b < wr.heap.size) (newFrom (wr.heap.size + 1)) (newFrom (rb + 1)) _ (.slice none 0 0) L (Tr.node lk ls []) w5.heap.size rfl HOL.out rfl HXB.out HOT.out HLS.out (fun b hb hb2 => by have := hb2.2; unfold newFrom at hb; omega) (fun b hb => hb.1) (fun b hb => by have := HRM.out; unfold newFrom at *; omega) (HCN.out) (by have := HLK.out; have := hk; omega) ?_))
              intro v6 w6 ho6 row hrow hg6
              obtain ⟨a6, c6, rfl⟩ := ho6.value
              have hX6 := HX7.out.row hg6 (fun g e => by have := (hrow g e).1; unfold newFrom at this; omega)
              have hB6 := HB7.out.row hg6 (fun g e => by have := (hrow g e).1; unfold newFrom at this; omega)
              have hG6 := gy_row HG7.out hg6 (fun g e => by have := (hrow g e).1; unfold newFrom at this; omega)
              have hC6 := HC7.out.row hg6 (fun g e => ⟨by have := (hrow g e).1; unfold newFrom at this; omega, fun hz k hk => by have := HV2.out hz k hk; have := (hrow g e).1; unfold newFrom at this; omega⟩)
              have x2' := hX6.c2
              have xf' := hX6.fr
              have HX8 := Hid.mk (hX6.put2 (.slice a6 (L ++ [(Tr.node lk ls [])]).length c6))
              have HO8 := Hid.mk (ho6.kept (w' := w6.setCell ⟨rb, 2, none⟩ (.slice a6 (L ++ [(Tr.node lk ls [])]).length c6)) (fun b hb _ => heap_setCell_other _ _ _ _ (by unfold newFrom at hb; show b ≠ rb; omega)))
              have HB8 := Hid.mk (hB6.row (gb_set w6 rb 2 (.slice a6 (L ++ [(Tr.node lk ls [])]).length c6)) (fun g e => by simp at e; omega))
              have HG8 := Hid.mk (gy_row hG6 (gb_set w6 rb 2 (.slice a6 (L ++ [(Tr.node lk ls [])]).length c6)) (fun g e => by simp at e; omega))
              have HC8 := Hid.mk (hC6.row (gb_set w6 rb 2 (.slice a6 (L ++ [(Tr.node lk ls [])]).length c6)) (fun g e => by simp at e; exact ⟨by omega, fun hz k hk => by have := HV2.out hz k hk; omega⟩))
              have HL8 : Hid (∀ x ∈ L ++ [(Tr.node lk ls [])], Dn d x ∧ Fits K x) := by
                intro x hx
                rcases List.mem_append.1 hx with hx | hx
                · exact HL.out x hx
                · obtain rfl : x = (Tr.node lk ls []) := by simpa using hx
                  exact ⟨Dn.leaf HLF.out, HLF.out.fits HK.out⟩
              have hll : Hid ((L ++ [(Tr.node lk ls [])]).length = k + 1) := by show _ = _; simp [HLK.out]
              generalize L ++ [(Tr.node lk ls [])] = L8 at HX8 HO8 HB8 HG8 HC8 HL8 hll ⊢
              clear ho6 hrow hg6 hX6 hB6 hG6 hC6 HX7 HB7 HG7 HC7 HOL HXB HOT HL
              go_wp2
              go_roundw
              case rel => exact ⟨k + 1, L8, _, by omega, by go_num, hll.out, HX8, HO8, HL8, HC8, HG8, HB8⟩
              case measure => simp [intOf]; omega
            | false =>
              have hb1 : (tk == K) = false := beq_eq_false_iff_ne.2 hne
              have x2 := HX4.out.c2
              have xf := HX4.out.fr
              have hr4 := HX4.out.lt
              have A1 : Below w4.heap.size w4 ((w4.alloc (.cells #[.int .i64 tk, .string ts, .slice au t.l.length cu] 26)).alloc (.cells #[.int .i64 tk, .string ts, .slice au t.l.length cu] 26)) := ((Below.refl _ _).alloc (Nat.le_refl _) _).alloc (by simp) _
              have HX7 := Hid.mk (HX4.out.grow A1)
              have HB7 := Hid.mk (HB4.out.grow A1)
              have HG7 := Hid.mk (gy_below HG4.out A1)
              have HC7 := Hid.mk (HC4.out.grow A1)
              have HOL := Hid.mk (HO4.out.grow A1)
              have HOT := Hid.mk (HU4.out.grow A1)
              have HCN : Hid (newFrom (rb + 1) ((w4.alloc (.cells #[.int .i64 tk, .string ts, .slice au t.l.length cu] 26)).alloc (.cells #[.int .i64 tk, .string ts, .slice au t.l.length cu] 26)).heap.size) := by show _ ≤ _; simp; omega
              have HXB : Hid (Bz3 ((w4.alloc (.cells #[.int .i64 tk, .string ts, .slice au t.l.length cu] 26)).alloc (.cells #[.int .i64 tk, .string ts, .slice au t.l.length cu] 26)) (w4.heap.size + 1) (.int .i64 t.k) (.string t.s) (.slice au t.l.length cu)) := by
                have := Bz3.new (w4.alloc (.cells #[.int .i64 tk, .string ts, .slice au t.l.length cu] 26)) (.int .i64 tk) (.string ts) (.slice au t.l.length cu)
                rw [HTK.out, HTT.out]
                have e : (w4.alloc (.cells #[.int .i64 tk, .string ts, .slice au t.l.length cu] 26)).heap.size = w4.heap.size + 1 := by simp
                rw [e] at this
                exact this
              clear A1 HX4 HB4 HG4 HC4 HO4 HU4
              have hrM : rb < wr.heap.size := HRM.out
              go_wp2_with (first | (go_at_call 31; refine (specRepeat_any _ _).mono ?_; rintro e w' ⟨rfl, rfl⟩) | (at_builtin; refine wpList_append_any rfl _ _ rfl (fun b => newFrom (rb + 1) b ∧ b < wr.heap.size) (newFrom (wr.heap.size + 1)) (newFrom (rb + 1)) _ (.slice au t.l.length cu) L t (w4.heap.size + 1) rfl HOL.out rfl HXB.out HOT.out HTS.out (fun b hb hb2 => by have := hb2.2; unfold newFrom at hb; omega) (fun b hb => hb.1) (fun b hb => by have := HRM.out; unfold newFrom at *; omega) (HCN.out) (by have := HLK.out; have := hk; omega) ?_))
              intro v6 w6 ho6 row hrow hg6
              obtain ⟨a6, c6, rfl⟩ := ho6.value
              have hX6 := HX7.out.row hg6 (fun g e => by have := (hrow g e).1; unfold newFrom at this; omega)
              have hB6 := HB7.out.row hg6 (fun g e => by have := (hrow g e).1; unfold newFrom at this; omega)
              have hG6 := gy_row HG7.out hg6 (fun g e => by have := (hrow g e).1; unfold newFrom at this; omega)
              have hC6 := HC7.out.row hg6 (fun g e => ⟨by have := (hrow g e).1; unfold newFrom at this; omega, fun hz k hk => by have := HV2.out hz k hk; have := (hrow g e).1; unfold newFrom at this; omega⟩)
              have x2' := hX6.c2
              have xf' := hX6.fr
              have HX8 := Hid.mk (hX6.put2 (.slice a6 (L ++ [t]).length c6))
              have HO8 := Hid.mk (ho6.kept (w' := w6.setCell ⟨rb, 2, none⟩ (.slice a6 (L ++ [t]).length c6)) (fun b hb _ => heap_setCell_other _ _ _ _ (by unfold newFrom at hb; show b ≠ rb; omega)))
              have HB8 := Hid.mk (hB6.row (gb_set w6 rb 2 (.slice a6 (L ++ [t]).length c6)) (fun g e => by simp at e; omega))
              have HG8 := Hid.mk (gy_row hG6 (gb_set w6 rb 2 (.slice a6 (L ++ [t]).length c6)) (fun g e => by simp at e; omega))
              have HC8 := Hid.mk (hC6.row (gb_set w6 rb 2 (.slice a6 (L ++ [t]).length c6)) (fun g e => by simp at e; exact ⟨by omega, fun hz k hk => by have := HV2.out hz k hk; omega⟩))
              have HL8 : Hid (∀ x ∈ L ++ [t], Dn d x ∧ Fits K x) := by
                intro x hx
                rcases List.mem_append.1 hx with hx | hx
                · exact HL.out x hx
                · obtain rfl : x = t := by simpa using hx
                  exact ⟨HDN.out, ⟨by rw [HTK.out]; exact hne, fun _ => by rw [HTK.out]; exact hb2⟩⟩
              have hll : Hid ((L ++ [t]).length = k + 1) := by show _ = _; simp [HLK.out]
              generalize L ++ [t] = L8 at HX8 HO8 HB8 HG8 HC8 HL8 hll ⊢
              clear ho6 hrow hg6 hX6 hB6 hG6 hC6 HX7 HB7 HG7 HC7 HOL HXB HOT HL
              go_wp2
              go_roundw
              case rel => exact ⟨k + 1, L8, _, by omega, by go_num, hll.out, HX8, HO8, HL8, HC8, HG8, HB8⟩
              case measure => simp [intOf]; omega
        · have hkk : 1 ≤ k := by omega
          have HDN : Hid (Dn (d + 1) (.node K ⟨#[]⟩ L)) := Dn.node HK.out (fun h => by have := HLK.out; first | omega | (rw [hrep] at h; cases h)) (fun h => by have := HLK.out; first | omega | (rw [hrep] at h; cases h)) (by have := HLK.out; omega) HL.out
          obtain ⟨ar, cr, rfl⟩ := HO.out.value
          have x0 := HX.out.c0
          have x1 := HX.out.c1
          have x2 := HX.out.c2
          have c0 := HB.out.c0
          have c1 := HB.out.c1
          have c2 := HB.out.c2
          have f0 := HB.out.fr
          clear HL
          go_wp2
          have hput := HB.out.put (.int .i64 K) (.string ⟨#[]⟩) (.slice ar L.length cr)
          have hgp := gy_sz3 HG.out (Nat.le_refl _) (.int .i64 K) (.string ⟨#[]⟩) (.slice ar L.length cr)
          have hcp := HC.out.sz3 (b := w.heap.size) HNE.out HV.out (.int .i64 K) (.string ⟨#[]⟩) (.slice ar L.length cr)
          have hop := HO.out.sz3 (b := w.heap.size) (by unfold newFrom; omega) (.int .i64 K) (.string ⟨#[]⟩) (.slice ar L.length cr)
          unfold sz3 at hput hgp hcp hop
          generalize ((wr.setCell ⟨w.heap.size, 0, none⟩ (.int .i64 K)).setCell ⟨w.heap.size, 1, none⟩ (.string ⟨#[]⟩)).setCell ⟨w.heap.size, 2, none⟩ (.slice ar L.length cr) = W at hput hgp hcp hop ⊢
          have r0 := hput.c0
          have r1 := hput.c1
          have r2 := hput.c2
          refine bodyPost_ret (v := rx K ⟨#[]⟩ (.slice ar L.length cr)) ?_ rfl ⟨.node K ⟨#[]⟩ L, _, rfl, HDN.out, hop.mono (fun b hb => by unfold newFrom at *; omega), hcp, hgp⟩
          simp [results, Tryz.results13, go_sem, r0, r1, r2]
    | false =>
      go_wp2_with (go_at_call 31; refine (specRepeat_any _ _).mono ?_; rintro e w' ⟨rfl, rfl⟩)
      go_loopw [8] (fun i wr => ∃ (k : Nat) (L : List Tr) (vr : Value), k ≤ (2 + y).toNat ∧ i = .int .i64 k ∧ L.length = k ∧ Hid (Bz3 wr rb (.int .i64 K) (.string ⟨#[]⟩) vr) ∧ Hid (Ow wr (newFrom (rb + 1)) L vr) ∧ Hid (∀ x ∈ L, Dn d x ∧ Fits K x) ∧ Hid (Cur wr cb v zs) ∧ Hid (w.grownBy wr (some cb)) ∧ Hid (Bz3 wr w.heap.size (.int .i64 0) (.string ⟨#[]⟩) (.slice none 0 0))) (fun i _ => (2 + y).toNat - (intOf i).toNat)
      case atStart => exact ⟨0, [], _, by omega, rfl, rfl, HX3, Ow.none _, fun x hx => absurd hx (by simp), HC3, HG3, HB3⟩
      case round =>
        obtain ⟨k, L, vr, hk, rfl, hLk, HX, HO, HL, HC, HG, HB⟩ := hrel
        have HLK := Hid.mk hLk
        clear HX3 HC3 HG3 HB3 hLk
        by_cases hkn : (k : Int) < (2 + y)
        · go_wp2_with fail
          refine (IH.out cb v zs wr HC.out).mono ?_
          rintro e w4 ⟨t, u, rfl, hDn, hO4, hC4, hg4⟩
          have HTS := Hid.mk hDn.size
          have HDN := Hid.mk hDn
          have HC4 := Hid.mk hC4
          have HX4 := Hid.mk (HX.out.by hg4 hrne)
          have HO4 := Hid.mk (HO.out.there.by hg4 (fun h => by have := h.1; unfold newFrom at this; omega))
          have HB4 := Hid.mk (HB.out.by hg4 HNE.out)
          have HG4 := Hid.mk (grownBy_trans HG.out hg4)
          have HU4 := Hid.mk hO4
          have HRM : Hid (rb < wr.heap.size) := HX.out.lt
          have hs4 := hg4.size
          obtain ⟨au, cu, rfl⟩ := hO4.value
          obtain ⟨tk, htk⟩ : ∃ tk, t.k = tk := ⟨_, rfl⟩
          obtain ⟨ts, hts⟩ : ∃ ts, t.s = ts := ⟨_, rfl⟩
          rw [htk, hts]
          have HTK := Hid.mk htk
          have HTT := Hid.mk hts
          clear hDn hO4 hC4 hg4 HX HO HB HG HC htk hts
          by_cases hne : tk = K
          · have hb1 : (tk == K) = true := beq_iff_eq.2 hne
            clear hne
            have x2 := HX4.out.c2
            have xf := HX4.out.fr
            have hr4 := HX4.out.lt
            have A1 : Below w4.heap.size w4 (w4.alloc (.cells #[.int .i64 tk, .string ts, .slice au t.l.length cu] 26)) := (Below.refl _ _).alloc (Nat.le_refl _) _
            have HC5 := Hid.mk (HC4.out.grow A1)
            have hxc : w4.heap.size ≠ cb := by have := HC4.out.lt; omega
            go_wp2_with (first | (go_at_call 31; refine (specRepeat_any _ _).mono ?_; rintro e w' ⟨rfl, rfl⟩))
            refine (l3Leaf_any cb v zs _ HC5.out).mono ?_
            rintro e w5 ⟨lk, ls, rfl, hLf, hC5, hg5⟩
            have hXB5 := (Bz3.new w4 (.int .i64 tk) (.string ts) (.slice au t.l.length cu)).by hg5 hxc
            have hX5 := (HX4.out.grow A1).by hg5 hrne
            have hB5 := (HB4.out.grow A1).by hg5 HNE.out
            have hG5 := grownBy_trans (gy_below HG4.out A1) hg5
            have hO5 := (HO4.out.grow A1).by hg5 (fun h => by have := h.1; unfold newFrom at this; omega)
            have hs5 : wr.heap.size ≤ w5.heap.size := by have := hg5.size; simp at this; omega
            have y0 := hXB5.c0
            have y1 := hXB5.c1
            have y2 := hXB5.c2
            have yf := hXB5.fr
            have y2' := hX5.c2
            have yf' := hX5.fr
            have hwl : w.heap.size < w4.heap.size := HB4.out.lt
            generalize w4.heap.size = xb at *
            have hxl := hXB5.lt
            have A2 : Below (sz3 w5 xb (.int .i64 lk) (.string ls) (.slice none 0 0)).heap.size (sz3 w5 xb (.int .i64 lk) (.string ls) (.slice none 0 0)) ((sz3 w5 xb (.int .i64 lk) (.string ls) (.slice none 0 0)).alloc (.cells #[.int .i64 lk, .string ls, .slice none 0 0] 26)) := (Below.refl _ _).alloc (Nat.le_refl _) _
            have HX7 := Hid.mk ((hX5.kept (w' := sz3 w5 xb (.int .i64 lk) (.string ls) (.slice none 0 0)) (sz3_other _ _ _ _ _ _ (by omega))).grow A2)
            have HB7 := Hid.mk ((hB5.kept (w' := sz3 w5 xb (.int .i64 lk) (.string ls) (.slice none 0 0)) (sz3_other _ _ _ _ _ _ (by omega))).grow A2)
            have HG7 := Hid.mk (gy_below (gy_sz3 hG5 (by omega) (.int .i64 lk) (.string ls) (.slice none 0 0)) A2)
            have HC7 := Hid.mk ((hC5.sz3 (b := xb) hxc (fun hz k hk => by have := HV2.out hz k hk; omega) (.int .i64 lk) (.string ls) (.slice none 0 0)).grow A2)
            have HOL := Hid.mk ((hO5.sz3 (b := xb) (fun h => by have := h.2; omega) (.int .i64 lk) (.string ls) (.slice none 0 0)).grow A2)
            have HOT : Hid (Ow ((sz3 w5 xb (.int .i64 lk) (.string ls) (.slice none 0 0)).alloc (.cells #[.int .i64 lk, .string ls, .slice none 0 0] 26)) (newFrom (wr.heap.size + 1)) (Tr.node lk ls []).l (.slice none 0 0)) := Ow.none _
            have HXB : Hid (Bz3 ((sz3 w5 xb (.int .i64 lk) (.string ls) (.slice none 0 0)).alloc (.cells #[.int .i64 lk, .string ls, .slice none 0 0] 26)) w5.heap.size (.int .i64 lk) (.string ls) (.slice none 0 0)) := by
              have := Bz3.new (sz3 w5 xb (.int .i64 lk) (.string ls) (.slice none 0 0)) (.int .i64 lk) (.string ls) (.slice none 0 0)
              rw [sz3_size] at this
              exact this
            have HCN : Hid (newFrom (rb + 1) ((sz3 w5 xb (.int .i64 lk) (.string ls) (.slice none 0 0)).alloc (.cells #[.int .i64 lk, .string ls, .slice none 0 0] 26)).heap.size) := by show _ ≤ _; simp; omega
            have HLS : Hid (ls.size ≤ maxLen) := Nat.le_trans hLf.2.2 (by decide)
            have HLF := Hid.mk hLf
            unfold sz3 at HX7 HB7 HG7 HC7 HOL HXB HOT HCN
            clear A1 A2 HX4 HB4 HG4 HC4 HO4 HU4 HC5 hXB5 hX5 hB5 hG5 hO5 hC5 hg5 hLf
            have hrM : rb < wr.heap.size := HRM.out
            go_wp2_with (first | (go_at_call 31; refine (specRepeat_any _ _).mono ?_; rintro e w' ⟨rfl, rfl⟩) | (at_builtin; refine wpList_append_any rfl _ _ rfl (fun b => newFrom (rb + 1) b ∧ b < wr.heap.size) (newFrom (wr.heap.size + 1)) (newFrom (rb + 1)) _ (.slice none 0 0) L (Tr.node lk ls []) w5.heap.size rfl HOL.out rfl HXB.out HOT.out HLS.out (fun b hb hb2 => by have := hb2.2; unfold newFrom at hb; omega) (fun b hb => hb.1) (fun b hb => by have := HRM.out; unfold newFrom at *; omega) (HCN.out) (by have := HLK.out; have := hk; omega) ?_))
            intro v6 w6 ho6 row hrow hg6
            obtain ⟨a6, c6, rfl⟩ := ho6.value
            have hX6 := HX7.out.row hg6 (fun g e => by have := (hrow g e).1; unfold newFrom at this; omega)
            have hB6 := HB7.out.row hg6 (fun g e => by have := (hrow g e).1; unfold newFrom at this; omega)
            have hG6 := gy_row HG7.out hg6 (fun g e => by have := (hrow g e).1; unfold newFrom at this; omega)
            have hC6 := HC7.out.row hg6 (fun g e => ⟨by have := (hrow g e).1; unfold newFrom at this; omega, fun hz k hk => by have := HV2.out hz k hk; have := (hrow g e).1; unfold newFrom at this; omega⟩)
            have x2' := hX6.c2
            have xf' := hX6.fr
            have HX8 := Hid.mk (hX6.put2 (.slice a6 (L ++ [(Tr.node lk ls [])]).length c6))
            have HO8 := Hid.mk (ho6.kept (w' := w6.setCell ⟨rb, 2, none⟩ (.slice a6 (L ++ [(Tr.node lk ls [])]).length c6)) (fun b hb _ => heap_setCell_other _ _ _ _ (by unfold newFrom at hb; show b ≠ rb; omega)))
            have HB8 := Hid.mk (hB6.row (gb_set w6 rb 2 (.slice a6 (L ++ [(Tr.node lk ls [])]).length c6)) (fun g e => by simp at e; omega))
            have HG8 := Hid.mk (gy_row hG6 (gb_set w6 rb 2 (.slice a6 (L ++ [(Tr.node lk ls [])]).length c6)) (fun g e => by simp at e; omega))
            have HC8 := Hid.mk (hC6.row (gb_set w6 rb 2 (.slice a6 (L ++ [(Tr.node lk ls [])]).length c6)) (fun g e => by simp at e; exact ⟨by omega, fun hz k hk => by have := HV2.out hz k hk; omega⟩))
            have HL8 : Hid (∀ x ∈ L ++ [(Tr.node lk ls [])], Dn d x ∧ Fits K x) := by
              intro x hx
              rcases List.mem_append.1 hx with hx | hx
              · exact HL.out x hx
              · obtain rfl : x = (Tr.node lk ls []) := by simpa using hx
                exact ⟨Dn.leaf HLF.out, HLF.out.fits HK.out⟩
            have hll : Hid ((L ++ [(Tr.node lk ls [])]).length = k + 1) := by show _ = _; simp [HLK.out]
            generalize L ++ [(Tr.node lk ls [])] = L8 at HX8 HO8 HB8 HG8 HC8 HL8 hll ⊢
            clear ho6 hrow hg6 hX6 hB6 hG6 hC6 HX7 HB7 HG7 HC7 HOL HXB HOT HL
            go_wp2
            go_roundw
            case rel => exact ⟨k + 1, L8, _, by omega, by go_num, hll.out, HX8, HO8, HL8, HC8, HG8, HB8⟩
            case measure => simp [intOf]; omega
          · skip
            have hb1 : (tk == K) = false := beq_eq_false_iff_ne.2 hne
            have x2 := HX4.out.c2
            have xf := HX4.out.fr
            have hr4 := HX4.out.lt
            have A1 : Below w4.heap.size w4 ((w4.alloc (.cells #[.int .i64 tk, .string ts, .slice au t.l.length cu] 26)).alloc (.cells #[.int .i64 tk, .string ts, .slice au t.l.length cu] 26)) := ((Below.refl _ _).alloc (Nat.le_refl _) _).alloc (by simp) _
            have HX7 := Hid.mk (HX4.out.grow A1)
            have HB7 := Hid.mk (HB4.out.grow A1)
            have HG7 := Hid.mk (gy_below HG4.out A1)
            have HC7 := Hid.mk (HC4.out.grow A1)
            have HOL := Hid.mk (HO4.out.grow A1)
            have HOT := Hid.mk (HU4.out.grow A1)
            have HCN : Hid (newFrom (rb + 1) ((w4.alloc (.cells #[.int .i64 tk, .string ts, .slice au t.l.length cu] 26)).alloc (.cells #[.int .i64 tk, .string ts, .slice au t.l.length cu] 26)).heap.size) := by show _ ≤ _; simp; omega
            have HXB : Hid (Bz3 ((w4.alloc (.cells #[.int .i64 tk, .string ts, .slice au t.l.length cu] 26)).alloc (.cells #[.int .i64 tk, .string ts, .slice au t.l.length cu] 26)) (w4.heap.size + 1) (.int .i64 t.k) (.string t.s) (.slice au t.l.length cu)) := by
              have := Bz3.new (w4.alloc (.cells #[.int .i64 tk, .string ts, .slice au t.l.length cu] 26)) (.int .i64 tk) (.string ts) (.slice au t.l.length cu)
              rw [HTK.out, HTT.out]
              have e : (w4.alloc (.cells #[.int .i64 tk, .string ts, .slice au t.l.length cu] 26)).heap.size = w4.heap.size + 1 := by simp
              rw [e] at this
              exact this
            clear A1 HX4 HB4 HG4 HC4 HO4 HU4
            have hrM : rb < wr.heap.size := HRM.out
            go_wp2_with (first | (go_at_call 31; refine (specRepeat_any _ _).mono ?_; rintro e w' ⟨rfl, rfl⟩) | (at_builtin; refine wpList_append_any rfl _ _ rfl (fun b => newFrom (rb + 1) b ∧ b < wr.heap.size) (newFrom (wr.heap.size + 1)) (newFrom (rb + 1)) _ (.slice au t.l.length cu) L t (w4.heap.size + 1) rfl HOL.out rfl HXB.out HOT.out HTS.out (fun b hb hb2 => by have := hb2.2; unfold newFrom at hb; omega) (fun b hb => hb.1) (fun b hb => by have := HRM.out; unfold newFrom at *; omega) (HCN.out) (by have := HLK.out; have := hk; omega) ?_))
            intro v6 w6 ho6 row hrow hg6
            obtain ⟨a6, c6, rfl⟩ := ho6.value
            have hX6 := HX7.out.row hg6 (fun g e => by have := (hrow g e).1; unfold newFrom at this; omega)
            have hB6 := HB7.out.row hg6 (fun g e => by have := (hrow g e).1; unfold newFrom at this; omega)
            have hG6 := gy_row HG7.out hg6 (fun g e => by have := (hrow g e).1; unfold newFrom at this; omega)
            have hC6 := HC7.out.row hg6 (fun g e => ⟨by have := (hrow g e).1; unfold newFrom at this; omega, fun hz k hk => by have := HV2.out hz k hk; have := (hrow g e).1; unfold newFrom at this; omega⟩)
            have x2' := hX6.c2
            have xf' := hX6.fr
            have HX8 := Hid.mk (hX6.put2 (.slice a6 (L ++ [t]).length c6))
            have HO8 := Hid.mk (ho6.kept (w' := w6.setCell ⟨rb, 2, none⟩ (.slice a6 (L ++ [t]).length c6)) (fun b hb _ => heap_setCell_other _ _ _ _ (by unfold newFrom at hb; show b ≠ rb; omega)))
            have HB8 := Hid.mk (hB6.row (gb_set w6 rb 2 (.slice a6 (L ++ [t]).length c6)) (fun g e => by simp at e; omega))
            have HG8 := Hid.mk (gy_row hG6 (gb_set w6 rb 2 (.slice a6 (L ++ [t]).length c6)) (fun g e => by simp at e; omega))
            have HC8 := Hid.mk (hC6.row (gb_set w6 rb 2 (.slice a6 (L ++ [t]).length c6)) (fun g e => by simp at e; exact ⟨by omega, fun hz k hk => by have := HV2.out hz k hk; omega⟩))
            have HL8 : Hid (∀ x ∈ L ++ [t], Dn d x ∧ Fits K x) := by
              intro x hx
              rcases List.mem_append.1 hx with hx | hx
              · exact HL.out x hx
              · obtain rfl : x = t := by simpa using hx
                exact ⟨HDN.out, ⟨by rw [HTK.out]; exact hne, fun h => by rw [hrep] at h; cases h⟩⟩
            have hll : Hid ((L ++ [t]).length = k + 1) := by show _ = _; simp [HLK.out]
            generalize L ++ [t] = L8 at HX8 HO8 HB8 HG8 HC8 HL8 hll ⊢
            clear ho6 hrow hg6 hX6 hB6 hG6 hC6 HX7 HB7 HG7 HC7 HOL HXB HOT HL
            go_wp2
            go_roundw
            case rel => exact ⟨k + 1, L8, _, by omega, by go_num, hll.out, HX8, HO8, HL8, HC8, HG8, HB8⟩
            case measure => simp [intOf]; omega
        · have hkk : (2 + y).toNat ≤ k := by omega
          have HDN : Hid (Dn (d + 1) (.node K ⟨#[]⟩ L)) := Dn.node HK.out (fun h => by have := HLK.out; first | omega | (rw [hrep] at h; cases h)) (fun h => by have := HLK.out; first | omega | (rw [hrep] at h; cases h)) (by have := HLK.out; omega) HL.out
          obtain ⟨ar, cr, rfl⟩ := HO.out.value
          have x0 := HX.out.c0
          have x1 := HX.out.c1
          have x2 := HX.out.c2
          have c0 := HB.out.c0
          have c1 := HB.out.c1
          have c2 := HB.out.c2
          have f0 := HB.out.fr
          clear HL
          go_wp2
          have hput := HB.out.put (.int .i64 K) (.string ⟨#[]⟩) (.slice ar L.length cr)
          have hgp := gy_sz3 HG.out (Nat.le_refl _) (.int .i64 K) (.string ⟨#[]⟩) (.slice ar L.length cr)
          have hcp := HC.out.sz3 (b := w.heap.size) HNE.out HV.out (.int .i64 K) (.string ⟨#[]⟩) (.slice ar L.length cr)
          have hop := HO.out.sz3 (b := w.heap.size) (by unfold newFrom; omega) (.int .i64 K) (.string ⟨#[]⟩) (.slice ar L.length cr)
          unfold sz3 at hput hgp hcp hop
          generalize ((wr.setCell ⟨w.heap.size, 0, none⟩ (.int .i64 K)).setCell ⟨w.heap.size, 1, none⟩ (.string ⟨#[]⟩)).setCell ⟨w.heap.size, 2, none⟩ (.slice ar L.length cr) = W at hput hgp hcp hop ⊢
          have r0 := hput.c0
          have r1 := hput.c1
          have r2 := hput.c2
          refine bodyPost_ret (v := rx K ⟨#[]⟩ (.slice ar L.length cr)) ?_ rfl ⟨.node K ⟨#[]⟩ L, _, rfl, HDN.out, hop.mono (fun b hb => by unfold newFrom at *; omega), hcp, hgp⟩
          simp [results, Tryz.results13, go_sem, r0, r1, r2]

theorem l3Draw_any (d : Nat) (hd : d ≤ 100) : DrC d := by
  induction d with
  | zero => exact l3Draw_zero
  | succ d ih => exact l3Draw_succ d (by omega) (ih (by omega))
end Go.Proofs.YtkdjkkldnidmjaaGreatDoor
