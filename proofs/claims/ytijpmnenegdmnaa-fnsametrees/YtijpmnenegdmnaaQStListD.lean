/- Drawn statements: l9List out of l9Draw. -/
import Derived.Test.YtijpmnenegdmnaaQStOwnD
namespace Go.Proofs.Ytijpmnenegdmnaa
open Go.RowKit
set_option maxRecDepth 8000
set_option linter.unusedSimpArgs false

theorem wpList_append_y {w : World} {ops : Array Oper} {rest : List Oper} {o : Oper} {a : Act} {Q : Exit → Act → World → Prop} (hgd : o.guard = none) (s x : Operand)
    (ho : o.op = .call { callee := .builtin .append, args := #[s, x], argTypes := #[29, 29] })
    (m base n : Nat) (v : Value) (L : List Yv) (q : Yv) (hs : a.eval s = v) (hown : OwnY m w base v L) (lb : Nat) (hx : a.eval x = .slice (some ⟨lb, 0, none⟩) 1 1)
    (hc : w.heap[lb]? = some (.cells #[.int .i64 q.t.k, .string q.t.s, .string q.t.t, q.x, q.a, q.b] 31 (0, 0)))
    (hqx : El w (nf w n) q.t.x q.x) (hqa : Sl w (nf w n) q.t.a q.a) (hqb : Sl w (nf w n) q.t.b q.b) (hd : DyS m q.t) (hn : base ≤ n) (hrow : ∀ k, v.ownBlock = some k → k < n) (hbase : base ≤ w.heap.size) (hlen : L.length ≤ 1000)
    (h : ∀ v' w', OwnY m w' base v' (L ++ [q]) → (∃ row, (∀ g, row = some g → base ≤ g) ∧ w.grownBy w' row) → wpList Try.prog ops Q rest (a.put o.dst v') w') :
    wpList Try.prog ops Q (o :: rest) a w := by
  refine wpList_plain hgd fun K hK => ?_
  exact wp_append_y s x ho m base n v L q hs hown lb hx hc hqx hqa hqb hd hn hrow hbase hlen fun v' w' h1 h2 => hK _ _ (h v' w' h1 h2)

/-- A drawn statement; drawn statements. -/
def DrY (d : Nat) : Prop := ∀ (cb : Nat) (v : Value) (zs : List Int) (w : World) (fn : Bool), Cur w cb v zs →
  Calls Try.prog 33 #[.pointer (some ⟨cb, 0, none⟩), .int .i64 (d : Int), .bool fn] w fun e w' => ∃ q : Yv, e = .returned (st q.t.k q.t.s q.t.t q.x q.a q.b) ∧ YD d w' (w.heap.size + 1) q ∧ Cur w' cb v zs ∧ w.grownBy w' (some cb)
def DrL (d : Nat) : Prop := ∀ (cb : Nat) (v : Value) (zs : List Int) (w : World) (fn : Bool), Cur w cb v zs →
  Calls Try.prog 35 #[.pointer (some ⟨cb, 0, none⟩), .int .i64 (d : Int), .bool fn] w fun e w' => ∃ (l : List St) (u : Value), e = .returned u ∧ YB d w' w.heap.size w'.heap.size l u ∧ l.length ≤ 3 ∧ Cur w' cb v zs ∧ w.grownBy w' (some cb)

set_option maxHeartbeats 4000000 in
theorem drL_of (d : Nat) (ih : DrY d) : DrL d := by
  intro cb v zs w fn h
  have IH := Hid.mk ih
  have hlt := h.lt
  have HV : Hid (zs ≠ [] → ∀ k, v.ownBlock = some k → k < w.heap.size) := fun hz k hk => h.1.lt hz k hk
  have A1 : Below w.heap.size w (w.alloc (.cells #[] 31)) := (Below.refl _ _).alloc (Nat.le_refl _) _
  have HC1 := Hid.mk (h.grow A1)
  have HO1 : Hid (OwnY d (w.alloc (.cells #[] 31)) w.heap.size (.slice (some ⟨w.heap.size, 0, none⟩) 0 0) []) := ⟨⟨rfl, .inr ⟨_, 0, _, rfl, Nat.le_refl _, (MapKept.heap_alloc w _).1, Nat.le_refl _, Nat.zero_le _, rfl, rfl⟩⟩, by simp⟩
  have HG1 := Hid.mk (gy_alloc w cb (.cells #[] 31))
  clear h A1 ih
  go_enter Try.func35, Try.ntmps35
  go_wp2_with fail
  refine (l1Below_any cb v zs 3 _ HC1.out).mono ?_
  rintro e w2 ⟨x, rfl, hx0, hx1, -, hC2, hg2⟩
  have hx3 : x < 3 := hx1 (by omega)
  obtain ⟨N, hxx⟩ : ∃ N : Nat, (1 : Int) + x = N := ⟨(1 + x).toNat, by omega⟩
  have hN3 : N ≤ 3 := by omega
  have HO2 := Hid.mk (OwnY.by HO1.out hg2 hlt)
  have HC2 := Hid.mk hC2
  have HG2 := Hid.mk (grownBy_trans HG1.out hg2)
  clear hx0 hx1 hx3 hC2 hg2 HC1 HO1 HG1
  go_wp2
  go_loopw [7, 8] (fun V i wr => ∃ (j : Nat) (L : List Yv), i = .int .i64 j ∧ Hid (j + L.length = N) ∧ Hid (OwnY d wr w.heap.size V L) ∧ Hid (Cur wr cb v zs) ∧ Hid (w.grownBy wr (some cb))) (fun _ i _ => (intOf i).toNat)
  case atStart => exact ⟨N, [], by first | rfl | (simp; omega), by simp [Hid], HO2, HC2, HG2⟩
  case round =>
    clear HO2 HC2 HG2
    obtain ⟨j, L, rfl, HJ, HO, HC, HG⟩ := hrel
    obtain ⟨V, hV⟩ : ∃ V, V = u7 := ⟨_, rfl⟩
    subst hV
    have hws : w.heap.size ≤ wr.heap.size := HG.out.size
    have hj3 : j ≤ 3 := by have := HJ.out; omega
    have hjz : (j : Int) ≤ 3 := by omega
    by_cases hj0 : 0 < j
    · have hi1 : (0 : Int) < (j : Int) := by omega
      have HROW : Hid (∀ k, V.ownBlock = some k → k < wr.heap.size) := fun k hk => (World.ownsRow.lt HO.out.1 k hk).2
      go_wp2_with fail
      refine (IH.out cb v zs _ fn HC.out).mono ?_
      rintro e w9 ⟨q, rfl, ⟨n1, n2, n3, hq9⟩, hC9, hg9⟩
      obtain ⟨hx9, ha9, hb9⟩ := hq9.els
      have hd9 := hq9.1
      clear hq9
      obtain ⟨qt, qx, qa, qb⟩ := q
      obtain ⟨xo, xc, ex, -⟩ := hx9.len
      obtain ⟨ao, ac, ea, -⟩ := ha9.len
      obtain ⟨bo, bc, eb, -⟩ := hb9.len
      simp only at ex ea eb hd9 hx9 ha9 hb9
      subst ex ea eb
      have A9 : Below w9.heap.size w9 (w9.alloc (.cells #[.int .i64 qt.k, .string qt.s, .string qt.t, .slice xo qt.x.length xc, .slice ao qt.a.length ac, .slice bo qt.b.length bc] 31)) := (Below.refl _ _).alloc (Nat.le_refl _) _
      have HN := Hid.mk (MapKept.heap_alloc w9 (.cells #[.int .i64 qt.k, .string qt.s, .string qt.t, .slice xo qt.x.length xc, .slice ao qt.a.length ac, .slice bo qt.b.length bc] 31)).1
      have HO9 := Hid.mk (OwnY.grow (OwnY.by HO.out hg9 hlt) A9)
      have HX9 := Hid.mk (hx9.nfgrow A9)
      have HA9 := Hid.mk (ha9.nfgrow A9)
      have HB9 := Hid.mk (hb9.nfgrow A9)
      have HC9 := Hid.mk (hC9.grow A9)
      have HG9 := Hid.mk (gy_below (grownBy_trans HG.out hg9) A9)
      have HD9 := Hid.mk hd9
      have hs9 := hg9.size
      clear hd9 hx9 ha9 hb9 hC9 hg9 HO HC HG
      have HLL : Hid (L.length ≤ 1000) := by refine Hid.mk ?_; have := HJ.out; omega
      go_wp2_with (at_builtin; refine wpList_append_y rfl _ _ rfl d w.heap.size (wr.heap.size + 1) V L ⟨qt, .slice xo qt.x.length xc, .slice ao qt.a.length ac, .slice bo qt.b.length bc⟩ rfl HO9.out w9.heap.size rfl HN.out HX9.out HA9.out HB9.out HD9.out (by omega) (fun k hk => by have := HROW.out k hk; omega) (by have := A9.size; omega) HLL.out ?_; rintro V' w4 hO4 ⟨row, hr4, hg4⟩)
      have HO4 := Hid.mk hO4
      have HC4 := Hid.mk (HC9.out.row hg4 (fun g e => by have := hr4 g e; exact ⟨by omega, fun hz k hk => by have := HV.out hz k hk; omega⟩))
      have HG4 := Hid.mk (gy_row HG9.out hg4 (fun g e => hr4 g e))
      have HJ4 : Hid ((j - 1) + (L ++ ([⟨qt, .slice xo qt.x.length xc, .slice ao qt.a.length ac, .slice bo qt.b.length bc⟩] : List Yv)).length = N) := by refine Hid.mk ?_; have := HJ.out; simp; omega
      have hjj : ((j : Int) - 1) = ((j - 1 : Nat) : Int) := by omega
      clear hO4 hr4 hg4 HO9 HX9 HA9 HB9 HC9 HG9 HN A9 HLL
      go_roundw
      case measure => simp [intOf]; omega
      case rel => exact ⟨j - 1, _, by first | rfl | (simp; omega), HJ4, HO4, HC4, HG4⟩
    · obtain rfl : j = 0 := by omega
      have hi1 : ¬ ((0 : Int) < ((0 : Nat) : Int)) := by omega
      have HSL := Hid.mk (YB.at HO.out)
      have HLN : Hid ((L.map Yv.t).length ≤ 3) := by refine Hid.mk ?_; have := HJ.out; simp; omega
      go_wp2
      go_ret
      exact ⟨L.map Yv.t, _, rfl, HSL.out, HLN.out, HC.out, HG.out⟩
end Go.Proofs.Ytijpmnenegdmnaa
