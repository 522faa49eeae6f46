/- Whether two rules, functions, programs are the same, by the laws' own functions: two that read the same are. -/
import Derived.Test.YtgigalcajgjpnaaPgTo
import Derived.Test.YtgigalcajgjpnaaStEq
import Derived.Lib.QuietBelow
namespace Go.Proofs.Ytgigalcajgjpnaa
open Go.RowKit
set_option maxRecDepth 8000

theorem eqTexts_any (v v' : Value) (zs : List ByteArray) (B C : Nat → Prop) (w : World) (h : Tb w B v zs) (h' : Tb w C v' zs) :
    Calls Try.prog 80 #[v, v'] w fun e w' => e = .returned (.bool true) ∧ Below w.heap.size w w' := by
  refine (eqStringS_same v v' zs w h.tz h'.tz).mono ?_
  rintro e w' ⟨rfl, n, rfl⟩
  exact ⟨rfl, Below.drewSelf _ _ n⟩

set_option maxHeartbeats 1000000 in
theorem eqRule_any (t : Ru) (B C : Nat → Prop) (x y u v : Value) (w : World) (hx : El w B t.p.l x) (hy : Sl w B t.a y) (hu : El w C t.p.l u) (hv : Sl w C t.a v) :
    Calls Try.prog 69 #[ruV t x y, ruV t u v] w fun e w' => e = .returned (.bool true) ∧ Below w.heap.size w w' := by
  have HX := Hid.mk (fun (w' : World) (hw : Below w.heap.size w w') => eqExpr_any t.p B C x u w' (hx.grow hw) (hu.grow hw))
  have HY := Hid.mk (fun (w' : World) (hw : Below w.heap.size w w') => eqStmtS_any t.a B C y v w' (hy.grow hw) (hv.grow hw))
  obtain ⟨xo, xc, rfl, -, -, -⟩ := hx.len
  obtain ⟨yo, yc, rfl, -, -, -⟩ := hy.len
  obtain ⟨uo, uc, rfl, -, -, -⟩ := hu.len
  obtain ⟨vo, vc, rfl, -, -, -⟩ := hv.len
  have B0 : Below w.heap.size w ((w.alloc (.cells #[.int .i64 t.k, .int .i64 t.p.k, .int .i64 t.p.n, .string t.p.s, .slice xo t.p.l.length xc, .slice yo t.a.length yc] 78)).alloc (.cells #[.int .i64 t.k, .int .i64 t.p.k, .int .i64 t.p.n, .string t.p.s, .slice uo t.p.l.length uc, .slice vo t.a.length vc] 78)) := ((Below.refl _ _).alloc (Nat.le_refl _) _).alloc (by simp) _
  have hkk : (t.k != t.k) = false := by simp
  clear hx hy hu hv
  go_enter Try.func69, Try.ntmps69
  go_wp2_with fail
  refine (HX.out _ B0).mono ?_
  rintro e w1 ⟨rfl, hb1⟩
  have B1 := B0.trans (hb1.mono (by simp; omega))
  have hc1 := fun o => hb1.cell (p := ⟨w.heap.size, o, none⟩) (by simp <;> omega)
  have hd1 := fun o => hb1.cell (p := ⟨w.heap.size + 1, o, none⟩) (by simp)
  clear B0 hb1 HX
  go_wp2_with fail
  refine (HY.out _ B1).mono ?_
  rintro e w2 ⟨rfl, hb2⟩
  have B2 := B1.trans (hb2.mono B1.size)
  clear B1 hb2 HY hc1 hd1
  go_wp2
  go_ret
  exact ⟨rfl, B2⟩

set_option maxHeartbeats 1000000 in
theorem eqFn_any (t : Fu) (B C : Nat → Prop) (x y u v : Value) (w : World) (hx : Tb w B x t.ps) (hy : Sl w B t.a y) (hu : Tb w C u t.ps) (hv : Sl w C t.a v) :
    Calls Try.prog 70 #[fuV t x y, fuV t u v] w fun e w' => e = .returned (.bool true) ∧ Below w.heap.size w w' := by
  have HX := Hid.mk (fun (w' : World) (hw : Below w.heap.size w w') => eqTexts_any x u t.ps B C w' (hx.grow hw) (hu.grow hw))
  have HY := Hid.mk (fun (w' : World) (hw : Below w.heap.size w w') => eqStmtS_any t.a B C y v w' (hy.grow hw) (hv.grow hw))
  obtain ⟨xo, xc, rfl, -, -, -⟩ := hx.len
  obtain ⟨yo, yc, rfl, -, -, -⟩ := hy.len
  obtain ⟨uo, uc, rfl, -, -, -⟩ := hu.len
  obtain ⟨vo, vc, rfl, -, -, -⟩ := hv.len
  have B0 : Below w.heap.size w ((w.alloc (.cells #[.string t.n, .slice xo t.ps.length xc, .slice yo t.a.length yc] 82)).alloc (.cells #[.string t.n, .slice uo t.ps.length uc, .slice vo t.a.length vc] 82)) := ((Below.refl _ _).alloc (Nat.le_refl _) _).alloc (by simp) _
  have hss : (t.n.toList != t.n.toList) = false := by simp
  clear hx hy hu hv
  go_enter Try.func70, Try.ntmps70
  go_wp2_with fail
  refine (HX.out _ B0).mono ?_
  rintro e w1 ⟨rfl, hb1⟩
  have B1 := B0.trans (hb1.mono (by simp; omega))
  have hc1 := fun o => hb1.cell (p := ⟨w.heap.size, o, none⟩) (by simp <;> omega)
  have hd1 := fun o => hb1.cell (p := ⟨w.heap.size + 1, o, none⟩) (by simp)
  clear B0 hb1 HX
  go_wp2_with fail
  refine (HY.out _ B1).mono ?_
  rintro e w2 ⟨rfl, hb2⟩
  have B2 := B1.trans (hb2.mono B1.size)
  clear B1 hb2 HY hc1 hd1
  go_wp2
  go_ret
  exact ⟨rfl, B2⟩

set_option maxHeartbeats 1000000 in
theorem eqRuleS_any (l : List Ru) (B C : Nat → Prop) (v u : Value) (w : World) (h : Ul w B l v) (h' : Ul w C l u) :
    Calls Try.prog 44 #[v, u] w fun e w' => e = .returned (.bool true) ∧ Below w.heap.size w w' := by
  obtain ⟨ao, cap, rfl, hl1, hl2, hl3⟩ := h.len
  obtain ⟨ao', cap', rfl, hl1', hl2', hl3'⟩ := h'.len
  have hm : cap ≤ 9223372036854775807 := by unfold maxLen at hl2; omega
  have H1 := Hid.mk h
  have H2 := Hid.mk h'
  clear h h' hl2 hl2'
  go_enter Try.func44, Try.ntmps44
  go_wp2
  go_loopw [5] (fun i wr => ∃ (k : Nat), k ≤ l.length ∧ i = .int .i64 k ∧ Below w.heap.size w wr) (fun i _ => l.length - (intOf i).toNat)
  case atStart => exact ⟨0, Nat.zero_le _, rfl, Below.refl _ _⟩
  case round =>
    obtain ⟨k, hk, rfl, hbel⟩ := hrel
    by_cases hkl : k < l.length
    · obtain ⟨b, off, X, Y, rfl, hel⟩ := H1.out.elems (by intro hn; rw [hn] at hkl; simp at hkl)
      obtain ⟨b', off', X', Y', rfl, hel'⟩ := H2.out.elems (by intro hn; rw [hn] at hkl; simp at hkl)
      obtain ⟨h3, hx, hy, -⟩ := hel k hkl
      obtain ⟨h3', hx', hy', -⟩ := hel' k hkl
      obtain ⟨t, ht⟩ : ∃ t, l[k] = t := ⟨_, rfl⟩
      rw [ht] at h3 hx hy h3' hx' hy'
      clear ht hel hel'
      obtain ⟨c0, c1, c2, c3, c4, c5⟩ := h3.kept (w' := wr) (hbel.block b (World.block_lt_of_cell? w _ h3.1))
      obtain ⟨d0, d1, d2, d3, d4, d5⟩ := h3'.kept (w' := wr) (hbel.block b' (World.block_lt_of_cell? w _ h3'.1))
      have a0 := cell_regrown c0
      have b0 := cell_regrown d0
      have a1 := cell_regrown c1
      have b1 := cell_regrown d1
      have a2 := cell_regrown c2
      have b2 := cell_regrown d2
      have a3 := cell_regrown c3
      have b3 := cell_regrown d3
      have a4 := cell_regrown c4
      have b4 := cell_regrown d4
      have a5 := cell_regrown c5
      have b5 := cell_regrown d5
      have cA := Hid.mk (fun d os => Calls.regrown_of (w := wr) (d := d) (os := os) (eqRule_any t B C (X k) (Y k) (X' k) (Y' k) _ ((hx.grow hbel).grow (below_regrown wr d os)) ((hy.grow hbel).grow (below_regrown wr d os)) ((hx'.grow hbel).grow (below_regrown wr d os)) ((hy'.grow hbel).grow (below_regrown wr d os))))
      have hi1 : (k : Int) < (l.length : Int) := by omega
      clear hx hy hx' hy' h3 h3' c0 c1 c2 c3 c4 c5 d0 d1 d2 d3 d4 d5
      go_wp2_with fail
      refine wp_region_quiet_below (by kernel_rfl) (by kernel_rfl) ?_
      quiet_step (fail)
      quiet_step (fail)
      quiet_step (fail)
      quiet_step (fail)
      quiet_step (fail)
      quiet_step (fail)
      quiet_step (fail)
      quiet_step (fail)
      quiet_step (exact cA.out _ _)
      quiet_step (fail)
      refine wpQuiet_nil ?_
      intro w6 hw'
      obtain ⟨⟨dq, osq⟩, hw''⟩ := hw'
      have hb6 : Below wr.heap.size wr w6 := by rw [hw'']; exact below_regrown _ _ _
      have B6 := hbel.trans (hb6.mono hbel.size)
      clear hw'' a0 a1 a2 a3 a4 a5 b0 b1 b2 b3 b4 b5 cA hb6
      go_wp2
      go_roundw
      case rel => exact ⟨k + 1, by omega, by go_num, B6⟩
      case measure => simp [intOf]; omega
    · go_wp2
      go_ret
      exact ⟨rfl, hbel⟩

set_option maxHeartbeats 1000000 in
theorem eqFnS_any (l : List Fu) (B C : Nat → Prop) (v u : Value) (w : World) (h : Fl w B l v) (h' : Fl w C l u) :
    Calls Try.prog 45 #[v, u] w fun e w' => e = .returned (.bool true) ∧ Below w.heap.size w w' := by
  obtain ⟨ao, cap, rfl, hl1, hl2, hl3⟩ := h.len
  obtain ⟨ao', cap', rfl, hl1', hl2', hl3'⟩ := h'.len
  have hm : cap ≤ 9223372036854775807 := by unfold maxLen at hl2; omega
  have H1 := Hid.mk h
  have H2 := Hid.mk h'
  clear h h' hl2 hl2'
  go_enter Try.func45, Try.ntmps45
  go_wp2
  go_loopw [5] (fun i wr => ∃ (k : Nat), k ≤ l.length ∧ i = .int .i64 k ∧ Below w.heap.size w wr) (fun i _ => l.length - (intOf i).toNat)
  case atStart => exact ⟨0, Nat.zero_le _, rfl, Below.refl _ _⟩
  case round =>
    obtain ⟨k, hk, rfl, hbel⟩ := hrel
    by_cases hkl : k < l.length
    · obtain ⟨b, off, X, Y, rfl, hel⟩ := H1.out.elems (by intro hn; rw [hn] at hkl; simp at hkl)
      obtain ⟨b', off', X', Y', rfl, hel'⟩ := H2.out.elems (by intro hn; rw [hn] at hkl; simp at hkl)
      obtain ⟨h3, hx, hy, -⟩ := hel k hkl
      obtain ⟨h3', hx', hy', -⟩ := hel' k hkl
      obtain ⟨t, ht⟩ : ∃ t, l[k] = t := ⟨_, rfl⟩
      rw [ht] at h3 hx hy h3' hx' hy'
      clear ht hel hel'
      obtain ⟨c0, c1, c2⟩ := h3.kept (w' := wr) (hbel.block b (World.block_lt_of_cell? w _ h3.1))
      obtain ⟨d0, d1, d2⟩ := h3'.kept (w' := wr) (hbel.block b' (World.block_lt_of_cell? w _ h3'.1))
      have a0 := cell_regrown c0
      have b0 := cell_regrown d0
      have a1 := cell_regrown c1
      have b1 := cell_regrown d1
      have a2 := cell_regrown c2
      have b2 := cell_regrown d2
      have cA := Hid.mk (fun d os => Calls.regrown_of (w := wr) (d := d) (os := os) (eqFn_any t B C (X k) (Y k) (X' k) (Y' k) _ ((hx.grow hbel).grow (below_regrown wr d os)) ((hy.grow hbel).grow (below_regrown wr d os)) ((hx'.grow hbel).grow (below_regrown wr d os)) ((hy'.grow hbel).grow (below_regrown wr d os))))
      have hi1 : (k : Int) < (l.length : Int) := by omega
      clear hx hy hx' hy' h3 h3' c0 c1 c2 d0 d1 d2
      go_wp2_with fail
      refine wp_region_quiet_below (by kernel_rfl) (by kernel_rfl) ?_
      quiet_step (fail)
      quiet_step (fail)
      quiet_step (fail)
      quiet_step (fail)
      quiet_step (fail)
      quiet_step (fail)
      quiet_step (fail)
      quiet_step (fail)
      quiet_step (exact cA.out _ _)
      quiet_step (fail)
      refine wpQuiet_nil ?_
      intro w6 hw'
      obtain ⟨⟨dq, osq⟩, hw''⟩ := hw'
      have hb6 : Below wr.heap.size wr w6 := by rw [hw'']; exact below_regrown _ _ _
      have B6 := hbel.trans (hb6.mono hbel.size)
      clear hw'' a0 a1 a2 b0 b1 b2 cA hb6
      go_wp2
      go_roundw
      case rel => exact ⟨k + 1, by omega, by go_num, B6⟩
      case measure => simp [intOf]; omega
    · go_wp2
      go_ret
      exact ⟨rfl, hbel⟩

set_option maxHeartbeats 1000000 in
theorem eqProg_any (t : Pg) (B C : Nat → Prop) (x y u v : Value) (w : World) (hx : Ul w B t.r x) (hy : Fl w B t.f y) (hu : Ul w C t.r u) (hv : Fl w C t.f v) :
    Calls Try.prog 19 #[pgV x y, pgV u v] w fun e w' => e = .returned (.bool true) ∧ Below w.heap.size w w' := by
  have HX := Hid.mk (fun (w' : World) (hw : Below w.heap.size w w') => eqRuleS_any t.r B C x u w' (hx.grow hw) (hu.grow hw))
  have HY := Hid.mk (fun (w' : World) (hw : Below w.heap.size w w') => eqFnS_any t.f B C y v w' (hy.grow hw) (hv.grow hw))
  obtain ⟨xo, xc, rfl, -, -, -⟩ := hx.len
  obtain ⟨yo, yc, rfl, -, -, -⟩ := hy.len
  obtain ⟨uo, uc, rfl, -, -, -⟩ := hu.len
  obtain ⟨vo, vc, rfl, -, -, -⟩ := hv.len
  have B0 : Below w.heap.size w ((w.alloc (.cells #[.slice xo t.r.length xc, .slice yo t.f.length yc] 37)).alloc (.cells #[.slice uo t.r.length uc, .slice vo t.f.length vc] 37)) := ((Below.refl _ _).alloc (Nat.le_refl _) _).alloc (by simp) _
  clear hx hy hu hv
  go_enter Try.func19, Try.ntmps19
  go_wp2_with fail
  refine (HX.out _ B0).mono ?_
  rintro e w1 ⟨rfl, hb1⟩
  have B1 := B0.trans (hb1.mono (by simp; omega))
  have hc1 := fun o => hb1.cell (p := ⟨w.heap.size, o, none⟩) (by simp <;> omega)
  have hd1 := fun o => hb1.cell (p := ⟨w.heap.size + 1, o, none⟩) (by simp)
  clear B0 hb1 HX
  go_wp2_with fail
  refine (HY.out _ B1).mono ?_
  rintro e w2 ⟨rfl, hb2⟩
  have B2 := B1.trans (hb2.mono B1.size)
  clear B1 hb2 HY hc1 hd1
  go_wp2
  go_ret
  exact ⟨rfl, B2⟩

end Go.Proofs.Ytgigalcajgjpnaa
