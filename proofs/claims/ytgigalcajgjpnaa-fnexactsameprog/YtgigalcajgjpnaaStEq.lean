/- Whether two statements are the same, by the laws' own function: two that read the same tree are. -/
import Derived.Test.YtgigalcajgjpnaaStTo
import Derived.Test.YtgigalcajgjpnaaExEq
import Derived.Lib.QuietBelow
namespace Go.Proofs.Ytgigalcajgjpnaa
open Go.RowKit
set_option maxRecDepth 8000

def EqY (l : List St) : Prop := ∀ (B C : Nat → Prop) (v u : Value) (w : World), Sl w B l v → Sl w C l u →
  Calls Try.prog 51 #[v, u] w fun e w' => e = .returned (.bool true) ∧ Below w.heap.size w w'

set_option maxHeartbeats 1000000 in
theorem eqStmt_of (t : St) (iha : EqY t.a) (ihb : EqY t.b) (B C : Nat → Prop) (vx va vb ux ua ub : Value) (w : World) (hx : El w B t.x vx) (ha : Sl w B t.a va) (hb : Sl w B t.b vb) (hx' : El w C t.x ux) (ha' : Sl w C t.a ua) (hb' : Sl w C t.b ub) :
    Calls Try.prog 25 #[st t.k t.s t.t vx va vb, st t.k t.s t.t ux ua ub] w fun e w' => e = .returned (.bool true) ∧ Below w.heap.size w w' := by
  obtain ⟨k, hk⟩ : ∃ k, t.k = k := ⟨_, rfl⟩
  obtain ⟨s, hsn⟩ : ∃ s, t.s = s := ⟨_, rfl⟩
  obtain ⟨u, hun⟩ : ∃ u, t.t = u := ⟨_, rfl⟩
  obtain ⟨x, hxn⟩ : ∃ x, t.x = x := ⟨_, rfl⟩
  obtain ⟨a, han⟩ : ∃ a, t.a = a := ⟨_, rfl⟩
  obtain ⟨b, hbn⟩ : ∃ b, t.b = b := ⟨_, rfl⟩
  rw [hk, hsn, hun]
  rw [hxn] at hx hx'
  rw [han] at ha ha' iha
  rw [hbn] at hb hb' ihb
  clear hk hsn hun hxn han hbn
  have HX := Hid.mk (fun (w' : World) (hw : Below w.heap.size w w') => eqExprS_any x B C vx ux w' (hx.grow hw) (hx'.grow hw))
  have HA := Hid.mk (fun (w' : World) (hw : Below w.heap.size w w') => iha B C va ua w' (ha.grow hw) (ha'.grow hw))
  have HB := Hid.mk (fun (w' : World) (hw : Below w.heap.size w w') => ihb B C vb ub w' (hb.grow hw) (hb'.grow hw))
  obtain ⟨xo, xc, rfl, -, -, -⟩ := hx.len
  obtain ⟨xo', xc', rfl, -, -, -⟩ := hx'.len
  obtain ⟨ao, ac, rfl, -, -, -⟩ := ha.len
  obtain ⟨ao', ac', rfl, -, -, -⟩ := ha'.len
  obtain ⟨bo, bc, rfl, -, -, -⟩ := hb.len
  obtain ⟨bo', bc', rfl, -, -, -⟩ := hb'.len
  have B0 : Below w.heap.size w ((w.alloc (.cells #[.int .i64 k, .string s, .string u, .slice xo x.length xc, .slice ao a.length ac, .slice bo b.length bc] 31)).alloc (.cells #[.int .i64 k, .string s, .string u, .slice xo' x.length xc', .slice ao' a.length ac', .slice bo' b.length bc'] 31)) := ((Below.refl _ _).alloc (Nat.le_refl _) _).alloc (by simp) _
  have hkk : (k != k) = false := by simp
  have hss : (s.toList != s.toList) = false := by simp
  have huu : (u.toList != u.toList) = false := by simp
  clear hx hx' ha ha' hb hb' iha ihb
  go_enter Try.func25, Try.ntmps25
  go_wp2_with fail
  refine (HX.out _ B0).mono ?_
  rintro e w1 ⟨rfl, hb1⟩
  have B1 := B0.trans (hb1.mono (by simp; omega))
  have hc1 := fun o => hb1.cell (p := ⟨w.heap.size, o, none⟩) (by simp; omega)
  have hd1 := fun o => hb1.cell (p := ⟨w.heap.size + 1, o, none⟩) (by simp)
  have s1 : w.heap.size + 2 ≤ w1.heap.size := by have := hb1.size; simp at this; omega
  clear B0 hb1 HX
  go_wp2_with fail
  refine (HA.out _ B1).mono ?_
  rintro e w2 ⟨rfl, hb2⟩
  have B2 := B1.trans (hb2.mono (by omega))
  have hc2 := fun o => hb2.cell (p := ⟨w.heap.size, o, none⟩) (by simp; omega)
  have hd2 := fun o => hb2.cell (p := ⟨w.heap.size + 1, o, none⟩) (by simp; omega)
  have s2 : w.heap.size + 2 ≤ w2.heap.size := Nat.le_trans s1 hb2.size
  clear B1 hb2 HA
  go_wp2_with fail
  refine (HB.out _ B2).mono ?_
  rintro e w3 ⟨rfl, hb3⟩
  have B3 := B2.trans (hb3.mono (by omega))
  clear B2 hb3 HB hc1 hd1 hc2 hd2
  go_wp2
  go_ret
  exact ⟨rfl, B3⟩

set_option maxHeartbeats 1000000 in
theorem eqStmtS_step (l : List St) (ih : ∀ x ∈ l, EqY x.a ∧ EqY x.b) : EqY l := by
  intro B C v u w h h'
  obtain ⟨ao, cap, rfl, hl1, hl2, hl3⟩ := h.len
  obtain ⟨ao', cap', rfl, hl1', hl2', hl3'⟩ := h'.len
  have hm : cap ≤ 9223372036854775807 := by unfold maxLen at hl2; omega
  have HI := Hid.mk ih
  have H1 := Hid.mk h
  have H2 := Hid.mk h'
  clear ih h h' hl2 hl2'
  go_enter Try.func51, Try.ntmps51
  go_wp2
  go_loopw [5] (fun i wr => ∃ (k : Nat), k ≤ l.length ∧ i = .int .i64 k ∧ Below w.heap.size w wr) (fun i _ => l.length - (intOf i).toNat)
  case atStart => exact ⟨0, Nat.zero_le _, rfl, Below.refl _ _⟩
  case round =>
    obtain ⟨k, hk, rfl, hbel⟩ := hrel
    by_cases hkl : k < l.length
    · obtain ⟨b, off, X, Y, Z, rfl, hel⟩ := H1.out.elems (by intro hn; rw [hn] at hkl; simp at hkl)
      obtain ⟨b', off', X', Y', Z', rfl, hel'⟩ := H2.out.elems (by intro hn; rw [hn] at hkl; simp at hkl)
      obtain ⟨h3, hx, ha, hz, -⟩ := hel k hkl
      obtain ⟨h3', hx', ha', hz', -⟩ := hel' k hkl
      have hsz := HI.out _ (List.getElem_mem hkl)
      obtain ⟨t, ht⟩ : ∃ t, l[k] = t := ⟨_, rfl⟩
      rw [ht] at h3 hx ha hz h3' hx' ha' hz' hsz
      clear ht hel hel'
      obtain ⟨c0, c1, c2, c3, c4, c5⟩ := h3.kept (w' := wr) (hbel.block b (World.block_lt_of_cell? w _ h3.1))
      obtain ⟨d0, d1, d2, d3, d4, d5⟩ := h3'.kept (w' := wr) (hbel.block b' (World.block_lt_of_cell? w _ h3'.1))
      have a0 := cell_regrown c0
      have a1 := cell_regrown c1
      have a2 := cell_regrown c2
      have a3 := cell_regrown c3
      have a4 := cell_regrown c4
      have a5 := cell_regrown c5
      have b0 := cell_regrown d0
      have b1 := cell_regrown d1
      have b2 := cell_regrown d2
      have b3 := cell_regrown d3
      have b4 := cell_regrown d4
      have b5 := cell_regrown d5
      have cA := Hid.mk (fun d os => Calls.regrown_of (w := wr) (d := d) (os := os) (eqStmt_of t hsz.1 hsz.2 B C (X k) (Y k) (Z k) (X' k) (Y' k) (Z' k) _ ((hx.grow hbel).grow (below_regrown wr d os)) ((ha.grow hbel).grow (below_regrown wr d os)) ((hz.grow hbel).grow (below_regrown wr d os)) ((hx'.grow hbel).grow (below_regrown wr d os)) ((ha'.grow hbel).grow (below_regrown wr d os)) ((hz'.grow hbel).grow (below_regrown wr d os))))
      have hi1 : (k : Int) < (l.length : Int) := by omega
      clear hx ha hz hx' ha' hz' hsz h3 h3' c0 c1 c2 c3 c4 c5 d0 d1 d2 d3 d4 d5
      go_wp2_with fail
      refine wp_region_quiet_below (by kernel_rfl) (by kernel_rfl) ?_
      quiet_step (fail)
      quiet_step (fail)
      quiet_step (fail)
      quiet_step (fail)
      quiet_step (fail)
      quiet_step (fail)
      quiet_step (fail)
      quiet_step (fail)
      quiet_step (exact cA.out _ _)
      quiet_step (fail)
      refine wpQuiet_nil ?_
      intro w6 hw'
      obtain ⟨⟨dq, osq⟩, hw''⟩ := hw'
      have hb6 : Below wr.heap.size wr w6 := by rw [hw'']; exact below_regrown _ _ _
      have B6 := hbel.trans (hb6.mono hbel.size)
      clear hw'' a0 a1 a2 a3 a4 a5 b0 b1 b2 b3 b4 b5 cA hb6
      go_wp2
      go_roundw
      case rel => exact ⟨k + 1, by omega, by go_num, B6⟩
      case measure => simp [intOf]; omega
    · go_wp2
      go_ret
      exact ⟨rfl, hbel⟩

theorem eqStmtS_any (l : List St) : EqY l := (St.ind (P := fun t => EqY t.a ∧ EqY t.b) (fun t iha ihb => ⟨eqStmtS_step t.a iha, eqStmtS_step t.b ihb⟩) (.node 0 ⟨#[]⟩ ⟨#[]⟩ [] l [])).1
theorem eqStmt_any (t : St) (B C : Nat → Prop) (vx va vb ux ua ub : Value) (w : World) (hx : El w B t.x vx) (ha : Sl w B t.a va) (hb : Sl w B t.b vb) (hx' : El w C t.x ux) (ha' : Sl w C t.a ua) (hb' : Sl w C t.b ub) :
    Calls Try.prog 25 #[st t.k t.s t.t vx va vb, st t.k t.s t.t ux ua ub] w fun e w' => e = .returned (.bool true) ∧ Below w.heap.size w w' :=
  eqStmt_of t (eqStmtS_any t.a) (eqStmtS_any t.b) B C vx va vb ux ua ub w hx ha hb hx' ha' hb'
end Go.Proofs.Ytgigalcajgjpnaa
