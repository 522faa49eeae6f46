/- Whether two terms are the same, by the laws' own function: two that read the same tree are. -/
import Derived.Test.YtgigalcajgjpnaaExTo
import Derived.Lib.QuietBelow
namespace Go.Proofs.Ytgigalcajgjpnaa
open Go.RowKit
set_option maxRecDepth 8000

def EqX (l : List Ex) : Prop := ∀ (B C : Nat → Prop) (v u : Value) (w : World), El w B l v → El w C l u →
  Calls Try.prog 48 #[v, u] w fun e w' => e = .returned (.bool true) ∧ Below w.heap.size w w'

theorem eqExpr_of (t : Ex) (ih : EqX t.l) (B C : Nat → Prop) (v u : Value) (w : World) (h : El w B t.l v) (h' : El w C t.l u) :
    Calls Try.prog 22 #[xx t.k t.n t.s v, xx t.k t.n t.s u] w fun e w' => e = .returned (.bool true) ∧ Below w.heap.size w w' := by
  obtain ⟨k, hk⟩ : ∃ k, t.k = k := ⟨_, rfl⟩
  obtain ⟨n, hnn⟩ : ∃ n, t.n = n := ⟨_, rfl⟩
  obtain ⟨s, hsn⟩ : ∃ s, t.s = s := ⟨_, rfl⟩
  obtain ⟨l, hln⟩ : ∃ l, t.l = l := ⟨_, rfl⟩
  rw [hk, hnn, hsn]
  rw [hln] at h h' ih
  clear hk hnn hsn hln
  have B0 : Below w.heap.size w ((w.alloc (.cells #[.int .i64 k, .int .i64 n, .string s, v] 26)).alloc (.cells #[.int .i64 k, .int .i64 n, .string s, u] 26)) := ((Below.refl _ _).alloc (Nat.le_refl _) _).alloc (by simp) _
  have HI := Hid.mk ih
  have H1 := Hid.mk (h.grow B0)
  have H2 := Hid.mk (h'.grow B0)
  obtain ⟨ao, cap, rfl, hl1, hl2, hl3⟩ := h.len
  obtain ⟨ao', cap', rfl, hl1', hl2', hl3'⟩ := h'.len
  have hkk : (k != k) = false := by simp
  have hn2 : (n != n) = false := by simp
  have hss : (s.toList != s.toList) = false := by simp
  clear ih h h' hl1 hl2 hl3 hl1' hl2' hl3'
  go_enter Try.func22, Try.ntmps22
  go_wp2_with fail
  refine (HI.out _ _ _ _ _ H1.out H2.out).mono ?_
  rintro e w1 ⟨rfl, hb1⟩
  have B1 := B0.trans (hb1.mono (by simp; omega))
  clear B0 hb1 HI H1 H2
  go_wp2
  go_ret
  exact ⟨rfl, B1⟩

theorem eqExprS_step (l : List Ex) (ih : ∀ x ∈ l, EqX x.l) : EqX l := by
  intro B C v u w h h'
  obtain ⟨ao, cap, rfl, hl1, hl2, hl3⟩ := h.len
  obtain ⟨ao', cap', rfl, hl1', hl2', hl3'⟩ := h'.len
  have hm : cap ≤ 9223372036854775807 := by unfold maxLen at hl2; omega
  have HI := Hid.mk ih
  have H1 := Hid.mk h
  have H2 := Hid.mk h'
  clear ih h h' hl2 hl2'
  go_enter Try.func48, Try.ntmps48
  go_wp2
  go_loopw [5] (fun i wr => ∃ (k : Nat), k ≤ l.length ∧ i = .int .i64 k ∧ Below w.heap.size w wr) (fun i _ => l.length - (intOf i).toNat)
  case atStart => exact ⟨0, Nat.zero_le _, rfl, Below.refl _ _⟩
  case round =>
    obtain ⟨k, hk, rfl, hbel⟩ := hrel
    by_cases hkl : k < l.length
    · obtain ⟨b, off, V, rfl, hel⟩ := H1.out.elems (by intro hn; rw [hn] at hkl; simp at hkl)
      obtain ⟨b', off', V', rfl, hel'⟩ := H2.out.elems (by intro hn; rw [hn] at hkl; simp at hkl)
      obtain ⟨h3, hsub, hss⟩ := hel k hkl
      obtain ⟨h3', hsub', _⟩ := hel' k hkl
      have hsz : EqX l[k].l := HI.out _ (List.getElem_mem hkl)
      obtain ⟨t, ht⟩ : ∃ t, l[k] = t := ⟨_, rfl⟩
      rw [ht] at h3 hsub h3' hsub' hsz
      clear ht hel hel' hss
      obtain ⟨c0, cn, c1, c2⟩ := h3.kept (w' := wr) (hbel.block b (World.block_lt_of_cell? w _ h3.1))
      obtain ⟨d0, dn, d1, d2⟩ := h3'.kept (w' := wr) (hbel.block b' (World.block_lt_of_cell? w _ h3'.1))
      have a0 := cell_regrown c0
      have an := cell_regrown cn
      have a1 := cell_regrown c1
      have a2 := cell_regrown c2
      have b0 := cell_regrown d0
      have bn := cell_regrown dn
      have b1 := cell_regrown d1
      have b2 := cell_regrown d2
      have hg := hsub.grow hbel
      have hg' := hsub'.grow hbel
      have cA := Hid.mk (fun d os => Calls.regrown_of (w := wr) (d := d) (os := os) (eqExpr_of t hsz B C (V k) (V' k) _ (hg.grow (below_regrown wr d os)) (hg'.grow (below_regrown wr d os))))
      have hi1 : (k : Int) < (l.length : Int) := by omega
      clear hsub hsub' hsz h3 h3' c0 cn c1 c2 d0 dn d1 d2 hg hg'
      go_wp2_with fail
      refine wp_region_quiet_below (by kernel_rfl) (by kernel_rfl) ?_
      quiet_step (fail)
      quiet_step (fail)
      quiet_step (fail)
      quiet_step (fail)
      quiet_step (fail)
      quiet_step (fail)
      quiet_step (fail)
      quiet_step (fail)
      quiet_step (exact cA.out _ _)
      quiet_step (fail)
      refine wpQuiet_nil ?_
      intro w6 hw'
      obtain ⟨⟨dq, osq⟩, hw''⟩ := hw'
      have hb6 : Below wr.heap.size wr w6 := by rw [hw'']; exact below_regrown _ _ _
      have B6 := hbel.trans (hb6.mono hbel.size)
      clear hw'' a0 an a1 a2 b0 bn b1 b2 cA hb6
      go_wp2
      go_roundw
      case rel => exact ⟨k + 1, by omega, by go_num, B6⟩
      case measure => simp [intOf]; omega
    · go_wp2
      go_ret
      exact ⟨rfl, hbel⟩

theorem eqExprS_any (l : List Ex) : EqX l := (Ex.ind (P := fun t => EqX t.l) (fun t ih => eqExprS_step t.l ih) (.node 0 0 ⟨#[]⟩ l))
theorem eqExpr_any (t : Ex) (B C : Nat → Prop) (v u : Value) (w : World) (h : El w B t.l v) (h' : El w C t.l u) :
    Calls Try.prog 22 #[xx t.k t.n t.s v, xx t.k t.n t.s u] w fun e w' => e = .returned (.bool true) ∧ Below w.heap.size w w' := eqExpr_of t (eqExprS_any t.l) B C v u w h h'
end Go.Proofs.Ytgigalcajgjpnaa
