/- Whether two programs are the same: the model's SameProg says whether they are. -/
import Derived.Test.YtijpmnenegdmnaaQStSame
import Derived.Test.YtijpmnenegdmnaaQPgTree
import Derived.Test.YtijpmnenegdmnaaQQuietS
namespace Go.Proofs.Ytijpmnenegdmnaa
open Go.RowKit
set_option maxRecDepth 8000

open Classical in
/-- The two are the same program. -/
noncomputable def sameP (a b : Pg) : Bool := decide (a = b)
theorem sameP_iff {a b : Pg} : sameP a b = true ↔ a = b := by simp [sameP]

theorem Tb.at {w : World} {B : Nat → Prop} {ao : Option Addr} {n cap : Nat} {xs : List ByteArray} (h : Tb w B (.slice ao n cap) xs) {k : Nat} (hk : k < xs.length) : ∃ b off, ao = some ⟨b, off, none⟩ ∧ w.cell? ⟨b, off + k, none⟩ = some (.string xs[k]) := by
 obtain ⟨_, _, e, _, _, _, _, h6⟩ := h
 cases e
 obtain ⟨b, off, e, -, hc⟩ := h6 (by intro hn; rw [hn] at hk; simp at hk)
 exact ⟨b, off, e, by rw [hc k hk]; simp [hk]⟩

set_option maxHeartbeats 8000000 in
theorem specSameProg_any (a b : Pg) (B C : Nat → Prop) (x y u v : Value) (w : World) (hx : Ul w B a.r x) (hy : Fl w B a.f y) (hu : Ul w C b.r u) (hv : Fl w C b.f v) :
  Calls Try.prog 13 #[pgV x y, pgV u v] w fun e w' => e = .returned (.bool (sameP a b)) ∧ Below w.heap.size w w' := by
 have HEX : Hid (a.r = b.r → a.f = b.f → a = b) := by
  intro e1 e2
  cases a
  cases b
  simp only at e1 e2
  rw [e1, e2]
 have HNE := Hid.mk (fun (e : a = b) => (⟨congrArg Pg.r e, congrArg Pg.f e⟩ : a.r = b.r ∧ a.f = b.f))
 have HR0 : Hid ((sameP a b = true ↔ a = b)) := sameP_iff
 obtain ⟨R, hR⟩ : ∃ R, sameP a b = R := ⟨_, rfl⟩
 rw [hR] at HR0
 rw [hR]
 clear hR
 obtain ⟨P, hP⟩ : ∃ P : Prop, (a = b) = P := ⟨_, rfl⟩
 rw [hP] at HEX HR0
 rw [hP] at HNE
 clear hP
 obtain ⟨ra, h1⟩ : ∃ q, a.r = q := ⟨_, rfl⟩
 obtain ⟨fa, h2⟩ : ∃ q, a.f = q := ⟨_, rfl⟩
 obtain ⟨rb, h3⟩ : ∃ q, b.r = q := ⟨_, rfl⟩
 obtain ⟨fb, h4⟩ : ∃ q, b.f = q := ⟨_, rfl⟩
 rw [h1, h2, h3, h4] at HEX HNE
 rw [h1] at hx
 rw [h2] at hy
 rw [h3] at hu
 rw [h4] at hv
 clear h1 h2 h3 h4
 obtain ⟨ro, rc, rfl, hr1, hr2, -⟩ := hx.len
 obtain ⟨fo, fc, rfl, hf1, hf2, -⟩ := hy.len
 obtain ⟨ro', rc', rfl, hr1', hr2', -⟩ := hu.len
 obtain ⟨fo', fc', rfl, hf1', hf2', -⟩ := hv.len
 have hm1 : rc ≤ 9223372036854775807 := by unfold maxLen at hr2; omega
 have hm2 : fc ≤ 9223372036854775807 := by unfold maxLen at hf2; omega
 have hm3 : rc' ≤ 9223372036854775807 := by unfold maxLen at hr2'; omega
 have hm4 : fc' ≤ 9223372036854775807 := by unfold maxLen at hf2'; omega
 have H1 := Hid.mk hx
 have H2 := Hid.mk hu
 have G1 := Hid.mk hy
 have G2 := Hid.mk hv
 clear hx hy hu hv hr2 hf2 hr2' hf2'
 have B0 : Below w.heap.size w ((w.alloc (.cells #[.slice ro ra.length rc, .slice fo fa.length fc] 37)).alloc (.cells #[.slice ro' rb.length rc', .slice fo' fb.length fc'] 37)) := ((Below.refl _ _).alloc (Nat.le_refl _) _).alloc (by simp) _
 have B01 : Below (w.heap.size + 2) ((w.alloc (.cells #[.slice ro ra.length rc, .slice fo fa.length fc] 37)).alloc (.cells #[.slice ro' rb.length rc', .slice fo' fb.length fc'] 37)) ((w.alloc (.cells #[.slice ro ra.length rc, .slice fo fa.length fc] 37)).alloc (.cells #[.slice ro' rb.length rc', .slice fo' fb.length fc'] 37)) := Below.refl _ _
 have HF : Hid (¬ P → R = false) := by
  intro hp
  cases R with
  | false => rfl
  | true => exact absurd (HR0.out.1 rfl) hp
 by_cases hlr : ra.length = rb.length
 case neg =>
  have hb : ((ra.length : Int) != (rb.length : Int)) = true := by rw [bne_iff_ne]; omega
  have hb2 : ((ra.length : Int) == (rb.length : Int)) = false := by rw [beq_eq_false_iff_ne]; omega
  have HG := Hid.mk (HF.out fun p => hlr (congrArg _ (HNE.out p).1))
  clear HF HNE HEX HR0 H1 H2 G1 G2 B01
  go_enter Try.func13, Try.ntmps13
  go_wp2
  go_ret
  exact ⟨ret_eb HG.out.symm, B0⟩
 have hlrb : ((ra.length : Int) != (rb.length : Int)) = false := by rw [hlr]; simp
 have hlrb2 : ((ra.length : Int) == (rb.length : Int)) = true := by rw [hlr]; simp
 by_cases hlf : fa.length = fb.length
 case neg =>
  have hb : ((fa.length : Int) != (fb.length : Int)) = true := by rw [bne_iff_ne]; omega
  have hb2 : ((fa.length : Int) == (fb.length : Int)) = false := by rw [beq_eq_false_iff_ne]; omega
  have HG := Hid.mk (HF.out fun p => hlf (congrArg _ (HNE.out p).2))
  clear HF HNE HEX HR0 H1 H2 G1 G2 B01 hlr
  go_enter Try.func13, Try.ntmps13
  go_wp2
  go_ret
  exact ⟨ret_eb HG.out.symm, B0⟩
 have hlfb : ((fa.length : Int) != (fb.length : Int)) = false := by rw [hlf]; simp
 have hlfb2 : ((fa.length : Int) == (fb.length : Int)) = true := by rw [hlf]; simp
 have Hlr : Hid (ra.length = rb.length) := hlr
 have Hlf : Hid (fa.length = fb.length) := hlf
 clear hlr hlf
 go_enter Try.func13, Try.ntmps13
 go_wp2
 go_loopw [5] (fun i wr => ∃ (k1 : Nat), k1 ≤ ra.length ∧ i = .int .i64 k1 ∧ Hid (∀ j (hj : j < ra.length) (hj' : j < rb.length), j < k1 → ra[j] = rb[j]) ∧ Below (w.heap.size + 2) ((w.alloc (.cells #[.slice ro ra.length rc, .slice fo fa.length fc] 37)).alloc (.cells #[.slice ro' rb.length rc', .slice fo' fb.length fc'] 37)) wr) (fun i _ => ra.length - (intOf i).toNat)
 case atStart => exact ⟨0, Nat.zero_le _, rfl, fun j _ _ hj => absurd hj (Nat.not_lt_zero j), B01⟩
 case round =>
  obtain ⟨k1, hk, rfl, Ho, hbel⟩ := hrel
  have hc1 := fun o => hbel.cell (p := ⟨w.heap.size, o, none⟩) (by simp <;> omega)
  have hc2 := fun o => hbel.cell (p := ⟨w.heap.size + 1, o, none⟩) (by simp)
  have hbw := B0.trans (hbel.mono (by omega))
  have hs1 := hbel.size
  simp at hs1
  by_cases hkl : k1 < ra.length
  ·have hkl' : k1 < rb.length := by have := Hlr.out; omega
   have hi1 : (k1 : Int) < (ra.length : Int) := by omega
   have hi2 : (k1 : Int) < (rb.length : Int) := by omega
   obtain ⟨bb, off, X, Y, rfl, hel⟩ := H1.out.elems (by intro hn; rw [hn] at hkl; simp at hkl)
   obtain ⟨bb', off', X', Y', rfl, hel'⟩ := H2.out.elems (by intro hn; rw [hn] at hkl'; simp at hkl')
   obtain ⟨h3, hx, hy, -⟩ := hel k1 hkl
   obtain ⟨h3', hx', hy', -⟩ := hel' k1 hkl'
   have HNO : Hid (ra[k1] ≠ rb[k1] → R = false) := by
    intro hne
    refine HF.out fun p => hne ?_
    have := (HNE.out p).1
    subst this
    rfl
   have HO2 : Hid (ra[k1] = rb[k1] → ∀ j (hj : j < ra.length) (hj' : j < rb.length), j < k1 + 1 → ra[j] = rb[j]) := by
    intro hne j hj hj' hj1
    by_cases hj2 : j < k1
    ·exact Ho.out j hj hj' hj2
    ·obtain rfl : j = k1 := by omega
     exact hne
   obtain ⟨t, ht⟩ : ∃ t, ra[k1] = t := ⟨_, rfl⟩
   obtain ⟨t', ht'⟩ : ∃ t, rb[k1] = t := ⟨_, rfl⟩
   rw [ht] at h3 hx hy
   rw [ht'] at h3' hx' hy'
   rw [ht, ht'] at HNO HO2
   clear ht ht' hel hel'
   obtain ⟨c0, c1, c2, c3, c4, c5⟩ := h3.kept (w' := wr) (hbw.block bb (World.block_lt_of_cell? w _ h3.1))
   obtain ⟨d0, d1, d2, d3, d4, d5⟩ := h3'.kept (w' := wr) (hbw.block bb' (World.block_lt_of_cell? w _ h3'.1))
   have p0 : wr.cell? ⟨w.heap.size, 0, none⟩ = some (.slice (some ⟨bb, off, none⟩) ra.length rc) := by go_simp
   have p1 : wr.cell? ⟨w.heap.size + 1, 0, none⟩ = some (.slice (some ⟨bb', off', none⟩) rb.length rc') := by go_simp
   have q0 := cell_regrown p0
   have q1 := cell_regrown p1
   have a0 := cell_regrown c0
   have b0 := cell_regrown d0
   have a1 := cell_regrown c1
   have b1 := cell_regrown d1
   have a2 := cell_regrown c2
   have b2 := cell_regrown d2
   have a3 := cell_regrown c3
   have b3 := cell_regrown d3
   have a4 := cell_regrown c4
   have b4 := cell_regrown d4
   have a5 := cell_regrown c5
   have b5 := cell_regrown d5
   have cX := Hid.mk (fun d os => Calls.regrown_of (w := wr) (d := d) (os := os) (specSameExpr_any t.p t'.p B C (X k1) (X' k1) _ ((hx.grow hbw).grow (below_regrown wr d os)) ((hx'.grow hbw).grow (below_regrown wr d os))))
   have cY := Hid.mk (fun d os => Calls.regrown_of (w := wr) (d := d) (os := os) (sameSTL_any t.a t'.a B C (Y k1) (Y' k1) _ ((hy.grow hbw).grow (below_regrown wr d os)) ((hy'.grow hbw).grow (below_regrown wr d os))))
   obtain ⟨sx, hsx⟩ : ∃ b, sameX t.p t'.p = b := ⟨_, rfl⟩
   obtain ⟨sy, hsy⟩ : ∃ b, sameSL t.a t'.a = b := ⟨_, rfl⟩
   have HSX : Hid (sx = true ↔ t.p = t'.p) := by show _ ↔ _; rw [← hsx]; exact sameX_iff
   have HSY : Hid (sy = true ↔ t.a = t'.a) := by show _ ↔ _; rw [← hsy]; exact sameSL_iff
   rw [hsx] at cX
   rw [hsy] at cY
   have HRE : Hid (t.k = t'.k → t.p = t'.p → t.a = t'.a → t = t') := by
    intro e1 e2 e3
    cases t
    cases t'
    simp only at e1 e2 e3
    rw [e1, e2, e3]
   clear hx hy hx' hy' h3 h3' c0 c1 c2 c3 c4 c5 d0 d1 d2 d3 d4 d5 p0 p1 hsx hsy HF HNE HEX HR0 H1 H2 G1 G2 Hlr Hlf B01 hlrb hlrb2 hlfb hlfb2
   by_cases hkk : t.k = t'.k
   case neg =>
    have hb : (t.k != t'.k) = true := by simpa using hkk
    have HG := Hid.mk (HNO.out fun e => hkk (congrArg Ru.k e))
    clear HNO HO2 HSX HSY HRE
    go_wp2_with fail
    clear hc1 hc2
    refine wp_region_quiet_below (by kernel_rfl) (by kernel_rfl) (Qt.out ?_)
    refine Qt.step (fun K hK => ?_)
    go_simp
    refine hK _ ?_
    clear hK K
    refine Qt.step (fun K hK => ?_)
    go_simp
    refine hK _ ?_
    clear hK K
    refine Qt.step (fun K hK => ?_)
    go_simp
    refine hK _ ?_
    clear hK K
    refine Qt.step (fun K hK => ?_)
    go_simp
    refine hK _ ?_
    clear hK K
    refine Qt.step (fun K hK => ?_)
    go_simp
    refine hK _ ?_
    clear hK K
    refine Qt.step (fun K hK => ?_)
    go_simp
    refine hK _ ?_
    clear hK K
    refine Qt.step (fun K hK => ?_)
    go_simp
    refine hK _ ?_
    clear hK K
    refine Qt.step (fun K hK => ?_)
    go_simp
    refine hK _ ?_
    clear hK K
    refine Qt.step (fun K hK => ?_)
    go_simp
    refine hK _ ?_
    clear hK K
    refine Qt.step (fun K hK => ?_)
    go_simp
    refine hK _ ?_
    clear hK K
    refine Qt.step (fun K hK => ?_)
    go_simp
    refine hK _ ?_
    clear hK K
    refine Qt.step (fun K hK => ?_)
    go_simp
    refine hK _ ?_
    clear hK K
    refine Qt.step (fun K hK => ?_)
    go_simp
    refine hK _ ?_
    clear hK K
    refine Qt.step (fun K hK => ?_)
    go_simp
    refine hK _ ?_
    clear hK K
    refine Qt.step (fun K hK => ?_)
    go_simp
    refine hK _ ?_
    clear hK K
    refine Qt.step (fun K hK => ?_)
    go_simp
    refine hK _ ?_
    clear hK K
    refine Qt.step (fun K hK => ?_)
    go_simp
    refine hK _ ?_
    clear hK K
    refine Qt.step (fun K hK => ?_)
    go_simp
    refine hK _ ?_
    clear hK K
    refine Qt.step (fun K hK => ?_)
    go_simp
    refine hK _ ?_
    clear hK K
    refine Qt.step (fun K hK => ?_)
    go_simp
    refine hK _ ?_
    clear hK K
    refine Qt.step (fun K hK => ?_)
    go_simp
    refine hK _ ?_
    clear hK K
    refine Qt.step (fun K hK => ?_)
    go_simp
    refine hK _ ?_
    clear hK K
    refine Qt.step (fun K hK => ?_)
    go_simp
    refine hK _ ?_
    clear hK K
    refine Qt.step (fun K hK => ?_)
    go_simp
    refine hK _ ?_
    clear hK K
    refine Qt.step (fun K hK => ?_)
    go_simp
    refine hK _ ?_
    clear hK K
    refine Qt.step (fun K hK => ?_)
    go_simp
    refine hK _ ?_
    clear hK K
    refine Qt.step (fun K hK => ?_)
    go_simp
    refine hK _ ?_
    clear hK K
    refine Qt.step (fun K hK => ?_)
    go_simp
    refine hK _ ?_
    clear hK K
    refine Qt.step (fun K hK => ?_)
    go_simp
    refine hK _ ?_
    clear hK K
    refine Qt.step (fun K hK => ?_)
    go_simp
    refine hK _ ?_
    clear hK K
    refine Qt.step (fun K hK => ?_)
    go_simp
    refine hK _ ?_
    clear hK K
    refine Qt.step (fun K hK => ?_)
    go_simp
    refine hK _ ?_
    clear hK K
    refine Qt.step (fun K hK => ?_)
    go_simp
    refine hK _ ?_
    clear hK K
    refine Qt.step (fun K hK => ?_)
    go_simp
    refine hK _ ?_
    clear hK K
    refine Qt.step (fun K hK => ?_)
    go_simp
    refine hK _ ?_
    clear hK K
    refine Qt.step (fun K hK => ?_)
    go_simp
    refine hK _ ?_
    clear hK K
    refine Qt.step (fun K hK => ?_)
    go_simp
    refine hK _ ?_
    clear hK K
    refine Qt.step (fun K hK => ?_)
    go_simp
    refine hK _ ?_
    clear hK K
    refine Qt.step (fun K hK => ?_)
    go_simp
    refine hK _ ?_
    clear hK K
    refine Qt.step (fun K hK => ?_)
    go_simp
    refine hK _ ?_
    clear hK K
    refine Qt.step (fun K hK => ?_)
    go_simp
    refine hK _ ?_
    clear hK K
    refine Qt.step (fun K hK => ?_)
    go_simp
    refine hK _ ?_
    clear hK K
    refine Qt.step (fun K hK => ?_)
    go_simp
    refine hK _ ?_
    clear hK K
    refine Qt.step (fun K hK => ?_)
    go_simp
    refine hK _ ?_
    clear hK K
    refine Qt.step (fun K hK => ?_)
    go_simp
    refine hK _ ?_
    clear hK K
    refine Qt.nil ?_
    intro w6 hw'
    obtain ⟨⟨dq, osq⟩, hw''⟩ := hw'
    have hb6 : Below wr.heap.size wr w6 := by rw [hw'']; exact below_regrown _ _ _
    have B6 := hbw.trans (hb6.mono hbw.size)
    clear hw'' a0 a1 a2 a3 a4 a5 b0 b1 b2 b3 b4 b5 q0 q1 cX cY hb6 hbel hbw
    go_wp2
    go_ret
    exact ⟨ret_eb HG.out.symm, B6⟩
   have hkb : (t.k != t'.k) = false := by simpa using hkk
   cases sx with
   | false =>
    have HG : Hid (R = false) := HNO.out fun e => by cases HSX.out.2 (congrArg Ru.p e)
    clear HNO HO2 HSX HSY HRE hkk
    go_wp2_with fail
    clear hc1 hc2
    refine wp_region_quiet_below (by kernel_rfl) (by kernel_rfl) (Qt.out ?_)
    refine Qt.step (fun K hK => ?_)
    go_simp
    refine hK _ ?_
    clear hK K
    refine Qt.step (fun K hK => ?_)
    go_simp
    refine hK _ ?_
    clear hK K
    refine Qt.step (fun K hK => ?_)
    go_simp
    refine hK _ ?_
    clear hK K
    refine Qt.step (fun K hK => ?_)
    go_simp
    refine hK _ ?_
    clear hK K
    refine Qt.step (fun K hK => ?_)
    go_simp
    refine hK _ ?_
    clear hK K
    refine Qt.step (fun K hK => ?_)
    go_simp
    refine hK _ ?_
    clear hK K
    refine Qt.step (fun K hK => ?_)
    go_simp
    refine hK _ ?_
    clear hK K
    refine Qt.step (fun K hK => ?_)
    go_simp
    refine hK _ ?_
    clear hK K
    refine Qt.step (fun K hK => ?_)
    go_simp
    refine hK _ ?_
    clear hK K
    refine Qt.step (fun K hK => ?_)
    go_simp
    refine hK _ ?_
    clear hK K
    refine Qt.step (fun K hK => ?_)
    go_simp
    refine hK _ ?_
    clear hK K
    refine Qt.step (fun K hK => ?_)
    go_simp
    refine hK _ ?_
    clear hK K
    refine Qt.step (fun K hK => ?_)
    go_simp
    refine hK _ ?_
    clear hK K
    refine Qt.step (fun K hK => ?_)
    go_simp
    refine hK _ ?_
    clear hK K
    refine Qt.step (fun K hK => ?_)
    go_simp
    refine hK _ ?_
    clear hK K
    refine Qt.step (fun K hK => ?_)
    go_simp
    refine hK _ ?_
    clear hK K
    refine Qt.step (fun K hK => ?_)
    go_simp
    refine hK _ ?_
    clear hK K
    refine Qt.step (fun K hK => ?_)
    go_simp
    refine hK _ ?_
    clear hK K
    refine Qt.step (fun K hK => ?_)
    go_simp
    refine hK _ ?_
    clear hK K
    refine Qt.step (fun K hK => ?_)
    go_simp
    refine hK _ ?_
    clear hK K
    refine Qt.step (fun K hK => ?_)
    go_simp
    refine hK _ ?_
    clear hK K
    refine Qt.step (fun K hK => ?_)
    go_simp
    refine hK _ ?_
    clear hK K
    refine Qt.step (fun K hK => ?_)
    go_simp
    refine hK _ ?_
    clear hK K
    refine Qt.step (fun K hK => ?_)
    go_simp
    refine hK _ ?_
    clear hK K
    refine Qt.step (fun K hK => ?_)
    go_simp
    refine hK _ ?_
    clear hK K
    refine Qt.step (fun K hK => ?_)
    go_simp
    refine hK _ ?_
    clear hK K
    refine Qt.step (fun K hK => ?_)
    go_simp
    apply Exists.intro
    refine ⟨fun _ => ?_, hK _ ?_⟩
    exact cX.out _ _
    clear hK K
    refine Qt.step (fun K hK => ?_)
    go_simp
    refine hK _ ?_
    clear hK K
    refine Qt.step (fun K hK => ?_)
    go_simp
    refine hK _ ?_
    clear hK K
    refine Qt.step (fun K hK => ?_)
    go_simp
    refine hK _ ?_
    clear hK K
    refine Qt.step (fun K hK => ?_)
    go_simp
    refine hK _ ?_
    clear hK K
    refine Qt.step (fun K hK => ?_)
    go_simp
    refine hK _ ?_
    clear hK K
    refine Qt.step (fun K hK => ?_)
    go_simp
    refine hK _ ?_
    clear hK K
    refine Qt.step (fun K hK => ?_)
    go_simp
    refine hK _ ?_
    clear hK K
    refine Qt.step (fun K hK => ?_)
    go_simp
    refine hK _ ?_
    clear hK K
    refine Qt.step (fun K hK => ?_)
    go_simp
    refine hK _ ?_
    clear hK K
    refine Qt.step (fun K hK => ?_)
    go_simp
    refine hK _ ?_
    clear hK K
    refine Qt.step (fun K hK => ?_)
    go_simp
    refine hK _ ?_
    clear hK K
    refine Qt.step (fun K hK => ?_)
    go_simp
    refine hK _ ?_
    clear hK K
    refine Qt.step (fun K hK => ?_)
    go_simp
    refine hK _ ?_
    clear hK K
    refine Qt.step (fun K hK => ?_)
    go_simp
    refine hK _ ?_
    clear hK K
    refine Qt.step (fun K hK => ?_)
    go_simp
    refine hK _ ?_
    clear hK K
    refine Qt.step (fun K hK => ?_)
    go_simp
    refine hK _ ?_
    clear hK K
    refine Qt.step (fun K hK => ?_)
    go_simp
    refine hK _ ?_
    clear hK K
    refine Qt.step (fun K hK => ?_)
    go_simp
    refine hK _ ?_
    clear hK K
    refine Qt.nil ?_
    intro w6 hw'
    obtain ⟨⟨dq, osq⟩, hw''⟩ := hw'
    have hb6 : Below wr.heap.size wr w6 := by rw [hw'']; exact below_regrown _ _ _
    have B6 := hbw.trans (hb6.mono hbw.size)
    clear hw'' a0 a1 a2 a3 a4 a5 b0 b1 b2 b3 b4 b5 q0 q1 cX cY hb6 hbel hbw
    go_wp2
    go_ret
    exact ⟨ret_eb HG.out.symm, B6⟩
   | true =>
    cases sy with
    | false =>
     have HG : Hid (R = false) := HNO.out fun e => by cases HSY.out.2 (congrArg Ru.a e)
     clear HNO HO2 HSX HSY HRE hkk
     go_wp2_with fail
     clear hc1 hc2
     refine wp_region_quiet_below (by kernel_rfl) (by kernel_rfl) (Qt.out ?_)
     refine Qt.step (fun K hK => ?_)
     go_simp
     refine hK _ ?_
     clear hK K
     refine Qt.step (fun K hK => ?_)
     go_simp
     refine hK _ ?_
     clear hK K
     refine Qt.step (fun K hK => ?_)
     go_simp
     refine hK _ ?_
     clear hK K
     refine Qt.step (fun K hK => ?_)
     go_simp
     refine hK _ ?_
     clear hK K
     refine Qt.step (fun K hK => ?_)
     go_simp
     refine hK _ ?_
     clear hK K
     refine Qt.step (fun K hK => ?_)
     go_simp
     refine hK _ ?_
     clear hK K
     refine Qt.step (fun K hK => ?_)
     go_simp
     refine hK _ ?_
     clear hK K
     refine Qt.step (fun K hK => ?_)
     go_simp
     refine hK _ ?_
     clear hK K
     refine Qt.step (fun K hK => ?_)
     go_simp
     refine hK _ ?_
     clear hK K
     refine Qt.step (fun K hK => ?_)
     go_simp
     refine hK _ ?_
     clear hK K
     refine Qt.step (fun K hK => ?_)
     go_simp
     refine hK _ ?_
     clear hK K
     refine Qt.step (fun K hK => ?_)
     go_simp
     refine hK _ ?_
     clear hK K
     refine Qt.step (fun K hK => ?_)
     go_simp
     refine hK _ ?_
     clear hK K
     refine Qt.step (fun K hK => ?_)
     go_simp
     refine hK _ ?_
     clear hK K
     refine Qt.step (fun K hK => ?_)
     go_simp
     refine hK _ ?_
     clear hK K
     refine Qt.step (fun K hK => ?_)
     go_simp
     refine hK _ ?_
     clear hK K
     refine Qt.step (fun K hK => ?_)
     go_simp
     refine hK _ ?_
     clear hK K
     refine Qt.step (fun K hK => ?_)
     go_simp
     refine hK _ ?_
     clear hK K
     refine Qt.step (fun K hK => ?_)
     go_simp
     refine hK _ ?_
     clear hK K
     refine Qt.step (fun K hK => ?_)
     go_simp
     refine hK _ ?_
     clear hK K
     refine Qt.step (fun K hK => ?_)
     go_simp
     refine hK _ ?_
     clear hK K
     refine Qt.step (fun K hK => ?_)
     go_simp
     refine hK _ ?_
     clear hK K
     refine Qt.step (fun K hK => ?_)
     go_simp
     refine hK _ ?_
     clear hK K
     refine Qt.step (fun K hK => ?_)
     go_simp
     refine hK _ ?_
     clear hK K
     refine Qt.step (fun K hK => ?_)
     go_simp
     refine hK _ ?_
     clear hK K
     refine Qt.step (fun K hK => ?_)
     go_simp
     refine hK _ ?_
     clear hK K
     refine Qt.step (fun K hK => ?_)
     go_simp
     apply Exists.intro
     refine ⟨fun _ => ?_, hK _ ?_⟩
     exact cX.out _ _
     clear hK K
     refine Qt.step (fun K hK => ?_)
     go_simp
     refine hK _ ?_
     clear hK K
     refine Qt.step (fun K hK => ?_)
     go_simp
     refine hK _ ?_
     clear hK K
     refine Qt.step (fun K hK => ?_)
     go_simp
     refine hK _ ?_
     clear hK K
     refine Qt.step (fun K hK => ?_)
     go_simp
     refine hK _ ?_
     clear hK K
     refine Qt.step (fun K hK => ?_)
     go_simp
     refine hK _ ?_
     clear hK K
     refine Qt.step (fun K hK => ?_)
     go_simp
     refine hK _ ?_
     clear hK K
     refine Qt.step (fun K hK => ?_)
     go_simp
     refine hK _ ?_
     clear hK K
     refine Qt.step (fun K hK => ?_)
     go_simp
     refine hK _ ?_
     clear hK K
     refine Qt.step (fun K hK => ?_)
     go_simp
     refine hK _ ?_
     clear hK K
     refine Qt.step (fun K hK => ?_)
     go_simp
     refine hK _ ?_
     clear hK K
     refine Qt.step (fun K hK => ?_)
     go_simp
     refine hK _ ?_
     clear hK K
     refine Qt.step (fun K hK => ?_)
     go_simp
     refine hK _ ?_
     clear hK K
     refine Qt.step (fun K hK => ?_)
     go_simp
     refine hK _ ?_
     clear hK K
     refine Qt.step (fun K hK => ?_)
     go_simp
     refine hK _ ?_
     clear hK K
     refine Qt.step (fun K hK => ?_)
     go_simp
     refine hK _ ?_
     clear hK K
     refine Qt.step (fun K hK => ?_)
     go_simp
     apply Exists.intro
     refine ⟨fun _ => ?_, hK _ ?_⟩
     exact cY.out _ _
     clear hK K
     refine Qt.step (fun K hK => ?_)
     go_simp
     refine hK _ ?_
     clear hK K
     refine Qt.step (fun K hK => ?_)
     go_simp
     refine hK _ ?_
     clear hK K
     refine Qt.nil ?_
     intro w6 hw'
     obtain ⟨⟨dq, osq⟩, hw''⟩ := hw'
     have hb6 : Below wr.heap.size wr w6 := by rw [hw'']; exact below_regrown _ _ _
     have B6 := hbw.trans (hb6.mono hbw.size)
     clear hw'' a0 a1 a2 a3 a4 a5 b0 b1 b2 b3 b4 b5 q0 q1 cX cY hb6 hbel hbw
     go_wp2
     go_ret
     exact ⟨ret_eb HG.out.symm, B6⟩
    | true =>
     have HO3 := Hid.mk (HO2.out (HRE.out hkk (HSX.out.1 rfl) (HSY.out.1 rfl)))
     clear HNO HO2 HSX HSY HRE hkk Ho
     go_wp2_with fail
     clear hc1 hc2
     refine wp_region_quiet_below (by kernel_rfl) (by kernel_rfl) (Qt.out ?_)
     refine Qt.step (fun K hK => ?_)
     go_simp
     refine hK _ ?_
     clear hK K
     refine Qt.step (fun K hK => ?_)
     go_simp
     refine hK _ ?_
     clear hK K
     refine Qt.step (fun K hK => ?_)
     go_simp
     refine hK _ ?_
     clear hK K
     refine Qt.step (fun K hK => ?_)
     go_simp
     refine hK _ ?_
     clear hK K
     refine Qt.step (fun K hK => ?_)
     go_simp
     refine hK _ ?_
     clear hK K
     refine Qt.step (fun K hK => ?_)
     go_simp
     refine hK _ ?_
     clear hK K
     refine Qt.step (fun K hK => ?_)
     go_simp
     refine hK _ ?_
     clear hK K
     refine Qt.step (fun K hK => ?_)
     go_simp
     refine hK _ ?_
     clear hK K
     refine Qt.step (fun K hK => ?_)
     go_simp
     refine hK _ ?_
     clear hK K
     refine Qt.step (fun K hK => ?_)
     go_simp
     refine hK _ ?_
     clear hK K
     refine Qt.step (fun K hK => ?_)
     go_simp
     refine hK _ ?_
     clear hK K
     refine Qt.step (fun K hK => ?_)
     go_simp
     refine hK _ ?_
     clear hK K
     refine Qt.step (fun K hK => ?_)
     go_simp
     refine hK _ ?_
     clear hK K
     refine Qt.step (fun K hK => ?_)
     go_simp
     refine hK _ ?_
     clear hK K
     refine Qt.step (fun K hK => ?_)
     go_simp
     refine hK _ ?_
     clear hK K
     refine Qt.step (fun K hK => ?_)
     go_simp
     refine hK _ ?_
     clear hK K
     refine Qt.step (fun K hK => ?_)
     go_simp
     refine hK _ ?_
     clear hK K
     refine Qt.step (fun K hK => ?_)
     go_simp
     refine hK _ ?_
     clear hK K
     refine Qt.step (fun K hK => ?_)
     go_simp
     refine hK _ ?_
     clear hK K
     refine Qt.step (fun K hK => ?_)
     go_simp
     refine hK _ ?_
     clear hK K
     refine Qt.step (fun K hK => ?_)
     go_simp
     refine hK _ ?_
     clear hK K
     refine Qt.step (fun K hK => ?_)
     go_simp
     refine hK _ ?_
     clear hK K
     refine Qt.step (fun K hK => ?_)
     go_simp
     refine hK _ ?_
     clear hK K
     refine Qt.step (fun K hK => ?_)
     go_simp
     refine hK _ ?_
     clear hK K
     refine Qt.step (fun K hK => ?_)
     go_simp
     refine hK _ ?_
     clear hK K
     refine Qt.step (fun K hK => ?_)
     go_simp
     refine hK _ ?_
     clear hK K
     refine Qt.step (fun K hK => ?_)
     go_simp
     apply Exists.intro
     refine ⟨fun _ => ?_, hK _ ?_⟩
     exact cX.out _ _
     clear hK K
     refine Qt.step (fun K hK => ?_)
     go_simp
     refine hK _ ?_
     clear hK K
     refine Qt.step (fun K hK => ?_)
     go_simp
     refine hK _ ?_
     clear hK K
     refine Qt.step (fun K hK => ?_)
     go_simp
     refine hK _ ?_
     clear hK K
     refine Qt.step (fun K hK => ?_)
     go_simp
     refine hK _ ?_
     clear hK K
     refine Qt.step (fun K hK => ?_)
     go_simp
     refine hK _ ?_
     clear hK K
     refine Qt.step (fun K hK => ?_)
     go_simp
     refine hK _ ?_
     clear hK K
     refine Qt.step (fun K hK => ?_)
     go_simp
     refine hK _ ?_
     clear hK K
     refine Qt.step (fun K hK => ?_)
     go_simp
     refine hK _ ?_
     clear hK K
     refine Qt.step (fun K hK => ?_)
     go_simp
     refine hK _ ?_
     clear hK K
     refine Qt.step (fun K hK => ?_)
     go_simp
     refine hK _ ?_
     clear hK K
     refine Qt.step (fun K hK => ?_)
     go_simp
     refine hK _ ?_
     clear hK K
     refine Qt.step (fun K hK => ?_)
     go_simp
     refine hK _ ?_
     clear hK K
     refine Qt.step (fun K hK => ?_)
     go_simp
     refine hK _ ?_
     clear hK K
     refine Qt.step (fun K hK => ?_)
     go_simp
     refine hK _ ?_
     clear hK K
     refine Qt.step (fun K hK => ?_)
     go_simp
     refine hK _ ?_
     clear hK K
     refine Qt.step (fun K hK => ?_)
     go_simp
     apply Exists.intro
     refine ⟨fun _ => ?_, hK _ ?_⟩
     exact cY.out _ _
     clear hK K
     refine Qt.step (fun K hK => ?_)
     go_simp
     refine hK _ ?_
     clear hK K
     refine Qt.step (fun K hK => ?_)
     go_simp
     refine hK _ ?_
     clear hK K
     refine Qt.nil ?_
     intro w6 hw'
     obtain ⟨⟨dq, osq⟩, hw''⟩ := hw'
     have hb6 : Below wr.heap.size wr w6 := by rw [hw'']; exact below_regrown _ _ _
     have B6 := hbel.trans (hb6.mono (by omega))
     clear hw'' a0 a1 a2 a3 a4 a5 b0 b1 b2 b3 b4 b5 q0 q1 cX cY hb6 hbel hbw
     go_wp2
     go_roundw
     case rel => exact ⟨k1 + 1, by omega, by go_num, HO3, B6⟩
     case measure => simp [intOf]; omega
  ·have e : k1 = ra.length := by omega
   subst e
   have hrr : ra = rb := List.ext_getElem Hlr.out fun j h1 h2 => Ho.out j h1 h2 h1
   have HEX2 := Hid.mk (fun e => HR0.out.2 (HEX.out hrr e))
   clear HEX Ho HR0 H1 H2 hrr Hlr hkl hk
   go_wp2
   go_loopw [6] (fun i wr => ∃ (k1 : Nat), k1 ≤ fa.length ∧ i = .int .i64 k1 ∧ Hid (∀ j (hj : j < fa.length) (hj' : j < fb.length), j < k1 → fa[j] = fb[j]) ∧ Below (w.heap.size + 2) ((w.alloc (.cells #[.slice ro ra.length rc, .slice fo fa.length fc] 37)).alloc (.cells #[.slice ro' rb.length rc', .slice fo' fb.length fc'] 37)) wr) (fun i _ => fa.length - (intOf i).toNat)
   case atStart => exact ⟨0, Nat.zero_le _, rfl, fun j _ _ hj => absurd hj (Nat.not_lt_zero j), hbel⟩
   case round =>
    clear hc1 hc2 hbw hs1 hbel
    obtain ⟨k1, hk, rfl, Ho, hbel⟩ := hrel
    obtain ⟨wo, hwo⟩ : ∃ q, q = wr := ⟨_, rfl⟩
    subst hwo
    have hc1 := fun o => hbel.cell (p := ⟨w.heap.size, o, none⟩) (by simp <;> omega)
    have hc2 := fun o => hbel.cell (p := ⟨w.heap.size + 1, o, none⟩) (by simp)
    have hbw := B0.trans (hbel.mono (by omega))
    have hs1 := hbel.size
    simp at hs1
    by_cases hkl : k1 < fa.length
    ·have hkl' : k1 < fb.length := by have := Hlf.out; omega
     have hi1 : (k1 : Int) < (fa.length : Int) := by omega
     have hi2 : (k1 : Int) < (fb.length : Int) := by omega
     obtain ⟨bb, off, X, Y, rfl, hel⟩ := G1.out.elems (by intro hn; rw [hn] at hkl; simp at hkl)
     obtain ⟨bb', off', X', Y', rfl, hel'⟩ := G2.out.elems (by intro hn; rw [hn] at hkl'; simp at hkl')
     obtain ⟨h3, hx, hy, -⟩ := hel k1 hkl
     obtain ⟨h3', hx', hy', -⟩ := hel' k1 hkl'
     have HNO : Hid (fa[k1] ≠ fb[k1] → R = false) := by
      intro hne
      refine HF.out fun p => hne ?_
      have := (HNE.out p).2
      subst this
      rfl
     have HO2 : Hid (fa[k1] = fb[k1] → ∀ j (hj : j < fa.length) (hj' : j < fb.length), j < k1 + 1 → fa[j] = fb[j]) := by
      intro hne j hj hj' hj1
      by_cases hj2 : j < k1
      ·exact Ho.out j hj hj' hj2
      ·obtain rfl : j = k1 := by omega
       exact hne
     obtain ⟨t, ht⟩ : ∃ t, fa[k1] = t := ⟨_, rfl⟩
     obtain ⟨t', ht'⟩ : ∃ t, fb[k1] = t := ⟨_, rfl⟩
     rw [ht] at h3 hx hy
     rw [ht'] at h3' hx' hy'
     rw [ht, ht'] at HNO HO2
     clear ht ht' hel hel'
     obtain ⟨c0, c1, c2⟩ := h3.kept (w' := wo) (hbw.block bb (World.block_lt_of_cell? w _ h3.1))
     obtain ⟨d0, d1, d2⟩ := h3'.kept (w' := wo) (hbw.block bb' (World.block_lt_of_cell? w _ h3'.1))
     have hlt1 : bb < wo.heap.size := World.block_lt_of_cell? wo _ c0
     have hlt2 : bb' < wo.heap.size := World.block_lt_of_cell? wo _ d0
     have HRE : Hid (t.n = t'.n → t.ps = t'.ps → t.a = t'.a → t = t') := by
      intro e1 e2 e3
      cases t
      cases t'
      simp only at e1 e2 e3
      rw [e1, e2, e3]
     have gx := Hid.mk (hx.grow hbw)
     have gx' := Hid.mk (hx'.grow hbw)
     have cY := Hid.mk (fun (w' : World) (hw : Below wo.heap.size wo w') => sameSTL_any t.a t'.a B C (Y k1) (Y' k1) w' ((hy.grow hbw).grow hw) ((hy'.grow hbw).grow hw))
     obtain ⟨sy, hsy⟩ : ∃ b, sameSL t.a t'.a = b := ⟨_, rfl⟩
     have HSY : Hid (sy = true ↔ t.a = t'.a) := by show _ ↔ _; rw [← hsy]; exact sameSL_iff
     rw [hsy] at cY
     obtain ⟨xo, xc, ex, hx1, hx2, -⟩ := hx.len
     obtain ⟨xo', xc', ex', hx1', hx2', -⟩ := hx'.len
     obtain ⟨yo, yc, ey, -, -, -⟩ := hy.len
     obtain ⟨yo', yc', ey', -, -, -⟩ := hy'.len
     rw [ex] at c1 gx
     rw [ex'] at d1 gx'
     rw [ey] at c2 cY
     rw [ey'] at d2 cY
     have hxm : xc ≤ 9223372036854775807 := by unfold maxLen at hx2; omega
     have hxm' : xc' ≤ 9223372036854775807 := by unfold maxLen at hx2'; omega
     clear hx hy hx' hy' h3 h3' hsy ex ex' ey ey' hx2 hx2'
     have HN1 := Hid.mk (fun (e : t = t') => congrArg Fu.n e)
     have HN2 := Hid.mk (fun (e : t = t') => congrArg Fu.ps e)
     have HN3 := Hid.mk (fun (e : t = t') => congrArg Fu.a e)
     obtain ⟨P2, hP2⟩ : ∃ P : Prop, (t = t') = P := ⟨_, rfl⟩
     have HNO : Hid (¬ P2 → R = false) := by rw [← hP2]; exact HNO.out
     rw [hP2] at HO2 HRE HN1 HN2 HN3
     clear hP2
     obtain ⟨n, hn⟩ : ∃ n, t.n = n := ⟨_, rfl⟩
     obtain ⟨n', hn'⟩ : ∃ n, t'.n = n := ⟨_, rfl⟩
     obtain ⟨ps, hps⟩ : ∃ n, t.ps = n := ⟨_, rfl⟩
     obtain ⟨ps', hps'⟩ : ∃ n, t'.ps = n := ⟨_, rfl⟩
     obtain ⟨sa, hsa⟩ : ∃ n, t.a = n := ⟨_, rfl⟩
     obtain ⟨sb, hsb⟩ : ∃ n, t'.a = n := ⟨_, rfl⟩
     rw [hn, hn', hps, hps', hsa, hsb] at HRE
     rw [hn, hn'] at HN1
     rw [hps, hps'] at HN2
     rw [hsa, hsb] at HN3 HSY cY
     rw [hn] at c0
     rw [hn'] at d0
     rw [hps] at c1 gx hx1
     rw [hps'] at d1 gx' hx1'
     rw [hsa] at c2
     rw [hsb] at d2
     clear hn hn' hps hps' hsa hsb
     have hwr : w.heap.size + 1 < wo.heap.size := by omega
     have A1 := (Below.refl wo.heap.size wo).alloc (Nat.le_refl _) (.cells #[.string n, .slice xo ps.length xc, .slice yo sa.length yc] 63)
     have A2 := A1.alloc (by simp) (.cells #[.string n', .slice xo' ps'.length xc', .slice yo' sb.length yc'] 63)
     have s4 : w.heap.size ≠ wo.heap.size := by omega
     have s5 : w.heap.size + 1 ≠ wo.heap.size := by omega
     have s6 : w.heap.size < wo.heap.size := by omega
     have s7 : bb ≠ wo.heap.size := by omega
     have s8 : bb' ≠ wo.heap.size := by omega
     by_cases hnn : n = n'
     case neg =>
      have hb : (n.toList == n'.toList) = false := by have := txt_bne hnn; simpa [bne] using this
      have HG := Hid.mk (HNO.out fun p => hnn (HN1.out p))
      have B6 := hbw.trans (A2.mono hbw.size)
      clear HNO HO2 HSY HRE HN1 HN2 HN3 cY gx gx' hbel hbw A1 A2
      go_wp2
      go_ret
      exact ⟨ret_eb HG.out.symm, B6⟩
     have hnb : (n.toList == n'.toList) = true := by rw [hnn]; simp
     by_cases hll : ps.length = ps'.length
     case neg =>
      have hb : ((ps.length : Int) != (ps'.length : Int)) = true := by rw [bne_iff_ne]; omega
      have hb2 : ((ps.length : Int) == (ps'.length : Int)) = false := by rw [beq_eq_false_iff_ne]; omega
      have HG := Hid.mk (HNO.out fun p => hll (congrArg _ (HN2.out p)))
      have B6 := hbw.trans (A2.mono hbw.size)
      clear HNO HO2 HSY HRE HN1 HN2 HN3 cY gx gx' hbel hbw A1 A2 hnn
      go_wp2
      go_ret
      exact ⟨ret_eb HG.out.symm, B6⟩
     have hlb : ((ps.length : Int) != (ps'.length : Int)) = false := by rw [hll]; simp
     have hlb2 : ((ps.length : Int) == (ps'.length : Int)) = true := by rw [hll]; simp
     cases sy with
     | false =>
      have HG : Hid (R = false) := HNO.out fun p => by cases HSY.out.2 (HN3.out p)
      have B6 := hbw.trans (A2.mono hbw.size)
      have hB7 := B6.size
      clear HNO HO2 HSY HRE HN1 HN2 HN3 gx gx' hbel hbw hnn hll
      go_wp2_with fail
      refine (cY.out _ A2).mono ?_
      rintro e w2 ⟨rfl, hb2⟩
      have B8 := B6.trans (hb2.mono hB7)
      clear hb2 cY A1 A2 B6
      go_wp2
      go_ret
      exact ⟨ret_eb HG.out.symm, B8⟩
     | true =>
      have HRE := Hid.mk (fun e => HO2.out (HRE.out hnn e (HSY.out.1 rfl)))
      clear HO2 HSY HN1 HN3 hnn
      have Hl2 : Hid (ps.length = ps'.length) := hll
      clear hll
      have HBW := Hid.mk hbw
      have HBL := Hid.mk hbel
      clear hbw hbel
      go_wp2_with fail
      refine (cY.out _ A2).mono ?_
      rintro e w2 ⟨rfl, hb2⟩
      have A3 : Hid (Below (wo.heap.size + 2) ((wo.alloc (.cells #[.string n, .slice xo ps.length xc, .slice yo sa.length yc] 63)).alloc (.cells #[.string n', .slice xo' ps'.length xc', .slice yo' sb.length yc'] 63)) w2) := hb2.mono (by simp)
      have A4 := A2.trans (hb2.mono (by simp <;> omega))
      have s9 := hb2.size
      simp at s9
      have hd1 := fun o => A3.out.cell (p := ⟨wo.heap.size, o, none⟩) (by simp <;> omega)
      have hd2 := fun o => A3.out.cell (p := ⟨wo.heap.size + 1, o, none⟩) (by simp)
      have GX := gx
      have GX' := gx'
      have A20 : Hid (Below wo.heap.size wo ((wo.alloc (.cells #[.string n, .slice xo ps.length xc, .slice yo sa.length yc] 63)).alloc (.cells #[.string n', .slice xo' ps'.length xc', .slice yo' sb.length yc'] 63))) := A2
      clear hb2 cY A1 A2 gx gx' hc1 hc2
      go_wp2
      go_loopw [9] (fun i wr => ∃ (k2 : Nat), k2 ≤ ps.length ∧ i = .int .i64 k2 ∧ Hid (∀ j (hj : j < ps.length) (hj' : j < ps'.length), j < k2 → ps[j] = ps'[j]) ∧ Below (wo.heap.size + 2) ((wo.alloc (.cells #[.string n, .slice xo ps.length xc, .slice yo sa.length yc] 63)).alloc (.cells #[.string n', .slice xo' ps'.length xc', .slice yo' sb.length yc'] 63)) wr) (fun i _ => ps.length - (intOf i).toNat)
      case atStart => exact ⟨0, Nat.zero_le _, rfl, fun j _ _ hj => absurd hj (Nat.not_lt_zero j), A3.out⟩
      case round =>
       obtain ⟨k2, hk2, rfl, Ho2, hbel2⟩ := hrel
       have he1 := fun o => hbel2.cell (p := ⟨wo.heap.size, o, none⟩) (by simp <;> omega)
       have he2 := fun o => hbel2.cell (p := ⟨wo.heap.size + 1, o, none⟩) (by simp)
       have hbw2 : Hid (Below wo.heap.size wo wr) := A20.out.trans (hbel2.mono (by omega))
       have hs2 := hbel2.size
       simp at hs2
       by_cases hk2l : k2 < ps.length
       ·have hk2l' : k2 < ps'.length := by have := Hl2.out; omega
        have hj1 : (k2 : Int) < (ps.length : Int) := by omega
        have hj2 : (k2 : Int) < (ps'.length : Int) := by omega
        obtain ⟨tb, toff, ex, hcx⟩ := (GX.out.grow hbw2.out).at hk2l
        obtain ⟨tb', toff', ex', hcx'⟩ := (GX'.out.grow hbw2.out).at hk2l'
        have HNO2 : Hid (ps[k2] ≠ ps'[k2] → R = false) := by
         intro hne
         refine HNO.out fun p => hne ?_
         have := HN2.out p
         subst this
         rfl
        have HO4 : Hid (ps[k2] = ps'[k2] → ∀ j (hj : j < ps.length) (hj' : j < ps'.length), j < k2 + 1 → ps[j] = ps'[j]) := by
         intro hne j hj hj' hj1
         by_cases hj2 : j < k2
         ·exact Ho2.out j hj hj' hj2
         ·obtain rfl : j = k2 := by omega
          exact hne
        obtain ⟨z, hz⟩ : ∃ z, ps[k2] = z := ⟨_, rfl⟩
        obtain ⟨z', hz'⟩ : ∃ z, ps'[k2] = z := ⟨_, rfl⟩
        rw [hz] at hcx
        rw [hz'] at hcx'
        rw [hz, hz'] at HNO2 HO4
        clear hz hz'
        have p0 : wr.cell? ⟨wo.heap.size, 1, none⟩ = some (.slice (some ⟨tb, toff, none⟩) ps.length xc) := by rw [← ex]; go_simp
        have p1 : wr.cell? ⟨wo.heap.size + 1, 1, none⟩ = some (.slice (some ⟨tb', toff', none⟩) ps'.length xc') := by rw [← ex']; go_simp
        have r0 := cell_regrown p0
        have r1 := cell_regrown p1
        have r2 := cell_regrown hcx
        have r3 := cell_regrown hcx'
        have B5 := HBW.out.trans (hbw2.out.mono HBW.out.size)
        clear he1 he2 Ho HF HNE HEX2 G1 G2 Hlf HRE HNO HN2 Hl2 GX GX' hcx hcx' ex ex'
        by_cases hzz : z = z'
        case neg =>
         have hb : (z.toList == z'.toList) = false := by have := txt_bne hzz; simpa [bne] using this
         have HG := Hid.mk (HNO2.out hzz)
         clear HNO2 HO4 hzz
         go_wp2_with fail
         refine wp_region_quiet_below (by kernel_rfl) (by kernel_rfl) (Qt.out ?_)
         refine Qt.step (fun K hK => ?_)
         go_simp
         refine hK _ ?_
         clear hK K
         refine Qt.step (fun K hK => ?_)
         go_simp
         refine hK _ ?_
         clear hK K
         refine Qt.step (fun K hK => ?_)
         go_simp
         refine hK _ ?_
         clear hK K
         refine Qt.step (fun K hK => ?_)
         go_simp
         refine hK _ ?_
         clear hK K
         refine Qt.step (fun K hK => ?_)
         go_simp
         refine hK _ ?_
         clear hK K
         refine Qt.step (fun K hK => ?_)
         go_simp
         refine hK _ ?_
         clear hK K
         refine Qt.step (fun K hK => ?_)
         go_simp
         refine hK _ ?_
         clear hK K
         refine Qt.step (fun K hK => ?_)
         go_simp
         refine hK _ ?_
         clear hK K
         refine Qt.step (fun K hK => ?_)
         go_simp
         refine hK _ ?_
         clear hK K
         refine Qt.step (fun K hK => ?_)
         go_simp
         refine hK _ ?_
         clear hK K
         refine Qt.step (fun K hK => ?_)
         go_simp
         refine hK _ ?_
         clear hK K
         refine Qt.nil ?_
         intro w6 hw'
         obtain ⟨⟨dq, osq⟩, hw''⟩ := hw'
         have hb6 : Below wr.heap.size wr w6 := by rw [hw'']; exact below_regrown _ _ _
         have B6 := B5.trans (hb6.mono B5.size)
         clear hw'' r0 r1 r2 r3 hb6 B5 hbel2
         go_wp2
         go_ret
         exact ⟨ret_eb HG.out.symm, B6⟩
        have hb : (z.toList == z'.toList) = true := by rw [hzz]; simp
        have HO5 := Hid.mk (HO4.out hzz)
        clear HNO2 HO4 hzz Ho2
        go_wp2_with fail
        refine wp_region_quiet_below (by kernel_rfl) (by kernel_rfl) (Qt.out ?_)
        refine Qt.step (fun K hK => ?_)
        go_simp
        refine hK _ ?_
        clear hK K
        refine Qt.step (fun K hK => ?_)
        go_simp
        refine hK _ ?_
        clear hK K
        refine Qt.step (fun K hK => ?_)
        go_simp
        refine hK _ ?_
        clear hK K
        refine Qt.step (fun K hK => ?_)
        go_simp
        refine hK _ ?_
        clear hK K
        refine Qt.step (fun K hK => ?_)
        go_simp
        refine hK _ ?_
        clear hK K
        refine Qt.step (fun K hK => ?_)
        go_simp
        refine hK _ ?_
        clear hK K
        refine Qt.step (fun K hK => ?_)
        go_simp
        refine hK _ ?_
        clear hK K
        refine Qt.step (fun K hK => ?_)
        go_simp
        refine hK _ ?_
        clear hK K
        refine Qt.step (fun K hK => ?_)
        go_simp
        refine hK _ ?_
        clear hK K
        refine Qt.step (fun K hK => ?_)
        go_simp
        refine hK _ ?_
        clear hK K
        refine Qt.step (fun K hK => ?_)
        go_simp
        refine hK _ ?_
        clear hK K
        refine Qt.nil ?_
        intro w6 hw'
        obtain ⟨⟨dq, osq⟩, hw''⟩ := hw'
        have hb6 : Below wr.heap.size wr w6 := by rw [hw'']; exact below_regrown _ _ _
        have B6 := hbel2.trans (hb6.mono (by omega))
        clear hw'' r0 r1 r2 r3 hb6 B5 hbel2
        go_wp2
        go_roundw
        case rel => exact ⟨k2 + 1, by omega, by go_num, HO5, B6⟩
        case measure => simp [intOf]; omega
       ·have e : k2 = ps.length := by omega
        subst e
        have HO3 := Hid.mk (HRE.out (List.ext_getElem Hl2.out fun j h1 h2 => Ho2.out j h1 h2 h1))
        have B6 := HBL.out.trans (hbw2.out.mono (by omega))
        clear HRE Ho2 Ho HF HNE HEX2 G1 G2 Hlf HNO HN2 Hl2 GX GX'
        go_wp2
        go_roundw
        case rel => exact ⟨k1 + 1, by omega, by go_num, HO3, B6⟩
        case measure => simp [intOf]; omega
    ·have e : k1 = fa.length := by omega
     subst e
     have HG := Hid.mk (HEX2.out (List.ext_getElem Hlf.out fun j h1 h2 => Ho.out j h1 h2 h1))
     clear Ho HF HNE HEX2 G1 G2 Hlf
     go_wp2
     go_ret
     exact ⟨ret_eb HG.out.symm, hbw⟩
end Go.Proofs.Ytijpmnenegdmnaa
