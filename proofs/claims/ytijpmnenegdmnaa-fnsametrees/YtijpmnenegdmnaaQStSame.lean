/- Whether two statements are the same: the model's SameStmt says whether the trees are. -/
import Derived.Test.YtijpmnenegdmnaaQExSame
import Derived.Test.YtijpmnenegdmnaaQStTo
import Derived.Test.YtijpmnenegdmnaaQRun1
import Derived.Lib.QuietBelow
namespace Go.Proofs.Ytijpmnenegdmnaa
open Go.RowKit
set_option maxRecDepth 8000

theorem St.ext6 {a b : St} (hk : a.k = b.k) (hs : a.s = b.s) (ht : a.t = b.t) (hx : a.x = b.x) (ha : a.a = b.a) (hb : a.b = b.b) : a = b := by rw [← a.eta, ← b.eta, hk, hs, ht, hx, ha, hb]
open Classical in
/-- The two are the same tree. -/
noncomputable def sameS (a b : St) : Bool := decide (a = b)
theorem sameS_iff {a b : St} : sameS a b = true ↔ a = b := by simp [sameS]
open Classical in
/-- The two are the same list of trees. -/
noncomputable def sameSL (a b : List St) : Bool := decide (a = b)
theorem sameSL_iff {a b : List St} : sameSL a b = true ↔ a = b := by simp [sameSL]

def SameST (a : St) : Prop := ∀ (b : St) (B C : Nat → Prop) (vx vy vz ux uy uz : Value) (w : World), El w B a.x vx → Sl w B a.a vy → Sl w B a.b vz → El w C b.x ux → Sl w C b.a uy → Sl w C b.b uz →
  Calls Try.prog 11 #[st a.k a.s a.t vx vy vz, st b.k b.s b.t ux uy uz] w fun e w' => e = .returned (.bool (sameS a b)) ∧ Below w.heap.size w w'
def SameSTL (l : List St) : Prop := ∀ (l' : List St) (B C : Nat → Prop) (v u : Value) (w : World), Sl w B l v → Sl w C l' u →
  Calls Try.prog 22 #[v, u] w fun e w' => e = .returned (.bool (sameSL l l')) ∧ Below w.heap.size w w'

set_option maxHeartbeats 2000000 in
theorem sameSTL_step (l : List St) (ih : ∀ y ∈ l, SameST y) : SameSTL l := by
  intro l' B C v u w h h'
  have HR0 : Hid ((sameSL l l' = true ↔ l = l')) := sameSL_iff
  obtain ⟨R, hR⟩ : ∃ R, sameSL l l' = R := ⟨_, rfl⟩
  rw [hR] at HR0
  rw [hR]
  clear hR
  have HEX : Hid (l = l' → R = true) := HR0.out.2
  have HNE : Hid (l = l' → l = l') := id
  have HF : Hid (l ≠ l' → R = false) := by
    intro hp
    cases R with
    | false => rfl
    | true => exact absurd (HR0.out.1 rfl) hp
  clear HR0
  obtain ⟨ao, cap, rfl, hl1, hl2, hl3⟩ := h.len
  obtain ⟨ao', cap', rfl, hl1', hl2', hl3'⟩ := h'.len
  have hm : cap ≤ 9223372036854775807 := by unfold maxLen at hl2; omega
  have hm' : cap' ≤ 9223372036854775807 := by unfold maxLen at hl2'; omega
  have HI := Hid.mk ih
  have H1 := Hid.mk h
  have H2 := Hid.mk h'
  clear ih h h' hl2 hl2' hl3 hl3'
  by_cases hll : l.length = l'.length
  case neg =>
    have hb : ((l.length : Int) != (l'.length : Int)) = true := by rw [bne_iff_ne]; omega
    have hb2 : ((l.length : Int) == (l'.length : Int)) = false := by rw [beq_eq_false_iff_ne]; omega
    have HG := Hid.mk (HF.out fun p => hll (congrArg _ p))
    clear HF HNE HEX HI H1 H2
    go_enter Try.func22, Try.ntmps22
    go_wp2
    go_ret
    exact ⟨ret_eb HG.out.symm, Below.refl _ _⟩
  have hlb : ((l.length : Int) != (l'.length : Int)) = false := by rw [hll]; simp
  have hlb2 : ((l.length : Int) == (l'.length : Int)) = true := by rw [hll]; simp
  have Hll : Hid (l.length = l'.length) := hll
  clear hll
  go_enter Try.func22, Try.ntmps22
  go_wp2
  go_loopw [5] (fun i wr => ∃ (k1 : Nat), k1 ≤ l.length ∧ i = .int .i64 k1 ∧ Hid (∀ j (hj : j < l.length) (hj' : j < l'.length), j < k1 → l[j] = l'[j]) ∧ Below w.heap.size w wr) (fun i _ => l.length - (intOf i).toNat)
  case atStart => exact ⟨0, Nat.zero_le _, rfl, fun j _ _ hj => absurd hj (Nat.not_lt_zero j), Below.refl _ _⟩
  case round =>
    obtain ⟨k1, hk, rfl, Ho, hbel⟩ := hrel
    have hs1 := hbel.size
    by_cases hkl : k1 < l.length
    · have hkl' : k1 < l'.length := by have := Hll.out; omega
      have hi1 : (k1 : Int) < (l.length : Int) := by omega
      have hi2 : (k1 : Int) < (l'.length : Int) := by omega
      obtain ⟨bb, off, X, Y, Z, rfl, hel⟩ := H1.out.elems (by intro hn; rw [hn] at hkl; simp at hkl)
      obtain ⟨bb', off', X', Y', Z', rfl, hel'⟩ := H2.out.elems (by intro hn; rw [hn] at hkl'; simp at hkl')
      obtain ⟨h3, hx, hy, hz, -⟩ := hel k1 hkl
      obtain ⟨h3', hx', hy', hz', -⟩ := hel' k1 hkl'
      have HNO : Hid (l[k1] ≠ l'[k1] → R = false) := by
        intro hne
        refine HF.out fun p => hne ?_
        have := HNE.out p
        subst this
        rfl
      have HO2 : Hid (l[k1] = l'[k1] → ∀ j (hj : j < l.length) (hj' : j < l'.length), j < k1 + 1 → l[j] = l'[j]) := by
        intro hne j hj hj' hj1
        by_cases hj2 : j < k1
        · exact Ho.out j hj hj' hj2
        · obtain rfl : j = k1 := by omega
          exact hne
      have hcal := HI.out _ (List.getElem_mem hkl)
      obtain ⟨t, ht⟩ : ∃ t, l[k1] = t := ⟨_, rfl⟩
      obtain ⟨t', ht'⟩ : ∃ t, l'[k1] = t := ⟨_, rfl⟩
      rw [ht] at h3 hx hy hz hcal
      rw [ht'] at h3' hx' hy' hz'
      rw [ht, ht'] at HNO HO2
      clear ht ht' hel hel'
      obtain ⟨c0, c1, c2, c3, c4, c5⟩ := h3.kept (w' := wr) (hbel.block bb (World.block_lt_of_cell? w _ h3.1))
      obtain ⟨d0, d1, d2, d3, d4, d5⟩ := h3'.kept (w' := wr) (hbel.block bb' (World.block_lt_of_cell? w _ h3'.1))
      have a0 := cell_regrown c0
      have a1 := cell_regrown c1
      have a2 := cell_regrown c2
      have a3 := cell_regrown c3
      have a4 := cell_regrown c4
      have a5 := cell_regrown c5
      have b0 := cell_regrown d0
      have b1 := cell_regrown d1
      have b2 := cell_regrown d2
      have b3 := cell_regrown d3
      have b4 := cell_regrown d4
      have b5 := cell_regrown d5
      have cA := Hid.mk (fun d os => Calls.regrown_of (w := wr) (d := d) (os := os) (hcal t' B C (X k1) (Y k1) (Z k1) (X' k1) (Y' k1) (Z' k1) _ ((hx.grow hbel).grow (below_regrown wr d os)) ((hy.grow hbel).grow (below_regrown wr d os)) ((hz.grow hbel).grow (below_regrown wr d os)) ((hx'.grow hbel).grow (below_regrown wr d os)) ((hy'.grow hbel).grow (below_regrown wr d os)) ((hz'.grow hbel).grow (below_regrown wr d os))))
      obtain ⟨ok, hok⟩ : ∃ ok, sameS t t' = ok := ⟨_, rfl⟩
      have Hok : Hid (ok = true ↔ t = t') := by show _ ↔ _; rw [← hok]; exact sameS_iff
      rw [hok] at cA
      clear hx hy hz hx' hy' hz' hcal h3 h3' c0 c1 c2 c3 c4 c5 d0 d1 d2 d3 d4 d5 hok
      cases ok with
      | false =>
        have HG : Hid (R = false) := HNO.out fun e => by cases Hok.out.2 e
        clear HNO HO2 Hok
        go_wp2_with fail
        refine wp_region_quiet_below (by kernel_rfl) (by kernel_rfl) ?_
        quiet_step (fail)
        quiet_step (fail)
        quiet_step (fail)
        quiet_step (fail)
        quiet_step (fail)
        quiet_step (fail)
        quiet_step (fail)
        quiet_step (fail)
        quiet_step (exact cA.out _ _)
        quiet_step (fail)
        refine wpQuiet_nil ?_
        intro w6 hw'
        obtain ⟨⟨dq, osq⟩, hw''⟩ := hw'
        have hb6 : Below wr.heap.size wr w6 := by rw [hw'']; exact below_regrown _ _ _
        have B6 := hbel.trans (hb6.mono hbel.size)
        clear hw'' a0 a1 a2 a3 a4 a5 b0 b1 b2 b3 b4 b5 cA hb6 hbel
        go_wp2
        go_ret
        exact ⟨ret_eb HG.out.symm, B6⟩
      | true =>
        have HO3 := Hid.mk (HO2.out (Hok.out.1 rfl))
        clear HNO HO2 Hok Ho
        go_wp2_with fail
        refine wp_region_quiet_below (by kernel_rfl) (by kernel_rfl) ?_
        quiet_step (fail)
        quiet_step (fail)
        quiet_step (fail)
        quiet_step (fail)
        quiet_step (fail)
        quiet_step (fail)
        quiet_step (fail)
        quiet_step (fail)
        quiet_step (exact cA.out _ _)
        quiet_step (fail)
        refine wpQuiet_nil ?_
        intro w6 hw'
        obtain ⟨⟨dq, osq⟩, hw''⟩ := hw'
        have hb6 : Below wr.heap.size wr w6 := by rw [hw'']; exact below_regrown _ _ _
        have B6 := hbel.trans (hb6.mono (by omega))
        clear hw'' a0 a1 a2 a3 a4 a5 b0 b1 b2 b3 b4 b5 cA hb6 hbel
        go_wp2
        go_roundw
        case rel => exact ⟨k1 + 1, by omega, by go_num, HO3, B6⟩
        case measure => simp [intOf]; omega
    · have e : k1 = l.length := by omega
      subst e
      have HG : Hid (R = true) := HEX.out (List.ext_getElem Hll.out fun j h1 h2 => Ho.out j h1 h2 h1)
      clear Ho HF HNE HEX HI H1 H2 Hll
      go_wp2
      go_ret
      exact ⟨ret_eb HG.out.symm, hbel⟩

set_option maxHeartbeats 2000000 in
theorem sameST_step (a : St) (iha : SameSTL a.a) (ihb : SameSTL a.b) : SameST a := by
  intro b B C vx vy vz ux uy uz w hx hy hz hx' hy' hz'
  have HEX := Hid.mk (fun h1 h2 h3 h4 h5 h6 => St.ext6 (a := a) (b := b) h1 h2 h3 h4 h5 h6)
  have HNE := Hid.mk (fun (e : a = b) => (⟨congrArg St.k e, congrArg St.s e, congrArg St.t e, congrArg St.x e, congrArg St.a e, congrArg St.b e⟩ : a.k = b.k ∧ a.s = b.s ∧ a.t = b.t ∧ a.x = b.x ∧ a.a = b.a ∧ a.b = b.b))
  have HR0 : Hid ((sameS a b = true ↔ a = b)) := sameS_iff
  obtain ⟨R, hR⟩ : ∃ R, sameS a b = R := ⟨_, rfl⟩
  rw [hR] at HR0
  rw [hR]
  clear hR
  have HA := Hid.mk (fun (w' : World) (hw : Below w.heap.size w w') => iha b.a B C vy uy w' (hy.grow hw) (hy'.grow hw))
  have HB := Hid.mk (fun (w' : World) (hw : Below w.heap.size w w') => ihb b.b B C vz uz w' (hz.grow hw) (hz'.grow hw))
  obtain ⟨P, hP⟩ : ∃ P : Prop, (a = b) = P := ⟨_, rfl⟩
  rw [hP] at HEX HR0
  rw [hP] at HNE
  clear hP iha ihb
  obtain ⟨k, hk⟩ : ∃ k, a.k = k := ⟨_, rfl⟩
  obtain ⟨s, hs⟩ : ∃ k, a.s = k := ⟨_, rfl⟩
  obtain ⟨q, hq⟩ : ∃ k, a.t = k := ⟨_, rfl⟩
  obtain ⟨x, gx⟩ : ∃ k, a.x = k := ⟨_, rfl⟩
  obtain ⟨y, gy⟩ : ∃ k, a.a = k := ⟨_, rfl⟩
  obtain ⟨z, gz⟩ : ∃ k, a.b = k := ⟨_, rfl⟩
  obtain ⟨k', hk'⟩ : ∃ k, b.k = k := ⟨_, rfl⟩
  obtain ⟨s', hs'⟩ : ∃ k, b.s = k := ⟨_, rfl⟩
  obtain ⟨q', hq'⟩ : ∃ k, b.t = k := ⟨_, rfl⟩
  obtain ⟨x', gx'⟩ : ∃ k, b.x = k := ⟨_, rfl⟩
  obtain ⟨y', gy'⟩ : ∃ k, b.a = k := ⟨_, rfl⟩
  obtain ⟨z', gz'⟩ : ∃ k, b.b = k := ⟨_, rfl⟩
  rw [hk, hs, hq, gx, gy, gz, hk', hs', hq', gx', gy', gz'] at HEX HNE
  rw [hk, hs, hq, hk', hs', hq']
  rw [gy, gy'] at HA
  rw [gz, gz'] at HB
  rw [gx] at hx
  rw [gy] at hy
  rw [gz] at hz
  rw [gx'] at hx'
  rw [gy'] at hy'
  rw [gz'] at hz'
  clear hk hs hq gx gy gz hk' hs' hq' gx' gy' gz'
  obtain ⟨xo, xc, rfl, hl1, hl2, -⟩ := hx.len
  obtain ⟨yo, yc, rfl, -, -, -⟩ := hy.len
  obtain ⟨zo, zc, rfl, -, -, -⟩ := hz.len
  obtain ⟨xo', xc', rfl, hl1', hl2', -⟩ := hx'.len
  obtain ⟨yo', yc', rfl, -, -, -⟩ := hy'.len
  obtain ⟨zo', zc', rfl, -, -, -⟩ := hz'.len
  have hm : xc ≤ 9223372036854775807 := by unfold maxLen at hl2; omega
  have hm' : xc' ≤ 9223372036854775807 := by unfold maxLen at hl2'; omega
  have H1 := Hid.mk hx
  have H2 := Hid.mk hx'
  clear hx hx' hy hy' hz hz' hl2 hl2'
  have B0 : Below w.heap.size w ((w.alloc (.cells #[.int .i64 k, .string s, .string q, .slice xo x.length xc, .slice yo y.length yc, .slice zo z.length zc] 31)).alloc (.cells #[.int .i64 k', .string s', .string q', .slice xo' x'.length xc', .slice yo' y'.length yc', .slice zo' z'.length zc'] 31)) := ((Below.refl _ _).alloc (Nat.le_refl _) _).alloc (by simp) _
  have B01 : Below (w.heap.size + 2) ((w.alloc (.cells #[.int .i64 k, .string s, .string q, .slice xo x.length xc, .slice yo y.length yc, .slice zo z.length zc] 31)).alloc (.cells #[.int .i64 k', .string s', .string q', .slice xo' x'.length xc', .slice yo' y'.length yc', .slice zo' z'.length zc'] 31)) ((w.alloc (.cells #[.int .i64 k, .string s, .string q, .slice xo x.length xc, .slice yo y.length yc, .slice zo z.length zc] 31)).alloc (.cells #[.int .i64 k', .string s', .string q', .slice xo' x'.length xc', .slice yo' y'.length yc', .slice zo' z'.length zc'] 31)) := Below.refl _ _
  have HF : Hid (¬ P → R = false) := by
    intro hp
    cases R with
    | false => rfl
    | true => exact absurd (HR0.out.1 rfl) hp
  by_cases hkk : k = k'
  case neg =>
    have hb : (k != k') = true := by simpa using hkk
    have HG := Hid.mk (HF.out fun p => hkk (HNE.out p).1)
    clear HF HNE HEX HR0 HA HB H1 H2 B01
    go_enter Try.func11, Try.ntmps11
    go_wp2
    go_ret
    exact ⟨ret_eb HG.out.symm, B0⟩
  have hkb : (k != k') = false := by simpa using hkk
  by_cases hss : s = s'
  case neg =>
    have hb : (s.toList == s'.toList) = false := by have := txt_bne hss; simpa [bne] using this
    have HG := Hid.mk (HF.out fun p => hss (HNE.out p).2.1)
    clear HF HNE HEX HR0 HA HB H1 H2 B01 hkk
    go_enter Try.func11, Try.ntmps11
    go_wp2
    go_ret
    exact ⟨ret_eb HG.out.symm, B0⟩
  have hsb : (s.toList == s'.toList) = true := by rw [hss]; simp
  by_cases hqq : q = q'
  case neg =>
    have hb : (q.toList == q'.toList) = false := by have := txt_bne hqq; simpa [bne] using this
    have HG := Hid.mk (HF.out fun p => hqq (HNE.out p).2.2.1)
    clear HF HNE HEX HR0 HA HB H1 H2 B01 hkk hss
    go_enter Try.func11, Try.ntmps11
    go_wp2
    go_ret
    exact ⟨ret_eb HG.out.symm, B0⟩
  have hqb : (q.toList == q'.toList) = true := by rw [hqq]; simp
  by_cases hll : x.length = x'.length
  case neg =>
    have hb : ((x.length : Int) != (x'.length : Int)) = true := by rw [bne_iff_ne]; omega
    have hb2 : ((x.length : Int) == (x'.length : Int)) = false := by rw [beq_eq_false_iff_ne]; omega
    have HG := Hid.mk (HF.out fun p => hll (congrArg _ (HNE.out p).2.2.2.1))
    clear HF HNE HEX HR0 HA HB H1 H2 B01 hkk hss hqq
    go_enter Try.func11, Try.ntmps11
    go_wp2
    go_ret
    exact ⟨ret_eb HG.out.symm, B0⟩
  have hlb : ((x.length : Int) != (x'.length : Int)) = false := by rw [hll]; simp
  have hlb2 : ((x.length : Int) == (x'.length : Int)) = true := by rw [hll]; simp
  have HEX := Hid.mk (fun h4 h5 h6 => HR0.out.2 (HEX.out hkk hss hqq h4 h5 h6))
  have HNA := Hid.mk (fun p => (HNE.out p).2.2.2.2)
  have HNE := Hid.mk (fun p => (HNE.out p).2.2.2.1)
  clear hkk hss hqq HR0
  have Hll : Hid (x.length = x'.length) := hll
  clear hll
  obtain ⟨l, hl⟩ : ∃ l, x = l := ⟨_, rfl⟩
  subst hl
  obtain ⟨l', hl'⟩ : ∃ l, x' = l := ⟨_, rfl⟩
  subst hl'
  go_enter Try.func11, Try.ntmps11
  go_wp2
  go_loopw [5] (fun i wr => ∃ (k1 : Nat), k1 ≤ x.length ∧ i = .int .i64 k1 ∧ Hid (∀ j (hj : j < x.length) (hj' : j < x'.length), j < k1 → x[j] = x'[j]) ∧ Below (w.heap.size + 2) ((w.alloc (.cells #[.int .i64 k, .string s, .string q, .slice xo x.length xc, .slice yo y.length yc, .slice zo z.length zc] 31)).alloc (.cells #[.int .i64 k', .string s', .string q', .slice xo' x'.length xc', .slice yo' y'.length yc', .slice zo' z'.length zc'] 31)) wr) (fun i _ => x.length - (intOf i).toNat)
  case atStart => exact ⟨0, Nat.zero_le _, rfl, fun j _ _ hj => absurd hj (Nat.not_lt_zero j), B01⟩
  case round =>
    obtain ⟨k1, hk, rfl, Ho, hbel⟩ := hrel
    clear B01
    have hc1 := fun o => hbel.cell (p := ⟨w.heap.size, o, none⟩) (by simp <;> omega)
    have hc2 := fun o => hbel.cell (p := ⟨w.heap.size + 1, o, none⟩) (by simp)
    have hbw := B0.trans (hbel.mono (by omega))
    have hs1 := hbel.size
    simp at hs1
    by_cases hkl : k1 < x.length
    · have hkl' : k1 < x'.length := by have := Hll.out; omega
      have hi1 : (k1 : Int) < (x.length : Int) := by omega
      have hi2 : (k1 : Int) < (x'.length : Int) := by omega
      obtain ⟨bb, off, X, rfl, hel⟩ := H1.out.elems (by intro hn; rw [hn] at hkl; simp at hkl)
      obtain ⟨bb', off', X', rfl, hel'⟩ := H2.out.elems (by intro hn; rw [hn] at hkl'; simp at hkl')
      obtain ⟨h3, hsub, -⟩ := hel k1 hkl
      obtain ⟨h3', hsub', -⟩ := hel' k1 hkl'
      have HNO : Hid (x[k1] ≠ x'[k1] → R = false) := by
        intro hne
        refine HF.out fun p => hne ?_
        have := HNE.out p
        subst this
        rfl
      have HO2 : Hid (x[k1] = x'[k1] → ∀ j (hj : j < x.length) (hj' : j < x'.length), j < k1 + 1 → x[j] = x'[j]) := by
        intro hne j hj hj' hj1
        by_cases hj2 : j < k1
        · exact Ho.out j hj hj' hj2
        · obtain rfl : j = k1 := by omega
          exact hne
      obtain ⟨t, ht⟩ : ∃ t, x[k1] = t := ⟨_, rfl⟩
      obtain ⟨t', ht'⟩ : ∃ t, x'[k1] = t := ⟨_, rfl⟩
      rw [ht] at h3 hsub
      rw [ht'] at h3' hsub'
      rw [ht, ht'] at HNO HO2
      clear ht ht' hel hel'
      obtain ⟨c0, cn, c1, c2⟩ := h3.kept (w' := wr) (hbw.block bb (World.block_lt_of_cell? w _ h3.1))
      obtain ⟨d0, dn, d1, d2⟩ := h3'.kept (w' := wr) (hbw.block bb' (World.block_lt_of_cell? w _ h3'.1))
      have p0 : wr.cell? ⟨w.heap.size, 3, none⟩ = some (.slice (some ⟨bb, off, none⟩) x.length xc) := by go_simp
      have p1 : wr.cell? ⟨w.heap.size + 1, 3, none⟩ = some (.slice (some ⟨bb', off', none⟩) x'.length xc') := by go_simp
      have q0 := cell_regrown p0
      have q1 := cell_regrown p1
      have a0 := cell_regrown c0
      have an := cell_regrown cn
      have a1 := cell_regrown c1
      have a2 := cell_regrown c2
      have b0 := cell_regrown d0
      have bn := cell_regrown dn
      have b1 := cell_regrown d1
      have b2 := cell_regrown d2
      have hg := hsub.grow hbw
      have hg' := hsub'.grow hbw
      have cA := Hid.mk (fun d os => Calls.regrown_of (w := wr) (d := d) (os := os) (specSameExpr_any t t' B C (X k1) (X' k1) _ (hg.grow (below_regrown wr d os)) (hg'.grow (below_regrown wr d os))))
      obtain ⟨ok, hok⟩ : ∃ ok, sameX t t' = ok := ⟨_, rfl⟩
      have Hok : Hid (ok = true ↔ t = t') := by show _ ↔ _; rw [← hok]; exact sameX_iff
      rw [hok] at cA
      clear hsub hsub' h3 h3' c0 cn c1 c2 d0 dn d1 d2 hg hg' p0 p1 hok
      cases ok with
      | false =>
        have HG : Hid (R = false) := HNO.out fun e => by cases Hok.out.2 e
        clear HNO HO2 Hok
        go_wp2_with fail
        refine wp_region_quiet_below (by kernel_rfl) (by kernel_rfl) ?_
        quiet_step (fail)
        quiet_step (fail)
        quiet_step (fail)
        quiet_step (fail)
        quiet_step (fail)
        quiet_step (fail)
        quiet_step (fail)
        quiet_step (fail)
        quiet_step (fail)
        quiet_step (fail)
        quiet_step (exact cA.out _ _)
        quiet_step (fail)
        refine wpQuiet_nil ?_
        intro w6 hw'
        obtain ⟨⟨dq, osq⟩, hw''⟩ := hw'
        have hb6 : Below wr.heap.size wr w6 := by rw [hw'']; exact below_regrown _ _ _
        have B6 := hbw.trans (hb6.mono hbw.size)
        clear hw'' a0 an a1 a2 b0 bn b1 b2 q0 q1 cA hb6 hc1 hc2 hbel hbw
        go_wp2
        go_ret
        exact ⟨ret_eb HG.out.symm, B6⟩
      | true =>
        have HO3 := Hid.mk (HO2.out (Hok.out.1 rfl))
        clear HNO HO2 Hok Ho
        go_wp2_with fail
        refine wp_region_quiet_below (by kernel_rfl) (by kernel_rfl) ?_
        quiet_step (fail)
        quiet_step (fail)
        quiet_step (fail)
        quiet_step (fail)
        quiet_step (fail)
        quiet_step (fail)
        quiet_step (fail)
        quiet_step (fail)
        quiet_step (fail)
        quiet_step (fail)
        quiet_step (exact cA.out _ _)
        quiet_step (fail)
        refine wpQuiet_nil ?_
        intro w6 hw'
        obtain ⟨⟨dq, osq⟩, hw''⟩ := hw'
        have hb6 : Below wr.heap.size wr w6 := by rw [hw'']; exact below_regrown _ _ _
        have B6 := hbel.trans (hb6.mono (by omega))
        clear hw'' a0 an a1 a2 b0 bn b1 b2 q0 q1 cA hb6 hc1 hc2 hbel hbw
        go_wp2
        go_roundw
        case rel => exact ⟨k1 + 1, by omega, by go_num, HO3, B6⟩
        case measure => simp [intOf]; omega
    · have e : k1 = x.length := by omega
      subst e
      have hxx : x = x' := List.ext_getElem Hll.out fun j h1 h2 => Ho.out j h1 h2 h1
      have HEX2 := Hid.mk (HEX.out hxx)
      have HRB : Hid ((R = true ↔ y = y' ∧ z = z')) := by
        constructor
        · intro hR
          by_cases hp : P
          · exact HNA.out hp
          · have := HF.out hp; rw [hR] at this; cases this
        · intro h; exact HEX2.out h.1 h.2
      obtain ⟨sa, hsa⟩ : ∃ b, sameSL y y' = b := ⟨_, rfl⟩
      obtain ⟨sb, hsb'⟩ : ∃ b, sameSL z z' = b := ⟨_, rfl⟩
      have HSA : Hid (sa = true ↔ y = y') := by show _ ↔ _; rw [← hsa]; exact sameSL_iff
      have HSB : Hid (sb = true ↔ z = z') := by show _ ↔ _; rw [← hsb']; exact sameSL_iff
      rw [hsa] at HA
      rw [hsb'] at HB
      have HG : Hid (R = (sa && sb)) := by
        show _ = _
        rw [Bool.eq_iff_iff, Bool.and_eq_true, HRB.out, HSA.out, HSB.out]
      clear Ho HF HNE HNA HEX HEX2 H1 H2 Hll hsa hsb' HSA HSB HRB hxx
      have s1 : w.heap.size + 1 < wr.heap.size := by omega
      cases sa with
      | false =>
        clear HB
        go_wp2_with fail
        refine (HA.out _ hbw).mono ?_
        rintro e w2 ⟨rfl, hb2⟩
        have B2 := hbw.trans (hb2.mono hbw.size)
        clear HA hb2 hbw hbel hc1 hc2
        go_wp2
        go_ret
        exact ⟨ret_eb (by rw [HG.out]; rfl), B2⟩
      | true =>
        go_wp2_with fail
        refine (HA.out _ hbw).mono ?_
        rintro e w2 ⟨rfl, hb2⟩
        have B2 := hbw.trans (hb2.mono hbw.size)
        have hd1 := fun o => hb2.cell (p := ⟨w.heap.size, o, none⟩) (by show w.heap.size < _; omega)
        have hd2 := fun o => hb2.cell (p := ⟨w.heap.size + 1, o, none⟩) s1
        clear HA hb2 hbw hbel
        go_wp2_with fail
        refine (HB.out _ B2).mono ?_
        rintro e w3 ⟨rfl, hb3⟩
        have B3 := B2.trans (hb3.mono B2.size)
        clear HB hb3 B2 hc1 hc2 hd1 hd2
        go_wp2
        go_ret
        exact ⟨ret_eb (by rw [HG.out]; simp), B3⟩

theorem sameST_any (a : St) : SameST a := by
  refine St.ind (P := SameST) (fun t iha ihb => ?_) a
  exact sameST_step t (sameSTL_step t.a iha) (sameSTL_step t.b ihb)
theorem sameSTL_any (l : List St) : SameSTL l := sameSTL_step l fun y _ => sameST_any y
end Go.Proofs.Ytijpmnenegdmnaa
