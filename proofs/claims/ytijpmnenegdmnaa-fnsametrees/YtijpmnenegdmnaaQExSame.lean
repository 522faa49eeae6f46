/- Whether two terms are the same: the model's SameExpr says whether the trees are. -/
import Derived.Test.YtijpmnenegdmnaaQRun1
import Derived.Lib.QuietBelow
namespace Go.Proofs.Ytijpmnenegdmnaa
open Go.RowKit
set_option maxRecDepth 8000

theorem ret_eb {a b : Bool} (h : a = b) : Ending.returned (.bool a) = .returned (.bool b) := by rw [h]
theorem txt_same {s t : ByteArray} (h : s.toList = t.toList) : s = t := by
  rw [ByteArray.toList_eq, ByteArray.toList_eq] at h
  cases s
  cases t
  exact congrArg _ (Array.toList_inj.1 h)
theorem txt_bne {s t : ByteArray} (h : s ≠ t) : (s.toList != t.toList) = true := by
  rw [bne_iff_ne]; exact fun e => h (txt_same e)
theorem Ex.ext4 {a b : Ex} (hk : a.k = b.k) (hn : a.n = b.n) (hs : a.s = b.s) (hl : a.l = b.l) : a = b := by rw [← a.eta, ← b.eta, hk, hn, hs, hl]

open Classical in
/-- The two are the same tree. -/
noncomputable def sameX (a b : Ex) : Bool := decide (a = b)
theorem sameX_iff {a b : Ex} : sameX a b = true ↔ a = b := by simp [sameX]
theorem sameX_no {a b : Ex} (h : a ≠ b) : sameX a b = false := by simp [sameX, h]

def SameEX (a : Ex) : Prop := ∀ (b : Ex) (B C : Nat → Prop) (v u : Value) (w : World), El w B a.l v → El w C b.l u →
  Calls Try.prog 9 #[xx a.k a.n a.s v, xx b.k b.n b.s u] w fun e w' => e = .returned (.bool (sameX a b)) ∧ Below w.heap.size w w'

set_option maxHeartbeats 2000000 in
theorem sameEX_step (a : Ex) (ih : ∀ x ∈ a.l, SameEX x) : SameEX a := by
  intro b B C v u w h h'
  have HEX := Hid.mk (fun h1 h2 h3 h4 => Ex.ext4 (a := a) (b := b) h1 h2 h3 h4)
  have HNE := Hid.mk (fun (e : a = b) => (⟨congrArg Ex.k e, congrArg Ex.n e, congrArg Ex.s e, congrArg Ex.l e⟩ : a.k = b.k ∧ a.n = b.n ∧ a.s = b.s ∧ a.l = b.l))
  have HR0 : Hid ((sameX a b = true ↔ a = b)) := sameX_iff
  obtain ⟨R, hR⟩ : ∃ R, sameX a b = R := ⟨_, rfl⟩
  rw [hR] at HR0
  rw [hR]
  clear hR
  obtain ⟨P, hP⟩ : ∃ P : Prop, (a = b) = P := ⟨_, rfl⟩
  rw [hP] at HEX HR0
  rw [hP] at HNE
  clear hP
  obtain ⟨k, hk⟩ : ∃ k, a.k = k := ⟨_, rfl⟩
  obtain ⟨n, hn⟩ : ∃ k, a.n = k := ⟨_, rfl⟩
  obtain ⟨s, hs⟩ : ∃ k, a.s = k := ⟨_, rfl⟩
  obtain ⟨l, hl⟩ : ∃ k, a.l = k := ⟨_, rfl⟩
  obtain ⟨k', hk'⟩ : ∃ k, b.k = k := ⟨_, rfl⟩
  obtain ⟨n', hn'⟩ : ∃ k, b.n = k := ⟨_, rfl⟩
  obtain ⟨s', hs'⟩ : ∃ k, b.s = k := ⟨_, rfl⟩
  obtain ⟨l', hl'⟩ : ∃ k, b.l = k := ⟨_, rfl⟩
  rw [hk, hn, hs, hl, hk', hn', hs', hl'] at HEX HNE
  rw [hk, hn, hs, hk', hn', hs']
  rw [hl] at ih h
  rw [hl'] at h'
  clear hk hn hs hl hk' hn' hs' hl'
  obtain ⟨ao, cap, rfl, hl1, hl2, hl3⟩ := h.len
  obtain ⟨ao', cap', rfl, hl1', hl2', hl3'⟩ := h'.len
  have hm : cap ≤ 9223372036854775807 := by unfold maxLen at hl2; omega
  have HI := Hid.mk ih
  have H1 := Hid.mk h
  have H2 := Hid.mk h'
  clear ih h h' hl2 hl2' hl3 hl3'
  have B0 : Below w.heap.size w ((w.alloc (.cells #[.int .i64 k, .int .i64 n, .string s, .slice ao l.length cap] 26)).alloc (.cells #[.int .i64 k', .int .i64 n', .string s', .slice ao' l'.length cap'] 26)) := ((Below.refl _ _).alloc (Nat.le_refl _) _).alloc (by simp) _
  have B01 : Below (w.heap.size + 2) ((w.alloc (.cells #[.int .i64 k, .int .i64 n, .string s, .slice ao l.length cap] 26)).alloc (.cells #[.int .i64 k', .int .i64 n', .string s', .slice ao' l'.length cap'] 26)) ((w.alloc (.cells #[.int .i64 k, .int .i64 n, .string s, .slice ao l.length cap] 26)).alloc (.cells #[.int .i64 k', .int .i64 n', .string s', .slice ao' l'.length cap'] 26)) := Below.refl _ _
  have HF : Hid (¬ P → R = false) := by
    intro hp
    cases R with
    | false => rfl
    | true => exact absurd (HR0.out.1 rfl) hp
  by_cases hkk : k = k'
  case neg =>
    have hb : (k != k') = true := by simpa using hkk
    have HG := Hid.mk (HF.out fun p => hkk (HNE.out p).1)
    clear HF HNE HEX HR0 HI H1 H2 B01
    go_enter Try.func9, Try.ntmps9
    go_wp2
    go_ret
    exact ⟨ret_eb HG.out.symm, B0⟩
  have hkb : (k != k') = false := by simpa using hkk
  by_cases hnn : n = n'
  case neg =>
    have hb : (n != n') = true := by simpa using hnn
    have HG := Hid.mk (HF.out fun p => hnn (HNE.out p).2.1)
    clear HF HNE HEX HR0 HI H1 H2 B01 hkk
    go_enter Try.func9, Try.ntmps9
    go_wp2
    go_ret
    exact ⟨ret_eb HG.out.symm, B0⟩
  have hnb : (n != n') = false := by simpa using hnn
  by_cases hss : s = s'
  case neg =>
    have hb : (s.toList == s'.toList) = false := by have := txt_bne hss; simpa [bne] using this
    have HG := Hid.mk (HF.out fun p => hss (HNE.out p).2.2.1)
    clear HF HNE HEX HR0 HI H1 H2 B01 hkk hnn
    go_enter Try.func9, Try.ntmps9
    go_wp2
    go_ret
    exact ⟨ret_eb HG.out.symm, B0⟩
  have hsb : (s.toList == s'.toList) = true := by rw [hss]; simp
  by_cases hll : l.length = l'.length
  case neg =>
    have hb : ((l.length : Int) != (l'.length : Int)) = true := by rw [bne_iff_ne]; omega
    have hb2 : ((l.length : Int) == (l'.length : Int)) = false := by rw [beq_eq_false_iff_ne]; omega
    have HG := Hid.mk (HF.out fun p => hll (congrArg _ (HNE.out p).2.2.2))
    clear HF HNE HEX HR0 HI H1 H2 B01 hkk hnn hss
    go_enter Try.func9, Try.ntmps9
    go_wp2
    go_ret
    exact ⟨ret_eb HG.out.symm, B0⟩
  have hlb : ((l.length : Int) != (l'.length : Int)) = false := by rw [hll]; simp
  have hlb2 : ((l.length : Int) == (l'.length : Int)) = true := by rw [hll]; simp
  have HEX := Hid.mk (fun h => HEX.out hkk hnn hss h)
  have HNE := Hid.mk (fun p => (HNE.out p).2.2.2)
  clear hkk hnn hss
  have Hll : Hid (l.length = l'.length) := hll
  clear hll
  go_enter Try.func9, Try.ntmps9
  go_wp2
  go_loopw [5] (fun i wr => ∃ (k1 : Nat), k1 ≤ l.length ∧ i = .int .i64 k1 ∧ Hid (∀ j (hj : j < l.length) (hj' : j < l'.length), j < k1 → l[j] = l'[j]) ∧ Below (w.heap.size + 2) ((w.alloc (.cells #[.int .i64 k, .int .i64 n, .string s, .slice ao l.length cap] 26)).alloc (.cells #[.int .i64 k', .int .i64 n', .string s', .slice ao' l'.length cap'] 26)) wr) (fun i _ => l.length - (intOf i).toNat)
  case atStart => exact ⟨0, Nat.zero_le _, rfl, fun j _ _ hj => absurd hj (Nat.not_lt_zero j), B01⟩
  case round =>
    obtain ⟨k1, hk, rfl, Ho, hbel⟩ := hrel
    clear B01
    have hc1 := fun o => hbel.cell (p := ⟨w.heap.size, o, none⟩) (by simp <;> omega)
    have hc2 := fun o => hbel.cell (p := ⟨w.heap.size + 1, o, none⟩) (by simp)
    have hbw := B0.trans (hbel.mono (by omega))
    have hs1 := hbel.size
    simp at hs1
    by_cases hkl : k1 < l.length
    · have hkl' : k1 < l'.length := by have := Hll.out; omega
      have hi1 : (k1 : Int) < (l.length : Int) := by omega
      have hi2 : (k1 : Int) < (l'.length : Int) := by omega
      obtain ⟨bb, off, V, rfl, hel⟩ := H1.out.elems (by intro hn; rw [hn] at hkl; simp at hkl)
      obtain ⟨bb', off', V', rfl, hel'⟩ := H2.out.elems (by intro hn; rw [hn] at hkl'; simp at hkl')
      obtain ⟨h3, hsub, -⟩ := hel k1 hkl
      obtain ⟨h3', hsub', -⟩ := hel' k1 hkl'
      have hcal : SameEX l[k1] := HI.out _ (List.getElem_mem hkl)
      have HNO : Hid (l[k1] ≠ l'[k1] → R = false) := by
        intro hne
        refine HF.out fun p => hne ?_
        have := HNE.out p
        subst this
        rfl
      have HO2 : Hid (l[k1] = l'[k1] → ∀ j (hj : j < l.length) (hj' : j < l'.length), j < k1 + 1 → l[j] = l'[j]) := by
        intro hne j hj hj' hj1
        by_cases hj2 : j < k1
        · exact Ho.out j hj hj' hj2
        · obtain rfl : j = k1 := by omega
          exact hne
      obtain ⟨t, ht⟩ : ∃ t, l[k1] = t := ⟨_, rfl⟩
      obtain ⟨t', ht'⟩ : ∃ t, l'[k1] = t := ⟨_, rfl⟩
      rw [ht] at h3 hsub hcal
      rw [ht'] at h3' hsub'
      rw [ht, ht'] at HNO HO2
      clear ht ht' hel hel'
      obtain ⟨c0, cn, c1, c2⟩ := h3.kept (w' := wr) (hbw.block bb (World.block_lt_of_cell? w _ h3.1))
      obtain ⟨d0, dn, d1, d2⟩ := h3'.kept (w' := wr) (hbw.block bb' (World.block_lt_of_cell? w _ h3'.1))
      have p0 : wr.cell? ⟨w.heap.size, 3, none⟩ = some (.slice (some ⟨bb, off, none⟩) l.length cap) := by go_simp
      have p1 : wr.cell? ⟨w.heap.size + 1, 3, none⟩ = some (.slice (some ⟨bb', off', none⟩) l'.length cap') := by go_simp
      have q0 := cell_regrown p0
      have q1 := cell_regrown p1
      have a0 := cell_regrown c0
      have an := cell_regrown cn
      have a1 := cell_regrown c1
      have a2 := cell_regrown c2
      have b0 := cell_regrown d0
      have bn := cell_regrown dn
      have b1 := cell_regrown d1
      have b2 := cell_regrown d2
      have hg := hsub.grow hbw
      have hg' := hsub'.grow hbw
      have cA := Hid.mk (fun d os => Calls.regrown_of (w := wr) (d := d) (os := os) (hcal t' B C (V k1) (V' k1) _ (hg.grow (below_regrown wr d os)) (hg'.grow (below_regrown wr d os))))
      obtain ⟨ok, hok⟩ : ∃ ok, sameX t t' = ok := ⟨_, rfl⟩
      have Hok : Hid (ok = true ↔ t = t') := by show _ ↔ _; rw [← hok]; exact sameX_iff
      rw [hok] at cA
      clear hsub hsub' hcal h3 h3' c0 cn c1 c2 d0 dn d1 d2 hg hg' p0 p1 hok
      cases ok with
      | false =>
        have HG : Hid (R = false) := HNO.out fun e => by cases Hok.out.2 e
        clear HNO HO2 Hok HF HNE HEX HR0 HI H1 H2 Ho Hll
        go_wp2_with fail
        refine wp_region_quiet_below (by kernel_rfl) (by kernel_rfl) ?_
        quiet_step (fail)
        quiet_step (fail)
        quiet_step (fail)
        quiet_step (fail)
        quiet_step (fail)
        quiet_step (fail)
        quiet_step (fail)
        quiet_step (fail)
        quiet_step (fail)
        quiet_step (fail)
        quiet_step (exact cA.out _ _)
        quiet_step (fail)
        refine wpQuiet_nil ?_
        intro w6 hw'
        obtain ⟨⟨dq, osq⟩, hw''⟩ := hw'
        have hb6 : Below wr.heap.size wr w6 := by rw [hw'']; exact below_regrown _ _ _
        have B6 := hbw.trans (hb6.mono hbw.size)
        clear hw'' a0 an a1 a2 b0 bn b1 b2 q0 q1 cA hb6 hc1 hc2 hbel hbw
        go_wp2
        go_ret
        exact ⟨ret_eb HG.out.symm, B6⟩
      | true =>
        have HO3 := Hid.mk (HO2.out (Hok.out.1 rfl))
        clear HNO HO2 Hok Ho
        go_wp2_with fail
        refine wp_region_quiet_below (by kernel_rfl) (by kernel_rfl) ?_
        quiet_step (fail)
        quiet_step (fail)
        quiet_step (fail)
        quiet_step (fail)
        quiet_step (fail)
        quiet_step (fail)
        quiet_step (fail)
        quiet_step (fail)
        quiet_step (fail)
        quiet_step (fail)
        quiet_step (exact cA.out _ _)
        quiet_step (fail)
        refine wpQuiet_nil ?_
        intro w6 hw'
        obtain ⟨⟨dq, osq⟩, hw''⟩ := hw'
        have hb6 : Below wr.heap.size wr w6 := by rw [hw'']; exact below_regrown _ _ _
        have B6 := hbel.trans (hb6.mono (by omega))
        clear hw'' a0 an a1 a2 b0 bn b1 b2 q0 q1 cA hb6 hc1 hc2 hbel hbw
        go_wp2
        go_roundw
        case rel => exact ⟨k1 + 1, by omega, by go_num, HO3, B6⟩
        case measure => simp [intOf]; omega
    · have e : k1 = l.length := by omega
      subst e
      have HG : Hid (R = true) := by
        refine HR0.out.2 (HEX.out (List.ext_getElem Hll.out fun j h1 h2 => Ho.out j h1 h2 h1))
      clear Ho HF HNE HEX HR0 HI H1 H2 Hll
      go_wp2
      go_ret
      exact ⟨ret_eb HG.out.symm, hbw⟩

theorem specSameExpr_any (a b : Ex) (B C : Nat → Prop) (v u : Value) (w : World) (h : El w B a.l v) (h' : El w C b.l u) :
    Calls Try.prog 9 #[xx a.k a.n a.s v, xx b.k b.n b.s u] w fun e w' => e = .returned (.bool (sameX a b)) ∧ Below w.heap.size w w' :=
  (Ex.ind (P := SameEX) sameEX_step a) b B C v u w h h'
end Go.Proofs.Ytijpmnenegdmnaa
