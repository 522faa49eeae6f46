/- Two functions held against each other: what is put by for later, and whether their names and Params are the same. -/
import Derived.Test.YtijpmnenegdmnaaQPgRule
import Derived.Test.YtijpmnenegdmnaaQSlEq
namespace Go.Proofs.Ytijpmnenegdmnaa
open Go.RowKit
set_option maxRecDepth 8000
set_option linter.unusedSimpArgs false

set_option maxHeartbeats 8000000 in
theorem sameFn_any (D0 : Nat → Prop) (base bb tb : Nat) (BT : List (Prr St)) (TT : List (Prr Ex)) (w : World) (hS : PgS D0 base bb tb BT TT w) (x y : Fu) (xpo xao ypo yao : Option Addr) (xpc xac ypc yac : Nat)
    (hxp : Tb w D0 (.slice xpo x.ps.length xpc) x.ps) (hxa : Sl w D0 x.a (.slice xao x.a.length xac)) (hyp : Tb w D0 (.slice ypo y.ps.length ypc) y.ps) (hya : Sl w D0 y.a (.slice yao y.a.length yac)) (hlb : BT.length + 1 ≤ 2199023255552) :
    Calls Try.prog 24 #[fuV x (.slice xpo x.ps.length xpc) (.slice xao x.a.length xac), fuV y (.slice ypo y.ps.length ypc) (.slice yao y.a.length yac), .pointer (some ⟨bb, 0, none⟩)] w fun e w' =>
      ∃ r, e = .returned (.bool r) ∧ (r = true ↔ x.n = y.n ∧ x.ps = y.ps) ∧ Below base w w' ∧ (∀ b, D0 b → w'.heap[b]? = w.heap[b]?) ∧ PgS D0 base bb tb (BT ++ [⟨x.a, y.a, .slice xao x.a.length xac, .slice yao y.a.length yac⟩]) TT w' := by
  obtain ⟨vb, tv, D, hD, hD0, hDn, hbb, htb, hob, hot, hne, hvt, hBT, hTT, hb1, hb2⟩ := hS
  obtain ⟨n1, n2, n3, n4, n5⟩ := hne
  have hbl : bb < w.heap.size := (Array.getElem?_eq_some_iff.1 hbb).1
  have htl : tb < w.heap.size := (Array.getElem?_eq_some_iff.1 htb).1
  obtain ⟨vbo, vbc, evb⟩ := hob.len
  obtain ⟨A1, A2, A3, hbA, hsA⟩ := three_alloc w w.heap.size rfl (.cells #[.string x.n, .slice xpo x.ps.length xpc, .slice xao x.a.length xac] 63) (.cells #[.string y.n, .slice ypo y.ps.length ypc, .slice yao y.a.length yac] 63) (.cells #[.slice xao x.a.length xac, .slice yao y.a.length yac] 55)
  have HOB : Hid (OwnRY (((w.alloc (.cells #[.string x.n, .slice xpo x.ps.length xpc, .slice xao x.a.length xac] 63)).alloc (.cells #[.string y.n, .slice ypo y.ps.length ypc, .slice yao y.a.length yac] 63)).alloc (.cells #[.slice xao x.a.length xac, .slice yao y.a.length yac] 55)) base vb BT) := hob.kept fun k hk => hbA.block k (hob.lt hk).2
  have HONB : Hid (∀ q ∈ ([⟨x.a, y.a, .slice xao x.a.length xac, .slice yao y.a.length yac⟩] : List (Prr St)), q.u.oneCell' = true ∧ q.v.oneCell' = true) := by
    intro q hq
    obtain rfl : q = _ := by simpa using hq
    exact ⟨rfl, rfl⟩
  have HA3 := Hid.mk A3
  have HSA := Hid.mk hsA
  have HLB := Hid.mk hlb
  have hbs : base ≤ w.heap.size := by omega
  have cb0 : ((w.alloc (.cells #[.string x.n, .slice xpo x.ps.length xpc, .slice xao x.a.length xac] 63)).alloc (.cells #[.string y.n, .slice ypo y.ps.length ypc, .slice yao y.a.length yac] 63)).cell? ⟨bb, 0, none⟩ = some vb := by
    rw [cell_of_row _ bb 0 _ _ (0, 0) (((((Below.refl w.heap.size w).alloc (Nat.le_refl _) (.cells #[.string x.n, .slice xpo x.ps.length xpc, .slice xao x.a.length xac] 63)).alloc (by simp) (.cells #[.string y.n, .slice ypo y.ps.length ypc, .slice yao y.a.length yac] 63)).block bb hbl).trans hbb)]
    rfl
  have HST := Hid.mk (And.intro hbb (And.intro htb (And.intro hob (And.intro hot (And.intro n1 (And.intro n2 (And.intro n3 (And.intro n4 n5))))))))
  have HRD := Hid.mk (And.intro hD (And.intro hD0 (And.intro hDn (And.intro hvt (And.intro hBT hTT)))))
  have HAR := Hid.mk (And.intro hxp (And.intro hxa (And.intro hyp hya)))
  have HA1 := Hid.mk A1
  have HA2 := Hid.mk A2
  have HBA := Hid.mk hbA
  have EVB := Hid.mk evb
  clear A1 A2 A3 hbA hsA hbb htb hob hot n1 n2 n3 n4 n5 hD hD0 hDn hvt hBT hTT hxp hxa hyp hya hlb evb
  have l0 : w.heap.size < w.heap.size + 1 := by omega
  have b0 : bb ≠ w.heap.size := by omega
  have b1 : bb ≠ w.heap.size + 1 := by omega
  have b2 : bb < w.heap.size + 1 := by omega
  go_enter Try.func24, Try.ntmps24
  go_wp2_with (at_builtin; refine wpList_append_rY rfl _ _ rfl base vb BT [⟨x.a, y.a, .slice xao x.a.length xac, .slice yao y.a.length yac⟩] rfl HOB.out (w.heap.size + 1 + 1) 1 rfl HA3.out HONB.out (by rw [HSA.out]; omega) HLB.out ?_; intro tw w4 ho4 hg4 hv4; refine Hid.out ?_)
  obtain ⟨bo4, bc4, e4⟩ := ho4.len
  obtain ⟨n4, hn4⟩ : ∃ n, (BT ++ ([⟨x.a, y.a, .slice xao x.a.length xac, .slice yao y.a.length yac⟩] : List (Prr St))).length = n := ⟨_, rfl⟩
  rw [hn4] at e4
  clear hn4
  subst e4
  obtain ⟨hbb, htb, hob, hot, n1, n2, n3, n4', n5⟩ := HST.out
  obtain ⟨hD, hD0, hDn, hvt, hBT, hTT⟩ := HRD.out
  obtain ⟨hxp, hxa, hyp, hya⟩ := HAR.out
  have hs4 : w.heap.size + 1 + 1 + 1 ≤ w4.heap.size := by have := hg4.size; rw [HSA.out] at this; exact this
  have k4 : ∀ b, b < w.heap.size + 1 + 1 + 1 → some b ≠ vb.ownBlock → w4.heap[b]? = (((w.alloc (.cells #[.string x.n, .slice xpo x.ps.length xpc, .slice xao x.a.length xac] 63)).alloc (.cells #[.string y.n, .slice ypo y.ps.length ypc, .slice yao y.a.length yac] 63)).alloc (.cells #[.slice xao x.a.length xac, .slice yao y.a.length yac] 55)).heap[b]? := fun b h1 h2 => hg4.block b (by rw [HSA.out]; exact h1) h2
  have hob' := hob
  have hvn : ∀ b, w.heap.size ≤ b → some b ≠ vb.ownBlock := fun b h1 e => by have := (hob'.lt e.symm).2; omega
  have hto : ∀ b, w.heap.size ≤ b → some b ≠ tv.ownBlock := fun b h1 e => by have := (hot.lt e.symm).2; omega
  have hcx : ∀ o, w4.cell? ⟨w.heap.size, o, none⟩ = #[Value.string x.n, .slice xpo x.ps.length xpc, .slice xao x.a.length xac][o]? := fun o => cell_of_row w4 _ o _ _ (0, 0) ((k4 _ (by omega) (hvn _ (Nat.le_refl _))).trans HA1.out)
  have hcy : ∀ o, w4.cell? ⟨w.heap.size + 1, o, none⟩ = #[Value.string y.n, .slice ypo y.ps.length ypc, .slice yao y.a.length yac][o]? := fun o => cell_of_row w4 _ o _ _ (0, 0) ((k4 _ (by omega) (hvn _ (by omega))).trans HA2.out)
  have hb4 : w4.heap[bb]? = some (.cells #[vb] 56 (0, 0)) := (k4 bb (by omega) n1).trans ((HBA.out.block bb hbl).trans hbb)
  have cb4 : w4.cell? ⟨bb, 0, none⟩ = some vb := by rw [cell_of_row w4 bb 0 _ _ (0, 0) hb4]; rfl
  have fb4 : ∀ o, w4.frozen? ⟨bb, o, none⟩ = false := fun o => by simp [World.frozen?, hb4]
  have c1 : w.heap.size ≠ bb := by omega
  have c2 : w.heap.size + 1 ≠ bb := by omega
  have k5 : ∀ b, b < w.heap.size → b ≠ bb → some b ≠ vb.ownBlock → (w4.setCell ⟨bb, 0, none⟩ (.slice bo4 n4 bc4)).heap[b]? = w.heap[b]? := fun b h1 h2 h3 => (heap_setCell_other w4 _ _ _ h2).trans ((k4 b (by omega) h3).trans (HBA.out.block b h1))
  have hg4v : ∀ g, (Value.slice bo4 n4 bc4).ownBlock = some g → g ≠ bb ∧ g ≠ tb ∧ some g ≠ tv.ownBlock ∧ g < w4.heap.size ∧ (vb.ownBlock = some g ∨ w.heap.size ≤ g) := by
    intro g hg
    have hg2 := (ho4.lt hg).2
    rcases hv4 with h | h
    · rw [hg] at h
      exact ⟨by rintro rfl; exact n1 h, by rintro rfl; exact n3 h, fun e => hvt g h.symm e.symm, hg2, .inl h.symm⟩
    · rw [hg, HSA.out] at h
      have h' : g = w.heap.size + 1 + 1 + 1 := by simpa using h
      exact ⟨by omega, by omega, hto g (by omega), hg2, .inr (by omega)⟩
  have hkD : ∀ b, D b → (w4.setCell ⟨bb, 0, none⟩ (.slice bo4 n4 bc4)).heap[b]? = w.heap[b]? := fun b hb => k5 b (hD.lt hb) (hDn b hb).1 (hDn b hb).2.2.1
  have hPS : PgS D0 base bb tb (BT ++ [⟨x.a, y.a, .slice xao x.a.length xac, .slice yao y.a.length yac⟩]) TT (w4.setCell ⟨bb, 0, none⟩ (.slice bo4 n4 bc4)) := by
    refine ⟨.slice bo4 n4 bc4, tv, D, hD.kept hkD, hD0, fun b hb => ?_, one_setCell hb4, (k5 tb htl (Ne.symm n5) n3).trans htb, ho4.kept fun g hg => heap_setCell_other w4 _ _ _ (hg4v g hg).1, hot.kept fun g hg => k5 g (hot.lt hg).2 (by rintro rfl; exact n2 hg.symm) (fun e => hvt g e.symm hg),
      ⟨fun e => (hg4v bb e.symm).1 rfl, n2, fun e => (hg4v tb e.symm).2.1 rfl, n4', n5⟩, fun g hg e => (hg4v g hg).2.2.1 e.symm, ?_, fun q hq => ⟨(hTT q hq).1.kept fun b hb _ => hkD b hb, (hTT q hq).2.kept fun b hb _ => hkD b hb⟩, hb1, hb2⟩
    · obtain ⟨q1, q2, q3, q4⟩ := hDn b hb
      refine ⟨q1, q2, fun e => ?_, q4⟩
      have hlt := hD.lt hb
      rcases (hg4v b e.symm).2.2.2.2 with h | h
      · exact q3 h.symm
      · omega
    · intro q hq
      rcases List.mem_append.1 hq with hq | hq
      · exact ⟨(hBT q hq).1.kept fun b hb _ => hkD b hb, (hBT q hq).2.kept fun b hb _ => hkD b hb⟩
      · obtain rfl : q = _ := by simpa using hq
        exact ⟨(hxa.kept fun b hb _ => hkD b (hD0 b hb)).imp fun b hb _ => hD0 b hb, (hya.kept fun b hb _ => hkD b (hD0 b hb)).imp fun b hb _ => hD0 b hb⟩
  have hBA : Below base w (w4.setCell ⟨bb, 0, none⟩ (.slice bo4 n4 bc4)) := ((HBA.out.mono hbs).grown hg4 (by rw [HSA.out]; omega) (fun k hk => (hob.lt hk).1)).setCell (p := ⟨bb, 0, none⟩) hb1 _
  have HPS := Hid.mk hPS
  have HB5 := Hid.mk hBA
  have HK5 := Hid.mk (fun b (hb : D0 b) => hkD b (hD0 b hb))
  have HXP : Hid (Tb (w4.setCell ⟨bb, 0, none⟩ (.slice bo4 n4 bc4)) D0 (.slice xpo x.ps.length xpc) x.ps) := hxp.kept fun b hb _ => hkD b (hD0 b hb)
  have HYP : Hid (Tb (w4.setCell ⟨bb, 0, none⟩ (.slice bo4 n4 bc4)) D0 (.slice ypo y.ps.length ypc) y.ps) := hyp.kept fun b hb _ => hkD b (hD0 b hb)
  have HZ5 : Hid (base ≤ (w4.setCell ⟨bb, 0, none⟩ (.slice bo4 n4 bc4)).heap.size) := by
    refine Hid.mk ?_
    have : (w4.setCell ⟨bb, 0, none⟩ (.slice bo4 n4 bc4)).heap.size = w4.heap.size := by simp
    omega
  clear hBA hPS hkD hg4v k5 k4 hob hob' hot hbb htb hD hD0 hDn hvt hBT hTT hxp hxa hyp hya hvn hto n1 n2 n3 n4' n5 hv4 ho4 hg4 hb4 HOB HONB HST HRD HAR
  have HEQ := Hid.mk (sameT_iff (xs := x.ps) (ys := y.ps))
  by_cases hnn : x.n = y.n
  case neg =>
    have hnb : (x.n.toList == y.n.toList) = false := by have := txt_bne hnn; simpa [bne] using this
    have HNN := Hid.mk hnn
    clear hnn
    refine Hid.mk ?_
    go_wp2
    go_ret
    exact ⟨false, rfl, ⟨fun e => (by cases e), fun e => absurd e.1 HNN.out⟩, HB5.out, HK5.out, HPS.out⟩
  have hnb : (x.n.toList == y.n.toList) = true := by rw [hnn]; simp
  have HNN := Hid.mk hnn
  clear hnn
  refine Hid.mk ?_
  go_wp2_with fail
  refine (slicesEqual_any x.ps y.ps D0 D0 _ _ _ HXP.out HYP.out).mono ?_
  rintro e w6 ⟨rfl, hb6⟩
  have HB6 := Hid.mk hb6
  obtain ⟨R, hR⟩ : ∃ R, sameT x.ps y.ps = R := ⟨_, rfl⟩
  rw [hR] at HEQ ⊢
  clear hR hb6
  have HP6 := Hid.mk (HPS.out.grow HB6.out)
  have HK6 : Hid (∀ b, D0 b → w6.heap[b]? = w.heap[b]?) := fun b hb => by
    obtain ⟨vb', tv', D', h1, h2, -⟩ := HPS.out
    exact (HB6.out.block b (h1.lt (h2 b hb))).trans (HK5.out b hb)
  have HBB : Hid (Below base w w6) := HB5.out.trans (HB6.out.mono HZ5.out)
  clear HPS HK5 HB5 hcx hcy cb4 fb4
  go_wp2
  go_ret
  exact ⟨R, rfl, HEQ.out.trans ⟨fun h => ⟨HNN.out, h⟩, fun h => h.2⟩, HBB.out, HK6.out, HP6.out⟩
end Go.Proofs.Ytijpmnenegdmnaa
