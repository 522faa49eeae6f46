/- What a list of terms stands for: the program's standsFor. Two lists of terms taken as the same: the program's join. Rows of pairs of lists: the last taken off, some put behind. Whether two terms are the same, by the laws' own function: two that read the same tree are. Whether two terms are the same: the model's SameExpr says whether the trees are. What of two terms is held against each other: the program's function value. All lists that wait, held against each other: the program's sameLists over terms. Two terms: the program's sameExprs and SameExpr say whether they are the same. Rules: each is asked by ruleOk. -/
import Derived.Test.YtgigalcajgjpnaaGreatPk3
import Derived.Deep.LoopGhost
import Derived.Test.YtgigalcajgjpnaaGreatTake
import Derived.Maps.AppendAt
import Derived.Lib.QuietBelow
import Derived.Test.YtgigalcajgjpnaaGreatPk2
namespace Go.Proofs.YtgigalcajgjpnaaGreat
open Go.RowKit
set_option maxRecDepth 8000
set_option linter.unusedSimpArgs false

theorem heap_setCell_same {w : World} {b : Nat} {c : Array Value} {t : TypeId} {f : Nat × Nat} (h : w.heap[b]? = some (.cells c t f)) (o : Nat) (v : Value) : (w.setCell ⟨b, o, none⟩ v).heap[b]? = some (.cells (c.setIfInBounds o v) t f) := by
  have hlt := (Array.getElem?_eq_some_iff.1 h).1
  have h' : w.heap[b] = .cells c t f := by simpa [Array.getElem?_eq_getElem hlt] using h
  show (w.heap.modify b _)[b]? = _
  rw [Array.getElem?_eq_getElem (by simpa using hlt), Array.getElem_modify_self, h']
  rfl
theorem two_setCell {w : World} {b : Nat} {x y u v : Value} {t : TypeId} (h : w.heap[b]? = some (.cells #[x, y] t (0, 0))) : ((w.setCell ⟨b, 0, none⟩ u).setCell ⟨b, 1, none⟩ v).heap[b]? = some (.cells #[u, v] t (0, 0)) := by
  rw [heap_setCell_same (heap_setCell_same h 0 u) 1 v]
  rfl
theorem grown_set {w wr : World} {row : Option Nat} (h : w.grownBy wr row) (a : Addr) (ha : w.heap.size ≤ a.block) (v : Value) : w.grownBy (wr.setCell a v) row :=
  ⟨h.os, h.tape, h.output, by simpa using h.size, fun k hk hne => by rw [heap_setCell_other _ _ _ _ (by omega)]; exact h.block k hk hne⟩

/-- Where the search stands: what the map holds now, the place come to. -/
def StJX (w : World) (D : Nat → Prop) (m : Nat) (E : List (Plc × Plc)) (p0 : Plc) (k : Nat) (wr : World) : Prop :=
  ∃ E' p, Up (lk E') p k ∧ AllUp (lk E') ∧ Alk E E' ∧ Leads E' p0 p ∧ D p.a.block ∧ MapP wr D m E' ∧ (∀ r, lk E r = none → lk E' r = none) ∧
    wr.heap[w.heap.size + 1]? = some (.cells #[.pointer (some p.a), .int .i64 p.n] 192 (0, 0)) ∧ wr.heap[w.heap.size]? = some (.cells #[.pointer none, .int .i64 0] 192 (0, 0)) ∧ w.grownBy wr (some m)

set_option maxHeartbeats 2000000 in
theorem standsX_any (w : World) (D : Nat → Prop) (m : Nat) (E : List (Plc × Plc)) (b off n cap : Nat) (hn : 0 < n) (hD : DkS w D) (hb : D b) (hm : MapP w D m E) (hu : AllUp (lk E)) :
    Calls Tryz.prog 124 #[.map (some m), .slice (some ⟨b, off, none⟩) n cap] w fun e w' =>
      ∃ r E', e = .returned (.agg #[.pointer (some r.a), .int .i64 r.n]) ∧ MapP w' D m E' ∧ AllUp (lk E') ∧ Alk E E' ∧ Leads E' ⟨⟨b, off, none⟩, n⟩ r ∧ lk E' r = none ∧ D r.a.block ∧ (∀ r, lk E r = none → lk E' r = none) ∧ w.grownBy w' (some m) := by
  have hml := hm.lt
  have hbl := hD.lt hb
  have hDm := Hid.mk (fun b (h : D b) => hm.not hD h)
  obtain ⟨k0, hk0⟩ := hu ⟨⟨b, off, none⟩, n⟩
  have HM := Hid.mk hm
  have HD := Hid.mk hD
  have HU := Hid.mk hu
  have HB := Hid.mk hb
  have HK := Hid.mk hk0
  clear hm hD hu hb hk0
  go_enter Tryz.func124, Tryz.ntmps124
  go_wp2
  have hW0 : Hid (StJX w D m E ⟨⟨b, off, none⟩, n⟩ k0 ((w.alloc (.cells #[.pointer none, .int .i64 0] 192)).alloc (.cells #[.pointer (some ⟨b, off, none⟩), .int .i64 n] 192))) := by
    refine ⟨E, ⟨⟨b, off, none⟩, n⟩, HK.out, HU.out, Alk.refl E, Leads.refl E _, HB.out, HM.out.kept ?_, fun _ h => h, ?_, ?_, (World.grownBy_alloc w _ _).trans (World.grownBy_alloc _ _ _)⟩
    · rw [(World.grownBy_alloc (w.alloc _) _ none).block _ (by simp; omega) (by simp), (World.grownBy_alloc w _ none).block _ hml (by simp)]
    · simpa using (MapKept.heap_alloc (w.alloc (.cells #[.pointer none, .int .i64 0] 192)) (.cells #[.pointer (some ⟨b, off, none⟩), .int .i64 n] 192)).1
    · rw [(World.grownBy_alloc (w.alloc _) _ none).block _ (by simp) (by simp)]; exact (MapKept.heap_alloc w _).1
  go_loopg [] k0 (fun k wr => Hid (StJX w D m E ⟨⟨b, off, none⟩, n⟩ k wr))
  case atStart => exact hW0
  case round =>
    obtain ⟨E', p, hup, hall, hal, hle, hdp, hmp, hro, hc1, hc0, hgr⟩ := hrel.out
    clear hrel hW0
    have hDr : DkS wr D := HD.out.kept fun b hb => hgr.block b (HD.out.lt hb) (by intro e; exact hDm.out b hb (by simpa using e))
    have hs := hgr.size
    have l1 := (Array.getElem?_eq_some_iff.1 hc1).1
    have c10 : wr.cell? ⟨w.heap.size + 1, 0, none⟩ = some (.pointer (some p.a)) := by rw [cell_of_row wr _ 0 _ _ (0, 0) hc1]; rfl
    have c11 : wr.cell? ⟨w.heap.size + 1, 1, none⟩ = some (.int .i64 p.n) := by rw [cell_of_row wr _ 1 _ _ (0, 0) hc1]; rfl
    have c00 : wr.cell? ⟨w.heap.size, 0, none⟩ = some (.pointer none) := by rw [cell_of_row wr _ 0 _ _ (0, 0) hc0]; rfl
    have c01 : wr.cell? ⟨w.heap.size, 1, none⟩ = some (.int .i64 0) := by rw [cell_of_row wr _ 1 _ _ (0, 0) hc0]; rfl
    have l0 : w.heap.size < wr.heap.size := by omega
    have n0 : w.heap.size ≠ wr.heap.size := by omega
    have n1 : w.heap.size + 1 ≠ wr.heap.size := by omega
    have f1 : ∀ o, wr.frozen? ⟨w.heap.size + 1, o, none⟩ = false := fun o => by simp [World.frozen?, hc1]
    have f0 : ∀ o, wr.frozen? ⟨w.heap.size, o, none⟩ = false := fun o => by simp [World.frozen?, hc0]
    cases hl : lk E' p with
    | none =>
      go_wp2_with (first | (at_lookup; refine wpList_noX rfl _ _ rfl hDr m E' rfl hmp p rfl hdp hl ?_) | go_in)
      have hrow : ∀ o, (((wr.setCell ⟨w.heap.size, 0, none⟩ (.pointer (some p.a))).setCell ⟨w.heap.size, 1, none⟩ (.int .i64 p.n)).alloc o).heap[w.heap.size]? = some (.cells #[.pointer (some p.a), .int .i64 p.n] 192 (0, 0)) := by
        intro o
        rw [(World.grownBy_alloc _ o none).block _ (by simpa using l0) (by simp)]
        exact two_setCell hc0
      have hst : Tryz.prog.underlying 192 = some (.struct (Tryz.prog.fieldsOf 192)) := by kernel_rfl
      try simp only [Exit.inBlock, Exit.then]
      refine bodyPost_ret (results_cell_row (p := 4) (ty := 192) (by kernel_rfl) _ _ w.heap.size _ _ _ _ rfl (hrow _) hst rfl (by kernel_rfl)) rfl ?_
      refine ⟨p, E', rfl, ?_, hall, hal, hle, hl, hdp, hro, ?_⟩
      · refine hmp.kept ?_
        rw [(World.grownBy_alloc _ _ none).block _ (by simpa using hmp.lt) (by simp), heap_setCell_other _ _ _ _ (by show m ≠ w.heap.size; omega), heap_setCell_other _ _ _ _ (by show m ≠ w.heap.size; omega)]
      · exact (grown_set (grown_set hgr _ (Nat.le_refl _) _) _ (Nat.le_refl _) _).trans (World.grownBy_alloc _ _ _)
    | some q =>
      obtain ⟨k1, rfl, hup1⟩ := hup.next hl
      have hdq : D q.a.block := by
        obtain ⟨es, clock, -, -, hin⟩ := hmp
        exact (hin _ (lk_mem hl)).2
      have HDA : ∀ o, DkS (wr.alloc o) D := fun o => hDr.kept fun b hb => (World.grownBy_alloc wr o none).block b (hDr.lt hb) (by simp)
      have HMA : ∀ o, MapP (wr.alloc o) D m E' := fun o => hmp.kept ((World.grownBy_alloc wr o none).block m hmp.lt (by simp))
      cases hl2 : lk E' q with
      | none =>
        go_wp2_with (first | (at_lookup; refine wpList_yesX rfl _ _ rfl hDr m E' rfl hmp p rfl hdp q hl ?_) | (at_lookup; refine wpList_noX rfl _ _ rfl (HDA _) m E' rfl (HMA _) q rfl hdq hl2 ?_) | go_in)
        go_roundg k1
        case measure => omega
        case rel =>
          refine ⟨E', q, hup1, hall, hal, hle.on hl, hdq, ?_, hro, ?_, ?_, ?_⟩
          · refine hmp.kept ?_
            rw [(World.grownBy_alloc _ _ none).block _ (by simpa using Nat.lt_succ_of_lt hmp.lt) (by simp), (World.grownBy_alloc _ _ none).block _ (by simpa using hmp.lt) (by simp), heap_setCell_other _ _ _ _ (by show m ≠ w.heap.size + 1; omega), heap_setCell_other _ _ _ _ (by show m ≠ w.heap.size + 1; omega)]
          · rw [(World.grownBy_alloc _ _ none).block _ (by simp; omega) (by simp), (World.grownBy_alloc _ _ none).block _ (by simpa using l1) (by simp)]
            exact two_setCell hc1
          · rw [(World.grownBy_alloc _ _ none).block _ (by simp; omega) (by simp), (World.grownBy_alloc _ _ none).block _ (by simpa using l0) (by simp), heap_setCell_other _ _ _ _ (by show w.heap.size ≠ w.heap.size + 1; omega), heap_setCell_other _ _ _ _ (by show w.heap.size ≠ w.heap.size + 1; omega)]
            exact hc0
          · exact ((grown_set (grown_set hgr _ (Nat.le_succ _) _) _ (Nat.le_succ _) _).trans (World.grownBy_alloc _ _ _)).trans (World.grownBy_alloc _ _ _)
      | some f =>
        have hdf : D f.a.block := by
          obtain ⟨es, clock, -, -, hin⟩ := hmp
          exact (hin _ (lk_mem hl2)).2
        have HDB : ∀ o o', DkS ((wr.alloc o).alloc o') D := fun o o' => (HDA o).kept fun b hb => (World.grownBy_alloc _ o' none).block b ((HDA o).lt hb) (by simp)
        have HMB : ∀ o o', MapP ((wr.alloc o).alloc o') D m E' := fun o o' => (HMA o).kept ((World.grownBy_alloc _ o' none).block m (HMA o).lt (by simp))
        have HGB : ∀ o o', wr.grownBy ((wr.alloc o).alloc o') (some m) := fun o o' => (World.grownBy_alloc wr o _).trans (World.grownBy_alloc _ o' _)
        have HNB : ∀ o o', ((wr.alloc o).alloc o').heap[wr.heap.size]? = some o := fun o o' => ((World.grownBy_alloc _ o' none).block _ (by simp) (by simp)).trans (MapKept.heap_alloc wr o).1
        have hmlr := hmp.lt
        go_wp2_with (first | (at_lookup; refine wpList_yesX rfl _ _ rfl hDr m E' rfl hmp p rfl hdp q hl ?_) | (at_lookup; refine wpList_yesX rfl _ _ rfl (HDA _) m E' rfl (HMA _) q rfl hdq f hl2 ?_) | (at_mapUpdate; refine wpList_updX rfl _ _ _ rfl (HDB _ _) m E' rfl (HMB _ _) p f rfl rfl hdp hdf ?_; intro w1 hm1 hg1; have hgb1 := (HGB (.cells #[.pointer (some q.a), .int .i64 q.n] 192) (.cells #[.pointer (some f.a), .int .i64 f.n] 192)).trans hg1; have hnb1 := (hg1.block wr.heap.size (by simp; omega) (by intro e; simp at e; omega)).trans (HNB (.cells #[.pointer (some q.a), .int .i64 q.n] 192) (.cells #[.pointer (some f.a), .int .i64 f.n] 192)); have l3 : w1.heap.size > wr.heap.size := (Array.getElem?_eq_some_iff.1 hnb1).1; have hb1 : w1.heap[w.heap.size + 1]? = wr.heap[w.heap.size + 1]? := hgb1.block _ l1 (by intro e; simp at e; omega); have hb0 : w1.heap[w.heap.size]? = wr.heap[w.heap.size]? := hgb1.block _ l0 (by intro e; simp at e; omega); rw [hc1] at hb1; rw [hc0] at hb0; have c20 : w1.cell? ⟨wr.heap.size, 0, none⟩ = some (.pointer (some q.a)) := (by rw [cell_of_row w1 _ 0 _ _ (0, 0) hnb1]; rfl); have c21 : w1.cell? ⟨wr.heap.size, 1, none⟩ = some (.int .i64 q.n) := (by rw [cell_of_row w1 _ 1 _ _ (0, 0) hnb1]; rfl); have c30 : w1.cell? ⟨w.heap.size + 1, 0, none⟩ = some (.pointer (some p.a)) := (by rw [cell_of_row w1 _ 0 _ _ (0, 0) hb1]; rfl); have c31 : w1.cell? ⟨w.heap.size + 1, 1, none⟩ = some (.int .i64 p.n) := (by rw [cell_of_row w1 _ 1 _ _ (0, 0) hb1]; rfl); have f3 : ∀ o, w1.frozen? ⟨w.heap.size + 1, o, none⟩ = false := fun o => (by simp [World.frozen?, hb1])) | go_in)
        obtain ⟨k2, hk2, hup2⟩ := up_half hl hl2 (lk_put E' p f) k1 q hup1
        have hle2 := (hle.on hl).alk (alk_half hl hl2)
        have hro2 : ∀ r, lk E r = none → lk (putP E' p f) r = none := by
          intro r hr
          have h1 := hro r hr
          rw [lk_put]
          by_cases e : p = r
          · subst e; rw [hl] at h1; cases h1
          · rw [if_neg e]; exact h1
        have hgw := hgr.trans hgb1
        have HR : Hid (∀ wz, wz.heap[w.heap.size + 1]? = some (.cells #[.pointer (some q.a), .int .i64 q.n] 192 (0, 0)) → wz.heap[w.heap.size]? = w1.heap[w.heap.size]? → wz.heap[m]? = w1.heap[m]? → w.grownBy wz (some m) → StJX w D m E ⟨⟨b, off, none⟩, n⟩ k2 wz) := fun wz h1 h0 h2 h3 =>
          ⟨_, q, hup2, allUp_half hl hl2 hall, hal.trans (alk_half hl hl2), hle2, hdq, hm1.kept h2, hro2, h1, h0.trans hb0, h3⟩
        clear hup2 hle2 hro2 hall hal hle hro hm1 hup1 hup hdq hdf hdp hmp HM HD HU HB HK hDm hl hl2 hDr
        go_roundg k2
        case measure => omega
        case rel =>
          refine HR.out _ (two_setCell hb1) ?_ ?_ (grown_set (grown_set hgw _ (Nat.le_succ _) _) _ (Nat.le_succ _) _)
          · rw [heap_setCell_other _ _ _ _ (by show w.heap.size ≠ w.heap.size + 1; omega), heap_setCell_other _ _ _ _ (by show w.heap.size ≠ w.heap.size + 1; omega)]
          · rw [heap_setCell_other _ _ _ _ (by show m ≠ w.heap.size + 1; omega), heap_setCell_other _ _ _ _ (by show m ≠ w.heap.size + 1; omega)]
end Go.Proofs.YtgigalcajgjpnaaGreat

namespace Go.Proofs.YtgigalcajgjpnaaGreat
open Go.RowKit
set_option maxRecDepth 8000
set_option linter.unusedSimpArgs false

set_option maxHeartbeats 8000000 in
theorem joinX_any (w : World) (D : Nat → Prop) (m : Nat) (E : List (Plc × Plc)) (b off n cap b' off' n' cap' : Nat) (hn : 0 < n) (hn' : 0 < n') (hD : DkS w D) (hb : D b) (hb' : D b') (hm : MapP w D m E) (hu : AllUp (lk E)) :
    Calls Tryz.prog 114 #[.map (some m), .agg #[.slice (some ⟨b, off, none⟩) n cap, .slice (some ⟨b', off', none⟩) n' cap']] w fun e w' =>
      ∃ r E', e = .returned (.bool r) ∧ MapP w' D m E' ∧ AllUp (lk E') ∧ Jnd E E' ⟨⟨b, off, none⟩, n⟩ ⟨⟨b', off', none⟩, n'⟩ r ∧ w.grownBy w' (some m) := by
  have hml := hm.lt
  have hDm : ∀ b, D b → b ≠ m := fun b h => hm.not hD h
  have HG0 := Hid.mk (World.grownBy_alloc w (.cells #[.slice (some ⟨b, off, none⟩) n cap, .slice (some ⟨b', off', none⟩) n' cap'] 104) (some m))
  have HB0 := Hid.mk (MapKept.heap_alloc w (.cells #[.slice (some ⟨b, off, none⟩) n cap, .slice (some ⟨b', off', none⟩) n' cap'] 104)).1
  have HS0 : Hid ((w.alloc (.cells #[.slice (some ⟨b, off, none⟩) n cap, .slice (some ⟨b', off', none⟩) n' cap'] 104)).heap.size = w.heap.size + 1) := by simp [Hid]
  have HDW : Hid (∀ W, w.grownBy W (some m) → DkS W D) := fun W h => hD.kept fun b hb => h.block b (hD.lt hb) (by intro e; exact hDm b hb (by simpa using e))
  have HU := Hid.mk hu
  have HM := Hid.mk hm
  have HN := Hid.mk (And.intro hn hn')
  have HP := Hid.mk (And.intro hb hb')
  have HM0 : Hid (MapP (w.alloc (.cells #[.slice (some ⟨b, off, none⟩) n cap, .slice (some ⟨b', off', none⟩) n' cap'] 104)) D m E) := hm.kept ((World.grownBy_alloc w _ none).block m hml (by simp))
  clear hm hu hD hDm hb hb' hn hn'
  go_enter Tryz.func114, Tryz.ntmps114
  go_wp2_with fail
  generalize w.alloc (.cells #[.slice (some ⟨b, off, none⟩) n cap, .slice (some ⟨b', off', none⟩) n' cap'] 104) = w0 at *
  rename_i KK hKK
  have REST : ∀ (g5 g6 : Nat) (r1 r2 : Plc) (E1 E2 : List (Plc × Plc)) (wz : World),
      Hid (wz.heap[g5]? = some (.cells #[.pointer (some r1.a), .int .i64 r1.n] 192 (0, 0))) → Hid (wz.heap[g6]? = some (.cells #[.pointer (some r2.a), .int .i64 r2.n] 192 (0, 0))) → Hid (w.grownBy wz (some m)) → Hid (MapP wz D m E2) → Hid (AllUp (lk E2)) →
      Hid (Alk E E1 ∧ Leads E1 ⟨⟨b, off, none⟩, n⟩ r1 ∧ D r1.a.block ∧ lk E2 r1 = none) → Hid (Alk E1 E2 ∧ Leads E2 ⟨⟨b', off', none⟩, n'⟩ r2 ∧ D r2.a.block ∧ lk E2 r2 = none) →
      KK { tmps := #[.map (some m), .agg #[.slice (some ⟨b, off, none⟩) n cap, .slice (some ⟨b', off', none⟩) n' cap'], undef, .pointer (some ⟨w.heap.size, 0, none⟩), .bool false, .pointer (some ⟨g5, 0, none⟩), .pointer (some ⟨g6, 0, none⟩),
        .map (some m), .pointer (some ⟨w.heap.size, 0, none⟩), .slice (some ⟨b, off, none⟩) n cap, .agg #[.pointer (some r1.a), .int .i64 r1.n], .map (some m), .pointer (some ⟨w.heap.size, 1, none⟩), .slice (some ⟨b', off', none⟩) n' cap', .agg #[.pointer (some r2.a), .int .i64 r2.n], undef, undef, undef, undef, undef, undef], defers := [] } wz := by
    intro g5 g6 r1 r2 E1 E2 wz h5 h6 hg hmz huz hl1 hl2
    refine hKK _ _ ?_
    clear hKK HU HM HN HP HG0 HB0 HS0
    have d50 : wz.cell? ⟨g5, 0, none⟩ = some (.pointer (some r1.a)) := by rw [cell_of_row wz _ 0 _ _ (0, 0) h5.out]; rfl
    have d51 : wz.cell? ⟨g5, 1, none⟩ = some (.int .i64 r1.n) := by rw [cell_of_row wz _ 1 _ _ (0, 0) h5.out]; rfl
    have d60 : wz.cell? ⟨g6, 0, none⟩ = some (.pointer (some r2.a)) := by rw [cell_of_row wz _ 0 _ _ (0, 0) h6.out]; rfl
    have d61 : wz.cell? ⟨g6, 1, none⟩ = some (.int .i64 r2.n) := by rw [cell_of_row wz _ 1 _ _ (0, 0) h6.out]; rfl
    have hDz := HDW.out wz hg.out
    have hpe := eqPtrX wz hDz r1 r2 hl1.out.2.2.1 hl2.out.2.2.1 9998
    by_cases hra : r1.a = r2.a
    · rw [decide_eq_true hra] at hpe
      by_cases hrn : r1.n = r2.n
      · have hnb : (r1.n == r2.n) = true := by simpa using hrn
        have HE := Hid.mk (plc_ext hra hrn)
        clear hra hrn
        go_wp2
        go_ret
        obtain rfl := HE.out
        exact ⟨false, E2, rfl, hmz.out, huz.out, jnd_no hl1.out.1 hl1.out.2.1 hl2.out.1 hl2.out.2.1, hg.out⟩
      · have hnb : (r1.n == r2.n) = false := by simpa using hrn
        have HE : Hid (r1 ≠ r2) := fun e => hrn (by rw [e])
        clear hra hrn
        go_wp2_with (first | (at_mapUpdate; refine wpList_updX rfl _ _ _ rfl hDz m E2 rfl hmz.out r1 r2 rfl rfl hl1.out.2.2.1 hl2.out.2.2.1 ?_; intro w1 hm1 hg1) | go_in)
        go_ret
        exact ⟨true, putP E2 r1 r2, rfl, hm1, up_join hl1.out.2.2.2 hl2.out.2.2.2 HE.out (lk_put E2 r1 r2) huz.out, jnd_yes hl1.out.1 hl1.out.2.1 hl2.out.1 hl2.out.2.1 hl1.out.2.2.2, hg.out.trans hg1⟩
    · rw [decide_eq_false hra] at hpe
      have HE : Hid (r1 ≠ r2) := fun e => hra (by rw [e])
      clear hra
      go_wp2_with (first | (at_mapUpdate; refine wpList_updX rfl _ _ _ rfl hDz m E2 rfl hmz.out r1 r2 rfl rfl hl1.out.2.2.1 hl2.out.2.2.1 ?_; intro w1 hm1 hg1) | go_in)
      go_ret
      exact ⟨true, putP E2 r1 r2, rfl, hm1, up_join hl1.out.2.2.2 hl2.out.2.2.2 HE.out (lk_put E2 r1 r2) huz.out, jnd_yes hl1.out.1 hl1.out.2.1 hl2.out.1 hl2.out.2.1 hl1.out.2.2.2, hg.out.trans hg1⟩
  clear hKK
  have S0 : Hid (w0.grownBy w0.drew (some m)) := ⟨rfl, rfl, rfl, Nat.le_refl _, fun _ _ _ => rfl⟩
  have HX : Hid (∀ w', w0.grownBy w' (some m) → ∀ o, w'.cell? ⟨w.heap.size, o, none⟩ = #[Value.slice (some ⟨b, off, none⟩) n cap, .slice (some ⟨b', off', none⟩) n' cap'][o]?) := by
    intro w' hb o
    exact cell_of_row w' _ o _ _ (0, 0) ((hb.block _ (by rw [HS0.out]; omega) (by intro e; simp at e; omega)).trans HB0.out)
  refine wp_region_held_drew (S := fun w' => w0.grownBy w' (some m)) (by kernel_rfl) S0.out (fun _ => ?_)
  refine takeHD (i := 0) (v := .map (some m)) (some 7) rfl rfl (by kernel_rfl) (by kernel_rfl) (by kernel_rfl) (fun _ _ _ h => h) (Or.inl ⟨by kernel_rfl, fun w' hw => ?_⟩) S0.out ?_
  · go_simp
  simp only [Act.put, List.setIfInBounds_toArray]
  refine takeHD (i := 1) (v := .pointer (some ⟨w.heap.size, 0, none⟩)) (some 8) rfl rfl (by kernel_rfl) (by kernel_rfl) (by kernel_rfl) (fun _ _ _ h => h) (Or.inl ⟨by kernel_rfl, fun w' hw => ?_⟩) S0.out ?_
  · go_simp
  simp only [Act.put, List.setIfInBounds_toArray]
  refine takeHD (i := 2) (v := .slice (some ⟨b, off, none⟩) n cap) (some 9) rfl rfl (by kernel_rfl) (by kernel_rfl) (by kernel_rfl) (fun _ _ _ h => h) (Or.inl ⟨by kernel_rfl, fun w' hw => ?_⟩) S0.out ?_
  · have hq := HX.out w' hw
    go_simp
  simp only [Act.put, List.setIfInBounds_toArray]
  refine takeHD (i := 4) (v := .map (some m)) (some 11) rfl rfl (by kernel_rfl) (by kernel_rfl) (by kernel_rfl) (fun _ _ _ h => h) (Or.inl ⟨by kernel_rfl, fun w' hw => ?_⟩) S0.out ?_
  · go_simp
  simp only [Act.put, List.setIfInBounds_toArray]
  refine takeHD (i := 5) (v := .pointer (some ⟨w.heap.size, 1, none⟩)) (some 12) rfl rfl (by kernel_rfl) (by kernel_rfl) (by kernel_rfl) (fun _ _ _ h => h) (Or.inl ⟨by kernel_rfl, fun w' hw => ?_⟩) S0.out ?_
  · go_simp
  simp only [Act.put, List.setIfInBounds_toArray]
  refine takeHD (i := 6) (v := .slice (some ⟨b', off', none⟩) n' cap') (some 13) rfl rfl (by kernel_rfl) (by kernel_rfl) (by kernel_rfl) (fun _ _ _ h => h) (Or.inl ⟨by kernel_rfl, fun w' hw => ?_⟩) S0.out ?_
  · have hq := HX.out w' hw
    go_simp
  simp only [Act.put, List.setIfInBounds_toArray]
  have G0_ := S0
  have M0 : Hid (MapP w0.drew D m E) := HM0.out
  clear S0
  generalize w0.drew = w0d at *
  refine wpAnyH_ready (rs := [3, 8, 9]) (by kernel_rfl) (by simp) ?_
  refine AllReadyH.cons rfl (fun K hK => ?_) (AllReadyH.cons rfl (fun K hK => ?_) (AllReadyH.cons rfl (fun K hK => ?_) (AllReadyH.nil)))
  · skip
    rw [if_pos (by kernel_rfl)]
    go_wp2_with fail
    refine (standsX_any _ D m E b off n cap HN.out.1 (HDW.out _ (HG0.out.trans G0_.out)) HP.out.1 M0.out HU.out).mono ?_
    rintro e w1_ ⟨r1_, E1_, rfl, hm_, hu_, hal_, hle_, hno_, hd_, hro_, hg_⟩
    have G1_ : Hid (w0.grownBy w1_ (some m)) := G0_.out.trans hg_
    have M1_ := Hid.mk hm_
    have U1_ := Hid.mk hu_
    have L11_ : Hid (Alk E E1_ ∧ Leads E1_ ⟨⟨b, off, none⟩, n⟩ r1_ ∧ D r1_.a.block ∧ lk E1_ r1_ = none) := ⟨hal_, hle_, hd_, hno_⟩
    refine hK.out _ _ G1_.out (fun _ => ?_)
    clear hK K hm_ hu_ hal_ hle_ hno_ hd_ hro_ hg_
    refine wpAnyH_ready (rs := [7, 8, 9]) (by kernel_rfl) (by simp) ?_
    refine AllReadyH.cons rfl (fun K hK => ?_) (AllReadyH.cons rfl (fun K hK => ?_) (AllReadyH.cons rfl (fun K hK => ?_) (AllReadyH.nil)))
    · skip
      rw [if_pos (by kernel_rfl)]
      go_wp2_with fail
      refine (standsX_any _ D m E1_ b' off' n' cap' HN.out.2 (HDW.out _ (HG0.out.trans G1_.out)) HP.out.2 M1_.out U1_.out).mono ?_
      rintro e w2_ ⟨r2_, E2_, rfl, hm_, hu_, hal_, hle_, hno_, hd_, hro_, hg_⟩
      have G2_ : Hid (w0.grownBy w2_ (some m)) := G1_.out.trans hg_
      have M2_ := Hid.mk hm_
      have U2_ := Hid.mk hu_
      have L22_ : Hid (Alk E1_ E2_ ∧ Leads E2_ ⟨⟨b', off', none⟩, n'⟩ r2_ ∧ D r2_.a.block ∧ lk E2_ r2_ = none) := ⟨hal_, hle_, hd_, hno_⟩
      have L12_ : Hid (Alk E E1_ ∧ Leads E1_ ⟨⟨b, off, none⟩, n⟩ r1_ ∧ D r1_.a.block ∧ lk E2_ r1_ = none) := ⟨L11_.out.1, L11_.out.2.1, L11_.out.2.2.1, hro_ _ L11_.out.2.2.2⟩
      refine hK.out _ _ G2_.out (fun _ => ?_)
      clear hK K hm_ hu_ hal_ hle_ hno_ hd_ hro_ hg_
      refine wpAnyH_ready (rs := [8, 9]) (by kernel_rfl) (by simp) ?_
      refine AllReadyH.cons rfl (fun K hK => ?_) (AllReadyH.cons rfl (fun K hK => ?_) (AllReadyH.nil))
      · skip
        rw [if_pos (by kernel_rfl)]
        go_wp2_with fail
        have G3_ : Hid (w0.grownBy (w2_.alloc (.cells #[.pointer none, .int .i64 0] 192)) (some m)) := G2_.out.trans (World.grownBy_alloc _ _ _)
        have M3_ : Hid (MapP (w2_.alloc (.cells #[.pointer none, .int .i64 0] 192)) D m E2_) := M2_.out.kept ((World.grownBy_alloc w2_ _ none).block m M2_.out.lt (by simp))
        have P53_ := Hid.mk (MapKept.heap_alloc w2_ (.cells #[.pointer none, .int .i64 0] 192)).1
        have N53_ : Hid (w.heap.size < w2_.heap.size) := by have := G2_.out.size; rw [HS0.out] at this; exact Nat.lt_of_succ_le this
        refine hK.out _ _ G3_.out (fun _ => ?_)
        clear hK K
        generalize w2_.alloc (.cells #[.pointer none, .int .i64 0] 192) = w3_ at *
        generalize w2_.heap.size = g53_ at *
        refine wpAnyH_ready (rs := [9]) (by kernel_rfl) (by simp) ?_
        refine AllReadyH.cons rfl (fun K hK => ?_) AllReadyH.nil
        rw [if_pos (by kernel_rfl)]
        go_wp2_with fail
        have G4_ : Hid (w0.grownBy (w3_.alloc (.cells #[.pointer none, .int .i64 0] 192)) (some m)) := G3_.out.trans (World.grownBy_alloc _ _ _)
        have M4_ : Hid (MapP (w3_.alloc (.cells #[.pointer none, .int .i64 0] 192)) D m E2_) := M3_.out.kept ((World.grownBy_alloc w3_ _ none).block m M3_.out.lt (by simp))
        have P54_ := Hid.mk (((World.grownBy_alloc w3_ (.cells #[.pointer none, .int .i64 0] 192) none).block _ (Array.getElem?_eq_some_iff.1 P53_.out).1 (by simp)).trans P53_.out)
        have Q_4 : Hid (g53_ ≠ w3_.heap.size) := Nat.ne_of_lt (Array.getElem?_eq_some_iff.1 P53_.out).1
        have P64_ := Hid.mk (MapKept.heap_alloc w3_ (.cells #[.pointer none, .int .i64 0] 192)).1
        have N64_ : Hid (w.heap.size < w3_.heap.size) := by have := G3_.out.size; rw [HS0.out] at this; exact Nat.lt_of_succ_le this
        refine hK.out _ _ G4_.out (fun _ => ?_)
        clear hK K
        generalize w3_.alloc (.cells #[.pointer none, .int .i64 0] 192) = w4_ at *
        generalize w3_.heap.size = g64_ at *
        have hne_ : g53_ ≠ g64_ := Q_4.out
        have c50_ : w4_.cell? ⟨g53_, 0, none⟩ = some (.pointer none) := by rw [cell_of_row w4_ _ 0 _ _ (0, 0) P54_.out]; rfl
        have c51_ : w4_.cell? ⟨g53_, 1, none⟩ = some (.int .i64 0) := by rw [cell_of_row w4_ _ 1 _ _ (0, 0) P54_.out]; rfl
        have f5_ : ∀ o, w4_.frozen? ⟨g53_, o, none⟩ = false := fun o => by simp [World.frozen?, P54_.out]
        have c60_ : w4_.cell? ⟨g64_, 0, none⟩ = some (.pointer none) := by rw [cell_of_row w4_ _ 0 _ _ (0, 0) P64_.out]; rfl
        have c61_ : w4_.cell? ⟨g64_, 1, none⟩ = some (.int .i64 0) := by rw [cell_of_row w4_ _ 1 _ _ (0, 0) P64_.out]; rfl
        have f6_ : ∀ o, w4_.frozen? ⟨g64_, o, none⟩ = false := fun o => by simp [World.frozen?, P64_.out]
        have GA_ : Hid (w0.grownBy ((w4_.setCell ⟨g53_, 0, none⟩ (.pointer (some r1_.a))).setCell ⟨g53_, 1, none⟩ (.int .i64 r1_.n)) (some m)) := grown_set (grown_set G4_.out _ (by rw [HS0.out]; exact N53_.out) _) _ (by rw [HS0.out]; exact N53_.out) _
        have GB_ : Hid (w0.grownBy ((((w4_.setCell ⟨g53_, 0, none⟩ (.pointer (some r1_.a))).setCell ⟨g53_, 1, none⟩ (.int .i64 r1_.n)).setCell ⟨g64_, 0, none⟩ (.pointer (some r2_.a))).setCell ⟨g64_, 1, none⟩ (.int .i64 r2_.n)) (some m)) := grown_set (grown_set GA_.out _ (by rw [HS0.out]; exact N64_.out) _) _ (by rw [HS0.out]; exact N64_.out) _
        have R5_ : Hid (((((w4_.setCell ⟨g53_, 0, none⟩ (.pointer (some r1_.a))).setCell ⟨g53_, 1, none⟩ (.int .i64 r1_.n)).setCell ⟨g64_, 0, none⟩ (.pointer (some r2_.a))).setCell ⟨g64_, 1, none⟩ (.int .i64 r2_.n)).heap[g53_]? = some (.cells #[.pointer (some r1_.a), .int .i64 r1_.n] 192 (0, 0))) := by rw [heap_setCell_other _ _ _ _ hne_, heap_setCell_other _ _ _ _ hne_]; exact two_setCell P54_.out
        have R6_ : Hid (((((w4_.setCell ⟨g53_, 0, none⟩ (.pointer (some r1_.a))).setCell ⟨g53_, 1, none⟩ (.int .i64 r1_.n)).setCell ⟨g64_, 0, none⟩ (.pointer (some r2_.a))).setCell ⟨g64_, 1, none⟩ (.int .i64 r2_.n)).heap[g64_]? = some (.cells #[.pointer (some r2_.a), .int .i64 r2_.n] 192 (0, 0))) := two_setCell (by rw [heap_setCell_other _ _ _ _ (Ne.symm hne_), heap_setCell_other _ _ _ _ (Ne.symm hne_)]; exact P64_.out)
        have RM_ : Hid (MapP ((((w4_.setCell ⟨g53_, 0, none⟩ (.pointer (some r1_.a))).setCell ⟨g53_, 1, none⟩ (.int .i64 r1_.n)).setCell ⟨g64_, 0, none⟩ (.pointer (some r2_.a))).setCell ⟨g64_, 1, none⟩ (.int .i64 r2_.n)) D m E2_) := M4_.out.kept (by have h5 := N53_.out; have h6 := N64_.out; rw [heap_setCell_other _ _ _ _ (by show m ≠ g64_; omega), heap_setCell_other _ _ _ _ (by show m ≠ g64_; omega), heap_setCell_other _ _ _ _ (by show m ≠ g53_; omega), heap_setCell_other _ _ _ _ (by show m ≠ g53_; omega)])
        refine wpAnyH_ready (rs := [10]) (by kernel_rfl) (by simp) ?_
        refine AllReadyH.cons rfl (fun K hK => ?_) AllReadyH.nil
        rw [if_pos (by kernel_rfl)]
        go_wp2_with fail
        refine hK.out _ _ GA_.out (fun _ => ?_)
        clear hK K
        refine wpAnyH_ready (rs := [11]) (by kernel_rfl) (by simp) ?_
        refine AllReadyH.cons rfl (fun K hK => ?_) AllReadyH.nil
        rw [if_pos (by kernel_rfl)]
        go_wp2_with fail
        refine hK.out _ _ GB_.out (fun _ => ?_)
        clear hK K
        refine wpAnyH_done (by kernel_rfl) ?_ _
        exact REST g53_ g64_ r1_ r2_ E1_ E2_ _ R5_ R6_ (HG0.out.trans GB_.out) RM_ U2_ L12_ L22_
      · skip
        rw [if_pos (by kernel_rfl)]
        go_wp2_with fail
        have G5_ : Hid (w0.grownBy (w2_.alloc (.cells #[.pointer none, .int .i64 0] 192)) (some m)) := G2_.out.trans (World.grownBy_alloc _ _ _)
        have M5_ : Hid (MapP (w2_.alloc (.cells #[.pointer none, .int .i64 0] 192)) D m E2_) := M2_.out.kept ((World.grownBy_alloc w2_ _ none).block m M2_.out.lt (by simp))
        have P65_ := Hid.mk (MapKept.heap_alloc w2_ (.cells #[.pointer none, .int .i64 0] 192)).1
        have N65_ : Hid (w.heap.size < w2_.heap.size) := by have := G2_.out.size; rw [HS0.out] at this; exact Nat.lt_of_succ_le this
        refine hK.out _ _ G5_.out (fun _ => ?_)
        clear hK K
        generalize w2_.alloc (.cells #[.pointer none, .int .i64 0] 192) = w5_ at *
        generalize w2_.heap.size = g65_ at *
        refine wpAnyH_ready (rs := [8]) (by kernel_rfl) (by simp) ?_
        refine AllReadyH.cons rfl (fun K hK => ?_) AllReadyH.nil
        rw [if_pos (by kernel_rfl)]
        go_wp2_with fail
        have G6_ : Hid (w0.grownBy (w5_.alloc (.cells #[.pointer none, .int .i64 0] 192)) (some m)) := G5_.out.trans (World.grownBy_alloc _ _ _)
        have M6_ : Hid (MapP (w5_.alloc (.cells #[.pointer none, .int .i64 0] 192)) D m E2_) := M5_.out.kept ((World.grownBy_alloc w5_ _ none).block m M5_.out.lt (by simp))
        have P66_ := Hid.mk (((World.grownBy_alloc w5_ (.cells #[.pointer none, .int .i64 0] 192) none).block _ (Array.getElem?_eq_some_iff.1 P65_.out).1 (by simp)).trans P65_.out)
        have Q_6 : Hid (g65_ ≠ w5_.heap.size) := Nat.ne_of_lt (Array.getElem?_eq_some_iff.1 P65_.out).1
        have P56_ := Hid.mk (MapKept.heap_alloc w5_ (.cells #[.pointer none, .int .i64 0] 192)).1
        have N56_ : Hid (w.heap.size < w5_.heap.size) := by have := G5_.out.size; rw [HS0.out] at this; exact Nat.lt_of_succ_le this
        refine hK.out _ _ G6_.out (fun _ => ?_)
        clear hK K
        generalize w5_.alloc (.cells #[.pointer none, .int .i64 0] 192) = w6_ at *
        generalize w5_.heap.size = g56_ at *
        have hne_ : g56_ ≠ g65_ := (Ne.symm Q_6.out)
        have c50_ : w6_.cell? ⟨g56_, 0, none⟩ = some (.pointer none) := by rw [cell_of_row w6_ _ 0 _ _ (0, 0) P56_.out]; rfl
        have c51_ : w6_.cell? ⟨g56_, 1, none⟩ = some (.int .i64 0) := by rw [cell_of_row w6_ _ 1 _ _ (0, 0) P56_.out]; rfl
        have f5_ : ∀ o, w6_.frozen? ⟨g56_, o, none⟩ = false := fun o => by simp [World.frozen?, P56_.out]
        have c60_ : w6_.cell? ⟨g65_, 0, none⟩ = some (.pointer none) := by rw [cell_of_row w6_ _ 0 _ _ (0, 0) P66_.out]; rfl
        have c61_ : w6_.cell? ⟨g65_, 1, none⟩ = some (.int .i64 0) := by rw [cell_of_row w6_ _ 1 _ _ (0, 0) P66_.out]; rfl
        have f6_ : ∀ o, w6_.frozen? ⟨g65_, o, none⟩ = false := fun o => by simp [World.frozen?, P66_.out]
        have GA_ : Hid (w0.grownBy ((w6_.setCell ⟨g56_, 0, none⟩ (.pointer (some r1_.a))).setCell ⟨g56_, 1, none⟩ (.int .i64 r1_.n)) (some m)) := grown_set (grown_set G6_.out _ (by rw [HS0.out]; exact N56_.out) _) _ (by rw [HS0.out]; exact N56_.out) _
        have GB_ : Hid (w0.grownBy ((((w6_.setCell ⟨g56_, 0, none⟩ (.pointer (some r1_.a))).setCell ⟨g56_, 1, none⟩ (.int .i64 r1_.n)).setCell ⟨g65_, 0, none⟩ (.pointer (some r2_.a))).setCell ⟨g65_, 1, none⟩ (.int .i64 r2_.n)) (some m)) := grown_set (grown_set GA_.out _ (by rw [HS0.out]; exact N65_.out) _) _ (by rw [HS0.out]; exact N65_.out) _
        have R5_ : Hid (((((w6_.setCell ⟨g56_, 0, none⟩ (.pointer (some r1_.a))).setCell ⟨g56_, 1, none⟩ (.int .i64 r1_.n)).setCell ⟨g65_, 0, none⟩ (.pointer (some r2_.a))).setCell ⟨g65_, 1, none⟩ (.int .i64 r2_.n)).heap[g56_]? = some (.cells #[.pointer (some r1_.a), .int .i64 r1_.n] 192 (0, 0))) := by rw [heap_setCell_other _ _ _ _ hne_, heap_setCell_other _ _ _ _ hne_]; exact two_setCell P56_.out
        have R6_ : Hid (((((w6_.setCell ⟨g56_, 0, none⟩ (.pointer (some r1_.a))).setCell ⟨g56_, 1, none⟩ (.int .i64 r1_.n)).setCell ⟨g65_, 0, none⟩ (.pointer (some r2_.a))).setCell ⟨g65_, 1, none⟩ (.int .i64 r2_.n)).heap[g65_]? = some (.cells #[.pointer (some r2_.a), .int .i64 r2_.n] 192 (0, 0))) := two_setCell (by rw [heap_setCell_other _ _ _ _ (Ne.symm hne_), heap_setCell_other _ _ _ _ (Ne.symm hne_)]; exact P66_.out)
        have RM_ : Hid (MapP ((((w6_.setCell ⟨g56_, 0, none⟩ (.pointer (some r1_.a))).setCell ⟨g56_, 1, none⟩ (.int .i64 r1_.n)).setCell ⟨g65_, 0, none⟩ (.pointer (some r2_.a))).setCell ⟨g65_, 1, none⟩ (.int .i64 r2_.n)) D m E2_) := M6_.out.kept (by have h5 := N56_.out; have h6 := N65_.out; rw [heap_setCell_other _ _ _ _ (by show m ≠ g65_; omega), heap_setCell_other _ _ _ _ (by show m ≠ g65_; omega), heap_setCell_other _ _ _ _ (by show m ≠ g56_; omega), heap_setCell_other _ _ _ _ (by show m ≠ g56_; omega)])
        refine wpAnyH_ready (rs := [10]) (by kernel_rfl) (by simp) ?_
        refine AllReadyH.cons rfl (fun K hK => ?_) AllReadyH.nil
        rw [if_pos (by kernel_rfl)]
        go_wp2_with fail
        refine hK.out _ _ GA_.out (fun _ => ?_)
        clear hK K
        refine wpAnyH_ready (rs := [11]) (by kernel_rfl) (by simp) ?_
        refine AllReadyH.cons rfl (fun K hK => ?_) AllReadyH.nil
        rw [if_pos (by kernel_rfl)]
        go_wp2_with fail
        refine hK.out _ _ GB_.out (fun _ => ?_)
        clear hK K
        refine wpAnyH_done (by kernel_rfl) ?_ _
        exact REST g56_ g65_ r1_ r2_ E1_ E2_ _ R5_ R6_ (HG0.out.trans GB_.out) RM_ U2_ L12_ L22_
    · skip
      rw [if_pos (by kernel_rfl)]
      go_wp2_with fail
      have G7_ : Hid (w0.grownBy (w1_.alloc (.cells #[.pointer none, .int .i64 0] 192)) (some m)) := G1_.out.trans (World.grownBy_alloc _ _ _)
      have M7_ : Hid (MapP (w1_.alloc (.cells #[.pointer none, .int .i64 0] 192)) D m E1_) := M1_.out.kept ((World.grownBy_alloc w1_ _ none).block m M1_.out.lt (by simp))
      have P57_ := Hid.mk (MapKept.heap_alloc w1_ (.cells #[.pointer none, .int .i64 0] 192)).1
      have N57_ : Hid (w.heap.size < w1_.heap.size) := by have := G1_.out.size; rw [HS0.out] at this; exact Nat.lt_of_succ_le this
      refine hK.out _ _ G7_.out (fun _ => ?_)
      clear hK K
      generalize w1_.alloc (.cells #[.pointer none, .int .i64 0] 192) = w7_ at *
      generalize w1_.heap.size = g57_ at *
      refine wpAnyH_ready (rs := [7, 9]) (by kernel_rfl) (by simp) ?_
      refine AllReadyH.cons rfl (fun K hK => ?_) (AllReadyH.cons rfl (fun K hK => ?_) (AllReadyH.nil))
      · skip
        rw [if_pos (by kernel_rfl)]
        go_wp2_with fail
        refine (standsX_any _ D m E1_ b' off' n' cap' HN.out.2 (HDW.out _ (HG0.out.trans G7_.out)) HP.out.2 M7_.out U1_.out).mono ?_
        rintro e w8_ ⟨r8_, E8_, rfl, hm_, hu_, hal_, hle_, hno_, hd_, hro_, hg_⟩
        have G8_ : Hid (w0.grownBy w8_ (some m)) := G7_.out.trans hg_
        have M8_ := Hid.mk hm_
        have U8_ := Hid.mk hu_
        have P58_ := Hid.mk ((hg_.block _ (Array.getElem?_eq_some_iff.1 P57_.out).1 (by intro e; have := N57_.out; simp at e; omega)).trans P57_.out)
        have L28_ : Hid (Alk E1_ E8_ ∧ Leads E8_ ⟨⟨b', off', none⟩, n'⟩ r8_ ∧ D r8_.a.block ∧ lk E8_ r8_ = none) := ⟨hal_, hle_, hd_, hno_⟩
        have L18_ : Hid (Alk E E1_ ∧ Leads E1_ ⟨⟨b, off, none⟩, n⟩ r1_ ∧ D r1_.a.block ∧ lk E8_ r1_ = none) := ⟨L11_.out.1, L11_.out.2.1, L11_.out.2.2.1, hro_ _ L11_.out.2.2.2⟩
        refine hK.out _ _ G8_.out (fun _ => ?_)
        clear hK K hm_ hu_ hal_ hle_ hno_ hd_ hro_ hg_
        refine wpAnyH_ready (rs := [9]) (by kernel_rfl) (by simp) ?_
        refine AllReadyH.cons rfl (fun K hK => ?_) AllReadyH.nil
        rw [if_pos (by kernel_rfl)]
        go_wp2_with fail
        have G9_ : Hid (w0.grownBy (w8_.alloc (.cells #[.pointer none, .int .i64 0] 192)) (some m)) := G8_.out.trans (World.grownBy_alloc _ _ _)
        have M9_ : Hid (MapP (w8_.alloc (.cells #[.pointer none, .int .i64 0] 192)) D m E8_) := M8_.out.kept ((World.grownBy_alloc w8_ _ none).block m M8_.out.lt (by simp))
        have P59_ := Hid.mk (((World.grownBy_alloc w8_ (.cells #[.pointer none, .int .i64 0] 192) none).block _ (Array.getElem?_eq_some_iff.1 P58_.out).1 (by simp)).trans P58_.out)
        have Q_9 : Hid (g57_ ≠ w8_.heap.size) := Nat.ne_of_lt (Array.getElem?_eq_some_iff.1 P58_.out).1
        have P69_ := Hid.mk (MapKept.heap_alloc w8_ (.cells #[.pointer none, .int .i64 0] 192)).1
        have N69_ : Hid (w.heap.size < w8_.heap.size) := by have := G8_.out.size; rw [HS0.out] at this; exact Nat.lt_of_succ_le this
        refine hK.out _ _ G9_.out (fun _ => ?_)
        clear hK K
        generalize w8_.alloc (.cells #[.pointer none, .int .i64 0] 192) = w9_ at *
        generalize w8_.heap.size = g69_ at *
        have hne_ : g57_ ≠ g69_ := Q_9.out
        have c50_ : w9_.cell? ⟨g57_, 0, none⟩ = some (.pointer none) := by rw [cell_of_row w9_ _ 0 _ _ (0, 0) P59_.out]; rfl
        have c51_ : w9_.cell? ⟨g57_, 1, none⟩ = some (.int .i64 0) := by rw [cell_of_row w9_ _ 1 _ _ (0, 0) P59_.out]; rfl
        have f5_ : ∀ o, w9_.frozen? ⟨g57_, o, none⟩ = false := fun o => by simp [World.frozen?, P59_.out]
        have c60_ : w9_.cell? ⟨g69_, 0, none⟩ = some (.pointer none) := by rw [cell_of_row w9_ _ 0 _ _ (0, 0) P69_.out]; rfl
        have c61_ : w9_.cell? ⟨g69_, 1, none⟩ = some (.int .i64 0) := by rw [cell_of_row w9_ _ 1 _ _ (0, 0) P69_.out]; rfl
        have f6_ : ∀ o, w9_.frozen? ⟨g69_, o, none⟩ = false := fun o => by simp [World.frozen?, P69_.out]
        have GA_ : Hid (w0.grownBy ((w9_.setCell ⟨g57_, 0, none⟩ (.pointer (some r1_.a))).setCell ⟨g57_, 1, none⟩ (.int .i64 r1_.n)) (some m)) := grown_set (grown_set G9_.out _ (by rw [HS0.out]; exact N57_.out) _) _ (by rw [HS0.out]; exact N57_.out) _
        have GB_ : Hid (w0.grownBy ((((w9_.setCell ⟨g57_, 0, none⟩ (.pointer (some r1_.a))).setCell ⟨g57_, 1, none⟩ (.int .i64 r1_.n)).setCell ⟨g69_, 0, none⟩ (.pointer (some r8_.a))).setCell ⟨g69_, 1, none⟩ (.int .i64 r8_.n)) (some m)) := grown_set (grown_set GA_.out _ (by rw [HS0.out]; exact N69_.out) _) _ (by rw [HS0.out]; exact N69_.out) _
        have R5_ : Hid (((((w9_.setCell ⟨g57_, 0, none⟩ (.pointer (some r1_.a))).setCell ⟨g57_, 1, none⟩ (.int .i64 r1_.n)).setCell ⟨g69_, 0, none⟩ (.pointer (some r8_.a))).setCell ⟨g69_, 1, none⟩ (.int .i64 r8_.n)).heap[g57_]? = some (.cells #[.pointer (some r1_.a), .int .i64 r1_.n] 192 (0, 0))) := by rw [heap_setCell_other _ _ _ _ hne_, heap_setCell_other _ _ _ _ hne_]; exact two_setCell P59_.out
        have R6_ : Hid (((((w9_.setCell ⟨g57_, 0, none⟩ (.pointer (some r1_.a))).setCell ⟨g57_, 1, none⟩ (.int .i64 r1_.n)).setCell ⟨g69_, 0, none⟩ (.pointer (some r8_.a))).setCell ⟨g69_, 1, none⟩ (.int .i64 r8_.n)).heap[g69_]? = some (.cells #[.pointer (some r8_.a), .int .i64 r8_.n] 192 (0, 0))) := two_setCell (by rw [heap_setCell_other _ _ _ _ (Ne.symm hne_), heap_setCell_other _ _ _ _ (Ne.symm hne_)]; exact P69_.out)
        have RM_ : Hid (MapP ((((w9_.setCell ⟨g57_, 0, none⟩ (.pointer (some r1_.a))).setCell ⟨g57_, 1, none⟩ (.int .i64 r1_.n)).setCell ⟨g69_, 0, none⟩ (.pointer (some r8_.a))).setCell ⟨g69_, 1, none⟩ (.int .i64 r8_.n)) D m E8_) := M9_.out.kept (by have h5 := N57_.out; have h6 := N69_.out; rw [heap_setCell_other _ _ _ _ (by show m ≠ g69_; omega), heap_setCell_other _ _ _ _ (by show m ≠ g69_; omega), heap_setCell_other _ _ _ _ (by show m ≠ g57_; omega), heap_setCell_other _ _ _ _ (by show m ≠ g57_; omega)])
        refine wpAnyH_ready (rs := [10]) (by kernel_rfl) (by simp) ?_
        refine AllReadyH.cons rfl (fun K hK => ?_) AllReadyH.nil
        rw [if_pos (by kernel_rfl)]
        go_wp2_with fail
        refine hK.out _ _ GA_.out (fun _ => ?_)
        clear hK K
        refine wpAnyH_ready (rs := [11]) (by kernel_rfl) (by simp) ?_
        refine AllReadyH.cons rfl (fun K hK => ?_) AllReadyH.nil
        rw [if_pos (by kernel_rfl)]
        go_wp2_with fail
        refine hK.out _ _ GB_.out (fun _ => ?_)
        clear hK K
        refine wpAnyH_done (by kernel_rfl) ?_ _
        exact REST g57_ g69_ r1_ r8_ E1_ E8_ _ R5_ R6_ (HG0.out.trans GB_.out) RM_ U8_ L18_ L28_
      · skip
        rw [if_pos (by kernel_rfl)]
        go_wp2_with fail
        have G10_ : Hid (w0.grownBy (w7_.alloc (.cells #[.pointer none, .int .i64 0] 192)) (some m)) := G7_.out.trans (World.grownBy_alloc _ _ _)
        have M10_ : Hid (MapP (w7_.alloc (.cells #[.pointer none, .int .i64 0] 192)) D m E1_) := M7_.out.kept ((World.grownBy_alloc w7_ _ none).block m M7_.out.lt (by simp))
        have P510_ := Hid.mk (((World.grownBy_alloc w7_ (.cells #[.pointer none, .int .i64 0] 192) none).block _ (Array.getElem?_eq_some_iff.1 P57_.out).1 (by simp)).trans P57_.out)
        have Q_10 : Hid (g57_ ≠ w7_.heap.size) := Nat.ne_of_lt (Array.getElem?_eq_some_iff.1 P57_.out).1
        have P610_ := Hid.mk (MapKept.heap_alloc w7_ (.cells #[.pointer none, .int .i64 0] 192)).1
        have N610_ : Hid (w.heap.size < w7_.heap.size) := by have := G7_.out.size; rw [HS0.out] at this; exact Nat.lt_of_succ_le this
        refine hK.out _ _ G10_.out (fun _ => ?_)
        clear hK K
        generalize w7_.alloc (.cells #[.pointer none, .int .i64 0] 192) = w10_ at *
        generalize w7_.heap.size = g610_ at *
        refine wpAnyH_ready (rs := [7]) (by kernel_rfl) (by simp) ?_
        refine AllReadyH.cons rfl (fun K hK => ?_) AllReadyH.nil
        rw [if_pos (by kernel_rfl)]
        go_wp2_with fail
        refine (standsX_any _ D m E1_ b' off' n' cap' HN.out.2 (HDW.out _ (HG0.out.trans G10_.out)) HP.out.2 M10_.out U1_.out).mono ?_
        rintro e w11_ ⟨r11_, E11_, rfl, hm_, hu_, hal_, hle_, hno_, hd_, hro_, hg_⟩
        have G11_ : Hid (w0.grownBy w11_ (some m)) := G10_.out.trans hg_
        have M11_ := Hid.mk hm_
        have U11_ := Hid.mk hu_
        have P511_ := Hid.mk ((hg_.block _ (Array.getElem?_eq_some_iff.1 P510_.out).1 (by intro e; have := N57_.out; simp at e; omega)).trans P510_.out)
        have P611_ := Hid.mk ((hg_.block _ (Array.getElem?_eq_some_iff.1 P610_.out).1 (by intro e; have := N610_.out; simp at e; omega)).trans P610_.out)
        have L211_ : Hid (Alk E1_ E11_ ∧ Leads E11_ ⟨⟨b', off', none⟩, n'⟩ r11_ ∧ D r11_.a.block ∧ lk E11_ r11_ = none) := ⟨hal_, hle_, hd_, hno_⟩
        have L111_ : Hid (Alk E E1_ ∧ Leads E1_ ⟨⟨b, off, none⟩, n⟩ r1_ ∧ D r1_.a.block ∧ lk E11_ r1_ = none) := ⟨L11_.out.1, L11_.out.2.1, L11_.out.2.2.1, hro_ _ L11_.out.2.2.2⟩
        refine hK.out _ _ G11_.out (fun _ => ?_)
        clear hK K hm_ hu_ hal_ hle_ hno_ hd_ hro_ hg_
        have hne_ : g57_ ≠ g610_ := Q_10.out
        have c50_ : w11_.cell? ⟨g57_, 0, none⟩ = some (.pointer none) := by rw [cell_of_row w11_ _ 0 _ _ (0, 0) P511_.out]; rfl
        have c51_ : w11_.cell? ⟨g57_, 1, none⟩ = some (.int .i64 0) := by rw [cell_of_row w11_ _ 1 _ _ (0, 0) P511_.out]; rfl
        have f5_ : ∀ o, w11_.frozen? ⟨g57_, o, none⟩ = false := fun o => by simp [World.frozen?, P511_.out]
        have c60_ : w11_.cell? ⟨g610_, 0, none⟩ = some (.pointer none) := by rw [cell_of_row w11_ _ 0 _ _ (0, 0) P611_.out]; rfl
        have c61_ : w11_.cell? ⟨g610_, 1, none⟩ = some (.int .i64 0) := by rw [cell_of_row w11_ _ 1 _ _ (0, 0) P611_.out]; rfl
        have f6_ : ∀ o, w11_.frozen? ⟨g610_, o, none⟩ = false := fun o => by simp [World.frozen?, P611_.out]
        have GA_ : Hid (w0.grownBy ((w11_.setCell ⟨g57_, 0, none⟩ (.pointer (some r1_.a))).setCell ⟨g57_, 1, none⟩ (.int .i64 r1_.n)) (some m)) := grown_set (grown_set G11_.out _ (by rw [HS0.out]; exact N57_.out) _) _ (by rw [HS0.out]; exact N57_.out) _
        have GB_ : Hid (w0.grownBy ((((w11_.setCell ⟨g57_, 0, none⟩ (.pointer (some r1_.a))).setCell ⟨g57_, 1, none⟩ (.int .i64 r1_.n)).setCell ⟨g610_, 0, none⟩ (.pointer (some r11_.a))).setCell ⟨g610_, 1, none⟩ (.int .i64 r11_.n)) (some m)) := grown_set (grown_set GA_.out _ (by rw [HS0.out]; exact N610_.out) _) _ (by rw [HS0.out]; exact N610_.out) _
        have R5_ : Hid (((((w11_.setCell ⟨g57_, 0, none⟩ (.pointer (some r1_.a))).setCell ⟨g57_, 1, none⟩ (.int .i64 r1_.n)).setCell ⟨g610_, 0, none⟩ (.pointer (some r11_.a))).setCell ⟨g610_, 1, none⟩ (.int .i64 r11_.n)).heap[g57_]? = some (.cells #[.pointer (some r1_.a), .int .i64 r1_.n] 192 (0, 0))) := by rw [heap_setCell_other _ _ _ _ hne_, heap_setCell_other _ _ _ _ hne_]; exact two_setCell P511_.out
        have R6_ : Hid (((((w11_.setCell ⟨g57_, 0, none⟩ (.pointer (some r1_.a))).setCell ⟨g57_, 1, none⟩ (.int .i64 r1_.n)).setCell ⟨g610_, 0, none⟩ (.pointer (some r11_.a))).setCell ⟨g610_, 1, none⟩ (.int .i64 r11_.n)).heap[g610_]? = some (.cells #[.pointer (some r11_.a), .int .i64 r11_.n] 192 (0, 0))) := two_setCell (by rw [heap_setCell_other _ _ _ _ (Ne.symm hne_), heap_setCell_other _ _ _ _ (Ne.symm hne_)]; exact P611_.out)
        have RM_ : Hid (MapP ((((w11_.setCell ⟨g57_, 0, none⟩ (.pointer (some r1_.a))).setCell ⟨g57_, 1, none⟩ (.int .i64 r1_.n)).setCell ⟨g610_, 0, none⟩ (.pointer (some r11_.a))).setCell ⟨g610_, 1, none⟩ (.int .i64 r11_.n)) D m E11_) := M11_.out.kept (by have h5 := N57_.out; have h6 := N610_.out; rw [heap_setCell_other _ _ _ _ (by show m ≠ g610_; omega), heap_setCell_other _ _ _ _ (by show m ≠ g610_; omega), heap_setCell_other _ _ _ _ (by show m ≠ g57_; omega), heap_setCell_other _ _ _ _ (by show m ≠ g57_; omega)])
        refine wpAnyH_ready (rs := [10]) (by kernel_rfl) (by simp) ?_
        refine AllReadyH.cons rfl (fun K hK => ?_) AllReadyH.nil
        rw [if_pos (by kernel_rfl)]
        go_wp2_with fail
        refine hK.out _ _ GA_.out (fun _ => ?_)
        clear hK K
        refine wpAnyH_ready (rs := [11]) (by kernel_rfl) (by simp) ?_
        refine AllReadyH.cons rfl (fun K hK => ?_) AllReadyH.nil
        rw [if_pos (by kernel_rfl)]
        go_wp2_with fail
        refine hK.out _ _ GB_.out (fun _ => ?_)
        clear hK K
        refine wpAnyH_done (by kernel_rfl) ?_ _
        exact REST g57_ g610_ r1_ r11_ E1_ E11_ _ R5_ R6_ (HG0.out.trans GB_.out) RM_ U11_ L111_ L211_
    · skip
      rw [if_pos (by kernel_rfl)]
      go_wp2_with fail
      have G12_ : Hid (w0.grownBy (w1_.alloc (.cells #[.pointer none, .int .i64 0] 192)) (some m)) := G1_.out.trans (World.grownBy_alloc _ _ _)
      have M12_ : Hid (MapP (w1_.alloc (.cells #[.pointer none, .int .i64 0] 192)) D m E1_) := M1_.out.kept ((World.grownBy_alloc w1_ _ none).block m M1_.out.lt (by simp))
      have P612_ := Hid.mk (MapKept.heap_alloc w1_ (.cells #[.pointer none, .int .i64 0] 192)).1
      have N612_ : Hid (w.heap.size < w1_.heap.size) := by have := G1_.out.size; rw [HS0.out] at this; exact Nat.lt_of_succ_le this
      refine hK.out _ _ G12_.out (fun _ => ?_)
      clear hK K
      generalize w1_.alloc (.cells #[.pointer none, .int .i64 0] 192) = w12_ at *
      generalize w1_.heap.size = g612_ at *
      refine wpAnyH_ready (rs := [7, 8]) (by kernel_rfl) (by simp) ?_
      refine AllReadyH.cons rfl (fun K hK => ?_) (AllReadyH.cons rfl (fun K hK => ?_) (AllReadyH.nil))
      · skip
        rw [if_pos (by kernel_rfl)]
        go_wp2_with fail
        refine (standsX_any _ D m E1_ b' off' n' cap' HN.out.2 (HDW.out _ (HG0.out.trans G12_.out)) HP.out.2 M12_.out U1_.out).mono ?_
        rintro e w13_ ⟨r13_, E13_, rfl, hm_, hu_, hal_, hle_, hno_, hd_, hro_, hg_⟩
        have G13_ : Hid (w0.grownBy w13_ (some m)) := G12_.out.trans hg_
        have M13_ := Hid.mk hm_
        have U13_ := Hid.mk hu_
        have P613_ := Hid.mk ((hg_.block _ (Array.getElem?_eq_some_iff.1 P612_.out).1 (by intro e; have := N612_.out; simp at e; omega)).trans P612_.out)
        have L213_ : Hid (Alk E1_ E13_ ∧ Leads E13_ ⟨⟨b', off', none⟩, n'⟩ r13_ ∧ D r13_.a.block ∧ lk E13_ r13_ = none) := ⟨hal_, hle_, hd_, hno_⟩
        have L113_ : Hid (Alk E E1_ ∧ Leads E1_ ⟨⟨b, off, none⟩, n⟩ r1_ ∧ D r1_.a.block ∧ lk E13_ r1_ = none) := ⟨L11_.out.1, L11_.out.2.1, L11_.out.2.2.1, hro_ _ L11_.out.2.2.2⟩
        refine hK.out _ _ G13_.out (fun _ => ?_)
        clear hK K hm_ hu_ hal_ hle_ hno_ hd_ hro_ hg_
        refine wpAnyH_ready (rs := [8]) (by kernel_rfl) (by simp) ?_
        refine AllReadyH.cons rfl (fun K hK => ?_) AllReadyH.nil
        rw [if_pos (by kernel_rfl)]
        go_wp2_with fail
        have G14_ : Hid (w0.grownBy (w13_.alloc (.cells #[.pointer none, .int .i64 0] 192)) (some m)) := G13_.out.trans (World.grownBy_alloc _ _ _)
        have M14_ : Hid (MapP (w13_.alloc (.cells #[.pointer none, .int .i64 0] 192)) D m E13_) := M13_.out.kept ((World.grownBy_alloc w13_ _ none).block m M13_.out.lt (by simp))
        have P614_ := Hid.mk (((World.grownBy_alloc w13_ (.cells #[.pointer none, .int .i64 0] 192) none).block _ (Array.getElem?_eq_some_iff.1 P613_.out).1 (by simp)).trans P613_.out)
        have Q_14 : Hid (g612_ ≠ w13_.heap.size) := Nat.ne_of_lt (Array.getElem?_eq_some_iff.1 P613_.out).1
        have P514_ := Hid.mk (MapKept.heap_alloc w13_ (.cells #[.pointer none, .int .i64 0] 192)).1
        have N514_ : Hid (w.heap.size < w13_.heap.size) := by have := G13_.out.size; rw [HS0.out] at this; exact Nat.lt_of_succ_le this
        refine hK.out _ _ G14_.out (fun _ => ?_)
        clear hK K
        generalize w13_.alloc (.cells #[.pointer none, .int .i64 0] 192) = w14_ at *
        generalize w13_.heap.size = g514_ at *
        have hne_ : g514_ ≠ g612_ := (Ne.symm Q_14.out)
        have c50_ : w14_.cell? ⟨g514_, 0, none⟩ = some (.pointer none) := by rw [cell_of_row w14_ _ 0 _ _ (0, 0) P514_.out]; rfl
        have c51_ : w14_.cell? ⟨g514_, 1, none⟩ = some (.int .i64 0) := by rw [cell_of_row w14_ _ 1 _ _ (0, 0) P514_.out]; rfl
        have f5_ : ∀ o, w14_.frozen? ⟨g514_, o, none⟩ = false := fun o => by simp [World.frozen?, P514_.out]
        have c60_ : w14_.cell? ⟨g612_, 0, none⟩ = some (.pointer none) := by rw [cell_of_row w14_ _ 0 _ _ (0, 0) P614_.out]; rfl
        have c61_ : w14_.cell? ⟨g612_, 1, none⟩ = some (.int .i64 0) := by rw [cell_of_row w14_ _ 1 _ _ (0, 0) P614_.out]; rfl
        have f6_ : ∀ o, w14_.frozen? ⟨g612_, o, none⟩ = false := fun o => by simp [World.frozen?, P614_.out]
        have GA_ : Hid (w0.grownBy ((w14_.setCell ⟨g514_, 0, none⟩ (.pointer (some r1_.a))).setCell ⟨g514_, 1, none⟩ (.int .i64 r1_.n)) (some m)) := grown_set (grown_set G14_.out _ (by rw [HS0.out]; exact N514_.out) _) _ (by rw [HS0.out]; exact N514_.out) _
        have GB_ : Hid (w0.grownBy ((((w14_.setCell ⟨g514_, 0, none⟩ (.pointer (some r1_.a))).setCell ⟨g514_, 1, none⟩ (.int .i64 r1_.n)).setCell ⟨g612_, 0, none⟩ (.pointer (some r13_.a))).setCell ⟨g612_, 1, none⟩ (.int .i64 r13_.n)) (some m)) := grown_set (grown_set GA_.out _ (by rw [HS0.out]; exact N612_.out) _) _ (by rw [HS0.out]; exact N612_.out) _
        have R5_ : Hid (((((w14_.setCell ⟨g514_, 0, none⟩ (.pointer (some r1_.a))).setCell ⟨g514_, 1, none⟩ (.int .i64 r1_.n)).setCell ⟨g612_, 0, none⟩ (.pointer (some r13_.a))).setCell ⟨g612_, 1, none⟩ (.int .i64 r13_.n)).heap[g514_]? = some (.cells #[.pointer (some r1_.a), .int .i64 r1_.n] 192 (0, 0))) := by rw [heap_setCell_other _ _ _ _ hne_, heap_setCell_other _ _ _ _ hne_]; exact two_setCell P514_.out
        have R6_ : Hid (((((w14_.setCell ⟨g514_, 0, none⟩ (.pointer (some r1_.a))).setCell ⟨g514_, 1, none⟩ (.int .i64 r1_.n)).setCell ⟨g612_, 0, none⟩ (.pointer (some r13_.a))).setCell ⟨g612_, 1, none⟩ (.int .i64 r13_.n)).heap[g612_]? = some (.cells #[.pointer (some r13_.a), .int .i64 r13_.n] 192 (0, 0))) := two_setCell (by rw [heap_setCell_other _ _ _ _ (Ne.symm hne_), heap_setCell_other _ _ _ _ (Ne.symm hne_)]; exact P614_.out)
        have RM_ : Hid (MapP ((((w14_.setCell ⟨g514_, 0, none⟩ (.pointer (some r1_.a))).setCell ⟨g514_, 1, none⟩ (.int .i64 r1_.n)).setCell ⟨g612_, 0, none⟩ (.pointer (some r13_.a))).setCell ⟨g612_, 1, none⟩ (.int .i64 r13_.n)) D m E13_) := M14_.out.kept (by have h5 := N514_.out; have h6 := N612_.out; rw [heap_setCell_other _ _ _ _ (by show m ≠ g612_; omega), heap_setCell_other _ _ _ _ (by show m ≠ g612_; omega), heap_setCell_other _ _ _ _ (by show m ≠ g514_; omega), heap_setCell_other _ _ _ _ (by show m ≠ g514_; omega)])
        refine wpAnyH_ready (rs := [10]) (by kernel_rfl) (by simp) ?_
        refine AllReadyH.cons rfl (fun K hK => ?_) AllReadyH.nil
        rw [if_pos (by kernel_rfl)]
        go_wp2_with fail
        refine hK.out _ _ GA_.out (fun _ => ?_)
        clear hK K
        refine wpAnyH_ready (rs := [11]) (by kernel_rfl) (by simp) ?_
        refine AllReadyH.cons rfl (fun K hK => ?_) AllReadyH.nil
        rw [if_pos (by kernel_rfl)]
        go_wp2_with fail
        refine hK.out _ _ GB_.out (fun _ => ?_)
        clear hK K
        refine wpAnyH_done (by kernel_rfl) ?_ _
        exact REST g514_ g612_ r1_ r13_ E1_ E13_ _ R5_ R6_ (HG0.out.trans GB_.out) RM_ U13_ L113_ L213_
      · skip
        rw [if_pos (by kernel_rfl)]
        go_wp2_with fail
        have G15_ : Hid (w0.grownBy (w12_.alloc (.cells #[.pointer none, .int .i64 0] 192)) (some m)) := G12_.out.trans (World.grownBy_alloc _ _ _)
        have M15_ : Hid (MapP (w12_.alloc (.cells #[.pointer none, .int .i64 0] 192)) D m E1_) := M12_.out.kept ((World.grownBy_alloc w12_ _ none).block m M12_.out.lt (by simp))
        have P615_ := Hid.mk (((World.grownBy_alloc w12_ (.cells #[.pointer none, .int .i64 0] 192) none).block _ (Array.getElem?_eq_some_iff.1 P612_.out).1 (by simp)).trans P612_.out)
        have Q_15 : Hid (g612_ ≠ w12_.heap.size) := Nat.ne_of_lt (Array.getElem?_eq_some_iff.1 P612_.out).1
        have P515_ := Hid.mk (MapKept.heap_alloc w12_ (.cells #[.pointer none, .int .i64 0] 192)).1
        have N515_ : Hid (w.heap.size < w12_.heap.size) := by have := G12_.out.size; rw [HS0.out] at this; exact Nat.lt_of_succ_le this
        refine hK.out _ _ G15_.out (fun _ => ?_)
        clear hK K
        generalize w12_.alloc (.cells #[.pointer none, .int .i64 0] 192) = w15_ at *
        generalize w12_.heap.size = g515_ at *
        refine wpAnyH_ready (rs := [7]) (by kernel_rfl) (by simp) ?_
        refine AllReadyH.cons rfl (fun K hK => ?_) AllReadyH.nil
        rw [if_pos (by kernel_rfl)]
        go_wp2_with fail
        refine (standsX_any _ D m E1_ b' off' n' cap' HN.out.2 (HDW.out _ (HG0.out.trans G15_.out)) HP.out.2 M15_.out U1_.out).mono ?_
        rintro e w16_ ⟨r16_, E16_, rfl, hm_, hu_, hal_, hle_, hno_, hd_, hro_, hg_⟩
        have G16_ : Hid (w0.grownBy w16_ (some m)) := G15_.out.trans hg_
        have M16_ := Hid.mk hm_
        have U16_ := Hid.mk hu_
        have P516_ := Hid.mk ((hg_.block _ (Array.getElem?_eq_some_iff.1 P515_.out).1 (by intro e; have := N515_.out; simp at e; omega)).trans P515_.out)
        have P616_ := Hid.mk ((hg_.block _ (Array.getElem?_eq_some_iff.1 P615_.out).1 (by intro e; have := N612_.out; simp at e; omega)).trans P615_.out)
        have L216_ : Hid (Alk E1_ E16_ ∧ Leads E16_ ⟨⟨b', off', none⟩, n'⟩ r16_ ∧ D r16_.a.block ∧ lk E16_ r16_ = none) := ⟨hal_, hle_, hd_, hno_⟩
        have L116_ : Hid (Alk E E1_ ∧ Leads E1_ ⟨⟨b, off, none⟩, n⟩ r1_ ∧ D r1_.a.block ∧ lk E16_ r1_ = none) := ⟨L11_.out.1, L11_.out.2.1, L11_.out.2.2.1, hro_ _ L11_.out.2.2.2⟩
        refine hK.out _ _ G16_.out (fun _ => ?_)
        clear hK K hm_ hu_ hal_ hle_ hno_ hd_ hro_ hg_
        have hne_ : g515_ ≠ g612_ := (Ne.symm Q_15.out)
        have c50_ : w16_.cell? ⟨g515_, 0, none⟩ = some (.pointer none) := by rw [cell_of_row w16_ _ 0 _ _ (0, 0) P516_.out]; rfl
        have c51_ : w16_.cell? ⟨g515_, 1, none⟩ = some (.int .i64 0) := by rw [cell_of_row w16_ _ 1 _ _ (0, 0) P516_.out]; rfl
        have f5_ : ∀ o, w16_.frozen? ⟨g515_, o, none⟩ = false := fun o => by simp [World.frozen?, P516_.out]
        have c60_ : w16_.cell? ⟨g612_, 0, none⟩ = some (.pointer none) := by rw [cell_of_row w16_ _ 0 _ _ (0, 0) P616_.out]; rfl
        have c61_ : w16_.cell? ⟨g612_, 1, none⟩ = some (.int .i64 0) := by rw [cell_of_row w16_ _ 1 _ _ (0, 0) P616_.out]; rfl
        have f6_ : ∀ o, w16_.frozen? ⟨g612_, o, none⟩ = false := fun o => by simp [World.frozen?, P616_.out]
        have GA_ : Hid (w0.grownBy ((w16_.setCell ⟨g515_, 0, none⟩ (.pointer (some r1_.a))).setCell ⟨g515_, 1, none⟩ (.int .i64 r1_.n)) (some m)) := grown_set (grown_set G16_.out _ (by rw [HS0.out]; exact N515_.out) _) _ (by rw [HS0.out]; exact N515_.out) _
        have GB_ : Hid (w0.grownBy ((((w16_.setCell ⟨g515_, 0, none⟩ (.pointer (some r1_.a))).setCell ⟨g515_, 1, none⟩ (.int .i64 r1_.n)).setCell ⟨g612_, 0, none⟩ (.pointer (some r16_.a))).setCell ⟨g612_, 1, none⟩ (.int .i64 r16_.n)) (some m)) := grown_set (grown_set GA_.out _ (by rw [HS0.out]; exact N612_.out) _) _ (by rw [HS0.out]; exact N612_.out) _
        have R5_ : Hid (((((w16_.setCell ⟨g515_, 0, none⟩ (.pointer (some r1_.a))).setCell ⟨g515_, 1, none⟩ (.int .i64 r1_.n)).setCell ⟨g612_, 0, none⟩ (.pointer (some r16_.a))).setCell ⟨g612_, 1, none⟩ (.int .i64 r16_.n)).heap[g515_]? = some (.cells #[.pointer (some r1_.a), .int .i64 r1_.n] 192 (0, 0))) := by rw [heap_setCell_other _ _ _ _ hne_, heap_setCell_other _ _ _ _ hne_]; exact two_setCell P516_.out
        have R6_ : Hid (((((w16_.setCell ⟨g515_, 0, none⟩ (.pointer (some r1_.a))).setCell ⟨g515_, 1, none⟩ (.int .i64 r1_.n)).setCell ⟨g612_, 0, none⟩ (.pointer (some r16_.a))).setCell ⟨g612_, 1, none⟩ (.int .i64 r16_.n)).heap[g612_]? = some (.cells #[.pointer (some r16_.a), .int .i64 r16_.n] 192 (0, 0))) := two_setCell (by rw [heap_setCell_other _ _ _ _ (Ne.symm hne_), heap_setCell_other _ _ _ _ (Ne.symm hne_)]; exact P616_.out)
        have RM_ : Hid (MapP ((((w16_.setCell ⟨g515_, 0, none⟩ (.pointer (some r1_.a))).setCell ⟨g515_, 1, none⟩ (.int .i64 r1_.n)).setCell ⟨g612_, 0, none⟩ (.pointer (some r16_.a))).setCell ⟨g612_, 1, none⟩ (.int .i64 r16_.n)) D m E16_) := M16_.out.kept (by have h5 := N515_.out; have h6 := N612_.out; rw [heap_setCell_other _ _ _ _ (by show m ≠ g612_; omega), heap_setCell_other _ _ _ _ (by show m ≠ g612_; omega), heap_setCell_other _ _ _ _ (by show m ≠ g515_; omega), heap_setCell_other _ _ _ _ (by show m ≠ g515_; omega)])
        refine wpAnyH_ready (rs := [10]) (by kernel_rfl) (by simp) ?_
        refine AllReadyH.cons rfl (fun K hK => ?_) AllReadyH.nil
        rw [if_pos (by kernel_rfl)]
        go_wp2_with fail
        refine hK.out _ _ GA_.out (fun _ => ?_)
        clear hK K
        refine wpAnyH_ready (rs := [11]) (by kernel_rfl) (by simp) ?_
        refine AllReadyH.cons rfl (fun K hK => ?_) AllReadyH.nil
        rw [if_pos (by kernel_rfl)]
        go_wp2_with fail
        refine hK.out _ _ GB_.out (fun _ => ?_)
        clear hK K
        refine wpAnyH_done (by kernel_rfl) ?_ _
        exact REST g515_ g612_ r1_ r16_ E1_ E16_ _ R5_ R6_ (HG0.out.trans GB_.out) RM_ U16_ L116_ L216_
  · skip
    rw [if_pos (by kernel_rfl)]
    go_wp2_with fail
    have G17_ : Hid (w0.grownBy (w0d.alloc (.cells #[.pointer none, .int .i64 0] 192)) (some m)) := G0_.out.trans (World.grownBy_alloc _ _ _)
    have M17_ : Hid (MapP (w0d.alloc (.cells #[.pointer none, .int .i64 0] 192)) D m E) := M0.out.kept ((World.grownBy_alloc w0d _ none).block m M0.out.lt (by simp))
    have P517_ := Hid.mk (MapKept.heap_alloc w0d (.cells #[.pointer none, .int .i64 0] 192)).1
    have N517_ : Hid (w.heap.size < w0d.heap.size) := by have := G0_.out.size; rw [HS0.out] at this; exact Nat.lt_of_succ_le this
    refine hK.out _ _ G17_.out (fun _ => ?_)
    clear hK K
    generalize w0d.alloc (.cells #[.pointer none, .int .i64 0] 192) = w17_ at *
    generalize w0d.heap.size = g517_ at *
    refine wpAnyH_ready (rs := [3, 9]) (by kernel_rfl) (by simp) ?_
    refine AllReadyH.cons rfl (fun K hK => ?_) (AllReadyH.cons rfl (fun K hK => ?_) (AllReadyH.nil))
    · skip
      rw [if_pos (by kernel_rfl)]
      go_wp2_with fail
      refine (standsX_any _ D m E b off n cap HN.out.1 (HDW.out _ (HG0.out.trans G17_.out)) HP.out.1 M17_.out HU.out).mono ?_
      rintro e w18_ ⟨r18_, E18_, rfl, hm_, hu_, hal_, hle_, hno_, hd_, hro_, hg_⟩
      have G18_ : Hid (w0.grownBy w18_ (some m)) := G17_.out.trans hg_
      have M18_ := Hid.mk hm_
      have U18_ := Hid.mk hu_
      have P518_ := Hid.mk ((hg_.block _ (Array.getElem?_eq_some_iff.1 P517_.out).1 (by intro e; have := N517_.out; simp at e; omega)).trans P517_.out)
      have L118_ : Hid (Alk E E18_ ∧ Leads E18_ ⟨⟨b, off, none⟩, n⟩ r18_ ∧ D r18_.a.block ∧ lk E18_ r18_ = none) := ⟨hal_, hle_, hd_, hno_⟩
      refine hK.out _ _ G18_.out (fun _ => ?_)
      clear hK K hm_ hu_ hal_ hle_ hno_ hd_ hro_ hg_
      refine wpAnyH_ready (rs := [7, 9]) (by kernel_rfl) (by simp) ?_
      refine AllReadyH.cons rfl (fun K hK => ?_) (AllReadyH.cons rfl (fun K hK => ?_) (AllReadyH.nil))
      · skip
        rw [if_pos (by kernel_rfl)]
        go_wp2_with fail
        refine (standsX_any _ D m E18_ b' off' n' cap' HN.out.2 (HDW.out _ (HG0.out.trans G18_.out)) HP.out.2 M18_.out U18_.out).mono ?_
        rintro e w19_ ⟨r19_, E19_, rfl, hm_, hu_, hal_, hle_, hno_, hd_, hro_, hg_⟩
        have G19_ : Hid (w0.grownBy w19_ (some m)) := G18_.out.trans hg_
        have M19_ := Hid.mk hm_
        have U19_ := Hid.mk hu_
        have P519_ := Hid.mk ((hg_.block _ (Array.getElem?_eq_some_iff.1 P518_.out).1 (by intro e; have := N517_.out; simp at e; omega)).trans P518_.out)
        have L219_ : Hid (Alk E18_ E19_ ∧ Leads E19_ ⟨⟨b', off', none⟩, n'⟩ r19_ ∧ D r19_.a.block ∧ lk E19_ r19_ = none) := ⟨hal_, hle_, hd_, hno_⟩
        have L119_ : Hid (Alk E E18_ ∧ Leads E18_ ⟨⟨b, off, none⟩, n⟩ r18_ ∧ D r18_.a.block ∧ lk E19_ r18_ = none) := ⟨L118_.out.1, L118_.out.2.1, L118_.out.2.2.1, hro_ _ L118_.out.2.2.2⟩
        refine hK.out _ _ G19_.out (fun _ => ?_)
        clear hK K hm_ hu_ hal_ hle_ hno_ hd_ hro_ hg_
        refine wpAnyH_ready (rs := [9]) (by kernel_rfl) (by simp) ?_
        refine AllReadyH.cons rfl (fun K hK => ?_) AllReadyH.nil
        rw [if_pos (by kernel_rfl)]
        go_wp2_with fail
        have G20_ : Hid (w0.grownBy (w19_.alloc (.cells #[.pointer none, .int .i64 0] 192)) (some m)) := G19_.out.trans (World.grownBy_alloc _ _ _)
        have M20_ : Hid (MapP (w19_.alloc (.cells #[.pointer none, .int .i64 0] 192)) D m E19_) := M19_.out.kept ((World.grownBy_alloc w19_ _ none).block m M19_.out.lt (by simp))
        have P520_ := Hid.mk (((World.grownBy_alloc w19_ (.cells #[.pointer none, .int .i64 0] 192) none).block _ (Array.getElem?_eq_some_iff.1 P519_.out).1 (by simp)).trans P519_.out)
        have Q_20 : Hid (g517_ ≠ w19_.heap.size) := Nat.ne_of_lt (Array.getElem?_eq_some_iff.1 P519_.out).1
        have P620_ := Hid.mk (MapKept.heap_alloc w19_ (.cells #[.pointer none, .int .i64 0] 192)).1
        have N620_ : Hid (w.heap.size < w19_.heap.size) := by have := G19_.out.size; rw [HS0.out] at this; exact Nat.lt_of_succ_le this
        refine hK.out _ _ G20_.out (fun _ => ?_)
        clear hK K
        generalize w19_.alloc (.cells #[.pointer none, .int .i64 0] 192) = w20_ at *
        generalize w19_.heap.size = g620_ at *
        have hne_ : g517_ ≠ g620_ := Q_20.out
        have c50_ : w20_.cell? ⟨g517_, 0, none⟩ = some (.pointer none) := by rw [cell_of_row w20_ _ 0 _ _ (0, 0) P520_.out]; rfl
        have c51_ : w20_.cell? ⟨g517_, 1, none⟩ = some (.int .i64 0) := by rw [cell_of_row w20_ _ 1 _ _ (0, 0) P520_.out]; rfl
        have f5_ : ∀ o, w20_.frozen? ⟨g517_, o, none⟩ = false := fun o => by simp [World.frozen?, P520_.out]
        have c60_ : w20_.cell? ⟨g620_, 0, none⟩ = some (.pointer none) := by rw [cell_of_row w20_ _ 0 _ _ (0, 0) P620_.out]; rfl
        have c61_ : w20_.cell? ⟨g620_, 1, none⟩ = some (.int .i64 0) := by rw [cell_of_row w20_ _ 1 _ _ (0, 0) P620_.out]; rfl
        have f6_ : ∀ o, w20_.frozen? ⟨g620_, o, none⟩ = false := fun o => by simp [World.frozen?, P620_.out]
        have GA_ : Hid (w0.grownBy ((w20_.setCell ⟨g517_, 0, none⟩ (.pointer (some r18_.a))).setCell ⟨g517_, 1, none⟩ (.int .i64 r18_.n)) (some m)) := grown_set (grown_set G20_.out _ (by rw [HS0.out]; exact N517_.out) _) _ (by rw [HS0.out]; exact N517_.out) _
        have GB_ : Hid (w0.grownBy ((((w20_.setCell ⟨g517_, 0, none⟩ (.pointer (some r18_.a))).setCell ⟨g517_, 1, none⟩ (.int .i64 r18_.n)).setCell ⟨g620_, 0, none⟩ (.pointer (some r19_.a))).setCell ⟨g620_, 1, none⟩ (.int .i64 r19_.n)) (some m)) := grown_set (grown_set GA_.out _ (by rw [HS0.out]; exact N620_.out) _) _ (by rw [HS0.out]; exact N620_.out) _
        have R5_ : Hid (((((w20_.setCell ⟨g517_, 0, none⟩ (.pointer (some r18_.a))).setCell ⟨g517_, 1, none⟩ (.int .i64 r18_.n)).setCell ⟨g620_, 0, none⟩ (.pointer (some r19_.a))).setCell ⟨g620_, 1, none⟩ (.int .i64 r19_.n)).heap[g517_]? = some (.cells #[.pointer (some r18_.a), .int .i64 r18_.n] 192 (0, 0))) := by rw [heap_setCell_other _ _ _ _ hne_, heap_setCell_other _ _ _ _ hne_]; exact two_setCell P520_.out
        have R6_ : Hid (((((w20_.setCell ⟨g517_, 0, none⟩ (.pointer (some r18_.a))).setCell ⟨g517_, 1, none⟩ (.int .i64 r18_.n)).setCell ⟨g620_, 0, none⟩ (.pointer (some r19_.a))).setCell ⟨g620_, 1, none⟩ (.int .i64 r19_.n)).heap[g620_]? = some (.cells #[.pointer (some r19_.a), .int .i64 r19_.n] 192 (0, 0))) := two_setCell (by rw [heap_setCell_other _ _ _ _ (Ne.symm hne_), heap_setCell_other _ _ _ _ (Ne.symm hne_)]; exact P620_.out)
        have RM_ : Hid (MapP ((((w20_.setCell ⟨g517_, 0, none⟩ (.pointer (some r18_.a))).setCell ⟨g517_, 1, none⟩ (.int .i64 r18_.n)).setCell ⟨g620_, 0, none⟩ (.pointer (some r19_.a))).setCell ⟨g620_, 1, none⟩ (.int .i64 r19_.n)) D m E19_) := M20_.out.kept (by have h5 := N517_.out; have h6 := N620_.out; rw [heap_setCell_other _ _ _ _ (by show m ≠ g620_; omega), heap_setCell_other _ _ _ _ (by show m ≠ g620_; omega), heap_setCell_other _ _ _ _ (by show m ≠ g517_; omega), heap_setCell_other _ _ _ _ (by show m ≠ g517_; omega)])
        refine wpAnyH_ready (rs := [10]) (by kernel_rfl) (by simp) ?_
        refine AllReadyH.cons rfl (fun K hK => ?_) AllReadyH.nil
        rw [if_pos (by kernel_rfl)]
        go_wp2_with fail
        refine hK.out _ _ GA_.out (fun _ => ?_)
        clear hK K
        refine wpAnyH_ready (rs := [11]) (by kernel_rfl) (by simp) ?_
        refine AllReadyH.cons rfl (fun K hK => ?_) AllReadyH.nil
        rw [if_pos (by kernel_rfl)]
        go_wp2_with fail
        refine hK.out _ _ GB_.out (fun _ => ?_)
        clear hK K
        refine wpAnyH_done (by kernel_rfl) ?_ _
        exact REST g517_ g620_ r18_ r19_ E18_ E19_ _ R5_ R6_ (HG0.out.trans GB_.out) RM_ U19_ L119_ L219_
      · skip
        rw [if_pos (by kernel_rfl)]
        go_wp2_with fail
        have G21_ : Hid (w0.grownBy (w18_.alloc (.cells #[.pointer none, .int .i64 0] 192)) (some m)) := G18_.out.trans (World.grownBy_alloc _ _ _)
        have M21_ : Hid (MapP (w18_.alloc (.cells #[.pointer none, .int .i64 0] 192)) D m E18_) := M18_.out.kept ((World.grownBy_alloc w18_ _ none).block m M18_.out.lt (by simp))
        have P521_ := Hid.mk (((World.grownBy_alloc w18_ (.cells #[.pointer none, .int .i64 0] 192) none).block _ (Array.getElem?_eq_some_iff.1 P518_.out).1 (by simp)).trans P518_.out)
        have Q_21 : Hid (g517_ ≠ w18_.heap.size) := Nat.ne_of_lt (Array.getElem?_eq_some_iff.1 P518_.out).1
        have P621_ := Hid.mk (MapKept.heap_alloc w18_ (.cells #[.pointer none, .int .i64 0] 192)).1
        have N621_ : Hid (w.heap.size < w18_.heap.size) := by have := G18_.out.size; rw [HS0.out] at this; exact Nat.lt_of_succ_le this
        refine hK.out _ _ G21_.out (fun _ => ?_)
        clear hK K
        generalize w18_.alloc (.cells #[.pointer none, .int .i64 0] 192) = w21_ at *
        generalize w18_.heap.size = g621_ at *
        refine wpAnyH_ready (rs := [7]) (by kernel_rfl) (by simp) ?_
        refine AllReadyH.cons rfl (fun K hK => ?_) AllReadyH.nil
        rw [if_pos (by kernel_rfl)]
        go_wp2_with fail
        refine (standsX_any _ D m E18_ b' off' n' cap' HN.out.2 (HDW.out _ (HG0.out.trans G21_.out)) HP.out.2 M21_.out U18_.out).mono ?_
        rintro e w22_ ⟨r22_, E22_, rfl, hm_, hu_, hal_, hle_, hno_, hd_, hro_, hg_⟩
        have G22_ : Hid (w0.grownBy w22_ (some m)) := G21_.out.trans hg_
        have M22_ := Hid.mk hm_
        have U22_ := Hid.mk hu_
        have P522_ := Hid.mk ((hg_.block _ (Array.getElem?_eq_some_iff.1 P521_.out).1 (by intro e; have := N517_.out; simp at e; omega)).trans P521_.out)
        have P622_ := Hid.mk ((hg_.block _ (Array.getElem?_eq_some_iff.1 P621_.out).1 (by intro e; have := N621_.out; simp at e; omega)).trans P621_.out)
        have L222_ : Hid (Alk E18_ E22_ ∧ Leads E22_ ⟨⟨b', off', none⟩, n'⟩ r22_ ∧ D r22_.a.block ∧ lk E22_ r22_ = none) := ⟨hal_, hle_, hd_, hno_⟩
        have L122_ : Hid (Alk E E18_ ∧ Leads E18_ ⟨⟨b, off, none⟩, n⟩ r18_ ∧ D r18_.a.block ∧ lk E22_ r18_ = none) := ⟨L118_.out.1, L118_.out.2.1, L118_.out.2.2.1, hro_ _ L118_.out.2.2.2⟩
        refine hK.out _ _ G22_.out (fun _ => ?_)
        clear hK K hm_ hu_ hal_ hle_ hno_ hd_ hro_ hg_
        have hne_ : g517_ ≠ g621_ := Q_21.out
        have c50_ : w22_.cell? ⟨g517_, 0, none⟩ = some (.pointer none) := by rw [cell_of_row w22_ _ 0 _ _ (0, 0) P522_.out]; rfl
        have c51_ : w22_.cell? ⟨g517_, 1, none⟩ = some (.int .i64 0) := by rw [cell_of_row w22_ _ 1 _ _ (0, 0) P522_.out]; rfl
        have f5_ : ∀ o, w22_.frozen? ⟨g517_, o, none⟩ = false := fun o => by simp [World.frozen?, P522_.out]
        have c60_ : w22_.cell? ⟨g621_, 0, none⟩ = some (.pointer none) := by rw [cell_of_row w22_ _ 0 _ _ (0, 0) P622_.out]; rfl
        have c61_ : w22_.cell? ⟨g621_, 1, none⟩ = some (.int .i64 0) := by rw [cell_of_row w22_ _ 1 _ _ (0, 0) P622_.out]; rfl
        have f6_ : ∀ o, w22_.frozen? ⟨g621_, o, none⟩ = false := fun o => by simp [World.frozen?, P622_.out]
        have GA_ : Hid (w0.grownBy ((w22_.setCell ⟨g517_, 0, none⟩ (.pointer (some r18_.a))).setCell ⟨g517_, 1, none⟩ (.int .i64 r18_.n)) (some m)) := grown_set (grown_set G22_.out _ (by rw [HS0.out]; exact N517_.out) _) _ (by rw [HS0.out]; exact N517_.out) _
        have GB_ : Hid (w0.grownBy ((((w22_.setCell ⟨g517_, 0, none⟩ (.pointer (some r18_.a))).setCell ⟨g517_, 1, none⟩ (.int .i64 r18_.n)).setCell ⟨g621_, 0, none⟩ (.pointer (some r22_.a))).setCell ⟨g621_, 1, none⟩ (.int .i64 r22_.n)) (some m)) := grown_set (grown_set GA_.out _ (by rw [HS0.out]; exact N621_.out) _) _ (by rw [HS0.out]; exact N621_.out) _
        have R5_ : Hid (((((w22_.setCell ⟨g517_, 0, none⟩ (.pointer (some r18_.a))).setCell ⟨g517_, 1, none⟩ (.int .i64 r18_.n)).setCell ⟨g621_, 0, none⟩ (.pointer (some r22_.a))).setCell ⟨g621_, 1, none⟩ (.int .i64 r22_.n)).heap[g517_]? = some (.cells #[.pointer (some r18_.a), .int .i64 r18_.n] 192 (0, 0))) := by rw [heap_setCell_other _ _ _ _ hne_, heap_setCell_other _ _ _ _ hne_]; exact two_setCell P522_.out
        have R6_ : Hid (((((w22_.setCell ⟨g517_, 0, none⟩ (.pointer (some r18_.a))).setCell ⟨g517_, 1, none⟩ (.int .i64 r18_.n)).setCell ⟨g621_, 0, none⟩ (.pointer (some r22_.a))).setCell ⟨g621_, 1, none⟩ (.int .i64 r22_.n)).heap[g621_]? = some (.cells #[.pointer (some r22_.a), .int .i64 r22_.n] 192 (0, 0))) := two_setCell (by rw [heap_setCell_other _ _ _ _ (Ne.symm hne_), heap_setCell_other _ _ _ _ (Ne.symm hne_)]; exact P622_.out)
        have RM_ : Hid (MapP ((((w22_.setCell ⟨g517_, 0, none⟩ (.pointer (some r18_.a))).setCell ⟨g517_, 1, none⟩ (.int .i64 r18_.n)).setCell ⟨g621_, 0, none⟩ (.pointer (some r22_.a))).setCell ⟨g621_, 1, none⟩ (.int .i64 r22_.n)) D m E22_) := M22_.out.kept (by have h5 := N517_.out; have h6 := N621_.out; rw [heap_setCell_other _ _ _ _ (by show m ≠ g621_; omega), heap_setCell_other _ _ _ _ (by show m ≠ g621_; omega), heap_setCell_other _ _ _ _ (by show m ≠ g517_; omega), heap_setCell_other _ _ _ _ (by show m ≠ g517_; omega)])
        refine wpAnyH_ready (rs := [10]) (by kernel_rfl) (by simp) ?_
        refine AllReadyH.cons rfl (fun K hK => ?_) AllReadyH.nil
        rw [if_pos (by kernel_rfl)]
        go_wp2_with fail
        refine hK.out _ _ GA_.out (fun _ => ?_)
        clear hK K
        refine wpAnyH_ready (rs := [11]) (by kernel_rfl) (by simp) ?_
        refine AllReadyH.cons rfl (fun K hK => ?_) AllReadyH.nil
        rw [if_pos (by kernel_rfl)]
        go_wp2_with fail
        refine hK.out _ _ GB_.out (fun _ => ?_)
        clear hK K
        refine wpAnyH_done (by kernel_rfl) ?_ _
        exact REST g517_ g621_ r18_ r22_ E18_ E22_ _ R5_ R6_ (HG0.out.trans GB_.out) RM_ U22_ L122_ L222_
    · skip
      rw [if_pos (by kernel_rfl)]
      go_wp2_with fail
      have G23_ : Hid (w0.grownBy (w17_.alloc (.cells #[.pointer none, .int .i64 0] 192)) (some m)) := G17_.out.trans (World.grownBy_alloc _ _ _)
      have M23_ : Hid (MapP (w17_.alloc (.cells #[.pointer none, .int .i64 0] 192)) D m E) := M17_.out.kept ((World.grownBy_alloc w17_ _ none).block m M17_.out.lt (by simp))
      have P523_ := Hid.mk (((World.grownBy_alloc w17_ (.cells #[.pointer none, .int .i64 0] 192) none).block _ (Array.getElem?_eq_some_iff.1 P517_.out).1 (by simp)).trans P517_.out)
      have Q_23 : Hid (g517_ ≠ w17_.heap.size) := Nat.ne_of_lt (Array.getElem?_eq_some_iff.1 P517_.out).1
      have P623_ := Hid.mk (MapKept.heap_alloc w17_ (.cells #[.pointer none, .int .i64 0] 192)).1
      have N623_ : Hid (w.heap.size < w17_.heap.size) := by have := G17_.out.size; rw [HS0.out] at this; exact Nat.lt_of_succ_le this
      refine hK.out _ _ G23_.out (fun _ => ?_)
      clear hK K
      generalize w17_.alloc (.cells #[.pointer none, .int .i64 0] 192) = w23_ at *
      generalize w17_.heap.size = g623_ at *
      refine wpAnyH_ready (rs := [3]) (by kernel_rfl) (by simp) ?_
      refine AllReadyH.cons rfl (fun K hK => ?_) AllReadyH.nil
      rw [if_pos (by kernel_rfl)]
      go_wp2_with fail
      refine (standsX_any _ D m E b off n cap HN.out.1 (HDW.out _ (HG0.out.trans G23_.out)) HP.out.1 M23_.out HU.out).mono ?_
      rintro e w24_ ⟨r24_, E24_, rfl, hm_, hu_, hal_, hle_, hno_, hd_, hro_, hg_⟩
      have G24_ : Hid (w0.grownBy w24_ (some m)) := G23_.out.trans hg_
      have M24_ := Hid.mk hm_
      have U24_ := Hid.mk hu_
      have P524_ := Hid.mk ((hg_.block _ (Array.getElem?_eq_some_iff.1 P523_.out).1 (by intro e; have := N517_.out; simp at e; omega)).trans P523_.out)
      have P624_ := Hid.mk ((hg_.block _ (Array.getElem?_eq_some_iff.1 P623_.out).1 (by intro e; have := N623_.out; simp at e; omega)).trans P623_.out)
      have L124_ : Hid (Alk E E24_ ∧ Leads E24_ ⟨⟨b, off, none⟩, n⟩ r24_ ∧ D r24_.a.block ∧ lk E24_ r24_ = none) := ⟨hal_, hle_, hd_, hno_⟩
      refine hK.out _ _ G24_.out (fun _ => ?_)
      clear hK K hm_ hu_ hal_ hle_ hno_ hd_ hro_ hg_
      refine wpAnyH_ready (rs := [7]) (by kernel_rfl) (by simp) ?_
      refine AllReadyH.cons rfl (fun K hK => ?_) AllReadyH.nil
      rw [if_pos (by kernel_rfl)]
      go_wp2_with fail
      refine (standsX_any _ D m E24_ b' off' n' cap' HN.out.2 (HDW.out _ (HG0.out.trans G24_.out)) HP.out.2 M24_.out U24_.out).mono ?_
      rintro e w25_ ⟨r25_, E25_, rfl, hm_, hu_, hal_, hle_, hno_, hd_, hro_, hg_⟩
      have G25_ : Hid (w0.grownBy w25_ (some m)) := G24_.out.trans hg_
      have M25_ := Hid.mk hm_
      have U25_ := Hid.mk hu_
      have P525_ := Hid.mk ((hg_.block _ (Array.getElem?_eq_some_iff.1 P524_.out).1 (by intro e; have := N517_.out; simp at e; omega)).trans P524_.out)
      have P625_ := Hid.mk ((hg_.block _ (Array.getElem?_eq_some_iff.1 P624_.out).1 (by intro e; have := N623_.out; simp at e; omega)).trans P624_.out)
      have L225_ : Hid (Alk E24_ E25_ ∧ Leads E25_ ⟨⟨b', off', none⟩, n'⟩ r25_ ∧ D r25_.a.block ∧ lk E25_ r25_ = none) := ⟨hal_, hle_, hd_, hno_⟩
      have L125_ : Hid (Alk E E24_ ∧ Leads E24_ ⟨⟨b, off, none⟩, n⟩ r24_ ∧ D r24_.a.block ∧ lk E25_ r24_ = none) := ⟨L124_.out.1, L124_.out.2.1, L124_.out.2.2.1, hro_ _ L124_.out.2.2.2⟩
      refine hK.out _ _ G25_.out (fun _ => ?_)
      clear hK K hm_ hu_ hal_ hle_ hno_ hd_ hro_ hg_
      have hne_ : g517_ ≠ g623_ := Q_23.out
      have c50_ : w25_.cell? ⟨g517_, 0, none⟩ = some (.pointer none) := by rw [cell_of_row w25_ _ 0 _ _ (0, 0) P525_.out]; rfl
      have c51_ : w25_.cell? ⟨g517_, 1, none⟩ = some (.int .i64 0) := by rw [cell_of_row w25_ _ 1 _ _ (0, 0) P525_.out]; rfl
      have f5_ : ∀ o, w25_.frozen? ⟨g517_, o, none⟩ = false := fun o => by simp [World.frozen?, P525_.out]
      have c60_ : w25_.cell? ⟨g623_, 0, none⟩ = some (.pointer none) := by rw [cell_of_row w25_ _ 0 _ _ (0, 0) P625_.out]; rfl
      have c61_ : w25_.cell? ⟨g623_, 1, none⟩ = some (.int .i64 0) := by rw [cell_of_row w25_ _ 1 _ _ (0, 0) P625_.out]; rfl
      have f6_ : ∀ o, w25_.frozen? ⟨g623_, o, none⟩ = false := fun o => by simp [World.frozen?, P625_.out]
      have GA_ : Hid (w0.grownBy ((w25_.setCell ⟨g517_, 0, none⟩ (.pointer (some r24_.a))).setCell ⟨g517_, 1, none⟩ (.int .i64 r24_.n)) (some m)) := grown_set (grown_set G25_.out _ (by rw [HS0.out]; exact N517_.out) _) _ (by rw [HS0.out]; exact N517_.out) _
      have GB_ : Hid (w0.grownBy ((((w25_.setCell ⟨g517_, 0, none⟩ (.pointer (some r24_.a))).setCell ⟨g517_, 1, none⟩ (.int .i64 r24_.n)).setCell ⟨g623_, 0, none⟩ (.pointer (some r25_.a))).setCell ⟨g623_, 1, none⟩ (.int .i64 r25_.n)) (some m)) := grown_set (grown_set GA_.out _ (by rw [HS0.out]; exact N623_.out) _) _ (by rw [HS0.out]; exact N623_.out) _
      have R5_ : Hid (((((w25_.setCell ⟨g517_, 0, none⟩ (.pointer (some r24_.a))).setCell ⟨g517_, 1, none⟩ (.int .i64 r24_.n)).setCell ⟨g623_, 0, none⟩ (.pointer (some r25_.a))).setCell ⟨g623_, 1, none⟩ (.int .i64 r25_.n)).heap[g517_]? = some (.cells #[.pointer (some r24_.a), .int .i64 r24_.n] 192 (0, 0))) := by rw [heap_setCell_other _ _ _ _ hne_, heap_setCell_other _ _ _ _ hne_]; exact two_setCell P525_.out
      have R6_ : Hid (((((w25_.setCell ⟨g517_, 0, none⟩ (.pointer (some r24_.a))).setCell ⟨g517_, 1, none⟩ (.int .i64 r24_.n)).setCell ⟨g623_, 0, none⟩ (.pointer (some r25_.a))).setCell ⟨g623_, 1, none⟩ (.int .i64 r25_.n)).heap[g623_]? = some (.cells #[.pointer (some r25_.a), .int .i64 r25_.n] 192 (0, 0))) := two_setCell (by rw [heap_setCell_other _ _ _ _ (Ne.symm hne_), heap_setCell_other _ _ _ _ (Ne.symm hne_)]; exact P625_.out)
      have RM_ : Hid (MapP ((((w25_.setCell ⟨g517_, 0, none⟩ (.pointer (some r24_.a))).setCell ⟨g517_, 1, none⟩ (.int .i64 r24_.n)).setCell ⟨g623_, 0, none⟩ (.pointer (some r25_.a))).setCell ⟨g623_, 1, none⟩ (.int .i64 r25_.n)) D m E25_) := M25_.out.kept (by have h5 := N517_.out; have h6 := N623_.out; rw [heap_setCell_other _ _ _ _ (by show m ≠ g623_; omega), heap_setCell_other _ _ _ _ (by show m ≠ g623_; omega), heap_setCell_other _ _ _ _ (by show m ≠ g517_; omega), heap_setCell_other _ _ _ _ (by show m ≠ g517_; omega)])
      refine wpAnyH_ready (rs := [10]) (by kernel_rfl) (by simp) ?_
      refine AllReadyH.cons rfl (fun K hK => ?_) AllReadyH.nil
      rw [if_pos (by kernel_rfl)]
      go_wp2_with fail
      refine hK.out _ _ GA_.out (fun _ => ?_)
      clear hK K
      refine wpAnyH_ready (rs := [11]) (by kernel_rfl) (by simp) ?_
      refine AllReadyH.cons rfl (fun K hK => ?_) AllReadyH.nil
      rw [if_pos (by kernel_rfl)]
      go_wp2_with fail
      refine hK.out _ _ GB_.out (fun _ => ?_)
      clear hK K
      refine wpAnyH_done (by kernel_rfl) ?_ _
      exact REST g517_ g623_ r24_ r25_ E24_ E25_ _ R5_ R6_ (HG0.out.trans GB_.out) RM_ U25_ L125_ L225_
  · skip
    rw [if_pos (by kernel_rfl)]
    go_wp2_with fail
    have G26_ : Hid (w0.grownBy (w0d.alloc (.cells #[.pointer none, .int .i64 0] 192)) (some m)) := G0_.out.trans (World.grownBy_alloc _ _ _)
    have M26_ : Hid (MapP (w0d.alloc (.cells #[.pointer none, .int .i64 0] 192)) D m E) := M0.out.kept ((World.grownBy_alloc w0d _ none).block m M0.out.lt (by simp))
    have P626_ := Hid.mk (MapKept.heap_alloc w0d (.cells #[.pointer none, .int .i64 0] 192)).1
    have N626_ : Hid (w.heap.size < w0d.heap.size) := by have := G0_.out.size; rw [HS0.out] at this; exact Nat.lt_of_succ_le this
    refine hK.out _ _ G26_.out (fun _ => ?_)
    clear hK K
    generalize w0d.alloc (.cells #[.pointer none, .int .i64 0] 192) = w26_ at *
    generalize w0d.heap.size = g626_ at *
    refine wpAnyH_ready (rs := [3, 8]) (by kernel_rfl) (by simp) ?_
    refine AllReadyH.cons rfl (fun K hK => ?_) (AllReadyH.cons rfl (fun K hK => ?_) (AllReadyH.nil))
    · skip
      rw [if_pos (by kernel_rfl)]
      go_wp2_with fail
      refine (standsX_any _ D m E b off n cap HN.out.1 (HDW.out _ (HG0.out.trans G26_.out)) HP.out.1 M26_.out HU.out).mono ?_
      rintro e w27_ ⟨r27_, E27_, rfl, hm_, hu_, hal_, hle_, hno_, hd_, hro_, hg_⟩
      have G27_ : Hid (w0.grownBy w27_ (some m)) := G26_.out.trans hg_
      have M27_ := Hid.mk hm_
      have U27_ := Hid.mk hu_
      have P627_ := Hid.mk ((hg_.block _ (Array.getElem?_eq_some_iff.1 P626_.out).1 (by intro e; have := N626_.out; simp at e; omega)).trans P626_.out)
      have L127_ : Hid (Alk E E27_ ∧ Leads E27_ ⟨⟨b, off, none⟩, n⟩ r27_ ∧ D r27_.a.block ∧ lk E27_ r27_ = none) := ⟨hal_, hle_, hd_, hno_⟩
      refine hK.out _ _ G27_.out (fun _ => ?_)
      clear hK K hm_ hu_ hal_ hle_ hno_ hd_ hro_ hg_
      refine wpAnyH_ready (rs := [7, 8]) (by kernel_rfl) (by simp) ?_
      refine AllReadyH.cons rfl (fun K hK => ?_) (AllReadyH.cons rfl (fun K hK => ?_) (AllReadyH.nil))
      · skip
        rw [if_pos (by kernel_rfl)]
        go_wp2_with fail
        refine (standsX_any _ D m E27_ b' off' n' cap' HN.out.2 (HDW.out _ (HG0.out.trans G27_.out)) HP.out.2 M27_.out U27_.out).mono ?_
        rintro e w28_ ⟨r28_, E28_, rfl, hm_, hu_, hal_, hle_, hno_, hd_, hro_, hg_⟩
        have G28_ : Hid (w0.grownBy w28_ (some m)) := G27_.out.trans hg_
        have M28_ := Hid.mk hm_
        have U28_ := Hid.mk hu_
        have P628_ := Hid.mk ((hg_.block _ (Array.getElem?_eq_some_iff.1 P627_.out).1 (by intro e; have := N626_.out; simp at e; omega)).trans P627_.out)
        have L228_ : Hid (Alk E27_ E28_ ∧ Leads E28_ ⟨⟨b', off', none⟩, n'⟩ r28_ ∧ D r28_.a.block ∧ lk E28_ r28_ = none) := ⟨hal_, hle_, hd_, hno_⟩
        have L128_ : Hid (Alk E E27_ ∧ Leads E27_ ⟨⟨b, off, none⟩, n⟩ r27_ ∧ D r27_.a.block ∧ lk E28_ r27_ = none) := ⟨L127_.out.1, L127_.out.2.1, L127_.out.2.2.1, hro_ _ L127_.out.2.2.2⟩
        refine hK.out _ _ G28_.out (fun _ => ?_)
        clear hK K hm_ hu_ hal_ hle_ hno_ hd_ hro_ hg_
        refine wpAnyH_ready (rs := [8]) (by kernel_rfl) (by simp) ?_
        refine AllReadyH.cons rfl (fun K hK => ?_) AllReadyH.nil
        rw [if_pos (by kernel_rfl)]
        go_wp2_with fail
        have G29_ : Hid (w0.grownBy (w28_.alloc (.cells #[.pointer none, .int .i64 0] 192)) (some m)) := G28_.out.trans (World.grownBy_alloc _ _ _)
        have M29_ : Hid (MapP (w28_.alloc (.cells #[.pointer none, .int .i64 0] 192)) D m E28_) := M28_.out.kept ((World.grownBy_alloc w28_ _ none).block m M28_.out.lt (by simp))
        have P629_ := Hid.mk (((World.grownBy_alloc w28_ (.cells #[.pointer none, .int .i64 0] 192) none).block _ (Array.getElem?_eq_some_iff.1 P628_.out).1 (by simp)).trans P628_.out)
        have Q_29 : Hid (g626_ ≠ w28_.heap.size) := Nat.ne_of_lt (Array.getElem?_eq_some_iff.1 P628_.out).1
        have P529_ := Hid.mk (MapKept.heap_alloc w28_ (.cells #[.pointer none, .int .i64 0] 192)).1
        have N529_ : Hid (w.heap.size < w28_.heap.size) := by have := G28_.out.size; rw [HS0.out] at this; exact Nat.lt_of_succ_le this
        refine hK.out _ _ G29_.out (fun _ => ?_)
        clear hK K
        generalize w28_.alloc (.cells #[.pointer none, .int .i64 0] 192) = w29_ at *
        generalize w28_.heap.size = g529_ at *
        have hne_ : g529_ ≠ g626_ := (Ne.symm Q_29.out)
        have c50_ : w29_.cell? ⟨g529_, 0, none⟩ = some (.pointer none) := by rw [cell_of_row w29_ _ 0 _ _ (0, 0) P529_.out]; rfl
        have c51_ : w29_.cell? ⟨g529_, 1, none⟩ = some (.int .i64 0) := by rw [cell_of_row w29_ _ 1 _ _ (0, 0) P529_.out]; rfl
        have f5_ : ∀ o, w29_.frozen? ⟨g529_, o, none⟩ = false := fun o => by simp [World.frozen?, P529_.out]
        have c60_ : w29_.cell? ⟨g626_, 0, none⟩ = some (.pointer none) := by rw [cell_of_row w29_ _ 0 _ _ (0, 0) P629_.out]; rfl
        have c61_ : w29_.cell? ⟨g626_, 1, none⟩ = some (.int .i64 0) := by rw [cell_of_row w29_ _ 1 _ _ (0, 0) P629_.out]; rfl
        have f6_ : ∀ o, w29_.frozen? ⟨g626_, o, none⟩ = false := fun o => by simp [World.frozen?, P629_.out]
        have GA_ : Hid (w0.grownBy ((w29_.setCell ⟨g529_, 0, none⟩ (.pointer (some r27_.a))).setCell ⟨g529_, 1, none⟩ (.int .i64 r27_.n)) (some m)) := grown_set (grown_set G29_.out _ (by rw [HS0.out]; exact N529_.out) _) _ (by rw [HS0.out]; exact N529_.out) _
        have GB_ : Hid (w0.grownBy ((((w29_.setCell ⟨g529_, 0, none⟩ (.pointer (some r27_.a))).setCell ⟨g529_, 1, none⟩ (.int .i64 r27_.n)).setCell ⟨g626_, 0, none⟩ (.pointer (some r28_.a))).setCell ⟨g626_, 1, none⟩ (.int .i64 r28_.n)) (some m)) := grown_set (grown_set GA_.out _ (by rw [HS0.out]; exact N626_.out) _) _ (by rw [HS0.out]; exact N626_.out) _
        have R5_ : Hid (((((w29_.setCell ⟨g529_, 0, none⟩ (.pointer (some r27_.a))).setCell ⟨g529_, 1, none⟩ (.int .i64 r27_.n)).setCell ⟨g626_, 0, none⟩ (.pointer (some r28_.a))).setCell ⟨g626_, 1, none⟩ (.int .i64 r28_.n)).heap[g529_]? = some (.cells #[.pointer (some r27_.a), .int .i64 r27_.n] 192 (0, 0))) := by rw [heap_setCell_other _ _ _ _ hne_, heap_setCell_other _ _ _ _ hne_]; exact two_setCell P529_.out
        have R6_ : Hid (((((w29_.setCell ⟨g529_, 0, none⟩ (.pointer (some r27_.a))).setCell ⟨g529_, 1, none⟩ (.int .i64 r27_.n)).setCell ⟨g626_, 0, none⟩ (.pointer (some r28_.a))).setCell ⟨g626_, 1, none⟩ (.int .i64 r28_.n)).heap[g626_]? = some (.cells #[.pointer (some r28_.a), .int .i64 r28_.n] 192 (0, 0))) := two_setCell (by rw [heap_setCell_other _ _ _ _ (Ne.symm hne_), heap_setCell_other _ _ _ _ (Ne.symm hne_)]; exact P629_.out)
        have RM_ : Hid (MapP ((((w29_.setCell ⟨g529_, 0, none⟩ (.pointer (some r27_.a))).setCell ⟨g529_, 1, none⟩ (.int .i64 r27_.n)).setCell ⟨g626_, 0, none⟩ (.pointer (some r28_.a))).setCell ⟨g626_, 1, none⟩ (.int .i64 r28_.n)) D m E28_) := M29_.out.kept (by have h5 := N529_.out; have h6 := N626_.out; rw [heap_setCell_other _ _ _ _ (by show m ≠ g626_; omega), heap_setCell_other _ _ _ _ (by show m ≠ g626_; omega), heap_setCell_other _ _ _ _ (by show m ≠ g529_; omega), heap_setCell_other _ _ _ _ (by show m ≠ g529_; omega)])
        refine wpAnyH_ready (rs := [10]) (by kernel_rfl) (by simp) ?_
        refine AllReadyH.cons rfl (fun K hK => ?_) AllReadyH.nil
        rw [if_pos (by kernel_rfl)]
        go_wp2_with fail
        refine hK.out _ _ GA_.out (fun _ => ?_)
        clear hK K
        refine wpAnyH_ready (rs := [11]) (by kernel_rfl) (by simp) ?_
        refine AllReadyH.cons rfl (fun K hK => ?_) AllReadyH.nil
        rw [if_pos (by kernel_rfl)]
        go_wp2_with fail
        refine hK.out _ _ GB_.out (fun _ => ?_)
        clear hK K
        refine wpAnyH_done (by kernel_rfl) ?_ _
        exact REST g529_ g626_ r27_ r28_ E27_ E28_ _ R5_ R6_ (HG0.out.trans GB_.out) RM_ U28_ L128_ L228_
      · skip
        rw [if_pos (by kernel_rfl)]
        go_wp2_with fail
        have G30_ : Hid (w0.grownBy (w27_.alloc (.cells #[.pointer none, .int .i64 0] 192)) (some m)) := G27_.out.trans (World.grownBy_alloc _ _ _)
        have M30_ : Hid (MapP (w27_.alloc (.cells #[.pointer none, .int .i64 0] 192)) D m E27_) := M27_.out.kept ((World.grownBy_alloc w27_ _ none).block m M27_.out.lt (by simp))
        have P630_ := Hid.mk (((World.grownBy_alloc w27_ (.cells #[.pointer none, .int .i64 0] 192) none).block _ (Array.getElem?_eq_some_iff.1 P627_.out).1 (by simp)).trans P627_.out)
        have Q_30 : Hid (g626_ ≠ w27_.heap.size) := Nat.ne_of_lt (Array.getElem?_eq_some_iff.1 P627_.out).1
        have P530_ := Hid.mk (MapKept.heap_alloc w27_ (.cells #[.pointer none, .int .i64 0] 192)).1
        have N530_ : Hid (w.heap.size < w27_.heap.size) := by have := G27_.out.size; rw [HS0.out] at this; exact Nat.lt_of_succ_le this
        refine hK.out _ _ G30_.out (fun _ => ?_)
        clear hK K
        generalize w27_.alloc (.cells #[.pointer none, .int .i64 0] 192) = w30_ at *
        generalize w27_.heap.size = g530_ at *
        refine wpAnyH_ready (rs := [7]) (by kernel_rfl) (by simp) ?_
        refine AllReadyH.cons rfl (fun K hK => ?_) AllReadyH.nil
        rw [if_pos (by kernel_rfl)]
        go_wp2_with fail
        refine (standsX_any _ D m E27_ b' off' n' cap' HN.out.2 (HDW.out _ (HG0.out.trans G30_.out)) HP.out.2 M30_.out U27_.out).mono ?_
        rintro e w31_ ⟨r31_, E31_, rfl, hm_, hu_, hal_, hle_, hno_, hd_, hro_, hg_⟩
        have G31_ : Hid (w0.grownBy w31_ (some m)) := G30_.out.trans hg_
        have M31_ := Hid.mk hm_
        have U31_ := Hid.mk hu_
        have P531_ := Hid.mk ((hg_.block _ (Array.getElem?_eq_some_iff.1 P530_.out).1 (by intro e; have := N530_.out; simp at e; omega)).trans P530_.out)
        have P631_ := Hid.mk ((hg_.block _ (Array.getElem?_eq_some_iff.1 P630_.out).1 (by intro e; have := N626_.out; simp at e; omega)).trans P630_.out)
        have L231_ : Hid (Alk E27_ E31_ ∧ Leads E31_ ⟨⟨b', off', none⟩, n'⟩ r31_ ∧ D r31_.a.block ∧ lk E31_ r31_ = none) := ⟨hal_, hle_, hd_, hno_⟩
        have L131_ : Hid (Alk E E27_ ∧ Leads E27_ ⟨⟨b, off, none⟩, n⟩ r27_ ∧ D r27_.a.block ∧ lk E31_ r27_ = none) := ⟨L127_.out.1, L127_.out.2.1, L127_.out.2.2.1, hro_ _ L127_.out.2.2.2⟩
        refine hK.out _ _ G31_.out (fun _ => ?_)
        clear hK K hm_ hu_ hal_ hle_ hno_ hd_ hro_ hg_
        have hne_ : g530_ ≠ g626_ := (Ne.symm Q_30.out)
        have c50_ : w31_.cell? ⟨g530_, 0, none⟩ = some (.pointer none) := by rw [cell_of_row w31_ _ 0 _ _ (0, 0) P531_.out]; rfl
        have c51_ : w31_.cell? ⟨g530_, 1, none⟩ = some (.int .i64 0) := by rw [cell_of_row w31_ _ 1 _ _ (0, 0) P531_.out]; rfl
        have f5_ : ∀ o, w31_.frozen? ⟨g530_, o, none⟩ = false := fun o => by simp [World.frozen?, P531_.out]
        have c60_ : w31_.cell? ⟨g626_, 0, none⟩ = some (.pointer none) := by rw [cell_of_row w31_ _ 0 _ _ (0, 0) P631_.out]; rfl
        have c61_ : w31_.cell? ⟨g626_, 1, none⟩ = some (.int .i64 0) := by rw [cell_of_row w31_ _ 1 _ _ (0, 0) P631_.out]; rfl
        have f6_ : ∀ o, w31_.frozen? ⟨g626_, o, none⟩ = false := fun o => by simp [World.frozen?, P631_.out]
        have GA_ : Hid (w0.grownBy ((w31_.setCell ⟨g530_, 0, none⟩ (.pointer (some r27_.a))).setCell ⟨g530_, 1, none⟩ (.int .i64 r27_.n)) (some m)) := grown_set (grown_set G31_.out _ (by rw [HS0.out]; exact N530_.out) _) _ (by rw [HS0.out]; exact N530_.out) _
        have GB_ : Hid (w0.grownBy ((((w31_.setCell ⟨g530_, 0, none⟩ (.pointer (some r27_.a))).setCell ⟨g530_, 1, none⟩ (.int .i64 r27_.n)).setCell ⟨g626_, 0, none⟩ (.pointer (some r31_.a))).setCell ⟨g626_, 1, none⟩ (.int .i64 r31_.n)) (some m)) := grown_set (grown_set GA_.out _ (by rw [HS0.out]; exact N626_.out) _) _ (by rw [HS0.out]; exact N626_.out) _
        have R5_ : Hid (((((w31_.setCell ⟨g530_, 0, none⟩ (.pointer (some r27_.a))).setCell ⟨g530_, 1, none⟩ (.int .i64 r27_.n)).setCell ⟨g626_, 0, none⟩ (.pointer (some r31_.a))).setCell ⟨g626_, 1, none⟩ (.int .i64 r31_.n)).heap[g530_]? = some (.cells #[.pointer (some r27_.a), .int .i64 r27_.n] 192 (0, 0))) := by rw [heap_setCell_other _ _ _ _ hne_, heap_setCell_other _ _ _ _ hne_]; exact two_setCell P531_.out
        have R6_ : Hid (((((w31_.setCell ⟨g530_, 0, none⟩ (.pointer (some r27_.a))).setCell ⟨g530_, 1, none⟩ (.int .i64 r27_.n)).setCell ⟨g626_, 0, none⟩ (.pointer (some r31_.a))).setCell ⟨g626_, 1, none⟩ (.int .i64 r31_.n)).heap[g626_]? = some (.cells #[.pointer (some r31_.a), .int .i64 r31_.n] 192 (0, 0))) := two_setCell (by rw [heap_setCell_other _ _ _ _ (Ne.symm hne_), heap_setCell_other _ _ _ _ (Ne.symm hne_)]; exact P631_.out)
        have RM_ : Hid (MapP ((((w31_.setCell ⟨g530_, 0, none⟩ (.pointer (some r27_.a))).setCell ⟨g530_, 1, none⟩ (.int .i64 r27_.n)).setCell ⟨g626_, 0, none⟩ (.pointer (some r31_.a))).setCell ⟨g626_, 1, none⟩ (.int .i64 r31_.n)) D m E31_) := M31_.out.kept (by have h5 := N530_.out; have h6 := N626_.out; rw [heap_setCell_other _ _ _ _ (by show m ≠ g626_; omega), heap_setCell_other _ _ _ _ (by show m ≠ g626_; omega), heap_setCell_other _ _ _ _ (by show m ≠ g530_; omega), heap_setCell_other _ _ _ _ (by show m ≠ g530_; omega)])
        refine wpAnyH_ready (rs := [10]) (by kernel_rfl) (by simp) ?_
        refine AllReadyH.cons rfl (fun K hK => ?_) AllReadyH.nil
        rw [if_pos (by kernel_rfl)]
        go_wp2_with fail
        refine hK.out _ _ GA_.out (fun _ => ?_)
        clear hK K
        refine wpAnyH_ready (rs := [11]) (by kernel_rfl) (by simp) ?_
        refine AllReadyH.cons rfl (fun K hK => ?_) AllReadyH.nil
        rw [if_pos (by kernel_rfl)]
        go_wp2_with fail
        refine hK.out _ _ GB_.out (fun _ => ?_)
        clear hK K
        refine wpAnyH_done (by kernel_rfl) ?_ _
        exact REST g530_ g626_ r27_ r31_ E27_ E31_ _ R5_ R6_ (HG0.out.trans GB_.out) RM_ U31_ L131_ L231_
    · skip
      rw [if_pos (by kernel_rfl)]
      go_wp2_with fail
      have G32_ : Hid (w0.grownBy (w26_.alloc (.cells #[.pointer none, .int .i64 0] 192)) (some m)) := G26_.out.trans (World.grownBy_alloc _ _ _)
      have M32_ : Hid (MapP (w26_.alloc (.cells #[.pointer none, .int .i64 0] 192)) D m E) := M26_.out.kept ((World.grownBy_alloc w26_ _ none).block m M26_.out.lt (by simp))
      have P632_ := Hid.mk (((World.grownBy_alloc w26_ (.cells #[.pointer none, .int .i64 0] 192) none).block _ (Array.getElem?_eq_some_iff.1 P626_.out).1 (by simp)).trans P626_.out)
      have Q_32 : Hid (g626_ ≠ w26_.heap.size) := Nat.ne_of_lt (Array.getElem?_eq_some_iff.1 P626_.out).1
      have P532_ := Hid.mk (MapKept.heap_alloc w26_ (.cells #[.pointer none, .int .i64 0] 192)).1
      have N532_ : Hid (w.heap.size < w26_.heap.size) := by have := G26_.out.size; rw [HS0.out] at this; exact Nat.lt_of_succ_le this
      refine hK.out _ _ G32_.out (fun _ => ?_)
      clear hK K
      generalize w26_.alloc (.cells #[.pointer none, .int .i64 0] 192) = w32_ at *
      generalize w26_.heap.size = g532_ at *
      refine wpAnyH_ready (rs := [3]) (by kernel_rfl) (by simp) ?_
      refine AllReadyH.cons rfl (fun K hK => ?_) AllReadyH.nil
      rw [if_pos (by kernel_rfl)]
      go_wp2_with fail
      refine (standsX_any _ D m E b off n cap HN.out.1 (HDW.out _ (HG0.out.trans G32_.out)) HP.out.1 M32_.out HU.out).mono ?_
      rintro e w33_ ⟨r33_, E33_, rfl, hm_, hu_, hal_, hle_, hno_, hd_, hro_, hg_⟩
      have G33_ : Hid (w0.grownBy w33_ (some m)) := G32_.out.trans hg_
      have M33_ := Hid.mk hm_
      have U33_ := Hid.mk hu_
      have P533_ := Hid.mk ((hg_.block _ (Array.getElem?_eq_some_iff.1 P532_.out).1 (by intro e; have := N532_.out; simp at e; omega)).trans P532_.out)
      have P633_ := Hid.mk ((hg_.block _ (Array.getElem?_eq_some_iff.1 P632_.out).1 (by intro e; have := N626_.out; simp at e; omega)).trans P632_.out)
      have L133_ : Hid (Alk E E33_ ∧ Leads E33_ ⟨⟨b, off, none⟩, n⟩ r33_ ∧ D r33_.a.block ∧ lk E33_ r33_ = none) := ⟨hal_, hle_, hd_, hno_⟩
      refine hK.out _ _ G33_.out (fun _ => ?_)
      clear hK K hm_ hu_ hal_ hle_ hno_ hd_ hro_ hg_
      refine wpAnyH_ready (rs := [7]) (by kernel_rfl) (by simp) ?_
      refine AllReadyH.cons rfl (fun K hK => ?_) AllReadyH.nil
      rw [if_pos (by kernel_rfl)]
      go_wp2_with fail
      refine (standsX_any _ D m E33_ b' off' n' cap' HN.out.2 (HDW.out _ (HG0.out.trans G33_.out)) HP.out.2 M33_.out U33_.out).mono ?_
      rintro e w34_ ⟨r34_, E34_, rfl, hm_, hu_, hal_, hle_, hno_, hd_, hro_, hg_⟩
      have G34_ : Hid (w0.grownBy w34_ (some m)) := G33_.out.trans hg_
      have M34_ := Hid.mk hm_
      have U34_ := Hid.mk hu_
      have P534_ := Hid.mk ((hg_.block _ (Array.getElem?_eq_some_iff.1 P533_.out).1 (by intro e; have := N532_.out; simp at e; omega)).trans P533_.out)
      have P634_ := Hid.mk ((hg_.block _ (Array.getElem?_eq_some_iff.1 P633_.out).1 (by intro e; have := N626_.out; simp at e; omega)).trans P633_.out)
      have L234_ : Hid (Alk E33_ E34_ ∧ Leads E34_ ⟨⟨b', off', none⟩, n'⟩ r34_ ∧ D r34_.a.block ∧ lk E34_ r34_ = none) := ⟨hal_, hle_, hd_, hno_⟩
      have L134_ : Hid (Alk E E33_ ∧ Leads E33_ ⟨⟨b, off, none⟩, n⟩ r33_ ∧ D r33_.a.block ∧ lk E34_ r33_ = none) := ⟨L133_.out.1, L133_.out.2.1, L133_.out.2.2.1, hro_ _ L133_.out.2.2.2⟩
      refine hK.out _ _ G34_.out (fun _ => ?_)
      clear hK K hm_ hu_ hal_ hle_ hno_ hd_ hro_ hg_
      have hne_ : g532_ ≠ g626_ := (Ne.symm Q_32.out)
      have c50_ : w34_.cell? ⟨g532_, 0, none⟩ = some (.pointer none) := by rw [cell_of_row w34_ _ 0 _ _ (0, 0) P534_.out]; rfl
      have c51_ : w34_.cell? ⟨g532_, 1, none⟩ = some (.int .i64 0) := by rw [cell_of_row w34_ _ 1 _ _ (0, 0) P534_.out]; rfl
      have f5_ : ∀ o, w34_.frozen? ⟨g532_, o, none⟩ = false := fun o => by simp [World.frozen?, P534_.out]
      have c60_ : w34_.cell? ⟨g626_, 0, none⟩ = some (.pointer none) := by rw [cell_of_row w34_ _ 0 _ _ (0, 0) P634_.out]; rfl
      have c61_ : w34_.cell? ⟨g626_, 1, none⟩ = some (.int .i64 0) := by rw [cell_of_row w34_ _ 1 _ _ (0, 0) P634_.out]; rfl
      have f6_ : ∀ o, w34_.frozen? ⟨g626_, o, none⟩ = false := fun o => by simp [World.frozen?, P634_.out]
      have GA_ : Hid (w0.grownBy ((w34_.setCell ⟨g532_, 0, none⟩ (.pointer (some r33_.a))).setCell ⟨g532_, 1, none⟩ (.int .i64 r33_.n)) (some m)) := grown_set (grown_set G34_.out _ (by rw [HS0.out]; exact N532_.out) _) _ (by rw [HS0.out]; exact N532_.out) _
      have GB_ : Hid (w0.grownBy ((((w34_.setCell ⟨g532_, 0, none⟩ (.pointer (some r33_.a))).setCell ⟨g532_, 1, none⟩ (.int .i64 r33_.n)).setCell ⟨g626_, 0, none⟩ (.pointer (some r34_.a))).setCell ⟨g626_, 1, none⟩ (.int .i64 r34_.n)) (some m)) := grown_set (grown_set GA_.out _ (by rw [HS0.out]; exact N626_.out) _) _ (by rw [HS0.out]; exact N626_.out) _
      have R5_ : Hid (((((w34_.setCell ⟨g532_, 0, none⟩ (.pointer (some r33_.a))).setCell ⟨g532_, 1, none⟩ (.int .i64 r33_.n)).setCell ⟨g626_, 0, none⟩ (.pointer (some r34_.a))).setCell ⟨g626_, 1, none⟩ (.int .i64 r34_.n)).heap[g532_]? = some (.cells #[.pointer (some r33_.a), .int .i64 r33_.n] 192 (0, 0))) := by rw [heap_setCell_other _ _ _ _ hne_, heap_setCell_other _ _ _ _ hne_]; exact two_setCell P534_.out
      have R6_ : Hid (((((w34_.setCell ⟨g532_, 0, none⟩ (.pointer (some r33_.a))).setCell ⟨g532_, 1, none⟩ (.int .i64 r33_.n)).setCell ⟨g626_, 0, none⟩ (.pointer (some r34_.a))).setCell ⟨g626_, 1, none⟩ (.int .i64 r34_.n)).heap[g626_]? = some (.cells #[.pointer (some r34_.a), .int .i64 r34_.n] 192 (0, 0))) := two_setCell (by rw [heap_setCell_other _ _ _ _ (Ne.symm hne_), heap_setCell_other _ _ _ _ (Ne.symm hne_)]; exact P634_.out)
      have RM_ : Hid (MapP ((((w34_.setCell ⟨g532_, 0, none⟩ (.pointer (some r33_.a))).setCell ⟨g532_, 1, none⟩ (.int .i64 r33_.n)).setCell ⟨g626_, 0, none⟩ (.pointer (some r34_.a))).setCell ⟨g626_, 1, none⟩ (.int .i64 r34_.n)) D m E34_) := M34_.out.kept (by have h5 := N532_.out; have h6 := N626_.out; rw [heap_setCell_other _ _ _ _ (by show m ≠ g626_; omega), heap_setCell_other _ _ _ _ (by show m ≠ g626_; omega), heap_setCell_other _ _ _ _ (by show m ≠ g532_; omega), heap_setCell_other _ _ _ _ (by show m ≠ g532_; omega)])
      refine wpAnyH_ready (rs := [10]) (by kernel_rfl) (by simp) ?_
      refine AllReadyH.cons rfl (fun K hK => ?_) AllReadyH.nil
      rw [if_pos (by kernel_rfl)]
      go_wp2_with fail
      refine hK.out _ _ GA_.out (fun _ => ?_)
      clear hK K
      refine wpAnyH_ready (rs := [11]) (by kernel_rfl) (by simp) ?_
      refine AllReadyH.cons rfl (fun K hK => ?_) AllReadyH.nil
      rw [if_pos (by kernel_rfl)]
      go_wp2_with fail
      refine hK.out _ _ GB_.out (fun _ => ?_)
      clear hK K
      refine wpAnyH_done (by kernel_rfl) ?_ _
      exact REST g532_ g626_ r33_ r34_ E33_ E34_ _ R5_ R6_ (HG0.out.trans GB_.out) RM_ U34_ L134_ L234_
end Go.Proofs.YtgigalcajgjpnaaGreat

namespace Go.Proofs.YtgigalcajgjpnaaGreat
open Go.RowKit
set_option maxRecDepth 8000

/-- The cells of a row of pairs. -/
def prCells {T : Type} : List (Prr T) → List Value
  | [] => []
  | q :: W => q.u :: q.v :: prCells W
theorem prCells_length {T : Type} (W : List (Prr T)) : (prCells W).length = W.length * 2 := by
  induction W with
  | nil => rfl
  | cons q W ih => simp only [prCells, List.length_cons, ih]; omega
theorem prCells_append {T : Type} (W V : List (Prr T)) : prCells (W ++ V) = prCells W ++ prCells V := by
  induction W with
  | nil => rfl
  | cons q W ih => simp only [List.cons_append, prCells, ih]
theorem prCells_one {T : Type} {V : List (Prr T)} (h : ∀ q ∈ V, q.u.oneCell' = true ∧ q.v.oneCell' = true) : ∀ x ∈ prCells V, x.oneCell' = true := by
  induction V with
  | nil => simp [prCells]
  | cons q V ih =>
    intro x hx
    simp only [prCells, List.mem_cons] at hx
    rcases hx with rfl | rfl | hx
    · exact (h q (by simp)).1
    · exact (h q (by simp)).2
    · exact ih (fun y hy => h y (List.mem_cons_of_mem _ hy)) x hx

theorem cells_at {w : World} {b o : Nat} {v : Value} (h : w.cell? ⟨b, o, none⟩ = some v) : ∃ c e f, w.heap[b]? = some (.cells c e f) := by
  unfold World.cell? at h
  cases hh : w.heap[b]? with
  | none => simp [hh] at h
  | some x => cases x <;> simp [hh] at h <;> exact ⟨_, _, _, rfl⟩

/-- A row of pairs, of the call's own from base on. -/
def OwnRX (w : World) (base : Nat) (v : Value) (W : List (Prr Ex)) : Prop := w.ownsRow base 104 2 v W.length (prCells W)

theorem OwnRX.len {w : World} {base : Nat} {v : Value} {W : List (Prr Ex)} (h : OwnRX w base v W) : ∃ ao cap, v = .slice ao W.length cap := by
  rcases h.2 with ⟨rfl, h0⟩ | ⟨g, cap, cur, rfl, -⟩
  · exact ⟨none, 0, by rw [h0]⟩
  · exact ⟨_, cap, rfl⟩
theorem OwnRX.lt {w : World} {base : Nat} {v : Value} {W : List (Prr Ex)} (h : OwnRX w base v W) {k : Nat} (hk : v.ownBlock = some k) : base ≤ k ∧ k < w.heap.size := World.ownsRow.lt h k hk
theorem OwnRX.kept {w w' : World} {base : Nat} {v : Value} {W : List (Prr Ex)} (h : OwnRX w base v W) (hk : ∀ k, v.ownBlock = some k → w'.heap[k]? = w.heap[k]?) : OwnRX w' base v W := by
  refine ⟨h.1, ?_⟩
  rcases h.2 with h0 | ⟨g, cap, cur, rfl, hb, hg, h1, h2, h3, h4⟩
  · exact .inl h0
  · exact .inr ⟨g, cap, cur, rfl, hb, (hk g rfl).trans hg, h1, h2, h3, h4⟩

/-- The last one, and the others. -/
theorem OwnRX.pop {w : World} {base : Nat} {v : Value} {W : List (Prr Ex)} {q : Prr Ex} (h : OwnRX w base v (W ++ [q])) : ∃ g cap, v = .slice (some ⟨g, 0, none⟩) (W.length + 1) cap ∧ W.length + 1 ≤ cap ∧ cap ≤ maxLen ∧ base ≤ g ∧ g < w.heap.size ∧
    w.cell? ⟨g, W.length * 2, none⟩ = some q.u ∧ w.cell? ⟨g, W.length * 2 + 1, none⟩ = some q.v ∧ OwnRX w base (.slice (some ⟨g, 0, none⟩) W.length cap) W := by
  have hcs := fun g hg => World.ownsRow.cells h (g := g) hg
  have hp : (prCells (W ++ [q]))[W.length * 2]? = some q.u ∧ (prCells (W ++ [q]))[W.length * 2 + 1]? = some q.v := by
    rw [prCells_append, ← prCells_length W]
    simp [prCells]
  rcases id h.2 with ⟨-, h0⟩ | ⟨g, cap, cur, rfl, hb, hg, h1, h2, h3, h4⟩
  · simp at h0
  · have hlen : (W ++ [q]).length = W.length + 1 := by simp
    have c0 := hcs g rfl _ _ hp.1
    have c1 := hcs g rfl _ _ hp.2
    simp only [Addr.add_lit, Nat.zero_add] at c0 c1
    refine ⟨g, cap, by rw [hlen], by rw [← hlen]; exact h1, h2, hb, (Array.getElem?_eq_some_iff.1 hg).1, c0, c1, prCells_length W, .inr ⟨g, cap, cur, rfl, hb, hg, by omega, h2, h3, ?_⟩⟩
    have h5 : prCells W = (prCells (W ++ [q])).take (W.length * 2) := by
      rw [prCells_append, List.take_append_of_le_length (by rw [prCells_length]; omega), ← prCells_length W, List.take_length]
    rw [h5, ← h4, List.take_take, hlen]
    congr 1
    omega

/-- Some more, read off a new block. -/
theorem wp_append_rX {w : World} {o : Oper} {a : Act} {K : Act → World → Prop} {Q : Exit → Act → World → Prop} (s x : Operand)
    (ho : o.op = .call { callee := .builtin .append, args := #[s, x], argTypes := #[105, 105] })
    (base : Nat) (v : Value) (W V : List (Prr Ex)) (hs : a.eval s = v) (hown : OwnRX w base v W) (lb c : Nat) (hx : a.eval x = .slice (some ⟨lb, 0, none⟩) V.length c)
    (hc : w.heap[lb]? = some (.cells (prCells V).toArray 104 (0, 0))) (hone : ∀ q ∈ V, q.u.oneCell' = true ∧ q.v.oneCell' = true) (hbase : base ≤ w.heap.size) (hlen : W.length + V.length ≤ 2199023255552)
    (h : ∀ v' w', OwnRX w' base v' (W ++ V) → w.grownBy w' v.ownBlock → (v'.ownBlock = v.ownBlock ∨ v'.ownBlock = some w.heap.size) → K (a.put o.dst v') w') :
    o.wp Tryz.prog a w K Q := by
  obtain ⟨i0, hi, hz0, hz1, hz2⟩ := info_parts (show (Tryz.prog.info? 104).map (fun i => (i.zero, i.size, i.bytes)) = some (some (.agg #[.slice none 0 0, .slice none 0 0]), 2, 48) by kernel_rfl)
  have hones : ∀ q ∈ prCells V, q.oneCell' = true := prCells_one hone
  have hnews : ∀ j q, (prCells V)[j]? = some q → w.cell? ((⟨lb, 0, none⟩ : Addr).add j) = some q := by
    intro j q hq
    rw [Addr.add_lit, Nat.zero_add, cell_of_row w lb j _ _ (0, 0) hc]
    simpa using hq
  obtain ⟨v', w', hr, hown', hgr, -, hv⟩ := run_append_own_at (P := Tryz.prog) w base 105 o.type 104 i0 _ 2 48 (by kernel_rfl) hi hz0 hz1 hz2 rfl (by decide) v W.length (prCells W) hown ⟨lb, 0, none⟩ V.length c (prCells V) (prCells_length V) hnews hones (by unfold maxLen; omega) (by omega) hbase
  unfold Oper.wp execOp
  simp only [ho, resolve, invoke, builtin, Sem.run_bind, Sem.run_pure, Result.andThen_ok, List.map_toArray, List.map_cons, List.map_nil, hs, hx, hr]
  refine h v' w' ?_ hgr hv
  show w'.ownsRow base _ 2 v' (W ++ V).length (prCells (W ++ V))
  rw [prCells_append, List.length_append]
  exact hown'
theorem wpList_append_rX {w : World} {ops : Array Oper} {rest : List Oper} {o : Oper} {a : Act} {Q : Exit → Act → World → Prop} (hgd : o.guard = none) (s x : Operand)
    (ho : o.op = .call { callee := .builtin .append, args := #[s, x], argTypes := #[105, 105] })
    (base : Nat) (v : Value) (W V : List (Prr Ex)) (hs : a.eval s = v) (hown : OwnRX w base v W) (lb c : Nat) (hx : a.eval x = .slice (some ⟨lb, 0, none⟩) V.length c)
    (hc : w.heap[lb]? = some (.cells (prCells V).toArray 104 (0, 0))) (hone : ∀ q ∈ V, q.u.oneCell' = true ∧ q.v.oneCell' = true) (hbase : base ≤ w.heap.size) (hlen : W.length + V.length ≤ 2199023255552)
    (h : ∀ v' w', OwnRX w' base v' (W ++ V) → w.grownBy w' v.ownBlock → (v'.ownBlock = v.ownBlock ∨ v'.ownBlock = some w.heap.size) → wpList Tryz.prog ops Q rest (a.put o.dst v') w') :
    wpList Tryz.prog ops Q (o :: rest) a w := by
  refine wpList_plain hgd fun K hK => ?_
  exact wp_append_rX s x ho base v W V hs hown lb c hx hc hone hbase hlen fun v' w' h1 h2 h3 => hK _ _ (h v' w' h1 h2 h3)

/-- The same slice, but for its spare room, reads the same list. -/
theorem El.det {w : World} {B : Nat → Prop} {l : List Ex} {v : Value} (h : El w B l v) : ∀ {B' : Nat → Prop} {l' : List Ex} {v' : Value}, El w B' l' v' → (∃ ao n c c', v = .slice ao n c ∧ v' = .slice ao n c') → l = l' := by
  induction h with
  | empty ao cap hm hn =>
    intro B' l' v' h' ⟨ao', n, c, c', e1, e2⟩
    obtain ⟨a1, a2, rfl, -⟩ := h'.len
    simp at e1 e2
    have : l'.length = 0 := by omega
    exact (List.length_eq_zero_iff.1 this).symm
  | full l b off cap V hb hl hc hm hs hcell hsub ih =>
    intro B' l' v' h' ⟨ao', n, c, c', e1, e2⟩
    obtain ⟨a1, a2, rfl, -⟩ := h'.len
    simp at e1 e2
    obtain ⟨rfl, rfl, rfl⟩ := e1
    obtain ⟨rfl, hlen, rfl⟩ := e2
    have hl' : l' ≠ [] := by rintro rfl; simp at hlen; exact hl (by simpa using hlen.symm)
    obtain ⟨b', off', V', he, hel⟩ := h'.elems hl'
    simp at he
    obtain ⟨rfl, rfl⟩ := he
    refine List.ext_getElem hlen.symm fun i h1 h2 => ?_
    obtain ⟨x, hx, -⟩ := hel i h2
    have y := hcell i h1
    have e0 := y.1.symm.trans x.1
    have e1 := y.2.1.symm.trans x.2.1
    have e2 := y.2.2.1.symm.trans x.2.2.1
    have e3 := y.2.2.2.symm.trans x.2.2.2
    simp at e0 e1 e2 e3
    obtain ⟨ao2, c2, ev, -⟩ := (hsub i h1).len
    have e4 : l[i].l = l'[i].l := ih i h1 hx ⟨ao2, _, c2, c2, ev, by rw [← e3]; exact ev⟩
    rw [← Ex.eta l[i], ← Ex.eta l'[i], e0, e1, e2, e4]

open Classical in
/-- The list that begins at a place. -/
noncomputable def treeX (w : World) (p : Plc) : List Ex :=
  if h : ∃ l, l ≠ [] ∧ ∃ B c, El w B l (.slice (some p.a) l.length c) ∧ (l.length : Int) = p.n then Classical.choose h else []
theorem treeX_eq {w : World} {B : Nat → Prop} {l : List Ex} {b off c n : Nat} (h : El w B l (.slice (some ⟨b, off, none⟩) n c)) (hl : l ≠ []) : treeX w ⟨⟨b, off, none⟩, n⟩ = l := by
  obtain ⟨_, _, e, -⟩ := h.len
  simp at e
  obtain ⟨-, rfl, -⟩ := e
  have hex : ∃ l', l' ≠ [] ∧ ∃ B c, El w B l' (.slice (some (⟨⟨b, off, none⟩, l.length⟩ : Plc).a) l'.length c) ∧ (l'.length : Int) = (⟨⟨b, off, none⟩, l.length⟩ : Plc).n := ⟨l, hl, B, c, h, rfl⟩
  unfold treeX
  rw [dif_pos hex]
  obtain ⟨-, B', c', h', hn⟩ := Classical.choose_spec hex
  have hn1 : ((Classical.choose hex).length : Int) = (l.length : Int) := hn
  have hn' : (Classical.choose hex).length = l.length := by omega
  refine (h.det h' ⟨some ⟨b, off, none⟩, l.length, c, c', rfl, ?_⟩).symm
  rw [hn']
theorem El.cells {w : World} {B : Nat → Prop} {l : List Ex} {v : Value} (h : El w B l v) : El w (fun b => B b ∧ ∃ c e f, w.heap[b]? = some (.cells c e f)) l v := by
  induction h with
  | empty ao cap hm hn => exact .empty ao cap hm hn
  | full l b off cap V hb hl hc hm hs hcell hsub ih =>
    exact .full l b off cap V ⟨hb, cells_at (hcell 0 (List.length_pos_iff.2 hl)).1⟩ hl hc hm hs hcell ih

end Go.Proofs.YtgigalcajgjpnaaGreat

namespace Go.Proofs.YtgigalcajgjpnaaGreat
open Go.RowKit
set_option maxRecDepth 8000

def EqX (l : List Ex) : Prop := ∀ (B C : Nat → Prop) (v u : Value) (w : World), El w B l v → El w C l u →
  Calls Tryz.prog 106 #[v, u] w fun e w' => e = .returned (.bool true) ∧ Below w.heap.size w w'

theorem eqExpr_of (t : Ex) (ih : EqX t.l) (B C : Nat → Prop) (v u : Value) (w : World) (h : El w B t.l v) (h' : El w C t.l u) :
    Calls Tryz.prog 80 #[xx t.k t.n t.s v, xx t.k t.n t.s u] w fun e w' => e = .returned (.bool true) ∧ Below w.heap.size w w' := by
  obtain ⟨k, hk⟩ : ∃ k, t.k = k := ⟨_, rfl⟩
  obtain ⟨n, hnn⟩ : ∃ n, t.n = n := ⟨_, rfl⟩
  obtain ⟨s, hsn⟩ : ∃ s, t.s = s := ⟨_, rfl⟩
  obtain ⟨l, hln⟩ : ∃ l, t.l = l := ⟨_, rfl⟩
  rw [hk, hnn, hsn]
  rw [hln] at h h' ih
  clear hk hnn hsn hln
  have B0 : Below w.heap.size w ((w.alloc (.cells #[.int .i64 k, .int .i64 n, .string s, v] 41)).alloc (.cells #[.int .i64 k, .int .i64 n, .string s, u] 41)) := ((Below.refl _ _).alloc (Nat.le_refl _) _).alloc (by simp) _
  have HI := Hid.mk ih
  have H1 := Hid.mk (h.grow B0)
  have H2 := Hid.mk (h'.grow B0)
  obtain ⟨ao, cap, rfl, hl1, hl2, hl3⟩ := h.len
  obtain ⟨ao', cap', rfl, hl1', hl2', hl3'⟩ := h'.len
  have hkk : (k != k) = false := by simp
  have hn2 : (n != n) = false := by simp
  have hss : (s.toList != s.toList) = false := by simp
  clear ih h h' hl1 hl2 hl3 hl1' hl2' hl3'
  go_enter Tryz.func80, Tryz.ntmps80
  go_wp2_with fail
  refine (HI.out _ _ _ _ _ H1.out H2.out).mono ?_
  rintro e w1 ⟨rfl, hb1⟩
  have B1 := B0.trans (hb1.mono (by simp; omega))
  clear B0 hb1 HI H1 H2
  go_wp2
  go_ret
  exact ⟨rfl, B1⟩

theorem eqExprS_step (l : List Ex) (ih : ∀ x ∈ l, EqX x.l) : EqX l := by
  intro B C v u w h h'
  obtain ⟨ao, cap, rfl, hl1, hl2, hl3⟩ := h.len
  obtain ⟨ao', cap', rfl, hl1', hl2', hl3'⟩ := h'.len
  have hm : cap ≤ 9223372036854775807 := by unfold maxLen at hl2; omega
  have HI := Hid.mk ih
  have H1 := Hid.mk h
  have H2 := Hid.mk h'
  clear ih h h' hl2 hl2'
  go_enter Tryz.func106, Tryz.ntmps106
  go_wp2
  go_loopw [5] (fun i wr => ∃ (k : Nat), k ≤ l.length ∧ i = .int .i64 k ∧ Below w.heap.size w wr) (fun i _ => l.length - (intOf i).toNat)
  case atStart => exact ⟨0, Nat.zero_le _, rfl, Below.refl _ _⟩
  case round =>
    obtain ⟨k, hk, rfl, hbel⟩ := hrel
    by_cases hkl : k < l.length
    · obtain ⟨b, off, V, rfl, hel⟩ := H1.out.elems (by intro hn; rw [hn] at hkl; simp at hkl)
      obtain ⟨b', off', V', rfl, hel'⟩ := H2.out.elems (by intro hn; rw [hn] at hkl; simp at hkl)
      obtain ⟨h3, hsub, hss⟩ := hel k hkl
      obtain ⟨h3', hsub', _⟩ := hel' k hkl
      have hsz : EqX l[k].l := HI.out _ (List.getElem_mem hkl)
      obtain ⟨t, ht⟩ : ∃ t, l[k] = t := ⟨_, rfl⟩
      rw [ht] at h3 hsub h3' hsub' hsz
      clear ht hel hel' hss
      obtain ⟨c0, cn, c1, c2⟩ := h3.kept (w' := wr) (hbel.block b (World.block_lt_of_cell? w _ h3.1))
      obtain ⟨d0, dn, d1, d2⟩ := h3'.kept (w' := wr) (hbel.block b' (World.block_lt_of_cell? w _ h3'.1))
      have a0 := cell_regrown c0
      have an := cell_regrown cn
      have a1 := cell_regrown c1
      have a2 := cell_regrown c2
      have b0 := cell_regrown d0
      have bn := cell_regrown dn
      have b1 := cell_regrown d1
      have b2 := cell_regrown d2
      have hg := hsub.grow hbel
      have hg' := hsub'.grow hbel
      have cA := Hid.mk (fun d os => Calls.regrown_of (w := wr) (d := d) (os := os) (eqExpr_of t hsz B C (V k) (V' k) _ (hg.grow (below_regrown wr d os)) (hg'.grow (below_regrown wr d os))))
      have hi1 : (k : Int) < (l.length : Int) := by omega
      clear hsub hsub' hsz h3 h3' c0 cn c1 c2 d0 dn d1 d2 hg hg'
      go_wp2_with fail
      refine wp_region_quiet_below (by kernel_rfl) (by kernel_rfl) ?_
      quiet_step (fail)
      quiet_step (fail)
      quiet_step (fail)
      quiet_step (fail)
      quiet_step (fail)
      quiet_step (fail)
      quiet_step (fail)
      quiet_step (fail)
      quiet_step (exact cA.out _ _)
      quiet_step (fail)
      refine wpQuiet_nil ?_
      intro w6 hw'
      obtain ⟨⟨dq, osq⟩, hw''⟩ := hw'
      have hb6 : Below wr.heap.size wr w6 := by rw [hw'']; exact below_regrown _ _ _
      have B6 := hbel.trans (hb6.mono hbel.size)
      clear hw'' a0 an a1 a2 b0 bn b1 b2 cA hb6
      go_wp2
      go_roundw
      case rel => exact ⟨k + 1, by omega, by go_num, B6⟩
      case measure => simp [intOf]; omega
    · go_wp2
      go_ret
      exact ⟨rfl, hbel⟩

theorem eqExprS_any (l : List Ex) : EqX l := (Ex.ind (P := fun t => EqX t.l) (fun t ih => eqExprS_step t.l ih) (.node 0 0 ⟨#[]⟩ l))
theorem eqExpr_any (t : Ex) (B C : Nat → Prop) (v u : Value) (w : World) (h : El w B t.l v) (h' : El w C t.l u) :
    Calls Tryz.prog 80 #[xx t.k t.n t.s v, xx t.k t.n t.s u] w fun e w' => e = .returned (.bool true) ∧ Below w.heap.size w w' := eqExpr_of t (eqExprS_any t.l) B C v u w h h'
end Go.Proofs.YtgigalcajgjpnaaGreat

namespace Go.Proofs.YtgigalcajgjpnaaGreat
open Go.RowKit
set_option maxRecDepth 8000

theorem ret_eb {a b : Bool} (h : a = b) : Ending.returned (.bool a) = .returned (.bool b) := by rw [h]
theorem txt_same {s t : ByteArray} (h : s.toList = t.toList) : s = t := by
  rw [ByteArray.toList_eq, ByteArray.toList_eq] at h
  cases s
  cases t
  exact congrArg _ (Array.toList_inj.1 h)
theorem txt_bne {s t : ByteArray} (h : s ≠ t) : (s.toList != t.toList) = true := by
  rw [bne_iff_ne]; exact fun e => h (txt_same e)
theorem Ex.ext4 {a b : Ex} (hk : a.k = b.k) (hn : a.n = b.n) (hs : a.s = b.s) (hl : a.l = b.l) : a = b := by rw [← a.eta, ← b.eta, hk, hn, hs, hl]

open Classical in
/-- The two are the same tree. -/
noncomputable def sameX (a b : Ex) : Bool := decide (a = b)
theorem sameX_iff {a b : Ex} : sameX a b = true ↔ a = b := by simp [sameX]
theorem sameX_no {a b : Ex} (h : a ≠ b) : sameX a b = false := by simp [sameX, h]

end Go.Proofs.YtgigalcajgjpnaaGreat

namespace Go.Proofs.YtgigalcajgjpnaaGreat
open Go.RowKit
set_option maxRecDepth 8000
set_option linter.unusedSimpArgs false

theorem three_alloc (W : World) (n : Nat) (hn : W.heap.size = n) (o1 o2 o3 : Obj) : (((W.alloc o1).alloc o2).alloc o3).heap[n]? = some o1 ∧ (((W.alloc o1).alloc o2).alloc o3).heap[n + 1]? = some o2 ∧ (((W.alloc o1).alloc o2).alloc o3).heap[n + 1 + 1]? = some o3 ∧
    Below n W (((W.alloc o1).alloc o2).alloc o3) ∧ (((W.alloc o1).alloc o2).alloc o3).heap.size = n + 1 + 1 + 1 := by
  subst hn
  have s1 : (W.alloc o1).heap.size = W.heap.size + 1 := by simp
  have s2 : ((W.alloc o1).alloc o2).heap.size = W.heap.size + 1 + 1 := by simp
  refine ⟨?_, ?_, ?_, (((Below.refl _ _).alloc (Nat.le_refl _) _).alloc (by simp) _).alloc (by simp; omega) _, by simp⟩
  · rw [(World.grownBy_alloc _ o3 none).block _ (by rw [s2]; omega) (by simp), (World.grownBy_alloc _ o2 none).block _ (by rw [s1]; omega) (by simp)]
    exact (MapKept.heap_alloc W o1).1
  · rw [(World.grownBy_alloc _ o3 none).block _ (by rw [s2]; omega) (by simp), ← s1]
    exact (MapKept.heap_alloc _ o2).1
  · rw [← s2]
    exact (MapKept.heap_alloc _ o3).1

/-- All else of two terms is the same. -/
def hdB (x y : Ex) : Bool := x.k == y.k && (x.n == y.n && x.s.toList == y.s.toList)
theorem hdB_iff {x y : Ex} : hdB x y = true ↔ labX.hd x y := by
  unfold hdB labX
  simp only [Bool.and_eq_true, beq_iff_eq]
  exact ⟨fun h => ⟨h.1, h.2.1, txt_same h.2.2⟩, fun h => ⟨h.1, h.2.1, by rw [h.2.2]⟩⟩

set_option maxHeartbeats 4000000 in
theorem withinX_any (x y : Ex) (ao : Option Addr) (n c : Nat) (ao' : Option Addr) (n' c' : Nat) (w : World) :
    Calls Tryz.prog 99 #[xx x.k x.n x.s (.slice ao n c), xx y.k y.n y.s (.slice ao' n' c')] w fun e w' =>
      ∃ mb, e = .returned (.tuple #[.slice (some ⟨mb, 0, none⟩) 1 1, .bool (hdB x y)]) ∧ w'.heap[mb]? = some (.cells #[.slice ao n c, .slice ao' n' c'] 104 (0, 0)) ∧ w.heap.size ≤ mb ∧ Below w.heap.size w w' := by
  have HR : Hid (∀ r : Bool, (x.k == y.k && (x.n == y.n && x.s.toList == y.s.toList)) = r → hdB x y = r) := fun r h => h
  obtain ⟨R, hR⟩ : ∃ R, hdB x y = R := ⟨_, rfl⟩
  rw [hR] at HR
  rw [hR]
  clear hR
  obtain ⟨k, hk⟩ : ∃ k, x.k = k := ⟨_, rfl⟩
  obtain ⟨m, hn⟩ : ∃ k, x.n = k := ⟨_, rfl⟩
  obtain ⟨s, hs⟩ : ∃ k, x.s = k := ⟨_, rfl⟩
  obtain ⟨k', hk'⟩ : ∃ k, y.k = k := ⟨_, rfl⟩
  obtain ⟨m', hn'⟩ : ∃ k, y.n = k := ⟨_, rfl⟩
  obtain ⟨s', hs'⟩ : ∃ k, y.s = k := ⟨_, rfl⟩
  rw [hk, hn, hs, hk', hn', hs'] at HR
  rw [hk, hn, hs, hk', hn', hs']
  clear hk hn hs hk' hn' hs'
  have B0 : Hid (Below w.heap.size w ((w.alloc (.cells #[.int .i64 k, .int .i64 m, .string s, .slice ao n c] 41)).alloc (.cells #[.int .i64 k', .int .i64 m', .string s', .slice ao' n' c'] 41))) := ((Below.refl _ _).alloc (Nat.le_refl _) _).alloc (by simp) _
  have X0 : Hid (((w.alloc (.cells #[.int .i64 k, .int .i64 m, .string s, .slice ao n c] 41)).alloc (.cells #[.int .i64 k', .int .i64 m', .string s', .slice ao' n' c'] 41)).heap[w.heap.size]? = some (.cells #[.int .i64 k, .int .i64 m, .string s, .slice ao n c] 41 (0, 0))) := ((World.grownBy_alloc _ _ none).block _ (by simp) (by simp)).trans (MapKept.heap_alloc w _).1
  have Y0 : Hid (((w.alloc (.cells #[.int .i64 k, .int .i64 m, .string s, .slice ao n c] 41)).alloc (.cells #[.int .i64 k', .int .i64 m', .string s', .slice ao' n' c'] 41)).heap[w.heap.size + 1]? = some (.cells #[.int .i64 k', .int .i64 m', .string s', .slice ao' n' c'] 41 (0, 0))) := by
    unfold Hid
    simpa using (MapKept.heap_alloc (w.alloc (.cells #[.int .i64 k, .int .i64 m, .string s, .slice ao n c] 41)) (.cells #[.int .i64 k', .int .i64 m', .string s', .slice ao' n' c'] 41)).1
  go_enter Tryz.func99, Tryz.ntmps99
  go_wp2_with fail
  generalize (w.alloc (.cells #[.int .i64 k, .int .i64 m, .string s, .slice ao n c] 41)).alloc (.cells #[.int .i64 k', .int .i64 m', .string s', .slice ao' n' c'] 41) = w0 at *
  have HX : Hid (∀ w', Below w0.heap.size w0 w' → ∀ o, w'.cell? ⟨w.heap.size, o, none⟩ = #[Value.int .i64 k, .int .i64 m, .string s, .slice ao n c][o]?) := fun w' hb o => cell_of_row w' _ o _ _ (0, 0) ((hb.block _ (Array.getElem?_eq_some_iff.1 X0.out).1).trans X0.out)
  have HY : Hid (∀ w', Below w0.heap.size w0 w' → ∀ o, w'.cell? ⟨w.heap.size + 1, o, none⟩ = #[Value.int .i64 k', .int .i64 m', .string s', .slice ao' n' c'][o]?) := fun w' hb o => cell_of_row w' _ o _ _ (0, 0) ((hb.block _ (Array.getElem?_eq_some_iff.1 Y0.out).1).trans Y0.out)
  have S0 : Hid (Below w0.heap.size w0 w0.drew) := Below.drewSelf _ _ 1
  clear X0 Y0
  refine wp_region_held_drew (S := Below w0.heap.size w0) (by kernel_rfl) S0.out (fun _ => ?_)
  refine takeHD (i := 0) (v := .pointer (some ⟨w.heap.size, 3, none⟩)) (some 6) rfl rfl (by kernel_rfl) (by kernel_rfl) (by kernel_rfl) (fun _ _ _ h => h) (Or.inl ⟨by kernel_rfl, fun w' hw => ?_⟩) S0.out ?_
  · go_simp
  simp only [Act.put, List.setIfInBounds_toArray]
  refine takeHD (i := 1) (v := .slice ao n c) (some 7) rfl rfl (by kernel_rfl) (by kernel_rfl) (by kernel_rfl) (fun _ _ _ h => h) (Or.inl ⟨by kernel_rfl, fun w' hw => ?_⟩) S0.out ?_
  · have hq := HX.out w' hw
    go_simp
  simp only [Act.put, List.setIfInBounds_toArray]
  refine takeHD (i := 2) (v := .pointer (some ⟨w.heap.size + 1, 3, none⟩)) (some 8) rfl rfl (by kernel_rfl) (by kernel_rfl) (by kernel_rfl) (fun _ _ _ h => h) (Or.inl ⟨by kernel_rfl, fun w' hw => ?_⟩) S0.out ?_
  · go_simp
  simp only [Act.put, List.setIfInBounds_toArray]
  refine takeHD (i := 3) (v := .slice ao' n' c') (some 9) rfl rfl (by kernel_rfl) (by kernel_rfl) (by kernel_rfl) (fun _ _ _ h => h) (Or.inl ⟨by kernel_rfl, fun w' hw => ?_⟩) S0.out ?_
  · have hq := HY.out w' hw
    go_simp
  simp only [Act.put, List.setIfInBounds_toArray]
  refine takeHD (i := 4) (v := .agg #[.slice ao n c, .slice ao' n' c']) (some 10) rfl rfl (by kernel_rfl) (by kernel_rfl) (by kernel_rfl) (fun _ _ _ h => h) (Or.inl ⟨by kernel_rfl, fun w' hw => ?_⟩) S0.out ?_
  · go_simp
  simp only [Act.put, List.setIfInBounds_toArray]
  refine takeHD (i := 6) (v := .pointer (some ⟨w.heap.size, 0, none⟩)) (some 12) rfl rfl (by kernel_rfl) (by kernel_rfl) (by kernel_rfl) (fun _ _ _ h => h) (Or.inl ⟨by kernel_rfl, fun w' hw => ?_⟩) S0.out ?_
  · go_simp
  simp only [Act.put, List.setIfInBounds_toArray]
  refine takeHD (i := 7) (v := .int .i64 k) (some 13) rfl rfl (by kernel_rfl) (by kernel_rfl) (by kernel_rfl) (fun _ _ _ h => h) (Or.inl ⟨by kernel_rfl, fun w' hw => ?_⟩) S0.out ?_
  · have hq := HX.out w' hw
    go_simp
  simp only [Act.put, List.setIfInBounds_toArray]
  refine takeHD (i := 8) (v := .pointer (some ⟨w.heap.size + 1, 0, none⟩)) (some 14) rfl rfl (by kernel_rfl) (by kernel_rfl) (by kernel_rfl) (fun _ _ _ h => h) (Or.inl ⟨by kernel_rfl, fun w' hw => ?_⟩) S0.out ?_
  · go_simp
  simp only [Act.put, List.setIfInBounds_toArray]
  refine takeHD (i := 9) (v := .int .i64 k') (some 15) rfl rfl (by kernel_rfl) (by kernel_rfl) (by kernel_rfl) (fun _ _ _ h => h) (Or.inl ⟨by kernel_rfl, fun w' hw => ?_⟩) S0.out ?_
  · have hq := HY.out w' hw
    go_simp
  simp only [Act.put, List.setIfInBounds_toArray]
  refine takeHD (i := 10) (v := .bool (k == k')) (some 16) rfl rfl (by kernel_rfl) (by kernel_rfl) (by kernel_rfl) (fun _ _ _ h => h) (Or.inl ⟨by kernel_rfl, fun w' hw => ?_⟩) S0.out ?_
  · go_simp
  simp only [Act.put, List.setIfInBounds_toArray]
  refine takeHD (i := 11) (v := .bool (k == k')) (some 17) rfl rfl (by kernel_rfl) (by kernel_rfl) (by kernel_rfl) (fun _ _ _ h => h) (Or.inl ⟨by kernel_rfl, fun w' hw => ?_⟩) S0.out ?_
  · go_simp
  simp only [Act.put, List.setIfInBounds_toArray]
  by_cases hkk : k = k'
  case neg =>
    have hb0 : (k == k') = false := by simpa using hkk
    simp only [hb0]
    refine takeHD (i := 12) (v := undef) (some 18) rfl rfl (by kernel_rfl) (by kernel_rfl) (by kernel_rfl) (fun _ _ _ h => h) (Or.inr ⟨by kernel_rfl, rfl⟩) S0.out ?_
    simp only [Act.put, List.setIfInBounds_toArray]
    refine takeHD (i := 13) (v := undef) (some 19) rfl rfl (by kernel_rfl) (by kernel_rfl) (by kernel_rfl) (fun _ _ _ h => h) (Or.inr ⟨by kernel_rfl, rfl⟩) S0.out ?_
    simp only [Act.put, List.setIfInBounds_toArray]
    refine takeHD (i := 14) (v := undef) (some 20) rfl rfl (by kernel_rfl) (by kernel_rfl) (by kernel_rfl) (fun _ _ _ h => h) (Or.inr ⟨by kernel_rfl, rfl⟩) S0.out ?_
    simp only [Act.put, List.setIfInBounds_toArray]
    refine takeHD (i := 15) (v := undef) (some 21) rfl rfl (by kernel_rfl) (by kernel_rfl) (by kernel_rfl) (fun _ _ _ h => h) (Or.inr ⟨by kernel_rfl, rfl⟩) S0.out ?_
    simp only [Act.put, List.setIfInBounds_toArray]
    refine takeHD (i := 16) (v := undef) (some 22) rfl rfl (by kernel_rfl) (by kernel_rfl) (by kernel_rfl) (fun _ _ _ h => h) (Or.inr ⟨by kernel_rfl, rfl⟩) S0.out ?_
    simp only [Act.put, List.setIfInBounds_toArray]
    refine takeHD (i := 17) (v := .bool false) (some 23) rfl rfl (by kernel_rfl) (by kernel_rfl) (by kernel_rfl) (fun _ _ _ h => h) (Or.inl ⟨by kernel_rfl, fun w' hw => ?_⟩) S0.out ?_
    · go_simp
    simp only [Act.put, List.setIfInBounds_toArray]
    refine takeHD (i := 18) (v := .bool false) (some 24) rfl rfl (by kernel_rfl) (by kernel_rfl) (by kernel_rfl) (fun _ _ _ h => h) (Or.inl ⟨by kernel_rfl, fun w' hw => ?_⟩) S0.out ?_
    · go_simp
    simp only [Act.put, List.setIfInBounds_toArray]
    refine takeHD (i := 19) (v := undef) (some 25) rfl rfl (by kernel_rfl) (by kernel_rfl) (by kernel_rfl) (fun _ _ _ h => h) (Or.inr ⟨by kernel_rfl, rfl⟩) S0.out ?_
    simp only [Act.put, List.setIfInBounds_toArray]
    refine takeHD (i := 20) (v := undef) (some 26) rfl rfl (by kernel_rfl) (by kernel_rfl) (by kernel_rfl) (fun _ _ _ h => h) (Or.inr ⟨by kernel_rfl, rfl⟩) S0.out ?_
    simp only [Act.put, List.setIfInBounds_toArray]
    refine takeHD (i := 21) (v := undef) (some 27) rfl rfl (by kernel_rfl) (by kernel_rfl) (by kernel_rfl) (fun _ _ _ h => h) (Or.inr ⟨by kernel_rfl, rfl⟩) S0.out ?_
    simp only [Act.put, List.setIfInBounds_toArray]
    refine takeHD (i := 22) (v := undef) (some 28) rfl rfl (by kernel_rfl) (by kernel_rfl) (by kernel_rfl) (fun _ _ _ h => h) (Or.inr ⟨by kernel_rfl, rfl⟩) S0.out ?_
    simp only [Act.put, List.setIfInBounds_toArray]
    refine takeHD (i := 23) (v := undef) (some 29) rfl rfl (by kernel_rfl) (by kernel_rfl) (by kernel_rfl) (fun _ _ _ h => h) (Or.inr ⟨by kernel_rfl, rfl⟩) S0.out ?_
    simp only [Act.put, List.setIfInBounds_toArray]
    refine takeHD (i := 24) (v := .bool false) (some 30) rfl rfl (by kernel_rfl) (by kernel_rfl) (by kernel_rfl) (fun _ _ _ h => h) (Or.inl ⟨by kernel_rfl, fun w' hw => ?_⟩) S0.out ?_
    · go_simp
    simp only [Act.put, List.setIfInBounds_toArray]
    refine wpAnyH_ready (rs := [5]) (by kernel_rfl) (by simp) ?_
    refine AllReadyH.cons rfl (fun K hK => ?_) AllReadyH.nil
    rw [if_pos (by kernel_rfl)]
    go_wp2_with fail
    have T0 : Hid (Below w0.heap.size w0 (w0.drew.alloc (.cells #[.slice ao n c, .slice ao' n' c'] 104))) := S0.out.alloc S0.out.size _
    refine hK.out _ _ T0.out (fun _ => ?_)
    clear hK K
    refine takeHD (i := 25) (v := .slice (some ⟨w0.heap.size, 0, none⟩) 1 1) (some 4) rfl rfl (by kernel_rfl) (by kernel_rfl) (by kernel_rfl) (fun _ _ _ h => h) (Or.inl ⟨by kernel_rfl, fun w' hw => ?_⟩) T0.out ?_
    · go_simp
    simp only [Act.put, List.setIfInBounds_toArray]
    refine takeHD (i := 26) (v := .bool false) (some 5) rfl rfl (by kernel_rfl) (by kernel_rfl) (by kernel_rfl) (fun _ _ _ h => h) (Or.inl ⟨by kernel_rfl, fun w' hw => ?_⟩) T0.out ?_
    · go_simp
    simp only [Act.put, List.setIfInBounds_toArray]
    refine wpAnyH_done (by kernel_rfl) ?_ _
    clear HX HY
    go_wp2
    go_ret2
    have hr := HR.out false (by simp [hb0])
    subst hr
    exact ⟨w0.heap.size, rfl, (MapKept.heap_alloc w0 _).1, B0.out.size, B0.out.trans (T0.out.mono B0.out.size)⟩
  have hb0 : (k == k') = true := by simpa using hkk
  simp only [hb0]
  refine takeHD (i := 12) (v := .pointer (some ⟨w.heap.size, 1, none⟩)) (some 18) rfl rfl (by kernel_rfl) (by kernel_rfl) (by kernel_rfl) (fun _ _ _ h => h) (Or.inl ⟨by kernel_rfl, fun w' hw => ?_⟩) S0.out ?_
  · go_simp
  simp only [Act.put, List.setIfInBounds_toArray]
  refine takeHD (i := 13) (v := .int .i64 m) (some 19) rfl rfl (by kernel_rfl) (by kernel_rfl) (by kernel_rfl) (fun _ _ _ h => h) (Or.inl ⟨by kernel_rfl, fun w' hw => ?_⟩) S0.out ?_
  · have hq := HX.out w' hw
    go_simp
  simp only [Act.put, List.setIfInBounds_toArray]
  refine takeHD (i := 14) (v := .pointer (some ⟨w.heap.size + 1, 1, none⟩)) (some 20) rfl rfl (by kernel_rfl) (by kernel_rfl) (by kernel_rfl) (fun _ _ _ h => h) (Or.inl ⟨by kernel_rfl, fun w' hw => ?_⟩) S0.out ?_
  · go_simp
  simp only [Act.put, List.setIfInBounds_toArray]
  refine takeHD (i := 15) (v := .int .i64 m') (some 21) rfl rfl (by kernel_rfl) (by kernel_rfl) (by kernel_rfl) (fun _ _ _ h => h) (Or.inl ⟨by kernel_rfl, fun w' hw => ?_⟩) S0.out ?_
  · have hq := HY.out w' hw
    go_simp
  simp only [Act.put, List.setIfInBounds_toArray]
  refine takeHD (i := 16) (v := .bool (m == m')) (some 22) rfl rfl (by kernel_rfl) (by kernel_rfl) (by kernel_rfl) (fun _ _ _ h => h) (Or.inl ⟨by kernel_rfl, fun w' hw => ?_⟩) S0.out ?_
  · go_simp
  simp only [Act.put, List.setIfInBounds_toArray]
  refine takeHD (i := 17) (v := .bool (m == m')) (some 23) rfl rfl (by kernel_rfl) (by kernel_rfl) (by kernel_rfl) (fun _ _ _ h => h) (Or.inl ⟨by kernel_rfl, fun w' hw => ?_⟩) S0.out ?_
  · go_simp
  simp only [Act.put, List.setIfInBounds_toArray]
  refine takeHD (i := 18) (v := .bool (m == m')) (some 24) rfl rfl (by kernel_rfl) (by kernel_rfl) (by kernel_rfl) (fun _ _ _ h => h) (Or.inl ⟨by kernel_rfl, fun w' hw => ?_⟩) S0.out ?_
  · go_simp
  simp only [Act.put, List.setIfInBounds_toArray]
  by_cases hnn : m = m'
  case neg =>
    have hb1 : (m == m') = false := by simpa using hnn
    simp only [hb1]
    refine takeHD (i := 19) (v := undef) (some 25) rfl rfl (by kernel_rfl) (by kernel_rfl) (by kernel_rfl) (fun _ _ _ h => h) (Or.inr ⟨by kernel_rfl, rfl⟩) S0.out ?_
    simp only [Act.put, List.setIfInBounds_toArray]
    refine takeHD (i := 20) (v := undef) (some 26) rfl rfl (by kernel_rfl) (by kernel_rfl) (by kernel_rfl) (fun _ _ _ h => h) (Or.inr ⟨by kernel_rfl, rfl⟩) S0.out ?_
    simp only [Act.put, List.setIfInBounds_toArray]
    refine takeHD (i := 21) (v := undef) (some 27) rfl rfl (by kernel_rfl) (by kernel_rfl) (by kernel_rfl) (fun _ _ _ h => h) (Or.inr ⟨by kernel_rfl, rfl⟩) S0.out ?_
    simp only [Act.put, List.setIfInBounds_toArray]
    refine takeHD (i := 22) (v := undef) (some 28) rfl rfl (by kernel_rfl) (by kernel_rfl) (by kernel_rfl) (fun _ _ _ h => h) (Or.inr ⟨by kernel_rfl, rfl⟩) S0.out ?_
    simp only [Act.put, List.setIfInBounds_toArray]
    refine takeHD (i := 23) (v := undef) (some 29) rfl rfl (by kernel_rfl) (by kernel_rfl) (by kernel_rfl) (fun _ _ _ h => h) (Or.inr ⟨by kernel_rfl, rfl⟩) S0.out ?_
    simp only [Act.put, List.setIfInBounds_toArray]
    refine takeHD (i := 24) (v := .bool false) (some 30) rfl rfl (by kernel_rfl) (by kernel_rfl) (by kernel_rfl) (fun _ _ _ h => h) (Or.inl ⟨by kernel_rfl, fun w' hw => ?_⟩) S0.out ?_
    · go_simp
    simp only [Act.put, List.setIfInBounds_toArray]
    refine wpAnyH_ready (rs := [5]) (by kernel_rfl) (by simp) ?_
    refine AllReadyH.cons rfl (fun K hK => ?_) AllReadyH.nil
    rw [if_pos (by kernel_rfl)]
    go_wp2_with fail
    have T0 : Hid (Below w0.heap.size w0 (w0.drew.alloc (.cells #[.slice ao n c, .slice ao' n' c'] 104))) := S0.out.alloc S0.out.size _
    refine hK.out _ _ T0.out (fun _ => ?_)
    clear hK K
    refine takeHD (i := 25) (v := .slice (some ⟨w0.heap.size, 0, none⟩) 1 1) (some 4) rfl rfl (by kernel_rfl) (by kernel_rfl) (by kernel_rfl) (fun _ _ _ h => h) (Or.inl ⟨by kernel_rfl, fun w' hw => ?_⟩) T0.out ?_
    · go_simp
    simp only [Act.put, List.setIfInBounds_toArray]
    refine takeHD (i := 26) (v := .bool false) (some 5) rfl rfl (by kernel_rfl) (by kernel_rfl) (by kernel_rfl) (fun _ _ _ h => h) (Or.inl ⟨by kernel_rfl, fun w' hw => ?_⟩) T0.out ?_
    · go_simp
    simp only [Act.put, List.setIfInBounds_toArray]
    refine wpAnyH_done (by kernel_rfl) ?_ _
    clear HX HY
    go_wp2
    go_ret2
    have hr := HR.out false (by simp [hb0, hb1])
    subst hr
    exact ⟨w0.heap.size, rfl, (MapKept.heap_alloc w0 _).1, B0.out.size, B0.out.trans (T0.out.mono B0.out.size)⟩
  have hb1 : (m == m') = true := by simpa using hnn
  simp only [hb1]
  refine takeHD (i := 19) (v := .pointer (some ⟨w.heap.size, 2, none⟩)) (some 25) rfl rfl (by kernel_rfl) (by kernel_rfl) (by kernel_rfl) (fun _ _ _ h => h) (Or.inl ⟨by kernel_rfl, fun w' hw => ?_⟩) S0.out ?_
  · go_simp
  simp only [Act.put, List.setIfInBounds_toArray]
  refine takeHD (i := 20) (v := .string s) (some 26) rfl rfl (by kernel_rfl) (by kernel_rfl) (by kernel_rfl) (fun _ _ _ h => h) (Or.inl ⟨by kernel_rfl, fun w' hw => ?_⟩) S0.out ?_
  · have hq := HX.out w' hw
    go_simp
  simp only [Act.put, List.setIfInBounds_toArray]
  refine takeHD (i := 21) (v := .pointer (some ⟨w.heap.size + 1, 2, none⟩)) (some 27) rfl rfl (by kernel_rfl) (by kernel_rfl) (by kernel_rfl) (fun _ _ _ h => h) (Or.inl ⟨by kernel_rfl, fun w' hw => ?_⟩) S0.out ?_
  · go_simp
  simp only [Act.put, List.setIfInBounds_toArray]
  refine takeHD (i := 22) (v := .string s') (some 28) rfl rfl (by kernel_rfl) (by kernel_rfl) (by kernel_rfl) (fun _ _ _ h => h) (Or.inl ⟨by kernel_rfl, fun w' hw => ?_⟩) S0.out ?_
  · have hq := HY.out w' hw
    go_simp
  simp only [Act.put, List.setIfInBounds_toArray]
  refine takeHD (i := 23) (v := .bool (s.toList == s'.toList)) (some 29) rfl rfl (by kernel_rfl) (by kernel_rfl) (by kernel_rfl) (fun _ _ _ h => h) (Or.inl ⟨by kernel_rfl, fun w' hw => ?_⟩) S0.out ?_
  · go_simp
  simp only [Act.put, List.setIfInBounds_toArray]
  refine takeHD (i := 24) (v := .bool (s.toList == s'.toList)) (some 30) rfl rfl (by kernel_rfl) (by kernel_rfl) (by kernel_rfl) (fun _ _ _ h => h) (Or.inl ⟨by kernel_rfl, fun w' hw => ?_⟩) S0.out ?_
  · go_simp
  simp only [Act.put, List.setIfInBounds_toArray]
  refine wpAnyH_ready (rs := [5]) (by kernel_rfl) (by simp) ?_
  refine AllReadyH.cons rfl (fun K hK => ?_) AllReadyH.nil
  rw [if_pos (by kernel_rfl)]
  go_wp2_with fail
  have T0 : Hid (Below w0.heap.size w0 (w0.drew.alloc (.cells #[.slice ao n c, .slice ao' n' c'] 104))) := S0.out.alloc S0.out.size _
  refine hK.out _ _ T0.out (fun _ => ?_)
  clear hK K
  refine takeHD (i := 25) (v := .slice (some ⟨w0.heap.size, 0, none⟩) 1 1) (some 4) rfl rfl (by kernel_rfl) (by kernel_rfl) (by kernel_rfl) (fun _ _ _ h => h) (Or.inl ⟨by kernel_rfl, fun w' hw => ?_⟩) T0.out ?_
  · go_simp
  simp only [Act.put, List.setIfInBounds_toArray]
  refine takeHD (i := 26) (v := .bool (s.toList == s'.toList)) (some 5) rfl rfl (by kernel_rfl) (by kernel_rfl) (by kernel_rfl) (fun _ _ _ h => h) (Or.inl ⟨by kernel_rfl, fun w' hw => ?_⟩) T0.out ?_
  · go_simp
  simp only [Act.put, List.setIfInBounds_toArray]
  refine wpAnyH_done (by kernel_rfl) ?_ _
  clear HX HY
  go_wp2
  go_ret2
  have hr := HR.out (s.toList == s'.toList) (by simp [hb0, hb1])
  subst hr
  exact ⟨w0.heap.size, rfl, (MapKept.heap_alloc w0 _).1, B0.out.size, B0.out.trans (T0.out.mono B0.out.size)⟩
end Go.Proofs.YtgigalcajgjpnaaGreat

namespace Go.Proofs.YtgigalcajgjpnaaGreat
open Go.RowKit
set_option maxRecDepth 8000
set_option linter.unusedSimpArgs false

/-- How much is still to be gone through at most. -/
def mx : List (Prr Ex) → Nat
  | [] => 0
  | q :: W => 1 + szx q.b + mx W
theorem mx_append (W V : List (Prr Ex)) : mx (W ++ V) = mx W + mx V := by
  induction W with
  | nil => simp [mx]
  | cons q W ih => simp only [List.cons_append, mx, ih]; omega
theorem mx_len (W : List (Prr Ex)) : W.length ≤ mx W := by
  induction W with
  | nil => simp
  | cons q W ih => simp only [List.length_cons, mx]; omega

/-- What the elements of q so far have put behind. -/
def KidX (w : World) (D : Nat → Prop) (q : Prr Ex) (K : List (Prr Ex)) : Prop :=
  ∀ j (h : j < K.length) (h1 : j < q.a.length) (h2 : j < q.b.length), K[j].a = q.a[j].l ∧ K[j].b = q.b[j].l ∧ labX.hd q.a[j] q.b[j] ∧ El w D K[j].a K[j].u ∧ El w D K[j].b K[j].v
theorem KidX.add {w : World} {D : Nat → Prop} {q : Prr Ex} {K : List (Prr Ex)} (h : KidX w D q K) (x : Prr Ex)
    (hx : ∀ (h1 : K.length < q.a.length) (h2 : K.length < q.b.length), x.a = q.a[K.length].l ∧ x.b = q.b[K.length].l ∧ labX.hd q.a[K.length] q.b[K.length] ∧ El w D x.a x.u ∧ El w D x.b x.v) : KidX w D q (K ++ [x]) := by
  intro j hj h1 h2
  by_cases e : j < K.length
  · simp only [List.getElem_append_left e]
    exact h j e h1 h2
  · obtain rfl : j = K.length := by simp at hj; omega
    simpa using hx h1 h2
theorem KidX.mx {w : World} {D : Nat → Prop} {q : Prr Ex} : ∀ {K : List (Prr Ex)}, KidX w D q K → K.length ≤ q.a.length → q.a.length = q.b.length → mx K ≤ szx (q.b.take K.length) := by
  intro K
  induction h : K.length generalizing K with
  | zero => obtain rfl := List.length_eq_zero_iff.1 h; intros; simp [Go.Proofs.YtgigalcajgjpnaaGreat.mx]
  | succ n ih =>
    intro hk hl he
    obtain ⟨K', x, rfl⟩ : ∃ K' x, K = K' ++ [x] := by
      rcases List.eq_nil_or_concat K with rfl | ⟨K', x, rfl⟩
      · simp at h
      · exact ⟨K', x, by simp⟩
    have hn : K'.length = n := by simpa using h
    have h1 : n < q.a.length := by omega
    have h2 : n < q.b.length := by omega
    have hk' : KidX w D q K' := fun j hj a1 a2 => by
      have := hk j (by simp; omega) a1 a2
      simpa only [List.getElem_append_left hj] using this
    have := ih hn hk' (by omega) he
    rw [mx_append, szx_take _ _ h2]
    have hx := (hk n (by simp; omega) h1 h2).2.1
    have e : (K' ++ [x])[n]'(by simp; omega) = x := by
      rw [List.getElem_append_right (by omega)]
      simp [hn]
    rw [e] at hx
    have hs := q.b[n].sz_eq
    simp only [Go.Proofs.YtgigalcajgjpnaaGreat.mx, hx]
    omega

/-- Where sameLists stands. -/
def LsX (w : World) (base : Nat) (D : Nat → Prop) (W0 : List (Prr Ex)) (m k : Nat) (v : Value) (wr : World) : Prop :=
  ∃ W E, (mx W = k ∧ mx W ≤ mx W0) ∧ OwnRX wr base v W ∧ MapP wr D m E ∧ Inv labX (treeX w) W0 W E True ∧ (∀ q ∈ W, El w D q.a q.u ∧ El w D q.b q.v) ∧ (∀ b, D b → wr.heap[b]? = w.heap[b]? ∧ some b ≠ v.ownBlock) ∧ Below base w wr ∧ base ≤ m ∧ m < wr.heap.size ∧ some m ≠ v.ownBlock
/-- .. and within a list. -/
def InX2 (w : World) (base : Nat) (D : Nat → Prop) (W1 : List (Prr Ex)) (q : Prr Ex) (E : List (Plc × Plc)) (m bx : Nat) (i v : Value) (wr : World) : Prop :=
  ∃ K, i = .int .i64 K.length ∧ K.length ≤ q.a.length ∧ KidX w D q K ∧ OwnRX wr base v (W1 ++ K) ∧ MapP wr D m E ∧ (∀ b, D b → wr.heap[b]? = w.heap[b]? ∧ some b ≠ v.ownBlock) ∧ Below base w wr ∧ base ≤ m ∧ m < wr.heap.size ∧ some m ≠ v.ownBlock ∧
    wr.heap[bx]? = some (.cells #[q.u, q.v] 104 (0, 0)) ∧ some bx ≠ v.ownBlock ∧ base ≤ bx ∧ ¬ D bx

theorem World.grownBy.widen {a c : World} (h : a.grownBy c none) (row : Option Nat) : a.grownBy c row := ⟨h.os, h.tape, h.output, h.size, fun i hi _ => h.block i hi (by simp)⟩
theorem El.block {w : World} {B : Nat → Prop} {l : List Ex} {b off n cap : Nat} (h : El w B l (.slice (some ⟨b, off, none⟩) n cap)) (hl : l ≠ []) : B b := by
  cases h with
  | empty _ _ _ _ => exact absurd rfl hl
  | full _ _ _ _ V hb => exact hb

set_option maxHeartbeats 16000000 in
theorem sameListsX_any (W0 : List (Prr Ex)) (v : Value) (w : World) (base : Nat) (D : Nat → Prop) (hown : OwnRX w base v W0) (hD : DkS w D) (hDv : ∀ b, D b → some b ≠ v.ownBlock) (hW : ∀ q ∈ W0, El w D q.a q.u ∧ El w D q.b q.v)
    (hsz : mx W0 ≤ 1099511627776) (hbase : base ≤ w.heap.size) :
    Calls Tryz.prog 98 #[v, .func (.func 99) #[] #[]] w fun e w' => ∃ r, e = .returned (.bool r) ∧ (r = true ↔ Sme W0) ∧ Below base w w' := by
  have HD := Hid.mk hD
  have HZ := Hid.mk hsz
  have H0 : Hid (LsX w base D W0 w.heap.size (mx W0) v (w.alloc (.map #[] 0))) := by
    refine ⟨W0, [], ⟨rfl, Nat.le_refl _⟩, hown.kept fun k hk => (World.grownBy_alloc w _ none).block k (hown.lt hk).2 (by simp), MapP.made w D, Inv.start True _ _ _ (fun _ => trivial), hW, fun b hb => ⟨(World.grownBy_alloc w _ none).block b (hD.lt hb) (by simp), hDv b hb⟩, (Below.refl _ _).alloc hbase _, hbase, by simp, fun e => ?_⟩
    have := (hown.lt e.symm).2
    omega
  clear hown hDv hW hsz hD
  have hmm := @run_makeMap Tryz.prog
  go_enter Tryz.func98, Tryz.ntmps98
  go_wp2
  go_loopg [0] (mx W0) (fun k v wr => Hid (LsX w base D W0 w.heap.size k v wr))
  case atStart => exact H0
  case round =>
    obtain ⟨wo, hwo⟩ : ∃ q, q = wr := ⟨_, rfl⟩
    subst hwo
    obtain ⟨W, E, ⟨rfl, hle⟩, hown, hmp, hinv, hel, hdk, hbel, hbm, hml, hmv⟩ := hrel.out
    clear hrel H0
    rcases List.eq_nil_or_concat W with rfl | ⟨W1, q, rfl⟩
    · obtain ⟨ao, cap, rfl⟩ := hown.len
      have HF : Hid (Sme W0) := hinv.done trivial
      clear hinv hel hdk hmp hown
      go_wp2
      go_ret
      exact ⟨true, rfl, ⟨fun _ => HF.out, fun _ => rfl⟩, hbel⟩
    · rw [List.concat_eq_append] at hown hinv hel hle
      have Hle := Hid.mk hle
      clear hle
      obtain ⟨g, cap, rfl, hgc, hgm, hgb, hgl, hg0, hg1, hown1⟩ := hown.pop
      obtain ⟨hqa, hqb⟩ := hel q (by simp)
      obtain ⟨au, cu, hu, hu1, hu2, -⟩ := hqa.len
      obtain ⟨av, cv, hv, hv1, hv2, -⟩ := hqb.len
      rw [hu] at hg0 hqa
      rw [hv] at hg1 hqb
      have hgm2 : cap ≤ 9223372036854775807 := by unfold maxLen at hgm; exact hgm
      have hcu2 : cu ≤ 9223372036854775807 := by unfold maxLen at hu2; exact hu2
      have hcv2 : cv ≤ 9223372036854775807 := by unfold maxLen at hv2; exact hv2
      obtain ⟨c, hc⟩ : ∃ c, W1.length = c := ⟨_, rfl⟩
      rw [hc] at hg0 hg1 hgc hown1 ⊢
      have HC := Hid.mk hc
      clear hc hown hu2 hv2 hgm
      have hel1 : Hid (∀ q ∈ W1, El w D q.a q.u ∧ El w D q.b q.v) := fun x hx => hel x (List.mem_append_left _ hx)
      clear hel
      have Hinv := Hid.mk hinv
      have Hqa := Hid.mk hqa
      have Hqb := Hid.mk hqb
      have Hu := Hid.mk hu
      have Hv := Hid.mk hv
      have Hown := Hid.mk hown1
      have Hmp := Hid.mk hmp
      have Hdk := Hid.mk hdk
      have Hbel := Hid.mk hbel
      have Hmv := Hid.mk hmv
      have Hmx := Hid.mk (mx_append W1 [q])
      clear hinv hqa hqb hu hv hown1 hmp hdk hbel hmv
      have HDr : Hid (DkS wo D) := HD.out.kept fun b hb => (Hdk.out b hb).1
      obtain ⟨na, hna⟩ : ∃ n, q.a.length = n := ⟨_, rfl⟩
      obtain ⟨nb, hnb⟩ : ∃ n, q.b.length = n := ⟨_, rfl⟩
      rw [hna] at hg0 Hqa hu1 Hu
      rw [hnb] at hg1 Hqb hv1 Hv
      have Hna := Hid.mk hna
      have Hnb := Hid.mk hnb
      clear hna hnb
      have hj1 : (c : Int) < (c : Int) + 1 := by omega
      by_cases hlen : na = nb
      case neg =>
        have hb1 : ((na : Int) != (nb : Int)) = true := by rw [bne_iff_ne]; omega
        have hb2 : ((na : Int) == (nb : Int)) = false := by rw [beq_eq_false_iff_ne]; omega
        have HF : Hid (¬ Sme W0) := fun hs => hlen (by rw [← Hna.out, ← Hnb.out, Sme.one.1 (Sme.app.1 (Hinv.out.a hs).1).2])
        clear hlen
        go_wp2
        go_ret
        exact ⟨false, rfl, ⟨fun e => (by cases e), fun e => absurd e HF.out⟩, Hbel.out.alloc (by have := Hbel.out.size; omega) _⟩
      subst hlen
      by_cases h0 : na = 0
      case pos =>
        subst h0
        have HR : Hid (∀ wz, Below wo.heap.size wo wz → LsX w base D W0 w.heap.size (mx W1) (.slice (some ⟨g, 0, none⟩) c cap) wz) := by
          intro wz hb
          have hbl := Hbel.out.size
          exact ⟨W1, E, ⟨rfl, by have := Hle.out; rw [Hmx.out] at this; omega⟩, Hown.out.kept fun k hk => hb.block k (Hown.out.lt hk).2, Hmp.out.kept (hb.block _ Hmp.out.lt), Hinv.out.empty (List.length_eq_zero_iff.1 Hna.out) (List.length_eq_zero_iff.1 Hnb.out), hel1.out,
            fun b hb' => ⟨(hb.block b (HDr.out.lt hb')).trans (Hdk.out b hb').1, (Hdk.out b hb').2⟩, Hbel.out.trans (hb.mono (by omega)), hbm, Nat.lt_of_lt_of_le Hmp.out.lt hb.size, Hmv.out⟩
        go_wp2
        go_roundg (mx W1)
        case measure => rw [List.concat_eq_append, Hmx.out]; simp only [mx]; omega
        case rel => exact HR.out _ ((Below.refl _ _).alloc (Nat.le_refl _) _)
      have hp : 0 < na := by omega
      have hp1 : (0 : Int) < na := by omega
      have hz1 : ((na : Int) == 0) = false := by rw [beq_eq_false_iff_ne]; omega
      have hz2 : ((na : Int) != (na : Int)) = false := by simp
      have hza : q.a ≠ [] := by rintro e; have := Hna.out; rw [e] at this; simp at this; omega
      have hzb : q.b ≠ [] := by rintro e; have := Hnb.out; rw [e] at this; simp at this; omega
      obtain ⟨ba, oa, U, rfl, hela⟩ := Hqa.out.elems hza
      obtain ⟨bb, ob, V, rfl, helb⟩ := Hqb.out.elems hzb
      have Hda := Hid.mk (Hqa.out.block hza)
      have Hdb := Hid.mk (Hqb.out.block hzb)
      have Hta := Hid.mk (treeX_eq Hqa.out hza)
      have Htb := Hid.mk (treeX_eq Hqb.out hzb)
      have Hela := Hid.mk hela
      have Helb := Hid.mk helb
      clear hela helb hza hzb h0
      have HG0 := Hid.mk (World.grownBy_alloc wo (.cells #[.slice (some ⟨ba, oa, none⟩) na cu, .slice (some ⟨bb, ob, none⟩) na cv] 104) none)
      have HB0 := Hid.mk (MapKept.heap_alloc wo (.cells #[.slice (some ⟨ba, oa, none⟩) na cu, .slice (some ⟨bb, ob, none⟩) na cv] 104)).1
      have HDj : Hid (∀ W, wo.grownBy W (some w.heap.size) → DkS W D) := fun W h => HDr.out.kept fun b hb => h.block b (HDr.out.lt hb) (by intro e; exact Hmp.out.not HDr.out hb (by simpa using e))
      go_wp2_with fail
      refine (joinX_any _ D w.heap.size E ba oa na cu bb ob na cv hp hp (HDj.out _ (World.grownBy.widen HG0.out _)) Hda.out Hdb.out (Hmp.out.kept (HG0.out.block _ Hmp.out.lt (by simp))) Hinv.out.up).mono ?_
      rintro e wj ⟨r, E', rfl, hmj, huj, hjj, hgj⟩
      have Hmj := Hid.mk hmj
      have Hgj := Hid.mk ((World.grownBy.widen HG0.out (some w.heap.size)).trans hgj)
      have HBj : Hid (wj.heap[wo.heap.size]? = some (.cells #[.slice (some ⟨ba, oa, none⟩) na cu, .slice (some ⟨bb, ob, none⟩) na cv] 104 (0, 0))) := (hgj.block _ (Array.getElem?_eq_some_iff.1 HB0.out).1 (by intro e; simp at e; omega)).trans HB0.out
      have Huj := Hid.mk huj
      have Hjj := Hid.mk hjj
      have Hbj : Hid (Below base w wj) := Hbel.out.grown Hgj.out (Nat.le_trans hbase Hbel.out.size) (by intro k hk; simp at hk; omega)
      have Howj : Hid (OwnRX wj base (.slice (some ⟨g, 0, none⟩) c cap) W1) := Hown.out.kept fun k hk => Hgj.out.block k (Hown.out.lt hk).2 (by intro e; simp [Value.ownBlock] at hk; have := Hmv.out; simp [Value.ownBlock] at this; simp at e; omega)
      have Hdkj : Hid (∀ b, D b → wj.heap[b]? = w.heap[b]? ∧ some b ≠ (Value.slice (some ⟨g, 0, none⟩) c cap).ownBlock) := fun b hb => ⟨(Hgj.out.block b (HDr.out.lt hb) (by intro e; exact Hmp.out.not HDr.out hb (by simpa using e))).trans (Hdk.out b hb).1, (Hdk.out b hb).2⟩
      have Hsj : Hid (wo.heap.size + 1 ≤ wj.heap.size) := by have := hgj.size; simpa [Hid] using this
      have hmlj : w.heap.size < wj.heap.size := hmj.lt
      clear hmj huj hjj hgj HG0 HB0 HDj Hmp Hown Hdk
      cases r with
      | false =>
        have HR : Hid (LsX w base D W0 w.heap.size (mx W1) (.slice (some ⟨g, 0, none⟩) c cap) wj) :=
          ⟨W1, E', ⟨rfl, by have := Hle.out; rw [Hmx.out] at this; omega⟩, Howj.out, Hmj.out, Hinv.out.skip Hta.out Htb.out Hjj.out Huj.out, hel1.out, Hdkj.out, Hbj.out, hbm, hmlj, Hmv.out⟩
        go_wp2
        go_roundg (mx W1)
        case measure => rw [List.concat_eq_append, Hmx.out]; simp only [mx]; omega
        case rel => exact HR.out
      | true =>
        have Hinvj := Hid.mk (Hinv.out.join Hta.out Htb.out Hjj.out Huj.out)
        clear Hinv Hta Htb Hjj Huj
        have d0 : wj.cell? ⟨wo.heap.size, 0, none⟩ = some (.slice (some ⟨ba, oa, none⟩) na cu) := by rw [cell_of_row wj _ 0 _ _ (0, 0) HBj.out]; rfl
        have d1 : wj.cell? ⟨wo.heap.size, 1, none⟩ = some (.slice (some ⟨bb, ob, none⟩) na cv) := by rw [cell_of_row wj _ 1 _ _ (0, 0) HBj.out]; rfl
        have HI : Hid (InX2 w base D W1 q E' w.heap.size wo.heap.size (.int .i64 0) (.slice (some ⟨g, 0, none⟩) c cap) wj) := by
          refine ⟨[], rfl, Nat.zero_le _, fun j h => absurd h (Nat.not_lt_zero j), by rw [List.append_nil]; exact Howj.out, Hmj.out, Hdkj.out, Hbj.out, hbm, hmlj, Hmv.out, by rw [Hu.out, Hv.out]; exact HBj.out, ?_, ?_, ?_⟩
          · intro e
            simp [Value.ownBlock] at e
            omega
          · exact Nat.le_trans hbase Hbel.out.size
          · intro e
            have := HDr.out.lt e
            omega
        clear Hmj Hdkj Hbj Howj HBj Hgj
        go_wp2
        go_loopw [0, 45] (fun v i wz => Hid (InX2 w base D W1 q E' w.heap.size wo.heap.size i v wz)) (fun _ i _ => q.a.length - (intOf i).toNat)
        case atStart => exact HI
        case round =>
          obtain ⟨v, hvq⟩ : ∃ q, q = u0 := ⟨_, rfl⟩
          subst hvq
          obtain ⟨KK, rfl, hKl, hkid, hok, hmk, hdk2, hbk, -, hmlk, hmvk, hbox, hbxv, hbxb, hbxD⟩ := hrel.out
          clear hrel HI d0 d1
          rw [Hu.out, Hv.out] at hbox
          have hbl2 := (Array.getElem?_eq_some_iff.1 hbox).1
          have d0 : wr.cell? ⟨wo.heap.size, 0, none⟩ = some (.slice (some ⟨ba, oa, none⟩) na cu) := by rw [cell_of_row wr _ 0 _ _ (0, 0) hbox]; rfl
          have d1 : wr.cell? ⟨wo.heap.size, 1, none⟩ = some (.slice (some ⟨bb, ob, none⟩) na cv) := by rw [cell_of_row wr _ 1 _ _ (0, 0) hbox]; rfl
          have Hbox := Hid.mk hbox
          have Hkid := Hid.mk hkid
          have Hok := Hid.mk hok
          have Hmk := Hid.mk hmk
          have Hdk2 := Hid.mk hdk2
          have Hbk := Hid.mk hbk
          have Hmvk := Hid.mk hmvk
          have Hbxv := Hid.mk hbxv
          have HbxD := Hid.mk hbxD
          clear hbox hkid hok hmk hdk2 hbk hmvk hbxv hbxD
          have HDr2 : Hid (DkS wr D) := HD.out.kept fun b hb => (Hdk2.out b hb).1
          rw [Hna.out] at hKl
          obtain ⟨kk, hkk⟩ : ∃ k, KK.length = k := ⟨_, rfl⟩
          rw [hkk] at hKl ⊢
          have Hkk := Hid.mk hkk
          clear hkk
          by_cases hkl : kk < na
          · have hi1 : (kk : Int) < na := by omega
            have hka : kk < q.a.length := by rw [Hna.out]; exact hkl
            have hkb : kk < q.b.length := by rw [Hnb.out]; exact hkl
            obtain ⟨⟨x0, x1, x2, x3⟩, hsa, -⟩ := Hela.out kk hka
            obtain ⟨⟨y0, y1, y2, y3⟩, hsb, -⟩ := Helb.out kk hkb
            have HH : Hid (∀ b : Bool, hdB q.a[kk] q.b[kk] = b → (b = false → ¬ Sme W0) ∧ (b = true → labX.hd q.a[kk] q.b[kk])) := by
              intro b hb
              subst hb
              refine ⟨fun hf hs => ?_, fun h => hdB_iff.1 h⟩
              have := (Hinvj.out.a hs).2.1
              have : labX.hd q.a[kk] q.b[kk] := labX.self _ _ (by simp only [this])
              rw [hdB_iff.2 this] at hf
              cases hf
            have HAd0 : Hid (∀ (u v : Value) (b : Bool), U kk = u → V kk = v → b = true → hdB q.a[kk] q.b[kk] = b → KidX w D q (KK ++ [⟨q.a[kk].l, q.b[kk].l, u, v⟩])) := by
              rintro u v b rfl rfl hb1 hb2
              refine Hkid.out.add _ fun h1 h2 => ?_
              have hq := Hkk.out
              subst hq
              exact ⟨rfl, rfl, hdB_iff.1 (hb2.trans hb1), hsa, hsb⟩
            obtain ⟨aau, cau, hua, -, -, -⟩ := hsa.len
            obtain ⟨aav, cav, hub, -, -, -⟩ := hsb.len
            have HAd := Hid.mk (fun (b : Bool) => HAd0.out _ _ b hua hub)
            clear HAd0
            rw [hua] at x3
            rw [hub] at y3
            obtain ⟨tx, htx⟩ : ∃ t, q.a[kk] = t := ⟨_, rfl⟩
            obtain ⟨ty, hty⟩ : ∃ t, q.b[kk] = t := ⟨_, rfl⟩
            rw [htx, hty] at HH HAd
            rw [htx] at x0 x1 x2 x3
            rw [hty] at y0 y1 y2 y3
            clear hsa hsb hua hub htx hty hka hkb
            have hbd : ba < w.heap.size := by have := HD.out.lt Hda.out; exact this
            have hbd2 : bb < w.heap.size := by have := HD.out.lt Hdb.out; exact this
            have HXA : Hid (∀ w' : World, (∀ b0, (D b0 ∨ b0 = wo.heap.size) → w'.heap[b0]? = wr.heap[b0]?) → w'.cell? ⟨ba, oa + kk * 4, none⟩ = some (.int .i64 tx.k) ∧ w'.cell? ⟨ba, oa + kk * 4 + 1, none⟩ = some (.int .i64 tx.n) ∧ w'.cell? ⟨ba, oa + kk * 4 + 2, none⟩ = some (.string tx.s) ∧ w'.cell? ⟨ba, oa + kk * 4 + 3, none⟩ = some (.slice aau tx.l.length cau)) := by
              intro w' hw
              have hh := (hw ba (.inl Hda.out)).trans (Hdk2.out ba Hda.out).1
              exact ⟨by rw [World.cell?_of_block (w := w) hh]; exact x0, by rw [World.cell?_of_block (w := w) hh]; exact x1, by rw [World.cell?_of_block (w := w) hh]; exact x2, by rw [World.cell?_of_block (w := w) hh]; exact x3⟩
            have HXB : Hid (∀ w' : World, (∀ b0, (D b0 ∨ b0 = wo.heap.size) → w'.heap[b0]? = wr.heap[b0]?) → w'.cell? ⟨bb, ob + kk * 4, none⟩ = some (.int .i64 ty.k) ∧ w'.cell? ⟨bb, ob + kk * 4 + 1, none⟩ = some (.int .i64 ty.n) ∧ w'.cell? ⟨bb, ob + kk * 4 + 2, none⟩ = some (.string ty.s) ∧ w'.cell? ⟨bb, ob + kk * 4 + 3, none⟩ = some (.slice aav ty.l.length cav)) := by
              intro w' hw
              have hh := (hw bb (.inl Hdb.out)).trans (Hdk2.out bb Hdb.out).1
              exact ⟨by rw [World.cell?_of_block (w := w) hh]; exact y0, by rw [World.cell?_of_block (w := w) hh]; exact y1, by rw [World.cell?_of_block (w := w) hh]; exact y2, by rw [World.cell?_of_block (w := w) hh]; exact y3⟩
            have HXD : Hid (∀ w' : World, (∀ b0, (D b0 ∨ b0 = wo.heap.size) → w'.heap[b0]? = wr.heap[b0]?) → ∀ o, w'.cell? ⟨wo.heap.size, o, none⟩ = #[Value.slice (some ⟨ba, oa, none⟩) na cu, .slice (some ⟨bb, ob, none⟩) na cv][o]?) := fun w' hw o => cell_of_row w' _ o _ _ (0, 0) ((hw _ (.inr rfl)).trans Hbox.out)
            clear x0 x1 x2 x3 y0 y1 y2 y3 d0 d1
            have S0 : Hid (∀ b0, (D b0 ∨ b0 = wo.heap.size) → wr.drew.heap[b0]? = wr.heap[b0]?) := fun _ _ => rfl
            go_wp2_with fail
            refine wp_region_held_drew (S := fun (w' : World) => ∀ b0, (D b0 ∨ b0 = wo.heap.size) → w'.heap[b0]? = wr.heap[b0]?) (by kernel_rfl) S0.out (fun _ => ?_)
            refine takeHD (i := 0) (v := .func (.func 99) #[] #[]) (some 49) rfl rfl (by kernel_rfl) (by kernel_rfl) (by kernel_rfl) (fun _ _ _ h => h) (Or.inl ⟨by kernel_rfl, fun w' hw => ?_⟩) S0.out ?_
            · go_simp
            simp only [Act.put, List.setIfInBounds_toArray]
            refine takeHD (i := 1) (v := .pointer (some ⟨wo.heap.size, 0, none⟩)) (some 50) rfl rfl (by kernel_rfl) (by kernel_rfl) (by kernel_rfl) (fun _ _ _ h => h) (Or.inl ⟨by kernel_rfl, fun w' hw => ?_⟩) S0.out ?_
            · go_simp
            simp only [Act.put, List.setIfInBounds_toArray]
            refine takeHD (i := 2) (v := .slice (some ⟨ba, oa, none⟩) na cu) (some 51) rfl rfl (by kernel_rfl) (by kernel_rfl) (by kernel_rfl) (fun _ _ _ h => h) (Or.inl ⟨by kernel_rfl, fun w' hw => ?_⟩) S0.out ?_
            · have hq := HXD.out w' hw
              go_simp
            simp only [Act.put, List.setIfInBounds_toArray]
            refine takeHD (i := 3) (v := .int .i64 kk) (some 52) rfl rfl (by kernel_rfl) (by kernel_rfl) (by kernel_rfl) (fun _ _ _ h => h) (Or.inl ⟨by kernel_rfl, fun w' hw => ?_⟩) S0.out ?_
            · go_simp
            simp only [Act.put, List.setIfInBounds_toArray]
            refine takeHD (i := 4) (v := .pointer (some ⟨ba, oa + kk * 4, none⟩)) (some 53) rfl rfl (by kernel_rfl) (by kernel_rfl) (by kernel_rfl) (fun _ _ _ h => h) (Or.inl ⟨by kernel_rfl, fun w' hw => ?_⟩) S0.out ?_
            · go_simp
            simp only [Act.put, List.setIfInBounds_toArray]
            refine takeHD (i := 5) (v := xx tx.k tx.n tx.s (.slice aau tx.l.length cau)) (some 54) rfl rfl (by kernel_rfl) (by kernel_rfl) (by kernel_rfl) (fun _ _ _ h => h) (Or.inl ⟨by kernel_rfl, fun w' hw => ?_⟩) S0.out ?_
            · obtain ⟨p0, p1, p2, p3⟩ := HXA.out w' hw
              go_simp
            simp only [Act.put, List.setIfInBounds_toArray]
            refine takeHD (i := 6) (v := .pointer (some ⟨wo.heap.size, 1, none⟩)) (some 55) rfl rfl (by kernel_rfl) (by kernel_rfl) (by kernel_rfl) (fun _ _ _ h => h) (Or.inl ⟨by kernel_rfl, fun w' hw => ?_⟩) S0.out ?_
            · go_simp
            simp only [Act.put, List.setIfInBounds_toArray]
            refine takeHD (i := 7) (v := .slice (some ⟨bb, ob, none⟩) na cv) (some 56) rfl rfl (by kernel_rfl) (by kernel_rfl) (by kernel_rfl) (fun _ _ _ h => h) (Or.inl ⟨by kernel_rfl, fun w' hw => ?_⟩) S0.out ?_
            · have hq := HXD.out w' hw
              go_simp
            simp only [Act.put, List.setIfInBounds_toArray]
            refine takeHD (i := 8) (v := .int .i64 kk) (some 57) rfl rfl (by kernel_rfl) (by kernel_rfl) (by kernel_rfl) (fun _ _ _ h => h) (Or.inl ⟨by kernel_rfl, fun w' hw => ?_⟩) S0.out ?_
            · go_simp
            simp only [Act.put, List.setIfInBounds_toArray]
            refine takeHD (i := 9) (v := .pointer (some ⟨bb, ob + kk * 4, none⟩)) (some 58) rfl rfl (by kernel_rfl) (by kernel_rfl) (by kernel_rfl) (fun _ _ _ h => h) (Or.inl ⟨by kernel_rfl, fun w' hw => ?_⟩) S0.out ?_
            · go_simp
            simp only [Act.put, List.setIfInBounds_toArray]
            refine takeHD (i := 10) (v := xx ty.k ty.n ty.s (.slice aav ty.l.length cav)) (some 59) rfl rfl (by kernel_rfl) (by kernel_rfl) (by kernel_rfl) (fun _ _ _ h => h) (Or.inl ⟨by kernel_rfl, fun w' hw => ?_⟩) S0.out ?_
            · obtain ⟨p0, p1, p2, p3⟩ := HXB.out w' hw
              go_simp
            simp only [Act.put, List.setIfInBounds_toArray]
            refine wpAnyH_ready (rs := [11]) (by kernel_rfl) (by simp) ?_
            refine AllReadyH.cons rfl (fun K hK => ?_) AllReadyH.nil
            rw [if_pos (by kernel_rfl)]
            go_wp2_with fail
            refine (withinX_any tx ty aau _ cau aav _ cav _).mono ?_
            rintro e w3 ⟨mb, rfl, hmb, hmbl, hb3⟩
            have S1 : Hid (∀ b0, (D b0 ∨ b0 = wo.heap.size) → w3.heap[b0]? = wr.heap[b0]?) := by
              intro b0 h0
              refine hb3.block b0 ?_
              rcases h0 with h0 | rfl
              · exact HDr2.out.lt h0
              · exact hbl2
            refine hK.out _ _ S1.out (fun _ => ?_)
            clear hK K
            obtain ⟨R, hR⟩ : ∃ R, hdB tx ty = R := ⟨_, rfl⟩
            rw [hR]
            have HR := Hid.mk hR
            clear hR
            refine takeHD (i := 12) (v := .tuple #[.slice (some ⟨mb, 0, none⟩) 1 1, .bool R]) (some 48) rfl rfl (by kernel_rfl) (by kernel_rfl) (by kernel_rfl) (fun _ _ _ h => h) (Or.inl ⟨by kernel_rfl, fun w' hw => ?_⟩) S1.out ?_
            · go_simp
            simp only [Act.put, List.setIfInBounds_toArray]
            refine takeHD (i := 13) (v := .slice (some ⟨mb, 0, none⟩) 1 1) (some 61) rfl rfl (by kernel_rfl) (by kernel_rfl) (by kernel_rfl) (fun _ _ _ h => h) (Or.inl ⟨by kernel_rfl, fun w' hw => ?_⟩) S1.out ?_
            · go_simp
            simp only [Act.put, List.setIfInBounds_toArray]
            refine takeHD (i := 14) (v := .bool R) (some 62) rfl rfl (by kernel_rfl) (by kernel_rfl) (by kernel_rfl) (fun _ _ _ h => h) (Or.inl ⟨by kernel_rfl, fun w' hw => ?_⟩) S1.out ?_
            · go_simp
            simp only [Act.put, List.setIfInBounds_toArray]
            refine takeHD (i := 15) (v := .slice (some ⟨mb, 0, none⟩) 1 1) (some 9) rfl rfl (by kernel_rfl) (by kernel_rfl) (by kernel_rfl) (fun _ _ _ h => h) (Or.inl ⟨by kernel_rfl, fun w' hw => ?_⟩) S1.out ?_
            · go_simp
            simp only [Act.put, List.setIfInBounds_toArray]
            refine takeHD (i := 16) (v := .bool R) (some 10) rfl rfl (by kernel_rfl) (by kernel_rfl) (by kernel_rfl) (fun _ _ _ h => h) (Or.inl ⟨by kernel_rfl, fun w' hw => ?_⟩) S1.out ?_
            · go_simp
            simp only [Act.put, List.setIfInBounds_toArray]
            refine wpAnyH_done (by kernel_rfl) ?_ _
            clear HXA HXB HXD S0
            have Hb3 : Hid (Below wr.heap.size wr w3) := (Below.drewSelf _ _ 1 : Below wr.heap.size wr wr.drew).trans hb3
            have Hmb := Hid.mk hmb
            clear hb3 hmb
            cases R with
            | false =>
              have HF : Hid (¬ Sme W0) := (HH.out _ HR.out).1 rfl
              have HBB : Hid (Below base w w3) := Hbk.out.trans (Hb3.out.mono (Nat.le_trans hbase Hbk.out.size))
              go_wp2
              go_ret
              exact ⟨false, rfl, ⟨fun e => (by cases e), fun e => absurd e HF.out⟩, HBB.out⟩
            | true =>
              have Hok3 : Hid (OwnRX w3 base v (W1 ++ KK)) := Hok.out.kept fun k hk => Hb3.out.block k (Hok.out.lt hk).2
              have HBB : Hid (Below base w w3) := Hbk.out.trans (Hb3.out.mono (Nat.le_trans hbase Hbk.out.size))
              have HLen : Hid ((W1 ++ KK).length + 1 ≤ 2199023255552) := by
                refine Hid.mk ?_
                have h1 := mx_len W1
                have h2 := Hmx.out
                have h3 := HZ.out
                have h4 := szx_length q.b
                have h5 := Hnb.out
                have h6 := Hkk.out
                have h7 := HC.out
                simp only [mx] at h2
                rw [List.length_append]
                have h8 := Hle.out
                rw [h2] at h8
                omega
              have HOne : Hid (∀ x ∈ ([⟨tx.l, ty.l, .slice aau tx.l.length cau, .slice aav ty.l.length cav⟩] : List (Prr Ex)), x.u.oneCell' = true ∧ x.v.oneCell' = true) := by
                intro x hx
                obtain rfl : x = _ := by simpa using hx
                exact ⟨rfl, rfl⟩
              go_wp2_with (at_builtin; refine wpList_append_rX rfl _ _ rfl base _ (W1 ++ KK) [⟨tx.l, ty.l, .slice aau tx.l.length cau, .slice aav ty.l.length cav⟩] rfl Hok3.out mb 1 rfl Hmb.out HOne.out (Nat.le_trans hbase HBB.out.size) HLen.out ?_; intro v4 w4 ho4 hg4 hv4)
              have hs34 := hg4.size
              have hs23 := Hb3.out.size
              have hne4 : ∀ b, b < w3.heap.size → some b ≠ v.ownBlock → some b ≠ v4.ownBlock := by
                intro b hb h1
                rcases hv4 with h | h
                · rw [h]; exact h1
                · rw [h]; intro e; simp at e; omega
              have hin : InX2 w base D W1 q E' w.heap.size wo.heap.size (.int .i64 (kk + 1 : Nat)) v4 w4 := by
                have hk3 : ∀ b, b < wr.heap.size → some b ≠ v.ownBlock → w4.heap[b]? = wr.heap[b]? := fun b hb h1 => (hg4.block b (by omega) h1).trans (Hb3.out.block b hb)
                refine ⟨KK ++ [⟨tx.l, ty.l, .slice aau tx.l.length cau, .slice aav ty.l.length cav⟩], by simp [Hkk.out], by rw [List.length_append, Hkk.out, Hna.out]; exact hkl, HAd.out true rfl HR.out, by rw [← List.append_assoc]; exact ho4,
                  Hmk.out.kept (hk3 _ Hmk.out.lt Hmvk.out), fun b hb => ⟨(hk3 b (HDr2.out.lt hb) (Hdk2.out b hb).2).trans (Hdk2.out b hb).1, hne4 b (by have := HDr2.out.lt hb; omega) (Hdk2.out b hb).2⟩, HBB.out.grown hg4 (Nat.le_trans hbase HBB.out.size) (fun k hk => (Hok3.out.lt hk).1), hbm, by omega, hne4 _ (by have := Hmk.out.lt; omega) Hmvk.out,
                  by rw [Hu.out, Hv.out]; exact (hk3 _ hbl2 Hbxv.out).trans Hbox.out, hne4 _ (by omega) Hbxv.out, hbxb, HbxD.out⟩
              have HIN := Hid.mk hin
              clear hin hne4 ho4 hg4 hv4
              go_wp2
              go_roundw
              case measure => have := Hna.out; simp [intOf]; omega
              case rel => exact HIN.out
          · obtain rfl : kk = na := by omega
            have hi1 : ¬ ((kk : Int) < (kk : Int)) := by omega
            have HMz : Hid (mx (W1 ++ KK) < mx (W1 ++ [q])) := by
              refine Hid.mk ?_
              have h1 := Hkid.out.mx (by rw [Hkk.out, Hna.out]; exact Nat.le_refl _) (by rw [Hna.out, Hnb.out])
              have h2 := szx_take_le q.b KK.length
              rw [mx_append, mx_append]
              simp only [mx]
              omega
            have HR : Hid (LsX w base D W0 w.heap.size (mx (W1 ++ KK)) v wr) := by
              refine ⟨W1 ++ KK, E', ⟨rfl, Nat.le_trans (Nat.le_of_lt HMz.out) Hle.out⟩, Hok.out, Hmk.out, ?_, ?_, Hdk2.out, Hbk.out, hbm, hmlk, Hmvk.out⟩
              · have hK2 : ∀ j (h : j < KK.length), ∃ (h1 : j < q.a.length) (h2 : j < q.b.length), KK[j].a = q.a[j].l ∧ KK[j].b = q.b[j].l ∧ labX.hd q.a[j] q.b[j] ∧ El w D KK[j].a KK[j].u ∧ El w D KK[j].b KK[j].v := by
                  intro j h
                  have h1 : j < q.a.length := by rw [Hna.out, ← Hkk.out]; exact h
                  have h2 : j < q.b.length := by rw [Hnb.out, ← Hkk.out]; exact h
                  exact ⟨h1, h2, Hkid.out j h h1 h2⟩
                refine Hinvj.out.kids (by rw [Hna.out, Hnb.out]) (fun h => h) (fun _ h => h) (fun _ i h h' => (Hkid.out i (by rw [Hkk.out, ← Hna.out]; exact h) h h').2.2.1) ?_ ?_
                · intro x hx
                  obtain ⟨j, hj, rfl⟩ := List.mem_iff_getElem.1 hx
                  obtain ⟨h1, h2, e1, e2, -⟩ := hK2 j hj
                  exact ⟨j, 0, h1, h2, by simp [labX], by simp [labX], by rw [e1]; rfl, by rw [e2]; rfl⟩
                · intro i h h' j k k'
                  have hi : i < KK.length := by rw [Hkk.out, ← Hna.out]; exact h
                  obtain ⟨e1, e2, -⟩ := Hkid.out i hi h h'
                  obtain rfl : j = 0 := by simp [labX] at k; omega
                  exact ⟨_, List.getElem_mem hi, e1, e2⟩
              · intro x hx
                rcases List.mem_append.1 hx with hx | hx
                · exact hel1.out x hx
                · obtain ⟨j, hj, rfl⟩ := List.mem_iff_getElem.1 hx
                  have h1 : j < q.a.length := by rw [Hna.out, ← Hkk.out]; exact hj
                  have h2 : j < q.b.length := by rw [Hnb.out, ← Hkk.out]; exact hj
                  exact (Hkid.out j hj h1 h2).2.2.2
            go_wp2
            go_roundg (mx (W1 ++ KK))
            case measure => exact HMz.out
            case rel => exact HR.out
end Go.Proofs.YtgigalcajgjpnaaGreat

namespace Go.Proofs.YtgigalcajgjpnaaGreat
open Go.RowKit
set_option maxRecDepth 8000

theorem sameExprs_any (W0 : List (Prr Ex)) (v : Value) (w : World) (base : Nat) (D : Nat → Prop) (hown : OwnRX w base v W0) (hD : DkS w D) (hDv : ∀ b, D b → some b ≠ v.ownBlock) (hW : ∀ q ∈ W0, El w D q.a q.u ∧ El w D q.b q.v)
    (hsz : mx W0 ≤ 1099511627776) (hbase : base ≤ w.heap.size) :
    Calls Tryz.prog 71 #[v] w fun e w' => ∃ r, e = .returned (.bool r) ∧ (r = true ↔ Sme W0) ∧ Below base w w' := by
  have HS := Hid.mk (sameListsX_any W0 v w base D hown hD hDv hW hsz hbase)
  clear hown hD hDv hW hsz
  go_enter Tryz.func71, Tryz.ntmps71
  go_wp2_with fail
  refine HS.out.mono ?_
  rintro e w' ⟨r, rfl, hr, hb⟩
  have HR := Hid.mk hr
  clear hr
  go_wp2
  go_ret
  exact ⟨r, rfl, HR.out, hb⟩

/-- Blocks of cells below n, none of them frozen. -/
def DD (w : World) (n : Nat) (b : Nat) : Prop := b < n ∧ (∃ c e f, w.heap[b]? = some (.cells c e f)) ∧ uf w b
theorem DD.dks (w : World) (n : Nat) : DkS w (DD w n) := fun _ h => h.2
theorem El.toD {w w' : World} {l : List Ex} {v : Value} (h : El w (uf w) l v) (hb : Below w.heap.size w w') {n : Nat} (hn : w.heap.size ≤ n) : El w' (DD w' n) l v := by
  have h1 : El w (fun b => b < w.heap.size ∧ uf w b ∧ ∃ c e f, w.heap[b]? = some (.cells c e f)) l v := h.cells.imp fun b hb hlt => ⟨hlt, hb.1, hb.2⟩
  refine (h1.grow hb).imp fun b hq _ => ?_
  obtain ⟨hlt, hf, c, e, f, hc⟩ := hq
  have hh := hb.block b hlt
  exact ⟨by omega, ⟨c, e, f, hh.trans hc⟩, fun o => by rw [World.frozen?_of_block (w := w) (a := ⟨b, o, none⟩) hh]; exact hf o⟩
theorem DD.new {w : World} {g n : Nat} {c : Array Value} {e : TypeId} (hg : w.heap[g]? = some (.cells c e (0, 0))) (hn : g < n) : DD w n g :=
  ⟨hn, ⟨_, _, _, hg⟩, fun o => by simp [World.frozen?, hg]⟩
/-- A term in a list of its own. -/
theorem El.alone {w : World} {D : Nat → Prop} {a : Ex} {x : Value} {g : Nat} (hg : w.heap[g]? = some (.cells #[.int .i64 a.k, .int .i64 a.n, .string a.s, x] 41 (0, 0))) (hD : D g) (hs : a.s.size ≤ maxLen) (hx : El w D a.l x) : El w D [a] (.slice (some ⟨g, 0, none⟩) 1 1) := by
  have := El.full (w := w) (B := D) [a] g 0 1 (fun _ => x) hD (by simp) (by simp) (by unfold maxLen; omega) (fun i h => by
      have h0 : i = 0 := by simpa using h
      subst h0
      exact hs)
    (fun i h => by
      have h0 : i = 0 := by simpa using h
      subst h0
      exact ⟨by rw [cell_of_row w _ _ _ _ (0, 0) hg]; rfl, by rw [cell_of_row w _ _ _ _ (0, 0) hg]; rfl, by rw [cell_of_row w _ _ _ _ (0, 0) hg]; rfl, by rw [cell_of_row w _ _ _ _ (0, 0) hg]; rfl⟩)
    (fun i h => by
      have h0 : i = 0 := by simpa using h
      subst h0
      exact hx)
  exact this

set_option maxHeartbeats 2000000 in
theorem implSameExpr_any (a b : Ex) (x y : Value) (w : World) (hx : El w (uf w) a.l x) (hy : El w (uf w) b.l y) (hsa : a.s.size ≤ maxLen) (hsb : b.s.size ≤ maxLen) (hz : b.sz ≤ 1048576) :
    Calls Tryz.prog 43 #[xx a.k a.n a.s x, xx b.k b.n b.s y] w fun e w' => e = .returned (.bool (sameX a b)) ∧ Below w.heap.size w w' := by
  obtain ⟨xo, xc, rfl, -⟩ := hx.len
  obtain ⟨yo, yc, rfl, -⟩ := hy.len
  have B2 : Below w.heap.size w ((w.alloc (.cells #[.int .i64 a.k, .int .i64 a.n, .string a.s, .slice xo a.l.length xc] 41)).alloc (.cells #[.int .i64 b.k, .int .i64 b.n, .string b.s, .slice yo b.l.length yc] 41)) := ((Below.refl _ _).alloc (Nat.le_refl _) _).alloc (by simp) _
  have S2 : ((w.alloc (.cells #[.int .i64 a.k, .int .i64 a.n, .string a.s, .slice xo a.l.length xc] 41)).alloc (.cells #[.int .i64 b.k, .int .i64 b.n, .string b.s, .slice yo b.l.length yc] 41)).heap.size = w.heap.size + 2 := by simp
  have HB2 := Hid.mk B2
  have HS2 := Hid.mk S2
  have HX := Hid.mk hx
  have HY := Hid.mk hy
  have HA := Hid.mk hsa
  have HB := Hid.mk hsb
  have HZ := Hid.mk hz
  clear B2 S2 hx hy hsa hsb hz
  go_enter Tryz.func43, Tryz.ntmps43
  go_wp2_with fail
  generalize (w.alloc (.cells #[.int .i64 a.k, .int .i64 a.n, .string a.s, .slice xo a.l.length xc] 41)).alloc (.cells #[.int .i64 b.k, .int .i64 b.n, .string b.s, .slice yo b.l.length yc] 41) = W2 at *
  obtain ⟨hA, hB, hP, hb5, hs5⟩ := three_alloc W2 (w.heap.size + 1 + 1) HS2.out (.cells #[.int .i64 a.k, .int .i64 a.n, .string a.s, .slice xo a.l.length xc] 41) (.cells #[.int .i64 b.k, .int .i64 b.n, .string b.s, .slice yo b.l.length yc] 41)
    (.cells #[.slice (some ⟨w.heap.size + 1 + 1, 0, none⟩) 1 1, .slice (some ⟨w.heap.size + 1 + 1 + 1, 0, none⟩) 1 1] 104)
  generalize ((W2.alloc (.cells #[.int .i64 a.k, .int .i64 a.n, .string a.s, .slice xo a.l.length xc] 41)).alloc (.cells #[.int .i64 b.k, .int .i64 b.n, .string b.s, .slice yo b.l.length yc] 41)).alloc
    (.cells #[.slice (some ⟨w.heap.size + 1 + 1, 0, none⟩) 1 1, .slice (some ⟨w.heap.size + 1 + 1 + 1, 0, none⟩) 1 1] 104) = W5 at *
  have hbw : Below w.heap.size w W5 := HB2.out.trans (hb5.mono (by omega))
  have hxD := HX.out.toD hbw (n := w.heap.size + 1 + 1 + 1 + 1) (by omega)
  have hyD := HY.out.toD hbw (n := w.heap.size + 1 + 1 + 1 + 1) (by omega)
  have hqa := El.alone (x := .slice xo a.l.length xc) hA (DD.new (n := w.heap.size + 1 + 1 + 1 + 1) hA (by omega)) HA.out hxD
  have hqb := El.alone (x := .slice yo b.l.length yc) hB (DD.new (n := w.heap.size + 1 + 1 + 1 + 1) hB (by omega)) HB.out hyD
  have hown : OwnRX W5 (w.heap.size + 1 + 1 + 1 + 1) (.slice (some ⟨w.heap.size + 1 + 1 + 1 + 1, 0, none⟩) 1 1) [⟨[a], [b], .slice (some ⟨w.heap.size + 1 + 1, 0, none⟩) 1 1, .slice (some ⟨w.heap.size + 1 + 1 + 1, 0, none⟩) 1 1⟩] :=
    ⟨rfl, .inr ⟨_, 1, _, rfl, Nat.le_refl _, hP, Nat.le_refl _, by unfold maxLen; omega, rfl, rfl⟩⟩
  refine (sameExprs_any [⟨[a], [b], .slice (some ⟨w.heap.size + 1 + 1, 0, none⟩) 1 1, .slice (some ⟨w.heap.size + 1 + 1 + 1, 0, none⟩) 1 1⟩] _ W5 (w.heap.size + 1 + 1 + 1 + 1) (DD W5 (w.heap.size + 1 + 1 + 1 + 1)) hown (DD.dks _ _) (fun b hb => ?_) (fun q hq => ?_) ?_ (by omega)).mono ?_
  · intro e
    simp [Value.ownBlock] at e
    have := hb.1
    omega
  · obtain rfl : q = _ := by simpa using hq
    exact ⟨hqa, hqb⟩
  · have hz0 := HZ.out
    simp only [mx, szx]
    omega
  rintro e w' ⟨r, rfl, hr, hb⟩
  have HR : Hid (r = sameX a b) := by
    refine Hid.mk ?_
    have : Sme [(⟨[a], [b], .slice (some ⟨w.heap.size + 1 + 1, 0, none⟩) 1 1, .slice (some ⟨w.heap.size + 1 + 1 + 1, 0, none⟩) 1 1⟩ : Prr Ex)] ↔ a = b := by rw [Sme.one]; simp
    rw [this, ← sameX_iff] at hr
    cases r <;> cases hq : sameX a b <;> simp_all
  clear hr hown hqa hqb hxD hyD hA hB hP hb5
  go_wp2
  go_ret
  have hr' := HR.out
  subst hr'
  exact ⟨rfl, hbw.trans (hb.mono (by omega))⟩
end Go.Proofs.YtgigalcajgjpnaaGreat

namespace Go.Proofs.YtgigalcajgjpnaaGreat
open Go.RowKit
set_option maxRecDepth 8000
set_option linter.unusedSimpArgs false

theorem same_zero (p : Ex) : sameX p (.node 0 0 ByteArray.empty []) = zeroB p := by
  have he : ByteArray.empty.toList = [] := by rw [ByteArray.toList_eq]; rfl
  have hi : sameX p (.node 0 0 ByteArray.empty []) = true ↔ zeroB p = true := by
    rw [sameX_iff]
    unfold zeroB
    constructor
    · rintro rfl
      simp [Ex.k, Ex.n, Ex.s, Ex.l, he]
    · intro h
      simp only [Bool.and_eq_true, beq_iff_eq, List.isEmpty_iff] at h
      obtain ⟨⟨⟨h1, h2⟩, h3⟩, h4⟩ := h
      have h5 : p.l = [] := List.length_eq_zero_iff.1 (by omega)
      have h6 : p.s = ByteArray.empty := txt_same (by rw [h3, he])
      rw [← p.eta, h1, h2, h5, h6]
  cases ha : sameX p (.node 0 0 ByteArray.empty []) <;> cases hb : zeroB p <;> simp_all

set_option maxHeartbeats 4000000 in
theorem ruleOk_any (t : Ru) (x y : Value) (w : World) (hx : El w (uf w) t.p.l x) (hy : Sl w (uf w) t.a y) (hs : ShRu t) (hsz : t.p.s.size ≤ maxLen) :
    Calls Tryz.prog 22 #[ruV t x y] w fun e w' => e = .returned (.bool (ruleB t)) ∧ Below w.heap.size w w' := by
  obtain ⟨xo, xc, rfl, -⟩ := hx.len
  obtain ⟨yo, yc, rfl, -⟩ := hy.len
  have B0 : Below w.heap.size w (w.alloc (.cells #[.int .i64 t.k, .int .i64 t.p.k, .int .i64 t.p.n, .string t.p.s, .slice xo t.p.l.length xc, .slice yo t.a.length yc] 44)) := (Below.refl _ _).alloc (Nat.le_refl _) _
  have HX := Hid.mk (hx.growU B0)
  have HY := Hid.mk (hy.growU B0)
  have HS := Hid.mk hs
  have HSZ := Hid.mk hsz
  have HB0 := Hid.mk B0
  have HX6 := Hid.mk (MapKept.heap_alloc w (.cells #[.int .i64 t.k, .int .i64 t.p.k, .int .i64 t.p.n, .string t.p.s, .slice xo t.p.l.length xc, .slice yo t.a.length yc] 44)).1
  clear hx hy hs hsz B0
  have HR : Hid (ruleB t = (if t.k = 1 ∨ t.k = 2 ∨ t.k = 3 then zeroB t.p && bodyB t.a else if t.k = 4 then okE t.p && bodyB t.a else false)) := rfl
  obtain ⟨R, hR⟩ : ∃ R, ruleB t = R := ⟨_, rfl⟩
  rw [hR] at HR ⊢
  clear hR
  by_cases hz : t.k = 1 ∨ t.k = 2 ∨ t.k = 3
  · have HR2 : Hid (R = (zeroB t.p && bodyB t.a)) := by have := HR.out; rw [if_pos hz] at this; exact this
    clear HR
    have hzz : Hid (t.k = 1 ∨ t.k = 2 ∨ t.k = 3) := hz
    clear hz
    by_cases h1 : t.k = 1
    · have e1 : (t.k == 1) = true := by simpa using h1
      clear h1
      clear hzz
      go_enter Tryz.func22, Tryz.ntmps22
      go_wp2_with fail
      refine (implSameExpr_any t.p (.node 0 0 ByteArray.empty []) _ _ _ HX.out (El.zero _ _) HSZ.out (by simp [Ex.s]) (by simp [Ex.sz, szx])).mono ?_
      rintro e w1 ⟨rfl, hb1⟩
      rw [same_zero]
      obtain ⟨A, hA⟩ : ∃ A, zeroB t.p = A := ⟨_, rfl⟩
      rw [hA] at HR2 ⊢
      clear hA
      have cw : ∀ o, w1.cell? ⟨w.heap.size, o, none⟩ = #[Value.int .i64 t.k, .int .i64 t.p.k, .int .i64 t.p.n, .string t.p.s, .slice xo t.p.l.length xc, .slice yo t.a.length yc][o]? := fun o => cell_of_row w1 _ o _ _ (0, 0) ((hb1.block _ (by simp)).trans HX6.out)
      have HYW := Hid.mk (HY.out.growU hb1)
      have HB1 : Hid (Below w.heap.size w w1) := HB0.out.trans (hb1.mono (by simp))
      clear hb1
      cases A with
      | false =>
        go_wp2
        go_ret
        have hr := HR2.out
        rw [Bool.false_and] at hr
        subst hr
        exact ⟨rfl, HB1.out⟩
      | true =>
        go_wp2_with fail
        refine (blockOk_any t.a _ _ HYW.out HS.out.2).mono ?_
        rintro e w2 ⟨rfl, hb2⟩
        have HB2 : Hid (Below w.heap.size w w2) := HB1.out.trans (hb2.mono HB1.out.size)
        clear hb2 cw
        obtain ⟨A, hA⟩ : ∃ A, bodyB t.a = A := ⟨_, rfl⟩
        rw [hA] at HR2 ⊢
        clear hA
        go_wp2
        go_ret
        have hr := HR2.out
        rw [Bool.true_and] at hr
        subst hr
        exact ⟨rfl, HB2.out⟩
    have e1 : (t.k == 1) = false := by simpa using h1
    by_cases h2 : t.k = 2
    · have e2 : (t.k == 2) = true := by simpa using h2
      clear h1 h2
      clear hzz
      go_enter Tryz.func22, Tryz.ntmps22
      go_wp2_with fail
      refine (implSameExpr_any t.p (.node 0 0 ByteArray.empty []) _ _ _ HX.out (El.zero _ _) HSZ.out (by simp [Ex.s]) (by simp [Ex.sz, szx])).mono ?_
      rintro e w1 ⟨rfl, hb1⟩
      rw [same_zero]
      obtain ⟨A, hA⟩ : ∃ A, zeroB t.p = A := ⟨_, rfl⟩
      rw [hA] at HR2 ⊢
      clear hA
      have cw : ∀ o, w1.cell? ⟨w.heap.size, o, none⟩ = #[Value.int .i64 t.k, .int .i64 t.p.k, .int .i64 t.p.n, .string t.p.s, .slice xo t.p.l.length xc, .slice yo t.a.length yc][o]? := fun o => cell_of_row w1 _ o _ _ (0, 0) ((hb1.block _ (by simp)).trans HX6.out)
      have HYW := Hid.mk (HY.out.growU hb1)
      have HB1 : Hid (Below w.heap.size w w1) := HB0.out.trans (hb1.mono (by simp))
      clear hb1
      cases A with
      | false =>
        go_wp2
        go_ret
        have hr := HR2.out
        rw [Bool.false_and] at hr
        subst hr
        exact ⟨rfl, HB1.out⟩
      | true =>
        go_wp2_with fail
        refine (blockOk_any t.a _ _ HYW.out HS.out.2).mono ?_
        rintro e w2 ⟨rfl, hb2⟩
        have HB2 : Hid (Below w.heap.size w w2) := HB1.out.trans (hb2.mono HB1.out.size)
        clear hb2 cw
        obtain ⟨A, hA⟩ : ∃ A, bodyB t.a = A := ⟨_, rfl⟩
        rw [hA] at HR2 ⊢
        clear hA
        go_wp2
        go_ret
        have hr := HR2.out
        rw [Bool.true_and] at hr
        subst hr
        exact ⟨rfl, HB2.out⟩
    have e2 : (t.k == 2) = false := by simpa using h2
    have e3 : (t.k == 3) = true := by have := hzz.out; simp; omega
    clear h1 h2
    clear hzz
    go_enter Tryz.func22, Tryz.ntmps22
    go_wp2_with fail
    refine (implSameExpr_any t.p (.node 0 0 ByteArray.empty []) _ _ _ HX.out (El.zero _ _) HSZ.out (by simp [Ex.s]) (by simp [Ex.sz, szx])).mono ?_
    rintro e w1 ⟨rfl, hb1⟩
    rw [same_zero]
    obtain ⟨A, hA⟩ : ∃ A, zeroB t.p = A := ⟨_, rfl⟩
    rw [hA] at HR2 ⊢
    clear hA
    have cw : ∀ o, w1.cell? ⟨w.heap.size, o, none⟩ = #[Value.int .i64 t.k, .int .i64 t.p.k, .int .i64 t.p.n, .string t.p.s, .slice xo t.p.l.length xc, .slice yo t.a.length yc][o]? := fun o => cell_of_row w1 _ o _ _ (0, 0) ((hb1.block _ (by simp)).trans HX6.out)
    have HYW := Hid.mk (HY.out.growU hb1)
    have HB1 : Hid (Below w.heap.size w w1) := HB0.out.trans (hb1.mono (by simp))
    clear hb1
    cases A with
    | false =>
      go_wp2
      go_ret
      have hr := HR2.out
      rw [Bool.false_and] at hr
      subst hr
      exact ⟨rfl, HB1.out⟩
    | true =>
      go_wp2_with fail
      refine (blockOk_any t.a _ _ HYW.out HS.out.2).mono ?_
      rintro e w2 ⟨rfl, hb2⟩
      have HB2 : Hid (Below w.heap.size w w2) := HB1.out.trans (hb2.mono HB1.out.size)
      clear hb2 cw
      obtain ⟨A, hA⟩ : ∃ A, bodyB t.a = A := ⟨_, rfl⟩
      rw [hA] at HR2 ⊢
      clear hA
      go_wp2
      go_ret
      have hr := HR2.out
      rw [Bool.true_and] at hr
      subst hr
      exact ⟨rfl, HB2.out⟩
  · by_cases h4 : t.k = 4
    · have HR2 : Hid (R = (okE t.p && bodyB t.a)) := by have := HR.out; rw [if_neg hz, if_pos h4] at this; exact this
      have h1 : ¬ t.k = 1 := by omega
      have h2 : ¬ t.k = 2 := by omega
      have h3 : ¬ t.k = 3 := by omega
      have e1 : (t.k == 1) = false := by simpa using h1
      have e2 : (t.k == 2) = false := by simpa using h2
      have e3 : (t.k == 3) = false := by simpa using h3
      have e4 : (t.k == 4) = true := by simpa using h4
      clear HR hz h1 h2 h3 h4
      go_enter Tryz.func22, Tryz.ntmps22
      go_wp2_with fail
      refine (implExprOk_any t.p _ _ _ HX.out HS.out.1).mono ?_
      rintro e w1 ⟨rfl, hb1⟩
      obtain ⟨A, hA⟩ : ∃ A, okE t.p = A := ⟨_, rfl⟩
      rw [hA] at HR2 ⊢
      clear hA
      have cw : ∀ o, w1.cell? ⟨w.heap.size, o, none⟩ = #[Value.int .i64 t.k, .int .i64 t.p.k, .int .i64 t.p.n, .string t.p.s, .slice xo t.p.l.length xc, .slice yo t.a.length yc][o]? := fun o => cell_of_row w1 _ o _ _ (0, 0) ((hb1.block _ (by simp)).trans HX6.out)
      have HYW := Hid.mk (HY.out.growU hb1)
      have HB1 : Hid (Below w.heap.size w w1) := HB0.out.trans (hb1.mono (by simp))
      clear hb1
      cases A with
      | false =>
        go_wp2
        go_ret
        have hr := HR2.out
        rw [Bool.false_and] at hr
        subst hr
        exact ⟨rfl, HB1.out⟩
      | true =>
        go_wp2_with fail
        refine (blockOk_any t.a _ _ HYW.out HS.out.2).mono ?_
        rintro e w2 ⟨rfl, hb2⟩
        have HB2 : Hid (Below w.heap.size w w2) := HB1.out.trans (hb2.mono HB1.out.size)
        clear hb2 cw
        obtain ⟨A, hA⟩ : ∃ A, bodyB t.a = A := ⟨_, rfl⟩
        rw [hA] at HR2 ⊢
        clear hA
        go_wp2
        go_ret
        have hr := HR2.out
        rw [Bool.true_and] at hr
        subst hr
        exact ⟨rfl, HB2.out⟩
    · have HR2 : Hid (R = false) := by have := HR.out; rw [if_neg hz, if_neg h4] at this; exact this
      have h1 : ¬ t.k = 1 := by omega
      have h2 : ¬ t.k = 2 := by omega
      have h3 : ¬ t.k = 3 := by omega
      have e1 : (t.k == 1) = false := by simpa using h1
      have e2 : (t.k == 2) = false := by simpa using h2
      have e3 : (t.k == 3) = false := by simpa using h3
      have e4 : (t.k == 4) = false := by simpa using h4
      clear HR hz h1 h2 h3 h4
      go_enter Tryz.func22, Tryz.ntmps22
      go_wp2
      go_ret
      have hr := HR2.out
      subst hr
      exact ⟨rfl, HB0.out⟩

set_option maxHeartbeats 4000000 in
theorem eachR_any (l : List Ru) (v : Value) (w : World) (h : Ul w (uf w) l v) (hs : ∀ r ∈ l, ShRu r) :
    Calls Tryz.prog 21 #[v, .func (.func 22) #[] #[]] w fun e w' => e = .returned (.bool (l.all ruleB)) ∧ Below w.heap.size w w' := by
  obtain ⟨ao, cap, rfl, h1, h2, -⟩ := h.len
  have h3 : cap ≤ 9223372036854775807 := by unfold maxLen at h2; exact h2
  have HL := Hid.mk h
  have HS := Hid.mk hs
  clear h hs h2
  obtain ⟨n, hn⟩ : ∃ n, l.length = n := ⟨_, rfl⟩
  rw [hn] at h1 HL ⊢
  have HN := Hid.mk hn
  clear hn
  have HY : Hid ((∀ j (hj : j < l.length), ruleB l[j] = true) → l.all ruleB = true) := fun h => List.all_eq_true.2 fun x hx => by
    obtain ⟨j, hj, rfl⟩ := List.mem_iff_getElem.1 hx
    exact h j hj
  have HF : Hid (∀ j (hj : j < l.length), ruleB l[j] = false → l.all ruleB = false) := fun j hj h => by
    cases hq : l.all ruleB with
    | false => rfl
    | true => rw [List.all_eq_true.1 hq _ (List.getElem_mem hj)] at h; cases h
  obtain ⟨R, hR⟩ : ∃ R, l.all ruleB = R := ⟨_, rfl⟩
  rw [hR] at HY HF ⊢
  clear hR
  go_enter Tryz.func21, Tryz.ntmps21
  go_wp2
  go_loopw [9] (fun i wr => ∃ k : Nat, k ≤ n ∧ i = .int .i64 k ∧ Hid (∀ j (hj : j < l.length), j < k → ruleB l[j] = true) ∧ Below w.heap.size w wr) (fun i _ => n - (intOf i).toNat)
  case atStart => exact ⟨0, Nat.zero_le _, rfl, fun j _ h => absurd h (Nat.not_lt_zero j), Below.refl _ _⟩
  case round =>
    obtain ⟨k, hk, rfl, Ho, hbel⟩ := hrel
    by_cases hkl : k < n
    · have hi1 : (k : Int) < n := by omega
      have hkx : k < l.length := by rw [HN.out]; exact hkl
      have hgr := HL.out.growU hbel
      obtain ⟨b, off, XP, XA, rfl, hel⟩ := hgr.elems (by rintro rfl; simp at hkx)
      obtain ⟨⟨x0, x1, x2, x3, x4, x5⟩, hsx, hsa, hsz⟩ := hel k hkx
      obtain ⟨o0, p0, e0, -⟩ := hsx.len
      rw [e0] at x4 hsx
      obtain ⟨o1, p1, e1, -⟩ := hsa.len
      rw [e1] at x5 hsa
      clear e0 e1 hel hgr
      have HO1 : Hid (ruleB l[k] = true → ∀ j (hj : j < l.length), j < k + 1 → ruleB l[j] = true) := by
        intro h j hj hj1
        by_cases e : j < k
        · exact Ho.out j hj e
        · obtain rfl : j = k := by omega
          exact h
      have HF1 := Hid.mk (HF.out k hkx)
      have HSK := Hid.mk (And.intro (HS.out _ (List.getElem_mem hkx)) hsz)
      clear hsz
      obtain ⟨x, hx⟩ : ∃ x, l[k] = x := ⟨_, rfl⟩
      rw [hx] at HO1 HF1 HSK x0 x1 x2 x3 x4 x5 hsx hsa
      clear hx hkx
      have c0 : wr.cell? ⟨b, off + k * 6, none⟩ = some (.int .i64 x.k) := x0
      have c1 : wr.cell? ⟨b, off + k * 6 + 1, none⟩ = some (.int .i64 x.p.k) := x1
      have c2 : wr.cell? ⟨b, off + k * 6 + 2, none⟩ = some (.int .i64 x.p.n) := x2
      have c3 : wr.cell? ⟨b, off + k * 6 + 3, none⟩ = some (.string x.p.s) := x3
      have c4 : wr.cell? ⟨b, off + k * 6 + 4, none⟩ = some (.slice o0 x.p.l.length p0) := x4
      have c5 : wr.cell? ⟨b, off + k * 6 + 5, none⟩ = some (.slice o1 x.a.length p1) := x5
      have HE := Hid.mk (And.intro hsx hsa)
      clear x0 x1 x2 x3 x4 x5 hsx hsa
      go_wp2_with fail
      refine (ruleOk_any x (.slice o0 x.p.l.length p0) (.slice o1 x.a.length p1) _ (HE.out.1.growU (((Below.refl _ _).alloc (Nat.le_refl _) _ : Below wr.heap.size wr (wr.alloc _)))) (HE.out.2.growU (((Below.refl _ _).alloc (Nat.le_refl _) _ : Below wr.heap.size wr (wr.alloc _)))) HSK.out.1 HSK.out.2).mono ?_
      rintro e w3 ⟨rfl, hb3⟩
      obtain ⟨r, hr⟩ : ∃ r, ruleB x = r := ⟨_, rfl⟩
      rw [hr] at HO1 HF1 ⊢
      clear hr
      have HBE : Hid (Below w.heap.size w w3) := hbel.trans (((((Below.refl _ _).alloc (Nat.le_refl _) _ : Below wr.heap.size wr (wr.alloc _))).mono hbel.size).trans (hb3.mono (by have := hbel.size; simp; omega)))
      clear c0 c1 c2 c3 c4 c5 hb3 hbel
      cases r with
      | false =>
        have HF2 := Hid.mk (HF1.out rfl)
        clear HO1 HF1 Ho
        go_wp2
        go_ret
        have hr := HF2.out
        subst hr
        exact ⟨rfl, HBE.out⟩
      | true =>
        have HO2 := Hid.mk (HO1.out rfl)
        clear HO1 HF1 Ho
        go_wp2
        go_roundw
        case measure => simp [intOf]; omega
        case rel => exact ⟨k + 1, by omega, rfl, HO2, HBE.out⟩
    · obtain rfl : k = n := by omega
      have hi1 : ¬ ((k : Int) < (k : Int)) := by omega
      have HT : Hid (R = true) := HY.out fun j hj => Ho.out j hj (by rw [← HN.out]; exact hj)
      go_wp2
      go_ret
      have hr := HT.out
      subst hr
      exact ⟨rfl, hbel⟩

end Go.Proofs.YtgigalcajgjpnaaGreat
