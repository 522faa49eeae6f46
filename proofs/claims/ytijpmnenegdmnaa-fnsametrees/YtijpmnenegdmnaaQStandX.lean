/- What a list of terms stands for: the program's standsFor. -/
import Derived.Test.YtijpmnenegdmnaaQPlcX
import Derived.Deep.LoopGhost
namespace Go.Proofs.Ytijpmnenegdmnaa
open Go.RowKit
set_option maxRecDepth 8000
set_option linter.unusedSimpArgs false

theorem heap_setCell_same {w : World} {b : Nat} {c : Array Value} {t : TypeId} {f : Nat × Nat} (h : w.heap[b]? = some (.cells c t f)) (o : Nat) (v : Value) : (w.setCell ⟨b, o, none⟩ v).heap[b]? = some (.cells (c.setIfInBounds o v) t f) := by
  have hlt := (Array.getElem?_eq_some_iff.1 h).1
  have h' : w.heap[b] = .cells c t f := by simpa [Array.getElem?_eq_getElem hlt] using h
  show (w.heap.modify b _)[b]? = _
  rw [Array.getElem?_eq_getElem (by simpa using hlt), Array.getElem_modify_self, h']
  rfl
theorem two_setCell {w : World} {b : Nat} {x y u v : Value} {t : TypeId} (h : w.heap[b]? = some (.cells #[x, y] t (0, 0))) : ((w.setCell ⟨b, 0, none⟩ u).setCell ⟨b, 1, none⟩ v).heap[b]? = some (.cells #[u, v] t (0, 0)) := by
  rw [heap_setCell_same (heap_setCell_same h 0 u) 1 v]
  rfl
theorem grown_set {w wr : World} {row : Option Nat} (h : w.grownBy wr row) (a : Addr) (ha : w.heap.size ≤ a.block) (v : Value) : w.grownBy (wr.setCell a v) row :=
  ⟨h.os, h.tape, h.output, by simpa using h.size, fun k hk hne => by rw [heap_setCell_other _ _ _ _ (by omega)]; exact h.block k hk hne⟩

/-- Where the search stands: what the map holds now, the place come to. -/
def StJX (w : World) (D : Nat → Prop) (m : Nat) (E : List (Plc × Plc)) (p0 : Plc) (k : Nat) (wr : World) : Prop :=
  ∃ E' p, Up (lk E') p k ∧ AllUp (lk E') ∧ Alk E E' ∧ Leads E' p0 p ∧ D p.a.block ∧ MapP wr D m E' ∧ (∀ r, lk E r = none → lk E' r = none) ∧
    wr.heap[w.heap.size + 1]? = some (.cells #[.pointer (some p.a), .int .i64 p.n] 100 (0, 0)) ∧ wr.heap[w.heap.size]? = some (.cells #[.pointer none, .int .i64 0] 100 (0, 0)) ∧ w.grownBy wr (some m)

set_option maxHeartbeats 2000000 in
theorem standsX_any (w : World) (D : Nat → Prop) (m : Nat) (E : List (Plc × Plc)) (b off n cap : Nat) (hn : 0 < n) (hD : DkS w D) (hb : D b) (hm : MapP w D m E) (hu : AllUp (lk E)) :
    Calls Try.prog 49 #[.map (some m), .slice (some ⟨b, off, none⟩) n cap] w fun e w' =>
      ∃ r E', e = .returned (.agg #[.pointer (some r.a), .int .i64 r.n]) ∧ MapP w' D m E' ∧ AllUp (lk E') ∧ Alk E E' ∧ Leads E' ⟨⟨b, off, none⟩, n⟩ r ∧ lk E' r = none ∧ D r.a.block ∧ (∀ r, lk E r = none → lk E' r = none) ∧ w.grownBy w' (some m) := by
  have hml := hm.lt
  have hbl := hD.lt hb
  have hDm := Hid.mk (fun b (h : D b) => hm.not hD h)
  obtain ⟨k0, hk0⟩ := hu ⟨⟨b, off, none⟩, n⟩
  have HM := Hid.mk hm
  have HD := Hid.mk hD
  have HU := Hid.mk hu
  have HB := Hid.mk hb
  have HK := Hid.mk hk0
  clear hm hD hu hb hk0
  go_enter Try.func49, Try.ntmps49
  go_wp2
  have hW0 : Hid (StJX w D m E ⟨⟨b, off, none⟩, n⟩ k0 ((w.alloc (.cells #[.pointer none, .int .i64 0] 100)).alloc (.cells #[.pointer (some ⟨b, off, none⟩), .int .i64 n] 100))) := by
    refine ⟨E, ⟨⟨b, off, none⟩, n⟩, HK.out, HU.out, Alk.refl E, Leads.refl E _, HB.out, HM.out.kept ?_, fun _ h => h, ?_, ?_, (World.grownBy_alloc w _ _).trans (World.grownBy_alloc _ _ _)⟩
    · rw [(World.grownBy_alloc (w.alloc _) _ none).block _ (by simp; omega) (by simp), (World.grownBy_alloc w _ none).block _ hml (by simp)]
    · simpa using (MapKept.heap_alloc (w.alloc (.cells #[.pointer none, .int .i64 0] 100)) (.cells #[.pointer (some ⟨b, off, none⟩), .int .i64 n] 100)).1
    · rw [(World.grownBy_alloc (w.alloc _) _ none).block _ (by simp) (by simp)]; exact (MapKept.heap_alloc w _).1
  go_loopg [] k0 (fun k wr => Hid (StJX w D m E ⟨⟨b, off, none⟩, n⟩ k wr))
  case atStart => exact hW0
  case round =>
    obtain ⟨E', p, hup, hall, hal, hle, hdp, hmp, hro, hc1, hc0, hgr⟩ := hrel.out
    clear hrel hW0
    have hDr : DkS wr D := HD.out.kept fun b hb => hgr.block b (HD.out.lt hb) (by intro e; exact hDm.out b hb (by simpa using e))
    have hs := hgr.size
    have l1 := (Array.getElem?_eq_some_iff.1 hc1).1
    have c10 : wr.cell? ⟨w.heap.size + 1, 0, none⟩ = some (.pointer (some p.a)) := by rw [cell_of_row wr _ 0 _ _ (0, 0) hc1]; rfl
    have c11 : wr.cell? ⟨w.heap.size + 1, 1, none⟩ = some (.int .i64 p.n) := by rw [cell_of_row wr _ 1 _ _ (0, 0) hc1]; rfl
    have c00 : wr.cell? ⟨w.heap.size, 0, none⟩ = some (.pointer none) := by rw [cell_of_row wr _ 0 _ _ (0, 0) hc0]; rfl
    have c01 : wr.cell? ⟨w.heap.size, 1, none⟩ = some (.int .i64 0) := by rw [cell_of_row wr _ 1 _ _ (0, 0) hc0]; rfl
    have l0 : w.heap.size < wr.heap.size := by omega
    have n0 : w.heap.size ≠ wr.heap.size := by omega
    have n1 : w.heap.size + 1 ≠ wr.heap.size := by omega
    have f1 : ∀ o, wr.frozen? ⟨w.heap.size + 1, o, none⟩ = false := fun o => by simp [World.frozen?, hc1]
    have f0 : ∀ o, wr.frozen? ⟨w.heap.size, o, none⟩ = false := fun o => by simp [World.frozen?, hc0]
    cases hl : lk E' p with
    | none =>
      go_wp2_with (first | (at_lookup; refine wpList_noX rfl _ _ rfl hDr m E' rfl hmp p rfl hdp hl ?_) | go_in)
      have hrow : ∀ o, (((wr.setCell ⟨w.heap.size, 0, none⟩ (.pointer (some p.a))).setCell ⟨w.heap.size, 1, none⟩ (.int .i64 p.n)).alloc o).heap[w.heap.size]? = some (.cells #[.pointer (some p.a), .int .i64 p.n] 100 (0, 0)) := by
        intro o
        rw [(World.grownBy_alloc _ o none).block _ (by simpa using l0) (by simp)]
        exact two_setCell hc0
      have hst : Try.prog.underlying 100 = some (.struct (Try.prog.fieldsOf 100)) := by kernel_rfl
      try simp only [Exit.inBlock, Exit.then]
      refine bodyPost_ret (results_cell_row (p := 4) (ty := 100) (by kernel_rfl) _ _ w.heap.size _ _ _ _ rfl (hrow _) hst rfl (by kernel_rfl)) rfl ?_
      refine ⟨p, E', rfl, ?_, hall, hal, hle, hl, hdp, hro, ?_⟩
      · refine hmp.kept ?_
        rw [(World.grownBy_alloc _ _ none).block _ (by simpa using hmp.lt) (by simp), heap_setCell_other _ _ _ _ (by show m ≠ w.heap.size; omega), heap_setCell_other _ _ _ _ (by show m ≠ w.heap.size; omega)]
      · exact (grown_set (grown_set hgr _ (Nat.le_refl _) _) _ (Nat.le_refl _) _).trans (World.grownBy_alloc _ _ _)
    | some q =>
      obtain ⟨k1, rfl, hup1⟩ := hup.next hl
      have hdq : D q.a.block := by
        obtain ⟨es, clock, -, -, hin⟩ := hmp
        exact (hin _ (lk_mem hl)).2
      have HDA : ∀ o, DkS (wr.alloc o) D := fun o => hDr.kept fun b hb => (World.grownBy_alloc wr o none).block b (hDr.lt hb) (by simp)
      have HMA : ∀ o, MapP (wr.alloc o) D m E' := fun o => hmp.kept ((World.grownBy_alloc wr o none).block m hmp.lt (by simp))
      cases hl2 : lk E' q with
      | none =>
        go_wp2_with (first | (at_lookup; refine wpList_yesX rfl _ _ rfl hDr m E' rfl hmp p rfl hdp q hl ?_) | (at_lookup; refine wpList_noX rfl _ _ rfl (HDA _) m E' rfl (HMA _) q rfl hdq hl2 ?_) | go_in)
        go_roundg k1
        case measure => omega
        case rel =>
          refine ⟨E', q, hup1, hall, hal, hle.on hl, hdq, ?_, hro, ?_, ?_, ?_⟩
          · refine hmp.kept ?_
            rw [(World.grownBy_alloc _ _ none).block _ (by simpa using Nat.lt_succ_of_lt hmp.lt) (by simp), (World.grownBy_alloc _ _ none).block _ (by simpa using hmp.lt) (by simp), heap_setCell_other _ _ _ _ (by show m ≠ w.heap.size + 1; omega), heap_setCell_other _ _ _ _ (by show m ≠ w.heap.size + 1; omega)]
          · rw [(World.grownBy_alloc _ _ none).block _ (by simp; omega) (by simp), (World.grownBy_alloc _ _ none).block _ (by simpa using l1) (by simp)]
            exact two_setCell hc1
          · rw [(World.grownBy_alloc _ _ none).block _ (by simp; omega) (by simp), (World.grownBy_alloc _ _ none).block _ (by simpa using l0) (by simp), heap_setCell_other _ _ _ _ (by show w.heap.size ≠ w.heap.size + 1; omega), heap_setCell_other _ _ _ _ (by show w.heap.size ≠ w.heap.size + 1; omega)]
            exact hc0
          · exact ((grown_set (grown_set hgr _ (Nat.le_succ _) _) _ (Nat.le_succ _) _).trans (World.grownBy_alloc _ _ _)).trans (World.grownBy_alloc _ _ _)
      | some f =>
        have hdf : D f.a.block := by
          obtain ⟨es, clock, -, -, hin⟩ := hmp
          exact (hin _ (lk_mem hl2)).2
        have HDB : ∀ o o', DkS ((wr.alloc o).alloc o') D := fun o o' => (HDA o).kept fun b hb => (World.grownBy_alloc _ o' none).block b ((HDA o).lt hb) (by simp)
        have HMB : ∀ o o', MapP ((wr.alloc o).alloc o') D m E' := fun o o' => (HMA o).kept ((World.grownBy_alloc _ o' none).block m (HMA o).lt (by simp))
        have HGB : ∀ o o', wr.grownBy ((wr.alloc o).alloc o') (some m) := fun o o' => (World.grownBy_alloc wr o _).trans (World.grownBy_alloc _ o' _)
        have HNB : ∀ o o', ((wr.alloc o).alloc o').heap[wr.heap.size]? = some o := fun o o' => ((World.grownBy_alloc _ o' none).block _ (by simp) (by simp)).trans (MapKept.heap_alloc wr o).1
        have hmlr := hmp.lt
        go_wp2_with (first | (at_lookup; refine wpList_yesX rfl _ _ rfl hDr m E' rfl hmp p rfl hdp q hl ?_) | (at_lookup; refine wpList_yesX rfl _ _ rfl (HDA _) m E' rfl (HMA _) q rfl hdq f hl2 ?_) | (at_mapUpdate; refine wpList_updX rfl _ _ _ rfl (HDB _ _) m E' rfl (HMB _ _) p f rfl rfl hdp hdf ?_; intro w1 hm1 hg1; have hgb1 := (HGB (.cells #[.pointer (some q.a), .int .i64 q.n] 100) (.cells #[.pointer (some f.a), .int .i64 f.n] 100)).trans hg1; have hnb1 := (hg1.block wr.heap.size (by simp; omega) (by intro e; simp at e; omega)).trans (HNB (.cells #[.pointer (some q.a), .int .i64 q.n] 100) (.cells #[.pointer (some f.a), .int .i64 f.n] 100)); have l3 : w1.heap.size > wr.heap.size := (Array.getElem?_eq_some_iff.1 hnb1).1; have hb1 : w1.heap[w.heap.size + 1]? = wr.heap[w.heap.size + 1]? := hgb1.block _ l1 (by intro e; simp at e; omega); have hb0 : w1.heap[w.heap.size]? = wr.heap[w.heap.size]? := hgb1.block _ l0 (by intro e; simp at e; omega); rw [hc1] at hb1; rw [hc0] at hb0; have c20 : w1.cell? ⟨wr.heap.size, 0, none⟩ = some (.pointer (some q.a)) := (by rw [cell_of_row w1 _ 0 _ _ (0, 0) hnb1]; rfl); have c21 : w1.cell? ⟨wr.heap.size, 1, none⟩ = some (.int .i64 q.n) := (by rw [cell_of_row w1 _ 1 _ _ (0, 0) hnb1]; rfl); have c30 : w1.cell? ⟨w.heap.size + 1, 0, none⟩ = some (.pointer (some p.a)) := (by rw [cell_of_row w1 _ 0 _ _ (0, 0) hb1]; rfl); have c31 : w1.cell? ⟨w.heap.size + 1, 1, none⟩ = some (.int .i64 p.n) := (by rw [cell_of_row w1 _ 1 _ _ (0, 0) hb1]; rfl); have f3 : ∀ o, w1.frozen? ⟨w.heap.size + 1, o, none⟩ = false := fun o => (by simp [World.frozen?, hb1])) | go_in)
        obtain ⟨k2, hk2, hup2⟩ := up_half hl hl2 (lk_put E' p f) k1 q hup1
        have hle2 := (hle.on hl).alk (alk_half hl hl2)
        have hro2 : ∀ r, lk E r = none → lk (putP E' p f) r = none := by
          intro r hr
          have h1 := hro r hr
          rw [lk_put]
          by_cases e : p = r
          · subst e; rw [hl] at h1; cases h1
          · rw [if_neg e]; exact h1
        have hgw := hgr.trans hgb1
        have HR : Hid (∀ wz, wz.heap[w.heap.size + 1]? = some (.cells #[.pointer (some q.a), .int .i64 q.n] 100 (0, 0)) → wz.heap[w.heap.size]? = w1.heap[w.heap.size]? → wz.heap[m]? = w1.heap[m]? → w.grownBy wz (some m) → StJX w D m E ⟨⟨b, off, none⟩, n⟩ k2 wz) := fun wz h1 h0 h2 h3 =>
          ⟨_, q, hup2, allUp_half hl hl2 hall, hal.trans (alk_half hl hl2), hle2, hdq, hm1.kept h2, hro2, h1, h0.trans hb0, h3⟩
        clear hup2 hle2 hro2 hall hal hle hro hm1 hup1 hup hdq hdf hdp hmp HM HD HU HB HK hDm hl hl2 hDr
        go_roundg k2
        case measure => omega
        case rel =>
          refine HR.out _ (two_setCell hb1) ?_ ?_ (grown_set (grown_set hgw _ (Nat.le_succ _) _) _ (Nat.le_succ _) _)
          · rw [heap_setCell_other _ _ _ _ (by show w.heap.size ≠ w.heap.size + 1; omega), heap_setCell_other _ _ _ _ (by show w.heap.size ≠ w.heap.size + 1; omega)]
          · rw [heap_setCell_other _ _ _ _ (by show m ≠ w.heap.size + 1; omega), heap_setCell_other _ _ _ _ (by show m ≠ w.heap.size + 1; omega)]
end Go.Proofs.Ytijpmnenegdmnaa
