/- Two statements: the program's sameStmts and SameStmt say whether they are the same. -/
import Derived.Test.YtijpmnenegdmnaaQListsY
import Derived.Test.YtijpmnenegdmnaaQSameXI
import Derived.Test.YtijpmnenegdmnaaQStSame
namespace Go.Proofs.Ytijpmnenegdmnaa
open Go.RowKit
set_option maxRecDepth 8000
set_option linter.unusedSimpArgs false

set_option maxHeartbeats 4000000 in
/-- The lists that wait, and the terms besides: v is the one row, tv the other. -/
theorem sameStmts_any (W0 : List (Prr St)) (T0 : List (Prr Ex)) (v tv : Value) (w : World) (base : Nat) (D : Nat → Prop) (hown : OwnRY w base v W0) (htv : OwnRX w base tv T0) (hD : DkS w D) (hDv : ∀ b, D b → some b ≠ v.ownBlock ∧ some b ≠ tv.ownBlock)
    (hvt : ∀ g, v.ownBlock = some g → tv.ownBlock ≠ some g) (hW : ∀ q ∈ W0, Sl w D q.a q.u ∧ Sl w D q.b q.v) (hT : ∀ q ∈ T0, El w D q.a q.u ∧ El w D q.b q.v) (hsz : my W0 + mx T0 ≤ 1099511627776) (hbase : base ≤ w.heap.size) :
    Calls Try.prog 21 #[v, tv] w fun e w' => ∃ r, e = .returned (.bool r) ∧ (r = true ↔ Sme W0 ∧ Sme T0) ∧ Below base w w' := by
  obtain ⟨tpo, tc, rfl⟩ := htv.len
  have hbw := World.grownBy_alloc w (.cells #[.slice tpo T0.length tc] 52) none
  have hlen := mx_len T0
  have HL := Hid.mk (sameListsY_any W0 T0 w.heap.size v (w.alloc (.cells #[.slice tpo T0.length tc] 52)) base D (hown.kept fun k hk => hbw.block k (hown.lt hk).2 (by simp)) (hD.kept fun b hb => hbw.block b (hD.lt hb) (by simp)) (fun b hb => (hDv b hb).1)
    (fun q hq => ⟨(hW q hq).1.kept fun b hb _ => hbw.block b (hD.lt hb) (by simp), (hW q hq).2.kept fun b hb _ => hbw.block b (hD.lt hb) (by simp)⟩) (by omega) (Nat.le_trans hbase hbw.size)
    ⟨.slice tpo T0.length tc, (MapKept.heap_alloc w _).1, by rw [List.append_nil]; exact htv.kept fun k hk => hbw.block k (htv.lt hk).2 (by simp), fun e => by have := (hown.lt e.symm).2; omega, fun e => by have := (htv.lt e.symm).2; omega, hvt, fun b hb => ⟨by have := hD.lt hb; omega, (hDv b hb).2⟩, fun _ h => (by cases h), hbase⟩)
  have HB := Hid.mk hbw
  have HD := Hid.mk hD
  have HT := Hid.mk hT
  have HZ := Hid.mk hsz
  clear hown htv hD hDv hvt hW hT hsz hbw hlen
  obtain ⟨nt, hnt⟩ : ∃ n, T0.length = n := ⟨_, rfl⟩
  rw [hnt] at HL HB ⊢
  clear hnt
  go_enter Try.func21, Try.ntmps21
  go_wp2_with fail
  refine HL.out.mono ?_
  rintro e w1 ⟨r, TN, rfl, hf, ht, htm, hdk, hb⟩
  have HF := Hid.mk hf
  have HR := Hid.mk ht
  have HK := Hid.mk hdk
  have HBB : Hid (Below base w w1) := ((Below.refl _ _).grown HB.out hbase (by simp)).trans hb
  clear hf ht hdk hb HL
  cases r with
  | false =>
    clear htm
    go_wp2
    go_ret
    exact ⟨false, rfl, ⟨fun e => (by cases e), fun e => absurd e.1 (HF.out (by simp))⟩, HBB.out⟩
  | true =>
    obtain ⟨tw, h1, h2, h3, h4, h5, h6, h7, h8⟩ := htm (by simp)
    obtain ⟨hse, hle⟩ := HR.out (by simp)
    have HS := Hid.mk hse
    have hkw : ∀ b, D b → w1.heap[b]? = w.heap[b]? := fun b hb => (HK.out b hb).trans (HB.out.block b (HD.out.lt hb) (by simp))
    have HD1 : Hid (DkS w1 D) := HD.out.kept hkw
    have HE1 : Hid (∀ q ∈ T0 ++ TN, El w1 D q.a q.u ∧ El w1 D q.b q.v) := by
      intro q hq
      rcases List.mem_append.1 hq with hq | hq
      · exact ⟨(HT.out q hq).1.kept fun b hb _ => hkw b hb, (HT.out q hq).2.kept fun b hb _ => hkw b hb⟩
      · exact ⟨(h7 q hq).1.kept fun b hb _ => HK.out b hb, (h7 q hq).2.kept fun b hb _ => HK.out b hb⟩
    have HM : Hid (mx (T0 ++ TN) ≤ 1099511627776) := by
      refine Hid.mk ?_
      have := HZ.out
      rw [mx_append]
      omega
    have HO := Hid.mk h2
    have H6 := Hid.mk h6
    obtain ⟨wo, wc, htw⟩ := h2.len
    obtain ⟨nw, hnw⟩ : ∃ n, (T0 ++ TN).length = n := ⟨_, rfl⟩
    rw [hnw] at htw
    subst htw
    have c0 : w1.cell? ⟨w.heap.size, 0, none⟩ = some (.slice wo nw wc) := by rw [cell_of_row w1 _ 0 _ _ (0, 0) h1]; rfl
    clear htm h1 h2 h3 h4 h5 h6 h7 h8 hle hse hnw hkw HF HR HB HD HT HZ HK
    go_wp2_with fail
    refine (sameExprs_any (T0 ++ TN) (.slice wo nw wc) w1 base D HO.out HD1.out (fun b hb => (H6.out b hb).2) HE1.out HM.out (Nat.le_trans hbase HBB.out.size)).mono ?_
    rintro e w2 ⟨r, rfl, hr, hb2⟩
    have HR2 := Hid.mk hr
    clear hr c0
    go_wp2
    go_ret
    refine ⟨r, rfl, ?_, HBB.out.trans hb2⟩
    rw [HR2.out, Sme.app, HS.out]
    exact ⟨fun h => ⟨h.2, h.1⟩, fun h => ⟨h.2, h.1⟩⟩

theorem Sl.toD {w w' : World} {l : List St} {v : Value} (h : Sl w (uf w) l v) (hb : Below w.heap.size w w') {n : Nat} (hn : w.heap.size ≤ n) : Sl w' (DD w' n) l v := by
  have h1 : Sl w (fun b => b < w.heap.size ∧ uf w b ∧ ∃ c e f, w.heap[b]? = some (.cells c e f)) l v := h.cells.imp fun b hb hlt => ⟨hlt, hb.1, hb.2⟩
  refine (h1.grow hb).imp fun b hq _ => ?_
  obtain ⟨hlt, hf, c, e, f, hc⟩ := hq
  have hh := hb.block b hlt
  exact ⟨by omega, ⟨c, e, f, hh.trans hc⟩, fun o => by rw [World.frozen?_of_block (w := w) (a := ⟨b, o, none⟩) hh]; exact hf o⟩
/-- A statement in a list of its own. -/
theorem Sl.alone {w : World} {D : Nat → Prop} {a : St} {x y z : Value} {g : Nat} (hg : w.heap[g]? = some (.cells #[.int .i64 a.k, .string a.s, .string a.t, x, y, z] 31 (0, 0))) (hD : D g) (hs : a.s.size ≤ maxLen) (ht : a.t.size ≤ maxLen) (hx : El w D a.x x) (hy : Sl w D a.a y) (hz : Sl w D a.b z) : Sl w D [a] (.slice (some ⟨g, 0, none⟩) 1 1) := by
  have := Sl.full (w := w) (B := D) [a] g 0 1 (fun _ => x) (fun _ => y) (fun _ => z) hD (by simp) (by simp) (by unfold maxLen; omega) (fun i h => by
      have h0 : i = 0 := by simpa using h
      subst h0
      exact ⟨hs, ht⟩)
    (fun i h => by
      have h0 : i = 0 := by simpa using h
      subst h0
      exact ⟨by rw [cell_of_row w _ _ _ _ (0, 0) hg]; rfl, by rw [cell_of_row w _ _ _ _ (0, 0) hg]; rfl, by rw [cell_of_row w _ _ _ _ (0, 0) hg]; rfl, by rw [cell_of_row w _ _ _ _ (0, 0) hg]; rfl, by rw [cell_of_row w _ _ _ _ (0, 0) hg]; rfl, by rw [cell_of_row w _ _ _ _ (0, 0) hg]; rfl⟩)
    (fun i h => by
      have h0 : i = 0 := by simpa using h
      subst h0
      exact hx)
    (fun i h => by
      have h0 : i = 0 := by simpa using h
      subst h0
      exact hy)
    (fun i h => by
      have h0 : i = 0 := by simpa using h
      subst h0
      exact hz)
  exact this
set_option maxHeartbeats 2000000 in
theorem implSameStmt_any (a b : St) (x xa xb y ya yb : Value) (w : World) (hx : El w (uf w) a.x x) (hxa : Sl w (uf w) a.a xa) (hxb : Sl w (uf w) a.b xb) (hy : El w (uf w) b.x y) (hya : Sl w (uf w) b.a ya) (hyb : Sl w (uf w) b.b yb) (hsa : a.s.size ≤ maxLen) (hta : a.t.size ≤ maxLen) (hsb : b.s.size ≤ maxLen) (htb : b.t.size ≤ maxLen) (hz : b.sz ≤ 68719476736) :
    Calls Try.prog 10 #[st a.k a.s a.t x xa xb, st b.k b.s b.t y ya yb] w fun e w' => e = .returned (.bool (sameS a b)) ∧ Below w.heap.size w w' := by
  obtain ⟨xo, xc, rfl, -⟩ := hx.len
  obtain ⟨xao, xac, rfl, -⟩ := hxa.len
  obtain ⟨xbo, xbc, rfl, -⟩ := hxb.len
  obtain ⟨yo, yc, rfl, -⟩ := hy.len
  obtain ⟨yao, yac, rfl, -⟩ := hya.len
  obtain ⟨ybo, ybc, rfl, -⟩ := hyb.len
  have B2 : Below w.heap.size w ((w.alloc (.cells #[.int .i64 a.k, .string a.s, .string a.t, .slice xo a.x.length xc, .slice xao a.a.length xac, .slice xbo a.b.length xbc] 31)).alloc (.cells #[.int .i64 b.k, .string b.s, .string b.t, .slice yo b.x.length yc, .slice yao b.a.length yac, .slice ybo b.b.length ybc] 31)) := ((Below.refl _ _).alloc (Nat.le_refl _) _).alloc (by simp) _
  have S2 : ((w.alloc (.cells #[.int .i64 a.k, .string a.s, .string a.t, .slice xo a.x.length xc, .slice xao a.a.length xac, .slice xbo a.b.length xbc] 31)).alloc (.cells #[.int .i64 b.k, .string b.s, .string b.t, .slice yo b.x.length yc, .slice yao b.a.length yac, .slice ybo b.b.length ybc] 31)).heap.size = w.heap.size + 2 := by simp
  have HB2 := Hid.mk B2
  have HS2 := Hid.mk S2
  have HX := Hid.mk hx
  have HXA := Hid.mk hxa
  have HXB := Hid.mk hxb
  have HY := Hid.mk hy
  have HYA := Hid.mk hya
  have HYB := Hid.mk hyb
  have HA := Hid.mk hsa
  have HB := Hid.mk hsb
  have HTA := Hid.mk hta
  have HTB := Hid.mk htb
  have HZ := Hid.mk hz
  clear B2 S2 hx hxa hxb hy hya hyb hsa hta hsb htb hz
  go_enter Try.func10, Try.ntmps10
  go_wp2_with fail
  generalize (w.alloc (.cells #[.int .i64 a.k, .string a.s, .string a.t, .slice xo a.x.length xc, .slice xao a.a.length xac, .slice xbo a.b.length xbc] 31)).alloc (.cells #[.int .i64 b.k, .string b.s, .string b.t, .slice yo b.x.length yc, .slice yao b.a.length yac, .slice ybo b.b.length ybc] 31) = W2 at *
  obtain ⟨hA, hB, hP, hb5, hs5⟩ := three_alloc W2 (w.heap.size + 1 + 1) HS2.out (.cells #[.int .i64 a.k, .string a.s, .string a.t, .slice xo a.x.length xc, .slice xao a.a.length xac, .slice xbo a.b.length xbc] 31) (.cells #[.int .i64 b.k, .string b.s, .string b.t, .slice yo b.x.length yc, .slice yao b.a.length yac, .slice ybo b.b.length ybc] 31)
    (.cells #[.slice (some ⟨w.heap.size + 1 + 1, 0, none⟩) 1 1, .slice (some ⟨w.heap.size + 1 + 1 + 1, 0, none⟩) 1 1] 55)
  generalize ((W2.alloc (.cells #[.int .i64 a.k, .string a.s, .string a.t, .slice xo a.x.length xc, .slice xao a.a.length xac, .slice xbo a.b.length xbc] 31)).alloc (.cells #[.int .i64 b.k, .string b.s, .string b.t, .slice yo b.x.length yc, .slice yao b.a.length yac, .slice ybo b.b.length ybc] 31)).alloc
    (.cells #[.slice (some ⟨w.heap.size + 1 + 1, 0, none⟩) 1 1, .slice (some ⟨w.heap.size + 1 + 1 + 1, 0, none⟩) 1 1] 55) = W5 at *
  have hbw : Below w.heap.size w W5 := HB2.out.trans (hb5.mono (by omega))
  have hxD := HX.out.toD hbw (n := w.heap.size + 1 + 1 + 1 + 1) (by omega)
  have hxaD := HXA.out.toD hbw (n := w.heap.size + 1 + 1 + 1 + 1) (by omega)
  have hxbD := HXB.out.toD hbw (n := w.heap.size + 1 + 1 + 1 + 1) (by omega)
  have hyD := HY.out.toD hbw (n := w.heap.size + 1 + 1 + 1 + 1) (by omega)
  have hyaD := HYA.out.toD hbw (n := w.heap.size + 1 + 1 + 1 + 1) (by omega)
  have hybD := HYB.out.toD hbw (n := w.heap.size + 1 + 1 + 1 + 1) (by omega)
  have hqa := Sl.alone (x := .slice xo a.x.length xc) (y := .slice xao a.a.length xac) (z := .slice xbo a.b.length xbc) hA (DD.new (n := w.heap.size + 1 + 1 + 1 + 1) hA (by omega)) HA.out HTA.out hxD hxaD hxbD
  have hqb := Sl.alone (x := .slice yo b.x.length yc) (y := .slice yao b.a.length yac) (z := .slice ybo b.b.length ybc) hB (DD.new (n := w.heap.size + 1 + 1 + 1 + 1) hB (by omega)) HB.out HTB.out hyD hyaD hybD
  have hown : OwnRY W5 (w.heap.size + 1 + 1 + 1 + 1) (.slice (some ⟨w.heap.size + 1 + 1 + 1 + 1, 0, none⟩) 1 1) [⟨[a], [b], .slice (some ⟨w.heap.size + 1 + 1, 0, none⟩) 1 1, .slice (some ⟨w.heap.size + 1 + 1 + 1, 0, none⟩) 1 1⟩] :=
    ⟨rfl, .inr ⟨_, 1, _, rfl, Nat.le_refl _, hP, Nat.le_refl _, by unfold maxLen; omega, rfl, rfl⟩⟩
  refine (sameStmts_any [⟨[a], [b], .slice (some ⟨w.heap.size + 1 + 1, 0, none⟩) 1 1, .slice (some ⟨w.heap.size + 1 + 1 + 1, 0, none⟩) 1 1⟩] [] _ (.slice none 0 0) W5 (w.heap.size + 1 + 1 + 1 + 1) (DD W5 (w.heap.size + 1 + 1 + 1 + 1)) hown ⟨rfl, .inl ⟨rfl, rfl⟩⟩ (DD.dks _ _) (fun b hb => ⟨?_, by simp [Value.ownBlock]⟩) (fun g _ => by simp [Value.ownBlock]) (fun q hq => ?_) (fun q hq => (by cases hq)) ?_ (by omega)).mono ?_
  · intro e
    simp [Value.ownBlock] at e
    have := hb.1
    omega
  · obtain rfl : q = _ := by simpa using hq
    exact ⟨hqa, hqb⟩
  · have hz0 := HZ.out
    simp only [mx, my, szy]
    omega
  rintro e w' ⟨r, rfl, hr, hb⟩
  have HR : Hid (r = sameS a b) := by
    refine Hid.mk ?_
    have : Sme [(⟨[a], [b], .slice (some ⟨w.heap.size + 1 + 1, 0, none⟩) 1 1, .slice (some ⟨w.heap.size + 1 + 1 + 1, 0, none⟩) 1 1⟩ : Prr St)] ∧ Sme ([] : List (Prr Ex)) ↔ a = b := by rw [Sme.one]; simp [Sme]
    rw [this, ← sameS_iff] at hr
    cases r <;> cases hq : sameS a b <;> simp_all
  clear hr hown hqa hqb hxD hxaD hxbD hyD hyaD hybD hA hB hP hb5
  go_wp2
  go_ret
  have hr' := HR.out
  subst hr'
  exact ⟨rfl, hbw.trans (hb.mono (by omega))⟩

end Go.Proofs.Ytijpmnenegdmnaa
