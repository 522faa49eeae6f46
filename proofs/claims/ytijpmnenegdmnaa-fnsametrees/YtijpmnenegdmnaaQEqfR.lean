/- Lists of rules held against each other: slices.EqualFunc with the program's function value. -/
import Derived.Test.YtijpmnenegdmnaaQPgFn
import Derived.Test.YtijpmnenegdmnaaQPgSz
namespace Go.Proofs.Ytijpmnenegdmnaa
open Go.RowKit
set_option maxRecDepth 8000
set_option linter.unusedSimpArgs false
set_option linter.unusedVariables false

theorem slLen {w : World} {B : Nat → Prop} {l : List St} {v : Value} (h : Sl w B l v) : ∃ ao cap, v = .slice ao l.length cap := by obtain ⟨a, c, e, -⟩ := h.len; exact ⟨a, c, e⟩
theorem elLen {w : World} {B : Nat → Prop} {l : List Ex} {v : Value} (h : El w B l v) : ∃ ao cap, v = .slice ao l.length cap := by obtain ⟨a, c, e, -⟩ := h.len; exact ⟨a, c, e⟩
theorem tbLen {w : World} {B : Nat → Prop} {l : List ByteArray} {v : Value} (h : Tb w B v l) : ∃ ao cap, v = .slice ao l.length cap := by obtain ⟨a, c, e, -⟩ := h; exact ⟨a, c, e⟩
theorem Ul.block {w : World} {B : Nat → Prop} {l : List Ru} {b off n cap : Nat} (h : Ul w B l (.slice (some ⟨b, off, none⟩) n cap)) (hl : l ≠ []) : B b := by
  obtain ⟨_, _, e, -, -, -, h6⟩ := h
  obtain ⟨b', off', X, Y, e', hb, -⟩ := h6 hl
  subst e'
  cases e
  exact hb
theorem Fl.block {w : World} {B : Nat → Prop} {l : List Fu} {b off n cap : Nat} (h : Fl w B l (.slice (some ⟨b, off, none⟩) n cap)) (hl : l ≠ []) : B b := by
  obtain ⟨_, _, e, -, -, -, h6⟩ := h
  obtain ⟨b', off', X, Y, e', hb, -⟩ := h6 hl
  subst e'
  cases e
  exact hb

/-- What the first k of both lists have put by. -/
structure KdR (la lb : List Ru) (BN : List (Prr St)) (TN : List (Prr Ex)) (k : Nat) : Prop where
  all : ∀ j, j < k → ∀ (h : j < la.length) (h' : j < lb.length), la[j].k = lb[j].k ∧ (∃ x ∈ BN, x.a = la[j].a ∧ x.b = lb[j].a) ∧ (∃ x ∈ TN, x.a = [la[j].p] ∧ x.b = [lb[j].p])
  bfrom : ∀ x ∈ BN, ∃ j, ∃ (h : j < la.length) (h' : j < lb.length), x.a = la[j].a ∧ x.b = lb[j].a
  tfrom : ∀ x ∈ TN, ∃ j, ∃ (h : j < la.length) (h' : j < lb.length), x.a = [la[j].p] ∧ x.b = [lb[j].p]
  sz : my BN + mx TN ≤ 4 * gsz Ru.sz (lb.take k)
  bl : BN.length ≤ k
  tl : TN.length ≤ k
theorem KdR.start (la lb : List Ru) : KdR la lb [] [] 0 :=
  ⟨fun j h => absurd h (Nat.not_lt_zero j), fun _ h => (by cases h), fun _ h => (by cases h), by simp [my, mx], Nat.zero_le _, Nat.zero_le _⟩
theorem KdR.add {la lb : List Ru} {BN : List (Prr St)} {TN : List (Prr Ex)} {k : Nat} (h : KdR la lb BN TN k) (h1 : k < la.length) (h2 : k < lb.length) (hk : la[k].k = lb[k].k) (u v u' v' : Value) : KdR la lb (BN ++ [⟨la[k].a, lb[k].a, u', v'⟩]) (TN ++ [⟨[la[k].p], [lb[k].p], u, v⟩]) (k + 1) := by
  refine ⟨fun j hj g1 g2 => ?_, fun x hx => ?_, fun x hx => ?_, ?_, by have := h.bl; simp; omega, by have := h.tl; simp; omega⟩
  · by_cases e : j < k
    · obtain ⟨c1, ⟨x, hx, c2⟩, ⟨z, hz, c3⟩⟩ := h.all j e g1 g2
      exact ⟨c1, ⟨x, List.mem_append_left _ hx, c2⟩, ⟨z, List.mem_append_left _ hz, c3⟩⟩
    · obtain rfl : j = k := by omega
      exact ⟨hk, ⟨_, List.mem_append_right _ (List.mem_singleton.2 rfl), rfl, rfl⟩, ⟨_, List.mem_append_right _ (List.mem_singleton.2 rfl), rfl, rfl⟩⟩
  · rcases List.mem_append.1 hx with hx | hx
    · exact h.bfrom x hx
    · obtain rfl : x = _ := by simpa using hx
      exact ⟨k, h1, h2, rfl, rfl⟩
  · rcases List.mem_append.1 hx with hx | hx
    · exact h.tfrom x hx
    · obtain rfl : x = _ := by simpa using hx
      exact ⟨k, h1, h2, rfl, rfl⟩
  · have hs := h.sz
    have hz : lb[k].sz = lb[k].p.sz + szy lb[k].a := rfl
    rw [gsz_take _ _ _ h2, my_append, mx_append]
    simp only [my, mx, szx]
    omega
theorem KdR.done {la lb : List Ru} {BN : List (Prr St)} {TN : List (Prr Ex)} {k : Nat} (h : KdR la lb BN TN k) (ha : la.length = k) (hb : lb.length = k) : la = lb ↔ Sme BN ∧ Sme TN := by
  constructor
  · rintro rfl
    refine ⟨fun x hx => ?_, fun x hx => ?_⟩
    · obtain ⟨j, g1, g2, e1, e2⟩ := h.bfrom x hx
      rw [e1, e2]
    · obtain ⟨j, g1, g2, e⟩ := h.tfrom x hx
      rw [e.1, e.2]
  · rintro ⟨hB, hT⟩
    refine List.ext_getElem (ha.trans hb.symm) fun j h1 h2 => ?_
    obtain ⟨e1, ⟨x, hx, e2, e3⟩, ⟨z, hz, e4, e5⟩⟩ := h.all j (by omega) h1 h2
    have e6 : la[j].a = lb[j].a := by rw [← e2, ← e3]; exact hB x hx
    have e7 : [la[j].p] = [lb[j].p] := by rw [← e4, ← e5]; exact hT z hz
    simp at e7
    cases hA : la[j]
    cases hB' : lb[j]
    simp [hA, hB'] at e1 e6 e7
    simp [e1, e6, e7]

set_option maxHeartbeats 8000000 in
theorem equalFuncR_any (D0 : Nat → Prop) (base bb tb : Nat) (BT : List (Prr St)) (TT : List (Prr Ex)) (w : World) (hS : PgS D0 base bb tb BT TT w) (la lb : List Ru) (va vb : Value) (ha : Ul w D0 la va) (hb : Ul w D0 lb vb)
    (hlb : BT.length + la.length + 1 ≤ 2199023255552) (hlt : TT.length + la.length + 1 ≤ 2199023255552) :
    Calls Try.prog 26 #[va, vb, .func (.func 23) #[] #[.pointer (some ⟨bb, 0, none⟩), .pointer (some ⟨tb, 0, none⟩)]] w fun e w' => ∃ r, e = .returned (.bool r) ∧ (r = false → la ≠ lb) ∧ Below base w w' ∧ (∀ b, D0 b → w'.heap[b]? = w.heap[b]?) ∧
      (r = true → ∃ BN TN, PgS D0 base bb tb (BT ++ BN) (TT ++ TN) w' ∧ (la = lb ↔ Sme BN ∧ Sme TN) ∧ my BN + mx TN ≤ 4 * gsz Ru.sz lb ∧ BN.length ≤ la.length ∧ TN.length ≤ la.length) := by
  obtain ⟨ao, ac, rfl, a1, a2, -⟩ := ha.len
  obtain ⟨bo, bc, rfl, b1, b2, -⟩ := hb.len
  have a3 : ac ≤ 9223372036854775807 := by unfold maxLen at a2; exact a2
  have b3 : bc ≤ 9223372036854775807 := by unfold maxLen at b2; exact b2
  have hbs : base ≤ w.heap.size := by
    obtain ⟨_, _, _, _, _, _, h4, _, _, _, _, _, _, _, h12, _⟩ := hS
    have := (Array.getElem?_eq_some_iff.1 h4).1
    omega
  have HS := Hid.mk hS
  have HA := Hid.mk ha
  have HB := Hid.mk hb
  have HLB := Hid.mk hlb
  have HLT := Hid.mk hlt
  clear hS ha hb hlb hlt a2 b2
  obtain ⟨na, hna⟩ : ∃ n, la.length = n := ⟨_, rfl⟩
  obtain ⟨nb, hnb⟩ : ∃ n, lb.length = n := ⟨_, rfl⟩
  rw [hna] at a1 HA HLB HLT
  rw [hnb] at b1 HB
  rw [hna, hnb]
  have HNA := Hid.mk hna
  have HNB := Hid.mk hnb
  clear hna hnb
  by_cases hl : na = nb
  case neg =>
    have hb1 : ((na : Int) != (nb : Int)) = true := by rw [bne_iff_ne]; omega
    have hb2 : ((na : Int) == (nb : Int)) = false := by rw [beq_eq_false_iff_ne]; omega
    have HF : Hid (la ≠ lb) := fun e => hl (by rw [← HNA.out, ← HNB.out, e])
    clear hl
    go_enter Try.func26, Try.ntmps26
    go_wp2
    go_ret
    exact ⟨false, rfl, fun _ => HF.out, Below.refl _ _, fun _ _ => rfl, fun e => (by cases e)⟩
  subst hl
  have hb1 : ((na : Int) != (na : Int)) = false := by simp
  have hb2 : ((na : Int) == (na : Int)) = true := by simp
  go_enter Try.func26, Try.ntmps26
  go_wp2
  go_loopw [17] (fun i wr => ∃ k : Nat, k ≤ na ∧ i = .int .i64 k ∧ Hid (∃ BN TN, PgS D0 base bb tb (BT ++ BN) (TT ++ TN) wr ∧ KdR la lb BN TN k) ∧ Hid (Below base w wr) ∧ Hid (∀ b, D0 b → wr.heap[b]? = w.heap[b]?)) (fun i _ => na - (intOf i).toNat)
  case atStart => exact ⟨0, Nat.zero_le _, rfl, ⟨[], [], by rw [List.append_nil, List.append_nil]; exact HS.out, KdR.start _ _⟩, Below.refl _ _, fun _ _ => rfl⟩
  case round =>
    obtain ⟨k, hk, rfl, hst, hbel, hkD⟩ := hrel
    obtain ⟨BN, TN, hPS, hKd⟩ := hst.out
    clear hst
    have HPS := Hid.mk hPS
    have HKd := Hid.mk hKd
    clear hPS hKd
    by_cases hkl : k < na
    · have hi1 : (k : Int) < na := by omega
      have hka : k < la.length := by rw [HNA.out]; exact hkl
      have hkb : k < lb.length := by rw [HNB.out]; exact hkl
      obtain ⟨ba, oa, XA, YA, rfl, hela⟩ := HA.out.elems (by rintro rfl; simp at hka)
      obtain ⟨bb', ob, XB, YB, rfl, helb⟩ := HB.out.elems (by rintro rfl; simp at hkb)
      obtain ⟨⟨x0, x1, x2, x3, x4, x5⟩, hsx, hsy, hsz⟩ := hela k hka
      obtain ⟨⟨y0, y1, y2, y3, y4, y5⟩, htx, hty, htz⟩ := helb k hkb
      have hda : D0 ba := HA.out.block (by rintro rfl; simp at hka)
      have hdb : D0 bb' := HB.out.block (by rintro rfl; simp at hkb)
      obtain ⟨po, pc, e1⟩ := elLen hsx
      obtain ⟨qo, qc, e2⟩ := slLen hsy
      obtain ⟨ro, rc, e3⟩ := elLen htx
      obtain ⟨so, sc, e4⟩ := slLen hty
      rw [e1] at x4 hsx
      rw [e2] at x5 hsy
      rw [e3] at y4 htx
      rw [e4] at y5 hty
      clear e1 e2 e3 e4
      have HNEXT : Hid (∀ (u v : Value), la[k].k = lb[k].k → KdR la lb (BN ++ [⟨la[k].a, lb[k].a, .slice qo la[k].a.length qc, .slice so lb[k].a.length sc⟩]) (TN ++ [⟨[la[k].p], [lb[k].p], u, v⟩]) (k + 1)) := fun u v h => HKd.out.add hka hkb h _ _ _ _
      have HNO : Hid (¬ (la[k].k = lb[k].k) → la ≠ lb) := fun h e => h (by subst e; exact rfl)
      obtain ⟨x, hx⟩ : ∃ x, la[k] = x := ⟨_, rfl⟩
      obtain ⟨y, hy⟩ : ∃ y, lb[k] = y := ⟨_, rfl⟩
      rw [hx] at x0 x1 x2 x3 x4 x5 hsx hsy hsz
      rw [hy] at y0 y1 y2 y3 y4 y5 htx hty htz
      rw [hx, hy] at HNEXT HNO
      clear hx hy hka hkb hela helb
      have ka := hkD.out ba hda
      have kb := hkD.out bb' hdb
      have p0 : wr.cell? ⟨ba, oa + k * 6, none⟩ = some (.int .i64 x.k) := by rw [World.cell?_of_block (w := w) ka]; exact x0
      have p1 : wr.cell? ⟨ba, oa + k * 6 + 1, none⟩ = some (.int .i64 x.p.k) := by rw [World.cell?_of_block (w := w) ka]; exact x1
      have p2 : wr.cell? ⟨ba, oa + k * 6 + 2, none⟩ = some (.int .i64 x.p.n) := by rw [World.cell?_of_block (w := w) ka]; exact x2
      have p3 : wr.cell? ⟨ba, oa + k * 6 + 3, none⟩ = some (.string x.p.s) := by rw [World.cell?_of_block (w := w) ka]; exact x3
      have p4 : wr.cell? ⟨ba, oa + k * 6 + 4, none⟩ = some (.slice po x.p.l.length pc) := by rw [World.cell?_of_block (w := w) ka]; exact x4
      have p5 : wr.cell? ⟨ba, oa + k * 6 + 5, none⟩ = some (.slice qo x.a.length qc) := by rw [World.cell?_of_block (w := w) ka]; exact x5
      have q0 : wr.cell? ⟨bb', ob + k * 6, none⟩ = some (.int .i64 y.k) := by rw [World.cell?_of_block (w := w) kb]; exact y0
      have q1 : wr.cell? ⟨bb', ob + k * 6 + 1, none⟩ = some (.int .i64 y.p.k) := by rw [World.cell?_of_block (w := w) kb]; exact y1
      have q2 : wr.cell? ⟨bb', ob + k * 6 + 2, none⟩ = some (.int .i64 y.p.n) := by rw [World.cell?_of_block (w := w) kb]; exact y2
      have q3 : wr.cell? ⟨bb', ob + k * 6 + 3, none⟩ = some (.string y.p.s) := by rw [World.cell?_of_block (w := w) kb]; exact y3
      have q4 : wr.cell? ⟨bb', ob + k * 6 + 4, none⟩ = some (.slice ro y.p.l.length rc) := by rw [World.cell?_of_block (w := w) kb]; exact y4
      have q5 : wr.cell? ⟨bb', ob + k * 6 + 5, none⟩ = some (.slice so y.a.length sc) := by rw [World.cell?_of_block (w := w) kb]; exact y5
      have hDS : ∀ b, D0 b → b < wr.heap.size := fun b hb => by
        obtain ⟨_, _, _, h1, h2, _⟩ := HPS.out
        exact h1.lt (h2 b hb)
      have HDS := Hid.mk hDS
      have hal := hDS ba hda
      have hbl := hDS bb' hdb
      have HX1 : Hid (∀ W, (∀ b, D0 b → W.heap[b]? = wr.heap[b]?) → El W D0 x.p.l (.slice po x.p.l.length pc) ∧ Sl W D0 x.a (.slice qo x.a.length qc) ∧ El W D0 y.p.l (.slice ro y.p.l.length rc) ∧ Sl W D0 y.a (.slice so y.a.length sc)) := fun W hW =>
        ⟨hsx.kept fun b hb _ => (hW b hb).trans (hkD.out b hb), hsy.kept fun b hb _ => (hW b hb).trans (hkD.out b hb), htx.kept fun b hb _ => (hW b hb).trans (hkD.out b hb), hty.kept fun b hb _ => (hW b hb).trans (hkD.out b hb)⟩
      have HSX := Hid.mk (And.intro hsz htz)
      have HLB2 : Hid ((BT ++ BN).length + 1 ≤ 2199023255552) := by refine Hid.mk ?_; have := HLB.out; have := HKd.out.bl; rw [List.length_append]; omega
      have HLT2 : Hid ((TT ++ TN).length + 1 ≤ 2199023255552) := by refine Hid.mk ?_; have := HLT.out; have := HKd.out.tl; rw [List.length_append]; omega
      have HWA : Hid (∀ o o' b, D0 b → ((wr.alloc o).alloc o').heap[b]? = wr.heap[b]?) := fun o o' b hb => ((World.grownBy_alloc _ o' none).block b (by have := HDS.out b hb; simp; omega) (by simp)).trans ((World.grownBy_alloc wr o none).block b (HDS.out b hb) (by simp))
      have HGA : Hid (∀ o o', Below wr.heap.size wr ((wr.alloc o).alloc o')) := fun o o' => ((Below.refl _ _).alloc (Nat.le_refl _) _).alloc (by simp) _
      clear x0 x1 x2 x3 x4 x5 y0 y1 y2 y3 y4 y5 ka kb hsx hsy htx hty hda hdb hDS
      have hbr : base ≤ wr.heap.size := by have := hbel.out.size; omega
      go_wp2_with fail
      refine (sameRule_any D0 base bb tb (BT ++ BN) (TT ++ TN) _ (HPS.out.grow (HGA.out _ _)) x y po qo ro so pc qc rc sc (HX1.out _ (HWA.out _ _)).1 (HX1.out _ (HWA.out _ _)).2.1 (HX1.out _ (HWA.out _ _)).2.2.1 (HX1.out _ (HWA.out _ _)).2.2.2 HSX.out.1 HSX.out.2 HLB2.out HLT2.out).mono ?_
      rintro e w3 ⟨rfl, hb3, hk3, u, v, hp3⟩
      have HB3 : Hid (Below base w w3) := (hbel.out.trans ((HGA.out _ _).mono hbr)).trans hb3
      have HK3 : Hid (∀ b, D0 b → w3.heap[b]? = w.heap[b]?) := fun b hb => (hk3 b hb).trans ((HWA.out _ _ b hb).trans (hkD.out b hb))
      have HP3 := Hid.mk hp3
      clear hb3 hk3 hp3
      have HRR : Hid ((x.k == y.k) = true ↔ x.k = y.k) := by simp [Hid]
      obtain ⟨r, hr⟩ : ∃ r, (x.k == y.k) = r := ⟨_, rfl⟩
      rw [hr] at HRR
      rw [hr]
      clear hr
      cases r with
      | false =>
        have HF : Hid (la ≠ lb) := HNO.out (fun h => by have := HRR.out.2 h; cases this)
        go_wp2
        go_ret
        exact ⟨false, rfl, fun _ => HF.out, HB3.out, HK3.out, fun e => (by cases e)⟩
      | true =>
        have HKN := Hid.mk (HNEXT.out u v (HRR.out.1 rfl))
        go_wp2
        go_roundw
        case measure => simp [intOf]; omega
        case rel => exact ⟨k + 1, by omega, rfl, ⟨_, _, by have := HP3.out; rw [List.append_assoc, List.append_assoc] at this; exact this, HKN.out⟩, HB3, HK3⟩
    · obtain rfl : k = na := by omega
      have hi1 : ¬ ((k : Int) < (k : Int)) := by omega
      have HD : Hid (la = lb ↔ Sme BN ∧ Sme TN) := HKd.out.done HNA.out HNB.out
      have HZ : Hid (my BN + mx TN ≤ 4 * gsz Ru.sz lb) := by
        refine Hid.mk ?_
        have := HKd.out.sz
        rw [List.take_of_length_le (by rw [HNB.out]; exact Nat.le_refl _)] at this
        exact this
      go_wp2
      go_ret
      first | exact .inr ⟨rfl, hbel.out, hkD.out, BN, TN, HPS.out, HD.out, HZ.out, HKd.out.bl, HKd.out.tl⟩ | exact ⟨true, rfl, fun e => (by cases e), hbel.out, hkD.out, fun _ => ⟨BN, TN, HPS.out, HD.out, HZ.out, HKd.out.bl, HKd.out.tl⟩⟩
end Go.Proofs.Ytijpmnenegdmnaa
