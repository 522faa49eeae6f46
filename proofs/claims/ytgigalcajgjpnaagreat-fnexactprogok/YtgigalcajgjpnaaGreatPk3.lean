/- Which programs are right: the model's l10Body, l10Zero, l10Rule, l10Params, l10Fn, ProgOk. What a statement's kind asks: the program's formOf, nameAsFormed, blockAsFormed, stmtTermsOk. What a statement's kind asks: the program's stmtNodeOk. What a statement's kind asks: the program's stmtNodeOk says nodeP. The small functions of the laws over terms: how great one is, a copy of it, in new blocks. The small functions of the laws over statements: how great one is, a copy of it, in new blocks. Rows of statements of the call's own: what they read, append onto one. Two lists of statements, one behind the other: the library's Grow and Concat at them, and the program's stmtParts. How much room a statement leaves: the program's roomLeft over statements, its StmtOk. What is read out of blocks of which no cell is frozen, in later worlds. Statements: each is asked by StmtOk; blockOk. Places that stand for places: ways up, what is joined. Nothing of the program. Trees held against each other by lists: what is joined is the same, as deep as one looks. Nothing of the program. Places as the model has them: what a map of places holds; nothing on the element's type. The map of places of lists of terms: asked and put to. -/
import Derived.Test.YtgigalcajgjpnaaGreatPk2
import Derived.Lib.QuietBelow
import Derived.Test.YtgigalcajgjpnaaGreatExTree
import Derived.Test.YtgigalcajgjpnaaGreatRexTo
import Derived.Test.YtgigalcajgjpnaaGreatStTree
import Derived.Maps.AppendAt
import Derived.Laws.AppendOwnNone
import Derived.Lib.AppendZeros
import Derived.Test.YtgigalcajgjpnaaGreatStOkM
import Derived.Maps.OwnOps
import Derived.LaidEql
import Derived.Laws.StructEq
import Derived.Carry
import Derived.ChangeMaps5
namespace Go.Proofs.YtgigalcajgjpnaaGreat
open Go.RowKit
set_option maxRecDepth 8000

/-- Statements that are right, 20 at most. -/
noncomputable def bodyB (l : List St) : Bool := l.all okS && decide (l.length ≤ 20)
/-- A term that is zero. -/
def zeroB (p : Ex) : Bool := p.k == 0 && p.n == 0 && p.s.toList.isEmpty && (p.l.length : Int) == 0
noncomputable def ruleB (r : Ru) : Bool :=
  if r.k = 1 ∨ r.k = 2 ∨ r.k = 3 then zeroB r.p && bodyB r.a else if r.k = 4 then okE r.p && bodyB r.a else false
/-- Whether one of these texts is this one. -/
def hasT (l : List ByteArray) (s : ByteArray) : Bool := l.any fun x => x.toList == s.toList
open Classical in
/-- Names, no two alike, 4 at most. -/
noncomputable def paramsB (l : List ByteArray) : Bool := decide ((∀ i (h : i < l.length), nmB l[i] = true ∧ hasT (l.take i) l[i] = false) ∧ l.length ≤ 4)
/-- A function among these is right. -/
def FnP (l : List Fu) (i : Nat) (h : i < l.length) : Prop := nmB l[i].n = true ∧ (∀ j (hj : j < i), (l[j].n.toList == l[i].n.toList) = false) ∧ paramsB l[i].ps = true ∧ bodyB l[i].a = true
open Classical in
/-- A program is right. -/
noncomputable def progB (p : Pg) : Bool := decide ((∀ r ∈ p.r, ruleB r = true) ∧ (∀ i (h : i < p.f.length), FnP p.f i h) ∧ p.r.length ≤ 10 ∧ p.f.length ≤ 6)
theorem progB_iff {p : Pg} : progB p = true ↔ (∀ r ∈ p.r, ruleB r = true) ∧ (∀ i (h : i < p.f.length), FnP p.f i h) ∧ p.r.length ≤ 10 ∧ p.f.length ≤ 6 := by simp [progB]
theorem paramsB_iff {l : List ByteArray} : paramsB l = true ↔ (∀ i (h : i < l.length), nmB l[i] = true ∧ hasT (l.take i) l[i] = false) ∧ l.length ≤ 4 := by simp [paramsB]

/-- No text within is too long. -/
def ShRu (r : Ru) : Prop := ShX r.p ∧ ∀ y ∈ r.a, ShY y
def ShFu (f : Fu) : Prop := ∀ y ∈ f.a, ShY y
def ShPg (p : Pg) : Prop := (∀ r ∈ p.r, ShRu r) ∧ ∀ f ∈ p.f, ShFu f

theorem allS_no {l : List St} {k : Nat} (h : k < l.length) (hk : okS l[k] = false) : l.all okS = false := by
  cases hb : l.all okS with
  | false => rfl
  | true => have := List.all_eq_true.1 hb _ (List.getElem_mem h); rw [hk] at this; cases this
theorem allS_yes {l : List St} (h : ∀ j (hj : j < l.length), okS l[j] = true) : l.all okS = true := by
  rw [List.all_eq_true]
  intro x hx
  obtain ⟨j, hj, rfl⟩ := List.getElem_of_mem hx
  exact h j hj

set_option maxHeartbeats 2000000 in
theorem l10Body_any (l : List St) (B : Nat → Prop) (v : Value) (w : World) (h : Sl w B l v) (hs : ∀ y ∈ l, ShY y) :
    Calls Tryz.prog 18 #[v] w fun e w' => e = .returned (.bool (bodyB l)) ∧ Below w.heap.size w w' := by
  have HR0 : Hid (bodyB l = (l.all okS && decide (l.length ≤ 20))) := rfl
  obtain ⟨R, hR⟩ : ∃ R, bodyB l = R := ⟨_, rfl⟩
  rw [hR] at HR0 ⊢
  clear hR
  obtain ⟨ao, cap, rfl, hl1, hl2, hl3⟩ := h.len
  have hm : cap ≤ 9223372036854775807 := by unfold maxLen at hl2; omega
  have HH := Hid.mk h
  have HS := Hid.mk hs
  clear h hs hl2
  go_enter Tryz.func18, Tryz.ntmps18
  go_wp2
  go_loopw [3] (fun i wr => ∃ (k1 : Nat), k1 ≤ l.length ∧ i = .int .i64 k1 ∧ Hid (∀ j (hj : j < l.length), j < k1 → okS l[j] = true) ∧ Below w.heap.size w wr) (fun i _ => l.length - (intOf i).toNat)
  case atStart => exact ⟨0, Nat.zero_le _, rfl, fun j _ hj => absurd hj (Nat.not_lt_zero j), Below.refl _ _⟩
  case round =>
    obtain ⟨k1, hk, rfl, Ho, hbel⟩ := hrel
    by_cases hkl : k1 < l.length
    · have hi1 : (k1 : Int) < (l.length : Int) := by omega
      obtain ⟨b, off, X, Y, Z, rfl, hel⟩ := HH.out.elems (by intro hn; rw [hn] at hkl; simp at hkl)
      obtain ⟨h3, hx, ha, hz, -, -⟩ := hel k1 hkl
      have hall : ShY l[k1] := HS.out _ (List.getElem_mem hkl)
      have HNO := Hid.mk (fun h => allS_no (l := l) hkl h)
      have HO2 : Hid (okS l[k1] = true → ∀ j (hj : j < l.length), j < k1 + 1 → okS l[j] = true) := by
        intro hne j hj hj1
        by_cases hj2 : j < k1
        · exact Ho.out j hj hj2
        · obtain rfl : j = k1 := by omega
          exact hne
      obtain ⟨t', ht⟩ : ∃ t, l[k1] = t := ⟨_, rfl⟩
      rw [ht] at h3 hx ha hz HNO HO2 hall
      clear ht hel
      obtain ⟨c0, c1, c2, c3, c4, c5⟩ := h3.kept (w' := wr) (hbel.block b (World.block_lt_of_cell? w _ h3.1))
      have cA := Hid.mk (specStmtOk_any t' B (X k1) (Y k1) (Z k1) wr (hx.grow hbel) (ha.grow hbel) (hz.grow hbel) hall)
      obtain ⟨ok, hok⟩ : ∃ ok, okS t' = ok := ⟨_, rfl⟩
      rw [hok] at cA HNO HO2
      clear hx ha hz h3 hok hall
      cases ok with
      | false =>
        have HR : Hid (false = R) := by show _ = _; rw [HR0.out, HNO.out rfl]; rfl
        clear HNO HO2 HR0 HH HS
        go_wp2_with fail
        refine cA.out.mono ?_
        rintro e w2 ⟨rfl, hb2⟩
        have B3 := hbel.trans (hb2.mono hbel.size)
        clear hbel hb2 cA
        go_wp2
        go_ret
        exact ⟨ret_tb HR.out, B3⟩
      | true =>
        have HO3 := Hid.mk (HO2.out rfl)
        clear HNO HO2
        go_wp2_with fail
        refine cA.out.mono ?_
        rintro e w2 ⟨rfl, hb2⟩
        have B3 := hbel.trans (hb2.mono hbel.size)
        clear hbel hb2 cA
        go_wp2
        go_roundw
        case rel => exact ⟨k1 + 1, by omega, by go_num, HO3, B3⟩
        case measure => simp [intOf]; omega
    · have e : k1 = l.length := by omega
      subst e
      have HE : Hid (decide ((l.length : Int) ≤ 20) = R) := by
        show _ = _
        rw [HR0.out, allS_yes (fun j hj => Ho.out j hj hj), Bool.true_and]
        by_cases h : l.length ≤ 20
        · rw [decide_eq_true h, decide_eq_true (by omega)]
        · rw [decide_eq_false h, decide_eq_false (by omega)]
      clear Ho HR0 HH HS
      go_wp2
      go_ret
      exact ⟨ret_tb HE.out, hbel⟩

theorem l10Zero_any (t : Ex) (v : Value) (w : World) (hv : ∃ ao cap, v = .slice ao t.l.length cap) :
    Calls Tryz.prog 35 #[xx t.k t.n t.s v] w fun e w' => e = .returned (.bool (zeroB t)) ∧ Below w.heap.size w w' := by
  obtain ⟨ao, cap, rfl⟩ := hv
  have HR : Hid (zeroB t = (t.k == 0 && t.n == 0 && t.s.toList.isEmpty && (t.l.length : Int) == 0)) := rfl
  obtain ⟨R, hR⟩ : ∃ R, zeroB t = R := ⟨_, rfl⟩
  rw [hR] at HR ⊢
  clear hR
  have A0 : Below w.heap.size w (w.alloc (.cells #[.int .i64 t.k, .int .i64 t.n, .string t.s, .slice ao t.l.length cap] 41)) := (Below.refl _ _).alloc (Nat.le_refl _) _
  cases h1 : (t.k == 0) with
  | false =>
    go_enter Tryz.func35, Tryz.ntmps35
    go_wp2
    go_ret
    exact ⟨ret_tb (by rw [HR.out, h1]; rfl), A0⟩
  | true =>
    cases h2 : (t.n == 0) with
    | false =>
      go_enter Tryz.func35, Tryz.ntmps35
      go_wp2
      go_ret
      exact ⟨ret_tb (by rw [HR.out, h1, h2]; rfl), A0⟩
    | true =>
      cases h3 : t.s.toList.isEmpty with
      | false =>
        go_enter Tryz.func35, Tryz.ntmps35
        go_wp2
        go_ret
        exact ⟨ret_tb (by rw [HR.out, h1, h2, h3]; rfl), A0⟩
      | true =>
        go_enter Tryz.func35, Tryz.ntmps35
        go_wp2
        go_ret
        exact ⟨ret_tb (by rw [HR.out, h1, h2, h3]; rfl), A0⟩

set_option maxHeartbeats 1000000 in
theorem l10Rule_any (t : Ru) (B : Nat → Prop) (x y : Value) (w : World) (hx : El w B t.p.l x) (hy : Sl w B t.a y) (hs : ShRu t) :
    Calls Tryz.prog 14 #[ruV t x y] w fun e w' => e = .returned (.bool (ruleB t)) ∧ Below w.heap.size w w' := by
  have HZ := Hid.mk (fun (w' : World) => l10Zero_any t.p x w' (by obtain ⟨a, c, e, -⟩ := hx.len; exact ⟨a, c, e⟩))
  have HE := Hid.mk (fun (w' : World) (hw : Below w.heap.size w w') => specExprOk_any t.p B x w' (hx.grow hw) hs.1)
  have HB := Hid.mk (fun (w' : World) (hw : Below w.heap.size w w') => l10Body_any t.a B y w' (hy.grow hw) hs.2)
  have HR : Hid (ruleB t = if t.k = 1 ∨ t.k = 2 ∨ t.k = 3 then zeroB t.p && bodyB t.a else if t.k = 4 then okE t.p && bodyB t.a else false) := rfl
  obtain ⟨R, hR⟩ : ∃ R, ruleB t = R := ⟨_, rfl⟩
  rw [hR] at HR ⊢
  clear hR
  obtain ⟨xo, xc, rfl, -, -, -⟩ := hx.len
  obtain ⟨yo, yc, rfl, -, -, -⟩ := hy.len
  clear hx hy hs
  have A0 : Below w.heap.size w (w.alloc (.cells #[.int .i64 t.k, .int .i64 t.p.k, .int .i64 t.p.n, .string t.p.s, .slice xo t.p.l.length xc, .slice yo t.a.length yc] 44)) := (Below.refl _ _).alloc (Nat.le_refl _) _
  generalize zeroB t.p = z at *
  generalize okE t.p = o at *
  generalize bodyB t.a = q at *
  obtain ⟨k, hk⟩ : ∃ k, t.k = k := ⟨_, rfl⟩
  rw [hk] at HR A0
  unfold ruV
  rw [hk]
  clear hk
  by_cases k4 : k = 4
  · subst k4
    have HR2 : Hid (R = (o && q)) := by show _ = _; rw [HR.out]; simp
    clear HR HZ
    cases o with
    | false =>
      go_enter Tryz.func14, Tryz.ntmps14
      go_wp2_with fail
      refine (HE.out _ A0).mono ?_
      rintro e w1 ⟨rfl, hb1⟩
      have B1 := A0.trans (hb1.mono (by simp))
      clear A0 hb1 HE HB
      go_wp2
      go_ret
      exact ⟨ret_tb (by rw [HR2.out]; rfl), B1⟩
    | true =>
      go_enter Tryz.func14, Tryz.ntmps14
      go_wp2_with fail
      refine (HE.out _ A0).mono ?_
      rintro e w1 ⟨rfl, hb1⟩
      have B1 := A0.trans (hb1.mono (by simp))
      have hc1 := fun o => hb1.cell (p := ⟨w.heap.size, o, none⟩) (by simp)
      clear A0 hb1 HE
      go_wp2_with fail
      refine (HB.out _ B1).mono ?_
      rintro e w2 ⟨rfl, hb2⟩
      have B2 := B1.trans (hb2.mono B1.size)
      clear B1 hb2 HB hc1
      go_wp2
      go_ret
      exact ⟨ret_tb (by rw [HR2.out]; simp), B2⟩
  have k4b : (k == 4) = false := beq_eq_false_iff_ne.2 k4
  by_cases k0 : k = 1 ∨ k = 2 ∨ k = 3
  · have HR2 : Hid (R = (z && q)) := by show _ = _; rw [HR.out, if_pos k0]
    clear HR HE k4
    rcases k0 with rfl | rfl | rfl
    all_goals
      cases z with
      | false =>
        go_enter Tryz.func14, Tryz.ntmps14
        go_wp2_with fail
        refine (HZ.out _).mono ?_
        rintro e w1 ⟨rfl, hb1⟩
        have B1 := A0.trans (hb1.mono (by simp))
        clear A0 hb1 HZ HB
        go_wp2
        go_ret
        exact ⟨ret_tb (by rw [HR2.out]; rfl), B1⟩
      | true =>
        go_enter Tryz.func14, Tryz.ntmps14
        go_wp2_with fail
        refine (HZ.out _).mono ?_
        rintro e w1 ⟨rfl, hb1⟩
        have B1 := A0.trans (hb1.mono (by simp))
        have hc1 := fun o => hb1.cell (p := ⟨w.heap.size, o, none⟩) (by simp)
        clear A0 hb1 HZ
        go_wp2_with fail
        refine (HB.out _ B1).mono ?_
        rintro e w2 ⟨rfl, hb2⟩
        have B2 := B1.trans (hb2.mono B1.size)
        clear B1 hb2 HB hc1
        go_wp2
        go_ret
        exact ⟨ret_tb (by rw [HR2.out]; simp), B2⟩
  · have HR2 : Hid (R = false) := by show _ = _; rw [HR.out, if_neg k0, if_neg k4]
    have k1b : (k == 1) = false := beq_eq_false_iff_ne.2 (by omega)
    have k2b : (k == 2) = false := beq_eq_false_iff_ne.2 (by omega)
    have k3b : (k == 3) = false := beq_eq_false_iff_ne.2 (by omega)
    clear HR HE HZ HB k0 k4
    go_enter Tryz.func14, Tryz.ntmps14
    go_wp2
    go_ret
    exact ⟨ret_tb HR2.out.symm, A0⟩

theorem hasT_yes {l : List ByteArray} {s : ByteArray} {k : Nat} (h : k < l.length) (hk : (l[k].toList == s.toList) = true) : hasT l s = true :=
  List.any_eq_true.2 ⟨_, List.getElem_mem h, hk⟩
theorem hasT_no {l : List ByteArray} {s : ByteArray} (h : ∀ j (hj : j < l.length), (l[j].toList == s.toList) = false) : hasT l s = false := by
  rw [hasT, List.any_eq_false]
  intro x hx
  obtain ⟨j, hj, rfl⟩ := List.getElem_of_mem hx
  rw [h j hj]
  simp

set_option maxHeartbeats 1000000 in
theorem hasT_any (xs : List ByteArray) (b off n cap : Nat) (s : ByteArray) (w : World) (hc : ∀ j (h : j < xs.length), w.cell? ⟨b, off + j, none⟩ = some (.string xs[j])) (hn : n = xs.length) (hcap : n ≤ cap) (hcm : cap ≤ 9223372036854775807) :
    Calls Tryz.prog 38 #[.slice (some ⟨b, off, none⟩) n cap, .string s] w fun e w' => e = .returned (.bool (hasT xs s)) ∧ w' = w := by
  have HC := Hid.mk hc
  have HY := Hid.mk (fun k h hk => hasT_yes (l := xs) (s := s) (k := k) h hk)
  have HN := Hid.mk (fun h => hasT_no (l := xs) (s := s) h)
  have HL := Hid.mk hn
  obtain ⟨R, hR⟩ : ∃ R, hasT xs s = R := ⟨_, rfl⟩
  rw [hR] at HY HN ⊢
  clear hR hc hn
  go_enter Tryz.func38, Tryz.ntmps38
  go_wp2
  go_loop [5] (fun i => ∃ k : Nat, i = .int .i64 k ∧ k ≤ n ∧ Hid (∀ j (hj : j < xs.length), j < k → (xs[j].toList == s.toList) = false)) (fun i => n - (intOf i).toNat)
  case atStart => exact ⟨0, rfl, Nat.zero_le _, fun j _ hj => by omega⟩
  case round =>
    obtain ⟨k, rfl, hk, HA⟩ := hrel
    by_cases hlt : k < n
    · have hki : (k : Int) < (n : Int) := by omega
      have hkx : k < xs.length := by have := HL.out; omega
      have c0 := HC.out k hkx
      cases h : (xs[k].toList == s.toList) with
      | true =>
        have HF := Hid.mk (HY.out k hkx h)
        generalize xs[k] = x at c0 h
        clear HA HY HN
        go_wp2
        go_ret
        exact ⟨ret_tb HF.out.symm, rfl⟩
      | false =>
        have HA2 : Hid (∀ j (hj : j < xs.length), j < k + 1 → (xs[j].toList == s.toList) = false) := fun j hj hj1 => by
          by_cases e : j = k
          · subst e; exact h
          · exact HA.out j hj (by omega)
        generalize xs[k] = x at c0 h
        clear HA HY HN
        go_wp2
        go_round
        case rel => exact ⟨k + 1, by go_num, by omega, HA2⟩
        case measure => simp [intOf]; omega
    · have HF := Hid.mk (HN.out fun j hj => HA.out j hj (by have := HL.out; omega))
      have hki : ¬ (k : Int) < (n : Int) := by omega
      clear HA HY HN
      go_wp2
      go_ret
      exact ⟨ret_tb HF.out.symm, rfl⟩

/-- Where the first of these functions of this name is; -1: there is none. -/
def FnAt (l : List Fu) (s : ByteArray) (m : Int) : Prop :=
  (m = -1 ∧ ∀ j (hj : j < l.length), (l[j].n.toList == s.toList) = false) ∨ ∃ i, ∃ h : i < l.length, m = i ∧ (l[i].n.toList == s.toList) = true ∧ ∀ j (hj : j < i), (l[j].n.toList == s.toList) = false

set_option maxHeartbeats 1000000 in
theorem l10Fn_any (p : Pg) (B : Nat → Prop) (x y : Value) (s : ByteArray) (w : World) (hx : ∃ o n c, x = .slice o n c) (hy : Fl w B p.f y) :
    Calls Tryz.prog 16 #[pgV x y, .string s] w fun e w' => ∃ m, e = .returned (.int .i64 m) ∧ FnAt p.f s m ∧ Below w.heap.size w w' := by
  obtain ⟨xo, xn, xc, rfl⟩ := hx
  obtain ⟨l, hl⟩ : ∃ l, p.f = l := ⟨_, rfl⟩
  rw [hl] at hy ⊢
  clear hl
  obtain ⟨yo, yc, rfl, hl1, hl2, -⟩ := hy.len
  have hm : yc ≤ 9223372036854775807 := by unfold maxLen at hl2; omega
  have HH := Hid.mk hy
  clear hy hl2
  have A0 : Below w.heap.size w (w.alloc (.cells #[.slice xo xn xc, .slice yo l.length yc] 31)) := (Below.refl _ _).alloc (Nat.le_refl _) _
  go_enter Tryz.func16, Tryz.ntmps16
  go_wp2
  go_loopw [5] (fun i wr => ∃ (k1 : Nat), k1 ≤ l.length ∧ i = .int .i64 k1 ∧ Hid (∀ j (hj : j < l.length), j < k1 → (l[j].n.toList == s.toList) = false) ∧ wr = (w.alloc (.cells #[.slice xo xn xc, .slice yo l.length yc] 31))) (fun i _ => l.length - (intOf i).toNat)
  case atStart => exact ⟨0, Nat.zero_le _, rfl, fun j _ hj => absurd hj (Nat.not_lt_zero j), rfl⟩
  case round =>
    obtain ⟨k1, hk, rfl, Ho, rfl⟩ := hrel
    by_cases hkl : k1 < l.length
    · have hi1 : (k1 : Int) < (l.length : Int) := by omega
      obtain ⟨b, off, X, Y, rfl, hel⟩ := HH.out.elems (by intro hn; rw [hn] at hkl; simp at hkl)
      obtain ⟨h3, -⟩ := hel k1 hkl
      have hlt := World.block_lt_of_cell? w _ h3.1
      obtain ⟨c0, -, -⟩ := h3.kept (w' := (w.alloc (.cells #[.slice xo xn xc, .slice (some ⟨b, off, none⟩) l.length yc] 31))) (A0.block b hlt)
      clear h3 hel
      cases hq : (l[k1].n.toList == s.toList) with
      | true =>
        have HF : Hid (FnAt l s k1) := .inr ⟨k1, hkl, rfl, hq, fun j hj => Ho.out j (by omega) hj⟩
        generalize l[k1].n = z at c0 hq
        clear Ho HH
        go_wp2
        go_ret
        exact ⟨_, rfl, HF.out, A0⟩
      | false =>
        have HO2 : Hid (∀ j (hj : j < l.length), j < k1 + 1 → (l[j].n.toList == s.toList) = false) := by
          intro j hj hj1
          by_cases hj2 : j < k1
          · exact Ho.out j hj hj2
          · obtain rfl : j = k1 := by omega
            exact hq
        generalize l[k1].n = z at c0 hq
        clear Ho
        go_wp2
        go_roundw
        case rel => exact ⟨k1 + 1, by omega, by go_num, HO2, by trivial⟩
        case measure => simp [intOf]; omega
    · have e : k1 = l.length := by omega
      subst e
      have HF : Hid (FnAt l s (-1)) := .inl ⟨rfl, fun j hj => Ho.out j hj hj⟩
      clear Ho HH
      go_wp2
      go_ret
      exact ⟨_, rfl, HF.out, A0⟩
end Go.Proofs.YtgigalcajgjpnaaGreat

namespace Go.Proofs.YtgigalcajgjpnaaGreat
open Go.RowKit
set_option maxRecDepth 8000

/-- A form as the program has it. -/
abbrev fm (s t a b : Bool) (lo hi : Int) : Value := .agg #[.bool s, .bool t, .bool a, .bool b, .int .i64 lo, .int .i64 hi]

structure Frm where
  s : Bool
  t : Bool
  a : Bool
  b : Bool
  lo : Int
  hi : Int
  ok : Bool

def frm (k : Int) : Frm :=
  if k = 1 then ⟨false, false, false, false, 1, 5, true⟩
  else if k = 2 ∨ k = 11 then ⟨true, false, false, false, 1, 1, true⟩
  else if k = 3 then ⟨true, false, false, false, 2, 2, true⟩
  else if k = 4 then ⟨false, false, false, false, 2, 2, true⟩
  else if k = 5 then ⟨false, false, true, true, 1, 1, true⟩
  else if k = 6 then ⟨false, false, true, false, 1, 1, true⟩
  else if k = 7 then ⟨true, true, true, false, 0, 0, true⟩
  else if k = 8 then ⟨false, false, false, false, 0, 0, true⟩
  else if k = 9 ∨ k = 10 ∨ k = 12 then ⟨false, false, false, false, 1, 1, true⟩
  else ⟨false, false, false, false, 0, 0, false⟩

abbrev frmV (f : Frm) : Value := .tuple #[fm f.s f.t f.a f.b f.lo f.hi, .bool f.ok]

set_option maxHeartbeats 2000000 in
theorem formOf_any (k : Int) (w : World) : Calls Tryz.prog 115 #[.int .i64 k] w fun e w' => e = .returned (frmV (frm k)) ∧ Below w.heap.size w w' := by
  by_cases k1 : k = 1
  · subst k1
    go_enter Tryz.func115, Tryz.ntmps115
    go_wp2
    refine bodyPost_ret (v := frmV (frm 1)) ?_ rfl ⟨rfl, ?_⟩
    · simp [results, Tryz.results115, go_sem, frm]
    · exact (Below.refl _ _).alloc (Nat.le_refl _) _
  by_cases k2 : k = 2
  · subst k2
    go_enter Tryz.func115, Tryz.ntmps115
    go_wp2
    refine bodyPost_ret (v := frmV (frm 2)) ?_ rfl ⟨rfl, ?_⟩
    · simp [results, Tryz.results115, go_sem, frm]
    · exact (Below.refl _ _).alloc (Nat.le_refl _) _
  by_cases k3 : k = 3
  · subst k3
    go_enter Tryz.func115, Tryz.ntmps115
    go_wp2
    refine bodyPost_ret (v := frmV (frm 3)) ?_ rfl ⟨rfl, ?_⟩
    · simp [results, Tryz.results115, go_sem, frm]
    · exact (Below.refl _ _).alloc (Nat.le_refl _) _
  by_cases k4 : k = 4
  · subst k4
    go_enter Tryz.func115, Tryz.ntmps115
    go_wp2
    refine bodyPost_ret (v := frmV (frm 4)) ?_ rfl ⟨rfl, ?_⟩
    · simp [results, Tryz.results115, go_sem, frm]
    · exact (Below.refl _ _).alloc (Nat.le_refl _) _
  by_cases k5 : k = 5
  · subst k5
    go_enter Tryz.func115, Tryz.ntmps115
    go_wp2
    refine bodyPost_ret (v := frmV (frm 5)) ?_ rfl ⟨rfl, ?_⟩
    · simp [results, Tryz.results115, go_sem, frm]
    · exact (Below.refl _ _).alloc (Nat.le_refl _) _
  by_cases k6 : k = 6
  · subst k6
    go_enter Tryz.func115, Tryz.ntmps115
    go_wp2
    refine bodyPost_ret (v := frmV (frm 6)) ?_ rfl ⟨rfl, ?_⟩
    · simp [results, Tryz.results115, go_sem, frm]
    · exact (Below.refl _ _).alloc (Nat.le_refl _) _
  by_cases k7 : k = 7
  · subst k7
    go_enter Tryz.func115, Tryz.ntmps115
    go_wp2
    refine bodyPost_ret (v := frmV (frm 7)) ?_ rfl ⟨rfl, ?_⟩
    · simp [results, Tryz.results115, go_sem, frm]
    · exact (Below.refl _ _).alloc (Nat.le_refl _) _
  by_cases k8 : k = 8
  · subst k8
    go_enter Tryz.func115, Tryz.ntmps115
    go_wp2
    refine bodyPost_ret (v := frmV (frm 8)) ?_ rfl ⟨rfl, ?_⟩
    · simp [results, Tryz.results115, go_sem, frm]
    · exact (Below.refl _ _).alloc (Nat.le_refl _) _
  by_cases k9 : k = 9
  · subst k9
    go_enter Tryz.func115, Tryz.ntmps115
    go_wp2
    refine bodyPost_ret (v := frmV (frm 9)) ?_ rfl ⟨rfl, ?_⟩
    · simp [results, Tryz.results115, go_sem, frm]
    · exact (Below.refl _ _).alloc (Nat.le_refl _) _
  by_cases k10 : k = 10
  · subst k10
    go_enter Tryz.func115, Tryz.ntmps115
    go_wp2
    refine bodyPost_ret (v := frmV (frm 10)) ?_ rfl ⟨rfl, ?_⟩
    · simp [results, Tryz.results115, go_sem, frm]
    · exact (Below.refl _ _).alloc (Nat.le_refl _) _
  by_cases k11 : k = 11
  · subst k11
    go_enter Tryz.func115, Tryz.ntmps115
    go_wp2
    refine bodyPost_ret (v := frmV (frm 11)) ?_ rfl ⟨rfl, ?_⟩
    · simp [results, Tryz.results115, go_sem, frm]
    · exact (Below.refl _ _).alloc (Nat.le_refl _) _
  by_cases k12 : k = 12
  · subst k12
    go_enter Tryz.func115, Tryz.ntmps115
    go_wp2
    refine bodyPost_ret (v := frmV (frm 12)) ?_ rfl ⟨rfl, ?_⟩
    · simp [results, Tryz.results115, go_sem, frm]
    · exact (Below.refl _ _).alloc (Nat.le_refl _) _
  have e1 : (k == 1) = false := beq_eq_false_iff_ne.2 k1
  have e2 : (k == 2) = false := beq_eq_false_iff_ne.2 k2
  have e3 : (k == 3) = false := beq_eq_false_iff_ne.2 k3
  have e4 : (k == 4) = false := beq_eq_false_iff_ne.2 k4
  have e5 : (k == 5) = false := beq_eq_false_iff_ne.2 k5
  have e6 : (k == 6) = false := beq_eq_false_iff_ne.2 k6
  have e7 : (k == 7) = false := beq_eq_false_iff_ne.2 k7
  have e8 : (k == 8) = false := beq_eq_false_iff_ne.2 k8
  have e9 : (k == 9) = false := beq_eq_false_iff_ne.2 k9
  have e10 : (k == 10) = false := beq_eq_false_iff_ne.2 k10
  have e11 : (k == 11) = false := beq_eq_false_iff_ne.2 k11
  have e12 : (k == 12) = false := beq_eq_false_iff_ne.2 k12
  have hz : frm k = ⟨false, false, false, false, 0, 0, false⟩ := by simp [frm, k1, k2, k3, k4, k5, k6, k7, k8, k9, k10, k11, k12]
  rw [hz]
  go_enter Tryz.func115, Tryz.ntmps115
  go_wp2
  refine bodyPost_ret (v := frmV ⟨false, false, false, false, 0, 0, false⟩) ?_ rfl ⟨rfl, ?_⟩
  · simp [results, Tryz.results115, go_sem]
  · exact (Below.refl _ _).alloc (Nat.le_refl _) _

theorem nameAs_any (s : ByteArray) (b : Bool) (w : World) (hs : s.size ≤ maxLen) : Calls Tryz.prog 116 #[.string s, .bool b] w fun e w' => e = .returned (.bool (if b then nmB s else s.toList.isEmpty)) ∧ w' = w := by
  cases b with
  | true =>
    have HN := Hid.mk (fun w => implNameOk_any s w hs)
    go_enter Tryz.func116, Tryz.ntmps116
    go_wp2_with fail
    refine (HN.out _).mono ?_
    rintro e w1 ⟨rfl, hw⟩
    subst hw
    go_wp2
    go_ret
    exact ⟨rfl, rfl⟩
  | false =>
    have hq : (s.toList == []) = s.toList.isEmpty := by cases s.toList <;> rfl
    go_enter Tryz.func116, Tryz.ntmps116
    go_wp2
    go_ret
    exact ⟨ret_tb (by simp), rfl⟩

theorem blockAs_any (ao : Option Addr) (n cap : Nat) (b : Bool) (w : World) : Calls Tryz.prog 117 #[.slice ao n cap, .bool b] w fun e w' => e = .returned (.bool (n == 0 || (b && decide (n < 60)))) ∧ w' = w := by
  by_cases h0 : n = 0
  · subst h0
    go_enter Tryz.func117, Tryz.ntmps117
    go_wp2
    go_ret
    exact ⟨ret_tb (by simp), rfl⟩
  · have h0' : ((n : Int) == 0) = false := beq_eq_false_iff_ne.2 (by omega)
    have h1 : (n == 0) = false := beq_eq_false_iff_ne.2 h0
    rw [h1]
    cases b with
    | false =>
      go_enter Tryz.func117, Tryz.ntmps117
      go_wp2
      go_ret
      exact ⟨ret_tb (by simp), rfl⟩
    | true =>
      by_cases h6 : n < 60
      · have h6' : (n : Int) < 60 := by omega
        go_enter Tryz.func117, Tryz.ntmps117
        go_wp2
        go_ret
        exact ⟨ret_tb (by rw [decide_eq_true h6]; rfl), rfl⟩
      · have h6' : ¬ (n : Int) < 60 := by omega
        go_enter Tryz.func117, Tryz.ntmps117
        go_wp2
        go_ret
        exact ⟨ret_tb rfl, rfl⟩

set_option maxHeartbeats 2000000 in
theorem stmtTerms_any (t : St) (B : Nat → Prop) (xo : Option Addr) (xc : Nat) (va vb : Value) (w : World) (h : El w B t.x (.slice xo t.x.length xc)) (hs : ∀ e ∈ t.x, ShX e) (hva : ∃ o n c, va = .slice o n c) (hvb : ∃ o n c, vb = .slice o n c) :
    Calls Tryz.prog 118 #[st t.k t.s t.t (.slice xo t.x.length xc) va vb] w fun e w' => e = .returned (.bool (t.x.all okE && callB t.k t.x)) ∧ Below w.heap.size w w' := by
  obtain ⟨yo, yn, yc, rfl⟩ := hva
  obtain ⟨zo, zn, zc, rfl⟩ := hvb
  have HR : Hid ((t.x.all okE && callB t.k t.x) = t.x.all fun e => okE e && (t.k != 12 || e.k == 11)) := by
    show _ = _
    unfold callB
    generalize t.x = l
    generalize (t.k != 12) = c
    induction l with
    | nil => cases c <;> rfl
    | cons e r ih =>
      simp only [List.all_cons] at ih ⊢
      rw [← ih]
      cases okE e <;> cases r.all okE <;> cases c <;> cases (e.k == 11) <;> simp
  obtain ⟨R, hR⟩ : ∃ R, (t.x.all okE && callB t.k t.x) = R := ⟨_, rfl⟩
  rw [hR] at HR ⊢
  clear hR
  obtain ⟨hq, hl2⟩ : ∃ q : t.x.length ≤ xc, xc ≤ maxLen := by obtain ⟨_, _, e, h1, h2, _⟩ := h.len; cases e; exact ⟨h1, h2⟩
  obtain ⟨k, hk⟩ : ∃ k, t.k = k := ⟨_, rfl⟩
  obtain ⟨s, hsn⟩ : ∃ s, t.s = s := ⟨_, rfl⟩
  obtain ⟨u, hun⟩ : ∃ u, t.t = u := ⟨_, rfl⟩
  obtain ⟨l, hln⟩ : ∃ l, t.x = l := ⟨_, rfl⟩
  rw [hk, hln] at HR
  rw [hk, hsn, hun, hln]
  rw [hln] at h hs hq
  clear hk hsn hun hln
  have hm : xc ≤ 9223372036854775807 := by unfold maxLen at hl2; omega
  have HH := Hid.mk h
  have HX := Hid.mk hs
  clear h hl2 hs
  have B0 : Below w.heap.size w (w.alloc (.cells #[.int .i64 k, .string s, .string u, .slice xo l.length xc, .slice yo yn yc, .slice zo zn zc] 80)) := (Below.refl _ _).alloc (Nat.le_refl _) _
  have B01 : Below (w.heap.size + 1) (w.alloc (.cells #[.int .i64 k, .string s, .string u, .slice xo l.length xc, .slice yo yn yc, .slice zo zn zc] 80)) (w.alloc (.cells #[.int .i64 k, .string s, .string u, .slice xo l.length xc, .slice yo yn yc, .slice zo zn zc] 80)) := Below.refl _ _
  go_enter Tryz.func118, Tryz.ntmps118
  go_wp2
  go_loopw [8] (fun i wr => ∃ (k1 : Nat), k1 ≤ l.length ∧ i = .int .i64 k1 ∧ Hid (∀ j (hj : j < l.length), j < k1 → (okE l[j] && (k != 12 || l[j].k == 11)) = true) ∧ Below (w.heap.size + 1) (w.alloc (.cells #[.int .i64 k, .string s, .string u, .slice xo l.length xc, .slice yo yn yc, .slice zo zn zc] 80)) wr) (fun i _ => l.length - (intOf i).toNat)
  case atStart => exact ⟨0, Nat.zero_le _, rfl, fun j _ hj => absurd hj (Nat.not_lt_zero j), B01⟩
  case round =>
    obtain ⟨k1, hk, rfl, Ho, hbel⟩ := hrel
    clear B01
    have hc1 := fun o => hbel.cell (p := ⟨w.heap.size, o, none⟩) (by simp)
    have hbw := B0.trans (hbel.mono (by omega))
    have hs1 := hbel.size
    simp at hs1
    by_cases hkl : k1 < l.length
    · have hi1 : (k1 : Int) < (l.length : Int) := by omega
      obtain ⟨bb, off, V, rfl, hel⟩ := HH.out.elems (by intro hn; rw [hn] at hkl; simp at hkl)
      obtain ⟨h3, hsub, hss⟩ := hel k1 hkl
      have hall : ShX l[k1] := HX.out _ (List.getElem_mem hkl)
      have HNO : Hid ((okE l[k1] && (k != 12 || l[k1].k == 11)) = false → R = false) := by
        intro hf
        rw [HR.out]
        cases hb : (l.all fun e => okE e && (k != 12 || e.k == 11)) with
        | false => rfl
        | true => have := List.all_eq_true.1 hb _ (List.getElem_mem hkl); rw [hf] at this; cases this
      have HO2 : Hid ((okE l[k1] && (k != 12 || l[k1].k == 11)) = true → ∀ j (hj : j < l.length), j < k1 + 1 → (okE l[j] && (k != 12 || l[j].k == 11)) = true) := by
        intro hne j hj hj1
        by_cases hj2 : j < k1
        · exact Ho.out j hj hj2
        · obtain rfl : j = k1 := by omega
          exact hne
      obtain ⟨t', ht⟩ : ∃ t, l[k1] = t := ⟨_, rfl⟩
      rw [ht] at h3 hsub hss HNO HO2 hall
      clear ht hel
      obtain ⟨c0, cn, c1, c2⟩ := h3.kept (w' := wr) (hbw.block bb (World.block_lt_of_cell? w _ h3.1))
      have HCall := Hid.mk (fun (w' : World) (hb : Below w.heap.size w w') => implExprOk_any t' B (V k1) w' (hsub.grow hb) hall)
      obtain ⟨ok, hok⟩ : ∃ ok, okE t' = ok := ⟨_, rfl⟩
      obtain ⟨tk, htk⟩ : ∃ tk, t'.k = tk := ⟨_, rfl⟩
      obtain ⟨tn, htn⟩ : ∃ tn, t'.n = tn := ⟨_, rfl⟩
      obtain ⟨ts, hts⟩ : ∃ ts, t'.s = ts := ⟨_, rfl⟩
      obtain ⟨av, cv, hv, -, -, -⟩ := hsub.len
      rw [hok, htk, htn, hts, hv] at HCall
      rw [htk] at c0
      rw [htn] at cn
      rw [hts] at c1
      rw [hv] at c2
      rw [hok, htk] at HNO HO2
      have B2 := hbw.alloc (by omega : w.heap.size ≤ wr.heap.size) (.cells #[.int .i64 tk, .int .i64 tn, .string ts, .slice av t'.l.length cv] 41)
      have D2 := hbel.alloc hs1 (.cells #[.int .i64 tk, .int .i64 tn, .string ts, .slice av t'.l.length cv] 41)
      clear hsub hss h3 hok htk htn hts hv hall hbw
      have hd : ∀ w2, Below (wr.heap.size + 1) (wr.alloc (.cells #[.int .i64 tk, .int .i64 tn, .string ts, .slice av t'.l.length cv] 41)) w2 → (∀ o, w2.cell? ⟨w.heap.size, o, none⟩ = (w.alloc (.cells #[.int .i64 k, .string s, .string u, .slice (some ⟨bb, off, none⟩) l.length xc, .slice yo yn yc, .slice zo zn zc] 80)).cell? ⟨w.heap.size, o, none⟩) ∧ ∀ o, w2.cell? ⟨wr.heap.size, o, none⟩ = (wr.alloc (.cells #[.int .i64 tk, .int .i64 tn, .string ts, .slice av t'.l.length cv] 41)).cell? ⟨wr.heap.size, o, none⟩ := by
        intro w2 hw
        refine ⟨fun o => ?_, fun o => hw.cell (p := ⟨wr.heap.size, o, none⟩) (by simp)⟩
        rw [hw.cell (p := ⟨w.heap.size, o, none⟩) (by show w.heap.size < _; omega)]
        exact D2.cell (p := ⟨w.heap.size, o, none⟩) (by simp)
      have HD := Hid.mk hd
      clear hd hbel
      cases ok with
      | false =>
        have HF : Hid (R = false) := HNO.out rfl
        clear HNO HO2 HH HX HD D2
        go_wp2_with fail
        refine (HCall.out _ B2).mono ?_
        rintro e w2 ⟨rfl, hb2⟩
        have B3 := B2.trans (hb2.mono (by simp; omega))
        clear B2 hb2 HCall hc1
        go_wp2
        go_ret
        exact ⟨ret_tb HF.out.symm, B3⟩
      | true =>
        by_cases hk12 : k = 12
        · subst hk12
          by_cases htk : tk = 11
          · subst htk
            have HO3 := Hid.mk (HO2.out rfl)
            clear HNO HO2
            go_wp2_with fail
            refine (HCall.out _ B2).mono ?_
            rintro e w2 ⟨rfl, hb2⟩
            have D3 := D2.trans (hb2.mono (by simp; omega))
            obtain ⟨hd1, hd2⟩ := HD.out w2 (hb2.mono (by simp))
            clear B2 D2 hb2 HCall hc1 HD
            go_wp2
            go_roundw
            case rel => exact ⟨k1 + 1, by omega, by go_num, HO3, D3⟩
            case measure => simp [intOf]; omega
          · have htb : (tk != 11) = true := by simpa using htk
            have HF : Hid (R = false) := HNO.out (by simp [htk])
            clear HNO HO2 HH HX
            go_wp2_with fail
            refine (HCall.out _ B2).mono ?_
            rintro e w2 ⟨rfl, hb2⟩
            have B3 := B2.trans (hb2.mono (by simp; omega))
            obtain ⟨hd1, hd2⟩ := HD.out w2 (hb2.mono (by simp))
            clear B2 D2 hb2 HCall hc1 HD
            go_wp2
            go_ret
            exact ⟨ret_tb HF.out.symm, B3⟩
        · have hkb : (k == 12) = false := beq_eq_false_iff_ne.2 hk12
          have HO3 := Hid.mk (HO2.out (by simp [hk12]))
          clear HNO HO2
          go_wp2_with fail
          refine (HCall.out _ B2).mono ?_
          rintro e w2 ⟨rfl, hb2⟩
          have D3 := D2.trans (hb2.mono (by simp; omega))
          obtain ⟨hd1, hd2⟩ := HD.out w2 (hb2.mono (by simp))
          clear B2 D2 hb2 HCall hc1 HD
          go_wp2
          go_roundw
          case rel => exact ⟨k1 + 1, by omega, by go_num, HO3, D3⟩
          case measure => simp [intOf]; omega
    · have e : k1 = l.length := by omega
      subst e
      have HE : Hid (true = R) := by
        show _ = _
        rw [HR.out, eq_comm, List.all_eq_true]
        intro x hx
        obtain ⟨j, hj, rfl⟩ := List.getElem_of_mem hx
        exact Ho.out j hj hj
      clear Ho HR HH HX
      go_wp2
      go_ret
      exact ⟨ret_tb HE.out, hbw⟩
end Go.Proofs.YtgigalcajgjpnaaGreat

namespace Go.Proofs.YtgigalcajgjpnaaGreat
open Go.RowKit
set_option maxRecDepth 8000

set_option maxHeartbeats 4000000 in
theorem nodeRun (k : Int) (s u : ByteArray) (xo : Option Addr) (nx xc : Nat) (yo : Option Addr) (na yc : Nat) (zo : Option Addr) (nb zc : Nat) (w : World) (hs : s.size ≤ maxLen) (hu : u.size ≤ maxLen) (q7 : Bool)
    (HT : ∀ w', Below w.heap.size w w' → Calls Tryz.prog 118 #[st k s u (.slice xo nx xc) (.slice yo na yc) (.slice zo nb zc)] w' fun e w'' => e = .returned (.bool q7) ∧ Below w'.heap.size w' w'') :
    Calls Tryz.prog 101 #[st k s u (.slice xo nx xc) (.slice yo na yc) (.slice zo nb zc)] w fun e w' => e = .returned (.bool ((frm k).ok && (if (frm k).s then nmB s else s.toList.isEmpty) && (if (frm k).t then nmB u else u.toList.isEmpty) && (na == 0 || ((frm k).a && decide (na < 60))) && (nb == 0 || ((frm k).b && decide (nb < 60))) && decide ((frm k).lo ≤ (nx : Int)) && decide ((nx : Int) ≤ (frm k).hi) && q7)) ∧ Below w.heap.size w w' := by
  have HF := Hid.mk (fun w' => formOf_any k w')
  have H7 := Hid.mk HT
  clear HT
  obtain ⟨f, hf⟩ : ∃ f, frm k = f := ⟨_, rfl⟩
  obtain ⟨fs, ft, fa, fb, lo, hi, ok⟩ := f
  rw [hf] at HF
  rw [hf]
  clear hf
  have H1 := Hid.mk (fun w' => nameAs_any s fs w' hs)
  have H2 := Hid.mk (fun w' => nameAs_any u ft w' hu)
  have H3 := Hid.mk (fun w' => blockAs_any yo na yc fa w')
  have H4 := Hid.mk (fun w' => blockAs_any zo nb zc fb w')
  simp only
  generalize (if fs = true then nmB s else s.toList.isEmpty) = q1 at *
  generalize (if ft = true then nmB u else u.toList.isEmpty) = q2 at *
  generalize (na == 0 || (fa && decide (na < 60))) = q3 at *
  generalize (nb == 0 || (fb && decide (nb < 60))) = q4 at *
  have A0 : Below w.heap.size w (w.alloc (.cells #[.int .i64 k, .string s, .string u, .slice xo nx xc, .slice yo na yc, .slice zo nb zc] 80)) := (Below.refl _ _).alloc (Nat.le_refl _) _
  clear hs hu
  cases ok with
  | false =>
    go_enter Tryz.func101, Tryz.ntmps101
    go_wp2_with fail
    refine (HF.out _).mono ?_
    rintro e w1 ⟨rfl, hb1⟩
    have hc1 := fun o => hb1.cell (p := ⟨w.heap.size, o, none⟩) (by simp)
    have B1 := A0.trans (hb1.mono (by simp))
    have s1 := hb1.size
    simp at s1
    have s2 : w.heap.size < w1.heap.size := s1
    have s3 : w.heap.size ≠ w1.heap.size := by omega
    have B2 := B1.alloc (by omega : w.heap.size ≤ w1.heap.size) (.cells #[.bool fs, .bool ft, .bool fa, .bool fb, .int .i64 lo, .int .i64 hi] 146)
    clear A0 hb1 HF B1
    go_wp2
    go_ret
    exact ⟨ret_tb (by simp), B2⟩
  | true =>
    cases q1 with
    | false =>
      go_enter Tryz.func101, Tryz.ntmps101
      go_wp2_with fail
      refine (HF.out _).mono ?_
      rintro e w1 ⟨rfl, hb1⟩
      have hc1 := fun o => hb1.cell (p := ⟨w.heap.size, o, none⟩) (by simp)
      have B1 := A0.trans (hb1.mono (by simp))
      have s1 := hb1.size
      simp at s1
      have s2 : w.heap.size < w1.heap.size := s1
      have s3 : w.heap.size ≠ w1.heap.size := by omega
      have B2 := B1.alloc (by omega : w.heap.size ≤ w1.heap.size) (.cells #[.bool fs, .bool ft, .bool fa, .bool fb, .int .i64 lo, .int .i64 hi] 146)
      clear A0 hb1 HF B1
      go_wp2_with fail
      refine (H1.out _).mono ?_
      rintro e w2 ⟨rfl, hw⟩
      subst hw
      clear H1
      go_wp2
      go_ret
      exact ⟨ret_tb (by simp), B2⟩
    | true =>
      cases q2 with
      | false =>
        go_enter Tryz.func101, Tryz.ntmps101
        go_wp2_with fail
        refine (HF.out _).mono ?_
        rintro e w1 ⟨rfl, hb1⟩
        have hc1 := fun o => hb1.cell (p := ⟨w.heap.size, o, none⟩) (by simp)
        have B1 := A0.trans (hb1.mono (by simp))
        have s1 := hb1.size
        simp at s1
        have s2 : w.heap.size < w1.heap.size := s1
        have s3 : w.heap.size ≠ w1.heap.size := by omega
        have B2 := B1.alloc (by omega : w.heap.size ≤ w1.heap.size) (.cells #[.bool fs, .bool ft, .bool fa, .bool fb, .int .i64 lo, .int .i64 hi] 146)
        clear A0 hb1 HF B1
        go_wp2_with fail
        refine (H1.out _).mono ?_
        rintro e w2 ⟨rfl, hw⟩
        subst hw
        clear H1
        go_wp2_with fail
        refine (H2.out _).mono ?_
        rintro e w2 ⟨rfl, hw⟩
        subst hw
        clear H2
        go_wp2
        go_ret
        exact ⟨ret_tb (by simp), B2⟩
      | true =>
        cases q3 with
        | false =>
          go_enter Tryz.func101, Tryz.ntmps101
          go_wp2_with fail
          refine (HF.out _).mono ?_
          rintro e w1 ⟨rfl, hb1⟩
          have hc1 := fun o => hb1.cell (p := ⟨w.heap.size, o, none⟩) (by simp)
          have B1 := A0.trans (hb1.mono (by simp))
          have s1 := hb1.size
          simp at s1
          have s2 : w.heap.size < w1.heap.size := s1
          have s3 : w.heap.size ≠ w1.heap.size := by omega
          have B2 := B1.alloc (by omega : w.heap.size ≤ w1.heap.size) (.cells #[.bool fs, .bool ft, .bool fa, .bool fb, .int .i64 lo, .int .i64 hi] 146)
          clear A0 hb1 HF B1
          go_wp2_with fail
          refine (H1.out _).mono ?_
          rintro e w2 ⟨rfl, hw⟩
          subst hw
          clear H1
          go_wp2_with fail
          refine (H2.out _).mono ?_
          rintro e w2 ⟨rfl, hw⟩
          subst hw
          clear H2
          go_wp2_with fail
          refine (H3.out _).mono ?_
          rintro e w2 ⟨rfl, hw⟩
          subst hw
          clear H3
          go_wp2
          go_ret
          exact ⟨ret_tb (by simp), B2⟩
        | true =>
          cases q4 with
          | false =>
            go_enter Tryz.func101, Tryz.ntmps101
            go_wp2_with fail
            refine (HF.out _).mono ?_
            rintro e w1 ⟨rfl, hb1⟩
            have hc1 := fun o => hb1.cell (p := ⟨w.heap.size, o, none⟩) (by simp)
            have B1 := A0.trans (hb1.mono (by simp))
            have s1 := hb1.size
            simp at s1
            have s2 : w.heap.size < w1.heap.size := s1
            have s3 : w.heap.size ≠ w1.heap.size := by omega
            have B2 := B1.alloc (by omega : w.heap.size ≤ w1.heap.size) (.cells #[.bool fs, .bool ft, .bool fa, .bool fb, .int .i64 lo, .int .i64 hi] 146)
            clear A0 hb1 HF B1
            go_wp2_with fail
            refine (H1.out _).mono ?_
            rintro e w2 ⟨rfl, hw⟩
            subst hw
            clear H1
            go_wp2_with fail
            refine (H2.out _).mono ?_
            rintro e w2 ⟨rfl, hw⟩
            subst hw
            clear H2
            go_wp2_with fail
            refine (H3.out _).mono ?_
            rintro e w2 ⟨rfl, hw⟩
            subst hw
            clear H3
            go_wp2_with fail
            refine (H4.out _).mono ?_
            rintro e w2 ⟨rfl, hw⟩
            subst hw
            clear H4
            go_wp2
            go_ret
            exact ⟨ret_tb (by simp), B2⟩
          | true =>
            by_cases h5 : lo ≤ (nx : Int)
            case neg =>
              have h5' : ¬ lo ≤ (nx : Int) := h5
              go_enter Tryz.func101, Tryz.ntmps101
              go_wp2_with fail
              refine (HF.out _).mono ?_
              rintro e w1 ⟨rfl, hb1⟩
              have hc1 := fun o => hb1.cell (p := ⟨w.heap.size, o, none⟩) (by simp)
              have B1 := A0.trans (hb1.mono (by simp))
              have s1 := hb1.size
              simp at s1
              have s2 : w.heap.size < w1.heap.size := s1
              have s3 : w.heap.size ≠ w1.heap.size := by omega
              have B2 := B1.alloc (by omega : w.heap.size ≤ w1.heap.size) (.cells #[.bool fs, .bool ft, .bool fa, .bool fb, .int .i64 lo, .int .i64 hi] 146)
              clear A0 hb1 HF B1
              go_wp2_with fail
              refine (H1.out _).mono ?_
              rintro e w2 ⟨rfl, hw⟩
              subst hw
              clear H1
              go_wp2_with fail
              refine (H2.out _).mono ?_
              rintro e w2 ⟨rfl, hw⟩
              subst hw
              clear H2
              go_wp2_with fail
              refine (H3.out _).mono ?_
              rintro e w2 ⟨rfl, hw⟩
              subst hw
              clear H3
              go_wp2_with fail
              refine (H4.out _).mono ?_
              rintro e w2 ⟨rfl, hw⟩
              subst hw
              clear H4
              go_wp2
              go_ret
              exact ⟨ret_tb (by rw [decide_eq_false (by omega : ¬ lo ≤ (nx : Int))]; simp), B2⟩
            by_cases h6 : (nx : Int) ≤ hi
            case neg =>
              go_enter Tryz.func101, Tryz.ntmps101
              go_wp2_with fail
              refine (HF.out _).mono ?_
              rintro e w1 ⟨rfl, hb1⟩
              have hc1 := fun o => hb1.cell (p := ⟨w.heap.size, o, none⟩) (by simp)
              have B1 := A0.trans (hb1.mono (by simp))
              have s1 := hb1.size
              simp at s1
              have s2 : w.heap.size < w1.heap.size := s1
              have s3 : w.heap.size ≠ w1.heap.size := by omega
              have B2 := B1.alloc (by omega : w.heap.size ≤ w1.heap.size) (.cells #[.bool fs, .bool ft, .bool fa, .bool fb, .int .i64 lo, .int .i64 hi] 146)
              clear A0 hb1 HF B1
              go_wp2_with fail
              refine (H1.out _).mono ?_
              rintro e w2 ⟨rfl, hw⟩
              subst hw
              clear H1
              go_wp2_with fail
              refine (H2.out _).mono ?_
              rintro e w2 ⟨rfl, hw⟩
              subst hw
              clear H2
              go_wp2_with fail
              refine (H3.out _).mono ?_
              rintro e w2 ⟨rfl, hw⟩
              subst hw
              clear H3
              go_wp2_with fail
              refine (H4.out _).mono ?_
              rintro e w2 ⟨rfl, hw⟩
              subst hw
              clear H4
              go_wp2
              go_ret
              exact ⟨ret_tb (by rw [decide_eq_false (by omega : ¬ (nx : Int) ≤ hi)]; simp), B2⟩
            go_enter Tryz.func101, Tryz.ntmps101
            go_wp2_with fail
            refine (HF.out _).mono ?_
            rintro e w1 ⟨rfl, hb1⟩
            have hc1 := fun o => hb1.cell (p := ⟨w.heap.size, o, none⟩) (by simp)
            have B1 := A0.trans (hb1.mono (by simp))
            have s1 := hb1.size
            simp at s1
            have s2 : w.heap.size < w1.heap.size := s1
            have s3 : w.heap.size ≠ w1.heap.size := by omega
            have B2 := B1.alloc (by omega : w.heap.size ≤ w1.heap.size) (.cells #[.bool fs, .bool ft, .bool fa, .bool fb, .int .i64 lo, .int .i64 hi] 146)
            clear A0 hb1 HF B1
            go_wp2_with fail
            refine (H1.out _).mono ?_
            rintro e w2 ⟨rfl, hw⟩
            subst hw
            clear H1
            go_wp2_with fail
            refine (H2.out _).mono ?_
            rintro e w2 ⟨rfl, hw⟩
            subst hw
            clear H2
            go_wp2_with fail
            refine (H3.out _).mono ?_
            rintro e w2 ⟨rfl, hw⟩
            subst hw
            clear H3
            go_wp2_with fail
            refine (H4.out _).mono ?_
            rintro e w2 ⟨rfl, hw⟩
            subst hw
            clear H4
            go_wp2_with fail
            refine (H7.out _ B2).mono ?_
            rintro e w2 ⟨rfl, hb2⟩
            have B3 := B2.trans (hb2.mono (by simp; omega))
            clear H7 B2 hb2
            go_wp2
            go_ret
            exact ⟨ret_tb (by simp [h5, h6]), B3⟩
end Go.Proofs.YtgigalcajgjpnaaGreat

namespace Go.Proofs.YtgigalcajgjpnaaGreat
open Go.RowKit
set_option maxRecDepth 8000

theorem frm_key (k : Int) (a1 a2 e1 e2 : Bool) (s u : ByteArray) (ha : nmB s = a1) (hb : nmB u = a2) (hc : s.toList.isEmpty = e1) (hd : u.toList.isEmpty = e2) (nx na nb : Nat) :
    (hereK k s u nx na nb && (decide (na < 60) && decide (nb < 60))) = ((frm k).ok && (if (frm k).s then a1 else e1) && (if (frm k).t then a2 else e2) && (na == 0 || ((frm k).a && decide (na < 60))) && (nb == 0 || ((frm k).b && decide (nb < 60))) && decide ((frm k).lo ≤ (nx : Int)) && decide ((nx : Int) ≤ (frm k).hi)) := by
  unfold hereK
  rw [ha, hb, hc, hd]
  clear ha hb hc hd
  have fin : ∀ (x y : Bool), (x = true ↔ y = true) → x = y := by decide
  by_cases k1 : k = 1
  · subst k1
    apply fin
    cases a1 <;> cases a2 <;> cases e1 <;> cases e2 <;> simp [frm] <;> omega
  by_cases k2 : k = 2
  · subst k2
    apply fin
    cases a1 <;> cases a2 <;> cases e1 <;> cases e2 <;> simp [frm] <;> omega
  by_cases k3 : k = 3
  · subst k3
    apply fin
    cases a1 <;> cases a2 <;> cases e1 <;> cases e2 <;> simp [frm] <;> omega
  by_cases k4 : k = 4
  · subst k4
    apply fin
    cases a1 <;> cases a2 <;> cases e1 <;> cases e2 <;> simp [frm] <;> omega
  by_cases k5 : k = 5
  · subst k5
    apply fin
    cases a1 <;> cases a2 <;> cases e1 <;> cases e2 <;> simp [frm] <;> omega
  by_cases k6 : k = 6
  · subst k6
    apply fin
    cases a1 <;> cases a2 <;> cases e1 <;> cases e2 <;> simp [frm] <;> omega
  by_cases k7 : k = 7
  · subst k7
    apply fin
    cases a1 <;> cases a2 <;> cases e1 <;> cases e2 <;> simp [frm] <;> omega
  by_cases k8 : k = 8
  · subst k8
    apply fin
    cases a1 <;> cases a2 <;> cases e1 <;> cases e2 <;> simp [frm] <;> omega
  by_cases k9 : k = 9
  · subst k9
    apply fin
    cases a1 <;> cases a2 <;> cases e1 <;> cases e2 <;> simp [frm] <;> omega
  by_cases k10 : k = 10
  · subst k10
    apply fin
    cases a1 <;> cases a2 <;> cases e1 <;> cases e2 <;> simp [frm] <;> omega
  by_cases k11 : k = 11
  · subst k11
    apply fin
    cases a1 <;> cases a2 <;> cases e1 <;> cases e2 <;> simp [frm] <;> omega
  by_cases k12 : k = 12
  · subst k12
    apply fin
    cases a1 <;> cases a2 <;> cases e1 <;> cases e2 <;> simp [frm] <;> omega
  have hz : frm k = ⟨false, false, false, false, 0, 0, false⟩ := by simp [frm, k1, k2, k3, k4, k5, k6, k7, k8, k9, k10, k11, k12]
  rw [hz]
  simp [k1, k2, k3, k4, k5, k6, k7, k8, k9, k10, k11, k12]

theorem nodeP_frm (t : St) : nodeP t = ((frm t.k).ok && (if (frm t.k).s then nmB t.s else t.s.toList.isEmpty) && (if (frm t.k).t then nmB t.t else t.t.toList.isEmpty) && (t.a.length == 0 || ((frm t.k).a && decide (t.a.length < 60))) && (t.b.length == 0 || ((frm t.k).b && decide (t.b.length < 60))) && decide ((frm t.k).lo ≤ (t.x.length : Int)) && decide ((t.x.length : Int) ≤ (frm t.k).hi) && (t.x.all okE && callB t.k t.x)) := by
  unfold nodeP nodeS
  rw [← frm_key t.k (nmB t.s) (nmB t.t) t.s.toList.isEmpty t.t.toList.isEmpty t.s t.t rfl rfl rfl rfl t.x.length t.a.length t.b.length]
  generalize t.x.all okE = c1
  generalize callB t.k t.x = c2
  generalize hereK t.k t.s t.t t.x.length t.a.length t.b.length = c3
  generalize decide (t.a.length < 60) = c4
  generalize decide (t.b.length < 60) = c5
  cases c1 <;> cases c2 <;> cases c3 <;> cases c4 <;> cases c5 <;> rfl

theorem stmtNode_any (t : St) (B : Nat → Prop) (xo : Option Addr) (xc : Nat) (yo : Option Addr) (yc : Nat) (zo : Option Addr) (zc : Nat) (w : World) (h : El w B t.x (.slice xo t.x.length xc)) (hs : t.s.size ≤ maxLen) (hu : t.t.size ≤ maxLen) (hx : ∀ e ∈ t.x, ShX e) :
    Calls Tryz.prog 101 #[st t.k t.s t.t (.slice xo t.x.length xc) (.slice yo t.a.length yc) (.slice zo t.b.length zc)] w fun e w' => e = .returned (.bool (nodeP t)) ∧ Below w.heap.size w w' := by
  rw [nodeP_frm]
  exact nodeRun t.k t.s t.t xo t.x.length xc yo t.a.length yc zo t.b.length zc w hs hu _ (fun w' hw => stmtTerms_any t B xo xc _ _ w' (h.grow hw) hx ⟨_, _, _, rfl⟩ ⟨_, _, _, rfl⟩)
end Go.Proofs.YtgigalcajgjpnaaGreat

namespace Go.Proofs.YtgigalcajgjpnaaGreat
open Go.RowKit
set_option maxRecDepth 8000

mutual
def Ex.sz : Ex → Nat
  | .node _ _ s l => s.size + szx l
def szx : List Ex → Nat
  | [] => 0
  | t :: r => 1 + t.sz + szx r
end

theorem Ex.sz_eq (t : Ex) : t.sz = t.s.size + szx t.l := by cases t; rw [Ex.sz]; rfl
theorem szx_take (l : List Ex) (k : Nat) (h : k < l.length) : szx (l.take (k + 1)) = szx (l.take k) + 1 + l[k].sz := by
  induction l generalizing k with
  | nil => simp at h
  | cons t r ih =>
    cases k with
    | zero => simp [szx]
    | succ k =>
      have := ih k (by simpa using h)
      simp only [List.take_succ_cons, szx, List.getElem_cons_succ]
      omega
theorem szx_take_le (l : List Ex) (k : Nat) : szx (l.take k) ≤ szx l := by
  induction l generalizing k with
  | nil => simp
  | cons t r ih =>
    cases k with
    | zero => simp [szx]
    | succ k => have := ih k; simp only [List.take_succ_cons, szx]; omega
theorem szx_length (l : List Ex) : l.length ≤ szx l := by
  induction l with
  | nil => simp
  | cons t r ih => simp only [List.length_cons, szx]; omega
theorem szx_take_length (l : List Ex) (k : Nat) (h : k ≤ l.length) : szx (l.take k) + (l.length - k) ≤ szx l := by
  induction l generalizing k with
  | nil => simp
  | cons t r ih =>
    cases k with
    | zero => have := szx_length (t :: r); simpa [szx] using this
    | succ k => have := ih k (by simpa using h); simp only [List.take_succ_cons, szx, List.length_cons]; omega

def SzX (l : List Ex) : Prop := ∀ (B : Nat → Prop) (v : Value) (w : World) (left : Int), El w B l v → 0 ≤ left → left ≤ 1048576 →
  Calls Tryz.prog 91 #[v, .int .i64 left] w fun e w' => e = .returned (.int .i64 (leftOf left (szx l))) ∧ Below w.heap.size w w'

theorem szExpr_of (t : Ex) (ih : SzX t.l) (B : Nat → Prop) (v : Value) (w : World) (left : Int) (h : El w B t.l v) (hs : t.s.size ≤ maxLen) (h0 : 0 ≤ left) (h1 : left ≤ 1048576) :
    Calls Tryz.prog 58 #[xx t.k t.n t.s v, .int .i64 left] w fun e w' => e = .returned (.int .i64 (leftOf left t.sz)) ∧ Below w.heap.size w w' := by
  have HE := Hid.mk t.sz_eq
  obtain ⟨k, hk⟩ : ∃ k, t.k = k := ⟨_, rfl⟩
  obtain ⟨n, hnn⟩ : ∃ n, t.n = n := ⟨_, rfl⟩
  obtain ⟨s, hsn⟩ : ∃ s, t.s = s := ⟨_, rfl⟩
  obtain ⟨l, hln⟩ : ∃ l, t.l = l := ⟨_, rfl⟩
  obtain ⟨z, hz⟩ : ∃ z, t.sz = z := ⟨_, rfl⟩
  rw [hk, hnn, hsn, hz]
  rw [hsn] at hs HE
  rw [hln] at h ih HE
  rw [hz] at HE
  clear hk hnn hsn hln hz
  unfold maxLen at hs
  have B0 : Below w.heap.size w (w.alloc (.cells #[.int .i64 k, .int .i64 n, .string s, v] 68)) := (Below.refl _ _).alloc (Nat.le_refl _) _
  obtain ⟨ao, cap, rfl, hl1, hl2, hl3⟩ := h.len
  by_cases hlt : left < s.size
  · have hh : left - (s.size : Int) < 0 := by omega
    have HR : Hid (leftOf left z = -1) := by show _ = _; unfold leftOf; have := HE.out; rw [if_pos (by omega)]
    clear HE
    go_enter Tryz.func58, Tryz.ntmps58
    go_wp2
    go_ret
    exact ⟨ret_int' HR.out.symm, B0⟩
  · have hh : ¬ left - (s.size : Int) < 0 := by omega
    have hh1 : 0 ≤ left - (s.size : Int) := by omega
    have hh2 : left - (s.size : Int) ≤ 1048576 := by omega
    have h' := Hid.mk (h.grow B0)
    have HI := Hid.mk ih
    clear ih h
    obtain ⟨m, Hm⟩ : ∃ m, Hid (leftOf (left - (s.size : Int)) (szx l) = m) := ⟨_, rfl⟩
    have HR : Hid (m = leftOf left z) := by
      show _ = _
      rw [← Hm.out, HE.out]
      unfold leftOf
      split <;> split <;> omega
    clear HE
    by_cases hm : m < 0
    all_goals
      have hm' := hm
      go_enter Tryz.func58, Tryz.ntmps58
      go_wp2_with fail
      refine (HI.out _ _ _ _ h'.out hh1 hh2).mono ?_
      rintro e w1 ⟨rfl, hb1⟩
      rw [Hm.out]
      have B1 := B0.trans (hb1.mono (by simp))
      clear B0 hb1 HI h'
      go_wp2
      go_ret
      exact ⟨ret_int' (by first | exact HR.out | (have := HR.out; unfold leftOf at this ⊢; split at this <;> omega)), B1⟩

theorem szExprS_step (l : List Ex) (ih : ∀ x ∈ l, SzX x.l) : SzX l := by
  intro B v w left h h0 h1
  obtain ⟨ao, cap, rfl, hl1, hl2, hl3⟩ := h.len
  have hm : cap ≤ 9223372036854775807 := by unfold maxLen at hl2; omega
  have hlen := szx_length l
  by_cases hlt : left < l.length
  · have hh : left - (l.length : Int) < 0 := by omega
    have HR : Hid (leftOf left (szx l) = -1) := by show _ = _; unfold leftOf; rw [if_pos (by omega)]
    clear h ih hl2 hlen
    go_enter Tryz.func91, Tryz.ntmps91
    go_wp2
    go_ret
    exact ⟨ret_int' HR.out.symm, Below.refl _ _⟩
  · have hh : ¬ left - (l.length : Int) < 0 := by omega
    have HI := Hid.mk ih
    have HH := Hid.mk h
    have HL := Hid.mk hlen
    clear ih h hl2 hlen
    go_enter Tryz.func91, Tryz.ntmps91
    go_wp2
    go_loopw [1, 5] (fun q i wr => ∃ (k : Nat) (r : Int), k ≤ l.length ∧ i = .int .i64 k ∧ q = .int .i64 r ∧ 0 ≤ r ∧ r ≤ 1048576 ∧ Hid (r = left - (l.length : Int) - (szx (l.take k) : Int) + (k : Int)) ∧ Below w.heap.size w wr) (fun _ i _ => l.length - (intOf i).toNat)
    case atStart => exact ⟨0, left - (l.length : Int), Nat.zero_le _, rfl, rfl, by omega, by omega, by show _ = _; simp [szx], Below.refl _ _⟩
    case round =>
      obtain ⟨k, r, hk, rfl, rfl, r0, r1, Hr, hbel⟩ := hrel
      by_cases hkl : k < l.length
      · obtain ⟨b, off, V, rfl, hel⟩ := HH.out.elems (by intro hn; rw [hn] at hkl; simp at hkl)
        obtain ⟨h3, hsub, hss⟩ := hel k hkl
        have HE := Hid.mk (szx_take l k hkl)
        have HT := Hid.mk (szx_take_le l (k + 1))
        have HZ := Hid.mk (szx_take_length l (k + 1) hkl)
        have hsz : SzX l[k].l := HI.out _ (List.getElem_mem hkl)
        obtain ⟨t, ht⟩ : ∃ t, l[k] = t := ⟨_, rfl⟩
        rw [ht] at h3 hsub hss HE hsz
        clear ht hel
        obtain ⟨c0, cn, c1, c2⟩ := h3.kept (w' := wr) (hbel.block b (World.block_lt_of_cell? w _ h3.1))
        have HC := Hid.mk (szExpr_of t hsz B (V k) wr r (hsub.grow hbel) hss r0 r1)
        have hi1 : (k : Int) < (l.length : Int) := by omega
        obtain ⟨m, Hm⟩ : ∃ m, Hid (leftOf r t.sz = m) := ⟨_, rfl⟩
        rw [Hm.out] at HC
        clear hsub hss hsz h3
        by_cases hm : m < 0
        · have HR : Hid (leftOf left (szx l) = -1) := by
            show _ = _
            have e1 := Hm.out
            have e2 := Hr.out
            have e3 := HE.out
            have e5 := HZ.out
            unfold leftOf at e1 ⊢
            split at e1 <;> split <;> omega
          clear HE HT Hr Hm HZ
          go_wp2_with fail
          refine HC.out.mono ?_
          rintro e w1 ⟨rfl, hb1⟩
          have B1 := hbel.trans (hb1.mono hbel.size)
          clear hb1 HC
          go_wp2
          go_ret
          exact ⟨ret_int' HR.out.symm, B1⟩
        · have HR : Hid (m = left - (l.length : Int) - (szx (l.take (k + 1)) : Int) + ((k + 1 : Nat) : Int)) := by
            show _ = _
            have e1 := Hm.out
            have e2 := Hr.out
            have e3 := HE.out
            unfold leftOf at e1
            split at e1 <;> omega
          have hm1 : m ≤ 1048576 := by
            have e1 := Hm.out
            unfold leftOf at e1
            split at e1 <;> omega
          clear HE HT Hr Hm HZ
          go_wp2_with fail
          refine HC.out.mono ?_
          rintro e w1 ⟨rfl, hb1⟩
          have B1 := hbel.trans (hb1.mono hbel.size)
          clear hb1 HC
          go_wp2
          go_roundw
          case rel => exact ⟨k + 1, m, by omega, by go_num, rfl, by omega, hm1, HR, B1⟩
          case measure => simp [intOf]; omega
      · have e : k = l.length := by omega
        subst e
        have HR : Hid (r = leftOf left (szx l)) := by
          show _ = _
          have e2 := Hr.out
          rw [List.take_length] at e2
          unfold leftOf
          split <;> omega
        clear Hr
        go_wp2
        go_ret
        exact ⟨ret_int' HR.out, hbel⟩

theorem szExprS_any (l : List Ex) : SzX l := (Ex.ind (P := fun t => SzX t.l) (fun t ih => szExprS_step t.l ih) (.node 0 0 ⟨#[]⟩ l))

theorem szExpr_any (t : Ex) (B : Nat → Prop) (v : Value) (w : World) (left : Int) (h : El w B t.l v) (hs : t.s.size ≤ maxLen) (h0 : 0 ≤ left) (h1 : left ≤ 1048576) :
    Calls Tryz.prog 58 #[xx t.k t.n t.s v, .int .i64 left] w fun e w' => e = .returned (.int .i64 (leftOf left t.sz)) ∧ Below w.heap.size w w' :=
  szExpr_of t (szExprS_any t.l) B v w left h hs h0 h1
end Go.Proofs.YtgigalcajgjpnaaGreat

namespace Go.Proofs.YtgigalcajgjpnaaGreat
open Go.RowKit
set_option maxRecDepth 8000

theorem El.nfgrow {w w' : World} {n : Nat} {l : List Ex} {v : Value} (h : El w (nf w n) l v) (hk : Below w.heap.size w w') : El w' (nf w' n) l v :=
  (h.imp (C := nf w' n) fun b hb hlt => ⟨hb.1, fun o => by rw [hk.frozen (p := ⟨b, o, none⟩) hlt]; exact hb.2 o⟩).grow hk

theorem El.nfset {w : World} {n : Nat} {l : List Ex} {v : Value} (h : El w (nf w n) l v) {a : Addr} (ha : a.block < n) (u : Value) : El (w.setCell a u) (nf (w.setCell a u) n) l v :=
  (h.setCell (fun hb => by have := hb.1; omega) u).imp fun b hb _ => ⟨hb.1, fun o => by rw [World.frozen?_setCell]; exact hb.2 o⟩

def ToX (l : List Ex) : Prop := ∀ (B : Nat → Prop) (v : Value) (w : World), El w B l v → szx l ≤ 1048576 →
  Calls Tryz.prog 96 #[v] w fun e w' => ∃ u, e = .returned u ∧ El w' (nf w' w.heap.size) l u ∧ Below w.heap.size w w'

theorem toExpr_of (t : Ex) (ih : ToX t.l) (B : Nat → Prop) (v : Value) (w : World) (h : El w B t.l v) (hs : szx t.l ≤ 1048576) :
    Calls Tryz.prog 68 #[xx t.k t.n t.s v] w fun e w' => ∃ u, e = .returned (xx t.k t.n t.s u) ∧ El w' (nf w' (w.heap.size + 1)) t.l u ∧ Below w.heap.size w w' := by
  obtain ⟨k, hk⟩ : ∃ k, t.k = k := ⟨_, rfl⟩
  obtain ⟨n, hnn⟩ : ∃ n, t.n = n := ⟨_, rfl⟩
  obtain ⟨s, hsn⟩ : ∃ s, t.s = s := ⟨_, rfl⟩
  obtain ⟨l, hln⟩ : ∃ l, t.l = l := ⟨_, rfl⟩
  rw [hk, hnn, hsn]
  rw [hln] at h ih hs
  rw [hln]
  clear hk hnn hsn hln
  have HI := Hid.mk ih
  have H1 := Hid.mk (fun w' (hb : Below w.heap.size w w') => h.grow hb)
  obtain ⟨ao, cap, rfl, hl1, hl2, hl3⟩ := h.len
  clear ih h hl1 hl2 hl3
  go_enter Tryz.func68, Tryz.ntmps68
  go_wp2_with fail
  refine (HI.out _ _ _ (H1.out _ ?_) hs).mono ?_
  · exact ((((Below.refl _ _).alloc (Nat.le_refl _) _).alloc (by simp) _).alloc (by simp; omega) _)
  rintro e w1 ⟨u, rfl, hr, hb1⟩
  have hc1 := fun o => hb1.cell (p := ⟨w.heap.size + 1, o, none⟩) (by simp)
  have hc2 := fun o => hb1.cell (p := ⟨w.heap.size + 1 + 1, o, none⟩) (by simp)
  have hf1 := fun o => hb1.frozen (p := ⟨w.heap.size + 1, o, none⟩) (by simp)
  have hf2 := fun o => hb1.frozen (p := ⟨w.heap.size + 1 + 1, o, none⟩) (by simp)
  obtain ⟨au, cu, rfl, -, -, -⟩ := hr.len
  have HR := Hid.mk hr
  have HB := Hid.mk hb1
  clear hr hb1 H1 HI
  go_wp2
  have f0 : (((((w1.setCell ⟨w.heap.size + 1 + 1, 3, none⟩ (.slice au l.length cu)).setCell ⟨w.heap.size + 1, 0, none⟩ (.int .i64 k)).setCell ⟨w.heap.size + 1, 1, none⟩ (.int .i64 n)).setCell ⟨w.heap.size + 1, 2, none⟩ (.string s)).setCell ⟨w.heap.size + 1, 3, none⟩ (.slice au l.length cu)).cell? ⟨w.heap.size + 1, 0, none⟩ = some (.int .i64 k) := by go_simp
  have f1 : (((((w1.setCell ⟨w.heap.size + 1 + 1, 3, none⟩ (.slice au l.length cu)).setCell ⟨w.heap.size + 1, 0, none⟩ (.int .i64 k)).setCell ⟨w.heap.size + 1, 1, none⟩ (.int .i64 n)).setCell ⟨w.heap.size + 1, 2, none⟩ (.string s)).setCell ⟨w.heap.size + 1, 3, none⟩ (.slice au l.length cu)).cell? ⟨w.heap.size + 1, 1, none⟩ = some (.int .i64 n) := by go_simp
  have f2 : (((((w1.setCell ⟨w.heap.size + 1 + 1, 3, none⟩ (.slice au l.length cu)).setCell ⟨w.heap.size + 1, 0, none⟩ (.int .i64 k)).setCell ⟨w.heap.size + 1, 1, none⟩ (.int .i64 n)).setCell ⟨w.heap.size + 1, 2, none⟩ (.string s)).setCell ⟨w.heap.size + 1, 3, none⟩ (.slice au l.length cu)).cell? ⟨w.heap.size + 1, 2, none⟩ = some (.string s) := by go_simp
  have f3 : (((((w1.setCell ⟨w.heap.size + 1 + 1, 3, none⟩ (.slice au l.length cu)).setCell ⟨w.heap.size + 1, 0, none⟩ (.int .i64 k)).setCell ⟨w.heap.size + 1, 1, none⟩ (.int .i64 n)).setCell ⟨w.heap.size + 1, 2, none⟩ (.string s)).setCell ⟨w.heap.size + 1, 3, none⟩ (.slice au l.length cu)).cell? ⟨w.heap.size + 1, 3, none⟩ = some (.slice au l.length cu) := by go_simp
  refine bodyPost_ret (v := xx k n s (.slice au l.length cu)) ?_ rfl ⟨_, rfl, ?_, ?_⟩
  · generalize (((((w1.setCell ⟨w.heap.size + 1 + 1, 3, none⟩ (.slice au l.length cu)).setCell ⟨w.heap.size + 1, 0, none⟩ (.int .i64 k)).setCell ⟨w.heap.size + 1, 1, none⟩ (.int .i64 n)).setCell ⟨w.heap.size + 1, 2, none⟩ (.string s)).setCell ⟨w.heap.size + 1, 3, none⟩ (.slice au l.length cu)) = W at f0 f1 f2 f3
    simp [results, Tryz.results68, go_sem, f0, f1, f2, f3]
  · exact (((((HR.out.nfset (by simp) _).nfset (by simp) _).nfset (by simp) _).nfset (by simp) _).nfset (by simp) _).imp (fun b hb _ => ⟨by have := hb.1; simp at this; omega, hb.2⟩)
  · exact (((((((Below.refl _ _).alloc (Nat.le_refl _) _).alloc (by simp) _).alloc (by simp; omega) _).trans (HB.out.mono (by simp; omega))).setCell (by simp; omega) _).setCell (by simp) _).setCell (by simp) _ |>.setCell (by simp) _ |>.setCell (by simp) _

/-- The first k of a row of expressions are laid. -/
def FilX (wr : World) (g : Nat) (e : TypeId) (l : List Ex) (k : Nat) : Prop :=
  ∃ (xs : List Value) (V : Nat → Value), wr.ownsRow g e 4 (.slice (some ⟨g, 0, none⟩) l.length l.length) l.length xs ∧
    ∀ i (h : i < l.length), i < k → (xs[i * 4]? = some (.int .i64 l[i].k) ∧ xs[i * 4 + 1]? = some (.int .i64 l[i].n) ∧ xs[i * 4 + 2]? = some (.string l[i].s) ∧ xs[i * 4 + 3]? = some (V i)) ∧ El wr (nf wr (g + 1)) l[i].l (V i)

theorem FilX.grow {w w' : World} {g : Nat} {e : TypeId} {l : List Ex} {k : Nat} (h : FilX w g e l k) (hk : Below w.heap.size w w') : FilX w' g e l k := by
  obtain ⟨xs, V, ho, hr⟩ := h
  exact ⟨xs, V, own_grow ho hk, fun i h1 h2 => ⟨(hr i h1 h2).1, (hr i h1 h2).2.nfgrow hk⟩⟩

theorem FilX.step {w : World} {g : Nat} {e : TypeId} {l : List Ex} {k : Nat} (h : FilX w g e l k) (hk : k < l.length) {u : Value} (hu : El w (nf w (g + 1)) l[k].l u) :
    FilX ((((w.setCell ⟨g, k * 4, none⟩ (.int .i64 l[k].k)).setCell ⟨g, k * 4 + 1, none⟩ (.int .i64 l[k].n)).setCell ⟨g, k * 4 + 2, none⟩ (.string l[k].s)).setCell ⟨g, k * 4 + 3, none⟩ u) g e l (k + 1) := by
  obtain ⟨xs, V, ho, hr⟩ := h
  have o1 := (ho.stored (k * 4) (.int .i64 l[k].k)).1
  have o2 := (o1.stored (k * 4 + 1) (.int .i64 l[k].n)).1
  have o3 := (o2.stored (k * 4 + 2) (.string l[k].s)).1
  have o4 := (o3.stored (k * 4 + 3) u).1
  have hl : xs.length = l.length * 4 := ho.1
  refine ⟨_, fun i => if i = k then u else V i, o4, fun i hi hik => ?_⟩
  have hn : g < g + 1 := by omega
  by_cases he : i = k
  · subst he
    refine ⟨⟨?_, ?_, ?_, ?_⟩, ?_⟩
    · rw [List.getElem?_set_ne (by omega), List.getElem?_set_ne (by omega), List.getElem?_set_ne (by omega), List.getElem?_set_self (by omega)]
    · rw [List.getElem?_set_ne (by omega), List.getElem?_set_ne (by omega), List.getElem?_set_self (by simp; omega)]
    · rw [List.getElem?_set_ne (by omega), List.getElem?_set_self (by simp; omega)]
    · rw [List.getElem?_set_self (by simp; omega)]; show some u = some (if i = i then u else V i); rw [if_pos rfl]
    · show El _ _ _ (if i = i then u else V i)
      rw [if_pos rfl]
      exact (((hu.nfset hn _).nfset hn _).nfset hn _).nfset hn _
  · obtain ⟨⟨x0, xn, x1, x2⟩, x3⟩ := hr i hi (by omega)
    refine ⟨⟨?_, ?_, ?_, ?_⟩, ?_⟩
    · rw [List.getElem?_set_ne (by omega), List.getElem?_set_ne (by omega), List.getElem?_set_ne (by omega), List.getElem?_set_ne (by omega)]; exact x0
    · rw [List.getElem?_set_ne (by omega), List.getElem?_set_ne (by omega), List.getElem?_set_ne (by omega), List.getElem?_set_ne (by omega)]; exact xn
    · rw [List.getElem?_set_ne (by omega), List.getElem?_set_ne (by omega), List.getElem?_set_ne (by omega), List.getElem?_set_ne (by omega)]; exact x1
    · rw [List.getElem?_set_ne (by omega), List.getElem?_set_ne (by omega), List.getElem?_set_ne (by omega), List.getElem?_set_ne (by omega)]; show xs[i * 4 + 3]? = some (if i = k then u else V i); rw [if_neg he]; exact x2
    · show El _ _ _ (if i = k then u else V i)
      rw [if_neg he]
      exact (((x3.nfset hn _).nfset hn _).nfset hn _).nfset hn _

theorem FilX.rl {w : World} {g : Nat} {e : TypeId} {l : List Ex} (h : FilX w g e l l.length) (hm : l.length ≤ maxLen) (hs : ∀ i (h : i < l.length), l[i].s.size ≤ maxLen) :
    El w (nf w g) l (.slice (some ⟨g, 0, none⟩) l.length l.length) := by
  obtain ⟨xs, V, ho, hr⟩ := h
  by_cases hl : l = []
  · subst hl
    exact .empty _ _ (by simp) fun h => by cases h
  · refine .full l g 0 l.length V ⟨Nat.le_refl _, fun o => ho.frozenAt o⟩ hl (Nat.le_refl _) hm hs (fun i hi => ?_) fun i hi => (hr i hi hi).2.imp fun b hb _ => ⟨by have := hb.1; omega, hb.2⟩
    obtain ⟨⟨x0, xn, x1, x2⟩, _⟩ := hr i hi hi
    rw [Nat.zero_add]
    exact ⟨by rw [ho.cellAt _ (by omega), x0], by rw [ho.cellAt _ (by omega), xn], by rw [ho.cellAt _ (by omega), x1], by rw [ho.cellAt _ (by omega), x2]⟩

theorem infoExpr : (Tryz.prog.info? 41).map (fun i => (i.zero, i.size, i.bytes)) = some (some (xx 0 0 ⟨#[]⟩ (.slice none 0 0)), 4, 56) := by kernel_rfl

theorem szx_sub (l : List Ex) (k : Nat) (h : k < l.length) : szx l[k].l ≤ szx l := by
  have := szx_take l k h
  have := szx_take_le l (k + 1)
  have := l[k].sz_eq
  omega

theorem toExprS_step (l : List Ex) (ih : ∀ x ∈ l, ToX x.l) : ToX l := by
  intro B v w h hsz
  have hS : l ≠ [] → ∀ i (h : i < l.length), l[i].s.size ≤ maxLen := by
    intro hl i hi
    obtain ⟨ao, cap, rfl, -⟩ := h.len
    obtain ⟨_, _, _, _, hel⟩ := h.elems hl
    exact (hel i hi).2.2
  obtain ⟨ao, cap, rfl, hl1, hl2, hl3⟩ := h.len
  have hlen := szx_length l
  obtain ⟨i0, hi, hz0, hz1, hz2⟩ := info_parts infoExpr
  have HI := Hid.mk ih
  have HH := Hid.mk h
  have HS := Hid.mk hS
  have hln : l.length ≤ 1048576 := by omega
  clear ih h hl2 hS
  go_enter Tryz.func96, Tryz.ntmps96
  go_wp2_with (at_make; refine wpList_make_full _ rfl _ _ 39 rfl w.heap.size 41 i0 _ 4 Tryz.underlying39 hi hz0 hz1 _ _ _ _ l.length rfl rfl rfl rfl (by rw [hz2]; omega) (by unfold maxLen; omega) (by simp) ?_)
  intro w1 hown hgrow
  have hbel : Below w.heap.size w w1 := (Below.refl _ _).grown hgrow (Nat.le_refl _) (by simp)
  have hg1 : w.heap.size < w1.heap.size := (World.ownsRow.lt hown _ rfl).2
  have HF : FilX w1 w.heap.size 41 l 0 := ⟨_, fun _ => .bool true, hown, fun i _ h => absurd h (Nat.not_lt_zero i)⟩
  clear hgrow hown hi hz0 hz1 hz2
  go_wp2
  go_loopw [4] (fun i wr => ∃ (k : Nat), k ≤ l.length ∧ i = .int .i64 k ∧ Hid (FilX wr w.heap.size 41 l k) ∧ Below w.heap.size w wr ∧ w.heap.size < wr.heap.size) (fun i _ => l.length - (intOf i).toNat)
  case atStart => exact ⟨0, Nat.zero_le _, rfl, HF, hbel, hg1⟩
  case round =>
    obtain ⟨k, hk, rfl, HFr, hbelr, hgr⟩ := hrel
    clear HF hbel hg1
    by_cases hkl : k < l.length
    · obtain ⟨b, off, V, rfl, hel⟩ := HH.out.elems (by intro hn; rw [hn] at hkl; simp at hkl)
      obtain ⟨h3, hsub, hss⟩ := hel k hkl
      have hto : ToX l[k].l := HI.out _ (List.getElem_mem hkl)
      have hsk := szx_sub l k hkl
      have HST := Hid.mk (fun (w2 : World) (u : Value) (h1 : FilX w2 w.heap.size 41 l k) (h2 : El w2 (nf w2 (w.heap.size + 1)) l[k].l u) => h1.step hkl h2)
      obtain ⟨t, ht⟩ : ∃ t, l[k] = t := ⟨_, rfl⟩
      rw [ht] at h3 hsub hss hto hsk HST
      clear ht hel
      obtain ⟨c0, cn, c1, c2⟩ := h3.kept (w' := wr) (hbelr.block b (World.block_lt_of_cell? w _ h3.1))
      have HC := Hid.mk (toExpr_of t hto B (V k) wr (hsub.grow hbelr) (by omega))
      have hi1 : (k : Int) < (l.length : Int) := by omega
      clear hsub hss hto h3 HI HH
      go_wp2_with fail
      refine HC.out.mono ?_
      rintro e w2 ⟨u, rfl, hr, hb2⟩
      have HF2 := HFr.out.grow hb2
      have H3 := Hid.mk (HST.out w2 u HF2 (hr.imp fun b hb _ => ⟨by have := hb.1; omega, hb.2⟩))
      have B2 := hbelr.trans (hb2.mono hbelr.size)
      have hg2 : w.heap.size < w2.heap.size := Nat.lt_of_lt_of_le hgr hb2.size
      obtain ⟨xs, V', hown2, -⟩ := HF2
      have f0 := hown2.frozenAt (k * 4)
      have f1 := hown2.frozenAt (k * 4 + 1)
      have f2 := hown2.frozenAt (k * 4 + 2)
      have f3 := hown2.frozenAt (k * 4 + 3)
      have hxl : xs.length = l.length * 4 := hown2.1
      have o0 := hown2.cellAt (k * 4) (by omega)
      have o1 := hown2.cellAt (k * 4 + 1) (by omega)
      have o2 := hown2.cellAt (k * 4 + 2) (by omega)
      have o3 := hown2.cellAt (k * 4 + 3) (by omega)
      obtain ⟨y0, e0⟩ : ∃ y, xs[k * 4]? = some y := ⟨_, List.getElem?_eq_getElem (by omega)⟩
      obtain ⟨y1, e1⟩ : ∃ y, xs[k * 4 + 1]? = some y := ⟨_, List.getElem?_eq_getElem (by omega)⟩
      obtain ⟨y2, e2⟩ : ∃ y, xs[k * 4 + 2]? = some y := ⟨_, List.getElem?_eq_getElem (by omega)⟩
      obtain ⟨y3, e3⟩ : ∃ y, xs[k * 4 + 3]? = some y := ⟨_, List.getElem?_eq_getElem (by omega)⟩
      rw [e0] at o0
      rw [e1] at o1
      rw [e2] at o2
      rw [e3] at o3
      clear e0 e1 e2 e3
      obtain ⟨au, cu, rfl, -, -, -⟩ := hr.len
      have hk0 : 0 < l.length := by omega
      clear hown2 HFr HC HST hb2 hbelr hr c0 c1 c2 hxl
      go_wp2
      go_roundw
      case rel => exact ⟨k + 1, by omega, by go_num, H3, (((B2.setCell (Nat.le_refl _) _).setCell (Nat.le_refl _) _).setCell (Nat.le_refl _) _).setCell (Nat.le_refl _) _, by simpa using hg2⟩
      case measure => simp [intOf]; omega
    · have e : k = l.length := by omega
      subst e
      have HR := Hid.mk (fun hS => HFr.out.rl (by unfold maxLen; omega) hS)
      have HR2 : Hid (El wr (nf wr w.heap.size) l (.slice (some ⟨w.heap.size, 0, none⟩) l.length l.length)) := HR.out (by
        intro i hi
        exact HS.out (by intro hn; rw [hn] at hi; simp at hi) i hi)
      clear HR HFr HS HI HH
      go_wp2
      go_ret
      exact ⟨_, rfl, HR2.out, hbelr⟩

theorem toExprS_any (l : List Ex) : ToX l := (Ex.ind (P := fun t => ToX t.l) (fun t ih => toExprS_step t.l ih) (.node 0 0 ⟨#[]⟩ l))
theorem toExprF_any (t : Ex) (B : Nat → Prop) (v : Value) (w : World) (h : El w B t.l v) (hs : szx t.l ≤ 1048576) :
    Calls Tryz.prog 68 #[xx t.k t.n t.s v] w fun e w' => ∃ u, e = .returned (xx t.k t.n t.s u) ∧ El w' (nf w' (w.heap.size + 1)) t.l u ∧ Below w.heap.size w w' := toExpr_of t (toExprS_any t.l) B v w h hs
theorem toExpr_any (t : Ex) (B : Nat → Prop) (v : Value) (w : World) (h : El w B t.l v) (hs : szx t.l ≤ 1048576) :
    Calls Tryz.prog 68 #[xx t.k t.n t.s v] w fun e w' => ∃ u, e = .returned (xx t.k t.n t.s u) ∧ El w' (newFrom (w.heap.size + 1)) t.l u ∧ Below w.heap.size w w' := by
  refine (toExprF_any t B v w h hs).mono ?_
  rintro e w' ⟨u, rfl, hr, hb⟩
  exact ⟨u, rfl, hr.imp fun b hb _ => hb.1, hb⟩
end Go.Proofs.YtgigalcajgjpnaaGreat

namespace Go.Proofs.YtgigalcajgjpnaaGreat
open Go.RowKit
set_option maxRecDepth 8000

mutual
def St.sz : St → Nat
  | .node _ s t x a b => s.size + t.size + szx x + szy a + szy b
def szy : List St → Nat
  | [] => 0
  | t :: r => 1 + t.sz + szy r
end

theorem St.sz_eq (t : St) : t.sz = t.s.size + t.t.size + szx t.x + szy t.a + szy t.b := by cases t; rw [St.sz]; rfl
theorem szy_take (l : List St) (k : Nat) (h : k < l.length) : szy (l.take (k + 1)) = szy (l.take k) + 1 + l[k].sz := by
  induction l generalizing k with
  | nil => simp at h
  | cons t r ih =>
    cases k with
    | zero => simp [szy]
    | succ k =>
      have := ih k (by simpa using h)
      simp only [List.take_succ_cons, szy, List.getElem_cons_succ]
      omega
theorem szy_take_le (l : List St) (k : Nat) : szy (l.take k) ≤ szy l := by
  induction l generalizing k with
  | nil => simp
  | cons t r ih =>
    cases k with
    | zero => simp [szy]
    | succ k => have := ih k; simp only [List.take_succ_cons, szy]; omega
theorem szy_length (l : List St) : l.length ≤ szy l := by
  induction l with
  | nil => simp
  | cons t r ih => simp only [List.length_cons, szy]; omega
theorem szy_take_length (l : List St) (k : Nat) (h : k ≤ l.length) : szy (l.take k) + (l.length - k) ≤ szy l := by
  induction l generalizing k with
  | nil => simp
  | cons t r ih =>
    cases k with
    | zero => have := szy_length (t :: r); simpa [szy] using this
    | succ k => have := ih k (by simpa using h); simp only [List.take_succ_cons, szy, List.length_cons]; omega
theorem szy_mem {y : St} {l : List St} (h : y ∈ l) : y.sz + 1 ≤ szy l := by
  induction l with
  | nil => cases h
  | cons t r ih =>
    rw [szy]
    rcases List.mem_cons.1 h with rfl | h
    · omega
    · have := ih h; omega

def SzY (l : List St) : Prop := ∀ (B : Nat → Prop) (v : Value) (w : World) (left : Int), Sl w B l v → 0 ≤ left → left ≤ 1048576 →
  Calls Tryz.prog 59 #[v, .int .i64 left] w fun e w' => e = .returned (.int .i64 (leftOf left (szy l))) ∧ Below w.heap.size w w'

set_option maxHeartbeats 1000000 in
theorem szStmt_of (t : St) (iha : SzY t.a) (ihb : SzY t.b) (B : Nat → Prop) (vx va vb : Value) (w : World) (left : Int) (hx : El w B t.x vx) (ha : Sl w B t.a va) (hb : Sl w B t.b vb) (hs : t.s.size ≤ maxLen) (ht : t.t.size ≤ maxLen) (h0 : 0 ≤ left) (h1 : left ≤ 1048576) :
    Calls Tryz.prog 92 #[st t.k t.s t.t vx va vb, .int .i64 left] w fun e w' => e = .returned (.int .i64 (leftOf left t.sz)) ∧ Below w.heap.size w w' := by
  have HE := Hid.mk t.sz_eq
  obtain ⟨k, hk⟩ : ∃ k, t.k = k := ⟨_, rfl⟩
  obtain ⟨s, hsn⟩ : ∃ s, t.s = s := ⟨_, rfl⟩
  obtain ⟨u, hun⟩ : ∃ u, t.t = u := ⟨_, rfl⟩
  obtain ⟨x, hxn⟩ : ∃ x, t.x = x := ⟨_, rfl⟩
  obtain ⟨a, han⟩ : ∃ a, t.a = a := ⟨_, rfl⟩
  obtain ⟨b, hbn⟩ : ∃ b, t.b = b := ⟨_, rfl⟩
  obtain ⟨z, hz⟩ : ∃ z, t.sz = z := ⟨_, rfl⟩
  rw [hk, hsn, hun, hz]
  rw [hsn] at hs
  rw [hun] at ht
  rw [hxn] at hx
  rw [han] at ha iha
  rw [hbn] at hb ihb
  rw [hsn, hun, hxn, han, hbn, hz] at HE
  clear hk hsn hun hxn han hbn hz
  unfold maxLen at hs ht
  have B0 : Below w.heap.size w (w.alloc (.cells #[.int .i64 k, .string s, .string u, vx, va, vb] 125)) := (Below.refl _ _).alloc (Nat.le_refl _) _
  obtain ⟨xo, xcap, rfl, -, -, -⟩ := hx.len
  obtain ⟨ao, acap, rfl, -, -, -⟩ := ha.len
  obtain ⟨bo, bcap, rfl, -, -, -⟩ := hb.len
  by_cases hlt : left < s.size
  · have hh : left - (s.size : Int) < 0 := by omega
    have HR : Hid (leftOf left z = -1) := by show _ = _; unfold leftOf; have := HE.out; rw [if_pos (by omega)]
    clear HE
    go_enter Tryz.func92, Tryz.ntmps92
    go_wp2
    go_ret
    exact ⟨ret_int' HR.out.symm, B0⟩
  by_cases hlu : left - (s.size : Int) < u.size
  · have hh : ¬ left - (s.size : Int) < 0 := by omega
    have hh2 : left - (s.size : Int) - (u.size : Int) < 0 := by omega
    have HR : Hid (leftOf left z = -1) := by show _ = _; unfold leftOf; have := HE.out; rw [if_pos (by omega)]
    clear HE
    go_enter Tryz.func92, Tryz.ntmps92
    go_wp2
    go_ret
    exact ⟨ret_int' HR.out.symm, B0⟩
  have hh : ¬ left - (s.size : Int) < 0 := by omega
  have hh2 : ¬ left - (s.size : Int) - (u.size : Int) < 0 := by omega
  obtain ⟨d, hd⟩ : ∃ d, left - (s.size : Int) - (u.size : Int) = d := ⟨_, rfl⟩
  have Hd : Hid (left - (s.size : Int) - (u.size : Int) = d) := hd
  have hd0 : 0 ≤ d := by omega
  have hdm : d ≤ 1048576 := by omega
  obtain ⟨m1, Hm1⟩ : ∃ m, Hid (leftOf d (szx x) = m) := ⟨_, rfl⟩
  obtain ⟨m2, Hm2⟩ : ∃ m, Hid (leftOf m1 (szy a) = m) := ⟨_, rfl⟩
  obtain ⟨m3, Hm3⟩ : ∃ m, Hid (leftOf m2 (szy b) = m) := ⟨_, rfl⟩
  have HX := Hid.mk (fun (w' : World) (hb' : Below w.heap.size w w') => szExprS_any x B _ w' d (hx.grow hb') hd0 hdm)
  have HA := Hid.mk (fun (w' : World) (hb' : Below w.heap.size w w') (c0 : 0 ≤ m1) (c1 : m1 ≤ 1048576) => iha B _ w' m1 (ha.grow hb') c0 c1)
  have HB := Hid.mk (fun (w' : World) (hb' : Below w.heap.size w w') (c0 : 0 ≤ m2) (c1 : m2 ≤ 1048576) => ihb B _ w' m2 (hb.grow hb') c0 c1)
  rw [Hm1.out] at HX
  rw [Hm2.out] at HA
  rw [Hm3.out] at HB
  clear hx ha hb iha ihb
  rw [← hd] at HX
  clear hd hlt hlu
  go_enter Tryz.func92, Tryz.ntmps92
  go_wp2_with fail
  refine (HX.out _ B0).mono ?_
  rintro e w1 ⟨rfl, hb1⟩
  have B1 := B0.trans (hb1.mono (by simp))
  have hc1 := fun o => hb1.cell (p := ⟨w.heap.size, o, none⟩) (by simp)
  have hs1 := hb1.size
  simp at hs1
  clear B0 hb1 HX
  by_cases hm1 : m1 < 0
  · have HR : Hid (m1 = -1 ∧ leftOf left z = -1) := by
      show _ ∧ _
      have e1 := Hm1.out
      have e2 := HE.out
      have e3 := Hd.out
      unfold leftOf at e1 ⊢
      split at e1 <;> split <;> omega
    clear HE Hm1 Hm2 Hm3 Hd HA HB
    go_wp2
    go_ret
    exact ⟨ret_int' HR.out.2.symm, B1⟩
  have c0 : 0 ≤ m1 := by omega
  have c1 : m1 ≤ d := by have e1 := Hm1.out; unfold leftOf at e1; split at e1 <;> omega
  go_wp2_with fail
  refine (HA.out _ B1 c0 (by omega)).mono ?_
  rintro e w2 ⟨rfl, hb2⟩
  have B2 := B1.trans (hb2.mono (by omega))
  have hc2 : ∀ o, w2.cell? ⟨w.heap.size, o, none⟩ = w1.cell? ⟨w.heap.size, o, none⟩ := fun o => hb2.cell (p := ⟨w.heap.size, o, none⟩) (by simp; omega)
  have hs2 := Nat.le_trans hs1 hb2.size
  clear B1 hb2 HA
  by_cases hm2 : m2 < 0
  · have HR : Hid (m2 = -1 ∧ leftOf left z = -1) := by
      show _ ∧ _
      have e1 := Hm1.out
      have e2 := HE.out
      have e3 := Hd.out
      have e4 := Hm2.out
      unfold leftOf at e1 e4 ⊢
      split at e1 <;> split at e4 <;> split <;> omega
    clear HE Hm1 Hm2 Hm3 Hd HB
    go_wp2
    go_ret
    exact ⟨ret_int' HR.out.2.symm, B2⟩
  have d0 : 0 ≤ m2 := by omega
  have d2 : m2 ≤ m1 := by have e1 := Hm2.out; unfold leftOf at e1; split at e1 <;> omega
  go_wp2_with fail
  refine (HB.out _ B2 d0 (by omega)).mono ?_
  rintro e w3 ⟨rfl, hb3⟩
  have B3 := B2.trans (hb3.mono (by omega))
  clear B2 hb3 HB
  have HR : Hid ((m3 < 0 → leftOf left z = -1) ∧ (¬ m3 < 0 → leftOf left z = m3)) := by
    show _ ∧ _
    have e1 := Hm1.out
    have e2 := HE.out
    have e3 := Hd.out
    have e4 := Hm2.out
    have e5 := Hm3.out
    unfold leftOf at e1 e4 e5 ⊢
    split at e1 <;> split at e4 <;> split at e5 <;> split <;> constructor <;> omega
  clear HE Hm1 Hm2 Hm3 Hd
  by_cases hm3 : m3 < 0
  · go_wp2
    go_ret
    exact ⟨ret_int' (HR.out.1 hm3).symm, B3⟩
  · go_wp2
    go_ret
    exact ⟨ret_int' (HR.out.2 hm3).symm, B3⟩

theorem szStmtS_step (l : List St) (ih : ∀ x ∈ l, SzY x.a ∧ SzY x.b) : SzY l := by
  intro B v w left h h0 h1
  obtain ⟨ao, cap, rfl, hl1, hl2, hl3⟩ := h.len
  have hm : cap ≤ 9223372036854775807 := by unfold maxLen at hl2; omega
  have hlen := szy_length l
  by_cases hlt : left < l.length
  · have hh : left - (l.length : Int) < 0 := by omega
    have HR : Hid (leftOf left (szy l) = -1) := by show _ = _; unfold leftOf; rw [if_pos (by omega)]
    clear h ih hl2 hlen
    go_enter Tryz.func59, Tryz.ntmps59
    go_wp2
    go_ret
    exact ⟨ret_int' HR.out.symm, Below.refl _ _⟩
  · have hh : ¬ left - (l.length : Int) < 0 := by omega
    have HI := Hid.mk ih
    have HH := Hid.mk h
    have HL := Hid.mk hlen
    clear ih h hl2 hlen
    go_enter Tryz.func59, Tryz.ntmps59
    go_wp2
    go_loopw [1, 5] (fun q i wr => ∃ (k : Nat) (r : Int), k ≤ l.length ∧ i = .int .i64 k ∧ q = .int .i64 r ∧ 0 ≤ r ∧ r ≤ 1048576 ∧ Hid (r = left - (l.length : Int) - (szy (l.take k) : Int) + (k : Int)) ∧ Below w.heap.size w wr) (fun _ i _ => l.length - (intOf i).toNat)
    case atStart => exact ⟨0, left - (l.length : Int), Nat.zero_le _, rfl, rfl, by omega, by omega, by show _ = _; simp [szy], Below.refl _ _⟩
    case round =>
      obtain ⟨k, r, hk, rfl, rfl, r0, r1, Hr, hbel⟩ := hrel
      by_cases hkl : k < l.length
      · obtain ⟨b, off, X, Y, Z, rfl, hel⟩ := HH.out.elems (by intro hn; rw [hn] at hkl; simp at hkl)
        obtain ⟨h3, hx, ha, hz, hss, htt⟩ := hel k hkl
        have HE := Hid.mk (szy_take l k hkl)
        have HT := Hid.mk (szy_take_le l (k + 1))
        have HZ := Hid.mk (szy_take_length l (k + 1) hkl)
        have hsz := HI.out _ (List.getElem_mem hkl)
        obtain ⟨t, ht⟩ : ∃ t, l[k] = t := ⟨_, rfl⟩
        rw [ht] at h3 hx ha hz hss htt HE hsz
        clear ht hel
        obtain ⟨c0, c1, c2, c3, c4, c5⟩ := h3.kept (w' := wr) (hbel.block b (World.block_lt_of_cell? w _ h3.1))
        have HC := Hid.mk (szStmt_of t hsz.1 hsz.2 B (X k) (Y k) (Z k) wr r (hx.grow hbel) (ha.grow hbel) (hz.grow hbel) hss htt r0 r1)
        have hi1 : (k : Int) < (l.length : Int) := by omega
        obtain ⟨m, Hm⟩ : ∃ m, Hid (leftOf r t.sz = m) := ⟨_, rfl⟩
        rw [Hm.out] at HC
        clear hx ha hz hss htt hsz h3
        by_cases hm : m < 0
        · have HR : Hid (leftOf left (szy l) = -1) := by
            show _ = _
            have e1 := Hm.out
            have e2 := Hr.out
            have e3 := HE.out
            have e5 := HZ.out
            unfold leftOf at e1 ⊢
            split at e1 <;> split <;> omega
          clear HE HT Hr Hm HZ
          go_wp2_with fail
          refine HC.out.mono ?_
          rintro e w1 ⟨rfl, hb1⟩
          have B1 := hbel.trans (hb1.mono hbel.size)
          clear hb1 HC
          go_wp2
          go_ret
          exact ⟨ret_int' HR.out.symm, B1⟩
        · have HR : Hid (m = left - (l.length : Int) - (szy (l.take (k + 1)) : Int) + ((k + 1 : Nat) : Int)) := by
            show _ = _
            have e1 := Hm.out
            have e2 := Hr.out
            have e3 := HE.out
            unfold leftOf at e1
            split at e1 <;> omega
          have hm1 : m ≤ 1048576 := by
            have e1 := Hm.out
            unfold leftOf at e1
            split at e1 <;> omega
          clear HE HT Hr Hm HZ
          go_wp2_with fail
          refine HC.out.mono ?_
          rintro e w1 ⟨rfl, hb1⟩
          have B1 := hbel.trans (hb1.mono hbel.size)
          clear hb1 HC
          go_wp2
          go_roundw
          case rel => exact ⟨k + 1, m, by omega, by go_num, rfl, by omega, hm1, HR, B1⟩
          case measure => simp [intOf]; omega
      · have e : k = l.length := by omega
        subst e
        have HR : Hid (r = leftOf left (szy l)) := by
          show _ = _
          have e2 := Hr.out
          rw [List.take_length] at e2
          unfold leftOf
          split <;> omega
        clear Hr
        go_wp2
        go_ret
        exact ⟨ret_int' HR.out, hbel⟩

theorem szStmtS_any (l : List St) : SzY l := (St.ind (P := fun t => SzY t.a ∧ SzY t.b) (fun t iha ihb => ⟨szStmtS_step t.a iha, szStmtS_step t.b ihb⟩) (.node 0 ⟨#[]⟩ ⟨#[]⟩ [] l [])).1

theorem szStmt_any (t : St) (B : Nat → Prop) (vx va vb : Value) (w : World) (left : Int) (hx : El w B t.x vx) (ha : Sl w B t.a va) (hb : Sl w B t.b vb) (hs : t.s.size ≤ maxLen) (ht : t.t.size ≤ maxLen) (h0 : 0 ≤ left) (h1 : left ≤ 1048576) :
    Calls Tryz.prog 92 #[st t.k t.s t.t vx va vb, .int .i64 left] w fun e w' => e = .returned (.int .i64 (leftOf left t.sz)) ∧ Below w.heap.size w w' :=
  szStmt_of t (szStmtS_any t.a) (szStmtS_any t.b) B vx va vb w left hx ha hb hs ht h0 h1
end Go.Proofs.YtgigalcajgjpnaaGreat

namespace Go.Proofs.YtgigalcajgjpnaaGreat
open Go.RowKit
set_option maxRecDepth 8000

theorem Sl.nfgrow {w w' : World} {n : Nat} {l : List St} {v : Value} (h : Sl w (nf w n) l v) (hk : Below w.heap.size w w') : Sl w' (nf w' n) l v :=
  (h.imp (C := nf w' n) fun b hb hlt => ⟨hb.1, fun o => by rw [hk.frozen (p := ⟨b, o, none⟩) hlt]; exact hb.2 o⟩).grow hk

theorem Sl.nfset {w : World} {n : Nat} {l : List St} {v : Value} (h : Sl w (nf w n) l v) {a : Addr} (ha : a.block < n) (u : Value) : Sl (w.setCell a u) (nf (w.setCell a u) n) l v :=
  (h.setCell (fun hb => by have := hb.1; omega) u).imp fun b hb _ => ⟨hb.1, fun o => by rw [World.frozen?_setCell]; exact hb.2 o⟩

def ToY (l : List St) : Prop := ∀ (B : Nat → Prop) (v : Value) (w : World), Sl w B l v → szy l ≤ 1048576 →
  Calls Tryz.prog 69 #[v] w fun e w' => ∃ u, e = .returned u ∧ Sl w' (nf w' w.heap.size) l u ∧ Below w.heap.size w w'

set_option maxHeartbeats 1000000 in
theorem toStmt_of (t : St) (iha : ToY t.a) (ihb : ToY t.b) (B : Nat → Prop) (vx va vb : Value) (w : World) (hx : El w B t.x vx) (ha : Sl w B t.a va) (hb : Sl w B t.b vb) (hs : t.sz ≤ 1048576) :
    Calls Tryz.prog 97 #[st t.k t.s t.t vx va vb] w fun e w' => ∃ ux ua ub, e = .returned (st t.k t.s t.t ux ua ub) ∧ El w' (nf w' (w.heap.size + 1)) t.x ux ∧ Sl w' (nf w' (w.heap.size + 1)) t.a ua ∧ Sl w' (nf w' (w.heap.size + 1)) t.b ub ∧ Below w.heap.size w w' := by
  have hsz := t.sz_eq
  obtain ⟨k, hk⟩ : ∃ k, t.k = k := ⟨_, rfl⟩
  obtain ⟨s, hsn⟩ : ∃ s, t.s = s := ⟨_, rfl⟩
  obtain ⟨u, hun⟩ : ∃ u, t.t = u := ⟨_, rfl⟩
  obtain ⟨x, hxn⟩ : ∃ x, t.x = x := ⟨_, rfl⟩
  obtain ⟨a, han⟩ : ∃ a, t.a = a := ⟨_, rfl⟩
  obtain ⟨b, hbn⟩ : ∃ b, t.b = b := ⟨_, rfl⟩
  rw [hk, hsn, hun, hxn, han, hbn]
  rw [hxn] at hx
  rw [han] at ha iha
  rw [hbn] at hb ihb
  rw [hsn, hun, hxn, han, hbn] at hsz
  have HX := Hid.mk (fun (w' : World) (hb' : Below w.heap.size w w') => toExprS_any x B _ w' (hx.grow hb') (by omega))
  have HA := Hid.mk (fun (w' : World) (hb' : Below w.heap.size w w') => iha B _ w' (ha.grow hb') (by omega))
  have HB := Hid.mk (fun (w' : World) (hb' : Below w.heap.size w w') => ihb B _ w' (hb.grow hb') (by omega))
  obtain ⟨xo, xcap, rfl, -, -, -⟩ := hx.len
  obtain ⟨ao, acap, rfl, -, -, -⟩ := ha.len
  obtain ⟨bo, bcap, rfl, -, -, -⟩ := hb.len
  clear hk hsn hun hxn han hbn hsz hs hx ha hb iha ihb
  go_enter Tryz.func97, Tryz.ntmps97
  go_wp2_with fail
  refine (HX.out _ ?_).mono ?_
  · exact ((((Below.refl _ _).alloc (Nat.le_refl _) _).alloc (by simp) _).alloc (by simp <;> omega) _)
  rintro e w1 ⟨ux, rfl, hrx, hb1⟩
  have ha1 := fun o => hb1.cell (p := ⟨w.heap.size, o, none⟩) (by simp <;> omega)
  have hc1 := fun o => hb1.cell (p := ⟨w.heap.size + 1, o, none⟩) (by simp)
  have hd1 := fun o => hb1.cell (p := ⟨w.heap.size + 1 + 1, o, none⟩) (by simp)
  have hf1 := fun o => hb1.frozen (p := ⟨w.heap.size + 1, o, none⟩) (by simp)
  have hg1 := fun o => hb1.frozen (p := ⟨w.heap.size + 1 + 1, o, none⟩) (by simp)
  obtain ⟨xa, xc, rfl, -, -, -⟩ := hrx.len
  have s1 : w.heap.size + 3 ≤ w1.heap.size := by have := hb1.size; simp at this; omega
  have B1 : Hid (Below w.heap.size w w1) := ((((Below.refl _ _).alloc (Nat.le_refl _) _).alloc (by simp) _).alloc (by simp <;> omega) _).trans (hb1.mono (by simp <;> omega))
  have HRX := Hid.mk (hrx.imp (C := nf w1 (w.heap.size + 3)) fun b hb _ => ⟨by have := hb.1; simp at this; omega, hb.2⟩)
  clear hrx hb1 HX
  go_wp2_with fail
  refine (HA.out _ (B1.out.setCell (by simp <;> omega) _)).mono ?_
  rintro e w2 ⟨ua, rfl, hra, hb2⟩
  have ha2 := fun o => hb2.cell (p := ⟨w.heap.size, o, none⟩) (by simp <;> omega)
  have hc2 := fun o => hb2.cell (p := ⟨w.heap.size + 1, o, none⟩) (by simp <;> omega)
  have hd2 := fun o => hb2.cell (p := ⟨w.heap.size + 1 + 1, o, none⟩) (by simp <;> omega)
  have hf2 := fun o => hb2.frozen (p := ⟨w.heap.size + 1, o, none⟩) (by simp <;> omega)
  have hg2 := fun o => hb2.frozen (p := ⟨w.heap.size + 1 + 1, o, none⟩) (by simp <;> omega)
  obtain ⟨aa, ac, rfl, -, -, -⟩ := hra.len
  have s2 : w.heap.size + 3 ≤ w2.heap.size := by have := hb2.size; simp at this; omega
  have B2 : Hid (Below w.heap.size w w2) := (B1.out.setCell (by simp <;> omega) _).trans (hb2.mono (by simp <;> omega))
  have HRX2 := Hid.mk ((HRX.out.nfset (a := ⟨w.heap.size + 1 + 1, 3, none⟩) (by simp <;> omega) (.slice xa x.length xc)).nfgrow hb2)
  have HRA := Hid.mk (hra.imp (C := nf w2 (w.heap.size + 3)) fun b hb _ => ⟨by have := hb.1; simp at this; omega, hb.2⟩)
  clear hra hb2 HA HRX B1
  go_wp2_with fail
  refine (HB.out _ (B2.out.setCell (by simp <;> omega) _)).mono ?_
  rintro e w3 ⟨ub, rfl, hrb, hb3⟩
  have hc3 := fun o => hb3.cell (p := ⟨w.heap.size + 1, o, none⟩) (by simp <;> omega)
  have hd3 := fun o => hb3.cell (p := ⟨w.heap.size + 1 + 1, o, none⟩) (by simp <;> omega)
  have hf3 := fun o => hb3.frozen (p := ⟨w.heap.size + 1, o, none⟩) (by simp <;> omega)
  have hg3 := fun o => hb3.frozen (p := ⟨w.heap.size + 1 + 1, o, none⟩) (by simp <;> omega)
  obtain ⟨ba, bc, rfl, -, -, -⟩ := hrb.len
  have s3 : w.heap.size + 3 ≤ w3.heap.size := by have := hb3.size; simp at this; omega
  have B3 : Hid (Below w.heap.size w w3) := (B2.out.setCell (by simp <;> omega) _).trans (hb3.mono (by simp <;> omega))
  have HRX3 := Hid.mk ((HRX2.out.nfset (a := ⟨w.heap.size + 1 + 1, 4, none⟩) (by simp <;> omega) (.slice aa a.length ac)).nfgrow hb3)
  have HRA3 := Hid.mk ((HRA.out.nfset (a := ⟨w.heap.size + 1 + 1, 4, none⟩) (by simp <;> omega) (.slice aa a.length ac)).nfgrow hb3)
  have HRB := Hid.mk (hrb.imp (C := nf w3 (w.heap.size + 3)) fun b hb _ => ⟨by have := hb.1; simp at this; omega, hb.2⟩)
  clear hrb hb3 HB HRX2 HRA B2
  have v0 : w3.cell? ⟨w.heap.size + 1 + 1, 0, none⟩ = some (.int .i64 k) := by go_simp
  have v1 : w3.cell? ⟨w.heap.size + 1 + 1, 1, none⟩ = some (.string s) := by go_simp
  have v2 : w3.cell? ⟨w.heap.size + 1 + 1, 2, none⟩ = some (.string u) := by go_simp
  have v3 : w3.cell? ⟨w.heap.size + 1 + 1, 3, none⟩ = some (.slice xa x.length xc) := by go_simp
  have v4 : w3.cell? ⟨w.heap.size + 1 + 1, 4, none⟩ = some (.slice aa a.length ac) := by go_simp
  have v5 : w3.cell? ⟨w.heap.size + 1 + 1, 5, none⟩ = some (.slice none 0 0) := by go_simp
  have r0 : w3.cell? ⟨w.heap.size + 1, 0, none⟩ = some (.int .i64 0) := by go_simp
  have r1 : w3.cell? ⟨w.heap.size + 1, 1, none⟩ = some (.string ⟨#[]⟩) := by go_simp
  have r2 : w3.cell? ⟨w.heap.size + 1, 2, none⟩ = some (.string ⟨#[]⟩) := by go_simp
  have r3 : w3.cell? ⟨w.heap.size + 1, 3, none⟩ = some (.slice none 0 0) := by go_simp
  have r4 : w3.cell? ⟨w.heap.size + 1, 4, none⟩ = some (.slice none 0 0) := by go_simp
  have r5 : w3.cell? ⟨w.heap.size + 1, 5, none⟩ = some (.slice none 0 0) := by go_simp
  have q1 : ∀ o, w3.frozen? ⟨w.heap.size + 1, o, none⟩ = false := by intro o; go_simp
  have q2 : ∀ o, w3.frozen? ⟨w.heap.size + 1 + 1, o, none⟩ = false := by intro o; go_simp
  clear ha1 hc1 hd1 hf1 hg1 ha2 hc2 hd2 hf2 hg2 hc3 hd3 hf3 hg3 s1 s2
  go_wp2
  have f0 : (((((((w3.setCell ⟨w.heap.size + 1 + 1, 5, none⟩ (.slice ba b.length bc)).setCell ⟨w.heap.size + 1, 0, none⟩ (.int .i64 k)).setCell ⟨w.heap.size + 1, 1, none⟩ (.string s)).setCell ⟨w.heap.size + 1, 2, none⟩ (.string u)).setCell ⟨w.heap.size + 1, 3, none⟩ (.slice xa x.length xc)).setCell ⟨w.heap.size + 1, 4, none⟩ (.slice aa a.length ac)).setCell ⟨w.heap.size + 1, 5, none⟩ (.slice ba b.length bc)).cell? ⟨w.heap.size + 1, 0, none⟩ = some (.int .i64 k) := by go_simp
  have f1 : (((((((w3.setCell ⟨w.heap.size + 1 + 1, 5, none⟩ (.slice ba b.length bc)).setCell ⟨w.heap.size + 1, 0, none⟩ (.int .i64 k)).setCell ⟨w.heap.size + 1, 1, none⟩ (.string s)).setCell ⟨w.heap.size + 1, 2, none⟩ (.string u)).setCell ⟨w.heap.size + 1, 3, none⟩ (.slice xa x.length xc)).setCell ⟨w.heap.size + 1, 4, none⟩ (.slice aa a.length ac)).setCell ⟨w.heap.size + 1, 5, none⟩ (.slice ba b.length bc)).cell? ⟨w.heap.size + 1, 1, none⟩ = some (.string s) := by go_simp
  have f2 : (((((((w3.setCell ⟨w.heap.size + 1 + 1, 5, none⟩ (.slice ba b.length bc)).setCell ⟨w.heap.size + 1, 0, none⟩ (.int .i64 k)).setCell ⟨w.heap.size + 1, 1, none⟩ (.string s)).setCell ⟨w.heap.size + 1, 2, none⟩ (.string u)).setCell ⟨w.heap.size + 1, 3, none⟩ (.slice xa x.length xc)).setCell ⟨w.heap.size + 1, 4, none⟩ (.slice aa a.length ac)).setCell ⟨w.heap.size + 1, 5, none⟩ (.slice ba b.length bc)).cell? ⟨w.heap.size + 1, 2, none⟩ = some (.string u) := by go_simp
  have f3 : (((((((w3.setCell ⟨w.heap.size + 1 + 1, 5, none⟩ (.slice ba b.length bc)).setCell ⟨w.heap.size + 1, 0, none⟩ (.int .i64 k)).setCell ⟨w.heap.size + 1, 1, none⟩ (.string s)).setCell ⟨w.heap.size + 1, 2, none⟩ (.string u)).setCell ⟨w.heap.size + 1, 3, none⟩ (.slice xa x.length xc)).setCell ⟨w.heap.size + 1, 4, none⟩ (.slice aa a.length ac)).setCell ⟨w.heap.size + 1, 5, none⟩ (.slice ba b.length bc)).cell? ⟨w.heap.size + 1, 3, none⟩ = some (.slice xa x.length xc) := by go_simp
  have f4 : (((((((w3.setCell ⟨w.heap.size + 1 + 1, 5, none⟩ (.slice ba b.length bc)).setCell ⟨w.heap.size + 1, 0, none⟩ (.int .i64 k)).setCell ⟨w.heap.size + 1, 1, none⟩ (.string s)).setCell ⟨w.heap.size + 1, 2, none⟩ (.string u)).setCell ⟨w.heap.size + 1, 3, none⟩ (.slice xa x.length xc)).setCell ⟨w.heap.size + 1, 4, none⟩ (.slice aa a.length ac)).setCell ⟨w.heap.size + 1, 5, none⟩ (.slice ba b.length bc)).cell? ⟨w.heap.size + 1, 4, none⟩ = some (.slice aa a.length ac) := by go_simp
  have f5 : (((((((w3.setCell ⟨w.heap.size + 1 + 1, 5, none⟩ (.slice ba b.length bc)).setCell ⟨w.heap.size + 1, 0, none⟩ (.int .i64 k)).setCell ⟨w.heap.size + 1, 1, none⟩ (.string s)).setCell ⟨w.heap.size + 1, 2, none⟩ (.string u)).setCell ⟨w.heap.size + 1, 3, none⟩ (.slice xa x.length xc)).setCell ⟨w.heap.size + 1, 4, none⟩ (.slice aa a.length ac)).setCell ⟨w.heap.size + 1, 5, none⟩ (.slice ba b.length bc)).cell? ⟨w.heap.size + 1, 5, none⟩ = some (.slice ba b.length bc) := by go_simp
  refine bodyPost_ret (v := st k s u (.slice xa x.length xc) (.slice aa a.length ac) (.slice ba b.length bc)) ?_ rfl ⟨_, _, _, rfl, ?_, ?_, ?_, ?_⟩
  · generalize (((((((w3.setCell ⟨w.heap.size + 1 + 1, 5, none⟩ (.slice ba b.length bc)).setCell ⟨w.heap.size + 1, 0, none⟩ (.int .i64 k)).setCell ⟨w.heap.size + 1, 1, none⟩ (.string s)).setCell ⟨w.heap.size + 1, 2, none⟩ (.string u)).setCell ⟨w.heap.size + 1, 3, none⟩ (.slice xa x.length xc)).setCell ⟨w.heap.size + 1, 4, none⟩ (.slice aa a.length ac)).setCell ⟨w.heap.size + 1, 5, none⟩ (.slice ba b.length bc)) = W at f0 f1 f2 f3 f4 f5
    simp [results, Tryz.results97, go_sem, f0, f1, f2, f3, f4, f5]
  · exact (((((((HRX3.out.nfset (by simp <;> omega) _).nfset (by simp <;> omega) _).nfset (by simp <;> omega) _).nfset (by simp <;> omega) _).nfset (by simp <;> omega) _).nfset (by simp <;> omega) _).nfset (by simp <;> omega) _).imp (fun b hb _ => ⟨by have := hb.1; omega, hb.2⟩)
  · exact (((((((HRA3.out.nfset (by simp <;> omega) _).nfset (by simp <;> omega) _).nfset (by simp <;> omega) _).nfset (by simp <;> omega) _).nfset (by simp <;> omega) _).nfset (by simp <;> omega) _).nfset (by simp <;> omega) _).imp (fun b hb _ => ⟨by have := hb.1; omega, hb.2⟩)
  · exact (((((((HRB.out.nfset (by simp <;> omega) _).nfset (by simp <;> omega) _).nfset (by simp <;> omega) _).nfset (by simp <;> omega) _).nfset (by simp <;> omega) _).nfset (by simp <;> omega) _).nfset (by simp <;> omega) _).imp (fun b hb _ => ⟨by have := hb.1; omega, hb.2⟩)
  · exact (((((((B3.out.setCell (by simp <;> omega) _).setCell (by simp <;> omega) _).setCell (by simp <;> omega) _).setCell (by simp <;> omega) _).setCell (by simp <;> omega) _).setCell (by simp <;> omega) _).setCell (by simp <;> omega) _)

/-- The first k of a row of statements are laid. -/
def FilY (wr : World) (g : Nat) (e : TypeId) (l : List St) (k : Nat) : Prop :=
  ∃ (xs : List Value) (X Y Z : Nat → Value), wr.ownsRow g e 6 (.slice (some ⟨g, 0, none⟩) l.length l.length) l.length xs ∧
    ∀ i (h : i < l.length), i < k → (xs[i * 6]? = some (.int .i64 l[i].k) ∧ xs[i * 6 + 1]? = some (.string l[i].s) ∧ xs[i * 6 + 2]? = some (.string l[i].t) ∧ xs[i * 6 + 3]? = some (X i) ∧ xs[i * 6 + 4]? = some (Y i) ∧ xs[i * 6 + 5]? = some (Z i)) ∧ El wr (nf wr (g + 1)) l[i].x (X i) ∧ Sl wr (nf wr (g + 1)) l[i].a (Y i) ∧ Sl wr (nf wr (g + 1)) l[i].b (Z i)

theorem FilY.grow {w w' : World} {g : Nat} {e : TypeId} {l : List St} {k : Nat} (h : FilY w g e l k) (hk : Below w.heap.size w w') : FilY w' g e l k := by
  obtain ⟨xs, X, Y, Z, ho, hr⟩ := h
  exact ⟨xs, X, Y, Z, own_grow ho hk, fun i h1 h2 => ⟨(hr i h1 h2).1, (hr i h1 h2).2.1.nfgrow hk, (hr i h1 h2).2.2.1.nfgrow hk, (hr i h1 h2).2.2.2.nfgrow hk⟩⟩

/-- Six cells stored. -/
abbrev set6 (w : World) (g o : Nat) (k : Int) (s t : ByteArray) (x y z : Value) : World :=
  (((((w.setCell ⟨g, o, none⟩ (.int .i64 k)).setCell ⟨g, o + 1, none⟩ (.string s)).setCell ⟨g, o + 2, none⟩ (.string t)).setCell ⟨g, o + 3, none⟩ x).setCell ⟨g, o + 4, none⟩ y).setCell ⟨g, o + 5, none⟩ z

theorem El.nfset6 {w : World} {g n : Nat} {l : List Ex} {v : Value} (h : El w (nf w n) l v) (hn : g < n) (o : Nat) (k : Int) (s t : ByteArray) (x y z : Value) : El (set6 w g o k s t x y z) (nf (set6 w g o k s t x y z) n) l v :=
  (((((h.nfset hn _).nfset hn _).nfset hn _).nfset hn _).nfset hn _).nfset hn _
theorem Sl.nfset6 {w : World} {g n : Nat} {l : List St} {v : Value} (h : Sl w (nf w n) l v) (hn : g < n) (o : Nat) (k : Int) (s t : ByteArray) (x y z : Value) : Sl (set6 w g o k s t x y z) (nf (set6 w g o k s t x y z) n) l v :=
  (((((h.nfset hn _).nfset hn _).nfset hn _).nfset hn _).nfset hn _).nfset hn _

theorem set6_list {xs : List Value} {o j : Nat} (v0 v1 v2 v3 v4 v5 : Value) (h : j < o ∨ o + 5 < j) :
    ((((((xs.set o v0).set (o + 1) v1).set (o + 2) v2).set (o + 3) v3).set (o + 4) v4).set (o + 5) v5)[j]? = xs[j]? := by
  rw [List.getElem?_set_ne (by omega), List.getElem?_set_ne (by omega), List.getElem?_set_ne (by omega), List.getElem?_set_ne (by omega), List.getElem?_set_ne (by omega), List.getElem?_set_ne (by omega)]
theorem set6_at {xs : List Value} {o : Nat} (v0 v1 v2 v3 v4 v5 : Value) (h : o + 5 < xs.length) :
    ((((((xs.set o v0).set (o + 1) v1).set (o + 2) v2).set (o + 3) v3).set (o + 4) v4).set (o + 5) v5)[o]? = some v0 ∧
    ((((((xs.set o v0).set (o + 1) v1).set (o + 2) v2).set (o + 3) v3).set (o + 4) v4).set (o + 5) v5)[o + 1]? = some v1 ∧
    ((((((xs.set o v0).set (o + 1) v1).set (o + 2) v2).set (o + 3) v3).set (o + 4) v4).set (o + 5) v5)[o + 2]? = some v2 ∧
    ((((((xs.set o v0).set (o + 1) v1).set (o + 2) v2).set (o + 3) v3).set (o + 4) v4).set (o + 5) v5)[o + 3]? = some v3 ∧
    ((((((xs.set o v0).set (o + 1) v1).set (o + 2) v2).set (o + 3) v3).set (o + 4) v4).set (o + 5) v5)[o + 4]? = some v4 ∧
    ((((((xs.set o v0).set (o + 1) v1).set (o + 2) v2).set (o + 3) v3).set (o + 4) v4).set (o + 5) v5)[o + 5]? = some v5 := by
  refine ⟨?_, ?_, ?_, ?_, ?_, ?_⟩
  · rw [List.getElem?_set_ne (by omega), List.getElem?_set_ne (by omega), List.getElem?_set_ne (by omega), List.getElem?_set_ne (by omega), List.getElem?_set_ne (by omega), List.getElem?_set_self (by omega)]
  · rw [List.getElem?_set_ne (by omega), List.getElem?_set_ne (by omega), List.getElem?_set_ne (by omega), List.getElem?_set_ne (by omega), List.getElem?_set_self (by simp; omega)]
  · rw [List.getElem?_set_ne (by omega), List.getElem?_set_ne (by omega), List.getElem?_set_ne (by omega), List.getElem?_set_self (by simp; omega)]
  · rw [List.getElem?_set_ne (by omega), List.getElem?_set_ne (by omega), List.getElem?_set_self (by simp; omega)]
  · rw [List.getElem?_set_ne (by omega), List.getElem?_set_self (by simp; omega)]
  · rw [List.getElem?_set_self (by simp; omega)]

theorem FilY.step {w : World} {g : Nat} {e : TypeId} {l : List St} {k : Nat} (h : FilY w g e l k) (hk : k < l.length) {ux ua ub : Value} (hx : El w (nf w (g + 1)) l[k].x ux) (ha : Sl w (nf w (g + 1)) l[k].a ua) (hb : Sl w (nf w (g + 1)) l[k].b ub) :
    FilY (set6 w g (k * 6) l[k].k l[k].s l[k].t ux ua ub) g e l (k + 1) := by
  obtain ⟨xs, X, Y, Z, ho, hr⟩ := h
  have o1 := (ho.stored (k * 6) (.int .i64 l[k].k)).1
  have o2 := (o1.stored (k * 6 + 1) (.string l[k].s)).1
  have o3 := (o2.stored (k * 6 + 2) (.string l[k].t)).1
  have o4 := (o3.stored (k * 6 + 3) ux).1
  have o5 := (o4.stored (k * 6 + 4) ua).1
  have o6 := (o5.stored (k * 6 + 5) ub).1
  have hl : xs.length = l.length * 6 := ho.1
  refine ⟨_, fun i => if i = k then ux else X i, fun i => if i = k then ua else Y i, fun i => if i = k then ub else Z i, o6, fun i hi hik => ?_⟩
  have hn : g < g + 1 := by omega
  by_cases he : i = k
  · subst he
    simp only [if_true]
    exact ⟨set6_at _ _ _ _ _ _ (by omega), hx.nfset6 hn _ _ _ _ _ _ _, ha.nfset6 hn _ _ _ _ _ _ _, hb.nfset6 hn _ _ _ _ _ _ _⟩
  · obtain ⟨⟨x0, x1, x2, x3, x4, x5⟩, y1, y2, y3⟩ := hr i hi (by omega)
    simp only [if_neg he]
    exact ⟨⟨by rw [set6_list _ _ _ _ _ _ (by omega)]; exact x0, by rw [set6_list _ _ _ _ _ _ (by omega)]; exact x1, by rw [set6_list _ _ _ _ _ _ (by omega)]; exact x2, by rw [set6_list _ _ _ _ _ _ (by omega)]; exact x3, by rw [set6_list _ _ _ _ _ _ (by omega)]; exact x4, by rw [set6_list _ _ _ _ _ _ (by omega)]; exact x5⟩, y1.nfset6 hn _ _ _ _ _ _ _, y2.nfset6 hn _ _ _ _ _ _ _, y3.nfset6 hn _ _ _ _ _ _ _⟩

theorem FilY.sl {w : World} {g : Nat} {e : TypeId} {l : List St} (h : FilY w g e l l.length) (hm : l.length ≤ maxLen) (hs : ∀ i (h : i < l.length), l[i].s.size ≤ maxLen ∧ l[i].t.size ≤ maxLen) :
    Sl w (nf w g) l (.slice (some ⟨g, 0, none⟩) l.length l.length) := by
  obtain ⟨xs, X, Y, Z, ho, hr⟩ := h
  by_cases hl : l = []
  · subst hl
    exact .empty _ _ (by simp) fun h => by cases h
  · refine .full l g 0 l.length X Y Z ⟨Nat.le_refl _, fun o => ho.frozenAt o⟩ hl (Nat.le_refl _) hm hs (fun i hi => ?_) (fun i hi => (hr i hi hi).2.1.imp fun b hb _ => ⟨by have := hb.1; omega, hb.2⟩) (fun i hi => (hr i hi hi).2.2.1.imp fun b hb _ => ⟨by have := hb.1; omega, hb.2⟩) (fun i hi => (hr i hi hi).2.2.2.imp fun b hb _ => ⟨by have := hb.1; omega, hb.2⟩)
    obtain ⟨⟨x0, x1, x2, x3, x4, x5⟩, _⟩ := hr i hi hi
    rw [Nat.zero_add]
    exact ⟨by rw [ho.cellAt _ (by omega), x0], by rw [ho.cellAt _ (by omega), x1], by rw [ho.cellAt _ (by omega), x2], by rw [ho.cellAt _ (by omega), x3], by rw [ho.cellAt _ (by omega), x4], by rw [ho.cellAt _ (by omega), x5]⟩

theorem infoStmt : (Tryz.prog.info? 80).map (fun i => (i.zero, i.size, i.bytes)) = some (some (st 0 ⟨#[]⟩ ⟨#[]⟩ (.slice none 0 0) (.slice none 0 0) (.slice none 0 0)), 6, 112) := by kernel_rfl

set_option maxHeartbeats 1000000 in
theorem toStmtS_step (l : List St) (ih : ∀ x ∈ l, ToY x.a ∧ ToY x.b) : ToY l := by
  intro B v w h hsz
  have hS : l ≠ [] → ∀ i (h : i < l.length), l[i].s.size ≤ maxLen ∧ l[i].t.size ≤ maxLen := by
    intro hl i hi
    obtain ⟨ao, cap, rfl, -⟩ := h.len
    obtain ⟨_, _, _, _, _, _, hel⟩ := h.elems hl
    exact (hel i hi).2.2.2.2
  obtain ⟨ao, cap, rfl, hl1, hl2, hl3⟩ := h.len
  have hlen := szy_length l
  obtain ⟨i0, hi, hz0, hz1, hz2⟩ := info_parts infoStmt
  have HI := Hid.mk ih
  have HH := Hid.mk h
  have HS := Hid.mk hS
  have hln : l.length ≤ 1048576 := by omega
  clear ih h hl2 hS
  go_enter Tryz.func69, Tryz.ntmps69
  go_wp2_with (at_make; refine wpList_make_full _ rfl _ _ 42 rfl w.heap.size 80 i0 _ 6 Tryz.underlying42 hi hz0 hz1 _ _ _ _ l.length rfl rfl rfl rfl (by rw [hz2]; omega) (by unfold maxLen; omega) (by simp) ?_)
  intro w1 hown hgrow
  have hbel : Below w.heap.size w w1 := (Below.refl _ _).grown hgrow (Nat.le_refl _) (by simp)
  have hg1 : w.heap.size < w1.heap.size := (World.ownsRow.lt hown _ rfl).2
  have HF : FilY w1 w.heap.size 80 l 0 := ⟨_, fun _ => .bool true, fun _ => .bool true, fun _ => .bool true, hown, fun i _ h => absurd h (Nat.not_lt_zero i)⟩
  clear hgrow hown hi hz0 hz1 hz2
  go_wp2
  go_loopw [4] (fun i wr => ∃ (k : Nat), k ≤ l.length ∧ i = .int .i64 k ∧ Hid (FilY wr w.heap.size 80 l k) ∧ Below w.heap.size w wr ∧ w.heap.size < wr.heap.size) (fun i _ => l.length - (intOf i).toNat)
  case atStart => exact ⟨0, Nat.zero_le _, rfl, HF, hbel, hg1⟩
  case round =>
    obtain ⟨k, hk, rfl, HFr, hbelr, hgr⟩ := hrel
    clear HF hbel hg1
    by_cases hkl : k < l.length
    · obtain ⟨b, off, X, Y, Z, rfl, hel⟩ := HH.out.elems (by intro hn; rw [hn] at hkl; simp at hkl)
      obtain ⟨h3, hx, ha, hz, hss, htt⟩ := hel k hkl
      have hto := HI.out _ (List.getElem_mem hkl)
      have hsk : l[k].sz ≤ 1048576 := by have := szy_mem (List.getElem_mem hkl); omega
      have HST := Hid.mk (fun (w2 : World) (ux ua ub : Value) (h1 : FilY w2 w.heap.size 80 l k) (h2 : El w2 (nf w2 (w.heap.size + 1)) l[k].x ux) (h3 : Sl w2 (nf w2 (w.heap.size + 1)) l[k].a ua) (h4 : Sl w2 (nf w2 (w.heap.size + 1)) l[k].b ub) => h1.step hkl h2 h3 h4)
      obtain ⟨t, ht⟩ : ∃ t, l[k] = t := ⟨_, rfl⟩
      rw [ht] at h3 hx ha hz hss htt hto hsk HST
      clear ht hel
      obtain ⟨c0, c1, c2, c3, c4, c5⟩ := h3.kept (w' := wr) (hbelr.block b (World.block_lt_of_cell? w _ h3.1))
      have HC := Hid.mk (toStmt_of t hto.1 hto.2 B (X k) (Y k) (Z k) wr (hx.grow hbelr) (ha.grow hbelr) (hz.grow hbelr) hsk)
      have hi1 : (k : Int) < (l.length : Int) := by omega
      clear hx ha hz hss htt hto h3 HI HH
      go_wp2_with fail
      refine HC.out.mono ?_
      rintro e w2 ⟨ux, ua, ub, rfl, hrx, hra, hrb, hb2⟩
      have HF2 := HFr.out.grow hb2
      have H3 := Hid.mk (HST.out w2 ux ua ub HF2 (hrx.imp fun b hb _ => ⟨by have := hb.1; omega, hb.2⟩) (hra.imp fun b hb _ => ⟨by have := hb.1; omega, hb.2⟩) (hrb.imp fun b hb _ => ⟨by have := hb.1; omega, hb.2⟩))
      have B2 := hbelr.trans (hb2.mono hbelr.size)
      have hg2 : w.heap.size < w2.heap.size := Nat.lt_of_lt_of_le hgr hb2.size
      obtain ⟨xs, _, _, _, hown2, -⟩ := HF2
      have f0 := hown2.frozenAt (k * 6)
      have f1 := hown2.frozenAt (k * 6 + 1)
      have f2 := hown2.frozenAt (k * 6 + 2)
      have f3 := hown2.frozenAt (k * 6 + 3)
      have f4 := hown2.frozenAt (k * 6 + 4)
      have f5 := hown2.frozenAt (k * 6 + 5)
      have hxl : xs.length = l.length * 6 := hown2.1
      have o0 := hown2.cellAt (k * 6) (by omega)
      have o1 := hown2.cellAt (k * 6 + 1) (by omega)
      have o2 := hown2.cellAt (k * 6 + 2) (by omega)
      have o3 := hown2.cellAt (k * 6 + 3) (by omega)
      have o4 := hown2.cellAt (k * 6 + 4) (by omega)
      have o5 := hown2.cellAt (k * 6 + 5) (by omega)
      obtain ⟨y0, e0⟩ : ∃ y, xs[k * 6]? = some y := ⟨_, List.getElem?_eq_getElem (by omega)⟩
      obtain ⟨y1, e1⟩ : ∃ y, xs[k * 6 + 1]? = some y := ⟨_, List.getElem?_eq_getElem (by omega)⟩
      obtain ⟨y2, e2⟩ : ∃ y, xs[k * 6 + 2]? = some y := ⟨_, List.getElem?_eq_getElem (by omega)⟩
      obtain ⟨y3, e3⟩ : ∃ y, xs[k * 6 + 3]? = some y := ⟨_, List.getElem?_eq_getElem (by omega)⟩
      obtain ⟨y4, e4⟩ : ∃ y, xs[k * 6 + 4]? = some y := ⟨_, List.getElem?_eq_getElem (by omega)⟩
      obtain ⟨y5, e5⟩ : ∃ y, xs[k * 6 + 5]? = some y := ⟨_, List.getElem?_eq_getElem (by omega)⟩
      rw [e0] at o0
      rw [e1] at o1
      rw [e2] at o2
      rw [e3] at o3
      rw [e4] at o4
      rw [e5] at o5
      clear e0 e1 e2 e3 e4 e5
      obtain ⟨xa, xc, rfl, -, -, -⟩ := hrx.len
      obtain ⟨aa, ac, rfl, -, -, -⟩ := hra.len
      obtain ⟨ba, bc, rfl, -, -, -⟩ := hrb.len
      have hk0 : 0 < l.length := by omega
      clear hown2 HFr HC HST hb2 hbelr hrx hra hrb c0 c1 c2 c3 c4 c5 hxl
      go_wp2
      go_roundw
      case rel => exact ⟨k + 1, by omega, by go_num, H3, (((((B2.setCell (Nat.le_refl _) _).setCell (Nat.le_refl _) _).setCell (Nat.le_refl _) _).setCell (Nat.le_refl _) _).setCell (Nat.le_refl _) _).setCell (Nat.le_refl _) _, by simpa using hg2⟩
      case measure => simp [intOf]; omega
    · have e : k = l.length := by omega
      subst e
      have HR := Hid.mk (fun hS => HFr.out.sl (by unfold maxLen; omega) hS)
      have HR2 : Hid (Sl wr (nf wr w.heap.size) l (.slice (some ⟨w.heap.size, 0, none⟩) l.length l.length)) := HR.out (by
        intro i hi
        exact HS.out (by intro hn; rw [hn] at hi; simp at hi) i hi)
      clear HR HFr HS HI HH
      go_wp2
      go_ret
      exact ⟨_, rfl, HR2.out, hbelr⟩

theorem toStmtS_any (l : List St) : ToY l := (St.ind (P := fun t => ToY t.a ∧ ToY t.b) (fun t iha ihb => ⟨toStmtS_step t.a iha, toStmtS_step t.b ihb⟩) (.node 0 ⟨#[]⟩ ⟨#[]⟩ [] l [])).1
theorem toStmt_any (t : St) (B : Nat → Prop) (vx va vb : Value) (w : World) (hx : El w B t.x vx) (ha : Sl w B t.a va) (hb : Sl w B t.b vb) (hs : t.sz ≤ 1048576) :
    Calls Tryz.prog 97 #[st t.k t.s t.t vx va vb] w fun e w' => ∃ ux ua ub, e = .returned (st t.k t.s t.t ux ua ub) ∧ El w' (nf w' (w.heap.size + 1)) t.x ux ∧ Sl w' (nf w' (w.heap.size + 1)) t.a ua ∧ Sl w' (nf w' (w.heap.size + 1)) t.b ub ∧ Below w.heap.size w w' :=
  toStmt_of t (toStmtS_any t.a) (toStmtS_any t.b) B vx va vb w hx ha hb hs
end Go.Proofs.YtgigalcajgjpnaaGreat

namespace Go.Proofs.YtgigalcajgjpnaaGreat
open Go.RowKit
set_option maxRecDepth 8000

/-- A statement with the slices that are read within. -/
abbrev Sv := St × Value × Value × Value
def svCells : List Sv → List Value
  | [] => []
  | q :: r => .int .i64 q.1.k :: .string q.1.s :: .string q.1.t :: q.2.1 :: q.2.2.1 :: q.2.2.2 :: svCells r
theorem svCells_length (L : List Sv) : (svCells L).length = L.length * 6 := by
  induction L with
  | nil => rfl
  | cons q r ih => simp only [svCells, List.length_cons, ih]; omega
theorem svCells_append (L M : List Sv) : svCells (L ++ M) = svCells L ++ svCells M := by
  induction L with
  | nil => rfl
  | cons q r ih => simp only [List.cons_append, svCells, ih]
theorem svCells_at (L : List Sv) : ∀ i (h : i < L.length), (svCells L)[i * 6]? = some (.int .i64 L[i].1.k) ∧ (svCells L)[i * 6 + 1]? = some (.string L[i].1.s) ∧ (svCells L)[i * 6 + 2]? = some (.string L[i].1.t) ∧ (svCells L)[i * 6 + 3]? = some L[i].2.1 ∧ (svCells L)[i * 6 + 4]? = some L[i].2.2.1 ∧ (svCells L)[i * 6 + 5]? = some L[i].2.2.2 := by
  induction L with
  | nil => intro i h; simp at h
  | cons q r ih =>
    intro i h
    cases i with
    | zero => simp [svCells]
    | succ i =>
      have := ih i (by simpa using h)
      have e0 : (i + 1) * 6 = i * 6 + 6 := by omega
      simp only [svCells, e0, List.getElem?_cons_succ, List.getElem_cons_succ]
      exact this
theorem svCells_mem {L : List Sv} {u : Value} (h : u ∈ svCells L) : ∃ q ∈ L, u = .int .i64 q.1.k ∨ u = .string q.1.s ∨ u = .string q.1.t ∨ u = q.2.1 ∨ u = q.2.2.1 ∨ u = q.2.2.2 := by
  induction L with
  | nil => cases h
  | cons q r ih =>
    simp only [svCells, List.mem_cons] at h
    rcases h with h | h | h | h | h | h | h
    · exact ⟨q, by simp, .inl h⟩
    · exact ⟨q, by simp, .inr (.inl h)⟩
    · exact ⟨q, by simp, .inr (.inr (.inl h))⟩
    · exact ⟨q, by simp, .inr (.inr (.inr (.inl h)))⟩
    · exact ⟨q, by simp, .inr (.inr (.inr (.inr (.inl h))))⟩
    · exact ⟨q, by simp, .inr (.inr (.inr (.inr (.inr h))))⟩
    · obtain ⟨p, hp, hq⟩ := ih h
      exact ⟨p, by simp [hp], hq⟩

/-- The blocks below n. -/
def oldTo (n : Nat) : Nat → Prop := fun b => b < n
def SvOk (w : World) (n : Nat) (q : Sv) : Prop := El w (oldTo n) q.1.x q.2.1 ∧ Sl w (oldTo n) q.1.a q.2.2.1 ∧ Sl w (oldTo n) q.1.b q.2.2.2 ∧ q.1.s.size ≤ maxLen ∧ q.1.t.size ≤ maxLen
theorem SvOk.grow {w w' : World} {n : Nat} {q : Sv} (h : SvOk w n q) (hb : Below w.heap.size w w') : SvOk w' n q := ⟨h.1.grow hb, h.2.1.grow hb, h.2.2.1.grow hb, h.2.2.2⟩
theorem SvOk.kept {w w' : World} {n : Nat} {q : Sv} (h : SvOk w n q) (hk : ∀ b, b < n → b < w.heap.size → w'.heap[b]? = w.heap[b]?) : SvOk w' n q := ⟨h.1.kept hk, h.2.1.kept hk, h.2.2.1.kept hk, h.2.2.2⟩

theorem Sl.sv {w : World} {B : Nat → Prop} {l : List St} {ao : Option Addr} {n cap : Nat} (h : Sl w B l (.slice ao n cap)) :
    ∃ L : List Sv, L.map (·.1) = l ∧ (∀ q ∈ L, SvOk w w.heap.size q) ∧ ∀ ad, ao = some ad → ∀ j u, (svCells L)[j]? = some u → w.cell? (ad.add j) = some u := by
  by_cases hl : l = []
  · subst hl
    exact ⟨[], rfl, by simp, fun ad _ j u hu => by simp [svCells] at hu⟩
  · obtain ⟨b, off, X, Y, Z, rfl, hel⟩ := h.elems hl
    obtain ⟨L, hL⟩ : ∃ L : List Sv, L = (List.range l.length).map fun i => (l.getD i default, X i, Y i, Z i) := ⟨_, rfl⟩
    have hlen : L.length = l.length := by rw [hL]; simp
    have hat : ∀ i (h : i < L.length), L[i] = (l[i]'(by omega), X i, Y i, Z i) := by
      intro i hi
      subst hL
      have : i < l.length := by omega
      simp [this]
    refine ⟨L, ?_, ?_, ?_⟩
    · apply List.ext_getElem
      · simp [hlen]
      · intro i h1 h2
        simp only [List.getElem_map]
        rw [hat i (by simpa using h1)]
    · intro q hq
      obtain ⟨i, hi, rfl⟩ := List.getElem_of_mem hq
      obtain ⟨-, h1, h2, h3, h4⟩ := hel i (by omega)
      rw [hat i hi]
      exact ⟨h1.imp fun _ _ hb => hb, h2.imp fun _ _ hb => hb, h3.imp fun _ _ hb => hb, h4⟩
    · intro ad had j u hu
      obtain rfl := Option.some.inj had
      have hj : j < L.length * 6 := by have := (List.getElem?_eq_some_iff.1 hu).1; rw [svCells_length] at this; exact this
      have hi : j / 6 < L.length := by omega
      obtain ⟨s0, s1, s2, s3, s4, s5⟩ := svCells_at L (j / 6) hi
      obtain ⟨⟨c0, c1, c2, c3, c4, c5⟩, -⟩ := hel (j / 6) (by omega)
      rw [hat _ hi] at s0 s1 s2 s3 s4 s5
      rw [Addr.add_lit]
      obtain ⟨r, hr, hr6⟩ : ∃ r, j = j / 6 * 6 + r ∧ r < 6 := ⟨j % 6, by omega, by omega⟩
      obtain ⟨d, hd⟩ : ∃ d, j / 6 = d := ⟨_, rfl⟩
      rw [hd] at hr
      simp only [hd] at s0 s1 s2 s3 s4 s5 c0 c1 c2 c3 c4 c5
      subst hr
      rcases r with _ | _ | _ | _ | _ | _ | r
      · rw [Nat.add_zero] at hu ⊢; rw [hu] at s0; rw [c0]; exact s0.symm
      · rw [hu] at s1; rw [← Nat.add_assoc, c1]; exact s1.symm
      · rw [hu] at s2; rw [← Nat.add_assoc, c2]; exact s2.symm
      · rw [hu] at s3; rw [← Nat.add_assoc, c3]; exact s3.symm
      · rw [hu] at s4; rw [← Nat.add_assoc, c4]; exact s4.symm
      · rw [hu] at s5; rw [← Nat.add_assoc, c5]; exact s5.symm
      · omega

/-- A row of the call's own with these. -/
def OwnSt (w : World) (base : Nat) (v : Value) (L : List Sv) : Prop := w.ownsRow base 80 6 v L.length (svCells L) ∧ ∀ q ∈ L, SvOk w base q

theorem OwnSt.sl {w : World} {base : Nat} {v : Value} {L : List Sv} (h : OwnSt w base v L) : Sl w anyBlock (L.map (·.1)) v := by
  obtain ⟨h, hok⟩ := h
  by_cases hl : L = []
  · subst hl
    rcases h.2 with ⟨rfl, -⟩ | ⟨g, cap, cur, rfl, -, -, -, hm, -⟩
    · exact Sl.zero w _
    · exact .empty _ _ hm fun h => by cases h
  · rcases h.2 with ⟨-, h0⟩ | ⟨g, cap, cur, rfl, hb, hg, hc, hm, -⟩
    · exact absurd (List.length_eq_zero_iff.1 h0) hl
    · have hlen : (L.map (·.1)).length = L.length := by simp
      have hcell := h.cells (g := g) rfl
      have := Sl.full (w := w) (B := anyBlock) (L.map (·.1)) g 0 cap (fun i => (L.getD i default).2.1) (fun i => (L.getD i default).2.2.1) (fun i => (L.getD i default).2.2.2) trivial (by simpa using hl) (by rw [hlen]; exact hc) hm
        (fun i h => by rw [hlen] at h; simpa using (hok _ (List.getElem_mem h)).2.2.2)
        (fun i h => by
          rw [hlen] at h
          obtain ⟨s0, s1, s2, s3, s4, s5⟩ := svCells_at L i h
          have r0 := hcell _ _ s0
          have r1 := hcell _ _ s1
          have r2 := hcell _ _ s2
          have r3 := hcell _ _ s3
          have r4 := hcell _ _ s4
          have r5 := hcell _ _ s5
          simp only [Addr.add_lit] at r0 r1 r2 r3 r4 r5
          simp only [List.getElem_map, List.getD_eq_getElem?_getD, List.getElem?_eq_getElem h, Option.getD_some]
          exact ⟨r0, r1, r2, r3, r4, r5⟩)
        (fun i h => by rw [hlen] at h; simp only [List.getElem_map, List.getD_eq_getElem?_getD, List.getElem?_eq_getElem h, Option.getD_some]; exact (hok _ (List.getElem_mem h)).1.any)
        (fun i h => by rw [hlen] at h; simp only [List.getElem_map, List.getD_eq_getElem?_getD, List.getElem?_eq_getElem h, Option.getD_some]; exact (hok _ (List.getElem_mem h)).2.1.any)
        (fun i h => by rw [hlen] at h; simp only [List.getElem_map, List.getD_eq_getElem?_getD, List.getElem?_eq_getElem h, Option.getD_some]; exact (hok _ (List.getElem_mem h)).2.2.1.any)
      rwa [hlen] at this

theorem svOk_one {w : World} {n : Nat} {L : List Sv} (h : ∀ q ∈ L, SvOk w n q) : ∀ u ∈ svCells L, u.oneCell' = true := by
  intro u hu
  obtain ⟨q, hq, h1⟩ := svCells_mem hu
  obtain ⟨hx, ha, hb, -⟩ := h q hq
  obtain ⟨_, _, e1, -⟩ := hx.len
  obtain ⟨_, _, e2, -⟩ := ha.len
  obtain ⟨_, _, e3, -⟩ := hb.len
  rcases h1 with rfl | rfl | rfl | rfl | rfl | rfl
  · simp [Value.oneCell']
  · simp [Value.oneCell']
  · simp [Value.oneCell']
  · rw [e1]; simp [Value.oneCell']
  · rw [e2]; simp [Value.oneCell']
  · rw [e3]; simp [Value.oneCell']

theorem wpList_append_st {w0 w : World} {ops : Array Oper} {rest : List Oper} {o : Oper} {a : Act} {Q : Exit → Act → World → Prop} (hgd : o.guard = none) (s x : Operand)
    (ho : o.op = .call { callee := .builtin .append, args := #[s, x], argTypes := #[42, 42] })
    (base : Nat) (v u : Value) (L M : List Sv) (hs : a.eval s = v) (hown : OwnSt w base v L) (hx : a.eval x = u) (ao : Option Addr) (cap : Nat) (hu : u = .slice ao M.length cap) (hn : ao = none → cap = 0) (hcap : M.length ≤ cap)
    (hM : ∀ q ∈ M, SvOk w base q) (hcell : ∀ ad, ao = some ad → ∀ j u, (svCells M)[j]? = some u → w.cell? (ad.add j) = some u)
    (hbel : Below base w0 w) (hbase : base ≤ w.heap.size) (hlen : L.length + M.length ≤ 1000000)
    (h : ∀ v' w', OwnSt w' base v' (L ++ M) → Below base w0 w' → base ≤ w'.heap.size → wpList Tryz.prog ops Q rest (a.put o.dst v') w') :
    wpList Tryz.prog ops Q (o :: rest) a w := by
  obtain ⟨i0, hi, hz0, hz1, hz2⟩ := info_parts infoStmt
  subst hu
  cases ao with
  | none =>
    have hc0 := hn rfl
    have hm0 : M = [] := List.length_eq_zero_iff.1 (by omega)
    subst hm0
    subst hc0
    refine wpList_append_own_none hgd s x 42 ho base 80 i0 6 Tryz.underlying42 hi v L.length (svCells L) hs hown.1 hx ?_
    exact h v w (by rw [List.append_nil]; exact hown) hbel hbase
  | some ad =>
    refine wpList_append_own_at w hgd s x 42 ho base 80 i0 _ 6 112 Tryz.underlying42 hi hz0 hz1 hz2 rfl (by decide) v L.length (svCells L) hs hown.1 ad M.length cap (svCells M) hx
      (svCells_length M) (hcell ad rfl) (svOk_one hM) (by unfold maxLen; omega) (by omega) hbase ?_
    intro v' w' hown' hgr _ _
    refine h v' w' ⟨?_, fun q hq => ?_⟩ (hbel.grown hgr hbase fun k hk => (World.ownsRow.lt hown.1 k hk).1) (Nat.le_trans hbase hgr.size)
    · rw [svCells_append, List.length_append]
      exact hown'
    · have hk : ∀ b, b < base → b < w.heap.size → w'.heap[b]? = w.heap[b]? := fun b hb hlt => hgr.block b hlt fun e => by have := (World.ownsRow.lt hown.1 b e.symm).1; omega
      rcases List.mem_append.1 hq with hq | hq
      · exact (hown.2 q hq).kept hk
      · exact (hM q hq).kept hk
end Go.Proofs.YtgigalcajgjpnaaGreat

namespace Go.Proofs.YtgigalcajgjpnaaGreat
open Go.RowKit
set_option maxRecDepth 8000

set_option maxHeartbeats 1000000 in
theorem growSt (n : Nat) (w : World) (hn : n ≤ 1000) :
    Calls Tryz.prog 125 #[.slice none 0 0, .int .i64 n] w fun e w' => ∃ v, e = .returned v ∧ OwnSt w' w.heap.size v [] ∧ Below w.heap.size w w' := by
  rcases Nat.eq_zero_or_pos n with h0 | h0
  · subst h0
    go_enter Tryz.func125, Tryz.ntmps125
    go_wp2
    go_ret
    exact ⟨_, rfl, ⟨⟨rfl, .inl ⟨rfl, rfl⟩⟩, by simp⟩, Below.refl _ _⟩
  · obtain ⟨i0, hi, hz0, hz1, hz2⟩ := info_parts infoStmt
    have hr := fun ty => Lib.run_append_nil_zeros (P := Tryz.prog) w 42 3 ty 80 i0 _ .i64 .i64 Tryz.underlying42 Tryz.underlying3 hi hz0 n h0 (by rw [hz1]; omega) (by omega) (by rw [hz2]; omega)
    have hG1 : n ≤ grownCap w n 0 80 := grownCap_ge w _ _ _
    have hG2 : grownCap w n 0 80 ≤ maxLen := grownCap_le_maxLen w _ _ _ (by unfold maxLen; omega)
    have HOWN : Hid (∀ (g cap : Nat) (W : World), W = w.drew.alloc (.cells (Builtin.zeroCells (st 0 ⟨#[]⟩ ⟨#[]⟩ (.slice none 0 0) (.slice none 0 0) (.slice none 0 0)).cells n ++ Builtin.zeroCells (st 0 ⟨#[]⟩ ⟨#[]⟩ (.slice none 0 0) (.slice none 0 0) (.slice none 0 0)).cells (grownCap w n 0 80 - n)) 80) → g = w.heap.size → cap = grownCap w n 0 80 → OwnSt W w.heap.size (.slice (some ⟨g, 0, none⟩) 0 cap) []) := by
      intro g cap W hW hg hc
      refine ⟨⟨rfl, .inr ⟨g, cap, _, rfl, by omega, by rw [hW, hg]; exact heap_alloc_new w.drew _, Nat.zero_le _, by omega, ?_, rfl⟩⟩, by simp⟩
      rw [Array.size_append, size_zeroCells, size_zeroCells]
      show n * 6 + _ * 6 = cap * 6
      omega
    have HB : Hid (∀ (W : World) o, W = w.drew.alloc o → Below w.heap.size w W) := by
      intro W o hW
      subst hW
      exact (Below.drewSelf _ _ 1).alloc (by simp) _
    obtain ⟨G, hG⟩ : ∃ G, grownCap w n 0 80 = G := ⟨_, rfl⟩
    rw [hG] at hr hG1 hG2 HOWN
    unfold maxLen at hG2
    have hn1 : ¬ ((n : Int) < 0) := by omega
    have hn2 : 0 < (n : Int) := by omega
    clear hG hz0 hz1 hz2 hi
    go_enter Tryz.func125, Tryz.ntmps125
    go_wp2_with (at_builtin; refine Lib.wpList_append_run _ rfl _ _ _ _ rfl _ _ rfl rfl _ _ (hr _) ?_)
    go_ret
    exact ⟨_, rfl, HOWN.out _ _ _ rfl rfl rfl, HB.out _ _ rfl⟩

theorem OwnSt.grow {w w' : World} {base : Nat} {v : Value} {L : List Sv} (h : OwnSt w base v L) (hb : Below w.heap.size w w') : OwnSt w' base v L := ⟨own_grow h.1 hb, fun q hq => (h.2 q hq).grow hb⟩

set_option maxHeartbeats 2000000 in
theorem concatSt (la lb : List St) (B C : Nat → Prop) (ao : Option Addr) (ac : Nat) (bo : Option Addr) (bc sb : Nat) (w : World) (ha : Sl w B la (.slice ao la.length ac)) (hb : Sl w C lb (.slice bo lb.length bc)) (hna : la.length ≤ 60) (hnb : lb.length ≤ 60)
    (c0 : w.cell? ⟨sb, 0, none⟩ = some (.slice ao la.length ac)) (c1 : w.cell? ⟨sb, 1, none⟩ = some (.slice bo lb.length bc)) :
    Calls Tryz.prog 119 #[.slice (some ⟨sb, 0, none⟩) 2 2] w fun e w' => ∃ v, e = .returned v ∧ Sl w' anyBlock (la ++ lb) v ∧ Below w.heap.size w w' := by
  obtain ⟨LA, hA, okA, cA⟩ := ha.sv
  obtain ⟨LB, hB, okB, cB⟩ := hb.sv
  obtain ⟨_, _, ea, ha1, ha2, ha3⟩ := ha.len
  obtain ⟨_, _, eb, hb1, hb2, hb3⟩ := hb.len
  cases ea
  cases eb
  have hla : LA.length = la.length := by rw [← hA]; simp
  have hlb : LB.length = lb.length := by rw [← hB]; simp
  obtain ⟨na, hn1⟩ : ∃ n, la.length = n := ⟨_, rfl⟩
  obtain ⟨nb, hn2⟩ : ∃ n, lb.length = n := ⟨_, rfl⟩
  rw [hn1] at c0 ha1 hla hna
  rw [hn2] at c1 hb1 hlb hnb
  have HFIN : Hid (∀ (W : World) v, OwnSt W w.heap.size v (LA ++ LB) → Sl W anyBlock (la ++ lb) v) := by
    intro W v h
    have := h.sl
    rwa [List.map_append, hA, hB] at this
  have HCA := Hid.mk cA
  have HCB := Hid.mk cB
  have HOA := Hid.mk okA
  have HOB := Hid.mk okB
  have HG := Hid.mk (fun (w' : World) => growSt (na + nb) w' (by omega))
  have hsb := World.block_lt_of_cell? w _ c0
  clear cA cB okA okB hA hB ha hb hn1 hn2 ha2 hb2
  have e2 : ((na + nb : Nat) : Int) = (na : Int) + (nb : Int) := by omega
  go_enter Tryz.func119, Tryz.ntmps119
  go_wp2
  go_loopw [3, 11] (fun q i wr => ∃ (k m : Nat), k ≤ 2 ∧ i = .int .i64 k ∧ q = .int .i64 m ∧ (k = 0 → m = 0) ∧ (k = 1 → m = na) ∧ (k = 2 → m = na + nb) ∧ wr = w) (fun _ i _ => 2 - (intOf i).toNat)
  case atStart => exact ⟨0, 0, by omega, rfl, rfl, by omega, by omega, by omega, rfl⟩
  case round =>
    obtain ⟨k, m, hk, rfl, rfl, k0, k1, k2, hw⟩ := hrel
    have hw' := hw.symm
    clear hw
    subst hw'
    rcases k with _ | _ | _ | k
    · obtain rfl := k0 rfl
      clear k0 k1 k2
      go_wp2
      go_roundw
      case rel => exact ⟨1, na, by omega, by go_num, by go_num, by omega, by omega, by omega, trivial⟩
      case measure => simp [intOf]
    · obtain rfl := k1 rfl
      clear k0 k1 k2
      go_wp2
      go_roundw
      case rel => exact ⟨2, m + nb, by omega, by go_num, by go_num, by omega, by omega, by omega, trivial⟩
      case measure => simp [intOf]
    · obtain rfl := k2 rfl
      clear k0 k1 k2
      go_wp2_with fail
      rw [← e2]
      refine (HG.out _).mono ?_
      rintro e w2 ⟨v, rfl, hown, hb2⟩
      have HO2 := Hid.mk hown
      clear HG hown
      go_wp2
      go_loopw [6, 27] (fun q i wx => ∃ (k : Nat), k ≤ 2 ∧ i = .int .i64 k ∧ Hid ((k = 0 → OwnSt wx w.heap.size q []) ∧ (k = 1 → OwnSt wx w.heap.size q LA) ∧ (k = 2 → OwnSt wx w.heap.size q (LA ++ LB))) ∧ Below w.heap.size w wx ∧ w.heap.size ≤ wx.heap.size) (fun _ i _ => 2 - (intOf i).toNat)
      case atStart => exact ⟨0, by omega, rfl, ⟨fun _ => HO2.out, fun h => by omega, fun h => by omega⟩, hb2, hb2.size⟩
      case round =>
        obtain ⟨k, hk, rfl, HK, hbx, hsx⟩ := hrel
        clear HO2 hb2
        have d0 : wr.cell? ⟨sb, 0, none⟩ = some (.slice ao na ac) := by rw [hbx.cell (p := ⟨sb, 0, none⟩) hsb]; exact c0
        have d1 : wr.cell? ⟨sb, 1, none⟩ = some (.slice bo nb bc) := by rw [hbx.cell (p := ⟨sb, 1, none⟩) hsb]; exact c1
        have HDA : Hid (∀ ad, ao = some ad → ∀ j u, (svCells LA)[j]? = some u → wr.cell? (ad.add j) = some u) := by
          intro ad had j u hu
          have h := HCA.out ad had j u hu
          rw [hbx.cell (p := ad.add j) (World.block_lt_of_cell? w _ h)]; exact h
        have HDB : Hid (∀ ad, bo = some ad → ∀ j u, (svCells LB)[j]? = some u → wr.cell? (ad.add j) = some u) := by
          intro ad had j u hu
          have h := HCB.out ad had j u hu
          rw [hbx.cell (p := ad.add j) (World.block_lt_of_cell? w _ h)]; exact h
        have HPA : Hid (∀ q ∈ LA, SvOk wr w.heap.size q) := fun q hq => (HOA.out q hq).grow hbx
        have HPB : Hid (∀ q ∈ LB, SvOk wr w.heap.size q) := fun q hq => (HOB.out q hq).grow hbx
        rcases k with _ | _ | _ | k
        · have HO := Hid.mk (HK.out.1 rfl)
          clear HK
          go_wp2_with (at_builtin; refine wpList_append_st (w0 := w) rfl _ _ rfl w.heap.size _ _ [] LA rfl HO.out rfl ao ac (by rw [hla]; rfl) ha3 (by omega) HPA.out HDA.out hbx hsx (by simp; omega) ?_; intro v' w' hown' hb' hs')
          have HN := Hid.mk hown'
          clear hown'
          go_wp2
          go_roundw
          case rel => exact ⟨1, by omega, by go_num, ⟨fun h => by omega, fun _ => HN.out, fun h => by omega⟩, hb', hs'⟩
          case measure => simp [intOf]
        · have HO := Hid.mk (HK.out.2.1 rfl)
          clear HK
          go_wp2_with (at_builtin; refine wpList_append_st (w0 := w) rfl _ _ rfl w.heap.size _ _ LA LB rfl HO.out rfl bo bc (by rw [hlb]; rfl) hb3 (by omega) HPB.out HDB.out hbx hsx (by omega) ?_; intro v' w' hown' hb' hs')
          have HN := Hid.mk hown'
          clear hown'
          go_wp2
          go_roundw
          case rel => exact ⟨2, by omega, by go_num, ⟨fun h => by omega, fun h => by omega, fun _ => HN.out⟩, hb', hs'⟩
          case measure => simp [intOf]
        · have HO := Hid.mk (HFIN.out _ _ (HK.out.2.2 rfl))
          clear HK
          go_wp2
          go_ret
          exact ⟨_, rfl, HO.out, hbx⟩
        · omega
    · omega

theorem stmtParts_any (t : St) (B : Nat → Prop) (vx va vb : Value) (w : World) (hx : ∃ o n c, vx = .slice o n c) (ha : Sl w B t.a va) (hb : Sl w B t.b vb) (hna : t.a.length ≤ 60) (hnb : t.b.length ≤ 60) :
    Calls Tryz.prog 102 #[st t.k t.s t.t vx va vb] w fun e w' => ∃ v, e = .returned v ∧ Sl w' anyBlock t.ab v ∧ Below w.heap.size w w' := by
  obtain ⟨xo, xn, xc, rfl⟩ := hx
  obtain ⟨yo, yc, rfl, -, -, -⟩ := ha.len
  obtain ⟨zo, zc, rfl, -, -, -⟩ := hb.len
  have HC := Hid.mk (fun (w' : World) (hw : Below w.heap.size w w') (sb : Nat) c0 c1 => concatSt t.a t.b B B yo yc zo zc sb w' (ha.grow hw) (hb.grow hw) hna hnb c0 c1)
  have HAB : Hid (t.ab = t.a ++ t.b) := rfl
  obtain ⟨k, hk⟩ : ∃ k, t.k = k := ⟨_, rfl⟩
  obtain ⟨s, hsn⟩ : ∃ s, t.s = s := ⟨_, rfl⟩
  obtain ⟨u, hun⟩ : ∃ u, t.t = u := ⟨_, rfl⟩
  obtain ⟨a, han⟩ : ∃ a, t.a = a := ⟨_, rfl⟩
  obtain ⟨b, hbn⟩ : ∃ b, t.b = b := ⟨_, rfl⟩
  rw [han, hbn] at HAB HC
  rw [hk, hsn, hun, han, hbn, HAB.out]
  clear hk hsn hun han hbn HAB ha hb hna hnb
  have B0 : Below w.heap.size w ((w.alloc (.cells #[.int .i64 k, .string s, .string u, .slice xo xn xc, .slice yo a.length yc, .slice zo b.length zc] 80)).alloc (.cells #[.slice yo a.length yc, .slice zo b.length zc] 42)) := ((Below.refl _ _).alloc (Nat.le_refl _) _).alloc (by simp) _
  go_enter Tryz.func102, Tryz.ntmps102
  go_wp2_with fail
  refine (HC.out _ B0 (w.heap.size + 1) ?_ ?_).mono ?_
  · go_simp
  · go_simp
  rintro e w1 ⟨v, rfl, hr, hb1⟩
  have B1 := B0.trans (hb1.mono (by simp; omega))
  have HR := Hid.mk hr
  clear B0 hb1 HC hr
  go_wp2
  go_ret
  exact ⟨_, rfl, HR.out, B1⟩
end Go.Proofs.YtgigalcajgjpnaaGreat

namespace Go.Proofs.YtgigalcajgjpnaaGreat
open Go.RowKit
set_option maxRecDepth 8000

def RoomY (f : Nat) : Prop := ∀ (t : St) (B : Nat → Prop) (vx va vb : Value) (w : World) (r : Int), El w B t.x vx → Sl w B t.a va → Sl w B t.b vb → ShY t → 0 ≤ r → r ≤ 60 →
  Calls Tryz.prog 100 #[st t.k t.s t.t vx va vb, .int .i64 (f : Int), .int .i64 r, .func (.func 101) #[] #[], .func (.func 102) #[] #[]] w fun e w' => e = .returned (.int .i64 (roomS f t r)) ∧ Below w.heap.size w w'

theorem roomY_zero : RoomY 0 := by
  intro t B vx va vb w r hx ha hb hs h0 h1
  obtain ⟨xo, xc, rfl, -, -, -⟩ := hx.len
  obtain ⟨yo, yc, rfl, -, -, -⟩ := ha.len
  obtain ⟨zo, zc, rfl, -, -, -⟩ := hb.len
  obtain ⟨k, hk⟩ : ∃ k, t.k = k := ⟨_, rfl⟩
  obtain ⟨s, hsn⟩ : ∃ s, t.s = s := ⟨_, rfl⟩
  obtain ⟨u, hun⟩ : ∃ u, t.t = u := ⟨_, rfl⟩
  have HR : Hid (roomS 0 t r = -1) := rfl
  rw [hk, hsn, hun]
  clear hx ha hb
  go_enter Tryz.func100, Tryz.ntmps100
  go_wp2
  go_ret
  exact ⟨ret_i HR.out.symm, (Below.refl _ _).alloc (Nat.le_refl _) _⟩

theorem ShY.ab {t : St} (h : ShY t) : ∀ y ∈ t.ab, ShY y := by
  intro y hy z hz
  rcases List.mem_append.1 hy with hy | hy
  · exact h z (.sa hy hz)
  · exact h z (.sb hy hz)

theorem nodeP_len {t : St} (h : nodeP t = true) : t.a.length ≤ 60 ∧ t.b.length ≤ 60 := by
  unfold nodeP at h
  simp only [Bool.and_eq_true, decide_eq_true_eq] at h
  omega

set_option maxHeartbeats 2000000 in
theorem roomY_succ (f : Nat) (hf : f ≤ 4) (ih : RoomY f) : RoomY (f + 1) := by
  intro t B vx va vb w r hx ha hb hs h0 h1
  have HSUB := Hid.mk hs.ab
  have HLEN := Hid.mk (nodeP_len (t := t))
  have hs0 := hs t (.self t)
  have HPT := Hid.mk (fun (hl : t.a.length ≤ 60 ∧ t.b.length ≤ 60) (w' : World) (hw : Below w.heap.size w w') => stmtParts_any t B vx va vb w' (by obtain ⟨o, c, e, -⟩ := hx.len; exact ⟨o, _, c, e⟩) (ha.grow hw) (hb.grow hw) hl.1 hl.2)
  obtain ⟨xo, xc, rfl, -, -, -⟩ := hx.len
  obtain ⟨yo, yc, rfl, -, -, -⟩ := ha.len
  obtain ⟨zo, zc, rfl, -, -, -⟩ := hb.len
  have HNB := Hid.mk (fun (w' : World) (hw : Below w.heap.size w w') => stmtNode_any t B xo xc yo yc zo zc w' (hx.grow hw) (by unfold maxLen; omega) (by unfold maxLen; omega) hs0.2.2)
  have HE : Hid (roomS (f + 1) t r = if r = 0 ∨ nodeP t = false then -1 else t.ab.foldl (roomSG (roomS f)) (r - 1)) := rfl
  obtain ⟨R, hR⟩ : ∃ R, roomS (f + 1) t r = R := ⟨_, rfl⟩
  obtain ⟨nb, hnb⟩ : ∃ nb, nodeP t = nb := ⟨_, rfl⟩
  obtain ⟨k, hk⟩ : ∃ k, t.k = k := ⟨_, rfl⟩
  obtain ⟨s, hsn⟩ : ∃ s, t.s = s := ⟨_, rfl⟩
  obtain ⟨u, hun⟩ : ∃ u, t.t = u := ⟨_, rfl⟩
  obtain ⟨x, hxn⟩ : ∃ x, t.x = x := ⟨_, rfl⟩
  obtain ⟨a, han⟩ : ∃ a, t.a = a := ⟨_, rfl⟩
  obtain ⟨b, hbn⟩ : ∃ b, t.b = b := ⟨_, rfl⟩
  obtain ⟨l, hln⟩ : ∃ l, t.ab = l := ⟨_, rfl⟩
  rw [hk, hsn, hun, hxn, han, hbn, hnb] at HNB
  rw [hk, hsn, hun, hxn, han, hbn, hln] at HPT
  rw [hR, hnb, hln] at HE
  rw [hln] at HSUB
  rw [hnb, han, hbn] at HLEN
  rw [hk, hsn, hun, hxn, han, hbn, hR]
  clear hR hnb hk hsn hun hxn han hbn hln hs hs0 hx ha hb
  have HI := Hid.mk ih
  clear ih
  have B0 : Below w.heap.size w (w.alloc (.cells #[.int .i64 k, .string s, .string u, .slice xo x.length xc, .slice yo a.length yc, .slice zo b.length zc] 80)) := (Below.refl _ _).alloc (Nat.le_refl _) _
  obtain ⟨d, hd⟩ : ∃ d : Int, ((f + 1 : Nat) : Int) = d := ⟨_, rfl⟩
  rw [hd]
  have hd6 : (d == 0) = false := beq_eq_false_iff_ne.2 (by omega)
  have hd7 : d - 1 = (f : Int) := by omega
  have hd8 : 0 ≤ d := by omega
  have hd9 : d ≤ 10 := by omega
  by_cases hr0 : r = 0
  · subst hr0
    have HR : Hid (R = -1) := by show _ = _; rw [HE.out, if_pos (Or.inl rfl)]
    clear HE HNB HI HPT HSUB HLEN
    go_enter Tryz.func100, Tryz.ntmps100
    go_wp2
    go_ret
    exact ⟨ret_i HR.out.symm, B0⟩
  have hrb : (r == 0) = false := beq_eq_false_iff_ne.2 hr0
  cases nb with
  | false =>
    have HR : Hid (R = -1) := by show _ = _; rw [HE.out, if_pos (Or.inr rfl)]
    clear HE HI HPT HSUB HLEN
    go_enter Tryz.func100, Tryz.ntmps100
    go_wp2_with fail
    refine (HNB.out _ B0).mono ?_
    rintro e w1 ⟨rfl, hb1⟩
    have B1 := B0.trans (hb1.mono (by simp))
    clear B0 hb1 HNB
    go_wp2
    go_ret
    exact ⟨ret_i HR.out.symm, B1⟩
  | true =>
    have HR : Hid (R = l.foldl (roomSG (roomS f)) (r - 1)) := by show _ = _; rw [HE.out, if_neg (by simpa using hr0)]
    have HPT := Hid.mk (HPT.out (HLEN.out rfl))
    clear HE HLEN
    go_enter Tryz.func100, Tryz.ntmps100
    go_wp2_with fail
    refine (HNB.out _ B0).mono ?_
    rintro e w1 ⟨rfl, hb1⟩
    have B1 := B0.trans (hb1.mono (by simp))
    have hc1 := fun o => hb1.cell (p := ⟨w.heap.size, o, none⟩) (by simp)
    have hs1 := hb1.size
    simp at hs1
    clear B0 hb1 HNB
    have hr1 : 0 ≤ r - 1 := by omega
    go_wp2_with fail
    refine (HPT.out _ B1).mono ?_
    rintro e w2 ⟨v, rfl, hl, hb2⟩
    have B2 := B1.trans (hb2.mono B1.size)
    have s2 : w.heap.size ≤ w2.heap.size := B2.size
    obtain ⟨ao, cap, rfl, hl1, hl2, hl3⟩ := hl.len
    have hm : cap ≤ 9223372036854775807 := by unfold maxLen at hl2; omega
    have HH := Hid.mk hl
    clear B1 hb2 hc1 HPT hl hl2
    go_wp2
    go_loopw [2, 31] (fun q i wr => ∃ (k : Nat) (m : Int), k ≤ l.length ∧ i = .int .i64 k ∧ q = .int .i64 m ∧ 0 ≤ m ∧ m ≤ 60 ∧ Hid (m = (l.take k).foldl (roomSG (roomS f)) (r - 1)) ∧ Below w2.heap.size w2 wr) (fun _ i _ => l.length - (intOf i).toNat)
    case atStart => exact ⟨0, r - 1, Nat.zero_le _, rfl, rfl, by omega, by omega, rfl, Below.refl _ _⟩
    case round =>
      obtain ⟨k, m, hk, rfl, rfl, m0, m1, Hm, hbel⟩ := hrel
      by_cases hkl : k < l.length
      · obtain ⟨bb, off, X, Y, Z, rfl, hel⟩ := HH.out.elems (by intro hn; rw [hn] at hkl; simp at hkl)
        obtain ⟨h3, hx, ha, hz, -, -⟩ := hel k hkl
        have HT := Hid.mk (roomS_take (f := f) l k (r - 1) hkl)
        have HC := Hid.mk (roomS_cut (f := f) l (k + 1) (r - 1))
        have hall : ShY l[k] := HSUB.out _ (List.getElem_mem hkl)
        obtain ⟨t, ht⟩ : ∃ t, l[k] = t := ⟨_, rfl⟩
        rw [ht] at h3 hx ha hz HT hall
        clear ht hel
        obtain ⟨c0, c1, c2, c3, c4, c5⟩ := h3.kept (w' := wr) (hbel.block bb (World.block_lt_of_cell? w2 _ h3.1))
        have hs1 := hbel.size
        have HCall := Hid.mk (fun (w' : World) (hw : Below w2.heap.size w2 w') => HI.out t anyBlock (X k) (Y k) (Z k) w' m (hx.grow hw) (ha.grow hw) (hz.grow hw) hall m0 m1)
        obtain ⟨bd0, bd1⟩ := roomS_bd f t m m0
        obtain ⟨xo', xc', hxv, -, -, -⟩ := hx.len
        obtain ⟨yo', yc', hyv, -, -, -⟩ := ha.len
        obtain ⟨zo', zc', hzv, -, -, -⟩ := hz.len
        rw [hxv] at c3 HCall
        rw [hyv] at c4 HCall
        rw [hzv] at c5 HCall
        obtain ⟨tk, htk⟩ : ∃ tk, t.k = tk := ⟨_, rfl⟩
        obtain ⟨ts, hts⟩ : ∃ ts, t.s = ts := ⟨_, rfl⟩
        obtain ⟨tu, htu⟩ : ∃ tu, t.t = tu := ⟨_, rfl⟩
        obtain ⟨nx, hnx⟩ : ∃ n, t.x.length = n := ⟨_, rfl⟩
        obtain ⟨ny, hny⟩ : ∃ n, t.a.length = n := ⟨_, rfl⟩
        obtain ⟨nz, hnz⟩ : ∃ n, t.b.length = n := ⟨_, rfl⟩
        rw [htk, hts, htu, hnx, hny, hnz] at HCall
        rw [htk] at c0
        rw [hts] at c1
        rw [htu] at c2
        rw [hnx] at c3
        rw [hny] at c4
        rw [hnz] at c5
        obtain ⟨q, hq⟩ : ∃ q, roomS f t m = q := ⟨_, rfl⟩
        rw [hq] at bd0 bd1 HCall
        have HQ : Hid ((l.take (k + 1)).foldl (roomSG (roomS f)) (r - 1) = q) := by
          show _ = _
          rw [HT.out, ← Hm.out, roomSG, if_neg (by omega), hq]
        have hi1 : (k : Int) < (l.length : Int) := by omega
        have B3 := hbel.alloc hs1 (.cells #[.int .i64 tk, .string ts, .string tu, .slice xo' nx xc', .slice yo' ny yc', .slice zo' nz zc'] 80)
        clear hx ha hz h3 hxv hyv hzv HT Hm hq htk hts htu hnx hny hnz hbel hall
        by_cases hq0 : q < 0
        · have HF : Hid (R = -1) := by show _ = _; rw [HR.out]; exact HC.out (by rw [HQ.out]; omega)
          clear HQ HC
          go_wp2_with fail
          refine (HCall.out _ B3).mono ?_
          rintro e w3 ⟨rfl, hb3⟩
          have B4 := B2.trans ((B3.trans (hb3.mono (by simp; omega))).mono s2)
          clear B3 hb3 HCall B2
          go_wp2
          go_ret
          exact ⟨ret_i HF.out.symm, B4⟩
        · clear HC
          go_wp2_with fail
          refine (HCall.out _ B3).mono ?_
          rintro e w3 ⟨rfl, hb3⟩
          have B4 := B3.trans (hb3.mono (by simp; omega))
          clear B3 hb3 HCall
          go_wp2
          go_roundw
          case rel => exact ⟨k + 1, q, by omega, by go_num, rfl, by omega, by omega, HQ.out.symm, B4⟩
          case measure => simp [intOf]; omega
      · have e : k = l.length := by omega
        subst e
        have HF : Hid (R = m) := by show _ = _; rw [HR.out, Hm.out, List.take_length]
        have B4 := B2.trans (hbel.mono s2)
        clear Hm
        go_wp2
        go_ret
        exact ⟨ret_i HF.out.symm, B4⟩

theorem implStmtOk_any (t : St) (B : Nat → Prop) (vx va vb : Value) (w : World) (hx : El w B t.x vx) (ha : Sl w B t.a va) (hb : Sl w B t.b vb) (hs : ShY t) :
    Calls Tryz.prog 73 #[st t.k t.s t.t vx va vb] w fun e w' => e = .returned (.bool (okS t)) ∧ Below w.heap.size w w' := by
  have R5 : RoomY 5 := roomY_succ 4 (by omega) (roomY_succ 3 (by omega) (roomY_succ 2 (by omega) (roomY_succ 1 (by omega) (roomY_succ 0 (by omega) roomY_zero))))
  have HC := Hid.mk (fun (w' : World) (hw : Below w.heap.size w w') => R5 t B vx va vb w' 60 (hx.grow hw) (ha.grow hw) (hb.grow hw) hs (by omega) (by omega))
  have HO := Hid.mk (okS_room t)
  obtain ⟨xo, xc, rfl, -, -, -⟩ := hx.len
  obtain ⟨yo, yc, rfl, -, -, -⟩ := ha.len
  obtain ⟨zo, zc, rfl, -, -, -⟩ := hb.len
  obtain ⟨r, hr⟩ : ∃ b, okS t = b := ⟨_, rfl⟩
  obtain ⟨q, hq⟩ : ∃ q, roomS 5 t 60 = q := ⟨_, rfl⟩
  obtain ⟨k, hk⟩ : ∃ k, t.k = k := ⟨_, rfl⟩
  obtain ⟨s, hsn⟩ : ∃ s, t.s = s := ⟨_, rfl⟩
  obtain ⟨u, hun⟩ : ∃ u, t.t = u := ⟨_, rfl⟩
  obtain ⟨x, hxn⟩ : ∃ x, t.x = x := ⟨_, rfl⟩
  obtain ⟨a, han⟩ : ∃ a, t.a = a := ⟨_, rfl⟩
  obtain ⟨b, hbn⟩ : ∃ b, t.b = b := ⟨_, rfl⟩
  rw [hk, hsn, hun, hxn, han, hbn, hq] at HC
  rw [hr, hq] at HO
  rw [hk, hsn, hun, hxn, han, hbn, hr]
  have B0 : Below w.heap.size w (w.alloc (.cells #[.int .i64 k, .string s, .string u, .slice xo x.length xc, .slice yo a.length yc, .slice zo b.length zc] 80)) := (Below.refl _ _).alloc (Nat.le_refl _) _
  clear hx ha hb hs hk hsn hun hxn han hbn hr hq R5
  go_enter Tryz.func73, Tryz.ntmps73
  go_wp2_with fail
  refine (HC.out _ B0).mono ?_
  rintro e w1 ⟨rfl, hb1⟩
  have B1 := B0.trans (hb1.mono (by simp))
  clear B0 hb1 HC
  go_wp2
  go_ret
  exact ⟨ret_b HO.out, B1⟩
end Go.Proofs.YtgigalcajgjpnaaGreat

namespace Go.Proofs.YtgigalcajgjpnaaGreat
open Go.RowKit
set_option maxRecDepth 8000

/-- No cell of the block is frozen. -/
def uf (w : World) (b : Nat) : Prop := ∀ o, w.frozen? ⟨b, o, none⟩ = false
theorem uf.grow {w w' : World} (hk : Below w.heap.size w w') {b : Nat} (hb : uf w b) (hlt : b < w.heap.size) : uf w' b := fun o => by rw [hk.frozen (p := ⟨b, o, none⟩) hlt]; exact hb o
theorem El.growU {w w' : World} {l : List Ex} {v : Value} (h : El w (uf w) l v) (hk : Below w.heap.size w w') : El w' (uf w') l v := (h.imp fun _ hb hlt => uf.grow hk hb hlt).grow hk
theorem Sl.growU {w w' : World} {l : List St} {v : Value} (h : Sl w (uf w) l v) (hk : Below w.heap.size w w') : Sl w' (uf w') l v := (h.imp fun _ hb hlt => uf.grow hk hb hlt).grow hk
theorem Ul.growU {w w' : World} {l : List Ru} {v : Value} (h : Ul w (uf w) l v) (hk : Below w.heap.size w w') : Ul w' (uf w') l v := (h.imp fun _ hb hlt => uf.grow hk hb hlt).grow hk
theorem Fl.growU {w w' : World} {l : List Fu} {v : Value} (h : Fl w (uf w) l v) (hk : Below w.heap.size w w') : Fl w' (uf w') l v := (h.imp fun _ hb hlt => uf.grow hk hb hlt).grow hk
theorem El.ufOf {w : World} {n : Nat} {l : List Ex} {v : Value} (h : El w (nf w n) l v) : El w (uf w) l v := h.imp fun _ hb _ => hb.2
theorem Sl.ufOf {w : World} {n : Nat} {l : List St} {v : Value} (h : Sl w (nf w n) l v) : Sl w (uf w) l v := h.imp fun _ hb _ => hb.2
theorem Ul.ufOf {w : World} {n : Nat} {l : List Ru} {v : Value} (h : Ul w (nf w n) l v) : Ul w (uf w) l v := h.imp fun _ hb _ => hb.2
theorem Fl.ufOf {w : World} {n : Nat} {l : List Fu} {v : Value} (h : Fl w (nf w n) l v) : Fl w (uf w) l v := h.imp fun _ hb _ => hb.2
end Go.Proofs.YtgigalcajgjpnaaGreat

namespace Go.Proofs.YtgigalcajgjpnaaGreat
open Go.RowKit
set_option maxRecDepth 8000
set_option linter.unusedSimpArgs false

set_option maxHeartbeats 4000000 in
theorem eachS_any (l : List St) (v : Value) (w : World) (h : Sl w (uf w) l v) (hs : ∀ y ∈ l, ShY y) :
    Calls Tryz.prog 72 #[v, .func (.func 73) #[] #[]] w fun e w' => e = .returned (.bool (l.all okS)) ∧ Below w.heap.size w w' := by
  obtain ⟨ao, cap, rfl, h1, h2, -⟩ := h.len
  have h3 : cap ≤ 9223372036854775807 := by unfold maxLen at h2; exact h2
  have HL := Hid.mk h
  have HS := Hid.mk hs
  clear h hs h2
  obtain ⟨n, hn⟩ : ∃ n, l.length = n := ⟨_, rfl⟩
  rw [hn] at h1 HL ⊢
  have HN := Hid.mk hn
  clear hn
  have HY : Hid ((∀ j (hj : j < l.length), okS l[j] = true) → l.all okS = true) := fun h => List.all_eq_true.2 fun x hx => by
    obtain ⟨j, hj, rfl⟩ := List.mem_iff_getElem.1 hx
    exact h j hj
  have HF : Hid (∀ j (hj : j < l.length), okS l[j] = false → l.all okS = false) := fun j hj h => by
    cases hq : l.all okS with
    | false => rfl
    | true => rw [List.all_eq_true.1 hq _ (List.getElem_mem hj)] at h; cases h
  obtain ⟨R, hR⟩ : ∃ R, l.all okS = R := ⟨_, rfl⟩
  rw [hR] at HY HF ⊢
  clear hR
  go_enter Tryz.func72, Tryz.ntmps72
  go_wp2
  go_loopw [9] (fun i wr => ∃ k : Nat, k ≤ n ∧ i = .int .i64 k ∧ Hid (∀ j (hj : j < l.length), j < k → okS l[j] = true) ∧ Below w.heap.size w wr) (fun i _ => n - (intOf i).toNat)
  case atStart => exact ⟨0, Nat.zero_le _, rfl, fun j _ h => absurd h (Nat.not_lt_zero j), Below.refl _ _⟩
  case round =>
    obtain ⟨k, hk, rfl, Ho, hbel⟩ := hrel
    by_cases hkl : k < n
    · have hi1 : (k : Int) < n := by omega
      have hkx : k < l.length := by rw [HN.out]; exact hkl
      have hgr := HL.out.growU hbel
      obtain ⟨b, off, XX, XA, XB, rfl, hel⟩ := hgr.elems (by rintro rfl; simp at hkx)
      obtain ⟨⟨x0, x1, x2, x3, x4, x5⟩, hsx, hsa, hsb, hz1, hz2⟩ := hel k hkx
      obtain ⟨o0, p0, e0, -⟩ := hsx.len
      rw [e0] at x3 hsx
      obtain ⟨o1, p1, e1, -⟩ := hsa.len
      rw [e1] at x4 hsa
      obtain ⟨o2, p2, e2, -⟩ := hsb.len
      rw [e2] at x5 hsb
      clear e0 e1 e2 hel hgr
      have HO1 : Hid (okS l[k] = true → ∀ j (hj : j < l.length), j < k + 1 → okS l[j] = true) := by
        intro h j hj hj1
        by_cases e : j < k
        · exact Ho.out j hj e
        · obtain rfl : j = k := by omega
          exact h
      have HF1 := Hid.mk (HF.out k hkx)
      have HSK := Hid.mk (HS.out _ (List.getElem_mem hkx))
      clear hz1 hz2
      obtain ⟨x, hx⟩ : ∃ x, l[k] = x := ⟨_, rfl⟩
      rw [hx] at HO1 HF1 HSK x0 x1 x2 x3 x4 x5 hsx hsa hsb
      clear hx hkx
      have c0 : wr.cell? ⟨b, off + k * 6, none⟩ = some (.int .i64 x.k) := x0
      have c1 : wr.cell? ⟨b, off + k * 6 + 1, none⟩ = some (.string x.s) := x1
      have c2 : wr.cell? ⟨b, off + k * 6 + 2, none⟩ = some (.string x.t) := x2
      have c3 : wr.cell? ⟨b, off + k * 6 + 3, none⟩ = some (.slice o0 x.x.length p0) := x3
      have c4 : wr.cell? ⟨b, off + k * 6 + 4, none⟩ = some (.slice o1 x.a.length p1) := x4
      have c5 : wr.cell? ⟨b, off + k * 6 + 5, none⟩ = some (.slice o2 x.b.length p2) := x5
      have HE := Hid.mk (And.intro hsx (And.intro hsa hsb))
      clear x0 x1 x2 x3 x4 x5 hsx hsa hsb
      go_wp2_with fail
      refine (implStmtOk_any x _ (.slice o0 x.x.length p0) (.slice o1 x.a.length p1) (.slice o2 x.b.length p2) _ (HE.out.1.grow (((Below.refl _ _).alloc (Nat.le_refl _) _ : Below wr.heap.size wr (wr.alloc _)))) (HE.out.2.1.grow (((Below.refl _ _).alloc (Nat.le_refl _) _ : Below wr.heap.size wr (wr.alloc _)))) (HE.out.2.2.grow (((Below.refl _ _).alloc (Nat.le_refl _) _ : Below wr.heap.size wr (wr.alloc _)))) HSK.out).mono ?_
      rintro e w3 ⟨rfl, hb3⟩
      obtain ⟨r, hr⟩ : ∃ r, okS x = r := ⟨_, rfl⟩
      rw [hr] at HO1 HF1 ⊢
      clear hr
      have HBE : Hid (Below w.heap.size w w3) := hbel.trans (((((Below.refl _ _).alloc (Nat.le_refl _) _ : Below wr.heap.size wr (wr.alloc _))).mono hbel.size).trans (hb3.mono (by have := hbel.size; simp; omega)))
      clear c0 c1 c2 c3 c4 c5 hb3 hbel
      cases r with
      | false =>
        have HF2 := Hid.mk (HF1.out rfl)
        clear HO1 HF1 Ho
        go_wp2
        go_ret
        have hr := HF2.out
        subst hr
        exact ⟨rfl, HBE.out⟩
      | true =>
        have HO2 := Hid.mk (HO1.out rfl)
        clear HO1 HF1 Ho
        go_wp2
        go_roundw
        case measure => simp [intOf]; omega
        case rel => exact ⟨k + 1, by omega, rfl, HO2, HBE.out⟩
    · obtain rfl : k = n := by omega
      have hi1 : ¬ ((k : Int) < (k : Int)) := by omega
      have HT : Hid (R = true) := HY.out fun j hj => Ho.out j hj (by rw [← HN.out]; exact hj)
      go_wp2
      go_ret
      have hr := HT.out
      subst hr
      exact ⟨rfl, hbel⟩

set_option maxHeartbeats 2000000 in
theorem blockOk_any (l : List St) (v : Value) (w : World) (h : Sl w (uf w) l v) (hs : ∀ y ∈ l, ShY y) :
    Calls Tryz.prog 44 #[v] w fun e w' => e = .returned (.bool (bodyB l)) ∧ Below w.heap.size w w' := by
  have HE := Hid.mk (eachS_any l v w h hs)
  obtain ⟨ao, cap, rfl, h1, h2, -⟩ := h.len
  clear h hs h2
  have HB : Hid (bodyB l = (l.all okS && decide (l.length ≤ 20))) := rfl
  obtain ⟨n, hn⟩ : ∃ n, l.length = n := ⟨_, rfl⟩
  obtain ⟨R, hR⟩ : ∃ R, bodyB l = R := ⟨_, rfl⟩
  obtain ⟨A, hA⟩ : ∃ R, l.all okS = R := ⟨_, rfl⟩
  rw [hR, hA, hn] at HB
  rw [hA, hn] at HE
  rw [hR, hn]
  clear hR hA hn
  by_cases h0 : n ≤ 20
  · have hi : (n : Int) ≤ 20 := by omega
    have HB2 : Hid (R = A) := by have := HB.out; rw [this, decide_eq_true h0, Bool.and_true]; rfl
    go_enter Tryz.func44, Tryz.ntmps44
    go_wp2_with fail
    refine HE.out.mono ?_
    rintro e w3 ⟨rfl, hb⟩
    go_wp2
    go_ret
    have hr := HB2.out
    subst hr
    exact ⟨rfl, hb⟩
  · have hi : ¬ ((n : Int) ≤ 20) := by omega
    have HB2 : Hid (R = false) := by have := HB.out; rw [this, decide_eq_false h0, Bool.and_false]; rfl
    clear HE
    go_enter Tryz.func44, Tryz.ntmps44
    go_wp2
    go_ret
    have hr := HB2.out
    subst hr
    exact ⟨rfl, Below.refl _ _⟩

end Go.Proofs.YtgigalcajgjpnaaGreat

namespace Go.Proofs.YtgigalcajgjpnaaGreat
open Go.RowKit

/-- A place: where a list with elements begins, and how many it has. -/
structure Plc where
  a : Addr
  n : Int
  deriving DecidableEq

/-- What a place leads to. -/
def lk : List (Plc × Plc) → Plc → Option Plc
  | [], _ => none
  | x :: E, p => if x.1 = p then some x.2 else lk E p
/-- From now on p leads to q. -/
def putP : List (Plc × Plc) → Plc → Plc → List (Plc × Plc)
  | [], p, q => [(p, q)]
  | x :: E, p, q => if x.1 = p then (p, q) :: E else x :: putP E p q

theorem lk_put (E : List (Plc × Plc)) (p q r : Plc) : lk (putP E p q) r = if p = r then some q else lk E r := by
  induction E with
  | nil => simp [putP, lk]
  | cons x E ih =>
    unfold putP
    by_cases h : x.1 = p
    · rw [if_pos h]
      by_cases hr : p = r
      · simp [lk, hr]
      · have : ¬ x.1 = r := by rw [h]; exact hr
        simp [lk, hr, this]
    · rw [if_neg h]
      simp only [lk, ih]
      by_cases hr : x.1 = r
      · have : ¬ p = r := by intro e; exact h (hr.trans e.symm)
        simp [hr, this]
      · simp [hr]

theorem lk_mem {E : List (Plc × Plc)} {p q : Plc} (h : lk E p = some q) : (p, q) ∈ E := by
  induction E with
  | nil => simp [lk] at h
  | cons x E ih =>
    unfold lk at h
    split at h
    · rename_i hx
      obtain rfl : x.2 = q := by simpa using h
      subst hx
      exact List.mem_cons_self
    · exact List.mem_cons_of_mem _ (ih h)

theorem put_mem {E : List (Plc × Plc)} {p q : Plc} {x : Plc × Plc} (h : x ∈ putP E p q) : x = (p, q) ∨ x ∈ E := by
  induction E with
  | nil => exact .inl (by simpa [putP] using h)
  | cons y E ih =>
    unfold putP at h
    split at h
    · rcases List.mem_cons.1 h with h | h
      · exact .inl h
      · exact .inr (List.mem_cons_of_mem _ h)
    · rcases List.mem_cons.1 h with h | h
      · exact .inr (h ▸ List.mem_cons_self)
      · exact (ih h).imp id (List.mem_cons_of_mem _)

/-- So many steps up from here nothing goes on. -/
inductive Up (M : Plc → Option Plc) : Plc → Nat → Prop
  | top {p : Plc} (h : M p = none) : Up M p 0
  | on {p q : Plc} {n : Nat} (h : M p = some q) (hq : Up M q n) : Up M p (n + 1)
def AllUp (M : Plc → Option Plc) : Prop := ∀ p, ∃ n, Up M p n
/-- Each step leads to one that is S to it. -/
def Ins (M : Plc → Option Plc) (S : Plc → Plc → Prop) : Prop := ∀ p q, M p = some q → S p q

theorem AllUp.nil : AllUp (lk []) := fun _ => ⟨0, .top rfl⟩
theorem Ins.nil (S : Plc → Plc → Prop) : Ins (lk []) S := fun p q h => by simp [lk] at h

theorem Up.next {M : Plc → Option Plc} {p q : Plc} {n : Nat} (h : Up M p n) (hq : M p = some q) : ∃ k, n = k + 1 ∧ Up M q k := by
  cases h with
  | top h => rw [h] at hq; cases hq
  | on h hu => rw [h] at hq; cases hq; exact ⟨_, rfl, hu⟩
theorem Up.none {M : Plc → Option Plc} {p : Plc} (h : Up M p 0) : M p = none := by
  cases h with
  | top h => exact h

/-- A way that is cut short is no longer than it was. -/
theorem up_half {M M' : Plc → Option Plc} {p q f : Plc} (hp : M p = some q) (hq : M q = some f) (hM : ∀ r, M' r = if p = r then some f else M r) :
    ∀ (n : Nat) (r : Plc), Up M r n → ∃ m, m ≤ n ∧ Up M' r m := by
  intro n
  induction n using Nat.strongRecOn with
  | _ n ih =>
    intro r h
    by_cases hr : p = r
    · subst hr
      obtain ⟨k, rfl, hk⟩ := h.next hp
      obtain ⟨j, rfl, hj⟩ := hk.next hq
      obtain ⟨m, hm, hu⟩ := ih j (by omega) f hj
      exact ⟨m + 1, by omega, .on (by rw [hM]; simp) hu⟩
    · cases h with
      | top h => exact ⟨0, Nat.le_refl _, .top (by rw [hM, if_neg hr]; exact h)⟩
      | on h hu =>
        obtain ⟨m, hm, hu'⟩ := ih _ (by omega) _ hu
        exact ⟨m + 1, by omega, .on (by rw [hM, if_neg hr]; exact h) hu'⟩

theorem ins_half {M M' : Plc → Option Plc} {p q f : Plc} (hp : M p = some q) (hq : M q = some f) (hM : ∀ r, M' r = if p = r then some f else M r) {S : Plc → Plc → Prop} (hS : Equivalence S) : Ins M' S ↔ Ins M S := by
  constructor
  · intro h r s hr
    by_cases e : p = r
    · subst e
      rw [hp] at hr
      obtain rfl : q = s := by simpa using hr
      have h1 : S p f := h p f (by rw [hM]; simp)
      by_cases e2 : p = q
      · subst e2; exact hS.refl _
      · have h2 : S q f := h q f (by rw [hM, if_neg e2]; exact hq)
        exact hS.trans h1 (hS.symm h2)
    · exact h r s (by rw [hM, if_neg e]; exact hr)
  · intro h r s hr
    rw [hM] at hr
    by_cases e : p = r
    · rw [if_pos e] at hr
      obtain rfl : f = s := by simpa using hr
      subst e
      exact hS.trans (h _ _ hp) (h _ _ hq)
    · rw [if_neg e] at hr
      exact h _ _ hr

/-- One that stands for itself may lead to another such one. -/
theorem up_join {M M' : Plc → Option Plc} {a b : Plc} (ha : M a = none) (hb : M b = none) (hab : a ≠ b) (hM : ∀ r, M' r = if a = r then some b else M r) (h : AllUp M) : AllUp M' := by
  intro p
  obtain ⟨n, hn⟩ := h p
  induction hn with
  | top h =>
    rename_i r
    by_cases e : a = r
    · exact ⟨1, .on (by rw [hM, if_pos e]) (.top (by rw [hM, if_neg hab]; exact hb))⟩
    · exact ⟨0, .top (by rw [hM, if_neg e]; exact h)⟩
  | on h hu ih =>
    obtain ⟨m, hm⟩ := ih
    rename_i r q _
    have e : a ≠ r := by rintro rfl; rw [ha] at h; cases h
    exact ⟨m + 1, .on (by rw [hM, if_neg e]; exact h) hm⟩

theorem ins_join {M M' : Plc → Option Plc} {a b : Plc} (ha : M a = none) (hM : ∀ r, M' r = if a = r then some b else M r) (S : Plc → Plc → Prop) : Ins M' S ↔ Ins M S ∧ S a b := by
  constructor
  · intro h
    refine ⟨fun r s hr => ?_, h a b (by rw [hM]; simp)⟩
    have e : a ≠ r := by rintro rfl; rw [ha] at hr; cases hr
    exact h r s (by rw [hM, if_neg e]; exact hr)
  · rintro ⟨h, hab⟩ r s hr
    rw [hM] at hr
    by_cases e : a = r
    · rw [if_pos e] at hr
      obtain rfl : b = s := by simpa using hr
      subst e
      exact hab
    · rw [if_neg e] at hr
      exact h _ _ hr

/-- Both maps join the same. -/
def Alk (E E' : List (Plc × Plc)) : Prop := ∀ S, Equivalence S → (Ins (lk E') S ↔ Ins (lk E) S)
theorem Alk.refl (E : List (Plc × Plc)) : Alk E E := fun _ _ => Iff.rfl
theorem Alk.trans {E F G : List (Plc × Plc)} (h : Alk E F) (k : Alk F G) : Alk E G := fun S hS => (k S hS).trans (h S hS)
/-- p leads up to r. -/
def Leads (E : List (Plc × Plc)) (p r : Plc) : Prop := ∀ S, Equivalence S → Ins (lk E) S → S p r
theorem Leads.refl (E : List (Plc × Plc)) (p : Plc) : Leads E p p := fun _ hS _ => hS.refl _
theorem Leads.on {E : List (Plc × Plc)} {p q r : Plc} (h : Leads E p q) (hq : lk E q = some r) : Leads E p r := fun S hS hI => hS.trans (h S hS hI) (hI _ _ hq)
theorem Leads.alk {E F : List (Plc × Plc)} {p r : Plc} (h : Leads E p r) (k : Alk E F) : Leads F p r := fun S hS hI => h S hS ((k S hS).1 hI)

theorem alk_half {E : List (Plc × Plc)} {p q f : Plc} (hp : lk E p = some q) (hq : lk E q = some f) : Alk E (putP E p f) := fun _ hS => ins_half hp hq (lk_put E p f) hS
theorem allUp_half {E : List (Plc × Plc)} {p q f : Plc} (hp : lk E p = some q) (hq : lk E q = some f) (h : AllUp (lk E)) : AllUp (lk (putP E p f)) := fun r => by
  obtain ⟨n, hn⟩ := h r
  obtain ⟨m, -, hm⟩ := up_half hp hq (lk_put E p f) n r hn
  exact ⟨m, hm⟩

/-- What a join says of the two maps. -/
def Jnd (E E' : List (Plc × Plc)) (p q : Plc) (r : Bool) : Prop :=
  (∀ S, Equivalence S → (Ins (lk E') S ↔ Ins (lk E) S ∧ S p q)) ∧ (r = false → Leads E p q)
theorem jnd_no {E E1 E2 : List (Plc × Plc)} {p q r : Plc} (h1 : Alk E E1) (l1 : Leads E1 p r) (h2 : Alk E1 E2) (l2 : Leads E2 q r) : Jnd E E2 p q false := by
  have hl : Leads E p q := fun S hS hI => by
    have i1 := (h1 S hS).2 hI
    exact hS.trans (l1 S hS i1) (hS.symm (l2 S hS ((h2 S hS).2 i1)))
  exact ⟨fun S hS => ((h2 S hS).trans (h1 S hS)).trans ⟨fun hI => ⟨hI, hl S hS hI⟩, fun h => h.1⟩, fun _ => hl⟩
theorem jnd_yes {E E1 E2 : List (Plc × Plc)} {p q r s : Plc} (h1 : Alk E E1) (l1 : Leads E1 p r) (h2 : Alk E1 E2) (l2 : Leads E2 q s) (hr : lk E2 r = none) : Jnd E (putP E2 r s) p q true := by
  refine ⟨fun S hS => (ins_join hr (lk_put E2 r s) S).trans ?_, fun h => by cases h⟩
  constructor
  · rintro ⟨hI, hrs⟩
    have i1 := (h2 S hS).1 hI
    exact ⟨(h1 S hS).1 i1, hS.trans (l1 S hS i1) (hS.trans hrs (hS.symm (l2 S hS hI)))⟩
  · rintro ⟨hI, hpq⟩
    have i1 := (h1 S hS).2 hI
    have i2 := (h2 S hS).2 i1
    exact ⟨i2, hS.trans (hS.symm (l1 S hS i1)) (hS.trans hpq (l2 S hS i2))⟩

end Go.Proofs.YtgigalcajgjpnaaGreat

namespace Go.Proofs.YtgigalcajgjpnaaGreat
open Go.RowKit

/-- A kind of tree: what lists it has, and what else of it is compared. -/
structure Lab (T : Type) where
  sons : T → List (List T)
  hd : T → T → Prop
  c : Nat
  num : ∀ t, (sons t).length = c
  eqv : Equivalence hd
  all : ∀ t u, hd t u → sons t = sons u → t = u
  wt : T → Nat
  low : ∀ t, ∀ s ∈ sons t, ∀ x ∈ s, wt x < wt t
  self : ∀ t u, t = u → hd t u

variable {T : Type}
/-- The same as deep as d. -/
def eqL (Λ : Lab T) : Nat → List T → List T → Prop
  | 0, _, _ => True
  | d + 1, l, l' => l.length = l'.length ∧ ∀ i (h : i < l.length) (h' : i < l'.length), Λ.hd l[i] l'[i] ∧
      ∀ j (k : j < (Λ.sons l[i]).length) (k' : j < (Λ.sons l'[i]).length), eqL Λ d (Λ.sons l[i])[j] (Λ.sons l'[i])[j]

theorem eqL_refl (Λ : Lab T) : ∀ (d : Nat) (l : List T), eqL Λ d l l
  | 0, _ => trivial
  | d + 1, _ => ⟨rfl, fun _ _ _ => ⟨Λ.eqv.refl _, fun _ _ _ => eqL_refl Λ d _⟩⟩
theorem eqL_symm (Λ : Lab T) : ∀ (d : Nat) {l l' : List T}, eqL Λ d l l' → eqL Λ d l' l
  | 0, _, _, _ => trivial
  | d + 1, _, _, h => ⟨h.1.symm, fun i h1 h2 => ⟨Λ.eqv.symm (h.2 i h2 h1).1, fun j k k' => eqL_symm Λ d ((h.2 i h2 h1).2 j k' k)⟩⟩
theorem eqL_trans (Λ : Lab T) : ∀ (d : Nat) {l l' l'' : List T}, eqL Λ d l l' → eqL Λ d l' l'' → eqL Λ d l l''
  | 0, _, _, _, _, _ => trivial
  | d + 1, l, l', l'', h, g => ⟨h.1.trans g.1, fun i h1 h2 => by
      have hm : i < l'.length := by rw [← h.1]; exact h1
      obtain ⟨a1, a2⟩ := h.2 i h1 hm
      obtain ⟨b1, b2⟩ := g.2 i hm h2
      exact ⟨Λ.eqv.trans a1 b1, fun j k k' => eqL_trans Λ d (a2 j k (by rw [Λ.num] at k ⊢; exact k)) (b2 j (by rw [Λ.num] at k ⊢; exact k) k')⟩⟩
theorem eqL_mono (Λ : Lab T) : ∀ (d : Nat) {l l' : List T}, eqL Λ (d + 1) l l' → eqL Λ d l l'
  | 0, _, _, _ => trivial
  | d + 1, _, _, h => ⟨h.1, fun i h1 h2 => ⟨(h.2 i h1 h2).1, fun j k k' => eqL_mono Λ d ((h.2 i h1 h2).2 j k k')⟩⟩
theorem eqL_eqv (Λ : Lab T) (d : Nat) : Equivalence (eqL Λ d) := ⟨eqL_refl Λ d, eqL_symm Λ d, eqL_trans Λ d⟩

theorem eqL_one (Λ : Lab T) : ∀ (n : Nat) (t u : T), Λ.wt t < n → Λ.hd t u → (∀ d j (k : j < (Λ.sons t).length) (k' : j < (Λ.sons u).length), eqL Λ d (Λ.sons t)[j] (Λ.sons u)[j]) → t = u := by
  intro n
  induction n with
  | zero => intro t u h; omega
  | succ n ih =>
    intro t u hw hh hs
    refine Λ.all t u hh (List.ext_getElem (by rw [Λ.num, Λ.num]) fun j k k' => ?_)
    refine List.ext_getElem (hs 1 j k k').1 fun i h h' => ?_
    refine ih _ _ ?_ ((hs 1 j k k').2 i h h').1 fun d j2 q q' => ((hs (d + 1) j k k').2 i h h').2 j2 q q'
    have := Λ.low t _ (List.getElem_mem k) _ (List.getElem_mem h)
    omega
theorem eqL_all (Λ : Lab T) {l l' : List T} (h : ∀ d, eqL Λ d l l') : l = l' :=
  List.ext_getElem (h 1).1 fun i h1 h2 => eqL_one Λ _ _ _ (Nat.lt_succ_self _) ((h 1).2 i h1 h2).1 fun d j k k' => ((h (d + 1)).2 i h1 h2).2 j k k'

/-- Two lists held against each other, with the slices that they are read from. -/
structure Prr (T : Type) where
  a : List T
  b : List T
  u : Value
  v : Value
/-- All are the same. -/
def Sme (W : List (Prr T)) : Prop := ∀ q ∈ W, q.a = q.b
def Eql (Λ : Lab T) (d : Nat) (W : List (Prr T)) : Prop := ∀ q ∈ W, eqL Λ d q.a q.b
theorem Sme.app {W V : List (Prr T)} : Sme (W ++ V) ↔ Sme W ∧ Sme V := ⟨fun h => ⟨fun q hq => h q (List.mem_append_left _ hq), fun q hq => h q (List.mem_append_right _ hq)⟩, fun h q hq => (List.mem_append.1 hq).elim (h.1 q) (h.2 q)⟩
theorem Eql.app {Λ : Lab T} {d : Nat} {W V : List (Prr T)} : Eql Λ d (W ++ V) ↔ Eql Λ d W ∧ Eql Λ d V := ⟨fun h => ⟨fun q hq => h q (List.mem_append_left _ hq), fun q hq => h q (List.mem_append_right _ hq)⟩, fun h q hq => (List.mem_append.1 hq).elim (h.1 q) (h.2 q)⟩
theorem Sme.one {q : Prr T} : Sme [q] ↔ q.a = q.b := by simp [Sme]
theorem Eql.one {Λ : Lab T} {d : Nat} {q : Prr T} : Eql Λ d [q] ↔ eqL Λ d q.a q.b := by simp [Eql]

/-- What joins places joins lists that are the same as deep as d. -/
def SL (Λ : Lab T) (L : Plc → List T) (d : Nat) (p q : Plc) : Prop := eqL Λ d (L p) (L q)
theorem SL.eqv (Λ : Lab T) (L : Plc → List T) (d : Nat) : Equivalence (SL Λ L d) := ⟨fun _ => eqL_refl Λ d _, fun h => eqL_symm Λ d h, fun h g => eqL_trans Λ d h g⟩

/-- What holds ahead of each list that is taken: W0 is asked, W waits, E has what was joined, C is left for later. -/
structure Inv (Λ : Lab T) (L : Plc → List T) (W0 W : List (Prr T)) (E : List (Plc × Plc)) (C : Prop) : Prop where
  up : AllUp (lk E)
  a : Sme W0 → Sme W ∧ C
  b : ∀ d, C → Eql Λ d W → Ins (lk E) (SL Λ L d) → Ins (lk E) (SL Λ L (d + 1)) ∧ Eql Λ d W0
/-- .. and while the elements of q are gone through. -/
structure InvJ (Λ : Lab T) (L : Plc → List T) (W0 W : List (Prr T)) (q : Prr T) (E : List (Plc × Plc)) (C : Prop) : Prop where
  up : AllUp (lk E)
  a : Sme W0 → Sme W ∧ q.a = q.b ∧ C
  b : ∀ d, C → Eql Λ d W → eqL Λ (d + 1) q.a q.b → Ins (lk E) (SL Λ L d) → Ins (lk E) (SL Λ L (d + 1)) ∧ Eql Λ d W0

variable {Λ : Lab T} {L : Plc → List T} {W0 W : List (Prr T)} {q : Prr T} {E E' : List (Plc × Plc)} {C : Prop}
theorem Inv.start (C : Prop) (Λ : Lab T) (L : Plc → List T) (W0 : List (Prr T)) (hC : Sme W0 → C) : Inv Λ L W0 W0 [] C :=
  ⟨AllUp.nil, fun h => ⟨h, hC h⟩, fun _ _ h _ => ⟨Ins.nil _, h⟩⟩

theorem Inv.empty (h : Inv Λ L W0 (W ++ [q]) E C) (ha : q.a = []) (hb : q.b = []) : Inv Λ L W0 W E C := by
  refine ⟨h.up, fun hs => ⟨(Sme.app.1 (h.a hs).1).1, (h.a hs).2⟩, fun d hC hW hI => h.b d hC (Eql.app.2 ⟨hW, Eql.one.2 ?_⟩) hI⟩
  rw [ha, hb]
  exact eqL_refl Λ d _

theorem Inv.skip (h : Inv Λ L W0 (W ++ [q]) E C) {p p' : Plc} (hp : L p = q.a) (hp' : L p' = q.b) (hj : Jnd E E' p p' false) (hu : AllUp (lk E')) : Inv Λ L W0 W E' C := by
  refine ⟨hu, fun hs => ⟨(Sme.app.1 (h.a hs).1).1, (h.a hs).2⟩, fun d hC hW hI => ?_⟩
  obtain ⟨h1, h2⟩ := (hj.1 _ (SL.eqv Λ L d)).1 hI
  have hq : eqL Λ d q.a q.b := by rw [← hp, ← hp']; exact h2
  obtain ⟨g1, g2⟩ := h.b d hC (Eql.app.2 ⟨hW, Eql.one.2 hq⟩) h1
  exact ⟨(hj.1 _ (SL.eqv Λ L (d + 1))).2 ⟨g1, hj.2 rfl _ (SL.eqv Λ L (d + 1)) g1⟩, g2⟩

theorem Inv.join (h : Inv Λ L W0 (W ++ [q]) E C) {p p' : Plc} (hp : L p = q.a) (hp' : L p' = q.b) (hj : Jnd E E' p p' true) (hu : AllUp (lk E')) : InvJ Λ L W0 W q E' C := by
  refine ⟨hu, fun hs => ⟨(Sme.app.1 (h.a hs).1).1, Sme.one.1 (Sme.app.1 (h.a hs).1).2, (h.a hs).2⟩, fun d hC hW hq hI => ?_⟩
  obtain ⟨h1, h2⟩ := (hj.1 _ (SL.eqv Λ L d)).1 hI
  obtain ⟨g1, g2⟩ := h.b d hC (Eql.app.2 ⟨hW, Eql.one.2 (eqL_mono Λ d hq)⟩) h1
  exact ⟨(hj.1 _ (SL.eqv Λ L (d + 1))).2 ⟨g1, by show eqL Λ (d + 1) (L p) (L p'); rw [hp, hp']; exact hq⟩, g2⟩

theorem InvJ.kids {C' : Prop} {K : List (Prr T)} (h : InvJ Λ L W0 W q E C) (hl : q.a.length = q.b.length) (hC : C' → C) (hC' : q.a = q.b → C → C')
    (hh : C' → ∀ i (h : i < q.a.length) (h' : i < q.b.length), Λ.hd q.a[i] q.b[i])
    (hK : ∀ x ∈ K, ∃ i j, ∃ (h : i < q.a.length) (h' : i < q.b.length) (k : j < (Λ.sons q.a[i]).length) (k' : j < (Λ.sons q.b[i]).length), x.a = (Λ.sons q.a[i])[j] ∧ x.b = (Λ.sons q.b[i])[j])
    (hK' : ∀ i (h : i < q.a.length) (h' : i < q.b.length), ∀ j (k : j < (Λ.sons q.a[i]).length) (k' : j < (Λ.sons q.b[i]).length), ∃ x ∈ K, x.a = (Λ.sons q.a[i])[j] ∧ x.b = (Λ.sons q.b[i])[j]) :
    Inv Λ L W0 (W ++ K) E C' := by
  refine ⟨h.up, fun hs => ?_, fun d hc hW hI => ?_⟩
  · obtain ⟨h1, h2, h3⟩ := h.a hs
    refine ⟨Sme.app.2 ⟨h1, fun x hx => ?_⟩, hC' h2 h3⟩
    obtain ⟨i, j, a1, a2, a3, a4, e1, e2⟩ := hK x hx
    rw [e1, e2]
    congr 1
    simp only [h2]
  · obtain ⟨hW1, hW2⟩ := Eql.app.1 hW
    refine h.b d (hC hc) hW1 ⟨hl, fun i h1 h2 => ⟨hh hc i h1 h2, fun j k k' => ?_⟩⟩ hI
    obtain ⟨x, hx, e1, e2⟩ := hK' i h1 h2 j k k'
    rw [← e1, ← e2]
    exact hW2 x hx

theorem Inv.done (h : Inv Λ L W0 [] E C) (hC : C) : Sme W0 := by
  have hall : ∀ d, Ins (lk E) (SL Λ L d) ∧ Eql Λ d W0 := by
    intro d
    have hI : Ins (lk E) (SL Λ L d) := by
      induction d with
      | zero => exact fun _ _ _ => trivial
      | succ d ih => exact (h.b d hC (fun _ hx => by cases hx) ih).1
    exact ⟨hI, (h.b d hC (fun _ hx => by cases hx) hI).2⟩
  exact fun q hq => eqL_all Λ fun d => (hall d).2 q hq

/-- Of terms. -/
noncomputable def labX : Lab Ex where
  sons t := [t.l]
  hd a b := a.k = b.k ∧ a.n = b.n ∧ a.s = b.s
  c := 1
  num _ := rfl
  eqv := ⟨fun _ => ⟨rfl, rfl, rfl⟩, fun h => ⟨h.1.symm, h.2.1.symm, h.2.2.symm⟩, fun h g => ⟨h.1.trans g.1, h.2.1.trans g.2.1, h.2.2.trans g.2.2⟩⟩
  all t u h e := by
    have : t.l = u.l := by simpa using e
    rw [← t.eta, ← u.eta, h.1, h.2.1, h.2.2, this]
  wt t := SizeOf.sizeOf t
  low t s hs x hx := by
    obtain rfl : s = t.l := by simpa using hs
    cases t
    have := List.sizeOf_lt_of_mem hx
    simp only [Ex.l] at *
    simp only [Ex.node.sizeOf_spec]
    omega
  self t u h := by subst h; exact ⟨rfl, rfl, rfl⟩
end Go.Proofs.YtgigalcajgjpnaaGreat

namespace Go.Proofs.YtgigalcajgjpnaaGreat
open Go.RowKit Go.MapKept Go.ChangeMaps
set_option maxRecDepth 8000

def plV (p : Plc) : Value := .agg #[.pointer (some p.a), .int .i64 p.n]
theorem plc_ext {p q : Plc} (ha : p.a = q.a) (hn : p.n = q.n) : p = q := by cases p; cases q; simp at ha hn; rw [ha, hn]
def plZ : Value := .agg #[.pointer none, .int .i64 0]

/-- These blocks are cells, none of them frozen. -/
def DkS (w : World) (D : Nat → Prop) : Prop := ∀ b, D b → (∃ c e f, w.heap[b]? = some (.cells c e f)) ∧ ∀ o, w.frozen? ⟨b, o, none⟩ = false
theorem DkS.lt {w : World} {D : Nat → Prop} (h : DkS w D) {b : Nat} (hb : D b) : b < w.heap.size := by
  obtain ⟨⟨c, e, f, hc⟩, -⟩ := h b hb
  exact (Array.getElem?_eq_some_iff.1 hc).1
theorem DkS.kept {w w' : World} {D : Nat → Prop} (h : DkS w D) (hk : ∀ b, D b → w'.heap[b]? = w.heap[b]?) : DkS w' D := by
  intro b hb
  obtain ⟨⟨c, e, f, hc⟩, hf⟩ := h b hb
  have hq := hk b hb
  exact ⟨⟨c, e, f, hq.trans hc⟩, fun o => by rw [World.frozen?_of_block (w := w) (a := ⟨b, o, none⟩) hq]; exact hf o⟩
theorem DkS.imp {w : World} {D C : Nat → Prop} (h : DkS w D) (hk : ∀ b, C b → D b) : DkS w C := fun b hb => h b (hk b hb)

theorem run_sameAddr_far {P : Program} (w : World) {a b : Addr} {D : Nat → Prop} (hD : DkS w D) (hne : a ≠ b) (ha : D a.block) (hb : D b.block) : (sameAddr a b).run P w = .ok false w := by
  obtain ⟨⟨ca, ea, fa, h1⟩, f1⟩ := hD _ ha
  obtain ⟨⟨cb, eb, fb, h2⟩, f2⟩ := hD _ hb
  have g1 : ∀ (o : Nat) (s : Option Nat), w.frozen? ⟨a.block, o, s⟩ = false := fun o _ => f1 o
  have g2 : ∀ (o : Nat) (s : Option Nat), w.frozen? ⟨b.block, o, s⟩ = false := fun o _ => f2 o
  have g1' : w.frozen? a = false := g1 a.off a.spot
  have g2' : w.frozen? b = false := g2 b.off b.spot
  by_cases hbl : a.block = b.block
  · simp [sameAddr, hbl, hne]
  · simp [sameAddr, hbl, g1', g2', h1, h2, noView, viewAt, World.shape?, mayBeOne, stringish, g1, g2]

theorem len_two {α : Type} {L : List α} (h : L.length = 2) : ∃ a b, L = [a, b] :=
  match L, h with
  | [a, b], _ => ⟨a, b, rfl⟩

theorem sameBits_plV (d : Nat) (p : Plc) : Instr.sameBits (d + 2) (plV p) (plV p) = true := by
  unfold plV
  simp [Instr.sameBits]

/-- The entries of a map, as places. -/
def Ent : List MapEntry → List (Plc × Plc) → Prop
  | [], [] => True
  | e :: es, x :: E => e.key = plV x.1 ∧ e.val = plV x.2 ∧ Ent es E
  | _, _ => False
/-- Where the entry of p stands, and what it holds. -/
def ixP : List (Plc × Plc) → Plc → Nat → Option (Nat × Value)
  | [], _, _ => none
  | x :: E, p, i => if x.1 = p then some (i, plV x.2) else ixP E p (i + 1)

theorem ixP_none {E : List (Plc × Plc)} {p : Plc} {i : Nat} (h : lk E p = none) : ixP E p i = none := by
  induction E generalizing i with
  | nil => rfl
  | cons x E ih =>
    unfold lk at h
    unfold ixP
    split at h
    · cases h
    · rename_i hx
      rw [if_neg hx]
      exact ih h
theorem ixP_some {E : List (Plc × Plc)} {p q : Plc} {i : Nat} (h : lk E p = some q) : ∃ j, ixP E p i = some (i + j, plV q) ∧ ∃ x, E[j]? = some x ∧ x.1 = p := by
  induction E generalizing i with
  | nil => simp [lk] at h
  | cons x E ih =>
    unfold lk at h
    unfold ixP
    split at h
    · rename_i hx
      obtain rfl : x.2 = q := by simpa using h
      exact ⟨0, by rw [if_pos hx]; rfl, x, by simp, hx⟩
    · rename_i hx
      obtain ⟨j, h1, y, h2, h3⟩ := ih (i := i + 1) h
      exact ⟨j + 1, by rw [if_neg hx, h1, Nat.add_assoc, Nat.add_comm 1 j], y, by simpa using h2, h3⟩

/-- Block m is a map of places, all in these blocks. -/
def MapP (w : World) (D : Nat → Prop) (m : Nat) (E : List (Plc × Plc)) : Prop :=
  ∃ es clock, w.heap[m]? = some (.map es clock) ∧ Ent es.toList E ∧ ∀ x ∈ E, D x.1.a.block ∧ D x.2.a.block
theorem MapP.lt {w : World} {D : Nat → Prop} {m : Nat} {E : List (Plc × Plc)} (h : MapP w D m E) : m < w.heap.size := by
  obtain ⟨es, clock, hb, -⟩ := h
  exact (Array.getElem?_eq_some_iff.1 hb).1
theorem MapP.kept {w w' : World} {D : Nat → Prop} {m : Nat} {E : List (Plc × Plc)} (h : MapP w D m E) (hk : w'.heap[m]? = w.heap[m]?) : MapP w' D m E := by
  obtain ⟨es, clock, hb, h2⟩ := h
  exact ⟨es, clock, hk.trans hb, h2⟩
theorem MapP.not {w : World} {D : Nat → Prop} {m : Nat} {E : List (Plc × Plc)} (h : MapP w D m E) (hD : DkS w D) {b : Nat} (hb : D b) : b ≠ m := by
  rintro rfl
  obtain ⟨es, clock, h1, -⟩ := h
  obtain ⟨⟨c, e, f, h2⟩, -⟩ := hD _ hb
  rw [h1] at h2
  cases h2
theorem MapP.made (w : World) (D : Nat → Prop) : MapP (w.alloc (.map #[] 0)) D w.heap.size [] :=
  ⟨#[], 0, (MapKept.heap_alloc w _).1, by simp [Ent], by simp⟩

theorem ent_len {es : List MapEntry} {E : List (Plc × Plc)} (h : Ent es E) : es.length = E.length := by
  induction es generalizing E with
  | nil => cases E with
    | nil => rfl
    | cons => exact absurd h (by simp [Ent])
  | cons e es ih => cases E with
    | nil => exact absurd h (by simp [Ent])
    | cons x E => simp [ih h.2.2]
theorem ent_push {es : List MapEntry} {E : List (Plc × Plc)} (h : Ent es E) {p q : Plc} (hp : lk E p = none) (b : Nat) : Ent (es ++ [⟨plV p, plV q, b⟩]) (putP E p q) := by
  induction es generalizing E with
  | nil => cases E with
    | nil => exact ⟨rfl, rfl, trivial⟩
    | cons => exact absurd h (by simp [Ent])
  | cons e es ih => cases E with
    | nil => exact absurd h (by simp [Ent])
    | cons x E =>
      unfold lk at hp
      split at hp
      · cases hp
      · rename_i hx
        unfold putP
        rw [if_neg hx]
        exact ⟨h.1, h.2.1, ih h.2.2 hp⟩
theorem ent_modify {es : List MapEntry} {E : List (Plc × Plc)} (h : Ent es E) {p q : Plc} {i j : Nat} {v : Value} (hj : ixP E p i = some (i + j, v)) :
    Ent (es.modify j fun e => { e with key := plV p, val := plV q }) (putP E p q) := by
  induction es generalizing E i j with
  | nil => cases E with
    | nil => simp [ixP] at hj
    | cons => exact absurd h (by simp [Ent])
  | cons e es ih => cases E with
    | nil => exact absurd h (by simp [Ent])
    | cons x E =>
      unfold ixP at hj
      unfold putP
      split at hj
      · rename_i hx
        obtain rfl : j = 0 := by simp at hj; omega
        rw [if_pos hx]
        exact ⟨rfl, rfl, h.2.2⟩
      · rename_i hx
        rw [if_neg hx]
        cases j with
        | zero =>
          exfalso
          have : ∀ (E : List (Plc × Plc)) (i k : Nat) (v : Value), ixP E p i = some (k, v) → i ≤ k := by
            intro E
            induction E with
            | nil => intro i k v h; simp [ixP] at h
            | cons y E ihE =>
              intro i k v h
              unfold ixP at h
              split at h
              · simp at h; omega
              · have := ihE _ _ _ h; omega
          have := this _ _ _ _ hj
          omega
        | succ j => exact ⟨h.1, h.2.1, ih h.2.2 (i := i + 1) (j := j) (by rw [hj]; congr 2; omega)⟩
end Go.Proofs.YtgigalcajgjpnaaGreat

namespace Go.Proofs.YtgigalcajgjpnaaGreat
open Go.RowKit Go.MapKept Go.ChangeMaps
set_option maxRecDepth 8000
set_option linter.unusedSimpArgs false

theorem equalX (w : World) {D : Nat → Prop} (hD : DkS w D) (p q : Plc) (hp : D p.a.block) (hq : D q.a.block) (d : Nat) :
    (Op.equalIn (d + 2) 192 (plV p) (plV q)).run Tryz.prog w = .ok (decide (p = q)) w := by
  have hfs : (Tryz.prog.fieldsOf 192).toList.map (fun f => (f.name, f.type, f.offset)) = [("first", 190, 0), ("size", 3, 1)] := by kernel_rfl
  have hst : Tryz.prog.underlying 192 = some (.struct (Tryz.prog.fieldsOf 192)) := by kernel_rfl
  have hho : Tryz.prog.stoodInHeld 192 = false := by kernel_rfl
  have hpt : Tryz.prog.underlying 190 = some (.pointer 41) := by kernel_rfl
  have hit : Tryz.prog.underlying 3 = some (.int .i64) := by kernel_rfl
  obtain ⟨f0, f1, hf, n0, t0, o0, n1, t1, o1⟩ : ∃ f0 f1 : Field, (Tryz.prog.fieldsOf 192).toList = [f0, f1] ∧ f0.name = "first" ∧ f0.type = 190 ∧ f0.offset = 0 ∧ f1.name = "size" ∧ f1.type = 3 ∧ f1.offset = 1 := by
    generalize (Tryz.prog.fieldsOf 192).toList = L at hfs
    obtain ⟨f0, f1, rfl⟩ := len_two (show L.length = 2 by simpa using congrArg List.length hfs)
    simp at hfs
    exact ⟨f0, f1, rfl, hfs.1.1, hfs.1.2.1, hfs.1.2.2, hfs.2.1, hfs.2.2.1, hfs.2.2.2⟩
  have hsz : (Tryz.prog.info? 41).map (·.size) = some 4 := by kernel_rfl
  obtain ⟨ie, hie, hies⟩ := Option.map_eq_some_iff.1 hsz
  unfold plV
  rw [show d + 2 = (d + 1) + 1 from rfl, run_equalIn_struct w (d + 1) 192 _ _ hst hho, hf]
  by_cases ha : p.a = q.a
  · have hsa := run_sameAddr_same (P := Tryz.prog) (w := w) q.a
    by_cases hn : p.n = q.n
    · have : p = q := by cases p; cases q; simp_all
      simp [Op.eqFields, n0, t0, o0, n1, t1, o1, part, isAgg, run_underlying hpt, run_underlying hit, Op.equalIn, sizeOf, typeInfo, hie, hies, hsa, ha, hn, this]
    · have : p ≠ q := by rintro rfl; exact hn rfl
      simp [Op.eqFields, n0, t0, o0, n1, t1, o1, part, isAgg, run_underlying hpt, run_underlying hit, Op.equalIn, sizeOf, typeInfo, hie, hies, hsa, ha, hn, this]
  · have hsa := run_sameAddr_far (P := Tryz.prog) w hD ha hp hq
    have : p ≠ q := by rintro rfl; exact ha rfl
    simp [Op.eqFields, n0, t0, o0, n1, t1, o1, part, isAgg, run_underlying hpt, run_underlying hit, Op.equalIn, sizeOf, typeInfo, hie, hies, hsa, this]

theorem eqPtrX (w : World) {D : Nat → Prop} (hD : DkS w D) (p q : Plc) (hp : D p.a.block) (hq : D q.a.block) (d : Nat) :
    (Op.equalIn (d + 1) 190 (.pointer (some p.a)) (.pointer (some q.a))).run Tryz.prog w = .ok (decide (p.a = q.a)) w := by
  have hpt : Tryz.prog.underlying 190 = some (.pointer 41) := by kernel_rfl
  have hsz : (Tryz.prog.info? 41).map (·.size) = some 4 := by kernel_rfl
  obtain ⟨ie, hie, hies⟩ := Option.map_eq_some_iff.1 hsz
  by_cases ha : p.a = q.a
  · have hsa := run_sameAddr_same (P := Tryz.prog) (w := w) q.a
    simp [run_underlying hpt, Op.equalIn, sizeOf, typeInfo, hie, hies, hsa, ha]
  · have hsa := run_sameAddr_far (P := Tryz.prog) w hD ha hp hq
    simp [run_underlying hpt, Op.equalIn, sizeOf, typeInfo, hie, hies, hsa, ha]

theorem askX (w : World) {D : Nat → Prop} (hD : DkS w D) (p : Plc) (hp : D p.a.block) : ∀ (es : List MapEntry) (E : List (Plc × Plc)) (i : Nat), Ent es E → (∀ x ∈ E, D x.1.a.block) →
    (Instr.findAsking 192 (plV p) es i).run Tryz.prog w = .ok (ixP E p i) w := by
  intro es
  induction es with
  | nil =>
    intro E i h _
    cases E with
    | nil => simp [Instr.findAsking, ixP]
    | cons => exact absurd h (by simp [Ent])
  | cons e es ih =>
    intro E i h hE
    cases E with
    | nil => exact absurd h (by simp [Ent])
    | cons x E =>
      obtain ⟨hk, hv, h⟩ := h
      have he : (Op.equal 192 (plV p) e.key).run Tryz.prog w = .ok (decide (p = x.1)) w := by rw [hk]; exact equalX w hD p x.1 hp (hE x List.mem_cons_self) 9998
      by_cases hx : x.1 = p
      · have : decide (p = x.1) = true := by simp [hx]
        rw [this] at he
        simp [Instr.findAsking, he, ixP, hx, hv]
      · have : decide (p = x.1) = false := by simpa using fun e => hx e.symm
        rw [this] at he
        simp [Instr.findAsking, he, ixP, hx, ih E (i + 1) h fun y hy => hE y (List.mem_cons_of_mem _ hy)]

theorem findX (w : World) {D : Nat → Prop} (hD : DkS w D) (p : Plc) (hp : D p.a.block) (es : List MapEntry) (E : List (Plc × Plc)) (h : Ent es E) (hE : ∀ x ∈ E, D x.1.a.block) :
    (Instr.findKey 192 (plV p) es).run Tryz.prog w = .ok (ixP E p 0) w := by
  have hst : Tryz.prog.underlying 192 = some (.struct (Tryz.prog.fieldsOf 192)) := by kernel_rfl
  have ha := askX w hD p hp es E 0 h hE
  cases es with
  | nil =>
    cases E with
    | nil => simp [Instr.findKey, run_underlying hst, Instr.findNow, ixP]
    | cons => exact absurd h (by simp [Ent])
  | cons e es =>
    have : Instr.findNow (.struct (Tryz.prog.fieldsOf 192)) (plV p) (e :: es) 0 = none := by simp [Instr.findNow, Instr.sameNow]
    simp [Instr.findKey, run_underlying hst, this, ha]

theorem checkNX (w : World) (em : Bool) (p : Plc) (d : Nat) : (Instr.checkKey em (d + 2) 192 (plV p)).run Tryz.prog w = .ok () w := by
  have hfs : (Tryz.prog.fieldsOf 192).toList.map (fun f => (f.name, f.type, f.offset)) = [("first", 190, 0), ("size", 3, 1)] := by kernel_rfl
  have hst : Tryz.prog.underlying 192 = some (.struct (Tryz.prog.fieldsOf 192)) := by kernel_rfl
  have hpt : Tryz.prog.underlying 190 = some (.pointer 41) := by kernel_rfl
  have hit : Tryz.prog.underlying 3 = some (.int .i64) := by kernel_rfl
  obtain ⟨f0, f1, hf, n0, t0, o0, n1, t1, o1⟩ : ∃ f0 f1 : Field, (Tryz.prog.fieldsOf 192).toList = [f0, f1] ∧ f0.name = "first" ∧ f0.type = 190 ∧ f0.offset = 0 ∧ f1.name = "size" ∧ f1.type = 3 ∧ f1.offset = 1 := by
    generalize (Tryz.prog.fieldsOf 192).toList = L at hfs
    obtain ⟨f0, f1, rfl⟩ := len_two (show L.length = 2 by simpa using congrArg List.length hfs)
    simp at hfs
    exact ⟨f0, f1, rfl, hfs.1.1, hfs.1.2.1, hfs.1.2.2, hfs.2.1, hfs.2.2.1, hfs.2.2.2⟩
  unfold plV
  rw [show d + 2 = (d + 1) + 1 from rfl]
  simp [Instr.checkKey, run_underlying hst, ← Array.forIn_toList, hf, n0, t0, o0, n1, t1, o1, part, isAgg, run_underlying hpt, run_underlying hit]

theorem checkX (w : World) (em : Bool) (p : Plc) : (Instr.checkKey em 10000 192 (plV p)).run Tryz.prog w = .ok () w := checkNX w em p 9998

theorem zeroX (w : World) : (zeroValue 192).run Tryz.prog w = .ok plZ w := by kernel_rfl

/-- What is asked of the map. -/
theorem lookX {w : World} {D : Nat → Prop} (hD : DkS w D) {m : Nat} {E : List (Plc × Plc)} (h : MapP w D m E) (p : Plc) (hp : D p.a.block) :
    (Instr.lookup 142 (.map (some m)) (plV p) true).run Tryz.prog w = .ok (.tuple #[((lk E p).map plV).getD plZ, .bool (lk E p).isSome]) w := by
  obtain ⟨es, clock, hb, hE, hin⟩ := h
  have hmt : Tryz.prog.underlying 142 = some (.map 192 192) := by kernel_rfl
  have hf := findX w hD p hp es.toList E hE fun x hx => (hin x hx).1
  cases hl : lk E p with
  | none =>
    rw [ixP_none hl] at hf
    simp [Instr.lookup, run_underlying hmt, MapKept.run_getObj_map hb, checkX, hf, zeroX, plZ, Result.andThen]
  | some q =>
    obtain ⟨j, hj, -⟩ := ixP_some (i := 0) hl
    rw [hj] at hf
    simp [Instr.lookup, run_underlying hmt, MapKept.run_getObj_map hb, checkX, hf, Result.andThen]

/-- What is put into it. -/
theorem updX {w : World} {D : Nat → Prop} (hD : DkS w D) {m : Nat} {E : List (Plc × Plc)} (h : MapP w D m E) (p q : Plc) (hp : D p.a.block) (hq : D q.a.block) :
    ∃ w', (Instr.mapUpdate 142 (.map (some m)) (plV p) (plV q)).run Tryz.prog w = .ok () w' ∧ MapP w' D m (putP E p q) ∧ w.grownBy w' (some m) := by
  obtain ⟨es, clock, hb, hE, hin⟩ := h
  have hmt : Tryz.prog.underlying 142 = some (.map 192 192) := by kernel_rfl
  have hf := findX w hD p hp es.toList E hE fun x hx => (hin x hx).1
  have hin' : ∀ x ∈ putP E p q, D x.1.a.block ∧ D x.2.a.block := by
    intro x hx
    rcases put_mem hx with rfl | hx
    · exact ⟨hp, hq⟩
    · exact hin x hx
  cases hl : lk E p with
  | none =>
    rw [ixP_none hl] at hf
    refine ⟨setBlock w m (.map (es.push ⟨plV p, plV q, clock⟩) (clock + 1)), ?_, ⟨_, _, heap_setBlock_same hb _, ?_, hin'⟩, ⟨rfl, rfl, rfl, by simp [setBlock], fun i _ hi => heap_setBlock_other hb _ (fun e => hi (by rw [e]))⟩⟩
    · simp [Instr.mapUpdate, run_underlying hmt, MapKept.run_getObj_map hb, checkX, hf, MapKept.run_setObj_map _ hb, Result.andThen, setBlock]
    · simpa using ent_push hE hl clock
  | some r =>
    obtain ⟨j, hj, x, hx, rfl⟩ := ixP_some (i := 0) hl
    rw [hj] at hf
    have hj' : ixP E x.1 0 = some (0 + j, plV r) := hj
    have hkey : ((es[j]?).map (·.key)).getD (plV x.1) = plV x.1 := by
      have : ∀ (es : List MapEntry) (E : List (Plc × Plc)) (j : Nat), Ent es E → E[j]? = some x → (es[j]?).map (·.key) = some (plV x.1) := by
        intro es
        induction es with
        | nil => intro E j h hx; cases E with
          | nil => simp at hx
          | cons => exact absurd h (by simp [Ent])
        | cons e es ih => intro E j h hx; cases E with
          | nil => exact absurd h (by simp [Ent])
          | cons y E => cases j with
            | zero => simp at hx; subst hx; simp [h.1]
            | succ j => simpa using ih E j h.2.2 (by simpa using hx)
      have := this es.toList E j hE hx
      rw [Array.getElem?_toList] at this
      rw [this]; rfl
    have hsb : Instr.sameBits 10000 (plV x.1) (plV x.1) = true := sameBits_plV 9998 x.1
    refine ⟨setBlock w m (.map (es.modify j fun e => { e with key := plV x.1, val := plV q }) clock), ?_, ⟨_, _, heap_setBlock_same hb _, ?_, hin'⟩, ⟨rfl, rfl, rfl, by simp [setBlock], fun i _ hi => heap_setBlock_other hb _ (fun e => hi (by rw [e]))⟩⟩
    · simp [Instr.mapUpdate, run_underlying hmt, MapKept.run_getObj_map hb, checkX, hf, hkey, Instr.keyThatStays, hsb, MapKept.run_setObj_map _ hb, Result.andThen, setBlock]
    · have := ent_modify hE (q := q) hj'
      simpa using this

/-- At the operation: 'v, ok := m[k]', where nothing is there. -/
theorem wpList_noX {w : World} {ops : Array Oper} {rest : List Oper} {o : Oper} {a : Act} {Q : Exit → Act → World → Prop} (hg : o.guard = none) (m x : Operand) (hop : o.op = Op.lookup 142 m x true)
    {D : Nat → Prop} (hD : DkS w D) (mb : Nat) (E : List (Plc × Plc)) (hm : a.eval m = .map (some mb)) (h : MapP w D mb E) (p : Plc) (hx : a.eval x = plV p) (hp : D p.a.block) (hl : lk E p = none)
    (hK : wpList Tryz.prog ops Q rest (a.put o.dst (.tuple #[.agg #[.pointer none, .int .i64 0], .bool false])) w) : wpList Tryz.prog ops Q (o :: rest) a w := by
  refine wpList_plain hg fun K' hK' => ?_
  have hr := lookX hD h p hp
  rw [hl] at hr
  unfold Oper.wp
  simp [execOp, hop, hm, hx, hr, Result.andThen]
  exact hK' _ _ hK

/-- .. where q is. -/
theorem wpList_yesX {w : World} {ops : Array Oper} {rest : List Oper} {o : Oper} {a : Act} {Q : Exit → Act → World → Prop} (hg : o.guard = none) (m x : Operand) (hop : o.op = Op.lookup 142 m x true)
    {D : Nat → Prop} (hD : DkS w D) (mb : Nat) (E : List (Plc × Plc)) (hm : a.eval m = .map (some mb)) (h : MapP w D mb E) (p : Plc) (hx : a.eval x = plV p) (hp : D p.a.block) (q : Plc) (hl : lk E p = some q)
    (hK : wpList Tryz.prog ops Q rest (a.put o.dst (.tuple #[.agg #[.pointer (some q.a), .int .i64 q.n], .bool true])) w) : wpList Tryz.prog ops Q (o :: rest) a w := by
  refine wpList_plain hg fun K' hK' => ?_
  have hr := lookX hD h p hp
  rw [hl] at hr
  unfold Oper.wp
  simp [execOp, hop, hm, hx, hr, Result.andThen]
  exact hK' _ _ hK

theorem wpList_updX {w : World} {ops : Array Oper} {rest : List Oper} {o : Oper} {a : Act} {Q : Exit → Act → World → Prop} (hg : o.guard = none) (m x v : Operand) (hop : o.op = Op.mapUpdate 142 m x v)
    {D : Nat → Prop} (hD : DkS w D) (mb : Nat) (E : List (Plc × Plc)) (hm : a.eval m = .map (some mb)) (h : MapP w D mb E) (p q : Plc) (hx : a.eval x = plV p) (hv : a.eval v = plV q) (hp : D p.a.block) (hq : D q.a.block)
    (hK : ∀ w', MapP w' D mb (putP E p q) → w.grownBy w' (some mb) → wpList Tryz.prog ops Q rest (a.put o.dst undef) w') : wpList Tryz.prog ops Q (o :: rest) a w := by
  refine wpList_plain hg fun K' hK' => ?_
  obtain ⟨w', hrun, r1, r2⟩ := updX hD h p q hp hq
  unfold Oper.wp
  simp [execOp, hop, hm, hx, hv, hrun, Result.andThen]
  exact hK' _ _ (hK w' r1 r2)
end Go.Proofs.YtgigalcajgjpnaaGreat
