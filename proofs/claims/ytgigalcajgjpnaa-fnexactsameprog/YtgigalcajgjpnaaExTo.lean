/- The small functions of the laws over terms: how great one is, a copy of it, in new blocks. -/
import Derived.Test.YtgigalcajgjpnaaExTree
import Derived.Test.YtgigalcajgjpnaaRexTo
namespace Go.Proofs.Ytgigalcajgjpnaa
open Go.RowKit
set_option maxRecDepth 8000

mutual
def Ex.sz : Ex → Nat
  | .node _ _ s l => s.size + szx l
def szx : List Ex → Nat
  | [] => 0
  | t :: r => 1 + t.sz + szx r
end

theorem Ex.sz_eq (t : Ex) : t.sz = t.s.size + szx t.l := by cases t; rw [Ex.sz]; rfl
theorem szx_take (l : List Ex) (k : Nat) (h : k < l.length) : szx (l.take (k + 1)) = szx (l.take k) + 1 + l[k].sz := by
  induction l generalizing k with
  | nil => simp at h
  | cons t r ih =>
    cases k with
    | zero => simp [szx]
    | succ k =>
      have := ih k (by simpa using h)
      simp only [List.take_succ_cons, szx, List.getElem_cons_succ]
      omega
theorem szx_take_le (l : List Ex) (k : Nat) : szx (l.take k) ≤ szx l := by
  induction l generalizing k with
  | nil => simp
  | cons t r ih =>
    cases k with
    | zero => simp [szx]
    | succ k => have := ih k; simp only [List.take_succ_cons, szx]; omega
theorem szx_length (l : List Ex) : l.length ≤ szx l := by
  induction l with
  | nil => simp
  | cons t r ih => simp only [List.length_cons, szx]; omega
theorem szx_take_length (l : List Ex) (k : Nat) (h : k ≤ l.length) : szx (l.take k) + (l.length - k) ≤ szx l := by
  induction l generalizing k with
  | nil => simp
  | cons t r ih =>
    cases k with
    | zero => have := szx_length (t :: r); simpa [szx] using this
    | succ k => have := ih k (by simpa using h); simp only [List.take_succ_cons, szx, List.length_cons]; omega

def SzX (l : List Ex) : Prop := ∀ (B : Nat → Prop) (v : Value) (w : World) (left : Int), El w B l v → 0 ≤ left → left ≤ 1048576 →
  Calls Try.prog 46 #[v, .int .i64 left] w fun e w' => e = .returned (.int .i64 (leftOf left (szx l))) ∧ Below w.heap.size w w'

theorem szExpr_of (t : Ex) (ih : SzX t.l) (B : Nat → Prop) (v : Value) (w : World) (left : Int) (h : El w B t.l v) (hs : t.s.size ≤ maxLen) (h0 : 0 ≤ left) (h1 : left ≤ 1048576) :
    Calls Try.prog 20 #[xx t.k t.n t.s v, .int .i64 left] w fun e w' => e = .returned (.int .i64 (leftOf left t.sz)) ∧ Below w.heap.size w w' := by
  have HE := Hid.mk t.sz_eq
  obtain ⟨k, hk⟩ : ∃ k, t.k = k := ⟨_, rfl⟩
  obtain ⟨n, hnn⟩ : ∃ n, t.n = n := ⟨_, rfl⟩
  obtain ⟨s, hsn⟩ : ∃ s, t.s = s := ⟨_, rfl⟩
  obtain ⟨l, hln⟩ : ∃ l, t.l = l := ⟨_, rfl⟩
  obtain ⟨z, hz⟩ : ∃ z, t.sz = z := ⟨_, rfl⟩
  rw [hk, hnn, hsn, hz]
  rw [hsn] at hs HE
  rw [hln] at h ih HE
  rw [hz] at HE
  clear hk hnn hsn hln hz
  unfold maxLen at hs
  have B0 : Below w.heap.size w (w.alloc (.cells #[.int .i64 k, .int .i64 n, .string s, v] 52)) := (Below.refl _ _).alloc (Nat.le_refl _) _
  obtain ⟨ao, cap, rfl, hl1, hl2, hl3⟩ := h.len
  by_cases hlt : left < s.size
  · have hh : left - (s.size : Int) < 0 := by omega
    have HR : Hid (leftOf left z = -1) := by show _ = _; unfold leftOf; have := HE.out; rw [if_pos (by omega)]
    clear HE
    go_enter Try.func20, Try.ntmps20
    go_wp2
    go_ret
    exact ⟨ret_int' HR.out.symm, B0⟩
  · have hh : ¬ left - (s.size : Int) < 0 := by omega
    have hh1 : 0 ≤ left - (s.size : Int) := by omega
    have hh2 : left - (s.size : Int) ≤ 1048576 := by omega
    have h' := Hid.mk (h.grow B0)
    have HI := Hid.mk ih
    clear ih h
    obtain ⟨m, Hm⟩ : ∃ m, Hid (leftOf (left - (s.size : Int)) (szx l) = m) := ⟨_, rfl⟩
    have HR : Hid (m = leftOf left z) := by
      show _ = _
      rw [← Hm.out, HE.out]
      unfold leftOf
      split <;> split <;> omega
    clear HE
    by_cases hm : m < 0
    all_goals
      have hm' := hm
      go_enter Try.func20, Try.ntmps20
      go_wp2_with fail
      refine (HI.out _ _ _ _ h'.out hh1 hh2).mono ?_
      rintro e w1 ⟨rfl, hb1⟩
      rw [Hm.out]
      have B1 := B0.trans (hb1.mono (by simp))
      clear B0 hb1 HI h'
      go_wp2
      go_ret
      exact ⟨ret_int' (by first | exact HR.out | (have := HR.out; unfold leftOf at this ⊢; split at this <;> omega)), B1⟩

theorem szExprS_step (l : List Ex) (ih : ∀ x ∈ l, SzX x.l) : SzX l := by
  intro B v w left h h0 h1
  obtain ⟨ao, cap, rfl, hl1, hl2, hl3⟩ := h.len
  have hm : cap ≤ 9223372036854775807 := by unfold maxLen at hl2; omega
  have hlen := szx_length l
  by_cases hlt : left < l.length
  · have hh : left - (l.length : Int) < 0 := by omega
    have HR : Hid (leftOf left (szx l) = -1) := by show _ = _; unfold leftOf; rw [if_pos (by omega)]
    clear h ih hl2 hlen
    go_enter Try.func46, Try.ntmps46
    go_wp2
    go_ret
    exact ⟨ret_int' HR.out.symm, Below.refl _ _⟩
  · have hh : ¬ left - (l.length : Int) < 0 := by omega
    have HI := Hid.mk ih
    have HH := Hid.mk h
    have HL := Hid.mk hlen
    clear ih h hl2 hlen
    go_enter Try.func46, Try.ntmps46
    go_wp2
    go_loopw [1, 5] (fun q i wr => ∃ (k : Nat) (r : Int), k ≤ l.length ∧ i = .int .i64 k ∧ q = .int .i64 r ∧ 0 ≤ r ∧ r ≤ 1048576 ∧ Hid (r = left - (l.length : Int) - (szx (l.take k) : Int) + (k : Int)) ∧ Below w.heap.size w wr) (fun _ i _ => l.length - (intOf i).toNat)
    case atStart => exact ⟨0, left - (l.length : Int), Nat.zero_le _, rfl, rfl, by omega, by omega, by show _ = _; simp [szx], Below.refl _ _⟩
    case round =>
      obtain ⟨k, r, hk, rfl, rfl, r0, r1, Hr, hbel⟩ := hrel
      by_cases hkl : k < l.length
      · obtain ⟨b, off, V, rfl, hel⟩ := HH.out.elems (by intro hn; rw [hn] at hkl; simp at hkl)
        obtain ⟨h3, hsub, hss⟩ := hel k hkl
        have HE := Hid.mk (szx_take l k hkl)
        have HT := Hid.mk (szx_take_le l (k + 1))
        have HZ := Hid.mk (szx_take_length l (k + 1) hkl)
        have hsz : SzX l[k].l := HI.out _ (List.getElem_mem hkl)
        obtain ⟨t, ht⟩ : ∃ t, l[k] = t := ⟨_, rfl⟩
        rw [ht] at h3 hsub hss HE hsz
        clear ht hel
        obtain ⟨c0, cn, c1, c2⟩ := h3.kept (w' := wr) (hbel.block b (World.block_lt_of_cell? w _ h3.1))
        have HC := Hid.mk (szExpr_of t hsz B (V k) wr r (hsub.grow hbel) hss r0 r1)
        have hi1 : (k : Int) < (l.length : Int) := by omega
        obtain ⟨m, Hm⟩ : ∃ m, Hid (leftOf r t.sz = m) := ⟨_, rfl⟩
        rw [Hm.out] at HC
        clear hsub hss hsz h3
        by_cases hm : m < 0
        · have HR : Hid (leftOf left (szx l) = -1) := by
            show _ = _
            have e1 := Hm.out
            have e2 := Hr.out
            have e3 := HE.out
            have e5 := HZ.out
            unfold leftOf at e1 ⊢
            split at e1 <;> split <;> omega
          clear HE HT Hr Hm HZ
          go_wp2_with fail
          refine HC.out.mono ?_
          rintro e w1 ⟨rfl, hb1⟩
          have B1 := hbel.trans (hb1.mono hbel.size)
          clear hb1 HC
          go_wp2
          go_ret
          exact ⟨ret_int' HR.out.symm, B1⟩
        · have HR : Hid (m = left - (l.length : Int) - (szx (l.take (k + 1)) : Int) + ((k + 1 : Nat) : Int)) := by
            show _ = _
            have e1 := Hm.out
            have e2 := Hr.out
            have e3 := HE.out
            unfold leftOf at e1
            split at e1 <;> omega
          have hm1 : m ≤ 1048576 := by
            have e1 := Hm.out
            unfold leftOf at e1
            split at e1 <;> omega
          clear HE HT Hr Hm HZ
          go_wp2_with fail
          refine HC.out.mono ?_
          rintro e w1 ⟨rfl, hb1⟩
          have B1 := hbel.trans (hb1.mono hbel.size)
          clear hb1 HC
          go_wp2
          go_roundw
          case rel => exact ⟨k + 1, m, by omega, by go_num, rfl, by omega, hm1, HR, B1⟩
          case measure => simp [intOf]; omega
      · have e : k = l.length := by omega
        subst e
        have HR : Hid (r = leftOf left (szx l)) := by
          show _ = _
          have e2 := Hr.out
          rw [List.take_length] at e2
          unfold leftOf
          split <;> omega
        clear Hr
        go_wp2
        go_ret
        exact ⟨ret_int' HR.out, hbel⟩

theorem szExprS_any (l : List Ex) : SzX l := (Ex.ind (P := fun t => SzX t.l) (fun t ih => szExprS_step t.l ih) (.node 0 0 ⟨#[]⟩ l))

theorem szExpr_any (t : Ex) (B : Nat → Prop) (v : Value) (w : World) (left : Int) (h : El w B t.l v) (hs : t.s.size ≤ maxLen) (h0 : 0 ≤ left) (h1 : left ≤ 1048576) :
    Calls Try.prog 20 #[xx t.k t.n t.s v, .int .i64 left] w fun e w' => e = .returned (.int .i64 (leftOf left t.sz)) ∧ Below w.heap.size w w' :=
  szExpr_of t (szExprS_any t.l) B v w left h hs h0 h1
end Go.Proofs.Ytgigalcajgjpnaa

namespace Go.Proofs.Ytgigalcajgjpnaa
open Go.RowKit
set_option maxRecDepth 8000

theorem El.nfgrow {w w' : World} {n : Nat} {l : List Ex} {v : Value} (h : El w (nf w n) l v) (hk : Below w.heap.size w w') : El w' (nf w' n) l v :=
  (h.imp (C := nf w' n) fun b hb hlt => ⟨hb.1, fun o => by rw [hk.frozen (p := ⟨b, o, none⟩) hlt]; exact hb.2 o⟩).grow hk

theorem El.nfset {w : World} {n : Nat} {l : List Ex} {v : Value} (h : El w (nf w n) l v) {a : Addr} (ha : a.block < n) (u : Value) : El (w.setCell a u) (nf (w.setCell a u) n) l v :=
  (h.setCell (fun hb => by have := hb.1; omega) u).imp fun b hb _ => ⟨hb.1, fun o => by rw [World.frozen?_setCell]; exact hb.2 o⟩

def ToX (l : List Ex) : Prop := ∀ (B : Nat → Prop) (v : Value) (w : World), El w B l v → szx l ≤ 1048576 →
  Calls Try.prog 47 #[v] w fun e w' => ∃ u, e = .returned u ∧ El w' (nf w' w.heap.size) l u ∧ Below w.heap.size w w'

theorem toExpr_of (t : Ex) (ih : ToX t.l) (B : Nat → Prop) (v : Value) (w : World) (h : El w B t.l v) (hs : szx t.l ≤ 1048576) :
    Calls Try.prog 21 #[xx t.k t.n t.s v] w fun e w' => ∃ u, e = .returned (xx t.k t.n t.s u) ∧ El w' (nf w' (w.heap.size + 1)) t.l u ∧ Below w.heap.size w w' := by
  obtain ⟨k, hk⟩ : ∃ k, t.k = k := ⟨_, rfl⟩
  obtain ⟨n, hnn⟩ : ∃ n, t.n = n := ⟨_, rfl⟩
  obtain ⟨s, hsn⟩ : ∃ s, t.s = s := ⟨_, rfl⟩
  obtain ⟨l, hln⟩ : ∃ l, t.l = l := ⟨_, rfl⟩
  rw [hk, hnn, hsn]
  rw [hln] at h ih hs
  rw [hln]
  clear hk hnn hsn hln
  have HI := Hid.mk ih
  have H1 := Hid.mk (fun w' (hb : Below w.heap.size w w') => h.grow hb)
  obtain ⟨ao, cap, rfl, hl1, hl2, hl3⟩ := h.len
  clear ih h hl1 hl2 hl3
  go_enter Try.func21, Try.ntmps21
  go_wp2_with fail
  refine (HI.out _ _ _ (H1.out _ ?_) hs).mono ?_
  · exact ((((Below.refl _ _).alloc (Nat.le_refl _) _).alloc (by simp) _).alloc (by simp; omega) _)
  rintro e w1 ⟨u, rfl, hr, hb1⟩
  have hc1 := fun o => hb1.cell (p := ⟨w.heap.size + 1, o, none⟩) (by simp)
  have hc2 := fun o => hb1.cell (p := ⟨w.heap.size + 1 + 1, o, none⟩) (by simp)
  have hf1 := fun o => hb1.frozen (p := ⟨w.heap.size + 1, o, none⟩) (by simp)
  have hf2 := fun o => hb1.frozen (p := ⟨w.heap.size + 1 + 1, o, none⟩) (by simp)
  obtain ⟨au, cu, rfl, -, -, -⟩ := hr.len
  have HR := Hid.mk hr
  have HB := Hid.mk hb1
  clear hr hb1 H1 HI
  go_wp2
  have f0 : (((((w1.setCell ⟨w.heap.size + 1 + 1, 3, none⟩ (.slice au l.length cu)).setCell ⟨w.heap.size + 1, 0, none⟩ (.int .i64 k)).setCell ⟨w.heap.size + 1, 1, none⟩ (.int .i64 n)).setCell ⟨w.heap.size + 1, 2, none⟩ (.string s)).setCell ⟨w.heap.size + 1, 3, none⟩ (.slice au l.length cu)).cell? ⟨w.heap.size + 1, 0, none⟩ = some (.int .i64 k) := by go_simp
  have f1 : (((((w1.setCell ⟨w.heap.size + 1 + 1, 3, none⟩ (.slice au l.length cu)).setCell ⟨w.heap.size + 1, 0, none⟩ (.int .i64 k)).setCell ⟨w.heap.size + 1, 1, none⟩ (.int .i64 n)).setCell ⟨w.heap.size + 1, 2, none⟩ (.string s)).setCell ⟨w.heap.size + 1, 3, none⟩ (.slice au l.length cu)).cell? ⟨w.heap.size + 1, 1, none⟩ = some (.int .i64 n) := by go_simp
  have f2 : (((((w1.setCell ⟨w.heap.size + 1 + 1, 3, none⟩ (.slice au l.length cu)).setCell ⟨w.heap.size + 1, 0, none⟩ (.int .i64 k)).setCell ⟨w.heap.size + 1, 1, none⟩ (.int .i64 n)).setCell ⟨w.heap.size + 1, 2, none⟩ (.string s)).setCell ⟨w.heap.size + 1, 3, none⟩ (.slice au l.length cu)).cell? ⟨w.heap.size + 1, 2, none⟩ = some (.string s) := by go_simp
  have f3 : (((((w1.setCell ⟨w.heap.size + 1 + 1, 3, none⟩ (.slice au l.length cu)).setCell ⟨w.heap.size + 1, 0, none⟩ (.int .i64 k)).setCell ⟨w.heap.size + 1, 1, none⟩ (.int .i64 n)).setCell ⟨w.heap.size + 1, 2, none⟩ (.string s)).setCell ⟨w.heap.size + 1, 3, none⟩ (.slice au l.length cu)).cell? ⟨w.heap.size + 1, 3, none⟩ = some (.slice au l.length cu) := by go_simp
  refine bodyPost_ret (v := xx k n s (.slice au l.length cu)) ?_ rfl ⟨_, rfl, ?_, ?_⟩
  · generalize (((((w1.setCell ⟨w.heap.size + 1 + 1, 3, none⟩ (.slice au l.length cu)).setCell ⟨w.heap.size + 1, 0, none⟩ (.int .i64 k)).setCell ⟨w.heap.size + 1, 1, none⟩ (.int .i64 n)).setCell ⟨w.heap.size + 1, 2, none⟩ (.string s)).setCell ⟨w.heap.size + 1, 3, none⟩ (.slice au l.length cu)) = W at f0 f1 f2 f3
    simp [results, Try.results21, go_sem, f0, f1, f2, f3]
  · exact (((((HR.out.nfset (by simp) _).nfset (by simp) _).nfset (by simp) _).nfset (by simp) _).nfset (by simp) _).imp (fun b hb _ => ⟨by have := hb.1; simp at this; omega, hb.2⟩)
  · exact (((((((Below.refl _ _).alloc (Nat.le_refl _) _).alloc (by simp) _).alloc (by simp; omega) _).trans (HB.out.mono (by simp; omega))).setCell (by simp; omega) _).setCell (by simp) _).setCell (by simp) _ |>.setCell (by simp) _ |>.setCell (by simp) _

/-- The first k of a row of expressions are laid. -/
def FilX (wr : World) (g : Nat) (e : TypeId) (l : List Ex) (k : Nat) : Prop :=
  ∃ (xs : List Value) (V : Nat → Value), wr.ownsRow g e 4 (.slice (some ⟨g, 0, none⟩) l.length l.length) l.length xs ∧
    ∀ i (h : i < l.length), i < k → (xs[i * 4]? = some (.int .i64 l[i].k) ∧ xs[i * 4 + 1]? = some (.int .i64 l[i].n) ∧ xs[i * 4 + 2]? = some (.string l[i].s) ∧ xs[i * 4 + 3]? = some (V i)) ∧ El wr (nf wr (g + 1)) l[i].l (V i)

theorem FilX.grow {w w' : World} {g : Nat} {e : TypeId} {l : List Ex} {k : Nat} (h : FilX w g e l k) (hk : Below w.heap.size w w') : FilX w' g e l k := by
  obtain ⟨xs, V, ho, hr⟩ := h
  exact ⟨xs, V, own_grow ho hk, fun i h1 h2 => ⟨(hr i h1 h2).1, (hr i h1 h2).2.nfgrow hk⟩⟩

theorem FilX.step {w : World} {g : Nat} {e : TypeId} {l : List Ex} {k : Nat} (h : FilX w g e l k) (hk : k < l.length) {u : Value} (hu : El w (nf w (g + 1)) l[k].l u) :
    FilX ((((w.setCell ⟨g, k * 4, none⟩ (.int .i64 l[k].k)).setCell ⟨g, k * 4 + 1, none⟩ (.int .i64 l[k].n)).setCell ⟨g, k * 4 + 2, none⟩ (.string l[k].s)).setCell ⟨g, k * 4 + 3, none⟩ u) g e l (k + 1) := by
  obtain ⟨xs, V, ho, hr⟩ := h
  have o1 := (ho.stored (k * 4) (.int .i64 l[k].k)).1
  have o2 := (o1.stored (k * 4 + 1) (.int .i64 l[k].n)).1
  have o3 := (o2.stored (k * 4 + 2) (.string l[k].s)).1
  have o4 := (o3.stored (k * 4 + 3) u).1
  have hl : xs.length = l.length * 4 := ho.1
  refine ⟨_, fun i => if i = k then u else V i, o4, fun i hi hik => ?_⟩
  have hn : g < g + 1 := by omega
  by_cases he : i = k
  · subst he
    refine ⟨⟨?_, ?_, ?_, ?_⟩, ?_⟩
    · rw [List.getElem?_set_ne (by omega), List.getElem?_set_ne (by omega), List.getElem?_set_ne (by omega), List.getElem?_set_self (by omega)]
    · rw [List.getElem?_set_ne (by omega), List.getElem?_set_ne (by omega), List.getElem?_set_self (by simp; omega)]
    · rw [List.getElem?_set_ne (by omega), List.getElem?_set_self (by simp; omega)]
    · rw [List.getElem?_set_self (by simp; omega)]; show some u = some (if i = i then u else V i); rw [if_pos rfl]
    · show El _ _ _ (if i = i then u else V i)
      rw [if_pos rfl]
      exact (((hu.nfset hn _).nfset hn _).nfset hn _).nfset hn _
  · obtain ⟨⟨x0, xn, x1, x2⟩, x3⟩ := hr i hi (by omega)
    refine ⟨⟨?_, ?_, ?_, ?_⟩, ?_⟩
    · rw [List.getElem?_set_ne (by omega), List.getElem?_set_ne (by omega), List.getElem?_set_ne (by omega), List.getElem?_set_ne (by omega)]; exact x0
    · rw [List.getElem?_set_ne (by omega), List.getElem?_set_ne (by omega), List.getElem?_set_ne (by omega), List.getElem?_set_ne (by omega)]; exact xn
    · rw [List.getElem?_set_ne (by omega), List.getElem?_set_ne (by omega), List.getElem?_set_ne (by omega), List.getElem?_set_ne (by omega)]; exact x1
    · rw [List.getElem?_set_ne (by omega), List.getElem?_set_ne (by omega), List.getElem?_set_ne (by omega), List.getElem?_set_ne (by omega)]; show xs[i * 4 + 3]? = some (if i = k then u else V i); rw [if_neg he]; exact x2
    · show El _ _ _ (if i = k then u else V i)
      rw [if_neg he]
      exact (((x3.nfset hn _).nfset hn _).nfset hn _).nfset hn _

theorem FilX.rl {w : World} {g : Nat} {e : TypeId} {l : List Ex} (h : FilX w g e l l.length) (hm : l.length ≤ maxLen) (hs : ∀ i (h : i < l.length), l[i].s.size ≤ maxLen) :
    El w (nf w g) l (.slice (some ⟨g, 0, none⟩) l.length l.length) := by
  obtain ⟨xs, V, ho, hr⟩ := h
  by_cases hl : l = []
  · subst hl
    exact .empty _ _ (by simp) fun h => by cases h
  · refine .full l g 0 l.length V ⟨Nat.le_refl _, fun o => ho.frozenAt o⟩ hl (Nat.le_refl _) hm hs (fun i hi => ?_) fun i hi => (hr i hi hi).2.imp fun b hb _ => ⟨by have := hb.1; omega, hb.2⟩
    obtain ⟨⟨x0, xn, x1, x2⟩, _⟩ := hr i hi hi
    rw [Nat.zero_add]
    exact ⟨by rw [ho.cellAt _ (by omega), x0], by rw [ho.cellAt _ (by omega), xn], by rw [ho.cellAt _ (by omega), x1], by rw [ho.cellAt _ (by omega), x2]⟩

theorem infoExpr : (Try.prog.info? 26).map (fun i => (i.zero, i.size, i.bytes)) = some (some (xx 0 0 ⟨#[]⟩ (.slice none 0 0)), 4, 56) := by kernel_rfl

theorem szx_sub (l : List Ex) (k : Nat) (h : k < l.length) : szx l[k].l ≤ szx l := by
  have := szx_take l k h
  have := szx_take_le l (k + 1)
  have := l[k].sz_eq
  omega

theorem toExprS_step (l : List Ex) (ih : ∀ x ∈ l, ToX x.l) : ToX l := by
  intro B v w h hsz
  have hS : l ≠ [] → ∀ i (h : i < l.length), l[i].s.size ≤ maxLen := by
    intro hl i hi
    obtain ⟨ao, cap, rfl, -⟩ := h.len
    obtain ⟨_, _, _, _, hel⟩ := h.elems hl
    exact (hel i hi).2.2
  obtain ⟨ao, cap, rfl, hl1, hl2, hl3⟩ := h.len
  have hlen := szx_length l
  obtain ⟨i0, hi, hz0, hz1, hz2⟩ := info_parts infoExpr
  have HI := Hid.mk ih
  have HH := Hid.mk h
  have HS := Hid.mk hS
  have hln : l.length ≤ 1048576 := by omega
  clear ih h hl2 hS
  go_enter Try.func47, Try.ntmps47
  go_wp2_with (at_make; refine wpList_make_full _ rfl _ _ 24 rfl w.heap.size 26 i0 _ 4 Try.underlying24 hi hz0 hz1 _ _ _ _ l.length rfl rfl rfl rfl (by rw [hz2]; omega) (by unfold maxLen; omega) (by simp) ?_)
  intro w1 hown hgrow
  have hbel : Below w.heap.size w w1 := (Below.refl _ _).grown hgrow (Nat.le_refl _) (by simp)
  have hg1 : w.heap.size < w1.heap.size := (World.ownsRow.lt hown _ rfl).2
  have HF : FilX w1 w.heap.size 26 l 0 := ⟨_, fun _ => .bool true, hown, fun i _ h => absurd h (Nat.not_lt_zero i)⟩
  clear hgrow hown hi hz0 hz1 hz2
  go_wp2
  go_loopw [4] (fun i wr => ∃ (k : Nat), k ≤ l.length ∧ i = .int .i64 k ∧ Hid (FilX wr w.heap.size 26 l k) ∧ Below w.heap.size w wr ∧ w.heap.size < wr.heap.size) (fun i _ => l.length - (intOf i).toNat)
  case atStart => exact ⟨0, Nat.zero_le _, rfl, HF, hbel, hg1⟩
  case round =>
    obtain ⟨k, hk, rfl, HFr, hbelr, hgr⟩ := hrel
    clear HF hbel hg1
    by_cases hkl : k < l.length
    · obtain ⟨b, off, V, rfl, hel⟩ := HH.out.elems (by intro hn; rw [hn] at hkl; simp at hkl)
      obtain ⟨h3, hsub, hss⟩ := hel k hkl
      have hto : ToX l[k].l := HI.out _ (List.getElem_mem hkl)
      have hsk := szx_sub l k hkl
      have HST := Hid.mk (fun (w2 : World) (u : Value) (h1 : FilX w2 w.heap.size 26 l k) (h2 : El w2 (nf w2 (w.heap.size + 1)) l[k].l u) => h1.step hkl h2)
      obtain ⟨t, ht⟩ : ∃ t, l[k] = t := ⟨_, rfl⟩
      rw [ht] at h3 hsub hss hto hsk HST
      clear ht hel
      obtain ⟨c0, cn, c1, c2⟩ := h3.kept (w' := wr) (hbelr.block b (World.block_lt_of_cell? w _ h3.1))
      have HC := Hid.mk (toExpr_of t hto B (V k) wr (hsub.grow hbelr) (by omega))
      have hi1 : (k : Int) < (l.length : Int) := by omega
      clear hsub hss hto h3 HI HH
      go_wp2_with fail
      refine HC.out.mono ?_
      rintro e w2 ⟨u, rfl, hr, hb2⟩
      have HF2 := HFr.out.grow hb2
      have H3 := Hid.mk (HST.out w2 u HF2 (hr.imp fun b hb _ => ⟨by have := hb.1; omega, hb.2⟩))
      have B2 := hbelr.trans (hb2.mono hbelr.size)
      have hg2 : w.heap.size < w2.heap.size := Nat.lt_of_lt_of_le hgr hb2.size
      obtain ⟨xs, V', hown2, -⟩ := HF2
      have f0 := hown2.frozenAt (k * 4)
      have f1 := hown2.frozenAt (k * 4 + 1)
      have f2 := hown2.frozenAt (k * 4 + 2)
      have f3 := hown2.frozenAt (k * 4 + 3)
      have hxl : xs.length = l.length * 4 := hown2.1
      have o0 := hown2.cellAt (k * 4) (by omega)
      have o1 := hown2.cellAt (k * 4 + 1) (by omega)
      have o2 := hown2.cellAt (k * 4 + 2) (by omega)
      have o3 := hown2.cellAt (k * 4 + 3) (by omega)
      obtain ⟨y0, e0⟩ : ∃ y, xs[k * 4]? = some y := ⟨_, List.getElem?_eq_getElem (by omega)⟩
      obtain ⟨y1, e1⟩ : ∃ y, xs[k * 4 + 1]? = some y := ⟨_, List.getElem?_eq_getElem (by omega)⟩
      obtain ⟨y2, e2⟩ : ∃ y, xs[k * 4 + 2]? = some y := ⟨_, List.getElem?_eq_getElem (by omega)⟩
      obtain ⟨y3, e3⟩ : ∃ y, xs[k * 4 + 3]? = some y := ⟨_, List.getElem?_eq_getElem (by omega)⟩
      rw [e0] at o0
      rw [e1] at o1
      rw [e2] at o2
      rw [e3] at o3
      clear e0 e1 e2 e3
      obtain ⟨au, cu, rfl, -, -, -⟩ := hr.len
      have hk0 : 0 < l.length := by omega
      clear hown2 HFr HC HST hb2 hbelr hr c0 c1 c2 hxl
      go_wp2
      go_roundw
      case rel => exact ⟨k + 1, by omega, by go_num, H3, (((B2.setCell (Nat.le_refl _) _).setCell (Nat.le_refl _) _).setCell (Nat.le_refl _) _).setCell (Nat.le_refl _) _, by simpa using hg2⟩
      case measure => simp [intOf]; omega
    · have e : k = l.length := by omega
      subst e
      have HR := Hid.mk (fun hS => HFr.out.rl (by unfold maxLen; omega) hS)
      have HR2 : Hid (El wr (nf wr w.heap.size) l (.slice (some ⟨w.heap.size, 0, none⟩) l.length l.length)) := HR.out (by
        intro i hi
        exact HS.out (by intro hn; rw [hn] at hi; simp at hi) i hi)
      clear HR HFr HS HI HH
      go_wp2
      go_ret
      exact ⟨_, rfl, HR2.out, hbelr⟩

theorem toExprS_any (l : List Ex) : ToX l := (Ex.ind (P := fun t => ToX t.l) (fun t ih => toExprS_step t.l ih) (.node 0 0 ⟨#[]⟩ l))
theorem toExprF_any (t : Ex) (B : Nat → Prop) (v : Value) (w : World) (h : El w B t.l v) (hs : szx t.l ≤ 1048576) :
    Calls Try.prog 21 #[xx t.k t.n t.s v] w fun e w' => ∃ u, e = .returned (xx t.k t.n t.s u) ∧ El w' (nf w' (w.heap.size + 1)) t.l u ∧ Below w.heap.size w w' := toExpr_of t (toExprS_any t.l) B v w h hs
theorem toExpr_any (t : Ex) (B : Nat → Prop) (v : Value) (w : World) (h : El w B t.l v) (hs : szx t.l ≤ 1048576) :
    Calls Try.prog 21 #[xx t.k t.n t.s v] w fun e w' => ∃ u, e = .returned (xx t.k t.n t.s u) ∧ El w' (newFrom (w.heap.size + 1)) t.l u ∧ Below w.heap.size w w' := by
  refine (toExprF_any t B v w h hs).mono ?_
  rintro e w' ⟨u, rfl, hr, hb⟩
  exact ⟨u, rfl, hr.imp fun b hb _ => hb.1, hb⟩
end Go.Proofs.Ytgigalcajgjpnaa
