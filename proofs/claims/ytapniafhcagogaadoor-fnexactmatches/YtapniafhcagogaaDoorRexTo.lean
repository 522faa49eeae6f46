/- The small functions of the laws over regular expressions: how great one is, a copy, whether two are the same. A copy of a regular expression, by the laws' own function: it reads the same tree, in new blocks. -/
import Derived.Test.YtapniafhcagogaaDoorRexTree
import Derived.Test.YtapniafhcagogaaDoorLeaf
namespace Go.Proofs.YtapniafhcagogaaDoor
open Go.RowKit
set_option maxRecDepth 8000

mutual
def Tr.sz : Tr → Nat
  | .node _ s l => s.size + szs l
def szs : List Tr → Nat
  | [] => 0
  | t :: r => 1 + t.sz + szs r
end

theorem Tr.sz_eq (t : Tr) : t.sz = t.s.size + szs t.l := by cases t; rw [Tr.sz]; rfl
theorem szs_take (l : List Tr) (k : Nat) (h : k < l.length) : szs (l.take (k + 1)) = szs (l.take k) + 1 + l[k].sz := by
  induction l generalizing k with
  | nil => simp at h
  | cons t r ih =>
    cases k with
    | zero => simp [szs]
    | succ k =>
      have := ih k (by simpa using h)
      simp only [List.take_succ_cons, szs, List.getElem_cons_succ]
      omega
theorem szs_take_le (l : List Tr) (k : Nat) : szs (l.take k) ≤ szs l := by
  induction l generalizing k with
  | nil => simp
  | cons t r ih =>
    cases k with
    | zero => simp [szs]
    | succ k => have := ih k; simp only [List.take_succ_cons, szs]; omega
theorem szs_length (l : List Tr) : l.length ≤ szs l := by
  induction l with
  | nil => simp
  | cons t r ih => simp only [List.length_cons, szs]; omega
theorem szs_take_length (l : List Tr) (k : Nat) (h : k ≤ l.length) : szs (l.take k) + (l.length - k) ≤ szs l := by
  induction l generalizing k with
  | nil => simp
  | cons t r ih =>
    cases k with
    | zero => have := szs_length (t :: r); simpa [szs] using this
    | succ k => have := ih k (by simpa using h); simp only [List.take_succ_cons, szs, List.length_cons]; omega

/-- What is left of a room behind so much. -/
def leftOf (left : Int) (n : Nat) : Int := if left < n then -1 else left - n

def SzS (l : List Tr) : Prop := ∀ (B : Nat → Prop) (v : Value) (w : World) (left : Int), Rl w B l v → 0 ≤ left → left ≤ 1048576 →
  Calls Tryd.prog 62 #[v, .int .i64 left] w fun e w' => e = .returned (.int .i64 (leftOf left (szs l))) ∧ Below w.heap.size w w'

theorem ret_int' {a b : Int} (h : a = b) : Ending.returned (.int .i64 a) = .returned (.int .i64 b) := by rw [h]

theorem szRex_of (t : Tr) (ih : SzS t.l) (B : Nat → Prop) (v : Value) (w : World) (left : Int) (h : Rl w B t.l v) (hs : t.s.size ≤ maxLen) (h0 : 0 ≤ left) (h1 : left ≤ 1048576) :
    Calls Tryd.prog 30 #[rx t.k t.s v, .int .i64 left] w fun e w' => e = .returned (.int .i64 (leftOf left t.sz)) ∧ Below w.heap.size w w' := by
  have HE := Hid.mk t.sz_eq
  obtain ⟨k, hk⟩ : ∃ k, t.k = k := ⟨_, rfl⟩
  obtain ⟨s, hsn⟩ : ∃ s, t.s = s := ⟨_, rfl⟩
  obtain ⟨l, hln⟩ : ∃ l, t.l = l := ⟨_, rfl⟩
  obtain ⟨n, hn⟩ : ∃ n, t.sz = n := ⟨_, rfl⟩
  rw [hk, hsn, hn]
  rw [hsn] at hs HE
  rw [hln] at h ih HE
  rw [hn] at HE
  clear hk hsn hln hn
  unfold maxLen at hs
  have B0 : Below w.heap.size w (w.alloc (.cells #[.int .i64 k, .string s, v] 47)) := (Below.refl _ _).alloc (Nat.le_refl _) _
  obtain ⟨ao, cap, rfl, hl1, hl2, hl3⟩ := h.len
  by_cases hlt : left < s.size
  · have hh : left - (s.size : Int) < 0 := by omega
    have HR : Hid (leftOf left n = -1) := by show _ = _; unfold leftOf; have := HE.out; rw [if_pos (by omega)]
    clear HE
    go_enter Tryd.func30, Tryd.ntmps30
    go_wp2
    go_ret
    exact ⟨ret_int' HR.out.symm, B0⟩
  · have hh : ¬ left - (s.size : Int) < 0 := by omega
    have hh1 : 0 ≤ left - (s.size : Int) := by omega
    have hh2 : left - (s.size : Int) ≤ 1048576 := by omega
    have h' := Hid.mk (h.grow B0)
    have HI := Hid.mk ih
    clear ih h
    obtain ⟨m, Hm⟩ : ∃ m, Hid (leftOf (left - (s.size : Int)) (szs l) = m) := ⟨_, rfl⟩
    have HR : Hid (m = leftOf left n) := by
      show _ = _
      rw [← Hm.out, HE.out]
      unfold leftOf
      split <;> split <;> omega
    clear HE
    by_cases hm : m < 0
    all_goals
      have hm' := hm
      go_enter Tryd.func30, Tryd.ntmps30
      go_wp2_with fail
      refine (HI.out _ _ _ _ h'.out hh1 hh2).mono ?_
      rintro e w1 ⟨rfl, hb1⟩
      rw [Hm.out]
      have B1 := B0.trans (hb1.mono (by simp))
      clear B0 hb1 HI h'
      go_wp2
      go_ret
      exact ⟨ret_int' (by first | exact HR.out | (have := HR.out; unfold leftOf at this ⊢; split at this <;> omega)), B1⟩

theorem szRexS_step (l : List Tr) (ih : ∀ x ∈ l, SzS x.l) : SzS l := by
  intro B v w left h h0 h1
  obtain ⟨ao, cap, rfl, hl1, hl2, hl3⟩ := h.len
  have hm : cap ≤ 9223372036854775807 := by unfold maxLen at hl2; omega
  have hlen := szs_length l
  by_cases hlt : left < l.length
  · have hh : left - (l.length : Int) < 0 := by omega
    have HR : Hid (leftOf left (szs l) = -1) := by show _ = _; unfold leftOf; rw [if_pos (by omega)]
    clear h ih hl2 hlen
    go_enter Tryd.func62, Tryd.ntmps62
    go_wp2
    go_ret
    exact ⟨ret_int' HR.out.symm, Below.refl _ _⟩
  · have hh : ¬ left - (l.length : Int) < 0 := by omega
    have HI := Hid.mk ih
    have HH := Hid.mk h
    have HL := Hid.mk hlen
    clear ih h hl2 hlen
    go_enter Tryd.func62, Tryd.ntmps62
    go_wp2
    go_loopw [1, 5] (fun q i wr => ∃ (k : Nat) (r : Int), k ≤ l.length ∧ i = .int .i64 k ∧ q = .int .i64 r ∧ 0 ≤ r ∧ r ≤ 1048576 ∧ Hid (r = left - (l.length : Int) - (szs (l.take k) : Int) + (k : Int)) ∧ Below w.heap.size w wr) (fun _ i _ => l.length - (intOf i).toNat)
    case atStart => exact ⟨0, left - (l.length : Int), Nat.zero_le _, rfl, rfl, by omega, by omega, by show _ = _; simp [szs], Below.refl _ _⟩
    case round =>
      obtain ⟨k, r, hk, rfl, rfl, r0, r1, Hr, hbel⟩ := hrel
      by_cases hkl : k < l.length
      · obtain ⟨b, off, V, rfl, hel⟩ := HH.out.elems (by intro hn; rw [hn] at hkl; simp at hkl)
        obtain ⟨h3, hsub, hss⟩ := hel k hkl
        have HE := Hid.mk (szs_take l k hkl)
        have HT := Hid.mk (szs_take_le l (k + 1))
        have HZ := Hid.mk (szs_take_length l (k + 1) hkl)
        have hsz : SzS l[k].l := HI.out _ (List.getElem_mem hkl)
        obtain ⟨t, ht⟩ : ∃ t, l[k] = t := ⟨_, rfl⟩
        rw [ht] at h3 hsub hss HE hsz
        clear ht hel
        obtain ⟨c0, c1, c2⟩ := h3.kept (w' := wr) (hbel.block b (World.block_lt_of_cell? w _ h3.1))
        have HC := Hid.mk (szRex_of t hsz B (V k) wr r (hsub.grow hbel) hss r0 r1)
        have hi1 : (k : Int) < (l.length : Int) := by omega
        obtain ⟨m, Hm⟩ : ∃ m, Hid (leftOf r t.sz = m) := ⟨_, rfl⟩
        rw [Hm.out] at HC
        clear hsub hss hsz h3
        by_cases hm : m < 0
        · have HR : Hid (leftOf left (szs l) = -1) := by
            show _ = _
            have e1 := Hm.out
            have e2 := Hr.out
            have e3 := HE.out
            have e5 := HZ.out
            unfold leftOf at e1 ⊢
            split at e1 <;> split <;> omega
          clear HE HT Hr Hm HZ
          go_wp2_with fail
          refine HC.out.mono ?_
          rintro e w1 ⟨rfl, hb1⟩
          have B1 := hbel.trans (hb1.mono hbel.size)
          clear hb1 HC
          go_wp2
          go_ret
          exact ⟨ret_int' HR.out.symm, B1⟩
        · have HR : Hid (m = left - (l.length : Int) - (szs (l.take (k + 1)) : Int) + ((k + 1 : Nat) : Int)) := by
            show _ = _
            have e1 := Hm.out
            have e2 := Hr.out
            have e3 := HE.out
            unfold leftOf at e1
            split at e1 <;> omega
          have hm1 : m ≤ 1048576 := by
            have e1 := Hm.out
            unfold leftOf at e1
            split at e1 <;> omega
          clear HE HT Hr Hm HZ
          go_wp2_with fail
          refine HC.out.mono ?_
          rintro e w1 ⟨rfl, hb1⟩
          have B1 := hbel.trans (hb1.mono hbel.size)
          clear hb1 HC
          go_wp2
          go_roundw
          case rel => exact ⟨k + 1, m, by omega, by go_num, rfl, by omega, hm1, HR, B1⟩
          case measure => simp [intOf]; omega
      · have e : k = l.length := by omega
        subst e
        have HR : Hid (r = leftOf left (szs l)) := by
          show _ = _
          have e2 := Hr.out
          rw [List.take_length] at e2
          unfold leftOf
          split <;> omega
        clear Hr
        go_wp2
        go_ret
        exact ⟨ret_int' HR.out, hbel⟩

theorem szRexS_any (l : List Tr) : SzS l := (Tr.ind (P := fun t => SzS t.l) (fun t ih => szRexS_step t.l ih) (.node 0 ⟨#[]⟩ l))

theorem szRex_any (t : Tr) (B : Nat → Prop) (v : Value) (w : World) (left : Int) (h : Rl w B t.l v) (hs : t.s.size ≤ maxLen) (h0 : 0 ≤ left) (h1 : left ≤ 1048576) :
    Calls Tryd.prog 30 #[rx t.k t.s v, .int .i64 left] w fun e w' => e = .returned (.int .i64 (leftOf left t.sz)) ∧ Below w.heap.size w w' :=
  szRex_of t (szRexS_any t.l) B v w left h hs h0 h1
end Go.Proofs.YtapniafhcagogaaDoor

namespace Go.Proofs.YtapniafhcagogaaDoor
open Go.RowKit
set_option maxRecDepth 8000

def newFrom (n : Nat) : Nat → Prop := fun b => n ≤ b

/-- New blocks, none of them frozen. -/
def nf (w : World) (n b : Nat) : Prop := n ≤ b ∧ ∀ o, w.frozen? ⟨b, o, none⟩ = false

theorem Rl.nfgrow {w w' : World} {n : Nat} {l : List Tr} {v : Value} (h : Rl w (nf w n) l v) (hk : Below w.heap.size w w') : Rl w' (nf w' n) l v :=
  (h.imp (C := nf w' n) fun b hb hlt => ⟨hb.1, fun o => by rw [hk.frozen (p := ⟨b, o, none⟩) hlt]; exact hb.2 o⟩).grow hk

theorem Rl.nfset {w : World} {n : Nat} {l : List Tr} {v : Value} (h : Rl w (nf w n) l v) {a : Addr} (ha : a.block < n) (u : Value) : Rl (w.setCell a u) (nf (w.setCell a u) n) l v :=
  (h.setCell (fun hb => by have := hb.1; omega) u).imp fun b hb _ => ⟨hb.1, fun o => by rw [World.frozen?_setCell]; exact hb.2 o⟩

def ToS (l : List Tr) : Prop := ∀ (B : Nat → Prop) (v : Value) (w : World), Rl w B l v → szs l ≤ 1048576 →
  Calls Tryd.prog 63 #[v] w fun e w' => ∃ u, e = .returned u ∧ Rl w' (nf w' w.heap.size) l u ∧ Below w.heap.size w w'

theorem toRex_of (t : Tr) (ih : ToS t.l) (B : Nat → Prop) (v : Value) (w : World) (h : Rl w B t.l v) (hs : szs t.l ≤ 1048576) :
    Calls Tryd.prog 31 #[rx t.k t.s v] w fun e w' => ∃ u, e = .returned (rx t.k t.s u) ∧ Rl w' (nf w' (w.heap.size + 1)) t.l u ∧ Below w.heap.size w w' := by
  obtain ⟨k, hk⟩ : ∃ k, t.k = k := ⟨_, rfl⟩
  obtain ⟨s, hsn⟩ : ∃ s, t.s = s := ⟨_, rfl⟩
  obtain ⟨l, hln⟩ : ∃ l, t.l = l := ⟨_, rfl⟩
  rw [hk, hsn]
  rw [hln] at h ih hs
  rw [hln]
  clear hk hsn hln
  have HI := Hid.mk ih
  have H1 := Hid.mk (fun w' (hb : Below w.heap.size w w') => h.grow hb)
  obtain ⟨ao, cap, rfl, hl1, hl2, hl3⟩ := h.len
  clear ih h hl1 hl2 hl3
  go_enter Tryd.func31, Tryd.ntmps31
  go_wp2_with fail
  refine (HI.out _ _ _ (H1.out _ ?_) hs).mono ?_
  · exact ((((Below.refl _ _).alloc (Nat.le_refl _) _).alloc (by simp) _).alloc (by simp; omega) _)
  rintro e w1 ⟨u, rfl, hr, hb1⟩
  have hc1 := fun o => hb1.cell (p := ⟨w.heap.size + 1, o, none⟩) (by simp)
  have hc2 := fun o => hb1.cell (p := ⟨w.heap.size + 1 + 1, o, none⟩) (by simp)
  have hf1 := fun o => hb1.frozen (p := ⟨w.heap.size + 1, o, none⟩) (by simp)
  have hf2 := fun o => hb1.frozen (p := ⟨w.heap.size + 1 + 1, o, none⟩) (by simp)
  obtain ⟨au, cu, rfl, -, -, -⟩ := hr.len
  have HR := Hid.mk hr
  have HB := Hid.mk hb1
  clear hr hb1 H1 HI
  go_wp2
  have f0 : ((((w1.setCell ⟨w.heap.size + 1 + 1, 2, none⟩ (.slice au l.length cu)).setCell ⟨w.heap.size + 1, 0, none⟩ (.int .i64 k)).setCell ⟨w.heap.size + 1, 1, none⟩ (.string s)).setCell ⟨w.heap.size + 1, 2, none⟩ (.slice au l.length cu)).cell? ⟨w.heap.size + 1, 0, none⟩ = some (.int .i64 k) := by go_simp
  have f1 : ((((w1.setCell ⟨w.heap.size + 1 + 1, 2, none⟩ (.slice au l.length cu)).setCell ⟨w.heap.size + 1, 0, none⟩ (.int .i64 k)).setCell ⟨w.heap.size + 1, 1, none⟩ (.string s)).setCell ⟨w.heap.size + 1, 2, none⟩ (.slice au l.length cu)).cell? ⟨w.heap.size + 1, 1, none⟩ = some (.string s) := by go_simp
  have f2 : ((((w1.setCell ⟨w.heap.size + 1 + 1, 2, none⟩ (.slice au l.length cu)).setCell ⟨w.heap.size + 1, 0, none⟩ (.int .i64 k)).setCell ⟨w.heap.size + 1, 1, none⟩ (.string s)).setCell ⟨w.heap.size + 1, 2, none⟩ (.slice au l.length cu)).cell? ⟨w.heap.size + 1, 2, none⟩ = some (.slice au l.length cu) := by go_simp
  refine bodyPost_ret (v := rx k s (.slice au l.length cu)) ?_ rfl ⟨_, rfl, ?_, ?_⟩
  · generalize ((((w1.setCell ⟨w.heap.size + 1 + 1, 2, none⟩ (.slice au l.length cu)).setCell ⟨w.heap.size + 1, 0, none⟩ (.int .i64 k)).setCell ⟨w.heap.size + 1, 1, none⟩ (.string s)).setCell ⟨w.heap.size + 1, 2, none⟩ (.slice au l.length cu)) = W at f0 f1 f2
    simp [results, Tryd.results31, go_sem, f0, f1, f2]
  · exact ((((HR.out.nfset (by simp) _).nfset (by simp) _).nfset (by simp) _).nfset (by simp) _).imp (fun b hb _ => ⟨by have := hb.1; simp at this; omega, hb.2⟩)
  · exact (((((((Below.refl _ _).alloc (Nat.le_refl _) _).alloc (by simp) _).alloc (by simp; omega) _).trans (HB.out.mono (by simp; omega))).setCell (by simp; omega) _).setCell (by simp) _).setCell (by simp) _ |>.setCell (by simp) _

/-- The first k of a row of expressions are laid. -/
def Fill (wr : World) (g : Nat) (e : TypeId) (l : List Tr) (k : Nat) : Prop :=
  ∃ (xs : List Value) (V : Nat → Value), wr.ownsRow g e 3 (.slice (some ⟨g, 0, none⟩) l.length l.length) l.length xs ∧
    ∀ i (h : i < l.length), i < k → (xs[i * 3]? = some (.int .i64 l[i].k) ∧ xs[i * 3 + 1]? = some (.string l[i].s) ∧ xs[i * 3 + 2]? = some (V i)) ∧ Rl wr (nf wr (g + 1)) l[i].l (V i)

theorem own_grow {w w' : World} {base : Nat} {e : TypeId} {c n : Nat} {v : Value} {xs : List Value} (h : w.ownsRow base e c v n xs) (hk : Below w.heap.size w w') : w'.ownsRow base e c v n xs :=
  World.ownsRow.kept (row := none) h ⟨hk.os, hk.tape, hk.output, hk.size, fun k h1 _ => hk.block k h1⟩ (by cases hv : v.ownBlock <;> simp)

theorem Fill.grow {w w' : World} {g : Nat} {e : TypeId} {l : List Tr} {k : Nat} (h : Fill w g e l k) (hk : Below w.heap.size w w') : Fill w' g e l k := by
  obtain ⟨xs, V, ho, hr⟩ := h
  exact ⟨xs, V, own_grow ho hk, fun i h1 h2 => ⟨(hr i h1 h2).1, (hr i h1 h2).2.nfgrow hk⟩⟩

theorem Fill.step {w : World} {g : Nat} {e : TypeId} {l : List Tr} {k : Nat} (h : Fill w g e l k) (hk : k < l.length) {u : Value} (hu : Rl w (nf w (g + 1)) l[k].l u) :
    Fill (((w.setCell ⟨g, k * 3, none⟩ (.int .i64 l[k].k)).setCell ⟨g, k * 3 + 1, none⟩ (.string l[k].s)).setCell ⟨g, k * 3 + 2, none⟩ u) g e l (k + 1) := by
  obtain ⟨xs, V, ho, hr⟩ := h
  have o1 := (ho.stored (k * 3) (.int .i64 l[k].k)).1
  have o2 := (o1.stored (k * 3 + 1) (.string l[k].s)).1
  have o3 := (o2.stored (k * 3 + 2) u).1
  have hl : xs.length = l.length * 3 := ho.1
  refine ⟨_, fun i => if i = k then u else V i, o3, fun i hi hik => ?_⟩
  have hn : g < g + 1 := by omega
  by_cases he : i = k
  · subst he
    refine ⟨⟨?_, ?_, ?_⟩, ?_⟩
    · rw [List.getElem?_set_ne (by omega), List.getElem?_set_ne (by omega), List.getElem?_set_self (by omega)]
    · rw [List.getElem?_set_ne (by omega), List.getElem?_set_self (by simp; omega)]
    · rw [List.getElem?_set_self (by simp; omega)]; show some u = some (if i = i then u else V i); rw [if_pos rfl]
    · show Rl _ _ _ (if i = i then u else V i)
      rw [if_pos rfl]
      exact ((hu.nfset hn _).nfset hn _).nfset hn _
  · obtain ⟨⟨x0, x1, x2⟩, x3⟩ := hr i hi (by omega)
    refine ⟨⟨?_, ?_, ?_⟩, ?_⟩
    · rw [List.getElem?_set_ne (by omega), List.getElem?_set_ne (by omega), List.getElem?_set_ne (by omega)]; exact x0
    · rw [List.getElem?_set_ne (by omega), List.getElem?_set_ne (by omega), List.getElem?_set_ne (by omega)]; exact x1
    · rw [List.getElem?_set_ne (by omega), List.getElem?_set_ne (by omega), List.getElem?_set_ne (by omega)]; show xs[i * 3 + 2]? = some (if i = k then u else V i); rw [if_neg he]; exact x2
    · show Rl _ _ _ (if i = k then u else V i)
      rw [if_neg he]
      exact ((x3.nfset hn _).nfset hn _).nfset hn _

theorem Fill.rl {w : World} {g : Nat} {e : TypeId} {l : List Tr} (h : Fill w g e l l.length) (hm : l.length ≤ maxLen) (hs : ∀ i (h : i < l.length), l[i].s.size ≤ maxLen) :
    Rl w (nf w g) l (.slice (some ⟨g, 0, none⟩) l.length l.length) := by
  obtain ⟨xs, V, ho, hr⟩ := h
  by_cases hl : l = []
  · subst hl
    exact .empty _ _ (by simp) fun h => by cases h
  · refine .full l g 0 l.length V ⟨Nat.le_refl _, fun o => ho.frozenAt o⟩ hl (Nat.le_refl _) hm hs (fun i hi => ?_) fun i hi => (hr i hi hi).2.imp fun b hb _ => ⟨by have := hb.1; omega, hb.2⟩
    obtain ⟨⟨x0, x1, x2⟩, _⟩ := hr i hi hi
    rw [Nat.zero_add]
    exact ⟨by rw [ho.cellAt _ (by omega), x0], by rw [ho.cellAt _ (by omega), x1], by rw [ho.cellAt _ (by omega), x2]⟩

theorem infoRex : (Tryd.prog.info? 26).map (fun i => (i.zero, i.size, i.bytes)) = some (some (rx 0 ⟨#[]⟩ (.slice none 0 0)), 3, 48) := by kernel_rfl

theorem szs_sub (l : List Tr) (k : Nat) (h : k < l.length) : szs l[k].l ≤ szs l := by
  have := szs_take l k h
  have := szs_take_le l (k + 1)
  have := l[k].sz_eq
  omega

theorem toRexS_step (l : List Tr) (ih : ∀ x ∈ l, ToS x.l) : ToS l := by
  intro B v w h hsz
  have hS : l ≠ [] → ∀ i (h : i < l.length), l[i].s.size ≤ maxLen := by
    intro hl i hi
    obtain ⟨ao, cap, rfl, -⟩ := h.len
    obtain ⟨_, _, _, _, hel⟩ := h.elems hl
    exact (hel i hi).2.2
  obtain ⟨ao, cap, rfl, hl1, hl2, hl3⟩ := h.len
  have hlen := szs_length l
  obtain ⟨i0, hi, hz0, hz1, hz2⟩ := info_parts infoRex
  have HI := Hid.mk ih
  have HH := Hid.mk h
  have HS := Hid.mk hS
  have hln : l.length ≤ 1048576 := by omega
  clear ih h hl2 hS
  go_enter Tryd.func63, Tryd.ntmps63
  go_wp2_with (at_make; refine wpList_make_full _ rfl _ _ 24 rfl w.heap.size 26 i0 _ 3 Tryd.underlying24 hi hz0 hz1 _ _ _ _ l.length rfl rfl rfl rfl (by rw [hz2]; omega) (by unfold maxLen; omega) (by simp) ?_)
  intro w1 hown hgrow
  have hbel : Below w.heap.size w w1 := (Below.refl _ _).grown hgrow (Nat.le_refl _) (by simp)
  have hg1 : w.heap.size < w1.heap.size := (World.ownsRow.lt hown _ rfl).2
  have HF : Fill w1 w.heap.size 26 l 0 := ⟨_, fun _ => .bool true, hown, fun i _ h => absurd h (Nat.not_lt_zero i)⟩
  clear hgrow hown hi hz0 hz1 hz2
  go_wp2
  go_loopw [4] (fun i wr => ∃ (k : Nat), k ≤ l.length ∧ i = .int .i64 k ∧ Hid (Fill wr w.heap.size 26 l k) ∧ Below w.heap.size w wr ∧ w.heap.size < wr.heap.size) (fun i _ => l.length - (intOf i).toNat)
  case atStart => exact ⟨0, Nat.zero_le _, rfl, HF, hbel, hg1⟩
  case round =>
    obtain ⟨k, hk, rfl, HFr, hbelr, hgr⟩ := hrel
    clear HF hbel hg1
    by_cases hkl : k < l.length
    · obtain ⟨b, off, V, rfl, hel⟩ := HH.out.elems (by intro hn; rw [hn] at hkl; simp at hkl)
      obtain ⟨h3, hsub, hss⟩ := hel k hkl
      have hto : ToS l[k].l := HI.out _ (List.getElem_mem hkl)
      have hsk := szs_sub l k hkl
      have HST := Hid.mk (fun (w2 : World) (u : Value) (h1 : Fill w2 w.heap.size 26 l k) (h2 : Rl w2 (nf w2 (w.heap.size + 1)) l[k].l u) => h1.step hkl h2)
      obtain ⟨t, ht⟩ : ∃ t, l[k] = t := ⟨_, rfl⟩
      rw [ht] at h3 hsub hss hto hsk HST
      clear ht hel
      obtain ⟨c0, c1, c2⟩ := h3.kept (w' := wr) (hbelr.block b (World.block_lt_of_cell? w _ h3.1))
      have HC := Hid.mk (toRex_of t hto B (V k) wr (hsub.grow hbelr) (by omega))
      have hi1 : (k : Int) < (l.length : Int) := by omega
      clear hsub hss hto h3 HI HH
      go_wp2_with fail
      refine HC.out.mono ?_
      rintro e w2 ⟨u, rfl, hr, hb2⟩
      have HF2 := HFr.out.grow hb2
      have H3 := Hid.mk (HST.out w2 u HF2 (hr.imp fun b hb _ => ⟨by have := hb.1; omega, hb.2⟩))
      have B2 := hbelr.trans (hb2.mono hbelr.size)
      have hg2 : w.heap.size < w2.heap.size := Nat.lt_of_lt_of_le hgr hb2.size
      obtain ⟨xs, V', hown2, -⟩ := HF2
      have f0 := hown2.frozenAt (k * 3)
      have f1 := hown2.frozenAt (k * 3 + 1)
      have f2 := hown2.frozenAt (k * 3 + 2)
      have hxl : xs.length = l.length * 3 := hown2.1
      have o0 := hown2.cellAt (k * 3) (by omega)
      have o1 := hown2.cellAt (k * 3 + 1) (by omega)
      have o2 := hown2.cellAt (k * 3 + 2) (by omega)
      obtain ⟨y0, e0⟩ : ∃ y, xs[k * 3]? = some y := ⟨_, List.getElem?_eq_getElem (by omega)⟩
      obtain ⟨y1, e1⟩ : ∃ y, xs[k * 3 + 1]? = some y := ⟨_, List.getElem?_eq_getElem (by omega)⟩
      obtain ⟨y2, e2⟩ : ∃ y, xs[k * 3 + 2]? = some y := ⟨_, List.getElem?_eq_getElem (by omega)⟩
      rw [e0] at o0
      rw [e1] at o1
      rw [e2] at o2
      clear e0 e1 e2
      obtain ⟨au, cu, rfl, -, -, -⟩ := hr.len
      have hk0 : 0 < l.length := by omega
      clear hown2 HFr HC HST hb2 hbelr hr c0 c1 c2 hxl
      go_wp2
      go_roundw
      case rel => exact ⟨k + 1, by omega, by go_num, H3, ((B2.setCell (Nat.le_refl _) _).setCell (Nat.le_refl _) _).setCell (Nat.le_refl _) _, by simpa using hg2⟩
      case measure => simp [intOf]; omega
    · have e : k = l.length := by omega
      subst e
      have HR := Hid.mk (fun hS => HFr.out.rl (by unfold maxLen; omega) hS)
      have HR2 : Hid (Rl wr (nf wr w.heap.size) l (.slice (some ⟨w.heap.size, 0, none⟩) l.length l.length)) := HR.out (by
        intro i hi
        exact HS.out (by intro hn; rw [hn] at hi; simp at hi) i hi)
      clear HR HFr HS HI HH
      go_wp2
      go_ret
      exact ⟨_, rfl, HR2.out, hbelr⟩

theorem toRexS_any (l : List Tr) : ToS l := (Tr.ind (P := fun t => ToS t.l) (fun t ih => toRexS_step t.l ih) (.node 0 ⟨#[]⟩ l))
theorem toRexF_any (t : Tr) (B : Nat → Prop) (v : Value) (w : World) (h : Rl w B t.l v) (hs : szs t.l ≤ 1048576) :
    Calls Tryd.prog 31 #[rx t.k t.s v] w fun e w' => ∃ u, e = .returned (rx t.k t.s u) ∧ Rl w' (nf w' (w.heap.size + 1)) t.l u ∧ Below w.heap.size w w' := toRex_of t (toRexS_any t.l) B v w h hs
theorem toRex_any (t : Tr) (B : Nat → Prop) (v : Value) (w : World) (h : Rl w B t.l v) (hs : szs t.l ≤ 1048576) :
    Calls Tryd.prog 31 #[rx t.k t.s v] w fun e w' => ∃ u, e = .returned (rx t.k t.s u) ∧ Rl w' (newFrom (w.heap.size + 1)) t.l u ∧ Below w.heap.size w w' := by
  refine (toRexF_any t B v w h hs).mono ?_
  rintro e w' ⟨u, rfl, hr, hb⟩
  exact ⟨u, rfl, hr.imp fun b hb _ => hb.1, hb⟩
end Go.Proofs.YtapniafhcagogaaDoor
