/- The model's l4Put: a number more in a rising list. -/
import Derived.Test.YteomhjoodnjfbaaSpreadI
namespace Go.Proofs.Yteomhjoodnjfbaa
open Go.RowKit
set_option maxRecDepth 8000

/-- Rising. -/
def Ris (l : List Int) : Prop := l.Pairwise (· < ·)
/-- A list with one number more. -/
def PutL (xs : List Int) (n : Int) (ys : List Int) : Prop := Ris ys ∧ (∀ j, j ∈ ys ↔ j ∈ xs ∨ j = n) ∧ ys.length = xs.length + (if n ∈ xs then 0 else 1)

/-- Moved by one from i on. -/
def shL (xs : List Int) (i : Nat) : List Int := (xs ++ [0]).take (i + 1) ++ xs.drop i
theorem shL_len (xs : List Int) (i : Nat) (h : i ≤ xs.length) : (shL xs i).length = xs.length + 1 := by simp [shL]; omega
theorem shL_end (xs : List Int) : shL xs xs.length = xs ++ [0] := by
  unfold shL
  rw [List.drop_length, List.append_nil, List.take_of_length_le (by simp)]
theorem shL_get (xs : List Int) (i : Nat) (h : i + 1 ≤ xs.length) : (shL xs (i + 1))[i]? = some (xs.getD i 0) := by
  unfold shL
  rw [List.getElem?_append_left (by simp; omega), List.getElem?_take_of_lt (by omega), List.getElem?_append_left (by omega)]
  simp [List.getD, show i < xs.length by omega]
theorem shL_step (xs : List Int) (i : Nat) (h : i + 1 ≤ xs.length) : (shL xs (i + 1)).set (i + 1) (xs.getD i 0) = shL xs i := by
  have hi : i < xs.length := by omega
  apply List.ext_getElem?
  intro j
  unfold shL
  rcases Nat.lt_trichotomy j (i + 1) with hj | hj | hj
  · rw [List.getElem?_set_ne (by omega), List.getElem?_append_left (by simp; omega), List.getElem?_append_left (by simp; omega), List.getElem?_take_of_lt (by omega), List.getElem?_take_of_lt (by omega)]
  · subst hj
    rw [List.getElem?_set_self (by simp; omega), List.getElem?_append_right (by simp; omega)]
    simp [List.getD, hi]
    rw [show i + (i - min i xs.length) = i by omega]
    simp [hi]
  · rw [List.getElem?_set_ne (by omega), List.getElem?_append_right (by simp; omega), List.getElem?_append_right (by simp; omega)]
    simp
    congr 1
    omega
theorem shL_put (xs : List Int) (k : Nat) (n : Int) (h : k ≤ xs.length) : (shL xs k).set k n = xs.take k ++ n :: xs.drop k := by
  apply List.ext_getElem?
  intro j
  unfold shL
  rcases Nat.lt_trichotomy j k with hj | hj | hj
  · rw [List.getElem?_set_ne (by omega), List.getElem?_append_left (by simp; omega), List.getElem?_append_left (by simp; omega), List.getElem?_take_of_lt (by omega), List.getElem?_take_of_lt (by omega), List.getElem?_append_left (by omega)]
  · subst hj
    rw [List.getElem?_set_self (by simp; omega), List.getElem?_append_right (by simp; omega)]
    simp [Nat.min_eq_left h]
  · rw [List.getElem?_set_ne (by omega), List.getElem?_append_right (by simp; omega), List.getElem?_append_right (by simp; omega)]
    simp
    rw [show j - min k xs.length = (j - (k + 1)) + 1 by omega, List.getElem?_cons_succ, List.getElem?_drop]
    congr 1
    omega
theorem PutL.mid {xs : List Int} {k : Nat} {n : Int} (hr : Ris xs) (hk : k ≤ xs.length) (h1 : ∀ j (h : j < xs.length), k ≤ j → n < xs[j]) (h2 : ∀ j (h : j < xs.length), j < k → xs[j] < n) : PutL xs n (xs.take k ++ n :: xs.drop k) := by
  have hn : n ∉ xs := by
    intro hm
    obtain ⟨j, hj, e⟩ := List.getElem_of_mem hm
    by_cases hjk : j < k
    · have := h2 j hj hjk; omega
    · have := h1 j hj (by omega); omega
  have hsplit : xs = xs.take k ++ xs.drop k := (List.take_append_drop k xs).symm
  have ht : ∀ y ∈ xs.take k, y < n := by
    intro y hy
    obtain ⟨j, hj, rfl⟩ := List.getElem_of_mem hy
    simp at hj
    rw [List.getElem_take]
    exact h2 j (by omega) (by omega)
  have hd : ∀ y ∈ xs.drop k, n < y := by
    intro y hy
    obtain ⟨j, hj, rfl⟩ := List.getElem_of_mem hy
    simp at hj
    rw [List.getElem_drop]
    exact h1 (k + j) (by omega) (by omega)
  refine ⟨?_, fun j => ?_, ?_⟩
  · unfold Ris at hr ⊢
    rw [hsplit, List.pairwise_append] at hr
    rw [List.pairwise_append, List.pairwise_cons]
    refine ⟨hr.1, ⟨hd, hr.2.1⟩, fun a ha b hb => ?_⟩
    rcases List.mem_cons.1 hb with rfl | hb
    · exact ht a ha
    · exact hr.2.2 a ha b hb
  · rw [List.mem_append, List.mem_cons]
    conv => rhs; rw [hsplit, List.mem_append]
    constructor
    · rintro (h | h | h)
      · exact .inl (.inl h)
      · exact .inr h
      · exact .inl (.inr h)
    · rintro ((h | h) | h)
      · exact .inl h
      · exact .inr (.inr h)
      · exact .inr (.inl h)
  · rw [if_neg hn]
    simp
    omega
theorem PutL.there {xs : List Int} {n : Int} (hr : Ris xs) (h : n ∈ xs) : PutL xs n xs := by
  refine ⟨hr, fun j => ⟨.inl, ?_⟩, by rw [if_pos h]; rfl⟩
  rintro (h' | rfl)
  · exact h'
  · exact h
theorem Ris.lt_of {xs : List Int} (hr : Ris xs) {i j : Nat} (hij : i < j) (hj : j < xs.length) : xs[i] < xs[j] := (List.pairwise_iff_getElem.1 hr) i j (by omega) hj hij

theorem OwnZ.put {w : World} {base g c m : Nat} {xs : List Int} (h : OwnZ w base (.slice (some ⟨g, 0, none⟩) m c) xs) (hm : xs.length = m) (j : Nat) (x : Int) : OwnZ (w.setCell ⟨g, j, none⟩ (.int .i64 x)) base (.slice (some ⟨g, 0, none⟩) m c) (xs.set j x) := by
  subst hm
  unfold OwnZ at h ⊢
  rw [List.length_set, List.map_set]
  exact (World.ownsRow.stored h j (.int .i64 x)).1
theorem OwnZ.cell {w : World} {base g c m : Nat} {xs : List Int} (h : OwnZ w base (.slice (some ⟨g, 0, none⟩) m c) xs) {j : Nat} {x : Int} (hj : xs[j]? = some x) : w.cell? ⟨g, j, none⟩ = some (.int .i64 x) := by
  have hl : j < xs.length := (List.getElem?_eq_some_iff.1 hj).1
  have h' : w.ownsRow base 3 1 (.slice (some ⟨g, 0, none⟩) m c) xs.length (xs.map (Value.int .i64)) := h
  have e : m = xs.length := by
    rcases h'.2 with ⟨h1, _⟩ | ⟨g', cap', cur, h1, _⟩
    · simp at h1
    · simp at h1; exact h1.2.1
  subst e
  rw [World.ownsRow.cellAt h' j (by simpa using hl)]
  simp [hj]
theorem OwnZ.fr {w : World} {base g c m : Nat} {xs : List Int} (h : OwnZ w base (.slice (some ⟨g, 0, none⟩) m c) xs) (j : Nat) : w.frozen? ⟨g, j, none⟩ = false := by
  rcases h.2 with ⟨h1, _⟩ | ⟨g', cap', cur, h1, _, hg, _⟩
  · simp at h1
  · simp only [Value.slice.injEq, Option.some.injEq, Addr.mk.injEq, and_true] at h1
    obtain ⟨rfl, _⟩ := h1
    exact frozen_of_row w g j _ _ hg
theorem OwnZ.form {w : World} {base : Nat} {v : Value} {xs : List Int} (h : OwnZ w base v xs) (hne : xs ≠ []) : ∃ g c, v = .slice (some ⟨g, 0, none⟩) xs.length c ∧ xs.length ≤ c ∧ c ≤ maxLen := by
  rcases h.2 with ⟨_, h1⟩ | ⟨g, cap, cur, h1, _, _, h2, h3, _⟩
  · exact absurd (List.length_eq_zero_iff.1 h1) hne
  · exact ⟨g, cap, h1, h2, h3⟩
theorem OwnZ.blk {w : World} {base g c m : Nat} {xs : List Int} (h : OwnZ w base (.slice (some ⟨g, 0, none⟩) m c) xs) : base ≤ g := (World.ownsRow.lt h g rfl).1

set_option maxHeartbeats 1000000 in
theorem l4Put_any (xs : List Int) (n : Int) (u : Value) (w : World) (h : Iz w u xs) (hr : Ris xs) (hlen : xs.length ≤ 1000000) :
    Calls Try.prog 59 #[u, .int .i64 n] w fun e w' => ∃ x ys, e = .returned x ∧ OwnZ w' w.heap.size x ys ∧ PutL xs n ys ∧ Below w.heap.size w w' := by
  have I0 := Hid.mk (h.grow ((Below.refl _ _).alloc (Nat.le_refl _) (.cells #[] 3)))
  obtain ⟨ao, cap, rfl, hl, hm, -, -⟩ := h
  unfold maxLen at hm
  have O0 : Hid (OwnZ (w.alloc (.cells #[] 3)) w.heap.size (.slice (some ⟨w.heap.size, 0, none⟩) 0 0) []) := World.ownsRow_lit w #[] 0 (Nat.le_refl _) (by decide) rfl
  have B0 : Hid (Below w.heap.size w (w.alloc (.cells #[] 3))) := (Below.refl _ _).alloc (Nat.le_refl _) _
  go_enter Try.func59, Try.ntmps59
  go_wp2_with (at_builtin; refine wpList_append_z rfl _ _ rfl w.heap.size _ _ [] xs rfl O0.out rfl I0.out B0.out (by simp) (by simp; omega) ?_)
  intro v1 w1 hown1 hb1 hs1 _ _
  obtain ⟨a1, c1, rfl, hl1, hm1, -, hcell1⟩ := hown1.iz
  unfold maxLen at hm1
  have O1 := Hid.mk hown1
  have B1 := Hid.mk hb1
  have HC := Hid.mk hcell1
  have HRis := Hid.mk hr
  clear hown1 hb1 hcell1 I0 O0 B0 hr
  go_wp2
  go_loopw [6] (fun q wr => ∃ (k : Nat), k ≤ xs.length ∧ q = .int .i64 k ∧ Hid (∀ j (h : j < xs.length), k ≤ j → n < xs[j]) ∧ Hid (Below w1.heap.size w1 wr)) (fun q _ => (intOf q).toNat)
  case atStart => exact ⟨xs.length, Nat.le_refl _, rfl, fun j h1 h2 => by omega, Below.refl _ _⟩
  case round =>
    obtain ⟨k, hk, rfl, HK, HB⟩ := hrel
    have O2 := Hid.mk (O1.out.grow HB.out)
    by_cases hk0 : k = 0
    · have hk0' : ¬ 0 < (k : Int) := by omega
      have HLo : Hid (∀ j (h : j < xs.length), j < k → xs[j] < n) := fun j _ hj => by omega
      clear hk0
      have HP : Hid (PutL xs n (xs.take k ++ n :: xs.drop k)) := PutL.mid HRis.out hk HK.out HLo.out
      have B2 := Hid.mk (B1.out.trans (HB.out.mono hs1))
      have hs2 := B2.out.size
      have I2 := Hid.mk (Iz.one wr 0)
      have B3 : Hid (Below w.heap.size w (wr.alloc (.cells #[.int .i64 0] 3))) := B2.out.alloc hs2 _
      clear HK HB HLo HC O1 B1 HRis
      go_wp2_with (at_builtin; refine wpList_append_z rfl _ _ rfl w.heap.size _ _ xs [0] rfl (O2.out.alloc _) rfl I2.out B3.out (by simp; omega) (by simp; omega) ?_)
      intro v3 w3 hown3 hb3 hs3 _ _
      obtain ⟨g, c3, rfl, hcm⟩ := hown3.form (by simp)
      rw [List.length_append] at hown3 hcm ⊢
      simp only [List.length_cons, List.length_nil, Nat.zero_add] at hown3 hcm ⊢
      have O3 : Hid (OwnZ w3 w.heap.size (.slice (some ⟨g, 0, none⟩) (xs.length + 1) c3) (shL xs xs.length)) := by show OwnZ _ _ _ _; rw [shL_end]; exact hown3
      have B4 := Hid.mk hb3
      have hgb := hown3.blk
      unfold maxLen at hcm
      clear hown3 hb3 I2 B3 O2 B2
      go_wp2
      go_loopw [7] (fun q wq => ∃ (i : Nat), k ≤ i ∧ i ≤ xs.length ∧ q = .int .i64 i ∧ Hid (OwnZ wq w.heap.size (.slice (some ⟨g, 0, none⟩) (xs.length + 1) c3) (shL xs i)) ∧ Hid (Below w.heap.size w wq)) (fun q _ => (intOf q).toNat)
      case atStart => exact ⟨xs.length, hk, Nat.le_refl _, by go_num, O3, B4⟩
      case round =>
        obtain ⟨i, hki, hil, rfl, HO, HB⟩ := hrel
        clear O3 B4
        by_cases hlt : k < i
        · obtain ⟨i', rfl⟩ : ∃ i', i = i' + 1 := ⟨i - 1, by omega⟩
          have d0 := HO.out.cell (shL_get xs i' hil)
          have d1 := HO.out.fr (i' + 1)
          obtain ⟨c', hc'⟩ : ∃ c', (shL xs (i' + 1))[i' + 1]? = some c' := ⟨_, List.getElem?_eq_getElem (by rw [shL_len xs _ hil]; omega)⟩
          have d2 := HO.out.cell hc'
          have HO2 : Hid (OwnZ (wr.setCell ⟨g, i' + 1, none⟩ (.int .i64 (xs.getD i' 0))) w.heap.size (.slice (some ⟨g, 0, none⟩) (xs.length + 1) c3) (shL xs i')) := by
            show OwnZ _ _ _ _
            rw [← shL_step xs i' hil]
            exact HO.out.put (shL_len xs _ hil) _ _
          have HB2 : Hid (Below w.heap.size w (wr.setCell ⟨g, i' + 1, none⟩ (.int .i64 (xs.getD i' 0)))) := HB.out.setCell (p := ⟨g, i' + 1, none⟩) hgb _
          obtain ⟨cv, hcv⟩ : ∃ cv, xs.getD i' 0 = cv := ⟨_, rfl⟩
          rw [hcv] at d0 HO2 HB2
          have e1 : ((i' + 1 : Nat) : Int) - 1 = (i' : Int) := by omega
          have hlt' : (k : Int) < ((i' + 1 : Nat) : Int) := by omega
          clear hcv hc' HO HB
          go_wp2
          go_roundw
          case rel => exact ⟨i', by omega, by omega, by go_num, HO2, HB2⟩
          case measure => simp [intOf]
        · obtain rfl : i = k := by omega
          have d1 := HO.out.fr i
          obtain ⟨c', hc'⟩ : ∃ c', (shL xs i)[i]? = some c' := ⟨_, List.getElem?_eq_getElem (by rw [shL_len xs _ hil]; omega)⟩
          have d2 := HO.out.cell hc'
          have HO2 : Hid (OwnZ (wr.setCell ⟨g, i, none⟩ (.int .i64 n)) w.heap.size (.slice (some ⟨g, 0, none⟩) (xs.length + 1) c3) (xs.take i ++ n :: xs.drop i)) := by
            show OwnZ _ _ _ _
            rw [← shL_put xs i n hil]
            exact HO.out.put (shL_len xs _ hil) _ _
          have HB2 : Hid (Below w.heap.size w (wr.setCell ⟨g, i, none⟩ (.int .i64 n))) := HB.out.setCell (p := ⟨g, i, none⟩) hgb _
          clear hc' HO HB
          go_wp2
          go_ret
          exact ⟨_, _, rfl, HO2.out, HP.out, HB2.out⟩
    · obtain ⟨k', hk'⟩ : ∃ k', k = k' + 1 := ⟨k - 1, by omega⟩
      obtain ⟨b, off, rfl, hcell⟩ := HC.out (by intro h0; rw [h0] at hk; simp at hk; omega)
      have e1 : (k : Int) - 1 = (k' : Int) := by omega
      have d0 : wr.cell? ⟨b, off + k', none⟩ = some (.int .i64 (xs.getD k' 0)) := by
        rw [HB.out.cell (p := ⟨b, off + k', none⟩) (World.block_lt_of_cell? w1 _ (hcell k' (by omega)))]
        exact hcell k' (by omega)
      obtain ⟨c, hc⟩ : ∃ c, xs.getD k' 0 = c := ⟨_, rfl⟩
      have hk'l : k' < xs.length := by omega
      have HX : Hid (xs[k'] = c) := by show _ = _; rw [← hc]; simp [List.getD, hk'l]
      rw [hc] at d0
      have hk0' : 0 < (k : Int) := by omega
      have hkb : ((k' : Nat) : Int) < (xs.length : Int) := by omega
      clear hc hcell
      by_cases hcn : n ≤ c
      · by_cases hce : c = n
        · subst hce
          have HP : Hid (PutL xs c xs) := PutL.there HRis.out (by rw [← HX.out]; exact List.getElem_mem hk'l)
          have B2 := Hid.mk (B1.out.trans (HB.out.mono hs1))
          clear HX HK HB HC O1 B1 HRis
          go_wp2
          go_ret
          exact ⟨_, _, rfl, O2.out, HP.out, B2.out⟩
        · have hce' : (c == n) = false := beq_eq_false_iff_ne.2 hce
          have HK2 : Hid (∀ j (h : j < xs.length), k' ≤ j → n < xs[j]) := by
            intro j hj hjk
            by_cases hjj : j = k'
            · subst hjj; have := HX.out; omega
            · exact HK.out j hj (by omega)
          clear HX HK
          go_wp2
          go_roundw
          case rel => exact ⟨k', by omega, by go_num, HK2, HB⟩
          case measure => simp [intOf]; omega
      have HLo : Hid (∀ j (h : j < xs.length), j < k → xs[j] < n) := by
        intro j hj hjk
        by_cases hjj : j = k'
        · subst hjj; have := HX.out; omega
        · have h1 := HRis.out.lt_of (i := j) (j := k') (by omega) hk'l
          have := HX.out
          omega
      clear HX hk' hk0
      have HP : Hid (PutL xs n (xs.take k ++ n :: xs.drop k)) := PutL.mid HRis.out hk HK.out HLo.out
      have B2 := Hid.mk (B1.out.trans (HB.out.mono hs1))
      have hs2 := B2.out.size
      have I2 := Hid.mk (Iz.one wr 0)
      have B3 : Hid (Below w.heap.size w (wr.alloc (.cells #[.int .i64 0] 3))) := B2.out.alloc hs2 _
      clear HK HB HLo HC O1 B1 HRis
      go_wp2_with (at_builtin; refine wpList_append_z rfl _ _ rfl w.heap.size _ _ xs [0] rfl (O2.out.alloc _) rfl I2.out B3.out (by simp; omega) (by simp; omega) ?_)
      intro v3 w3 hown3 hb3 hs3 _ _
      obtain ⟨g, c3, rfl, hcm⟩ := hown3.form (by simp)
      rw [List.length_append] at hown3 hcm ⊢
      simp only [List.length_cons, List.length_nil, Nat.zero_add] at hown3 hcm ⊢
      have O3 : Hid (OwnZ w3 w.heap.size (.slice (some ⟨g, 0, none⟩) (xs.length + 1) c3) (shL xs xs.length)) := by show OwnZ _ _ _ _; rw [shL_end]; exact hown3
      have B4 := Hid.mk hb3
      have hgb := hown3.blk
      unfold maxLen at hcm
      clear hown3 hb3 I2 B3 O2 B2
      go_wp2
      go_loopw [7] (fun q wq => ∃ (i : Nat), k ≤ i ∧ i ≤ xs.length ∧ q = .int .i64 i ∧ Hid (OwnZ wq w.heap.size (.slice (some ⟨g, 0, none⟩) (xs.length + 1) c3) (shL xs i)) ∧ Hid (Below w.heap.size w wq)) (fun q _ => (intOf q).toNat)
      case atStart => exact ⟨xs.length, hk, Nat.le_refl _, by go_num, O3, B4⟩
      case round =>
        obtain ⟨i, hki, hil, rfl, HO, HB⟩ := hrel
        clear O3 B4
        by_cases hlt : k < i
        · obtain ⟨i', rfl⟩ : ∃ i', i = i' + 1 := ⟨i - 1, by omega⟩
          have d0 := HO.out.cell (shL_get xs i' hil)
          have d1 := HO.out.fr (i' + 1)
          obtain ⟨c', hc'⟩ : ∃ c', (shL xs (i' + 1))[i' + 1]? = some c' := ⟨_, List.getElem?_eq_getElem (by rw [shL_len xs _ hil]; omega)⟩
          have d2 := HO.out.cell hc'
          have HO2 : Hid (OwnZ (wr.setCell ⟨g, i' + 1, none⟩ (.int .i64 (xs.getD i' 0))) w.heap.size (.slice (some ⟨g, 0, none⟩) (xs.length + 1) c3) (shL xs i')) := by
            show OwnZ _ _ _ _
            rw [← shL_step xs i' hil]
            exact HO.out.put (shL_len xs _ hil) _ _
          have HB2 : Hid (Below w.heap.size w (wr.setCell ⟨g, i' + 1, none⟩ (.int .i64 (xs.getD i' 0)))) := HB.out.setCell (p := ⟨g, i' + 1, none⟩) hgb _
          obtain ⟨cv, hcv⟩ : ∃ cv, xs.getD i' 0 = cv := ⟨_, rfl⟩
          rw [hcv] at d0 HO2 HB2
          have e1 : ((i' + 1 : Nat) : Int) - 1 = (i' : Int) := by omega
          have hlt' : (k : Int) < ((i' + 1 : Nat) : Int) := by omega
          clear hcv hc' HO HB
          go_wp2
          go_roundw
          case rel => exact ⟨i', by omega, by omega, by go_num, HO2, HB2⟩
          case measure => simp [intOf]
        · obtain rfl : i = k := by omega
          have d1 := HO.out.fr i
          obtain ⟨c', hc'⟩ : ∃ c', (shL xs i)[i]? = some c' := ⟨_, List.getElem?_eq_getElem (by rw [shL_len xs _ hil]; omega)⟩
          have d2 := HO.out.cell hc'
          have HO2 : Hid (OwnZ (wr.setCell ⟨g, i, none⟩ (.int .i64 n)) w.heap.size (.slice (some ⟨g, 0, none⟩) (xs.length + 1) c3) (xs.take i ++ n :: xs.drop i)) := by
            show OwnZ _ _ _ _
            rw [← shL_put xs i n hil]
            exact HO.out.put (shL_len xs _ hil) _ _
          have HB2 : Hid (Below w.heap.size w (wr.setCell ⟨g, i, none⟩ (.int .i64 n))) := HB.out.setCell (p := ⟨g, i, none⟩) hgb _
          clear hc' HO HB
          go_wp2
          go_ret
          exact ⟨_, _, rfl, HO2.out, HP.out, HB2.out⟩
end Go.Proofs.Yteomhjoodnjfbaa
