/- RexText, the program's: appendChoices, appendRex, RexText. -/
import Derived.Test.YtgigalcajgjpnaaGreatRexTextI
namespace Go.Proofs.YtgigalcajgjpnaaGreat
open Go.RowKit
set_option maxRecDepth 8000

theorem tlA_snoc (f : Bool) (l : List Tr) (t : Tr) : tlA f (l ++ [t]) = tlA f l ++ ((if (f && l.isEmpty) = true then [] else [124]) ++ t.tl) := by
  induction l generalizing f with
  | nil => simp [tlA]
  | cons x r ih => rw [List.cons_append, tlA, ih, tlA]; simp
theorem tlA_take (l : List Tr) (k : Nat) (h : k < l.length) : tlA true (l.take (k + 1)) = tlA true (l.take k) ++ ((if k = 0 then [] else [124]) ++ l[k].tl) := by
  rw [List.take_succ_eq_append_getElem h, tlA_snoc]
  congr 2
  by_cases hk : k = 0
  · subst hk; simp
  · rw [if_neg hk, if_neg]
    have : (l.take k) ≠ [] := by intro e; have := congrArg List.length e; rw [List.length_take, List.length_nil] at this; omega
    simp [this]
theorem tlA_app (f : Bool) (a b : List Tr) : (tlA f a).length ≤ (tlA f (a ++ b)).length := by
  induction a generalizing f with
  | nil => rw [tlA]; simp
  | cons t r ih =>
    have := ih false
    rw [List.cons_append, tlA, tlA]
    simp only [List.length_append]
    omega
theorem tlA_le (l : List Tr) (k : Nat) : (tlA true (l.take k)).length ≤ (tlA true l).length := by
  have := tlA_app true (l.take k) (l.drop k)
  rwa [List.take_append_drop] at this
theorem tlC_take (l : List Tr) (k : Nat) (h : k < l.length) : tlC (l.take (k + 1)) = tlC (l.take k) ++ pcC l[k] := by
  have := jnL_take [] l k h
  rw [jnL_C, jnL_C] at this
  rw [this]; simp
theorem tlC_le (l : List Tr) (k : Nat) : (tlC (l.take k)).length ≤ (tlC l).length := by
  have := jnL_le [] l k
  rwa [jnL_C, jnL_C] at this

set_option maxHeartbeats 1000000 in
theorem choices_of (l : List Tr) (ih : ∀ x ∈ l, AppC x ∧ x.okT = true ∧ x.cnt ≤ 60) (base : Nat) (B : Nat → Prop) (b lv : Value) (xs : List Int) (w : World) (ho : Own w base b xs) (hbase0 : base ≤ w.heap.size)
    (hlen0 : xs.length + (tlA true l).length ≤ 100000) (h : Rl w B l lv) (hB : ∀ k, B k → k < w.heap.size ∧ b.ownBlock ≠ some k) :
    Calls Tryz.prog 226 #[b, lv] w fun e w' => ∃ b', e = .returned b' ∧ Own w' base b' (xs ++ tlA true l) ∧ Nigh w b w' b' := by
  obtain ⟨ao, cap, rfl, hl1, hl2, hl3⟩ := h.len
  have hm : cap ≤ 9223372036854775807 := by unfold maxLen at hl2; omega
  have HI := Hid.mk ih
  have HH := Hid.mk h
  have HB := Hid.mk hB
  have HO := Hid.mk ho
  have HL := Hid.mk hlen0
  clear ih h hl2 hB ho hlen0
  go_enter Tryz.func226, Tryz.ntmps226
  go_wp2
  go_loopw [0, 9] (fun v i wr => ∃ (k : Nat), k ≤ l.length ∧ i = .int .i64 k ∧ Hid (Own wr base v (xs ++ tlA true (l.take k))) ∧ Hid (Nigh w b wr v)) (fun _ i _ => l.length - (intOf i).toNat)
  case atStart => exact ⟨0, Nat.zero_le _, rfl, by show Own _ _ _ _; simpa [tlA] using HO.out, Nigh.refl _ _⟩
  case round =>
    obtain ⟨k, hk, rfl, hown, hni⟩ := hrel
    obtain ⟨v, rfl⟩ : ∃ v, v = u0 := ⟨_, rfl⟩
    by_cases hkl : k < l.length
    · obtain ⟨HR, HB2⟩ := hni.out.rl HH.out HB.out
      obtain ⟨bb, off, V, rfl, hel⟩ := HR.elems (by intro hn; rw [hn] at hkl; simp at hkl)
      obtain ⟨h3, hsub, hss⟩ := hel k hkl
      obtain ⟨hac, hok, hcn⟩ := HI.out _ (List.getElem_mem hkl)
      have HT := Hid.mk (tlA_take l k hkl)
      have hle := tlA_le l (k + 1)
      obtain ⟨t, ht⟩ : ∃ t, l[k] = t := ⟨_, rfl⟩
      rw [ht] at h3 hsub hss HT hac hok hcn
      clear ht hel
      obtain ⟨c0, c1, c2⟩ := h3
      obtain ⟨av, cv, hv, -, -, -⟩ := hsub.len
      rw [hv] at c2 hsub
      have hi1 : (k : Int) < (l.length : Int) := by omega
      have hbs : base ≤ wr.heap.size := Nat.le_trans hbase0 hni.out.size
      obtain ⟨o, ho⟩ : ∃ o : Obj, o = .cells #[.int .i64 t.k, .string t.s, .slice av t.l.length cv] 187 := ⟨_, rfl⟩
      have N1 : Nigh wr v (wr.alloc o) v := (Nigh.refl _ _).alloc _
      have O1 := hown.out.alloc o
      have hvb : v.ownBlock ≠ some wr.heap.size := fun e => by have := (hown.out.lt _ e).2; omega
      have hlnk : xs.length + (tlA true (l.take k)).length + (if k = 0 then 0 else 1) + t.tl.length ≤ 100000 := by
        have := HL.out
        rw [HT.out] at hle
        simp only [List.length_append] at hle
        by_cases hk0 : k = 0
        · rw [if_pos hk0] at hle ⊢; simp only [List.length_nil] at hle; omega
        · rw [if_neg hk0] at hle ⊢; simp only [List.length_cons, List.length_nil] at hle; omega
      by_cases k0 : k = 0
      · subst k0
        obtain ⟨R1, B1⟩ := N1.rl hsub HB2
        have HC := Hid.mk (hac hok hcn base B v _ _ _ O1 (Nat.le_trans hbs N1.size) (by rw [if_pos rfl] at hlnk; rw [List.length_append]; omega) R1 B1)
        have HNN := Hid.mk (hni.out.trans N1)
        have HT2 : Hid (∀ W u, Own W base u (xs ++ tlA true (l.take 0) ++ t.tl) → Own W base u (xs ++ tlA true (l.take (0 + 1)))) := by
          intro W u hu
          rw [HT.out]
          simpa using hu
        simp only [Nat.zero_mul, Nat.add_zero] at c0 c1 c2
        obtain ⟨tk, htk⟩ : ∃ tk, t.k = tk := ⟨_, rfl⟩
        obtain ⟨ts, hts⟩ : ∃ ts, t.s = ts := ⟨_, rfl⟩
        subst ho
        rw [htk, hts] at HC
        rw [htk, hts] at HNN
        rw [htk] at c0
        rw [hts] at c1
        clear HT hle hlnk R1 B1 N1 O1 hsub hss hac hok hcn htk hts hown hni hvb HB2 HR HI HH HB HO HL hv
        go_wp2_with fail
        refine HC.out.mono ?_
        rintro e w2 ⟨b2, rfl, ho2, hn2⟩
        have HO2 := Hid.mk (HT2.out _ _ ho2)
        have HN2 := Hid.mk (HNN.out.trans hn2)
        clear HC ho2 hn2 HT2 HNN c0 c1 c2
        go_wp2
        go_roundw
        case rel => exact ⟨0 + 1, by omega, by go_num, HO2, HN2⟩
        case measure => simp [intOf]; omega
      · have k0' : 0 < k := by omega
        simp only [if_neg k0] at hlnk
        have HT2 : Hid (∀ W u, Own W base u (xs ++ tlA true (l.take k) ++ [124] ++ t.tl) → Own W base u (xs ++ tlA true (l.take (k + 1)))) := by
          intro W u hu
          rw [HT.out, if_neg k0]
          simpa using hu
        have O2 := O1.alloc (.cells #[.int .u8 124] 5)
        have N2 := N1.alloc (.cells #[.int .u8 124] 5)
        have hb1 : Bs ((wr.alloc o).alloc (.cells #[.int .u8 124] 5)) (.slice (some ⟨wr.heap.size + 1, 0, none⟩) 1 1) [124] := by
          have := Bs.one (wr.alloc o) 124 (by omega) (by omega)
          rwa [show (wr.alloc o).heap.size = wr.heap.size + 1 by simp] at this
        have HC : Hid (∀ (W : World) (v2 : Value), Own W base v2 (xs ++ tlA true (l.take k) ++ [124]) → Nigh wr v W v2 →
            Calls Tryz.prog 219 #[v2, rx t.k t.s (.slice av t.l.length cv)] W fun e w' => ∃ b', e = .returned b' ∧ Own w' base b' (xs ++ tlA true (l.take k) ++ [124] ++ t.tl) ∧ Nigh W v2 w' b') := by
          intro W v2 hW hN
          obtain ⟨R1, B1⟩ := hN.rl hsub HB2
          exact hac hok hcn base B v2 _ _ W hW (Nat.le_trans hbs hN.size) (by simp only [List.length_append, List.length_cons, List.length_nil]; omega) R1 B1
        have HX : Hid (∀ (W : World) (v2 : Value), Nigh (wr.alloc o) v W v2 → ∀ j, W.cell? ⟨wr.heap.size, j, none⟩ = (wr.alloc o).cell? ⟨wr.heap.size, j, none⟩) := by
          intro W v2 hN j
          exact hN.cell (p := ⟨wr.heap.size, j, none⟩) (by simp) hvb
        have HNW := Hid.mk (fun (W : World) (v2 : Value) (hN : Nigh (wr.alloc o) v W v2) => N1.trans hN)
        have HNN := Hid.mk hni.out
        have hxl : (xs ++ tlA true (l.take k)).length + [(124 : Int)].length ≤ 1073741824 := by simp; omega
        have hbs2 : base ≤ ((wr.alloc o).alloc (.cells #[.int .u8 124] 5)).heap.size := by simp; omega
        have N3 : Nigh (wr.alloc o) v ((wr.alloc o).alloc (.cells #[.int .u8 124] 5)) v := (Nigh.refl _ _).alloc _
        obtain ⟨tk, htk⟩ : ∃ tk, t.k = tk := ⟨_, rfl⟩
        obtain ⟨ts, hts⟩ : ∃ ts, t.s = ts := ⟨_, rfl⟩
        subst ho
        rw [htk, hts] at HC HX HNW O2 N3 hb1 hbs2
        rw [htk] at c0
        rw [hts] at c1
        have HO2 := Hid.mk O2
        have HN3 := Hid.mk N3
        have Hb1 := Hid.mk hb1
        have Hxl := Hid.mk hxl
        have Hbs2 := Hid.mk hbs2
        clear HT hle hlnk N1 O1 O2 N2 N3 hb1 hxl hbs2 hsub hss hac hok hcn htk hts hown hni hvb HB2 HR HI HH HB HO HL k0 hv
        go_wp2_with (at_builtin; refine wpList_append_nigh rfl _ _ rfl base v _ _ (xs ++ tlA true (l.take k)) [124] rfl HO2.out rfl Hb1.out (by simp) HN3.out Hbs2.out Hxl.out ?_)
        intro v2 w2 ho2 hn2 hb2
        have hx := HX.out _ _ hn2
        have HW2 := Hid.mk (HNW.out _ _ hn2)
        have Ho2 : Hid (Own w2 base v2 (xs ++ tlA true (l.take k) ++ [124])) := by
          show Own _ _ _ _
          rw [List.append_assoc]; exact ho2
        clear ho2 hn2 HX HNW HO2 HN3 Hb1 Hxl Hbs2 hb2 c0 c1 c2
        go_wp2_with fail
        refine (HC.out _ _ Ho2.out HW2.out).mono ?_
        rintro e w3 ⟨b3, rfl, ho3, hn3⟩
        have HO3 := Hid.mk (HT2.out _ _ ho3)
        have HN4 := Hid.mk (HNN.out.trans (HW2.out.trans hn3))
        clear HC ho3 hn3 HT2 HNN HW2 Ho2 hx
        go_wp2
        go_roundw
        case rel => exact ⟨k + 1, by omega, by go_num, HO3, HN4⟩
        case measure => simp [intOf]; omega
    · have e : k = l.length := by omega
      subst e
      have HF : Hid (Own wr base v (xs ++ tlA true l)) := by have := hown.out; rw [List.take_length] at this; exact this
      clear hown
      go_wp2
      go_ret
      exact ⟨_, rfl, HF.out, hni.out⟩
end Go.Proofs.YtgigalcajgjpnaaGreat
