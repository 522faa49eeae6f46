/- Which regular expressions are right, as the program asks it. -/
import Derived.Test.YthifleacfhijnaaDoorRexDef
namespace Go.Proofs.YthifleacfhijnaaDoor
open Go.RowKit
set_option maxRecDepth 8000

theorem implRepeat_any (k : Int) (w : World) : Calls Tryd.prog 86 #[.int .i64 k] w fun e w' => e = .returned (.bool (repB k)) ∧ w' = w := by
  by_cases e1 : k = 6
  · subst e1
    go_enter Tryd.func86, Tryd.ntmps86
    go_wp2
    go_ret
    exact ⟨ret_b rfl, rfl⟩
  by_cases e2 : k = 7
  · subst e2
    go_enter Tryd.func86, Tryd.ntmps86
    go_wp2
    go_ret
    exact ⟨ret_b rfl, rfl⟩
  have H : Hid (repB k = (k == 8)) := by show _ = _; rw [repB, beq_eq_false_iff_ne.2 e1, beq_eq_false_iff_ne.2 e2]; rfl
  have b1 := beq_eq_false_iff_ne.2 e1
  have b2 := beq_eq_false_iff_ne.2 e2
  clear e1 e2
  go_enter Tryd.func86, Tryd.ntmps86
  go_wp2
  go_ret
  exact ⟨ret_b H.out.symm, rfl⟩

theorem kinds_yes {l : List Tr} {k : Nat} {q : Int} (h : k < l.length) (hk : l[k].k = q) : kinds l q = true := by
  unfold kinds
  rw [List.any_eq_true]
  exact ⟨l[k], List.getElem_mem h, by simpa using hk⟩
theorem kinds_no {l : List Tr} {q : Int} (h : ∀ j (hj : j < l.length), l[j].k ≠ q) : kinds l q = false := by
  unfold kinds
  rw [List.any_eq_false]
  intro x hx
  obtain ⟨j, hj, rfl⟩ := List.getElem_of_mem hx
  simpa using h j hj

theorem hasKind_any (l : List Tr) (q : Int) (B : Nat → Prop) (v : Value) (w : World) (h : Rl w B l v) :
    Calls Tryd.prog 85 #[v, .int .i64 q] w fun e w' => e = .returned (.bool (kinds l q)) ∧ Below w.heap.size w w' := by
  obtain ⟨ao, cap, rfl, hl1, hl2, hl3⟩ := h.len
  have hm : cap ≤ 9223372036854775807 := by unfold maxLen at hl2; omega
  have HH := Hid.mk h
  clear h hl2
  go_enter Tryd.func85, Tryd.ntmps85
  go_wp2
  go_loopw [9] (fun i wr => ∃ (k : Nat), k ≤ l.length ∧ i = .int .i64 k ∧ Hid (∀ j (hj : j < l.length), j < k → l[j].k ≠ q) ∧ Below w.heap.size w wr) (fun i _ => l.length - (intOf i).toNat)
  case atStart => exact ⟨0, Nat.zero_le _, rfl, fun j _ hj => absurd hj (Nat.not_lt_zero j), Below.refl _ _⟩
  case round =>
    obtain ⟨k, hk, rfl, Hk, hbel⟩ := hrel
    by_cases hkl : k < l.length
    · obtain ⟨b, off, V, rfl, hel⟩ := HH.out.elems (by intro hn; rw [hn] at hkl; simp at hkl)
      obtain ⟨h3, hsub, hss⟩ := hel k hkl
      have HY := Hid.mk (fun hq => kinds_yes (q := q) hkl hq)
      have HN : Hid (l[k].k ≠ q → ∀ j (hj : j < l.length), j < k + 1 → l[j].k ≠ q) := by
        intro hne j hj hj1
        by_cases hj2 : j < k
        · exact Hk.out j hj hj2
        · obtain rfl : j = k := by omega
          exact hne
      obtain ⟨t, ht⟩ : ∃ t, l[k] = t := ⟨_, rfl⟩
      rw [ht] at h3 hsub hss HY HN
      clear ht hel
      obtain ⟨c0, c1, c2⟩ := h3.kept (w' := wr) (hbel.block b (World.block_lt_of_cell? w _ h3.1))
      obtain ⟨av, cv, hv, -, -, -⟩ := hsub.len
      rw [hv] at c2
      have hi1 : (k : Int) < (l.length : Int) := by omega
      have hs1 := hbel.size
      clear hsub hss h3 hv
      by_cases hq : t.k = q
      · have HR : Hid (kinds l q = true) := HY.out hq
        have hb : (t.k == q) = true := by simpa using hq
        clear HY HN Hk hq
        go_wp2
        go_ret
        exact ⟨ret_b HR.out.symm, hbel.alloc hs1 _⟩
      · have HR := Hid.mk (HN.out hq)
        have hb : (t.k == q) = false := by simpa using hq
        clear HY HN Hk hq
        go_wp2
        go_roundw
        case rel => exact ⟨k + 1, by omega, by go_num, HR, hbel.alloc hs1 _⟩
        case measure => simp [intOf]; omega
    · have HR : Hid (kinds l q = false) := kinds_no fun j hj => Hk.out j hj (by omega)
      clear Hk
      go_wp2
      go_ret
      exact ⟨ret_b HR.out.symm, hbel⟩

theorem nodeB1 {t : Tr} (h : t.k = 1) : nodeB t = (setB t.s 1 && decide (t.l.length = 0)) := by rw [nodeB, if_pos h]
theorem nodeB3 {t : Tr} (h : t.k = 3) : nodeB t = (setB t.s 10 && decide (t.l.length = 0)) := by rw [nodeB, if_neg (by omega), if_pos h]
theorem nodeB0 {t : Tr} (h : t.k = 2 ∨ t.k = 9 ∨ t.k = 10 ∨ t.k = 11) : nodeB t = (t.s.toList.isEmpty && decide (t.l.length = 0)) := by rw [nodeB, if_neg (by omega), if_neg (by omega), if_pos h]
theorem nodeB4 {t : Tr} (h : t.k = 4 ∨ t.k = 5) : nodeB t = (t.s.toList.isEmpty && decide (2 ≤ t.l.length) && decide (t.l.length ≤ 8) && !kinds t.l t.k) := by
  rw [nodeB, if_neg (by omega), if_neg (by omega), if_neg (by omega), if_pos h]
theorem nodeB6 {t : Tr} (h : t.k = 6 ∨ t.k = 7 ∨ t.k = 8) : nodeB t = (t.s.toList.isEmpty && decide (t.l.length = 1) && !repB (headK t.l)) := by
  rw [nodeB, if_neg (by omega), if_neg (by omega), if_neg (by omega), if_neg (by omega), if_pos h]
theorem nodeBx {t : Tr} (h : t.k < 1 ∨ 11 < t.k) : nodeB t = false := by
  rw [nodeB, if_neg (by omega), if_neg (by omega), if_neg (by omega), if_neg (by omega), if_neg (by omega)]

theorem len0 (l : List Tr) : ((l.length : Int) == 0) = decide (l.length = 0) := by
  by_cases h : l.length = 0
  · rw [decide_eq_true h, h]; rfl
  · rw [decide_eq_false h]; exact beq_eq_false_iff_ne.2 (by omega)

set_option maxHeartbeats 2000000 in
theorem implNode_any (t : Tr) (B : Nat → Prop) (v : Value) (w : World) (h : Rl w B t.l v) (hs : t.s.size ≤ maxLen) :
    Calls Tryd.prog 74 #[rx t.k t.s v] w fun e w' => e = .returned (.bool (nodeB t)) ∧ Below w.heap.size w w' := by
  have HR1 := Hid.mk (fun w => implRising_any t.s 1 w hs)
  have HR10 := Hid.mk (fun w => implRising_any t.s 10 w hs)
  have H0 := Hid.mk (fun h => nodeB0 (t := t) h)
  have H1 := Hid.mk (fun h => nodeB1 (t := t) h)
  have H3 := Hid.mk (fun h => nodeB3 (t := t) h)
  have H4 := Hid.mk (fun h => nodeB4 (t := t) h)
  have H6 := Hid.mk (fun h => nodeB6 (t := t) h)
  have HX := Hid.mk (fun h => nodeBx (t := t) h)
  obtain ⟨nb, hnb⟩ : ∃ nb, nodeB t = nb := ⟨_, rfl⟩
  obtain ⟨k, hk⟩ : ∃ k, t.k = k := ⟨_, rfl⟩
  obtain ⟨s, hsn⟩ : ∃ s, t.s = s := ⟨_, rfl⟩
  obtain ⟨l, hln⟩ : ∃ l, t.l = l := ⟨_, rfl⟩
  rw [hk, hsn, hnb]
  rw [hnb, hk, hsn, hln] at H0 H1 H3 H4 H6
  rw [hnb, hk] at HX
  rw [hsn] at hs HR1 HR10
  rw [hln] at h
  clear hk hsn hln hnb
  have HL0 := Hid.mk (len0 l)
  obtain ⟨ao, cap, rfl, hl1, hl2, hl3⟩ := h.len
  have hm : cap ≤ 9223372036854775807 := by unfold maxLen at hl2; omega
  have HH := Hid.mk h
  have HK := Hid.mk (fun (w' : World) (hb : Below w.heap.size w w') => hasKind_any l k B _ w' (h.grow hb))
  clear h hl2
  have B0 : Below w.heap.size w (w.alloc (.cells #[.int .i64 k, .string s, .slice ao l.length cap] 26)) := (Below.refl _ _).alloc (Nat.le_refl _) _
  by_cases k2 : k = 2
  · subst k2
    have HN := Hid.mk (H0.out (by omega))
    by_cases he : s.toList.isEmpty = true
    · have HR : Hid (((l.length : Int) == 0) = nb) := by show _ = _; rw [HN.out, he, HL0.out]; rfl
      clear H0 H1 H3 H4 H6 HX HN
      go_enter Tryd.func74, Tryd.ntmps74
      go_wp2
      go_ret
      exact ⟨ret_b HR.out, B0⟩
    · have he' : s.toList.isEmpty = false := by simpa using he
      have HR : Hid (false = nb) := by show _ = _; rw [HN.out, he']; rfl
      clear he
      clear H0 H1 H3 H4 H6 HX HN
      go_enter Tryd.func74, Tryd.ntmps74
      go_wp2
      go_ret
      exact ⟨ret_b HR.out, B0⟩
  by_cases k9 : k = 9
  · subst k9
    have HN := Hid.mk (H0.out (by omega))
    by_cases he : s.toList.isEmpty = true
    · have HR : Hid (((l.length : Int) == 0) = nb) := by show _ = _; rw [HN.out, he, HL0.out]; rfl
      clear H0 H1 H3 H4 H6 HX HN
      go_enter Tryd.func74, Tryd.ntmps74
      go_wp2
      go_ret
      exact ⟨ret_b HR.out, B0⟩
    · have he' : s.toList.isEmpty = false := by simpa using he
      have HR : Hid (false = nb) := by show _ = _; rw [HN.out, he']; rfl
      clear he
      clear H0 H1 H3 H4 H6 HX HN
      go_enter Tryd.func74, Tryd.ntmps74
      go_wp2
      go_ret
      exact ⟨ret_b HR.out, B0⟩
  by_cases k10 : k = 10
  · subst k10
    have HN := Hid.mk (H0.out (by omega))
    by_cases he : s.toList.isEmpty = true
    · have HR : Hid (((l.length : Int) == 0) = nb) := by show _ = _; rw [HN.out, he, HL0.out]; rfl
      clear H0 H1 H3 H4 H6 HX HN
      go_enter Tryd.func74, Tryd.ntmps74
      go_wp2
      go_ret
      exact ⟨ret_b HR.out, B0⟩
    · have he' : s.toList.isEmpty = false := by simpa using he
      have HR : Hid (false = nb) := by show _ = _; rw [HN.out, he']; rfl
      clear he
      clear H0 H1 H3 H4 H6 HX HN
      go_enter Tryd.func74, Tryd.ntmps74
      go_wp2
      go_ret
      exact ⟨ret_b HR.out, B0⟩
  by_cases k11 : k = 11
  · subst k11
    have HN := Hid.mk (H0.out (by omega))
    by_cases he : s.toList.isEmpty = true
    · have HR : Hid (((l.length : Int) == 0) = nb) := by show _ = _; rw [HN.out, he, HL0.out]; rfl
      clear H0 H1 H3 H4 H6 HX HN
      go_enter Tryd.func74, Tryd.ntmps74
      go_wp2
      go_ret
      exact ⟨ret_b HR.out, B0⟩
    · have he' : s.toList.isEmpty = false := by simpa using he
      have HR : Hid (false = nb) := by show _ = _; rw [HN.out, he']; rfl
      clear he
      clear H0 H1 H3 H4 H6 HX HN
      go_enter Tryd.func74, Tryd.ntmps74
      go_wp2
      go_ret
      exact ⟨ret_b HR.out, B0⟩
  by_cases k1 : k = 1
  · subst k1
    have HN := Hid.mk (H1.out rfl)
    cases hb : setB s 1 with
    | true =>
      rw [hb] at HR1
      have HR : Hid (((l.length : Int) == 0) = nb) := by show _ = _; rw [HN.out, hb, HL0.out]; rfl
      clear H0 H1 H3 H4 H6 HX HN hb
      go_enter Tryd.func74, Tryd.ntmps74
      go_wp2_with (go_at_call 84; refine (HR1.out _).mono ?_; rintro e w' ⟨rfl, n, rfl⟩)
      go_ret
      exact ⟨ret_b HR.out, B0.trans (Below.drewSelf _ _ _)⟩
    | false =>
      rw [hb] at HR1
      have HR : Hid (false = nb) := by show _ = _; rw [HN.out, hb]; rfl
      clear H0 H1 H3 H4 H6 HX HN hb
      go_enter Tryd.func74, Tryd.ntmps74
      go_wp2_with (go_at_call 84; refine (HR1.out _).mono ?_; rintro e w' ⟨rfl, n, rfl⟩)
      go_ret
      exact ⟨ret_b HR.out, B0.trans (Below.drewSelf _ _ _)⟩
  by_cases k3 : k = 3
  · subst k3
    have HN := Hid.mk (H3.out rfl)
    cases hb : setB s 10 with
    | true =>
      rw [hb] at HR10
      have HR : Hid (((l.length : Int) == 0) = nb) := by show _ = _; rw [HN.out, hb, HL0.out]; rfl
      clear H0 H1 H3 H4 H6 HX HN hb
      go_enter Tryd.func74, Tryd.ntmps74
      go_wp2_with (go_at_call 84; refine (HR10.out _).mono ?_; rintro e w' ⟨rfl, n, rfl⟩)
      go_ret
      exact ⟨ret_b HR.out, B0.trans (Below.drewSelf _ _ _)⟩
    | false =>
      rw [hb] at HR10
      have HR : Hid (false = nb) := by show _ = _; rw [HN.out, hb]; rfl
      clear H0 H1 H3 H4 H6 HX HN hb
      go_enter Tryd.func74, Tryd.ntmps74
      go_wp2_with (go_at_call 84; refine (HR10.out _).mono ?_; rintro e w' ⟨rfl, n, rfl⟩)
      go_ret
      exact ⟨ret_b HR.out, B0.trans (Below.drewSelf _ _ _)⟩
  by_cases k4 : k = 4
  · subst k4
    have HN := Hid.mk (H4.out (by omega))
    by_cases he : s.toList.isEmpty = true
    rotate_left
    · have he' : s.toList.isEmpty = false := by simpa using he
      have HR : Hid (false = nb) := by show _ = _; rw [HN.out, he']; rfl
      clear he
      clear H0 H1 H3 H4 H6 HX HN
      go_enter Tryd.func74, Tryd.ntmps74
      go_wp2
      go_ret
      exact ⟨ret_b HR.out, B0⟩
    by_cases h2 : 2 ≤ l.length
    rotate_left
    · have HR : Hid (false = nb) := by show _ = _; rw [HN.out, decide_eq_false h2]; simp
      have h2' : ¬ (2 : Int) ≤ (l.length : Int) := by omega
      clear H0 H1 H3 H4 H6 HX HN
      go_enter Tryd.func74, Tryd.ntmps74
      go_wp2
      go_ret
      exact ⟨ret_b HR.out, B0⟩
    have h2' : (2 : Int) ≤ (l.length : Int) := by omega
    by_cases h8 : l.length ≤ 8
    rotate_left
    · have HR : Hid (false = nb) := by show _ = _; rw [HN.out, decide_eq_false h8]; simp
      have h8' : ¬ (l.length : Int) ≤ 8 := by omega
      clear H0 H1 H3 H4 H6 HX HN
      go_enter Tryd.func74, Tryd.ntmps74
      go_wp2
      go_ret
      exact ⟨ret_b HR.out, B0⟩
    · have h8' : (l.length : Int) ≤ 8 := by omega
      have HR : Hid ((!kinds l 4) = nb) := by show _ = _; rw [HN.out, he, decide_eq_true h2, decide_eq_true h8]; simp
      clear H0 H1 H3 H4 H6 HX HN
      go_enter Tryd.func74, Tryd.ntmps74
      go_wp2_with fail
      refine (HK.out _ B0).mono ?_
      rintro e w1 ⟨rfl, hb1⟩
      have B1 := B0.trans (hb1.mono (by simp))
      clear B0 hb1 HK
      go_wp2
      go_ret
      exact ⟨ret_b HR.out, B1⟩
  by_cases k5 : k = 5
  · subst k5
    have HN := Hid.mk (H4.out (by omega))
    by_cases he : s.toList.isEmpty = true
    rotate_left
    · have he' : s.toList.isEmpty = false := by simpa using he
      have HR : Hid (false = nb) := by show _ = _; rw [HN.out, he']; rfl
      clear he
      clear H0 H1 H3 H4 H6 HX HN
      go_enter Tryd.func74, Tryd.ntmps74
      go_wp2
      go_ret
      exact ⟨ret_b HR.out, B0⟩
    by_cases h2 : 2 ≤ l.length
    rotate_left
    · have HR : Hid (false = nb) := by show _ = _; rw [HN.out, decide_eq_false h2]; simp
      have h2' : ¬ (2 : Int) ≤ (l.length : Int) := by omega
      clear H0 H1 H3 H4 H6 HX HN
      go_enter Tryd.func74, Tryd.ntmps74
      go_wp2
      go_ret
      exact ⟨ret_b HR.out, B0⟩
    have h2' : (2 : Int) ≤ (l.length : Int) := by omega
    by_cases h8 : l.length ≤ 8
    rotate_left
    · have HR : Hid (false = nb) := by show _ = _; rw [HN.out, decide_eq_false h8]; simp
      have h8' : ¬ (l.length : Int) ≤ 8 := by omega
      clear H0 H1 H3 H4 H6 HX HN
      go_enter Tryd.func74, Tryd.ntmps74
      go_wp2
      go_ret
      exact ⟨ret_b HR.out, B0⟩
    · have h8' : (l.length : Int) ≤ 8 := by omega
      have HR : Hid ((!kinds l 5) = nb) := by show _ = _; rw [HN.out, he, decide_eq_true h2, decide_eq_true h8]; simp
      clear H0 H1 H3 H4 H6 HX HN
      go_enter Tryd.func74, Tryd.ntmps74
      go_wp2_with fail
      refine (HK.out _ B0).mono ?_
      rintro e w1 ⟨rfl, hb1⟩
      have B1 := B0.trans (hb1.mono (by simp))
      clear B0 hb1 HK
      go_wp2
      go_ret
      exact ⟨ret_b HR.out, B1⟩
  by_cases k6 : k = 6
  · subst k6
    have HN := Hid.mk (H6.out (by omega))
    by_cases he : s.toList.isEmpty = true
    rotate_left
    · have he' : s.toList.isEmpty = false := by simpa using he
      have HR : Hid (false = nb) := by show _ = _; rw [HN.out, he']; rfl
      clear he
      clear H0 H1 H3 H4 H6 HX HN
      go_enter Tryd.func74, Tryd.ntmps74
      go_wp2
      go_ret
      exact ⟨ret_b HR.out, B0⟩
    by_cases h1 : l.length = 1
    rotate_left
    · have HR : Hid (false = nb) := by show _ = _; rw [HN.out, decide_eq_false h1]; simp
      have h1' : ((l.length : Int) == 1) = false := beq_eq_false_iff_ne.2 (by omega)
      clear H0 H1 H3 H4 H6 HX HN
      go_enter Tryd.func74, Tryd.ntmps74
      go_wp2
      go_ret
      exact ⟨ret_b HR.out, B0⟩
    · obtain ⟨x, rfl⟩ := List.length_eq_one_iff.1 h1
      have HR : Hid ((!repB x.k) = nb) := by show _ = _; rw [HN.out, he]; simp [headK]
      obtain ⟨b, off, V, rfl, hel⟩ := HH.out.elems (by simp)
      obtain ⟨h3, hsub, hss⟩ := hel 0 (by simp)
      obtain ⟨c0, c1, c2⟩ := h3.kept (w' := w.alloc (.cells #[.int .i64 6, .string s, .slice (some ⟨b, off, none⟩) 1 cap] 26)) (B0.block b (World.block_lt_of_cell? w _ h3.1))
      simp only [Nat.zero_mul, Nat.add_zero, List.getElem_cons_zero] at c0 c1 c2
      obtain ⟨q, hq⟩ : ∃ q, x.k = q := ⟨_, rfl⟩
      rw [hq] at c0 HR
      have h1' : ((([x] : List Tr).length : Int) == 1) = true := by simp
      clear hel h3 hsub hss c1 c2 hq h1
      clear H0 H1 H3 H4 H6 HX HN HK HH
      go_enter Tryd.func74, Tryd.ntmps74
      go_wp2_with (go_at_call 86; refine (implRepeat_any _ _).mono ?_; rintro e w' ⟨rfl, rfl⟩)
      go_ret
      exact ⟨ret_b HR.out, B0⟩
  by_cases k7 : k = 7
  · subst k7
    have HN := Hid.mk (H6.out (by omega))
    by_cases he : s.toList.isEmpty = true
    rotate_left
    · have he' : s.toList.isEmpty = false := by simpa using he
      have HR : Hid (false = nb) := by show _ = _; rw [HN.out, he']; rfl
      clear he
      clear H0 H1 H3 H4 H6 HX HN
      go_enter Tryd.func74, Tryd.ntmps74
      go_wp2
      go_ret
      exact ⟨ret_b HR.out, B0⟩
    by_cases h1 : l.length = 1
    rotate_left
    · have HR : Hid (false = nb) := by show _ = _; rw [HN.out, decide_eq_false h1]; simp
      have h1' : ((l.length : Int) == 1) = false := beq_eq_false_iff_ne.2 (by omega)
      clear H0 H1 H3 H4 H6 HX HN
      go_enter Tryd.func74, Tryd.ntmps74
      go_wp2
      go_ret
      exact ⟨ret_b HR.out, B0⟩
    · obtain ⟨x, rfl⟩ := List.length_eq_one_iff.1 h1
      have HR : Hid ((!repB x.k) = nb) := by show _ = _; rw [HN.out, he]; simp [headK]
      obtain ⟨b, off, V, rfl, hel⟩ := HH.out.elems (by simp)
      obtain ⟨h3, hsub, hss⟩ := hel 0 (by simp)
      obtain ⟨c0, c1, c2⟩ := h3.kept (w' := w.alloc (.cells #[.int .i64 7, .string s, .slice (some ⟨b, off, none⟩) 1 cap] 26)) (B0.block b (World.block_lt_of_cell? w _ h3.1))
      simp only [Nat.zero_mul, Nat.add_zero, List.getElem_cons_zero] at c0 c1 c2
      obtain ⟨q, hq⟩ : ∃ q, x.k = q := ⟨_, rfl⟩
      rw [hq] at c0 HR
      have h1' : ((([x] : List Tr).length : Int) == 1) = true := by simp
      clear hel h3 hsub hss c1 c2 hq h1
      clear H0 H1 H3 H4 H6 HX HN HK HH
      go_enter Tryd.func74, Tryd.ntmps74
      go_wp2_with (go_at_call 86; refine (implRepeat_any _ _).mono ?_; rintro e w' ⟨rfl, rfl⟩)
      go_ret
      exact ⟨ret_b HR.out, B0⟩
  by_cases k8 : k = 8
  · subst k8
    have HN := Hid.mk (H6.out (by omega))
    by_cases he : s.toList.isEmpty = true
    rotate_left
    · have he' : s.toList.isEmpty = false := by simpa using he
      have HR : Hid (false = nb) := by show _ = _; rw [HN.out, he']; rfl
      clear he
      clear H0 H1 H3 H4 H6 HX HN
      go_enter Tryd.func74, Tryd.ntmps74
      go_wp2
      go_ret
      exact ⟨ret_b HR.out, B0⟩
    by_cases h1 : l.length = 1
    rotate_left
    · have HR : Hid (false = nb) := by show _ = _; rw [HN.out, decide_eq_false h1]; simp
      have h1' : ((l.length : Int) == 1) = false := beq_eq_false_iff_ne.2 (by omega)
      clear H0 H1 H3 H4 H6 HX HN
      go_enter Tryd.func74, Tryd.ntmps74
      go_wp2
      go_ret
      exact ⟨ret_b HR.out, B0⟩
    · obtain ⟨x, rfl⟩ := List.length_eq_one_iff.1 h1
      have HR : Hid ((!repB x.k) = nb) := by show _ = _; rw [HN.out, he]; simp [headK]
      obtain ⟨b, off, V, rfl, hel⟩ := HH.out.elems (by simp)
      obtain ⟨h3, hsub, hss⟩ := hel 0 (by simp)
      obtain ⟨c0, c1, c2⟩ := h3.kept (w' := w.alloc (.cells #[.int .i64 8, .string s, .slice (some ⟨b, off, none⟩) 1 cap] 26)) (B0.block b (World.block_lt_of_cell? w _ h3.1))
      simp only [Nat.zero_mul, Nat.add_zero, List.getElem_cons_zero] at c0 c1 c2
      obtain ⟨q, hq⟩ : ∃ q, x.k = q := ⟨_, rfl⟩
      rw [hq] at c0 HR
      have h1' : ((([x] : List Tr).length : Int) == 1) = true := by simp
      clear hel h3 hsub hss c1 c2 hq h1
      clear H0 H1 H3 H4 H6 HX HN HK HH
      go_enter Tryd.func74, Tryd.ntmps74
      go_wp2_with (go_at_call 86; refine (implRepeat_any _ _).mono ?_; rintro e w' ⟨rfl, rfl⟩)
      go_ret
      exact ⟨ret_b HR.out, B0⟩
  have HR : Hid (nb = false) := HX.out (by omega)
  clear H0 H1 H3 H4 H6 HX HR1 HR10
  go_enter Tryd.func74, Tryd.ntmps74
  go_wp2
  go_ret
  exact ⟨ret_b HR.out.symm, B0⟩
end Go.Proofs.YthifleacfhijnaaDoor
