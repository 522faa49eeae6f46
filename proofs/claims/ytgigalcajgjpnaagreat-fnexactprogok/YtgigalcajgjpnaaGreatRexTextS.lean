/- RexText, the document's model's: texts joined. -/
import Derived.Test.YtgigalcajgjpnaaGreatRexTxt
import Derived.Test.YtgigalcajgjpnaaGreatExactRexOk
namespace Go.Proofs.YtgigalcajgjpnaaGreat
open Go.RowKit
set_option maxRecDepth 8000

theorem ret_s {a b : ByteArray} (h : a = b) : Ending.returned (.string a) = .returned (.string b) := by rw [h]

abbrev chr (c : UInt8) : ByteArray := ⟨#[c]⟩
theorem par_eq (a : List Int) : chr 40 ++ strOf a ++ chr 41 = strOf (40 :: (a ++ [41])) := by
  rw [show chr 40 = strOf [40] from rfl, show chr 41 = strOf [41] from rfl, strOf_append, strOf_append]; rfl
theorem app_par (x a : List Int) : strOf x ++ chr 40 ++ strOf a ++ chr 41 = strOf (x ++ (40 :: (a ++ [41]))) := by
  rw [show chr 40 = strOf [40] from rfl, show chr 41 = strOf [41] from rfl, strOf_append, strOf_append, strOf_append]; simp

def TxtC (t : Tr) : Prop := t.okT = true → t.cnt ≤ 60 → ∀ (B : Nat → Prop) (v : Value) (w : World), Rl w B t.l v →
  Calls Tryz.prog 131 #[rx t.k t.s v] w fun e w' => e = .returned (.string (strOf t.tl)) ∧ Below w.heap.size w w'

set_option maxHeartbeats 1000000 in
theorem l3Join_of (l : List Tr) (bs : List Int) (ih : ∀ x ∈ l, TxtC x ∧ x.okT = true ∧ x.cnt ≤ 60) (hj : (jnL bs true l).length ≤ 1000) (hbs : bs.length ≤ 1) (B : Nat → Prop) (v : Value) (w : World) (h : Rl w B l v) :
    Calls Tryz.prog 135 #[v, .string (strOf bs), .int .i64 5] w fun e w' => e = .returned (.string (strOf (jnL bs true l))) ∧ Below w.heap.size w w' := by
  obtain ⟨ao, cap, rfl, hl1, hl2, hl3⟩ := h.len
  have hm : cap ≤ 9223372036854775807 := by unfold maxLen at hl2; omega
  have HI := Hid.mk ih
  have HH := Hid.mk h
  have HLE := Hid.mk (jnL_le bs l)
  have hbz := strOf_size bs
  obtain ⟨bv, Hbv⟩ : ∃ bv, Hid (strOf bs = bv) := ⟨_, rfl⟩
  rw [Hbv.out] at hbz ⊢
  clear ih h hl2
  go_enter Tryz.func135, Tryz.ntmps135
  go_wp2
  go_loopw [7, 8] (fun q i wr => ∃ (k : Nat) (X : ByteArray), k ≤ l.length ∧ i = .int .i64 k ∧ q = .string X ∧ X.size ≤ 1000 ∧ Hid (X = strOf (jnL bs true (l.take k))) ∧ Below w.heap.size w wr) (fun _ i _ => l.length - (intOf i).toNat)
  case atStart => exact ⟨0, ⟨#[]⟩, Nat.zero_le _, rfl, rfl, by decide, by show _ = _; simp [jnL, strOf], Below.refl _ _⟩
  case round =>
    obtain ⟨k, X, hk, rfl, rfl, hX, HX, hbel⟩ := hrel
    by_cases hkl : k < l.length
    · obtain ⟨b, off, V, rfl, hel⟩ := HH.out.elems (by intro hn; rw [hn] at hkl; simp at hkl)
      obtain ⟨h3, hsub, hss⟩ := hel k hkl
      have HT := Hid.mk (jnL_take bs l k hkl)
      have hle := HLE.out (k + 1)
      obtain ⟨htc, hok, hcn⟩ := HI.out _ (List.getElem_mem hkl)
      obtain ⟨t, ht⟩ : ∃ t, l[k] = t := ⟨_, rfl⟩
      rw [ht] at h3 hsub hss HT htc hok hcn
      clear ht hel
      have hln := tl_len t hok
      obtain ⟨c0, c1, c2⟩ := h3.kept (w' := wr) (hbel.block b (World.block_lt_of_cell? w _ h3.1))
      have HC := Hid.mk (htc hok hcn B (V k) wr (hsub.grow hbel))
      have hsz := strOf_size t.tl
      obtain ⟨Y, hY⟩ : ∃ Y, strOf t.tl = Y := ⟨_, rfl⟩
      obtain ⟨tk, htk⟩ : ∃ tk, t.k = tk := ⟨_, rfl⟩
      obtain ⟨ts, hts⟩ : ∃ ts, t.s = ts := ⟨_, rfl⟩
      obtain ⟨av, cv, hv, -, -, -⟩ := hsub.len
      have hi1 : (k : Int) < (l.length : Int) := by omega
      rw [hY, htk, hts, hv] at HC
      rw [htk] at c0
      rw [hts] at c1
      rw [hv] at c2
      rw [hY] at hsz
      have hY2 : Y.size ≤ 1000 := by omega
      have HNS : Hid (∀ Z, Z = strOf (jnL bs true (l.take (k + 1))) → Z.size ≤ 1000) := by
        intro Z hZ
        rw [hZ, strOf_size]; omega
      clear hsub hss h3 htc hok hcn hln hts hle hv hsz
      by_cases h5 : tk = 5
      · have h5b : (tk == 5) = true := by simpa using h5
        have HP : Hid (pcC t = 40 :: (t.tl ++ [41])) := by show _ = _; rw [pcC, if_pos (by omega)]
        by_cases k0 : k = 0
        · subst k0
          simp only [Nat.zero_mul, Nat.add_zero] at c0 c1 c2
          have HQ : Hid (X ++ chr 40 ++ Y ++ chr 41 = strOf (jnL bs true (l.take (0 + 1)))) := by
            show _ = _
            rw [HX.out, ← hY, app_par, HT.out, HP.out]; rfl
          have hns := HNS.out _ HQ.out
          clear HX HT HP hY HNS h5 HLE HI HH htk
          go_wp2_with fail
          refine HC.out.mono ?_
          rintro e w2 ⟨rfl, hb2⟩
          have B3 := hbel.trans (hb2.mono hbel.size)
          clear hbel hb2 HC
          go_wp2
          go_roundw
          case rel => exact ⟨0 + 1, _, by omega, by go_num, rfl, hns, HQ, B3⟩
          case measure => simp [intOf]; omega
        · have k0' : 0 < k := by omega
          have HQ : Hid (X ++ bv ++ chr 40 ++ Y ++ chr 41 = strOf (jnL bs true (l.take (k + 1)))) := by
            show _ = _
            rw [HX.out, ← hY, ← Hbv.out, strOf_append, app_par, HT.out, HP.out, if_neg k0]; simp
          have hns := HNS.out _ HQ.out
          clear HX HT HP hY HNS h5 HLE HI HH htk k0
          go_wp2_with fail
          refine HC.out.mono ?_
          rintro e w2 ⟨rfl, hb2⟩
          have B3 := hbel.trans (hb2.mono hbel.size)
          clear hbel hb2 HC
          go_wp2
          go_roundw
          case rel => exact ⟨k + 1, _, by omega, by go_num, rfl, hns, HQ, B3⟩
          case measure => simp [intOf]; omega
      · have h5b : (tk == 5) = false := by simpa using h5
        have HP : Hid (pcC t = t.tl) := by show _ = _; rw [pcC, if_neg (by omega)]
        by_cases k0 : k = 0
        · subst k0
          simp only [Nat.zero_mul, Nat.add_zero] at c0 c1 c2
          have HQ : Hid (X ++ Y = strOf (jnL bs true (l.take (0 + 1)))) := by
            show _ = _
            rw [HX.out, ← hY, strOf_append, HT.out, HP.out]; rfl
          have hns := HNS.out _ HQ.out
          clear HX HT HP hY HNS h5 HLE HI HH htk
          go_wp2_with fail
          refine HC.out.mono ?_
          rintro e w2 ⟨rfl, hb2⟩
          have B3 := hbel.trans (hb2.mono hbel.size)
          clear hbel hb2 HC
          go_wp2
          go_roundw
          case rel => exact ⟨0 + 1, _, by omega, by go_num, rfl, hns, HQ, B3⟩
          case measure => simp [intOf]; omega
        · have k0' : 0 < k := by omega
          have HQ : Hid (X ++ bv ++ Y = strOf (jnL bs true (l.take (k + 1)))) := by
            show _ = _
            rw [HX.out, ← hY, ← Hbv.out, strOf_append, strOf_append, HT.out, HP.out, if_neg k0]; simp
          have hns := HNS.out _ HQ.out
          clear HX HT HP hY HNS h5 HLE HI HH htk k0
          go_wp2_with fail
          refine HC.out.mono ?_
          rintro e w2 ⟨rfl, hb2⟩
          have B3 := hbel.trans (hb2.mono hbel.size)
          clear hbel hb2 HC
          go_wp2
          go_roundw
          case rel => exact ⟨k + 1, _, by omega, by go_num, rfl, hns, HQ, B3⟩
          case measure => simp [intOf]; omega
    · have e : k = l.length := by omega
      subst e
      have HF : Hid (X = strOf (jnL bs true l)) := by show _ = _; rw [HX.out, List.take_length]
      clear HX
      go_wp2
      go_ret
      exact ⟨ret_s HF.out, hbel⟩

theorem l3One_of (t : Tr) (ih : TxtC t) (hok : t.okT = true) (hcn : t.cnt ≤ 60) (B : Nat → Prop) (v : Value) (w : World) (h : Rl w B t.l v) :
    Calls Tryz.prog 136 #[rx t.k t.s v] w fun e w' => e = .returned (.string (strOf (pcO t))) ∧ Below w.heap.size w w' := by
  have hln := tl_len t hok
  have hsz := strOf_size t.tl
  have HC := Hid.mk (fun (w' : World) (hb : Below w.heap.size w w') => ih hok hcn B v w' (h.grow hb))
  obtain ⟨R, hR⟩ : ∃ R, strOf (pcO t) = R := ⟨_, rfl⟩
  have HY1 : Hid ((t.k = 4 ∨ t.k = 5) → chr 40 ++ strOf t.tl ++ chr 41 = R) := by intro h; rw [← hR, pcO, if_pos h, par_eq]
  have HY0 : Hid (¬ (t.k = 4 ∨ t.k = 5) → strOf t.tl = R) := by intro h; rw [← hR, pcO, if_neg h]
  obtain ⟨Y, hY⟩ : ∃ Y, strOf t.tl = Y := ⟨_, rfl⟩
  obtain ⟨k, hk⟩ : ∃ k, t.k = k := ⟨_, rfl⟩
  obtain ⟨s, hsn⟩ : ∃ s, t.s = s := ⟨_, rfl⟩
  rw [hY] at hsz
  have hY2 : Y.size ≤ 1000 := by omega
  rw [hk, hsn, hY] at HC
  rw [hk, hY] at HY1 HY0
  rw [hk, hsn, hR]
  obtain ⟨ao, cap, rfl, hl1, hl2, hl3⟩ := h.len
  have B0 : Below w.heap.size w (w.alloc (.cells #[.int .i64 k, .string s, .slice ao t.l.length cap] 187)) := (Below.refl _ _).alloc (Nat.le_refl _) _
  clear h hk hsn hY hR hl2 ih hok hcn hln hsz
  by_cases h4 : k = 4
  · subst h4
    have HR := Hid.mk (HY1.out (Or.inl rfl))
    clear HY1 HY0
    go_enter Tryz.func136, Tryz.ntmps136
    go_wp2_with fail
    refine (HC.out _ B0).mono ?_
    rintro e w1 ⟨rfl, hb1⟩
    have B1 := B0.trans (hb1.mono (by simp))
    clear B0 hb1 HC
    go_wp2
    go_ret
    exact ⟨ret_s HR.out, B1⟩
  have h4b : (k == 4) = false := by simpa using h4
  by_cases h5 : k = 5
  · subst h5
    have HR := Hid.mk (HY1.out (Or.inr rfl))
    clear HY1 HY0 h4
    go_enter Tryz.func136, Tryz.ntmps136
    go_wp2_with fail
    refine (HC.out _ B0).mono ?_
    rintro e w1 ⟨rfl, hb1⟩
    have B1 := B0.trans (hb1.mono (by simp))
    clear B0 hb1 HC
    go_wp2
    go_ret
    exact ⟨ret_s HR.out, B1⟩
  have h5b : (k == 5) = false := by simpa using h5
  have HR := Hid.mk (HY0.out (by omega))
  clear HY1 HY0 h4 h5
  go_enter Tryz.func136, Tryz.ntmps136
  go_wp2_with fail
  refine (HC.out _ B0).mono ?_
  rintro e w1 ⟨rfl, hb1⟩
  have B1 := B0.trans (hb1.mono (by simp))
  clear B0 hb1 HC
  go_wp2
  go_ret
  exact ⟨ret_s HR.out, B1⟩

set_option maxHeartbeats 2000000 in
theorem txt_step (t : Tr) (ih : ∀ x ∈ t.l, TxtC x) : TxtC t := by
  intro hok hcn B v w h
  have hpart : ∀ x ∈ t.l, TxtC x ∧ x.okT = true ∧ x.cnt ≤ 60 := fun x hx => ⟨ih x hx, part_ok hok hcn hx⟩
  have hln := tl_len t hok
  have hnb : nodeB t = true := by rw [okT_eq, Bool.and_eq_true] at hok; exact hok.2
  have B0 : Below w.heap.size w (w.alloc (.cells #[.int .i64 t.k, .string t.s, v] 187)) := (Below.refl _ _).alloc (Nat.le_refl _) _
  obtain ⟨ao, cap, hv, hl1, hl2, hl3⟩ := h.len
  have HK : Hid (¬ (t.k < 1 ∨ 11 < t.k)) := by intro hk; rw [nodeBx hk] at hnb; cases hnb
  have HJ4 : Hid (t.k = 4 → ∀ w', Below w.heap.size w w' → Calls Tryz.prog 135 #[v, .string ⟨#[]⟩, .int .i64 5] w' fun e w'' => e = .returned (.string (strOf t.tl)) ∧ Below w'.heap.size w' w'') := by
    intro h4 w' hb
    have := l3Join_of t.l [] hpart (by rw [jnL_C, ← tl4 h4]; omega) (by simp) B v w' (h.grow hb)
    rw [jnL_C, ← tl4 h4] at this
    exact this
  have HJ5 : Hid (t.k = 5 → ∀ w', Below w.heap.size w w' → Calls Tryz.prog 135 #[v, .string ⟨#[124]⟩, .int .i64 5] w' fun e w'' => e = .returned (.string (strOf t.tl)) ∧ Below w'.heap.size w' w'') := by
    intro h5 w' hb
    have hkd : kinds t.l 5 = false := by
      rw [nodeB4 (Or.inr h5), h5] at hnb
      simp only [Bool.and_eq_true, Bool.not_eq_true'] at hnb
      exact hnb.2
    have := l3Join_of t.l [124] hpart (by rw [jnL_A _ _ hkd, ← tl5 h5]; omega) (by simp) B v w' (h.grow hb)
    rw [jnL_A _ _ hkd, ← tl5 h5] at this
    exact this
  have HO : Hid ((t.k = 6 ∨ t.k = 7 ∨ t.k = 8) → ∃ x b off V, t.l = [x] ∧ v = .slice (some ⟨b, off, none⟩) 1 cap ∧ At3 w b off x.k x.s V ∧ (∃ av cv, V = .slice av x.l.length cv) ∧ (strOf (pcO x)).size ≤ 1000 ∧ strOf (pcO x) ++ chr (UInt8.ofNat (markOf t.k).toNat) = strOf t.tl ∧
      ∀ w', Below w.heap.size w w' → Calls Tryz.prog 136 #[rx x.k x.s V] w' fun e w'' => e = .returned (.string (strOf (pcO x))) ∧ Below w'.heap.size w' w'') := by
    intro h6
    rw [nodeB6 h6] at hnb
    simp at hnb
    obtain ⟨x, hx⟩ := List.length_eq_one_iff.1 hnb.1.2
    rw [hx] at h hv
    subst hv
    obtain ⟨b, off, V, hao, hel⟩ := h.elems (by simp)
    obtain ⟨h3, hsub, hss⟩ := hel 0 (by simp)
    obtain ⟨i1, i2, i3⟩ := hpart x (by rw [hx]; simp)
    have e := tl6 h6
    rw [hx, tlO_cons] at e
    obtain ⟨av, cv, hvv, -, -, -⟩ := hsub.len
    refine ⟨x, b, off, V 0, hx, by rw [hao]; rfl, by simpa using h3, ⟨av, cv, hvv⟩, ?_, ?_, fun w' hb => l3One_of x i1 i2 i3 B (V 0) w' (hsub.grow hb)⟩
    · rw [strOf_size]
      rw [e, List.length_append] at hln
      omega
    · rw [e, ← strOf_append]; rfl
  have H1 := Hid.mk (fun h => (tl1 (t := t) h).trans rfl)
  have H2 := Hid.mk (fun h => tl2 (t := t) h)
  have H3 := Hid.mk (fun h => tl3 (t := t) h)
  have H9 := Hid.mk (fun h => tl9 (t := t) h)
  have H10 := Hid.mk (fun h => tl10 (t := t) h)
  have H11 := Hid.mk (fun h => tl11 (t := t) h)
  have HSZ : Hid (t.k = 3 → t.s.size ≤ 10) := by
    intro h3
    rw [nodeB3 h3] at hnb
    simp [setB] at hnb
    exact hnb.1.1.2
  obtain ⟨k, hk⟩ : ∃ k, t.k = k := ⟨_, rfl⟩
  obtain ⟨s, hsn⟩ : ∃ s, t.s = s := ⟨_, rfl⟩
  obtain ⟨T, hT⟩ : ∃ T, t.tl = T := ⟨_, rfl⟩
  rw [hk, hsn] at B0
  rw [hk] at HK H2 H9 H10 H11
  rw [hk, hsn, hT] at H1 H3
  rw [hT] at H2 H9 H10 H11
  rw [hk, hT] at HJ4 HJ5 HO
  rw [hk, hsn] at HSZ
  rw [hk, hsn, hT]
  clear hpart hln hnb hok hcn ih hk hsn hT
  by_cases h6 : k = 6 ∨ k = 7 ∨ k = 8
  · obtain ⟨x, b, off, V, hxl, hvv, h3, ⟨av, cv, rfl⟩, hsz, hcat, hone⟩ := HO.out h6
    subst hvv
    have h3' := h3.grow B0
    obtain ⟨xk, hxk⟩ : ∃ xk, x.k = xk := ⟨_, rfl⟩
    obtain ⟨xs, hxs⟩ : ∃ xs, x.s = xs := ⟨_, rfl⟩
    obtain ⟨Y, hY⟩ : ∃ Y, strOf (pcO x) = Y := ⟨_, rfl⟩
    rw [hxk, hxs] at h3' hone
    rw [hY] at hone hsz hcat
    obtain ⟨c0, c1, c2⟩ := h3'
    have HC := Hid.mk hone
    have HCAT := Hid.mk hcat
    clear hone hcat hv h hl1 hl2 hl3 HO HJ4 HJ5 H1 H2 H3 H9 H10 H11 HSZ HK hxl h3 hxk hxs hY
    rcases h6 with rfl | rfl | rfl
    all_goals
      go_enter Tryz.func131, Tryz.ntmps131
      go_wp2_with fail
      refine (HC.out _ B0).mono ?_
      rintro e w1 ⟨rfl, hb1⟩
      have B1 := B0.trans (hb1.mono (by simp))
      clear B0 hb1 HC
      go_wp2
      go_ret
      exact ⟨ret_s HCAT.out, B1⟩
  subst hv
  clear HO
  by_cases h1 : k = 1
  · subst h1
    have HR : Hid (s = strOf T) := by show _ = _; rw [H1.out rfl, strOf_txt]
    clear HJ4 HJ5 H1 H2 H3 H9 H10 H11 HSZ HK h h6
    go_enter Tryz.func131, Tryz.ntmps131
    go_wp2
    go_ret
    exact ⟨ret_s HR.out, B0⟩
  by_cases h2 : k = 2
  · subst h2
    have HR : Hid (chr 46 = strOf T) := by show _ = _; rw [H2.out rfl]; rfl
    clear HJ4 HJ5 H1 H2 H3 H9 H10 H11 HSZ HK h h6 h1
    go_enter Tryz.func131, Tryz.ntmps131
    go_wp2
    go_ret
    exact ⟨ret_s HR.out, B0⟩
  by_cases h3 : k = 3
  · subst h3
    have hz := HSZ.out rfl
    have HR : Hid (chr 91 ++ s ++ chr 93 = strOf T) := by
      show _ = _
      rw [H3.out rfl, show chr 91 = strOf [91] from rfl, show chr 93 = strOf [93] from rfl]
      conv => lhs; rw [← strOf_txt s, strOf_append, strOf_append]
      rfl
    clear HJ4 HJ5 H1 H2 H3 H9 H10 H11 HSZ HK h h6 h1 h2
    go_enter Tryz.func131, Tryz.ntmps131
    go_wp2
    go_ret
    exact ⟨ret_s HR.out, B0⟩
  by_cases h4 : k = 4
  · subst h4
    have HC := Hid.mk (HJ4.out rfl)
    clear HJ4 HJ5 H1 H2 H3 H9 H10 H11 HSZ HK h h6 h1 h2 h3
    go_enter Tryz.func131, Tryz.ntmps131
    go_wp2_with fail
    refine (HC.out _ B0).mono ?_
    rintro e w1 ⟨rfl, hb1⟩
    have B1 := B0.trans (hb1.mono (by simp))
    clear B0 hb1 HC
    go_wp2
    go_ret
    exact ⟨rfl, B1⟩
  by_cases h5 : k = 5
  · subst h5
    have HC := Hid.mk (HJ5.out rfl)
    clear HJ4 HJ5 H1 H2 H3 H9 H10 H11 HSZ HK h h6 h1 h2 h3 h4
    go_enter Tryz.func131, Tryz.ntmps131
    go_wp2_with fail
    refine (HC.out _ B0).mono ?_
    rintro e w1 ⟨rfl, hb1⟩
    have B1 := B0.trans (hb1.mono (by simp))
    clear B0 hb1 HC
    go_wp2
    go_ret
    exact ⟨rfl, B1⟩
  by_cases h10 : k = 10
  · subst h10
    have HR : Hid (chr 94 = strOf T) := by show _ = _; rw [H10.out rfl]; rfl
    clear HJ4 HJ5 H1 H2 H3 H9 H10 H11 HSZ HK h h6 h1 h2 h3 h4 h5
    go_enter Tryz.func131, Tryz.ntmps131
    go_wp2
    go_ret
    exact ⟨ret_s HR.out, B0⟩
  by_cases h11 : k = 11
  · subst h11
    have HR : Hid (chr 36 = strOf T) := by show _ = _; rw [H11.out rfl]; rfl
    clear HJ4 HJ5 H1 H2 H3 H9 H10 H11 HSZ HK h h6 h1 h2 h3 h4 h5 h10
    go_enter Tryz.func131, Tryz.ntmps131
    go_wp2
    go_ret
    exact ⟨ret_s HR.out, B0⟩
  have h9 : k = 9 := by have := HK.out; omega
  subst h9
  have HR : Hid ((⟨#[40, 41]⟩ : ByteArray) = strOf T) := by show _ = _; rw [H9.out rfl]; rfl
  clear HJ4 HJ5 H1 H2 H3 H9 H10 H11 HSZ HK h h6 h1 h2 h3 h4 h5 h10 h11
  go_enter Tryz.func131, Tryz.ntmps131
  go_wp2
  go_ret
  exact ⟨ret_s HR.out, B0⟩

theorem specText_any (t : Tr) : TxtC t := Tr.ind (P := TxtC) txt_step t

theorem specRexText_any (t : Tr) (B : Nat → Prop) (v : Value) (w : World) (h : Rl w B t.l v) (hs : t.s.size ≤ maxLen) :
    Calls Tryz.prog 127 #[rx t.k t.s v] w fun e w' => e = .returned (.string (rexS t)) ∧ Below w.heap.size w w' := by
  have HC := Hid.mk (fun (w' : World) (hb : Below w.heap.size w w') => specRexOk_any t B v w' (h.grow hb) hs)
  have HT := Hid.mk (fun h1 h2 (w' : World) (hb : Below w.heap.size w w') => specText_any t h1 h2 B v w' (h.grow hb))
  have HI := Hid.mk (okR_iff t)
  have HE : Hid (rexS t = if okR t = true then strOf t.tl else ⟨#[]⟩) := rfl
  obtain ⟨R, hR⟩ : ∃ R, rexS t = R := ⟨_, rfl⟩
  obtain ⟨o, ho⟩ : ∃ o, okR t = o := ⟨_, rfl⟩
  obtain ⟨k, hk⟩ : ∃ k, t.k = k := ⟨_, rfl⟩
  obtain ⟨s, hsn⟩ : ∃ s, t.s = s := ⟨_, rfl⟩
  rw [hk, hsn, ho] at HC
  rw [hk, hsn] at HT
  rw [ho] at HI
  rw [hR, ho] at HE
  rw [hk, hsn, hR]
  obtain ⟨ao, cap, rfl, hl1, hl2, hl3⟩ := h.len
  have B0 : Below w.heap.size w (w.alloc (.cells #[.int .i64 k, .string s, .slice ao t.l.length cap] 187)) := (Below.refl _ _).alloc (Nat.le_refl _) _
  clear h hk hsn hR ho hl2
  cases o with
  | false =>
    have HR : Hid ((⟨#[]⟩ : ByteArray) = R) := by show _ = _; rw [HE.out]; rfl
    clear HT HI HE
    go_enter Tryz.func127, Tryz.ntmps127
    go_wp2_with fail
    refine (HC.out _ B0).mono ?_
    rintro e w1 ⟨rfl, hb1⟩
    have B1 := B0.trans (hb1.mono (by simp))
    clear B0 hb1 HC
    go_wp2
    go_ret
    exact ⟨ret_s HR.out, B1⟩
  | true =>
    have HR : Hid (strOf t.tl = R) := by show _ = _; rw [HE.out]; rfl
    obtain ⟨i1, i2, i3⟩ := HI.out.1 rfl
    have HT' := Hid.mk (HT.out i3 i2)
    rw [HR.out] at HT'
    clear HT HI HE i1 i2 i3 HR
    go_enter Tryz.func127, Tryz.ntmps127
    go_wp2_with fail
    refine (HC.out _ B0).mono ?_
    rintro e w1 ⟨rfl, hb1⟩
    have B1 := B0.trans (hb1.mono (by simp))
    have hc1 := fun o => hb1.cell (p := ⟨w.heap.size, o, none⟩) (by simp)
    have hs1 := hb1.size
    simp at hs1
    clear B0 hb1 HC
    go_wp2_with fail
    refine (HT'.out _ B1).mono ?_
    rintro e w2 ⟨rfl, hb2⟩
    have B2 := B1.trans (hb2.mono (by omega))
    clear B1 hb2 HT' hc1
    go_wp2
    go_ret
    exact ⟨rfl, B2⟩
end Go.Proofs.YtgigalcajgjpnaaGreat
