/- The ends of every place at once: the program's. -/
import Derived.Test.YthifleacfhijnaaDoorPlOft
namespace Go.Proofs.YthifleacfhijnaaDoor
open Go.RowKit Go.Shelf
set_option maxRecDepth 8000

theorem okT_one' {t : Tr} (h : t.okT = true) (hk : t.k = 6 ∨ t.k = 7 ∨ t.k = 8) : ∃ x, t.l = [x] := by
  rw [okT_eq, Bool.and_eq_true] at h
  have h2 := h.2
  unfold nodeB at h2
  rcases hk with hk | hk | hk <;> simp [hk] at h2 <;> exact List.length_eq_one_iff.1 h2.1.2
theorem okT_many' {t : Tr} (h : t.okT = true) (hk : t.k = 4 ∨ t.k = 5) : 2 ≤ t.l.length ∧ t.l.length ≤ 8 := by
  rw [okT_eq, Bool.and_eq_true] at h
  have h2 := h.2
  unfold nodeB at h2
  rcases hk with hk | hk <;> simp [hk] at h2 <;> omega

def EeC (s : ByteArray) (t : Tr) : Prop := ∀ (B : Nat → Prop) (v : Value) (w : World), Rl w B t.l v → t.s.size ≤ maxLen → t.okT = true → TabB w →
  Calls Tryd.prog 41 #[rx t.k t.s v, .string s] w fun e w' => ∃ g, e = .returned (plS g s.size) ∧ w.heap.size ≤ g ∧ Pq w' g s.size (t.endM s) ∧ Below w.heap.size w w'

set_option maxHeartbeats 1000000 in
theorem ends_leaf (s : ByteArray) (hs : s.size ≤ 200) (t : Tr) (hk : t.k = 1 ∨ t.k = 2 ∨ t.k = 3 ∨ t.k = 9 ∨ t.k = 10 ∨ t.k = 11) : EeC s t := by
  intro B v w h hts hok hT
  have HE : Hid (∀ i y, mSing s t.k t.s i y = t.endM s i y) := fun i y => by rw [endM_eq]; exact mSing_node s _ _ _ hk i y
  have A0 : Below w.heap.size w (w.alloc (.cells #[.int .i64 t.k, .string t.s, v] 26)) := (Below.refl _ _).alloc (Nat.le_refl _) _
  have HO := Hid.mk (fun w' => endsOfSingle_any t v s hs w')
  have HX := Hid.mk (Bz3.new w (.int .i64 t.k) (.string t.s) v)
  obtain ⟨ao, cap, rfl, -⟩ := h.len
  obtain ⟨M, hM⟩ : ∃ M, mSing s t.k t.s = M := ⟨_, rfl⟩
  obtain ⟨E, hE⟩ : ∃ E, t.endM s = E := ⟨_, rfl⟩
  rw [hM] at HO
  rw [hM, hE] at HE
  obtain ⟨tk, htk⟩ : ∃ tk, t.k = tk := ⟨_, rfl⟩
  obtain ⟨ts, hts'⟩ : ∃ ts, t.s = ts := ⟨_, rfl⟩
  rw [htk, hts'] at A0 HO HX
  rw [htk] at hk
  rw [htk, hts', hE]
  clear h hts hok hM hE htk hts' hT
  have x0 := HX.out.c0
  have x1 := HX.out.c1
  have x2 := HX.out.c2
  rcases hk with rfl | rfl | rfl | rfl | rfl | rfl
  all_goals
    go_enter Tryd.func41, Tryd.ntmps41
    go_wp2_with fail
    refine (HO.out _).mono ?_
    rintro e w1 ⟨g1, rfl, hg1, hq1, hb1⟩
    have B1 := Hid.mk (A0.trans (hb1.mono (by simp)))
    have HQ1 := Hid.mk (hq1.ext (fun i y _ _ => HE.out i y))
    have hgl : w.heap.size ≤ g1 := by simp at hg1; omega
    clear hq1 hb1 A0 x0 x1 x2 HO HX
    go_wp2
    go_ret
    exact ⟨_, rfl, hgl, HQ1.out, B1.out⟩

set_option maxHeartbeats 1000000 in
theorem ends_star (s : ByteArray) (hs : s.size ≤ 200) (t : Tr) (ih : ∀ x ∈ t.l, EeC s x) (hk : t.k = 6) : EeC s t := by
  intro B v w h hts hok hT
  obtain ⟨x, hl⟩ : ∃ x, t.l = [x] := okT_one' hok (by omega)
  have hxo : x.okT = true := by
    rw [okT_eq, hl] at hok
    simp [okL] at hok
    exact hok.1
  have HE : Hid (t.endM s = mMany s.size (x.endM s)) := by show _ = _; rw [endM_eq, nodeM, hk, hl]; rfl
  have HU := Hid.mk (UpM.tree s x)
  have A0 : Below w.heap.size w (w.alloc (.cells #[.int .i64 t.k, .string t.s, v] 26)) := (Below.refl _ _).alloc (Nat.le_refl _) _
  have HX := Hid.mk (Bz3.new w (.int .i64 t.k) (.string t.s) v)
  rw [hl] at h ih
  obtain ⟨ao, cap, rfl, hc1, hc2, -⟩ := h.len
  obtain ⟨b, off, V, rfl, hel⟩ := h.elems (by simp)
  obtain ⟨h3, hsub, hss⟩ := hel 0 (by simp)
  simp only [List.getElem_cons_zero, Nat.zero_mul, Nat.add_zero] at h3 hsub hss
  have HC := Hid.mk (fun (w' : World) (hb : Below w.heap.size w w') => ih x (by simp) B (V 0) w' (hsub.grow hb) hss hxo (hT.grow hb))
  have H3 := Hid.mk h3
  obtain ⟨MX, hMX⟩ : ∃ M, x.endM s = M := ⟨_, rfl⟩
  rw [hMX] at HC HE HU
  obtain ⟨ts, hts'⟩ : ∃ ts, t.s = ts := ⟨_, rfl⟩
  obtain ⟨xk, hxk⟩ : ∃ tk, x.k = tk := ⟨_, rfl⟩
  obtain ⟨xs, hxs⟩ : ∃ ts, x.s = ts := ⟨_, rfl⟩
  rw [hk, hts'] at A0 HX
  rw [hxk, hxs] at HC H3
  rw [hk, hts', HE.out]
  have hcm : cap ≤ 9223372036854775807 := by unfold maxLen at hc2; omega
  have hc1' : 1 ≤ cap := by simpa using hc1
  clear h hts hok HE hMX hts' hxk hxs hel h3 hsub hss ih hl hxo hk hc1 hc2
  simp only [List.length_singleton] at A0 HX ⊢
  have x0 := HX.out.c0
  have x1 := HX.out.c1
  have x2 := HX.out.c2
  obtain ⟨y0, y1, y2⟩ := H3.out.grow A0
  go_enter Tryd.func41, Tryd.ntmps41
  go_wp2_with fail
  refine (HC.out _ A0).mono ?_
  rintro e w1 ⟨g1, rfl, hg1, hq1, hb1⟩
  have HQ1 := Hid.mk hq1
  have B1 := Hid.mk (A0.trans (hb1.mono (by simp)))
  clear x0 x1 x2 y0 y1 y2 hq1 hb1 A0 HC H3 HX
  have HMA := Hid.mk (asOften_any s.size hs g1 MX HU.out w1 (hT.grow B1.out) HQ1.out)
  go_wp2_with fail
  refine HMA.out.mono ?_
  rintro e w2 ⟨g2, rfl, hg2, hq2, hb2⟩
  have HQ2 := Hid.mk hq2
  have B2 := Hid.mk (B1.out.trans (hb2.mono B1.out.size))
  have hgl : w.heap.size ≤ g2 := Nat.le_trans B1.out.size hg2
  clear hq2 hb2 HMA HQ1 B1
  go_wp2
  go_ret
  exact ⟨_, rfl, hgl, HQ2.out, B2.out⟩

set_option maxHeartbeats 1000000 in
theorem ends_plus (s : ByteArray) (hs : s.size ≤ 200) (t : Tr) (ih : ∀ x ∈ t.l, EeC s x) (hk : t.k = 7) : EeC s t := by
  intro B v w h hts hok hT
  obtain ⟨x, hl⟩ : ∃ x, t.l = [x] := okT_one' hok (by omega)
  have hxo : x.okT = true := by
    rw [okT_eq, hl] at hok
    simp [okL] at hok
    exact hok.1
  have HE : Hid (t.endM s = mThen s.size (x.endM s) (mMany s.size (x.endM s))) := by show _ = _; rw [endM_eq, nodeM, hk, hl]; rfl
  have HU := Hid.mk (UpM.tree s x)
  have A0 : Below w.heap.size w (w.alloc (.cells #[.int .i64 t.k, .string t.s, v] 26)) := (Below.refl _ _).alloc (Nat.le_refl _) _
  have HX := Hid.mk (Bz3.new w (.int .i64 t.k) (.string t.s) v)
  rw [hl] at h ih
  obtain ⟨ao, cap, rfl, hc1, hc2, -⟩ := h.len
  obtain ⟨b, off, V, rfl, hel⟩ := h.elems (by simp)
  obtain ⟨h3, hsub, hss⟩ := hel 0 (by simp)
  simp only [List.getElem_cons_zero, Nat.zero_mul, Nat.add_zero] at h3 hsub hss
  have HC := Hid.mk (fun (w' : World) (hb : Below w.heap.size w w') => ih x (by simp) B (V 0) w' (hsub.grow hb) hss hxo (hT.grow hb))
  have H3 := Hid.mk h3
  obtain ⟨MX, hMX⟩ : ∃ M, x.endM s = M := ⟨_, rfl⟩
  rw [hMX] at HC HE HU
  obtain ⟨ts, hts'⟩ : ∃ ts, t.s = ts := ⟨_, rfl⟩
  obtain ⟨xk, hxk⟩ : ∃ tk, x.k = tk := ⟨_, rfl⟩
  obtain ⟨xs, hxs⟩ : ∃ ts, x.s = ts := ⟨_, rfl⟩
  rw [hk, hts'] at A0 HX
  rw [hxk, hxs] at HC H3
  rw [hk, hts', HE.out]
  have hcm : cap ≤ 9223372036854775807 := by unfold maxLen at hc2; omega
  have hc1' : 1 ≤ cap := by simpa using hc1
  clear h hts hok HE hMX hts' hxk hxs hel h3 hsub hss ih hl hxo hk hc1 hc2
  simp only [List.length_singleton] at A0 HX ⊢
  have x0 := HX.out.c0
  have x1 := HX.out.c1
  have x2 := HX.out.c2
  obtain ⟨y0, y1, y2⟩ := H3.out.grow A0
  go_enter Tryd.func41, Tryd.ntmps41
  go_wp2_with fail
  refine (HC.out _ A0).mono ?_
  rintro e w1 ⟨g1, rfl, hg1, hq1, hb1⟩
  have HQ1 := Hid.mk hq1
  have B1 := Hid.mk (A0.trans (hb1.mono (by simp)))
  clear x0 x1 x2 y0 y1 y2 hq1 hb1 A0 HC H3 HX
  have HMA := Hid.mk (asOften_any s.size hs g1 MX HU.out w1 (hT.grow B1.out) HQ1.out)
  go_wp2_with fail
  refine HMA.out.mono ?_
  rintro e w2 ⟨g2, rfl, hg2, hq2, hb2⟩
  have B2 := Hid.mk (B1.out.trans (hb2.mono B1.out.size))
  have HTH := Hid.mk (oneBehind_any s.size hs g1 g2 MX (mMany s.size MX) HU.out (UpM.many _ _) w2 (hT.grow B2.out) (HQ1.out.grow hb2) hq2)
  clear hq2 hb2 HMA HQ1 B1
  go_wp2_with fail
  refine HTH.out.mono ?_
  rintro e w3 ⟨g3, rfl, hg3, hq3, hb3⟩
  have HQ3 := Hid.mk hq3
  have B3 := Hid.mk (B2.out.trans (hb3.mono B2.out.size))
  have hgl : w.heap.size ≤ g3 := Nat.le_trans B2.out.size hg3
  clear hq3 hb3 HTH B2
  go_wp2
  go_ret
  exact ⟨_, rfl, hgl, HQ3.out, B3.out⟩

set_option maxHeartbeats 1000000 in
theorem ends_opt (s : ByteArray) (hs : s.size ≤ 200) (t : Tr) (ih : ∀ x ∈ t.l, EeC s x) (hk : t.k = 8) : EeC s t := by
  intro B v w h hts hok hT
  obtain ⟨x, hl⟩ : ∃ x, t.l = [x] := okT_one' hok (by omega)
  have hxo : x.okT = true := by
    rw [okT_eq, hl] at hok
    simp [okL] at hok
    exact hok.1
  have HE : Hid (t.endM s = mAdd mSame (x.endM s)) := by show _ = _; rw [endM_eq, nodeM, hk, hl]; rfl
  have HU := Hid.mk (UpM.tree s x)
  have A0 : Below w.heap.size w (w.alloc (.cells #[.int .i64 t.k, .string t.s, v] 26)) := (Below.refl _ _).alloc (Nat.le_refl _) _
  have HX := Hid.mk (Bz3.new w (.int .i64 t.k) (.string t.s) v)
  rw [hl] at h ih
  obtain ⟨ao, cap, rfl, hc1, hc2, -⟩ := h.len
  obtain ⟨b, off, V, rfl, hel⟩ := h.elems (by simp)
  obtain ⟨h3, hsub, hss⟩ := hel 0 (by simp)
  simp only [List.getElem_cons_zero, Nat.zero_mul, Nat.add_zero] at h3 hsub hss
  have HC := Hid.mk (fun (w' : World) (hb : Below w.heap.size w w') => ih x (by simp) B (V 0) w' (hsub.grow hb) hss hxo (hT.grow hb))
  have H3 := Hid.mk h3
  obtain ⟨MX, hMX⟩ : ∃ M, x.endM s = M := ⟨_, rfl⟩
  rw [hMX] at HC HE HU
  obtain ⟨ts, hts'⟩ : ∃ ts, t.s = ts := ⟨_, rfl⟩
  obtain ⟨xk, hxk⟩ : ∃ tk, x.k = tk := ⟨_, rfl⟩
  obtain ⟨xs, hxs⟩ : ∃ ts, x.s = ts := ⟨_, rfl⟩
  rw [hk, hts'] at A0 HX
  rw [hxk, hxs] at HC H3
  rw [hk, hts', HE.out]
  have hcm : cap ≤ 9223372036854775807 := by unfold maxLen at hc2; omega
  have hc1' : 1 ≤ cap := by simpa using hc1
  clear h hts hok HE hMX hts' hxk hxs hel h3 hsub hss ih hl hxo hk hc1 hc2
  simp only [List.length_singleton] at A0 HX ⊢
  have x0 := HX.out.c0
  have x1 := HX.out.c1
  have x2 := HX.out.c2
  obtain ⟨y0, y1, y2⟩ := H3.out.grow A0
  go_enter Tryd.func41, Tryd.ntmps41
  go_wp2_with fail
  refine (HC.out _ A0).mono ?_
  rintro e w1 ⟨g1, rfl, hg1, hq1, hb1⟩
  have HQ1 := Hid.mk hq1
  have B1 := Hid.mk (A0.trans (hb1.mono (by simp)))
  clear x0 x1 x2 y0 y1 y2 hq1 hb1 A0 HC H3 HX
  have HSG := Hid.mk (endsOfSingle_any (.node 9 ByteArray.empty []) (.slice none 0 0) s hs w1)
  simp only [Tr.k, Tr.s] at HSG
  go_wp2_with fail
  refine HSG.out.mono ?_
  rintro e w2 ⟨g2, rfl, hg2, hq2, hb2⟩
  have B2 := Hid.mk (B1.out.trans (hb2.mono B1.out.size))
  have HOR := Hid.mk (oneOrOther_any s.size hs g1 g2 MX (mSing s 9 ByteArray.empty) w2 (HQ1.out.grow hb2) hq2)
  clear hq2 hb2 HSG HQ1 B1
  go_wp2_with fail
  refine HOR.out.mono ?_
  rintro e w3 ⟨g3, rfl, hg3, hq3, hb3⟩
  have HQ3 : Hid (Pq w3 g3 s.size (mAdd mSame MX)) := hq3.ext (fun i y hi _ => by
    rw [mSing_node s 9 ByteArray.empty [] (by omega) i y, ← opt_turned HU.out i y hi]
    rfl)
  have B3 := Hid.mk (B2.out.trans (hb3.mono B2.out.size))
  have hgl : w.heap.size ≤ g3 := Nat.le_trans B2.out.size hg3
  clear hq3 hb3 HOR B2
  go_wp2
  go_ret
  exact ⟨_, rfl, hgl, HQ3.out, B3.out⟩
end Go.Proofs.YthifleacfhijnaaDoor
