/- The ends of every place at once: the program's; lists of parts. -/
import Derived.Test.YthifleacfhijnaaDoorPlTree
namespace Go.Proofs.YthifleacfhijnaaDoor
open Go.RowKit Go.Shelf
set_option maxRecDepth 8000

set_option maxHeartbeats 2000000 in
theorem ends_cat (s : ByteArray) (hs : s.size ≤ 200) (t : Tr) (ih : ∀ x ∈ t.l, EeC s x) (hk : t.k = 4) : EeC s t := by
  intro B v w h hts hok hT
  have hall : ∀ x ∈ t.l, x.okT = true := by
    have := hok
    rw [okT_eq, Bool.and_eq_true, okL_iff] at this
    exact this.1
  obtain ⟨x, r, hl⟩ : ∃ x r, t.l = x :: r := by
    have := (okT_many' hok (by omega)).1
    match t.l, this with
    | x :: r, _ => exact ⟨x, r, rfl⟩
  have hr8 : r.length ≤ 8 := by have := (okT_many' hok (by omega)).2; rw [hl] at this; simp at this; omega
  have hr1 : 1 ≤ r.length := by have := (okT_many' hok (by omega)).1; rw [hl] at this; simp at this; omega
  have HE : Hid (EqM s.size ((r.map (Tr.endM s)).foldl (mThen s.size) (x.endM s)) (t.endM s)) := by
    show EqM _ _ _
    rw [endM_eq s t, nodeM, hk, hl]
    exact thens_first _ (UpM.tree s x)
  have HU := Hid.mk (fun (y : Tr) => UpM.tree s y)
  have A0 : Below w.heap.size w (w.alloc (.cells #[.int .i64 t.k, .string t.s, v] 26)) := (Below.refl _ _).alloc (Nat.le_refl _) _
  have HX := Hid.mk (Bz3.new w (.int .i64 t.k) (.string t.s) v)
  rw [hl] at h ih hall
  obtain ⟨ao, cap, rfl, hc1, hc2, -⟩ := h.len
  obtain ⟨b, off, V, rfl, hel⟩ := h.elems (by simp)
  obtain ⟨h3, hsub, hss⟩ := hel 0 (by simp)
  simp only [List.getElem_cons_zero, Nat.zero_mul, Nat.add_zero] at h3 hsub hss
  have HC := Hid.mk (fun (w' : World) (hb : Below w.heap.size w w') => ih x (by simp) B (V 0) w' (hsub.grow hb) hss (hall x (by simp)) (hT.grow hb))
  have HI := Hid.mk (fun (j : Nat) (hj : j < r.length) (w' : World) (hb : Below w.heap.size w w') => ih r[j] (by simp) B (V (j + 1)) w' ((hel (j + 1) (by simp; omega)).2.1.grow hb) (hel (j + 1) (by simp; omega)).2.2 (hall r[j] (by simp)) (hT.grow hb))
  have HLN : Hid (∀ j, j < r.length → ∃ av lv cv, V (j + 1) = .slice av lv cv) := fun j hj => by
    obtain ⟨a, c, h, -⟩ := (hel (j + 1) (by simp; omega)).2.1.len
    exact ⟨a, _, c, h⟩
  have HEL := Hid.mk (fun (j : Nat) (hj : j < r.length) (w' : World) (hb : Below w.heap.size w w') => (hel (j + 1) (by simp; omega)).1.grow hb)
  simp only [List.getElem_cons_succ] at HEL
  have H3 := Hid.mk h3
  obtain ⟨ts, hts'⟩ : ∃ ts, t.s = ts := ⟨_, rfl⟩
  obtain ⟨xk, hxk⟩ : ∃ tk, x.k = tk := ⟨_, rfl⟩
  obtain ⟨xs, hxs⟩ : ∃ ts, x.s = ts := ⟨_, rfl⟩
  obtain ⟨E, hE⟩ : ∃ E, t.endM s = E := ⟨_, rfl⟩
  rw [hE] at HE
  rw [hk, hts'] at A0 HX
  rw [hxk, hxs] at HC H3
  rw [hk, hts', hE]
  have hcm : cap ≤ 9223372036854775807 := by unfold maxLen at hc2; omega
  have hc1' : r.length + 1 ≤ cap := by simpa using hc1
  clear h hts hok hts' hxk hxs hel h3 hsub hss ih hall hl hk hc1 hc2 hE
  simp only [List.length_cons] at A0 HX ⊢
  obtain ⟨lr, hlr⟩ : ∃ lr, r.length = lr := ⟨_, rfl⟩
  have HLR := Hid.mk hlr
  rw [hlr] at hc1' hr8 hr1 A0 HX ⊢
  clear hlr
  have hcn : ¬ cap = 1 := by omega
  have x0 := HX.out.c0
  have x1 := HX.out.c1
  have x2 := HX.out.c2
  obtain ⟨y0, y1, y2⟩ := H3.out.grow A0
  go_enter Tryd.func41, Tryd.ntmps41
  go_wp2_with fail
  refine (HC.out _ A0).mono ?_
  rintro e w1 ⟨g1, rfl, hg1, hq1, hb1⟩
  have HQ1 := Hid.mk hq1
  have B1 := Hid.mk (A0.trans (hb1.mono (by simp)))
  have HX1 := Hid.mk (HX.out.grow hb1)
  have hgl1 : w.heap.size ≤ g1 := by simp at hg1; omega
  clear x0 x1 x2 y0 y1 y2 hq1 hb1 A0 HC H3 HX hg1
  have x0 := HX1.out.c0
  have x1 := HX1.out.c1
  have x2 := HX1.out.c2
  go_wp2
  clear x0 x1 x2
  go_loopw [5, 26] (fun o q wr => ∃ (k g : Nat), k ≤ lr ∧ q = .int .i64 k ∧ o = plS g s.size ∧ w.heap.size ≤ g ∧ Hid (Pq wr g s.size (((r.map (Tr.endM s)).take k).foldl (mThen s.size) (x.endM s))) ∧ Hid (Below w.heap.size w wr)) (fun _ q _ => lr - (intOf q).toNat)
  case atStart => exact ⟨0, g1, Nat.zero_le _, rfl, rfl, hgl1, HQ1, B1⟩
  case round =>
    obtain ⟨k, g, hkl, rfl, rfl, hgl, HQ, HB⟩ := hrel
    clear HQ1 HX1 B1 hgl1
    by_cases hlt : (k : Int) < (lr : Int)
    · have hkr : k < r.length := by have := HLR.out; omega
      obtain ⟨y0, y1, y2⟩ := HEL.out k hkr wr HB.out
      have HN : Hid (((r.map (Tr.endM s)).take (k + 1)).foldl (mThen s.size) (x.endM s) = mThen s.size (((r.map (Tr.endM s)).take k).foldl (mThen s.size) (x.endM s)) (r[k].endM s)) := by
        show _ = _
        rw [foldl_take_succ _ _ _ k (by simpa using hkr)]
        simp
      have hUP : UpM s.size (((r.map (Tr.endM s)).take k).foldl (mThen s.size) (x.endM s)) := UpM.thens _ (fun M hM => by
        obtain ⟨u, _, rfl⟩ := List.mem_map.1 (List.mem_of_mem_take hM)
        exact HU.out u) _ (HU.out x)
      have hUX : UpM s.size (r[k].endM s) := HU.out r[k]
      have HC := Hid.mk (HI.out k hkr)
      obtain ⟨av, lv, cv, hV⟩ := HLN.out k hkr
      rw [hV] at y2 HC
      clear hV
      obtain ⟨X, hX⟩ : ∃ X, r[k] = X := ⟨_, rfl⟩
      rw [hX] at y0 y1 HC HN hUX
      obtain ⟨xk, hxk⟩ : ∃ tk, X.k = tk := ⟨_, rfl⟩
      obtain ⟨xs, hxs⟩ : ∃ ts, X.s = ts := ⟨_, rfl⟩
      obtain ⟨MX, hMX⟩ : ∃ M, X.endM s = M := ⟨_, rfl⟩
      obtain ⟨P, hP⟩ : ∃ P, ((r.map (Tr.endM s)).take k).foldl (mThen s.size) (x.endM s) = P := ⟨_, rfl⟩
      rw [hxk] at y0
      rw [hxs] at y1
      rw [hxk, hxs, hMX] at HC
      rw [hMX, hP] at HN
      rw [hMX] at hUX
      rw [hP] at HQ hUP
      have HUP := Hid.mk hUP
      have HUX := Hid.mk hUX
      clear hX hxk hxs hMX hP hUP hUX
      rw [show off + (k + 1) * 3 = off + 3 + k * 3 by omega] at y0 y1 y2
      go_wp2_with fail
      have A1 : Below wr.heap.size wr (wr.alloc (.cells #[.int .i64 xk, .string xs, .slice av lv cv] 26)) := (Below.refl _ _).alloc (Nat.le_refl _) _
      refine (HC.out _ (HB.out.trans (A1.mono HB.out.size))).mono ?_
      rintro e w2 ⟨g2, rfl, hg2, hq2, hb2⟩
      have B2 := Hid.mk ((HB.out.trans (A1.mono HB.out.size)).trans (hb2.mono (by have := HB.out.size; simp; omega)))
      have HTH := Hid.mk (oneBehind_any s.size hs g g2 P MX HUP.out HUX.out w2 (hT.grow B2.out) ((HQ.out.grow A1).grow hb2) hq2)
      clear hq2 hb2 HC A1 HQ HB y0 y1 y2
      go_wp2_with fail
      refine HTH.out.mono ?_
      rintro e w3 ⟨g3, rfl, hg3, hq3, hb3⟩
      have HQ3 : Hid (Pq w3 g3 s.size (((r.map (Tr.endM s)).take (k + 1)).foldl (mThen s.size) (x.endM s))) := by
        show Pq _ _ _ _
        rw [HN.out]
        exact hq3
      have B3 := Hid.mk (B2.out.trans (hb3.mono B2.out.size))
      have hgl3 : w.heap.size ≤ g3 := Nat.le_trans B2.out.size hg3
      clear hq3 hb3 HTH B2 HN
      go_wp2
      go_roundw
      case rel => exact ⟨k + 1, g3, by omega, by go_num, rfl, hgl3, HQ3, B3⟩
      case measure => simp [intOf]; omega
    · have HQn : Hid (Pq wr g s.size E) := by
        have := HQ.out
        rw [List.take_of_length_le (by have := HLR.out; simp; omega)] at this
        exact this.ext (fun i y hi _ => HE.out i y hi)
      clear HQ
      go_wp2
      go_ret
      exact ⟨_, rfl, hgl, HQn.out, HB.out⟩

set_option maxHeartbeats 2000000 in
theorem ends_alt (s : ByteArray) (hs : s.size ≤ 200) (t : Tr) (ih : ∀ x ∈ t.l, EeC s x) (hk : t.k = 5) : EeC s t := by
  intro B v w h hts hok hT
  have hall : ∀ x ∈ t.l, x.okT = true := by
    have := hok
    rw [okT_eq, Bool.and_eq_true, okL_iff] at this
    exact this.1
  obtain ⟨x, r, hl⟩ : ∃ x r, t.l = x :: r := by
    have := (okT_many' hok (by omega)).1
    match t.l, this with
    | x :: r, _ => exact ⟨x, r, rfl⟩
  have hr8 : r.length ≤ 8 := by have := (okT_many' hok (by omega)).2; rw [hl] at this; simp at this; omega
  have hr1 : 1 ≤ r.length := by have := (okT_many' hok (by omega)).1; rw [hl] at this; simp at this; omega
  have HE : Hid (EqM s.size ((r.map (Tr.endM s)).foldl mAdd (x.endM s)) (t.endM s)) := by
    show EqM _ _ _
    rw [endM_eq s t, nodeM, hk, hl]
    exact adds_first _ (UpM.tree s x)
  have HU := Hid.mk (fun (y : Tr) => UpM.tree s y)
  have A0 : Below w.heap.size w (w.alloc (.cells #[.int .i64 t.k, .string t.s, v] 26)) := (Below.refl _ _).alloc (Nat.le_refl _) _
  have HX := Hid.mk (Bz3.new w (.int .i64 t.k) (.string t.s) v)
  rw [hl] at h ih hall
  obtain ⟨ao, cap, rfl, hc1, hc2, -⟩ := h.len
  obtain ⟨b, off, V, rfl, hel⟩ := h.elems (by simp)
  obtain ⟨h3, hsub, hss⟩ := hel 0 (by simp)
  simp only [List.getElem_cons_zero, Nat.zero_mul, Nat.add_zero] at h3 hsub hss
  have HC := Hid.mk (fun (w' : World) (hb : Below w.heap.size w w') => ih x (by simp) B (V 0) w' (hsub.grow hb) hss (hall x (by simp)) (hT.grow hb))
  have HI := Hid.mk (fun (j : Nat) (hj : j < r.length) (w' : World) (hb : Below w.heap.size w w') => ih r[j] (by simp) B (V (j + 1)) w' ((hel (j + 1) (by simp; omega)).2.1.grow hb) (hel (j + 1) (by simp; omega)).2.2 (hall r[j] (by simp)) (hT.grow hb))
  have HLN : Hid (∀ j, j < r.length → ∃ av lv cv, V (j + 1) = .slice av lv cv) := fun j hj => by
    obtain ⟨a, c, h, -⟩ := (hel (j + 1) (by simp; omega)).2.1.len
    exact ⟨a, _, c, h⟩
  have HEL := Hid.mk (fun (j : Nat) (hj : j < r.length) (w' : World) (hb : Below w.heap.size w w') => (hel (j + 1) (by simp; omega)).1.grow hb)
  simp only [List.getElem_cons_succ] at HEL
  have H3 := Hid.mk h3
  obtain ⟨ts, hts'⟩ : ∃ ts, t.s = ts := ⟨_, rfl⟩
  obtain ⟨xk, hxk⟩ : ∃ tk, x.k = tk := ⟨_, rfl⟩
  obtain ⟨xs, hxs⟩ : ∃ ts, x.s = ts := ⟨_, rfl⟩
  obtain ⟨E, hE⟩ : ∃ E, t.endM s = E := ⟨_, rfl⟩
  rw [hE] at HE
  rw [hk, hts'] at A0 HX
  rw [hxk, hxs] at HC H3
  rw [hk, hts', hE]
  have hcm : cap ≤ 9223372036854775807 := by unfold maxLen at hc2; omega
  have hc1' : r.length + 1 ≤ cap := by simpa using hc1
  clear h hts hok hts' hxk hxs hel h3 hsub hss ih hall hl hk hc1 hc2 hE
  simp only [List.length_cons] at A0 HX ⊢
  obtain ⟨lr, hlr⟩ : ∃ lr, r.length = lr := ⟨_, rfl⟩
  have HLR := Hid.mk hlr
  rw [hlr] at hc1' hr8 hr1 A0 HX ⊢
  clear hlr
  have hcn : ¬ cap = 1 := by omega
  have x0 := HX.out.c0
  have x1 := HX.out.c1
  have x2 := HX.out.c2
  obtain ⟨y0, y1, y2⟩ := H3.out.grow A0
  go_enter Tryd.func41, Tryd.ntmps41
  go_wp2_with fail
  refine (HC.out _ A0).mono ?_
  rintro e w1 ⟨g1, rfl, hg1, hq1, hb1⟩
  have HQ1 := Hid.mk hq1
  have B1 := Hid.mk (A0.trans (hb1.mono (by simp)))
  have HX1 := Hid.mk (HX.out.grow hb1)
  have hgl1 : w.heap.size ≤ g1 := by simp at hg1; omega
  clear x0 x1 x2 y0 y1 y2 hq1 hb1 A0 HC H3 HX hg1
  have x0 := HX1.out.c0
  have x1 := HX1.out.c1
  have x2 := HX1.out.c2
  go_wp2
  clear x0 x1 x2
  go_loopw [8, 49] (fun o q wr => ∃ (k g : Nat), k ≤ lr ∧ q = .int .i64 k ∧ o = plS g s.size ∧ w.heap.size ≤ g ∧ Hid (Pq wr g s.size (((r.map (Tr.endM s)).take k).foldl mAdd (x.endM s))) ∧ Hid (Below w.heap.size w wr)) (fun _ q _ => lr - (intOf q).toNat)
  case atStart => exact ⟨0, g1, Nat.zero_le _, rfl, rfl, hgl1, HQ1, B1⟩
  case round =>
    obtain ⟨k, g, hkl, rfl, rfl, hgl, HQ, HB⟩ := hrel
    clear HQ1 HX1 B1 hgl1
    by_cases hlt : (k : Int) < (lr : Int)
    · have hkr : k < r.length := by have := HLR.out; omega
      obtain ⟨y0, y1, y2⟩ := HEL.out k hkr wr HB.out
      have HN : Hid (((r.map (Tr.endM s)).take (k + 1)).foldl mAdd (x.endM s) = mAdd (((r.map (Tr.endM s)).take k).foldl mAdd (x.endM s)) (r[k].endM s)) := by
        show _ = _
        rw [foldl_take_succ _ _ _ k (by simpa using hkr)]
        simp
      have hUP : UpM s.size (((r.map (Tr.endM s)).take k).foldl mAdd (x.endM s)) := UpM.adds _ (fun M hM => by
        obtain ⟨u, _, rfl⟩ := List.mem_map.1 (List.mem_of_mem_take hM)
        exact HU.out u) _ (HU.out x)
      have hUX : UpM s.size (r[k].endM s) := HU.out r[k]
      have HC := Hid.mk (HI.out k hkr)
      obtain ⟨av, lv, cv, hV⟩ := HLN.out k hkr
      rw [hV] at y2 HC
      clear hV
      obtain ⟨X, hX⟩ : ∃ X, r[k] = X := ⟨_, rfl⟩
      rw [hX] at y0 y1 HC HN hUX
      obtain ⟨xk, hxk⟩ : ∃ tk, X.k = tk := ⟨_, rfl⟩
      obtain ⟨xs, hxs⟩ : ∃ ts, X.s = ts := ⟨_, rfl⟩
      obtain ⟨MX, hMX⟩ : ∃ M, X.endM s = M := ⟨_, rfl⟩
      obtain ⟨P, hP⟩ : ∃ P, ((r.map (Tr.endM s)).take k).foldl mAdd (x.endM s) = P := ⟨_, rfl⟩
      rw [hxk] at y0
      rw [hxs] at y1
      rw [hxk, hxs, hMX] at HC
      rw [hMX, hP] at HN
      rw [hMX] at hUX
      rw [hP] at HQ hUP
      have HUP := Hid.mk hUP
      have HUX := Hid.mk hUX
      clear hX hxk hxs hMX hP hUP hUX
      rw [show off + (k + 1) * 3 = off + 3 + k * 3 by omega] at y0 y1 y2
      go_wp2_with fail
      have A1 : Below wr.heap.size wr (wr.alloc (.cells #[.int .i64 xk, .string xs, .slice av lv cv] 26)) := (Below.refl _ _).alloc (Nat.le_refl _) _
      refine (HC.out _ (HB.out.trans (A1.mono HB.out.size))).mono ?_
      rintro e w2 ⟨g2, rfl, hg2, hq2, hb2⟩
      have B2 := Hid.mk ((HB.out.trans (A1.mono HB.out.size)).trans (hb2.mono (by have := HB.out.size; simp; omega)))
      have HTH := Hid.mk (oneOrOther_any s.size hs g g2 P MX w2 ((HQ.out.grow A1).grow hb2) hq2)
      clear hq2 hb2 HC A1 HQ HB y0 y1 y2
      go_wp2_with fail
      refine HTH.out.mono ?_
      rintro e w3 ⟨g3, rfl, hg3, hq3, hb3⟩
      have HQ3 : Hid (Pq w3 g3 s.size (((r.map (Tr.endM s)).take (k + 1)).foldl mAdd (x.endM s))) := by
        show Pq _ _ _ _
        rw [HN.out]
        exact hq3.ext (fun i y hi _ => (mAdd_or HUX.out i y hi).symm)
      have B3 := Hid.mk (B2.out.trans (hb3.mono B2.out.size))
      have hgl3 : w.heap.size ≤ g3 := Nat.le_trans B2.out.size hg3
      clear hq3 hb3 HTH B2 HN
      go_wp2
      go_roundw
      case rel => exact ⟨k + 1, g3, by omega, by go_num, rfl, hgl3, HQ3, B3⟩
      case measure => simp [intOf]; omega
    · have HQn : Hid (Pq wr g s.size E) := by
        have := HQ.out
        rw [List.take_of_length_le (by have := HLR.out; simp; omega)] at this
        exact this.ext (fun i y hi _ => HE.out i y hi)
      clear HQ
      go_wp2
      go_ret
      exact ⟨_, rfl, hgl, HQn.out, HB.out⟩

theorem endsEverywhere_any (s : ByteArray) (hs : s.size ≤ 200) : ∀ t : Tr, EeC s t := by
  apply Tr.ind
  intro t ih
  by_cases h1 : t.k = 1 ∨ t.k = 2 ∨ t.k = 3 ∨ t.k = 9 ∨ t.k = 10 ∨ t.k = 11
  · exact ends_leaf s hs t h1
  by_cases h4 : t.k = 4
  · exact ends_cat s hs t ih h4
  by_cases h5 : t.k = 5
  · exact ends_alt s hs t ih h5
  by_cases h6 : t.k = 6
  · exact ends_star s hs t ih h6
  by_cases h7 : t.k = 7
  · exact ends_plus s hs t ih h7
  by_cases h8 : t.k = 8
  · exact ends_opt s hs t ih h8
  · intro B v w h hts hok hT
    rw [okT_eq] at hok
    simp only [nodeB] at hok
    rw [if_neg (by omega), if_neg (by omega), if_neg (by omega), if_neg (by omega), if_neg (by omega)] at hok
    simp at hok
end Go.Proofs.YthifleacfhijnaaDoor
