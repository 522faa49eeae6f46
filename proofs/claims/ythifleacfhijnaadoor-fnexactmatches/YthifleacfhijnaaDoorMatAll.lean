/- Where a part that begins at each place may end: what the document says; the model's answer. -/
import Derived.Test.YthifleacfhijnaaDoorMatThen
import Derived.Test.YthifleacfhijnaaDoorMatMany
import Derived.Test.YthifleacfhijnaaDoorRexDef
namespace Go.Proofs.YthifleacfhijnaaDoor
open Go.RowKit
set_option maxRecDepth 8000

def mSame : Mat := fun i j => i == j
def mNone : Mat := fun _ _ => false

def nodeM (s : ByteArray) (k : Int) (c : ByteArray) (L : List Mat) : Mat :=
  if k = 1 ∨ k = 2 ∨ k = 3 then mOne s k c
  else if k = 4 then L.foldl (mThen s.size) mSame
  else if k = 5 then L.foldl mAdd mNone
  else if k = 6 then mMany s.size (L.headD mSame)
  else if k = 7 then mThen s.size (L.headD mSame) (mMany s.size (L.headD mSame))
  else if k = 8 then mAdd mSame (L.headD mSame)
  else if k = 10 then fun i j => i == j && decide (i = 0)
  else if k = 11 then fun i j => i == j && decide (i = s.size)
  else mSame

mutual
/-- Where it may end. -/
def Tr.endM (s : ByteArray) : Tr → Mat
  | .node k c l => nodeM s k c (endML s l)
def endML (s : ByteArray) : List Tr → List Mat
  | [] => []
  | t :: r => t.endM s :: endML s r
end

theorem endML_map (s : ByteArray) (l : List Tr) : endML s l = l.map (Tr.endM s) := by
  induction l with
  | nil => rw [endML]; rfl
  | cons t r ih => rw [endML, ih]; rfl
theorem endM_eq (s : ByteArray) (t : Tr) : t.endM s = nodeM s t.k t.s (t.l.map (Tr.endM s)) := by
  cases t
  rw [Tr.endM, endML_map]
  rfl

def AlC (s : ByteArray) (t : Tr) : Prop := ∀ (B : Nat → Prop) (v : Value) (w : World), Rl w B t.l v → t.s.size ≤ maxLen → t.okT = true →
  Calls Tryd.prog 45 #[rx t.k t.s v, .string s] w fun e w' => ∃ u, e = .returned u ∧ Mx w' (newFrom w.heap.size) s.size (t.endM s) u ∧ Below w.heap.size w w'

set_option maxHeartbeats 1000000 in
theorem l4All_one (s : ByteArray) (hs : s.size ≤ 200) (t : Tr) (hk : t.k = 1 ∨ t.k = 2 ∨ t.k = 3) : AlC s t := by
  intro B v w h hts hok
  have HE : Hid (t.endM s = mOne s t.k t.s) := by show _ = _; rw [endM_eq, nodeM, if_pos hk]
  have A0 : Below w.heap.size w (w.alloc (.cells #[.int .i64 t.k, .string t.s, v] 26)) := (Below.refl _ _).alloc (Nat.le_refl _) _
  have HS := Hid.mk (fun w' => l4Same_any s hs w')
  have HO := Hid.mk (fun w' => l4One_any t v s hs hts w')
  have HX := Hid.mk (Bz3.new w (.int .i64 t.k) (.string t.s) v)
  obtain ⟨ao, cap, rfl, -⟩ := h.len
  obtain ⟨M, hM⟩ : ∃ M, mOne s t.k t.s = M := ⟨_, rfl⟩
  rw [hM] at HE HO
  obtain ⟨tk, htk⟩ : ∃ tk, t.k = tk := ⟨_, rfl⟩
  obtain ⟨ts, hts'⟩ : ∃ ts, t.s = ts := ⟨_, rfl⟩
  rw [htk, hts'] at A0 HO HX
  rw [htk] at hk
  rw [htk, hts', HE.out]
  clear h hts hok HE hM htk hts'
  rcases hk with rfl | rfl | rfl
  all_goals
    go_enter Tryd.func45, Tryd.ntmps45
    go_wp2_with fail
    refine (HS.out _).mono ?_
    rintro e w1 ⟨v1, rfl, hm1, hb1⟩
    obtain ⟨a1, c1, rfl⟩ := hm1.len
    have B1 := Hid.mk (A0.trans (hb1.mono (by simp)))
    have HX1 := HX.out.grow hb1
    have x0 := HX1.c0
    have x1 := HX1.c1
    have x2 := HX1.c2
    clear HX1 hm1 hb1 A0
    go_wp2_with fail
    refine (HO.out w1).mono ?_
    rintro e w2 ⟨v2, rfl, hm2, hb2⟩
    have B2 := Hid.mk (B1.out.trans (hb2.mono B1.out.size))
    have HM2 := Hid.mk (hm2.imp (C := newFrom w.heap.size) (fun b hb => by unfold newFrom at *; have := B1.out.size; omega))
    clear hm2 hb2 B1 x0 x1 x2
    go_wp2
    go_ret
    exact ⟨_, rfl, HM2.out, B2.out⟩

set_option maxHeartbeats 1000000 in
theorem l4All_star (s : ByteArray) (hs : s.size ≤ 200) (t : Tr) (ih : ∀ x ∈ t.l, AlC s x) (hk : t.k = 6) : AlC s t := by
  intro B v w h hts hok
  obtain ⟨x, hl⟩ : ∃ x, t.l = [x] := by
    rw [okT_eq] at hok
    simp [nodeB, hk] at hok
    exact List.length_eq_one_iff.1 hok.2.1.2
  have hxo : x.okT = true := by
    rw [okT_eq, hl] at hok
    simp [okL] at hok
    exact hok.1
  have HE : Hid (t.endM s = mMany s.size (x.endM s)) := by show _ = _; rw [endM_eq, nodeM, hk, hl]; rfl
  have A0 : Below w.heap.size w (w.alloc (.cells #[.int .i64 t.k, .string t.s, v] 26)) := (Below.refl _ _).alloc (Nat.le_refl _) _
  have HS := Hid.mk (fun w' => l4Same_any s hs w')
  have HX := Hid.mk (Bz3.new w (.int .i64 t.k) (.string t.s) v)
  rw [hl] at h ih
  obtain ⟨ao, cap, rfl, hc1, hc2, -⟩ := h.len
  obtain ⟨b, off, V, rfl, hel⟩ := h.elems (by simp)
  obtain ⟨h3, hsub, hss⟩ := hel 0 (by simp)
  simp only [List.getElem_cons_zero, Nat.zero_mul, Nat.add_zero] at h3 hsub hss
  have HC := Hid.mk (fun (w' : World) (hb : Below w.heap.size w w') => ih x (by simp) B (V 0) w' (hsub.grow hb) hss hxo)
  have H3 := Hid.mk h3
  obtain ⟨MX, hMX⟩ : ∃ M, x.endM s = M := ⟨_, rfl⟩
  rw [hMX] at HC HE
  have HMA := Hid.mk (fun (w' : World) (C : Nat → Prop) (u : Value) (hu : Mx w' C s.size MX u) => l4Many_any s hs C MX u w' hu)
  obtain ⟨ts, hts'⟩ : ∃ ts, t.s = ts := ⟨_, rfl⟩
  obtain ⟨xk, hxk⟩ : ∃ tk, x.k = tk := ⟨_, rfl⟩
  obtain ⟨xs, hxs⟩ : ∃ ts, x.s = ts := ⟨_, rfl⟩
  rw [hk, hts'] at A0 HX
  rw [hxk, hxs] at HC H3
  rw [hk, hts', HE.out]
  have hcm : cap ≤ 9223372036854775807 := by unfold maxLen at hc2; omega
  have hc1' : 1 ≤ cap := by simpa using hc1
  clear h hts hok HE hMX hts' hxk hxs hel h3 hsub hss ih hl hxo hk hc1 hc2
  simp only [List.length_singleton] at A0 HX ⊢
  go_enter Tryd.func45, Tryd.ntmps45
  go_wp2_with fail
  refine (HS.out _).mono ?_
  rintro e w1 ⟨v1, rfl, hm1, hb1⟩
  have HM1 := Hid.mk (hm1.there)
  obtain ⟨a1, c1, rfl⟩ := hm1.len
  have B1 := Hid.mk (A0.trans (hb1.mono (by simp)))
  have HX1 := HX.out.grow hb1
  have x0 := HX1.c0
  have x1 := HX1.c1
  have x2 := HX1.c2
  obtain ⟨y0, y1, y2⟩ := H3.out.grow B1.out
  clear HX1 hm1 hb1 A0
  go_wp2_with fail
  refine (HC.out w1 B1.out).mono ?_
  rintro e w2 ⟨v2, rfl, hm2, hb2⟩
  have HM2 := Hid.mk hm2
  have B2 := Hid.mk (B1.out.trans (hb2.mono B1.out.size))
  obtain ⟨a2, c2, rfl⟩ := hm2.len
  clear hm2 hb2 x0 x1 x2 y0 y1 y2 HM1
  go_wp2_with fail
  refine (HMA.out w2 _ _ HM2.out).mono ?_
  rintro e w3 ⟨v3, rfl, hm3, hb3⟩
  have HM3 := Hid.mk (hm3.imp (C := newFrom w.heap.size) (fun b hb => by unfold newFrom at *; have := B2.out.size; omega))
  have B3 := Hid.mk (B2.out.trans (hb3.mono B2.out.size))
  clear hm3 hb3 HM2 B2
  go_wp2
  go_ret
  exact ⟨_, rfl, HM3.out, B3.out⟩

set_option maxHeartbeats 1000000 in
theorem l4All_plus (s : ByteArray) (hs : s.size ≤ 200) (t : Tr) (ih : ∀ x ∈ t.l, AlC s x) (hk : t.k = 7) : AlC s t := by
  intro B v w h hts hok
  obtain ⟨x, hl⟩ : ∃ x, t.l = [x] := by
    rw [okT_eq] at hok
    simp [nodeB, hk] at hok
    exact List.length_eq_one_iff.1 hok.2.1.2
  have hxo : x.okT = true := by
    rw [okT_eq, hl] at hok
    simp [okL] at hok
    exact hok.1
  have HE : Hid (t.endM s = mThen s.size (x.endM s) (mMany s.size (x.endM s))) := by show _ = _; rw [endM_eq, nodeM, hk, hl]; rfl
  have A0 : Below w.heap.size w (w.alloc (.cells #[.int .i64 t.k, .string t.s, v] 26)) := (Below.refl _ _).alloc (Nat.le_refl _) _
  have HS := Hid.mk (fun w' => l4Same_any s hs w')
  have HX := Hid.mk (Bz3.new w (.int .i64 t.k) (.string t.s) v)
  rw [hl] at h ih
  obtain ⟨ao, cap, rfl, hc1, hc2, -⟩ := h.len
  obtain ⟨b, off, V, rfl, hel⟩ := h.elems (by simp)
  obtain ⟨h3, hsub, hss⟩ := hel 0 (by simp)
  simp only [List.getElem_cons_zero, Nat.zero_mul, Nat.add_zero] at h3 hsub hss
  have HC := Hid.mk (fun (w' : World) (hb : Below w.heap.size w w') => ih x (by simp) B (V 0) w' (hsub.grow hb) hss hxo)
  have H3 := Hid.mk h3
  obtain ⟨MX, hMX⟩ : ∃ M, x.endM s = M := ⟨_, rfl⟩
  rw [hMX] at HC HE
  have HMA := Hid.mk (fun (w' : World) (C : Nat → Prop) (u : Value) (hu : Mx w' C s.size MX u) => l4Many_any s hs C MX u w' hu)
  have HTH := Hid.mk (fun (w' : World) (C D : Nat → Prop) (u u' : Value) (hu : Mx w' C s.size MX u) (hu' : Mx w' D s.size (mMany s.size MX) u') => l4Then_any s hs C D MX (mMany s.size MX) u u' w' hu hu')
  obtain ⟨ts, hts'⟩ : ∃ ts, t.s = ts := ⟨_, rfl⟩
  obtain ⟨xk, hxk⟩ : ∃ tk, x.k = tk := ⟨_, rfl⟩
  obtain ⟨xs, hxs⟩ : ∃ ts, x.s = ts := ⟨_, rfl⟩
  rw [hk, hts'] at A0 HX
  rw [hxk, hxs] at HC H3
  rw [hk, hts', HE.out]
  have hcm : cap ≤ 9223372036854775807 := by unfold maxLen at hc2; omega
  have hc1' : 1 ≤ cap := by simpa using hc1
  clear h hts hok HE hMX hts' hxk hxs hel h3 hsub hss ih hl hxo hk hc1 hc2
  simp only [List.length_singleton] at A0 HX ⊢
  go_enter Tryd.func45, Tryd.ntmps45
  go_wp2_with fail
  refine (HS.out _).mono ?_
  rintro e w1 ⟨v1, rfl, hm1, hb1⟩
  have HM1 := Hid.mk (hm1.there)
  obtain ⟨a1, c1, rfl⟩ := hm1.len
  have B1 := Hid.mk (A0.trans (hb1.mono (by simp)))
  have HX1 := HX.out.grow hb1
  have x0 := HX1.c0
  have x1 := HX1.c1
  have x2 := HX1.c2
  obtain ⟨y0, y1, y2⟩ := H3.out.grow B1.out
  clear HX1 hm1 hb1 A0
  go_wp2_with fail
  refine (HC.out w1 B1.out).mono ?_
  rintro e w2 ⟨v2, rfl, hm2, hb2⟩
  have HM2 := Hid.mk hm2
  have B2 := Hid.mk (B1.out.trans (hb2.mono B1.out.size))
  obtain ⟨a2, c2, rfl⟩ := hm2.len
  clear hm2 hb2 x0 x1 x2 y0 y1 y2 HM1
  go_wp2_with fail
  refine (HMA.out w2 _ _ HM2.out).mono ?_
  rintro e w3 ⟨v3, rfl, hm3, hb3⟩
  have HM3 := Hid.mk hm3
  have HM2' := Hid.mk (HM2.out.grow hb3)
  have B3 := Hid.mk (B2.out.trans (hb3.mono B2.out.size))
  clear hm3 hb3 HM2 B2
  go_wp2_with fail
  refine (HTH.out w3 _ _ _ _ HM2'.out HM3.out).mono ?_
  rintro e w4 ⟨v4, rfl, hm4, hb4⟩
  have HM4 := Hid.mk (hm4.imp (C := newFrom w.heap.size) (fun b hb => by unfold newFrom at *; have := B3.out.size; omega))
  have B4 := Hid.mk (B3.out.trans (hb4.mono B3.out.size))
  clear hm4 hb4 HM2' HM3 B3
  go_wp2
  go_ret
  exact ⟨_, rfl, HM4.out, B4.out⟩

set_option maxHeartbeats 1000000 in
theorem l4All_opt (s : ByteArray) (hs : s.size ≤ 200) (t : Tr) (ih : ∀ x ∈ t.l, AlC s x) (hk : t.k = 8) : AlC s t := by
  intro B v w h hts hok
  obtain ⟨x, hl⟩ : ∃ x, t.l = [x] := by
    rw [okT_eq] at hok
    simp [nodeB, hk] at hok
    exact List.length_eq_one_iff.1 hok.2.1.2
  have hxo : x.okT = true := by
    rw [okT_eq, hl] at hok
    simp [okL] at hok
    exact hok.1
  have HE : Hid (t.endM s = mAdd mSame (x.endM s)) := by show _ = _; rw [endM_eq, nodeM, hk, hl]; rfl
  have A0 : Below w.heap.size w (w.alloc (.cells #[.int .i64 t.k, .string t.s, v] 26)) := (Below.refl _ _).alloc (Nat.le_refl _) _
  have HS := Hid.mk (fun w' => l4Same_any s hs w')
  have HX := Hid.mk (Bz3.new w (.int .i64 t.k) (.string t.s) v)
  rw [hl] at h ih
  obtain ⟨ao, cap, rfl, hc1, hc2, -⟩ := h.len
  obtain ⟨b, off, V, rfl, hel⟩ := h.elems (by simp)
  obtain ⟨h3, hsub, hss⟩ := hel 0 (by simp)
  simp only [List.getElem_cons_zero, Nat.zero_mul, Nat.add_zero] at h3 hsub hss
  have HC := Hid.mk (fun (w' : World) (hb : Below w.heap.size w w') => ih x (by simp) B (V 0) w' (hsub.grow hb) hss hxo)
  have H3 := Hid.mk h3
  obtain ⟨MX, hMX⟩ : ∃ M, x.endM s = M := ⟨_, rfl⟩
  rw [hMX] at HC HE
  have HAD := Hid.mk (fun (w' : World) (C D : Nat → Prop) (u u' : Value) (hu : Mx w' C s.size (fun i k => i == k) u) (hu' : Mx w' D s.size MX u') (hCD : ∀ b, C b → ¬ D b) => l4Add_any s.size hs C D (fun i k => i == k) MX u u' w' hu hu' hCD)
  obtain ⟨ts, hts'⟩ : ∃ ts, t.s = ts := ⟨_, rfl⟩
  obtain ⟨xk, hxk⟩ : ∃ tk, x.k = tk := ⟨_, rfl⟩
  obtain ⟨xs, hxs⟩ : ∃ ts, x.s = ts := ⟨_, rfl⟩
  rw [hk, hts'] at A0 HX
  rw [hxk, hxs] at HC H3
  rw [hk, hts', HE.out]
  have hcm : cap ≤ 9223372036854775807 := by unfold maxLen at hc2; omega
  have hc1' : 1 ≤ cap := by simpa using hc1
  clear h hts hok HE hMX hts' hxk hxs hel h3 hsub hss ih hl hxo hk hc1 hc2
  simp only [List.length_singleton] at A0 HX ⊢
  go_enter Tryd.func45, Tryd.ntmps45
  go_wp2_with fail
  refine (HS.out _).mono ?_
  rintro e w1 ⟨v1, rfl, hm1, hb1⟩
  have HM1 := Hid.mk (hm1.there)
  obtain ⟨a1, c1, rfl⟩ := hm1.len
  have B1 := Hid.mk (A0.trans (hb1.mono (by simp)))
  have HX1 := HX.out.grow hb1
  have x0 := HX1.c0
  have x1 := HX1.c1
  have x2 := HX1.c2
  obtain ⟨y0, y1, y2⟩ := H3.out.grow B1.out
  clear HX1 hm1 hb1 A0
  go_wp2_with fail
  refine (HC.out w1 B1.out).mono ?_
  rintro e w2 ⟨v2, rfl, hm2, hb2⟩
  have HM2 := Hid.mk hm2
  have B2 := Hid.mk (B1.out.trans (hb2.mono B1.out.size))
  obtain ⟨a2, c2, rfl⟩ := hm2.len
  have HM1' := Hid.mk (HM1.out.grow hb2)
  have hs1 := B1.out.size
  clear hm2 hb2 x0 x1 x2 y0 y1 y2 HM1
  go_wp2_with fail
  refine (HAD.out w2 _ _ _ _ HM1'.out HM2.out (fun b hb hb' => by have := hb.2; unfold newFrom at hb'; omega)).mono ?_
  rintro e w3 ⟨⟨u3, rfl⟩, hm3, ht3⟩
  have HM3 := Hid.mk (hm3.imp (C := newFrom w.heap.size) (fun b hb => by have := hb.1; unfold newFrom at *; simp at this; omega))
  have B3 := Hid.mk (B2.out.trans (ht3.toBelow B2.out.size (fun b hb => by have := hb.1; unfold newFrom at this; simp at this; omega)))
  clear hm3 ht3 HM2 B2
  go_wp2
  go_ret
  exact ⟨_, rfl, HM3.out, B3.out⟩

end Go.Proofs.YthifleacfhijnaaDoor
