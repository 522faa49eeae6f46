/- Where a part may end, the model's answer: one behind the other, one or the other, and what takes nothing. -/
import Derived.Test.YthifleacfhijnaaDoorMatAll
namespace Go.Proofs.YthifleacfhijnaaDoor
open Go.RowKit
set_option maxRecDepth 8000

theorem foldl_take_succ {α β : Type} (f : α → β → α) (a : α) (l : List β) (k : Nat) (h : k < l.length) : (l.take (k + 1)).foldl f a = f ((l.take k).foldl f a) l[k] := by
  rw [List.take_succ_eq_append_getElem h, List.foldl_append]
  rfl

set_option maxHeartbeats 1000000 in
theorem l4All_cat (s : ByteArray) (hs : s.size ≤ 200) (t : Tr) (ih : ∀ x ∈ t.l, AlC s x) (hk : t.k = 4) : AlC s t := by
  intro B v w h hts hok
  have hall : ∀ x ∈ t.l, x.okT = true := by
    rw [okT_eq, Bool.and_eq_true, okL_iff] at hok
    exact hok.1
  have HE : Hid (t.endM s = (t.l.map (Tr.endM s)).foldl (mThen s.size) mSame) := by show _ = _; rw [endM_eq, nodeM, hk]; rfl
  have A0 : Below w.heap.size w (w.alloc (.cells #[.int .i64 t.k, .string t.s, v] 26)) := (Below.refl _ _).alloc (Nat.le_refl _) _
  have HS := Hid.mk (fun w' => l4Same_any s hs w')
  have HX := Hid.mk (Bz3.new w (.int .i64 t.k) (.string t.s) v)
  have HTH := Hid.mk (fun (w' : World) (C D : Nat → Prop) (a b : Mat) (u u' : Value) (hu : Mx w' C s.size a u) (hu' : Mx w' D s.size b u') => l4Then_any s hs C D a b u u' w' hu hu')
  obtain ⟨ts, hts'⟩ : ∃ ts, t.s = ts := ⟨_, rfl⟩
  obtain ⟨l, hl⟩ : ∃ l, t.l = l := ⟨_, rfl⟩
  rw [hl] at h ih hall HE
  rw [hk, hts'] at A0 HX
  rw [hk, hts', HE.out]
  obtain ⟨ao, cap, rfl, hc1, hc2, -⟩ := h.len
  have hcm : cap ≤ 9223372036854775807 := by unfold maxLen at hc2; omega
  have HH := Hid.mk h
  have HI := Hid.mk ih
  have HA := Hid.mk hall
  clear hts hok HE hts' hl hk hc2 h ih hall
  go_enter Tryd.func45, Tryd.ntmps45
  go_wp2_with fail
  refine (HS.out _).mono ?_
  rintro e w1 ⟨v1, rfl, hm1, hb1⟩
  have HM1 : Hid (Mx w1 (newFrom w.heap.size) s.size (((l.map (Tr.endM s)).take 0).foldl (mThen s.size) mSame) v1) := hm1.imp (fun b hb => by unfold newFrom at *; simp at hb; omega)
  have B1 := Hid.mk (A0.trans (hb1.mono (by simp)))
  have HX1 := Hid.mk (HX.out.grow hb1)
  clear hm1 hb1 A0 HX
  have x0 := HX1.out.c0
  have x2 := HX1.out.c2
  go_wp2
  clear x0 x2
  go_loopw [5, 6] (fun o q wr => ∃ (k : Nat), k ≤ l.length ∧ q = .int .i64 k ∧ Hid (Mx wr (newFrom w.heap.size) s.size (((l.map (Tr.endM s)).take k).foldl (mThen s.size) mSame) o) ∧ Hid (Bz3 wr w.heap.size (.int .i64 4) (.string ts) (.slice ao l.length cap)) ∧ Hid (Below w.heap.size w wr)) (fun _ q _ => l.length - (intOf q).toNat)
  case atStart => exact ⟨0, Nat.zero_le _, rfl, HM1, HX1, B1⟩
  case round =>
    obtain ⟨k, hkl, rfl, HM, HXr, HB⟩ := hrel
    clear HM1 HX1 B1
    have x0 := HXr.out.c0
    have x2 := HXr.out.c2
    obtain ⟨ae, ce, hv⟩ := HM.out.len
    by_cases hlt : k < l.length
    · have hki : (k : Int) < (l.length : Int) := by omega
      obtain ⟨b, off, V, rfl, hel⟩ := HH.out.elems (by intro hn; rw [hn] at hlt; simp at hlt)
      obtain ⟨h3, hsub, hss⟩ := hel k hlt
      obtain ⟨y0, y1, y2⟩ := h3.grow HB.out
      have HC := Hid.mk (HI.out l[k] (List.getElem_mem hlt) B (V k) wr (hsub.grow HB.out) hss (HA.out _ (List.getElem_mem hlt)))
      have HN : Hid (((l.map (Tr.endM s)).take (k + 1)).foldl (mThen s.size) mSame = mThen s.size (((l.map (Tr.endM s)).take k).foldl (mThen s.size) mSame) (l[k].endM s)) := by
        show _ = _
        rw [foldl_take_succ _ _ _ k (by simpa using hlt)]
        simp
      obtain ⟨X, hX⟩ : ∃ X, l[k] = X := ⟨_, rfl⟩
      rw [hX] at y0 y1 HC HN
      obtain ⟨xk, hxk⟩ : ∃ tk, X.k = tk := ⟨_, rfl⟩
      obtain ⟨xs, hxs⟩ : ∃ ts, X.s = ts := ⟨_, rfl⟩
      obtain ⟨MX, hMX⟩ : ∃ M, X.endM s = M := ⟨_, rfl⟩
      obtain ⟨P, hP⟩ : ∃ P, ((l.map (Tr.endM s)).take k).foldl (mThen s.size) mSame = P := ⟨_, rfl⟩
      rw [hxk] at y0
      rw [hxs] at y1
      rw [hxk, hxs, hMX] at HC
      rw [hMX, hP] at HN
      rw [hP] at HM
      subst hv
      clear hel h3 hsub hss hX hxk hxs hMX hP
      go_wp2_with fail
      refine HC.out.mono ?_
      rintro e w2 ⟨v2, rfl, hm2, hb2⟩
      have HM2 := Hid.mk hm2
      have HMr := Hid.mk (HM.out.grow hb2)
      have HX2 := Hid.mk (HXr.out.grow hb2)
      have B2 := Hid.mk (HB.out.trans (hb2.mono HB.out.size))
      obtain ⟨a2, c2, rfl⟩ := hm2.len
      clear hm2 hb2 HM HXr HB HC x0 x2 y0 y1 y2
      go_wp2_with fail
      refine (HTH.out w2 _ _ _ _ _ _ HMr.out HM2.out).mono ?_
      rintro e w3 ⟨v3, rfl, hm3, hb3⟩
      have HM3 : Hid (Mx w3 (newFrom w.heap.size) s.size (((l.map (Tr.endM s)).take (k + 1)).foldl (mThen s.size) mSame) v3) := by
        show Mx _ _ _ _ _
        rw [HN.out]
        exact hm3.imp (fun b hb => by unfold newFrom at *; have := B2.out.size; omega)
      have HX3 := Hid.mk (HX2.out.grow hb3)
      have B3 := Hid.mk (B2.out.trans (hb3.mono B2.out.size))
      clear hm3 hb3 HMr HM2 HX2 B2 HN
      go_wp2
      go_roundw
      case rel => exact ⟨k + 1, by omega, by go_num, HM3, HX3, B3⟩
      case measure => simp [intOf]; omega
    · have hki : ¬ (k : Int) < (l.length : Int) := by omega
      have HMn : Hid (Mx wr (newFrom w.heap.size) s.size ((l.map (Tr.endM s)).foldl (mThen s.size) mSame) u5) := by
        have := HM.out
        rw [List.take_of_length_le (by simp; omega)] at this
        exact this
      subst hv
      clear HM
      go_wp2
      go_ret
      exact ⟨_, rfl, HMn.out, HB.out⟩

set_option maxHeartbeats 1000000 in
theorem l4All_alt (s : ByteArray) (hs : s.size ≤ 200) (t : Tr) (ih : ∀ x ∈ t.l, AlC s x) (hk : t.k = 5) : AlC s t := by
  intro B v w h hts hok
  have hall : ∀ x ∈ t.l, x.okT = true := by
    rw [okT_eq, Bool.and_eq_true, okL_iff] at hok
    exact hok.1
  have HE : Hid (t.endM s = (t.l.map (Tr.endM s)).foldl mAdd mNone) := by show _ = _; rw [endM_eq, nodeM, hk]; rfl
  have A0 : Below w.heap.size w (w.alloc (.cells #[.int .i64 t.k, .string t.s, v] 26)) := (Below.refl _ _).alloc (Nat.le_refl _) _
  have HS := Hid.mk (fun w' => l4Same_any s hs w')
  have HX := Hid.mk (Bz3.new w (.int .i64 t.k) (.string t.s) v)
  have HAD := Hid.mk (fun (w' : World) (C D : Nat → Prop) (a b : Mat) (u u' : Value) (hu : Mx w' C s.size a u) (hu' : Mx w' D s.size b u') (hCD : ∀ b, C b → ¬ D b) => l4Add_any s.size hs C D a b u u' w' hu hu' hCD)
  have HNN := Hid.mk (fun w' => l4None_any s hs w')
  obtain ⟨ts, hts'⟩ : ∃ ts, t.s = ts := ⟨_, rfl⟩
  obtain ⟨l, hl⟩ : ∃ l, t.l = l := ⟨_, rfl⟩
  rw [hl] at h ih hall HE
  rw [hk, hts'] at A0 HX
  rw [hk, hts', HE.out]
  obtain ⟨ao, cap, rfl, hc1, hc2, -⟩ := h.len
  have hcm : cap ≤ 9223372036854775807 := by unfold maxLen at hc2; omega
  have HH := Hid.mk h
  have HI := Hid.mk ih
  have HA := Hid.mk hall
  clear hts hok HE hts' hl hk hc2 h ih hall
  go_enter Tryd.func45, Tryd.ntmps45
  go_wp2_with fail
  refine (HS.out _).mono ?_
  rintro e w1 ⟨v1, rfl, hm1, hb1⟩
  have B1 := Hid.mk (A0.trans (hb1.mono (by simp)))
  have HX1 := Hid.mk (HX.out.grow hb1)
  obtain ⟨a1, c1, rfl⟩ := hm1.len
  have hs1 : w.heap.size < w1.heap.size := by have := hb1.size; simp at this; omega
  clear hm1 hb1 A0 HX
  have x0 := HX1.out.c0
  have x2 := HX1.out.c2
  go_wp2_with fail
  clear x0 x2
  refine (HNN.out w1).mono ?_
  rintro e w2 ⟨v2, rfl, hm2, hb2⟩
  have HM1 : Hid (Mx w2 (fun b => w1.heap.size ≤ b ∧ b < w2.heap.size) s.size (((l.map (Tr.endM s)).take 0).foldl mAdd mNone) v2) := hm2.there
  have B2 := Hid.mk (B1.out.trans (hb2.mono B1.out.size))
  have HX2 := Hid.mk (HX1.out.grow hb2)
  obtain ⟨a2, c2, rfl⟩ := hm2.len
  clear hm2 hb2 B1 HX1
  have x0 := HX2.out.c0
  have x2 := HX2.out.c2
  go_wp2
  clear x0 x2
  go_loopw [7] (fun q wr => ∃ (k : Nat), k ≤ l.length ∧ q = .int .i64 k ∧ Hid (Mx wr (fun b => w1.heap.size ≤ b ∧ b < w2.heap.size) s.size (((l.map (Tr.endM s)).take k).foldl mAdd mNone) (.slice a2 (s.size + 1) c2)) ∧ Hid (Bz3 wr w.heap.size (.int .i64 5) (.string ts) (.slice ao l.length cap)) ∧ Hid (Below w.heap.size w wr) ∧ Hid (w2.heap.size ≤ wr.heap.size)) (fun q _ => l.length - (intOf q).toNat)
  case atStart => exact ⟨0, Nat.zero_le _, rfl, HM1, HX2, B2, Nat.le_refl _⟩
  case round =>
    obtain ⟨k, hkl, rfl, HM, HXr, HB, HZ⟩ := hrel
    clear HM1 HX2 B2
    have x0 := HXr.out.c0
    have x2 := HXr.out.c2
    by_cases hlt : k < l.length
    · have hki : (k : Int) < (l.length : Int) := by omega
      obtain ⟨b, off, V, rfl, hel⟩ := HH.out.elems (by intro hn; rw [hn] at hlt; simp at hlt)
      obtain ⟨h3, hsub, hss⟩ := hel k hlt
      obtain ⟨y0, y1, y2⟩ := h3.grow HB.out
      have HC := Hid.mk (HI.out l[k] (List.getElem_mem hlt) B (V k) wr (hsub.grow HB.out) hss (HA.out _ (List.getElem_mem hlt)))
      have HN : Hid (((l.map (Tr.endM s)).take (k + 1)).foldl mAdd mNone = mAdd (((l.map (Tr.endM s)).take k).foldl mAdd mNone) (l[k].endM s)) := by
        show _ = _
        rw [foldl_take_succ _ _ _ k (by simpa using hlt)]
        simp
      obtain ⟨X, hX⟩ : ∃ X, l[k] = X := ⟨_, rfl⟩
      rw [hX] at y0 y1 HC HN
      obtain ⟨xk, hxk⟩ : ∃ tk, X.k = tk := ⟨_, rfl⟩
      obtain ⟨xs, hxs⟩ : ∃ ts, X.s = ts := ⟨_, rfl⟩
      obtain ⟨MX, hMX⟩ : ∃ M, X.endM s = M := ⟨_, rfl⟩
      obtain ⟨P, hP⟩ : ∃ P, ((l.map (Tr.endM s)).take k).foldl mAdd mNone = P := ⟨_, rfl⟩
      rw [hxk] at y0
      rw [hxs] at y1
      rw [hxk, hxs, hMX] at HC
      rw [hMX, hP] at HN
      rw [hP] at HM
      clear hel h3 hsub hss hX hxk hxs hMX hP
      go_wp2_with fail
      refine HC.out.mono ?_
      rintro e w3 ⟨v3, rfl, hm3, hb3⟩
      have HM3 := Hid.mk hm3
      have HMr := Hid.mk (HM.out.grow hb3)
      have HX3 := Hid.mk (HXr.out.grow hb3)
      have B3 := Hid.mk (HB.out.trans (hb3.mono HB.out.size))
      have HZ3 : Hid (w2.heap.size ≤ w3.heap.size) := Nat.le_trans HZ.out hb3.size
      obtain ⟨a3, c3, rfl⟩ := hm3.len
      clear hm3 hb3 HM HXr HB HC x0 x2 y0 y1 y2
      go_wp2_with fail
      refine (HAD.out w3 _ _ _ _ _ _ HMr.out HM3.out (fun b hb hb' => by have := hb.2; have := HZ.out; unfold newFrom at hb'; omega)).mono ?_
      rintro e w4 ⟨⟨u4, rfl⟩, hm4, ht4⟩
      have HM4 : Hid (Mx w4 (fun b => w1.heap.size ≤ b ∧ b < w2.heap.size) s.size (((l.map (Tr.endM s)).take (k + 1)).foldl mAdd mNone) (.slice a2 (s.size + 1) c2)) := by
        show Mx _ _ _ _ _
        rw [HN.out]
        exact hm4
      have HX4 := Hid.mk (HX3.out.kept (ht4.block _ HX3.out.lt (fun h => by have := h.1; omega)))
      have B4 := Hid.mk (B3.out.trans (ht4.toBelow B3.out.size (fun b hb => by have := hb.1; omega)))
      have HZ4 : Hid (w2.heap.size ≤ w4.heap.size) := Nat.le_trans HZ3.out ht4.size
      clear hm4 ht4 HMr HM3 HX3 B3 HN HZ HZ3
      go_wp2
      go_roundw
      case rel => exact ⟨k + 1, by omega, by go_num, HM4, HX4, B4, HZ4⟩
      case measure => simp [intOf]; omega
    · have hki : ¬ (k : Int) < (l.length : Int) := by omega
      have HMn : Hid (Mx wr (newFrom w.heap.size) s.size ((l.map (Tr.endM s)).foldl mAdd mNone) (.slice a2 (s.size + 1) c2)) := by
        have := HM.out
        rw [List.take_of_length_le (by simp; omega)] at this
        exact this.imp (fun b hb => by unfold newFrom; omega)
      clear HM
      go_wp2
      go_ret
      exact ⟨_, rfl, HMn.out, HB.out⟩

set_option maxHeartbeats 1000000 in
theorem l4All_rest (s : ByteArray) (hs : s.size ≤ 200) (t : Tr) (hk : t.k = 9) : AlC s t := by
  intro B v w h hts hok
  have HE : Hid (t.endM s = mSame) := by show _ = _; rw [endM_eq, nodeM, hk]; rfl
  have A0 : Below w.heap.size w (w.alloc (.cells #[.int .i64 t.k, .string t.s, v] 26)) := (Below.refl _ _).alloc (Nat.le_refl _) _
  have HS := Hid.mk (fun w' => l4Same_any s hs w')
  have HX := Hid.mk (Bz3.new w (.int .i64 t.k) (.string t.s) v)
  obtain ⟨ao, cap, rfl, -⟩ := h.len
  rw [hk] at A0 HX
  rw [hk, HE.out]
  clear h hts hok HE hk
  go_enter Tryd.func45, Tryd.ntmps45
  go_wp2_with fail
  refine (HS.out _).mono ?_
  rintro e w1 ⟨v1, rfl, hm1, hb1⟩
  have HM1 : Hid (Mx w1 (newFrom w.heap.size) s.size mSame v1) := hm1.imp (fun b hb => by unfold newFrom at *; simp at hb; omega)
  obtain ⟨a1, c1, rfl⟩ := hm1.len
  have B1 := Hid.mk (A0.trans (hb1.mono (by simp)))
  have HX1 := HX.out.grow hb1
  have x0 := HX1.c0
  clear HX1 hm1 hb1 A0
  go_wp2
  go_ret
  exact ⟨_, rfl, HM1.out, B1.out⟩

/-- What ends where it begins, at the beginning or at the end alone. -/
def edgeB (s : ByteArray) (k : Int) (i : Nat) : Bool := (k == 10 && decide (i = 0)) || (k == 11 && decide (i = s.size))

set_option maxHeartbeats 1000000 in
theorem l4All_edge (s : ByteArray) (hs : s.size ≤ 200) (t : Tr) (hk : t.k = 10 ∨ t.k = 11) : AlC s t := by
  intro B v w h hts hok
  have HE : Hid (t.endM s = fun i j => i == j && edgeB s t.k i) := by
    show _ = _
    rw [endM_eq, nodeM]
    rcases hk with hk | hk
    · rw [hk]; simp [edgeB]
    · rw [hk]; simp [edgeB]
  have A0 : Below w.heap.size w (w.alloc (.cells #[.int .i64 t.k, .string t.s, v] 26)) := (Below.refl _ _).alloc (Nat.le_refl _) _
  have HS := Hid.mk (fun w' => l4Same_any s hs w')
  have HX := Hid.mk (Bz3.new w (.int .i64 t.k) (.string t.s) v)
  obtain ⟨ao, cap, rfl, -⟩ := h.len
  obtain ⟨tk, htk⟩ : ∃ tk, t.k = tk := ⟨_, rfl⟩
  obtain ⟨ts, hts'⟩ : ∃ ts, t.s = ts := ⟨_, rfl⟩
  obtain ⟨l, hl⟩ : ∃ l, t.l = l := ⟨_, rfl⟩
  rw [htk] at hk HE
  rw [htk, hts', hl] at A0 HX
  rw [htk, hts', hl, HE.out]
  clear h hts hok HE htk hts' hl
  rcases hk with rfl | rfl
  · go_enter Tryd.func45, Tryd.ntmps45
    go_wp2_with fail
    refine (HS.out _).mono ?_
    rintro e w1 ⟨v1, rfl, ⟨g, capg, R, rfl, hc1, hc2, hap, hq⟩, hb1⟩
    have B1 := Hid.mk (A0.trans (hb1.mono (by simp)))
    have HX1 := Hid.mk (HX.out.grow hb1)
    have hcm : capg ≤ 9223372036854775807 := by unfold maxLen at hc2; omega
    have HCC := Hid.mk (And.intro hc1 hc2)
    have HAP : Hid (Apart (newFrom (w.heap.size + 1)) g R s.size) := hap.imp (fun b hb => by unfold newFrom at *; simpa using hb)
    have HQ : Hid (Mq w1 g R s.size (fun i j => i == j && (edgeB s 10 i || decide (0 ≤ i)))) := hq.ext (fun i j _ _ => by simp)
    clear hb1 A0 hap hq hc1 hc2 HX
    have x0 := HX1.out.c0
    go_wp2
    clear x0
    go_loopw [9] (fun q wr => ∃ (i : Nat), i ≤ s.size + 1 ∧ q = .int .i64 i ∧ Hid (Mq wr g R s.size (fun x y => x == y && (edgeB s 10 x || decide (i ≤ x)))) ∧ Hid (Bz3 wr w.heap.size (.int .i64 10) (.string ts) (.slice ao l.length cap)) ∧ Hid (Below w.heap.size w wr)) (fun q _ => s.size + 1 - (intOf q).toNat)
    case atStart => exact ⟨0, Nat.zero_le _, rfl, HQ, HX1, B1⟩
    case round =>
      obtain ⟨i, hi, rfl, HQr, HXr, HBr⟩ := hrel
      clear HQ HX1 B1
      by_cases hin : (i : Int) ≤ (s.size : Int)
      · have hil : i ≤ s.size := by omega
        have o1 := HQr.out.outer i hil
        have c1 := HQr.out.cell hil hil
        have f1 := HQr.out.frozen hil i
        have x0 := HXr.out.c0
        have SS : Hid (∀ b, b < wr.heap.size → b ≠ R i → wr.drew.heap[b]? = wr.heap[b]?) := fun b _ _ => rfl
        have hgl := HQr.out.ltg
        have hxl := HXr.out.lt
        have hgne : g ≠ R i := (HAP.out.ne i hil).symm
        have hxne : w.heap.size ≠ R i := by have := HAP.out.br i hil; unfold newFrom at this; omega
        by_cases hi0 : i = 0
        · have HZ : Hid (((i : Int) == 0) = true) := by show _ = _; simp [hi0]
          have HED : Hid (edgeB s 10 i = true) := by show _ = _; simp [edgeB, hi0]
          clear hi0
          have HQn : Hid (Mq (wr.drew.setCell ⟨R i, i, none⟩ (.bool true)) g R s.size (fun x y => x == y && (edgeB s 10 x || decide (i + 1 ≤ x)))) := ((HQr.out.grow (Below.drewSelf _ _ 1)).set HAP.out hil i true).ext (fun x y _ _ => by
            rw [updM_at]
            split
            · rename_i h; obtain ⟨rfl, rfl⟩ := h
              rw [HED.out, decide_eq_false (by omega), Bool.or_false]
              simp
            · rename_i h
              rw [Bool.eq_iff_iff]
              simp only [Bool.and_eq_true, Bool.or_eq_true, beq_iff_eq, decide_eq_true_iff]
              constructor
              · rintro ⟨h1, h2 | h2⟩
                · exact ⟨h1, Or.inl h2⟩
                · exact ⟨h1, Or.inr (by omega)⟩
              · rintro ⟨h1, h2 | h2⟩
                · exact ⟨h1, Or.inl h2⟩
                · exact ⟨h1, Or.inr (by omega)⟩)
          have HXn := Hid.mk ((HXr.out.grow (Below.drewSelf _ _ 1)).kept (w' := wr.drew.setCell ⟨R i, i, none⟩ (.bool true)) (heap_setCell_other _ _ _ _ hxne))
          have HBn : Hid (Below w.heap.size w (wr.drew.setCell ⟨R i, i, none⟩ (.bool true))) := (HBr.out.drew).setCell (p := ⟨R i, i, none⟩) (by have := HAP.out.br i hil; unfold newFrom at this; show w.heap.size ≤ R i; omega) _
          clear HQr HXr HBr
          go_wp2
          refine wp_region_held_drew (S := fun w' => ∀ b, b < wr.heap.size → b ≠ R i → w'.heap[b]? = wr.heap[b]?) (by kernel_rfl) SS.out (fun _ => ?_)
          refine takeHD (i := 0) (v := .slice (some ⟨g, 0, none⟩) (s.size + 1) capg) (some 103) rfl rfl (by kernel_rfl) (by kernel_rfl) (by kernel_rfl) (fun _ _ _ h => h) (Or.inl ⟨by kernel_rfl, fun w' hw => ?_⟩) SS.out ?_
          · kernel_rfl
          simp only [Act.put, List.setIfInBounds_toArray]
          refine takeHD (i := 1) (v := .int .i64 i) (some 104) rfl rfl (by kernel_rfl) (by kernel_rfl) (by kernel_rfl) (fun _ _ _ h => h) (Or.inl ⟨by kernel_rfl, fun w' hw => ?_⟩) SS.out ?_
          · kernel_rfl
          simp only [Act.put, List.setIfInBounds_toArray]
          refine takeHD (i := 2) (v := .pointer (some ⟨g, i, none⟩)) (some 105) rfl rfl (by kernel_rfl) (by kernel_rfl) (by kernel_rfl) (fun _ _ _ h => h) (Or.inl ⟨by kernel_rfl, fun w' hw => ?_⟩) SS.out ?_
          · first | (go_simp; done) | (go_simp; intro h; omega) | (go_simp; rw [IntKind.wrap_i64]; omega)
          simp only [Act.put, List.setIfInBounds_toArray]
          refine takeHD (i := 3) (v := .slice (some ⟨R i, 0, none⟩) (s.size + 1) (s.size + 1)) (some 106) rfl rfl (by kernel_rfl) (by kernel_rfl) (by kernel_rfl) (fun _ _ _ h => h) (Or.inl ⟨by kernel_rfl, fun w' hw => ?_⟩) SS.out ?_
          · have e := World.cell?_of_block (a := ⟨g, i, none⟩) (hw _ hgl hgne); rw [o1] at e; go_simp
          simp only [Act.put, List.setIfInBounds_toArray]
          refine takeHD (i := 4) (v := .int .i64 i) (some 107) rfl rfl (by kernel_rfl) (by kernel_rfl) (by kernel_rfl) (fun _ _ _ h => h) (Or.inl ⟨by kernel_rfl, fun w' hw => ?_⟩) SS.out ?_
          · kernel_rfl
          simp only [Act.put, List.setIfInBounds_toArray]
          refine takeHD (i := 5) (v := .pointer (some ⟨w.heap.size, 0, none⟩)) (some 108) rfl rfl (by kernel_rfl) (by kernel_rfl) (by kernel_rfl) (fun _ _ _ h => h) (Or.inl ⟨by kernel_rfl, fun w' hw => ?_⟩) SS.out ?_
          · first | (go_simp; done) | (go_simp; intro h; omega) | (go_simp; rw [IntKind.wrap_i64]; omega)
          simp only [Act.put, List.setIfInBounds_toArray]
          refine takeHD (i := 6) (v := .int .i64 10) (some 109) rfl rfl (by kernel_rfl) (by kernel_rfl) (by kernel_rfl) (fun _ _ _ h => h) (Or.inl ⟨by kernel_rfl, fun w' hw => ?_⟩) SS.out ?_
          · have e := World.cell?_of_block (a := ⟨w.heap.size, 0, none⟩) (hw _ hxl hxne); rw [x0] at e; go_simp
          simp only [Act.put, List.setIfInBounds_toArray]
          refine takeHD (i := 7) (v := .bool true) (some 110) rfl rfl (by kernel_rfl) (by kernel_rfl) (by kernel_rfl) (fun _ _ _ h => h) (Or.inl ⟨by kernel_rfl, fun w' hw => ?_⟩) SS.out ?_
          · kernel_rfl
          simp only [Act.put, List.setIfInBounds_toArray]
          refine takeHD (i := 8) (v := .bool true) (some 111) rfl rfl (by kernel_rfl) (by kernel_rfl) (by kernel_rfl) (fun _ _ _ h => h) (Or.inl ⟨by kernel_rfl, fun w' hw => ?_⟩) SS.out ?_
          · kernel_rfl
          simp only [Act.put, List.setIfInBounds_toArray]
          refine takeHD (i := 9) (v := .int .i64 i) (some 112) rfl rfl (by kernel_rfl) (by kernel_rfl) (by kernel_rfl) (fun _ _ _ h => h) (Or.inl ⟨by kernel_rfl, fun w' hw => ?_⟩) SS.out ?_
          · kernel_rfl
          simp only [Act.put, List.setIfInBounds_toArray]
          refine takeHD (i := 10) (v := .bool true) (some 113) rfl rfl (by kernel_rfl) (by kernel_rfl) (by kernel_rfl) (fun _ _ _ h => h) (Or.inl ⟨by kernel_rfl, fun w' hw => ?_⟩) SS.out ?_
          · have hz : ((i : Int) == 0) = true := HZ.out; go_simp
          simp only [Act.put, List.setIfInBounds_toArray]
          refine takeHD (i := 11) (v := .bool true) (some 114) rfl rfl (by kernel_rfl) (by kernel_rfl) (by kernel_rfl) (fun _ _ _ h => h) (Or.inl ⟨by kernel_rfl, fun w' hw => ?_⟩) SS.out ?_
          · kernel_rfl
          simp only [Act.put, List.setIfInBounds_toArray]
          refine takeHD (i := 12) (v := .bool true) (some 115) rfl rfl (by kernel_rfl) (by kernel_rfl) (by kernel_rfl) (fun _ _ _ h => h) (Or.inl ⟨by kernel_rfl, fun w' hw => ?_⟩) SS.out ?_
          · kernel_rfl
          simp only [Act.put, List.setIfInBounds_toArray]
          refine takeHD (i := 13) (v := undef) (some 116) rfl rfl (by kernel_rfl) (by kernel_rfl) (by kernel_rfl) (fun _ _ _ h => h) (Or.inr ⟨by kernel_rfl, rfl⟩) SS.out ?_
          simp only [Act.put, List.setIfInBounds_toArray]
          refine takeHD (i := 14) (v := undef) (some 117) rfl rfl (by kernel_rfl) (by kernel_rfl) (by kernel_rfl) (fun _ _ _ h => h) (Or.inr ⟨by kernel_rfl, rfl⟩) SS.out ?_
          simp only [Act.put, List.setIfInBounds_toArray]
          refine takeHD (i := 15) (v := undef) (some 118) rfl rfl (by kernel_rfl) (by kernel_rfl) (by kernel_rfl) (fun _ _ _ h => h) (Or.inr ⟨by kernel_rfl, rfl⟩) SS.out ?_
          simp only [Act.put, List.setIfInBounds_toArray]
          refine takeHD (i := 16) (v := undef) (some 119) rfl rfl (by kernel_rfl) (by kernel_rfl) (by kernel_rfl) (fun _ _ _ h => h) (Or.inr ⟨by kernel_rfl, rfl⟩) SS.out ?_
          simp only [Act.put, List.setIfInBounds_toArray]
          refine takeHD (i := 17) (v := undef) (some 120) rfl rfl (by kernel_rfl) (by kernel_rfl) (by kernel_rfl) (fun _ _ _ h => h) (Or.inr ⟨by kernel_rfl, rfl⟩) SS.out ?_
          simp only [Act.put, List.setIfInBounds_toArray]
          refine takeHD (i := 18) (v := undef) (some 121) rfl rfl (by kernel_rfl) (by kernel_rfl) (by kernel_rfl) (fun _ _ _ h => h) (Or.inr ⟨by kernel_rfl, rfl⟩) SS.out ?_
          simp only [Act.put, List.setIfInBounds_toArray]
          refine takeHD (i := 19) (v := undef) (some 122) rfl rfl (by kernel_rfl) (by kernel_rfl) (by kernel_rfl) (fun _ _ _ h => h) (Or.inr ⟨by kernel_rfl, rfl⟩) SS.out ?_
          simp only [Act.put, List.setIfInBounds_toArray]
          refine takeHD (i := 20) (v := undef) (some 123) rfl rfl (by kernel_rfl) (by kernel_rfl) (by kernel_rfl) (fun _ _ _ h => h) (Or.inr ⟨by kernel_rfl, rfl⟩) SS.out ?_
          simp only [Act.put, List.setIfInBounds_toArray]
          refine takeHD (i := 21) (v := undef) (some 124) rfl rfl (by kernel_rfl) (by kernel_rfl) (by kernel_rfl) (fun _ _ _ h => h) (Or.inr ⟨by kernel_rfl, rfl⟩) SS.out ?_
          simp only [Act.put, List.setIfInBounds_toArray]
          refine takeHD (i := 22) (v := .bool true) (some 125) rfl rfl (by kernel_rfl) (by kernel_rfl) (by kernel_rfl) (fun _ _ _ h => h) (Or.inl ⟨by kernel_rfl, fun w' hw => ?_⟩) SS.out ?_
          · kernel_rfl
          simp only [Act.put, List.setIfInBounds_toArray]
          refine takeHD (i := 23) (v := .pointer (some ⟨R i, i, none⟩)) (some 126) rfl rfl (by kernel_rfl) (by kernel_rfl) (by kernel_rfl) (fun _ _ _ h => h) (Or.inl ⟨by kernel_rfl, fun w' hw => ?_⟩) SS.out ?_
          · first | (go_simp; done) | (go_simp; intro h; omega) | (go_simp; rw [IntKind.wrap_i64]; omega)
          simp only [Act.put, List.setIfInBounds_toArray]
          refine wpAnyH_ready (rs := [24]) (by kernel_rfl) (by simp) ?_
          refine AllReadyH.cons rfl (fun K hK => ?_) AllReadyH.nil
          rw [if_pos (by kernel_rfl)]
          go_wp2_with fail
          refine hK.out _ _ (fun b hb hne => heap_setCell_other wr.drew ⟨R i, i, none⟩ b _ hne) (fun _ => ?_)
          clear hK K
          refine wpAnyH_done (by kernel_rfl) ?_ _
          go_wp2
          go_roundw
          case rel => exact ⟨i + 1, by omega, by go_num, HQn, HXn, HBn⟩
          case measure => simp [intOf]; omega
        · have HZ : Hid (((i : Int) == 0) = false) := by show _ = _; simp [hi0]
          have HED : Hid (edgeB s 10 i = false) := by show _ = _; simp [edgeB, hi0]
          clear hi0
          have HQn : Hid (Mq (wr.drew.setCell ⟨R i, i, none⟩ (.bool false)) g R s.size (fun x y => x == y && (edgeB s 10 x || decide (i + 1 ≤ x)))) := ((HQr.out.grow (Below.drewSelf _ _ 1)).set HAP.out hil i false).ext (fun x y _ _ => by
            rw [updM_at]
            split
            · rename_i h; obtain ⟨rfl, rfl⟩ := h
              rw [HED.out, decide_eq_false (by omega), Bool.or_false]
              simp
            · rename_i h
              rw [Bool.eq_iff_iff]
              simp only [Bool.and_eq_true, Bool.or_eq_true, beq_iff_eq, decide_eq_true_iff]
              constructor
              · rintro ⟨h1, h2 | h2⟩
                · exact ⟨h1, Or.inl h2⟩
                · exact ⟨h1, Or.inr (by omega)⟩
              · rintro ⟨h1, h2 | h2⟩
                · exact ⟨h1, Or.inl h2⟩
                · exact ⟨h1, Or.inr (by omega)⟩)
          have HXn := Hid.mk ((HXr.out.grow (Below.drewSelf _ _ 1)).kept (w' := wr.drew.setCell ⟨R i, i, none⟩ (.bool false)) (heap_setCell_other _ _ _ _ hxne))
          have HBn : Hid (Below w.heap.size w (wr.drew.setCell ⟨R i, i, none⟩ (.bool false))) := (HBr.out.drew).setCell (p := ⟨R i, i, none⟩) (by have := HAP.out.br i hil; unfold newFrom at this; show w.heap.size ≤ R i; omega) _
          clear HQr HXr HBr
          go_wp2
          refine wp_region_held_drew (S := fun w' => ∀ b, b < wr.heap.size → b ≠ R i → w'.heap[b]? = wr.heap[b]?) (by kernel_rfl) SS.out (fun _ => ?_)
          refine takeHD (i := 0) (v := .slice (some ⟨g, 0, none⟩) (s.size + 1) capg) (some 103) rfl rfl (by kernel_rfl) (by kernel_rfl) (by kernel_rfl) (fun _ _ _ h => h) (Or.inl ⟨by kernel_rfl, fun w' hw => ?_⟩) SS.out ?_
          · kernel_rfl
          simp only [Act.put, List.setIfInBounds_toArray]
          refine takeHD (i := 1) (v := .int .i64 i) (some 104) rfl rfl (by kernel_rfl) (by kernel_rfl) (by kernel_rfl) (fun _ _ _ h => h) (Or.inl ⟨by kernel_rfl, fun w' hw => ?_⟩) SS.out ?_
          · kernel_rfl
          simp only [Act.put, List.setIfInBounds_toArray]
          refine takeHD (i := 2) (v := .pointer (some ⟨g, i, none⟩)) (some 105) rfl rfl (by kernel_rfl) (by kernel_rfl) (by kernel_rfl) (fun _ _ _ h => h) (Or.inl ⟨by kernel_rfl, fun w' hw => ?_⟩) SS.out ?_
          · first | (go_simp; done) | (go_simp; intro h; omega) | (go_simp; rw [IntKind.wrap_i64]; omega)
          simp only [Act.put, List.setIfInBounds_toArray]
          refine takeHD (i := 3) (v := .slice (some ⟨R i, 0, none⟩) (s.size + 1) (s.size + 1)) (some 106) rfl rfl (by kernel_rfl) (by kernel_rfl) (by kernel_rfl) (fun _ _ _ h => h) (Or.inl ⟨by kernel_rfl, fun w' hw => ?_⟩) SS.out ?_
          · have e := World.cell?_of_block (a := ⟨g, i, none⟩) (hw _ hgl hgne); rw [o1] at e; go_simp
          simp only [Act.put, List.setIfInBounds_toArray]
          refine takeHD (i := 4) (v := .int .i64 i) (some 107) rfl rfl (by kernel_rfl) (by kernel_rfl) (by kernel_rfl) (fun _ _ _ h => h) (Or.inl ⟨by kernel_rfl, fun w' hw => ?_⟩) SS.out ?_
          · kernel_rfl
          simp only [Act.put, List.setIfInBounds_toArray]
          refine takeHD (i := 5) (v := .pointer (some ⟨w.heap.size, 0, none⟩)) (some 108) rfl rfl (by kernel_rfl) (by kernel_rfl) (by kernel_rfl) (fun _ _ _ h => h) (Or.inl ⟨by kernel_rfl, fun w' hw => ?_⟩) SS.out ?_
          · first | (go_simp; done) | (go_simp; intro h; omega) | (go_simp; rw [IntKind.wrap_i64]; omega)
          simp only [Act.put, List.setIfInBounds_toArray]
          refine takeHD (i := 6) (v := .int .i64 10) (some 109) rfl rfl (by kernel_rfl) (by kernel_rfl) (by kernel_rfl) (fun _ _ _ h => h) (Or.inl ⟨by kernel_rfl, fun w' hw => ?_⟩) SS.out ?_
          · have e := World.cell?_of_block (a := ⟨w.heap.size, 0, none⟩) (hw _ hxl hxne); rw [x0] at e; go_simp
          simp only [Act.put, List.setIfInBounds_toArray]
          refine takeHD (i := 7) (v := .bool true) (some 110) rfl rfl (by kernel_rfl) (by kernel_rfl) (by kernel_rfl) (fun _ _ _ h => h) (Or.inl ⟨by kernel_rfl, fun w' hw => ?_⟩) SS.out ?_
          · kernel_rfl
          simp only [Act.put, List.setIfInBounds_toArray]
          refine takeHD (i := 8) (v := .bool true) (some 111) rfl rfl (by kernel_rfl) (by kernel_rfl) (by kernel_rfl) (fun _ _ _ h => h) (Or.inl ⟨by kernel_rfl, fun w' hw => ?_⟩) SS.out ?_
          · kernel_rfl
          simp only [Act.put, List.setIfInBounds_toArray]
          refine takeHD (i := 9) (v := .int .i64 i) (some 112) rfl rfl (by kernel_rfl) (by kernel_rfl) (by kernel_rfl) (fun _ _ _ h => h) (Or.inl ⟨by kernel_rfl, fun w' hw => ?_⟩) SS.out ?_
          · kernel_rfl
          simp only [Act.put, List.setIfInBounds_toArray]
          refine takeHD (i := 10) (v := .bool false) (some 113) rfl rfl (by kernel_rfl) (by kernel_rfl) (by kernel_rfl) (fun _ _ _ h => h) (Or.inl ⟨by kernel_rfl, fun w' hw => ?_⟩) SS.out ?_
          · have hz : ((i : Int) == 0) = false := HZ.out; go_simp
          simp only [Act.put, List.setIfInBounds_toArray]
          refine takeHD (i := 11) (v := .bool false) (some 114) rfl rfl (by kernel_rfl) (by kernel_rfl) (by kernel_rfl) (fun _ _ _ h => h) (Or.inl ⟨by kernel_rfl, fun w' hw => ?_⟩) SS.out ?_
          · kernel_rfl
          simp only [Act.put, List.setIfInBounds_toArray]
          refine takeHD (i := 12) (v := .bool false) (some 115) rfl rfl (by kernel_rfl) (by kernel_rfl) (by kernel_rfl) (fun _ _ _ h => h) (Or.inl ⟨by kernel_rfl, fun w' hw => ?_⟩) SS.out ?_
          · kernel_rfl
          simp only [Act.put, List.setIfInBounds_toArray]
          refine takeHD (i := 13) (v := .pointer (some ⟨w.heap.size, 0, none⟩)) (some 116) rfl rfl (by kernel_rfl) (by kernel_rfl) (by kernel_rfl) (fun _ _ _ h => h) (Or.inl ⟨by kernel_rfl, fun w' hw => ?_⟩) SS.out ?_
          · first | (go_simp; done) | (go_simp; intro h; omega) | (go_simp; rw [IntKind.wrap_i64]; omega)
          simp only [Act.put, List.setIfInBounds_toArray]
          refine takeHD (i := 14) (v := .int .i64 10) (some 117) rfl rfl (by kernel_rfl) (by kernel_rfl) (by kernel_rfl) (fun _ _ _ h => h) (Or.inl ⟨by kernel_rfl, fun w' hw => ?_⟩) SS.out ?_
          · have e := World.cell?_of_block (a := ⟨w.heap.size, 0, none⟩) (hw _ hxl hxne); rw [x0] at e; go_simp
          simp only [Act.put, List.setIfInBounds_toArray]
          refine takeHD (i := 15) (v := .bool false) (some 118) rfl rfl (by kernel_rfl) (by kernel_rfl) (by kernel_rfl) (fun _ _ _ h => h) (Or.inl ⟨by kernel_rfl, fun w' hw => ?_⟩) SS.out ?_
          · kernel_rfl
          simp only [Act.put, List.setIfInBounds_toArray]
          refine takeHD (i := 16) (v := .bool false) (some 119) rfl rfl (by kernel_rfl) (by kernel_rfl) (by kernel_rfl) (fun _ _ _ h => h) (Or.inl ⟨by kernel_rfl, fun w' hw => ?_⟩) SS.out ?_
          · kernel_rfl
          simp only [Act.put, List.setIfInBounds_toArray]
          refine takeHD (i := 17) (v := undef) (some 120) rfl rfl (by kernel_rfl) (by kernel_rfl) (by kernel_rfl) (fun _ _ _ h => h) (Or.inr ⟨by kernel_rfl, rfl⟩) SS.out ?_
          simp only [Act.put, List.setIfInBounds_toArray]
          refine takeHD (i := 18) (v := undef) (some 121) rfl rfl (by kernel_rfl) (by kernel_rfl) (by kernel_rfl) (fun _ _ _ h => h) (Or.inr ⟨by kernel_rfl, rfl⟩) SS.out ?_
          simp only [Act.put, List.setIfInBounds_toArray]
          refine takeHD (i := 19) (v := undef) (some 122) rfl rfl (by kernel_rfl) (by kernel_rfl) (by kernel_rfl) (fun _ _ _ h => h) (Or.inr ⟨by kernel_rfl, rfl⟩) SS.out ?_
          simp only [Act.put, List.setIfInBounds_toArray]
          refine takeHD (i := 20) (v := undef) (some 123) rfl rfl (by kernel_rfl) (by kernel_rfl) (by kernel_rfl) (fun _ _ _ h => h) (Or.inr ⟨by kernel_rfl, rfl⟩) SS.out ?_
          simp only [Act.put, List.setIfInBounds_toArray]
          refine takeHD (i := 21) (v := .bool false) (some 124) rfl rfl (by kernel_rfl) (by kernel_rfl) (by kernel_rfl) (fun _ _ _ h => h) (Or.inl ⟨by kernel_rfl, fun w' hw => ?_⟩) SS.out ?_
          · kernel_rfl
          simp only [Act.put, List.setIfInBounds_toArray]
          refine takeHD (i := 22) (v := .bool false) (some 125) rfl rfl (by kernel_rfl) (by kernel_rfl) (by kernel_rfl) (fun _ _ _ h => h) (Or.inl ⟨by kernel_rfl, fun w' hw => ?_⟩) SS.out ?_
          · kernel_rfl
          simp only [Act.put, List.setIfInBounds_toArray]
          refine takeHD (i := 23) (v := .pointer (some ⟨R i, i, none⟩)) (some 126) rfl rfl (by kernel_rfl) (by kernel_rfl) (by kernel_rfl) (fun _ _ _ h => h) (Or.inl ⟨by kernel_rfl, fun w' hw => ?_⟩) SS.out ?_
          · first | (go_simp; done) | (go_simp; intro h; omega) | (go_simp; rw [IntKind.wrap_i64]; omega)
          simp only [Act.put, List.setIfInBounds_toArray]
          refine wpAnyH_ready (rs := [24]) (by kernel_rfl) (by simp) ?_
          refine AllReadyH.cons rfl (fun K hK => ?_) AllReadyH.nil
          rw [if_pos (by kernel_rfl)]
          go_wp2_with fail
          refine hK.out _ _ (fun b hb hne => heap_setCell_other wr.drew ⟨R i, i, none⟩ b _ hne) (fun _ => ?_)
          clear hK K
          refine wpAnyH_done (by kernel_rfl) ?_ _
          go_wp2
          go_roundw
          case rel => exact ⟨i + 1, by omega, by go_num, HQn, HXn, HBn⟩
          case measure => simp [intOf]; omega
      · have HQ3 : Hid (Mq wr g R s.size (fun x y => x == y && edgeB s 10 x)) := HQr.out.ext (fun x y hx _ => by rw [decide_eq_false (show ¬ i ≤ x by omega), Bool.or_false])
        clear HQr
        go_wp2
        go_ret
        exact ⟨_, rfl, ⟨g, capg, R, rfl, HCC.out.1, HCC.out.2, HAP.out.imp (fun b hb => by unfold newFrom at *; omega), HQ3.out⟩, HBr.out⟩
  · go_enter Tryd.func45, Tryd.ntmps45
    go_wp2_with fail
    refine (HS.out _).mono ?_
    rintro e w1 ⟨v1, rfl, ⟨g, capg, R, rfl, hc1, hc2, hap, hq⟩, hb1⟩
    have B1 := Hid.mk (A0.trans (hb1.mono (by simp)))
    have HX1 := Hid.mk (HX.out.grow hb1)
    have hcm : capg ≤ 9223372036854775807 := by unfold maxLen at hc2; omega
    have HCC := Hid.mk (And.intro hc1 hc2)
    have HAP : Hid (Apart (newFrom (w.heap.size + 1)) g R s.size) := hap.imp (fun b hb => by unfold newFrom at *; simpa using hb)
    have HQ : Hid (Mq w1 g R s.size (fun i j => i == j && (edgeB s 11 i || decide (0 ≤ i)))) := hq.ext (fun i j _ _ => by simp)
    clear hb1 A0 hap hq hc1 hc2 HX
    have x0 := HX1.out.c0
    go_wp2
    clear x0
    go_loopw [9] (fun q wr => ∃ (i : Nat), i ≤ s.size + 1 ∧ q = .int .i64 i ∧ Hid (Mq wr g R s.size (fun x y => x == y && (edgeB s 11 x || decide (i ≤ x)))) ∧ Hid (Bz3 wr w.heap.size (.int .i64 11) (.string ts) (.slice ao l.length cap)) ∧ Hid (Below w.heap.size w wr)) (fun q _ => s.size + 1 - (intOf q).toNat)
    case atStart => exact ⟨0, Nat.zero_le _, rfl, HQ, HX1, B1⟩
    case round =>
      obtain ⟨i, hi, rfl, HQr, HXr, HBr⟩ := hrel
      clear HQ HX1 B1
      by_cases hin : (i : Int) ≤ (s.size : Int)
      · have hil : i ≤ s.size := by omega
        have o1 := HQr.out.outer i hil
        have c1 := HQr.out.cell hil hil
        have f1 := HQr.out.frozen hil i
        have x0 := HXr.out.c0
        have SS : Hid (∀ b, b < wr.heap.size → b ≠ R i → wr.drew.heap[b]? = wr.heap[b]?) := fun b _ _ => rfl
        have hgl := HQr.out.ltg
        have hxl := HXr.out.lt
        have hgne : g ≠ R i := (HAP.out.ne i hil).symm
        have hxne : w.heap.size ≠ R i := by have := HAP.out.br i hil; unfold newFrom at this; omega
        obtain ⟨bb, hbb⟩ : ∃ bb, decide (i = s.size) = bb := ⟨_, rfl⟩
        have HZ : Hid (((i : Int) == (s.size : Int)) = bb) := by
          show _ = _
          rw [← hbb, Bool.eq_iff_iff, beq_iff_eq, decide_eq_true_iff]
          omega
        have HED : Hid (edgeB s 11 i = bb) := by show _ = _; simp [edgeB, hbb]
        clear hbb
        have HQn : Hid (Mq (wr.drew.setCell ⟨R i, i, none⟩ (.bool bb)) g R s.size (fun x y => x == y && (edgeB s 11 x || decide (i + 1 ≤ x)))) := ((HQr.out.grow (Below.drewSelf _ _ 1)).set HAP.out hil i bb).ext (fun x y _ _ => by
          rw [updM_at]
          split
          · rename_i h; obtain ⟨rfl, rfl⟩ := h
            rw [HED.out, decide_eq_false (by omega)]
            simp
          · rename_i h
            rw [Bool.eq_iff_iff]
            simp only [Bool.and_eq_true, Bool.or_eq_true, beq_iff_eq, decide_eq_true_iff]
            constructor
            · rintro ⟨h1, h2 | h2⟩
              · exact ⟨h1, Or.inl h2⟩
              · exact ⟨h1, Or.inr (by omega)⟩
            · rintro ⟨h1, h2 | h2⟩
              · exact ⟨h1, Or.inl h2⟩
              · exact ⟨h1, Or.inr (by omega)⟩)
        have HXn := Hid.mk ((HXr.out.grow (Below.drewSelf _ _ 1)).kept (w' := wr.drew.setCell ⟨R i, i, none⟩ (.bool bb)) (heap_setCell_other _ _ _ _ hxne))
        have HBn : Hid (Below w.heap.size w (wr.drew.setCell ⟨R i, i, none⟩ (.bool bb))) := (HBr.out.drew).setCell (p := ⟨R i, i, none⟩) (by have := HAP.out.br i hil; unfold newFrom at this; show w.heap.size ≤ R i; omega) _
        clear HQr HXr HBr
        go_wp2
        refine wp_region_held_drew (S := fun w' => ∀ b, b < wr.heap.size → b ≠ R i → w'.heap[b]? = wr.heap[b]?) (by kernel_rfl) SS.out (fun _ => ?_)
        refine takeHD (i := 0) (v := .slice (some ⟨g, 0, none⟩) (s.size + 1) capg) (some 103) rfl rfl (by kernel_rfl) (by kernel_rfl) (by kernel_rfl) (fun _ _ _ h => h) (Or.inl ⟨by kernel_rfl, fun w' hw => ?_⟩) SS.out ?_
        · kernel_rfl
        simp only [Act.put, List.setIfInBounds_toArray]
        refine takeHD (i := 1) (v := .int .i64 i) (some 104) rfl rfl (by kernel_rfl) (by kernel_rfl) (by kernel_rfl) (fun _ _ _ h => h) (Or.inl ⟨by kernel_rfl, fun w' hw => ?_⟩) SS.out ?_
        · kernel_rfl
        simp only [Act.put, List.setIfInBounds_toArray]
        refine takeHD (i := 2) (v := .pointer (some ⟨g, i, none⟩)) (some 105) rfl rfl (by kernel_rfl) (by kernel_rfl) (by kernel_rfl) (fun _ _ _ h => h) (Or.inl ⟨by kernel_rfl, fun w' hw => ?_⟩) SS.out ?_
        · first | (go_simp; done) | (go_simp; intro h; omega) | (go_simp; rw [IntKind.wrap_i64]; omega)
        simp only [Act.put, List.setIfInBounds_toArray]
        refine takeHD (i := 3) (v := .slice (some ⟨R i, 0, none⟩) (s.size + 1) (s.size + 1)) (some 106) rfl rfl (by kernel_rfl) (by kernel_rfl) (by kernel_rfl) (fun _ _ _ h => h) (Or.inl ⟨by kernel_rfl, fun w' hw => ?_⟩) SS.out ?_
        · have e := World.cell?_of_block (a := ⟨g, i, none⟩) (hw _ hgl hgne); rw [o1] at e; go_simp
        simp only [Act.put, List.setIfInBounds_toArray]
        refine takeHD (i := 4) (v := .int .i64 i) (some 107) rfl rfl (by kernel_rfl) (by kernel_rfl) (by kernel_rfl) (fun _ _ _ h => h) (Or.inl ⟨by kernel_rfl, fun w' hw => ?_⟩) SS.out ?_
        · kernel_rfl
        simp only [Act.put, List.setIfInBounds_toArray]
        refine takeHD (i := 5) (v := .pointer (some ⟨w.heap.size, 0, none⟩)) (some 108) rfl rfl (by kernel_rfl) (by kernel_rfl) (by kernel_rfl) (fun _ _ _ h => h) (Or.inl ⟨by kernel_rfl, fun w' hw => ?_⟩) SS.out ?_
        · first | (go_simp; done) | (go_simp; intro h; omega) | (go_simp; rw [IntKind.wrap_i64]; omega)
        simp only [Act.put, List.setIfInBounds_toArray]
        refine takeHD (i := 6) (v := .int .i64 11) (some 109) rfl rfl (by kernel_rfl) (by kernel_rfl) (by kernel_rfl) (fun _ _ _ h => h) (Or.inl ⟨by kernel_rfl, fun w' hw => ?_⟩) SS.out ?_
        · have e := World.cell?_of_block (a := ⟨w.heap.size, 0, none⟩) (hw _ hxl hxne); rw [x0] at e; go_simp
        simp only [Act.put, List.setIfInBounds_toArray]
        refine takeHD (i := 7) (v := .bool false) (some 110) rfl rfl (by kernel_rfl) (by kernel_rfl) (by kernel_rfl) (fun _ _ _ h => h) (Or.inl ⟨by kernel_rfl, fun w' hw => ?_⟩) SS.out ?_
        · kernel_rfl
        simp only [Act.put, List.setIfInBounds_toArray]
        refine takeHD (i := 8) (v := .bool false) (some 111) rfl rfl (by kernel_rfl) (by kernel_rfl) (by kernel_rfl) (fun _ _ _ h => h) (Or.inl ⟨by kernel_rfl, fun w' hw => ?_⟩) SS.out ?_
        · kernel_rfl
        simp only [Act.put, List.setIfInBounds_toArray]
        refine takeHD (i := 9) (v := undef) (some 112) rfl rfl (by kernel_rfl) (by kernel_rfl) (by kernel_rfl) (fun _ _ _ h => h) (Or.inr ⟨by kernel_rfl, rfl⟩) SS.out ?_
        simp only [Act.put, List.setIfInBounds_toArray]
        refine takeHD (i := 10) (v := undef) (some 113) rfl rfl (by kernel_rfl) (by kernel_rfl) (by kernel_rfl) (fun _ _ _ h => h) (Or.inr ⟨by kernel_rfl, rfl⟩) SS.out ?_
        simp only [Act.put, List.setIfInBounds_toArray]
        refine takeHD (i := 11) (v := .bool false) (some 114) rfl rfl (by kernel_rfl) (by kernel_rfl) (by kernel_rfl) (fun _ _ _ h => h) (Or.inl ⟨by kernel_rfl, fun w' hw => ?_⟩) SS.out ?_
        · kernel_rfl
        simp only [Act.put, List.setIfInBounds_toArray]
        refine takeHD (i := 12) (v := .bool false) (some 115) rfl rfl (by kernel_rfl) (by kernel_rfl) (by kernel_rfl) (fun _ _ _ h => h) (Or.inl ⟨by kernel_rfl, fun w' hw => ?_⟩) SS.out ?_
        · kernel_rfl
        simp only [Act.put, List.setIfInBounds_toArray]
        refine takeHD (i := 13) (v := .pointer (some ⟨w.heap.size, 0, none⟩)) (some 116) rfl rfl (by kernel_rfl) (by kernel_rfl) (by kernel_rfl) (fun _ _ _ h => h) (Or.inl ⟨by kernel_rfl, fun w' hw => ?_⟩) SS.out ?_
        · first | (go_simp; done) | (go_simp; intro h; omega) | (go_simp; rw [IntKind.wrap_i64]; omega)
        simp only [Act.put, List.setIfInBounds_toArray]
        refine takeHD (i := 14) (v := .int .i64 11) (some 117) rfl rfl (by kernel_rfl) (by kernel_rfl) (by kernel_rfl) (fun _ _ _ h => h) (Or.inl ⟨by kernel_rfl, fun w' hw => ?_⟩) SS.out ?_
        · have e := World.cell?_of_block (a := ⟨w.heap.size, 0, none⟩) (hw _ hxl hxne); rw [x0] at e; go_simp
        simp only [Act.put, List.setIfInBounds_toArray]
        refine takeHD (i := 15) (v := .bool true) (some 118) rfl rfl (by kernel_rfl) (by kernel_rfl) (by kernel_rfl) (fun _ _ _ h => h) (Or.inl ⟨by kernel_rfl, fun w' hw => ?_⟩) SS.out ?_
        · kernel_rfl
        simp only [Act.put, List.setIfInBounds_toArray]
        refine takeHD (i := 16) (v := .bool true) (some 119) rfl rfl (by kernel_rfl) (by kernel_rfl) (by kernel_rfl) (fun _ _ _ h => h) (Or.inl ⟨by kernel_rfl, fun w' hw => ?_⟩) SS.out ?_
        · kernel_rfl
        simp only [Act.put, List.setIfInBounds_toArray]
        refine takeHD (i := 17) (v := .int .i64 i) (some 120) rfl rfl (by kernel_rfl) (by kernel_rfl) (by kernel_rfl) (fun _ _ _ h => h) (Or.inl ⟨by kernel_rfl, fun w' hw => ?_⟩) SS.out ?_
        · kernel_rfl
        simp only [Act.put, List.setIfInBounds_toArray]
        refine takeHD (i := 18) (v := .string s) (some 121) rfl rfl (by kernel_rfl) (by kernel_rfl) (by kernel_rfl) (fun _ _ _ h => h) (Or.inl ⟨by kernel_rfl, fun w' hw => ?_⟩) SS.out ?_
        · kernel_rfl
        simp only [Act.put, List.setIfInBounds_toArray]
        refine takeHD (i := 19) (v := .int .i64 s.size) (some 122) rfl rfl (by kernel_rfl) (by kernel_rfl) (by kernel_rfl) (fun _ _ _ h => h) (Or.inl ⟨by kernel_rfl, fun w' hw => ?_⟩) SS.out ?_
        · kernel_rfl
        simp only [Act.put, List.setIfInBounds_toArray]
        refine takeHD (i := 20) (v := .bool bb) (some 123) rfl rfl (by kernel_rfl) (by kernel_rfl) (by kernel_rfl) (fun _ _ _ h => h) (Or.inl ⟨by kernel_rfl, fun w' hw => ?_⟩) SS.out ?_
        · have hz : ((i : Int) == (s.size : Int)) = bb := HZ.out; go_simp
        simp only [Act.put, List.setIfInBounds_toArray]
        refine takeHD (i := 21) (v := .bool bb) (some 124) rfl rfl (by kernel_rfl) (by kernel_rfl) (by kernel_rfl) (fun _ _ _ h => h) (Or.inl ⟨by kernel_rfl, fun w' hw => ?_⟩) SS.out ?_
        · kernel_rfl
        simp only [Act.put, List.setIfInBounds_toArray]
        refine takeHD (i := 22) (v := .bool bb) (some 125) rfl rfl (by kernel_rfl) (by kernel_rfl) (by kernel_rfl) (fun _ _ _ h => h) (Or.inl ⟨by kernel_rfl, fun w' hw => ?_⟩) SS.out ?_
        · kernel_rfl
        simp only [Act.put, List.setIfInBounds_toArray]
        refine takeHD (i := 23) (v := .pointer (some ⟨R i, i, none⟩)) (some 126) rfl rfl (by kernel_rfl) (by kernel_rfl) (by kernel_rfl) (fun _ _ _ h => h) (Or.inl ⟨by kernel_rfl, fun w' hw => ?_⟩) SS.out ?_
        · first | (go_simp; done) | (go_simp; intro h; omega) | (go_simp; rw [IntKind.wrap_i64]; omega)
        simp only [Act.put, List.setIfInBounds_toArray]
        refine wpAnyH_ready (rs := [24]) (by kernel_rfl) (by simp) ?_
        refine AllReadyH.cons rfl (fun K hK => ?_) AllReadyH.nil
        rw [if_pos (by kernel_rfl)]
        go_wp2_with fail
        refine hK.out _ _ (fun b hb hne => heap_setCell_other wr.drew ⟨R i, i, none⟩ b _ hne) (fun _ => ?_)
        clear hK K
        refine wpAnyH_done (by kernel_rfl) ?_ _
        go_wp2
        go_roundw
        case rel => exact ⟨i + 1, by omega, by go_num, HQn, HXn, HBn⟩
        case measure => simp [intOf]; omega
      · have HQ3 : Hid (Mq wr g R s.size (fun x y => x == y && edgeB s 11 x)) := HQr.out.ext (fun x y hx _ => by rw [decide_eq_false (show ¬ i ≤ x by omega), Bool.or_false])
        clear HQr
        go_wp2
        go_ret
        exact ⟨_, rfl, ⟨g, capg, R, rfl, HCC.out.1, HCC.out.2, HAP.out.imp (fun b hb => by unfold newFrom at *; omega), HQ3.out⟩, HBr.out⟩

theorem l4All_any (s : ByteArray) (hs : s.size ≤ 200) : ∀ t : Tr, AlC s t := by
  apply Tr.ind
  intro t ih
  by_cases h1 : t.k = 1 ∨ t.k = 2 ∨ t.k = 3
  · exact l4All_one s hs t h1
  by_cases h4 : t.k = 4
  · exact l4All_cat s hs t ih h4
  by_cases h5 : t.k = 5
  · exact l4All_alt s hs t ih h5
  by_cases h6 : t.k = 6
  · exact l4All_star s hs t ih h6
  by_cases h7 : t.k = 7
  · exact l4All_plus s hs t ih h7
  by_cases h8 : t.k = 8
  · exact l4All_opt s hs t ih h8
  by_cases h9 : t.k = 9
  · exact l4All_rest s hs t h9
  by_cases h10 : t.k = 10 ∨ t.k = 11
  · exact l4All_edge s hs t h10
  · intro B v w h hts hok
    rw [okT_eq] at hok
    simp only [nodeB] at hok
    rw [if_neg (by omega), if_neg (by omega), if_neg (by omega), if_neg (by omega), if_neg (by omega)] at hok
    simp at hok
end Go.Proofs.YthifleacfhijnaaDoor
