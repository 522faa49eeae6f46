/- A part is laid behind nodes: l5Lay of the model, nothing and one behind the other. -/
import Derived.Test.YtapniafhcagogaaLayF
namespace Go.Proofs.Ytapniafhcagogaa
open Go.RowKit
set_option maxRecDepth 8000

theorem layL_take : ∀ (l : List Tr) (k : Nat) (h : k < l.length) (p : Nat), layL (l.take (k + 1)) p = layL (l.take k) p ++ l[k].lay (p + nszL (l.take k))
  | t :: r, 0, _, p => by simp [layL, nszL]
  | t :: r, k + 1, h, p => by
    have := layL_take r k (by simpa using h) (p + t.nsz)
    simp only [List.take_succ_cons, layL, nszL, List.getElem_cons_succ, List.append_assoc] at this ⊢
    rw [this, Nat.add_assoc]

set_option maxHeartbeats 2000000 in
theorem l5Lay_9 (t : Tr) (hk : t.k = 9) : LyC t := by
  intro B v o base L w h hB hbase hO hts hok hn
  have halt := alt_ok t hok
  have HC := Hid.mk (l5Size_any t B v)
  have hlay := lay_eq t L.length
  rw [if_neg (by omega), if_neg (by omega), if_neg (by omega), if_neg (by omega), if_neg (by omega), if_neg (by omega), if_neg (by omega), if_neg (by omega), if_neg (by omega), if_neg (by omega)] at hlay
  rw [hlay]
  obtain ⟨ao, cap, rfl, hl1, hl2, -⟩ := h.len
  unfold maxLen at hl2
  have X0 := Hid.mk (Bz3.new w (.int .i64 t.k) (.string t.s) (.slice ao t.l.length cap))
  have A0 : Hid (Below w.heap.size w (w.alloc (.cells #[.int .i64 t.k, .string t.s, .slice ao t.l.length cap] 26))) := (Below.refl _ _).alloc (Nat.le_refl _) _
  have HC1 := Hid.mk (HC.out _ (h.grow A0.out) hts halt (by omega))
  have HO := Hid.mk hO
  have HR := Hid.mk h
  obtain ⟨oa, oc, hov, hoc⟩ := hO.lenV
  subst hov
  have HOW : Hid (∀ g, (Value.slice oa L.length oc).ownBlock = some g → g < w.heap.size) := fun g hg => (hO.own hg).2
  rw [hk] at X0 A0 HC1 ⊢
  generalize t.s = ts at *
  generalize t.nsz = N at *
  generalize t.l = tl at *
  clear hlay hO h HC hk halt hok
  go_enter Try.func48, Try.ntmps48
  have x0 := X0.out.c0
  have x1 := X0.out.c1
  have x2 := X0.out.c2
  go_wp2_with fail
  refine HC1.out.mono ?_
  rintro e w1 ⟨rfl, hb1⟩
  have HX1 := Hid.mk (X0.out.grow hb1)
  have HB1 := Hid.mk (A0.out.trans (hb1.mono A0.out.size))
  have y0 := HX1.out.c0
  have y2 := HX1.out.c2
  have hsz := HB1.out.size
  clear x0 x1 x2 X0 HC1 hb1 A0
  have HO1 := Hid.mk (HO.out.grow HB1.out)
  have HR1 := Hid.mk (HR.out.grow HB1.out)
  clear HO HR
  have HN1 : Hid (Nign w w1 (.slice oa L.length oc) (.slice oa L.length oc)) := (Nign.refl w1 _).ahead HB1.out
  clear HR1 HOW
  go_wp2
  go_ret
  refine ⟨_, rfl, ?_, HN1.out⟩
  rw [List.append_nil]
  exact HO1.out
set_option maxHeartbeats 2000000 in
theorem l5Lay_4 (t : Tr) (hk : t.k = 4) (ih : ∀ x ∈ t.l, LyC x) : LyC t := by
  intro B v o base L w h hB hbase hO hts hok hn
  have halt := alt_ok t hok
  have HC := Hid.mk (l5Size_any t B v)
  have hlay := lay_eq t L.length
  rw [if_neg (by omega), if_neg (by omega), if_neg (by omega), if_pos hk] at hlay
  have hnsz := nsz_eq t
  rw [if_pos (.inr hk)] at hnsz
  have hkids := okT_kids hok
  rw [hlay]
  obtain ⟨ao, cap, rfl, hl1, hl2, -⟩ := h.len
  unfold maxLen at hl2
  have X0 := Hid.mk (Bz3.new w (.int .i64 t.k) (.string t.s) (.slice ao t.l.length cap))
  have A0 : Hid (Below w.heap.size w (w.alloc (.cells #[.int .i64 t.k, .string t.s, .slice ao t.l.length cap] 26))) := (Below.refl _ _).alloc (Nat.le_refl _) _
  have HC1 := Hid.mk (HC.out _ (h.grow A0.out) hts halt (by omega))
  have HO := Hid.mk hO
  have HR := Hid.mk h
  obtain ⟨oa, oc, hov, hoc⟩ := hO.lenV
  subst hov
  have HOW : Hid (∀ g, (Value.slice oa L.length oc).ownBlock = some g → g < w.heap.size) := fun g hg => (hO.own hg).2
  rw [hk] at X0 A0 HC1 ⊢
  have HIH := Hid.mk ih
  have HKI := Hid.mk hkids
  obtain ⟨l, hl⟩ : ∃ l, t.l = l := ⟨_, rfl⟩
  rw [hl] at X0 HIH HKI HR hnsz hl1 A0 HC1 ⊢
  generalize t.s = ts at *
  generalize t.nsz = N at *
  have HLE := Hid.mk (nszL_le l)
  have HTK := Hid.mk (nszL_take l)
  have HLT := Hid.mk (layL_take l)
  have HLL : Hid (∀ k p, (layL (l.take k) p).length = nszL (l.take k)) := fun k p => layL_len _ (fun x hx => lay_len x (HKI.out x (List.mem_of_mem_take hx))) p
  have HALL : Hid (layL (l.take l.length) L.length = layL l L.length) := by show _ = _; rw [List.take_length]
  have H0 : Hid (L ++ layL (l.take 0) L.length = L) := by show _ = _; rw [List.take_zero, layL, List.append_nil]
  clear hlay hO h HC hk halt hok ih hkids hl
  go_enter Try.func48, Try.ntmps48
  have x0 := X0.out.c0
  have x1 := X0.out.c1
  have x2 := X0.out.c2
  go_wp2_with fail
  refine HC1.out.mono ?_
  rintro e w1 ⟨rfl, hb1⟩
  have HX1 := Hid.mk (X0.out.grow hb1)
  have HB1 := Hid.mk (A0.out.trans (hb1.mono A0.out.size))
  have y0 := HX1.out.c0
  have y2 := HX1.out.c2
  have hsz := HB1.out.size
  clear x0 x1 x2 X0 HC1 hb1 A0
  have HO1 := Hid.mk (HO.out.grow HB1.out)
  have HR1 := Hid.mk (HR.out.grow HB1.out)
  clear HO HR
  go_wp2
  go_loopw [0, 7] (fun q i wr => ∃ (k : Nat) (qa : Option Addr) (qc : Nat) (M : List Nd), k ≤ l.length ∧ i = .int .i64 k ∧ q = .slice qa M.length qc ∧ M.length ≤ qc ∧ Hid (M = L ++ layL (l.take k) L.length) ∧ Hid (OwnN wr base q M) ∧ Hid (Nign w1 wr (.slice oa L.length oc) q)) (fun _ i _ => l.length - (intOf i).toNat)
  case atStart => exact ⟨0, oa, oc, L, Nat.zero_le _, rfl, rfl, hoc, H0.out.symm, HO1.out, Nign.refl _ _⟩
  case round =>
    obtain ⟨k, qa, qc, M, hkl0, rfl, rfl, hMc, HM, HOM, HNM⟩ := hrel
    have HXR := Hid.mk (HNM.out.box HX1.out HOW.out)
    have HRR := Hid.mk (HNM.out.tree HO1.out hB HR1.out)
    have hszr := HNM.out.1.size
    have z2 := HXR.out.c2
    clear y0 y2 H0
    by_cases hkl : k < l.length
    · obtain ⟨b, off, V, rfl, hel⟩ := HRR.out.elems (by intro hn; rw [hn] at hkl; simp at hkl)
      obtain ⟨⟨c0, c1, c2⟩, hsub, hss⟩ := hel k hkl
      have hle := HLE.out (k + 1)
      have htk := HTK.out k hkl
      have hml : M.length = L.length + nszL (l.take k) := by rw [HM.out, List.length_append, HLL.out]
      have HCX := Hid.mk (HIH.out l[k] (List.getElem_mem hkl) B (V k) _ base M wr hsub hB (by omega) HOM.out hss (HKI.out _ (List.getElem_mem hkl)) (by omega))
      have HNX : Hid (M ++ l[k].lay M.length = L ++ layL (l.take (k + 1)) L.length) := by
        show _ = _
        rw [HLT.out k hkl L.length, ← List.append_assoc, ← HM.out, hml]
      generalize l[k] = x at c0 c1 c2 HCX HNX
      have hi1 : (k : Int) < (l.length : Int) := by omega
      clear hel hsub hss hle htk hml HRR HXR HIH HKI HLE HTK HLT HLL HM HOM
      go_wp2_with fail
      refine HCX.out.mono ?_
      rintro e w4 ⟨o4, rfl, hown4, hn4⟩
      have HO4 := Hid.mk hown4
      have HN4 := Hid.mk (HNM.out.trans hn4)
      obtain ⟨oa4, oc4, hov4, hoc4⟩ := hown4.lenV
      subst hov4
      generalize hP : M ++ x.lay M.length = P at *
      clear hP hown4 hn4 HCX HNM c0 c1 c2 z2
      go_wp2
      go_roundw
      case rel => exact ⟨k + 1, oa4, oc4, P, by omega, by go_num, rfl, hoc4, HNX, HO4, HN4⟩
      case measure => simp [intOf]; omega
    · have e : k = l.length := by omega
      subst e
      have HN9 := Hid.mk (HNM.out.ahead HB1.out)
      have HM9 : Hid (OwnN wr base (.slice qa M.length qc) (L ++ layL l L.length)) := by
        show OwnN _ _ _ _
        have := HOM.out
        rw [← HALL.out, ← HM.out]
        exact this
      clear HRR HXR HIH HKI HLE HTK HLT HLL HM HOM HALL HNM
      go_wp2
      go_ret
      exact ⟨_, rfl, HM9.out, HN9.out⟩
end Go.Proofs.Ytapniafhcagogaa
