/- A part is laid behind nodes: l5Alt of the model, one or the other. -/
import Derived.Test.YtapniafhcagogaaLayG
namespace Go.Proofs.Ytapniafhcagogaa
open Go.RowKit
set_option maxRecDepth 8000

/-- The parts before the last of one or the other. -/
def layK : List Tr → Nat → Nat → List Nd
  | [], _, _ => []
  | t :: r, p, q => split (p + 1) (p + 2 + t.nsz) :: (t.lay (p + 1) ++ split q q :: layK r (p + 2 + t.nsz) q)
theorem layK_snoc : ∀ (l : List Tr) (x : Tr) (p q : Nat), layK (l ++ [x]) p q = layK l p q ++ (split (p + nszL l + 2 * l.length + 1) (p + nszL l + 2 * l.length + 2 + x.nsz) :: (x.lay (p + nszL l + 2 * l.length + 1) ++ [split q q]))
  | [], x, p, q => by simp [layK, nszL]
  | t :: r, x, p, q => by
    have := layK_snoc r x (p + 2 + t.nsz) q
    have e : p + 2 + t.nsz + nszL r + 2 * r.length = p + (t.nsz + nszL r) + 2 * (r.length + 1) := by omega
    rw [e] at this
    simp only [List.cons_append, layK, nszL, List.length_cons, List.append_assoc, this]
theorem layA_snoc : ∀ (l : List Tr) (x : Tr) (p q : Nat), layA (l ++ [x]) p q = layK l p q ++ x.lay (p + nszL l + 2 * l.length)
  | [], x, p, q => by simp [layK, layA, nszL]
  | t :: r, x, p, q => by
    have := layA_snoc r x (p + 2 + t.nsz) q
    have e : p + 2 + t.nsz + nszL r + 2 * r.length = p + (t.nsz + nszL r) + 2 * (r.length + 1) := by omega
    rw [e] at this
    have hn : (r ++ [x]).isEmpty = false := by cases r <;> rfl
    simp only [List.cons_append, layK, layA, nszL, List.length_cons, List.append_assoc, this, hn, Bool.false_eq_true, if_false]
theorem layK_len : ∀ (l : List Tr), (∀ x ∈ l, ∀ p, (x.lay p).length = x.nsz) → ∀ p q, (layK l p q).length = nszL l + 2 * l.length
  | [], _, p, q => by simp [layK, nszL]
  | t :: r, h, p, q => by
    have := layK_len r (fun x hx => h x (List.mem_cons_of_mem _ hx)) (p + 2 + t.nsz) q
    simp only [layK, nszL, List.length_cons, List.length_append, h t (List.mem_cons_self ..), this]
    omega

set_option maxHeartbeats 4000000 in
theorem l5Alt_any (l : List Tr) (hne : l ≠ []) (ih : ∀ x ∈ l, LyC x) (hok : ∀ x ∈ l, x.okT = true) (B : Nat → Prop) (v o : Value) (base : Nat) (L : List Nd) (q : Nat) (w : World) (h : Rl w B l v) (hB : ∀ b, B b → b < base) (hbase : base ≤ w.heap.size) (hO : OwnN w base o L)
    (hn : L.length + nszL l + 2 * (l.length - 1) ≤ 1000000) :
    Calls Try.prog 75 #[o, v, .int .i64 (q : Int)] w fun e w' => ∃ o', e = .returned o' ∧ OwnN w' base o' (L ++ layA l L.length q) ∧ Nign w w' o o' := by
  obtain ⟨ao, cap, rfl, hl1, hl2, -⟩ := h.len
  unfold maxLen at hl2
  have hpos : 0 < l.length := List.length_pos_iff.2 hne
  obtain ⟨oa, oc, hov, hoc⟩ := hO.lenV
  subst hov
  have HO := Hid.mk hO
  have HR := Hid.mk h
  have HIH := Hid.mk ih
  have HKI := Hid.mk hok
  have HLE := Hid.mk (nszL_le l)
  have HTK := Hid.mk (nszL_take l)
  have HLL : Hid (∀ k p, k ≤ l.length → (layK (l.take k) p q).length = nszL (l.take k) + 2 * k) := fun k p hk => by
    have := layK_len (l.take k) (fun x hx => lay_len x (hok x (List.mem_of_mem_take hx))) p q
    rwa [List.length_take, Nat.min_eq_left hk] at this
  have HST : Hid (∀ k (hk : k < l.length) p, layK (l.take (k + 1)) p q = layK (l.take k) p q ++ (split (p + nszL (l.take k) + 2 * k + 1) (p + nszL (l.take k) + 2 * k + 2 + l[k].nsz) :: (l[k].lay (p + nszL (l.take k) + 2 * k + 1) ++ [split q q]))) := fun k hk p => by
    have := layK_snoc (l.take k) l[k] p q
    rw [List.length_take, Nat.min_eq_left (by omega)] at this
    rw [List.take_succ_eq_append_getElem hk, this]
  have HEN : Hid (∀ k (hk : k < l.length), k + 1 = l.length → ∀ p, layA l p q = layK (l.take k) p q ++ l[k].lay (p + nszL (l.take k) + 2 * k)) := fun k hk he p => by
    have := layA_snoc (l.take k) l[k] p q
    rw [List.length_take, Nat.min_eq_left (by omega), ← List.take_succ_eq_append_getElem hk, he, List.take_length] at this
    exact this
  have H0 : Hid (L = L ++ layK (l.take 0) L.length q) := by show _ = _; rw [List.take_zero, layK, List.append_nil]
  clear hO h ih hok hne
  go_enter Try.func75, Try.ntmps75
  go_wp2
  go_loopw [0, 7] (fun u i wr => ∃ (k : Nat) (qa : Option Addr) (qc : Nat) (M : List Nd), k + 1 ≤ l.length ∧ i = .int .i64 k ∧ u = .slice qa M.length qc ∧ M.length ≤ qc ∧ Hid (M = L ++ layK (l.take k) L.length q) ∧ Hid (OwnN wr base u M) ∧ Hid (Nign w wr (.slice oa L.length oc) u)) (fun _ i _ => l.length - (intOf i).toNat)
  case atStart => exact ⟨0, oa, oc, L, by omega, rfl, rfl, hoc, H0, HO, Nign.refl _ _⟩
  case round =>
    obtain ⟨k, qa, qc, M, hkl0, rfl, rfl, hMc, HM, HOM, HNM⟩ := hrel
    have HRR := Hid.mk (HNM.out.tree HO.out hB HR.out)
    have hszr := HNM.out.1.size
    have hkl : k < l.length := by omega
    have hle := HLE.out (k + 1)
    have htk := HTK.out k hkl
    have hml : M.length = L.length + nszL (l.take k) + 2 * k := by rw [HM.out, List.length_append, HLL.out k _ (by omega)]; omega
    have hokk := HKI.out l[k] (List.getElem_mem hkl)
    have hihk := HIH.out l[k] (List.getElem_mem hkl)
    obtain ⟨b, off, V, rfl, hel⟩ := HRR.out.elems (by intro hn; rw [hn] at hkl; simp at hkl)
    obtain ⟨⟨c0, c1, c2⟩, hsub, hss⟩ := hel k hkl
    have hi1 : (k : Int) < (l.length : Int) := by omega
    clear H0
    by_cases hkl1 : k + 1 < l.length
    · have hST := HST.out k hkl L.length
      have HS := Hid.mk (l5Size_any l[k] B (V k) wr hsub hss (alt_ok _ hokk) (by omega))
      have hi2 : (k : Int) < (l.length : Int) - 1 := by omega
      obtain ⟨x, hx⟩ : ∃ x, l[k] = x := ⟨_, rfl⟩
      rw [hx] at c0 c1 hsub hss HS hokk hihk hST htk
      have hM5 : M.length + 2 + x.nsz ≤ 1000000 := by omega
      have HNX : Hid (L ++ layK (l.take (k + 1)) L.length q = M ++ (split (M.length + 1) (M.length + 2 + x.nsz) :: (x.lay (M.length + 1) ++ [split q q]))) := by
        show _ = _
        rw [hST, hml, ← List.append_assoc, ← HM.out]
      have HIX := Hid.mk hihk
      have HOK := Hid.mk hokk
      obtain ⟨xn, hxn⟩ : ∃ xn, x.nsz = xn := ⟨_, rfl⟩
      rw [hxn] at HS hM5 HNX
      have HXN := Hid.mk hxn
      have HX := Hid.mk hx
      clear hel hle htk hml hST hokk hihk hsub hss hxn hx
      go_wp2_with fail
      refine HS.out.mono ?_
      rintro e w2 ⟨rfl, hb2⟩
      have hs2 := hb2.size
      have HB2 := Hid.mk hb2
      have HN1 : Hid ((w2.alloc (.cells #[.int .i64 4, .string ⟨#[]⟩, .int .i64 ((M.length : Int) + 1), .int .i64 ((M.length : Int) + 2 + (xn : Int))] 69)).heap[w2.heap.size]? = some (.cells #[.int .i64 4, .string ⟨#[]⟩, .int .i64 ((M.length : Int) + 1), .int .i64 ((M.length : Int) + 2 + (xn : Int))] 69 (0, 0))) := heap_alloc_new _ _
      have BN : Hid (Below wr.heap.size wr (w2.alloc (.cells #[.int .i64 4, .string ⟨#[]⟩, .int .i64 ((M.length : Int) + 1), .int .i64 ((M.length : Int) + 2 + (xn : Int))] 69))) := hb2.alloc hs2 _
      have HO1 := Hid.mk (HOM.out.grow BN.out)
      have HRA := Hid.mk (HRR.out.grow BN.out)
      clear HS hb2 c0 c1 c2
      go_wp2_with (at_builtin; refine wpList_append_n (w0 := wr) rfl _ _ rfl base _ M ⟨4, ⟨#[]⟩, (M.length : Int) + 1, (M.length : Int) + 2 + (xn : Int)⟩ rfl HO1.out _ rfl HN1.out (BN.out.mono (by omega)) (by simp; omega) (by omega) ?_)
      intro v3 w3 hown3 hbel3 hq3 hn3
      have hsz3 : w2.heap.size ≤ w3.heap.size := by first | omega | (have := hq3; simp at this; omega)
      have HR3 := Hid.mk (hn3.tree HO1.out hB HRA.out)
      have HN3 := Hid.mk (HNM.out.trans (hn3.ahead BN.out))
      obtain ⟨b', off', V', hbo, hel⟩ := HR3.out.elems (by intro hn; rw [hn] at hkl; simp at hkl)
      cases hbo
      obtain ⟨⟨c0, c1, c2⟩, hsub, hss⟩ := hel k hkl
      rw [HX.out] at c0 c1 hsub hss
      have HCX := Hid.mk (HIX.out B (V' k) v3 base _ w3 hsub hB (by omega) hown3 hss HOK.out (by rw [HXN.out]; simp; omega))
      obtain ⟨oa3, oc3, hov3, hoc3⟩ := hown3.lenV
      subst hov3
      clear hel hsub hss hown3 hbel3 hq3 hn3 HN1 BN HO1 HRA HR3 HB2 HOM HRR HNM
      generalize hM1 : M ++ [(⟨4, ⟨#[]⟩, (M.length : Int) + 1, (M.length : Int) + 2 + (xn : Int)⟩ : Nd)] = M1 at *
      have HM1 := Hid.mk hM1
      clear hM1
      go_wp2_with fail
      refine HCX.out.mono ?_
      rintro e w4 ⟨o4, rfl, hown4, hn4⟩
      have hsz4 := hn4.1.size
      have HO4 := Hid.mk hown4
      have HN4 := Hid.mk (HN3.out.trans hn4)
      obtain ⟨oa4, oc4, hov4, hoc4⟩ := hown4.lenV
      subst hov4
      have hlen4 : (M1 ++ x.lay M1.length).length ≤ 1000000 := by rw [List.length_append, lay_len x HOK.out, HXN.out, ← HM1.out, List.length_append]; simp; omega
      generalize hP : M1 ++ x.lay M1.length = P at *
      have HP := Hid.mk hP
      clear hP hown4 hn4 HCX HN3 c0 c1 c2
      have HN5 : Hid ((w4.alloc (.cells #[.int .i64 4, .string ⟨#[]⟩, .int .i64 (q : Int), .int .i64 (q : Int)] 69)).heap[w4.heap.size]? = some (.cells #[.int .i64 4, .string ⟨#[]⟩, .int .i64 (q : Int), .int .i64 (q : Int)] 69 (0, 0))) := heap_alloc_new _ _
      have BN : Hid (Below w4.heap.size w4 (w4.alloc (.cells #[.int .i64 4, .string ⟨#[]⟩, .int .i64 (q : Int), .int .i64 (q : Int)] 69))) := (Below.refl _ _).alloc (Nat.le_refl _) _
      have HO5 := Hid.mk (HO4.out.grow BN.out)
      go_wp2_with (at_builtin; refine wpList_append_n (w0 := w4) rfl _ _ rfl base _ P ⟨4, ⟨#[]⟩, (q : Int), (q : Int)⟩ rfl HO5.out _ rfl HN5.out (BN.out.mono (by omega)) (by simp; omega) (by omega) ?_)
      intro v6 w6 hown6 hbel6 hq6 hn6
      have HO6 := Hid.mk hown6
      have HN6 := Hid.mk (HN4.out.trans (hn6.ahead BN.out))
      obtain ⟨oa6, oc6, hov6, hoc6⟩ := hown6.lenV
      subst hov6
      have HNY : Hid (P ++ [(⟨4, ⟨#[]⟩, (q : Int), (q : Int)⟩ : Nd)] = L ++ layK (l.take (k + 1)) L.length q) := by
        show _ = _
        rw [HNX.out, ← HP.out, ← HM1.out, List.append_assoc, List.append_assoc, List.length_append]
        rfl
      generalize P ++ [(⟨4, ⟨#[]⟩, (q : Int), (q : Int)⟩ : Nd)] = P1 at *
      clear hown6 hbel6 hq6 hn6 HN5 BN HO5 HO4 HN4 HP HM1 HNX
      go_wp2
      go_roundw
      case rel => exact ⟨k + 1, oa6, oc6, P1, by omega, by go_num, rfl, hoc6, HNY, HO6, HN6⟩
      case measure => simp [intOf]; omega
    · have he : k + 1 = l.length := by omega
      have hEN := HEN.out k hkl he L.length
      have HCX := Hid.mk (hihk B (V k) _ base M wr hsub hB (by omega) HOM.out hss hokk (by omega))
      have HNX : Hid (M ++ l[k].lay M.length = L ++ layA l L.length q) := by
        show _ = _
        rw [hEN, ← List.append_assoc, ← HM.out, hml]
      have hi2 : ¬ (k : Int) < (l.length : Int) - 1 := by omega
      have hk1 : (l.length : Int) - 1 = (k : Int) := by omega
      generalize l[k] = x at c0 c1 c2 HCX HNX
      clear hel hsub hss hle htk hml hEN hokk hihk HRR HIH HKI HLE HTK HLL HST HEN HM HOM
      go_wp2_with fail
      refine HCX.out.mono ?_
      rintro e w4 ⟨o4, rfl, hown4, hn4⟩
      rw [HNX.out] at hown4
      have HO4 := Hid.mk hown4
      have HN4 := Hid.mk (HNM.out.trans hn4)
      clear hown4 hn4 HCX HNM c0 c1 c2
      go_wp2
      go_ret
      exact ⟨_, rfl, HO4.out, HN4.out⟩
end Go.Proofs.Ytapniafhcagogaa
