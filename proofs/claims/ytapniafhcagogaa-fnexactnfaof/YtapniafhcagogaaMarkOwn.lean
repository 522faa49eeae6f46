/- Nodes of an answer of the call's own, marked and held by the laws. -/
import Derived.Test.YtapniafhcagogaaMarkNode
import Derived.Test.YtapniafhcagogaaAppNode
namespace Go.Proofs.Ytapniafhcagogaa
open Go.RowKit
set_option maxRecDepth 8000

/-- The block g begins with these nodes. -/
def NBr (w : World) (g : Nat) (M : List Nd) (rest : List Value) : Prop := w.heap[g]? = some (.cells (ndCells M ++ rest).toArray 69 (0, 0))
theorem NBr.lt {w : World} {g : Nat} {M : List Nd} {r : List Value} (h : NBr w g M r) : g < w.heap.size := (Array.getElem?_eq_some_iff.1 h).1
theorem NBr.kept {w w' : World} {g : Nat} {M : List Nd} {r : List Value} (h : NBr w g M r) (hh : w'.heap[g]? = w.heap[g]?) : NBr w' g M r := by unfold NBr; rw [hh]; exact h
theorem NBr.fr {w : World} {g : Nat} {M : List Nd} {r : List Value} (h : NBr w g M r) (o : Nat) : w.frozen? ⟨g, o, none⟩ = false := frozen_of_row w g o _ _ h
theorem NBr.at4 {w : World} {g : Nat} {M : List Nd} {r : List Value} (h : NBr w g M r) {i : Nat} (hi : i < M.length) : At4 w g (i * 4) M[i] := by
  obtain ⟨h0, h1, h2, h3⟩ := ndCells_get M i hi
  have hc := ndCells_len M
  refine ⟨?_, ?_, ?_, ?_⟩ <;> rw [cell_of_row w g _ _ _ (0, 0) h, List.getElem?_toArray, List.getElem?_append_left (by rw [hc]; omega)]
  · exact h0
  · exact h1
  · exact h2
  · exact h3
theorem NBr.stK {w : World} {g i : Nat} {M : List Nd} {r : List Value} (h : NBr w g M r) (hi : i < M.length) (x : Int) : NBr (w.setCell ⟨g, i * 4, none⟩ (.int .i64 x)) g (M.set i { M[i] with k := x }) r := by
  unfold NBr
  rw [heap_setCell_same w g (i * 4) _ _ _ h, ← ndCells_k M i x hi, List.setIfInBounds_toArray, List.set_append_left _ _ (by rw [ndCells_len]; omega)]
theorem NBr.stS {w : World} {g i : Nat} {M : List Nd} {r : List Value} (h : NBr w g M r) (hi : i < M.length) (x : ByteArray) : NBr (w.setCell ⟨g, i * 4 + 1, none⟩ (.string x)) g (M.set i { M[i] with s := x }) r := by
  unfold NBr
  rw [heap_setCell_same w g (i * 4 + 1) _ _ _ h, ← ndCells_s M i x hi, List.setIfInBounds_toArray, List.set_append_left _ _ (by rw [ndCells_len]; omega)]
theorem NBr.stA {w : World} {g i : Nat} {M : List Nd} {r : List Value} (h : NBr w g M r) (hi : i < M.length) (x : Int) : NBr (w.setCell ⟨g, i * 4 + 2, none⟩ (.int .i64 x)) g (M.set i { M[i] with a := x }) r := by
  unfold NBr
  rw [heap_setCell_same w g (i * 4 + 2) _ _ _ h, ← ndCells_a M i x hi, List.setIfInBounds_toArray, List.set_append_left _ _ (by rw [ndCells_len]; omega)]
theorem NBr.stB {w : World} {g i : Nat} {M : List Nd} {r : List Value} (h : NBr w g M r) (hi : i < M.length) (x : Int) : NBr (w.setCell ⟨g, i * 4 + 3, none⟩ (.int .i64 x)) g (M.set i { M[i] with b := x }) r := by
  unfold NBr
  rw [heap_setCell_same w g (i * 4 + 3) _ _ _ h, ← ndCells_b M i x hi, List.setIfInBounds_toArray, List.set_append_left _ _ (by rw [ndCells_len]; omega)]

/-- A marked node. -/
def mkN (j : Nat) : Nd := ⟨(j : Int), mkS (j + 1), (j : Int) + 2, (j : Int) + 3⟩
def marksN (j n : Nat) : List Nd := (List.range n).map fun i => mkN (j + 4 * i)
theorem marksN_len (j n : Nat) : (marksN j n).length = n := by simp [marksN]
/-- The first k are marked. -/
def mrkN (L : List Nd) (j k : Nat) : List Nd := marksN j k ++ L.drop k
theorem mrkN_len (L : List Nd) (j k : Nat) (h : k ≤ L.length) : (mrkN L j k).length = L.length := by simp [mrkN, marksN_len]; omega
theorem mrkN_set (L : List Nd) (j k : Nat) (h : k < L.length) : (mrkN L j k).set k (mkN (j + 4 * k)) = mrkN L j (k + 1) := by
  unfold mrkN
  rw [List.set_append_right _ _ (by rw [marksN_len]; exact Nat.le_refl _), marksN_len, Nat.sub_self, List.drop_eq_getElem_cons h, List.set_cons_zero]
  unfold marksN
  rw [List.range_succ, List.map_append, List.append_assoc]
  rfl
theorem mrkN_all (L : List Nd) (j : Nat) : mrkN L j L.length = marksN j L.length := by simp [mrkN]

theorem OwnN.nbr {w : World} {base : Nat} {v : Value} {L : List Nd} (h : OwnN w base v L) : (v = .slice none 0 0 ∧ L = []) ∨ ∃ g cap r, v = .slice (some ⟨g, 0, none⟩) L.length cap ∧ base ≤ g ∧ L.length ≤ cap ∧ cap ≤ maxLen ∧ r.length + L.length * 4 = cap * 4 ∧ NBr w g L r := by
  rcases h.2 with ⟨h1, h0⟩ | ⟨g, cap, cur, rfl, hb, hg, hn, hm, hs, ht⟩
  · exact .inl ⟨h1, List.eq_nil_of_length_eq_zero h0⟩
  · refine .inr ⟨g, cap, cur.toList.drop (L.length * 4), rfl, hb, hn, hm, ?_, ?_⟩
    · rw [List.length_drop, Array.length_toList, hs]
      omega
    · unfold NBr
      rw [hg, ← ht, List.take_append_drop]
theorem OwnN.of {w : World} {base g cap : Nat} {L : List Nd} {r : List Value} (h : NBr w g L r) (hb : base ≤ g) (hn : L.length ≤ cap) (hm : cap ≤ maxLen) (hr : r.length + L.length * 4 = cap * 4) : OwnN w base (.slice (some ⟨g, 0, none⟩) L.length cap) L := by
  refine ⟨ndCells_len L, .inr ⟨g, cap, _, rfl, hb, h, hn, hm, ?_, ?_⟩⟩
  · simp [ndCells_len]; omega
  · rw [List.take_append_of_le_length (by rw [ndCells_len]; exact Nat.le_refl _), List.take_of_length_le (by rw [ndCells_len]; exact Nat.le_refl _)]
/-- A slice of the call's own reads its nodes. -/
theorem OwnN.nl {w : World} {base : Nat} {v : Value} {L : List Nd} (h : OwnN w base v L) (hs : ∀ x ∈ L, x.s.size ≤ maxLen) : Nl w (fun b => base ≤ b ∧ b < w.heap.size) L v := by
  rcases h.nbr with ⟨rfl, rfl⟩ | ⟨g, cap, r, rfl, hb, hn, hm, hr, hg⟩
  · exact ⟨none, 0, rfl, Nat.le_refl _, Nat.zero_le _, fun _ => rfl, hs, fun h => absurd rfl h⟩
  · exact ⟨some ⟨g, 0, none⟩, cap, rfl, hn, hm, (fun h => by cases h), hs, fun _ => ⟨g, 0, rfl, ⟨hb, hg.lt⟩, fun i hi => by rw [Nat.zero_add]; exact hg.at4 hi⟩⟩
theorem set4 {M : List Nd} {i : Nat} (hi : i < M.length) (x : Int) (s : ByteArray) (a b : Int) (h1 : i < (M.set i { M[i] with k := x }).length) (h2 : i < ((M.set i { M[i] with k := x }).set i { (M.set i { M[i] with k := x })[i] with s := s }).length) (h3 : i < (((M.set i { M[i] with k := x }).set i { (M.set i { M[i] with k := x })[i] with s := s }).set i { ((M.set i { M[i] with k := x }).set i { (M.set i { M[i] with k := x })[i] with s := s })[i] with a := a }).length) :
    ((((M.set i { M[i] with k := x }).set i { (M.set i { M[i] with k := x })[i] with s := s }).set i { ((M.set i { M[i] with k := x }).set i { (M.set i { M[i] with k := x })[i] with s := s })[i] with a := a }).set i { (((M.set i { M[i] with k := x }).set i { (M.set i { M[i] with k := x })[i] with s := s }).set i { ((M.set i { M[i] with k := x }).set i { (M.set i { M[i] with k := x })[i] with s := s })[i] with a := a })[i] with b := b }) = M.set i ⟨x, s, a, b⟩ := by
  simp

set_option maxHeartbeats 1000000 in
theorem markOwnS_any (base j : Nat) (v : Value) (L : List Nd) (w : World) (h : OwnN w base v L) (hn : L.length ≤ 1048576) (hj : j ≤ 1048576) :
    Calls Try.prog 53 #[v, .int .i64 (j : Int)] w fun e w' => e = .returned (.int .i64 ((j + 4 * L.length : Nat) : Int)) ∧ OwnN w' base v (marksN j L.length) ∧ w.grownBy w' v.ownBlock := by
  rcases h.nbr with ⟨rfl, rfl⟩ | ⟨g, cap, r, rfl, hb, hnc, hm, hr, hg⟩
  · clear h
    go_enter Try.func53, Try.ntmps53
    go_wp2
    go_loopw [1, 5] (fun q i wr => i = .int .i64 0 ∧ q = .int .i64 (j : Int) ∧ wr = w) (fun _ _ _ => 0)
    case atStart => exact ⟨rfl, rfl, rfl⟩
    case round =>
      obtain ⟨rfl, rfl, rfl⟩ := hrel
      go_wp2
      go_ret
      exact ⟨by simp, ⟨rfl, .inl ⟨rfl, rfl⟩⟩, ⟨rfl, rfl, rfl, Nat.le_refl _, fun _ _ _ => rfl⟩⟩
  have HT : Hid (∀ (k : Nat) (i : Int), i = (k : Int) → k ≤ 1073741824 → ∀ w', Calls Try.prog 73 #[.int .i64 i] w' fun e w'' => e = .returned (.string (mkS k)) ∧ Below w'.heap.size w' w'') := fun k i hi hk w' => by rw [hi]; exact markText_any k w' hk
  have HD : Hid (∀ w', NBr w' g (marksN j L.length) r → OwnN w' base (.slice (some ⟨g, 0, none⟩) L.length cap) (marksN j L.length)) := fun w' hh => by
    have := OwnN.of (base := base) (cap := cap) hh hb (by rw [marksN_len]; exact hnc) hm (by rw [marksN_len]; exact hr)
    rwa [marksN_len] at this
  have H0 : Hid (NBr w g (mrkN L j 0) r) := by show NBr _ _ _ _; simpa [mrkN, marksN] using hg
  have HML := Hid.mk (mrkN_len L j)
  have HMS := Hid.mk (mrkN_set L j)
  have HMA := Hid.mk (mrkN_all L j)
  obtain ⟨n, hnn⟩ : ∃ n, L.length = n := ⟨_, rfl⟩
  rw [hnn] at HD HML HMA hn hnc
  rw [hnn]
  unfold maxLen at hm
  have HNN := Hid.mk hnn
  clear h hg hr hnn
  go_enter Try.func53, Try.ntmps53
  go_wp2
  go_loopw [1, 5] (fun q i wr => ∃ (k : Nat), k ≤ n ∧ i = .int .i64 k ∧ q = .int .i64 ((j + 4 * k : Nat) : Int) ∧ Hid (NBr wr g (mrkN L j k) r) ∧ Hid (Mkd g w wr)) (fun _ i _ => n - (intOf i).toNat)
  case atStart => exact ⟨0, Nat.zero_le _, rfl, rfl, H0, Mkd.refl _ _⟩
  case round =>
    obtain ⟨k, hk, rfl, rfl, HM, HB⟩ := hrel
    clear H0
    by_cases hkl : k < n
    · have hki : (k : Int) < (n : Int) := by omega
      have hml := HML.out k (by omega)
      have hMS := HMS.out k (by rw [HNN.out]; exact hkl)
      obtain ⟨q, hq⟩ : ∃ q : Int, ((j + 4 * k : Nat) : Int) = q := ⟨_, rfl⟩
      generalize mrkN L j k = M at HM hml hMS
      have hkM : k < M.length := by omega
      obtain ⟨c0, c1, c2, c3⟩ := HM.out.at4 hkM
      generalize hMk : M[k] = x at c0 c1 c2 c3
      clear hMk
      have f0 := HM.out.fr (k * 4)
      have HC := Hid.mk (HT.out (j + 4 * k + 1) (q + 1) (by omega) (by omega))
      have hq0 : 0 ≤ q := by omega
      have hq1 : q ≤ 8388608 := by omega
      have HM1 := Hid.mk (HM.out.stK hkM q)
      have HB1 := Hid.mk (HB.out.set (o := k * 4) (.int .i64 q))
      obtain ⟨ms, hms⟩ : ∃ ms, mkS (j + 4 * k + 1) = ms := ⟨_, rfl⟩
      have HMK : Hid (mkN (j + 4 * k) = ⟨q, ms, q + 1 + 1, q + 1 + 1 + 1⟩) := by
        show _ = _
        unfold mkN
        rw [hms, hq]
        congr 1
        · omega
        · omega
      rw [hms] at HC
      have HQ := Hid.mk hq
      rw [hq]
      have hk0 : 0 < n := by omega
      clear hms hq HM HB HT c1 c2 c3
      go_wp2_with fail
      refine (HC.out _).mono ?_
      rintro e w2 ⟨rfl, hb2⟩
      have h2 := HM1.out.kept (hb2.block g HM1.out.lt)
      have HB2 := Hid.mk (HB1.out.trans (Mkd.below hb2))
      have hk1 : k < (M.set k { M[k] with k := q }).length := by simpa using hkM
      have h3 := h2.stS hk1 ms
      have hk2 : k < ((M.set k { M[k] with k := q }).set k { (M.set k { M[k] with k := q })[k] with s := ms }).length := by simpa using hkM
      have h4 := h3.stA hk2 (q + 1 + 1)
      have hk3 : k < (((M.set k { M[k] with k := q }).set k { (M.set k { M[k] with k := q })[k] with s := ms }).set k { ((M.set k { M[k] with k := q }).set k { (M.set k { M[k] with k := q })[k] with s := ms })[k] with a := q + 1 + 1 }).length := by simpa using hkM
      have h5 := h4.stB hk3 (q + 1 + 1 + 1)
      rw [set4 hkM q ms (q + 1 + 1) (q + 1 + 1 + 1) hk1 hk2 hk3, ← HMK.out, hMS] at h5
      have HF := Hid.mk h5
      obtain ⟨d0, d1, d2, d3⟩ := h2.at4 hk1
      generalize hy : (M.set k { M[k] with k := q })[k] = y at d0 d1 d2 d3
      have f1 := h2.fr (k * 4 + 1)
      have f2 := h2.fr (k * 4 + 2)
      have f3 := h2.fr (k * 4 + 3)
      have HG : Hid (Mkd g w (((w2.setCell ⟨g, k * 4 + 1, none⟩ (.string ms)).setCell ⟨g, k * 4 + 2, none⟩ (.int .i64 (q + 1 + 1))).setCell ⟨g, k * 4 + 3, none⟩ (.int .i64 (q + 1 + 1 + 1)))) := ((HB2.out.set _).set _).set _
      clear hy hb2 HM1 HB1 HC h2 h3 h4 h5 HB2 c0 f0 hMS hk1 hk2 hk3 hkM hml HMK
      go_wp2
      go_roundw
      case rel => exact ⟨k + 1, by omega, by go_num, by have := HQ.out; congr 1; omega, HF, HG⟩
      case measure => simp [intOf]; omega
    · have e : k = n := by omega
      subst e
      have HF := Hid.mk (HD.out wr (by rw [← HMA.out]; exact HM.out))
      have HG : Hid (w.grownBy wr (some g)) := ⟨HB.out.os, HB.out.tape, HB.out.output, HB.out.size, fun b hb' hne => HB.out.block b hb' (fun e => hne (by rw [e]))⟩
      clear HM HB HD HML HMS HMA HT
      go_wp2
      go_ret
      exact ⟨rfl, HF.out, HG.out⟩
end Go.Proofs.Ytapniafhcagogaa
