/- Tokens of an answer of the call's own, marked and held by the laws. -/
import Derived.Test.YtapcbblfcmdbnaaDoorMarkT
import Derived.Test.YtapcbblfcmdbnaaDoorAppTok
import Derived.Test.YtapcbblfcmdbnaaDoorMarkMk
namespace Go.Proofs.YtapcbblfcmdbnaaDoor
open Go.RowKit
set_option maxRecDepth 8000

/-- The block g begins with these nodes. -/
def TBr (w : World) (g : Nat) (M : List Tk) (rest : List Value) : Prop := w.heap[g]? = some (.cells (tkCells M ++ rest).toArray 31 (0, 0))
theorem tkCells_k : ∀ (L : List Tk) (i : Nat) (x : Int) (h : i < L.length), (tkCells L).set (i * 3) (.int .i64 x) = tkCells (L.set i { L[i] with k := x })
  | y :: r, 0, x, _ => rfl
  | y :: r, i + 1, x, h => by
    have ih := tkCells_k r i x (by simpa using h)
    rw [show (i + 1) * 3 = i * 3 + 3 by omega]
    simp only [tkCells, List.set_cons_succ, List.getElem_cons_succ]
    rw [ih]
theorem tkCells_n : ∀ (L : List Tk) (i : Nat) (x : Int) (h : i < L.length), (tkCells L).set (i * 3 + 1) (.int .i64 x) = tkCells (L.set i { L[i] with n := x })
  | y :: r, 0, x, _ => rfl
  | y :: r, i + 1, x, h => by
    have ih := tkCells_n r i x (by simpa using h)
    rw [show (i + 1) * 3 + 1 = i * 3 + 1 + 3 by omega]
    simp only [tkCells, List.set_cons_succ, List.getElem_cons_succ]
    rw [ih]
theorem tkCells_s : ∀ (L : List Tk) (i : Nat) (x : ByteArray) (h : i < L.length), (tkCells L).set (i * 3 + 2) (.string x) = tkCells (L.set i { L[i] with s := x })
  | y :: r, 0, x, _ => rfl
  | y :: r, i + 1, x, h => by
    have ih := tkCells_s r i x (by simpa using h)
    rw [show (i + 1) * 3 + 2 = i * 3 + 2 + 3 by omega]
    simp only [tkCells, List.set_cons_succ, List.getElem_cons_succ]
    rw [ih]
theorem TBr.lt {w : World} {g : Nat} {M : List Tk} {r : List Value} (h : TBr w g M r) : g < w.heap.size := (Array.getElem?_eq_some_iff.1 h).1
theorem TBr.kept {w w' : World} {g : Nat} {M : List Tk} {r : List Value} (h : TBr w g M r) (hh : w'.heap[g]? = w.heap[g]?) : TBr w' g M r := by unfold TBr; rw [hh]; exact h
theorem TBr.fr {w : World} {g : Nat} {M : List Tk} {r : List Value} (h : TBr w g M r) (o : Nat) : w.frozen? ⟨g, o, none⟩ = false := frozen_of_row w g o _ _ h
theorem TBr.at3t {w : World} {g : Nat} {M : List Tk} {r : List Value} (h : TBr w g M r) {i : Nat} (hi : i < M.length) : Tk3 w g (i * 3) M[i] := by
  obtain ⟨h0, h1, h2⟩ := tkCells_get M i hi
  have hc := tkCells_len M
  refine ⟨?_, ?_, ?_⟩ <;> rw [cell_of_row w g _ _ _ (0, 0) h, List.getElem?_toArray, List.getElem?_append_left (by rw [hc]; omega)]
  · exact h0
  · exact h1
  · exact h2
theorem TBr.stK {w : World} {g i : Nat} {M : List Tk} {r : List Value} (h : TBr w g M r) (hi : i < M.length) (x : Int) : TBr (w.setCell ⟨g, i * 3, none⟩ (.int .i64 x)) g (M.set i { M[i] with k := x }) r := by
  unfold TBr
  rw [heap_setCell_same w g (i * 3) _ _ _ h, ← tkCells_k M i x hi, List.setIfInBounds_toArray, List.set_append_left _ _ (by rw [tkCells_len]; omega)]
theorem TBr.stN {w : World} {g i : Nat} {M : List Tk} {r : List Value} (h : TBr w g M r) (hi : i < M.length) (x : Int) : TBr (w.setCell ⟨g, i * 3 + 1, none⟩ (.int .i64 x)) g (M.set i { M[i] with n := x }) r := by
  unfold TBr
  rw [heap_setCell_same w g (i * 3 + 1) _ _ _ h, ← tkCells_n M i x hi, List.setIfInBounds_toArray, List.set_append_left _ _ (by rw [tkCells_len]; omega)]
theorem TBr.stS {w : World} {g i : Nat} {M : List Tk} {r : List Value} (h : TBr w g M r) (hi : i < M.length) (x : ByteArray) : TBr (w.setCell ⟨g, i * 3 + 2, none⟩ (.string x)) g (M.set i { M[i] with s := x }) r := by
  unfold TBr
  rw [heap_setCell_same w g (i * 3 + 2) _ _ _ h, ← tkCells_s M i x hi, List.setIfInBounds_toArray, List.set_append_left _ _ (by rw [tkCells_len]; omega)]

/-- A marked token. -/
def mkTk (j : Nat) : Tk := ⟨(j : Int), (j : Int) + 1, mkS (j + 2)⟩
def marksT (j n : Nat) : List Tk := (List.range n).map fun i => mkTk (j + 3 * i)
theorem marksT_len (j n : Nat) : (marksT j n).length = n := by simp [marksT]
/-- The first k are marked. -/
def mrkT (L : List Tk) (j k : Nat) : List Tk := marksT j k ++ L.drop k
theorem mrkT_len (L : List Tk) (j k : Nat) (h : k ≤ L.length) : (mrkT L j k).length = L.length := by simp [mrkT, marksT_len]; omega
theorem mrkT_set (L : List Tk) (j k : Nat) (h : k < L.length) : (mrkT L j k).set k (mkTk (j + 3 * k)) = mrkT L j (k + 1) := by
  unfold mrkT
  rw [List.set_append_right _ _ (by rw [marksT_len]; exact Nat.le_refl _), marksT_len, Nat.sub_self, List.drop_eq_getElem_cons h, List.set_cons_zero]
  unfold marksT
  rw [List.range_succ, List.map_append, List.append_assoc]
  rfl
theorem mrkT_all (L : List Tk) (j : Nat) : mrkT L j L.length = marksT j L.length := by simp [mrkT]

theorem OwnK.nbr {w : World} {base : Nat} {v : Value} {L : List Tk} (h : OwnK w base v L) : (v = .slice none 0 0 ∧ L = []) ∨ ∃ g cap r, v = .slice (some ⟨g, 0, none⟩) L.length cap ∧ base ≤ g ∧ L.length ≤ cap ∧ cap ≤ maxLen ∧ r.length + L.length * 3 = cap * 3 ∧ TBr w g L r := by
  rcases h.2 with ⟨h1, h0⟩ | ⟨g, cap, cur, rfl, hb, hg, hn, hm, hs, ht⟩
  · exact .inl ⟨h1, List.eq_nil_of_length_eq_zero h0⟩
  · refine .inr ⟨g, cap, cur.toList.drop (L.length * 3), rfl, hb, hn, hm, ?_, ?_⟩
    · rw [List.length_drop, Array.length_toList, hs]
      omega
    · unfold TBr
      rw [hg, ← ht, List.take_append_drop]
theorem OwnK.of {w : World} {base g cap : Nat} {L : List Tk} {r : List Value} (h : TBr w g L r) (hb : base ≤ g) (hn : L.length ≤ cap) (hm : cap ≤ maxLen) (hr : r.length + L.length * 3 = cap * 3) : OwnK w base (.slice (some ⟨g, 0, none⟩) L.length cap) L := by
  refine ⟨tkCells_len L, .inr ⟨g, cap, _, rfl, hb, h, hn, hm, ?_, ?_⟩⟩
  · simp [tkCells_len]; omega
  · rw [List.take_append_of_le_length (by rw [tkCells_len]; exact Nat.le_refl _), List.take_of_length_le (by rw [tkCells_len]; exact Nat.le_refl _)]
/-- A slice of the call's own reads its tokens. -/
theorem OwnK.tl {w : World} {base : Nat} {v : Value} {L : List Tk} (h : OwnK w base v L) (hs : ∀ x ∈ L, x.s.size ≤ maxLen) : Tl w L v := by
  rcases h.nbr with ⟨rfl, rfl⟩ | ⟨g, cap, r, rfl, hb, hn, hm, hr, hg⟩
  · exact ⟨none, 0, rfl, Nat.le_refl _, Nat.zero_le _, fun _ => rfl, hs, fun h => absurd rfl h⟩
  · exact ⟨some ⟨g, 0, none⟩, cap, rfl, hn, hm, (fun h => by cases h), hs, fun _ => ⟨g, 0, rfl, fun i hi => by rw [Nat.zero_add]; exact hg.at3t hi⟩⟩
theorem set3k {M : List Tk} {i : Nat} (hi : i < M.length) (x n : Int) (s : ByteArray) (h1 : i < (M.set i { M[i] with k := x }).length) (h2 : i < ((M.set i { M[i] with k := x }).set i { (M.set i { M[i] with k := x })[i] with n := n }).length) :
    (((M.set i { M[i] with k := x }).set i { (M.set i { M[i] with k := x })[i] with n := n }).set i { ((M.set i { M[i] with k := x }).set i { (M.set i { M[i] with k := x })[i] with n := n })[i] with s := s }) = M.set i ⟨x, n, s⟩ := by
  simp

set_option maxHeartbeats 1000000 in
theorem markTokS_any (base j : Nat) (v : Value) (L : List Tk) (w : World) (h : OwnK w base v L) (hn : L.length ≤ 1048576) (hj : j ≤ 1048576) :
    Calls Tryd.prog 18 #[v, .int .i64 (j : Int)] w fun e w' => e = .returned (.int .i64 ((j + 3 * L.length : Nat) : Int)) ∧ OwnK w' base v (marksT j L.length) ∧ w.grownBy w' v.ownBlock := by
  rcases h.nbr with ⟨rfl, rfl⟩ | ⟨g, cap, r, rfl, hb, hnc, hm, hr, hg⟩
  · clear h
    go_enter Tryd.func18, Tryd.ntmps18
    go_wp2
    go_loopw [1, 5] (fun q i wr => i = .int .i64 0 ∧ q = .int .i64 (j : Int) ∧ wr = w) (fun _ _ _ => 0)
    case atStart => exact ⟨rfl, rfl, rfl⟩
    case round =>
      obtain ⟨rfl, rfl, rfl⟩ := hrel
      go_wp2
      go_ret
      exact ⟨by simp, ⟨rfl, .inl ⟨rfl, rfl⟩⟩, ⟨rfl, rfl, rfl, Nat.le_refl _, fun _ _ _ => rfl⟩⟩
  have HT : Hid (∀ (k : Nat) (i : Int), i = (k : Int) → k ≤ 1073741824 → ∀ w', Calls Tryd.prog 42 #[.int .i64 i] w' fun e w'' => e = .returned (.string (mkS k)) ∧ Below w'.heap.size w' w'') := fun k i hi hk w' => by rw [hi]; exact markText_any k w' hk
  have HD : Hid (∀ w', TBr w' g (marksT j L.length) r → OwnK w' base (.slice (some ⟨g, 0, none⟩) L.length cap) (marksT j L.length)) := fun w' hh => by
    have := OwnK.of (base := base) (cap := cap) hh hb (by rw [marksT_len]; exact hnc) hm (by rw [marksT_len]; exact hr)
    rwa [marksT_len] at this
  have H0 : Hid (TBr w g (mrkT L j 0) r) := by show TBr _ _ _ _; simpa [mrkT, marksT] using hg
  have HML := Hid.mk (mrkT_len L j)
  have HMS := Hid.mk (mrkT_set L j)
  have HMA := Hid.mk (mrkT_all L j)
  obtain ⟨n, hnn⟩ : ∃ n, L.length = n := ⟨_, rfl⟩
  rw [hnn] at HD HML HMA hn hnc
  rw [hnn]
  unfold maxLen at hm
  have HNN := Hid.mk hnn
  clear h hg hr hnn
  go_enter Tryd.func18, Tryd.ntmps18
  go_wp2
  go_loopw [1, 5] (fun q i wr => ∃ (k : Nat), k ≤ n ∧ i = .int .i64 k ∧ q = .int .i64 ((j + 3 * k : Nat) : Int) ∧ Hid (TBr wr g (mrkT L j k) r) ∧ Hid (Mkd g w wr)) (fun _ i _ => n - (intOf i).toNat)
  case atStart => exact ⟨0, Nat.zero_le _, rfl, rfl, H0, Mkd.refl _ _⟩
  case round =>
    obtain ⟨k, hk, rfl, rfl, HM, HB⟩ := hrel
    clear H0
    by_cases hkl : k < n
    · have hki : (k : Int) < (n : Int) := by omega
      have hml := HML.out k (by omega)
      have hMS := HMS.out k (by rw [HNN.out]; exact hkl)
      obtain ⟨q, hq⟩ : ∃ q : Int, ((j + 3 * k : Nat) : Int) = q := ⟨_, rfl⟩
      generalize mrkT L j k = M at HM hml hMS
      have hkM : k < M.length := by omega
      obtain ⟨c0, c1, c2⟩ := HM.out.at3t hkM
      generalize hMk : M[k] = x at c0 c1 c2
      clear hMk
      have f0 := HM.out.fr (k * 3)
      have f1 := HM.out.fr (k * 3 + 1)
      have HC := Hid.mk (HT.out (j + 3 * k + 2) (q + 1 + 1) (by omega) (by omega))
      have hq0 : 0 ≤ q := by omega
      have hq1 : q ≤ 8388608 := by omega
      have h1 := HM.out.stK hkM q
      have hk1 : k < (M.set k { M[k] with k := q }).length := by simpa using hkM
      have h2a := h1.stN hk1 (q + 1)
      have HM1 := Hid.mk h2a
      have HB1 := Hid.mk ((HB.out.set (o := k * 3) (.int .i64 q)).set (o := k * 3 + 1) (.int .i64 (q + 1)))
      obtain ⟨ms, hms⟩ : ∃ ms, mkS (j + 3 * k + 2) = ms := ⟨_, rfl⟩
      have HMK : Hid (mkTk (j + 3 * k) = ⟨q, q + 1, ms⟩) := by
        show _ = _
        unfold mkTk
        rw [hms, hq]
      rw [hms] at HC
      have HQ := Hid.mk hq
      rw [hq]
      have hk0 : 0 < n := by omega
      clear hms hq HM HB HT c2 h1 h2a
      go_wp2_with fail
      refine (HC.out _).mono ?_
      rintro e w2 ⟨rfl, hb2⟩
      have h2 := HM1.out.kept (hb2.block g HM1.out.lt)
      have HB2 := Hid.mk (HB1.out.trans (Mkd.below hb2))
      have hk2 : k < ((M.set k { M[k] with k := q }).set k { (M.set k { M[k] with k := q })[k] with n := q + 1 }).length := by simpa using hkM
      have h3 := h2.stS hk2 ms
      rw [set3k hkM q (q + 1) ms hk1 hk2, ← HMK.out, hMS] at h3
      have HF := Hid.mk h3
      obtain ⟨d0, d1, d2⟩ := h2.at3t hk2
      generalize hy : ((M.set k { M[k] with k := q }).set k { (M.set k { M[k] with k := q })[k] with n := q + 1 })[k] = y at d0 d1 d2
      have f2 := h2.fr (k * 3 + 2)
      have HG : Hid (Mkd g w (w2.setCell ⟨g, k * 3 + 2, none⟩ (.string ms))) := HB2.out.set _
      clear hy hb2 HM1 HB1 HC h2 h3 HB2 c0 c1 f0 f1 hMS hk1 hk2 hkM hml HMK
      go_wp2
      go_roundw
      case rel => exact ⟨k + 1, by omega, by go_num, by have := HQ.out; congr 1; omega, HF, HG⟩
      case measure => simp [intOf]; omega
    · have e : k = n := by omega
      subst e
      have HF := Hid.mk (HD.out wr (by rw [← HMA.out]; exact HM.out))
      have HG : Hid (w.grownBy wr (some g)) := ⟨HB.out.os, HB.out.tape, HB.out.output, HB.out.size, fun b hb' hne => HB.out.block b hb' (fun e => hne (by rw [e]))⟩
      clear HM HB HD HML HMS HMA HT
      go_wp2
      go_ret
      exact ⟨rfl, HF.out, HG.out⟩
end Go.Proofs.YtapcbblfcmdbnaaDoor
