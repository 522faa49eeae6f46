/- The words that are no names, the signs of two: as the program asks it and as the document's model does; names. -/
import Derived.Test.YtgigalcajgjpnaaGreatExName
import Derived.Test.YtgigalcajgjpnaaGreatCurStr
import Derived.Test.YtgigalcajgjpnaaGreatTokWordS
namespace Go.Proofs.YtgigalcajgjpnaaGreat
open Go.RowKit
set_option maxRecDepth 8000

theorem wd_yes {s : ByteArray} {l : List UInt8} (h : (s.toList == l) = true) (hl : wordsL.contains l = true) : wdB s = true := by
  unfold wdB
  rw [eq_of_beq h]
  exact hl
theorem op_yes {s : ByteArray} {l : List UInt8} (h : (s.toList == l) = true) (hl : opsL.contains l = true) : opB s = true := by
  unfold opB
  rw [eq_of_beq h]
  exact hl

set_option maxHeartbeats 4000000 in
theorem isWord_any (s : ByteArray) (w : World) : Calls Tryz.prog 78 #[.string s] w fun r w' => r = .returned (.bool (wdB s)) ∧ w' = w := by
  cases h0 : (s.toList == [98, 101, 103, 105, 110]) with
  | true =>
    have H := Hid.mk (wd_yes h0 rfl)
    go_enter Tryz.func78, Tryz.ntmps78
    go_wp2
    go_ret
    exact ⟨ret_tb H.out.symm, rfl⟩
  | false =>
  cases h1 : (s.toList == [101, 110, 100]) with
  | true =>
    have H := Hid.mk (wd_yes h1 rfl)
    go_enter Tryz.func78, Tryz.ntmps78
    go_wp2
    go_ret
    exact ⟨ret_tb H.out.symm, rfl⟩
  | false =>
  cases h2 : (s.toList == [102, 117, 110, 99]) with
  | true =>
    have H := Hid.mk (wd_yes h2 rfl)
    go_enter Tryz.func78, Tryz.ntmps78
    go_wp2
    go_ret
    exact ⟨ret_tb H.out.symm, rfl⟩
  | false =>
  cases h3 : (s.toList == [112, 114, 105, 110, 116]) with
  | true =>
    have H := Hid.mk (wd_yes h3 rfl)
    go_enter Tryz.func78, Tryz.ntmps78
    go_wp2
    go_ret
    exact ⟨ret_tb H.out.symm, rfl⟩
  | false =>
  cases h4 : (s.toList == [105, 102]) with
  | true =>
    have H := Hid.mk (wd_yes h4 rfl)
    go_enter Tryz.func78, Tryz.ntmps78
    go_wp2
    go_ret
    exact ⟨ret_tb H.out.symm, rfl⟩
  | false =>
  cases h5 : (s.toList == [101, 108, 115, 101]) with
  | true =>
    have H := Hid.mk (wd_yes h5 rfl)
    go_enter Tryz.func78, Tryz.ntmps78
    go_wp2
    go_ret
    exact ⟨ret_tb H.out.symm, rfl⟩
  | false =>
  cases h6 : (s.toList == [119, 104, 105, 108, 101]) with
  | true =>
    have H := Hid.mk (wd_yes h6 rfl)
    go_enter Tryz.func78, Tryz.ntmps78
    go_wp2
    go_ret
    exact ⟨ret_tb H.out.symm, rfl⟩
  | false =>
  cases h7 : (s.toList == [102, 111, 114]) with
  | true =>
    have H := Hid.mk (wd_yes h7 rfl)
    go_enter Tryz.func78, Tryz.ntmps78
    go_wp2
    go_ret
    exact ⟨ret_tb H.out.symm, rfl⟩
  | false =>
  cases h8 : (s.toList == [105, 110]) with
  | true =>
    have H := Hid.mk (wd_yes h8 rfl)
    go_enter Tryz.func78, Tryz.ntmps78
    go_wp2
    go_ret
    exact ⟨ret_tb H.out.symm, rfl⟩
  | false =>
  cases h9 : (s.toList == [110, 101, 120, 116]) with
  | true =>
    have H := Hid.mk (wd_yes h9 rfl)
    go_enter Tryz.func78, Tryz.ntmps78
    go_wp2
    go_ret
    exact ⟨ret_tb H.out.symm, rfl⟩
  | false =>
  cases h10 : (s.toList == [101, 120, 105, 116]) with
  | true =>
    have H := Hid.mk (wd_yes h10 rfl)
    go_enter Tryz.func78, Tryz.ntmps78
    go_wp2
    go_ret
    exact ⟨ret_tb H.out.symm, rfl⟩
  | false =>
  cases h11 : (s.toList == [114, 101, 116, 117, 114, 110]) with
  | true =>
    have H := Hid.mk (wd_yes h11 rfl)
    go_enter Tryz.func78, Tryz.ntmps78
    go_wp2
    go_ret
    exact ⟨ret_tb H.out.symm, rfl⟩
  | false =>
  cases h12 : (s.toList == [100, 101, 108, 101, 116, 101]) with
  | true =>
    have H := Hid.mk (wd_yes h12 rfl)
    go_enter Tryz.func78, Tryz.ntmps78
    go_wp2
    go_ret
    exact ⟨ret_tb H.out.symm, rfl⟩
  | false =>
  cases h13 : (s.toList == [108, 101, 110, 103, 116, 104]) with
  | true =>
    have H := Hid.mk (wd_yes h13 rfl)
    go_enter Tryz.func78, Tryz.ntmps78
    go_wp2
    go_ret
    exact ⟨ret_tb H.out.symm, rfl⟩
  | false =>
  cases h14 : (s.toList == [115, 117, 98, 115, 116, 114]) with
  | true =>
    have H := Hid.mk (wd_yes h14 rfl)
    go_enter Tryz.func78, Tryz.ntmps78
    go_wp2
    go_ret
    exact ⟨ret_tb H.out.symm, rfl⟩
  | false =>
  cases h15 : (s.toList == [105, 110, 100, 101, 120]) with
  | true =>
    have H := Hid.mk (wd_yes h15 rfl)
    go_enter Tryz.func78, Tryz.ntmps78
    go_wp2
    go_ret
    exact ⟨ret_tb H.out.symm, rfl⟩
  | false =>
  cases h16 : (s.toList == [117, 112, 112, 101, 114]) with
  | true =>
    have H := Hid.mk (wd_yes h16 rfl)
    go_enter Tryz.func78, Tryz.ntmps78
    go_wp2
    go_ret
    exact ⟨ret_tb H.out.symm, rfl⟩
  | false =>
  cases h17 : (s.toList == [103, 115, 117, 98]) with
  | true =>
    have H := Hid.mk (wd_yes h17 rfl)
    go_enter Tryz.func78, Tryz.ntmps78
    go_wp2
    go_ret
    exact ⟨ret_tb H.out.symm, rfl⟩
  | false =>
  cases h18 : (s.toList == [110, 114]) with
  | true =>
    have H := Hid.mk (wd_yes h18 rfl)
    go_enter Tryz.func78, Tryz.ntmps78
    go_wp2
    go_ret
    exact ⟨ret_tb H.out.symm, rfl⟩
  | false =>
  cases h19 : (s.toList == [110, 102]) with
  | true =>
    have H := Hid.mk (wd_yes h19 rfl)
    go_enter Tryz.func78, Tryz.ntmps78
    go_wp2
    go_ret
    exact ⟨ret_tb H.out.symm, rfl⟩
  | false =>
  have H : Hid (wdB s = false) := by
    show _ = _
    unfold wdB wordsL
    simp only [List.contains, List.elem, h0, h1, h2, h3, h4, h5, h6, h7, h8, h9, h10, h11, h12, h13, h14, h15, h16, h17, h18, h19]
  go_enter Tryz.func78, Tryz.ntmps78
  go_wp2
  go_ret
  exact ⟨ret_tb H.out.symm, rfl⟩

set_option maxHeartbeats 4000000 in
theorem isSignOfTwo_any (s : ByteArray) (w : World) : Calls Tryz.prog 199 #[.string s] w fun r w' => r = .returned (.bool (opB s)) ∧ w' = w := by
  cases h0 : (s.toList == [43]) with
  | true =>
    have H := Hid.mk (op_yes h0 rfl)
    go_enter Tryz.func199, Tryz.ntmps199
    go_wp2
    go_ret
    exact ⟨ret_tb H.out.symm, rfl⟩
  | false =>
  cases h1 : (s.toList == [45]) with
  | true =>
    have H := Hid.mk (op_yes h1 rfl)
    go_enter Tryz.func199, Tryz.ntmps199
    go_wp2
    go_ret
    exact ⟨ret_tb H.out.symm, rfl⟩
  | false =>
  cases h2 : (s.toList == [42]) with
  | true =>
    have H := Hid.mk (op_yes h2 rfl)
    go_enter Tryz.func199, Tryz.ntmps199
    go_wp2
    go_ret
    exact ⟨ret_tb H.out.symm, rfl⟩
  | false =>
  cases h3 : (s.toList == [47]) with
  | true =>
    have H := Hid.mk (op_yes h3 rfl)
    go_enter Tryz.func199, Tryz.ntmps199
    go_wp2
    go_ret
    exact ⟨ret_tb H.out.symm, rfl⟩
  | false =>
  cases h4 : (s.toList == [37]) with
  | true =>
    have H := Hid.mk (op_yes h4 rfl)
    go_enter Tryz.func199, Tryz.ntmps199
    go_wp2
    go_ret
    exact ⟨ret_tb H.out.symm, rfl⟩
  | false =>
  cases h5 : (s.toList == [46]) with
  | true =>
    have H := Hid.mk (op_yes h5 rfl)
    go_enter Tryz.func199, Tryz.ntmps199
    go_wp2
    go_ret
    exact ⟨ret_tb H.out.symm, rfl⟩
  | false =>
  cases h6 : (s.toList == [60]) with
  | true =>
    have H := Hid.mk (op_yes h6 rfl)
    go_enter Tryz.func199, Tryz.ntmps199
    go_wp2
    go_ret
    exact ⟨ret_tb H.out.symm, rfl⟩
  | false =>
  cases h7 : (s.toList == [60, 61]) with
  | true =>
    have H := Hid.mk (op_yes h7 rfl)
    go_enter Tryz.func199, Tryz.ntmps199
    go_wp2
    go_ret
    exact ⟨ret_tb H.out.symm, rfl⟩
  | false =>
  cases h8 : (s.toList == [61, 61]) with
  | true =>
    have H := Hid.mk (op_yes h8 rfl)
    go_enter Tryz.func199, Tryz.ntmps199
    go_wp2
    go_ret
    exact ⟨ret_tb H.out.symm, rfl⟩
  | false =>
  cases h9 : (s.toList == [33, 61]) with
  | true =>
    have H := Hid.mk (op_yes h9 rfl)
    go_enter Tryz.func199, Tryz.ntmps199
    go_wp2
    go_ret
    exact ⟨ret_tb H.out.symm, rfl⟩
  | false =>
  cases h10 : (s.toList == [62]) with
  | true =>
    have H := Hid.mk (op_yes h10 rfl)
    go_enter Tryz.func199, Tryz.ntmps199
    go_wp2
    go_ret
    exact ⟨ret_tb H.out.symm, rfl⟩
  | false =>
  cases h11 : (s.toList == [62, 61]) with
  | true =>
    have H := Hid.mk (op_yes h11 rfl)
    go_enter Tryz.func199, Tryz.ntmps199
    go_wp2
    go_ret
    exact ⟨ret_tb H.out.symm, rfl⟩
  | false =>
  cases h12 : (s.toList == [38, 38]) with
  | true =>
    have H := Hid.mk (op_yes h12 rfl)
    go_enter Tryz.func199, Tryz.ntmps199
    go_wp2
    go_ret
    exact ⟨ret_tb H.out.symm, rfl⟩
  | false =>
  cases h13 : (s.toList == [124, 124]) with
  | true =>
    have H := Hid.mk (op_yes h13 rfl)
    go_enter Tryz.func199, Tryz.ntmps199
    go_wp2
    go_ret
    exact ⟨ret_tb H.out.symm, rfl⟩
  | false =>
  have H : Hid (opB s = false) := by
    show _ = _
    unfold opB opsL
    simp only [List.contains, List.elem, h0, h1, h2, h3, h4, h5, h6, h7, h8, h9, h10, h11, h12, h13]
  go_enter Tryz.func199, Tryz.ntmps199
  go_wp2
  go_ret
  exact ⟨ret_tb H.out.symm, rfl⟩

/-- One of a row of texts is this one. -/
def hasB (xs : List ByteArray) (s : ByteArray) : Bool := xs.any fun x => x.toList == s.toList
theorem hasB_yes {xs : List ByteArray} {s : ByteArray} {k : Nat} (h : k < xs.length) (hk : (xs[k].toList == s.toList) = true) : hasB xs s = true := List.any_eq_true.2 ⟨_, List.getElem_mem h, hk⟩
theorem hasB_no {xs : List ByteArray} {s : ByteArray} (h : ∀ j (hj : j < xs.length), (xs[j].toList == s.toList) = false) : hasB xs s = false := by
  unfold hasB
  rw [List.any_eq_false]
  intro x hx
  obtain ⟨j, hj, rfl⟩ := List.getElem_of_mem hx
  rw [h j hj]
  simp
def wordsS : List ByteArray := [⟨#[98, 101, 103, 105, 110]⟩, ⟨#[101, 110, 100]⟩, ⟨#[102, 117, 110, 99]⟩, ⟨#[112, 114, 105, 110, 116]⟩, ⟨#[105, 102]⟩, ⟨#[101, 108, 115, 101]⟩, ⟨#[119, 104, 105, 108, 101]⟩, ⟨#[102, 111, 114]⟩, ⟨#[105, 110]⟩, ⟨#[110, 101, 120, 116]⟩, ⟨#[101, 120, 105, 116]⟩, ⟨#[114, 101, 116, 117, 114, 110]⟩, ⟨#[100, 101, 108, 101, 116, 101]⟩, ⟨#[108, 101, 110, 103, 116, 104]⟩, ⟨#[115, 117, 98, 115, 116, 114]⟩, ⟨#[105, 110, 100, 101, 120]⟩, ⟨#[117, 112, 112, 101, 114]⟩, ⟨#[103, 115, 117, 98]⟩, ⟨#[110, 114]⟩, ⟨#[110, 102]⟩]
def opsS : List ByteArray := [⟨#[43]⟩, ⟨#[45]⟩, ⟨#[42]⟩, ⟨#[47]⟩, ⟨#[37]⟩, ⟨#[46]⟩, ⟨#[60]⟩, ⟨#[60, 61]⟩, ⟨#[61, 61]⟩, ⟨#[33, 61]⟩, ⟨#[62]⟩, ⟨#[62, 61]⟩, ⟨#[38, 38]⟩, ⟨#[124, 124]⟩]
theorem hasB_map (xs : List ByteArray) (s : ByteArray) : hasB xs s = (xs.map fun x => x.toList).contains s.toList := by
  unfold hasB
  induction xs with
  | nil => rfl
  | cons x r ih =>
    rw [List.any_cons, ih, List.map_cons, List.contains_cons]
    congr 1
    exact Bool.eq_iff_iff.2 (by simp only [beq_iff_eq]; exact eq_comm)
theorem words_has (s : ByteArray) : hasB wordsS s = wdB s := by
  rw [hasB_map]
  have e : wordsS.map (fun x => x.toList) = wordsL := by simp only [wordsS, wordsL, List.map_cons, List.map_nil, ByteArray.toList_eq]
  rw [e]
  rfl
theorem ops_has (s : ByteArray) : hasB opsS s = opB s := by
  rw [hasB_map]
  have e : opsS.map (fun x => x.toList) = opsL := by simp only [opsS, opsL, List.map_cons, List.map_nil, ByteArray.toList_eq]
  rw [e]
  rfl

set_option maxHeartbeats 1000000 in
theorem l8Has_any (xs : List ByteArray) (lb n : Nat) (s : ByteArray) (w : World) (hx : Strs w lb xs) (hn : n = xs.length) (hbig : n ≤ 1000) :
    Calls Tryz.prog 38 #[.slice (some ⟨lb, 0, none⟩) n n, .string s] w fun e w' => e = .returned (.bool (hasB xs s)) ∧ w' = w := by
  have HC : Hid (∀ k (h : k < xs.length), w.cell? ⟨lb, k, none⟩ = some (.string xs[k])) := fun k h => by
    rw [cell_of_row w lb k _ _ (0, 0) hx, List.getElem?_toArray, List.getElem?_map, List.getElem?_eq_getElem h]
    rfl
  have HY := Hid.mk (fun k h hk => hasB_yes (xs := xs) (s := s) (k := k) h hk)
  have HN := Hid.mk (fun h => hasB_no (xs := xs) (s := s) h)
  have HL := Hid.mk hn
  obtain ⟨R, hR⟩ : ∃ R, hasB xs s = R := ⟨_, rfl⟩
  rw [hR] at HY HN ⊢
  clear hR hx hn
  go_enter Tryz.func38, Tryz.ntmps38
  go_wp2
  go_loop [5] (fun i => ∃ k : Nat, i = .int .i64 k ∧ k ≤ n ∧ Hid (∀ j (hj : j < xs.length), j < k → (xs[j].toList == s.toList) = false)) (fun i => n - (intOf i).toNat)
  case atStart => exact ⟨0, rfl, Nat.zero_le _, fun j _ hj => by omega⟩
  case round =>
    obtain ⟨k, rfl, hk, HA⟩ := hrel
    by_cases hlt : k < n
    · have hki : (k : Int) < (n : Int) := by omega
      have hkx : k < xs.length := by have := HL.out; omega
      have c0 := HC.out k hkx
      cases h : (xs[k].toList == s.toList) with
      | true =>
        have HF := Hid.mk (HY.out k hkx h)
        generalize xs[k] = x at c0 h
        clear HA HY HN
        go_wp2
        go_ret
        exact ⟨ret_tb HF.out.symm, rfl⟩
      | false =>
        have HA2 : Hid (∀ j (hj : j < xs.length), j < k + 1 → (xs[j].toList == s.toList) = false) := fun j hj hj1 => by
          by_cases e : j = k
          · subst e; exact h
          · exact HA.out j hj (by omega)
        generalize xs[k] = x at c0 h
        clear HA HY HN
        go_wp2
        go_round
        case rel => exact ⟨k + 1, by go_num, by omega, HA2⟩
        case measure => simp [intOf]; omega
    · have HF := Hid.mk (HN.out fun j hj => HA.out j hj (by have := HL.out; omega))
      have hki : ¬ (k : Int) < (n : Int) := by omega
      clear HA HY HN
      go_wp2
      go_ret
      exact ⟨ret_tb HF.out.symm, rfl⟩

set_option maxHeartbeats 1000000 in
theorem l8Words_any (w : World) : Calls Tryz.prog 39 #[] w fun e w' => e = .returned (.slice (some ⟨w.heap.size, 0, none⟩) 20 20) ∧ Strs w' w.heap.size wordsS ∧ Below w.heap.size w w' := by
  go_enter Tryz.func39, Tryz.ntmps39
  go_wp2
  go_ret
  exact ⟨rfl, heap_alloc_new _ _, (Below.refl _ _).alloc (Nat.le_refl _) _⟩

set_option maxHeartbeats 1000000 in
theorem l8Ops_any (w : World) : Calls Tryz.prog 111 #[] w fun e w' => e = .returned (.slice (some ⟨w.heap.size, 0, none⟩) 14 14) ∧ Strs w' w.heap.size opsS ∧ Below w.heap.size w w' := by
  go_enter Tryz.func111, Tryz.ntmps111
  go_wp2
  go_ret
  exact ⟨rfl, heap_alloc_new _ _, (Below.refl _ _).alloc (Nat.le_refl _) _⟩

theorem implNameOk_any (s : ByteArray) (w : World) (hs : s.size ≤ maxLen) : Calls Tryz.prog 46 #[.string s] w fun e w' => e = .returned (.bool (nmB s)) ∧ w' = w := by
  have HN := Hid.mk (fun w => isName_any s w hs)
  have HW := Hid.mk (fun w => isWord_any s w)
  have HR : Hid (nmB s = (nameB s && !wdB s)) := rfl
  generalize nmB s = R at *
  generalize nameB s = a at *
  generalize wdB s = b at *
  clear hs
  cases a with
  | false =>
    go_enter Tryz.func46, Tryz.ntmps46
    go_wp2_with fail
    refine (HN.out _).mono ?_
    rintro e w' ⟨rfl, rfl⟩
    go_wp2
    go_ret
    exact ⟨ret_tb (HR.out.trans rfl).symm, rfl⟩
  | true =>
    go_enter Tryz.func46, Tryz.ntmps46
    go_wp2_with fail
    refine (HN.out _).mono ?_
    rintro e w' ⟨rfl, rfl⟩
    go_wp2_with fail
    refine (HW.out _).mono ?_
    rintro e w' ⟨rfl, rfl⟩
    go_wp2
    go_ret
    exact ⟨ret_tb (HR.out.trans (by simp)).symm, rfl⟩

theorem specNameOk_any (s : ByteArray) (w : World) (hs : s.size ≤ maxLen) : Calls Tryz.prog 15 #[.string s] w fun e w' => e = .returned (.bool (nmB s)) ∧ Below w.heap.size w w' := by
  have HN := Hid.mk (fun w => l7Word_any s w hs)
  have HH := Hid.mk (fun w' (h : Strs w' w.heap.size wordsS) => l8Has_any wordsS w.heap.size 20 s w' h rfl (by omega))
  have HR : Hid (nmB s = (nameB s && !wdB s)) := rfl
  have RB : Below w.heap.size w w := Below.refl _ _
  rw [words_has] at HH
  generalize nmB s = R at *
  generalize nameB s = a at *
  generalize wdB s = b at *
  clear hs
  cases a with
  | false =>
    go_enter Tryz.func15, Tryz.ntmps15
    go_wp2_with fail
    refine (HN.out _).mono ?_
    rintro e w' ⟨rfl, rfl⟩
    go_wp2
    go_ret
    exact ⟨ret_tb (HR.out.trans rfl).symm, RB⟩
  | true =>
    go_enter Tryz.func15, Tryz.ntmps15
    go_wp2_with fail
    refine (HN.out _).mono ?_
    rintro e w' ⟨rfl, hw⟩
    subst hw
    go_wp2_with fail
    refine (l8Words_any _).mono ?_
    rintro e w2 ⟨rfl, hs2, hb2⟩
    have HS2 := Hid.mk hs2
    have HB2 := Hid.mk hb2
    clear hs2 hb2
    go_wp2_with fail
    refine (HH.out _ HS2.out).mono ?_
    rintro e w3 ⟨rfl, rfl⟩
    go_wp2
    go_ret
    exact ⟨ret_tb (HR.out.trans (by simp)).symm, HB2.out⟩
end Go.Proofs.YtgigalcajgjpnaaGreat
