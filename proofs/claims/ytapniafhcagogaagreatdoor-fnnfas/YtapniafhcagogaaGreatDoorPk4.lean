/- The program's array of nodes: where they lie, and what lays one. The program's array of nodes: a node that goes on behind itself, and a fork. The program's layPart: the contract; the parts of one node, and of none. The program's layPart: the parts of one part. The program's layPart: one behind the other, and as often as may be. One or the other: the nodes that wait for where they go on, and the pointers to them. The program's layChoices: one or the other. -/
import Derived.Test.YtapniafhcagogaaGreatDoorPk3
import Derived.Test.YtapniafhcagogaaGreatDoorPk2
import Derived.Test.YtapniafhcagogaaGreatDoorNfaLay
import Derived.Test.YtapniafhcagogaaGreatDoorTxtClone
import Derived.Test.YtapniafhcagogaaGreatDoorNfaLen
import Derived.Test.YtapniafhcagogaaGreatDoorRexBox
namespace Go.Proofs.YtapniafhcagogaaGreatDoor
open Go.RowKit
set_option maxRecDepth 8000

/-- The nodes, and the room behind them. -/
def padN (N : List Nd) : List Nd := N ++ List.replicate (300 - N.length) nd0
theorem padN_len {N : List Nd} (h : N.length ≤ 300) : (padN N).length = 300 := by simp [padN]; omega
/-- The cells of the array. -/
def arC (N : List Nd) : List Value := ndCells (padN N) ++ [.int .i64 (N.length : Int)]
/-- The block g is an array with these nodes. -/
def AB (w : World) (g : Nat) (N : List Nd) : Prop := w.heap[g]? = some (.cells (arC N).toArray 46 (0, 0)) ∧ N.length ≤ 300
theorem AB.lt {w : World} {g : Nat} {N : List Nd} (h : AB w g N) : g < w.heap.size := (Array.getElem?_eq_some_iff.1 h.1).1
theorem AB.kept {w w' : World} {g : Nat} {N : List Nd} (h : AB w g N) (hh : w'.heap[g]? = w.heap[g]?) : AB w' g N := ⟨by rw [hh]; exact h.1, h.2⟩
theorem AB.grow {w w' : World} {g : Nat} {N : List Nd} (h : AB w g N) (hb : Below w.heap.size w w') : AB w' g N := h.kept (hb.block g h.lt)
theorem AB.cnt {w : World} {g : Nat} {N : List Nd} (h : AB w g N) : w.cell? ⟨g, 1200, none⟩ = some (.int .i64 (N.length : Int)) := by
  rw [cell_of_row w g _ _ _ (0, 0) h.1, List.getElem?_toArray]
  unfold arC
  rw [List.getElem?_append_right (by rw [ndCells_len, padN_len h.2]; omega), ndCells_len, padN_len h.2]
  rfl
theorem AB.fr {w : World} {g : Nat} {N : List Nd} (h : AB w g N) (o : Nat) : w.frozen? ⟨g, o, none⟩ = false := frozen_of_row w g o _ _ h.1
theorem pad_set {N : List Nd} {i : Nat} (h : i < N.length) (x : Nd) : (padN N).set i x = padN (N.set i x) := by
  unfold padN
  rw [List.set_append_left _ _ h, List.length_set]
theorem pad_get {N : List Nd} {i : Nat} (h : i < N.length) (h' : i < (padN N).length) : (padN N)[i] = N[i] := by
  rw [List.getElem_of_eq (show padN N = N ++ List.replicate (300 - N.length) nd0 from rfl) h', List.getElem_append_left h]
theorem pad_next {N : List Nd} (h : N.length < 300) (x : Nd) : (padN N).set N.length x = padN (N ++ [x]) := by
  unfold padN
  rw [List.set_append_right _ _ (Nat.le_refl _), Nat.sub_self, List.length_append, List.length_singleton, show 300 - N.length = 300 - (N.length + 1) + 1 by omega, List.replicate_succ, List.set_cons_zero, List.append_assoc]
  rfl
theorem pad_room {N : List Nd} (h' : N.length < (padN N).length) : (padN N)[N.length] = nd0 := by
  rw [List.getElem_of_eq (show padN N = N ++ List.replicate (300 - N.length) nd0 from rfl) h', List.getElem_append_right (Nat.le_refl _), List.getElem_replicate]
theorem AB.at4p {w : World} {g : Nat} {N : List Nd} (h : AB w g N) {i : Nat} (hi : i < (padN N).length) : At4 w g (i * 4) (padN N)[i] := by
  obtain ⟨h0, h1, h2, h3⟩ := ndCells_get (padN N) i hi
  have hc := ndCells_len (padN N)
  have e : ∀ o, o < (ndCells (padN N)).length → (arC N)[o]? = (ndCells (padN N))[o]? := fun o ho => List.getElem?_append_left ho
  refine ⟨?_, ?_, ?_, ?_⟩ <;> rw [cell_of_row w g _ _ _ (0, 0) h.1, List.getElem?_toArray, e _ (by rw [hc]; omega)]
  · exact h0
  · exact h1
  · exact h2
  · exact h3
theorem AB.at4 {w : World} {g : Nat} {N : List Nd} (h : AB w g N) {i : Nat} (hi : i < N.length) : At4 w g (i * 4) N[i] := by
  have := h.at4p (i := i) (by rw [padN_len h.2]; have := h.2; omega)
  rwa [pad_get hi] at this
theorem AB.room {w : World} {g : Nat} {N : List Nd} (h : AB w g N) (hN : N.length < 300) : At4 w g (N.length * 4) nd0 := by
  have := h.at4p (i := N.length) (by rw [padN_len h.2]; exact hN)
  rwa [pad_room] at this
theorem arC_set {N : List Nd} (h : N.length ≤ 300) (o : Nat) (ho : o < 1200) (v : Value) : (arC N).set o v = (ndCells (padN N)).set o v ++ [.int .i64 (N.length : Int)] := by
  unfold arC
  rw [List.set_append_left _ _ (by rw [ndCells_len, padN_len h]; omega)]
theorem AB.setA {w : World} {g : Nat} {N : List Nd} (h : AB w g N) {i : Nat} (hi : i < N.length) (x : Int) : AB (w.setCell ⟨g, i * 4 + 2, none⟩ (.int .i64 x)) g (N.set i { N[i] with a := x }) := by
  have h3 := h.2
  have hl := padN_len h.2
  refine ⟨?_, by simpa using h.2⟩
  rw [heap_setCell_same w g (i * 4 + 2) _ _ _ h.1, List.setIfInBounds_toArray, arC_set h.2 _ (by omega), ndCells_a (padN N) i x (by omega), pad_get hi, pad_set hi]
  unfold arC
  rw [List.length_set]
theorem AB.setB {w : World} {g : Nat} {N : List Nd} (h : AB w g N) {i : Nat} (hi : i < N.length) (x : Int) : AB (w.setCell ⟨g, i * 4 + 3, none⟩ (.int .i64 x)) g (N.set i { N[i] with b := x }) := by
  have h3 := h.2
  have hl := padN_len h.2
  refine ⟨?_, by simpa using h.2⟩
  rw [heap_setCell_same w g (i * 4 + 3) _ _ _ h.1, List.setIfInBounds_toArray, arC_set h.2 _ (by omega), ndCells_b (padN N) i x (by omega), pad_get hi, pad_set hi]
  unfold arC
  rw [List.length_set]
theorem AB.setS {w : World} {g : Nat} {N : List Nd} (h : AB w g N) {i : Nat} (hi : i < N.length) (x : ByteArray) : AB (w.setCell ⟨g, i * 4 + 1, none⟩ (.string x)) g (N.set i { N[i] with s := x }) := by
  have h3 := h.2
  have hl := padN_len h.2
  refine ⟨?_, by simpa using h.2⟩
  rw [heap_setCell_same w g (i * 4 + 1) _ _ _ h.1, List.setIfInBounds_toArray, arC_set h.2 _ (by omega), ndCells_s (padN N) i x (by omega), pad_get hi, pad_set hi]
  unfold arC
  rw [List.length_set]
theorem AB.next {w : World} {g : Nat} {N : List Nd} (h : AB w g N) (hN : N.length < 300) (k : Int) : AB ((w.setCell ⟨g, N.length * 4, none⟩ (.int .i64 k)).setCell ⟨g, 1200, none⟩ (.int .i64 ((N.length : Int) + 1))) g (N ++ [⟨k, ⟨#[]⟩, 0, 0⟩]) := by
  have hl := padN_len h.2
  refine ⟨?_, by simp; omega⟩
  have h1 := heap_setCell_same w g (N.length * 4) _ _ (.int .i64 k) h.1
  rw [heap_setCell_same _ g 1200 _ _ (.int .i64 ((N.length : Int) + 1)) h1, List.setIfInBounds_toArray, List.setIfInBounds_toArray, arC_set h.2 _ (by omega), ndCells_k (padN N) N.length k (by omega), pad_room, pad_next hN]
  have hc : (ndCells (padN (N ++ [⟨k, ⟨#[]⟩, 0, 0⟩]))).length = 1200 := by rw [ndCells_len, padN_len (by simp; omega)]
  unfold arC
  rw [List.set_append_right _ _ (by show (ndCells (padN (N ++ [⟨k, ⟨#[]⟩, 0, 0⟩]))).length ≤ 1200; rw [hc]; exact Nat.le_refl _)]
  show some (Obj.cells (ndCells (padN (N ++ [⟨k, ⟨#[]⟩, 0, 0⟩])) ++ [Value.int IntKind.i64 (N.length : Int)].set (1200 - (ndCells (padN (N ++ [⟨k, ⟨#[]⟩, 0, 0⟩]))).length) _).toArray _ _) = _
  rw [hc]
  simp

set_option maxHeartbeats 1000000 in
theorem arrLay_any (N : List Nd) (g : Nat) (k : Int) (w : World) (h : AB w g N) (hN : N.length < 300) :
    Calls Tryz.prog 17 #[.pointer (some ⟨g, 0, none⟩), .int .i64 k] w fun e w' => e = .returned (.pointer (some ⟨g, N.length * 4, none⟩)) ∧ AB w' g (N ++ [⟨k, ⟨#[]⟩, 0, 0⟩]) ∧ Mkd g w w' := by
  have c := h.cnt
  obtain ⟨c0, -, -, -⟩ := h.room hN
  have f0 := h.fr (N.length * 4)
  have f1 := h.fr 1200
  have HA := Hid.mk h
  clear h
  go_enter Tryz.func17, Tryz.ntmps17
  go_wp2
  go_quiet (fail)
  go_wp2
  go_ret
  exact ⟨rfl, (HA.out.grow (Below.drewSelf _ _ _)).next hN k, (((Mkd.below (Below.drewSelf _ _ _)).set _).set _)⟩
end Go.Proofs.YtapniafhcagogaaGreatDoor

namespace Go.Proofs.YtapniafhcagogaaGreatDoor
open Go.RowKit
set_option maxRecDepth 8000

theorem set_last {N : List Nd} {x y : Nd} : (N ++ [x]).set N.length y = N ++ [y] := by
  rw [List.set_append_right _ _ (Nat.le_refl _), Nat.sub_self]
  rfl
theorem get_last {N : List Nd} {x : Nd} (h : N.length < (N ++ [x]).length) : (N ++ [x])[N.length] = x := by simp

set_option maxHeartbeats 1000000 in
theorem arrFork_any (N : List Nd) (g : Nat) (w : World) (h : AB w g N) (hN : N.length < 300) :
    Calls Tryz.prog 39 #[.pointer (some ⟨g, 0, none⟩)] w fun e w' => e = .returned (.pointer (some ⟨g, N.length * 4, none⟩)) ∧ AB w' g (N ++ [⟨4, ⟨#[]⟩, (N.length : Int) + 1, 0⟩]) ∧ Mkd g w w' := by
  have HL := Hid.mk (arrLay_any N g 4 w h hN)
  clear h
  go_enter Tryz.func39, Tryz.ntmps39
  go_wp2_with fail
  refine HL.out.mono ?_
  rintro e w1 ⟨rfl, h1, m1⟩
  have c := h1.cnt
  have hl : (N ++ [(⟨4, ⟨#[]⟩, 0, 0⟩ : Nd)]).length = N.length + 1 := by simp
  rw [hl] at c
  have hlt : N.length < (N ++ [(⟨4, ⟨#[]⟩, 0, 0⟩ : Nd)]).length := by rw [hl]; omega
  obtain ⟨c0, c1, c2, c3⟩ := h1.at4 (i := N.length) hlt
  rw [get_last hlt] at c0 c1 c2 c3
  have f2 := h1.fr (N.length * 4 + 2)
  have HS : Hid (AB (w1.setCell ⟨g, N.length * 4 + 2, none⟩ (.int .i64 ((N.length : Int) + 1))) g (N ++ [⟨4, ⟨#[]⟩, (N.length : Int) + 1, 0⟩])) := by
    have := h1.setA (i := N.length) hlt ((N.length : Int) + 1)
    rw [get_last hlt, set_last] at this
    exact this
  have HM := Hid.mk (m1.set (o := N.length * 4 + 2) (.int .i64 ((N.length : Int) + 1)))
  clear h1 m1 HL c0 c1 c3 hl hlt
  go_wp2
  go_ret
  exact ⟨rfl, HS.out, HM.out⟩

set_option maxHeartbeats 1000000 in
theorem arrSingle_any (N : List Nd) (g : Nat) (k : Int) (s : ByteArray) (w : World) (h : AB w g N) (hN : N.length < 300) (hs : s.size ≤ 1048576) :
    Calls Tryz.prog 36 #[.pointer (some ⟨g, 0, none⟩), .int .i64 k, .string s] w fun e w' => (∃ x, e = .returned x) ∧ AB w' g (N ++ [⟨k, s, (N.length : Int) + 1, 0⟩]) ∧ Mkd g w w' := by
  have HL := Hid.mk (arrLay_any N g k w h hN)
  clear h
  go_enter Tryz.func36, Tryz.ntmps36
  go_wp2_with fail
  refine HL.out.mono ?_
  rintro e w1 ⟨rfl, h1, m1⟩
  clear HL
  have hlen : (N ++ [(⟨k, ⟨#[]⟩, 0, 0⟩ : Nd)]).length = N.length + 1 := by simp
  have hlt : N.length < (N ++ [(⟨k, ⟨#[]⟩, 0, 0⟩ : Nd)]).length := by rw [hlen]; omega
  have cn := h1.cnt
  rw [hlen] at cn
  have cn' : w1.drew.cell? ⟨g, 1200, none⟩ = some (.int .i64 ((N.length : Int) + 1)) := by simpa using cn
  have HS : Hid (∀ w', AB w' g (N ++ [⟨k, ⟨#[]⟩, 0, 0⟩]) → AB (w'.setCell ⟨g, N.length * 4 + 1, none⟩ (.string s)) g (N ++ [⟨k, s, 0, 0⟩])) := fun w' h => by
    have := h.setS (i := N.length) hlt s
    rw [get_last hlt, set_last] at this
    exact this
  have hlen2 : (N ++ [(⟨k, s, 0, 0⟩ : Nd)]).length = N.length + 1 := by simp
  have hlt2 : N.length < (N ++ [(⟨k, s, 0, 0⟩ : Nd)]).length := by rw [hlen2]; omega
  have HA : Hid (∀ w', AB w' g (N ++ [⟨k, s, 0, 0⟩]) → AB (w'.setCell ⟨g, N.length * 4 + 2, none⟩ (.int .i64 ((N.length : Int) + 1))) g (N ++ [⟨k, s, (N.length : Int) + 1, 0⟩])) := fun w' h => by
    have := h.setA (i := N.length) hlt2 ((N.length : Int) + 1)
    rw [get_last hlt2, set_last] at this
    exact this
  have h1d := h1.grow (Below.drewSelf w1.heap.size w1 1)
  have hc := clone_any s w1.drew hs
  obtain ⟨S, hS⟩ : ∃ S : World → Prop, ∀ w', S w' ↔ (Mkd g w1 w' ∧ w'.cell? ⟨g, 1200, none⟩ = some (.int .i64 ((N.length : Int) + 1))) := ⟨_, fun _ => Iff.rfl⟩
  have S0 : S w1.drew := (hS _).2 ⟨Mkd.below (Below.drewSelf _ _ 1), cn'⟩
  go_wp2_with fail
  refine wp_region_held_drew (S := S) (by kernel_rfl) S0 (fun _ => ?_)
  refine takeHD (i := 0) (v := .pointer (some ⟨g, N.length * 4, none⟩)) (some 10) rfl rfl (by kernel_rfl) (by kernel_rfl) (by kernel_rfl) (fun _ _ _ h => h) (Or.inl ⟨by kernel_rfl, fun w' hw => ?_⟩) S0 ?_
  · kernel_rfl
  simp only [Act.put, List.setIfInBounds_toArray]
  refine takeHD (i := 1) (v := .pointer (some ⟨g, N.length * 4, none⟩)) (some 11) rfl rfl (by kernel_rfl) (by kernel_rfl) (by kernel_rfl) (fun _ _ _ h => h) (Or.inl ⟨by kernel_rfl, fun w' hw => ?_⟩) S0 ?_
  · kernel_rfl
  simp only [Act.put, List.setIfInBounds_toArray]
  refine takeHD (i := 2) (v := .string s) (some 12) rfl rfl (by kernel_rfl) (by kernel_rfl) (by kernel_rfl) (fun _ _ _ h => h) (Or.inl ⟨by kernel_rfl, fun w' hw => ?_⟩) S0 ?_
  · kernel_rfl
  simp only [Act.put, List.setIfInBounds_toArray]
  refine takeHD (i := 4) (v := .pointer (some ⟨g, 0, none⟩)) (some 14) rfl rfl (by kernel_rfl) (by kernel_rfl) (by kernel_rfl) (fun _ _ _ h => h) (Or.inl ⟨by kernel_rfl, fun w' hw => ?_⟩) S0 ?_
  · kernel_rfl
  simp only [Act.put, List.setIfInBounds_toArray]
  refine takeHD (i := 5) (v := .pointer (some ⟨g, 0, none⟩)) (some 15) rfl rfl (by kernel_rfl) (by kernel_rfl) (by kernel_rfl) (fun _ _ _ h => h) (Or.inl ⟨by kernel_rfl, fun w' hw => ?_⟩) S0 ?_
  · kernel_rfl
  simp only [Act.put, List.setIfInBounds_toArray]
  refine takeHD (i := 6) (v := .pointer (some ⟨g, 1200, none⟩)) (some 16) rfl rfl (by kernel_rfl) (by kernel_rfl) (by kernel_rfl) (fun _ _ _ h => h) (Or.inl ⟨by kernel_rfl, fun w' hw => ?_⟩) S0 ?_
  · kernel_rfl
  simp only [Act.put, List.setIfInBounds_toArray]
  refine takeHD (i := 7) (v := .int .i64 ((N.length : Int) + 1)) (some 17) rfl rfl (by kernel_rfl) (by kernel_rfl) (by kernel_rfl) (fun _ _ _ h => h) (Or.inl ⟨by kernel_rfl, fun w' hw => ?_⟩) S0 ?_
  · have y := ((hS _).1 hw).2; go_simp
  simp only [Act.put, List.setIfInBounds_toArray]
  refine wpAnyH_ready (rs := [3]) (by kernel_rfl) (by simp) ?_
  refine AllReadyH.cons rfl (fun K hK => ?_) AllReadyH.nil
  rw [if_pos (by kernel_rfl)]
  go_wp2_with fail
  refine hc.mono ?_
  rintro e w2 ⟨rfl, hb2⟩
  have h2 := h1d.grow hb2
  have S2 : S w2 := (hS _).2 ⟨(Mkd.below (Below.drewSelf _ _ 1)).trans (Mkd.below hb2), by rw [hb2.cell (p := ⟨g, 1200, none⟩) h1d.lt]; exact cn'⟩
  refine hK.out _ _ S2 (fun _ => ?_)
  clear hK K
  refine takeHD (i := 8) (v := .pointer (some ⟨g, N.length * 4, none⟩)) (some 18) rfl rfl (by kernel_rfl) (by kernel_rfl) (by kernel_rfl) (fun _ _ _ h => h) (Or.inl ⟨by kernel_rfl, fun w' hw => ?_⟩) S2 ?_
  · kernel_rfl
  simp only [Act.put, List.setIfInBounds_toArray]
  refine takeHD (i := 9) (v := .pointer (some ⟨g, N.length * 4 + 1, none⟩)) (some 19) rfl rfl (by kernel_rfl) (by kernel_rfl) (by kernel_rfl) (fun _ _ _ h => h) (Or.inl ⟨by kernel_rfl, fun w' hw => ?_⟩) S2 ?_
  · kernel_rfl
  simp only [Act.put, List.setIfInBounds_toArray]
  obtain ⟨e0, e1, e2, e3⟩ := h2.at4 (i := N.length) hlt
  have f1 := h2.fr (N.length * 4 + 1)
  refine wpAnyH_ready (rs := [10]) (by kernel_rfl) (by simp) ?_
  refine AllReadyH.cons rfl (fun K hK => ?_) AllReadyH.nil
  rw [if_pos (by kernel_rfl)]
  go_wp2_with fail
  have h3 := HS.out _ h2
  have S3 : S (w2.setCell ⟨g, N.length * 4 + 1, none⟩ (.string s)) := (hS _).2 ⟨((hS _).1 S2).1.set _, by rw [h3.cnt, hlen2]; rfl⟩
  refine hK.out _ _ S3 (fun _ => ?_)
  clear hK K
  refine takeHD (i := 11) (v := .pointer (some ⟨g, N.length * 4, none⟩)) (some 20) rfl rfl (by kernel_rfl) (by kernel_rfl) (by kernel_rfl) (fun _ _ _ h => h) (Or.inl ⟨by kernel_rfl, fun w' hw => ?_⟩) S3 ?_
  · kernel_rfl
  simp only [Act.put, List.setIfInBounds_toArray]
  refine takeHD (i := 12) (v := .pointer (some ⟨g, N.length * 4 + 2, none⟩)) (some 21) rfl rfl (by kernel_rfl) (by kernel_rfl) (by kernel_rfl) (fun _ _ _ h => h) (Or.inl ⟨by kernel_rfl, fun w' hw => ?_⟩) S3 ?_
  · kernel_rfl
  simp only [Act.put, List.setIfInBounds_toArray]
  obtain ⟨g0, g1, g2, g3⟩ := h3.at4 (i := N.length) hlt2
  have f2 := h3.fr (N.length * 4 + 2)
  refine wpAnyH_ready (rs := [13]) (by kernel_rfl) (by simp) ?_
  refine AllReadyH.cons rfl (fun K hK => ?_) AllReadyH.nil
  rw [if_pos (by kernel_rfl)]
  go_wp2_with fail
  have h4 := HA.out _ h3
  have M4 := ((hS _).1 S3).1.set (o := N.length * 4 + 2) (.int .i64 ((N.length : Int) + 1))
  have S4 : S ((w2.setCell ⟨g, N.length * 4 + 1, none⟩ (.string s)).setCell ⟨g, N.length * 4 + 2, none⟩ (.int .i64 ((N.length : Int) + 1))) := (hS _).2 ⟨M4, by rw [h4.cnt]; simp⟩
  refine hK.out _ _ S4 (fun _ => ?_)
  clear hK K
  refine wpAnyH_done (by kernel_rfl) ?_ _
  go_wp2
  refine bodyPost_end (v := .tuple #[]) (by simp [results, Tryz.results36, go_sem]) rfl ⟨⟨_, rfl⟩, h4, m1.trans M4⟩
end Go.Proofs.YtapniafhcagogaaGreatDoor

namespace Go.Proofs.YtapniafhcagogaaGreatDoor
open Go.RowKit
set_option maxRecDepth 8000

/-- A part is laid behind the nodes of an array. -/
def ApC (t : Tr) : Prop := ∀ (B : Nat → Prop) (v : Value) (g : Nat) (N : List Nd) (w : World), AB w g N → Rl w B t.l v → ¬ B g → t.okT = true → N.length + t.nsz ≤ 299 →
  Calls Tryz.prog 16 #[.pointer (some ⟨g, 0, none⟩), rx t.k t.s v] w fun e w' => (∃ x, e = .returned x) ∧ AB w' g (N ++ t.lay N.length) ∧ Mkd g w w'

theorem setB_size {s : ByteArray} {n : Nat} (h : setB s n = true) : s.size ≤ n := by
  unfold setB at h
  simp only [Bool.and_eq_true, decide_eq_true_eq] at h
  exact h.1.2
theorem okT_size {t : Tr} (h : t.okT = true) (hk : t.k = 1 ∨ t.k = 3) : t.s.size ≤ 1048576 := by
  rw [okT_eq, Bool.and_eq_true] at h
  have h2 := h.2
  unfold nodeB at h2
  rcases hk with hk | hk
  · rw [if_pos hk, Bool.and_eq_true] at h2
    exact Nat.le_trans (setB_size h2.1) (by decide)
  · rw [if_neg (by omega), if_pos hk, Bool.and_eq_true] at h2
    exact Nat.le_trans (setB_size h2.1) (by decide)

set_option maxHeartbeats 2000000 in
theorem arrPart_1 (t : Tr) (hk : t.k = 1) : ApC t := by
  intro B v g N w hA h hB hok hn
  have hlay := lay_eq t N.length
  rw [if_pos hk] at hlay
  have hnsz := nsz_eq t
  rw [if_neg (by omega), if_neg (by omega), if_neg (by omega)] at hnsz
  rw [hlay]
  obtain ⟨ao, cap, rfl, hl1, hl2, -⟩ := h.len
  have X0 := Hid.mk (Bz3.new w (.int .i64 t.k) (.string t.s) (.slice ao t.l.length cap))
  have A0 : Hid (Below w.heap.size w (w.alloc (.cells #[.int .i64 t.k, .string t.s, .slice ao t.l.length cap] 26))) := (Below.refl _ _).alloc (Nat.le_refl _) _
  have HC := Hid.mk (arrSingle_any N g 1 t.s _ (hA.grow A0.out) (by omega) (okT_size hok (.inl hk)))
  rw [hk] at X0 A0 HC ⊢
  generalize t.s = ts at *
  generalize t.l.length = tl at *
  clear hlay hA h hk hok hl2 hnsz
  have x0 := X0.out.c0
  have x1 := X0.out.c1
  go_enter Tryz.func16, Tryz.ntmps16
  go_wp2_with fail
  refine HC.out.mono ?_
  rintro e w1 ⟨⟨x, rfl⟩, h1, m1⟩
  have H1 := Hid.mk h1
  have M1 := Hid.mk ((Mkd.below A0.out).trans m1)
  clear h1 m1 HC A0 X0 x0 x1
  go_wp2
  refine bodyPost_end (v := .tuple #[]) (by simp [results, Tryz.results16, go_sem]) rfl ⟨⟨_, rfl⟩, H1.out, M1.out⟩

set_option maxHeartbeats 2000000 in
theorem arrPart_2 (t : Tr) (hk : t.k = 2) : ApC t := by
  intro B v g N w hA h hB hok hn
  have hlay := lay_eq t N.length
  rw [if_neg (by omega), if_pos hk] at hlay
  have hnsz := nsz_eq t
  rw [if_neg (by omega), if_neg (by omega), if_neg (by omega)] at hnsz
  rw [hlay]
  obtain ⟨ao, cap, rfl, hl1, hl2, -⟩ := h.len
  have X0 := Hid.mk (Bz3.new w (.int .i64 t.k) (.string t.s) (.slice ao t.l.length cap))
  have A0 : Hid (Below w.heap.size w (w.alloc (.cells #[.int .i64 t.k, .string t.s, .slice ao t.l.length cap] 26))) := (Below.refl _ _).alloc (Nat.le_refl _) _
  have HC := Hid.mk (arrSingle_any N g 2 ⟨#[]⟩ _ (hA.grow A0.out) (by omega) (by decide))
  rw [hk] at X0 A0 HC ⊢
  generalize t.s = ts at *
  generalize t.l.length = tl at *
  clear hlay hA h hk hok hl2 hnsz
  have x0 := X0.out.c0
  have x1 := X0.out.c1
  go_enter Tryz.func16, Tryz.ntmps16
  go_wp2_with fail
  refine HC.out.mono ?_
  rintro e w1 ⟨⟨x, rfl⟩, h1, m1⟩
  have H1 := Hid.mk h1
  have M1 := Hid.mk ((Mkd.below A0.out).trans m1)
  clear h1 m1 HC A0 X0 x0 x1
  go_wp2
  refine bodyPost_end (v := .tuple #[]) (by simp [results, Tryz.results16, go_sem]) rfl ⟨⟨_, rfl⟩, H1.out, M1.out⟩

set_option maxHeartbeats 2000000 in
theorem arrPart_3 (t : Tr) (hk : t.k = 3) : ApC t := by
  intro B v g N w hA h hB hok hn
  have hlay := lay_eq t N.length
  rw [if_neg (by omega), if_neg (by omega), if_pos hk] at hlay
  have hnsz := nsz_eq t
  rw [if_neg (by omega), if_neg (by omega), if_neg (by omega)] at hnsz
  rw [hlay]
  obtain ⟨ao, cap, rfl, hl1, hl2, -⟩ := h.len
  have X0 := Hid.mk (Bz3.new w (.int .i64 t.k) (.string t.s) (.slice ao t.l.length cap))
  have A0 : Hid (Below w.heap.size w (w.alloc (.cells #[.int .i64 t.k, .string t.s, .slice ao t.l.length cap] 26))) := (Below.refl _ _).alloc (Nat.le_refl _) _
  have HC := Hid.mk (arrSingle_any N g 3 t.s _ (hA.grow A0.out) (by omega) (okT_size hok (.inr hk)))
  rw [hk] at X0 A0 HC ⊢
  generalize t.s = ts at *
  generalize t.l.length = tl at *
  clear hlay hA h hk hok hl2 hnsz
  have x0 := X0.out.c0
  have x1 := X0.out.c1
  go_enter Tryz.func16, Tryz.ntmps16
  go_wp2_with fail
  refine HC.out.mono ?_
  rintro e w1 ⟨⟨x, rfl⟩, h1, m1⟩
  have H1 := Hid.mk h1
  have M1 := Hid.mk ((Mkd.below A0.out).trans m1)
  clear h1 m1 HC A0 X0 x0 x1
  go_wp2
  refine bodyPost_end (v := .tuple #[]) (by simp [results, Tryz.results16, go_sem]) rfl ⟨⟨_, rfl⟩, H1.out, M1.out⟩

set_option maxHeartbeats 2000000 in
theorem arrPart_10 (t : Tr) (hk : t.k = 10) : ApC t := by
  intro B v g N w hA h hB hok hn
  have hlay := lay_eq t N.length
  rw [if_neg (by omega), if_neg (by omega), if_neg (by omega), if_neg (by omega), if_neg (by omega), if_neg (by omega), if_neg (by omega), if_neg (by omega), if_pos hk] at hlay
  have hnsz := nsz_eq t
  rw [if_neg (by omega), if_neg (by omega), if_neg (by omega)] at hnsz
  rw [hlay]
  obtain ⟨ao, cap, rfl, hl1, hl2, -⟩ := h.len
  have X0 := Hid.mk (Bz3.new w (.int .i64 t.k) (.string t.s) (.slice ao t.l.length cap))
  have A0 : Hid (Below w.heap.size w (w.alloc (.cells #[.int .i64 t.k, .string t.s, .slice ao t.l.length cap] 26))) := (Below.refl _ _).alloc (Nat.le_refl _) _
  have HC := Hid.mk (arrSingle_any N g 5 ⟨#[]⟩ _ (hA.grow A0.out) (by omega) (by decide))
  rw [hk] at X0 A0 HC ⊢
  generalize t.s = ts at *
  generalize t.l.length = tl at *
  clear hlay hA h hk hok hl2 hnsz
  have x0 := X0.out.c0
  have x1 := X0.out.c1
  go_enter Tryz.func16, Tryz.ntmps16
  go_wp2_with fail
  refine HC.out.mono ?_
  rintro e w1 ⟨⟨x, rfl⟩, h1, m1⟩
  have H1 := Hid.mk h1
  have M1 := Hid.mk ((Mkd.below A0.out).trans m1)
  clear h1 m1 HC A0 X0 x0 x1
  go_wp2
  refine bodyPost_end (v := .tuple #[]) (by simp [results, Tryz.results16, go_sem]) rfl ⟨⟨_, rfl⟩, H1.out, M1.out⟩

set_option maxHeartbeats 2000000 in
theorem arrPart_11 (t : Tr) (hk : t.k = 11) : ApC t := by
  intro B v g N w hA h hB hok hn
  have hlay := lay_eq t N.length
  rw [if_neg (by omega), if_neg (by omega), if_neg (by omega), if_neg (by omega), if_neg (by omega), if_neg (by omega), if_neg (by omega), if_neg (by omega), if_neg (by omega), if_pos hk] at hlay
  have hnsz := nsz_eq t
  rw [if_neg (by omega), if_neg (by omega), if_neg (by omega)] at hnsz
  rw [hlay]
  obtain ⟨ao, cap, rfl, hl1, hl2, -⟩ := h.len
  have X0 := Hid.mk (Bz3.new w (.int .i64 t.k) (.string t.s) (.slice ao t.l.length cap))
  have A0 : Hid (Below w.heap.size w (w.alloc (.cells #[.int .i64 t.k, .string t.s, .slice ao t.l.length cap] 26))) := (Below.refl _ _).alloc (Nat.le_refl _) _
  have HC := Hid.mk (arrSingle_any N g 6 ⟨#[]⟩ _ (hA.grow A0.out) (by omega) (by decide))
  rw [hk] at X0 A0 HC ⊢
  generalize t.s = ts at *
  generalize t.l.length = tl at *
  clear hlay hA h hk hok hl2 hnsz
  have x0 := X0.out.c0
  have x1 := X0.out.c1
  go_enter Tryz.func16, Tryz.ntmps16
  go_wp2_with fail
  refine HC.out.mono ?_
  rintro e w1 ⟨⟨x, rfl⟩, h1, m1⟩
  have H1 := Hid.mk h1
  have M1 := Hid.mk ((Mkd.below A0.out).trans m1)
  clear h1 m1 HC A0 X0 x0 x1
  go_wp2
  refine bodyPost_end (v := .tuple #[]) (by simp [results, Tryz.results16, go_sem]) rfl ⟨⟨_, rfl⟩, H1.out, M1.out⟩

set_option maxHeartbeats 2000000 in
theorem arrPart_9 (t : Tr) (hk : t.k = 9) : ApC t := by
  intro B v g N w hA h hB hok hn
  have hlay := lay_eq t N.length
  rw [if_neg (by omega), if_neg (by omega), if_neg (by omega), if_neg (by omega), if_neg (by omega), if_neg (by omega), if_neg (by omega), if_neg (by omega), if_neg (by omega), if_neg (by omega)] at hlay
  rw [hlay, List.append_nil]
  obtain ⟨ao, cap, rfl, hl1, hl2, -⟩ := h.len
  have A0 : Hid (∀ o, Below w.heap.size w (w.alloc o)) := fun o => (Below.refl _ _).alloc (Nat.le_refl _) _
  have HA := Hid.mk hA
  rw [hk]
  generalize t.s = ts at *
  generalize t.l.length = tl at *
  clear hlay hA h hk hok hl2
  go_enter Tryz.func16, Tryz.ntmps16
  go_wp2
  refine bodyPost_end (v := .tuple #[]) (by simp [results, Tryz.results16, go_sem]) rfl ⟨⟨_, rfl⟩, HA.out.grow (A0.out _), Mkd.below (A0.out _)⟩
end Go.Proofs.YtapniafhcagogaaGreatDoor

namespace Go.Proofs.YtapniafhcagogaaGreatDoor
open Go.RowKit
set_option maxRecDepth 8000

theorem Mkd.tree {g : Nat} {w w' : World} (h : Mkd g w w') {B : Nat → Prop} (hB : ¬ B g) {l : List Tr} {v : Value} (hr : Rl w B l v) : Rl w' B l v := by
  refine hr.kept fun b hb hlt => h.block b hlt ?_
  rintro rfl
  exact hB hb
theorem Mkd.box {g : Nat} {w w' : World} (h : Mkd g w w') {b : Nat} {x y z : Value} (hb : Bz3 w b x y z) (hne : b ≠ g) : Bz3 w' b x y z := hb.kept (h.block b hb.lt hne)
theorem set_mid {N Y : List Nd} {x y : Nd} : (N ++ x :: Y).set N.length y = N ++ y :: Y := by
  rw [List.set_append_right _ _ (Nat.le_refl _), Nat.sub_self]
  rfl
theorem get_mid {N Y : List Nd} {x : Nd} (h : N.length < (N ++ x :: Y).length) : (N ++ x :: Y)[N.length] = x := by simp

theorem AB.setAB {w : World} {g : Nat} {M : List Nd} {y : Nd} (h : AB w g (M ++ [y])) {i : Nat} (hi : M.length = i) (a b : Int) : AB ((w.setCell ⟨g, i * 4 + 2, none⟩ (.int .i64 a)).setCell ⟨g, i * 4 + 3, none⟩ (.int .i64 b)) g (M ++ [{ y with a := a, b := b }]) := by
  subst hi
  have hlt : M.length < (M ++ [y]).length := by simp
  have h1 := h.setA (i := M.length) hlt a
  rw [get_last hlt, set_last] at h1
  have hlt2 : M.length < (M ++ [{ y with a := a }]).length := by simp
  have h2 := h1.setB (i := M.length) hlt2 b
  rw [get_last hlt2, set_last] at h2
  exact h2
theorem AB.lastC {w : World} {g : Nat} {M : List Nd} {y : Nd} (h : AB w g (M ++ [y])) {i : Nat} (hi : M.length = i) : At4 w g (i * 4) y := by
  subst hi
  have hlt : M.length < (M ++ [y]).length := by simp
  have := h.at4 (i := M.length) hlt
  rwa [get_last hlt] at this
theorem AB.cntL {w : World} {g : Nat} {M : List Nd} {y : Nd} (h : AB w g (M ++ [y])) {i : Nat} (hi : M.length = i) : w.cell? ⟨g, 1200, none⟩ = some (.int .i64 ((i : Int) + 1)) := by
  have := h.cnt
  rw [List.length_append, hi] at this
  exact this

set_option maxHeartbeats 2000000 in
theorem arrPart_8 (t : Tr) (hk : t.k = 8) (ih : ∀ x ∈ t.l, ApC x) : ApC t := by
  intro B v g N w hA h hB hok hn
  have hlay := lay_eq t N.length
  rw [if_neg (by omega), if_neg (by omega), if_neg (by omega), if_neg (by omega), if_neg (by omega), if_neg (by omega), if_neg (by omega), if_pos hk] at hlay
  have hnsz := nsz_eq t
  rw [if_neg (by omega), if_neg (by omega), if_neg (by omega)] at hnsz
  rw [← hnsz] at hlay
  obtain ⟨x, hx⟩ := okT_one hok (.inr (.inr hk))
  have hokx := okT_kids hok x (by rw [hx]; exact List.mem_singleton.2 rfl)
  have hihx := ih x (by rw [hx]; exact List.mem_singleton.2 rfl)
  have hnx : x.nsz + 1 = t.nsz := by rw [hnsz, hx, nszL, nszL]
  rw [hx, layL_one] at hlay
  rw [hlay]
  have HLX := Hid.mk (lay_len x hokx (N.length + 1))
  obtain ⟨ao, cap, rfl, hl1, hl2, -⟩ := h.len
  unfold maxLen at hl2
  have X0 := Hid.mk (Bz3.new w (.int .i64 t.k) (.string t.s) (.slice ao t.l.length cap))
  have A0 : Hid (Below w.heap.size w (w.alloc (.cells #[.int .i64 t.k, .string t.s, .slice ao t.l.length cap] 26))) := (Below.refl _ _).alloc (Nat.le_refl _) _
  have HF := Hid.mk (arrFork_any N g _ (hA.grow A0.out) (by omega))
  have HR := Hid.mk (h.grow A0.out)
  have hgw := hA.lt
  have hlen1 : t.l.length = 1 := by rw [hx]; rfl
  rw [hk] at X0 A0 HF HR ⊢
  rw [hlen1] at X0 A0 HF HR hl1 ⊢
  rw [hx] at HR
  generalize t.s = ts at *
  generalize hnt : t.nsz = T at *
  have HIX := Hid.mk hihx
  have HOX := Hid.mk hokx
  clear hlay hA h hk hok hx hlen1 hihx hokx ih hnsz hnt
  have x0 := X0.out.c0
  go_enter Tryz.func16, Tryz.ntmps16
  go_wp2_with fail
  refine HF.out.mono ?_
  rintro e w1 ⟨rfl, h1, m1⟩
  have X1 := Hid.mk (m1.box X0.out (by omega))
  have R1 := Hid.mk (m1.tree hB HR.out)
  have M1 := Hid.mk ((Mkd.below A0.out).trans m1)
  have H1 := Hid.mk h1
  clear h1 m1 HF A0 X0 x0 HR
  obtain ⟨b, off, V, rfl, hel⟩ := R1.out.elems (by simp)
  obtain ⟨⟨c0, c1, c2⟩, hsub, hss⟩ := hel 0 (by simp)
  simp only [List.getElem_cons_zero, Nat.zero_mul, Nat.add_zero] at c0 c1 c2 hsub hss
  have HCX := Hid.mk (HIX.out B (V 0) g _ w1 H1.out hsub hB HOX.out (by simp; omega))
  have z2 := X1.out.c2
  clear hel hsub hss HIX HOX
  go_wp2_with fail
  refine HCX.out.mono ?_
  rintro e w2 ⟨⟨q, rfl⟩, h2, m2⟩
  have hl2' : (N ++ [(⟨4, ⟨#[]⟩, (N.length : Int) + 1, 0⟩ : Nd)]).length = N.length + 1 := by simp
  rw [hl2', List.append_assoc, List.singleton_append] at h2
  have hlt2 : N.length < (N ++ (⟨4, ⟨#[]⟩, (N.length : Int) + 1, 0⟩ : Nd) :: x.lay (N.length + 1)).length := by simp
  have hc2 := h2.cnt
  have hll : (N ++ (⟨4, ⟨#[]⟩, (N.length : Int) + 1, 0⟩ : Nd) :: x.lay (N.length + 1)).length = N.length + T := by simp [HLX.out]; omega
  rw [hll] at hc2
  obtain ⟨d0, d1, d2, d3⟩ := h2.at4 (i := N.length) hlt2
  have f3 := h2.fr (N.length * 4 + 3)
  have HS : Hid (AB (w2.setCell ⟨g, N.length * 4 + 3, none⟩ (.int .i64 ((N.length + T : Nat) : Int))) g (N ++ split (N.length + 1) (N.length + T) :: x.lay (N.length + 1))) := by
    have := h2.setB (i := N.length) hlt2 ((N.length + T : Nat) : Int)
    rw [get_mid hlt2, set_mid] at this
    exact this
  have M2 := Hid.mk ((M1.out.trans m2).set (o := N.length * 4 + 3) (.int .i64 ((N.length + T : Nat) : Int)))
  rw [get_mid hlt2] at d0 d1 d2 d3
  clear h2 m2 HCX M1 H1 X1 R1 hll hl2' z2 c0 c1 c2 d0 d1 d2 hlt2 HLX
  go_wp2
  refine bodyPost_end (v := .tuple #[]) (by simp [results, Tryz.results16, go_sem]) rfl ⟨⟨_, rfl⟩, HS.out, M2.out⟩

set_option maxHeartbeats 2000000 in
theorem arrPart_7 (t : Tr) (hk : t.k = 7) (ih : ∀ x ∈ t.l, ApC x) : ApC t := by
  intro B v g N w hA h hB hok hn
  have hlay := lay_eq t N.length
  rw [if_neg (by omega), if_neg (by omega), if_neg (by omega), if_neg (by omega), if_neg (by omega), if_neg (by omega), if_pos hk] at hlay
  have hnsz := nsz_eq t
  rw [if_neg (by omega), if_neg (by omega), if_neg (by omega)] at hnsz
  rw [← hnsz] at hlay
  obtain ⟨x, hx⟩ := okT_one hok (.inr (.inl hk))
  have hokx := okT_kids hok x (by rw [hx]; exact List.mem_singleton.2 rfl)
  have hihx := ih x (by rw [hx]; exact List.mem_singleton.2 rfl)
  have hnx : x.nsz + 1 = t.nsz := by rw [hnsz, hx, nszL, nszL]
  rw [hx, layL_one] at hlay
  rw [hlay]
  have HLX := Hid.mk (lay_len x hokx N.length)
  obtain ⟨ao, cap, rfl, hl1, hl2, -⟩ := h.len
  unfold maxLen at hl2
  have X0 := Hid.mk (Bz3.new w (.int .i64 t.k) (.string t.s) (.slice ao t.l.length cap))
  have A0 : Hid (Below w.heap.size w (w.alloc (.cells #[.int .i64 t.k, .string t.s, .slice ao t.l.length cap] 26))) := (Below.refl _ _).alloc (Nat.le_refl _) _
  have H0 := Hid.mk (hA.grow A0.out)
  have HR := Hid.mk (h.grow A0.out)
  have hgw := hA.lt
  have hlen1 : t.l.length = 1 := by rw [hx]; rfl
  rw [hk] at X0 A0 H0 HR ⊢
  rw [hlen1] at X0 A0 H0 HR hl1 ⊢
  rw [hx] at HR
  generalize t.s = ts at *
  generalize hnt : t.nsz = T at *
  have HIX := Hid.mk hihx
  have HOX := Hid.mk hokx
  clear hlay hA h hk hok hx hlen1 hihx hokx ih hnsz hnt
  have x0 := X0.out.c0
  have cn := H0.out.cnt
  obtain ⟨b, off, V, rfl, hel⟩ := HR.out.elems (by simp)
  obtain ⟨⟨c0, c1, c2⟩, hsub, hss⟩ := hel 0 (by simp)
  simp only [List.getElem_cons_zero, Nat.zero_mul, Nat.add_zero] at c0 c1 c2 hsub hss
  have HCX := Hid.mk (HIX.out B (V 0) g _ _ H0.out hsub hB HOX.out (by omega))
  have x2 := X0.out.c2
  clear hel hsub hss HIX HOX HR
  go_enter Tryz.func16, Tryz.ntmps16
  go_wp2_with fail
  refine HCX.out.mono ?_
  rintro e w1 ⟨⟨q, rfl⟩, h1, m1⟩
  have M1 := Hid.mk ((Mkd.below A0.out).trans m1)
  have hl3 : (N ++ x.lay N.length).length = N.length + x.nsz := by rw [List.length_append, HLX.out]
  have HL := Hid.mk (arrLay_any _ g 4 w1 h1 (by rw [hl3]; omega))
  rw [hl3] at HL
  clear h1 m1 HCX A0 X0 x0 x2 c0 c1 c2 cn H0
  go_wp2_with fail
  refine HL.out.mono ?_
  rintro e w2 ⟨rfl, h2, m2⟩
  have i2 : N.length + x.nsz + 1 = N.length + T := by omega
  have cn := h2.cntL hl3
  rw [show ((N.length + x.nsz : Nat) : Int) + 1 = ((N.length + T : Nat) : Int) by omega] at cn
  obtain ⟨d0, d1, d2, d3⟩ := h2.lastC hl3
  have f2 := h2.fr ((N.length + x.nsz) * 4 + 2)
  have f3 := h2.fr ((N.length + x.nsz) * 4 + 3)
  have HS := Hid.mk (h2.setAB hl3 (N.length : Int) ((N.length + T : Nat) : Int))
  rw [List.append_assoc] at HS
  have M3 := Hid.mk (((M1.out.trans m2).set (o := (N.length + x.nsz) * 4 + 2) (.int .i64 (N.length : Int))).set (o := (N.length + x.nsz) * 4 + 3) (.int .i64 ((N.length + T : Nat) : Int)))
  simp only at d0 d1 d2 d3
  clear HL M1 m2 h2 hl3 HLX
  go_wp2
  refine bodyPost_end (v := .tuple #[]) (by simp [results, Tryz.results16, go_sem]) rfl ⟨⟨_, rfl⟩, HS.out, M3.out⟩

set_option maxHeartbeats 2000000 in
theorem arrStar_any (x : Tr) (B : Nat → Prop) (v : Value) (g : Nat) (N : List Nd) (w : World) (hA : AB w g N) (h : Rl w B x.l v) (hB : ¬ B g) (hok : x.okT = true) (hn : N.length + x.nsz + 2 ≤ 299) (ih : ApC x) :
    Calls Tryz.prog 38 #[.pointer (some ⟨g, 0, none⟩), rx x.k x.s v] w fun e w' => (∃ x, e = .returned x) ∧ AB w' g (N ++ split (N.length + 1) (N.length + (x.nsz + 2)) :: (x.lay (N.length + 1) ++ [split N.length N.length])) ∧ Mkd g w w' := by
  have HLX := Hid.mk (lay_len x hok (N.length + 1))
  obtain ⟨ao, cap, rfl, hl1, hl2, -⟩ := h.len
  have X0 := Hid.mk (Bz3.new w (.int .i64 x.k) (.string x.s) (.slice ao x.l.length cap))
  have A0 : Hid (Below w.heap.size w (w.alloc (.cells #[.int .i64 x.k, .string x.s, .slice ao x.l.length cap] 26))) := (Below.refl _ _).alloc (Nat.le_refl _) _
  have hA0 := hA.grow A0.out
  have hgw := hA.lt
  have cn := hA0.cnt
  have HF := Hid.mk (arrFork_any N g _ hA0 (by omega))
  have HR := Hid.mk (h.grow A0.out)
  have HIX := Hid.mk ih
  have HOX := Hid.mk hok
  have x0 := X0.out.c0
  clear hA hA0 h ih hok hl2
  go_enter Tryz.func38, Tryz.ntmps38
  go_wp2_with fail
  refine HF.out.mono ?_
  rintro e w1 ⟨rfl, h1, m1⟩
  have R1 := Hid.mk (m1.tree hB HR.out)
  have X1 := Hid.mk (m1.box X0.out (by omega))
  have M1 := Hid.mk ((Mkd.below A0.out).trans m1)
  have HCX := Hid.mk (HIX.out B _ g _ w1 h1 R1.out hB HOX.out (by simp; omega))
  have y0 := X1.out.c0
  have y1 := X1.out.c1
  have y2 := X1.out.c2
  clear h1 m1 HF HR HIX HOX cn x0 X0 A0
  go_wp2_with fail
  refine HCX.out.mono ?_
  rintro e w2 ⟨⟨q, rfl⟩, h2, m2⟩
  have M2 := Hid.mk (M1.out.trans m2)
  have hl2' : (N ++ [(⟨4, ⟨#[]⟩, (N.length : Int) + 1, 0⟩ : Nd)]).length = N.length + 1 := by simp
  rw [hl2', List.append_assoc, List.singleton_append] at h2
  generalize hF : (⟨4, ⟨#[]⟩, (N.length : Int) + 1, 0⟩ : Nd) = F at h2
  have HFF := Hid.mk hF
  have hl3 : (N ++ F :: x.lay (N.length + 1)).length = N.length + 1 + x.nsz := by simp [HLX.out]; omega
  have HL := Hid.mk (arrLay_any _ g 4 w2 h2 (by rw [hl3]; omega))
  rw [hl3] at HL
  clear h2 m2 HCX M1 hF hl2' R1 X1 y0 y1 y2
  go_wp2_with fail
  refine HL.out.mono ?_
  rintro e w3 ⟨rfl, h3, m3⟩
  obtain ⟨d0, d1, d2, d3⟩ := h3.lastC hl3
  have f2 := h3.fr ((N.length + 1 + x.nsz) * 4 + 2)
  have f3 := h3.fr ((N.length + 1 + x.nsz) * 4 + 3)
  have h4 := h3.setAB hl3 (N.length : Int) (N.length : Int)
  have M4 := Hid.mk (((M2.out.trans m3).set (o := (N.length + 1 + x.nsz) * 4 + 2) (.int .i64 (N.length : Int))).set (o := (N.length + 1 + x.nsz) * 4 + 3) (.int .i64 (N.length : Int)))
  simp only at d0 d1 d2 d3
  have cn := h4.cntL hl3
  rw [show ((N.length + 1 + x.nsz : Nat) : Int) + 1 = ((N.length + (x.nsz + 2) : Nat) : Int) by omega] at cn
  rw [List.append_assoc, List.cons_append] at h4
  have hlt4 : N.length < (N ++ F :: (x.lay (N.length + 1) ++ [(⟨4, ⟨#[]⟩, (N.length : Int), (N.length : Int)⟩ : Nd)])).length := by simp
  obtain ⟨e0, e1, e2, e3⟩ := h4.at4 (i := N.length) hlt4
  have f4 := h4.fr (N.length * 4 + 3)
  have h5 := h4.setB (i := N.length) hlt4 ((N.length + (x.nsz + 2) : Nat) : Int)
  rw [get_mid hlt4, set_mid, ← HFF.out] at h5
  rw [get_mid hlt4, ← HFF.out] at e0 e1 e2 e3
  have HS := Hid.mk h5
  have M5 := Hid.mk (M4.out.set (o := N.length * 4 + 3) (.int .i64 ((N.length + (x.nsz + 2) : Nat) : Int)))
  simp only at e0 e1 e2 e3
  clear h3 h4 h5 m3 HL M2 M4 HFF hlt4 hl3 HLX
  go_wp2
  refine bodyPost_end (v := .tuple #[]) (by simp [results, Tryz.results38, go_sem]) rfl ⟨⟨_, rfl⟩, HS.out, M5.out⟩
end Go.Proofs.YtapniafhcagogaaGreatDoor

namespace Go.Proofs.YtapniafhcagogaaGreatDoor
open Go.RowKit
set_option maxRecDepth 8000

set_option maxHeartbeats 2000000 in
theorem arrPart_6 (t : Tr) (hk : t.k = 6) (ih : ∀ x ∈ t.l, ApC x) : ApC t := by
  intro B v g N w hA h hB hok hn
  have hlay := lay_eq t N.length
  rw [if_neg (by omega), if_neg (by omega), if_neg (by omega), if_neg (by omega), if_neg (by omega), if_pos hk] at hlay
  have hnsz := nsz_eq t
  rw [if_neg (by omega), if_neg (by omega), if_pos hk] at hnsz
  obtain ⟨x, hx⟩ := okT_one hok (.inl hk)
  have hokx := okT_kids hok x (by rw [hx]; exact List.mem_singleton.2 rfl)
  have hihx := ih x (by rw [hx]; exact List.mem_singleton.2 rfl)
  have hnx : nszL [x] = x.nsz := by rw [nszL, nszL]; rfl
  rw [hx, layL_one, hnx] at hlay
  rw [hx, hnx] at hnsz
  rw [hlay]
  obtain ⟨ao, cap, rfl, hl1, hl2, -⟩ := h.len
  unfold maxLen at hl2
  have X0 := Hid.mk (Bz3.new w (.int .i64 t.k) (.string t.s) (.slice ao t.l.length cap))
  have A0 : Hid (Below w.heap.size w (w.alloc (.cells #[.int .i64 t.k, .string t.s, .slice ao t.l.length cap] 26))) := (Below.refl _ _).alloc (Nat.le_refl _) _
  have H0 := Hid.mk (hA.grow A0.out)
  have HR := Hid.mk (h.grow A0.out)
  have hlen1 : t.l.length = 1 := by rw [hx]; rfl
  rw [hk] at X0 A0 H0 HR ⊢
  rw [hlen1] at X0 A0 H0 HR hl1 ⊢
  rw [hx] at HR
  generalize t.s = ts at *
  have x0 := X0.out.c0
  obtain ⟨b, off, V, rfl, hel⟩ := HR.out.elems (by simp)
  obtain ⟨⟨c0, c1, c2⟩, hsub, hss⟩ := hel 0 (by simp)
  simp only [List.getElem_cons_zero, Nat.zero_mul, Nat.add_zero] at c0 c1 c2 hsub hss
  have HCX := Hid.mk (arrStar_any x B (V 0) g N _ H0.out hsub hB hokx (by omega) hihx)
  have x2 := X0.out.c2
  clear hel hsub hss HR hlay hA h hk hok hx hlen1 hihx hokx ih hnsz H0
  go_enter Tryz.func16, Tryz.ntmps16
  go_wp2_with fail
  refine HCX.out.mono ?_
  rintro e w1 ⟨⟨q, rfl⟩, h1, m1⟩
  have H1 := Hid.mk h1
  have M1 := Hid.mk ((Mkd.below A0.out).trans m1)
  clear h1 m1 HCX A0 X0 x0 x2 c0 c1 c2
  go_wp2
  refine bodyPost_end (v := .tuple #[]) (by simp [results, Tryz.results16, go_sem]) rfl ⟨⟨_, rfl⟩, H1.out, M1.out⟩

set_option maxHeartbeats 2000000 in
theorem arrPart_4 (t : Tr) (hk : t.k = 4) (ih : ∀ x ∈ t.l, ApC x) : ApC t := by
  intro B v g N w hA h hB hok hn
  have hlay := lay_eq t N.length
  rw [if_neg (by omega), if_neg (by omega), if_neg (by omega), if_pos hk] at hlay
  have hnsz := nsz_eq t
  rw [if_pos (.inr hk)] at hnsz
  rw [hlay]
  have h8 := okT_two hok (.inl hk)
  have HOX := Hid.mk (okT_kids hok)
  have HIX := Hid.mk ih
  obtain ⟨ao, cap, rfl, hl1, hl2, -⟩ := h.len
  unfold maxLen at hl2
  have X0 := Hid.mk (Bz3.new w (.int .i64 t.k) (.string t.s) (.slice ao t.l.length cap))
  have A0 : Hid (Below w.heap.size w (w.alloc (.cells #[.int .i64 t.k, .string t.s, .slice ao t.l.length cap] 26))) := (Below.refl _ _).alloc (Nat.le_refl _) _
  have H0 := Hid.mk (hA.grow A0.out)
  have HR := Hid.mk h
  have hgw := hA.lt
  rw [hnsz] at hn
  rw [hk] at X0 A0 H0 ⊢
  generalize t.s = ts at *
  generalize t.l = l at *
  have x0 := X0.out.c0
  have x2 := X0.out.c2
  have HLE := Hid.mk (nszL_le l)
  have HTK := Hid.mk (nszL_take l)
  have HLT := Hid.mk (layL_take l)
  have HLL : Hid (∀ k p, (layL (l.take k) p).length = nszL (l.take k)) := fun k p => layL_len _ (fun x hx => lay_len x (HOX.out x (List.mem_of_mem_take hx))) p
  have HALL : Hid (layL (l.take l.length) N.length = layL l N.length) := by show _ = _; rw [List.take_length]
  have HZ : Hid (N ++ layL (l.take 0) N.length = N) := by show _ = _; rw [List.take_zero, layL, List.append_nil]
  clear hlay hA h hk hok ih hnsz
  go_enter Tryz.func16, Tryz.ntmps16
  go_wp2_with fail
  go_loopw [32] (fun i wr => ∃ (k : Nat) (M : List Nd), k ≤ l.length ∧ i = .int .i64 k ∧ Hid (M = N ++ layL (l.take k) N.length) ∧ Hid (AB wr g M) ∧ Hid (Mkd g w wr)) (fun i _ => l.length - (intOf i).toNat)
  case atStart => exact ⟨0, N, Nat.zero_le _, rfl, HZ.out.symm, H0.out, Mkd.below A0.out⟩
  case round =>
    obtain ⟨k, M, hkl0, rfl, HM, HA, HB⟩ := hrel
    clear x0 x2 X0 A0 HZ H0
    by_cases hkl : k < l.length
    · have RR := Hid.mk (HB.out.tree hB HR.out)
      obtain ⟨b, off, V, rfl, hel⟩ := RR.out.elems (by intro hn; rw [hn] at hkl; simp at hkl)
      obtain ⟨⟨c0, c1, c2⟩, hsub, hss⟩ := hel k hkl
      have hle := HLE.out (k + 1)
      have htk := HTK.out k hkl
      have hml : M.length = N.length + nszL (l.take k) := by rw [HM.out, List.length_append, HLL.out]
      have BB : Hid (∀ o, Below wr.heap.size wr (wr.alloc o)) := fun o => (Below.refl _ _).alloc (Nat.le_refl _) _
      have HCX : Hid (∀ o, Calls Tryz.prog 16 #[.pointer (some ⟨g, 0, none⟩), rx l[k].k l[k].s (V k)] (wr.alloc o) fun e w' => (∃ x, e = .returned x) ∧ AB w' g (M ++ l[k].lay M.length) ∧ Mkd g (wr.alloc o) w') := fun o => HIX.out l[k] (List.getElem_mem hkl) B (V k) g M _ (HA.out.grow (BB.out o)) (hsub.grow (BB.out o)) hB (HOX.out _ (List.getElem_mem hkl)) (by omega)
      have HNX : Hid (M ++ l[k].lay M.length = N ++ layL (l.take (k + 1)) N.length) := by
        show _ = _
        rw [HLT.out k hkl N.length, ← List.append_assoc, ← HM.out, hml]
      obtain ⟨va, vc, hv, -⟩ := hsub.len
      rw [hv] at c2 HCX
      clear hv
      generalize l[k].l.length = vn at c2 HCX
      generalize l[k] = x at c0 c1 c2 HCX HNX
      have hi1 : (k : Int) < (l.length : Int) := by omega
      clear hel hsub hss hle htk hml RR HIX HOX HLE HTK HLT HLL HM HA HR
      go_wp2_with fail
      refine (HCX.out _).mono ?_
      rintro e w4 ⟨⟨q, rfl⟩, h4, m4⟩
      have HA4 := Hid.mk h4
      have HB4 := Hid.mk (HB.out.trans ((Mkd.below (BB.out _)).trans m4))
      generalize hP : M ++ x.lay M.length = P at *
      clear hP h4 m4 HCX HB c0 c1 c2 BB
      go_wp2
      go_roundw
      case rel => exact ⟨k + 1, P, by omega, by go_num, HNX, HA4, HB4⟩
      case measure => simp [intOf]; omega
    · have e : k = l.length := by omega
      subst e
      have HA9 : Hid (AB wr g (N ++ layL l N.length)) := by
        show AB _ _ _
        rw [← HALL.out, ← HM.out]
        exact HA.out
      clear HA HM HALL HIX HOX HLE HTK HLT HLL HR
      go_wp2
      refine bodyPost_end (v := .tuple #[]) (by simp [results, Tryz.results16, go_sem]) rfl ⟨⟨_, rfl⟩, HA9.out, HB.out⟩
end Go.Proofs.YtapniafhcagogaaGreatDoor

namespace Go.Proofs.YtapniafhcagogaaGreatDoor
open Go.RowKit
set_option maxRecDepth 8000

/-- As layK; where the i-th goes on is told by f. -/
def layM (f : Nat → Nat) : List Tr → Nat → Nat → List Nd
  | [], _, _ => []
  | t :: r, i, p => split (p + 1) (p + 2 + t.nsz) :: (t.lay (p + 1) ++ split (f i) (f i) :: layM f r (i + 1) (p + 2 + t.nsz))
theorem layM_const (q : Nat) (f : Nat → Nat) : ∀ (l : List Tr) (i p : Nat), (∀ j, i ≤ j → j < i + l.length → f j = q) → layM f l i p = layK l p q
  | [], _, _, _ => rfl
  | t :: r, i, p, h => by
    rw [layM, layK, layM_const q f r (i + 1) _ fun j h1 h2 => h j (by omega) (by simp; omega), h i (Nat.le_refl _) (by simp)]
theorem layM_congr {f f' : Nat → Nat} : ∀ (l : List Tr) (i p : Nat), (∀ j, i ≤ j → f' j = f j) → layM f' l i p = layM f l i p
  | [], _, _, _ => rfl
  | t :: r, i, p, h => by
    rw [layM, layM, layM_congr r (i + 1) _ fun j h1 => h j (by omega), h i (Nat.le_refl _)]
theorem layM_len (f : Nat → Nat) : ∀ (l : List Tr), (∀ x ∈ l, ∀ p, (x.lay p).length = x.nsz) → ∀ i p, (layM f l i p).length = nszL l + 2 * l.length
  | [], _, i, p => by simp [layM, nszL]
  | t :: r, h, i, p => by
    have := layM_len f r (fun x hx => h x (List.mem_cons_of_mem _ hx)) (i + 1) (p + 2 + t.nsz)
    simp only [layM, nszL, List.length_cons, List.length_append, h t (List.mem_cons_self ..), this]
    omega
/-- Where the j-th that waits stands, behind the first one. -/
def wtM (l : List Tr) (j : Nat) : Nat := nszL (l.take (j + 1)) + 2 * j + 1
theorem layM_at (f : Nat → Nat) : ∀ (l : List Tr) (j : Nat), j < l.length → (∀ x ∈ l, ∀ p, (x.lay p).length = x.nsz) → ∀ (i p : Nat), ∃ P Q, P.length = wtM l j ∧ ∀ f', (∀ n, n ≠ i + j → f' n = f n) → layM f' l i p = P ++ split (f' (i + j)) (f' (i + j)) :: Q
  | t :: r, 0, _, hl, i, p => by
    refine ⟨split (p + 1) (p + 2 + t.nsz) :: t.lay (p + 1), layM f r (i + 1) (p + 2 + t.nsz), ?_, fun f' h => ?_⟩
    · simp only [List.length_cons, hl t (List.mem_cons_self ..), wtM, List.take_succ_cons, List.take_zero, nszL]
    · rw [layM, layM_congr r (i + 1) _ fun n hn => h n (by omega)]
      rfl
  | t :: r, j + 1, hj, hl, i, p => by
    obtain ⟨P, Q, hP, hQ⟩ := layM_at f r j (by simpa using hj) (fun x hx => hl x (List.mem_cons_of_mem _ hx)) (i + 1) (p + 2 + t.nsz)
    refine ⟨split (p + 1) (p + 2 + t.nsz) :: (t.lay (p + 1) ++ split (f i) (f i) :: P), Q, ?_, fun f' h => ?_⟩
    · simp only [List.length_cons, List.length_append, hl t (List.mem_cons_self ..), hP, wtM, List.take_succ_cons, nszL]; omega
    · have e : i + 1 + j = i + (j + 1) := by omega
      have := hQ f' fun n hn => h n (by omega)
      rw [e] at this
      rw [layM, this, h i (by omega)]
      simp only [List.cons_append, List.append_assoc]

/-- So many pointers, of which the first k are there. -/
def ptC (g : Nat) (ps : Nat → Nat) (n k : Nat) : List Value := (List.range n).map fun j => if j < k then .pointer (some ⟨g, ps j * 4, none⟩) else .pointer none
def PBk (w : World) (lb g : Nat) (ps : Nat → Nat) (n k : Nat) : Prop := w.heap[lb]? = some (.cells (ptC g ps n k).toArray 48 (0, 0))
theorem PBk.lt {w : World} {lb g n k : Nat} {ps : Nat → Nat} (h : PBk w lb g ps n k) : lb < w.heap.size := (Array.getElem?_eq_some_iff.1 h).1
theorem PBk.kept {w w' : World} {lb g n k : Nat} {ps : Nat → Nat} (h : PBk w lb g ps n k) (hh : w'.heap[lb]? = w.heap[lb]?) : PBk w' lb g ps n k := by unfold PBk; rw [hh]; exact h
theorem PBk.fr {w : World} {lb g n k : Nat} {ps : Nat → Nat} (h : PBk w lb g ps n k) (o : Nat) : w.frozen? ⟨lb, o, none⟩ = false := frozen_of_row w lb o _ _ h
theorem PBk.cell {w : World} {lb g n k : Nat} {ps : Nat → Nat} (h : PBk w lb g ps n k) {j : Nat} (hj : j < n) : w.cell? ⟨lb, j, none⟩ = some (if j < k then .pointer (some ⟨g, ps j * 4, none⟩) else .pointer none) := by
  rw [cell_of_row w lb _ _ _ (0, 0) h, List.getElem?_toArray]
  simp [ptC, hj]
theorem ptC_set (g : Nat) (ps : Nat → Nat) (n k : Nat) (h : k < n) : (ptC g ps n k).set k (.pointer (some ⟨g, ps k * 4, none⟩)) = ptC g ps n (k + 1) := by
  apply List.ext_getElem?
  intro j
  unfold ptC
  by_cases hj : k = j
  · subst hj
    rw [List.getElem?_set_self (by simpa using h)]
    simp [h]
  · rw [List.getElem?_set_ne hj]
    by_cases hn : j < n
    · simp only [List.getElem?_map, List.getElem?_range hn, Option.map_some]
      by_cases h1 : j < k
      · rw [if_pos h1, if_pos (by omega)]
      · rw [if_neg h1, if_neg (by omega)]
    · simp [hn]
theorem PBk.set {w : World} {lb g n k : Nat} {ps : Nat → Nat} (h : PBk w lb g ps n k) (hk : k < n) : PBk (w.setCell ⟨lb, k, none⟩ (.pointer (some ⟨g, ps k * 4, none⟩))) lb g ps n (k + 1) := by
  unfold PBk
  rw [heap_setCell_same w lb k _ _ _ h, List.setIfInBounds_toArray, ptC_set g ps n k hk]
theorem infoPtr : (Tryz.prog.info? 48).map (fun i => (i.zero, i.size, i.bytes)) = some (some (.pointer none), 1, 8) := by kernel_rfl
theorem made_pt (g : Nat) (ps : Nat → Nat) (n : Nat) : (madeCells (Value.pointer none).cells (n * 1)).toList = ptC g ps n 0 := by
  have e : (Value.pointer none).cells = #[.pointer none] := rfl
  rw [e]
  apply List.ext_getElem?
  intro q
  by_cases hq : q < n
  · simp [madeCells, ptC, hq, Nat.mod_one]
  · simp [madeCells, ptC, hq]
end Go.Proofs.YtapniafhcagogaaGreatDoor

namespace Go.Proofs.YtapniafhcagogaaGreatDoor
open Go.RowKit
set_option maxRecDepth 8000

theorem Mkd.setNew {g c o : Nat} {a b : World} (h : Mkd g a b) (hc : a.heap.size ≤ c) (v : Value) : Mkd g a (b.setCell ⟨c, o, none⟩ v) := by
  have q : Below c b (b.setCell ⟨c, o, none⟩ v) := (Below.refl c b).setCell (p := ⟨c, o, none⟩) (Nat.le_refl c) v
  exact ⟨q.os.trans h.os, q.tape.trans h.tape, q.output.trans h.output, Nat.le_trans h.size q.size, fun x hx hn => by rw [heap_setCell_other _ ⟨c, o, none⟩ x _ (show x ≠ c by omega)]; exact h.block x hx hn⟩
theorem AB.setOther {w : World} {g c o : Nat} {N : List Nd} (h : AB w g N) (hc : g ≠ c) (v : Value) : AB (w.setCell ⟨c, o, none⟩ v) g N := h.kept (heap_setCell_other _ ⟨c, o, none⟩ g _ hc)
theorem PBk.setOther {w : World} {lb g n k c o : Nat} {ps : Nat → Nat} (h : PBk w lb g ps n k) (hc : lb ≠ c) (v : Value) : PBk (w.setCell ⟨c, o, none⟩ v) lb g ps n k := h.kept (heap_setCell_other _ ⟨c, o, none⟩ lb _ hc)

theorem AB.setMid {w : World} {g : Nat} {A Z : List Nd} {y : Nd} (h : AB w g (A ++ y :: Z)) {i : Nat} (hi : A.length = i) (a b : Int) : AB ((w.setCell ⟨g, i * 4 + 2, none⟩ (.int .i64 a)).setCell ⟨g, i * 4 + 3, none⟩ (.int .i64 b)) g (A ++ { y with a := a, b := b } :: Z) := by
  subst hi
  have hlt : A.length < (A ++ y :: Z).length := by simp
  have h1 := h.setA (i := A.length) hlt a
  rw [get_mid hlt, set_mid] at h1
  have hlt2 : A.length < (A ++ { y with a := a } :: Z).length := by simp
  have h2 := h1.setB (i := A.length) hlt2 b
  rw [get_mid hlt2, set_mid] at h2
  exact h2
theorem AB.midC {w : World} {g : Nat} {A Z : List Nd} {y : Nd} (h : AB w g (A ++ y :: Z)) {i : Nat} (hi : A.length = i) : At4 w g (i * 4) y := by
  subst hi
  have hlt : A.length < (A ++ y :: Z).length := by simp
  have := h.at4 (i := A.length) hlt
  rwa [get_mid hlt] at this

set_option maxHeartbeats 4000000 in
theorem arrChoices_any (l : List Tr) (ih : ∀ x ∈ l, ApC x) (hok : ∀ x ∈ l, x.okT = true) (h2 : 2 ≤ l.length) (h8 : l.length ≤ 8) (B : Nat → Prop) (v : Value) (g : Nat) (N : List Nd) (w : World) (hA : AB w g N) (h : Rl w B l v) (hB : ¬ B g)
    (hn : N.length + nszL l + 2 * (l.length - 1) ≤ 299) :
    Calls Tryz.prog 37 #[.pointer (some ⟨g, 0, none⟩), v] w fun e w' => (∃ x, e = .returned x) ∧ AB w' g (N ++ layA l N.length (N.length + (nszL l + 2 * (l.length - 1)))) ∧ Mkd g w w' := by
  obtain ⟨ao, cap, rfl, hl1, hl2, -⟩ := h.len
  unfold maxLen at hl2
  obtain ⟨n, hln⟩ : ∃ n, l.length = n + 1 := ⟨l.length - 1, by omega⟩
  have HR := Hid.mk h
  have HA := Hid.mk hA
  have hgw := hA.lt
  have HIH := Hid.mk ih
  have HKI := Hid.mk hok
  have HLE := Hid.mk (nszL_le l)
  have HTK := Hid.mk (nszL_take l)
  have HLL : Hid (∀ k p q, k ≤ l.length → (layK (l.take k) p q).length = nszL (l.take k) + 2 * k) := fun k p q hk => by
    have := layK_len (l.take k) (fun x hx => lay_len x (hok x (List.mem_of_mem_take hx))) p q
    rwa [List.length_take, Nat.min_eq_left hk] at this
  have HST : Hid (∀ k (hk : k < l.length) p q, layK (l.take (k + 1)) p q = layK (l.take k) p q ++ (split (p + nszL (l.take k) + 2 * k + 1) (p + nszL (l.take k) + 2 * k + 2 + l[k].nsz) :: (l[k].lay (p + nszL (l.take k) + 2 * k + 1) ++ [split q q]))) := fun k hk p q => by
    have := layK_snoc (l.take k) l[k] p q
    rw [List.length_take, Nat.min_eq_left (by omega)] at this
    rw [List.take_succ_eq_append_getElem hk, this]
  have HEN : Hid (∀ (hk : n < l.length) p q, layA l p q = layK (l.take n) p q ++ l[n].lay (p + nszL (l.take n) + 2 * n)) := fun hk p q => by
    have := layA_snoc (l.take n) l[n] p q
    rw [List.length_take, Nat.min_eq_left (by omega), ← List.take_succ_eq_append_getElem hk, ← hln, List.take_length] at this
    exact this
  have HZ : Hid (N = N ++ layK (l.take 0) N.length 0) := by show _ = _; rw [List.take_zero, layK, List.append_nil]
  have HQ : Hid (nszL l = nszL (l.take (n + 1))) := by show _ = _; rw [← hln, List.take_length]
  rw [hln] at hn HR hl1 ⊢
  clear h hA ih hok
  obtain ⟨i0, hi, hz0, hz1, hz2⟩ := info_parts infoPtr
  go_enter Tryz.func37, Tryz.ntmps37
  go_wp2_with (at_make; refine wpList_make_full _ rfl _ _ 102 rfl 0 48 i0 _ 1 Tryz.underlying102 hi hz0 hz1 _ _ _ _ n rfl rfl rfl rfl (by rw [hz2]; omega) (by unfold maxLen; omega) (by simp) ?_)
  intro w1 hown hgrow
  obtain ⟨ps, hps⟩ : ∃ ps : Nat → Nat, ∀ j, ps j = N.length + wtM l j := ⟨_, fun _ => rfl⟩
  have P1 : Hid (PBk w1 w.heap.size g ps n 0) := by
    have h := own_fullN hown
    show PBk _ _ _ _ _ _
    unfold PBk
    rw [h, ← made_pt g ps n, Nat.mul_one]
    rfl
  have B1 : Below w.heap.size w w1 := (Below.refl _ _).grown hgrow (Nat.le_refl _) (by simp)
  have A1 := Hid.mk (HA.out.grow B1)
  have M1 : Hid (Mkd g w w1) := Mkd.below B1
  have HPS := Hid.mk hps
  clear hown hgrow hi hz0 hz1 hz2 hps B1 HA
  go_wp2
  go_loopw [20] (fun i wr => ∃ (k : Nat) (M : List Nd), k ≤ n ∧ i = .int .i64 k ∧ Hid (M = N ++ layK (l.take k) N.length 0) ∧ Hid (AB wr g M) ∧ Hid (PBk wr w.heap.size g ps n k) ∧ Hid (Mkd g w wr)) (fun i _ => n - (intOf i).toNat)
  case atStart => exact ⟨0, N, Nat.zero_le _, rfl, HZ.out, A1.out, P1.out, M1.out⟩
  case round =>
    obtain ⟨k, M, hkn, rfl, HM, HAM, HP, HB⟩ := hrel
    clear A1 P1 M1 HZ
    by_cases hkl : k < n
    · have RR := Hid.mk (HB.out.tree hB HR.out)
      have hkl' : k < l.length := by omega
      obtain ⟨b, off, V, rfl, hel⟩ := RR.out.elems (by intro hn; rw [hn] at hkl'; simp at hkl')
      obtain ⟨⟨c0, c1, c2⟩, hsub, hss⟩ := hel k hkl'
      have hle := HLE.out (k + 1)
      have htk := HTK.out k hkl'
      have hml : M.length = N.length + (nszL (l.take k) + 2 * k) := by rw [HM.out, List.length_append, HLL.out k _ _ (by omega)]
      obtain ⟨m, hm⟩ : ∃ m, M.length = m := ⟨_, rfl⟩
      have hpk : ps k = m + 1 + l[k].nsz := by rw [HPS.out, wtM, ← hm, hml, htk]; omega
      have BB : Hid (∀ o, Below wr.heap.size wr (wr.alloc o)) := fun o => (Below.refl _ _).alloc (Nat.le_refl _) _
      have HF : Hid (∀ o, Calls Tryz.prog 39 #[.pointer (some ⟨g, 0, none⟩)] (wr.alloc o) fun e w' => e = .returned (.pointer (some ⟨g, m * 4, none⟩)) ∧ AB w' g (M ++ [⟨4, ⟨#[]⟩, (m : Int) + 1, 0⟩]) ∧ Mkd g (wr.alloc o) w') := fun o => by
        have := arrFork_any M g (wr.alloc o) (HAM.out.grow (BB.out o)) (by omega)
        rw [hm] at this
        exact this
      have HX := Hid.mk (fun w' (ha : AB w' g (M ++ [⟨4, ⟨#[]⟩, (m : Int) + 1, 0⟩])) (hr : Rl w' B l[k].l (V k)) => HIH.out l[k] (List.getElem_mem hkl') B (V k) g _ w' ha hr hB (HKI.out _ (List.getElem_mem hkl')) (by simp; omega))
      have HLX := Hid.mk (lay_len l[k] (HKI.out _ (List.getElem_mem hkl')))
      have HNX : Hid (M ++ split (m + 1) (m + 2 + l[k].nsz) :: (l[k].lay (m + 1) ++ [split 0 0]) = N ++ layK (l.take (k + 1)) N.length 0) := by
        show _ = _
        rw [HST.out k hkl' N.length 0, ← List.append_assoc, ← HM.out, show N.length + nszL (l.take k) + 2 * k = m by omega]
      have hmx : m + l[k].nsz + 2 ≤ 299 := by omega
      have HSB := Hid.mk hsub
      obtain ⟨va, vc, hv, -⟩ := hsub.len
      rw [hv] at c2 HX HSB
      clear hv
      generalize l[k].l.length = vn at c2 HX HSB
      generalize l[k] = x at c0 c1 c2 HX HNX HSB HLX hpk hmx
      have hi1 : (k : Int) < (n : Int) := by omega
      clear hel hsub hss hle htk hml RR HIH HKI HLE HTK HLL HST HEN HQ HM HAM HR
      go_wp2_with fail
      refine (HF.out _).mono ?_
      rintro e w2 ⟨rfl, h2a, m2⟩
      have X2 := Hid.mk (m2.box (Bz3.new wr (.int .i64 x.k) (.string x.s) (.slice va vn vc)) (by have := HB.out.size; omega))
      have MB2 := Hid.mk ((Mkd.below (BB.out _)).trans m2)
      have R2 := Hid.mk (MB2.out.tree hB HSB.out)
      have B2 := Hid.mk (HB.out.trans MB2.out)
      have hlw : w.heap.size < wr.heap.size := HP.out.lt
      have P2 := Hid.mk (HP.out.kept (MB2.out.block w.heap.size hlw (by omega)))
      have A2 := Hid.mk h2a
      have HX2 := Hid.mk (HX.out w2 A2.out R2.out)
      have y0 := X2.out.c0
      have y1 := X2.out.c1
      have y2 := X2.out.c2
      clear HF h2a m2 MB2 HB HP HX c0 c1 c2 BB HSB
      go_wp2_with fail
      refine HX2.out.mono ?_
      rintro e w3 ⟨⟨q, rfl⟩, h3, m3⟩
      have B3 := Hid.mk (B2.out.trans m3)
      have P3 := Hid.mk (P2.out.kept (m3.block w.heap.size P2.out.lt (by omega)))
      have e3 : M ++ [(⟨4, ⟨#[]⟩, (m : Int) + 1, 0⟩ : Nd)] ++ x.lay (M ++ [(⟨4, ⟨#[]⟩, (m : Int) + 1, 0⟩ : Nd)]).length = M ++ (⟨4, ⟨#[]⟩, (m : Int) + 1, 0⟩ : Nd) :: x.lay (m + 1) := by
        rw [List.length_append, hm, List.append_assoc]
        rfl
      rw [e3] at h3
      generalize hF : (⟨4, ⟨#[]⟩, (m : Int) + 1, 0⟩ : Nd) = F at h3
      have HFF := Hid.mk hF
      have hl3 : (M ++ F :: x.lay (m + 1)).length = m + 1 + x.nsz := by rw [List.length_append, List.length_cons, HLX.out, hm]; omega
      have HL := Hid.mk (arrLay_any _ g 4 w3 h3 (by rw [hl3]; omega))
      rw [hl3] at HL
      clear h3 m3 HX2 B2 P2 hF R2 X2 y0 y1 y2 A2 e3
      go_wp2_with fail
      refine HL.out.mono ?_
      rintro e w4 ⟨rfl, h4, m4⟩
      have B4 := B3.out.trans m4
      have P4 := P3.out.kept (m4.block w.heap.size P3.out.lt (by omega))
      have p4 := P4.cell hkl
      rw [if_neg (Nat.lt_irrefl _)] at p4
      have pf := P4.fr k
      have P5 := P4.set hkl
      rw [hpk] at P5
      have A5 := h4.setOther (c := w.heap.size) (o := k) (by omega) (.pointer (some ⟨g, (m + 1 + x.nsz) * 4, none⟩))
      have B5 := B4.setNew (c := w.heap.size) (o := k) (Nat.le_refl _) (.pointer (some ⟨g, (m + 1 + x.nsz) * 4, none⟩))
      have cn := A5.cntL hl3
      rw [show ((m + 1 + x.nsz : Nat) : Int) + 1 = ((m + 2 + x.nsz : Nat) : Int) by omega] at cn
      rw [List.append_assoc, List.cons_append] at A5
      have hlt5 : M.length < (M ++ F :: (x.lay (m + 1) ++ [(⟨4, ⟨#[]⟩, 0, 0⟩ : Nd)])).length := by simp
      obtain ⟨e0, e1, e2, e3⟩ := A5.at4 (i := M.length) hlt5
      have f5 := A5.fr (m * 4 + 3)
      have A6 := A5.setB (i := M.length) hlt5 ((m + 2 + x.nsz : Nat) : Int)
      rw [get_mid hlt5, set_mid, ← HFF.out, hm] at A6
      rw [get_mid hlt5, ← HFF.out, hm] at e0 e1 e2 e3
      have HA6 := Hid.mk A6
      have HP6 := Hid.mk (P5.setOther (c := g) (o := m * 4 + 3) (by omega) (.int .i64 ((m + 2 + x.nsz : Nat) : Int)))
      have HB6 := Hid.mk (B5.set (o := m * 4 + 3) (.int .i64 ((m + 2 + x.nsz : Nat) : Int)))
      have hlb : w.heap.size < w4.heap.size := P4.lt
      simp only at e0 e1 e2 e3
      clear h4 m4 HL B3 P3 B4 P4 P5 A5 B5 A6 HFF hlt5 hl3 HLX hm hpk e0 e1 e2
      generalize hnx : x.nsz = xn at *
      generalize hxl : x.lay (m + 1) = xl at *
      clear hnx hxl
      go_wp2
      go_roundw
      case rel => exact ⟨k + 1, _, by omega, by go_num, HNX, HA6, HP6, HB6⟩
      case measure => simp [intOf]; omega
    · have ek : k = n := by omega
      subst ek
      have hkl' : k < l.length := by omega
      have RR := Hid.mk (HB.out.tree hB HR.out)
      obtain ⟨b, off, V, rfl, hel⟩ := RR.out.elems (by intro hn; rw [hn] at hkl'; simp at hkl')
      obtain ⟨⟨c0, c1, c2⟩, hsub, hss⟩ := hel k hkl'
      have htk := HTK.out k hkl'
      have hml : M.length = N.length + (nszL (l.take k) + 2 * k) := by rw [HM.out, List.length_append, HLL.out k _ _ (by omega)]
      obtain ⟨m, hm⟩ : ∃ m, M.length = m := ⟨_, rfl⟩
      obtain ⟨q, hq⟩ : ∃ q, N.length + (nszL l + 2 * (k + 1 - 1)) = q := ⟨_, rfl⟩
      have hqm : m + l[k].nsz = q := by have h1 := HQ.out; omega
      have HX : Hid (Calls Tryz.prog 16 #[.pointer (some ⟨g, 0, none⟩), rx l[k].k l[k].s (V k)] wr fun e w' => (∃ x, e = .returned x) ∧ AB w' g (M ++ l[k].lay M.length) ∧ Mkd g wr w') := HIH.out l[k] (List.getElem_mem hkl') B (V k) g M wr HAM.out hsub hB (HKI.out _ (List.getElem_mem hkl')) (by omega)
      have HEN' : Hid (∀ Z, l[k].lay m = Z → N ++ layA l N.length q = N ++ layK (l.take k) N.length q ++ Z) := fun Z hZ => by rw [HEN.out hkl' N.length q, ← hZ, List.append_assoc]; congr 3; omega
      have HLX := Hid.mk (lay_len l[k] (HKI.out _ (List.getElem_mem hkl')) m)
      have HMA : Hid (∀ (j : Nat), j < k → ∀ f : Nat → Nat, ∃ P Q, (N ++ P).length = ps j ∧ ∀ f' : Nat → Nat, (∀ n, n ≠ j → f' n = f n) → layM f' (l.take k) 0 N.length = P ++ split (f' j) (f' j) :: Q) := fun j hj f => by
        obtain ⟨P, Q, h1, h2⟩ := layM_at f (l.take k) j (by simp; omega) (fun x hx => lay_len x (HKI.out x (List.mem_of_mem_take hx))) 0 N.length
        refine ⟨P, Q, ?_, fun f' hf => ?_⟩
        · rw [List.length_append, h1, HPS.out, wtM, wtM, List.take_take, Nat.min_eq_left (by omega)]
        · have := h2 f' (by simpa using hf)
          simpa using this
      have HS0 : Hid (layM (fun i => if i < 0 then q else 0) (l.take k) 0 N.length = layK (l.take k) N.length 0) := layM_const 0 _ _ _ _ fun j _ _ => if_neg (Nat.not_lt_zero j)
      have HSN : Hid (layM (fun i => if i < k then q else 0) (l.take k) 0 N.length = layK (l.take k) N.length q) := layM_const q _ _ _ _ fun j _ h2 => by
        rw [List.length_take] at h2
        exact if_pos (by omega)
      rw [hm] at HX
      have HQQ := Hid.mk hq
      have HLM : Hid (∀ f, (layM f (l.take k) 0 N.length).length = nszL (l.take k) + 2 * k) := fun f => by
        have := layM_len f (l.take k) (fun x hx => lay_len x (HKI.out x (List.mem_of_mem_take hx))) 0 N.length
        rwa [List.length_take, Nat.min_eq_left (by omega)] at this
      have hmq : N.length + (nszL (l.take k) + 2 * k) = m := by omega
      have hq300 : q ≤ 299 := by omega
      obtain ⟨va, vc, hv, -⟩ := hsub.len
      rw [hv] at c2 HX
      clear hv
      generalize l[k].l.length = vn at c2 HX
      generalize hZZ : l[k].lay m = Z at HX HEN' HLX
      have HE2 := Hid.mk (HEN'.out Z rfl)
      generalize l[k] = x at c0 c1 c2 HX HLX hqm
      clear hel hsub hss htk hml RR HIH HKI HLE HTK HST HEN HAM HR HEN' hZZ
      go_wp2_with fail
      refine HX.out.mono ?_
      rintro e w3 ⟨⟨qq, rfl⟩, h3, m3⟩
      have B3 := Hid.mk (HB.out.trans m3)
      have P3 := Hid.mk (HP.out.kept (m3.block w.heap.size HP.out.lt (by omega)))
      have A3 : Hid (AB w3 g (N ++ layM (fun i => if i < 0 then q else 0) (l.take k) 0 N.length ++ Z)) := by
        show AB _ _ _
        rw [HS0.out, ← HM.out]
        exact h3
      have HLEN : Hid (∀ f, (N ++ layM f (l.take k) 0 N.length ++ Z).length = q) := fun f => by
        rw [List.length_append, List.length_append, HLM.out, HLX.out]; omega
      clear h3 m3 HX HB HP HM c0 c1 c2 HS0 HLX HLL
      go_wp2_with fail
      go_loopw [51] (fun i wr => ∃ (j : Nat), j ≤ k ∧ i = .int .i64 j ∧ Hid (AB wr g (N ++ layM (fun i => if i < j then q else 0) (l.take k) 0 N.length ++ Z)) ∧ Hid (PBk wr w.heap.size g ps k k) ∧ Hid (Mkd g w wr)) (fun i _ => k - (intOf i).toNat)
      case atStart => exact ⟨0, Nat.zero_le _, rfl, A3, P3, B3⟩
      case round =>
        obtain ⟨j, hjk, rfl, HA, HP, HB⟩ := hrel
        clear A3 P3 B3
        by_cases hj : j < k
        · obtain ⟨P, Q, hP, hPQ⟩ := HMA.out j hj (fun i => if i < j then q else 0)
          have h0 := hPQ (fun i => if i < j then q else 0) (fun _ _ => rfl)
          have h1 := hPQ (fun i => if i < j + 1 then q else 0) (fun i hi => by
            show (if i < j + 1 then q else 0) = (if i < j then q else 0)
            by_cases h : i < j
            · rw [if_pos h, if_pos (by omega)]
            · rw [if_neg h, if_neg (by omega)])
          rw [if_neg (Nat.lt_irrefl _)] at h0
          rw [if_pos (Nat.lt_succ_self _)] at h1
          have HA0 := HA.out
          have hcn := HA0.cnt
          rw [HLEN.out] at hcn
          rw [h0, ← List.append_assoc, List.append_assoc, List.cons_append] at HA0
          obtain ⟨d0, d1, d2, d3⟩ := HA0.midC hP
          have f2 := HA0.fr (ps j * 4 + 2)
          have f3 := HA0.fr (ps j * 4 + 3)
          have HA1 : Hid (AB ((wr.drew.setCell ⟨g, ps j * 4 + 2, none⟩ (.int .i64 (q : Int))).setCell ⟨g, ps j * 4 + 3, none⟩ (.int .i64 (q : Int))) g (N ++ layM (fun i => if i < j + 1 then q else 0) (l.take k) 0 N.length ++ Z)) := by
            show AB _ _ _
            rw [h1, ← List.append_assoc, List.append_assoc, List.cons_append]
            exact (HA0.grow (Below.drewSelf wr.heap.size wr 1)).setMid hP (q : Int) (q : Int)
          have HP1 := Hid.mk (((HP.out.kept ((Below.drewSelf wr.heap.size wr 1).block _ HP.out.lt)).setOther (c := g) (o := ps j * 4 + 2) (by omega) (.int .i64 (q : Int))).setOther (c := g) (o := ps j * 4 + 3) (by omega) (.int .i64 (q : Int)))
          have HB1 := Hid.mk (((HB.out.trans (Mkd.below (Below.drewSelf wr.heap.size wr 1))).set (o := ps j * 4 + 2) (.int .i64 (q : Int))).set (o := ps j * 4 + 3) (.int .i64 (q : Int)))
          have pc := HP.out.cell hj
          rw [if_pos hj] at pc
          have hji : (j : Int) < (k : Int) := by omega
          simp only [split] at d0 d1 d2 d3
          clear HA HA0 h0 h1 hPQ HP HB HMA HLEN HLM HSN HE2 HQQ
          have hcd : wr.drew.cell? ⟨g, 1200, none⟩ = some (.int .i64 (q : Int)) := by simpa using hcn
          obtain ⟨S, hS⟩ : ∃ S : World → Prop, ∀ w', S w' ↔ w'.cell? ⟨g, 1200, none⟩ = some (.int .i64 (q : Int)) := ⟨_, fun _ => Iff.rfl⟩
          have S0 : S wr.drew := (hS _).2 hcd
          go_wp2_with fail
          refine wp_region_held_drew (S := S) (by kernel_rfl) S0 (fun _ => ?_)
          refine takeHD (i := 0) (v := .pointer (some ⟨g, ps j * 4, none⟩)) (some 55) rfl rfl (by kernel_rfl) (by kernel_rfl) (by kernel_rfl) (fun _ _ _ h => h) (Or.inl ⟨by kernel_rfl, fun w' hw => ?_⟩) S0 ?_
          · kernel_rfl
          simp only [Act.put, List.setIfInBounds_toArray]
          refine takeHD (i := 1) (v := .pointer (some ⟨g, ps j * 4, none⟩)) (some 56) rfl rfl (by kernel_rfl) (by kernel_rfl) (by kernel_rfl) (fun _ _ _ h => h) (Or.inl ⟨by kernel_rfl, fun w' hw => ?_⟩) S0 ?_
          · kernel_rfl
          simp only [Act.put, List.setIfInBounds_toArray]
          refine takeHD (i := 2) (v := .pointer (some ⟨g, 0, none⟩)) (some 57) rfl rfl (by kernel_rfl) (by kernel_rfl) (by kernel_rfl) (fun _ _ _ h => h) (Or.inl ⟨by kernel_rfl, fun w' hw => ?_⟩) S0 ?_
          · kernel_rfl
          simp only [Act.put, List.setIfInBounds_toArray]
          refine takeHD (i := 3) (v := .pointer (some ⟨g, 0, none⟩)) (some 58) rfl rfl (by kernel_rfl) (by kernel_rfl) (by kernel_rfl) (fun _ _ _ h => h) (Or.inl ⟨by kernel_rfl, fun w' hw => ?_⟩) S0 ?_
          · kernel_rfl
          simp only [Act.put, List.setIfInBounds_toArray]
          refine takeHD (i := 4) (v := .pointer (some ⟨g, 1200, none⟩)) (some 59) rfl rfl (by kernel_rfl) (by kernel_rfl) (by kernel_rfl) (fun _ _ _ h => h) (Or.inl ⟨by kernel_rfl, fun w' hw => ?_⟩) S0 ?_
          · kernel_rfl
          simp only [Act.put, List.setIfInBounds_toArray]
          refine takeHD (i := 5) (v := .int .i64 (q : Int)) (some 60) rfl rfl (by kernel_rfl) (by kernel_rfl) (by kernel_rfl) (fun _ _ _ h => h) (Or.inl ⟨by kernel_rfl, fun w' hw => ?_⟩) S0 ?_
          · have y := (hS _).1 hw; go_simp
          simp only [Act.put, List.setIfInBounds_toArray]
          refine takeHD (i := 6) (v := .pointer (some ⟨g, 0, none⟩)) (some 61) rfl rfl (by kernel_rfl) (by kernel_rfl) (by kernel_rfl) (fun _ _ _ h => h) (Or.inl ⟨by kernel_rfl, fun w' hw => ?_⟩) S0 ?_
          · kernel_rfl
          simp only [Act.put, List.setIfInBounds_toArray]
          refine takeHD (i := 7) (v := .pointer (some ⟨g, 0, none⟩)) (some 62) rfl rfl (by kernel_rfl) (by kernel_rfl) (by kernel_rfl) (fun _ _ _ h => h) (Or.inl ⟨by kernel_rfl, fun w' hw => ?_⟩) S0 ?_
          · kernel_rfl
          simp only [Act.put, List.setIfInBounds_toArray]
          refine takeHD (i := 8) (v := .pointer (some ⟨g, 1200, none⟩)) (some 63) rfl rfl (by kernel_rfl) (by kernel_rfl) (by kernel_rfl) (fun _ _ _ h => h) (Or.inl ⟨by kernel_rfl, fun w' hw => ?_⟩) S0 ?_
          · kernel_rfl
          simp only [Act.put, List.setIfInBounds_toArray]
          refine takeHD (i := 9) (v := .int .i64 (q : Int)) (some 64) rfl rfl (by kernel_rfl) (by kernel_rfl) (by kernel_rfl) (fun _ _ _ h => h) (Or.inl ⟨by kernel_rfl, fun w' hw => ?_⟩) S0 ?_
          · have y := (hS _).1 hw; go_simp
          simp only [Act.put, List.setIfInBounds_toArray]
          refine takeHD (i := 10) (v := .pointer (some ⟨g, ps j * 4, none⟩)) (some 65) rfl rfl (by kernel_rfl) (by kernel_rfl) (by kernel_rfl) (fun _ _ _ h => h) (Or.inl ⟨by kernel_rfl, fun w' hw => ?_⟩) S0 ?_
          · kernel_rfl
          simp only [Act.put, List.setIfInBounds_toArray]
          refine takeHD (i := 11) (v := .pointer (some ⟨g, ps j * 4 + 2, none⟩)) (some 66) rfl rfl (by kernel_rfl) (by kernel_rfl) (by kernel_rfl) (fun _ _ _ h => h) (Or.inl ⟨by kernel_rfl, fun w' hw => ?_⟩) S0 ?_
          · kernel_rfl
          simp only [Act.put, List.setIfInBounds_toArray]
          have e2 : wr.drew.cell? ⟨g, ps j * 4 + 2, none⟩ = some (.int .i64 ((0 : Nat) : Int)) := by simpa using d2
          have ef2 : wr.drew.frozen? ⟨g, ps j * 4 + 2, none⟩ = false := by simpa using f2
          refine wpAnyH_ready (rs := [12]) (by kernel_rfl) (by simp) ?_
          refine AllReadyH.cons rfl (fun K hK => ?_) AllReadyH.nil
          rw [if_pos (by kernel_rfl)]
          go_wp2_with fail
          have S1 : S (wr.drew.setCell ⟨g, ps j * 4 + 2, none⟩ (.int .i64 (q : Int))) := (hS _).2 ((World.cell?_setCell_other wr.drew _ _ _ (by simp)).trans hcd)
          refine hK.out _ _ S1 (fun _ => ?_)
          clear hK K
          refine takeHD (i := 13) (v := .pointer (some ⟨g, ps j * 4, none⟩)) (some 67) rfl rfl (by kernel_rfl) (by kernel_rfl) (by kernel_rfl) (fun _ _ _ h => h) (Or.inl ⟨by kernel_rfl, fun w' hw => ?_⟩) S1 ?_
          · kernel_rfl
          simp only [Act.put, List.setIfInBounds_toArray]
          refine takeHD (i := 14) (v := .pointer (some ⟨g, ps j * 4 + 3, none⟩)) (some 68) rfl rfl (by kernel_rfl) (by kernel_rfl) (by kernel_rfl) (fun _ _ _ h => h) (Or.inl ⟨by kernel_rfl, fun w' hw => ?_⟩) S1 ?_
          · kernel_rfl
          simp only [Act.put, List.setIfInBounds_toArray]
          refine wpAnyH_ready (rs := [15]) (by kernel_rfl) (by simp) ?_
          refine AllReadyH.cons rfl (fun K hK => ?_) AllReadyH.nil
          rw [if_pos (by kernel_rfl)]
          go_wp2_with fail
          have S2 : S ((wr.drew.setCell ⟨g, ps j * 4 + 2, none⟩ (.int .i64 (q : Int))).setCell ⟨g, ps j * 4 + 3, none⟩ (.int .i64 (q : Int))) := (hS _).2 ((World.cell?_setCell_other (wr.drew.setCell ⟨g, ps j * 4 + 2, none⟩ (.int .i64 (q : Int))) _ _ _ (by simp)).trans ((hS _).1 S1))
          refine hK.out _ _ S2 (fun _ => ?_)
          clear hK K
          refine wpAnyH_done (by kernel_rfl) ?_ _
          go_wp2
          go_roundw
          case rel => exact ⟨j + 1, by omega, by go_num, HA1, HP1, HB1⟩
          case measure => simp [intOf]; omega
        · have ej : j = k := by omega
          subst ej
          have HF : Hid (AB wr g (N ++ layA l N.length (N.length + (nszL l + 2 * (j + 1 - 1))))) := by
            show AB _ _ _
            rw [HQQ.out, HE2.out, ← HSN.out]
            exact HA.out
          clear HA HMA HLEN HLM HSN HE2 HQQ HP
          go_wp2
          refine bodyPost_end (v := .tuple #[]) (by simp [results, Tryz.results37, go_sem]) rfl ⟨⟨_, rfl⟩, HF.out, HB.out⟩
end Go.Proofs.YtapniafhcagogaaGreatDoor
