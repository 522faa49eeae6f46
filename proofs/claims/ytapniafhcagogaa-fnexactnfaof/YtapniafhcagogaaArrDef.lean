/- The program's array of nodes: where they lie, and what lays one. -/
import Derived.Test.YtapniafhcagogaaMarkNode
import Derived.Test.YtapniafhcagogaaAppNode
import Derived.Test.YtapniafhcagogaaNfaLay
import Derived.Test.YtapniafhcagogaaTxtClone
namespace Go.Proofs.Ytapniafhcagogaa
open Go.RowKit
set_option maxRecDepth 8000

/-- The nodes, and the room behind them. -/
def padN (N : List Nd) : List Nd := N ++ List.replicate (300 - N.length) nd0
theorem padN_len {N : List Nd} (h : N.length ≤ 300) : (padN N).length = 300 := by simp [padN]; omega
/-- The cells of the array. -/
def arC (N : List Nd) : List Value := ndCells (padN N) ++ [.int .i64 (N.length : Int)]
/-- The block g is an array with these nodes. -/
def AB (w : World) (g : Nat) (N : List Nd) : Prop := w.heap[g]? = some (.cells (arC N).toArray 73 (0, 0)) ∧ N.length ≤ 300
theorem AB.lt {w : World} {g : Nat} {N : List Nd} (h : AB w g N) : g < w.heap.size := (Array.getElem?_eq_some_iff.1 h.1).1
theorem AB.kept {w w' : World} {g : Nat} {N : List Nd} (h : AB w g N) (hh : w'.heap[g]? = w.heap[g]?) : AB w' g N := ⟨by rw [hh]; exact h.1, h.2⟩
theorem AB.grow {w w' : World} {g : Nat} {N : List Nd} (h : AB w g N) (hb : Below w.heap.size w w') : AB w' g N := h.kept (hb.block g h.lt)
theorem AB.cnt {w : World} {g : Nat} {N : List Nd} (h : AB w g N) : w.cell? ⟨g, 1200, none⟩ = some (.int .i64 (N.length : Int)) := by
  rw [cell_of_row w g _ _ _ (0, 0) h.1, List.getElem?_toArray]
  unfold arC
  rw [List.getElem?_append_right (by rw [ndCells_len, padN_len h.2]; omega), ndCells_len, padN_len h.2]
  rfl
theorem AB.fr {w : World} {g : Nat} {N : List Nd} (h : AB w g N) (o : Nat) : w.frozen? ⟨g, o, none⟩ = false := frozen_of_row w g o _ _ h.1
theorem pad_set {N : List Nd} {i : Nat} (h : i < N.length) (x : Nd) : (padN N).set i x = padN (N.set i x) := by
  unfold padN
  rw [List.set_append_left _ _ h, List.length_set]
theorem pad_get {N : List Nd} {i : Nat} (h : i < N.length) (h' : i < (padN N).length) : (padN N)[i] = N[i] := by
  rw [List.getElem_of_eq (show padN N = N ++ List.replicate (300 - N.length) nd0 from rfl) h', List.getElem_append_left h]
theorem pad_next {N : List Nd} (h : N.length < 300) (x : Nd) : (padN N).set N.length x = padN (N ++ [x]) := by
  unfold padN
  rw [List.set_append_right _ _ (Nat.le_refl _), Nat.sub_self, List.length_append, List.length_singleton, show 300 - N.length = 300 - (N.length + 1) + 1 by omega, List.replicate_succ, List.set_cons_zero, List.append_assoc]
  rfl
theorem pad_room {N : List Nd} (h' : N.length < (padN N).length) : (padN N)[N.length] = nd0 := by
  rw [List.getElem_of_eq (show padN N = N ++ List.replicate (300 - N.length) nd0 from rfl) h', List.getElem_append_right (Nat.le_refl _), List.getElem_replicate]
theorem AB.at4p {w : World} {g : Nat} {N : List Nd} (h : AB w g N) {i : Nat} (hi : i < (padN N).length) : At4 w g (i * 4) (padN N)[i] := by
  obtain ⟨h0, h1, h2, h3⟩ := ndCells_get (padN N) i hi
  have hc := ndCells_len (padN N)
  have e : ∀ o, o < (ndCells (padN N)).length → (arC N)[o]? = (ndCells (padN N))[o]? := fun o ho => List.getElem?_append_left ho
  refine ⟨?_, ?_, ?_, ?_⟩ <;> rw [cell_of_row w g _ _ _ (0, 0) h.1, List.getElem?_toArray, e _ (by rw [hc]; omega)]
  · exact h0
  · exact h1
  · exact h2
  · exact h3
theorem AB.at4 {w : World} {g : Nat} {N : List Nd} (h : AB w g N) {i : Nat} (hi : i < N.length) : At4 w g (i * 4) N[i] := by
  have := h.at4p (i := i) (by rw [padN_len h.2]; have := h.2; omega)
  rwa [pad_get hi] at this
theorem AB.room {w : World} {g : Nat} {N : List Nd} (h : AB w g N) (hN : N.length < 300) : At4 w g (N.length * 4) nd0 := by
  have := h.at4p (i := N.length) (by rw [padN_len h.2]; exact hN)
  rwa [pad_room] at this
theorem arC_set {N : List Nd} (h : N.length ≤ 300) (o : Nat) (ho : o < 1200) (v : Value) : (arC N).set o v = (ndCells (padN N)).set o v ++ [.int .i64 (N.length : Int)] := by
  unfold arC
  rw [List.set_append_left _ _ (by rw [ndCells_len, padN_len h]; omega)]
theorem AB.setA {w : World} {g : Nat} {N : List Nd} (h : AB w g N) {i : Nat} (hi : i < N.length) (x : Int) : AB (w.setCell ⟨g, i * 4 + 2, none⟩ (.int .i64 x)) g (N.set i { N[i] with a := x }) := by
  have h3 := h.2
  have hl := padN_len h.2
  refine ⟨?_, by simpa using h.2⟩
  rw [heap_setCell_same w g (i * 4 + 2) _ _ _ h.1, List.setIfInBounds_toArray, arC_set h.2 _ (by omega), ndCells_a (padN N) i x (by omega), pad_get hi, pad_set hi]
  unfold arC
  rw [List.length_set]
theorem AB.setB {w : World} {g : Nat} {N : List Nd} (h : AB w g N) {i : Nat} (hi : i < N.length) (x : Int) : AB (w.setCell ⟨g, i * 4 + 3, none⟩ (.int .i64 x)) g (N.set i { N[i] with b := x }) := by
  have h3 := h.2
  have hl := padN_len h.2
  refine ⟨?_, by simpa using h.2⟩
  rw [heap_setCell_same w g (i * 4 + 3) _ _ _ h.1, List.setIfInBounds_toArray, arC_set h.2 _ (by omega), ndCells_b (padN N) i x (by omega), pad_get hi, pad_set hi]
  unfold arC
  rw [List.length_set]
theorem AB.setS {w : World} {g : Nat} {N : List Nd} (h : AB w g N) {i : Nat} (hi : i < N.length) (x : ByteArray) : AB (w.setCell ⟨g, i * 4 + 1, none⟩ (.string x)) g (N.set i { N[i] with s := x }) := by
  have h3 := h.2
  have hl := padN_len h.2
  refine ⟨?_, by simpa using h.2⟩
  rw [heap_setCell_same w g (i * 4 + 1) _ _ _ h.1, List.setIfInBounds_toArray, arC_set h.2 _ (by omega), ndCells_s (padN N) i x (by omega), pad_get hi, pad_set hi]
  unfold arC
  rw [List.length_set]
theorem AB.next {w : World} {g : Nat} {N : List Nd} (h : AB w g N) (hN : N.length < 300) (k : Int) : AB ((w.setCell ⟨g, N.length * 4, none⟩ (.int .i64 k)).setCell ⟨g, 1200, none⟩ (.int .i64 ((N.length : Int) + 1))) g (N ++ [⟨k, ⟨#[]⟩, 0, 0⟩]) := by
  have hl := padN_len h.2
  refine ⟨?_, by simp; omega⟩
  have h1 := heap_setCell_same w g (N.length * 4) _ _ (.int .i64 k) h.1
  rw [heap_setCell_same _ g 1200 _ _ (.int .i64 ((N.length : Int) + 1)) h1, List.setIfInBounds_toArray, List.setIfInBounds_toArray, arC_set h.2 _ (by omega), ndCells_k (padN N) N.length k (by omega), pad_room, pad_next hN]
  have hc : (ndCells (padN (N ++ [⟨k, ⟨#[]⟩, 0, 0⟩]))).length = 1200 := by rw [ndCells_len, padN_len (by simp; omega)]
  unfold arC
  rw [List.set_append_right _ _ (by show (ndCells (padN (N ++ [⟨k, ⟨#[]⟩, 0, 0⟩]))).length ≤ 1200; rw [hc]; exact Nat.le_refl _)]
  show some (Obj.cells (ndCells (padN (N ++ [⟨k, ⟨#[]⟩, 0, 0⟩])) ++ [Value.int IntKind.i64 (N.length : Int)].set (1200 - (ndCells (padN (N ++ [⟨k, ⟨#[]⟩, 0, 0⟩]))).length) _).toArray _ _) = _
  rw [hc]
  simp

set_option maxHeartbeats 1000000 in
theorem arrLay_any (N : List Nd) (g : Nat) (k : Int) (w : World) (h : AB w g N) (hN : N.length < 300) :
    Calls Try.prog 50 #[.pointer (some ⟨g, 0, none⟩), .int .i64 k] w fun e w' => e = .returned (.pointer (some ⟨g, N.length * 4, none⟩)) ∧ AB w' g (N ++ [⟨k, ⟨#[]⟩, 0, 0⟩]) ∧ Mkd g w w' := by
  have c := h.cnt
  obtain ⟨c0, -, -, -⟩ := h.room hN
  have f0 := h.fr (N.length * 4)
  have f1 := h.fr 1200
  have HA := Hid.mk h
  clear h
  go_enter Try.func50, Try.ntmps50
  go_wp2
  go_quiet (fail)
  go_wp2
  go_ret
  exact ⟨rfl, (HA.out.grow (Below.drewSelf _ _ _)).next hN k, (((Mkd.below (Below.drewSelf _ _ _)).set _).set _)⟩
end Go.Proofs.Ytapniafhcagogaa
