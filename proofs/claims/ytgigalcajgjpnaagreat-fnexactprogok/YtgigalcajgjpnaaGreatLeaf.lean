/- The small functions of the laws over slices of bytes: a copy, whether two are the same, marks, whether marks are held. -/
import Derived.Test.YtgigalcajgjpnaaGreatBytes
namespace Go.Proofs.YtgigalcajgjpnaaGreat
open Go.RowKit

theorem info5 : (Tryz.prog.info? 5).map (fun i => (i.zero, i.size, i.bytes)) = some (some (.int .u8 0), 1, 1) := by kernel_rfl

theorem U8_set (xs : List Int) (j : Nat) (z : Int) : (U8 xs).set j (.int .u8 z) = U8 (xs.set j z) := by simp [U8, List.map_set]
theorem made_u8 (n : Nat) : (madeCells #[Value.int .u8 0] n).toList = U8 (List.replicate n 0) := by
  rw [toList_madeCells_one]; simp [U8]

theorem copy_step (zs : List Int) (k : Nat) (hk : k < zs.length) :
    (zs.take k ++ List.replicate (zs.length - k) 0).set k (zs.getD k 0) = zs.take (k + 1) ++ List.replicate (zs.length - (k + 1)) 0 := by
  apply List.ext_getElem?
  intro i
  by_cases h : i = k
  · subst h
    rw [List.getElem?_set_self (by simp; omega), List.getElem?_append_left (by simp; omega)]
    simp [List.getD, hk]
  · rw [List.getElem?_set_ne (by omega)]
    simp only [List.getElem?_append, List.length_take, List.getElem?_take, List.getElem?_replicate]
    grind

/-- The marks that 'markByteS' lays: k, k+1, .. as bytes. -/
def marks (k : Int) (n : Nat) : List Int := (List.range n).map fun (i : Nat) => (k + (i : Int)) % 256

theorem marks_length (k : Int) (n : Nat) : (marks k n).length = n := by simp [marks]
theorem marks_byte (k : Int) (n : Nat) : byteList (marks k n) := by
  intro z hz
  obtain ⟨i, _, rfl⟩ := List.mem_map.1 hz
  omega
theorem marks_getD (k : Int) (n i : Nat) (h : i < n) : (marks k n).getD i 0 = (k + i) % 256 := by simp [marks, List.getD, h]

theorem mark_step (xs : List Int) (k : Nat) (hk : k < xs.length) :
    (marks 1 k ++ xs.drop k).set k ((1 + (k : Int)) % 256) = marks 1 (k + 1) ++ xs.drop (k + 1) := by
  apply List.ext_getElem?
  intro i
  by_cases h : i = k
  · subst h
    rw [List.getElem?_set_self (by simp [marks]; omega), List.getElem?_append_left (by simp [marks])]
    simp [marks]
  · rw [List.getElem?_set_ne (by omega)]
    by_cases h2 : i < k
    · rw [List.getElem?_append_left (by simp [marks]; omega), List.getElem?_append_left (by simp [marks]; omega)]
      simp [marks, h2, show i < k + 1 by omega]
    · rw [List.getElem?_append_right (by simp [marks]; omega), List.getElem?_append_right (by simp [marks]; omega)]
      simp only [marks_length, List.getElem?_drop]
      congr 1
      omega

theorem wrap_u8_int (n : Int) : IntKind.u8.wrap n = n % 256 := IntKind.wrap_u8 n

end Go.Proofs.YtgigalcajgjpnaaGreat
