/- The places that are told, ascending: the model's answer. -/
import Derived.Test.YthifleacfhijnaaDoorMatAllB
import Derived.Test.YthifleacfhijnaaDoorRexOkT
namespace Go.Proofs.YthifleacfhijnaaDoor
open Go.RowKit
set_option maxRecDepth 8000

/-- The places of a row, ascending. -/
def rowL (n : Nat) (f : Nat → Bool) : List Nat := (List.range (n + 1)).filter f
/-- The first of them. -/
def rowUpto (f : Nat → Bool) (k : Nat) : List Nat := (List.range k).filter f

theorem rowUpto_yes (f : Nat → Bool) (k : Nat) (h : f k = true) : rowUpto f (k + 1) = rowUpto f k ++ [k] := by
  unfold rowUpto
  rw [List.range_succ, List.filter_append]
  simp [h]
theorem rowUpto_no (f : Nat → Bool) (k : Nat) (h : f k = false) : rowUpto f (k + 1) = rowUpto f k := by
  unfold rowUpto
  rw [List.range_succ, List.filter_append]
  simp [h]
theorem rowUpto_len (f : Nat → Bool) (k : Nat) : (rowUpto f k).length ≤ k := by
  unfold rowUpto
  have := List.length_filter_le f (List.range k)
  simpa using this

/-- An owned slice of numbers. -/
def OwnI (w : World) (base : Nat) (v : Value) (xs : List Nat) : Prop := w.ownsRow base 3 1 v xs.length (xs.map fun (x : Nat) => Value.int .i64 (x : Int))

theorem infoInt : (Tryd.prog.info? 3).map (fun i => (i.zero, i.size, i.bytes)) = some (some (.int .i64 0), 1, 8) := by kernel_rfl

set_option maxHeartbeats 1000000 in
theorem l4Row_any (n : Nat) (hn : n ≤ 200) (f : Nat → Bool) (b : Nat) (w : World) (hb : w.heap[b]? = some (.cells (rowOf n f) 4 (0, 0))) :
    Calls Tryd.prog 44 #[.slice (some ⟨b, 0, none⟩) (n + 1) (n + 1)] w fun e w' => ∃ v, e = .returned v ∧ OwnI w' w.heap.size v (rowL n f) ∧ Below w.heap.size w w' := by
  obtain ⟨ii, hii, hi0, hi1, hi2⟩ := info_parts infoInt
  have hbl : b < w.heap.size := (Array.getElem?_eq_some_iff.1 hb).1
  have HO : Hid (OwnI (w.alloc (.cells #[] 3)) w.heap.size (.slice (some ⟨w.heap.size, 0, none⟩) 0 0) (rowUpto f 0)) :=
    World.ownsRow_lit (base := w.heap.size) (e := 3) (size := 1) w #[] 0 (Nat.le_refl _) (by decide) rfl
  have HB0 : Hid (Below w.heap.size w (w.alloc (.cells #[] 3))) := (Below.refl _ _).alloc (Nat.le_refl _) _
  have HCELL : Hid (∀ wz, Below w.heap.size w wz → ∀ k, k ≤ n → wz.cell? ⟨b, k, none⟩ = some (.bool (f k))) := fun wz hz k hk => by
    rw [hz.cell (p := ⟨b, k, none⟩) hbl, cell_of_row w b k _ _ (0, 0) hb]
    exact rowOf_get n f k hk
  clear hb
  go_enter Tryd.func44, Tryd.ntmps44
  go_wp2
  go_loopw [3, 4] (fun o q wr => ∃ (k : Nat), k ≤ n + 1 ∧ q = .int .i64 k ∧ Hid (OwnI wr w.heap.size o (rowUpto f k)) ∧ Hid (Below w.heap.size w wr)) (fun _ q _ => n + 1 - (intOf q).toNat)
  case atStart => exact ⟨0, Nat.zero_le _, rfl, HO, HB0⟩
  case round =>
    obtain ⟨k, hk, rfl, HOr, HBr⟩ := hrel
    clear HO HB0
    by_cases hkn : (k : Int) < (n : Int) + 1
    · have hkl : k ≤ n := by omega
      have c1 := HCELL.out wr HBr.out k hkl
      cases hf : f k with
      | true =>
        rw [hf] at c1
        have HY := Hid.mk (rowUpto_yes f k hf)
        have hlen := rowUpto_len f k
        have HRO := Hid.mk (World.ownsRow.alloc HOr.out (.cells #[.int .i64 (k : Int)] 3))
        have HBA : Hid (Below w.heap.size w (wr.alloc (.cells #[.int .i64 (k : Int)] 3))) := HBr.out.alloc HBr.out.size _
        clear hf
        go_wp2_with (at_builtin; refine wpList_append_own_at _ rfl _ _ 29 rfl w.heap.size 3 ii _ 1 8 Tryd.underlying29 hii hi0 hi1 hi2 rfl (by decide) u3 (rowUpto f k).length _ rfl HRO.out ⟨wr.heap.size, 0, none⟩ 1 1 [.int .i64 (k : Int)] rfl rfl (cell_one_new _ _ _) (by simp [Value.oneCell']) (by unfold maxLen; omega) (by omega) (by have := HBA.out.size; simpa using this) ?_)
        intro v2 w2 hown2 hgrow2 _ hat2
        have HO2 : Hid (OwnI w2 w.heap.size v2 (rowUpto f (k + 1))) := by
          show OwnI _ _ _ _
          unfold OwnI
          rw [HY.out]
          simpa using hown2
        have HB2 : Hid (Below w.heap.size w w2) := HBA.out.grown hgrow2 HBA.out.size (fun g e => (World.ownsRow.lt HRO.out g e).1)
        clear hown2 hgrow2 hat2 HRO HBA HOr HBr HY
        go_wp2
        go_roundw
        case rel => exact ⟨k + 1, by omega, by go_num, HO2, HB2⟩
        case measure => simp [intOf]; omega
      | false =>
        rw [hf] at c1
        have HO2 : Hid (OwnI wr w.heap.size u3 (rowUpto f (k + 1))) := by
          show OwnI _ _ _ _
          rw [rowUpto_no f k hf]; exact HOr.out
        clear hf HOr
        go_wp2
        go_roundw
        case rel => exact ⟨k + 1, by omega, by go_num, HO2, HBr⟩
        case measure => simp [intOf]; omega
    · have hke : k = n + 1 := by omega
      subst hke
      go_wp2
      go_ret
      exact ⟨_, rfl, HOr.out, HBr.out⟩
end Go.Proofs.YthifleacfhijnaaDoor
