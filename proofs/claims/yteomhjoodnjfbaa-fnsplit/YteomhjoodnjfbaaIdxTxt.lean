/- Where a text stands in another: IndexOf, of the program and of the model. -/
import Derived.Test.YteomhjoodnjfbaaShelf
import Derived.Test.YteomhjoodnjfbaaBytes
import Derived.Lib.IndexLaws
import Derived.Lib.IndexBytes
import Derived.WalkSpells
namespace Go.Proofs.Yteomhjoodnjfbaa
open Go.RowKit
set_option maxRecDepth 8000

/-- What IndexOf answers. -/
def idxZ (s t : ByteArray) : Int := Lib.index s.data.toList t.data.toList + 1
theorem occ_extract (s t : ByteArray) (i : Nat) : ((s.extract i (i + t.size)).toList == t.toList) = Lib.occAt s.data.toList t.data.toList i := by
  have ht : t.data.toList.length = t.size := by rw [Array.length_toList]; rfl
  rw [ByteArray.toList_eq, ByteArray.toList_eq, ByteArray.data_extract, Array.toList_extract]
  unfold Lib.occAt
  have e : List.extract s.data.toList i (i + t.size) = (s.data.toList.drop i).take t.size := by
    rw [List.extract_eq_take_drop]
    congr 1
    omega
  rw [e]
  by_cases hp : t.data.toList.isPrefixOf (s.data.toList.drop i) = true
  · rw [hp]
    rw [List.isPrefixOf_iff_prefix, List.prefix_iff_eq_take, ht] at hp
    rw [← hp]
    simp
  · have hp' : t.data.toList.isPrefixOf (s.data.toList.drop i) = false := Bool.eq_false_iff.2 hp
    rw [hp', beq_eq_false_iff_ne]
    intro h2
    apply hp
    rw [List.isPrefixOf_iff_prefix, List.prefix_iff_eq_take, ht]
    exact h2.symm
theorem dlen (s : ByteArray) : s.data.toList.length = s.size := by rw [Array.length_toList]; rfl
theorem idx_hit (s t : ByteArray) (k : Nat) (h : Lib.NoOcc s.data.toList t.data.toList k) (hk : k ≤ s.size) (ho : Lib.occAt s.data.toList t.data.toList k = true) : idxZ s t = (k : Int) + 1 := by
  unfold idxZ
  rw [Lib.index_hit h (by rw [dlen]; exact hk) ho]
theorem idx_past (s t : ByteArray) (k : Nat) (h : Lib.NoOcc s.data.toList t.data.toList k) (hk : s.size < k + t.size) : idxZ s t = 0 := by
  unfold idxZ
  by_cases h0 : t.data.toList = []
  · have hz : t.size = 0 := by rw [← dlen, h0]; rfl
    have := h 0 (by omega)
    rw [h0] at this
    simp [Lib.occAt] at this
  · rw [Lib.index_past h0 h (by rw [dlen, dlen]; exact hk)]
    rfl
theorem idxZ_le (s t : ByteArray) : 0 ≤ idxZ s t := by
  have := Lib.index_ge s.data.toList t.data.toList
  unfold idxZ
  omega

set_option maxHeartbeats 1000000 in
theorem specIndexOf_any (s t : ByteArray) (w : World) (hs : s.size ≤ 1048576) (ht : t.size ≤ 1048576) :
    Calls Try.prog 37 #[.string s, .string t] w fun e w' => e = .returned (.int .i64 (idxZ s t)) ∧ w' = w := by
  have HO := Hid.mk (fun k => occ_extract s t k)
  have HH := Hid.mk (fun k => idx_hit s t k)
  have HP := Hid.mk (fun k => idx_past s t k)
  generalize idxZ s t = z at *
  go_enter Try.func37, Try.ntmps37
  go_wp2
  go_loop [5] (fun i => ∃ k : Nat, i = .int .i64 k ∧ k ≤ s.size + 1 ∧ Hid (Lib.NoOcc s.data.toList t.data.toList k)) (fun i => s.size + 2 - (intOf i).toNat)
  case atStart => exact ⟨0, rfl, by omega, Lib.NoOcc.zero _ _⟩
  case round =>
    obtain ⟨k, rfl, hk, HN⟩ := hrel
    by_cases hlt : (k : Int) ≤ (s.size : Int) - (t.size : Int)
    · have hle : k + t.size ≤ s.size := by omega
      have ho := HO.out k
      by_cases hoc : Lib.occAt s.data.toList t.data.toList k = true
      · rw [hoc] at ho
        have hz : z = (k : Int) + 1 := HH.out k HN.out (by omega) hoc
        subst hz
        have hki : (k : Int) + (t.size : Int) ≤ (s.size : Int) := by omega
        clear HO HH HP hoc
        go_wp2
        go_ret
        exact ⟨rfl, rfl⟩
      · have hoc' : Lib.occAt s.data.toList t.data.toList k = false := by simpa using hoc
        rw [hoc'] at ho
        have HN1 := Hid.mk (Lib.NoOcc.succ HN.out hoc')
        clear HO HH HP hoc hoc'
        go_wp2
        go_round
        case rel => exact ⟨k + 1, by go_num, by omega, HN1⟩
        case measure => simp [intOf]; omega
    · have hz : z = 0 := HP.out k HN.out (by omega)
      subst hz
      clear HO HH HP
      go_wp2
      go_ret
      exact ⟨rfl, rfl⟩

set_option maxHeartbeats 1000000 in
theorem implIndexOf_any (s t : ByteArray) (m : Int) (w : World) (hs : s.size ≤ 1048576) (hm : w.cell? ⟨0, 0, none⟩ = some (.int .i64 m)) :
    Calls Try.prog 36 #[.string s, .string t] w fun e w' => e = .returned (.int .i64 (idxZ s t)) ∧ w' = w := by
  have HC := Hid.mk (Try.strings_Index s t m w (by omega) hm)
  have hle : Lib.index s.data.toList t.data.toList ≤ 1048576 := by
    have h := Lib.index_le s.data.toList t.data.toList
    rw [dlen] at h
    omega
  have hge := Lib.index_ge s.data.toList t.data.toList
  unfold idxZ
  generalize Lib.index s.data.toList t.data.toList = z at *
  go_enter Try.func36, Try.ntmps36
  go_wp2_with fail
  refine HC.out.mono ?_
  rintro e w1 ⟨rfl, hw1⟩
  obtain rfl := hw1.symm
  clear hw1 HC
  go_wp2
  go_ret
  exact ⟨rfl, rfl⟩
end Go.Proofs.Yteomhjoodnjfbaa
