/- Texts joined: JoinTexts, of the program and of the model; slices of texts copied by the laws, and how much they hold. -/
import Derived.Test.YtkdjkkldnidmjaaDoorStrLeaf
import Derived.Test.YtkdjkkldnidmjaaDoorBld
namespace Go.Proofs.YtkdjkkldnidmjaaDoor
open Go.RowKit
set_option maxRecDepth 8000

/-- The first k texts joined. -/
def jnT (l : List ByteArray) : Nat → ByteArray
  | 0 => ⟨#[]⟩
  | k + 1 => (if k = 0 then jnT l k else jnT l k ++ ⟨#[32]⟩) ++ l.getD k ⟨#[]⟩
/-- How many letters. -/
def szT (l : List ByteArray) : Nat := (l.map ByteArray.size).sum
theorem szT_take (l : List ByteArray) (k : Nat) (h : k < l.length) : szT (l.take (k + 1)) = szT (l.take k) + (l.getD k ⟨#[]⟩).size := by
  unfold szT
  rw [List.take_succ_eq_append_getElem h, List.map_append, List.sum_append]
  simp [List.getD, h]
theorem szT_le (l : List ByteArray) (k : Nat) : szT (l.take k) ≤ szT l := by
  have : szT l = szT (l.take k) + szT (l.drop k) := by
    unfold szT
    rw [← List.sum_append, ← List.map_append, List.take_append_drop]
  omega
theorem szT_at (l : List ByteArray) (k : Nat) (h : k < l.length) : (l.getD k ⟨#[]⟩).size ≤ szT l := by
  have h1 := szT_take l k h
  have h2 := szT_le l (k + 1)
  omega
theorem jnT_size (l : List ByteArray) : ∀ k, k ≤ l.length → (jnT l k).size ≤ szT (l.take k) + k
  | 0, _ => by simp [jnT, szT]; rfl
  | k + 1, h => by
    have ih := jnT_size l k (by omega)
    rw [szT_take l k (by omega), jnT, ByteArray.size_append]
    split
    · omega
    · rw [ByteArray.size_append]
      have : (⟨#[32]⟩ : ByteArray).size = 1 := rfl
      omega

theorem Tz.cellAt {w : World} {b off n cap : Nat} {xs : List ByteArray} (h : Tz w (.slice (some ⟨b, off, none⟩) n cap) xs) {k : Nat} (hk : k < xs.length) : w.cell? ⟨b, off + k, none⟩ = some (.string (xs.getD k ⟨#[]⟩)) := by
  obtain ⟨ao, cap', h1, _, _, _, h5⟩ := h
  obtain ⟨b', off', rfl, h7⟩ := h5 (by intro h0; rw [h0] at hk; simp at hk)
  simp only [Value.slice.injEq, Option.some.injEq, Addr.mk.injEq, and_true] at h1
  obtain ⟨⟨rfl, rfl⟩, _⟩ := h1
  exact h7 k hk
theorem Tz.at {w : World} {ao : Option Addr} {n cap : Nat} {xs : List ByteArray} (h : Tz w (.slice ao n cap) xs) {k : Nat} (hk : k < xs.length) : ∃ b off, ao = some ⟨b, off, none⟩ ∧ ∀ w', Below w.heap.size w w' → w'.cell? ⟨b, off + k, none⟩ = some (.string (xs.getD k ⟨#[]⟩)) := by
  obtain ⟨ao', cap', h1, _, _, _, h5⟩ := id h
  obtain ⟨b', off', rfl, h7⟩ := h5 (by intro h0; rw [h0] at hk; simp at hk)
  simp only [Value.slice.injEq] at h1
  obtain ⟨rfl, rfl, rfl⟩ := h1
  exact ⟨b', off', rfl, fun w' hb => (h.grow hb).cellAt hk⟩

theorem made_t (n : Nat) : (madeCells #[Value.string ⟨#[]⟩] n).toList = (List.replicate n (⟨#[]⟩ : ByteArray)).map Value.string := by
  rw [toList_madeCells_one]; simp
theorem map_set_str (xs : List ByteArray) (k : Nat) (z : ByteArray) : (xs.map Value.string).set k (.string z) = (xs.set k z).map Value.string := by
  rw [List.map_set]
theorem copy_step_t (zs : List ByteArray) (k : Nat) (hk : k < zs.length) :
    (zs.take k ++ List.replicate (zs.length - k) (⟨#[]⟩ : ByteArray)).set k (zs.getD k ⟨#[]⟩) = zs.take (k + 1) ++ List.replicate (zs.length - (k + 1)) (⟨#[]⟩ : ByteArray) := by
  apply List.ext_getElem?
  intro i
  by_cases h : i = k
  · subst h
    rw [List.getElem?_set_self (by simp; omega), List.getElem?_append_left (by simp; omega)]
    simp [List.getD, hk]
  · rw [List.getElem?_set_ne (by omega)]
    simp only [List.getElem?_append, List.length_take, List.getElem?_take, List.getElem?_replicate]
    grind

set_option maxHeartbeats 1000000 in
theorem implJoinTexts_any (l : List ByteArray) (v : Value) (w : World) (h : Tz w v l) (hz : l.length + szT l ≤ 33554432) :
    Calls Tryd.prog 36 #[v] w fun e w' => e = .returned (.string (jnT l l.length)) ∧ Below w.heap.size w w' := by
  have HH := Hid.mk h
  obtain ⟨ao, cap, rfl, hl1, hm, -, -⟩ := h
  unfold maxLen at hm
  have HS : Hid (∀ k, k ≤ l.length → (jnT l k).size ≤ 67108864) := fun k hk => by
    have h1 := jnT_size l k hk
    have h2 := szT_le l k
    omega
  have HA : Hid (∀ k, k < l.length → (l.getD k ⟨#[]⟩).size ≤ 33554432) := fun k hk => by have := szT_at l k hk; omega
  have B0 : Hid (Below w.heap.size w (w.alloc (.cells #[.pointer none, .slice none 0 0] 74))) := (Below.refl _ _).alloc (Nat.le_refl _) _
  have D0 := Hid.mk (Bd.fresh w)
  go_enter Tryd.func36, Tryd.ntmps36
  go_wp2
  go_loopw [8] (fun i wr => ∃ (k : Nat), k ≤ l.length ∧ i = .int .i64 k ∧ Hid (Bd wr w.heap.size w.heap.size (jnT l k)) ∧ Hid (Below w.heap.size w wr)) (fun i _ => l.length - (intOf i).toNat)
  case atStart => exact ⟨0, Nat.zero_le _, rfl, D0, B0⟩
  case round =>
    obtain ⟨k, hk, rfl, HD, HB⟩ := hrel
    clear D0 B0
    by_cases hkl : k < l.length
    · obtain ⟨b, off, rfl, hcell⟩ := HH.out.at hkl
      have c0 := hcell wr HB.out
      have hx := HA.out k hkl
      have hj := HS.out k hk
      have hst : jnT l (k + 1) = (if k = 0 then jnT l k else jnT l k ++ ⟨#[32]⟩) ++ l.getD k ⟨#[]⟩ := rfl
      generalize l.getD k ⟨#[]⟩ = x at *
      generalize jnT l k = a at *
      have HST := Hid.mk hst
      have hki : (k : Int) < (l.length : Int) := by omega
      clear hcell hst
      by_cases h0 : k = 0
      · have hkp : ¬ (0 : Int) < (k : Int) := by omega
        have H0 := Hid.mk h0
        clear h0
        have HW := Hid.mk (bdString_any w.heap.size w.heap.size a x wr HD.out (by omega) HB.out.size)
        go_wp2_with fail
        refine HW.out.mono ?_
        rintro e w2 ⟨rfl, hd2, hb2, -⟩
        have HD2 := Hid.mk hd2
        have HB2 := Hid.mk (HB.out.trans hb2)
        clear hd2 hb2 HW HD HB c0
        go_wp2
        go_roundw
        case rel => exact ⟨k + 1, by omega, by go_num, by rw [HST.out, if_pos H0.out]; exact HD2, HB2⟩
        case measure => simp [intOf]; omega
      · have hkp : (0 : Int) < (k : Int) := by omega
        have HW := Hid.mk (bdByte_any w.heap.size w.heap.size a 32 ⟨#[32]⟩ rfl wr HD.out (by omega) HB.out.size)
        go_wp2_with fail
        refine HW.out.mono ?_
        rintro e w2 ⟨rfl, hd2, hb2, -⟩
        have HB2 := Hid.mk (HB.out.trans hb2)
        have HW2 := Hid.mk (bdString_any w.heap.size w.heap.size (a ++ ⟨#[32]⟩) x w2 hd2 (by rw [ByteArray.size_append]; have : (⟨#[32]⟩ : ByteArray).size = 1 := rfl; omega) HB2.out.size)
        clear hd2 hb2 HW HD HB c0
        go_wp2_with fail
        refine HW2.out.mono ?_
        rintro e w3 ⟨rfl, hd3, hb3, -⟩
        have HD3 := Hid.mk hd3
        have HB3 := Hid.mk (HB2.out.trans hb3)
        clear hd3 hb3 HW2 HB2
        go_wp2
        go_roundw
        case rel => exact ⟨k + 1, by omega, by go_num, by rw [HST.out, if_neg h0]; exact HD3, HB3⟩
        case measure => simp [intOf]; omega
    · have e : k = l.length := by omega
      subst e
      have HT := Hid.mk (bdText_any w.heap.size w.heap.size _ wr HD.out HB.out.size)
      have hki : ¬ (l.length : Int) < (l.length : Int) := by omega
      go_wp2_with fail
      refine HT.out.mono ?_
      rintro e w2 ⟨rfl, hb2⟩
      have HB2 := Hid.mk (HB.out.trans hb2)
      clear hb2 HT HD HB
      go_wp2
      go_ret
      exact ⟨rfl, HB2.out⟩
end Go.Proofs.YtkdjkkldnidmjaaDoor
