/- Texts joined: JoinTexts, of the program and of the model; slices of texts copied by the laws, and how much they hold. -/
import Derived.Test.YteomhjoodnjfbaaStrLeaf
import Derived.Test.YteomhjoodnjfbaaBld
namespace Go.Proofs.Yteomhjoodnjfbaa
open Go.RowKit
set_option maxRecDepth 8000

/-- The first k texts joined. -/
def jn (l : List ByteArray) : Nat → ByteArray
  | 0 => ⟨#[]⟩
  | k + 1 => (if k = 0 then jn l k else jn l k ++ ⟨#[32]⟩) ++ l.getD k ⟨#[]⟩
/-- How many letters. -/
def szT (l : List ByteArray) : Nat := (l.map ByteArray.size).sum
theorem szT_take (l : List ByteArray) (k : Nat) (h : k < l.length) : szT (l.take (k + 1)) = szT (l.take k) + (l.getD k ⟨#[]⟩).size := by
  unfold szT
  rw [List.take_succ_eq_append_getElem h, List.map_append, List.sum_append]
  simp [List.getD, h]
theorem szT_le (l : List ByteArray) (k : Nat) : szT (l.take k) ≤ szT l := by
  have : szT l = szT (l.take k) + szT (l.drop k) := by
    unfold szT
    rw [← List.sum_append, ← List.map_append, List.take_append_drop]
  omega
theorem szT_at (l : List ByteArray) (k : Nat) (h : k < l.length) : (l.getD k ⟨#[]⟩).size ≤ szT l := by
  have h1 := szT_take l k h
  have h2 := szT_le l (k + 1)
  omega
theorem jn_size (l : List ByteArray) : ∀ k, k ≤ l.length → (jn l k).size ≤ szT (l.take k) + k
  | 0, _ => by simp [jn, szT]; rfl
  | k + 1, h => by
    have ih := jn_size l k (by omega)
    rw [szT_take l k (by omega), jn, ByteArray.size_append]
    split
    · omega
    · rw [ByteArray.size_append]
      have : (⟨#[32]⟩ : ByteArray).size = 1 := rfl
      omega

theorem Tz.cellAt {w : World} {b off n cap : Nat} {xs : List ByteArray} (h : Tz w (.slice (some ⟨b, off, none⟩) n cap) xs) {k : Nat} (hk : k < xs.length) : w.cell? ⟨b, off + k, none⟩ = some (.string (xs.getD k ⟨#[]⟩)) := by
  obtain ⟨ao, cap', h1, _, _, _, h5⟩ := h
  obtain ⟨b', off', rfl, h7⟩ := h5 (by intro h0; rw [h0] at hk; simp at hk)
  simp only [Value.slice.injEq, Option.some.injEq, Addr.mk.injEq, and_true] at h1
  obtain ⟨⟨rfl, rfl⟩, _⟩ := h1
  exact h7 k hk
theorem Tz.at {w : World} {ao : Option Addr} {n cap : Nat} {xs : List ByteArray} (h : Tz w (.slice ao n cap) xs) {k : Nat} (hk : k < xs.length) : ∃ b off, ao = some ⟨b, off, none⟩ ∧ ∀ w', Below w.heap.size w w' → w'.cell? ⟨b, off + k, none⟩ = some (.string (xs.getD k ⟨#[]⟩)) := by
  obtain ⟨ao', cap', h1, _, _, _, h5⟩ := id h
  obtain ⟨b', off', rfl, h7⟩ := h5 (by intro h0; rw [h0] at hk; simp at hk)
  simp only [Value.slice.injEq] at h1
  obtain ⟨rfl, rfl, rfl⟩ := h1
  exact ⟨b', off', rfl, fun w' hb => (h.grow hb).cellAt hk⟩

set_option maxHeartbeats 1000000 in
theorem szStringS_any (l : List ByteArray) (v : Value) (w : World) (h : Tz w v l) (hl : ∀ x ∈ l, x.size ≤ maxLen) :
    Calls Try.prog 53 #[v, .int .i64 1048576] w fun e w' => ∃ m : Int, e = .returned (.int .i64 m) ∧ (0 ≤ m → l.length + szT l ≤ 1048576) ∧ w' = w := by
  have HH := Hid.mk h
  obtain ⟨ao, cap, rfl, hl1, hm, -, -⟩ := h
  unfold maxLen at hm
  have HL := Hid.mk hl
  have HA := Hid.mk (szT_take l)
  have H0 : Hid (szT (l.take 0) = 0) := by show _ = _; simp [szT]
  have HE : Hid (szT (l.take l.length) = szT l) := by show _ = _; rw [List.take_length]
  clear hl
  by_cases hlt : (1048576 : Int) - (l.length : Int) < 0
  · go_enter Try.func53, Try.ntmps53
    go_wp2
    go_ret
    exact ⟨-1, rfl, (fun h => by omega), rfl⟩
  · go_enter Try.func53, Try.ntmps53
    go_wp2
    go_loop [1, 5] (fun q i => ∃ (k : Nat), k ≤ l.length ∧ i = .int .i64 k ∧ q = .int .i64 (1048576 - (l.length : Int) - (szT (l.take k) : Int)) ∧ l.length + szT (l.take k) ≤ 1048576) (fun _ i => l.length - (intOf i).toNat)
    case atStart => exact ⟨0, Nat.zero_le _, rfl, by rw [H0.out]; simp, by rw [H0.out]; omega⟩
    case round =>
      obtain ⟨k, hk, rfl, rfl, hmm⟩ := hrel
      by_cases hkl : k < l.length
      · obtain ⟨b, off, rfl, hcell⟩ := HH.out.at hkl
        have c0 := hcell w (Below.refl _ _)
        have hx : (l.getD k ⟨#[]⟩).size ≤ 9223372036854775807 := by
          have := HL.out (l.getD k ⟨#[]⟩) (by rw [List.getD_eq_getElem?_getD, List.getElem?_eq_getElem hkl]; exact List.getElem_mem hkl)
          unfold maxLen at this
          omega
        have hA := HA.out k hkl
        generalize l.getD k ⟨#[]⟩ = x at *
        generalize hT : szT (l.take k) = T at *
        generalize hT1 : szT (l.take (k + 1)) = T1 at *
        clear hcell
        by_cases hneg : (1048576 : Int) - (l.length : Int) - (T : Int) - (x.size : Int) < 0
        · go_wp2
          go_ret
          exact ⟨-1, rfl, (fun h => by omega), rfl⟩
        · go_wp2
          go_round
          case rel => exact ⟨k + 1, by omega, by go_num, by rw [hT1, hA]; congr 1; omega, by rw [hT1]; omega⟩
          case measure => simp [intOf]; omega
      · have e : k = l.length := by omega
        subst e
        go_wp2
        go_ret
        exact ⟨_, rfl, (fun _ => by rw [← HE.out]; exact hmm), rfl⟩

theorem made_t (n : Nat) : (madeCells #[Value.string ⟨#[]⟩] n).toList = (List.replicate n (⟨#[]⟩ : ByteArray)).map Value.string := by
  rw [toList_madeCells_one]; simp
theorem map_set_str (xs : List ByteArray) (k : Nat) (z : ByteArray) : (xs.map Value.string).set k (.string z) = (xs.set k z).map Value.string := by
  rw [List.map_set]
theorem copy_step_t (zs : List ByteArray) (k : Nat) (hk : k < zs.length) :
    (zs.take k ++ List.replicate (zs.length - k) (⟨#[]⟩ : ByteArray)).set k (zs.getD k ⟨#[]⟩) = zs.take (k + 1) ++ List.replicate (zs.length - (k + 1)) (⟨#[]⟩ : ByteArray) := by
  apply List.ext_getElem?
  intro i
  by_cases h : i = k
  · subst h
    rw [List.getElem?_set_self (by simp; omega), List.getElem?_append_left (by simp; omega)]
    simp [List.getD, hk]
  · rw [List.getElem?_set_ne (by omega)]
    simp only [List.getElem?_append, List.length_take, List.getElem?_take, List.getElem?_replicate]
    grind

set_option maxHeartbeats 1000000 in
theorem toStringS_any (v : Value) (zs : List ByteArray) (w : World) (h : Tz w v zs) (hlen : zs.length ≤ 4194304) :
    Calls Try.prog 55 #[v] w fun e w' => ∃ u, e = .returned u ∧ OwnT w' w.heap.size u zs ∧ Below w.heap.size w w' := by
  have hsub := Hid.mk h
  obtain ⟨ao, cap, rfl, hl, hm, hn, hc⟩ := h
  unfold maxLen at hm
  clear hc
  have HB0 : Hid (∀ k, k < zs.length → ao ≠ none) := fun k hk h0 => by rw [hn h0] at hl; omega
  obtain ⟨i0, hi, hz0, hz1, hz2⟩ := info_parts infoT
  go_enter Try.func55, Try.ntmps55
  go_wp2_with (at_make; refine wpList_make_full _ rfl _ _ 63 rfl w.heap.size 9 i0 (.string ⟨#[]⟩) 1 Try.underlying63 hi hz0 hz1 _ _ _ _ zs.length rfl rfl rfl rfl (by rw [hz2]; omega) (by unfold maxLen; omega) (by simp) ?_)
  intro w1 hown hgrow
  rw [made_t] at hown
  have hbel : Below w.heap.size w w1 := (Below.refl _ _).grown hgrow (Nat.le_refl _) (by simp)
  clear hgrow
  go_wp2
  go_loopw [4] (fun i wr => ∃ k : Nat, k ≤ zs.length ∧ i = .int .i64 k ∧ wr.ownsRow w.heap.size 9 1 (.slice (some ⟨w.heap.size, 0, none⟩) zs.length zs.length) zs.length ((zs.take k ++ List.replicate (zs.length - k) (⟨#[]⟩ : ByteArray)).map Value.string) ∧ Below w.heap.size w wr) (fun i _ => zs.length - (intOf i).toNat)
  case atStart => exact ⟨0, Nat.zero_le _, rfl, by simpa using hown, hbel⟩
  case round =>
    obtain ⟨k, hk, rfl, hownr, hbelr⟩ := hrel
    by_cases hlt : k < zs.length
    · obtain ⟨⟨b, off, r⟩, rfl⟩ : ∃ a, ao = some a := Option.ne_none_iff_exists'.1 (HB0.out k hlt)
      obtain rfl : r = none := by
        obtain ⟨ao', cap', h1, _, _, _, h5⟩ := hsub.out
        obtain ⟨b', off', rfl, h7⟩ := h5 (by intro h0; rw [h0] at hlt; simp at hlt)
        simp only [Value.slice.injEq, Option.some.injEq, Addr.mk.injEq] at h1
        exact h1.1.2.2
      obtain ⟨c, Hc⟩ : ∃ c, Hid (zs.getD k ⟨#[]⟩ = c) := ⟨_, rfl⟩
      have hcx : wr.cell? ⟨b, off + k, none⟩ = some (.string c) := by rw [← Hc.out]; exact (hsub.out.grow hbelr).cellAt hlt
      have hfr := hownr.frozenAt k
      have hold := hownr.cellAt k (by omega)
      have R : (wr.setCell ⟨w.heap.size, k, none⟩ (.string c)).ownsRow w.heap.size 9 1 (.slice (some ⟨w.heap.size, 0, none⟩) zs.length zs.length) zs.length ((zs.take (k + 1) ++ List.replicate (zs.length - (k + 1)) (⟨#[]⟩ : ByteArray)).map Value.string) ∧ Below w.heap.size w (wr.setCell ⟨w.heap.size, k, none⟩ (.string c)) := by
        refine ⟨?_, hbelr.setCell (Nat.le_refl _) _⟩
        have := (hownr.stored k (.string c)).1
        rw [map_set_str, ← Hc.out, copy_step_t zs k hlt] at this
        rw [← Hc.out]
        exact this
      obtain ⟨o, ho⟩ : ∃ o, ((zs.take k ++ List.replicate (zs.length - k) (⟨#[]⟩ : ByteArray)).map Value.string)[k]? = some (.string o) := by
        have : k < (zs.take k ++ List.replicate (zs.length - k) (⟨#[]⟩ : ByteArray)).length := by simp; omega
        exact ⟨_, by rw [List.getElem?_map, List.getElem?_eq_getElem this]; rfl⟩
      rw [ho] at hold
      have HR := Hid.mk R
      clear hownr hbelr hsub R ho
      go_wp2
      go_roundw
      case rel => exact ⟨k + 1, by omega, by go_num, HR.out.1, HR.out.2⟩
      case measure => simp [intOf]; omega
    · go_wp2
      go_ret
      have e : k = zs.length := by omega
      subst e
      exact ⟨_, rfl, by unfold OwnT; simpa using hownr, hbelr⟩


set_option maxHeartbeats 1000000 in
theorem specJoinTexts_any (l : List ByteArray) (v : Value) (w : World) (h : Tz w v l) (hz : l.length + szT l ≤ 1048576) :
    Calls Try.prog 54 #[v] w fun e w' => e = .returned (.string (jn l l.length)) ∧ w' = w := by
  have HH := Hid.mk h
  obtain ⟨ao, cap, rfl, hl1, hm, -, -⟩ := h
  unfold maxLen at hm
  have HS : Hid (∀ k, k ≤ l.length → (jn l k).size ≤ 2097152) := fun k hk => by
    have h1 := jn_size l k hk
    have h2 := szT_le l k
    omega
  have HA : Hid (∀ k, k < l.length → (l.getD k ⟨#[]⟩).size ≤ 1048576) := fun k hk => by have := szT_at l k hk; omega
  go_enter Try.func54, Try.ntmps54
  go_wp2
  go_loop [3, 4] (fun s i => ∃ (k : Nat), k ≤ l.length ∧ i = .int .i64 k ∧ s = .string (jn l k)) (fun _ i => l.length - (intOf i).toNat)
  case atStart => exact ⟨0, Nat.zero_le _, rfl, rfl⟩
  case round =>
    obtain ⟨k, hk, rfl, rfl⟩ := hrel
    by_cases hkl : k < l.length
    · obtain ⟨b, off, rfl, hcell⟩ := HH.out.at hkl
      have c0 := hcell w (Below.refl _ _)
      have hx := HA.out k hkl
      have hj := HS.out k hk
      have hst : jn l (k + 1) = (if k = 0 then jn l k else jn l k ++ ⟨#[32]⟩) ++ l.getD k ⟨#[]⟩ := rfl
      generalize l.getD k ⟨#[]⟩ = x at *
      generalize jn l k = a at *
      have HST := Hid.mk hst
      clear hcell hst
      by_cases h0 : k = 0
      · have hkp : ¬ (0 : Int) < (k : Int) := by omega
        have H0 := Hid.mk h0
        clear h0
        have hs1 : ¬ 9223372036854775807 < a.size + x.size := by omega
        go_wp2
        go_round
        case rel => exact ⟨k + 1, by omega, by go_num, by rw [HST.out, if_pos H0.out]⟩
        case measure => simp [intOf]; omega
      · have hkp : (0 : Int) < (k : Int) := by omega
        have h1 : (⟨#[32]⟩ : ByteArray).size = 1 := rfl
        have hs0 : ¬ 9223372036854775807 < a.size + 1 := by omega
        have hs1 : ¬ 9223372036854775807 < a.size + 1 + x.size := by omega
        have hs2 : ¬ 9223372036854775807 < (a ++ ⟨#[32]⟩).size + x.size := by rw [ByteArray.size_append]; omega
        go_wp2
        go_round
        case rel => exact ⟨k + 1, by omega, by go_num, by rw [HST.out, if_neg h0]⟩
        case measure => simp [intOf]; omega
    · have e : k = l.length := by omega
      subst e
      go_wp2
      go_ret
      exact ⟨rfl, rfl⟩

set_option maxHeartbeats 1000000 in
theorem implJoinTexts_any (l : List ByteArray) (v : Value) (w : World) (h : Tz w v l) (hz : l.length + szT l ≤ 1048576) :
    Calls Try.prog 48 #[v] w fun e w' => e = .returned (.string (jn l l.length)) ∧ Below w.heap.size w w' := by
  have HH := Hid.mk h
  obtain ⟨ao, cap, rfl, hl1, hm, -, -⟩ := h
  unfold maxLen at hm
  have HS : Hid (∀ k, k ≤ l.length → (jn l k).size ≤ 2097152) := fun k hk => by
    have h1 := jn_size l k hk
    have h2 := szT_le l k
    omega
  have HA : Hid (∀ k, k < l.length → (l.getD k ⟨#[]⟩).size ≤ 1048576) := fun k hk => by have := szT_at l k hk; omega
  have B0 : Hid (Below w.heap.size w (w.alloc (.cells #[.pointer none, .slice none 0 0] 110))) := (Below.refl _ _).alloc (Nat.le_refl _) _
  have D0 := Hid.mk (Bd.fresh w)
  go_enter Try.func48, Try.ntmps48
  go_wp2
  go_loopw [8] (fun i wr => ∃ (k : Nat), k ≤ l.length ∧ i = .int .i64 k ∧ Hid (Bd wr w.heap.size w.heap.size (jn l k)) ∧ Hid (Below w.heap.size w wr)) (fun i _ => l.length - (intOf i).toNat)
  case atStart => exact ⟨0, Nat.zero_le _, rfl, D0, B0⟩
  case round =>
    obtain ⟨k, hk, rfl, HD, HB⟩ := hrel
    clear D0 B0
    by_cases hkl : k < l.length
    · obtain ⟨b, off, rfl, hcell⟩ := HH.out.at hkl
      have c0 := hcell wr HB.out
      have hx := HA.out k hkl
      have hj := HS.out k hk
      have hst : jn l (k + 1) = (if k = 0 then jn l k else jn l k ++ ⟨#[32]⟩) ++ l.getD k ⟨#[]⟩ := rfl
      generalize l.getD k ⟨#[]⟩ = x at *
      generalize jn l k = a at *
      have HST := Hid.mk hst
      have hki : (k : Int) < (l.length : Int) := by omega
      clear hcell hst
      by_cases h0 : k = 0
      · have hkp : ¬ (0 : Int) < (k : Int) := by omega
        have H0 := Hid.mk h0
        clear h0
        have HW := Hid.mk (bdString_any w.heap.size w.heap.size a x wr HD.out (by omega) HB.out.size)
        go_wp2_with fail
        refine HW.out.mono ?_
        rintro e w2 ⟨rfl, hd2, hb2, -⟩
        have HD2 := Hid.mk hd2
        have HB2 := Hid.mk (HB.out.trans hb2)
        clear hd2 hb2 HW HD HB c0
        go_wp2
        go_roundw
        case rel => exact ⟨k + 1, by omega, by go_num, by rw [HST.out, if_pos H0.out]; exact HD2, HB2⟩
        case measure => simp [intOf]; omega
      · have hkp : (0 : Int) < (k : Int) := by omega
        have HW := Hid.mk (bdByte_any w.heap.size w.heap.size a 32 ⟨#[32]⟩ rfl wr HD.out (by omega) HB.out.size)
        go_wp2_with fail
        refine HW.out.mono ?_
        rintro e w2 ⟨rfl, hd2, hb2, -⟩
        have HB2 := Hid.mk (HB.out.trans hb2)
        have HW2 := Hid.mk (bdString_any w.heap.size w.heap.size (a ++ ⟨#[32]⟩) x w2 hd2 (by rw [ByteArray.size_append]; have : (⟨#[32]⟩ : ByteArray).size = 1 := rfl; omega) HB2.out.size)
        clear hd2 hb2 HW HD HB c0
        go_wp2_with fail
        refine HW2.out.mono ?_
        rintro e w3 ⟨rfl, hd3, hb3, -⟩
        have HD3 := Hid.mk hd3
        have HB3 := Hid.mk (HB2.out.trans hb3)
        clear hd3 hb3 HW2 HB2
        go_wp2
        go_roundw
        case rel => exact ⟨k + 1, by omega, by go_num, by rw [HST.out, if_neg h0]; exact HD3, HB3⟩
        case measure => simp [intOf]; omega
    · have e : k = l.length := by omega
      subst e
      have HT := Hid.mk (bdText_any w.heap.size w.heap.size _ wr HD.out HB.out.size)
      have hki : ¬ (l.length : Int) < (l.length : Int) := by omega
      go_wp2_with fail
      refine HT.out.mono ?_
      rintro e w2 ⟨rfl, hb2⟩
      have HB2 := Hid.mk (HB.out.trans hb2)
      clear hb2 HT HD HB
      go_wp2
      go_ret
      exact ⟨rfl, HB2.out⟩
end Go.Proofs.Yteomhjoodnjfbaa
