/- The law FnUpper walked: in a drawn text in capitals only small letters turn. -/
import Derived.Test.YteomhjoodnjfbaaUpTxt
import Derived.Test.YteomhjoodnjfbaaDrawTxt
namespace Go.Proofs.Yteomhjoodnjfbaa
open Go.RowKit
set_option maxRecDepth 8000

theorem txt_strOf6 (l : List Int) (h : byteList l) : txt (strOf l) = l := by
  unfold txt strOf
  simp only [List.map_map]
  conv => rhs; rw [← List.map_id l]
  apply List.map_congr_left
  intro z hz
  exact u8_back z (h z hz).1 (h z hz).2
theorem upS_size (s : ByteArray) : (upS s).size = s.size := by rw [upS, strOf_size, upL_len]
theorem upL_byte (s : ByteArray) : byteList (upL s) := by have := upTo_byte s s.size; rw [upTo_end s (Nat.le_refl _)] at this; exact this
theorem upS_at (s : ByteArray) (k : Nat) (h : k < s.size) (h' : k < (upS s).size) : (((upS s)[k]'h').toNat : Int) = upZ (((s[k]'h).toNat : Nat) : Int) := by
  have e0 : txt (upS s) = upL s := txt_strOf6 _ (upL_byte s)
  rw [byte_txt (upS s) k h', byte_txt s k h, e0]
  have hl : k < (txt s).length := by rw [txt_length]; exact h
  simp [upL, List.getD, hl]

set_option maxHeartbeats 2000000 in
theorem fnUpper_walk (v : Value) (zs : List Int) (w : World) (h : Bs w v zs) :
    Calls Try.prog 8 #[v] w fun e w' => e = .returned (.bool true) ∧ Below w.heap.size w w' := by
  have H := Hid.mk h
  have HB := Hid.mk (big_any v zs w h)
  obtain ⟨_, ao, cap, rfl, -⟩ := h
  by_cases hlen : zs.length ≤ 1048576
  · have hd : decide ((1048576 : Int) < zs.length) = false := by simp; omega
    rw [hd] at HB
    clear hd
    have HD := Hid.mk (drawUpperOf_any _ zs w H.out hlen)
    go_enter Try.func8, Try.ntmps8
    go_wp2_with fail
    refine HB.out.mono ?_
    rintro e w1 ⟨rfl, hw⟩
    obtain rfl := hw.symm
    clear hw HB
    go_wp2_with fail
    refine HD.out.mono ?_
    rintro e w2 ⟨s, rfl, hs, hb2⟩
    have B2 := Hid.mk hb2
    clear hb2 HD H
    have HU := Hid.mk (implUpperOf_any s w2 (by omega))
    have HZ := Hid.mk (upS_at s)
    have hts := upS_size s
    generalize upS s = t at *
    go_wp2_with fail
    refine HU.out.mono ?_
    rintro e w3 ⟨rfl, hb3⟩
    have B3 := Hid.mk (B2.out.trans (hb3.mono B2.out.size))
    clear hb3 B2 HU
    have hss : ((t.size : Int) != (s.size : Int)) = false := by rw [hts]; simp
    go_wp2
    go_loopw [5] (fun i wr => ∃ k : Nat, k ≤ s.size ∧ i = .int .i64 k ∧ Hid (Below w.heap.size w wr)) (fun i _ => s.size - (intOf i).toNat)
    case atStart => exact ⟨0, Nat.zero_le _, rfl, B3⟩
    case round =>
      obtain ⟨k, hk, rfl, HBr⟩ := hrel
      clear B3
      by_cases hlt : k < s.size
      · have hlt' : k < t.size := by omega
        have hz := HZ.out k hlt hlt'
        have hb := (txt_byte s).getD k
        rw [← byte_txt s k hlt] at hb
        generalize hc : ((s[k].toNat : Nat) : Int) = c at hz hb
        obtain ⟨hb0, hb1⟩ := hb
        have hki : (k : Int) < (s.size : Int) := by omega
        have hkt : (k : Int) < (t.size : Int) := by omega
        have hcc : (c != c) = false := by simp
        clear HZ
        by_cases hr : 97 ≤ c ∧ c ≤ 122
        · have hr1 := hr.1
          have hr2 := hr.2
          have hup : upZ c = c - 32 := by unfold upZ; rw [if_pos hr]
          rw [hup] at hz
          have hwr : IntKind.u8.wrap (c - 32) = c - 32 := by rw [wrap_u8_int]; omega
          have hc2 : (c - 32 != c - 32) = false := by simp
          clear hup
          go_wp2
          go_quiet (fail)
          go_wp2
          go_roundw
          case rel => exact ⟨k + 1, by omega, by go_num, Hid.mk (HBr.out.trans (Below.drewSelf _ _ _))⟩
          case measure => simp [intOf]; omega
        · have hup : upZ c = c := by unfold upZ; rw [if_neg hr]
          rw [hup] at hz
          clear hup
          by_cases hr1 : 97 ≤ c
          · have hr2 : ¬ c ≤ 122 := fun h => hr ⟨hr1, h⟩
            go_wp2
            go_quiet (fail)
            go_wp2
            go_roundw
            case rel => exact ⟨k + 1, by omega, by go_num, Hid.mk (HBr.out.trans (Below.drewSelf _ _ _))⟩
            case measure => simp [intOf]; omega
          · go_wp2
            go_quiet (fail)
            go_wp2
            go_roundw
            case rel => exact ⟨k + 1, by omega, by go_num, Hid.mk (HBr.out.trans (Below.drewSelf _ _ _))⟩
            case measure => simp [intOf]; omega
      · have e : k = s.size := by omega
        subst e
        go_wp2
        go_ret
        exact ⟨rfl, HBr.out⟩
  · have hd : decide ((1048576 : Int) < zs.length) = true := by simp; omega
    rw [hd] at HB
    clear hd H
    go_enter Try.func8, Try.ntmps8
    go_wp2_with fail
    refine HB.out.mono ?_
    rintro e w1 ⟨rfl, hw⟩
    obtain rfl := hw.symm
    clear hw HB
    go_wp2
    go_ret
    exact ⟨rfl, Below.refl _ _⟩
end Go.Proofs.Yteomhjoodnjfbaa
