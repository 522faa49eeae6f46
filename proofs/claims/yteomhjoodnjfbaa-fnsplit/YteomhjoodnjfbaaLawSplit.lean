/- The law FnSplit walked: the words of a drawn text joined are split again the same; none is empty, or has a blank. -/
import Derived.Test.YteomhjoodnjfbaaSplMath
namespace Go.Proofs.Yteomhjoodnjfbaa
open Go.RowKit
set_option maxRecDepth 8000

set_option maxHeartbeats 1000000 in
theorem sameTexts_same (v v' : Value) (zs : List ByteArray) (w : World) (h : Tz w v zs) (h' : Tz w v' zs) :
    Calls Try.prog 46 #[v, v'] w fun e w' => e = .returned (.bool true) ∧ ∃ n, w' = w.drewN n := by
  obtain ⟨ao, cap, rfl, hl, hm, hn, hc⟩ := h
  obtain ⟨ao2, cap2, rfl, hl2, hm2, hn2, hc2⟩ := h'
  unfold maxLen at hm hm2
  have hnn : ((zs.length : Int) != (zs.length : Int)) = false := by simp
  go_enter Try.func46, Try.ntmps46
  go_wp2
  go_loopw [5] (fun i wr => ∃ k : Nat, k ≤ zs.length ∧ i = .int .i64 k ∧ ∃ n, wr = w.drewN n) (fun i _ => zs.length - (intOf i).toNat)
  case atStart => exact ⟨0, Nat.zero_le _, rfl, 0, rfl⟩
  case round =>
    obtain ⟨k, hk, rfl, n, rfl⟩ := hrel
    by_cases hlt : k < zs.length
    · obtain ⟨b, off, rfl, hcell⟩ := hc (by intro h0; rw [h0] at hlt; simp at hlt)
      obtain ⟨b2, off2, rfl, hcell2⟩ := hc2 (by intro h0; rw [h0] at hlt; simp at hlt)
      obtain ⟨c, Hc⟩ : ∃ c, Hid (zs.getD k ⟨#[]⟩ = c) := ⟨_, rfl⟩
      have h1 : w.cell? ⟨b, off + k, none⟩ = some (.string c) := by rw [← Hc.out]; exact hcell k hlt
      have h2 : w.cell? ⟨b2, off2 + k, none⟩ = some (.string c) := by rw [← Hc.out]; exact hcell2 k hlt
      have h4 : (c.toList != c.toList) = false := by simp
      have hi1 : (k : Int) < (zs.length : Int) := by omega
      clear hc hc2 hcell hcell2
      go_wp2
      go_quiet (fail)
      go_wp2
      go_roundw
      case rel => exact ⟨k + 1, by omega, by go_num, _, rfl⟩
      case measure => simp [intOf]; omega
    · go_wp2
      go_ret
      exact ⟨rfl, n, rfl⟩

theorem szT_mul (l : List ByteArray) (m : Nat) (h : ∀ x ∈ l, x.size ≤ m) : szT l ≤ l.length * m := by
  induction l with
  | nil => simp [szT]
  | cons x r ih =>
    have h1 := h x (List.mem_cons_self ..)
    have h2 := ih (fun y hy => h y (List.mem_cons_of_mem _ hy))
    have e : szT (x :: r) = x.size + szT r := by simp [szT]
    rw [e, List.length_cons, Nat.add_mul]
    omega
theorem GoodW.wrd {s x : ByteArray} (h : GoodW s x) : Wrd x := ⟨h.size.1, h.bytes⟩

set_option maxHeartbeats 2000000 in
theorem fnSplit_walk (v : Value) (zs : List Int) (m : Int) (w : World) (h : Bs w v zs) (hm : w.cell? ⟨0, 0, none⟩ = some (.int .i64 m)) :
    Calls Try.prog 9 #[v] w fun e w' => e = .returned (.bool true) ∧ Below w.heap.size w w' := by
  have H := Hid.mk h
  have HB := Hid.mk (big_any v zs w h)
  have HM := Hid.mk hm
  clear hm
  obtain ⟨_, ao, cap, rfl, -⟩ := h
  by_cases hlen : zs.length ≤ 1048576
  · have hd : decide ((1048576 : Int) < zs.length) = false := by simp; omega
    rw [hd] at HB
    clear hd
    have HD := Hid.mk (drawSplitText_any _ zs w H.out hlen)
    go_enter Try.func9, Try.ntmps9
    go_wp2_with fail
    refine HB.out.mono ?_
    rintro e w1 ⟨rfl, hw⟩
    obtain rfl := hw.symm
    clear hw HB
    go_wp2_with fail
    refine HD.out.mono ?_
    rintro e w2 ⟨s, rfl, hs, hb2⟩
    have B2 := Hid.mk hb2
    clear hb2 HD H
    have HI := Hid.mk (fun w' => implSplitText_any s w' (by omega))
    have HS := Hid.mk (fun w' => specSplitText_any s w' (by omega))
    have HG := Hid.mk (splL_good s)
    have hll : (splL s).length ≤ 17 := by have := splL_len s; omega
    have hzz : szT (splL s) ≤ 272 := by
      have := szT_mul (splL s) 16 (fun x hx => by have := (splL_good s x hx).size; omega)
      omega
    have HSJ : Hid (splL (jn (splL s) (splL s).length) = splL s) := split_join _ (fun x hx => (splL_good s x hx).wrd)
    generalize splL s = L at *
    have HJ := Hid.mk (fun w' u h => implJoinTexts_any L u w' h (by omega))
    have HJS := Hid.mk (fun w' => implSplitText_any (jn L L.length) w' (by have h1 := jn_size L L.length (Nat.le_refl _); have h2 := szT_le L L.length; omega))
    rw [HSJ.out] at HJS
    generalize jn L L.length = j at HJ HJS
    have HEQ := Hid.mk (fun (w' : World) (u u' : Value) (h : Tz w' u L) (h' : Tz w' u' L) => sameTexts_same u u' L w' h h')
    clear HSJ hzz
    go_wp2_with fail
    refine (HI.out _).mono ?_
    rintro e w3 ⟨v3, rfl, ho3, hb3⟩
    have B3 := Hid.mk (B2.out.trans (hb3.mono B2.out.size))
    have T3 := Hid.mk ho3.iz
    have M3 := Hid.mk (keep_max HM.out B3.out)
    obtain ⟨a3, c3, hv3, hq1, hq2, -⟩ := ho3.iz
    subst hv3
    unfold maxLen at hq2
    clear hb3 ho3 B2 HM HI
    go_wp2
    go_loop [5] (fun i => ∃ k : Nat, i = .int .i64 k ∧ k ≤ L.length) (fun i => L.length - (intOf i).toNat)
    case atStart => exact ⟨0, rfl, Nat.zero_le _⟩
    case round =>
      obtain ⟨k, rfl, hk⟩ := hrel
      by_cases hkl : k < L.length
      · obtain ⟨b, off, rfl, hcell⟩ := T3.out.at hkl
        have c0 := hcell w3 (Below.refl _ _)
        have hg : GoodW s (L.getD k ⟨#[]⟩) := HG.out _ (by rw [List.getD_eq_getElem?_getD, List.getElem?_eq_getElem hkl]; exact List.getElem_mem hkl)
        generalize L.getD k ⟨#[]⟩ = x at c0 hg
        have hxs := hg.size
        have he : x.toList.isEmpty = false := by
          rw [ByteArray.toList_eq, List.isEmpty_eq_false_iff]
          intro h1
          have h2 : x.data.toList.length = 0 := by rw [h1]; rfl
          rw [dlen] at h2
          omega
        have H32 := Hid.mk (implIndexOf_any x ⟨#[32]⟩ m w3 (by omega) M3.out)
        have H9 := Hid.mk (implIndexOf_any x ⟨#[9]⟩ m w3 (by omega) M3.out)
        have HX := Hid.mk (implIndexOf_any s x m w3 (by omega) M3.out)
        rw [hg.no32] at H32
        rw [hg.no9] at H9
        have hz0 := hg.found
        generalize idxZ s x = z at HX hz0
        have hz1 : (z == 0) = false := by rw [beq_eq_false_iff_ne]; omega
        have hki : (k : Int) < (L.length : Int) := by omega
        clear hcell hg HG HS HJ HJS HEQ
        go_wp2_with fail
        refine H32.out.mono ?_
        rintro e w4 ⟨rfl, hw4⟩
        obtain rfl := hw4.symm
        clear hw4 H32
        go_wp2_with fail
        refine H9.out.mono ?_
        rintro e w4 ⟨rfl, hw4⟩
        obtain rfl := hw4.symm
        clear hw4 H9
        go_wp2_with fail
        refine HX.out.mono ?_
        rintro e w4 ⟨rfl, hw4⟩
        obtain rfl := hw4.symm
        clear hw4 HX
        go_wp2
        go_round
        case rel => exact ⟨k + 1, by go_num, by omega⟩
        case measure => simp [intOf]; omega
      · have e : k = L.length := by omega
        subst e
        clear HG M3
        go_wp2_with fail
        refine (HS.out _).mono ?_
        rintro e w4 ⟨v4, rfl, ho4, hb4⟩
        have B4 := Hid.mk (B3.out.trans (hb4.mono B3.out.size))
        have T4 := Hid.mk (T3.out.grow hb4)
        have HE4 := Hid.mk (HEQ.out _ _ _ T4.out ho4.iz)
        obtain ⟨a4, c4, hv4, -⟩ := ho4.iz
        subst hv4
        clear hb4 ho4 B3 T3 HS
        go_wp2_with fail
        refine HE4.out.mono ?_
        rintro e w5 ⟨rfl, n5, hw5⟩
        have D5 : Below w4.heap.size w4 w5 := by rw [hw5]; exact Below.drewSelf _ _ _
        have B5 := Hid.mk (B4.out.trans (D5.mono B4.out.size))
        have T5 := Hid.mk (T4.out.grow D5)
        clear hw5 D5 HE4 B4 T4
        go_wp2_with fail
        refine (HJ.out _ _ T5.out).mono ?_
        rintro e w6 ⟨rfl, hb6⟩
        have B6 := Hid.mk (B5.out.trans (hb6.mono B5.out.size))
        have T6 := Hid.mk (T5.out.grow hb6)
        clear hb6 B5 T5 HJ
        go_wp2_with fail
        refine (HJS.out _).mono ?_
        rintro e w7 ⟨v7, rfl, ho7, hb7⟩
        have B7 := Hid.mk (B6.out.trans (hb7.mono B6.out.size))
        have HE7 := Hid.mk (HEQ.out _ _ _ ho7.iz (T6.out.grow hb7))
        obtain ⟨a7, c7, hv7, -⟩ := ho7.iz
        subst hv7
        clear hb7 ho7 B6 T6 HJS HEQ
        go_wp2_with fail
        refine HE7.out.mono ?_
        rintro e w8 ⟨rfl, n8, hw8⟩
        have D8 : Below w7.heap.size w7 w8 := by rw [hw8]; exact Below.drewSelf _ _ _
        have B8 := Hid.mk (B7.out.trans (D8.mono B7.out.size))
        clear hw8 D8 HE7 B7
        go_wp2
        go_ret
        exact ⟨rfl, B8.out⟩
  · have hd : decide ((1048576 : Int) < zs.length) = true := by simp; omega
    rw [hd] at HB
    clear hd H
    go_enter Try.func9, Try.ntmps9
    go_wp2_with fail
    refine HB.out.mono ?_
    rintro e w1 ⟨rfl, hw⟩
    obtain rfl := hw.symm
    clear hw HB
    go_wp2
    go_ret
    exact ⟨rfl, Below.refl _ _⟩
end Go.Proofs.Yteomhjoodnjfbaa
