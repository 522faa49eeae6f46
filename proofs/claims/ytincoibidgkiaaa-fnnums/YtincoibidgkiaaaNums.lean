/- The law FnNums walked. -/
import Derived.Test.YtincoibidgkiaaaWraps
import Derived.Test.YtincoibidgkiaaaBack
import Derived.Test.YtincoibidgkiaaaImplGetS
namespace Go.Proofs.Ytincoibidgkiaaa
open Go.RowKit

/-- The value, its cells and what is one shorter, of a slice that reads something. -/
theorem Own.value {w : World} {base : Nat} {v : Value} {xs : List Int} {q : Nat} (h : Own w base v xs) (hb : byteList xs) (hq : xs.length = q + 1) :
    ∃ b off cap, v = .slice (some ⟨b, off, none⟩) (q + 1) cap ∧ q + 1 ≤ cap ∧ cap ≤ maxLen ∧ Bs w (.slice (some ⟨b, off, none⟩) q cap) (xs.take q) := by
  have hB := h.bs hb
  obtain ⟨b, off, cap, rfl, hl, hm⟩ := hB.addr (by omega)
  refine ⟨b, off, cap, by rw [hq], by omega, hm, ?_⟩
  exact Bs.prefix hB (by omega) hm hl

set_option maxHeartbeats 2000000 in
theorem fnNums_walk (v : Value) (zs : List Int) (w : World) (h : Bs w v zs) :
    Calls Try.prog 4 #[v] w fun e w' => e = .returned (.bool true) ∧ Below w.heap.size w w' := by
  have H := Hid.mk h
  clear h
  by_cases hlen : zs.length ≤ 1048576
  · have hd : decide ((1048576 : Int) < zs.length) = false := by simp; omega
    have HB := Hid.mk (big_any v zs w H.out)
    rw [hd] at HB
    clear hd
    go_enter Try.func4, Try.ntmps4
    go_wp2_with fail
    refine HB.out.mono ?_
    rintro e w1 ⟨rfl, hw⟩
    obtain rfl := hw.symm
    clear hw HB
    go_wp2_with fail
    refine (drawPutU_any v zs w H.out hlen).mono ?_
    rintro e w1 ⟨vb, ys, n, rfl, hB, hby, hyl, b1⟩
    obtain ⟨N, HN⟩ : ∃ N, Hid (Ma.clamp n = N) := ⟨_, rfl⟩
    have hN0 : 0 ≤ N := by rw [← HN.out]; exact Ma.clamp_lo n
    have hN1 : N ≤ 2147483647 := by rw [← HN.out]; exact Ma.clamp_hi n
    obtain ⟨M, HM⟩ : ∃ M, Hid (Ma.wr n = M) := ⟨_, rfl⟩
    have hM0 : -2147483648 ≤ M := by rw [← HM.out]; exact Ma.wr_lo n
    have hM1 : M ≤ 2147483647 := by rw [← HM.out]; exact Ma.wr_hi n
    have hpu := (UG_grp N hN0 hN1).1.pos
    have hps := (SG_grp M hM0 hM1).1.pos
    have hlu := Ma.UG_length N
    have hls := Ma.SG_length M
    have hbu : byteList (ys ++ Ma.UG N) := hby.append (UG_byte 5 N hN0)
    have hbs : byteList (ys ++ Ma.SG M) := hby.append (SG_byte 5 M)
    obtain ⟨qu, Hqu⟩ : ∃ qu, Hid ((ys ++ Ma.UG N).length = qu + 1) := ⟨(ys ++ Ma.UG N).length - 1, by show _ = _; rw [List.length_append]; omega⟩
    obtain ⟨qs, Hqs⟩ : ∃ qs, Hid ((ys ++ Ma.SG M).length = qs + 1) := ⟨(ys ++ Ma.SG M).length - 1, by show _ = _; rw [List.length_append]; omega⟩
    have HU : Hid (gU (ys ++ Ma.UG N) ys.length = (N, (qu : Int) + 1, true)) := by
      show _ = _
      rw [gU_put ys N hN0 hN1]
      have := Hqu.out
      rw [List.length_append] at this
      simp only [Prod.mk.injEq, and_true, true_and]; omega
    have HUc : Hid (gU ((ys ++ Ma.UG N).take qu) ys.length = (0, 0, false)) := by
      have := Hqu.out
      rw [List.length_append] at this
      have e := gU_cut ys N hN0 hN1
      rw [show ys.length + (Ma.UG N).length - 1 = qu by omega] at e
      exact e
    have HSg : Hid (gS (ys ++ Ma.SG M) ys.length = (M, (qs : Int) + 1, true)) := by
      show _ = _
      rw [gS_put ys M hM0 hM1]
      have := Hqs.out
      rw [List.length_append] at this
      simp only [Prod.mk.injEq, and_true, true_and]; omega
    have HSc : Hid (gS ((ys ++ Ma.SG M).take qs) ys.length = (0, 0, false)) := by
      have := Hqs.out
      rw [List.length_append] at this
      have e := gS_cut ys M hM0 hM1
      rw [show ys.length + (Ma.SG M).length - 1 = qs by omega] at e
      exact e
    have hquq : qu ≤ 1005 := by have := Hqu.out; rw [List.length_append] at this; omega
    have hqsq : qs ≤ 1005 := by have := Hqs.out; rw [List.length_append] at this; omega
    clear hpu hps hlu hls
    obtain ⟨aob, capb, hvb⟩ := hB.shape
    subst hvb
    have hBB := hB.bs hby
    clear hB
    go_wp2_with fail
    refine (implPutU_any _ ys n w1 hBB (by omega)).mono ?_
    rintro e w2 ⟨vp, rfl, hP, b2⟩
    rw [HN.out] at hP
    have hPB := hP.bs hbu
    obtain ⟨bp, op, cp, rfl, hcp, hcm, hPc⟩ := hP.value hbu Hqu.out
    unfold maxLen at hcm
    have hB2 := hBB.grow b2
    have B2 := b1.trans (b2.mono b1.size)
    clear hP hBB b1 b2
    go_wp2_with fail
    refine (implGetU_any _ _ _ w2 hPB (by rw [Hqu.out]; omega)).mono ?_
    rintro e w2' ⟨rfl, hw⟩
    obtain rfl := hw.symm
    clear hw
    rw [HU.out]
    unfold trip
    go_wp2_with fail
    refine (implPutS_any _ ys n w2 hB2 (by omega)).mono ?_
    rintro e w3 ⟨vs, rfl, hS, b3⟩
    rw [HM.out] at hS
    have hSB := hS.bs hbs
    obtain ⟨bs, os, cs, rfl, hcs, hcsm, hSc⟩ := hS.value hbs Hqs.out
    unfold maxLen at hcsm
    have hPc3 := hPc.grow b3
    have B3 := B2.trans (b3.mono B2.size)
    clear hS hB2 b3 B2 hPc hPB
    go_wp2_with fail
    refine (implGetS_any _ _ _ w3 hSB (by rw [Hqs.out]; omega)).mono ?_
    rintro e w4 ⟨rfl, b4⟩
    rw [HSg.out]
    unfold trip
    have hPc4 := hPc3.grow b4
    have hSc4 := hSc.grow b4
    have B4 := B3.trans (b4.mono B3.size)
    clear hPc3 hSc hSB b4 B3
    go_wp2_with fail
    refine (implGetU_any _ _ _ w4 hPc4 (by rw [List.length_take]; omega)).mono ?_
    rintro e w4' ⟨rfl, hw⟩
    obtain rfl := hw.symm
    clear hw hPc4
    rw [HUc.out]
    unfold trip
    go_wp2_with fail
    refine (implGetS_any _ _ _ w4 hSc4 (by rw [List.length_take]; omega)).mono ?_
    rintro e w5 ⟨rfl, b5⟩
    rw [HSc.out]
    unfold trip
    have B5 := B4.trans (b5.mono B4.size)
    clear hSc4 b5 B4
    have hcc := Ma.clamp_cases n
    rw [HN.out] at hcc
    rcases hcc with ⟨hn, hv⟩ | ⟨hn, hn2, hv⟩ | ⟨hn, hn2, hv⟩
    all_goals
      subst hv
      clear HN HU HUc HSg HSc Hqu Hqs hbu hbs hby
      go_wp2_with (go_at_call 22; refine (specWrap_any _ _).mono ?_; rintro e w6 ⟨rfl, hw⟩; obtain rfl := hw.symm; clear hw; rw [HM.out])
      go_ret
      exact ⟨rfl, B5⟩
  · have hd : decide ((1048576 : Int) < zs.length) = true := by simp; omega
    have HB := Hid.mk (big_any v zs w H.out)
    rw [hd] at HB
    go_enter Try.func4, Try.ntmps4
    go_wp2_with fail
    refine HB.out.mono ?_
    rintro e w1 ⟨rfl, hw⟩
    obtain rfl := hw.symm
    clear hw HB
    go_wp2
    go_ret
    exact ⟨rfl, Below.refl _ _⟩
end Go.Proofs.Ytincoibidgkiaaa
