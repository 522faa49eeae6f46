/- A number's digits read by the program: plainNumber. -/
import Derived.Test.YtapcbblfcmdbnaaDoorLexNum
import Derived.Test.YtapcbblfcmdbnaaDoorLexHelp
import Derived.Test.YtapcbblfcmdbnaaDoorSame
import Derived.WalkSmall
namespace Go.Proofs.YtapcbblfcmdbnaaDoor
open Go.RowKit
set_option maxRecDepth 8000

/-- The library's error of what is too great is there. -/
def ErrR (w : World) : Prop := ∃ tp p, w.var? Tryd.prog "strconv.ErrRange" = some #[.iface tp p]
/-- What plainNumber answers. -/
def pnT (d : ByteArray) : Int := if fv 0 d.data.toList < 9223372036854775808 ∧ Lib.decDigits (fv 0 d.data.toList) = d.data.toList then ((fv 0 d.data.toList : Nat) : Int) else -1

set_option maxHeartbeats 1000000 in
theorem plainNumber_any (d : ByteArray) (w : World) (hn : 1 ≤ d.size) (hs : d.size ≤ 1048576) (hd : ∀ c ∈ d.data.toList, dgU c) (ht : Tab w) (he : ErrR w) :
    Calls Tryd.prog 25 #[.string d] w fun e w' => e = .returned (.int .i64 (pnT d)) ∧ Below w.heap.size w w' := by
  have hne : d.data.toList ≠ [] := by
    intro h
    have h1 : d.size = d.data.toList.length := by rw [Array.length_toList]; rfl
    rw [h, List.length_nil] at h1
    omega
  rcases atoi_digits hne hd with ha | ⟨ha, hbig⟩
  · have hb := Lib.atoiAll_bounds ha
    have HA := Hid.mk (Tryd.strconv_Atoi_ok d (by omega) _ ha)
    obtain ⟨v, hv⟩ : ∃ v : Nat, fv 0 d.data.toList = v := ⟨_, rfl⟩
    rw [hv] at HA hb
    have HP : Hid (pnT d = if Lib.decDigits v = d.data.toList then (v : Int) else -1) := by
      show _ = _
      unfold pnT
      rw [hv]
      by_cases h : Lib.decDigits v = d.data.toList
      · rw [if_pos ⟨by omega, h⟩, if_pos h]
      · rw [if_neg (fun x => h x.2), if_neg h]
    have HTB := Hid.mk (fun w' (hb : Below w.heap.size w w') => ht.grow hb)
    clear ha hv hd hne he ht
    go_enter Tryd.func25, Tryd.ntmps25
    go_wp2_with fail
    refine (HA.out _).mono ?_
    rintro e w1 ⟨rfl, hw1⟩
    have B1 : Below w.heap.size w w1 := by
      rcases hw1 with rfl | ⟨t, rfl⟩
      · exact Below.refl _ _
      · exact Lib.bytesWorld_below _ _ _
    have HT1 := Hid.mk (HTB.out _ B1)
    clear hw1 HA
    have hnS : (numS (v : Int)).toList = Lib.decDigits v := by
      unfold numS Lib.itoa
      rw [if_neg (by omega), Int.toNat_natCast, ByteArray.toList_eq]
    have hdl : d.toList = d.data.toList := ByteArray.toList_eq d
    go_wp2_with fail
    refine (Tryd.strconv_Itoa (v : Int) (by omega) (by omega) _ HT1.out).mono ?_
    rintro e w2 ⟨rfl, kk, os, rfl⟩
    have B2 := B1.trans (Lib.below_grow w.heap.size _ B1.size kk os)
    have hit : (⟨(Lib.itoa (v : Int)).toArray⟩ : ByteArray) = numS (v : Int) := rfl
    rw [hit]
    generalize numS (v : Int) = nS at *
    by_cases heq : Lib.decDigits v = d.data.toList
    · rw [if_pos heq] at HP
      have hcmp : (nS.toList != d.toList) = false := by rw [hnS, hdl, heq]; simp
      have hcm2 : (nS.toList == d.toList) = true := by rw [hnS, hdl, heq]; simp
      clear hnS hdl heq hit HT1 B1
      go_wp2
      go_ret
      exact ⟨by rw [HP.out]; rfl, B2⟩
    · rw [if_neg heq] at HP
      have hcmp : (nS.toList != d.toList) = true := by rw [hnS, hdl]; simpa using heq
      have hcm2 : (nS.toList == d.toList) = false := by rw [hnS, hdl]; simpa using heq
      clear hnS hdl heq hit HT1 B1
      go_wp2
      go_ret
      exact ⟨by rw [HP.out]; rfl, B2⟩
  · obtain ⟨tp, p, hvar⟩ := he
    have HA := Hid.mk (Tryd.strconv_Atoi_range_var d (by omega) ha tp p w hvar)
    have HP : Hid (pnT d = -1) := by show _ = _; unfold pnT; rw [if_neg (fun x => by omega)]
    generalize Lib.atoiSat d.data.toList = sat at HA
    clear ha hd hne hvar ht hbig
    go_enter Tryd.func25, Tryd.ntmps25
    go_wp2_with fail
    refine HA.out.mono ?_
    rintro e w1 ⟨N, rfl, -, -, hb1⟩
    have HB := Hid.mk hb1
    clear hb1 HA
    go_wp2
    go_ret
    exact ⟨by rw [HP.out]; rfl, HB.out⟩
end Go.Proofs.YtapcbblfcmdbnaaDoor
