/- The law FnExactRexOk walked: at every regular expression the program's RexOk answers what the document's model of it answers. -/
import Derived.Test.YtgigalcajgjpnaaGreatRexOkT
import Derived.Test.YtgigalcajgjpnaaGreatPlCan
import Derived.Test.YtgigalcajgjpnaaGreatRexTo
import Derived.Test.YtgigalcajgjpnaaGreatRexEq
import Derived.Test.YtgigalcajgjpnaaGreatTake
namespace Go.Proofs.YtgigalcajgjpnaaGreat
open Go.RowKit
set_option maxRecDepth 8000

theorem specRexOk_any (t : Tr) (B : Nat → Prop) (v : Value) (w : World) (h : Rl w B t.l v) (hs : t.s.size ≤ maxLen) :
    Calls Tryz.prog 130 #[rx t.k t.s v] w fun e w' => e = .returned (.bool (okR t)) ∧ Below w.heap.size w w' := by
  have R6 : PartsC 6 := parts_succ 5 (by omega) (parts_succ 4 (by omega) (parts_succ 3 (by omega) (parts_succ 2 (by omega) (parts_succ 1 (by omega) (parts_succ 0 (by omega) parts_zero)))))
  have HC := Hid.mk (fun (w' : World) (hb : Below w.heap.size w w') => R6 t B v w' (h.grow hb))
  have HK := Hid.mk (fun (w' : World) (hb : Below w.heap.size w w') => specOk_any t B v w' (h.grow hb) hs)
  have HO : Hid (okR t = (decide (partsF 6 t ≤ 60) && t.okT)) := rfl
  obtain ⟨b, hb⟩ : ∃ b, okR t = b := ⟨_, rfl⟩
  obtain ⟨q, hq⟩ : ∃ q, partsF 6 t = q := ⟨_, rfl⟩
  obtain ⟨o, ho⟩ : ∃ o, t.okT = o := ⟨_, rfl⟩
  obtain ⟨k, hk⟩ : ∃ k, t.k = k := ⟨_, rfl⟩
  obtain ⟨s, hsn⟩ : ∃ s, t.s = s := ⟨_, rfl⟩
  rw [hk, hsn, hq] at HC
  rw [hk, hsn, ho] at HK
  rw [hb, hq, ho] at HO
  rw [hk, hsn, hb]
  obtain ⟨ao, cap, rfl, hl1, hl2, hl3⟩ := h.len
  have B0 : Below w.heap.size w (w.alloc (.cells #[.int .i64 k, .string s, .slice ao t.l.length cap] 187)) := (Below.refl _ _).alloc (Nat.le_refl _) _
  clear h hk hsn hq hb ho R6 hl2
  by_cases h60 : q ≤ 60
  · have h60' : (q : Int) ≤ 60 := by omega
    have HR : Hid (o = b) := by show _ = _; rw [HO.out, decide_eq_true h60]; rfl
    clear HO
    go_enter Tryz.func130, Tryz.ntmps130
    go_wp2_with fail
    refine (HC.out _ B0).mono ?_
    rintro e w1 ⟨rfl, hb1⟩
    have B1 := B0.trans (hb1.mono (by simp))
    have hc1 := fun o => hb1.cell (p := ⟨w.heap.size, o, none⟩) (by simp)
    have hs1 := hb1.size
    simp at hs1
    clear B0 hb1 HC
    go_wp2_with fail
    refine (HK.out _ B1).mono ?_
    rintro e w2 ⟨rfl, hb2⟩
    have B2 := B1.trans (hb2.mono (by omega))
    clear B1 hb2 HK hc1
    go_wp2
    go_ret
    exact ⟨ret_b HR.out, B2⟩
  · have h60' : ¬ (q : Int) ≤ 60 := by omega
    have HR : Hid (false = b) := by show _ = _; rw [HO.out, decide_eq_false h60]; rfl
    clear HO HK
    go_enter Tryz.func130, Tryz.ntmps130
    go_wp2_with fail
    refine (HC.out _ B0).mono ?_
    rintro e w1 ⟨rfl, hb1⟩
    have B1 := B0.trans (hb1.mono (by simp))
    clear B0 hb1 HC
    go_wp2
    go_ret
    exact ⟨ret_b HR.out, B1⟩

end Go.Proofs.YtgigalcajgjpnaaGreat
