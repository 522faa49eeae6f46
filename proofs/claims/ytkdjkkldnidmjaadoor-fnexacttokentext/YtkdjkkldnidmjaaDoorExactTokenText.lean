/- The law FnExactTokenText walked: at every token the program's TokenText answers what the document's model of it answers. -/
import Derived.Test.YtkdjkkldnidmjaaDoorTokTxt
namespace Go.Proofs.YtkdjkkldnidmjaaDoor
open Go.RowKit

set_option maxHeartbeats 400000 in
theorem fnExactTokenText_walk (k n : Int) (s : ByteArray) (w : World) (hs : s.size ≤ maxLen) (ht : Tab w) :
    Calls Tryd.prog 6 #[vl k n s] w fun e w' => e = .returned (.bool true) ∧ Below w.heap.size w w' := by
  have B0 : Below w.heap.size w (boxed w k n s 38) := (Below.refl _ _).alloc (Nat.le_refl _) _
  have HT := Hid.mk ht
  clear ht
  have hbb : ((tkT k n s).toList != (tkT k n s).toList) = false := by simp
  by_cases h : 1048576 < s.size
  · have HS := Hid.mk (fun w => szTok_any k n s w hs)
    rw [if_pos h] at HS
    go_enter Tryd.func6, Tryd.ntmps6
    go_wp2_with fail
    refine (HS.out _).mono ?_
    rintro e w1 ⟨rfl, hb1⟩
    have B1 := B0.trans (hb1.mono (by simp))
    clear B0 hb1
    go_wp2
    go_ret
    exact ⟨rfl, B1⟩
  · have HS := Hid.mk (fun w => szTok_any k n s w hs)
    rw [if_neg h] at HS
    have h1 : ¬ (1048576 : Int) - (s.size : Int) < 0 := by omega
    have hs' : s.size ≤ 1048576 := by omega
    go_enter Tryd.func6, Tryd.ntmps6
    go_wp2_with fail
    refine (HS.out _).mono ?_
    rintro e w1 ⟨rfl, hb1⟩
    have B1 : Below (w.heap.size + 1) (boxed w k n s 38) w1 := hb1.mono (by simp)
    have s1 := B1.size
    simp at s1
    have hc1 := fun o => B1.cell (p := ⟨w.heap.size, o, none⟩) (by simp)
    clear hb1
    go_wp2_with fail
    refine (toTok_any _ _ _ _).mono ?_
    rintro e w2 ⟨rfl, hb2⟩
    have B2 := B1.trans (hb2.mono (by omega))
    have s2 := B2.size
    simp at s2
    clear hb2 B1 hc1 s1
    go_wp2_with fail
    refine (specTokenText_any k n s w2 hs).mono ?_
    rintro e w3 ⟨rfl, hb3⟩
    have B3 := B2.trans (hb3.mono (by omega))
    have s3 := B3.size
    simp at s3
    have hc3 := fun o => B3.cell (p := ⟨w.heap.size, o, none⟩) (by simp)
    clear hb3 B2 s2
    go_wp2_with fail
    refine (toTok_any _ _ _ _).mono ?_
    rintro e w4 ⟨rfl, hb4⟩
    have B4 := B3.trans (hb4.mono (by omega))
    have s4 := B4.size
    simp at s4
    clear hb4 B3 hc3 s3
    go_wp2_with fail
    refine (implTokenText_any k n s w4 hs (HT.out.grow (B0.trans (B4.mono (by omega))))).mono ?_
    rintro e w5 ⟨rfl, hb5⟩
    have B5 := B0.trans ((B4.trans (hb5.mono (by omega))).mono (by omega))
    clear hb5 B4 s4
    go_wp2
    go_ret
    exact ⟨rfl, B5⟩
end Go.Proofs.YtkdjkkldnidmjaaDoor
