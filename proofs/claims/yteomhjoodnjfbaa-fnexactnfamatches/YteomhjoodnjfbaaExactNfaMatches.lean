/- The law FnExactNfaMatches walked: at every machine and every text the program's NfaMatches answers what the document's model of it answers. -/
import Derived.Test.YteomhjoodnjfbaaNfaRunS
import Derived.Test.YteomhjoodnjfbaaNodeCopy
import Derived.Test.YteomhjoodnjfbaaNodeTrod
namespace Go.Proofs.Yteomhjoodnjfbaa
open Go.RowKit
set_option maxRecDepth 8000

theorem NB.nlAnyM {w : World} {g : Nat} {L : List Nd} (h : NB w g L) (hl : L.length ≤ 1048576) (hs : ∀ x ∈ L, x.s.size ≤ maxLen) : Nl w anyB L (.slice (some ⟨g, 0, none⟩) L.length L.length) := h.nl trivial (by unfold maxLen; omega) hs

set_option maxHeartbeats 2000000 in
theorem fnExactNfaMatches_walk (N : List Nd) (v : Value) (z : ByteArray) (w : World) (h : Nl w anyB N v) (hz : z.size ≤ maxLen) :
    Calls Try.prog 4 #[.agg #[v], .string z] w fun e w' => e = .returned (.bool true) ∧ Below w.heap.size w w' := by
  have HS := Hid.mk (fun (w' : World) (hb : Below w.heap.size w w') => szNfa_any N anyB v w' (h.grow hb))
  have HT := Hid.mk (fun hz (w' : World) (hb : Below w.heap.size w w') => toNfa_any N anyB v w' (h.grow hb) hz)
  have HSO0 := Hid.mk (fun (hz : z.size ≤ 1048576) (w' : World) (B : Nat → Prop) (u : Value) (h : Nl w' B N u) => specNfaMatches_any N B u z w' h hz)
  have HIO0 := Hid.mk (fun (hz : z.size ≤ 1048576) (w' : World) (B : Nat → Prop) (u : Value) (h : Nl w' B N u) => implNfaMatches_any N B u z w' h hz)
  have HEQ := Hid.mk (fun (w' : World) (B C : Nat → Prop) (u u' : Value) (h : Nl w' B N u) (h' : Nl w' C N u') => eqNfa_same N B C u u' w' h h')
  obtain ⟨b, hb⟩ : ∃ b, mtB N z = b := ⟨_, rfl⟩
  rw [hb] at HSO0 HIO0
  unfold maxLen at hz
  clear hb
  obtain ⟨ao, cap, rfl, hl1, hl2, hl3, hl4, -⟩ := h
  have HL4 := Hid.mk hl4
  have B0 : Below w.heap.size w (w.alloc (.cells #[.slice ao N.length cap] 24)) := (Below.refl _ _).alloc (Nat.le_refl _) _
  have hbb : (b != b) = false := by simp
  clear hl1 hl2 hl3 hl4
  by_cases hzz : (1048576 : Int) < (z.size : Int)
  · clear HS HT HSO0 HIO0 HEQ
    go_enter Try.func4, Try.ntmps4
    go_wp2
    go_ret
    exact ⟨rfl, B0⟩
  have HSO := Hid.mk (HSO0.out (by omega))
  have HIO := Hid.mk (HIO0.out (by omega))
  clear HSO0 HIO0
  go_enter Try.func4, Try.ntmps4
  go_wp2_with fail
  refine (HS.out _ B0).mono ?_
  rintro e w1 ⟨m, rfl, hm1, hb1⟩
  have HM := Hid.mk hm1
  clear hm1
  by_cases hm : m < 0
  · have B1 := B0.trans (hb1.mono (by simp))
    clear B0 hb1 HS HT HSO HIO HEQ HM
    go_wp2
    go_ret
    exact ⟨rfl, B1⟩
  · have hle : N.length ≤ 1048576 := HM.out (by omega)
    have HT' := Hid.mk (HT.out hle)
    have HNL : Hid (∀ w' g, NB w' g N → Nl w' anyB N (.slice (some ⟨g, 0, none⟩) N.length N.length)) := fun w' g h => h.nlAnyM hle HL4.out
    clear HT HM HL4 hle
    have C1 : Hid (Below (w.heap.size + 1) (w.alloc (.cells #[.slice ao N.length cap] 24)) w1) := hb1.mono (by simp)
    have s1 := hb1.size
    simp at s1
    have hc1 := fun o => C1.out.cell (p := ⟨w.heap.size, o, none⟩) (by simp)
    clear hb1 HS
    go_wp2_with fail
    refine (HT'.out _ (B0.trans (C1.out.mono (by omega)))).mono ?_
    rintro e w2 ⟨g2, rfl, hg2, hn2, hb2⟩
    have hr2 := HNL.out _ _ hn2
    have C2 : Hid (Below (w.heap.size + 1) (w.alloc (.cells #[.slice ao N.length cap] 24)) w2) := C1.out.trans (hb2.mono (by omega))
    have s2 : w.heap.size + 1 ≤ w2.heap.size := Nat.le_trans s1 hb2.size
    clear hb2 C1 hc1 s1 hn2
    go_wp2_with fail
    refine (HSO.out _ _ _ hr2).mono ?_
    rintro e w3 ⟨rfl, hb3⟩
    have C3 : Hid (Below (w.heap.size + 1) (w.alloc (.cells #[.slice ao N.length cap] 24)) w3) := C2.out.trans (hb3.mono (by omega))
    have s3 : w.heap.size + 1 ≤ w3.heap.size := Nat.le_trans s2 hb3.size
    have hc3 := fun o => C3.out.cell (p := ⟨w.heap.size, o, none⟩) (by simp)
    clear hb3 C2 s2 hr2 HSO
    go_wp2_with fail
    refine (HT'.out _ (B0.trans (C3.out.mono (by omega)))).mono ?_
    rintro e w4 ⟨g4, rfl, hg4, hn4, hb4⟩
    have hr4 := HNL.out _ _ hn4
    have C4 : Hid (Below (w.heap.size + 1) (w.alloc (.cells #[.slice ao N.length cap] 24)) w4) := C3.out.trans (hb4.mono (by omega))
    have s4 : w.heap.size + 1 ≤ w4.heap.size := Nat.le_trans s3 hb4.size
    have B5 : Below w4.heap.size w4 (w4.alloc (.cells #[.slice (some ⟨g4, 0, none⟩) N.length N.length] 30)) := (Below.refl _ _).alloc (Nat.le_refl _) _
    have HR5 := Hid.mk (hr4.grow B5)
    clear hb4 C3 hc3 s3 hr4 hn4
    go_wp2_with fail
    refine (HIO.out _ _ _ HR5.out).mono ?_
    rintro e w6 ⟨rfl, hb6⟩
    have D6 : Hid (Below (w4.heap.size + 1) (w4.alloc (.cells #[.slice (some ⟨g4, 0, none⟩) N.length N.length] 30)) w6) := hb6.mono (by simp)
    have HR6 := Hid.mk (HR5.out.grow hb6)
    have C6 : Hid (Below (w.heap.size + 1) (w.alloc (.cells #[.slice ao N.length cap] 24)) w6) := C4.out.trans ((B5.trans (hb6.mono (by simp))).mono (by omega))
    have s6 : w4.heap.size + 1 ≤ w6.heap.size := by have := hb6.size; simpa using this
    clear hb6 HR5 B5 C4 HIO
    have S0 : Hid (Below w6.heap.size w6 w6.drew) := Below.drewSelf _ _ 1
    have hxb : ∀ w', Below w6.heap.size w6 w' → ∀ o, w'.cell? ⟨w4.heap.size, o, none⟩ = (w4.alloc (.cells #[.slice (some ⟨g4, 0, none⟩) N.length N.length] 30)).cell? ⟨w4.heap.size, o, none⟩ := by
      intro w' hb o
      rw [hb.cell (p := ⟨w4.heap.size, o, none⟩) (by simp; omega)]
      exact D6.out.cell (p := ⟨w4.heap.size, o, none⟩) (by simp)
    have hyb : ∀ w', Below w6.heap.size w6 w' → ∀ o, w'.cell? ⟨w.heap.size, o, none⟩ = (w.alloc (.cells #[.slice ao N.length cap] 24)).cell? ⟨w.heap.size, o, none⟩ := by
      intro w' hb o
      rw [hb.cell (p := ⟨w.heap.size, o, none⟩) (by simp; omega)]
      exact C6.out.cell (p := ⟨w.heap.size, o, none⟩) (by simp)
    have HX := Hid.mk hxb
    have HY := Hid.mk hyb
    clear hxb hyb
    go_wp2_with fail
    refine wp_region_held_drew (S := Below w6.heap.size w6) (by kernel_rfl) S0.out (fun _ => ?_)
    refine takeHD (i := 0) (v := .agg #[.slice (some ⟨g4, 0, none⟩) N.length N.length]) (some 29) rfl rfl (by kernel_rfl) (by kernel_rfl) (by kernel_rfl) (fun _ _ _ h => h) (Or.inl ⟨by kernel_rfl, fun w' hw => ?_⟩) S0.out ?_
    · have hx := HX.out w' hw
      go_simp
    simp only [Act.put, List.setIfInBounds_toArray]
    refine takeHD (i := 1) (v := .agg #[.slice ao N.length cap]) (some 30) rfl rfl (by kernel_rfl) (by kernel_rfl) (by kernel_rfl) (fun _ _ _ h => h) (Or.inl ⟨by kernel_rfl, fun w' hw => ?_⟩) S0.out ?_
    · have hy := HY.out w' hw
      go_simp
    simp only [Act.put, List.setIfInBounds_toArray]
    refine wpAnyH_ready (rs := [2]) (by kernel_rfl) (by simp) ?_
    refine AllReadyH.cons rfl (fun K hK => ?_) AllReadyH.nil
    rw [if_pos (by kernel_rfl)]
    go_wp2_with fail
    refine (HT'.out _ (B0.trans ((C6.out.trans (S0.out.mono (by omega))).mono (by omega)))).mono ?_
    rintro e w7 ⟨g7, rfl, hg7, hn7, hb7⟩
    have hr7 := HNL.out _ _ hn7
    have S7 : Hid (Below w6.heap.size w6 w7) := S0.out.trans hb7
    refine hK.out _ _ S7.out (fun _ => ?_)
    clear hK K
    have HR7 := Hid.mk (HR6.out.grow S7.out)
    refine wpAnyH_ready (rs := [3]) (by kernel_rfl) (by simp) ?_
    refine AllReadyH.cons rfl (fun K hK => ?_) AllReadyH.nil
    rw [if_pos (by kernel_rfl)]
    go_wp2_with fail
    refine (HEQ.out _ _ _ _ _ HR7.out hr7).mono ?_
    rintro e w8 ⟨rfl, hb8⟩
    have S8 : Hid (Below w6.heap.size w6 w8) := S7.out.trans (hb8.mono S7.out.size)
    refine hK.out _ _ S8.out (fun _ => ?_)
    clear hK K hr7 hn7 hb7 hb8 S7 HR7 HR6
    refine wpAnyH_ready (rs := [4]) (by kernel_rfl) (by simp) ?_
    refine AllReadyH.cons rfl (fun K hK => ?_) AllReadyH.nil
    rw [if_pos (by kernel_rfl)]
    go_wp2_with fail
    refine hK.out _ _ S8.out (fun _ => ?_)
    clear hK K
    refine wpAnyH_done (by kernel_rfl) ?_ _
    go_wp2
    go_ret
    exact ⟨rfl, B0.trans ((C6.out.trans (S8.out.mono (by omega))).mono (by omega))⟩
end Go.Proofs.Yteomhjoodnjfbaa
