/- The law FnExactMatches walked: at every regular expression and every text the program's Matches answers what the document's model of it answers. -/
import Derived.Test.YtapniafhcagogaaDoorPlLong
import Derived.Test.YtapniafhcagogaaDoorRexEq
namespace Go.Proofs.YtapniafhcagogaaDoor
open Go.RowKit
set_option maxRecDepth 8000

set_option maxHeartbeats 1000000 in
theorem fnExactMatches_walk (t : Tr) (v : Value) (z : ByteArray) (w : World) (h : Rl w anyBlock t.l v) (hs : t.s.size ≤ maxLen) (hT : TabB w) :
    Calls Tryd.prog 8 #[rx t.k t.s v, .string z] w fun e w' => e = .returned (.bool true) ∧ Below w.heap.size w w' := by
  have HS := Hid.mk (fun (w' : World) (hb : Below w.heap.size w w') => szRex_any t anyBlock v w' 1048576 (h.grow hb) hs (by omega) (by omega))
  have HT := Hid.mk (fun hz (w' : World) (hb : Below w.heap.size w w') => toRex_any t anyBlock v w' (h.grow hb) hz)
  have HSO := Hid.mk (fun (hz : z.size ≤ 1048576) (w' : World) (B : Nat → Prop) (u : Value) (h : Rl w' B t.l u) => specMatches_any t B u z w' h hs hz)
  have HIO := Hid.mk (fun (w' : World) (hb : Below w.heap.size w w') (B : Nat → Prop) (u : Value) (h : Rl w' B t.l u) => matches_any t B u z w' h hs (hT.grow hb))
  have HEQ := Hid.mk (fun (w' : World) (B C : Nat → Prop) (u u' : Value) (h : Rl w' B t.l u) (h' : Rl w' C t.l u') => eqRex_any t B C u u' w' h h')
  have HZ : Hid (¬ leftOf 1048576 t.sz < 0 → szs t.l ≤ 1048576) := by
    intro h
    have := t.sz_eq
    unfold leftOf at h
    split at h <;> omega
  obtain ⟨m, hm⟩ : ∃ m, leftOf 1048576 t.sz = m := ⟨_, rfl⟩
  obtain ⟨b, hb⟩ : ∃ b, (longE t z).isSome = b := ⟨_, rfl⟩
  obtain ⟨k, hk⟩ : ∃ k, t.k = k := ⟨_, rfl⟩
  obtain ⟨s, hsn⟩ : ∃ s, t.s = s := ⟨_, rfl⟩
  obtain ⟨l, hln⟩ : ∃ l, t.l = l := ⟨_, rfl⟩
  rw [hk, hsn, hm] at HS
  rw [hk, hsn, hln] at HT
  rw [hk, hsn, hln, hb] at HSO HIO
  rw [hk, hsn, hln] at HEQ
  rw [hm, hln] at HZ
  rw [hln] at h
  rw [hk, hsn]
  clear hm hb hk hsn hln hs hT
  obtain ⟨ao, cap, rfl, hl1, hl2, hl3⟩ := h.len
  have B0 : Below w.heap.size w (w.alloc (.cells #[.int .i64 k, .string s, .slice ao l.length cap] 47)) := (Below.refl _ _).alloc (Nat.le_refl _) _
  have hbb : (b != b) = false := by simp
  clear h hl1 hl2 hl3
  by_cases hz : (1048576 : Int) < (z.size : Int)
  · clear HT HSO HIO HEQ HZ HS
    go_enter Tryd.func8, Tryd.ntmps8
    go_wp2
    go_ret
    exact ⟨rfl, B0⟩
  have HSO' := Hid.mk (HSO.out (by omega))
  clear HSO
  by_cases hm : m < 0
  · clear HT HSO' HIO HEQ HZ
    go_enter Tryd.func8, Tryd.ntmps8
    go_wp2_with fail
    refine (HS.out _ B0).mono ?_
    rintro e w1 ⟨rfl, hb1⟩
    have B1 := B0.trans (hb1.mono (by simp))
    clear B0 hb1 HS
    go_wp2
    go_ret
    exact ⟨rfl, B1⟩
  · have HT' := Hid.mk (HT.out (HZ.out hm))
    clear HT HZ
    go_enter Tryd.func8, Tryd.ntmps8
    go_wp2_with fail
    refine (HS.out _ B0).mono ?_
    rintro e w1 ⟨rfl, hb1⟩
    have C1 : Hid (Below (w.heap.size + 1) (w.alloc (.cells #[.int .i64 k, .string s, .slice ao l.length cap] 47)) w1) := hb1.mono (by simp)
    have s1 := hb1.size
    simp at s1
    have hc1 := fun o => C1.out.cell (p := ⟨w.heap.size, o, none⟩) (by simp)
    clear hb1 HS
    go_wp2_with fail
    refine (HT'.out _ (B0.trans (C1.out.mono (by omega)))).mono ?_
    rintro e w2 ⟨u, rfl, hr2, hb2⟩
    have C2 : Hid (Below (w.heap.size + 1) (w.alloc (.cells #[.int .i64 k, .string s, .slice ao l.length cap] 47)) w2) := C1.out.trans (hb2.mono (by omega))
    have s2 : w.heap.size + 1 ≤ w2.heap.size := Nat.le_trans s1 hb2.size
    clear hb2 C1 hc1 s1
    go_wp2_with fail
    refine (HSO'.out _ _ _ hr2).mono ?_
    rintro e w3 ⟨rfl, hb3⟩
    have C3 : Hid (Below (w.heap.size + 1) (w.alloc (.cells #[.int .i64 k, .string s, .slice ao l.length cap] 47)) w3) := C2.out.trans (hb3.mono (by omega))
    have s3 : w.heap.size + 1 ≤ w3.heap.size := Nat.le_trans s2 hb3.size
    have hc3 := fun o => C3.out.cell (p := ⟨w.heap.size, o, none⟩) (by simp)
    clear hb3 C2 s2 hr2 HSO'
    go_wp2_with fail
    refine (HT'.out _ (B0.trans (C3.out.mono (by omega)))).mono ?_
    rintro e w4 ⟨u4, rfl, hr4, hb4⟩
    have C4 : Hid (Below (w.heap.size + 1) (w.alloc (.cells #[.int .i64 k, .string s, .slice ao l.length cap] 47)) w4) := C3.out.trans (hb4.mono (by omega))
    have s4 : w.heap.size + 1 ≤ w4.heap.size := Nat.le_trans s3 hb4.size
    obtain ⟨a4, c4, rfl, -, -, -⟩ := hr4.len
    have B5 : Below w4.heap.size w4 (w4.alloc (.cells #[.int .i64 k, .string s, .slice a4 l.length c4] 26)) := (Below.refl _ _).alloc (Nat.le_refl _) _
    have HR5 := Hid.mk (hr4.grow B5)
    clear hb4 C3 hc3 s3 hr4
    go_wp2_with fail
    refine (HIO.out _ (B0.trans (((C4.out.trans (B5.mono (by omega)))).mono (by omega))) _ _ HR5.out).mono ?_
    rintro e w6 ⟨rfl, hb6⟩
    have D6 : Hid (Below (w4.heap.size + 1) (w4.alloc (.cells #[.int .i64 k, .string s, .slice a4 l.length c4] 26)) w6) := hb6.mono (by simp)
    have HR6 := Hid.mk (HR5.out.grow hb6)
    have C6 : Hid (Below (w.heap.size + 1) (w.alloc (.cells #[.int .i64 k, .string s, .slice ao l.length cap] 47)) w6) := C4.out.trans ((B5.trans (hb6.mono (by simp))).mono (by omega))
    have s6 : w4.heap.size + 1 ≤ w6.heap.size := by have := hb6.size; simpa using this
    clear hb6 HR5 B5 C4 HIO
    have S0 : Hid (Below w6.heap.size w6 w6.drew) := Below.drewSelf _ _ 1
    have hxb : ∀ w', Below w6.heap.size w6 w' → ∀ o, w'.cell? ⟨w4.heap.size, o, none⟩ = (w4.alloc (.cells #[.int .i64 k, .string s, .slice a4 l.length c4] 26)).cell? ⟨w4.heap.size, o, none⟩ := by
      intro w' hb o
      rw [hb.cell (p := ⟨w4.heap.size, o, none⟩) (by simp; omega)]
      exact D6.out.cell (p := ⟨w4.heap.size, o, none⟩) (by simp)
    have hyb : ∀ w', Below w6.heap.size w6 w' → ∀ o, w'.cell? ⟨w.heap.size, o, none⟩ = (w.alloc (.cells #[.int .i64 k, .string s, .slice ao l.length cap] 47)).cell? ⟨w.heap.size, o, none⟩ := by
      intro w' hb o
      rw [hb.cell (p := ⟨w.heap.size, o, none⟩) (by simp; omega)]
      exact C6.out.cell (p := ⟨w.heap.size, o, none⟩) (by simp)
    have HX := Hid.mk hxb
    have HY := Hid.mk hyb
    clear hxb hyb
    go_wp2_with fail
    refine wp_region_held_drew (S := Below w6.heap.size w6) (by kernel_rfl) S0.out (fun _ => ?_)
    refine takeHD (i := 0) (v := rx k s (.slice a4 l.length c4)) (some 29) rfl rfl (by kernel_rfl) (by kernel_rfl) (by kernel_rfl) (fun _ _ _ h => h) (Or.inl ⟨by kernel_rfl, fun w' hw => ?_⟩) S0.out ?_
    · have hx := HX.out w' hw
      go_simp
    simp only [Act.put, List.setIfInBounds_toArray]
    refine takeHD (i := 1) (v := rx k s (.slice ao l.length cap)) (some 30) rfl rfl (by kernel_rfl) (by kernel_rfl) (by kernel_rfl) (fun _ _ _ h => h) (Or.inl ⟨by kernel_rfl, fun w' hw => ?_⟩) S0.out ?_
    · have hy := HY.out w' hw
      go_simp
    simp only [Act.put, List.setIfInBounds_toArray]
    refine wpAnyH_ready (rs := [2]) (by kernel_rfl) (by simp) ?_
    refine AllReadyH.cons rfl (fun K hK => ?_) AllReadyH.nil
    rw [if_pos (by kernel_rfl)]
    go_wp2_with fail
    refine (HT'.out _ (B0.trans ((C6.out.trans (S0.out.mono (by omega))).mono (by omega)))).mono ?_
    rintro e w7 ⟨u7, rfl, hr7, hb7⟩
    have S7 : Hid (Below w6.heap.size w6 w7) := S0.out.trans hb7
    refine hK.out _ _ S7.out (fun _ => ?_)
    clear hK K
    have HR7 := Hid.mk (HR6.out.grow S7.out)
    refine wpAnyH_ready (rs := [3]) (by kernel_rfl) (by simp) ?_
    refine AllReadyH.cons rfl (fun K hK => ?_) AllReadyH.nil
    rw [if_pos (by kernel_rfl)]
    go_wp2_with fail
    refine (HEQ.out _ _ _ _ _ HR7.out hr7).mono ?_
    rintro e w8 ⟨rfl, hb8⟩
    have S8 : Hid (Below w6.heap.size w6 w8) := S7.out.trans (hb8.mono S7.out.size)
    refine hK.out _ _ S8.out (fun _ => ?_)
    clear hK K hr7 hb7 hb8 S7 HR7 HR6
    refine wpAnyH_ready (rs := [4]) (by kernel_rfl) (by simp) ?_
    refine AllReadyH.cons rfl (fun K hK => ?_) AllReadyH.nil
    rw [if_pos (by kernel_rfl)]
    go_wp2_with fail
    refine hK.out _ _ S8.out (fun _ => ?_)
    clear hK K
    refine wpAnyH_done (by kernel_rfl) ?_ _
    go_wp2
    go_ret
    exact ⟨rfl, B0.trans ((C6.out.trans (S8.out.mono (by omega))).mono (by omega))⟩
end Go.Proofs.YtapniafhcagogaaDoor
