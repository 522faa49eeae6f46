/- What the draw of ParseRex hands over: some text, a short one. -/
import Derived.Test.YtapniafhcagogaaRexDraw
import Derived.Test.YtapniafhcagogaaRexTextS
namespace Go.Proofs.Ytapniafhcagogaa
open Go.RowKit
set_option maxRecDepth 8000

theorem rexS_size (t : Tr) : (rexS t).size ≤ 779 := by
  unfold rexS
  split
  · rename_i h
    obtain ⟨hd, hc, ho⟩ := (okR_iff t).1 h
    have := tl_len t ho
    have e : (strOf t.tl).size = t.tl.length := strOf_size _
    omega
  · decide

set_option maxHeartbeats 1000000 in
theorem drawParseRex_any (v : Value) (zs : List Int) (w : World) (h : Bs w v zs) (hlen : zs.length ≤ 1048576) :
    Calls Try.prog 15 #[v] w fun e w' => ∃ s, e = .returned (.string s) ∧ s.size ≤ 2000 ∧ Below w.heap.size w w' := by
  have H := Hid.mk h
  clear h
  go_enter Try.func15, Try.ntmps15
  go_wp2_with fail
  refine (l1New_any v zs w H.out hlen).mono ?_
  rintro e w1 ⟨rfl, hC1, hb1⟩
  have HC1 := Hid.mk hC1
  have HB1 := Hid.mk hb1
  clear hC1 hb1
  go_wp2_with fail
  refine (l3Draw_any 3 (by omega) w.heap.size v zs w1 HC1.out).mono ?_
  rintro e w2 ⟨t, u, rfl, hdn, how, hC2, hg2⟩
  have HC2 := Hid.mk hC2
  have HB2 : Hid (Below w.heap.size w w2) := HB1.out.grown hg2 HB1.out.size (fun k e => by simp at e; omega)
  have HT := Hid.mk (specRexText_any t _ u w2 how.rl hdn.size)
  have hz := rexS_size t
  obtain ⟨s, hs⟩ : ∃ s, rexS t = s := ⟨_, rfl⟩
  rw [hs] at HT hz
  clear hC2 hg2 hdn how HC1 HB1 hs
  go_wp2_with fail
  refine HT.out.mono ?_
  rintro e w3 ⟨rfl, hb3⟩
  have HC3 := Hid.mk (HC2.out.grow hb3)
  have HB3 := Hid.mk (HB2.out.trans (hb3.mono HB2.out.size))
  clear hb3 HC2 HB2 HT
  go_wp2_with fail
  refine (l1Below_any w.heap.size v zs 5 w3 HC3.out).mono ?_
  rintro e w4 ⟨x, rfl, hx0, -, -, hC4, hg4⟩
  have HC4 := Hid.mk hC4
  have HB4 : Hid (Below w.heap.size w w4) := HB3.out.grown hg4 HB3.out.size (fun k e => by simp at e; omega)
  clear hC4 hg4 HC3 HB3
  by_cases hx1 : x = 0
  · subst hx1
    go_wp2_with fail
    refine (l1Str_any w.heap.size w4.heap.size 14 v zs [⟨#[]⟩, ⟨#[40, 97, 41]⟩, ⟨#[97, 42, 42]⟩, ⟨#[91, 98, 97, 93]⟩, ⟨#[91]⟩, ⟨#[97, 124]⟩, ⟨#[40, 41]⟩, ⟨#[40, 97, 98, 41, 99]⟩, ⟨#[97, 41]⟩, ⟨#[92]⟩, ⟨#[40, 97, 124, 98, 41, 124, 99]⟩, ⟨#[120, 40, 97, 124, 98, 41, 42, 36]⟩, ⟨#[94]⟩, ⟨#[42]⟩] _
      (HC4.out.grow ((Below.refl _ _).alloc (Nat.le_refl _) _)) rfl (by omega) (by omega) (heap_alloc_new w4 _) (by have := HC4.out.lt; omega)).mono ?_
    rintro e w5 ⟨y, rfl, hy, hC5, hg5⟩
    have hyz : y.size ≤ 2000 := by
      have := (List.all_eq_true.1 (show ([⟨#[]⟩, ⟨#[40, 97, 41]⟩, ⟨#[97, 42, 42]⟩, ⟨#[91, 98, 97, 93]⟩, ⟨#[91]⟩, ⟨#[97, 124]⟩, ⟨#[40, 41]⟩, ⟨#[40, 97, 98, 41, 99]⟩, ⟨#[97, 41]⟩, ⟨#[92]⟩, ⟨#[40, 97, 124, 98, 41, 124, 99]⟩, ⟨#[120, 40, 97, 124, 98, 41, 42, 36]⟩, ⟨#[94]⟩, ⟨#[42]⟩] : List ByteArray).all (fun y => decide (y.size ≤ 2000)) = true by decide +kernel)) y hy
      simpa using this
    have HB5 : Hid (Below w.heap.size w w5) := (HB4.out.alloc HB4.out.size _).grown hg5 (by have := HB4.out.size; simp; omega) (fun k e => by simp at e; omega)
    clear hC5 hg5 hy HC4 HB4
    go_wp2
    go_ret
    exact ⟨y, rfl, hyz, HB5.out⟩
  by_cases hx2 : x = 1
  · subst hx2
    go_wp2_with fail
    refine (l1Below_any w.heap.size v zs _ w4 HC4.out).mono ?_
    rintro e w5 ⟨p, rfl, hp0, hp1', -, hC5, hg5⟩
    have hp1 := hp1' (by omega)
    have HC5 := Hid.mk hC5
    have HB5 : Hid (Below w.heap.size w w5) := HB4.out.grown hg5 HB4.out.size (fun k e => by simp at e; omega)
    clear hC5 hg5 HC4 HB4 hp1'
    obtain ⟨p, rfl⟩ := Int.eq_ofNat_of_zero_le hp0
    have hps : p ≤ s.size := by omega
    have HC6 := Hid.mk (HC5.out.grow (Below.drewSelf _ _ 1))
    have HB6 : Hid (Below w.heap.size w w5.drew) := HB5.out.drew
    clear HC5 HB5
    go_wp2_with fail
    refine wp_region_held_drew (S := fun _ => True) (by kernel_rfl) trivial (fun _ => ?_)
    refine takeHD (i := 0) (v := .string s) (some 25) rfl rfl (by kernel_rfl) (by kernel_rfl) (by kernel_rfl) (fun _ _ _ h => h) (Or.inl ⟨by kernel_rfl, fun w' hw => by kernel_rfl⟩) trivial ?_
    simp only [Act.put, List.setIfInBounds_toArray]
    refine takeHD (i := 1) (v := .int .i64 p) (some 26) rfl rfl (by kernel_rfl) (by kernel_rfl) (by kernel_rfl) (fun _ _ _ h => h) (Or.inl ⟨by kernel_rfl, fun w' hw => by kernel_rfl⟩) trivial ?_
    simp only [Act.put, List.setIfInBounds_toArray]
    refine takeHD (i := 2) (v := .string (s.extract 0 p)) (some 27) rfl rfl (by kernel_rfl) (by kernel_rfl) (by kernel_rfl) (fun _ _ _ h => h) (Or.inl ⟨by kernel_rfl, fun w' hw => ?_⟩) trivial ?_
    · go_simp
    simp only [Act.put, List.setIfInBounds_toArray]
    refine takeHD (i := 3) (v := .pointer (some ⟨w.heap.size, 0, none⟩)) (some 28) rfl rfl (by kernel_rfl) (by kernel_rfl) (by kernel_rfl) (fun _ _ _ h => h) (Or.inl ⟨by kernel_rfl, fun w' hw => by kernel_rfl⟩) trivial ?_
    simp only [Act.put, List.setIfInBounds_toArray]
    refine takeHD (i := 7) (v := .string s) (some 32) rfl rfl (by kernel_rfl) (by kernel_rfl) (by kernel_rfl) (fun _ _ _ h => h) (Or.inl ⟨by kernel_rfl, fun w' hw => by kernel_rfl⟩) trivial ?_
    simp only [Act.put, List.setIfInBounds_toArray]
    refine takeHD (i := 8) (v := .int .i64 p) (some 33) rfl rfl (by kernel_rfl) (by kernel_rfl) (by kernel_rfl) (fun _ _ _ h => h) (Or.inl ⟨by kernel_rfl, fun w' hw => by kernel_rfl⟩) trivial ?_
    simp only [Act.put, List.setIfInBounds_toArray]
    refine takeHD (i := 9) (v := .string (s.extract p s.size)) (some 34) rfl rfl (by kernel_rfl) (by kernel_rfl) (by kernel_rfl) (fun _ _ _ h => h) (Or.inl ⟨by kernel_rfl, fun w' hw => ?_⟩) trivial ?_
    · go_simp
    simp only [Act.put, List.setIfInBounds_toArray]
    refine wpAnyH_ready (rs := [4]) (by kernel_rfl) (by simp) ?_
    refine AllReadyH.cons rfl (fun K hK => ?_) AllReadyH.nil
    rw [if_pos (by kernel_rfl)]
    go_wp2_with fail
    refine hK.out _ _ trivial (fun _ => ?_)
    clear hK K
    refine wpAnyH_ready (rs := [5]) (by kernel_rfl) (by simp) ?_
    refine AllReadyH.cons rfl (fun K hK => ?_) AllReadyH.nil
    rw [if_pos (by kernel_rfl)]
    go_wp2_with fail
    refine (l1Str_any w.heap.size w5.heap.size 6 v zs [⟨#[40]⟩, ⟨#[41]⟩, ⟨#[42]⟩, ⟨#[124]⟩, ⟨#[91]⟩, ⟨#[97]⟩] _
      (HC6.out.grow ((Below.refl _ _).alloc (Nat.le_refl _) _)) rfl (by omega) (by omega) (heap_alloc_new w5.drew _) (by have := HC6.out.lt; simp at this; omega)).mono ?_
    rintro e w7 ⟨y, rfl, hy, hC7, hg7⟩
    have hyz : y.size ≤ 1 := by
      have := (List.all_eq_true.1 (show ([⟨#[40]⟩, ⟨#[41]⟩, ⟨#[42]⟩, ⟨#[124]⟩, ⟨#[91]⟩, ⟨#[97]⟩] : List ByteArray).all (fun y => decide (y.size ≤ 1)) = true by decide +kernel)) y hy
      simpa using this
    have HB7 : Hid (Below w.heap.size w w7) := (HB6.out.alloc HB6.out.size _).grown hg7 (by have := HB6.out.size; simp at this ⊢; omega) (fun k e => by simp at e; omega)
    refine hK.out _ _ trivial (fun _ => ?_)
    clear hK K hC7 hg7 hy HC6 HB6
    have e1 : (s.extract 0 p).size ≤ 779 := by simp; omega
    have e2 : (s.extract p s.size).size ≤ 779 := by simp; omega
    generalize s.extract 0 p = s1 at e1 ⊢
    generalize s.extract p s.size = s2 at e2 ⊢
    have e3 : ¬ 9223372036854775807 < s1.size + y.size := by omega
    have e4 : ¬ 9223372036854775807 < (s1 ++ y).size + s2.size := by simp; omega
    have HZ : Hid ((s1 ++ y ++ s2).size ≤ 2000) := by show _ ≤ _; simp; omega
    refine wpAnyH_ready (rs := [6]) (by kernel_rfl) (by simp) ?_
    refine AllReadyH.cons rfl (fun K hK => ?_) AllReadyH.nil
    rw [if_pos (by kernel_rfl)]
    go_wp2_with fail
    refine hK.out _ _ trivial (fun _ => ?_)
    clear hK K
    refine wpAnyH_ready (rs := [10]) (by kernel_rfl) (by simp) ?_
    refine AllReadyH.cons rfl (fun K hK => ?_) AllReadyH.nil
    rw [if_pos (by kernel_rfl)]
    go_wp2_with fail
    refine hK.out _ _ trivial (fun _ => ?_)
    clear hK K
    refine wpAnyH_ready (rs := [11]) (by kernel_rfl) (by simp) ?_
    refine AllReadyH.cons rfl (fun K hK => ?_) AllReadyH.nil
    rw [if_pos (by kernel_rfl)]
    go_wp2_with fail
    refine hK.out _ _ trivial (fun _ => ?_)
    clear hK K
    refine wpAnyH_done (by kernel_rfl) ?_ _
    go_wp2
    go_ret
    exact ⟨_, rfl, HZ.out, HB7.out⟩
  · have hb0 : (x == 0) = false := beq_eq_false_iff_ne.2 hx1
    have hb1 : (x == 1) = false := beq_eq_false_iff_ne.2 hx2
    go_wp2
    go_ret
    exact ⟨s, rfl, by omega, HB4.out⟩
end Go.Proofs.Ytapniafhcagogaa
