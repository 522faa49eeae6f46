/- The program's array of nodes: a node that goes on behind itself, and a fork. -/
import Derived.Test.YtapniafhcagogaaArrDef
namespace Go.Proofs.Ytapniafhcagogaa
open Go.RowKit
set_option maxRecDepth 8000

theorem set_last {N : List Nd} {x y : Nd} : (N ++ [x]).set N.length y = N ++ [y] := by
  rw [List.set_append_right _ _ (Nat.le_refl _), Nat.sub_self]
  rfl
theorem get_last {N : List Nd} {x : Nd} (h : N.length < (N ++ [x]).length) : (N ++ [x])[N.length] = x := by simp

set_option maxHeartbeats 1000000 in
theorem arrFork_any (N : List Nd) (g : Nat) (w : World) (h : AB w g N) (hN : N.length < 300) :
    Calls Try.prog 79 #[.pointer (some ⟨g, 0, none⟩)] w fun e w' => e = .returned (.pointer (some ⟨g, N.length * 4, none⟩)) ∧ AB w' g (N ++ [⟨4, ⟨#[]⟩, (N.length : Int) + 1, 0⟩]) ∧ Mkd g w w' := by
  have HL := Hid.mk (arrLay_any N g 4 w h hN)
  clear h
  go_enter Try.func79, Try.ntmps79
  go_wp2_with fail
  refine HL.out.mono ?_
  rintro e w1 ⟨rfl, h1, m1⟩
  have c := h1.cnt
  have hl : (N ++ [(⟨4, ⟨#[]⟩, 0, 0⟩ : Nd)]).length = N.length + 1 := by simp
  rw [hl] at c
  have hlt : N.length < (N ++ [(⟨4, ⟨#[]⟩, 0, 0⟩ : Nd)]).length := by rw [hl]; omega
  obtain ⟨c0, c1, c2, c3⟩ := h1.at4 (i := N.length) hlt
  rw [get_last hlt] at c0 c1 c2 c3
  have f2 := h1.fr (N.length * 4 + 2)
  have HS : Hid (AB (w1.setCell ⟨g, N.length * 4 + 2, none⟩ (.int .i64 ((N.length : Int) + 1))) g (N ++ [⟨4, ⟨#[]⟩, (N.length : Int) + 1, 0⟩])) := by
    have := h1.setA (i := N.length) hlt ((N.length : Int) + 1)
    rw [get_last hlt, set_last] at this
    exact this
  have HM := Hid.mk (m1.set (o := N.length * 4 + 2) (.int .i64 ((N.length : Int) + 1)))
  clear h1 m1 HL c0 c1 c3 hl hlt
  go_wp2
  go_ret
  exact ⟨rfl, HS.out, HM.out⟩

set_option maxHeartbeats 1000000 in
theorem arrSingle_any (N : List Nd) (g : Nat) (k : Int) (s : ByteArray) (w : World) (h : AB w g N) (hN : N.length < 300) (hs : s.size ≤ 1048576) :
    Calls Try.prog 76 #[.pointer (some ⟨g, 0, none⟩), .int .i64 k, .string s] w fun e w' => (∃ x, e = .returned x) ∧ AB w' g (N ++ [⟨k, s, (N.length : Int) + 1, 0⟩]) ∧ Mkd g w w' := by
  have HL := Hid.mk (arrLay_any N g k w h hN)
  clear h
  go_enter Try.func76, Try.ntmps76
  go_wp2_with fail
  refine HL.out.mono ?_
  rintro e w1 ⟨rfl, h1, m1⟩
  clear HL
  have hlen : (N ++ [(⟨k, ⟨#[]⟩, 0, 0⟩ : Nd)]).length = N.length + 1 := by simp
  have hlt : N.length < (N ++ [(⟨k, ⟨#[]⟩, 0, 0⟩ : Nd)]).length := by rw [hlen]; omega
  have cn := h1.cnt
  rw [hlen] at cn
  have cn' : w1.drew.cell? ⟨g, 1200, none⟩ = some (.int .i64 ((N.length : Int) + 1)) := by simpa using cn
  have HS : Hid (∀ w', AB w' g (N ++ [⟨k, ⟨#[]⟩, 0, 0⟩]) → AB (w'.setCell ⟨g, N.length * 4 + 1, none⟩ (.string s)) g (N ++ [⟨k, s, 0, 0⟩])) := fun w' h => by
    have := h.setS (i := N.length) hlt s
    rw [get_last hlt, set_last] at this
    exact this
  have hlen2 : (N ++ [(⟨k, s, 0, 0⟩ : Nd)]).length = N.length + 1 := by simp
  have hlt2 : N.length < (N ++ [(⟨k, s, 0, 0⟩ : Nd)]).length := by rw [hlen2]; omega
  have HA : Hid (∀ w', AB w' g (N ++ [⟨k, s, 0, 0⟩]) → AB (w'.setCell ⟨g, N.length * 4 + 2, none⟩ (.int .i64 ((N.length : Int) + 1))) g (N ++ [⟨k, s, (N.length : Int) + 1, 0⟩])) := fun w' h => by
    have := h.setA (i := N.length) hlt2 ((N.length : Int) + 1)
    rw [get_last hlt2, set_last] at this
    exact this
  have h1d := h1.grow (Below.drewSelf w1.heap.size w1 1)
  have hc := clone_any s w1.drew hs
  obtain ⟨S, hS⟩ : ∃ S : World → Prop, ∀ w', S w' ↔ (Mkd g w1 w' ∧ w'.cell? ⟨g, 1200, none⟩ = some (.int .i64 ((N.length : Int) + 1))) := ⟨_, fun _ => Iff.rfl⟩
  have S0 : S w1.drew := (hS _).2 ⟨Mkd.below (Below.drewSelf _ _ 1), cn'⟩
  go_wp2_with fail
  refine wp_region_held_drew (S := S) (by kernel_rfl) S0 (fun _ => ?_)
  refine takeHD (i := 0) (v := .pointer (some ⟨g, N.length * 4, none⟩)) (some 10) rfl rfl (by kernel_rfl) (by kernel_rfl) (by kernel_rfl) (fun _ _ _ h => h) (Or.inl ⟨by kernel_rfl, fun w' hw => ?_⟩) S0 ?_
  · kernel_rfl
  simp only [Act.put, List.setIfInBounds_toArray]
  refine takeHD (i := 1) (v := .pointer (some ⟨g, N.length * 4, none⟩)) (some 11) rfl rfl (by kernel_rfl) (by kernel_rfl) (by kernel_rfl) (fun _ _ _ h => h) (Or.inl ⟨by kernel_rfl, fun w' hw => ?_⟩) S0 ?_
  · kernel_rfl
  simp only [Act.put, List.setIfInBounds_toArray]
  refine takeHD (i := 2) (v := .string s) (some 12) rfl rfl (by kernel_rfl) (by kernel_rfl) (by kernel_rfl) (fun _ _ _ h => h) (Or.inl ⟨by kernel_rfl, fun w' hw => ?_⟩) S0 ?_
  · kernel_rfl
  simp only [Act.put, List.setIfInBounds_toArray]
  refine takeHD (i := 4) (v := .pointer (some ⟨g, 0, none⟩)) (some 14) rfl rfl (by kernel_rfl) (by kernel_rfl) (by kernel_rfl) (fun _ _ _ h => h) (Or.inl ⟨by kernel_rfl, fun w' hw => ?_⟩) S0 ?_
  · kernel_rfl
  simp only [Act.put, List.setIfInBounds_toArray]
  refine takeHD (i := 5) (v := .pointer (some ⟨g, 0, none⟩)) (some 15) rfl rfl (by kernel_rfl) (by kernel_rfl) (by kernel_rfl) (fun _ _ _ h => h) (Or.inl ⟨by kernel_rfl, fun w' hw => ?_⟩) S0 ?_
  · kernel_rfl
  simp only [Act.put, List.setIfInBounds_toArray]
  refine takeHD (i := 6) (v := .pointer (some ⟨g, 1200, none⟩)) (some 16) rfl rfl (by kernel_rfl) (by kernel_rfl) (by kernel_rfl) (fun _ _ _ h => h) (Or.inl ⟨by kernel_rfl, fun w' hw => ?_⟩) S0 ?_
  · kernel_rfl
  simp only [Act.put, List.setIfInBounds_toArray]
  refine takeHD (i := 7) (v := .int .i64 ((N.length : Int) + 1)) (some 17) rfl rfl (by kernel_rfl) (by kernel_rfl) (by kernel_rfl) (fun _ _ _ h => h) (Or.inl ⟨by kernel_rfl, fun w' hw => ?_⟩) S0 ?_
  · have y := ((hS _).1 hw).2; go_simp
  simp only [Act.put, List.setIfInBounds_toArray]
  refine wpAnyH_ready (rs := [3]) (by kernel_rfl) (by simp) ?_
  refine AllReadyH.cons rfl (fun K hK => ?_) AllReadyH.nil
  rw [if_pos (by kernel_rfl)]
  go_wp2_with fail
  refine hc.mono ?_
  rintro e w2 ⟨rfl, hb2⟩
  have h2 := h1d.grow hb2
  have S2 : S w2 := (hS _).2 ⟨(Mkd.below (Below.drewSelf _ _ 1)).trans (Mkd.below hb2), by rw [hb2.cell (p := ⟨g, 1200, none⟩) h1d.lt]; exact cn'⟩
  refine hK.out _ _ S2 (fun _ => ?_)
  clear hK K
  refine takeHD (i := 8) (v := .pointer (some ⟨g, N.length * 4, none⟩)) (some 18) rfl rfl (by kernel_rfl) (by kernel_rfl) (by kernel_rfl) (fun _ _ _ h => h) (Or.inl ⟨by kernel_rfl, fun w' hw => ?_⟩) S2 ?_
  · kernel_rfl
  simp only [Act.put, List.setIfInBounds_toArray]
  refine takeHD (i := 9) (v := .pointer (some ⟨g, N.length * 4 + 1, none⟩)) (some 19) rfl rfl (by kernel_rfl) (by kernel_rfl) (by kernel_rfl) (fun _ _ _ h => h) (Or.inl ⟨by kernel_rfl, fun w' hw => ?_⟩) S2 ?_
  · kernel_rfl
  simp only [Act.put, List.setIfInBounds_toArray]
  obtain ⟨e0, e1, e2, e3⟩ := h2.at4 (i := N.length) hlt
  have f1 := h2.fr (N.length * 4 + 1)
  refine wpAnyH_ready (rs := [10]) (by kernel_rfl) (by simp) ?_
  refine AllReadyH.cons rfl (fun K hK => ?_) AllReadyH.nil
  rw [if_pos (by kernel_rfl)]
  go_wp2_with fail
  have h3 := HS.out _ h2
  have S3 : S (w2.setCell ⟨g, N.length * 4 + 1, none⟩ (.string s)) := (hS _).2 ⟨((hS _).1 S2).1.set _, by rw [h3.cnt, hlen2]; rfl⟩
  refine hK.out _ _ S3 (fun _ => ?_)
  clear hK K
  refine takeHD (i := 11) (v := .pointer (some ⟨g, N.length * 4, none⟩)) (some 20) rfl rfl (by kernel_rfl) (by kernel_rfl) (by kernel_rfl) (fun _ _ _ h => h) (Or.inl ⟨by kernel_rfl, fun w' hw => ?_⟩) S3 ?_
  · kernel_rfl
  simp only [Act.put, List.setIfInBounds_toArray]
  refine takeHD (i := 12) (v := .pointer (some ⟨g, N.length * 4 + 2, none⟩)) (some 21) rfl rfl (by kernel_rfl) (by kernel_rfl) (by kernel_rfl) (fun _ _ _ h => h) (Or.inl ⟨by kernel_rfl, fun w' hw => ?_⟩) S3 ?_
  · kernel_rfl
  simp only [Act.put, List.setIfInBounds_toArray]
  obtain ⟨g0, g1, g2, g3⟩ := h3.at4 (i := N.length) hlt2
  have f2 := h3.fr (N.length * 4 + 2)
  refine wpAnyH_ready (rs := [13]) (by kernel_rfl) (by simp) ?_
  refine AllReadyH.cons rfl (fun K hK => ?_) AllReadyH.nil
  rw [if_pos (by kernel_rfl)]
  go_wp2_with fail
  have h4 := HA.out _ h3
  have M4 := ((hS _).1 S3).1.set (o := N.length * 4 + 2) (.int .i64 ((N.length : Int) + 1))
  have S4 : S ((w2.setCell ⟨g, N.length * 4 + 1, none⟩ (.string s)).setCell ⟨g, N.length * 4 + 2, none⟩ (.int .i64 ((N.length : Int) + 1))) := (hS _).2 ⟨M4, by rw [h4.cnt]; simp⟩
  refine hK.out _ _ S4 (fun _ => ?_)
  clear hK K
  refine wpAnyH_done (by kernel_rfl) ?_ _
  go_wp2
  refine bodyPost_end (v := .tuple #[]) (by simp [results, Try.results76, go_sem]) rfl ⟨⟨_, rfl⟩, h4, m1.trans M4⟩
end Go.Proofs.Ytapniafhcagogaa
