/- Whether two lists of texts are the same: the library's slices.Equal. -/
import Derived.Test.YtijpmnenegdmnaaQPgTree
import Derived.Test.YtijpmnenegdmnaaQExSame
import Derived.Test.YtijpmnenegdmnaaQPgSame
import Derived.Test.YtijpmnenegdmnaaQRun1
namespace Go.Proofs.Ytijpmnenegdmnaa
open Go.RowKit
set_option maxRecDepth 8000
set_option linter.unusedSimpArgs false

open Classical in
noncomputable def sameT (xs ys : List ByteArray) : Bool := decide (xs = ys)
theorem sameT_iff {xs ys : List ByteArray} : sameT xs ys = true ↔ xs = ys := by simp [sameT]

set_option maxHeartbeats 4000000 in
theorem slicesEqual_any (xs ys : List ByteArray) (B C : Nat → Prop) (u v : Value) (w : World) (hx : Tb w B u xs) (hy : Tb w C v ys) :
    Calls Try.prog 25 #[u, v] w fun e w' => e = .returned (.bool (sameT xs ys)) ∧ Below w.heap.size w w' := by
  have hx0 := hx
  have hy0 := hy
  obtain ⟨ao, ac, rfl, a1, a2, -, -, -⟩ := hx
  obtain ⟨bo, bc, rfl, b1, b2, -, -, -⟩ := hy
  have HX := Hid.mk hx0
  have HY := Hid.mk hy0
  have HI := Hid.mk (sameT_iff (xs := xs) (ys := ys))
  obtain ⟨R, hR⟩ : ∃ R, sameT xs ys = R := ⟨_, rfl⟩
  rw [hR] at HI ⊢
  clear hR hx0 hy0
  have a3 : ac ≤ 9223372036854775807 := by unfold maxLen at a2; exact a2
  have b3 : bc ≤ 9223372036854775807 := by unfold maxLen at b2; exact b2
  obtain ⟨na, hna⟩ : ∃ n, xs.length = n := ⟨_, rfl⟩
  obtain ⟨nb, hnb⟩ : ∃ n, ys.length = n := ⟨_, rfl⟩
  rw [hna] at a1 HX ⊢
  rw [hnb] at b1 HY ⊢
  have HNA := Hid.mk hna
  have HNB := Hid.mk hnb
  clear hna hnb a2 b2
  by_cases hl : na = nb
  case neg =>
    have hb1 : ((na : Int) != (nb : Int)) = true := by rw [bne_iff_ne]; omega
    have hb2 : ((na : Int) == (nb : Int)) = false := by rw [beq_eq_false_iff_ne]; omega
    have HF : Hid (R = false) := by
      refine Hid.mk ?_
      cases R with
      | false => rfl
      | true => exact absurd (by rw [← HNA.out, ← HNB.out, HI.out.1 rfl]) hl
    clear hl
    go_enter Try.func25, Try.ntmps25
    go_wp2
    go_ret
    have hr := HF.out
    subst hr
    exact ⟨rfl, Below.refl _ _⟩
  subst hl
  have hb1 : ((na : Int) != (na : Int)) = false := by simp
  have hb2 : ((na : Int) == (na : Int)) = true := by simp
  go_enter Try.func25, Try.ntmps25
  go_wp2
  go_loopw [13] (fun i wr => ∃ k : Nat, k ≤ na ∧ i = .int .i64 k ∧ Hid (∀ j, j < k → xs.getD j ⟨#[]⟩ = ys.getD j ⟨#[]⟩) ∧ Hid (Below w.heap.size w wr)) (fun i _ => na - (intOf i).toNat)
  case atStart => exact ⟨0, Nat.zero_le _, rfl, fun j h => absurd h (Nat.not_lt_zero j), Below.refl _ _⟩
  case round =>
    obtain ⟨k, hk, rfl, Ho, hbel⟩ := hrel
    by_cases hkl : k < na
    · have hi1 : (k : Int) < na := by omega
      have hka : k < xs.length := by rw [HNA.out]; exact hkl
      have hkb : k < ys.length := by rw [HNB.out]; exact hkl
      obtain ⟨ba, oa, rfl, ca⟩ := (HX.out.grow hbel.out).at hka
      obtain ⟨bb, ob, rfl, cb⟩ := (HY.out.grow hbel.out).at hkb
      rw [show xs[k] = xs.getD k ⟨#[]⟩ by simp [List.getD_eq_getElem?_getD, hka]] at ca
      rw [show ys[k] = ys.getD k ⟨#[]⟩ by simp [List.getD_eq_getElem?_getD, hkb]] at cb
      clear hka hkb
      have HE : Hid (xs.getD k ⟨#[]⟩ ≠ ys.getD k ⟨#[]⟩ → R = false) := by
        intro hne
        cases R with
        | false => rfl
        | true => exact absurd (by rw [HI.out.1 rfl]) hne
      have HO2 : Hid (xs.getD k ⟨#[]⟩ = ys.getD k ⟨#[]⟩ → ∀ j, j < k + 1 → xs.getD j ⟨#[]⟩ = ys.getD j ⟨#[]⟩) := by
        intro he j hj
        by_cases hj2 : j < k
        · exact Ho.out j hj2
        · obtain rfl : j = k := by omega
          exact he
      obtain ⟨s, hs⟩ : ∃ s, xs.getD k ⟨#[]⟩ = s := ⟨_, rfl⟩
      obtain ⟨s', hs'⟩ : ∃ s, ys.getD k ⟨#[]⟩ = s := ⟨_, rfl⟩
      rw [hs] at ca HE HO2
      rw [hs'] at cb HE HO2
      clear hs hs'
      have HA : Hid (∀ w', Below wr.heap.size wr w' → w'.cell? ⟨ba, oa + k, none⟩ = some (.string s)) := fun w' hw => by rw [World.cell?_of_block (w := wr) (hw.block _ (World.block_lt_of_cell? wr _ ca))]; exact ca
      have HB : Hid (∀ w', Below wr.heap.size wr w' → w'.cell? ⟨bb, ob + k, none⟩ = some (.string s')) := fun w' hw => by rw [World.cell?_of_block (w := wr) (hw.block _ (World.block_lt_of_cell? wr _ cb))]; exact cb
      have S0 : Hid (Below wr.heap.size wr wr.drew) := Below.drewSelf _ _ 1
      have HBD : Hid (Below w.heap.size w wr.drew) := hbel.out.trans (S0.out.mono hbel.out.size)
      clear ca cb
      go_wp2_with fail
      refine wp_region_held_drew (S := Below wr.heap.size wr) (by kernel_rfl) S0.out (fun _ => ?_)
      refine takeHD (i := 0) (v := .slice (some ⟨ba, oa, none⟩) na ac) (some 16) rfl rfl (by kernel_rfl) (by kernel_rfl) (by kernel_rfl) (fun _ _ _ h => h) (Or.inl ⟨by kernel_rfl, fun w' hw => ?_⟩) S0.out ?_
      · go_simp
      simp only [Act.put, List.setIfInBounds_toArray]
      refine takeHD (i := 1) (v := .int .i64 k) (some 17) rfl rfl (by kernel_rfl) (by kernel_rfl) (by kernel_rfl) (fun _ _ _ h => h) (Or.inl ⟨by kernel_rfl, fun w' hw => ?_⟩) S0.out ?_
      · go_simp
      simp only [Act.put, List.setIfInBounds_toArray]
      refine takeHD (i := 2) (v := .pointer (some ⟨ba, oa + k, none⟩)) (some 18) rfl rfl (by kernel_rfl) (by kernel_rfl) (by kernel_rfl) (fun _ _ _ h => h) (Or.inl ⟨by kernel_rfl, fun w' hw => ?_⟩) S0.out ?_
      · go_simp
      simp only [Act.put, List.setIfInBounds_toArray]
      refine takeHD (i := 3) (v := .string s) (some 19) rfl rfl (by kernel_rfl) (by kernel_rfl) (by kernel_rfl) (fun _ _ _ h => h) (Or.inl ⟨by kernel_rfl, fun w' hw => ?_⟩) S0.out ?_
      · have hq := HA.out w' hw
        go_simp
      simp only [Act.put, List.setIfInBounds_toArray]
      refine takeHD (i := 4) (v := .slice (some ⟨bb, ob, none⟩) na bc) (some 20) rfl rfl (by kernel_rfl) (by kernel_rfl) (by kernel_rfl) (fun _ _ _ h => h) (Or.inl ⟨by kernel_rfl, fun w' hw => ?_⟩) S0.out ?_
      · go_simp
      simp only [Act.put, List.setIfInBounds_toArray]
      refine takeHD (i := 5) (v := .int .i64 k) (some 21) rfl rfl (by kernel_rfl) (by kernel_rfl) (by kernel_rfl) (fun _ _ _ h => h) (Or.inl ⟨by kernel_rfl, fun w' hw => ?_⟩) S0.out ?_
      · go_simp
      simp only [Act.put, List.setIfInBounds_toArray]
      refine takeHD (i := 6) (v := .pointer (some ⟨bb, ob + k, none⟩)) (some 22) rfl rfl (by kernel_rfl) (by kernel_rfl) (by kernel_rfl) (fun _ _ _ h => h) (Or.inl ⟨by kernel_rfl, fun w' hw => ?_⟩) S0.out ?_
      · go_simp
      simp only [Act.put, List.setIfInBounds_toArray]
      refine takeHD (i := 7) (v := .string s') (some 23) rfl rfl (by kernel_rfl) (by kernel_rfl) (by kernel_rfl) (fun _ _ _ h => h) (Or.inl ⟨by kernel_rfl, fun w' hw => ?_⟩) S0.out ?_
      · have hq := HB.out w' hw
        go_simp
      simp only [Act.put, List.setIfInBounds_toArray]
      by_cases he : s = s'
      · have heb : (s.toList == s'.toList) = true := by rw [he]; simp
        have HO3 := Hid.mk (HO2.out he)
        refine takeHD (i := 8) (v := .bool false) (some 24) rfl rfl (by kernel_rfl) (by kernel_rfl) (by kernel_rfl) (fun _ _ _ h => h) (Or.inl ⟨by kernel_rfl, fun w' hw => ?_⟩) S0.out ?_
        · go_simp
        simp only [Act.put, List.setIfInBounds_toArray]
        refine wpAnyH_done (by kernel_rfl) ?_ _
        clear he heb HE HO2 HA HB S0
        go_wp2
        go_roundw
        case measure => simp [intOf]; omega
        case rel => exact ⟨k + 1, by omega, rfl, HO3, HBD⟩
      · have heb : (s.toList == s'.toList) = false := by have := txt_bne he; simpa [bne] using this
        have HF := Hid.mk (HE.out he)
        refine takeHD (i := 8) (v := .bool true) (some 24) rfl rfl (by kernel_rfl) (by kernel_rfl) (by kernel_rfl) (fun _ _ _ h => h) (Or.inl ⟨by kernel_rfl, fun w' hw => ?_⟩) S0.out ?_
        · go_simp
        simp only [Act.put, List.setIfInBounds_toArray]
        refine wpAnyH_done (by kernel_rfl) ?_ _
        clear he heb HE HO2 HA HB S0
        go_wp2
        go_ret
        have hr := HF.out
        subst hr
        exact ⟨rfl, HBD.out⟩
    · obtain rfl : k = na := by omega
      have hi1 : ¬ ((k : Int) < (k : Int)) := by omega
      have HT : Hid (R = true) := by
        refine Hid.mk (HI.out.2 (List.ext_getElem (by rw [HNA.out, HNB.out]) fun j h1 h2 => ?_))
        have := Ho.out j (by rw [← HNA.out]; exact h1)
        simpa [List.getD_eq_getElem?_getD, h1, h2] using this
      go_wp2
      go_ret
      have hr := HT.out
      subst hr
      exact ⟨rfl, hbel.out⟩
end Go.Proofs.Ytijpmnenegdmnaa
