/- What of two terms is held against each other: the program's function value. -/
import Derived.Test.YtijpmnenegdmnaaQPairX
import Derived.Test.YtijpmnenegdmnaaQExSame
namespace Go.Proofs.Ytijpmnenegdmnaa
open Go.RowKit
set_option maxRecDepth 8000
set_option linter.unusedSimpArgs false

theorem three_alloc (W : World) (n : Nat) (hn : W.heap.size = n) (o1 o2 o3 : Obj) : (((W.alloc o1).alloc o2).alloc o3).heap[n]? = some o1 ∧ (((W.alloc o1).alloc o2).alloc o3).heap[n + 1]? = some o2 ∧ (((W.alloc o1).alloc o2).alloc o3).heap[n + 1 + 1]? = some o3 ∧
    Below n W (((W.alloc o1).alloc o2).alloc o3) ∧ (((W.alloc o1).alloc o2).alloc o3).heap.size = n + 1 + 1 + 1 := by
  subst hn
  have s1 : (W.alloc o1).heap.size = W.heap.size + 1 := by simp
  have s2 : ((W.alloc o1).alloc o2).heap.size = W.heap.size + 1 + 1 := by simp
  refine ⟨?_, ?_, ?_, (((Below.refl _ _).alloc (Nat.le_refl _) _).alloc (by simp) _).alloc (by simp; omega) _, by simp⟩
  · rw [(World.grownBy_alloc _ o3 none).block _ (by rw [s2]; omega) (by simp), (World.grownBy_alloc _ o2 none).block _ (by rw [s1]; omega) (by simp)]
    exact (MapKept.heap_alloc W o1).1
  · rw [(World.grownBy_alloc _ o3 none).block _ (by rw [s2]; omega) (by simp), ← s1]
    exact (MapKept.heap_alloc _ o2).1
  · rw [← s2]
    exact (MapKept.heap_alloc _ o3).1

/-- All else of two terms is the same. -/
def hdB (x y : Ex) : Bool := x.k == y.k && (x.n == y.n && x.s.toList == y.s.toList)
theorem hdB_iff {x y : Ex} : hdB x y = true ↔ labX.hd x y := by
  unfold hdB labX
  simp only [Bool.and_eq_true, beq_iff_eq]
  exact ⟨fun h => ⟨h.1, h.2.1, txt_same h.2.2⟩, fun h => ⟨h.1, h.2.1, by rw [h.2.2]⟩⟩

set_option maxHeartbeats 4000000 in
theorem withinX_any (x y : Ex) (ao : Option Addr) (n c : Nat) (ao' : Option Addr) (n' c' : Nat) (w : World) :
    Calls Try.prog 38 #[xx x.k x.n x.s (.slice ao n c), xx y.k y.n y.s (.slice ao' n' c')] w fun e w' =>
      ∃ mb, e = .returned (.tuple #[.slice (some ⟨mb, 0, none⟩) 1 1, .bool (hdB x y)]) ∧ w'.heap[mb]? = some (.cells #[.slice ao n c, .slice ao' n' c'] 51 (0, 0)) ∧ w.heap.size ≤ mb ∧ Below w.heap.size w w' := by
  have HR : Hid (∀ r : Bool, (x.k == y.k && (x.n == y.n && x.s.toList == y.s.toList)) = r → hdB x y = r) := fun r h => h
  obtain ⟨R, hR⟩ : ∃ R, hdB x y = R := ⟨_, rfl⟩
  rw [hR] at HR
  rw [hR]
  clear hR
  obtain ⟨k, hk⟩ : ∃ k, x.k = k := ⟨_, rfl⟩
  obtain ⟨m, hn⟩ : ∃ k, x.n = k := ⟨_, rfl⟩
  obtain ⟨s, hs⟩ : ∃ k, x.s = k := ⟨_, rfl⟩
  obtain ⟨k', hk'⟩ : ∃ k, y.k = k := ⟨_, rfl⟩
  obtain ⟨m', hn'⟩ : ∃ k, y.n = k := ⟨_, rfl⟩
  obtain ⟨s', hs'⟩ : ∃ k, y.s = k := ⟨_, rfl⟩
  rw [hk, hn, hs, hk', hn', hs'] at HR
  rw [hk, hn, hs, hk', hn', hs']
  clear hk hn hs hk' hn' hs'
  have B0 : Hid (Below w.heap.size w ((w.alloc (.cells #[.int .i64 k, .int .i64 m, .string s, .slice ao n c] 26)).alloc (.cells #[.int .i64 k', .int .i64 m', .string s', .slice ao' n' c'] 26))) := ((Below.refl _ _).alloc (Nat.le_refl _) _).alloc (by simp) _
  have X0 : Hid (((w.alloc (.cells #[.int .i64 k, .int .i64 m, .string s, .slice ao n c] 26)).alloc (.cells #[.int .i64 k', .int .i64 m', .string s', .slice ao' n' c'] 26)).heap[w.heap.size]? = some (.cells #[.int .i64 k, .int .i64 m, .string s, .slice ao n c] 26 (0, 0))) := ((World.grownBy_alloc _ _ none).block _ (by simp) (by simp)).trans (MapKept.heap_alloc w _).1
  have Y0 : Hid (((w.alloc (.cells #[.int .i64 k, .int .i64 m, .string s, .slice ao n c] 26)).alloc (.cells #[.int .i64 k', .int .i64 m', .string s', .slice ao' n' c'] 26)).heap[w.heap.size + 1]? = some (.cells #[.int .i64 k', .int .i64 m', .string s', .slice ao' n' c'] 26 (0, 0))) := by
    unfold Hid
    simpa using (MapKept.heap_alloc (w.alloc (.cells #[.int .i64 k, .int .i64 m, .string s, .slice ao n c] 26)) (.cells #[.int .i64 k', .int .i64 m', .string s', .slice ao' n' c'] 26)).1
  go_enter Try.func38, Try.ntmps38
  go_wp2_with fail
  generalize (w.alloc (.cells #[.int .i64 k, .int .i64 m, .string s, .slice ao n c] 26)).alloc (.cells #[.int .i64 k', .int .i64 m', .string s', .slice ao' n' c'] 26) = w0 at *
  have HX : Hid (∀ w', Below w0.heap.size w0 w' → ∀ o, w'.cell? ⟨w.heap.size, o, none⟩ = #[Value.int .i64 k, .int .i64 m, .string s, .slice ao n c][o]?) := fun w' hb o => cell_of_row w' _ o _ _ (0, 0) ((hb.block _ (Array.getElem?_eq_some_iff.1 X0.out).1).trans X0.out)
  have HY : Hid (∀ w', Below w0.heap.size w0 w' → ∀ o, w'.cell? ⟨w.heap.size + 1, o, none⟩ = #[Value.int .i64 k', .int .i64 m', .string s', .slice ao' n' c'][o]?) := fun w' hb o => cell_of_row w' _ o _ _ (0, 0) ((hb.block _ (Array.getElem?_eq_some_iff.1 Y0.out).1).trans Y0.out)
  have S0 : Hid (Below w0.heap.size w0 w0.drew) := Below.drewSelf _ _ 1
  clear X0 Y0
  refine wp_region_held_drew (S := Below w0.heap.size w0) (by kernel_rfl) S0.out (fun _ => ?_)
  refine takeHD (i := 0) (v := .pointer (some ⟨w.heap.size, 3, none⟩)) (some 6) rfl rfl (by kernel_rfl) (by kernel_rfl) (by kernel_rfl) (fun _ _ _ h => h) (Or.inl ⟨by kernel_rfl, fun w' hw => ?_⟩) S0.out ?_
  · go_simp
  simp only [Act.put, List.setIfInBounds_toArray]
  refine takeHD (i := 1) (v := .slice ao n c) (some 7) rfl rfl (by kernel_rfl) (by kernel_rfl) (by kernel_rfl) (fun _ _ _ h => h) (Or.inl ⟨by kernel_rfl, fun w' hw => ?_⟩) S0.out ?_
  · have hq := HX.out w' hw
    go_simp
  simp only [Act.put, List.setIfInBounds_toArray]
  refine takeHD (i := 2) (v := .pointer (some ⟨w.heap.size + 1, 3, none⟩)) (some 8) rfl rfl (by kernel_rfl) (by kernel_rfl) (by kernel_rfl) (fun _ _ _ h => h) (Or.inl ⟨by kernel_rfl, fun w' hw => ?_⟩) S0.out ?_
  · go_simp
  simp only [Act.put, List.setIfInBounds_toArray]
  refine takeHD (i := 3) (v := .slice ao' n' c') (some 9) rfl rfl (by kernel_rfl) (by kernel_rfl) (by kernel_rfl) (fun _ _ _ h => h) (Or.inl ⟨by kernel_rfl, fun w' hw => ?_⟩) S0.out ?_
  · have hq := HY.out w' hw
    go_simp
  simp only [Act.put, List.setIfInBounds_toArray]
  refine takeHD (i := 4) (v := .agg #[.slice ao n c, .slice ao' n' c']) (some 10) rfl rfl (by kernel_rfl) (by kernel_rfl) (by kernel_rfl) (fun _ _ _ h => h) (Or.inl ⟨by kernel_rfl, fun w' hw => ?_⟩) S0.out ?_
  · go_simp
  simp only [Act.put, List.setIfInBounds_toArray]
  refine takeHD (i := 6) (v := .pointer (some ⟨w.heap.size, 0, none⟩)) (some 12) rfl rfl (by kernel_rfl) (by kernel_rfl) (by kernel_rfl) (fun _ _ _ h => h) (Or.inl ⟨by kernel_rfl, fun w' hw => ?_⟩) S0.out ?_
  · go_simp
  simp only [Act.put, List.setIfInBounds_toArray]
  refine takeHD (i := 7) (v := .int .i64 k) (some 13) rfl rfl (by kernel_rfl) (by kernel_rfl) (by kernel_rfl) (fun _ _ _ h => h) (Or.inl ⟨by kernel_rfl, fun w' hw => ?_⟩) S0.out ?_
  · have hq := HX.out w' hw
    go_simp
  simp only [Act.put, List.setIfInBounds_toArray]
  refine takeHD (i := 8) (v := .pointer (some ⟨w.heap.size + 1, 0, none⟩)) (some 14) rfl rfl (by kernel_rfl) (by kernel_rfl) (by kernel_rfl) (fun _ _ _ h => h) (Or.inl ⟨by kernel_rfl, fun w' hw => ?_⟩) S0.out ?_
  · go_simp
  simp only [Act.put, List.setIfInBounds_toArray]
  refine takeHD (i := 9) (v := .int .i64 k') (some 15) rfl rfl (by kernel_rfl) (by kernel_rfl) (by kernel_rfl) (fun _ _ _ h => h) (Or.inl ⟨by kernel_rfl, fun w' hw => ?_⟩) S0.out ?_
  · have hq := HY.out w' hw
    go_simp
  simp only [Act.put, List.setIfInBounds_toArray]
  refine takeHD (i := 10) (v := .bool (k == k')) (some 16) rfl rfl (by kernel_rfl) (by kernel_rfl) (by kernel_rfl) (fun _ _ _ h => h) (Or.inl ⟨by kernel_rfl, fun w' hw => ?_⟩) S0.out ?_
  · go_simp
  simp only [Act.put, List.setIfInBounds_toArray]
  refine takeHD (i := 11) (v := .bool (k == k')) (some 17) rfl rfl (by kernel_rfl) (by kernel_rfl) (by kernel_rfl) (fun _ _ _ h => h) (Or.inl ⟨by kernel_rfl, fun w' hw => ?_⟩) S0.out ?_
  · go_simp
  simp only [Act.put, List.setIfInBounds_toArray]
  by_cases hkk : k = k'
  case neg =>
    have hb0 : (k == k') = false := by simpa using hkk
    simp only [hb0]
    refine takeHD (i := 12) (v := undef) (some 18) rfl rfl (by kernel_rfl) (by kernel_rfl) (by kernel_rfl) (fun _ _ _ h => h) (Or.inr ⟨by kernel_rfl, rfl⟩) S0.out ?_
    simp only [Act.put, List.setIfInBounds_toArray]
    refine takeHD (i := 13) (v := undef) (some 19) rfl rfl (by kernel_rfl) (by kernel_rfl) (by kernel_rfl) (fun _ _ _ h => h) (Or.inr ⟨by kernel_rfl, rfl⟩) S0.out ?_
    simp only [Act.put, List.setIfInBounds_toArray]
    refine takeHD (i := 14) (v := undef) (some 20) rfl rfl (by kernel_rfl) (by kernel_rfl) (by kernel_rfl) (fun _ _ _ h => h) (Or.inr ⟨by kernel_rfl, rfl⟩) S0.out ?_
    simp only [Act.put, List.setIfInBounds_toArray]
    refine takeHD (i := 15) (v := undef) (some 21) rfl rfl (by kernel_rfl) (by kernel_rfl) (by kernel_rfl) (fun _ _ _ h => h) (Or.inr ⟨by kernel_rfl, rfl⟩) S0.out ?_
    simp only [Act.put, List.setIfInBounds_toArray]
    refine takeHD (i := 16) (v := undef) (some 22) rfl rfl (by kernel_rfl) (by kernel_rfl) (by kernel_rfl) (fun _ _ _ h => h) (Or.inr ⟨by kernel_rfl, rfl⟩) S0.out ?_
    simp only [Act.put, List.setIfInBounds_toArray]
    refine takeHD (i := 17) (v := .bool false) (some 23) rfl rfl (by kernel_rfl) (by kernel_rfl) (by kernel_rfl) (fun _ _ _ h => h) (Or.inl ⟨by kernel_rfl, fun w' hw => ?_⟩) S0.out ?_
    · go_simp
    simp only [Act.put, List.setIfInBounds_toArray]
    refine takeHD (i := 18) (v := .bool false) (some 24) rfl rfl (by kernel_rfl) (by kernel_rfl) (by kernel_rfl) (fun _ _ _ h => h) (Or.inl ⟨by kernel_rfl, fun w' hw => ?_⟩) S0.out ?_
    · go_simp
    simp only [Act.put, List.setIfInBounds_toArray]
    refine takeHD (i := 19) (v := undef) (some 25) rfl rfl (by kernel_rfl) (by kernel_rfl) (by kernel_rfl) (fun _ _ _ h => h) (Or.inr ⟨by kernel_rfl, rfl⟩) S0.out ?_
    simp only [Act.put, List.setIfInBounds_toArray]
    refine takeHD (i := 20) (v := undef) (some 26) rfl rfl (by kernel_rfl) (by kernel_rfl) (by kernel_rfl) (fun _ _ _ h => h) (Or.inr ⟨by kernel_rfl, rfl⟩) S0.out ?_
    simp only [Act.put, List.setIfInBounds_toArray]
    refine takeHD (i := 21) (v := undef) (some 27) rfl rfl (by kernel_rfl) (by kernel_rfl) (by kernel_rfl) (fun _ _ _ h => h) (Or.inr ⟨by kernel_rfl, rfl⟩) S0.out ?_
    simp only [Act.put, List.setIfInBounds_toArray]
    refine takeHD (i := 22) (v := undef) (some 28) rfl rfl (by kernel_rfl) (by kernel_rfl) (by kernel_rfl) (fun _ _ _ h => h) (Or.inr ⟨by kernel_rfl, rfl⟩) S0.out ?_
    simp only [Act.put, List.setIfInBounds_toArray]
    refine takeHD (i := 23) (v := undef) (some 29) rfl rfl (by kernel_rfl) (by kernel_rfl) (by kernel_rfl) (fun _ _ _ h => h) (Or.inr ⟨by kernel_rfl, rfl⟩) S0.out ?_
    simp only [Act.put, List.setIfInBounds_toArray]
    refine takeHD (i := 24) (v := .bool false) (some 30) rfl rfl (by kernel_rfl) (by kernel_rfl) (by kernel_rfl) (fun _ _ _ h => h) (Or.inl ⟨by kernel_rfl, fun w' hw => ?_⟩) S0.out ?_
    · go_simp
    simp only [Act.put, List.setIfInBounds_toArray]
    refine wpAnyH_ready (rs := [5]) (by kernel_rfl) (by simp) ?_
    refine AllReadyH.cons rfl (fun K hK => ?_) AllReadyH.nil
    rw [if_pos (by kernel_rfl)]
    go_wp2_with fail
    have T0 : Hid (Below w0.heap.size w0 (w0.drew.alloc (.cells #[.slice ao n c, .slice ao' n' c'] 51))) := S0.out.alloc S0.out.size _
    refine hK.out _ _ T0.out (fun _ => ?_)
    clear hK K
    refine takeHD (i := 25) (v := .slice (some ⟨w0.heap.size, 0, none⟩) 1 1) (some 4) rfl rfl (by kernel_rfl) (by kernel_rfl) (by kernel_rfl) (fun _ _ _ h => h) (Or.inl ⟨by kernel_rfl, fun w' hw => ?_⟩) T0.out ?_
    · go_simp
    simp only [Act.put, List.setIfInBounds_toArray]
    refine takeHD (i := 26) (v := .bool false) (some 5) rfl rfl (by kernel_rfl) (by kernel_rfl) (by kernel_rfl) (fun _ _ _ h => h) (Or.inl ⟨by kernel_rfl, fun w' hw => ?_⟩) T0.out ?_
    · go_simp
    simp only [Act.put, List.setIfInBounds_toArray]
    refine wpAnyH_done (by kernel_rfl) ?_ _
    clear HX HY
    go_wp2
    go_ret2
    have hr := HR.out false (by simp [hb0])
    subst hr
    exact ⟨w0.heap.size, rfl, (MapKept.heap_alloc w0 _).1, B0.out.size, B0.out.trans (T0.out.mono B0.out.size)⟩
  have hb0 : (k == k') = true := by simpa using hkk
  simp only [hb0]
  refine takeHD (i := 12) (v := .pointer (some ⟨w.heap.size, 1, none⟩)) (some 18) rfl rfl (by kernel_rfl) (by kernel_rfl) (by kernel_rfl) (fun _ _ _ h => h) (Or.inl ⟨by kernel_rfl, fun w' hw => ?_⟩) S0.out ?_
  · go_simp
  simp only [Act.put, List.setIfInBounds_toArray]
  refine takeHD (i := 13) (v := .int .i64 m) (some 19) rfl rfl (by kernel_rfl) (by kernel_rfl) (by kernel_rfl) (fun _ _ _ h => h) (Or.inl ⟨by kernel_rfl, fun w' hw => ?_⟩) S0.out ?_
  · have hq := HX.out w' hw
    go_simp
  simp only [Act.put, List.setIfInBounds_toArray]
  refine takeHD (i := 14) (v := .pointer (some ⟨w.heap.size + 1, 1, none⟩)) (some 20) rfl rfl (by kernel_rfl) (by kernel_rfl) (by kernel_rfl) (fun _ _ _ h => h) (Or.inl ⟨by kernel_rfl, fun w' hw => ?_⟩) S0.out ?_
  · go_simp
  simp only [Act.put, List.setIfInBounds_toArray]
  refine takeHD (i := 15) (v := .int .i64 m') (some 21) rfl rfl (by kernel_rfl) (by kernel_rfl) (by kernel_rfl) (fun _ _ _ h => h) (Or.inl ⟨by kernel_rfl, fun w' hw => ?_⟩) S0.out ?_
  · have hq := HY.out w' hw
    go_simp
  simp only [Act.put, List.setIfInBounds_toArray]
  refine takeHD (i := 16) (v := .bool (m == m')) (some 22) rfl rfl (by kernel_rfl) (by kernel_rfl) (by kernel_rfl) (fun _ _ _ h => h) (Or.inl ⟨by kernel_rfl, fun w' hw => ?_⟩) S0.out ?_
  · go_simp
  simp only [Act.put, List.setIfInBounds_toArray]
  refine takeHD (i := 17) (v := .bool (m == m')) (some 23) rfl rfl (by kernel_rfl) (by kernel_rfl) (by kernel_rfl) (fun _ _ _ h => h) (Or.inl ⟨by kernel_rfl, fun w' hw => ?_⟩) S0.out ?_
  · go_simp
  simp only [Act.put, List.setIfInBounds_toArray]
  refine takeHD (i := 18) (v := .bool (m == m')) (some 24) rfl rfl (by kernel_rfl) (by kernel_rfl) (by kernel_rfl) (fun _ _ _ h => h) (Or.inl ⟨by kernel_rfl, fun w' hw => ?_⟩) S0.out ?_
  · go_simp
  simp only [Act.put, List.setIfInBounds_toArray]
  by_cases hnn : m = m'
  case neg =>
    have hb1 : (m == m') = false := by simpa using hnn
    simp only [hb1]
    refine takeHD (i := 19) (v := undef) (some 25) rfl rfl (by kernel_rfl) (by kernel_rfl) (by kernel_rfl) (fun _ _ _ h => h) (Or.inr ⟨by kernel_rfl, rfl⟩) S0.out ?_
    simp only [Act.put, List.setIfInBounds_toArray]
    refine takeHD (i := 20) (v := undef) (some 26) rfl rfl (by kernel_rfl) (by kernel_rfl) (by kernel_rfl) (fun _ _ _ h => h) (Or.inr ⟨by kernel_rfl, rfl⟩) S0.out ?_
    simp only [Act.put, List.setIfInBounds_toArray]
    refine takeHD (i := 21) (v := undef) (some 27) rfl rfl (by kernel_rfl) (by kernel_rfl) (by kernel_rfl) (fun _ _ _ h => h) (Or.inr ⟨by kernel_rfl, rfl⟩) S0.out ?_
    simp only [Act.put, List.setIfInBounds_toArray]
    refine takeHD (i := 22) (v := undef) (some 28) rfl rfl (by kernel_rfl) (by kernel_rfl) (by kernel_rfl) (fun _ _ _ h => h) (Or.inr ⟨by kernel_rfl, rfl⟩) S0.out ?_
    simp only [Act.put, List.setIfInBounds_toArray]
    refine takeHD (i := 23) (v := undef) (some 29) rfl rfl (by kernel_rfl) (by kernel_rfl) (by kernel_rfl) (fun _ _ _ h => h) (Or.inr ⟨by kernel_rfl, rfl⟩) S0.out ?_
    simp only [Act.put, List.setIfInBounds_toArray]
    refine takeHD (i := 24) (v := .bool false) (some 30) rfl rfl (by kernel_rfl) (by kernel_rfl) (by kernel_rfl) (fun _ _ _ h => h) (Or.inl ⟨by kernel_rfl, fun w' hw => ?_⟩) S0.out ?_
    · go_simp
    simp only [Act.put, List.setIfInBounds_toArray]
    refine wpAnyH_ready (rs := [5]) (by kernel_rfl) (by simp) ?_
    refine AllReadyH.cons rfl (fun K hK => ?_) AllReadyH.nil
    rw [if_pos (by kernel_rfl)]
    go_wp2_with fail
    have T0 : Hid (Below w0.heap.size w0 (w0.drew.alloc (.cells #[.slice ao n c, .slice ao' n' c'] 51))) := S0.out.alloc S0.out.size _
    refine hK.out _ _ T0.out (fun _ => ?_)
    clear hK K
    refine takeHD (i := 25) (v := .slice (some ⟨w0.heap.size, 0, none⟩) 1 1) (some 4) rfl rfl (by kernel_rfl) (by kernel_rfl) (by kernel_rfl) (fun _ _ _ h => h) (Or.inl ⟨by kernel_rfl, fun w' hw => ?_⟩) T0.out ?_
    · go_simp
    simp only [Act.put, List.setIfInBounds_toArray]
    refine takeHD (i := 26) (v := .bool false) (some 5) rfl rfl (by kernel_rfl) (by kernel_rfl) (by kernel_rfl) (fun _ _ _ h => h) (Or.inl ⟨by kernel_rfl, fun w' hw => ?_⟩) T0.out ?_
    · go_simp
    simp only [Act.put, List.setIfInBounds_toArray]
    refine wpAnyH_done (by kernel_rfl) ?_ _
    clear HX HY
    go_wp2
    go_ret2
    have hr := HR.out false (by simp [hb0, hb1])
    subst hr
    exact ⟨w0.heap.size, rfl, (MapKept.heap_alloc w0 _).1, B0.out.size, B0.out.trans (T0.out.mono B0.out.size)⟩
  have hb1 : (m == m') = true := by simpa using hnn
  simp only [hb1]
  refine takeHD (i := 19) (v := .pointer (some ⟨w.heap.size, 2, none⟩)) (some 25) rfl rfl (by kernel_rfl) (by kernel_rfl) (by kernel_rfl) (fun _ _ _ h => h) (Or.inl ⟨by kernel_rfl, fun w' hw => ?_⟩) S0.out ?_
  · go_simp
  simp only [Act.put, List.setIfInBounds_toArray]
  refine takeHD (i := 20) (v := .string s) (some 26) rfl rfl (by kernel_rfl) (by kernel_rfl) (by kernel_rfl) (fun _ _ _ h => h) (Or.inl ⟨by kernel_rfl, fun w' hw => ?_⟩) S0.out ?_
  · have hq := HX.out w' hw
    go_simp
  simp only [Act.put, List.setIfInBounds_toArray]
  refine takeHD (i := 21) (v := .pointer (some ⟨w.heap.size + 1, 2, none⟩)) (some 27) rfl rfl (by kernel_rfl) (by kernel_rfl) (by kernel_rfl) (fun _ _ _ h => h) (Or.inl ⟨by kernel_rfl, fun w' hw => ?_⟩) S0.out ?_
  · go_simp
  simp only [Act.put, List.setIfInBounds_toArray]
  refine takeHD (i := 22) (v := .string s') (some 28) rfl rfl (by kernel_rfl) (by kernel_rfl) (by kernel_rfl) (fun _ _ _ h => h) (Or.inl ⟨by kernel_rfl, fun w' hw => ?_⟩) S0.out ?_
  · have hq := HY.out w' hw
    go_simp
  simp only [Act.put, List.setIfInBounds_toArray]
  refine takeHD (i := 23) (v := .bool (s.toList == s'.toList)) (some 29) rfl rfl (by kernel_rfl) (by kernel_rfl) (by kernel_rfl) (fun _ _ _ h => h) (Or.inl ⟨by kernel_rfl, fun w' hw => ?_⟩) S0.out ?_
  · go_simp
  simp only [Act.put, List.setIfInBounds_toArray]
  refine takeHD (i := 24) (v := .bool (s.toList == s'.toList)) (some 30) rfl rfl (by kernel_rfl) (by kernel_rfl) (by kernel_rfl) (fun _ _ _ h => h) (Or.inl ⟨by kernel_rfl, fun w' hw => ?_⟩) S0.out ?_
  · go_simp
  simp only [Act.put, List.setIfInBounds_toArray]
  refine wpAnyH_ready (rs := [5]) (by kernel_rfl) (by simp) ?_
  refine AllReadyH.cons rfl (fun K hK => ?_) AllReadyH.nil
  rw [if_pos (by kernel_rfl)]
  go_wp2_with fail
  have T0 : Hid (Below w0.heap.size w0 (w0.drew.alloc (.cells #[.slice ao n c, .slice ao' n' c'] 51))) := S0.out.alloc S0.out.size _
  refine hK.out _ _ T0.out (fun _ => ?_)
  clear hK K
  refine takeHD (i := 25) (v := .slice (some ⟨w0.heap.size, 0, none⟩) 1 1) (some 4) rfl rfl (by kernel_rfl) (by kernel_rfl) (by kernel_rfl) (fun _ _ _ h => h) (Or.inl ⟨by kernel_rfl, fun w' hw => ?_⟩) T0.out ?_
  · go_simp
  simp only [Act.put, List.setIfInBounds_toArray]
  refine takeHD (i := 26) (v := .bool (s.toList == s'.toList)) (some 5) rfl rfl (by kernel_rfl) (by kernel_rfl) (by kernel_rfl) (fun _ _ _ h => h) (Or.inl ⟨by kernel_rfl, fun w' hw => ?_⟩) T0.out ?_
  · go_simp
  simp only [Act.put, List.setIfInBounds_toArray]
  refine wpAnyH_done (by kernel_rfl) ?_ _
  clear HX HY
  go_wp2
  go_ret2
  have hr := HR.out (s.toList == s'.toList) (by simp [hb0, hb1])
  subst hr
  exact ⟨w0.heap.size, rfl, (MapKept.heap_alloc w0 _).1, B0.out.size, B0.out.trans (T0.out.mono B0.out.size)⟩
end Go.Proofs.Ytijpmnenegdmnaa
