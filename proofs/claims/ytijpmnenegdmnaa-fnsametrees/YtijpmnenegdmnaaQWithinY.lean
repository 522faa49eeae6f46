/- What of two statements is held against each other: the program's function value. -/
import Derived.Test.YtijpmnenegdmnaaQPairY
import Derived.Test.YtijpmnenegdmnaaQWithinX
namespace Go.Proofs.Ytijpmnenegdmnaa
open Go.RowKit
set_option maxRecDepth 8000
set_option linter.unusedSimpArgs false

/-- All but the lists of two statements is the same. -/
def hdS (x y : St) : Bool := x.k == y.k && (x.s.toList == y.s.toList && x.t.toList == y.t.toList)
theorem hdS_iff {x y : St} : hdS x y = true ↔ x.k = y.k ∧ x.s = y.s ∧ x.t = y.t := by
  unfold hdS
  simp only [Bool.and_eq_true, beq_iff_eq]
  exact ⟨fun h => ⟨h.1, txt_same h.2.1, txt_same h.2.2⟩, fun h => ⟨h.1, by rw [h.2.1], by rw [h.2.2]⟩⟩

set_option maxHeartbeats 8000000 in
theorem withinY_any (x y : St) (xxo xao xbo yxo yao ybo : Option Addr) (xxn xxc xan xac xbn xbc yxn yxc yan yac ybn ybc : Nat) (w : World) (base tb : Nat) (tv : Value) (TT : List (Prr Ex)) (hbox : w.heap[tb]? = some (.cells #[tv] 52 (0, 0))) (hown : OwnRX w base tv TT) (htv : some tb ≠ tv.ownBlock)
    (hbt : base ≤ tb) (hlen : TT.length + 1 ≤ 2199023255552) :
    Calls Try.prog 39 #[st x.k x.s x.t (.slice xxo xxn xxc) (.slice xao xan xac) (.slice xbo xbn xbc), st y.k y.s y.t (.slice yxo yxn yxc) (.slice yao yan yac) (.slice ybo ybn ybc), .pointer (some ⟨tb, 0, none⟩)] w fun e w' =>
      ∃ mb tv', e = .returned (.tuple #[.slice (some ⟨mb, 0, none⟩) 2 2, .bool (hdS x y)]) ∧ w'.heap[mb]? = some (.cells #[.slice xao xan xac, .slice yao yan yac, .slice xbo xbn xbc, .slice ybo ybn ybc] 55 (0, 0)) ∧ w.heap.size ≤ mb ∧
        w'.heap[tb]? = some (.cells #[tv'] 52 (0, 0)) ∧ OwnRX w' base tv' (TT ++ [⟨x.x, y.x, .slice xxo xxn xxc, .slice yxo yxn yxc⟩]) ∧ (tv'.ownBlock = tv.ownBlock ∨ ∃ g, tv'.ownBlock = some g ∧ w.heap.size ≤ g ∧ g ≠ mb) ∧
        (∀ b, b < w.heap.size → b ≠ tb → some b ≠ tv.ownBlock → w'.heap[b]? = w.heap[b]?) ∧ Below base w w' ∧ w.heap.size ≤ w'.heap.size := by
  have HR : Hid (∀ r : Bool, (x.k == y.k && (x.s.toList == y.s.toList && x.t.toList == y.t.toList)) = r → hdS x y = r) := fun r h => h
  obtain ⟨R, hR⟩ : ∃ R, hdS x y = R := ⟨_, rfl⟩
  rw [hR] at HR
  rw [hR]
  clear hR
  obtain ⟨xl, hxl⟩ : ∃ l, x.x = l := ⟨_, rfl⟩
  obtain ⟨yl, hyl⟩ : ∃ l, y.x = l := ⟨_, rfl⟩
  obtain ⟨k, hk⟩ : ∃ k, x.k = k := ⟨_, rfl⟩
  obtain ⟨s, hs⟩ : ∃ k, x.s = k := ⟨_, rfl⟩
  obtain ⟨t, ht⟩ : ∃ k, x.t = k := ⟨_, rfl⟩
  obtain ⟨k', hk'⟩ : ∃ k, y.k = k := ⟨_, rfl⟩
  obtain ⟨s', hs'⟩ : ∃ k, y.s = k := ⟨_, rfl⟩
  obtain ⟨t', ht'⟩ : ∃ k, y.t = k := ⟨_, rfl⟩
  rw [hk, hs, ht, hk', hs', ht'] at HR
  rw [hk, hs, ht, hk', hs', ht', hxl, hyl]
  clear hk hs ht hk' hs' ht' hxl hyl
  have htl : tb < w.heap.size := (Array.getElem?_eq_some_iff.1 hbox).1
  obtain ⟨A1, A2, A3, hb1, hs1⟩ := three_alloc w w.heap.size rfl (.cells #[.int .i64 k, .string s, .string t, .slice xxo xxn xxc, .slice xao xan xac, .slice xbo xbn xbc] 31) (.cells #[.int .i64 k', .string s', .string t', .slice yxo yxn yxc, .slice yao yan yac, .slice ybo ybn ybc] 31) (.cells #[.slice xxo xxn xxc, .slice yxo yxn yxc] 51)
  have hb2 : Below w.heap.size w ((w.alloc (.cells #[.int .i64 k, .string s, .string t, .slice xxo xxn xxc, .slice xao xan xac, .slice xbo xbn xbc] 31)).alloc (.cells #[.int .i64 k', .string s', .string t', .slice yxo yxn yxc, .slice yao yan yac, .slice ybo ybn ybc] 31)) := ((Below.refl _ _).alloc (Nat.le_refl _) _).alloc (by simp) _
  have htn : tb ≠ w.heap.size := by omega
  have htn1 : tb ≠ w.heap.size + 1 := by omega
  have htl1 : tb < w.heap.size + 1 := by omega
  have ct0 : ((w.alloc (.cells #[.int .i64 k, .string s, .string t, .slice xxo xxn xxc, .slice xao xan xac, .slice xbo xbn xbc] 31)).alloc (.cells #[.int .i64 k', .string s', .string t', .slice yxo yxn yxc, .slice yao yan yac, .slice ybo ybn ybc] 31)).cell? ⟨tb, 0, none⟩ = some tv := by
    rw [cell_of_row _ tb 0 _ _ (0, 0) ((hb2.block tb htl).trans hbox)]
    rfl
  have ct1 : (((w.alloc (.cells #[.int .i64 k, .string s, .string t, .slice xxo xxn xxc, .slice xao xan xac, .slice xbo xbn xbc] 31)).alloc (.cells #[.int .i64 k', .string s', .string t', .slice yxo yxn yxc, .slice yao yan yac, .slice ybo ybn ybc] 31)).alloc (.cells #[.slice xxo xxn xxc, .slice yxo yxn yxc] 51)).heap[tb]? = some (.cells #[tv] 52 (0, 0)) := (hb1.block tb htl).trans hbox
  have hown1 : OwnRX (((w.alloc (.cells #[.int .i64 k, .string s, .string t, .slice xxo xxn xxc, .slice xao xan xac, .slice xbo xbn xbc] 31)).alloc (.cells #[.int .i64 k', .string s', .string t', .slice yxo yxn yxc, .slice yao yan yac, .slice ybo ybn ybc] 31)).alloc (.cells #[.slice xxo xxn xxc, .slice yxo yxn yxc] 51)) base tv TT := hown.kept fun k hk => hb1.block k (hown.lt hk).2
  have hov : ∀ k, tv.ownBlock = some k → base ≤ k ∧ k < w.heap.size := fun k hk => hown.lt hk
  obtain ⟨ao, cap, hcap⟩ := hown.len
  have Hown1 := Hid.mk hown1
  have HA1 := Hid.mk A1
  have HA2 := Hid.mk A2
  have HA3 := Hid.mk A3
  have HB1 := Hid.mk hb1
  have HS1 := Hid.mk hs1
  have HT1 := Hid.mk ct1
  have HOV := Hid.mk hov
  have HTV := Hid.mk htv
  have HL := Hid.mk hlen
  have HONE : Hid (∀ q ∈ ([⟨xl, yl, .slice xxo xxn xxc, .slice yxo yxn yxc⟩] : List (Prr Ex)), q.u.oneCell' = true ∧ q.v.oneCell' = true) := by
    intro q hq
    obtain rfl : q = _ := by simpa using hq
    exact ⟨rfl, rfl⟩
  have HCAP := Hid.mk hcap
  clear hown1 A1 A2 A3 hb1 hs1 ct1 hov htv hlen hown hbox hb2 hcap
  go_enter Try.func39, Try.ntmps39
  go_wp2_with (at_builtin; refine wpList_append_rX rfl _ _ rfl base _ TT [⟨xl, yl, .slice xxo xxn xxc, .slice yxo yxn yxc⟩] rfl Hown1.out (w.heap.size + 1 + 1) 1 rfl HA3.out HONE.out (by rw [HS1.out]; have := HS1.out; omega) HL.out ?_; intro tw w4 ho4 hg4 hv4; obtain ⟨ao4, cap4, e4⟩ := ho4.len; obtain ⟨n4, hn4⟩ : ∃ n, (TT ++ ([⟨xl, yl, .slice xxo xxn xxc, .slice yxo yxn yxc⟩] : List (Prr Ex))).length = n := ⟨_, rfl⟩; rw [hn4] at e4; clear hn4; subst e4; have ht4 := (hg4.block tb (by rw [HS1.out]; omega) HTV.out).trans HT1.out; have ct4 : w4.cell? ⟨tb, 0, none⟩ = some tv := (by rw [cell_of_row w4 tb 0 _ _ (0, 0) ht4]; rfl); have ft4 : ∀ o, w4.frozen? ⟨tb, o, none⟩ = false := fun o => (by simp [World.frozen?, ht4]))
  have hbs : base ≤ w.heap.size := by omega
  have hsz5 : w.heap.size + 1 + 1 + 1 ≤ w4.heap.size := by have := hg4.size; rw [HS1.out] at this; exact this
  have hn0 : ∀ b, b < w.heap.size + 1 + 1 → w.heap.size ≤ b → w4.heap[b]? = (((w.alloc (.cells #[.int .i64 k, .string s, .string t, .slice xxo xxn xxc, .slice xao xan xac, .slice xbo xbn xbc] 31)).alloc (.cells #[.int .i64 k', .string s', .string t', .slice yxo yxn yxc, .slice yao yan yac, .slice ybo ybn ybc] 31)).alloc (.cells #[.slice xxo xxn xxc, .slice yxo yxn yxc] 51)).heap[b]? := fun b h1 h2 => hg4.block b (by rw [HS1.out]; omega) (by intro e; have := (HOV.out b e.symm).2; omega)
  have X5 : Hid ((w4.setCell ⟨tb, 0, none⟩ (.slice ao4 n4 cap4)).heap[w.heap.size]? = some (.cells #[.int .i64 k, .string s, .string t, .slice xxo xxn xxc, .slice xao xan xac, .slice xbo xbn xbc] 31 (0, 0))) := (heap_setCell_other w4 _ _ _ (by show w.heap.size ≠ tb; omega)).trans ((hn0 _ (by omega) (Nat.le_refl _)).trans HA1.out)
  have Y5 : Hid ((w4.setCell ⟨tb, 0, none⟩ (.slice ao4 n4 cap4)).heap[w.heap.size + 1]? = some (.cells #[.int .i64 k', .string s', .string t', .slice yxo yxn yxc, .slice yao yan yac, .slice ybo ybn ybc] 31 (0, 0))) := (heap_setCell_other w4 _ _ _ (by show w.heap.size + 1 ≠ tb; omega)).trans ((hn0 _ (by omega) (by omega)).trans HA2.out)
  have T5 : Hid ((w4.setCell ⟨tb, 0, none⟩ (.slice ao4 n4 cap4)).heap[tb]? = some (.cells #[.slice ao4 n4 cap4] 52 (0, 0))) := one_setCell ht4
  have hv5 : ∀ g, (Value.slice ao4 n4 cap4).ownBlock = some g → g ≠ tb ∧ (tv.ownBlock = some g ∨ w.heap.size ≤ g) ∧ g < w4.heap.size := by
    intro g hg
    have hg2 := (ho4.lt hg).2
    rcases hv4 with h | h
    · rw [hg] at h
      exact ⟨by rintro rfl; exact HTV.out h, .inl h.symm, hg2⟩
    · rw [hg, HS1.out] at h
      have : g = w.heap.size + 1 + 1 + 1 := by simpa using h
      exact ⟨by omega, .inr (by omega), hg2⟩
  have O5 : Hid (OwnRX (w4.setCell ⟨tb, 0, none⟩ (.slice ao4 n4 cap4)) base (.slice ao4 n4 cap4) (TT ++ [⟨xl, yl, .slice xxo xxn xxc, .slice yxo yxn yxc⟩])) := ho4.kept fun g hg => heap_setCell_other w4 _ _ _ (hv5 g hg).1
  have F5 : Hid (∀ b, b < w.heap.size → b ≠ tb → some b ≠ tv.ownBlock → (w4.setCell ⟨tb, 0, none⟩ (.slice ao4 n4 cap4)).heap[b]? = w.heap[b]?) := fun b h1 h2 h3 => (heap_setCell_other w4 _ _ _ h2).trans ((hg4.block b (by rw [HS1.out]; omega) h3).trans (HB1.out.block b h1))
  have B5 : Hid (Below base w (w4.setCell ⟨tb, 0, none⟩ (.slice ao4 n4 cap4))) := ((HB1.out.mono hbs).grown hg4 (by rw [HS1.out]; omega) (fun k hk => (HOV.out k hk).1)).setCell (p := ⟨tb, 0, none⟩) hbt _
  have V5 : Hid (∀ g, (Value.slice ao4 n4 cap4).ownBlock = some g → g < (w4.setCell ⟨tb, 0, none⟩ (.slice ao4 n4 cap4)).heap.size ∧ (tv.ownBlock = some g ∨ w.heap.size ≤ g)) := fun g hg => ⟨by simpa using (hv5 g hg).2.2, (hv5 g hg).2.1⟩
  have HV0 : Hid ((Value.slice ao4 n4 cap4).ownBlock = none → (none = tv.ownBlock ∨ ∃ g, (none : Option Nat) = some g ∧ w.heap.size ≤ g ∧ g ≠ (w4.setCell ⟨tb, 0, none⟩ (.slice ao4 n4 cap4)).heap.size)) := by
    intro hg
    rcases hv4 with h | h
    · exact .inl (hg.symm.trans h)
    · rw [hg] at h; cases h
  have Z5 : w.heap.size + 1 + 1 + 1 ≤ (w4.setCell ⟨tb, 0, none⟩ (.slice ao4 n4 cap4)).heap.size := by simpa using hsz5
  clear hv5 hn0 hsz5 ho4 hg4 hv4 ht4 ct4 ft4 ct0 Hown1 HA1 HA2 HA3 HB1 HS1 HT1 HONE HL
  generalize w4.setCell ⟨tb, 0, none⟩ (.slice ao4 n4 cap4) = w5 at *
  have htl5 : tb < w5.heap.size := by omega
  have HX : Hid (∀ w', Below w5.heap.size w5 w' → ∀ o, w'.cell? ⟨w.heap.size, o, none⟩ = #[Value.int .i64 k, .string s, .string t, .slice xxo xxn xxc, .slice xao xan xac, .slice xbo xbn xbc][o]?) := fun w' hb o => cell_of_row w' _ o _ _ (0, 0) ((hb.block _ (by omega)).trans X5.out)
  have HY : Hid (∀ w', Below w5.heap.size w5 w' → ∀ o, w'.cell? ⟨w.heap.size + 1, o, none⟩ = #[Value.int .i64 k', .string s', .string t', .slice yxo yxn yxc, .slice yao yan yac, .slice ybo ybn ybc][o]?) := fun w' hb o => cell_of_row w' _ o _ _ (0, 0) ((hb.block _ (by omega)).trans Y5.out)
  have HVV : Hid ((Value.slice ao4 n4 cap4).ownBlock = tv.ownBlock ∨ ∃ g, (Value.slice ao4 n4 cap4).ownBlock = some g ∧ w.heap.size ≤ g ∧ g ≠ w5.heap.size) := by
    refine Hid.mk ?_
    cases hg : (Value.slice ao4 n4 cap4).ownBlock with
    | none => exact HV0.out hg
    | some g =>
      obtain ⟨h1, h2⟩ := V5.out g hg
      rcases h2 with h2 | h2
      · exact .inl h2.symm
      · exact .inr ⟨g, rfl, h2, by omega⟩
  have S0 : Hid (Below w5.heap.size w5 w5.drew) := Below.drewSelf _ _ 1
  clear X5 Y5 htl1 htn htn1
  refine wp_region_held_drew (S := Below w5.heap.size w5) (by kernel_rfl) S0.out (fun _ => ?_)
  refine takeHD (i := 0) (v := .pointer (some ⟨w.heap.size, 4, none⟩)) (some 15) rfl rfl (by kernel_rfl) (by kernel_rfl) (by kernel_rfl) (fun _ _ _ h => h) (Or.inl ⟨by kernel_rfl, fun w' hw => ?_⟩) S0.out ?_
  · go_simp
  simp only [Act.put, List.setIfInBounds_toArray]
  refine takeHD (i := 1) (v := .slice xao xan xac) (some 16) rfl rfl (by kernel_rfl) (by kernel_rfl) (by kernel_rfl) (fun _ _ _ h => h) (Or.inl ⟨by kernel_rfl, fun w' hw => ?_⟩) S0.out ?_
  · have hq := HX.out w' hw
    go_simp
  simp only [Act.put, List.setIfInBounds_toArray]
  refine takeHD (i := 2) (v := .pointer (some ⟨w.heap.size + 1, 4, none⟩)) (some 17) rfl rfl (by kernel_rfl) (by kernel_rfl) (by kernel_rfl) (fun _ _ _ h => h) (Or.inl ⟨by kernel_rfl, fun w' hw => ?_⟩) S0.out ?_
  · go_simp
  simp only [Act.put, List.setIfInBounds_toArray]
  refine takeHD (i := 3) (v := .slice yao yan yac) (some 18) rfl rfl (by kernel_rfl) (by kernel_rfl) (by kernel_rfl) (fun _ _ _ h => h) (Or.inl ⟨by kernel_rfl, fun w' hw => ?_⟩) S0.out ?_
  · have hq := HY.out w' hw
    go_simp
  simp only [Act.put, List.setIfInBounds_toArray]
  refine takeHD (i := 4) (v := .agg #[.slice xao xan xac, .slice yao yan yac]) (some 19) rfl rfl (by kernel_rfl) (by kernel_rfl) (by kernel_rfl) (fun _ _ _ h => h) (Or.inl ⟨by kernel_rfl, fun w' hw => ?_⟩) S0.out ?_
  · go_simp
  simp only [Act.put, List.setIfInBounds_toArray]
  refine takeHD (i := 5) (v := .pointer (some ⟨w.heap.size, 5, none⟩)) (some 20) rfl rfl (by kernel_rfl) (by kernel_rfl) (by kernel_rfl) (fun _ _ _ h => h) (Or.inl ⟨by kernel_rfl, fun w' hw => ?_⟩) S0.out ?_
  · go_simp
  simp only [Act.put, List.setIfInBounds_toArray]
  refine takeHD (i := 6) (v := .slice xbo xbn xbc) (some 21) rfl rfl (by kernel_rfl) (by kernel_rfl) (by kernel_rfl) (fun _ _ _ h => h) (Or.inl ⟨by kernel_rfl, fun w' hw => ?_⟩) S0.out ?_
  · have hq := HX.out w' hw
    go_simp
  simp only [Act.put, List.setIfInBounds_toArray]
  refine takeHD (i := 7) (v := .pointer (some ⟨w.heap.size + 1, 5, none⟩)) (some 22) rfl rfl (by kernel_rfl) (by kernel_rfl) (by kernel_rfl) (fun _ _ _ h => h) (Or.inl ⟨by kernel_rfl, fun w' hw => ?_⟩) S0.out ?_
  · go_simp
  simp only [Act.put, List.setIfInBounds_toArray]
  refine takeHD (i := 8) (v := .slice ybo ybn ybc) (some 23) rfl rfl (by kernel_rfl) (by kernel_rfl) (by kernel_rfl) (fun _ _ _ h => h) (Or.inl ⟨by kernel_rfl, fun w' hw => ?_⟩) S0.out ?_
  · have hq := HY.out w' hw
    go_simp
  simp only [Act.put, List.setIfInBounds_toArray]
  refine takeHD (i := 9) (v := .agg #[.slice xbo xbn xbc, .slice ybo ybn ybc]) (some 24) rfl rfl (by kernel_rfl) (by kernel_rfl) (by kernel_rfl) (fun _ _ _ h => h) (Or.inl ⟨by kernel_rfl, fun w' hw => ?_⟩) S0.out ?_
  · go_simp
  simp only [Act.put, List.setIfInBounds_toArray]
  refine takeHD (i := 11) (v := .pointer (some ⟨w.heap.size, 0, none⟩)) (some 26) rfl rfl (by kernel_rfl) (by kernel_rfl) (by kernel_rfl) (fun _ _ _ h => h) (Or.inl ⟨by kernel_rfl, fun w' hw => ?_⟩) S0.out ?_
  · go_simp
  simp only [Act.put, List.setIfInBounds_toArray]
  refine takeHD (i := 12) (v := .int .i64 k) (some 27) rfl rfl (by kernel_rfl) (by kernel_rfl) (by kernel_rfl) (fun _ _ _ h => h) (Or.inl ⟨by kernel_rfl, fun w' hw => ?_⟩) S0.out ?_
  · have hq := HX.out w' hw
    go_simp
  simp only [Act.put, List.setIfInBounds_toArray]
  refine takeHD (i := 13) (v := .pointer (some ⟨w.heap.size + 1, 0, none⟩)) (some 28) rfl rfl (by kernel_rfl) (by kernel_rfl) (by kernel_rfl) (fun _ _ _ h => h) (Or.inl ⟨by kernel_rfl, fun w' hw => ?_⟩) S0.out ?_
  · go_simp
  simp only [Act.put, List.setIfInBounds_toArray]
  refine takeHD (i := 14) (v := .int .i64 k') (some 29) rfl rfl (by kernel_rfl) (by kernel_rfl) (by kernel_rfl) (fun _ _ _ h => h) (Or.inl ⟨by kernel_rfl, fun w' hw => ?_⟩) S0.out ?_
  · have hq := HY.out w' hw
    go_simp
  simp only [Act.put, List.setIfInBounds_toArray]
  refine takeHD (i := 15) (v := .bool (k == k')) (some 30) rfl rfl (by kernel_rfl) (by kernel_rfl) (by kernel_rfl) (fun _ _ _ h => h) (Or.inl ⟨by kernel_rfl, fun w' hw => ?_⟩) S0.out ?_
  · go_simp
  simp only [Act.put, List.setIfInBounds_toArray]
  refine takeHD (i := 16) (v := .bool (k == k')) (some 31) rfl rfl (by kernel_rfl) (by kernel_rfl) (by kernel_rfl) (fun _ _ _ h => h) (Or.inl ⟨by kernel_rfl, fun w' hw => ?_⟩) S0.out ?_
  · go_simp
  simp only [Act.put, List.setIfInBounds_toArray]
  by_cases hkk : k = k'
  case neg =>
    have hb0 : (k == k') = false := by simpa using hkk
    simp only [hb0]
    refine takeHD (i := 17) (v := undef) (some 32) rfl rfl (by kernel_rfl) (by kernel_rfl) (by kernel_rfl) (fun _ _ _ h => h) (Or.inr ⟨by kernel_rfl, rfl⟩) S0.out ?_
    simp only [Act.put, List.setIfInBounds_toArray]
    refine takeHD (i := 18) (v := undef) (some 33) rfl rfl (by kernel_rfl) (by kernel_rfl) (by kernel_rfl) (fun _ _ _ h => h) (Or.inr ⟨by kernel_rfl, rfl⟩) S0.out ?_
    simp only [Act.put, List.setIfInBounds_toArray]
    refine takeHD (i := 19) (v := undef) (some 34) rfl rfl (by kernel_rfl) (by kernel_rfl) (by kernel_rfl) (fun _ _ _ h => h) (Or.inr ⟨by kernel_rfl, rfl⟩) S0.out ?_
    simp only [Act.put, List.setIfInBounds_toArray]
    refine takeHD (i := 20) (v := undef) (some 35) rfl rfl (by kernel_rfl) (by kernel_rfl) (by kernel_rfl) (fun _ _ _ h => h) (Or.inr ⟨by kernel_rfl, rfl⟩) S0.out ?_
    simp only [Act.put, List.setIfInBounds_toArray]
    refine takeHD (i := 21) (v := undef) (some 36) rfl rfl (by kernel_rfl) (by kernel_rfl) (by kernel_rfl) (fun _ _ _ h => h) (Or.inr ⟨by kernel_rfl, rfl⟩) S0.out ?_
    simp only [Act.put, List.setIfInBounds_toArray]
    refine takeHD (i := 22) (v := .bool false) (some 37) rfl rfl (by kernel_rfl) (by kernel_rfl) (by kernel_rfl) (fun _ _ _ h => h) (Or.inl ⟨by kernel_rfl, fun w' hw => ?_⟩) S0.out ?_
    · go_simp
    simp only [Act.put, List.setIfInBounds_toArray]
    refine takeHD (i := 23) (v := .bool false) (some 38) rfl rfl (by kernel_rfl) (by kernel_rfl) (by kernel_rfl) (fun _ _ _ h => h) (Or.inl ⟨by kernel_rfl, fun w' hw => ?_⟩) S0.out ?_
    · go_simp
    simp only [Act.put, List.setIfInBounds_toArray]
    refine takeHD (i := 24) (v := undef) (some 39) rfl rfl (by kernel_rfl) (by kernel_rfl) (by kernel_rfl) (fun _ _ _ h => h) (Or.inr ⟨by kernel_rfl, rfl⟩) S0.out ?_
    simp only [Act.put, List.setIfInBounds_toArray]
    refine takeHD (i := 25) (v := undef) (some 40) rfl rfl (by kernel_rfl) (by kernel_rfl) (by kernel_rfl) (fun _ _ _ h => h) (Or.inr ⟨by kernel_rfl, rfl⟩) S0.out ?_
    simp only [Act.put, List.setIfInBounds_toArray]
    refine takeHD (i := 26) (v := undef) (some 41) rfl rfl (by kernel_rfl) (by kernel_rfl) (by kernel_rfl) (fun _ _ _ h => h) (Or.inr ⟨by kernel_rfl, rfl⟩) S0.out ?_
    simp only [Act.put, List.setIfInBounds_toArray]
    refine takeHD (i := 27) (v := undef) (some 42) rfl rfl (by kernel_rfl) (by kernel_rfl) (by kernel_rfl) (fun _ _ _ h => h) (Or.inr ⟨by kernel_rfl, rfl⟩) S0.out ?_
    simp only [Act.put, List.setIfInBounds_toArray]
    refine takeHD (i := 28) (v := undef) (some 43) rfl rfl (by kernel_rfl) (by kernel_rfl) (by kernel_rfl) (fun _ _ _ h => h) (Or.inr ⟨by kernel_rfl, rfl⟩) S0.out ?_
    simp only [Act.put, List.setIfInBounds_toArray]
    refine takeHD (i := 29) (v := .bool false) (some 44) rfl rfl (by kernel_rfl) (by kernel_rfl) (by kernel_rfl) (fun _ _ _ h => h) (Or.inl ⟨by kernel_rfl, fun w' hw => ?_⟩) S0.out ?_
    · go_simp
    simp only [Act.put, List.setIfInBounds_toArray]
    refine wpAnyH_ready (rs := [10]) (by kernel_rfl) (by simp) ?_
    refine AllReadyH.cons rfl (fun K hK => ?_) AllReadyH.nil
    rw [if_pos (by kernel_rfl)]
    go_wp2_with fail
    have T0 : Hid (Below w5.heap.size w5 (w5.drew.alloc (.cells #[.slice xao xan xac, .slice yao yan yac, .slice xbo xbn xbc, .slice ybo ybn ybc] 55))) := S0.out.alloc S0.out.size _
    refine hK.out _ _ T0.out (fun _ => ?_)
    clear hK K
    refine takeHD (i := 30) (v := .slice (some ⟨w5.heap.size, 0, none⟩) 2 2) (some 5) rfl rfl (by kernel_rfl) (by kernel_rfl) (by kernel_rfl) (fun _ _ _ h => h) (Or.inl ⟨by kernel_rfl, fun w' hw => ?_⟩) T0.out ?_
    · go_simp
    simp only [Act.put, List.setIfInBounds_toArray]
    refine takeHD (i := 31) (v := .bool false) (some 6) rfl rfl (by kernel_rfl) (by kernel_rfl) (by kernel_rfl) (fun _ _ _ h => h) (Or.inl ⟨by kernel_rfl, fun w' hw => ?_⟩) T0.out ?_
    · go_simp
    simp only [Act.put, List.setIfInBounds_toArray]
    refine wpAnyH_done (by kernel_rfl) ?_ _
    clear HX HY
    go_wp2
    go_ret2
    have hr := HR.out false (by simp [hb0])
    subst hr
    exact ⟨w5.heap.size, .slice ao4 n4 cap4, rfl, (MapKept.heap_alloc w5 _).1, by omega, (T0.out.block tb htl5).trans T5.out, O5.out.kept fun g hg => T0.out.block g (V5.out g hg).1, HVV.out, fun b h1 h2 h3 => (T0.out.block b (by omega)).trans (F5.out b h1 h2 h3), B5.out.trans (T0.out.mono (by omega)), Nat.le_trans (by omega) T0.out.size⟩
  have hb0 : (k == k') = true := by simpa using hkk
  simp only [hb0]
  refine takeHD (i := 17) (v := .pointer (some ⟨w.heap.size, 1, none⟩)) (some 32) rfl rfl (by kernel_rfl) (by kernel_rfl) (by kernel_rfl) (fun _ _ _ h => h) (Or.inl ⟨by kernel_rfl, fun w' hw => ?_⟩) S0.out ?_
  · go_simp
  simp only [Act.put, List.setIfInBounds_toArray]
  refine takeHD (i := 18) (v := .string s) (some 33) rfl rfl (by kernel_rfl) (by kernel_rfl) (by kernel_rfl) (fun _ _ _ h => h) (Or.inl ⟨by kernel_rfl, fun w' hw => ?_⟩) S0.out ?_
  · have hq := HX.out w' hw
    go_simp
  simp only [Act.put, List.setIfInBounds_toArray]
  refine takeHD (i := 19) (v := .pointer (some ⟨w.heap.size + 1, 1, none⟩)) (some 34) rfl rfl (by kernel_rfl) (by kernel_rfl) (by kernel_rfl) (fun _ _ _ h => h) (Or.inl ⟨by kernel_rfl, fun w' hw => ?_⟩) S0.out ?_
  · go_simp
  simp only [Act.put, List.setIfInBounds_toArray]
  refine takeHD (i := 20) (v := .string s') (some 35) rfl rfl (by kernel_rfl) (by kernel_rfl) (by kernel_rfl) (fun _ _ _ h => h) (Or.inl ⟨by kernel_rfl, fun w' hw => ?_⟩) S0.out ?_
  · have hq := HY.out w' hw
    go_simp
  simp only [Act.put, List.setIfInBounds_toArray]
  refine takeHD (i := 21) (v := .bool (s.toList == s'.toList)) (some 36) rfl rfl (by kernel_rfl) (by kernel_rfl) (by kernel_rfl) (fun _ _ _ h => h) (Or.inl ⟨by kernel_rfl, fun w' hw => ?_⟩) S0.out ?_
  · go_simp
  simp only [Act.put, List.setIfInBounds_toArray]
  refine takeHD (i := 22) (v := .bool (s.toList == s'.toList)) (some 37) rfl rfl (by kernel_rfl) (by kernel_rfl) (by kernel_rfl) (fun _ _ _ h => h) (Or.inl ⟨by kernel_rfl, fun w' hw => ?_⟩) S0.out ?_
  · go_simp
  simp only [Act.put, List.setIfInBounds_toArray]
  refine takeHD (i := 23) (v := .bool (s.toList == s'.toList)) (some 38) rfl rfl (by kernel_rfl) (by kernel_rfl) (by kernel_rfl) (fun _ _ _ h => h) (Or.inl ⟨by kernel_rfl, fun w' hw => ?_⟩) S0.out ?_
  · go_simp
  simp only [Act.put, List.setIfInBounds_toArray]
  by_cases hss : s = s'
  case neg =>
    have hb1 : (s.toList == s'.toList) = false := by have := txt_bne hss; simpa [bne] using this
    simp only [hb1]
    refine takeHD (i := 24) (v := undef) (some 39) rfl rfl (by kernel_rfl) (by kernel_rfl) (by kernel_rfl) (fun _ _ _ h => h) (Or.inr ⟨by kernel_rfl, rfl⟩) S0.out ?_
    simp only [Act.put, List.setIfInBounds_toArray]
    refine takeHD (i := 25) (v := undef) (some 40) rfl rfl (by kernel_rfl) (by kernel_rfl) (by kernel_rfl) (fun _ _ _ h => h) (Or.inr ⟨by kernel_rfl, rfl⟩) S0.out ?_
    simp only [Act.put, List.setIfInBounds_toArray]
    refine takeHD (i := 26) (v := undef) (some 41) rfl rfl (by kernel_rfl) (by kernel_rfl) (by kernel_rfl) (fun _ _ _ h => h) (Or.inr ⟨by kernel_rfl, rfl⟩) S0.out ?_
    simp only [Act.put, List.setIfInBounds_toArray]
    refine takeHD (i := 27) (v := undef) (some 42) rfl rfl (by kernel_rfl) (by kernel_rfl) (by kernel_rfl) (fun _ _ _ h => h) (Or.inr ⟨by kernel_rfl, rfl⟩) S0.out ?_
    simp only [Act.put, List.setIfInBounds_toArray]
    refine takeHD (i := 28) (v := undef) (some 43) rfl rfl (by kernel_rfl) (by kernel_rfl) (by kernel_rfl) (fun _ _ _ h => h) (Or.inr ⟨by kernel_rfl, rfl⟩) S0.out ?_
    simp only [Act.put, List.setIfInBounds_toArray]
    refine takeHD (i := 29) (v := .bool false) (some 44) rfl rfl (by kernel_rfl) (by kernel_rfl) (by kernel_rfl) (fun _ _ _ h => h) (Or.inl ⟨by kernel_rfl, fun w' hw => ?_⟩) S0.out ?_
    · go_simp
    simp only [Act.put, List.setIfInBounds_toArray]
    refine wpAnyH_ready (rs := [10]) (by kernel_rfl) (by simp) ?_
    refine AllReadyH.cons rfl (fun K hK => ?_) AllReadyH.nil
    rw [if_pos (by kernel_rfl)]
    go_wp2_with fail
    have T0 : Hid (Below w5.heap.size w5 (w5.drew.alloc (.cells #[.slice xao xan xac, .slice yao yan yac, .slice xbo xbn xbc, .slice ybo ybn ybc] 55))) := S0.out.alloc S0.out.size _
    refine hK.out _ _ T0.out (fun _ => ?_)
    clear hK K
    refine takeHD (i := 30) (v := .slice (some ⟨w5.heap.size, 0, none⟩) 2 2) (some 5) rfl rfl (by kernel_rfl) (by kernel_rfl) (by kernel_rfl) (fun _ _ _ h => h) (Or.inl ⟨by kernel_rfl, fun w' hw => ?_⟩) T0.out ?_
    · go_simp
    simp only [Act.put, List.setIfInBounds_toArray]
    refine takeHD (i := 31) (v := .bool false) (some 6) rfl rfl (by kernel_rfl) (by kernel_rfl) (by kernel_rfl) (fun _ _ _ h => h) (Or.inl ⟨by kernel_rfl, fun w' hw => ?_⟩) T0.out ?_
    · go_simp
    simp only [Act.put, List.setIfInBounds_toArray]
    refine wpAnyH_done (by kernel_rfl) ?_ _
    clear HX HY
    go_wp2
    go_ret2
    have hr := HR.out false (by simp [hb0, hb1])
    subst hr
    exact ⟨w5.heap.size, .slice ao4 n4 cap4, rfl, (MapKept.heap_alloc w5 _).1, by omega, (T0.out.block tb htl5).trans T5.out, O5.out.kept fun g hg => T0.out.block g (V5.out g hg).1, HVV.out, fun b h1 h2 h3 => (T0.out.block b (by omega)).trans (F5.out b h1 h2 h3), B5.out.trans (T0.out.mono (by omega)), Nat.le_trans (by omega) T0.out.size⟩
  have hb1 : (s.toList == s'.toList) = true := by rw [hss]; simp
  simp only [hb1]
  refine takeHD (i := 24) (v := .pointer (some ⟨w.heap.size, 2, none⟩)) (some 39) rfl rfl (by kernel_rfl) (by kernel_rfl) (by kernel_rfl) (fun _ _ _ h => h) (Or.inl ⟨by kernel_rfl, fun w' hw => ?_⟩) S0.out ?_
  · go_simp
  simp only [Act.put, List.setIfInBounds_toArray]
  refine takeHD (i := 25) (v := .string t) (some 40) rfl rfl (by kernel_rfl) (by kernel_rfl) (by kernel_rfl) (fun _ _ _ h => h) (Or.inl ⟨by kernel_rfl, fun w' hw => ?_⟩) S0.out ?_
  · have hq := HX.out w' hw
    go_simp
  simp only [Act.put, List.setIfInBounds_toArray]
  refine takeHD (i := 26) (v := .pointer (some ⟨w.heap.size + 1, 2, none⟩)) (some 41) rfl rfl (by kernel_rfl) (by kernel_rfl) (by kernel_rfl) (fun _ _ _ h => h) (Or.inl ⟨by kernel_rfl, fun w' hw => ?_⟩) S0.out ?_
  · go_simp
  simp only [Act.put, List.setIfInBounds_toArray]
  refine takeHD (i := 27) (v := .string t') (some 42) rfl rfl (by kernel_rfl) (by kernel_rfl) (by kernel_rfl) (fun _ _ _ h => h) (Or.inl ⟨by kernel_rfl, fun w' hw => ?_⟩) S0.out ?_
  · have hq := HY.out w' hw
    go_simp
  simp only [Act.put, List.setIfInBounds_toArray]
  refine takeHD (i := 28) (v := .bool (t.toList == t'.toList)) (some 43) rfl rfl (by kernel_rfl) (by kernel_rfl) (by kernel_rfl) (fun _ _ _ h => h) (Or.inl ⟨by kernel_rfl, fun w' hw => ?_⟩) S0.out ?_
  · go_simp
  simp only [Act.put, List.setIfInBounds_toArray]
  refine takeHD (i := 29) (v := .bool (t.toList == t'.toList)) (some 44) rfl rfl (by kernel_rfl) (by kernel_rfl) (by kernel_rfl) (fun _ _ _ h => h) (Or.inl ⟨by kernel_rfl, fun w' hw => ?_⟩) S0.out ?_
  · go_simp
  simp only [Act.put, List.setIfInBounds_toArray]
  refine wpAnyH_ready (rs := [10]) (by kernel_rfl) (by simp) ?_
  refine AllReadyH.cons rfl (fun K hK => ?_) AllReadyH.nil
  rw [if_pos (by kernel_rfl)]
  go_wp2_with fail
  have T0 : Hid (Below w5.heap.size w5 (w5.drew.alloc (.cells #[.slice xao xan xac, .slice yao yan yac, .slice xbo xbn xbc, .slice ybo ybn ybc] 55))) := S0.out.alloc S0.out.size _
  refine hK.out _ _ T0.out (fun _ => ?_)
  clear hK K
  refine takeHD (i := 30) (v := .slice (some ⟨w5.heap.size, 0, none⟩) 2 2) (some 5) rfl rfl (by kernel_rfl) (by kernel_rfl) (by kernel_rfl) (fun _ _ _ h => h) (Or.inl ⟨by kernel_rfl, fun w' hw => ?_⟩) T0.out ?_
  · go_simp
  simp only [Act.put, List.setIfInBounds_toArray]
  refine takeHD (i := 31) (v := .bool (t.toList == t'.toList)) (some 6) rfl rfl (by kernel_rfl) (by kernel_rfl) (by kernel_rfl) (fun _ _ _ h => h) (Or.inl ⟨by kernel_rfl, fun w' hw => ?_⟩) T0.out ?_
  · go_simp
  simp only [Act.put, List.setIfInBounds_toArray]
  refine wpAnyH_done (by kernel_rfl) ?_ _
  clear HX HY
  go_wp2
  go_ret2
  have hr := HR.out (t.toList == t'.toList) (by simp [hb0, hb1])
  subst hr
  exact ⟨w5.heap.size, .slice ao4 n4 cap4, rfl, (MapKept.heap_alloc w5 _).1, by omega, (T0.out.block tb htl5).trans T5.out, O5.out.kept fun g hg => T0.out.block g (V5.out g hg).1, HVV.out, fun b h1 h2 h3 => (T0.out.block b (by omega)).trans (F5.out b h1 h2 h3), B5.out.trans (T0.out.mono (by omega)), Nat.le_trans (by omega) T0.out.size⟩
end Go.Proofs.Ytijpmnenegdmnaa
