/- The law FnEnds walked. -/
import Derived.Test.YtapniafhcagogaaDoorPlLong
import Derived.Test.YtapniafhcagogaaDoorDrawEnds
import Derived.Test.YtapniafhcagogaaDoorIntLaws
import Derived.Test.YtapniafhcagogaaDoorCur
namespace Go.Proofs.YtapniafhcagogaaDoor
open Go.RowKit
set_option maxRecDepth 8000

theorem OwnI.iz {w : World} {base : Nat} {v : Value} {xs : List Nat} (h : OwnI w base v xs) : Iz w v (xs.map fun (n : Nat) => (n : Int)) := by
  have h' : OwnZ w base v (xs.map fun (n : Nat) => (n : Int)) := by
    unfold OwnI at h
    unfold OwnZ
    rw [List.length_map, List.map_map]
    exact h
  exact h'.iz

theorem rowL_rises (n : Nat) (f : Nat → Bool) : RisesZ ((rowL n f).map fun (x : Nat) => (x : Int)) := by
  intro k hk
  rw [List.length_map] at hk
  have hp : (rowL n f).Pairwise (· < ·) := List.Pairwise.filter _ List.pairwise_lt_range
  have h1 := List.pairwise_iff_getElem.1 hp k (k + 1) (by omega) hk (by omega)
  simp only [List.getD, List.getElem?_map]
  rw [List.getElem?_eq_getElem (by omega), List.getElem?_eq_getElem hk]
  simp
  exact h1
theorem endsL_rises (t : Tr) (s : ByteArray) (at' : Int) : RisesZ ((endsL t s at').map fun (x : Nat) => (x : Int)) := by
  unfold endsL
  split
  · exact rowL_rises _ _
  · intro k hk; simp at hk
theorem endsL_bounds (t : Tr) (s : ByteArray) (at' : Int) : ∀ x ∈ endsL t s at', at' ≤ (x : Int) ∧ x ≤ s.size := by
  intro x hx
  unfold endsL at hx
  split at hx
  · rename_i h
    unfold rowL at hx
    obtain ⟨h1, h2⟩ := List.mem_filter.1 hx
    have h3 := UpM.tree s t at'.toNat x (by omega) h2
    omega
  · cases hx

set_option maxHeartbeats 2000000 in
theorem fnEnds_walk (v : Value) (zs : List Int) (w : World) (h : Bs w v zs) (hT : TabB w) :
    Calls Tryd.prog 3 #[v] w fun e w' => e = .returned (.bool true) ∧ Below w.heap.size w w' := by
  have H := Hid.mk h
  clear h
  have HB := Hid.mk (big_any v zs w H.out)
  by_cases hlen : zs.length ≤ 1048576
  · have hd : decide ((1048576 : Int) < zs.length) = false := by simp; omega
    rw [hd] at HB
    clear hd
    go_enter Tryd.func3, Tryd.ntmps3
    go_wp2_with fail
    refine HB.out.mono ?_
    rintro e w1 ⟨rfl, hw⟩
    obtain rfl := hw.symm
    clear hw HB
    go_wp2_with fail
    refine (drawEndsOf_any v zs w H.out hlen).mono ?_
    rintro e w1 ⟨t, u, s, at', rfl, hts, hs6, hr1, hb1⟩
    have HIO := Hid.mk (fun (w' : World) (hb : Below w.heap.size w w') (B : Nat → Prop) (u : Value) (h : Rl w' B t.l u) => endsOf_any t B u s at' w' h hts (hT.grow hb))
    have HSO := Hid.mk (fun (w' : World) (B : Nat → Prop) (u : Value) (h : Rl w' B t.l u) => specEndsOf_any t B u s at' w' h hts (by omega))
    have HRI := Hid.mk (endsL_rises t s at')
    have HBO := Hid.mk (endsL_bounds t s at')
    obtain ⟨au, cu, rfl, -⟩ := hr1.len
    obtain ⟨E, hE⟩ : ∃ E, endsL t s at' = E := ⟨_, rfl⟩
    obtain ⟨tk, htk⟩ : ∃ tk, t.k = tk := ⟨_, rfl⟩
    obtain ⟨ts, hts'⟩ : ∃ ts, t.s = ts := ⟨_, rfl⟩
    obtain ⟨l, hl⟩ : ∃ l, t.l = l := ⟨_, rfl⟩
    rw [htk, hts', hl, hE] at HIO HSO
    rw [hE] at HRI HBO
    rw [hl] at hr1
    rw [htk, hts', hl]
    have A0 : Below w1.heap.size w1 (w1.alloc (.cells #[.int .i64 tk, .string ts, .slice au l.length cu] 26)) := (Below.refl _ _).alloc (Nat.le_refl _) _
    have X2 := Hid.mk (Bz3.new w1 (.int .i64 tk) (.string ts) (.slice au l.length cu))
    have R2 := Hid.mk (hr1.grow A0)
    have B2 := Hid.mk (hb1.trans (A0.mono hb1.size))
    clear hts hr1 hb1 hE htk hts' hl A0 t
    go_wp2_with fail
    generalize w1.alloc (.cells #[.int .i64 tk, .string ts, .slice au l.length cu] 26) = W2 at X2 R2 B2 ⊢
    generalize w1.heap.size = p0 at X2 ⊢
    clear w1
    refine (HIO.out W2 B2.out _ _ R2.out).mono ?_
    rintro e w3 ⟨v3, rfl, ho3, hb3⟩
    have X3 := Hid.mk (X2.out.grow hb3)
    have R3 := Hid.mk (R2.out.grow hb3)
    have B3 := Hid.mk (B2.out.trans (hb3.mono B2.out.size))
    have I3 := Hid.mk (OwnI.iz ho3)
    obtain ⟨a3, c3, h3v, -⟩ := OwnI.iz ho3
    subst h3v
    rw [List.length_map] at I3 ⊢
    clear ho3 hb3 X2 R2 B2 HIO
    have x0 := X3.out.c0
    have x1 := X3.out.c1
    have x2 := X3.out.c2
    go_wp2_with fail
    refine (HSO.out w3 _ _ R3.out).mono ?_
    rintro e w4 ⟨v4, rfl, ho4, hb4⟩
    have B4 := Hid.mk (B3.out.trans (hb4.mono B3.out.size))
    have I4 := Hid.mk (I3.out.grow hb4)
    have HSM := Hid.mk (sameInts_same _ _ _ w4 I4.out (OwnI.iz ho4))
    obtain ⟨a4, c4, h4v, -⟩ := OwnI.iz ho4
    subst h4v
    rw [List.length_map] at HSM ⊢
    clear ho4 hb4 X3 R3 B3 I3 HSO x0 x1 x2
    go_wp2_with fail
    refine HSM.out.mono ?_
    rintro e w5 ⟨rfl, n5, hw5⟩
    have D5 : Below w4.heap.size w4 w5 := by rw [hw5]; exact Below.drewSelf _ _ _
    have B5 := Hid.mk (B4.out.trans (D5.mono B4.out.size))
    have I5 := Hid.mk (I4.out.grow D5)
    have HR5 := Hid.mk (rises_yes _ _ w5 I5.out HRI.out)
    clear hw5 D5 B4 I4 HSM HRI
    go_wp2_with fail
    refine HR5.out.mono ?_
    rintro e w6 ⟨rfl, n6, hw6⟩
    have D6 : Below w5.heap.size w5 w6 := by rw [hw6]; exact Below.drewSelf _ _ _
    have B6 := Hid.mk (B5.out.trans (D6.mono B5.out.size))
    obtain ⟨ao, cap, hv, hl1, hl2, hl3, hl4⟩ := I5.out.grow D6
    simp only [List.length_map, Value.slice.injEq] at hv hl1 hl4
    obtain ⟨rfl, -, rfl⟩ := hv
    have HCE : Hid (E ≠ [] → ∃ b off, a3 = some ⟨b, off, none⟩ ∧ ∀ k, k < E.length → w6.cell? ⟨b, off + k, none⟩ = some (.int .i64 ((E.map fun (n : Nat) => (n : Int)).getD k 0))) := fun hne => by
      obtain ⟨b, off, h1, h2⟩ := hl4 (by simpa using hne)
      exact ⟨b, off, h1, h2⟩
    have hcm : c3 ≤ 9223372036854775807 := by unfold maxLen at hl2; omega
    clear hw6 D6 B5 I5 HR5 hl2 hl3 hl4
    go_wp2
    go_loop [7] (fun q => ∃ k : Nat, k ≤ E.length ∧ q = .int .i64 k) (fun q => E.length - (intOf q).toNat)
    case atStart => exact ⟨0, Nat.zero_le _, rfl⟩
    case round =>
      obtain ⟨k, hk, rfl⟩ := hrel
      by_cases hlt : k < E.length
      · obtain ⟨b, off, rfl, hcell⟩ := HCE.out (by intro h0; rw [h0] at hlt; simp at hlt)
        have h1 := hcell k hlt
        obtain ⟨hb1, hb2⟩ := HBO.out E[k] (List.getElem_mem hlt)
        have he : (E.map fun (n : Nat) => (n : Int)).getD k 0 = ((E[k] : Nat) : Int) := by simp [List.getD, hlt]
        rw [he] at h1
        generalize E[k] = y at h1 hb1 hb2
        have hn1 : ¬ ((y : Int) < at') := by omega
        have hn2 : ¬ ((s.size : Int) < (y : Int)) := by omega
        have hi1 : (k : Int) < (E.length : Int) := by omega
        clear hcell he
        go_wp2
        go_round
        case rel => exact ⟨k + 1, by omega, by go_num⟩
        case measure => simp [intOf]; omega
      · go_wp2
        go_ret
        exact ⟨rfl, B6.out⟩
  · have hd : decide ((1048576 : Int) < zs.length) = true := by simp; omega
    rw [hd] at HB
    clear hd
    go_enter Tryd.func3, Tryd.ntmps3
    go_wp2_with fail
    refine HB.out.mono ?_
    rintro e w1 ⟨rfl, hw⟩
    obtain rfl := hw.symm
    go_wp2
    go_ret
    exact ⟨rfl, Below.refl _ _⟩
end Go.Proofs.YtapniafhcagogaaDoor
