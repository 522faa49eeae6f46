/- What the program's Spread answers. -/
import Derived.Test.YteomhjoodnjfbaaReach
import Derived.Test.YteomhjoodnjfbaaNfaOkW
import Derived.Test.YteomhjoodnjfbaaAppInt
namespace Go.Proofs.Yteomhjoodnjfbaa
open Go.RowKit
set_option maxRecDepth 8000

/-- The places that are marked. -/
def mkL (M : Nat → Bool) (n : Nat) : List Int := ((List.range n).filter M).map fun (j : Nat) => (j : Int)
/-- Those of a list that are nodes. -/
def inS (l : List Int) (n : Nat) : Nat → Prop := fun j => (j : Int) ∈ l ∧ j < n

theorem mkL_yes {M : Nat → Bool} {k : Nat} (h : M k = true) : mkL M (k + 1) = mkL M k ++ [(k : Int)] := by simp [mkL, List.range_succ, h]
theorem mkL_no {M : Nat → Bool} {k : Nat} (h : M k = false) : mkL M (k + 1) = mkL M k := by simp [mkL, List.range_succ, h]
theorem mkL_len (M : Nat → Bool) (k : Nat) : (mkL M k).length ≤ k := by
  unfold mkL
  rw [List.length_map]
  exact Nat.le_trans (List.length_filter_le _ _) (by simp)
theorem inS_nil (n : Nat) (j : Nat) : ¬ inS [] n j := fun h => by cases h.1
theorem inS_yes {l : List Int} {n k q : Nat} (hk : k < l.length) (hq : l[k] = (q : Int)) (hqn : q < n) (j : Nat) : (inS (l.take k) n j ∨ j = q) ↔ inS (l.take (k + 1)) n j := by
  unfold inS
  rw [List.take_succ_eq_append_getElem hk, List.mem_append, List.mem_singleton, hq]
  constructor
  · rintro (⟨h1, h2⟩ | rfl)
    · exact ⟨.inl h1, h2⟩
    · exact ⟨.inr rfl, hqn⟩
  · rintro ⟨h1 | h1, h2⟩
    · exact .inl ⟨h1, h2⟩
    · exact .inr (by omega)
theorem inS_no {l : List Int} {n k : Nat} (hk : k < l.length) (hq : plB l[k] n = false) (j : Nat) : inS (l.take k) n j ↔ inS (l.take (k + 1)) n j := by
  unfold inS
  rw [List.take_succ_eq_append_getElem hk, List.mem_append, List.mem_singleton]
  constructor
  · rintro ⟨h1, h2⟩
    exact ⟨.inl h1, h2⟩
  · rintro ⟨h1 | h1, h2⟩
    · exact ⟨h1, h2⟩
    · rw [← h1] at hq
      simp [plB, h2] at hq

theorem Iz.one (w : World) (c : Int) : Iz (w.alloc (.cells #[.int .i64 c] 3)) (.slice (some ⟨w.heap.size, 0, none⟩) 1 1) [c] := by
  refine ⟨_, 1, rfl, by simp, by decide, fun h => by simp at h, fun _ => ⟨_, 0, rfl, fun i hi => ?_⟩⟩
  obtain rfl : i = 0 := by simpa using hi
  simp
theorem OwnZ.alloc {w : World} {base : Nat} {v : Value} {xs : List Int} (h : OwnZ w base v xs) (o : Obj) : OwnZ (w.alloc o) base v xs := World.ownsRow.alloc h o
theorem zeroWalk : Try.zeroCells126 = (.slice none 0 0 :: .bool false :: .bool false :: List.replicate 300 (.bool false) : List Value).toArray := by kernel_rfl
theorem newWalk (w : World) (v : Value) (ab ae : Bool) : WB (w.alloc (.cells (((Try.zeroCells126.setIfInBounds 0 v).setIfInBounds 1 (.bool ab)).setIfInBounds 2 (.bool ae)) 126)) w.heap.size v ab ae (fun _ => false) := by
  unfold WB
  rw [heap_alloc_new, zeroWalk]
  have : (List.range 300).map (fun _ => Value.bool false) = List.replicate 300 (.bool false) := by rw [List.map_const', List.length_range]
  unfold wkC
  rw [this]
  simp only [List.setIfInBounds_toArray, List.set_cons_zero, List.set_cons_succ]

set_option maxHeartbeats 2000000 in
theorem spreadNodes_any (N : List Nd) (hok : okNfa N = true) (B : Nat → Prop) (v u : Value) (l : List Int) (p z : Int) (w : World) (h : Nl w B N v) (hl : Iz w u l) :
    Calls Try.prog 63 #[v, u, .int .i64 p, .int .i64 z] w fun e w' => ∃ x M, e = .returned x ∧ OwnZ w' w.heap.size x (mkL M N.length) ∧ (∀ j, M j = true ↔ Rch N (p == 0) (p == z) (inS l N.length) j) ∧ Below w.heap.size w w' := by
  have HR := Hid.mk (fun u => reach_any N hok w.heap.size (p == 0) (p == z) u)
  have HN := Hid.mk (fun w' (hb : Below w.heap.size w w') => (h.imp (C := fun b => b < w.heap.size) (fun _ _ hlt => hlt)).kept (w' := w') fun b hb' _ => hb.block b hb')
  have hn3 := okNfa_size hok
  have HG : Hid (∀ M, Grew N (p == 0) (p == z) (inS l N.length) (fun _ => false) M → ∀ j, M j = true ↔ Rch N (p == 0) (p == z) (inS l N.length) j) := fun M h j => h.all j
  obtain ⟨ao, cap, rfl, hl1, hm1, -, -, -⟩ := h
  obtain ⟨lo, lc, rfl, hl2, hm2, hn2, hc2⟩ := hl
  unfold maxLen at hm1 hm2
  have HC := Hid.mk hc2
  have HW0 := Hid.mk (newWalk w (.slice ao N.length cap) (p == 0) (p == z))
  have B0 : Hid (∀ o, Below w.heap.size w (w.alloc o)) := fun o => (Below.refl _ _).alloc (Nat.le_refl _) _
  clear hc2 hok
  go_enter Try.func63, Try.ntmps63
  go_wp2_with fail
  go_loopw [24] (fun i wr => ∃ (k : Nat), k ≤ l.length ∧ i = .int .i64 k ∧ Hid (∃ M, WB wr w.heap.size (.slice ao N.length cap) (p == 0) (p == z) M ∧ Grew N (p == 0) (p == z) (inS (l.take k) N.length) (fun _ => false) M) ∧ Hid (Below w.heap.size w wr)) (fun i _ => l.length - (intOf i).toNat)
  case atStart => exact ⟨0, Nat.zero_le _, rfl, ⟨_, HW0.out, Grew.here fun j hj => absurd hj (inS_nil _ j)⟩, B0.out _⟩
  case round =>
    obtain ⟨k, hk, rfl, HM, HB⟩ := hrel
    clear HW0 B0
    by_cases hkl : k < l.length
    · obtain ⟨b, off, rfl, hcell⟩ := HC.out (by intro h0; rw [h0] at hkl; simp at hkl)
      have c0 := hcell k hkl
      have hbl := World.block_lt_of_cell? w _ c0
      have c1 : wr.cell? ⟨b, off + k, none⟩ = some (.int .i64 (l.getD k 0)) := by rw [HB.out.cell (p := ⟨b, off + k, none⟩) hbl]; exact c0
      obtain ⟨c, hcc⟩ : ∃ c, l.getD k 0 = c := ⟨_, rfl⟩
      have HL : Hid (l[k] = c) := by show _ = _; rw [← hcc]; simp [List.getD, hkl]
      rw [hcc] at c1
      have hki : (k : Int) < (l.length : Int) := by omega
      clear hcc c0 hcell
      go_wp2_with fail
      refine (isNode_any c N.length _).mono ?_
      rintro e w1 ⟨rfl, rfl⟩
      obtain ⟨M, hW, hG⟩ := HM.out
      rcases plCase c N.length with ⟨hp, hp'⟩ | ⟨hp, hp'⟩
      · obtain ⟨q, rfl⟩ : ∃ q : Nat, c = (q : Int) := ⟨c.toNat, by omega⟩
        have hq : q < N.length := by omega
        have HI := Hid.mk (inS_yes hkl HL.out hq)
        have HW := Hid.mk hW
        have HGG := Hid.mk hG
        rw [hp]
        clear hW hG HM hp hp'
        go_wp2_with fail
        refine (HR.out _ M q _ _ HW.out (HN.out _ HB.out) hq (Nat.le_refl _)).mono ?_
        rintro e w2 ⟨⟨x2, rfl⟩, M2, hW2, hG2, hb2⟩
        have HM2 : Hid (∃ M, WB w2 w.heap.size (.slice ao N.length cap) (p == 0) (p == z) M ∧ Grew N (p == 0) (p == z) (inS (l.take (k + 1)) N.length) (fun _ => false) M) := ⟨M2, hW2, (HGG.out.comp hG2).imp HI.out⟩
        have HB2 := Hid.mk (HB.out.trans hb2)
        clear hW2 hG2 hb2 HB HW HGG HI
        go_wp2
        go_roundw
        case rel => exact ⟨k + 1, by omega, by go_num, HM2, HB2⟩
        case measure => simp [intOf]; omega
      · have HM2 : Hid (∃ M, WB w1 w.heap.size (.slice ao N.length cap) (p == 0) (p == z) M ∧ Grew N (p == 0) (p == z) (inS (l.take (k + 1)) N.length) (fun _ => false) M) := ⟨M, hW, hG.imp (inS_no hkl (by rw [HL.out]; exact hp))⟩
        rw [hp]
        clear hW hG HM hp hp'
        go_wp2
        go_roundw
        case rel => exact ⟨k + 1, by omega, by go_num, HM2, HB⟩
        case measure => simp [intOf]; omega
    · have e : k = l.length := by omega
      subst e
      obtain ⟨M, hW, hG⟩ := HM.out
      rw [List.take_length] at hG
      have HF := Hid.mk (HG.out M hG)
      have HW := Hid.mk hW
      have hwl := hW.lt
      clear hW hG HM HG HR HN HC
      have O0 : Hid (OwnZ (wr.alloc (.cells #[] 3)) (w.heap.size + 1) (.slice (some ⟨wr.heap.size, 0, none⟩) 0 0) (mkL M 0)) := World.ownsRow_lit wr #[] 0 (by omega) (by decide) rfl
      have B1 : Hid (Below (w.heap.size + 1) wr (wr.alloc (.cells #[] 3))) := (Below.refl _ _).alloc (by omega) _
      go_wp2_with fail
      go_loopw [12, 39] (fun x i wq => ∃ (k : Nat), k ≤ N.length ∧ i = .int .i64 k ∧ Hid (OwnZ wq (w.heap.size + 1) x (mkL M k)) ∧ Hid (Below (w.heap.size + 1) wr wq)) (fun _ i _ => N.length - (intOf i).toNat)
      case atStart => exact ⟨0, Nat.zero_le _, rfl, O0, B1⟩
      case round =>
        obtain ⟨k, hk2, rfl, HO, HB2⟩ := hrel
        clear O0 B1
        have hs2 := HB2.out.size
        by_cases hkn : k < N.length
        · have cm := (show WB wr w.heap.size _ _ _ _ from (HB2.out.block w.heap.size (Nat.lt_succ_self _)).trans HW.out).cm (i := k) (by omega)
          have hkni : (k : Int) < (N.length : Int) := by omega
          have hk3 : k < 300 := by omega
          have HLen := Hid.mk (mkL_len M k)
          cases hM : M k with
          | false =>
            have HO2 : Hid (OwnZ wr (w.heap.size + 1) u12 (mkL M (k + 1))) := by show OwnZ _ _ _ _; rw [mkL_no hM]; exact HO.out
            rw [hM] at cm
            clear hM HO
            go_wp2
            go_roundw
            case rel => exact ⟨k + 1, by omega, by go_num, HO2, HB2⟩
            case measure => simp [intOf]; omega
          | true =>
            have HE := Hid.mk (mkL_yes hM)
            have I1 := Hid.mk (Iz.one wr (k : Int))
            have B3 : Hid (Below (w.heap.size + 1) _ (wr.alloc (.cells #[.int .i64 (k : Int)] 3))) := HB2.out.alloc (by omega) _
            rw [hM] at cm
            clear hM
            go_wp2_with (at_builtin; refine wpList_append_z rfl _ _ rfl (w.heap.size + 1) _ _ (mkL M k) [(k : Int)] rfl (HO.out.alloc _) rfl I1.out B3.out (by simp; omega) (by have := HLen.out; simp; omega) ?_)
            intro v2 w2 hown2 hbel2 hsz2 _ _
            have HO2 : Hid (OwnZ w2 (w.heap.size + 1) v2 (mkL M (k + 1))) := by show OwnZ _ _ _ _; rw [HE.out]; exact hown2
            have HB3 := Hid.mk hbel2
            clear hown2 hbel2 hsz2 HO HE I1 B3 HLen
            go_wp2
            go_roundw
            case rel => exact ⟨k + 1, by omega, by go_num, HO2, HB3⟩
            case measure => simp [intOf]; omega
        · have e : k = N.length := by omega
          subst e
          go_wp2
          go_ret
          exact ⟨_, M, rfl, HO.out.mono (Nat.le_succ _), HF.out, HB.out.trans (HB2.out.mono (Nat.le_succ _))⟩

/-- What Spread answers. -/
def SprL (N : List Nd) (l : List Int) (p z : Int) (L : List Int) : Prop :=
  (okNfa N = false ∧ L = []) ∨ (okNfa N = true ∧ ∃ M, L = mkL M N.length ∧ ∀ j, M j = true ↔ Rch N (p == 0) (p == z) (inS l N.length) j)
theorem SprL.uniq {N : List Nd} {l : List Int} {p z : Int} {L L' : List Int} (h : SprL N l p z L) (h' : SprL N l p z L') : L = L' := by
  rcases h with ⟨h1, rfl⟩ | ⟨h1, M, rfl, hM⟩ <;> rcases h' with ⟨h2, rfl⟩ | ⟨h2, M', rfl, hM'⟩
  · rfl
  · rw [h1] at h2; cases h2
  · rw [h1] at h2; cases h2
  · have : M = M' := by
      funext j
      rw [Bool.eq_iff_iff]
      exact (hM j).trans (hM' j).symm
    rw [this]
theorem SprL.len {N : List Nd} {l : List Int} {p z : Int} {L : List Int} (h : SprL N l p z L) : L.length ≤ 300 := by
  rcases h with ⟨_, rfl⟩ | ⟨h1, M, rfl, _⟩
  · simp
  · exact Nat.le_trans (mkL_len M _) (okNfa_size h1)

set_option maxHeartbeats 1000000 in
theorem implSpread_any (N : List Nd) (B : Nat → Prop) (v u : Value) (l : List Int) (p z : Int) (w : World) (h : Nl w B N v) (hl : Iz w u l) :
    Calls Try.prog 19 #[.agg #[v], u, .int .i64 p, .int .i64 z] w fun e w' => ∃ x L, e = .returned x ∧ OwnZ w' w.heap.size x L ∧ SprL N l p z L ∧ Below w.heap.size w w' := by
  have HK := Hid.mk (fun w' (hb : Below w.heap.size w w') => implNfaOk_any N B v w' (h.grow hb))
  have HS := Hid.mk (fun hok w' (hb : Below w.heap.size w w') => spreadNodes_any N hok B v u l p z w' (h.grow hb) (hl.grow hb))
  obtain ⟨ao, cap, rfl, -⟩ := h
  obtain ⟨lo, lc, rfl, -⟩ := hl
  have B0 : Hid (Below w.heap.size w (w.alloc (.cells #[.slice ao N.length cap] 30))) := (Below.refl _ _).alloc (Nat.le_refl _) _
  go_enter Try.func19, Try.ntmps19
  go_wp2_with fail
  refine (HK.out _ B0.out).mono ?_
  rintro e w1 ⟨rfl, hb1⟩
  have B1 := Hid.mk (B0.out.trans (hb1.mono (by simp)))
  have hc1 := fun o => hb1.cell (p := ⟨w.heap.size, o, none⟩) (by simp)
  clear hb1 HK
  cases hok : okNfa N with
  | false =>
    have O0 : Hid (OwnZ (w1.alloc (.cells #[] 3)) w.heap.size (.slice (some ⟨w1.heap.size, 0, none⟩) 0 0) []) := World.ownsRow_lit w1 #[] 0 B1.out.size (by decide) rfl
    have HL : Hid (SprL N l p z []) := .inl ⟨hok, rfl⟩
    have B2 : Hid (Below w.heap.size w (w1.alloc (.cells #[] 3))) := B1.out.alloc B1.out.size _
    clear hok HS hc1
    go_wp2
    go_ret
    exact ⟨_, [], rfl, O0.out, HL.out, B2.out⟩
  | true =>
    have HS' := Hid.mk (HS.out hok)
    have HO := Hid.mk hok
    clear HS hok
    go_wp2_with fail
    refine (HS'.out _ B1.out).mono ?_
    rintro e w2 ⟨x, M, rfl, hown, hM, hb2⟩
    have HL : Hid (SprL N l p z (mkL M N.length)) := .inr ⟨HO.out, M, rfl, hM⟩
    have O2 := Hid.mk (hown.mono B1.out.size)
    have B2 := Hid.mk (B1.out.trans (hb2.mono B1.out.size))
    clear hown hM hb2 HS' hc1
    go_wp2
    go_ret
    exact ⟨_, _, rfl, O2.out, HL.out, B2.out⟩
end Go.Proofs.Yteomhjoodnjfbaa
