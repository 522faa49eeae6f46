/- One or the other, the program's. -/
import Derived.Test.YthifleacfhijnaaDoorPlArr
import Derived.Test.YthifleacfhijnaaDoorTake
namespace Go.Proofs.YthifleacfhijnaaDoor
open Go.RowKit
set_option maxRecDepth 8000

theorem infoPl : (Tryd.prog.info? 63).map (fun i => (i.zero, i.size, i.bytes)) = some (some (.agg #[.int .u64 0, .int .u64 0, .int .u64 0, .int .u64 0]), 4, 32) := by kernel_rfl

theorem own_full4 {w : World} {e : TypeId} {g m c : Nat} {xs : List Value} (h : w.ownsRow 0 e c (.slice (some ⟨g, 0, none⟩) m m) m xs) : w.heap[g]? = some (.cells xs.toArray e (0, 0)) := by
  rcases h.2 with ⟨h', _⟩ | ⟨g', cap', cur, h', hb, hg, hn, hm, hs, ht⟩
  · simp at h'
  · simp only [Value.slice.injEq, Option.some.injEq, Addr.mk.injEq, and_true, true_and] at h'
    obtain ⟨rfl, rfl⟩ := h'
    rw [hg]
    congr 2
    rw [← ht, List.take_of_length_le (by rw [Array.length_toList, hs]; exact Nat.le_refl _)]

theorem wd_none (j : Nat) : wd (fun _ => false) j = 0 := by
  apply Nat.eq_of_testBit_eq
  intro b
  rw [wd_test]
  simp

theorem made_pl (n : Nat) : (madeCells (Value.agg #[.int .u64 0, .int .u64 0, .int .u64 0, .int .u64 0]).cells ((n + 1) * 4)).toList.toArray = plArr n (fun _ _ => false) := by
  have e : (Value.agg #[.int .u64 0, .int .u64 0, .int .u64 0, .int .u64 0]).cells = #[.int .u64 0, .int .u64 0, .int .u64 0, .int .u64 0] := rfl
  rw [e]
  apply Array.ext
  · simp [madeCells, plArr_size]
  · intro q h1 h2
    have hq : q < (n + 1) * 4 := by rw [plArr_size] at h2; exact h2
    have e1 : (plArr n (fun _ _ => false))[q]? = some (.int .u64 0) := by
      rw [plArr_get n _ q hq, wd_none]; rfl
    have e2 : ((madeCells #[Value.int .u64 0, .int .u64 0, .int .u64 0, .int .u64 0] ((n + 1) * 4)).toList.toArray)[q]? = some (.int .u64 0) := by
      simp only [madeCells]
      rcases (show q % 4 = 0 ∨ q % 4 = 1 ∨ q % 4 = 2 ∨ q % 4 = 3 by omega) with h | h | h | h <;> simp [hq, h]
    rw [Array.getElem?_eq_getElem h1] at e2
    rw [Array.getElem?_eq_getElem h2] at e1
    exact Option.some.inj (e2.trans e1.symm)

/-- The first k words of the row i those of f. -/
def mixUpto (M : Mat) (i : Nat) (f : Nat → Bool) (k : Nat) : Mat := fun x y => if x = i then (if y < 64 * k then f y else M x y) else M x y
/-- The row i is f. -/
def setRow (M : Mat) (i : Nat) (f : Nat → Bool) : Mat := fun x y => if x = i then f y else M x y

theorem mixUpto_wd (M : Mat) (i : Nat) (f : Nat → Bool) (k j : Nat) : wd (mixUpto M i f k i) j = if j < k then wd f j else wd (M i) j := by
  by_cases h : j < k
  · rw [if_pos h]
    apply wd_ext
    intro b hb
    simp [mixUpto, show 64 * j + b < 64 * k by omega]
  · rw [if_neg h]
    apply wd_ext
    intro b hb
    simp [mixUpto, show ¬ 64 * j + b < 64 * k by omega]
theorem mixUpto_other (M : Mat) (i : Nat) (f : Nat → Bool) (k x j : Nat) (h : x ≠ i) : wd (mixUpto M i f k x) j = wd (M x) j := by
  apply wd_ext
  intro b _
  simp [mixUpto, h]
theorem Pq.mixes {w : World} {g n : Nat} {M : Mat} (h : Pq w g n M) {i : Nat} (hi : i ≤ n) (f : Nat → Bool) : ∀ k, k ≤ 4 →
    Pq (putK w g (i * 4) (fun j => .int .u64 (wd f j : Int)) k) g n (mixUpto M i f k) := by
  intro k
  induction k with
  | zero => intro _; exact h.ext (fun x y _ _ => by simp [mixUpto])
  | succ k ih =>
    intro hk
    refine (ih (by omega)).setWord hi (by omega) _ ?_ ?_
    · rw [mixUpto_wd, if_pos (by omega)]
    · intro x j hx hj hne
      by_cases he : x = i
      · subst he
        rw [mixUpto_wd, mixUpto_wd]
        have hjk : j ≠ k := fun e => hne ⟨rfl, e⟩
        by_cases hlt : j < k
        · rw [if_pos hlt, if_pos (by omega)]
        · rw [if_neg hlt, if_neg (by omega)]
      · rw [mixUpto_other _ _ _ _ _ _ he, mixUpto_other _ _ _ _ _ _ he]
theorem Pq.store {w : World} {g n : Nat} {M : Mat} (h : Pq w g n M) {i : Nat} (hi : i ≤ n) (f : Nat → Bool) :
    Pq (putK w g (i * 4) (fun j => .int .u64 (wd f j : Int)) 4) g n (setRow M i f) :=
  (h.mixes hi f 4 (by omega)).ext (fun x y _ hy => by simp [mixUpto, setRow, show y < 256 from hy])

/-- The slice over a block of rows. -/
abbrev plS (g n : Nat) : Value := .slice (some ⟨g, 0, none⟩) (n + 1) (n + 1)

set_option maxHeartbeats 1000000 in
theorem oneOrOther_any (n : Nat) (hn : n ≤ 200) (gf gs : Nat) (A B : Mat) (w : World) (hA : Pq w gf n A) (hB : Pq w gs n B) :
    Calls Tryd.prog 61 #[plS gf n, plS gs n] w fun e w' => ∃ g, e = .returned (plS g n) ∧ w.heap.size ≤ g ∧ Pq w' g n (fun x y => A x y || B x y) ∧ Below w.heap.size w w' := by
  obtain ⟨ip, hip, hp0, hp1, hp2⟩ := info_parts infoPl
  have HA := Hid.mk hA
  have HB := Hid.mk hB
  obtain ⟨m, hm⟩ : ∃ m, n + 1 = m := ⟨_, rfl⟩
  have hmi : (n : Int) + 1 = (m : Int) := by omega
  have HM := Hid.mk hm
  have hm2 : m ≤ 201 := by omega
  clear hA hB
  unfold plS
  rw [hm]
  clear hm
  go_enter Tryd.func61, Tryd.ntmps61
  go_wp2_with (at_make; refine wpList_make_full _ rfl _ _ 64 rfl 0 63 ip _ 4 Tryd.underlying64 hip hp0 hp1 _ _ _ _ m rfl rfl rfl rfl (by rw [hp2]; omega) (by unfold maxLen; omega) (Nat.zero_le _) ?_)
  intro w1 hown hgrow
  have HQ1 : Hid (Pq w1 w.heap.size n (fun _ _ => false)) := by
    have h := own_full4 hown
    rw [← HM.out] at h
    show Pq _ _ _ _
    unfold Pq
    rw [h]
    have := made_pl n
    rw [← this]
    rfl
  have B1 : Hid (Below w.heap.size w w1) := (Below.refl _ _).grown hgrow (Nat.le_refl _) (by simp)
  clear hown hgrow
  go_wp2
  go_loopw [12] (fun q wr => ∃ (i : Nat), i ≤ m ∧ q = .int .i64 i ∧ Hid (Pq wr w.heap.size n (fun x y => (A x y || B x y) && decide (x < i))) ∧ Hid (Below w.heap.size w wr)) (fun q _ => m - (intOf q).toNat)
  case atStart => exact ⟨0, Nat.zero_le _, rfl, HQ1.out.ext (fun x y _ _ => by simp), B1⟩
  case round =>
    obtain ⟨i, hi, rfl, HQ, HBr⟩ := hrel
    clear HQ1 B1
    by_cases him : (i : Int) < (m : Int)
    · have hil : i ≤ n := by have := HM.out; omega
      have qa := HA.out.grow HBr.out
      have qb := HB.out.grow HBr.out
      have a0 := qa.cell hil (show 0 < 4 by omega)
      have a1 := qa.cell hil (show 1 < 4 by omega)
      have a2 := qa.cell hil (show 2 < 4 by omega)
      have a3 := qa.cell hil (show 3 < 4 by omega)
      have d0 := HQ.out.cell hil (show 0 < 4 by omega)
      have d1 := HQ.out.cell hil (show 1 < 4 by omega)
      have d2 := HQ.out.cell hil (show 2 < 4 by omega)
      have d3 := HQ.out.cell hil (show 3 < 4 by omega)
      rw [Nat.add_zero] at a0 d0
      have hf := HQ.out.frozen
      have HS := Hid.mk (HQ.out.store hil (A i))
      have BS : Hid (Below w.heap.size w (putK wr w.heap.size (i * 4) (fun j => .int .u64 (wd (A i) j : Int)) 4)) := HBr.out.trans (putK_below _ _ _ (Nat.le_refl _))
      have hPK : putK wr w.heap.size (i * 4) (fun j => .int .u64 (wd (A i) j : Int)) 4 = (((wr.setCell ⟨w.heap.size, i * 4, none⟩ (.int .u64 (wd (A i) 0 : Int))).setCell ⟨w.heap.size, i * 4 + 1, none⟩ (.int .u64 (wd (A i) 1 : Int))).setCell ⟨w.heap.size, i * 4 + 2, none⟩ (.int .u64 (wd (A i) 2 : Int))).setCell ⟨w.heap.size, i * 4 + 3, none⟩ (.int .u64 (wd (A i) 3 : Int)) := rfl
      have HPK := Hid.mk hPK
      clear qa qb hPK
      go_wp2
      rw [← HPK.out]
      generalize putK wr w.heap.size (i * 4) (fun j => .int .u64 (wd (A i) j : Int)) 4 = V1 at HS BS ⊢
      clear a0 a1 a2 a3 d0 d1 d2 d3 hf HPK HQ HBr
      have qb := HB.out.grow BS.out
      have b0 := qb.cell hil (show 0 < 4 by omega)
      have b1 := qb.cell hil (show 1 < 4 by omega)
      have b2 := qb.cell hil (show 2 < 4 by omega)
      have b3 := qb.cell hil (show 3 < 4 by omega)
      rw [Nat.add_zero] at b0
      clear qb
      have HAA := Hid.mk (addAll_any w.heap.size (i * 4) (fun j => wd (A i) j) (fun j => wd (B i) j) (fun j _ => wd_lt _ _) (fun j _ => wd_lt _ _) V1.drew (fun j hj => by
        have := HS.out.cell (i := i) hil hj
        rw [wd_ext (g := A i) (fun b _ => by simp [setRow])] at this
        exact this) (fun j _ => HS.out.frozen _))
      refine wp_region_held_drew (S := fun _ => True) (by kernel_rfl) trivial (fun _ => ?_)
      refine takeHD (i := 0) (v := .slice (some ⟨w.heap.size, 0, none⟩) m m) (some 22) rfl rfl (by kernel_rfl) (by kernel_rfl) (by kernel_rfl) (fun _ _ _ h => h) (Or.inl ⟨by kernel_rfl, fun w' hw => ?_⟩) trivial ?_
      · kernel_rfl
      simp only [Act.put, List.setIfInBounds_toArray]
      refine takeHD (i := 1) (v := .int .i64 i) (some 23) rfl rfl (by kernel_rfl) (by kernel_rfl) (by kernel_rfl) (fun _ _ _ h => h) (Or.inl ⟨by kernel_rfl, fun w' hw => ?_⟩) trivial ?_
      · kernel_rfl
      simp only [Act.put, List.setIfInBounds_toArray]
      refine takeHD (i := 2) (v := .pointer (some ⟨w.heap.size, i * 4, none⟩)) (some 24) rfl rfl (by kernel_rfl) (by kernel_rfl) (by kernel_rfl) (fun _ _ _ h => h) (Or.inl ⟨by kernel_rfl, fun w' hw => ?_⟩) trivial ?_
      · first | (go_simp; done) | (go_simp; intro h; omega) | (go_simp; rw [IntKind.wrap_i64]; omega)
      simp only [Act.put, List.setIfInBounds_toArray]
      refine takeHD (i := 3) (v := .slice (some ⟨gs, 0, none⟩) m m) (some 25) rfl rfl (by kernel_rfl) (by kernel_rfl) (by kernel_rfl) (fun _ _ _ h => h) (Or.inl ⟨by kernel_rfl, fun w' hw => ?_⟩) trivial ?_
      · kernel_rfl
      simp only [Act.put, List.setIfInBounds_toArray]
      refine takeHD (i := 4) (v := .int .i64 i) (some 26) rfl rfl (by kernel_rfl) (by kernel_rfl) (by kernel_rfl) (fun _ _ _ h => h) (Or.inl ⟨by kernel_rfl, fun w' hw => ?_⟩) trivial ?_
      · kernel_rfl
      simp only [Act.put, List.setIfInBounds_toArray]
      refine takeHD (i := 5) (v := .pointer (some ⟨gs, i * 4, none⟩)) (some 27) rfl rfl (by kernel_rfl) (by kernel_rfl) (by kernel_rfl) (fun _ _ _ h => h) (Or.inl ⟨by kernel_rfl, fun w' hw => ?_⟩) trivial ?_
      · first | (go_simp; done) | (go_simp; intro h; omega) | (go_simp; rw [IntKind.wrap_i64]; omega)
      simp only [Act.put, List.setIfInBounds_toArray]
      refine wpAnyH_ready (rs := [6]) (by kernel_rfl) (by simp) ?_
      refine AllReadyH.cons rfl (fun K hK => ?_) AllReadyH.nil
      rw [if_pos (by kernel_rfl)]
      go_wp2_with fail
      refine hK.out _ _ trivial (fun _ => ?_)
      clear hK K b0 b1 b2 b3
      refine wpAnyH_ready (rs := [7]) (by kernel_rfl) (by simp) ?_
      refine AllReadyH.cons rfl (fun K hK => ?_) AllReadyH.nil
      rw [if_pos (by kernel_rfl)]
      go_wp2_with fail
      refine HAA.out.mono ?_
      rintro e w3 ⟨⟨u3, rfl⟩, q3, hw3⟩
      have hP := (HS.out.grow (Below.drewSelf _ _ 1))
      have A3 : Below V1.drew.heap.size V1.drew (V1.drew.alloc (.cells #[.int .u64 (wd (B i) 0 : Int), .int .u64 (wd (B i) 1 : Int), .int .u64 (wd (B i) 2 : Int), .int .u64 (wd (B i) 3 : Int)] 63)) := (Below.refl _ _).alloc (Nat.le_refl _) _
      have hP2 := (hP.grow A3).addAll hil (B i)
      have HQn : Hid (Pq w3 w.heap.size n (fun x y => (A x y || B x y) && decide (x < i + 1))) := by
        rw [hw3]
        refine Pq.ext (M := mOr (setRow (fun x y => (A x y || B x y) && decide (x < i)) i (A i)) i (B i)) ?_ ?_
        · have e : ∀ j, wd (setRow (fun x y => (A x y || B x y) && decide (x < i)) i (A i) i) j = wd (A i) j := fun j => wd_ext (fun b _ => by simp [setRow])
          simp only [e] at hP2
          exact hP2
        · intro x y _ _
          by_cases he : x = i
          · subst he; simp [mOr, setRow]
          · simp only [mOr, setRow, if_neg he]
            rw [show decide (x < i + 1) = decide (x < i) from decide_eq_decide.2 (by omega)]
      have HBn : Hid (Below w.heap.size w w3) := by
        rw [hw3]
        exact ((BS.out.trans ((Below.drewSelf _ _ 1).mono BS.out.size)).trans (A3.mono BS.out.size)).trans ((putK_below _ _ _ (Nat.le_refl _)).trans (Below.drewSelf _ _ _))
      refine hK.out _ _ trivial (fun _ => ?_)
      clear hK K hP A3 hP2 hw3 HAA HS BS
      refine wpAnyH_done (by kernel_rfl) ?_ _
      go_wp2
      go_roundw
      case rel => exact ⟨i + 1, by omega, by go_num, HQn, HBn⟩
      case measure => simp [intOf]; omega
    · have hie : i = m := by omega
      subst hie
      have HQn : Hid (Pq wr w.heap.size n (fun x y => A x y || B x y)) := HQ.out.ext (fun x y hx _ => by rw [decide_eq_true (by have := HM.out; omega), Bool.and_true])
      clear HQ
      go_wp2
      go_ret
      exact ⟨_, rfl, Nat.le_refl _, HQn.out, HBr.out⟩
end Go.Proofs.YthifleacfhijnaaDoor
