/- One behind the other, the program's: an ordinary loop over ranges over the iterator. As often as may be, the program's. The ends of every place at once: the program's. The ends of every place at once: the program's; lists of parts. -/
import Derived.Test.YtapniafhcagogaaGreatDoorPk5
import Derived.Test.YtapniafhcagogaaGreatDoorPlOr
import Derived.Test.YtapniafhcagogaaGreatDoorMatFold
import Derived.Test.YtapniafhcagogaaGreatDoorPlSingle
namespace Go.Proofs.YtapniafhcagogaaGreatDoor
open Go.RowKit Go.Shelf
set_option maxRecDepth 8000

attribute [local go_sem] Oper.semAt_some

/-- Row i as it grows. -/
def behU (n : Nat) (A B : Mat) (i : Nat) (pre : List Nat) : Mat := fun r y => if r = i then pre.any (fun m => B m y) else (mThen n A B r y && decide (r < i))

theorem own_cells {X Y : World} {row : Option Nat} {b : Nat} {o : Obj} (h : X.heap[b]? = some o) (ho : o.isCells = true) (hg : X.grownBy Y row) {B : Nat} (hr : ∀ r, row = some r → B ≤ r ∧ ∃ o : Obj, X.heap[r]? = some o ∧ o.isCells = false) : Y.heap[b]? = some o :=
  (hg.block b (Array.getElem?_eq_some_iff.1 h).1 (fun e => by
    obtain ⟨_, o', h1, h2⟩ := hr b e.symm
    rw [h] at h1
    cases h1
    rw [ho] at h2
    cases h2)).trans h

theorem Pq.owned {X Y : World} {row : Option Nat} {g n : Nat} {M : Mat} (h : Pq X g n M) (hg : X.grownBy Y row) {B : Nat} (hr : ∀ r, row = some r → B ≤ r ∧ ∃ o : Obj, X.heap[r]? = some o ∧ o.isCells = false) : Pq Y g n M := own_cells h rfl hg hr
theorem boxed_owned {X Y : World} {row : Option Nat} {g : Nat} {t : TypeId} {v : Value} (h : Boxed X g t v) (hg : X.grownBy Y row) {B : Nat} (hr : ∀ r, row = some r → B ≤ r ∧ ∃ o : Obj, X.heap[r]? = some o ∧ o.isCells = false) : Boxed Y g t v := own_cells h rfl hg hr

set_option maxRecDepth 100000 in
set_option maxHeartbeats 2000000 in
theorem oneBehind_any (n : Nat) (hn : n ≤ 200) (gf gs : Nat) (A B : Mat) (hUA : UpM n A) (hUB : UpM n B) (w : World) (hT : TabB w) (hA : Pq w gf n A) (hB : Pq w gs n B) :
    Calls Tryz.prog 62 #[plS gf n, plS gs n] w fun e w' => ∃ g, e = .returned (plS g n) ∧ w.heap.size ≤ g ∧ Pq w' g n (mThen n A B) ∧ Below w.heap.size w w' := by
  obtain ⟨ip, hip, hp0, hp1, hp2⟩ := info_parts infoPl
  have HA := Hid.mk hA
  have HB := Hid.mk hB
  obtain ⟨m, hm⟩ : ∃ m, n + 1 = m := ⟨_, rfl⟩
  have hmi : (n : Int) + 1 = (m : Int) := by omega
  have HM := Hid.mk hm
  have hm2 : m ≤ 201 := by omega
  clear hA hB
  unfold plS
  rw [hm]
  clear hm
  refine (callsIn_wide (n := 4)).1 ?_
  refine callsIn_of_wp_marks Tryz.func62 rfl trivial ?_ rfl
  simp only [Tryz.ntmps62, List.size_toArray, List.length_cons, List.length_nil, Nat.reduceAdd, Nat.reduceSub, Array.replicate_succ, Array.replicate_zero, List.push_toArray, List.append_toArray, List.nil_append, List.cons_append]
  have A0 : Below w.heap.size w (w.alloc (.cells #[.slice (some ⟨gs, 0, none⟩) m m] 86)) := (Below.refl _ _).alloc (Nat.le_refl _) _
  gi_wp2_with (gi_at_make; refine wpListIn_make_full _ rfl _ _ 86 rfl 0 90 ip _ 4 Tryz.underlying86 hip hp0 hp1 _ _ _ _ m rfl rfl rfl rfl (by rw [hp2]; omega) (by unfold maxLen; omega) (Nat.zero_le _) ?_)
  intro w1 hown hgrow
  have HQ1 : Hid (Pq w1 (w.heap.size + 1) n (fun _ _ => false)) := by
    have h := own_full4 hown
    rw [← HM.out] at h
    show Pq _ _ _ _
    unfold Pq
    rw [h]
    have := made_pl n
    rw [← this]
    rfl
  have B1 : Hid (Below w.heap.size w w1) := A0.grown hgrow A0.size (by simp)
  have X1 : Hid (Boxed w1 w.heap.size 86 (.slice (some ⟨gs, 0, none⟩) m m)) := (Boxed.new w _ _).kept hgrow (by simp)
  clear hown hgrow A0
  gi_wp2
  have Q2 : Hid (Pq (w1.alloc (.cells #[.slice (some ⟨w.heap.size + 1, 0, none⟩) m m] 86)) (w.heap.size + 1) n (fun x y => mThen n A B x y && decide (x < 0))) := (HQ1.out.grow ((Below.refl _ _).alloc (Nat.le_refl _) _)).ext (fun x y _ _ => by simp)
  have B2 : Hid (Below w.heap.size w (w1.alloc (.cells #[.slice (some ⟨w.heap.size + 1, 0, none⟩) m m] 86))) := B1.out.alloc B1.out.size _
  have X2 : Hid (Boxed (w1.alloc (.cells #[.slice (some ⟨w.heap.size + 1, 0, none⟩) m m] 86)) w.heap.size 86 (.slice (some ⟨gs, 0, none⟩) m m)) := X1.out.alloc _
  have Y2 : Hid (Boxed (w1.alloc (.cells #[.slice (some ⟨w.heap.size + 1, 0, none⟩) m m] 86)) w1.heap.size 86 (.slice (some ⟨w.heap.size + 1, 0, none⟩) m m)) := Boxed.new _ _ _
  have hb2 : w.heap.size + 1 < w1.heap.size := HQ1.out.lt
  generalize w1.alloc (.cells #[.slice (some ⟨w.heap.size + 1, 0, none⟩) m m] 86) = V0 at Q2 B2 X2 Y2 ⊢
  generalize w1.heap.size = b2 at Y2 hb2 ⊢
  clear HQ1 B1 X1
  refine wpIn_loop (fun a' W => ∃ (i : Nat) (u6 u7 u14 u15 u16 u17 u18 u19 u20 u21 u22 u23 u24 u25 u26 u27 u28 u29 u30 : Value) (ds : List Deferred), (i ≤ m ∧ Pq W (w.heap.size + 1) n (fun x y => mThen n A B x y && decide (x < i)) ∧ Below w.heap.size w W ∧ Boxed W w.heap.size 86 (.slice (some ⟨gs, 0, none⟩) m m) ∧ Boxed W b2 86 (.slice (some ⟨w.heap.size + 1, 0, none⟩) m m) ∧ Marks w.heap.size W ds) ∧
      a' = { tmps := #[.slice (some ⟨gf, 0, none⟩) m m, .slice (some ⟨gs, 0, none⟩) m m, undef, .pointer (some ⟨w.heap.size, 0, none⟩), .slice none 0 0, .pointer (some ⟨b2, 0, none⟩), u6, u7, .slice (some ⟨gf, 0, none⟩) m m, .int .i64 (m : Int), .slice (some ⟨w.heap.size + 1, 0, none⟩) m m, .slice (some ⟨w.heap.size + 1, 0, none⟩) m m, .int .i64 (m : Int), .int .i64 (i : Int), u14, u15, u16, u17, u18, u19, u20, u21, u22, u23, u24, u25, u26, u27, u28, u29, u30, undef], defers := ds }) (fun a' _ => m - (intOf (a'.tmps.getD 13 undef)).toNat) ?_ ?_
  · exact ⟨0, undef, undef, undef, undef, undef, undef, undef, undef, undef, undef, undef, undef, undef, undef, undef, undef, undef, undef, undef, [], ⟨Nat.zero_le _, Q2.out, B2.out, X2.out, Y2.out, .nil⟩, rfl⟩
  intro a' wr hinv
  obtain ⟨i, u6, u7, u14, u15, u16, u17, u18, u19, u20, u21, u22, u23, u24, u25, u26, u27, u28, u29, u30, ds, ⟨hi, hq, hB, hX, hY, hD⟩, rfl⟩ := hinv
  clear Q2 B2 X2 Y2
  have HQ := Hid.mk hq
  have HBr := Hid.mk hB
  have HX := Hid.mk hX
  have HY := Hid.mk hY
  have HD := Hid.mk hD
  clear hq hB hX hY hD
  by_cases him : (i : Int) < (m : Int)
  · have hil : i ≤ n := by have := HM.out; omega
    have A1 : Below wr.heap.size wr (wr.alloc (.cells #[.int .i64 (i : Int)] 3)) := (Below.refl _ _).alloc (Nat.le_refl _) _
    have qa := (HA.out.grow HBr.out).grow A1
    have a0 := qa.cell hil (show 0 < 4 by omega)
    have a1 := qa.cell hil (show 1 < 4 by omega)
    have a2 := qa.cell hil (show 2 < 4 by omega)
    have a3 := qa.cell hil (show 3 < 4 by omega)
    rw [Nat.add_zero] at a0
    clear qa A1
    dsimp only
    gi_wp2_with (refine ⟨trivial, ?_⟩; gi_at_call 89; refine (callsIn_wide.2 (all_any (A i) _)).mono ?_; rintro e w' ⟨rfl, rfl⟩)
    clear a0 a1 a2 a3
    have V1 : Below wr.heap.size wr (boxW (wr.alloc (.cells #[.int .i64 (i : Int)] 3)) (A i)) := ((Below.refl _ wr).alloc (Nat.le_refl _) _).alloc (by simp) _
    have Q1 := HQ.out.grow V1
    have X1 : Boxed (boxW (wr.alloc (.cells #[.int .i64 (i : Int)] 3)) (A i)) _ _ _ := (HX.out.alloc (.cells #[.int .i64 (i : Int)] 3)).alloc (.cells #[.int .u64 (wd (A i) 0 : Int), .int .u64 (wd (A i) 1 : Int), .int .u64 (wd (A i) 2 : Int), .int .u64 (wd (A i) 3 : Int)] 90)
    have Y1 : Boxed (boxW (wr.alloc (.cells #[.int .i64 (i : Int)] 3)) (A i)) _ _ _ := (HY.out.alloc (.cells #[.int .i64 (i : Int)] 3)).alloc (.cells #[.int .u64 (wd (A i) 0 : Int), .int .u64 (wd (A i) 1 : Int), .int .u64 (wd (A i) 2 : Int), .int .u64 (wd (A i) 3 : Int)] 90)
    have Z1 : Boxed (boxW (wr.alloc (.cells #[.int .i64 (i : Int)] 3)) (A i)) _ _ _ := (Boxed.new wr 3 (.int .i64 (i : Int))).alloc (.cells #[.int .u64 (wd (A i) 0 : Int), .int .u64 (wd (A i) 1 : Int), .int .u64 (wd (A i) 2 : Int), .int .u64 (wd (A i) 3 : Int)] 90)
    have C1 := boxW_cell (wr.alloc (.cells #[.int .i64 (i : Int)] 3)) (A i)
    rw [World.size_alloc] at C1
    have D1 : Marks w.heap.size (boxW (wr.alloc (.cells #[.int .i64 (i : Int)] 3)) (A i)) ds := HD.out.keeps (((KeepsOthers.alloc wr (.cells #[.int .i64 (i : Int)] 3)).trans (KeepsOthers.alloc _ (.cells #[.int .u64 (wd (A i) 0 : Int), .int .u64 (wd (A i) 1 : Int), .int .u64 (wd (A i) 2 : Int), .int .u64 (wd (A i) 3 : Int)] 90))).from w.heap.size)
    have B1 := HBr.out.trans (V1.mono HBr.out.size)
    have S1 : (boxW (wr.alloc (.cells #[.int .i64 (i : Int)] 3)) (A i)).heap.size = wr.heap.size + 2 := by simp
    have hb62 : b2 < wr.heap.size := HY.out.lt
    have hw6 : w.heap.size ≤ wr.heap.size := HBr.out.size
    generalize boxW (wr.alloc (.cells #[.int .i64 (i : Int)] 3)) (A i) = Wl at Q1 X1 Y1 Z1 C1 D1 B1 S1 ⊢
    generalize wr.heap.size = b6 at Z1 C1 S1 hb62 hw6 ⊢
    clear HQ HBr HX HY HD V1
    have hgsl : gs < w.heap.size := HB.out.lt
    refine wpIn_rangeFunc_ownF rfl (by omega) (gf := 103) (lb := #[.pointer (some ⟨b6 + 1, 0, none⟩)]) rfl trivial (enters_of Tryz.func103 (by kernel_rfl) rfl)
      (all_stopsF 3 (by omega) (b6 + 1) w.heap.size (A i) Wl (by omega) (by omega) C1 (fun w' hb => hT.grow (B1.trans hb))) belowK_t (belowK_b (by omega)) (Below.refl _ _) (fun _ => rfl)
      (fun pre W => (Pq W (w.heap.size + 1) n (behU n A B i (pre.map (·.1))) ∧ Boxed W w.heap.size 86 (.slice (some ⟨gs, 0, none⟩) m m) ∧ Boxed W b2 86 (.slice (some ⟨w.heap.size + 1, 0, none⟩) m m) ∧ Boxed W b6 3 (.int .i64 (i : Int))) ∧ Below w.heap.size w W ∧ KeepsFrom w.heap.size Wl W)
      (fun _ _ _ => False)
      (OwnFrom.and (fun s X Y row hs hg hr => ⟨hs.1.owned hg hr, boxed_owned hs.2.1 hg hr, boxed_owned hs.2.2.1 hg hr, boxed_owned hs.2.2.2 hg hr⟩) (OwnFrom.and (ownFrom_below (Nat.le_refl _) (by omega)) (ownFrom_keepsFrom (Nat.le_refl _))))
      (fun _ _ _ _ _ hs _ _ => hs)
      ⟨⟨Q1.ext (fun r y _ _ => by unfold behU; by_cases h : r = i <;> simp [h]), X1, Y1, Z1⟩, B1, KeepsFrom.refl _ _⟩
      (fun x => { tmps := #[.slice (some ⟨gf, 0, none⟩) m m, .slice (some ⟨gs, 0, none⟩) m m, undef, .pointer (some ⟨w.heap.size, 0, none⟩), .slice none 0 0, .pointer (some ⟨b2, 0, none⟩), .pointer (some ⟨b6, 0, none⟩), .int .i64 (x.1 : Int), .slice (some ⟨gf, 0, none⟩) m m, .int .i64 (m : Int), .slice (some ⟨w.heap.size + 1, 0, none⟩) m m, .slice (some ⟨w.heap.size + 1, 0, none⟩) m m, .int .i64 (m : Int), .int .i64 (i : Int), .bool true, .int .i64 (i : Int), .slice (some ⟨gf, 0, none⟩) m m, .int .i64 (i : Int), .pointer (some ⟨gf, i * 4, none⟩), aggW (A i), .func (.func 103) #[] #[.pointer (some ⟨b6 + 1, 0, none⟩)], .int .i64 (x.1 : Int), u22, u23, u24, u25, u26, u27, u28, u29, u30, undef], defers := [] }) ?assign ?body ?done ?stop
    case assign =>
      intro l x W K hK
      gi_wp2
      exact hK
    case body =>
      rintro l pre x W ⟨⟨hQ, hX, hY, hZ⟩, hB, hKF⟩ _
      have hx : x.1 ≤ n := (hUA i x.1 hil x.2).2
      have hxm : (x.1 : Int) < (m : Int) := by have := HM.out; omega
      have hlX := hX.lt
      have hlY := hY.lt
      have hlZ := hZ.lt
      have hlQ := hQ.lt
      have hnX : w.heap.size ≠ w.heap.size + 1 := by omega
      have hnY : b2 ≠ w.heap.size + 1 := by omega
      have hnZ : b6 ≠ w.heap.size + 1 := by omega
      have hqb := HB.out.grow hB
      have b0 := hqb.cell hx (show 0 < 4 by omega)
      have b1 := hqb.cell hx (show 1 < 4 by omega)
      have b2' := hqb.cell hx (show 2 < 4 by omega)
      have b3 := hqb.cell hx (show 3 < 4 by omega)
      rw [Nat.add_zero] at b0
      have HST : Hid (∀ r y, mOr (behU n A B i (pre.map (·.1))) i (B x.1) r y = behU n A B i ((pre ++ [x]).map (·.1)) r y) := fun r y => by
        unfold behU mOr
        by_cases h : r = i <;> simp [h]
      generalize behU n A B i (pre.map (·.1)) = Mp at hQ HST
      have hQd : Pq W.drew (w.heap.size + 1) n Mp := hQ
      have HAA := Hid.mk (addAll_any (w.heap.size + 1) (i * 4) (wd (Mp i)) (wd (B x.1)) (fun j _ => wd_lt _ _) (fun j _ => wd_lt _ _) W.drew (fun j hj => hQd.cell hil hj) (fun j _ => hQd.frozen _))
      have SS : ∀ b, b < W.heap.size → b ≠ w.heap.size + 1 → W.drew.heap[b]? = W.heap[b]? := fun _ _ _ => rfl
      refine wpIn_block ?_
      refine wpIn_region_held_round (S := fun w' => ∀ b, b < W.heap.size → b ≠ w.heap.size + 1 → w'.heap[b]? = W.heap[b]?) (by kernel_rfl) (by kernel_rfl) (by rintro ⟨_, _, h⟩; exact h) SS (fun _ => ?_)
      refine takeHD (i := 0) (v := .slice (some ⟨w.heap.size + 1, 0, none⟩) m m) (some 22) rfl rfl (by kernel_rfl) (by kernel_rfl) (by kernel_rfl) (fun _ _ _ h => h) (Or.inl ⟨by kernel_rfl, fun w' hw => ?_⟩) SS ?_
      · have e := World.cell?_of_block (a := ⟨b2, 0, none⟩) (hw _ hlY hnY); rw [hY.cell] at e; go_simp
      simp only [Act.put, List.setIfInBounds_toArray]
      refine takeHD (i := 1) (v := .int .i64 (i : Int)) (some 23) rfl rfl (by kernel_rfl) (by kernel_rfl) (by kernel_rfl) (fun _ _ _ h => h) (Or.inl ⟨by kernel_rfl, fun w' hw => ?_⟩) SS ?_
      · have e := World.cell?_of_block (a := ⟨b6, 0, none⟩) (hw _ hlZ hnZ); rw [hZ.cell] at e; go_simp
      simp only [Act.put, List.setIfInBounds_toArray]
      refine takeHD (i := 2) (v := .pointer (some ⟨w.heap.size + 1, i * 4, none⟩)) (some 24) rfl rfl (by kernel_rfl) (by kernel_rfl) (by kernel_rfl) (fun _ _ _ h => h) (Or.inl ⟨by kernel_rfl, fun w' hw => ?_⟩) SS ?_
      · first | (go_simp; done) | (go_simp; intro h; omega) | (go_simp; rw [IntKind.wrap_i64]; omega)
      simp only [Act.put, List.setIfInBounds_toArray]
      refine takeHD (i := 3) (v := .slice (some ⟨gs, 0, none⟩) m m) (some 25) rfl rfl (by kernel_rfl) (by kernel_rfl) (by kernel_rfl) (fun _ _ _ h => h) (Or.inl ⟨by kernel_rfl, fun w' hw => ?_⟩) SS ?_
      · have e := World.cell?_of_block (a := ⟨w.heap.size, 0, none⟩) (hw _ hlX hnX); rw [hX.cell] at e; go_simp
      simp only [Act.put, List.setIfInBounds_toArray]
      refine takeHD (i := 4) (v := .int .i64 (x.1 : Int)) (some 26) rfl rfl (by kernel_rfl) (by kernel_rfl) (by kernel_rfl) (fun _ _ _ h => h) (Or.inl ⟨by kernel_rfl, fun w' hw => ?_⟩) SS ?_
      · kernel_rfl
      simp only [Act.put, List.setIfInBounds_toArray]
      refine takeHD (i := 5) (v := .pointer (some ⟨gs, x.1 * 4, none⟩)) (some 27) rfl rfl (by kernel_rfl) (by kernel_rfl) (by kernel_rfl) (fun _ _ _ h => h) (Or.inl ⟨by kernel_rfl, fun w' hw => ?_⟩) SS ?_
      · first | (go_simp; done) | (go_simp; intro h; omega) | (go_simp; rw [IntKind.wrap_i64]; omega)
      simp only [Act.put, List.setIfInBounds_toArray]
      refine wpAnyH_ready (rs := [6]) (by kernel_rfl) (by simp) ?_
      refine AllReadyH.cons rfl (fun K hK => ?_) AllReadyH.nil
      rw [if_pos (by kernel_rfl)]
      go_wp2_with fail
      refine hK.out _ _ SS (fun _ => ?_)
      clear hK K b0 b1 b2' b3
      refine wpAnyH_ready (rs := [7]) (by kernel_rfl) (by simp) ?_
      refine AllReadyH.cons rfl (fun K hK => ?_) AllReadyH.nil
      rw [if_pos (by kernel_rfl)]
      go_wp2_with fail
      refine HAA.out.mono ?_
      rintro e w3 ⟨⟨u3, rfl⟩, q3, hw3⟩
      have A3 : Below W.drew.heap.size W.drew (W.drew.alloc (.cells #[.int .u64 (wd (B x.1) 0 : Int), .int .u64 (wd (B x.1) 1 : Int), .int .u64 (wd (B x.1) 2 : Int), .int .u64 (wd (B x.1) 3 : Int)] 90)) := (Below.refl _ _).alloc (Nat.le_refl _) _
      have hP2 := (hQd.grow A3).addAll hil (B x.1)
      have PN : Pq w3 (w.heap.size + 1) n (behU n A B i ((pre ++ [x]).map (·.1))) := by
        rw [hw3]
        exact (hP2.kept rfl).ext (fun r y _ _ => HST.out r y)
      have KB : ∀ b, b < W.heap.size → b ≠ w.heap.size + 1 → w3.heap[b]? = W.heap[b]? := fun b hb hne => by
        rw [hw3]
        exact (putK_block _ _ _ _ _ _ hne).trans (Below.heap_alloc W.drew _ b hb)
      have BW : Below w.heap.size W w3 := by
        rw [hw3]
        exact ((Below.drewSelf w.heap.size W 1).trans (A3.mono hB.size)).trans ((putK_below _ _ _ (by omega)).trans (Below.drewSelf _ _ _))
      have KO : KeepsOthers W w3 := ⟨BW.size, fun k o hk ho => (KB k (Array.getElem?_eq_some_iff.1 hk).1 (fun e => by
        subst e
        rw [show W.heap[w.heap.size + 1]? = _ from hQ] at hk
        cases hk
        cases ho)).trans hk⟩
      refine hK.out _ _ KB (fun _ => ?_)
      clear hK K A3 hP2 hw3 HAA
      refine wpAnyH_done (by kernel_rfl) ?_ _
      exact ⟨KO, BW, ⟨PN, (KB _ hlX hnX).trans hX, (KB _ hlY hnY).trans hY, (KB _ hlZ hnZ).trans hZ⟩, hB.trans BW, hKF.trans (KO.from _)⟩
    case done =>
      rintro D ys W hD hys ⟨⟨hQ, hX, hY, hZ⟩, hB, hKF⟩ hK
      have QN : Pq W (w.heap.size + 1) n (fun x y => mThen n A B x y && decide (x < i + 1)) := hQ.ext (fun r y hr _ => by
        rw [hys]
        unfold behU
        by_cases h : r = i
        · subst h
          rw [if_pos rfl, behind_done hUA hUB (by omega) r y hr]
          simp
        · rw [if_neg h, show decide (r < i + 1) = decide (r < i) from decide_eq_decide.2 (by omega)])
      have DN : Marks w.heap.size W ({ target := .collected D, args := #[] } :: ds) := .cons (by omega) hK (fun d hd e => by
        have := D1.lt d hd D e
        omega) (D1.keeps hKF)
      gi_wp2
      refine ⟨⟨i + 1, _, _, _, _, _, _, _, _, _, _, _, _, _, _, _, _, _, _, _, _, ⟨by omega, QN, hB, hX, hY, DN⟩, rfl⟩, ?_⟩
      simp [intOf]
      omega
    case stop =>
      rintro D c pre W _ _ h _
      exact h.elim
  · have hie : i = m := by omega
    subst hie
    have y0 := HY.out.cell
    have HQn : Hid (Pq wr (w.heap.size + 1) n (mThen n A B)) := HQ.out.ext (fun x y hx _ => by rw [decide_eq_true (by have := HM.out; omega), Bool.and_true])
    gi_wp2
    refine leaves_marks _ _ HD.out (fun W' hb hc => ?_)
    exact ⟨_, results_tmp rfl _ _ _, _, rfl, by omega, hc _ _ HQn.out rfl, HBr.out.trans hb⟩
end Go.Proofs.YtapniafhcagogaaGreatDoor

namespace Go.Proofs.YtapniafhcagogaaGreatDoor
open Go.RowKit Go.Shelf
set_option maxRecDepth 8000

attribute [local go_sem] Oper.semAt_some

/-- Row i as it grows; those behind it are done. -/
def offU (n : Nat) (A : Mat) (i : Nat) (pre : List Nat) : Mat := fun r y => if r = i then oftU n A i pre y else (mMany n A r y && decide (i < r))

theorem offU_step {n : Nat} {A : Mat} {i x : Nat} {pre : List Nat} (hx : i ≤ x) (r y : Nat) : mOr (offU n A i pre) i (offU n A i pre x) r y = offU n A i (pre ++ [x]) r y := by
  unfold mOr
  by_cases h : r = i
  · subst h
    rw [if_pos rfl]
    by_cases h2 : x = r
    · subst h2
      simp only [offU, if_true]
      rw [oftU_own]
    · have h3 : r < x := by omega
      simp only [offU, if_true, if_neg h2, decide_eq_true h3, Bool.and_true]
      rw [oftU_step n A r pre x y h3]
  · simp only [if_neg h, offU]

theorem offU_start (n : Nat) (A : Mat) (p r y : Nat) : updM (fun x y => mMany n A x y && decide (p + 1 ≤ x)) p p true r y = offU n A p [] r y := by
  rw [updM_at]
  unfold offU
  rw [oftU_nil]
  by_cases h : r = p
  · subst h
    rw [if_pos rfl]
    by_cases hy : y = r
    · rw [if_pos ⟨rfl, hy⟩]; simp [hy]
    · rw [if_neg (fun e => hy e.2), decide_eq_false (by omega), Bool.and_false]; simp [hy]
  · rw [if_neg (fun e => h e.1), if_neg h]
    rfl

/-- How far the loop has to go. -/
def atM (a : Act) (W : World) : Nat := match a.tmps.getD 4 undef with
  | .pointer (some p) => (intOf ((W.cell? p).getD undef) + 1).toNat
  | _ => 0

set_option maxRecDepth 100000 in
set_option maxHeartbeats 2000000 in
theorem asOften_any (n : Nat) (hn : n ≤ 200) (gf : Nat) (A : Mat) (hUA : UpM n A) (w : World) (hT : TabB w) (hA : Pq w gf n A) :
    Calls Tryz.prog 64 #[plS gf n] w fun e w' => ∃ g, e = .returned (plS g n) ∧ w.heap.size ≤ g ∧ Pq w' g n (mMany n A) ∧ Below w.heap.size w w' := by
  obtain ⟨ip, hip, hp0, hp1, hp2⟩ := info_parts infoPl
  have HA := Hid.mk hA
  obtain ⟨m, hm⟩ : ∃ m, n + 1 = m := ⟨_, rfl⟩
  have hmi : (n : Int) + 1 = (m : Int) := by omega
  have HM := Hid.mk hm
  have hm2 : m ≤ 201 := by omega
  clear hA
  unfold plS
  rw [hm]
  clear hm
  refine (callsIn_wide (n := 4)).1 ?_
  refine callsIn_of_wp_marks Tryz.func64 rfl trivial ?_ rfl
  simp only [Tryz.ntmps64, List.size_toArray, List.length_cons, List.length_nil, Nat.reduceAdd, Nat.reduceSub, Array.replicate_succ, Array.replicate_zero, List.push_toArray, List.append_toArray, List.nil_append, List.cons_append]
  gi_wp2_with (gi_at_make; refine wpListIn_make_full _ rfl _ _ 86 rfl 0 90 ip _ 4 Tryz.underlying86 hip hp0 hp1 _ _ _ _ m rfl rfl rfl rfl (by rw [hp2]; omega) (by unfold maxLen; omega) (Nat.zero_le _) ?_)
  intro w1 hown hgrow
  have HQ1 : Hid (Pq w1 w.heap.size n (fun _ _ => false)) := by
    have h := own_full4 hown
    rw [← HM.out] at h
    show Pq _ _ _ _
    unfold Pq
    rw [h]
    have := made_pl n
    rw [← this]
    rfl
  have B1 : Hid (Below w.heap.size w w1) := (Below.refl _ _).grown hgrow (Nat.le_refl _) (by simp)
  clear hown hgrow
  gi_wp2
  have Q2 : Hid (Pq ((w1.alloc (.cells #[.slice (some ⟨w.heap.size, 0, none⟩) m m] 86)).alloc (.cells #[.int .i64 ((m : Int) - 1)] 3)) w.heap.size n (fun x y => mMany n A x y && decide (m ≤ x))) := (HQ1.out.grow (((Below.refl _ _).alloc (Nat.le_refl _) _).alloc (by simp) _)).ext (fun x y hx _ => by rw [decide_eq_false (by have := HM.out; omega)]; simp)
  have B2 : Hid (Below w.heap.size w ((w1.alloc (.cells #[.slice (some ⟨w.heap.size, 0, none⟩) m m] 86)).alloc (.cells #[.int .i64 ((m : Int) - 1)] 3))) := (B1.out.alloc B1.out.size _).alloc (by have := B1.out.size; simp; omega) _
  have Y2 : Hid (Boxed ((w1.alloc (.cells #[.slice (some ⟨w.heap.size, 0, none⟩) m m] 86)).alloc (.cells #[.int .i64 ((m : Int) - 1)] 3)) w1.heap.size 86 (.slice (some ⟨w.heap.size, 0, none⟩) m m)) := (Boxed.new _ _ _).alloc _
  have Z2 : Hid (Boxed ((w1.alloc (.cells #[.slice (some ⟨w.heap.size, 0, none⟩) m m] 86)).alloc (.cells #[.int .i64 ((m : Int) - 1)] 3)) (w1.heap.size + 1) 3 (.int .i64 ((m : Int) - 1))) := by
    have := Boxed.new (w1.alloc (.cells #[.slice (some ⟨w.heap.size, 0, none⟩) m m] 86)) 3 (.int .i64 ((m : Int) - 1))
    rw [World.size_alloc] at this
    exact this
  have hb1 : w.heap.size < w1.heap.size := HQ1.out.lt
  generalize (w1.alloc (.cells #[.slice (some ⟨w.heap.size, 0, none⟩) m m] 86)).alloc (.cells #[.int .i64 ((m : Int) - 1)] 3) = V0 at Q2 B2 Y2 Z2 ⊢
  generalize w1.heap.size = b1 at Y2 Z2 hb1 ⊢
  clear HQ1 B1
  refine wpIn_loop (fun a' W => ∃ (i b4 : Nat) (u5 u12 u13 u14 u15 u16 u17 u18 u19 u20 u21 u22 u23 u24 u25 u26 u27 u28 u29 u30 u31 u32 u33 u34 u35 : Value) (ds : List Deferred), (i ≤ m ∧ b1 < b4 ∧ Pq W w.heap.size n (fun x y => mMany n A x y && decide (i ≤ x)) ∧ Below w.heap.size w W ∧ Boxed W b1 86 (.slice (some ⟨w.heap.size, 0, none⟩) m m) ∧ Boxed W b4 3 (.int .i64 ((i : Int) - 1)) ∧ Marks w.heap.size W ds) ∧
      a' = { tmps := #[.slice (some ⟨gf, 0, none⟩) m m, undef, .slice none 0 0, .pointer (some ⟨b1, 0, none⟩), .pointer (some ⟨b4, 0, none⟩), u5, .slice (some ⟨gf, 0, none⟩) m m, .int .i64 (m : Int), .slice (some ⟨w.heap.size, 0, none⟩) m m, .slice (some ⟨w.heap.size, 0, none⟩) m m, .int .i64 (m : Int), .int .i64 ((m : Int) - 1), u12, u13, u14, u15, u16, u17, u18, u19, u20, u21, u22, u23, u24, u25, u26, u27, u28, u29, u30, u31, u32, u33, u34, u35, undef], defers := ds }) atM ?_ ?_
  · exact ⟨m, b1 + 1, undef, undef, undef, undef, undef, undef, undef, undef, undef, undef, undef, undef, undef, undef, undef, undef, undef, undef, undef, undef, undef, undef, undef, undef, undef, [], ⟨Nat.le_refl _, by omega, Q2.out, B2.out, Y2.out, Z2.out, .nil⟩, rfl⟩
  intro a' wr hinv
  obtain ⟨i, b4, u5, u12, u13, u14, u15, u16, u17, u18, u19, u20, u21, u22, u23, u24, u25, u26, u27, u28, u29, u30, u31, u32, u33, u34, u35, ds, ⟨hi, hb4, hq, hB, hY, hZ, hD⟩, rfl⟩ := hinv
  clear Q2 B2 Y2 Z2
  have HQ := Hid.mk hq
  have HBr := Hid.mk hB
  have HY := Hid.mk hY
  have HZ := Hid.mk hZ
  have HD := Hid.mk hD
  clear hq hB hY hZ hD
  have hme : ∀ ts ds', (∀ h : 4 < ts.size, ts[4] = .pointer (some ⟨b4, 0, none⟩)) → 4 < ts.size → atM { tmps := ts, defers := ds' } wr = i := by
    intro ts ds' h1 h2
    unfold atM
    rw [show (Act.mk ts ds').tmps.getD 4 undef = .pointer (some ⟨b4, 0, none⟩) by simp [h2, h1 h2]]
    simp only [HZ.out.cell, Option.getD_some, intOf]
    omega
  rw [hme _ _ (fun _ => rfl) (by simp)]
  clear hme
  by_cases hi0 : i = 0
  · subst hi0
    have y0 := HY.out.cell
    have z0 := HZ.out.cell
    have HQn : Hid (Pq wr w.heap.size n (mMany n A)) := HQ.out.ext (fun x y hx _ => by simp)
    simp only [Int.natCast_zero] at z0
    gi_wp2
    refine leaves_marks _ _ HD.out (fun W' hb hc => ?_)
    exact ⟨_, results_tmp rfl _ _ _, _, rfl, by omega, hc _ _ HQn.out rfl, HBr.out.trans hb⟩
  · obtain ⟨p, rfl⟩ : ∃ p, i = p + 1 := ⟨i - 1, by omega⟩
    clear hi0
    have hpn : p ≤ n := by have := HM.out; omega
    have hpm : (p : Int) < (m : Int) := by omega
    have z0 := HZ.out.cell
    rw [show ((p + 1 : Nat) : Int) - 1 = (p : Int) by omega] at z0
    have hlZ := HZ.out.lt
    have hlY := HY.out.lt
    have hnY : b1 ≠ w.heap.size := by omega
    have hnZ : b4 ≠ w.heap.size := by omega
    gi_wp2
    have hQd : Pq wr.drew w.heap.size n (fun x y => mMany n A x y && decide (p + 1 ≤ x)) := HQ.out
    have HAD := Hid.mk (addRow_any hQd (i := p) (a := p) hpn (by omega))
    have SS : ∀ b, b < wr.heap.size → b ≠ w.heap.size → wr.drew.heap[b]? = wr.heap[b]? := fun _ _ _ => rfl
    refine wpIn_wide.2 (wp_onlyN ?_)
    refine wp_region_held_drew (S := fun w' => ∀ b, b < wr.heap.size → b ≠ w.heap.size → w'.heap[b]? = wr.heap[b]?) (by kernel_rfl) SS (fun _ => ?_)
    refine takeHD (i := 0) (v := .slice (some ⟨w.heap.size, 0, none⟩) m m) (some 16) rfl rfl (by kernel_rfl) (by kernel_rfl) (by kernel_rfl) (fun _ _ _ h => h) (Or.inl ⟨by kernel_rfl, fun w' hw => ?_⟩) SS ?_
    · have e := World.cell?_of_block (a := ⟨b1, 0, none⟩) (hw _ hlY hnY); rw [HY.out.cell] at e; go_simp
    simp only [Act.put, List.setIfInBounds_toArray]
    refine takeHD (i := 1) (v := .int .i64 (p : Int)) (some 17) rfl rfl (by kernel_rfl) (by kernel_rfl) (by kernel_rfl) (fun _ _ _ h => h) (Or.inl ⟨by kernel_rfl, fun w' hw => ?_⟩) SS ?_
    · have e := World.cell?_of_block (a := ⟨b4, 0, none⟩) (hw _ hlZ hnZ); rw [z0] at e; go_simp
    simp only [Act.put, List.setIfInBounds_toArray]
    refine takeHD (i := 2) (v := .pointer (some ⟨w.heap.size, p * 4, none⟩)) (some 18) rfl rfl (by kernel_rfl) (by kernel_rfl) (by kernel_rfl) (fun _ _ _ h => h) (Or.inl ⟨by kernel_rfl, fun w' hw => ?_⟩) SS ?_
    · first | (go_simp; done) | (go_simp; intro h; omega) | (go_simp; rw [IntKind.wrap_i64]; omega)
    simp only [Act.put, List.setIfInBounds_toArray]
    refine takeHD (i := 3) (v := .int .i64 (p : Int)) (some 19) rfl rfl (by kernel_rfl) (by kernel_rfl) (by kernel_rfl) (fun _ _ _ h => h) (Or.inl ⟨by kernel_rfl, fun w' hw => ?_⟩) SS ?_
    · have e := World.cell?_of_block (a := ⟨b4, 0, none⟩) (hw _ hlZ hnZ); rw [z0] at e; go_simp
    simp only [Act.put, List.setIfInBounds_toArray]
    refine wpAnyH_ready (rs := [4]) (by kernel_rfl) (by simp) ?_
    refine AllReadyH.cons rfl (fun K hK => ?_) AllReadyH.nil
    rw [if_pos (by kernel_rfl)]
    go_wp2_with fail
    refine HAD.out.mono ?_
    rintro e w3 ⟨⟨u3, rfl⟩, hP3, hB3, ho3⟩
    have KB : ∀ b, b < wr.heap.size → b ≠ w.heap.size → w3.heap[b]? = wr.heap[b]? := fun b _ hne => ho3 b hne
    have Q3 : Pq w3 w.heap.size n (offU n A p []) := hP3.ext (fun r y _ _ => offU_start n A p r y)
    have Y3 : Boxed w3 b1 86 (.slice (some ⟨w.heap.size, 0, none⟩) m m) := (KB _ hlY hnY).trans HY.out
    have Z3 : Boxed w3 b4 3 (.int .i64 (p : Int)) := by
      have h := (KB _ hlZ hnZ).trans HZ.out
      rw [show ((p + 1 : Nat) : Int) - 1 = (p : Int) by omega] at h
      exact h
    have B3 : Below w.heap.size w w3 := HBr.out.trans ((Below.drewSelf w.heap.size wr 1).trans hB3)
    have D3 : Marks w.heap.size w3 ds := HD.out.keeps ⟨by have := hB3.size; exact this, fun k o _ hk ho => (KB k (Array.getElem?_eq_some_iff.1 hk).1 (fun e => by
        subst e
        rw [show wr.heap[w.heap.size]? = _ from HQ.out] at hk
        cases hk
        cases ho)).trans hk⟩
    refine hK.out _ _ KB (fun _ => ?_)
    clear hK K HAD hP3 hB3 ho3 KB SS hQd z0 hlZ hlY HQ HBr HY HZ HD
    refine wpAnyH_done (by kernel_rfl) ?_ _
    dsimp only [OnlyN]
    have qa := HA.out.grow B3
    have a0 := qa.cell hpn (show 0 < 4 by omega)
    have a1 := qa.cell hpn (show 1 < 4 by omega)
    have a2 := qa.cell hpn (show 2 < 4 by omega)
    have a3 := qa.cell hpn (show 3 < 4 by omega)
    rw [Nat.add_zero] at a0
    have z0 := Z3.cell
    clear qa
    gi_wp2_with (refine ⟨trivial, ?_⟩; gi_at_call 89; refine (callsIn_wide.2 (all_any (A p) _)).mono ?_; rintro e w' ⟨rfl, rfl⟩)
    clear a0 a1 a2 a3 z0
    have V1 : Below w3.heap.size w3 (boxW w3 (A p)) := (Below.refl _ w3).alloc (Nat.le_refl _) _
    have Q4 := Q3.grow V1
    have Y4 : Boxed (boxW w3 (A p)) _ _ _ := Y3.alloc (.cells #[.int .u64 (wd (A p) 0 : Int), .int .u64 (wd (A p) 1 : Int), .int .u64 (wd (A p) 2 : Int), .int .u64 (wd (A p) 3 : Int)] 90)
    have Z4 : Boxed (boxW w3 (A p)) _ _ _ := Z3.alloc (.cells #[.int .u64 (wd (A p) 0 : Int), .int .u64 (wd (A p) 1 : Int), .int .u64 (wd (A p) 2 : Int), .int .u64 (wd (A p) 3 : Int)] 90)
    have C4 := boxW_cell w3 (A p)
    have D4 : Marks w.heap.size (boxW w3 (A p)) ds := D3.keeps ((KeepsOthers.alloc w3 (.cells #[.int .u64 (wd (A p) 0 : Int), .int .u64 (wd (A p) 1 : Int), .int .u64 (wd (A p) 2 : Int), .int .u64 (wd (A p) 3 : Int)] 90)).from w.heap.size)
    have B4 := B3.trans (V1.mono B3.size)
    have S4 : (boxW w3 (A p)).heap.size = w3.heap.size + 1 := by simp
    have hb47 : b4 < w3.heap.size := Z3.lt
    generalize boxW w3 (A p) = Wl at Q4 Y4 Z4 C4 D4 B4 S4 ⊢
    generalize w3.heap.size = b7 at C4 S4 hb47 ⊢
    clear Q3 Y3 Z3 B3 D3 V1
    have hSEQ := all_stopsF 3 (by omega) b7 w.heap.size (A p) Wl (by omega) (by omega) C4 (fun w' hb => hT.grow (B4.trans hb))
    obtain ⟨II, hII⟩ : ∃ II : List { x : Nat // A p x = true } → World → Prop, II = fun pre W => (Pq W w.heap.size n (offU n A p (pre.map (·.1))) ∧ Boxed W b1 86 (.slice (some ⟨w.heap.size, 0, none⟩) m m) ∧ Boxed W b4 3 (.int .i64 (p : Int))) ∧ Below w.heap.size w W ∧ KeepsFrom w.heap.size Wl W := ⟨_, rfl⟩
    have hII' : ∀ pre W, II pre W ↔ (Pq W w.heap.size n (offU n A p (pre.map (·.1))) ∧ Boxed W b1 86 (.slice (some ⟨w.heap.size, 0, none⟩) m m) ∧ Boxed W b4 3 (.int .i64 (p : Int))) ∧ Below w.heap.size w W ∧ KeepsFrom w.heap.size Wl W := fun pre W => by rw [hII]
    clear hII
    have hOWN : OwnFrom Wl.heap.size II := by
      intro s X Y row hs hg hr
      obtain ⟨⟨h1, h2, h3⟩, h4, h5⟩ := (hII' _ _).1 hs
      exact (hII' _ _).2 ⟨⟨h1.owned hg hr, boxed_owned h2 hg hr, boxed_owned h3 hg hr⟩, ownFrom_below (w₀ := w) (Nat.le_refl w.heap.size) (show w.heap.size ≤ Wl.heap.size by omega) s X Y row h4 hg hr, ownFrom_keepsFrom (Nat.le_refl _) s X Y row h5 hg hr⟩
    have h00 : II [] Wl := (hII' _ _).2 ⟨⟨Q4, Y4, Z4⟩, B4, KeepsFrom.refl _ _⟩
    refine wpIn_rangeFunc_ownF rfl (by omega) (gf := 103) (lb := #[.pointer (some ⟨b7, 0, none⟩)]) rfl trivial (enters_of Tryz.func103 (by kernel_rfl) rfl)
      hSEQ belowK_t (belowK_b (by omega)) (Below.refl _ _) (fun _ => rfl) II (fun _ _ _ => False) hOWN (fun _ _ _ _ _ hs _ _ => hs) h00
      (fun x => { tmps := #[.slice (some ⟨gf, 0, none⟩) m m, undef, .slice none 0 0, .pointer (some ⟨b1, 0, none⟩), .pointer (some ⟨b4, 0, none⟩), .int .i64 (x.1 : Int), .slice (some ⟨gf, 0, none⟩) m m, .int .i64 (m : Int), .slice (some ⟨w.heap.size, 0, none⟩) m m, .slice (some ⟨w.heap.size, 0, none⟩) m m, .int .i64 (m : Int), .int .i64 ((m : Int) - 1), .int .i64 (p : Int), .bool true, u14, u15, .slice (some ⟨w.heap.size, 0, none⟩) m m, .int .i64 (p : Int), .pointer (some ⟨w.heap.size, p * 4, none⟩), .int .i64 (p : Int), u3, .slice (some ⟨gf, 0, none⟩) m m, .int .i64 (p : Int), .pointer (some ⟨gf, p * 4, none⟩), aggW (A p), .func (.func 103) #[] #[.pointer (some ⟨b7, 0, none⟩)], .int .i64 (x.1 : Int), u27, u28, u29, u30, u31, u32, u33, u34, u35, undef], defers := [] }) ?assign ?body ?done ?stop
    case assign =>
      intro l x W K hK
      gi_wp2
      exact hK
    case body =>
      intro l pre x W hi _
      obtain ⟨⟨hQ, hY, hZ⟩, hB, hKF⟩ := (hII' _ _).1 hi
      have hxp := hUA p x.1 hpn x.2
      have hx : x.1 ≤ n := hxp.2
      have hxm : (x.1 : Int) < (m : Int) := by have := HM.out; omega
      have hlY := hY.lt
      have hlZ := hZ.lt
      have HST := Hid.mk (fun r y => offU_step (n := n) (A := A) (pre := pre.map (·.1)) hxp.1 r y)
      have hmap : pre.map (·.1) ++ [x.1] = (pre ++ [x]).map (·.1) := by simp
      rw [hmap] at HST
      clear hmap
      generalize offU n A p (pre.map (·.1)) = Mp at hQ HST
      have b0 := hQ.cell hx (show 0 < 4 by omega)
      have b1' := hQ.cell hx (show 1 < 4 by omega)
      have b2 := hQ.cell hx (show 2 < 4 by omega)
      have b3 := hQ.cell hx (show 3 < 4 by omega)
      rw [Nat.add_zero] at b0
      have hQd : Pq W.drew w.heap.size n Mp := hQ
      have HAA := Hid.mk (addAll_any w.heap.size (p * 4) (wd (Mp p)) (wd (Mp x.1)) (fun j _ => wd_lt _ _) (fun j _ => wd_lt _ _) W.drew (fun j hj => hQd.cell hpn hj) (fun j _ => hQd.frozen _))
      have SS : ∀ b, b < W.heap.size → b ≠ w.heap.size → W.drew.heap[b]? = W.heap[b]? := fun _ _ _ => rfl
      refine wpIn_block ?_
      refine wpIn_region_held_round (S := fun w' => ∀ b, b < W.heap.size → b ≠ w.heap.size → w'.heap[b]? = W.heap[b]?) (by kernel_rfl) (by kernel_rfl) (by rintro ⟨_, _, h⟩; exact h) SS (fun _ => ?_)
      refine takeHD (i := 0) (v := .slice (some ⟨w.heap.size, 0, none⟩) m m) (some 27) rfl rfl (by kernel_rfl) (by kernel_rfl) (by kernel_rfl) (fun _ _ _ h => h) (Or.inl ⟨by kernel_rfl, fun w' hw => ?_⟩) SS ?_
      · have e := World.cell?_of_block (a := ⟨b1, 0, none⟩) (hw _ hlY hnY); rw [hY.cell] at e; go_simp
      simp only [Act.put, List.setIfInBounds_toArray]
      refine takeHD (i := 1) (v := .int .i64 (p : Int)) (some 28) rfl rfl (by kernel_rfl) (by kernel_rfl) (by kernel_rfl) (fun _ _ _ h => h) (Or.inl ⟨by kernel_rfl, fun w' hw => ?_⟩) SS ?_
      · have e := World.cell?_of_block (a := ⟨b4, 0, none⟩) (hw _ hlZ hnZ); rw [hZ.cell] at e; go_simp
      simp only [Act.put, List.setIfInBounds_toArray]
      refine takeHD (i := 2) (v := .pointer (some ⟨w.heap.size, p * 4, none⟩)) (some 29) rfl rfl (by kernel_rfl) (by kernel_rfl) (by kernel_rfl) (fun _ _ _ h => h) (Or.inl ⟨by kernel_rfl, fun w' hw => ?_⟩) SS ?_
      · first | (go_simp; done) | (go_simp; intro h; omega) | (go_simp; rw [IntKind.wrap_i64]; omega)
      simp only [Act.put, List.setIfInBounds_toArray]
      refine takeHD (i := 3) (v := .slice (some ⟨w.heap.size, 0, none⟩) m m) (some 30) rfl rfl (by kernel_rfl) (by kernel_rfl) (by kernel_rfl) (fun _ _ _ h => h) (Or.inl ⟨by kernel_rfl, fun w' hw => ?_⟩) SS ?_
      · have e := World.cell?_of_block (a := ⟨b1, 0, none⟩) (hw _ hlY hnY); rw [hY.cell] at e; go_simp
      simp only [Act.put, List.setIfInBounds_toArray]
      refine takeHD (i := 4) (v := .int .i64 (x.1 : Int)) (some 31) rfl rfl (by kernel_rfl) (by kernel_rfl) (by kernel_rfl) (fun _ _ _ h => h) (Or.inl ⟨by kernel_rfl, fun w' hw => ?_⟩) SS ?_
      · kernel_rfl
      simp only [Act.put, List.setIfInBounds_toArray]
      refine takeHD (i := 5) (v := .pointer (some ⟨w.heap.size, x.1 * 4, none⟩)) (some 32) rfl rfl (by kernel_rfl) (by kernel_rfl) (by kernel_rfl) (fun _ _ _ h => h) (Or.inl ⟨by kernel_rfl, fun w' hw => ?_⟩) SS ?_
      · first | (go_simp; done) | (go_simp; intro h; omega) | (go_simp; rw [IntKind.wrap_i64]; omega)
      simp only [Act.put, List.setIfInBounds_toArray]
      refine wpAnyH_ready (rs := [6]) (by kernel_rfl) (by simp) ?_
      refine AllReadyH.cons rfl (fun K hK => ?_) AllReadyH.nil
      rw [if_pos (by kernel_rfl)]
      go_wp2_with fail
      refine hK.out _ _ SS (fun _ => ?_)
      clear hK K b0 b1' b2 b3
      refine wpAnyH_ready (rs := [7]) (by kernel_rfl) (by simp) ?_
      refine AllReadyH.cons rfl (fun K hK => ?_) AllReadyH.nil
      rw [if_pos (by kernel_rfl)]
      go_wp2_with fail
      refine HAA.out.mono ?_
      rintro e w3 ⟨⟨u3, rfl⟩, q3, hw3⟩
      have A3 : Below W.drew.heap.size W.drew (W.drew.alloc (.cells #[.int .u64 (wd (Mp x.1) 0 : Int), .int .u64 (wd (Mp x.1) 1 : Int), .int .u64 (wd (Mp x.1) 2 : Int), .int .u64 (wd (Mp x.1) 3 : Int)] 90)) := (Below.refl _ _).alloc (Nat.le_refl _) _
      have hP2 := (hQd.grow A3).addAll hpn (Mp x.1)
      have PN : Pq w3 w.heap.size n (offU n A p ((pre ++ [x]).map (·.1))) := by
        rw [hw3]
        exact (hP2.kept rfl).ext (fun r y _ _ => HST.out r y)
      have KB : ∀ b, b < W.heap.size → b ≠ w.heap.size → w3.heap[b]? = W.heap[b]? := fun b hb hne => by
        rw [hw3]
        exact (putK_block _ _ _ _ _ _ hne).trans (Below.heap_alloc W.drew _ b hb)
      have BW : Below w.heap.size W w3 := by
        rw [hw3]
        exact ((Below.drewSelf w.heap.size W 1).trans (A3.mono hB.size)).trans ((putK_below _ _ _ (Nat.le_refl _)).trans (Below.drewSelf _ _ _))
      have KO : KeepsOthers W w3 := ⟨BW.size, fun k o hk ho => (KB k (Array.getElem?_eq_some_iff.1 hk).1 (fun e => by
        subst e
        rw [show W.heap[w.heap.size]? = _ from hQ] at hk
        cases hk
        cases ho)).trans hk⟩
      refine hK.out _ _ KB (fun _ => ?_)
      clear hK K A3 hP2 hw3 HAA
      refine wpAnyH_done (by kernel_rfl) ?_ _
      exact ⟨KO, BW, (hII' _ _).2 ⟨⟨PN, (KB _ hlY hnY).trans hY, (KB _ hlZ hnZ).trans hZ⟩, hB.trans BW, hKF.trans (KO.from _)⟩⟩
    case done =>
      intro D ys W hD hys hi hK
      obtain ⟨⟨hQ, hY, hZ⟩, hB, hKF⟩ := (hII' _ _).1 hi
      have QN : Pq W w.heap.size n (fun x y => mMany n A x y && decide (p ≤ x)) := hQ.ext (fun r y hr _ => by
        rw [hys]
        unfold offU
        by_cases h : r = p
        · subst h
          rw [if_pos rfl, oftU_done hUA (by omega) r y hr]
          simp
        · rw [if_neg h, show decide (p < r) = decide (p ≤ r) from decide_eq_decide.2 (by omega)])
      have DN : Marks w.heap.size W ({ target := .collected D, args := #[] } :: ds) := .cons (by omega) hK (fun d hd e => by
        have := D4.lt d hd D e
        omega) (D4.keeps hKF)
      have z0 := hZ.cell
      gi_wp2
      have AW : Below W.heap.size W (W.alloc (.cells #[.int .i64 ((p : Int) - 1)] 3)) := (Below.refl _ _).alloc (Nat.le_refl _) _
      have ZN := Boxed.new W 3 (.int .i64 ((p : Int) - 1))
      refine ⟨⟨p, by omega, hY.lt, QN.grow AW, hB.trans (AW.mono hB.size), hY.alloc _, ZN, DN.keeps ((KeepsOthers.alloc W _).from _)⟩, ?_⟩
      have hz := ZN.cell
      simp only [atM, Array.getD_eq_getD_getElem?]
      simp [hz, intOf]
    case stop =>
      rintro D c pre W _ _ h _
      exact h.elim
end Go.Proofs.YtapniafhcagogaaGreatDoor

namespace Go.Proofs.YtapniafhcagogaaGreatDoor
open Go.RowKit Go.Shelf
set_option maxRecDepth 8000

theorem okT_one' {t : Tr} (h : t.okT = true) (hk : t.k = 6 ∨ t.k = 7 ∨ t.k = 8) : ∃ x, t.l = [x] := by
  rw [okT_eq, Bool.and_eq_true] at h
  have h2 := h.2
  unfold nodeB at h2
  rcases hk with hk | hk | hk <;> simp [hk] at h2 <;> exact List.length_eq_one_iff.1 h2.1.2
theorem okT_many' {t : Tr} (h : t.okT = true) (hk : t.k = 4 ∨ t.k = 5) : 2 ≤ t.l.length ∧ t.l.length ≤ 8 := by
  rw [okT_eq, Bool.and_eq_true] at h
  have h2 := h.2
  unfold nodeB at h2
  rcases hk with hk | hk <;> simp [hk] at h2 <;> omega

def EeC (s : ByteArray) (t : Tr) : Prop := ∀ (B : Nat → Prop) (v : Value) (w : World), Rl w B t.l v → t.s.size ≤ maxLen → t.okT = true → TabB w →
  Calls Tryz.prog 47 #[rx t.k t.s v, .string s] w fun e w' => ∃ g, e = .returned (plS g s.size) ∧ w.heap.size ≤ g ∧ Pq w' g s.size (t.endM s) ∧ Below w.heap.size w w'

set_option maxHeartbeats 1000000 in
theorem ends_leaf (s : ByteArray) (hs : s.size ≤ 200) (t : Tr) (hk : t.k = 1 ∨ t.k = 2 ∨ t.k = 3 ∨ t.k = 9 ∨ t.k = 10 ∨ t.k = 11) : EeC s t := by
  intro B v w h hts hok hT
  have HE : Hid (∀ i y, mSing s t.k t.s i y = t.endM s i y) := fun i y => by rw [endM_eq]; exact mSing_node s _ _ _ hk i y
  have A0 : Below w.heap.size w (w.alloc (.cells #[.int .i64 t.k, .string t.s, v] 26)) := (Below.refl _ _).alloc (Nat.le_refl _) _
  have HO := Hid.mk (fun w' => endsOfSingle_any t v s hs w')
  have HX := Hid.mk (Bz3.new w (.int .i64 t.k) (.string t.s) v)
  obtain ⟨ao, cap, rfl, -⟩ := h.len
  obtain ⟨M, hM⟩ : ∃ M, mSing s t.k t.s = M := ⟨_, rfl⟩
  obtain ⟨E, hE⟩ : ∃ E, t.endM s = E := ⟨_, rfl⟩
  rw [hM] at HO
  rw [hM, hE] at HE
  obtain ⟨tk, htk⟩ : ∃ tk, t.k = tk := ⟨_, rfl⟩
  obtain ⟨ts, hts'⟩ : ∃ ts, t.s = ts := ⟨_, rfl⟩
  rw [htk, hts'] at A0 HO HX
  rw [htk] at hk
  rw [htk, hts', hE]
  clear h hts hok hM hE htk hts' hT
  have x0 := HX.out.c0
  have x1 := HX.out.c1
  have x2 := HX.out.c2
  rcases hk with rfl | rfl | rfl | rfl | rfl | rfl
  all_goals
    go_enter Tryz.func47, Tryz.ntmps47
    go_wp2_with fail
    refine (HO.out _).mono ?_
    rintro e w1 ⟨g1, rfl, hg1, hq1, hb1⟩
    have B1 := Hid.mk (A0.trans (hb1.mono (by simp)))
    have HQ1 := Hid.mk (hq1.ext (fun i y _ _ => HE.out i y))
    have hgl : w.heap.size ≤ g1 := by simp at hg1; omega
    clear hq1 hb1 A0 x0 x1 x2 HO HX
    go_wp2
    go_ret
    exact ⟨_, rfl, hgl, HQ1.out, B1.out⟩

set_option maxHeartbeats 1000000 in
theorem ends_star (s : ByteArray) (hs : s.size ≤ 200) (t : Tr) (ih : ∀ x ∈ t.l, EeC s x) (hk : t.k = 6) : EeC s t := by
  intro B v w h hts hok hT
  obtain ⟨x, hl⟩ : ∃ x, t.l = [x] := okT_one' hok (by omega)
  have hxo : x.okT = true := by
    rw [okT_eq, hl] at hok
    simp [okL] at hok
    exact hok.1
  have HE : Hid (t.endM s = mMany s.size (x.endM s)) := by show _ = _; rw [endM_eq, nodeM, hk, hl]; rfl
  have HU := Hid.mk (UpM.tree s x)
  have A0 : Below w.heap.size w (w.alloc (.cells #[.int .i64 t.k, .string t.s, v] 26)) := (Below.refl _ _).alloc (Nat.le_refl _) _
  have HX := Hid.mk (Bz3.new w (.int .i64 t.k) (.string t.s) v)
  rw [hl] at h ih
  obtain ⟨ao, cap, rfl, hc1, hc2, -⟩ := h.len
  obtain ⟨b, off, V, rfl, hel⟩ := h.elems (by simp)
  obtain ⟨h3, hsub, hss⟩ := hel 0 (by simp)
  simp only [List.getElem_cons_zero, Nat.zero_mul, Nat.add_zero] at h3 hsub hss
  have HC := Hid.mk (fun (w' : World) (hb : Below w.heap.size w w') => ih x (by simp) B (V 0) w' (hsub.grow hb) hss hxo (hT.grow hb))
  have H3 := Hid.mk h3
  obtain ⟨MX, hMX⟩ : ∃ M, x.endM s = M := ⟨_, rfl⟩
  rw [hMX] at HC HE HU
  obtain ⟨ts, hts'⟩ : ∃ ts, t.s = ts := ⟨_, rfl⟩
  obtain ⟨xk, hxk⟩ : ∃ tk, x.k = tk := ⟨_, rfl⟩
  obtain ⟨xs, hxs⟩ : ∃ ts, x.s = ts := ⟨_, rfl⟩
  rw [hk, hts'] at A0 HX
  rw [hxk, hxs] at HC H3
  rw [hk, hts', HE.out]
  have hcm : cap ≤ 9223372036854775807 := by unfold maxLen at hc2; omega
  have hc1' : 1 ≤ cap := by simpa using hc1
  clear h hts hok HE hMX hts' hxk hxs hel h3 hsub hss ih hl hxo hk hc1 hc2
  simp only [List.length_singleton] at A0 HX ⊢
  have x0 := HX.out.c0
  have x1 := HX.out.c1
  have x2 := HX.out.c2
  obtain ⟨y0, y1, y2⟩ := H3.out.grow A0
  go_enter Tryz.func47, Tryz.ntmps47
  go_wp2_with fail
  refine (HC.out _ A0).mono ?_
  rintro e w1 ⟨g1, rfl, hg1, hq1, hb1⟩
  have HQ1 := Hid.mk hq1
  have B1 := Hid.mk (A0.trans (hb1.mono (by simp)))
  clear x0 x1 x2 y0 y1 y2 hq1 hb1 A0 HC H3 HX
  have HMA := Hid.mk (asOften_any s.size hs g1 MX HU.out w1 (hT.grow B1.out) HQ1.out)
  go_wp2_with fail
  refine HMA.out.mono ?_
  rintro e w2 ⟨g2, rfl, hg2, hq2, hb2⟩
  have HQ2 := Hid.mk hq2
  have B2 := Hid.mk (B1.out.trans (hb2.mono B1.out.size))
  have hgl : w.heap.size ≤ g2 := Nat.le_trans B1.out.size hg2
  clear hq2 hb2 HMA HQ1 B1
  go_wp2
  go_ret
  exact ⟨_, rfl, hgl, HQ2.out, B2.out⟩

set_option maxHeartbeats 1000000 in
theorem ends_plus (s : ByteArray) (hs : s.size ≤ 200) (t : Tr) (ih : ∀ x ∈ t.l, EeC s x) (hk : t.k = 7) : EeC s t := by
  intro B v w h hts hok hT
  obtain ⟨x, hl⟩ : ∃ x, t.l = [x] := okT_one' hok (by omega)
  have hxo : x.okT = true := by
    rw [okT_eq, hl] at hok
    simp [okL] at hok
    exact hok.1
  have HE : Hid (t.endM s = mThen s.size (x.endM s) (mMany s.size (x.endM s))) := by show _ = _; rw [endM_eq, nodeM, hk, hl]; rfl
  have HU := Hid.mk (UpM.tree s x)
  have A0 : Below w.heap.size w (w.alloc (.cells #[.int .i64 t.k, .string t.s, v] 26)) := (Below.refl _ _).alloc (Nat.le_refl _) _
  have HX := Hid.mk (Bz3.new w (.int .i64 t.k) (.string t.s) v)
  rw [hl] at h ih
  obtain ⟨ao, cap, rfl, hc1, hc2, -⟩ := h.len
  obtain ⟨b, off, V, rfl, hel⟩ := h.elems (by simp)
  obtain ⟨h3, hsub, hss⟩ := hel 0 (by simp)
  simp only [List.getElem_cons_zero, Nat.zero_mul, Nat.add_zero] at h3 hsub hss
  have HC := Hid.mk (fun (w' : World) (hb : Below w.heap.size w w') => ih x (by simp) B (V 0) w' (hsub.grow hb) hss hxo (hT.grow hb))
  have H3 := Hid.mk h3
  obtain ⟨MX, hMX⟩ : ∃ M, x.endM s = M := ⟨_, rfl⟩
  rw [hMX] at HC HE HU
  obtain ⟨ts, hts'⟩ : ∃ ts, t.s = ts := ⟨_, rfl⟩
  obtain ⟨xk, hxk⟩ : ∃ tk, x.k = tk := ⟨_, rfl⟩
  obtain ⟨xs, hxs⟩ : ∃ ts, x.s = ts := ⟨_, rfl⟩
  rw [hk, hts'] at A0 HX
  rw [hxk, hxs] at HC H3
  rw [hk, hts', HE.out]
  have hcm : cap ≤ 9223372036854775807 := by unfold maxLen at hc2; omega
  have hc1' : 1 ≤ cap := by simpa using hc1
  clear h hts hok HE hMX hts' hxk hxs hel h3 hsub hss ih hl hxo hk hc1 hc2
  simp only [List.length_singleton] at A0 HX ⊢
  have x0 := HX.out.c0
  have x1 := HX.out.c1
  have x2 := HX.out.c2
  obtain ⟨y0, y1, y2⟩ := H3.out.grow A0
  go_enter Tryz.func47, Tryz.ntmps47
  go_wp2_with fail
  refine (HC.out _ A0).mono ?_
  rintro e w1 ⟨g1, rfl, hg1, hq1, hb1⟩
  have HQ1 := Hid.mk hq1
  have B1 := Hid.mk (A0.trans (hb1.mono (by simp)))
  clear x0 x1 x2 y0 y1 y2 hq1 hb1 A0 HC H3 HX
  have HMA := Hid.mk (asOften_any s.size hs g1 MX HU.out w1 (hT.grow B1.out) HQ1.out)
  go_wp2_with fail
  refine HMA.out.mono ?_
  rintro e w2 ⟨g2, rfl, hg2, hq2, hb2⟩
  have B2 := Hid.mk (B1.out.trans (hb2.mono B1.out.size))
  have HTH := Hid.mk (oneBehind_any s.size hs g1 g2 MX (mMany s.size MX) HU.out (UpM.many _ _) w2 (hT.grow B2.out) (HQ1.out.grow hb2) hq2)
  clear hq2 hb2 HMA HQ1 B1
  go_wp2_with fail
  refine HTH.out.mono ?_
  rintro e w3 ⟨g3, rfl, hg3, hq3, hb3⟩
  have HQ3 := Hid.mk hq3
  have B3 := Hid.mk (B2.out.trans (hb3.mono B2.out.size))
  have hgl : w.heap.size ≤ g3 := Nat.le_trans B2.out.size hg3
  clear hq3 hb3 HTH B2
  go_wp2
  go_ret
  exact ⟨_, rfl, hgl, HQ3.out, B3.out⟩

set_option maxHeartbeats 1000000 in
theorem ends_opt (s : ByteArray) (hs : s.size ≤ 200) (t : Tr) (ih : ∀ x ∈ t.l, EeC s x) (hk : t.k = 8) : EeC s t := by
  intro B v w h hts hok hT
  obtain ⟨x, hl⟩ : ∃ x, t.l = [x] := okT_one' hok (by omega)
  have hxo : x.okT = true := by
    rw [okT_eq, hl] at hok
    simp [okL] at hok
    exact hok.1
  have HE : Hid (t.endM s = mAdd mSame (x.endM s)) := by show _ = _; rw [endM_eq, nodeM, hk, hl]; rfl
  have HU := Hid.mk (UpM.tree s x)
  have A0 : Below w.heap.size w (w.alloc (.cells #[.int .i64 t.k, .string t.s, v] 26)) := (Below.refl _ _).alloc (Nat.le_refl _) _
  have HX := Hid.mk (Bz3.new w (.int .i64 t.k) (.string t.s) v)
  rw [hl] at h ih
  obtain ⟨ao, cap, rfl, hc1, hc2, -⟩ := h.len
  obtain ⟨b, off, V, rfl, hel⟩ := h.elems (by simp)
  obtain ⟨h3, hsub, hss⟩ := hel 0 (by simp)
  simp only [List.getElem_cons_zero, Nat.zero_mul, Nat.add_zero] at h3 hsub hss
  have HC := Hid.mk (fun (w' : World) (hb : Below w.heap.size w w') => ih x (by simp) B (V 0) w' (hsub.grow hb) hss hxo (hT.grow hb))
  have H3 := Hid.mk h3
  obtain ⟨MX, hMX⟩ : ∃ M, x.endM s = M := ⟨_, rfl⟩
  rw [hMX] at HC HE HU
  obtain ⟨ts, hts'⟩ : ∃ ts, t.s = ts := ⟨_, rfl⟩
  obtain ⟨xk, hxk⟩ : ∃ tk, x.k = tk := ⟨_, rfl⟩
  obtain ⟨xs, hxs⟩ : ∃ ts, x.s = ts := ⟨_, rfl⟩
  rw [hk, hts'] at A0 HX
  rw [hxk, hxs] at HC H3
  rw [hk, hts', HE.out]
  have hcm : cap ≤ 9223372036854775807 := by unfold maxLen at hc2; omega
  have hc1' : 1 ≤ cap := by simpa using hc1
  clear h hts hok HE hMX hts' hxk hxs hel h3 hsub hss ih hl hxo hk hc1 hc2
  simp only [List.length_singleton] at A0 HX ⊢
  have x0 := HX.out.c0
  have x1 := HX.out.c1
  have x2 := HX.out.c2
  obtain ⟨y0, y1, y2⟩ := H3.out.grow A0
  go_enter Tryz.func47, Tryz.ntmps47
  go_wp2_with fail
  refine (HC.out _ A0).mono ?_
  rintro e w1 ⟨g1, rfl, hg1, hq1, hb1⟩
  have HQ1 := Hid.mk hq1
  have B1 := Hid.mk (A0.trans (hb1.mono (by simp)))
  clear x0 x1 x2 y0 y1 y2 hq1 hb1 A0 HC H3 HX
  have HSG := Hid.mk (endsOfSingle_any (.node 9 ByteArray.empty []) (.slice none 0 0) s hs w1)
  simp only [Tr.k, Tr.s] at HSG
  go_wp2_with fail
  refine HSG.out.mono ?_
  rintro e w2 ⟨g2, rfl, hg2, hq2, hb2⟩
  have B2 := Hid.mk (B1.out.trans (hb2.mono B1.out.size))
  have HOR := Hid.mk (oneOrOther_any s.size hs g1 g2 MX (mSing s 9 ByteArray.empty) w2 (HQ1.out.grow hb2) hq2)
  clear hq2 hb2 HSG HQ1 B1
  go_wp2_with fail
  refine HOR.out.mono ?_
  rintro e w3 ⟨g3, rfl, hg3, hq3, hb3⟩
  have HQ3 : Hid (Pq w3 g3 s.size (mAdd mSame MX)) := hq3.ext (fun i y hi _ => by
    rw [mSing_node s 9 ByteArray.empty [] (by omega) i y, ← opt_turned HU.out i y hi]
    rfl)
  have B3 := Hid.mk (B2.out.trans (hb3.mono B2.out.size))
  have hgl : w.heap.size ≤ g3 := Nat.le_trans B2.out.size hg3
  clear hq3 hb3 HOR B2
  go_wp2
  go_ret
  exact ⟨_, rfl, hgl, HQ3.out, B3.out⟩
end Go.Proofs.YtapniafhcagogaaGreatDoor

namespace Go.Proofs.YtapniafhcagogaaGreatDoor
open Go.RowKit Go.Shelf
set_option maxRecDepth 8000

set_option maxHeartbeats 2000000 in
theorem ends_cat (s : ByteArray) (hs : s.size ≤ 200) (t : Tr) (ih : ∀ x ∈ t.l, EeC s x) (hk : t.k = 4) : EeC s t := by
  intro B v w h hts hok hT
  have hall : ∀ x ∈ t.l, x.okT = true := by
    have := hok
    rw [okT_eq, Bool.and_eq_true, okL_iff] at this
    exact this.1
  obtain ⟨x, r, hl⟩ : ∃ x r, t.l = x :: r := by
    have := (okT_many' hok (by omega)).1
    match t.l, this with
    | x :: r, _ => exact ⟨x, r, rfl⟩
  have hr8 : r.length ≤ 8 := by have := (okT_many' hok (by omega)).2; rw [hl] at this; simp at this; omega
  have hr1 : 1 ≤ r.length := by have := (okT_many' hok (by omega)).1; rw [hl] at this; simp at this; omega
  have HE : Hid (EqM s.size ((r.map (Tr.endM s)).foldl (mThen s.size) (x.endM s)) (t.endM s)) := by
    show EqM _ _ _
    rw [endM_eq s t, nodeM, hk, hl]
    exact thens_first _ (UpM.tree s x)
  have HU := Hid.mk (fun (y : Tr) => UpM.tree s y)
  have A0 : Below w.heap.size w (w.alloc (.cells #[.int .i64 t.k, .string t.s, v] 26)) := (Below.refl _ _).alloc (Nat.le_refl _) _
  have HX := Hid.mk (Bz3.new w (.int .i64 t.k) (.string t.s) v)
  rw [hl] at h ih hall
  obtain ⟨ao, cap, rfl, hc1, hc2, -⟩ := h.len
  obtain ⟨b, off, V, rfl, hel⟩ := h.elems (by simp)
  obtain ⟨h3, hsub, hss⟩ := hel 0 (by simp)
  simp only [List.getElem_cons_zero, Nat.zero_mul, Nat.add_zero] at h3 hsub hss
  have HC := Hid.mk (fun (w' : World) (hb : Below w.heap.size w w') => ih x (by simp) B (V 0) w' (hsub.grow hb) hss (hall x (by simp)) (hT.grow hb))
  have HI := Hid.mk (fun (j : Nat) (hj : j < r.length) (w' : World) (hb : Below w.heap.size w w') => ih r[j] (by simp) B (V (j + 1)) w' ((hel (j + 1) (by simp; omega)).2.1.grow hb) (hel (j + 1) (by simp; omega)).2.2 (hall r[j] (by simp)) (hT.grow hb))
  have HLN : Hid (∀ j, j < r.length → ∃ av lv cv, V (j + 1) = .slice av lv cv) := fun j hj => by
    obtain ⟨a, c, h, -⟩ := (hel (j + 1) (by simp; omega)).2.1.len
    exact ⟨a, _, c, h⟩
  have HEL := Hid.mk (fun (j : Nat) (hj : j < r.length) (w' : World) (hb : Below w.heap.size w w') => (hel (j + 1) (by simp; omega)).1.grow hb)
  simp only [List.getElem_cons_succ] at HEL
  have H3 := Hid.mk h3
  obtain ⟨ts, hts'⟩ : ∃ ts, t.s = ts := ⟨_, rfl⟩
  obtain ⟨xk, hxk⟩ : ∃ tk, x.k = tk := ⟨_, rfl⟩
  obtain ⟨xs, hxs⟩ : ∃ ts, x.s = ts := ⟨_, rfl⟩
  obtain ⟨E, hE⟩ : ∃ E, t.endM s = E := ⟨_, rfl⟩
  rw [hE] at HE
  rw [hk, hts'] at A0 HX
  rw [hxk, hxs] at HC H3
  rw [hk, hts', hE]
  have hcm : cap ≤ 9223372036854775807 := by unfold maxLen at hc2; omega
  have hc1' : r.length + 1 ≤ cap := by simpa using hc1
  clear h hts hok hts' hxk hxs hel h3 hsub hss ih hall hl hk hc1 hc2 hE
  simp only [List.length_cons] at A0 HX ⊢
  obtain ⟨lr, hlr⟩ : ∃ lr, r.length = lr := ⟨_, rfl⟩
  have HLR := Hid.mk hlr
  rw [hlr] at hc1' hr8 hr1 A0 HX ⊢
  clear hlr
  have hcn : ¬ cap = 1 := by omega
  have x0 := HX.out.c0
  have x1 := HX.out.c1
  have x2 := HX.out.c2
  obtain ⟨y0, y1, y2⟩ := H3.out.grow A0
  go_enter Tryz.func47, Tryz.ntmps47
  go_wp2_with fail
  refine (HC.out _ A0).mono ?_
  rintro e w1 ⟨g1, rfl, hg1, hq1, hb1⟩
  have HQ1 := Hid.mk hq1
  have B1 := Hid.mk (A0.trans (hb1.mono (by simp)))
  have HX1 := Hid.mk (HX.out.grow hb1)
  have hgl1 : w.heap.size ≤ g1 := by simp at hg1; omega
  clear x0 x1 x2 y0 y1 y2 hq1 hb1 A0 HC H3 HX hg1
  have x0 := HX1.out.c0
  have x1 := HX1.out.c1
  have x2 := HX1.out.c2
  go_wp2
  clear x0 x1 x2
  go_loopw [5, 26] (fun o q wr => ∃ (k g : Nat), k ≤ lr ∧ q = .int .i64 k ∧ o = plS g s.size ∧ w.heap.size ≤ g ∧ Hid (Pq wr g s.size (((r.map (Tr.endM s)).take k).foldl (mThen s.size) (x.endM s))) ∧ Hid (Below w.heap.size w wr)) (fun _ q _ => lr - (intOf q).toNat)
  case atStart => exact ⟨0, g1, Nat.zero_le _, rfl, rfl, hgl1, HQ1, B1⟩
  case round =>
    obtain ⟨k, g, hkl, rfl, rfl, hgl, HQ, HB⟩ := hrel
    clear HQ1 HX1 B1 hgl1
    by_cases hlt : (k : Int) < (lr : Int)
    · have hkr : k < r.length := by have := HLR.out; omega
      obtain ⟨y0, y1, y2⟩ := HEL.out k hkr wr HB.out
      have HN : Hid (((r.map (Tr.endM s)).take (k + 1)).foldl (mThen s.size) (x.endM s) = mThen s.size (((r.map (Tr.endM s)).take k).foldl (mThen s.size) (x.endM s)) (r[k].endM s)) := by
        show _ = _
        rw [foldl_take_succ _ _ _ k (by simpa using hkr)]
        simp
      have hUP : UpM s.size (((r.map (Tr.endM s)).take k).foldl (mThen s.size) (x.endM s)) := UpM.thens _ (fun M hM => by
        obtain ⟨u, _, rfl⟩ := List.mem_map.1 (List.mem_of_mem_take hM)
        exact HU.out u) _ (HU.out x)
      have hUX : UpM s.size (r[k].endM s) := HU.out r[k]
      have HC := Hid.mk (HI.out k hkr)
      obtain ⟨av, lv, cv, hV⟩ := HLN.out k hkr
      rw [hV] at y2 HC
      clear hV
      obtain ⟨X, hX⟩ : ∃ X, r[k] = X := ⟨_, rfl⟩
      rw [hX] at y0 y1 HC HN hUX
      obtain ⟨xk, hxk⟩ : ∃ tk, X.k = tk := ⟨_, rfl⟩
      obtain ⟨xs, hxs⟩ : ∃ ts, X.s = ts := ⟨_, rfl⟩
      obtain ⟨MX, hMX⟩ : ∃ M, X.endM s = M := ⟨_, rfl⟩
      obtain ⟨P, hP⟩ : ∃ P, ((r.map (Tr.endM s)).take k).foldl (mThen s.size) (x.endM s) = P := ⟨_, rfl⟩
      rw [hxk] at y0
      rw [hxs] at y1
      rw [hxk, hxs, hMX] at HC
      rw [hMX, hP] at HN
      rw [hMX] at hUX
      rw [hP] at HQ hUP
      have HUP := Hid.mk hUP
      have HUX := Hid.mk hUX
      clear hX hxk hxs hMX hP hUP hUX
      rw [show off + (k + 1) * 3 = off + 3 + k * 3 by omega] at y0 y1 y2
      go_wp2_with fail
      have A1 : Below wr.heap.size wr (wr.alloc (.cells #[.int .i64 xk, .string xs, .slice av lv cv] 26)) := (Below.refl _ _).alloc (Nat.le_refl _) _
      refine (HC.out _ (HB.out.trans (A1.mono HB.out.size))).mono ?_
      rintro e w2 ⟨g2, rfl, hg2, hq2, hb2⟩
      have B2 := Hid.mk ((HB.out.trans (A1.mono HB.out.size)).trans (hb2.mono (by have := HB.out.size; simp; omega)))
      have HTH := Hid.mk (oneBehind_any s.size hs g g2 P MX HUP.out HUX.out w2 (hT.grow B2.out) ((HQ.out.grow A1).grow hb2) hq2)
      clear hq2 hb2 HC A1 HQ HB y0 y1 y2
      go_wp2_with fail
      refine HTH.out.mono ?_
      rintro e w3 ⟨g3, rfl, hg3, hq3, hb3⟩
      have HQ3 : Hid (Pq w3 g3 s.size (((r.map (Tr.endM s)).take (k + 1)).foldl (mThen s.size) (x.endM s))) := by
        show Pq _ _ _ _
        rw [HN.out]
        exact hq3
      have B3 := Hid.mk (B2.out.trans (hb3.mono B2.out.size))
      have hgl3 : w.heap.size ≤ g3 := Nat.le_trans B2.out.size hg3
      clear hq3 hb3 HTH B2 HN
      go_wp2
      go_roundw
      case rel => exact ⟨k + 1, g3, by omega, by go_num, rfl, hgl3, HQ3, B3⟩
      case measure => simp [intOf]; omega
    · have HQn : Hid (Pq wr g s.size E) := by
        have := HQ.out
        rw [List.take_of_length_le (by have := HLR.out; simp; omega)] at this
        exact this.ext (fun i y hi _ => HE.out i y hi)
      clear HQ
      go_wp2
      go_ret
      exact ⟨_, rfl, hgl, HQn.out, HB.out⟩

set_option maxHeartbeats 2000000 in
theorem ends_alt (s : ByteArray) (hs : s.size ≤ 200) (t : Tr) (ih : ∀ x ∈ t.l, EeC s x) (hk : t.k = 5) : EeC s t := by
  intro B v w h hts hok hT
  have hall : ∀ x ∈ t.l, x.okT = true := by
    have := hok
    rw [okT_eq, Bool.and_eq_true, okL_iff] at this
    exact this.1
  obtain ⟨x, r, hl⟩ : ∃ x r, t.l = x :: r := by
    have := (okT_many' hok (by omega)).1
    match t.l, this with
    | x :: r, _ => exact ⟨x, r, rfl⟩
  have hr8 : r.length ≤ 8 := by have := (okT_many' hok (by omega)).2; rw [hl] at this; simp at this; omega
  have hr1 : 1 ≤ r.length := by have := (okT_many' hok (by omega)).1; rw [hl] at this; simp at this; omega
  have HE : Hid (EqM s.size ((r.map (Tr.endM s)).foldl mAdd (x.endM s)) (t.endM s)) := by
    show EqM _ _ _
    rw [endM_eq s t, nodeM, hk, hl]
    exact adds_first _ (UpM.tree s x)
  have HU := Hid.mk (fun (y : Tr) => UpM.tree s y)
  have A0 : Below w.heap.size w (w.alloc (.cells #[.int .i64 t.k, .string t.s, v] 26)) := (Below.refl _ _).alloc (Nat.le_refl _) _
  have HX := Hid.mk (Bz3.new w (.int .i64 t.k) (.string t.s) v)
  rw [hl] at h ih hall
  obtain ⟨ao, cap, rfl, hc1, hc2, -⟩ := h.len
  obtain ⟨b, off, V, rfl, hel⟩ := h.elems (by simp)
  obtain ⟨h3, hsub, hss⟩ := hel 0 (by simp)
  simp only [List.getElem_cons_zero, Nat.zero_mul, Nat.add_zero] at h3 hsub hss
  have HC := Hid.mk (fun (w' : World) (hb : Below w.heap.size w w') => ih x (by simp) B (V 0) w' (hsub.grow hb) hss (hall x (by simp)) (hT.grow hb))
  have HI := Hid.mk (fun (j : Nat) (hj : j < r.length) (w' : World) (hb : Below w.heap.size w w') => ih r[j] (by simp) B (V (j + 1)) w' ((hel (j + 1) (by simp; omega)).2.1.grow hb) (hel (j + 1) (by simp; omega)).2.2 (hall r[j] (by simp)) (hT.grow hb))
  have HLN : Hid (∀ j, j < r.length → ∃ av lv cv, V (j + 1) = .slice av lv cv) := fun j hj => by
    obtain ⟨a, c, h, -⟩ := (hel (j + 1) (by simp; omega)).2.1.len
    exact ⟨a, _, c, h⟩
  have HEL := Hid.mk (fun (j : Nat) (hj : j < r.length) (w' : World) (hb : Below w.heap.size w w') => (hel (j + 1) (by simp; omega)).1.grow hb)
  simp only [List.getElem_cons_succ] at HEL
  have H3 := Hid.mk h3
  obtain ⟨ts, hts'⟩ : ∃ ts, t.s = ts := ⟨_, rfl⟩
  obtain ⟨xk, hxk⟩ : ∃ tk, x.k = tk := ⟨_, rfl⟩
  obtain ⟨xs, hxs⟩ : ∃ ts, x.s = ts := ⟨_, rfl⟩
  obtain ⟨E, hE⟩ : ∃ E, t.endM s = E := ⟨_, rfl⟩
  rw [hE] at HE
  rw [hk, hts'] at A0 HX
  rw [hxk, hxs] at HC H3
  rw [hk, hts', hE]
  have hcm : cap ≤ 9223372036854775807 := by unfold maxLen at hc2; omega
  have hc1' : r.length + 1 ≤ cap := by simpa using hc1
  clear h hts hok hts' hxk hxs hel h3 hsub hss ih hall hl hk hc1 hc2 hE
  simp only [List.length_cons] at A0 HX ⊢
  obtain ⟨lr, hlr⟩ : ∃ lr, r.length = lr := ⟨_, rfl⟩
  have HLR := Hid.mk hlr
  rw [hlr] at hc1' hr8 hr1 A0 HX ⊢
  clear hlr
  have hcn : ¬ cap = 1 := by omega
  have x0 := HX.out.c0
  have x1 := HX.out.c1
  have x2 := HX.out.c2
  obtain ⟨y0, y1, y2⟩ := H3.out.grow A0
  go_enter Tryz.func47, Tryz.ntmps47
  go_wp2_with fail
  refine (HC.out _ A0).mono ?_
  rintro e w1 ⟨g1, rfl, hg1, hq1, hb1⟩
  have HQ1 := Hid.mk hq1
  have B1 := Hid.mk (A0.trans (hb1.mono (by simp)))
  have HX1 := Hid.mk (HX.out.grow hb1)
  have hgl1 : w.heap.size ≤ g1 := by simp at hg1; omega
  clear x0 x1 x2 y0 y1 y2 hq1 hb1 A0 HC H3 HX hg1
  have x0 := HX1.out.c0
  have x1 := HX1.out.c1
  have x2 := HX1.out.c2
  go_wp2
  clear x0 x1 x2
  go_loopw [8, 49] (fun o q wr => ∃ (k g : Nat), k ≤ lr ∧ q = .int .i64 k ∧ o = plS g s.size ∧ w.heap.size ≤ g ∧ Hid (Pq wr g s.size (((r.map (Tr.endM s)).take k).foldl mAdd (x.endM s))) ∧ Hid (Below w.heap.size w wr)) (fun _ q _ => lr - (intOf q).toNat)
  case atStart => exact ⟨0, g1, Nat.zero_le _, rfl, rfl, hgl1, HQ1, B1⟩
  case round =>
    obtain ⟨k, g, hkl, rfl, rfl, hgl, HQ, HB⟩ := hrel
    clear HQ1 HX1 B1 hgl1
    by_cases hlt : (k : Int) < (lr : Int)
    · have hkr : k < r.length := by have := HLR.out; omega
      obtain ⟨y0, y1, y2⟩ := HEL.out k hkr wr HB.out
      have HN : Hid (((r.map (Tr.endM s)).take (k + 1)).foldl mAdd (x.endM s) = mAdd (((r.map (Tr.endM s)).take k).foldl mAdd (x.endM s)) (r[k].endM s)) := by
        show _ = _
        rw [foldl_take_succ _ _ _ k (by simpa using hkr)]
        simp
      have hUP : UpM s.size (((r.map (Tr.endM s)).take k).foldl mAdd (x.endM s)) := UpM.adds _ (fun M hM => by
        obtain ⟨u, _, rfl⟩ := List.mem_map.1 (List.mem_of_mem_take hM)
        exact HU.out u) _ (HU.out x)
      have hUX : UpM s.size (r[k].endM s) := HU.out r[k]
      have HC := Hid.mk (HI.out k hkr)
      obtain ⟨av, lv, cv, hV⟩ := HLN.out k hkr
      rw [hV] at y2 HC
      clear hV
      obtain ⟨X, hX⟩ : ∃ X, r[k] = X := ⟨_, rfl⟩
      rw [hX] at y0 y1 HC HN hUX
      obtain ⟨xk, hxk⟩ : ∃ tk, X.k = tk := ⟨_, rfl⟩
      obtain ⟨xs, hxs⟩ : ∃ ts, X.s = ts := ⟨_, rfl⟩
      obtain ⟨MX, hMX⟩ : ∃ M, X.endM s = M := ⟨_, rfl⟩
      obtain ⟨P, hP⟩ : ∃ P, ((r.map (Tr.endM s)).take k).foldl mAdd (x.endM s) = P := ⟨_, rfl⟩
      rw [hxk] at y0
      rw [hxs] at y1
      rw [hxk, hxs, hMX] at HC
      rw [hMX, hP] at HN
      rw [hMX] at hUX
      rw [hP] at HQ hUP
      have HUP := Hid.mk hUP
      have HUX := Hid.mk hUX
      clear hX hxk hxs hMX hP hUP hUX
      rw [show off + (k + 1) * 3 = off + 3 + k * 3 by omega] at y0 y1 y2
      go_wp2_with fail
      have A1 : Below wr.heap.size wr (wr.alloc (.cells #[.int .i64 xk, .string xs, .slice av lv cv] 26)) := (Below.refl _ _).alloc (Nat.le_refl _) _
      refine (HC.out _ (HB.out.trans (A1.mono HB.out.size))).mono ?_
      rintro e w2 ⟨g2, rfl, hg2, hq2, hb2⟩
      have B2 := Hid.mk ((HB.out.trans (A1.mono HB.out.size)).trans (hb2.mono (by have := HB.out.size; simp; omega)))
      have HTH := Hid.mk (oneOrOther_any s.size hs g g2 P MX w2 ((HQ.out.grow A1).grow hb2) hq2)
      clear hq2 hb2 HC A1 HQ HB y0 y1 y2
      go_wp2_with fail
      refine HTH.out.mono ?_
      rintro e w3 ⟨g3, rfl, hg3, hq3, hb3⟩
      have HQ3 : Hid (Pq w3 g3 s.size (((r.map (Tr.endM s)).take (k + 1)).foldl mAdd (x.endM s))) := by
        show Pq _ _ _ _
        rw [HN.out]
        exact hq3.ext (fun i y hi _ => (mAdd_or HUX.out i y hi).symm)
      have B3 := Hid.mk (B2.out.trans (hb3.mono B2.out.size))
      have hgl3 : w.heap.size ≤ g3 := Nat.le_trans B2.out.size hg3
      clear hq3 hb3 HTH B2 HN
      go_wp2
      go_roundw
      case rel => exact ⟨k + 1, g3, by omega, by go_num, rfl, hgl3, HQ3, B3⟩
      case measure => simp [intOf]; omega
    · have HQn : Hid (Pq wr g s.size E) := by
        have := HQ.out
        rw [List.take_of_length_le (by have := HLR.out; simp; omega)] at this
        exact this.ext (fun i y hi _ => HE.out i y hi)
      clear HQ
      go_wp2
      go_ret
      exact ⟨_, rfl, hgl, HQn.out, HB.out⟩

theorem endsEverywhere_any (s : ByteArray) (hs : s.size ≤ 200) : ∀ t : Tr, EeC s t := by
  apply Tr.ind
  intro t ih
  by_cases h1 : t.k = 1 ∨ t.k = 2 ∨ t.k = 3 ∨ t.k = 9 ∨ t.k = 10 ∨ t.k = 11
  · exact ends_leaf s hs t h1
  by_cases h4 : t.k = 4
  · exact ends_cat s hs t ih h4
  by_cases h5 : t.k = 5
  · exact ends_alt s hs t ih h5
  by_cases h6 : t.k = 6
  · exact ends_star s hs t ih h6
  by_cases h7 : t.k = 7
  · exact ends_plus s hs t ih h7
  by_cases h8 : t.k = 8
  · exact ends_opt s hs t ih h8
  · intro B v w h hts hok hT
    rw [okT_eq] at hok
    simp only [nodeB] at hok
    rw [if_neg (by omega), if_neg (by omega), if_neg (by omega), if_neg (by omega), if_neg (by omega)] at hok
    simp at hok
end Go.Proofs.YtapniafhcagogaaGreatDoor
