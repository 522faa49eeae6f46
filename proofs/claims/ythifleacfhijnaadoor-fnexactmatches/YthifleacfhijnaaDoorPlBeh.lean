/- One behind the other, the program's: an ordinary loop over ranges over the iterator. -/
import Derived.Test.YthifleacfhijnaaDoorPlLast
import Derived.Test.YthifleacfhijnaaDoorPlOr
import Derived.Test.YthifleacfhijnaaDoorPlRound
import Derived.Test.YthifleacfhijnaaDoorMatFold
namespace Go.Proofs.YthifleacfhijnaaDoor
open Go.RowKit Go.Shelf
set_option maxRecDepth 8000

attribute [local go_sem] Oper.semAt_some

/-- Row i as it grows. -/
def behU (n : Nat) (A B : Mat) (i : Nat) (pre : List Nat) : Mat := fun r y => if r = i then pre.any (fun m => B m y) else (mThen n A B r y && decide (r < i))

theorem own_cells {X Y : World} {row : Option Nat} {b : Nat} {o : Obj} (h : X.heap[b]? = some o) (ho : o.isCells = true) (hg : X.grownBy Y row) {B : Nat} (hr : ∀ r, row = some r → B ≤ r ∧ ∃ o : Obj, X.heap[r]? = some o ∧ o.isCells = false) : Y.heap[b]? = some o :=
  (hg.block b (Array.getElem?_eq_some_iff.1 h).1 (fun e => by
    obtain ⟨_, o', h1, h2⟩ := hr b e.symm
    rw [h] at h1
    cases h1
    rw [ho] at h2
    cases h2)).trans h

theorem Pq.owned {X Y : World} {row : Option Nat} {g n : Nat} {M : Mat} (h : Pq X g n M) (hg : X.grownBy Y row) {B : Nat} (hr : ∀ r, row = some r → B ≤ r ∧ ∃ o : Obj, X.heap[r]? = some o ∧ o.isCells = false) : Pq Y g n M := own_cells h rfl hg hr
theorem boxed_owned {X Y : World} {row : Option Nat} {g : Nat} {t : TypeId} {v : Value} (h : Boxed X g t v) (hg : X.grownBy Y row) {B : Nat} (hr : ∀ r, row = some r → B ≤ r ∧ ∃ o : Obj, X.heap[r]? = some o ∧ o.isCells = false) : Boxed Y g t v := own_cells h rfl hg hr

set_option maxRecDepth 100000 in
set_option maxHeartbeats 2000000 in
theorem oneBehind_any (n : Nat) (hn : n ≤ 200) (gf gs : Nat) (A B : Mat) (hUA : UpM n A) (hUB : UpM n B) (w : World) (hT : TabB w) (hA : Pq w gf n A) (hB : Pq w gs n B) :
    Calls Tryd.prog 60 #[plS gf n, plS gs n] w fun e w' => ∃ g, e = .returned (plS g n) ∧ w.heap.size ≤ g ∧ Pq w' g n (mThen n A B) ∧ Below w.heap.size w w' := by
  obtain ⟨ip, hip, hp0, hp1, hp2⟩ := info_parts infoPl
  have HA := Hid.mk hA
  have HB := Hid.mk hB
  obtain ⟨m, hm⟩ : ∃ m, n + 1 = m := ⟨_, rfl⟩
  have hmi : (n : Int) + 1 = (m : Int) := by omega
  have HM := Hid.mk hm
  have hm2 : m ≤ 201 := by omega
  clear hA hB
  unfold plS
  rw [hm]
  clear hm
  refine (callsIn_wide (n := 4)).1 ?_
  refine callsIn_of_wp_marks Tryd.func60 rfl trivial ?_ rfl
  simp only [Tryd.ntmps60, List.size_toArray, List.length_cons, List.length_nil, Nat.reduceAdd, Nat.reduceSub, Array.replicate_succ, Array.replicate_zero, List.push_toArray, List.append_toArray, List.nil_append, List.cons_append]
  have A0 : Below w.heap.size w (w.alloc (.cells #[.slice (some ⟨gs, 0, none⟩) m m] 64)) := (Below.refl _ _).alloc (Nat.le_refl _) _
  gi_wp2_with (gi_at_make; refine wpListIn_make_full _ rfl _ _ 64 rfl 0 63 ip _ 4 Tryd.underlying64 hip hp0 hp1 _ _ _ _ m rfl rfl rfl rfl (by rw [hp2]; omega) (by unfold maxLen; omega) (Nat.zero_le _) ?_)
  intro w1 hown hgrow
  have HQ1 : Hid (Pq w1 (w.heap.size + 1) n (fun _ _ => false)) := by
    have h := own_full4 hown
    rw [← HM.out] at h
    show Pq _ _ _ _
    unfold Pq
    rw [h]
    have := made_pl n
    rw [← this]
    rfl
  have B1 : Hid (Below w.heap.size w w1) := A0.grown hgrow A0.size (by simp)
  have X1 : Hid (Boxed w1 w.heap.size 64 (.slice (some ⟨gs, 0, none⟩) m m)) := (Boxed.new w _ _).kept hgrow (by simp)
  clear hown hgrow A0
  gi_wp2
  have Q2 : Hid (Pq (w1.alloc (.cells #[.slice (some ⟨w.heap.size + 1, 0, none⟩) m m] 64)) (w.heap.size + 1) n (fun x y => mThen n A B x y && decide (x < 0))) := (HQ1.out.grow ((Below.refl _ _).alloc (Nat.le_refl _) _)).ext (fun x y _ _ => by simp)
  have B2 : Hid (Below w.heap.size w (w1.alloc (.cells #[.slice (some ⟨w.heap.size + 1, 0, none⟩) m m] 64))) := B1.out.alloc B1.out.size _
  have X2 : Hid (Boxed (w1.alloc (.cells #[.slice (some ⟨w.heap.size + 1, 0, none⟩) m m] 64)) w.heap.size 64 (.slice (some ⟨gs, 0, none⟩) m m)) := X1.out.alloc _
  have Y2 : Hid (Boxed (w1.alloc (.cells #[.slice (some ⟨w.heap.size + 1, 0, none⟩) m m] 64)) w1.heap.size 64 (.slice (some ⟨w.heap.size + 1, 0, none⟩) m m)) := Boxed.new _ _ _
  have hb2 : w.heap.size + 1 < w1.heap.size := HQ1.out.lt
  generalize w1.alloc (.cells #[.slice (some ⟨w.heap.size + 1, 0, none⟩) m m] 64) = V0 at Q2 B2 X2 Y2 ⊢
  generalize w1.heap.size = b2 at Y2 hb2 ⊢
  clear HQ1 B1 X1
  refine wpIn_loop (fun a' W => ∃ (i : Nat) (u6 u7 u14 u15 u16 u17 u18 u19 u20 u21 u22 u23 u24 u25 u26 u27 u28 u29 u30 : Value) (ds : List Deferred), (i ≤ m ∧ Pq W (w.heap.size + 1) n (fun x y => mThen n A B x y && decide (x < i)) ∧ Below w.heap.size w W ∧ Boxed W w.heap.size 64 (.slice (some ⟨gs, 0, none⟩) m m) ∧ Boxed W b2 64 (.slice (some ⟨w.heap.size + 1, 0, none⟩) m m) ∧ Marks w.heap.size W ds) ∧
      a' = { tmps := #[.slice (some ⟨gf, 0, none⟩) m m, .slice (some ⟨gs, 0, none⟩) m m, undef, .pointer (some ⟨w.heap.size, 0, none⟩), .slice none 0 0, .pointer (some ⟨b2, 0, none⟩), u6, u7, .slice (some ⟨gf, 0, none⟩) m m, .int .i64 (m : Int), .slice (some ⟨w.heap.size + 1, 0, none⟩) m m, .slice (some ⟨w.heap.size + 1, 0, none⟩) m m, .int .i64 (m : Int), .int .i64 (i : Int), u14, u15, u16, u17, u18, u19, u20, u21, u22, u23, u24, u25, u26, u27, u28, u29, u30, undef], defers := ds }) (fun a' _ => m - (intOf (a'.tmps.getD 13 undef)).toNat) ?_ ?_
  · exact ⟨0, undef, undef, undef, undef, undef, undef, undef, undef, undef, undef, undef, undef, undef, undef, undef, undef, undef, undef, undef, [], ⟨Nat.zero_le _, Q2.out, B2.out, X2.out, Y2.out, .nil⟩, rfl⟩
  intro a' wr hinv
  obtain ⟨i, u6, u7, u14, u15, u16, u17, u18, u19, u20, u21, u22, u23, u24, u25, u26, u27, u28, u29, u30, ds, ⟨hi, hq, hB, hX, hY, hD⟩, rfl⟩ := hinv
  clear Q2 B2 X2 Y2
  have HQ := Hid.mk hq
  have HBr := Hid.mk hB
  have HX := Hid.mk hX
  have HY := Hid.mk hY
  have HD := Hid.mk hD
  clear hq hB hX hY hD
  by_cases him : (i : Int) < (m : Int)
  · have hil : i ≤ n := by have := HM.out; omega
    have A1 : Below wr.heap.size wr (wr.alloc (.cells #[.int .i64 (i : Int)] 3)) := (Below.refl _ _).alloc (Nat.le_refl _) _
    have qa := (HA.out.grow HBr.out).grow A1
    have a0 := qa.cell hil (show 0 < 4 by omega)
    have a1 := qa.cell hil (show 1 < 4 by omega)
    have a2 := qa.cell hil (show 2 < 4 by omega)
    have a3 := qa.cell hil (show 3 < 4 by omega)
    rw [Nat.add_zero] at a0
    clear qa A1
    dsimp only
    gi_wp2_with (refine ⟨trivial, ?_⟩; gi_at_call 42; refine (callsIn_wide.2 (all_any (A i) _)).mono ?_; rintro e w' ⟨rfl, rfl⟩)
    clear a0 a1 a2 a3
    have V1 : Below wr.heap.size wr (boxW (wr.alloc (.cells #[.int .i64 (i : Int)] 3)) (A i)) := ((Below.refl _ wr).alloc (Nat.le_refl _) _).alloc (by simp) _
    have Q1 := HQ.out.grow V1
    have X1 : Boxed (boxW (wr.alloc (.cells #[.int .i64 (i : Int)] 3)) (A i)) _ _ _ := (HX.out.alloc (.cells #[.int .i64 (i : Int)] 3)).alloc (.cells #[.int .u64 (wd (A i) 0 : Int), .int .u64 (wd (A i) 1 : Int), .int .u64 (wd (A i) 2 : Int), .int .u64 (wd (A i) 3 : Int)] 63)
    have Y1 : Boxed (boxW (wr.alloc (.cells #[.int .i64 (i : Int)] 3)) (A i)) _ _ _ := (HY.out.alloc (.cells #[.int .i64 (i : Int)] 3)).alloc (.cells #[.int .u64 (wd (A i) 0 : Int), .int .u64 (wd (A i) 1 : Int), .int .u64 (wd (A i) 2 : Int), .int .u64 (wd (A i) 3 : Int)] 63)
    have Z1 : Boxed (boxW (wr.alloc (.cells #[.int .i64 (i : Int)] 3)) (A i)) _ _ _ := (Boxed.new wr 3 (.int .i64 (i : Int))).alloc (.cells #[.int .u64 (wd (A i) 0 : Int), .int .u64 (wd (A i) 1 : Int), .int .u64 (wd (A i) 2 : Int), .int .u64 (wd (A i) 3 : Int)] 63)
    have C1 := boxW_cell (wr.alloc (.cells #[.int .i64 (i : Int)] 3)) (A i)
    rw [World.size_alloc] at C1
    have D1 : Marks w.heap.size (boxW (wr.alloc (.cells #[.int .i64 (i : Int)] 3)) (A i)) ds := HD.out.keeps (((KeepsOthers.alloc wr (.cells #[.int .i64 (i : Int)] 3)).trans (KeepsOthers.alloc _ (.cells #[.int .u64 (wd (A i) 0 : Int), .int .u64 (wd (A i) 1 : Int), .int .u64 (wd (A i) 2 : Int), .int .u64 (wd (A i) 3 : Int)] 63))).from w.heap.size)
    have B1 := HBr.out.trans (V1.mono HBr.out.size)
    have S1 : (boxW (wr.alloc (.cells #[.int .i64 (i : Int)] 3)) (A i)).heap.size = wr.heap.size + 2 := by simp
    have hb62 : b2 < wr.heap.size := HY.out.lt
    have hw6 : w.heap.size ≤ wr.heap.size := HBr.out.size
    generalize boxW (wr.alloc (.cells #[.int .i64 (i : Int)] 3)) (A i) = Wl at Q1 X1 Y1 Z1 C1 D1 B1 S1 ⊢
    generalize wr.heap.size = b6 at Z1 C1 S1 hb62 hw6 ⊢
    clear HQ HBr HX HY HD V1
    have hgsl : gs < w.heap.size := HB.out.lt
    refine wpIn_rangeFunc_ownF rfl (by omega) (gf := 64) (lb := #[.pointer (some ⟨b6 + 1, 0, none⟩)]) rfl trivial (enters_of Tryd.func64 (by kernel_rfl) rfl)
      (all_stopsF 3 (by omega) (b6 + 1) w.heap.size (A i) Wl (by omega) (by omega) C1 (fun w' hb => hT.grow (B1.trans hb))) belowK_t (belowK_b (by omega)) (Below.refl _ _) (fun _ => rfl)
      (fun pre W => (Pq W (w.heap.size + 1) n (behU n A B i (pre.map (·.1))) ∧ Boxed W w.heap.size 64 (.slice (some ⟨gs, 0, none⟩) m m) ∧ Boxed W b2 64 (.slice (some ⟨w.heap.size + 1, 0, none⟩) m m) ∧ Boxed W b6 3 (.int .i64 (i : Int))) ∧ Below w.heap.size w W ∧ KeepsFrom w.heap.size Wl W)
      (fun _ _ _ => False)
      (OwnFrom.and (fun s X Y row hs hg hr => ⟨hs.1.owned hg hr, boxed_owned hs.2.1 hg hr, boxed_owned hs.2.2.1 hg hr, boxed_owned hs.2.2.2 hg hr⟩) (OwnFrom.and (ownFrom_below (Nat.le_refl _) (by omega)) (ownFrom_keepsFrom (Nat.le_refl _))))
      (fun _ _ _ _ _ hs _ _ => hs)
      ⟨⟨Q1.ext (fun r y _ _ => by unfold behU; by_cases h : r = i <;> simp [h]), X1, Y1, Z1⟩, B1, KeepsFrom.refl _ _⟩
      (fun x => { tmps := #[.slice (some ⟨gf, 0, none⟩) m m, .slice (some ⟨gs, 0, none⟩) m m, undef, .pointer (some ⟨w.heap.size, 0, none⟩), .slice none 0 0, .pointer (some ⟨b2, 0, none⟩), .pointer (some ⟨b6, 0, none⟩), .int .i64 (x.1 : Int), .slice (some ⟨gf, 0, none⟩) m m, .int .i64 (m : Int), .slice (some ⟨w.heap.size + 1, 0, none⟩) m m, .slice (some ⟨w.heap.size + 1, 0, none⟩) m m, .int .i64 (m : Int), .int .i64 (i : Int), .bool true, .int .i64 (i : Int), .slice (some ⟨gf, 0, none⟩) m m, .int .i64 (i : Int), .pointer (some ⟨gf, i * 4, none⟩), aggW (A i), .func (.func 64) #[] #[.pointer (some ⟨b6 + 1, 0, none⟩)], .int .i64 (x.1 : Int), u22, u23, u24, u25, u26, u27, u28, u29, u30, undef], defers := [] }) ?assign ?body ?done ?stop
    case assign =>
      intro l x W K hK
      gi_wp2
      exact hK
    case body =>
      rintro l pre x W ⟨⟨hQ, hX, hY, hZ⟩, hB, hKF⟩ _
      have hx : x.1 ≤ n := (hUA i x.1 hil x.2).2
      have hxm : (x.1 : Int) < (m : Int) := by have := HM.out; omega
      have hlX := hX.lt
      have hlY := hY.lt
      have hlZ := hZ.lt
      have hlQ := hQ.lt
      have hnX : w.heap.size ≠ w.heap.size + 1 := by omega
      have hnY : b2 ≠ w.heap.size + 1 := by omega
      have hnZ : b6 ≠ w.heap.size + 1 := by omega
      have hqb := HB.out.grow hB
      have b0 := hqb.cell hx (show 0 < 4 by omega)
      have b1 := hqb.cell hx (show 1 < 4 by omega)
      have b2' := hqb.cell hx (show 2 < 4 by omega)
      have b3 := hqb.cell hx (show 3 < 4 by omega)
      rw [Nat.add_zero] at b0
      have HST : Hid (∀ r y, mOr (behU n A B i (pre.map (·.1))) i (B x.1) r y = behU n A B i ((pre ++ [x]).map (·.1)) r y) := fun r y => by
        unfold behU mOr
        by_cases h : r = i <;> simp [h]
      generalize behU n A B i (pre.map (·.1)) = Mp at hQ HST
      have hQd : Pq W.drew (w.heap.size + 1) n Mp := hQ
      have HAA := Hid.mk (addAll_any (w.heap.size + 1) (i * 4) (wd (Mp i)) (wd (B x.1)) (fun j _ => wd_lt _ _) (fun j _ => wd_lt _ _) W.drew (fun j hj => hQd.cell hil hj) (fun j _ => hQd.frozen _))
      have SS : ∀ b, b < W.heap.size → b ≠ w.heap.size + 1 → W.drew.heap[b]? = W.heap[b]? := fun _ _ _ => rfl
      refine wpIn_block ?_
      refine wpIn_region_held_round (S := fun w' => ∀ b, b < W.heap.size → b ≠ w.heap.size + 1 → w'.heap[b]? = W.heap[b]?) (by kernel_rfl) (by kernel_rfl) (by rintro ⟨_, _, h⟩; exact h) SS (fun _ => ?_)
      refine takeHD (i := 0) (v := .slice (some ⟨w.heap.size + 1, 0, none⟩) m m) (some 22) rfl rfl (by kernel_rfl) (by kernel_rfl) (by kernel_rfl) (fun _ _ _ h => h) (Or.inl ⟨by kernel_rfl, fun w' hw => ?_⟩) SS ?_
      · have e := World.cell?_of_block (a := ⟨b2, 0, none⟩) (hw _ hlY hnY); rw [hY.cell] at e; go_simp
      simp only [Act.put, List.setIfInBounds_toArray]
      refine takeHD (i := 1) (v := .int .i64 (i : Int)) (some 23) rfl rfl (by kernel_rfl) (by kernel_rfl) (by kernel_rfl) (fun _ _ _ h => h) (Or.inl ⟨by kernel_rfl, fun w' hw => ?_⟩) SS ?_
      · have e := World.cell?_of_block (a := ⟨b6, 0, none⟩) (hw _ hlZ hnZ); rw [hZ.cell] at e; go_simp
      simp only [Act.put, List.setIfInBounds_toArray]
      refine takeHD (i := 2) (v := .pointer (some ⟨w.heap.size + 1, i * 4, none⟩)) (some 24) rfl rfl (by kernel_rfl) (by kernel_rfl) (by kernel_rfl) (fun _ _ _ h => h) (Or.inl ⟨by kernel_rfl, fun w' hw => ?_⟩) SS ?_
      · first | (go_simp; done) | (go_simp; intro h; omega) | (go_simp; rw [IntKind.wrap_i64]; omega)
      simp only [Act.put, List.setIfInBounds_toArray]
      refine takeHD (i := 3) (v := .slice (some ⟨gs, 0, none⟩) m m) (some 25) rfl rfl (by kernel_rfl) (by kernel_rfl) (by kernel_rfl) (fun _ _ _ h => h) (Or.inl ⟨by kernel_rfl, fun w' hw => ?_⟩) SS ?_
      · have e := World.cell?_of_block (a := ⟨w.heap.size, 0, none⟩) (hw _ hlX hnX); rw [hX.cell] at e; go_simp
      simp only [Act.put, List.setIfInBounds_toArray]
      refine takeHD (i := 4) (v := .int .i64 (x.1 : Int)) (some 26) rfl rfl (by kernel_rfl) (by kernel_rfl) (by kernel_rfl) (fun _ _ _ h => h) (Or.inl ⟨by kernel_rfl, fun w' hw => ?_⟩) SS ?_
      · kernel_rfl
      simp only [Act.put, List.setIfInBounds_toArray]
      refine takeHD (i := 5) (v := .pointer (some ⟨gs, x.1 * 4, none⟩)) (some 27) rfl rfl (by kernel_rfl) (by kernel_rfl) (by kernel_rfl) (fun _ _ _ h => h) (Or.inl ⟨by kernel_rfl, fun w' hw => ?_⟩) SS ?_
      · first | (go_simp; done) | (go_simp; intro h; omega) | (go_simp; rw [IntKind.wrap_i64]; omega)
      simp only [Act.put, List.setIfInBounds_toArray]
      refine wpAnyH_ready (rs := [6]) (by kernel_rfl) (by simp) ?_
      refine AllReadyH.cons rfl (fun K hK => ?_) AllReadyH.nil
      rw [if_pos (by kernel_rfl)]
      go_wp2_with fail
      refine hK.out _ _ SS (fun _ => ?_)
      clear hK K b0 b1 b2' b3
      refine wpAnyH_ready (rs := [7]) (by kernel_rfl) (by simp) ?_
      refine AllReadyH.cons rfl (fun K hK => ?_) AllReadyH.nil
      rw [if_pos (by kernel_rfl)]
      go_wp2_with fail
      refine HAA.out.mono ?_
      rintro e w3 ⟨⟨u3, rfl⟩, q3, hw3⟩
      have A3 : Below W.drew.heap.size W.drew (W.drew.alloc (.cells #[.int .u64 (wd (B x.1) 0 : Int), .int .u64 (wd (B x.1) 1 : Int), .int .u64 (wd (B x.1) 2 : Int), .int .u64 (wd (B x.1) 3 : Int)] 63)) := (Below.refl _ _).alloc (Nat.le_refl _) _
      have hP2 := (hQd.grow A3).addAll hil (B x.1)
      have PN : Pq w3 (w.heap.size + 1) n (behU n A B i ((pre ++ [x]).map (·.1))) := by
        rw [hw3]
        exact (hP2.kept rfl).ext (fun r y _ _ => HST.out r y)
      have KB : ∀ b, b < W.heap.size → b ≠ w.heap.size + 1 → w3.heap[b]? = W.heap[b]? := fun b hb hne => by
        rw [hw3]
        exact (putK_block _ _ _ _ _ _ hne).trans (Below.heap_alloc W.drew _ b hb)
      have BW : Below w.heap.size W w3 := by
        rw [hw3]
        exact ((Below.drewSelf w.heap.size W 1).trans (A3.mono hB.size)).trans ((putK_below _ _ _ (by omega)).trans (Below.drewSelf _ _ _))
      have KO : KeepsOthers W w3 := ⟨BW.size, fun k o hk ho => (KB k (Array.getElem?_eq_some_iff.1 hk).1 (fun e => by
        subst e
        rw [show W.heap[w.heap.size + 1]? = _ from hQ] at hk
        cases hk
        cases ho)).trans hk⟩
      refine hK.out _ _ KB (fun _ => ?_)
      clear hK K A3 hP2 hw3 HAA
      refine wpAnyH_done (by kernel_rfl) ?_ _
      exact ⟨KO, BW, ⟨PN, (KB _ hlX hnX).trans hX, (KB _ hlY hnY).trans hY, (KB _ hlZ hnZ).trans hZ⟩, hB.trans BW, hKF.trans (KO.from _)⟩
    case done =>
      rintro D ys W hD hys ⟨⟨hQ, hX, hY, hZ⟩, hB, hKF⟩ hK
      have QN : Pq W (w.heap.size + 1) n (fun x y => mThen n A B x y && decide (x < i + 1)) := hQ.ext (fun r y hr _ => by
        rw [hys]
        unfold behU
        by_cases h : r = i
        · subst h
          rw [if_pos rfl, behind_done hUA hUB (by omega) r y hr]
          simp
        · rw [if_neg h, show decide (r < i + 1) = decide (r < i) from decide_eq_decide.2 (by omega)])
      have DN : Marks w.heap.size W ({ target := .collected D, args := #[] } :: ds) := .cons (by omega) hK (fun d hd e => by
        have := D1.lt d hd D e
        omega) (D1.keeps hKF)
      gi_wp2
      refine ⟨⟨i + 1, _, _, _, _, _, _, _, _, _, _, _, _, _, _, _, _, _, _, _, _, ⟨by omega, QN, hB, hX, hY, DN⟩, rfl⟩, ?_⟩
      simp [intOf]
      omega
    case stop =>
      rintro D c pre W _ _ h _
      exact h.elim
  · have hie : i = m := by omega
    subst hie
    have y0 := HY.out.cell
    have HQn : Hid (Pq wr (w.heap.size + 1) n (mThen n A B)) := HQ.out.ext (fun x y hx _ => by rw [decide_eq_true (by have := HM.out; omega), Bool.and_true])
    gi_wp2
    refine leaves_marks _ _ HD.out (fun W' hb hc => ?_)
    exact ⟨_, results_tmp rfl _ _ _, _, rfl, by omega, hc _ _ HQn.out rfl, HBr.out.trans hb⟩
end Go.Proofs.YthifleacfhijnaaDoor
