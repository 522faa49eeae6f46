/- As often as may be, the program's. -/
import Derived.Test.YthifleacfhijnaaDoorPlBeh
import Derived.Test.YthifleacfhijnaaDoorPlSingle
namespace Go.Proofs.YthifleacfhijnaaDoor
open Go.RowKit Go.Shelf
set_option maxRecDepth 8000

attribute [local go_sem] Oper.semAt_some

/-- Row i as it grows; those behind it are done. -/
def offU (n : Nat) (A : Mat) (i : Nat) (pre : List Nat) : Mat := fun r y => if r = i then oftU n A i pre y else (mMany n A r y && decide (i < r))

theorem offU_step {n : Nat} {A : Mat} {i x : Nat} {pre : List Nat} (hx : i ≤ x) (r y : Nat) : mOr (offU n A i pre) i (offU n A i pre x) r y = offU n A i (pre ++ [x]) r y := by
  unfold mOr
  by_cases h : r = i
  · subst h
    rw [if_pos rfl]
    by_cases h2 : x = r
    · subst h2
      simp only [offU, if_true]
      rw [oftU_own]
    · have h3 : r < x := by omega
      simp only [offU, if_true, if_neg h2, decide_eq_true h3, Bool.and_true]
      rw [oftU_step n A r pre x y h3]
  · simp only [if_neg h, offU]

theorem offU_start (n : Nat) (A : Mat) (p r y : Nat) : updM (fun x y => mMany n A x y && decide (p + 1 ≤ x)) p p true r y = offU n A p [] r y := by
  rw [updM_at]
  unfold offU
  rw [oftU_nil]
  by_cases h : r = p
  · subst h
    rw [if_pos rfl]
    by_cases hy : y = r
    · rw [if_pos ⟨rfl, hy⟩]; simp [hy]
    · rw [if_neg (fun e => hy e.2), decide_eq_false (by omega), Bool.and_false]; simp [hy]
  · rw [if_neg (fun e => h e.1), if_neg h]
    rfl

/-- How far the loop has to go. -/
def atM (a : Act) (W : World) : Nat := match a.tmps.getD 4 undef with
  | .pointer (some p) => (intOf ((W.cell? p).getD undef) + 1).toNat
  | _ => 0

set_option maxRecDepth 100000 in
set_option maxHeartbeats 2000000 in
theorem asOften_any (n : Nat) (hn : n ≤ 200) (gf : Nat) (A : Mat) (hUA : UpM n A) (w : World) (hT : TabB w) (hA : Pq w gf n A) :
    Calls Tryd.prog 62 #[plS gf n] w fun e w' => ∃ g, e = .returned (plS g n) ∧ w.heap.size ≤ g ∧ Pq w' g n (mMany n A) ∧ Below w.heap.size w w' := by
  obtain ⟨ip, hip, hp0, hp1, hp2⟩ := info_parts infoPl
  have HA := Hid.mk hA
  obtain ⟨m, hm⟩ : ∃ m, n + 1 = m := ⟨_, rfl⟩
  have hmi : (n : Int) + 1 = (m : Int) := by omega
  have HM := Hid.mk hm
  have hm2 : m ≤ 201 := by omega
  clear hA
  unfold plS
  rw [hm]
  clear hm
  refine (callsIn_wide (n := 4)).1 ?_
  refine callsIn_of_wp_marks Tryd.func62 rfl trivial ?_ rfl
  simp only [Tryd.ntmps62, List.size_toArray, List.length_cons, List.length_nil, Nat.reduceAdd, Nat.reduceSub, Array.replicate_succ, Array.replicate_zero, List.push_toArray, List.append_toArray, List.nil_append, List.cons_append]
  gi_wp2_with (gi_at_make; refine wpListIn_make_full _ rfl _ _ 64 rfl 0 63 ip _ 4 Tryd.underlying64 hip hp0 hp1 _ _ _ _ m rfl rfl rfl rfl (by rw [hp2]; omega) (by unfold maxLen; omega) (Nat.zero_le _) ?_)
  intro w1 hown hgrow
  have HQ1 : Hid (Pq w1 w.heap.size n (fun _ _ => false)) := by
    have h := own_full4 hown
    rw [← HM.out] at h
    show Pq _ _ _ _
    unfold Pq
    rw [h]
    have := made_pl n
    rw [← this]
    rfl
  have B1 : Hid (Below w.heap.size w w1) := (Below.refl _ _).grown hgrow (Nat.le_refl _) (by simp)
  clear hown hgrow
  gi_wp2
  have Q2 : Hid (Pq ((w1.alloc (.cells #[.slice (some ⟨w.heap.size, 0, none⟩) m m] 64)).alloc (.cells #[.int .i64 ((m : Int) - 1)] 3)) w.heap.size n (fun x y => mMany n A x y && decide (m ≤ x))) := (HQ1.out.grow (((Below.refl _ _).alloc (Nat.le_refl _) _).alloc (by simp) _)).ext (fun x y hx _ => by rw [decide_eq_false (by have := HM.out; omega)]; simp)
  have B2 : Hid (Below w.heap.size w ((w1.alloc (.cells #[.slice (some ⟨w.heap.size, 0, none⟩) m m] 64)).alloc (.cells #[.int .i64 ((m : Int) - 1)] 3))) := (B1.out.alloc B1.out.size _).alloc (by have := B1.out.size; simp; omega) _
  have Y2 : Hid (Boxed ((w1.alloc (.cells #[.slice (some ⟨w.heap.size, 0, none⟩) m m] 64)).alloc (.cells #[.int .i64 ((m : Int) - 1)] 3)) w1.heap.size 64 (.slice (some ⟨w.heap.size, 0, none⟩) m m)) := (Boxed.new _ _ _).alloc _
  have Z2 : Hid (Boxed ((w1.alloc (.cells #[.slice (some ⟨w.heap.size, 0, none⟩) m m] 64)).alloc (.cells #[.int .i64 ((m : Int) - 1)] 3)) (w1.heap.size + 1) 3 (.int .i64 ((m : Int) - 1))) := by
    have := Boxed.new (w1.alloc (.cells #[.slice (some ⟨w.heap.size, 0, none⟩) m m] 64)) 3 (.int .i64 ((m : Int) - 1))
    rw [World.size_alloc] at this
    exact this
  have hb1 : w.heap.size < w1.heap.size := HQ1.out.lt
  generalize (w1.alloc (.cells #[.slice (some ⟨w.heap.size, 0, none⟩) m m] 64)).alloc (.cells #[.int .i64 ((m : Int) - 1)] 3) = V0 at Q2 B2 Y2 Z2 ⊢
  generalize w1.heap.size = b1 at Y2 Z2 hb1 ⊢
  clear HQ1 B1
  refine wpIn_loop (fun a' W => ∃ (i b4 : Nat) (u5 u12 u13 u14 u15 u16 u17 u18 u19 u20 u21 u22 u23 u24 u25 u26 u27 u28 u29 u30 u31 u32 u33 u34 u35 : Value) (ds : List Deferred), (i ≤ m ∧ b1 < b4 ∧ Pq W w.heap.size n (fun x y => mMany n A x y && decide (i ≤ x)) ∧ Below w.heap.size w W ∧ Boxed W b1 64 (.slice (some ⟨w.heap.size, 0, none⟩) m m) ∧ Boxed W b4 3 (.int .i64 ((i : Int) - 1)) ∧ Marks w.heap.size W ds) ∧
      a' = { tmps := #[.slice (some ⟨gf, 0, none⟩) m m, undef, .slice none 0 0, .pointer (some ⟨b1, 0, none⟩), .pointer (some ⟨b4, 0, none⟩), u5, .slice (some ⟨gf, 0, none⟩) m m, .int .i64 (m : Int), .slice (some ⟨w.heap.size, 0, none⟩) m m, .slice (some ⟨w.heap.size, 0, none⟩) m m, .int .i64 (m : Int), .int .i64 ((m : Int) - 1), u12, u13, u14, u15, u16, u17, u18, u19, u20, u21, u22, u23, u24, u25, u26, u27, u28, u29, u30, u31, u32, u33, u34, u35, undef], defers := ds }) atM ?_ ?_
  · exact ⟨m, b1 + 1, undef, undef, undef, undef, undef, undef, undef, undef, undef, undef, undef, undef, undef, undef, undef, undef, undef, undef, undef, undef, undef, undef, undef, undef, undef, [], ⟨Nat.le_refl _, by omega, Q2.out, B2.out, Y2.out, Z2.out, .nil⟩, rfl⟩
  intro a' wr hinv
  obtain ⟨i, b4, u5, u12, u13, u14, u15, u16, u17, u18, u19, u20, u21, u22, u23, u24, u25, u26, u27, u28, u29, u30, u31, u32, u33, u34, u35, ds, ⟨hi, hb4, hq, hB, hY, hZ, hD⟩, rfl⟩ := hinv
  clear Q2 B2 Y2 Z2
  have HQ := Hid.mk hq
  have HBr := Hid.mk hB
  have HY := Hid.mk hY
  have HZ := Hid.mk hZ
  have HD := Hid.mk hD
  clear hq hB hY hZ hD
  have hme : ∀ ts ds', (∀ h : 4 < ts.size, ts[4] = .pointer (some ⟨b4, 0, none⟩)) → 4 < ts.size → atM { tmps := ts, defers := ds' } wr = i := by
    intro ts ds' h1 h2
    unfold atM
    rw [show (Act.mk ts ds').tmps.getD 4 undef = .pointer (some ⟨b4, 0, none⟩) by simp [h2, h1 h2]]
    simp only [HZ.out.cell, Option.getD_some, intOf]
    omega
  rw [hme _ _ (fun _ => rfl) (by simp)]
  clear hme
  by_cases hi0 : i = 0
  · subst hi0
    have y0 := HY.out.cell
    have z0 := HZ.out.cell
    have HQn : Hid (Pq wr w.heap.size n (mMany n A)) := HQ.out.ext (fun x y hx _ => by simp)
    simp only [Int.natCast_zero] at z0
    gi_wp2
    refine leaves_marks _ _ HD.out (fun W' hb hc => ?_)
    exact ⟨_, results_tmp rfl _ _ _, _, rfl, by omega, hc _ _ HQn.out rfl, HBr.out.trans hb⟩
  · obtain ⟨p, rfl⟩ : ∃ p, i = p + 1 := ⟨i - 1, by omega⟩
    clear hi0
    have hpn : p ≤ n := by have := HM.out; omega
    have hpm : (p : Int) < (m : Int) := by omega
    have z0 := HZ.out.cell
    rw [show ((p + 1 : Nat) : Int) - 1 = (p : Int) by omega] at z0
    have hlZ := HZ.out.lt
    have hlY := HY.out.lt
    have hnY : b1 ≠ w.heap.size := by omega
    have hnZ : b4 ≠ w.heap.size := by omega
    gi_wp2
    have hQd : Pq wr.drew w.heap.size n (fun x y => mMany n A x y && decide (p + 1 ≤ x)) := HQ.out
    have HAD := Hid.mk (addRow_any hQd (i := p) (a := p) hpn (by omega))
    have SS : ∀ b, b < wr.heap.size → b ≠ w.heap.size → wr.drew.heap[b]? = wr.heap[b]? := fun _ _ _ => rfl
    refine wpIn_wide.2 (wp_onlyN ?_)
    refine wp_region_held_drew (S := fun w' => ∀ b, b < wr.heap.size → b ≠ w.heap.size → w'.heap[b]? = wr.heap[b]?) (by kernel_rfl) SS (fun _ => ?_)
    refine takeHD (i := 0) (v := .slice (some ⟨w.heap.size, 0, none⟩) m m) (some 16) rfl rfl (by kernel_rfl) (by kernel_rfl) (by kernel_rfl) (fun _ _ _ h => h) (Or.inl ⟨by kernel_rfl, fun w' hw => ?_⟩) SS ?_
    · have e := World.cell?_of_block (a := ⟨b1, 0, none⟩) (hw _ hlY hnY); rw [HY.out.cell] at e; go_simp
    simp only [Act.put, List.setIfInBounds_toArray]
    refine takeHD (i := 1) (v := .int .i64 (p : Int)) (some 17) rfl rfl (by kernel_rfl) (by kernel_rfl) (by kernel_rfl) (fun _ _ _ h => h) (Or.inl ⟨by kernel_rfl, fun w' hw => ?_⟩) SS ?_
    · have e := World.cell?_of_block (a := ⟨b4, 0, none⟩) (hw _ hlZ hnZ); rw [z0] at e; go_simp
    simp only [Act.put, List.setIfInBounds_toArray]
    refine takeHD (i := 2) (v := .pointer (some ⟨w.heap.size, p * 4, none⟩)) (some 18) rfl rfl (by kernel_rfl) (by kernel_rfl) (by kernel_rfl) (fun _ _ _ h => h) (Or.inl ⟨by kernel_rfl, fun w' hw => ?_⟩) SS ?_
    · first | (go_simp; done) | (go_simp; intro h; omega) | (go_simp; rw [IntKind.wrap_i64]; omega)
    simp only [Act.put, List.setIfInBounds_toArray]
    refine takeHD (i := 3) (v := .int .i64 (p : Int)) (some 19) rfl rfl (by kernel_rfl) (by kernel_rfl) (by kernel_rfl) (fun _ _ _ h => h) (Or.inl ⟨by kernel_rfl, fun w' hw => ?_⟩) SS ?_
    · have e := World.cell?_of_block (a := ⟨b4, 0, none⟩) (hw _ hlZ hnZ); rw [z0] at e; go_simp
    simp only [Act.put, List.setIfInBounds_toArray]
    refine wpAnyH_ready (rs := [4]) (by kernel_rfl) (by simp) ?_
    refine AllReadyH.cons rfl (fun K hK => ?_) AllReadyH.nil
    rw [if_pos (by kernel_rfl)]
    go_wp2_with fail
    refine HAD.out.mono ?_
    rintro e w3 ⟨⟨u3, rfl⟩, hP3, hB3, ho3⟩
    have KB : ∀ b, b < wr.heap.size → b ≠ w.heap.size → w3.heap[b]? = wr.heap[b]? := fun b _ hne => ho3 b hne
    have Q3 : Pq w3 w.heap.size n (offU n A p []) := hP3.ext (fun r y _ _ => offU_start n A p r y)
    have Y3 : Boxed w3 b1 64 (.slice (some ⟨w.heap.size, 0, none⟩) m m) := (KB _ hlY hnY).trans HY.out
    have Z3 : Boxed w3 b4 3 (.int .i64 (p : Int)) := by
      have h := (KB _ hlZ hnZ).trans HZ.out
      rw [show ((p + 1 : Nat) : Int) - 1 = (p : Int) by omega] at h
      exact h
    have B3 : Below w.heap.size w w3 := HBr.out.trans ((Below.drewSelf w.heap.size wr 1).trans hB3)
    have D3 : Marks w.heap.size w3 ds := HD.out.keeps ⟨by have := hB3.size; exact this, fun k o _ hk ho => (KB k (Array.getElem?_eq_some_iff.1 hk).1 (fun e => by
        subst e
        rw [show wr.heap[w.heap.size]? = _ from HQ.out] at hk
        cases hk
        cases ho)).trans hk⟩
    refine hK.out _ _ KB (fun _ => ?_)
    clear hK K HAD hP3 hB3 ho3 KB SS hQd z0 hlZ hlY HQ HBr HY HZ HD
    refine wpAnyH_done (by kernel_rfl) ?_ _
    dsimp only [OnlyN]
    have qa := HA.out.grow B3
    have a0 := qa.cell hpn (show 0 < 4 by omega)
    have a1 := qa.cell hpn (show 1 < 4 by omega)
    have a2 := qa.cell hpn (show 2 < 4 by omega)
    have a3 := qa.cell hpn (show 3 < 4 by omega)
    rw [Nat.add_zero] at a0
    have z0 := Z3.cell
    clear qa
    gi_wp2_with (refine ⟨trivial, ?_⟩; gi_at_call 42; refine (callsIn_wide.2 (all_any (A p) _)).mono ?_; rintro e w' ⟨rfl, rfl⟩)
    clear a0 a1 a2 a3 z0
    have V1 : Below w3.heap.size w3 (boxW w3 (A p)) := (Below.refl _ w3).alloc (Nat.le_refl _) _
    have Q4 := Q3.grow V1
    have Y4 : Boxed (boxW w3 (A p)) _ _ _ := Y3.alloc (.cells #[.int .u64 (wd (A p) 0 : Int), .int .u64 (wd (A p) 1 : Int), .int .u64 (wd (A p) 2 : Int), .int .u64 (wd (A p) 3 : Int)] 63)
    have Z4 : Boxed (boxW w3 (A p)) _ _ _ := Z3.alloc (.cells #[.int .u64 (wd (A p) 0 : Int), .int .u64 (wd (A p) 1 : Int), .int .u64 (wd (A p) 2 : Int), .int .u64 (wd (A p) 3 : Int)] 63)
    have C4 := boxW_cell w3 (A p)
    have D4 : Marks w.heap.size (boxW w3 (A p)) ds := D3.keeps ((KeepsOthers.alloc w3 (.cells #[.int .u64 (wd (A p) 0 : Int), .int .u64 (wd (A p) 1 : Int), .int .u64 (wd (A p) 2 : Int), .int .u64 (wd (A p) 3 : Int)] 63)).from w.heap.size)
    have B4 := B3.trans (V1.mono B3.size)
    have S4 : (boxW w3 (A p)).heap.size = w3.heap.size + 1 := by simp
    have hb47 : b4 < w3.heap.size := Z3.lt
    generalize boxW w3 (A p) = Wl at Q4 Y4 Z4 C4 D4 B4 S4 ⊢
    generalize w3.heap.size = b7 at C4 S4 hb47 ⊢
    clear Q3 Y3 Z3 B3 D3 V1
    have hSEQ := all_stopsF 3 (by omega) b7 w.heap.size (A p) Wl (by omega) (by omega) C4 (fun w' hb => hT.grow (B4.trans hb))
    obtain ⟨II, hII⟩ : ∃ II : List { x : Nat // A p x = true } → World → Prop, II = fun pre W => (Pq W w.heap.size n (offU n A p (pre.map (·.1))) ∧ Boxed W b1 64 (.slice (some ⟨w.heap.size, 0, none⟩) m m) ∧ Boxed W b4 3 (.int .i64 (p : Int))) ∧ Below w.heap.size w W ∧ KeepsFrom w.heap.size Wl W := ⟨_, rfl⟩
    have hII' : ∀ pre W, II pre W ↔ (Pq W w.heap.size n (offU n A p (pre.map (·.1))) ∧ Boxed W b1 64 (.slice (some ⟨w.heap.size, 0, none⟩) m m) ∧ Boxed W b4 3 (.int .i64 (p : Int))) ∧ Below w.heap.size w W ∧ KeepsFrom w.heap.size Wl W := fun pre W => by rw [hII]
    clear hII
    have hOWN : OwnFrom Wl.heap.size II := by
      intro s X Y row hs hg hr
      obtain ⟨⟨h1, h2, h3⟩, h4, h5⟩ := (hII' _ _).1 hs
      exact (hII' _ _).2 ⟨⟨h1.owned hg hr, boxed_owned h2 hg hr, boxed_owned h3 hg hr⟩, ownFrom_below (w₀ := w) (Nat.le_refl w.heap.size) (show w.heap.size ≤ Wl.heap.size by omega) s X Y row h4 hg hr, ownFrom_keepsFrom (Nat.le_refl _) s X Y row h5 hg hr⟩
    have h00 : II [] Wl := (hII' _ _).2 ⟨⟨Q4, Y4, Z4⟩, B4, KeepsFrom.refl _ _⟩
    refine wpIn_rangeFunc_ownF rfl (by omega) (gf := 64) (lb := #[.pointer (some ⟨b7, 0, none⟩)]) rfl trivial (enters_of Tryd.func64 (by kernel_rfl) rfl)
      hSEQ belowK_t (belowK_b (by omega)) (Below.refl _ _) (fun _ => rfl) II (fun _ _ _ => False) hOWN (fun _ _ _ _ _ hs _ _ => hs) h00
      (fun x => { tmps := #[.slice (some ⟨gf, 0, none⟩) m m, undef, .slice none 0 0, .pointer (some ⟨b1, 0, none⟩), .pointer (some ⟨b4, 0, none⟩), .int .i64 (x.1 : Int), .slice (some ⟨gf, 0, none⟩) m m, .int .i64 (m : Int), .slice (some ⟨w.heap.size, 0, none⟩) m m, .slice (some ⟨w.heap.size, 0, none⟩) m m, .int .i64 (m : Int), .int .i64 ((m : Int) - 1), .int .i64 (p : Int), .bool true, u14, u15, .slice (some ⟨w.heap.size, 0, none⟩) m m, .int .i64 (p : Int), .pointer (some ⟨w.heap.size, p * 4, none⟩), .int .i64 (p : Int), u3, .slice (some ⟨gf, 0, none⟩) m m, .int .i64 (p : Int), .pointer (some ⟨gf, p * 4, none⟩), aggW (A p), .func (.func 64) #[] #[.pointer (some ⟨b7, 0, none⟩)], .int .i64 (x.1 : Int), u27, u28, u29, u30, u31, u32, u33, u34, u35, undef], defers := [] }) ?assign ?body ?done ?stop
    case assign =>
      intro l x W K hK
      gi_wp2
      exact hK
    case body =>
      intro l pre x W hi _
      obtain ⟨⟨hQ, hY, hZ⟩, hB, hKF⟩ := (hII' _ _).1 hi
      have hxp := hUA p x.1 hpn x.2
      have hx : x.1 ≤ n := hxp.2
      have hxm : (x.1 : Int) < (m : Int) := by have := HM.out; omega
      have hlY := hY.lt
      have hlZ := hZ.lt
      have HST := Hid.mk (fun r y => offU_step (n := n) (A := A) (pre := pre.map (·.1)) hxp.1 r y)
      have hmap : pre.map (·.1) ++ [x.1] = (pre ++ [x]).map (·.1) := by simp
      rw [hmap] at HST
      clear hmap
      generalize offU n A p (pre.map (·.1)) = Mp at hQ HST
      have b0 := hQ.cell hx (show 0 < 4 by omega)
      have b1' := hQ.cell hx (show 1 < 4 by omega)
      have b2 := hQ.cell hx (show 2 < 4 by omega)
      have b3 := hQ.cell hx (show 3 < 4 by omega)
      rw [Nat.add_zero] at b0
      have hQd : Pq W.drew w.heap.size n Mp := hQ
      have HAA := Hid.mk (addAll_any w.heap.size (p * 4) (wd (Mp p)) (wd (Mp x.1)) (fun j _ => wd_lt _ _) (fun j _ => wd_lt _ _) W.drew (fun j hj => hQd.cell hpn hj) (fun j _ => hQd.frozen _))
      have SS : ∀ b, b < W.heap.size → b ≠ w.heap.size → W.drew.heap[b]? = W.heap[b]? := fun _ _ _ => rfl
      refine wpIn_block ?_
      refine wpIn_region_held_round (S := fun w' => ∀ b, b < W.heap.size → b ≠ w.heap.size → w'.heap[b]? = W.heap[b]?) (by kernel_rfl) (by kernel_rfl) (by rintro ⟨_, _, h⟩; exact h) SS (fun _ => ?_)
      refine takeHD (i := 0) (v := .slice (some ⟨w.heap.size, 0, none⟩) m m) (some 27) rfl rfl (by kernel_rfl) (by kernel_rfl) (by kernel_rfl) (fun _ _ _ h => h) (Or.inl ⟨by kernel_rfl, fun w' hw => ?_⟩) SS ?_
      · have e := World.cell?_of_block (a := ⟨b1, 0, none⟩) (hw _ hlY hnY); rw [hY.cell] at e; go_simp
      simp only [Act.put, List.setIfInBounds_toArray]
      refine takeHD (i := 1) (v := .int .i64 (p : Int)) (some 28) rfl rfl (by kernel_rfl) (by kernel_rfl) (by kernel_rfl) (fun _ _ _ h => h) (Or.inl ⟨by kernel_rfl, fun w' hw => ?_⟩) SS ?_
      · have e := World.cell?_of_block (a := ⟨b4, 0, none⟩) (hw _ hlZ hnZ); rw [hZ.cell] at e; go_simp
      simp only [Act.put, List.setIfInBounds_toArray]
      refine takeHD (i := 2) (v := .pointer (some ⟨w.heap.size, p * 4, none⟩)) (some 29) rfl rfl (by kernel_rfl) (by kernel_rfl) (by kernel_rfl) (fun _ _ _ h => h) (Or.inl ⟨by kernel_rfl, fun w' hw => ?_⟩) SS ?_
      · first | (go_simp; done) | (go_simp; intro h; omega) | (go_simp; rw [IntKind.wrap_i64]; omega)
      simp only [Act.put, List.setIfInBounds_toArray]
      refine takeHD (i := 3) (v := .slice (some ⟨w.heap.size, 0, none⟩) m m) (some 30) rfl rfl (by kernel_rfl) (by kernel_rfl) (by kernel_rfl) (fun _ _ _ h => h) (Or.inl ⟨by kernel_rfl, fun w' hw => ?_⟩) SS ?_
      · have e := World.cell?_of_block (a := ⟨b1, 0, none⟩) (hw _ hlY hnY); rw [hY.cell] at e; go_simp
      simp only [Act.put, List.setIfInBounds_toArray]
      refine takeHD (i := 4) (v := .int .i64 (x.1 : Int)) (some 31) rfl rfl (by kernel_rfl) (by kernel_rfl) (by kernel_rfl) (fun _ _ _ h => h) (Or.inl ⟨by kernel_rfl, fun w' hw => ?_⟩) SS ?_
      · kernel_rfl
      simp only [Act.put, List.setIfInBounds_toArray]
      refine takeHD (i := 5) (v := .pointer (some ⟨w.heap.size, x.1 * 4, none⟩)) (some 32) rfl rfl (by kernel_rfl) (by kernel_rfl) (by kernel_rfl) (fun _ _ _ h => h) (Or.inl ⟨by kernel_rfl, fun w' hw => ?_⟩) SS ?_
      · first | (go_simp; done) | (go_simp; intro h; omega) | (go_simp; rw [IntKind.wrap_i64]; omega)
      simp only [Act.put, List.setIfInBounds_toArray]
      refine wpAnyH_ready (rs := [6]) (by kernel_rfl) (by simp) ?_
      refine AllReadyH.cons rfl (fun K hK => ?_) AllReadyH.nil
      rw [if_pos (by kernel_rfl)]
      go_wp2_with fail
      refine hK.out _ _ SS (fun _ => ?_)
      clear hK K b0 b1' b2 b3
      refine wpAnyH_ready (rs := [7]) (by kernel_rfl) (by simp) ?_
      refine AllReadyH.cons rfl (fun K hK => ?_) AllReadyH.nil
      rw [if_pos (by kernel_rfl)]
      go_wp2_with fail
      refine HAA.out.mono ?_
      rintro e w3 ⟨⟨u3, rfl⟩, q3, hw3⟩
      have A3 : Below W.drew.heap.size W.drew (W.drew.alloc (.cells #[.int .u64 (wd (Mp x.1) 0 : Int), .int .u64 (wd (Mp x.1) 1 : Int), .int .u64 (wd (Mp x.1) 2 : Int), .int .u64 (wd (Mp x.1) 3 : Int)] 63)) := (Below.refl _ _).alloc (Nat.le_refl _) _
      have hP2 := (hQd.grow A3).addAll hpn (Mp x.1)
      have PN : Pq w3 w.heap.size n (offU n A p ((pre ++ [x]).map (·.1))) := by
        rw [hw3]
        exact (hP2.kept rfl).ext (fun r y _ _ => HST.out r y)
      have KB : ∀ b, b < W.heap.size → b ≠ w.heap.size → w3.heap[b]? = W.heap[b]? := fun b hb hne => by
        rw [hw3]
        exact (putK_block _ _ _ _ _ _ hne).trans (Below.heap_alloc W.drew _ b hb)
      have BW : Below w.heap.size W w3 := by
        rw [hw3]
        exact ((Below.drewSelf w.heap.size W 1).trans (A3.mono hB.size)).trans ((putK_below _ _ _ (Nat.le_refl _)).trans (Below.drewSelf _ _ _))
      have KO : KeepsOthers W w3 := ⟨BW.size, fun k o hk ho => (KB k (Array.getElem?_eq_some_iff.1 hk).1 (fun e => by
        subst e
        rw [show W.heap[w.heap.size]? = _ from hQ] at hk
        cases hk
        cases ho)).trans hk⟩
      refine hK.out _ _ KB (fun _ => ?_)
      clear hK K A3 hP2 hw3 HAA
      refine wpAnyH_done (by kernel_rfl) ?_ _
      exact ⟨KO, BW, (hII' _ _).2 ⟨⟨PN, (KB _ hlY hnY).trans hY, (KB _ hlZ hnZ).trans hZ⟩, hB.trans BW, hKF.trans (KO.from _)⟩⟩
    case done =>
      intro D ys W hD hys hi hK
      obtain ⟨⟨hQ, hY, hZ⟩, hB, hKF⟩ := (hII' _ _).1 hi
      have QN : Pq W w.heap.size n (fun x y => mMany n A x y && decide (p ≤ x)) := hQ.ext (fun r y hr _ => by
        rw [hys]
        unfold offU
        by_cases h : r = p
        · subst h
          rw [if_pos rfl, oftU_done hUA (by omega) r y hr]
          simp
        · rw [if_neg h, show decide (p < r) = decide (p ≤ r) from decide_eq_decide.2 (by omega)])
      have DN : Marks w.heap.size W ({ target := .collected D, args := #[] } :: ds) := .cons (by omega) hK (fun d hd e => by
        have := D4.lt d hd D e
        omega) (D4.keeps hKF)
      have z0 := hZ.cell
      gi_wp2
      have AW : Below W.heap.size W (W.alloc (.cells #[.int .i64 ((p : Int) - 1)] 3)) := (Below.refl _ _).alloc (Nat.le_refl _) _
      have ZN := Boxed.new W 3 (.int .i64 ((p : Int) - 1))
      refine ⟨⟨p, by omega, hY.lt, QN.grow AW, hB.trans (AW.mono hB.size), hY.alloc _, ZN, DN.keeps ((KeepsOthers.alloc W _).from _)⟩, ?_⟩
      have hz := ZN.cell
      simp only [atM, Array.getD_eq_getD_getElem?]
      simp [hz, intOf]
    case stop =>
      rintro D c pre W _ _ h _
      exact h.elim
end Go.Proofs.YthifleacfhijnaaDoor
