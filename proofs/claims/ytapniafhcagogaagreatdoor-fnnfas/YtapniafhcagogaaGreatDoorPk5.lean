/- The program's layPart: every right expression; the machine of one: NfaOf of the program. Nodes of an answer of the call's own, marked and held by the laws. The lowest place of a word: TrailingZeros64 at the library's table; a word without its lowest place. The places of a set, ascending: the iterator's contract. The last place of a set: a range over the iterator. A region that draws its order, within a round of a range over a function; marks of rounds that are over. -/
import Derived.Test.YtapniafhcagogaaGreatDoorPk4
import Derived.Test.YtapniafhcagogaaGreatDoorPk3
import Derived.Laws.Cover3
import Derived.Test.YtapniafhcagogaaGreatDoorPk2
import Derived.Test.YtapniafhcagogaaGreatDoorMatThenM
import Derived.Shelf.Spec.TrailingZeros
import Derived.Lib.AppendIntMem
import Derived.Lib.LaidTab
import Derived.Test.YtapniafhcagogaaGreatDoorSpecRow
import Derived.RangeFuncNested
import Derived.RangeFuncBound
import Derived.RangeFuncCalls
import Derived.RangeFuncLeaves
import Derived.Shelf.Abstract
import Derived.Shelf.RegionOpen
import Derived.WalkKit
import Derived.OwnWalkIn
import Derived.TacticsInMore
import Derived.LoopNIn
import Derived.LoopIn
import Derived.Test.YtapniafhcagogaaGreatDoorTake
import Derived.OrdersIn
namespace Go.Proofs.YtapniafhcagogaaGreatDoor
open Go.RowKit
set_option maxRecDepth 8000

set_option maxHeartbeats 2000000 in
theorem arrPart_5 (t : Tr) (hk : t.k = 5) (ih : ∀ x ∈ t.l, ApC x) : ApC t := by
  intro B v g N w hA h hB hok hn
  have hlay := lay_eq t N.length
  rw [if_neg (by omega), if_neg (by omega), if_neg (by omega), if_neg (by omega), if_pos hk] at hlay
  have hnsz := nsz_eq t
  rw [if_neg (by omega), if_pos hk] at hnsz
  rw [hlay]
  have h8 := okT_two hok (.inr hk)
  have hkids := okT_kids hok
  obtain ⟨ao, cap, rfl, hl1, hl2, -⟩ := h.len
  have X0 := Hid.mk (Bz3.new w (.int .i64 t.k) (.string t.s) (.slice ao t.l.length cap))
  have A0 : Hid (Below w.heap.size w (w.alloc (.cells #[.int .i64 t.k, .string t.s, .slice ao t.l.length cap] 26))) := (Below.refl _ _).alloc (Nat.le_refl _) _
  have HR := h.grow A0.out
  have HC := Hid.mk (arrChoices_any t.l ih hkids h8.1 h8.2 B _ g N _ (hA.grow A0.out) HR hB (by omega))
  rw [hk] at X0 A0 HC ⊢
  generalize t.s = ts at *
  generalize t.l = l at *
  have x0 := X0.out.c0
  have x2 := X0.out.c2
  clear hlay hA h hk hok ih hnsz HR hkids hl2
  go_enter Tryz.func16, Tryz.ntmps16
  go_wp2_with fail
  refine HC.out.mono ?_
  rintro e w1 ⟨⟨q, rfl⟩, h1, m1⟩
  have H1 := Hid.mk h1
  have M1 := Hid.mk ((Mkd.below A0.out).trans m1)
  clear h1 m1 HC A0 X0 x0 x2
  go_wp2
  refine bodyPost_end (v := .tuple #[]) (by simp [results, Tryz.results16, go_sem]) rfl ⟨⟨_, rfl⟩, H1.out, M1.out⟩

/-- layPart of the program: a right part is laid behind the nodes. -/
theorem arrPart_any : ∀ t : Tr, ApC t := Tr.ind fun t ih => by
  intro B v g N w hA h hB hok hn
  rcases okT_kinds hok with hk | hk | hk | hk | hk | hk | hk | hk | hk | hk | hk
  · exact arrPart_1 t hk B v g N w hA h hB hok hn
  · exact arrPart_2 t hk B v g N w hA h hB hok hn
  · exact arrPart_3 t hk B v g N w hA h hB hok hn
  · exact arrPart_4 t hk ih B v g N w hA h hB hok hn
  · exact arrPart_5 t hk ih B v g N w hA h hB hok hn
  · exact arrPart_6 t hk ih B v g N w hA h hB hok hn
  · exact arrPart_7 t hk ih B v g N w hA h hB hok hn
  · exact arrPart_8 t hk ih B v g N w hA h hB hok hn
  · exact arrPart_9 t hk B v g N w hA h hB hok hn
  · exact arrPart_10 t hk B v g N w hA h hB hok hn
  · exact arrPart_11 t hk B v g N w hA h hB hok hn

theorem zeroArr : Tryz.zeroCells46 = (arC []).toArray := by kernel_rfl
theorem newArr (w : World) : AB (w.alloc (.cells Tryz.zeroCells46 46)) w.heap.size [] := by
  refine ⟨?_, Nat.zero_le _⟩
  rw [heap_alloc_new, zeroArr]

theorem ndCells_one : ∀ (L : List Nd), ∀ u ∈ ndCells L, u.oneCell' = true
  | [], u, h => by cases h
  | x :: r, u, h => by
    simp only [ndCells, List.mem_cons] at h
    rcases h with rfl | rfl | rfl | rfl | h
    · rfl
    · rfl
    · rfl
    · rfl
    · exact ndCells_one r u h

set_option maxHeartbeats 2000000 in
theorem arrClone_any (N : List Nd) (g : Nat) (w : World) (h : AB w g N) :
    Calls Tryz.prog 18 #[.slice (some ⟨g, 0, none⟩) N.length 300] w fun e w' => ∃ u, e = .returned u ∧ OwnN w' w.heap.size u N ∧ Below w.heap.size w w' := by
  obtain ⟨i0, hi, hz0, hz1, hz2⟩ := info_parts infoNode
  have A0 : Hid (Below w.heap.size w (w.alloc (.cells #[] 43))) := (Below.refl _ _).alloc (Nat.le_refl _) _
  have O0 : Hid (OwnN (w.alloc (.cells #[] 43)) w.heap.size (.slice (some ⟨w.heap.size, 0, none⟩) 0 0) []) := World.ownsRow_lit w #[] 0 (Nat.le_refl _) (by decide) rfl
  have HCE : Hid (∀ j u, (ndCells N)[j]? = some u → (w.alloc (.cells #[] 43)).cell? ((⟨g, 0, none⟩ : Addr).add j) = some u) := fun j u hj => by
    have h0 := h.grow A0.out
    rw [Addr.add_lit, Nat.zero_add, cell_of_row _ g j _ _ (0, 0) h0.1, List.getElem?_toArray]
    have hlt := (List.getElem?_eq_some_iff.1 hj).1
    unfold arC padN
    rw [ndCells_append, List.append_assoc, List.getElem?_append_left hlt]
    exact hj
  have hN := h.2
  have hnil : ∀ w, (binOp .eql 29 (.slice (some ⟨g, 0, none⟩) N.length 300) (.slice none 0 0)).run Tryz.prog w = .ok (.bool false) w := fun w => by
    have := run_equal_slice_nil (P := Tryz.prog) w 29 43 (some ⟨g, 0, none⟩) N.length 300 Tryz.underlying29
    simp [binOp, this]
  clear h
  go_enter Tryz.func18, Tryz.ntmps18
  go_wp2_with (at_builtin; refine wpList_append_own_at _ rfl _ _ 29 rfl w.heap.size 43 i0 _ 4 40 Tryz.underlying29 hi hz0 hz1 hz2 rfl (by decide) _ 0 [] rfl O0.out ⟨g, 0, none⟩ N.length 300 (ndCells N) rfl (ndCells_len N) HCE.out (ndCells_one N) (by unfold maxLen; omega) (by omega) (by simp) ?_)
  intro v' w' hown hgr _ _
  have HO : Hid (OwnN w' w.heap.size v' N) := by
    show OwnN _ _ _ _
    unfold OwnN
    simpa using hown
  have HB : Hid (Below w.heap.size w w') := A0.out.grown hgr (by simp) (fun k hk => by simp [Value.ownBlock] at hk; omega)
  clear hown hgr A0 O0 HCE hi hz0 hz1 hz2
  go_wp2
  go_ret
  exact ⟨_, rfl, HO.out, HB.out⟩

set_option maxHeartbeats 2000000 in
theorem implNfaOf_any (t : Tr) (B : Nat → Prop) (v : Value) (w : World) (h : Rl w B t.l v) (hs : t.s.size ≤ maxLen) :
    Calls Tryz.prog 6 #[rx t.k t.s v] w fun e w' => ∃ u, e = .returned (.agg #[u]) ∧ OwnN w' w.heap.size u (nfN t) ∧ Below w.heap.size w w' := by
  have HC := Hid.mk (fun (w' : World) (hb : Below w.heap.size w w') => implRexOk_any t B v w' (h.grow hb) hs)
  have HL : Hid (∀ (w1 : World) (g : Nat), Below w.heap.size w w1 → AB w1 g [] → w.heap.size ≤ g → okR t = true → Calls Tryz.prog 16 #[.pointer (some ⟨g, 0, none⟩), rx t.k t.s v] w1 fun e w' => (∃ x, e = .returned x) ∧ AB w' g (t.lay 0) ∧ Mkd g w1 w') := fun w1 g h1 ha hg hk => by
    have h2 := okR_nsz hk
    exact arrPart_any t (fun b => b < w.heap.size) v g [] w1 ha (((h.imp (C := fun b => b < w.heap.size) fun _ _ hb => hb)).kept fun b hb' _ => h1.block b hb') (by omega) (okR_tree hk) (by simp; omega)
  have HE : Hid (okR t = true → nfN t = t.lay 0 ++ [doneN]) := fun h => by unfold nfN; rw [if_pos h]
  have HE2 : Hid (okR t = false → nfN t = []) := fun h => by unfold nfN; rw [h]; rfl
  have HN : Hid (okR t = true → (t.lay 0).length ≤ 238) := fun h => by rw [lay_len t (okR_tree h)]; exact okR_nsz h
  generalize nfN t = R at *
  generalize t.lay 0 = Y at *
  obtain ⟨o, ho⟩ : ∃ o, okR t = o := ⟨_, rfl⟩
  obtain ⟨k, hk⟩ : ∃ k, t.k = k := ⟨_, rfl⟩
  obtain ⟨s, hsn⟩ : ∃ s, t.s = s := ⟨_, rfl⟩
  rw [hk, hsn, ho] at HC HL
  rw [ho] at HE HE2 HN
  rw [hk, hsn]
  obtain ⟨ao, cap, rfl, hl1, hl2, hl3⟩ := h.len
  generalize t.l.length = tl at *
  have X0 := Hid.mk ((Bz3.new w (.int .i64 k) (.string s) (.slice ao tl cap)).grow ((Below.refl (w.alloc (.cells #[.int .i64 k, .string s, .slice ao tl cap] 26)).heap.size _).alloc (Nat.le_refl _) (.cells #[.slice none 0 0] 31)))
  have Y0 := Hid.mk (Bx1.new (w.alloc (.cells #[.int .i64 k, .string s, .slice ao tl cap] 26)) 31 (.slice none 0 0))
  rw [World.size_alloc] at Y0
  have B0 : Below w.heap.size w ((w.alloc (.cells #[.int .i64 k, .string s, .slice ao tl cap] 26)).alloc (.cells #[.slice none 0 0] 31)) := ((Below.refl _ _).alloc (Nat.le_refl _) _).alloc (by simp) _
  clear h hk hsn ho hl2 hs
  cases o with
  | false =>
    have HR := Hid.mk (HE2.out rfl)
    clear HL HE HN HE2
    go_enter Tryz.func6, Tryz.ntmps6
    go_wp2_with fail
    refine (HC.out _ B0).mono ?_
    rintro e w1 ⟨rfl, hb1⟩
    have B1 := B0.trans (hb1.mono (by simp; omega))
    have Y1 := Hid.mk (Y0.out.grow hb1)
    have y1 := Y1.out.c0
    have f1 := frozen_of_row w1 _ 0 _ _ Y1.out
    have hlt1 := Y1.out.lt
    clear B0 hb1 HC X0 Y0
    go_wp2
    refine bodyPost_ret (v := .agg #[.slice none 0 0]) ?_ rfl ⟨_, rfl, ?_, ?_⟩
    · have z1 := (Y1.out.put (.slice none 0 0)).c0
      simp [results, Tryz.results6, go_sem, z1]
    · rw [HR.out]; exact OwnN.nil _ _
    · exact B1.setCell (by simp) _
  | true =>
    have HR := Hid.mk (HE.out rfl)
    have hlen := HN.out rfl
    clear HE HN HE2
    go_enter Tryz.func6, Tryz.ntmps6
    go_wp2_with fail
    refine (HC.out _ B0).mono ?_
    rintro e w1 ⟨rfl, hb1⟩
    have B1 := B0.trans (hb1.mono (by simp; omega))
    have X1 := Hid.mk (X0.out.grow hb1)
    have Y1 := Hid.mk (Y0.out.grow hb1)
    have hs1 := B1.size
    clear B0 hb1 HC X0 Y0
    have b2 : Hid (Below w1.heap.size w1 (w1.alloc (.cells Tryz.zeroCells46 46))) := (Below.refl _ _).alloc (Nat.le_refl _) _
    have X2 := Hid.mk (X1.out.grow b2.out)
    have x0 := X2.out.c0
    have x1 := X2.out.c1
    have x2 := X2.out.c2
    have hx := X1.out.lt
    have HL2 := Hid.mk (HL.out _ _ (B1.trans (b2.out.mono hs1)) (newArr w1) hs1 trivial)
    clear HL
    go_wp2_with fail
    refine HL2.out.mono ?_
    rintro e w3 ⟨⟨q, rfl⟩, h3, m3⟩
    have m13 := (Mkd.below (g := w1.heap.size) b2.out).trans m3
    have HD := Hid.mk (arrLay_any Y w1.heap.size 7 w3 h3 (by omega))
    clear HL2 h3 m3 b2 x0 x1 x2 X1 X2
    go_wp2_with fail
    refine HD.out.mono ?_
    rintro e w4 ⟨rfl, h4, m4⟩
    have b4 := Hid.mk ((m13.trans m4).low (n := w1.heap.size) (Nat.le_refl _) (Nat.le_refl _))
    have cn := h4.cnt
    generalize hYY : Y ++ [(⟨7, ⟨#[]⟩, 0, 0⟩ : Nd)] = YD at *
    have HYD : Hid (R = YD) := by show _ = _; rw [HR.out, ← hYY]; rfl
    have hle : YD.length ≤ 300 := h4.2
    have HCL := Hid.mk (arrClone_any YD w1.heap.size w4.drew (h4.grow (Below.drewSelf w4.heap.size w4 1)))
    have hs4 := b4.out.size
    have Y4 := Hid.mk (Y1.out.grow b4.out)
    have hb1 := Y1.out.lt
    clear HD m4 m13 h4 hYY HR Y1
    obtain ⟨S, hS⟩ : ∃ S : World → Prop, ∀ w', S w' ↔ w'.cell? ⟨w1.heap.size, 1200, none⟩ = some (.int .i64 (YD.length : Int)) := ⟨_, fun _ => Iff.rfl⟩
    have S0 : S w4.drew := (hS _).2 (by simpa using cn)
    have hlei : (YD.length : Int) ≤ 300 := by omega
    go_wp2_with fail
    refine wp_region_held_drew (S := S) (by kernel_rfl) S0 (fun _ => ?_)
    refine takeHD (i := 0) (v := .pointer (some ⟨w1.heap.size, 0, none⟩)) (some 15) rfl rfl (by kernel_rfl) (by kernel_rfl) (by kernel_rfl) (fun _ _ _ h => h) (Or.inl ⟨by kernel_rfl, fun w' hw => ?_⟩) S0 ?_
    · kernel_rfl
    simp only [Act.put, List.setIfInBounds_toArray]
    refine takeHD (i := 1) (v := .pointer (some ⟨w1.heap.size, 0, none⟩)) (some 16) rfl rfl (by kernel_rfl) (by kernel_rfl) (by kernel_rfl) (fun _ _ _ h => h) (Or.inl ⟨by kernel_rfl, fun w' hw => ?_⟩) S0 ?_
    · kernel_rfl
    simp only [Act.put, List.setIfInBounds_toArray]
    refine takeHD (i := 2) (v := .pointer (some ⟨w1.heap.size, 0, none⟩)) (some 17) rfl rfl (by kernel_rfl) (by kernel_rfl) (by kernel_rfl) (fun _ _ _ h => h) (Or.inl ⟨by kernel_rfl, fun w' hw => ?_⟩) S0 ?_
    · kernel_rfl
    simp only [Act.put, List.setIfInBounds_toArray]
    refine takeHD (i := 3) (v := .pointer (some ⟨w1.heap.size, 0, none⟩)) (some 18) rfl rfl (by kernel_rfl) (by kernel_rfl) (by kernel_rfl) (fun _ _ _ h => h) (Or.inl ⟨by kernel_rfl, fun w' hw => ?_⟩) S0 ?_
    · kernel_rfl
    simp only [Act.put, List.setIfInBounds_toArray]
    refine takeHD (i := 4) (v := .pointer (some ⟨w1.heap.size, 0, none⟩)) (some 19) rfl rfl (by kernel_rfl) (by kernel_rfl) (by kernel_rfl) (fun _ _ _ h => h) (Or.inl ⟨by kernel_rfl, fun w' hw => ?_⟩) S0 ?_
    · kernel_rfl
    simp only [Act.put, List.setIfInBounds_toArray]
    refine takeHD (i := 5) (v := .pointer (some ⟨w1.heap.size, 1200, none⟩)) (some 20) rfl rfl (by kernel_rfl) (by kernel_rfl) (by kernel_rfl) (fun _ _ _ h => h) (Or.inl ⟨by kernel_rfl, fun w' hw => ?_⟩) S0 ?_
    · kernel_rfl
    simp only [Act.put, List.setIfInBounds_toArray]
    refine takeHD (i := 6) (v := .int .i64 (YD.length : Int)) (some 21) rfl rfl (by kernel_rfl) (by kernel_rfl) (by kernel_rfl) (fun _ _ _ h => h) (Or.inl ⟨by kernel_rfl, fun w' hw => ?_⟩) S0 ?_
    · have y := (hS _).1 hw; go_simp
    simp only [Act.put, List.setIfInBounds_toArray]
    refine takeHD (i := 7) (v := .slice (some ⟨w1.heap.size, 0, none⟩) YD.length 300) (some 22) rfl rfl (by kernel_rfl) (by kernel_rfl) (by kernel_rfl) (fun _ _ _ h => h) (Or.inl ⟨by kernel_rfl, fun w' hw => ?_⟩) S0 ?_
    · go_simp
    simp only [Act.put, List.setIfInBounds_toArray]
    refine wpAnyH_ready (rs := [8]) (by kernel_rfl) (by simp) ?_
    refine AllReadyH.cons rfl (fun K hK => ?_) AllReadyH.nil
    rw [if_pos (by kernel_rfl)]
    go_wp2_with fail
    refine HCL.out.mono ?_
    rintro e w5 ⟨u5, rfl, ho5, hb5⟩
    have hw4 : w4.drew.heap.size = w4.heap.size := by simp
    rw [hw4] at ho5 hb5
    have hb45 : Below w4.heap.size w4 w5 := (Below.drewSelf w4.heap.size w4 1).trans hb5
    have S5 : S w5 := (hS _).2 (by rw [hb45.cell (p := ⟨w1.heap.size, 1200, none⟩) (World.block_lt_of_cell? w4 _ cn)]; exact cn)
    refine hK.out _ _ S5 (fun _ => ?_)
    clear hK K
    have O5 := Hid.mk ho5
    have Q5 := Hid.mk (B1.trans ((b4.out.trans (hb45.mono hs4)).mono hs1))
    have Y5 := Hid.mk (Y4.out.grow hb45)
    have y5 := Y5.out.c0
    have f5 := frozen_of_row w5 _ 0 _ _ Y5.out
    obtain ⟨va, vc, hv5, -⟩ := ho5.lenV
    subst hv5
    refine wpAnyH_ready (rs := [9]) (by kernel_rfl) (by simp) ?_
    refine AllReadyH.cons rfl (fun K hK => ?_) AllReadyH.nil
    rw [if_pos (by kernel_rfl)]
    go_wp2_with fail
    refine hK.out _ _ S5 (fun _ => ?_)
    clear hK K
    refine wpAnyH_ready (rs := [10]) (by kernel_rfl) (by simp) ?_
    refine AllReadyH.cons rfl (fun K hK => ?_) AllReadyH.nil
    rw [if_pos (by kernel_rfl)]
    go_wp2_with fail
    refine hK.out _ _ ((hS _).2 ((World.cell?_setCell_other w5 _ _ _ (by simp)).trans ((hS _).1 S5))) (fun _ => ?_)
    clear hK K
    refine wpAnyH_done (by kernel_rfl) ?_ _
    clear HCL ho5 hb5 hb45 b4 cn Y4
    go_wp2
    have z1 := (Y5.out.put (.slice va YD.length vc)).c0
    refine bodyPost_ret (v := .agg #[.slice va YD.length vc]) ?_ rfl ⟨_, rfl, ?_, ?_⟩
    · simp [results, Tryz.results6, go_sem, z1]
    · rw [HYD.out]; exact (OwnN.setLow O5.out (by show w.heap.size + 1 < _; omega) _).mono (by omega)
    · exact Q5.out.setCell (by simp) _

/-- No text of a machine's nodes is too long. -/
theorem lay_small (t : Tr) : t.okT = true → ∀ p, ∀ x ∈ t.lay p, x.s.size ≤ maxLen := by
  refine Tr.ind (P := fun t => t.okT = true → ∀ p, ∀ x ∈ t.lay p, x.s.size ≤ maxLen) ?_ t
  intro t ih hok p x hx
  have hk := okT_kids hok
  have h0 : (noS : ByteArray).size ≤ maxLen := by decide
  have hs : ∀ a b, (split a b).s.size ≤ maxLen := fun a b => h0
  have hL : ∀ (l : List Tr), (∀ y ∈ l, y ∈ t.l) → ∀ p, ∀ x ∈ layL l p, x.s.size ≤ maxLen := by
    intro l
    induction l with
    | nil => intro _ p x hx; rw [layL] at hx; cases hx
    | cons y r ihr =>
      intro hm p x hx
      rw [layL, List.mem_append] at hx
      rcases hx with hx | hx
      · exact ih y (hm y (List.mem_cons_self ..)) (hk y (hm y (List.mem_cons_self ..))) p x hx
      · exact ihr (fun z hz => hm z (List.mem_cons_of_mem _ hz)) _ x hx
  have hA : ∀ (l : List Tr), (∀ y ∈ l, y ∈ t.l) → ∀ p q, ∀ x ∈ layA l p q, x.s.size ≤ maxLen := by
    intro l
    induction l with
    | nil => intro _ p q x hx; rw [layA] at hx; cases hx
    | cons y r ihr =>
      intro hm p q x hx
      have hy := ih y (hm y (List.mem_cons_self ..)) (hk y (hm y (List.mem_cons_self ..)))
      rw [layA] at hx
      split at hx
      · exact hy p x hx
      · rw [List.mem_cons, List.mem_append, List.mem_cons] at hx
        rcases hx with rfl | hx | rfl | hx
        · exact hs _ _
        · exact hy _ x hx
        · exact hs _ _
        · exact ihr (fun z hz => hm z (List.mem_cons_of_mem _ hz)) _ _ x hx
  have hb : ∀ n, n ≤ 1048576 → n ≤ maxLen := fun n hn => by unfold maxLen; omega
  rw [lay_eq] at hx
  split at hx
  · rename_i h1
    obtain rfl := List.mem_singleton.1 hx
    exact hb _ (okT_size hok (.inl h1))
  split at hx
  · obtain rfl := List.mem_singleton.1 hx; exact h0
  split at hx
  · rename_i h3
    obtain rfl := List.mem_singleton.1 hx
    exact hb _ (okT_size hok (.inr h3))
  split at hx
  · exact hL t.l (fun _ h => h) _ x hx
  split at hx
  · exact hA t.l (fun _ h => h) _ _ x hx
  split at hx
  · rw [List.mem_cons, List.mem_append, List.mem_singleton] at hx
    rcases hx with rfl | hx | rfl
    · exact hs _ _
    · exact hL t.l (fun _ h => h) _ x hx
    · exact hs _ _
  split at hx
  · rw [List.mem_append, List.mem_singleton] at hx
    rcases hx with hx | rfl
    · exact hL t.l (fun _ h => h) _ x hx
    · exact hs _ _
  split at hx
  · rw [List.mem_cons] at hx
    rcases hx with rfl | hx
    · exact hs _ _
    · exact hL t.l (fun _ h => h) _ x hx
  split at hx
  · obtain rfl := List.mem_singleton.1 hx; exact h0
  split at hx
  · obtain rfl := List.mem_singleton.1 hx; exact h0
  · cases hx
theorem nfN_small (t : Tr) : ∀ x ∈ nfN t, x.s.size ≤ maxLen := by
  intro x hx
  unfold nfN at hx
  split at hx
  · rename_i h
    rw [List.mem_append, List.mem_singleton] at hx
    rcases hx with hx | rfl
    · exact lay_small t (okR_tree h) _ x hx
    · show (noS : ByteArray).size ≤ maxLen; decide
  · cases hx
theorem nfN_len (t : Tr) : (nfN t).length ≤ 239 := by
  unfold nfN
  split
  · rename_i h
    rw [List.length_append, lay_len t (okR_tree h)]
    have := okR_nsz h
    simp
    omega
  · simp
end Go.Proofs.YtapniafhcagogaaGreatDoor

namespace Go.Proofs.YtapniafhcagogaaGreatDoor
open Go.RowKit
set_option maxRecDepth 8000

/-- The block g begins with these nodes. -/
def NBr (w : World) (g : Nat) (M : List Nd) (rest : List Value) : Prop := w.heap[g]? = some (.cells (ndCells M ++ rest).toArray 43 (0, 0))
theorem NBr.lt {w : World} {g : Nat} {M : List Nd} {r : List Value} (h : NBr w g M r) : g < w.heap.size := (Array.getElem?_eq_some_iff.1 h).1
theorem NBr.kept {w w' : World} {g : Nat} {M : List Nd} {r : List Value} (h : NBr w g M r) (hh : w'.heap[g]? = w.heap[g]?) : NBr w' g M r := by unfold NBr; rw [hh]; exact h
theorem NBr.fr {w : World} {g : Nat} {M : List Nd} {r : List Value} (h : NBr w g M r) (o : Nat) : w.frozen? ⟨g, o, none⟩ = false := frozen_of_row w g o _ _ h
theorem NBr.at4 {w : World} {g : Nat} {M : List Nd} {r : List Value} (h : NBr w g M r) {i : Nat} (hi : i < M.length) : At4 w g (i * 4) M[i] := by
  obtain ⟨h0, h1, h2, h3⟩ := ndCells_get M i hi
  have hc := ndCells_len M
  refine ⟨?_, ?_, ?_, ?_⟩ <;> rw [cell_of_row w g _ _ _ (0, 0) h, List.getElem?_toArray, List.getElem?_append_left (by rw [hc]; omega)]
  · exact h0
  · exact h1
  · exact h2
  · exact h3
theorem NBr.stK {w : World} {g i : Nat} {M : List Nd} {r : List Value} (h : NBr w g M r) (hi : i < M.length) (x : Int) : NBr (w.setCell ⟨g, i * 4, none⟩ (.int .i64 x)) g (M.set i { M[i] with k := x }) r := by
  unfold NBr
  rw [heap_setCell_same w g (i * 4) _ _ _ h, ← ndCells_k M i x hi, List.setIfInBounds_toArray, List.set_append_left _ _ (by rw [ndCells_len]; omega)]
theorem NBr.stS {w : World} {g i : Nat} {M : List Nd} {r : List Value} (h : NBr w g M r) (hi : i < M.length) (x : ByteArray) : NBr (w.setCell ⟨g, i * 4 + 1, none⟩ (.string x)) g (M.set i { M[i] with s := x }) r := by
  unfold NBr
  rw [heap_setCell_same w g (i * 4 + 1) _ _ _ h, ← ndCells_s M i x hi, List.setIfInBounds_toArray, List.set_append_left _ _ (by rw [ndCells_len]; omega)]
theorem NBr.stA {w : World} {g i : Nat} {M : List Nd} {r : List Value} (h : NBr w g M r) (hi : i < M.length) (x : Int) : NBr (w.setCell ⟨g, i * 4 + 2, none⟩ (.int .i64 x)) g (M.set i { M[i] with a := x }) r := by
  unfold NBr
  rw [heap_setCell_same w g (i * 4 + 2) _ _ _ h, ← ndCells_a M i x hi, List.setIfInBounds_toArray, List.set_append_left _ _ (by rw [ndCells_len]; omega)]
theorem NBr.stB {w : World} {g i : Nat} {M : List Nd} {r : List Value} (h : NBr w g M r) (hi : i < M.length) (x : Int) : NBr (w.setCell ⟨g, i * 4 + 3, none⟩ (.int .i64 x)) g (M.set i { M[i] with b := x }) r := by
  unfold NBr
  rw [heap_setCell_same w g (i * 4 + 3) _ _ _ h, ← ndCells_b M i x hi, List.setIfInBounds_toArray, List.set_append_left _ _ (by rw [ndCells_len]; omega)]

/-- A marked node. -/
def mkN (j : Nat) : Nd := ⟨(j : Int), mkS (j + 1), (j : Int) + 2, (j : Int) + 3⟩
def marksN (j n : Nat) : List Nd := (List.range n).map fun i => mkN (j + 4 * i)
theorem marksN_len (j n : Nat) : (marksN j n).length = n := by simp [marksN]
/-- The first k are marked. -/
def mrkN (L : List Nd) (j k : Nat) : List Nd := marksN j k ++ L.drop k
theorem mrkN_len (L : List Nd) (j k : Nat) (h : k ≤ L.length) : (mrkN L j k).length = L.length := by simp [mrkN, marksN_len]; omega
theorem mrkN_set (L : List Nd) (j k : Nat) (h : k < L.length) : (mrkN L j k).set k (mkN (j + 4 * k)) = mrkN L j (k + 1) := by
  unfold mrkN
  rw [List.set_append_right _ _ (by rw [marksN_len]; exact Nat.le_refl _), marksN_len, Nat.sub_self, List.drop_eq_getElem_cons h, List.set_cons_zero]
  unfold marksN
  rw [List.range_succ, List.map_append, List.append_assoc]
  rfl
theorem mrkN_all (L : List Nd) (j : Nat) : mrkN L j L.length = marksN j L.length := by simp [mrkN]

theorem OwnN.nbr {w : World} {base : Nat} {v : Value} {L : List Nd} (h : OwnN w base v L) : (v = .slice none 0 0 ∧ L = []) ∨ ∃ g cap r, v = .slice (some ⟨g, 0, none⟩) L.length cap ∧ base ≤ g ∧ L.length ≤ cap ∧ cap ≤ maxLen ∧ r.length + L.length * 4 = cap * 4 ∧ NBr w g L r := by
  rcases h.2 with ⟨h1, h0⟩ | ⟨g, cap, cur, rfl, hb, hg, hn, hm, hs, ht⟩
  · exact .inl ⟨h1, List.eq_nil_of_length_eq_zero h0⟩
  · refine .inr ⟨g, cap, cur.toList.drop (L.length * 4), rfl, hb, hn, hm, ?_, ?_⟩
    · rw [List.length_drop, Array.length_toList, hs]
      omega
    · unfold NBr
      rw [hg, ← ht, List.take_append_drop]
theorem OwnN.of {w : World} {base g cap : Nat} {L : List Nd} {r : List Value} (h : NBr w g L r) (hb : base ≤ g) (hn : L.length ≤ cap) (hm : cap ≤ maxLen) (hr : r.length + L.length * 4 = cap * 4) : OwnN w base (.slice (some ⟨g, 0, none⟩) L.length cap) L := by
  refine ⟨ndCells_len L, .inr ⟨g, cap, _, rfl, hb, h, hn, hm, ?_, ?_⟩⟩
  · simp [ndCells_len]; omega
  · rw [List.take_append_of_le_length (by rw [ndCells_len]; exact Nat.le_refl _), List.take_of_length_le (by rw [ndCells_len]; exact Nat.le_refl _)]
/-- A slice of the call's own reads its nodes. -/
theorem OwnN.nl {w : World} {base : Nat} {v : Value} {L : List Nd} (h : OwnN w base v L) (hs : ∀ x ∈ L, x.s.size ≤ maxLen) : Nl w (fun b => base ≤ b ∧ b < w.heap.size) L v := by
  rcases h.nbr with ⟨rfl, rfl⟩ | ⟨g, cap, r, rfl, hb, hn, hm, hr, hg⟩
  · exact ⟨none, 0, rfl, Nat.le_refl _, Nat.zero_le _, fun _ => rfl, hs, fun h => absurd rfl h⟩
  · exact ⟨some ⟨g, 0, none⟩, cap, rfl, hn, hm, (fun h => by cases h), hs, fun _ => ⟨g, 0, rfl, ⟨hb, hg.lt⟩, fun i hi => by rw [Nat.zero_add]; exact hg.at4 hi⟩⟩
theorem set4 {M : List Nd} {i : Nat} (hi : i < M.length) (x : Int) (s : ByteArray) (a b : Int) (h1 : i < (M.set i { M[i] with k := x }).length) (h2 : i < ((M.set i { M[i] with k := x }).set i { (M.set i { M[i] with k := x })[i] with s := s }).length) (h3 : i < (((M.set i { M[i] with k := x }).set i { (M.set i { M[i] with k := x })[i] with s := s }).set i { ((M.set i { M[i] with k := x }).set i { (M.set i { M[i] with k := x })[i] with s := s })[i] with a := a }).length) :
    ((((M.set i { M[i] with k := x }).set i { (M.set i { M[i] with k := x })[i] with s := s }).set i { ((M.set i { M[i] with k := x }).set i { (M.set i { M[i] with k := x })[i] with s := s })[i] with a := a }).set i { (((M.set i { M[i] with k := x }).set i { (M.set i { M[i] with k := x })[i] with s := s }).set i { ((M.set i { M[i] with k := x }).set i { (M.set i { M[i] with k := x })[i] with s := s })[i] with a := a })[i] with b := b }) = M.set i ⟨x, s, a, b⟩ := by
  simp

end Go.Proofs.YtapniafhcagogaaGreatDoor

namespace Go.Proofs.YtapniafhcagogaaGreatDoor
open Go.RowKit Go.Shelf
set_option maxRecDepth 8000

/-- The library's table lies as its text lays it. -/
def TabB (w : World) : Prop := Lib.TabIs Tryz.prog w "math/bits.deBruijn64tab" .u8 (Lib.deBruijn64tab.map fun (n : Nat) => (n : Int))

theorem TabB.grow {w w' : World} (h : TabB w) (hb : Below w.heap.size w w') : TabB w' := Lib.tabBelow_of_tabIs h w' hb

theorem TabB.cell {w : World} (h : TabB w) (i : Nat) (hi : i < 64) : w.cell? ⟨1, i, none⟩ = some (.int .u8 ((Lib.deBruijn64tab.getD i 0 : Nat) : Int)) := by
  have hl : i < (Lib.deBruijn64tab.map fun (n : Nat) => (n : Int)).length := by rw [List.length_map]; exact hi
  have := Lib.TabIs.cell h (g := 1) (by kernel_rfl) i hl
  rw [this]
  simp
  cases Lib.deBruijn64tab[i]? <;> rfl

set_option maxHeartbeats 1000000 in
theorem tz64_core (x k idx : Nat) (w : World) (hx0 : ((x : Int) == 0) = false)
    (key : IntKind.u64.wrap (bits BinOp.and IntKind.u64 (x : Int) (IntKind.u64.wrap (-(x : Int))) * 285870213051353865) / 288230376151711744 = (idx : Int))
    (hi : idx < 64) (hk : k < 64) (hcell : w.cell? ⟨1, idx, none⟩ = some (.int .u8 (k : Int))) :
    Calls Tryz.prog 104 #[.int .u64 (x : Int)] w fun e w' => e = .returned (.int .i64 (k : Int)) ∧ w' = w := by
  go_enter Tryz.func104, Tryz.ntmps104
  go_wp2_with (simp only [key])
  go_ret
  exact ⟨rfl, rfl⟩

theorem tz64_any (x : Nat) (hx : x < 18446744073709551616) (hx0 : x ≠ 0) (w : World) (hT : TabB w) :
    Calls Tryz.prog 104 #[.int .u64 (x : Int)] w fun e w' => e = .returned (.int .i64 (Lib.ctz 64 x : Int)) ∧ w' = w := by
  obtain ⟨hlow, hk⟩ := Lib.lowest_bit 64 x hx0 hx
  obtain ⟨hi, htab⟩ := Lib.deBruijn64_at _ hk
  have hcell := hT.cell _ hi
  rw [htab] at hcell
  exact tz64_core x _ _ w (by simp; omega) (tz64_key x _ hx hx0 hlow) hi hk hcell

theorem ctz_low (x : Nat) (h0 : x ≠ 0) (hx : x < 2 ^ 64) : (∀ b, b < Lib.ctz 64 x → x.testBit b = false) ∧ x.testBit (Lib.ctz 64 x) = true ∧ ∀ b, (x &&& (x - 1)).testBit b = (x.testBit b && decide (b ≠ Lib.ctz 64 x)) := by
  obtain ⟨m, hm, hk⟩ := Lib.ctzFrom_spec 64 x (by omega) hx
  have e : Lib.ctz 64 x = Lib.ctzFrom 64 x := by simp [Lib.ctz, h0]
  rw [e]
  generalize Lib.ctzFrom 64 x = k at hm hk
  have hb1 : ∀ b, b < k → x.testBit b = false := by
    intro b hb
    rw [hm, Nat.testBit_two_pow_mul, decide_eq_false (by omega)]; rfl
  have hb2 : x.testBit k = true := by
    rw [hm, Nat.testBit_two_pow_mul, decide_eq_true (Nat.le_refl _), Nat.sub_self]
    simp
  have hx1 : x - 1 = 2 ^ k * (2 * m) + (2 ^ k - 1) := by
    have : 0 < 2 ^ k := Nat.two_pow_pos k
    rw [hm, Nat.mul_add, Nat.mul_one]
    omega
  have hb3 : ∀ b, k < b → (x - 1).testBit b = x.testBit b := by
    intro b hb
    have hlt : 2 ^ k - 1 < 2 ^ k := by have := Nat.two_pow_pos k; omega
    rw [hx1, Nat.testBit_two_pow_mul_add _ hlt, hm, Nat.testBit_two_pow_mul, if_neg (by omega), decide_eq_true (by omega), Bool.true_and]
    obtain ⟨c, hc⟩ : ∃ c, b - k = c + 1 := ⟨b - k - 1, by omega⟩
    rw [hc, Nat.testBit_succ, Nat.testBit_succ]
    congr 1
    omega
  have hb4 : (x - 1).testBit k = false := by
    have hlt : 2 ^ k - 1 < 2 ^ k := by have := Nat.two_pow_pos k; omega
    rw [hx1, Nat.testBit_two_pow_mul_add _ hlt, if_neg (by omega), Nat.sub_self]
    simp
  refine ⟨hb1, hb2, fun b => ?_⟩
  rw [Nat.testBit_and]
  rcases Nat.lt_trichotomy b k with h | h | h
  · rw [hb1 b h]; rfl
  · subst h; rw [hb4]; simp
  · rw [hb3 b h, Bool.and_self, decide_eq_true (by omega), Bool.and_true]

/-- What is left of a word from the place j on. -/
def restW (g : Nat → Bool) (j : Nat) : Nat := bitsN (fun b => g b && decide (j ≤ b)) 64

theorem restW_test (g : Nat → Bool) (j b : Nat) : (restW g j).testBit b = (decide (b < 64) && (g b && decide (j ≤ b))) := bitsN_test _ 64 b
theorem restW_lt (g : Nat → Bool) (j : Nat) : restW g j < 18446744073709551616 := bitsN_lt _ 64
theorem restW_zero (g : Nat → Bool) (j : Nat) (h : restW g j = 0) : ∀ b, j ≤ b → b < 64 → g b = false := by
  intro b h1 h2
  have := restW_test g j b
  rw [h, Nat.zero_testBit, decide_eq_true h2, decide_eq_true h1, Bool.and_true, Bool.true_and] at this
  exact this.symm
theorem restW_next (g : Nat → Bool) (j : Nat) (h : restW g j ≠ 0) : ∃ k, Lib.ctz 64 (restW g j) = k ∧ j ≤ k ∧ k < 64 ∧ g k = true ∧ (∀ b, j ≤ b → b < k → g b = false) ∧ restW g j &&& (restW g j - 1) = restW g (k + 1) := by
  obtain ⟨h1, h2, h3⟩ := ctz_low _ h (restW_lt g j)
  obtain ⟨_, hk⟩ := Lib.lowest_bit 64 _ h (restW_lt g j)
  refine ⟨_, rfl, ?_⟩
  generalize Lib.ctz 64 (restW g j) = k at h1 h2 h3 hk ⊢
  rw [restW_test, decide_eq_true hk, Bool.true_and, Bool.and_eq_true, decide_eq_true_iff] at h2
  have hbelow : ∀ b, j ≤ b → b < k → g b = false := by
    intro b hb1 hb2
    have := h1 b hb2
    rw [restW_test, decide_eq_true (show b < 64 by omega), decide_eq_true hb1, Bool.and_true, Bool.true_and] at this
    exact this
  refine ⟨h2.2, hk, h2.1, hbelow, ?_⟩
  apply Nat.eq_of_testBit_eq
  intro b
  rw [h3 b, restW_test, restW_test]
  by_cases hb : b < 64
  · rw [decide_eq_true hb, Bool.true_and, Bool.true_and]
    by_cases hg : g b = true
    · rw [hg, Bool.true_and, Bool.true_and, Bool.eq_iff_iff, Bool.and_eq_true, decide_eq_true_iff, decide_eq_true_iff, decide_eq_true_iff]
      constructor
      · rintro ⟨h4, h5⟩
        by_cases hlt : b < k
        · have := hbelow b h4 hlt; rw [hg] at this; cases this
        · omega
      · intro h4; exact ⟨by omega, by omega⟩
    · rw [Bool.eq_false_iff.2 hg]; rfl
  · rw [decide_eq_false hb]; rfl
theorem restW_all (f : Nat → Bool) (i : Nat) : wd f i = restW (fun b => f (64 * i + b)) 0 := by
  unfold wd restW
  congr 1
  funext b
  simp
end Go.Proofs.YtapniafhcagogaaGreatDoor

namespace Go.Proofs.YtapniafhcagogaaGreatDoor
open Go.RowKit Go.Shelf

attribute [local go_sem] Oper.semAt_some

theorem rowUpto_gap (f : Nat → Bool) (p q : Nat) (hpq : p ≤ q) (h : ∀ b, p ≤ b → b < q → f b = false) : rowUpto f q = rowUpto f p := by
  obtain ⟨d, rfl⟩ : ∃ d, q = p + d := ⟨q - p, by omega⟩
  clear hpq
  induction d with
  | zero => rfl
  | succ d ih => rw [← Nat.add_assoc, rowUpto_no f (p + d) (h _ (by omega) (by omega)), ih (fun b h1 h2 => h b h1 (by omega))]

set_option maxRecDepth 100000 in
set_option maxHeartbeats 2000000 in
theorem all1_in (n : Nat) (hn : 1 ≤ n) (l Bn n₀ : Nat) (f : Nat → Bool) (J Jx : List Nat → World → Prop) (W : World)
    (hY : ∀ pre (x : Nat) W1, f x = true → J pre W1 → pre.length < 256 → YieldAt .wide (n - 1) Tryz.prog l #[.int .i64 (x : Int)] W1 fun e W' =>
      (e = .returned (.bool true) ∧ J (pre ++ [x]) W' ∧ Below n₀ W1 W') ∨ (e = .returned (.bool false) ∧ Jx (pre ++ [x]) W'))
    (hc : ∀ j, j < 4 → W.cell? ⟨Bn, j, none⟩ = some (.int .u64 (wd f j : Int))) (hT : ∀ w', Below n₀ W w' → TabB w') (h0 : J [] W) :
    CallsIn .wide n Tryz.prog 103 #[.func (.yield l) #[] #[], .pointer (some ⟨Bn, 0, none⟩)] W fun e W' => (∃ v, e = .returned v) ∧
      ((∃ ys, ys = rowUpto f 256 ∧ J ys W') ∨ (∃ pre, (∃ k, k ≤ 256 ∧ pre = rowUpto f k) ∧ Jx pre W')) := by
  have c0 := hc 0 (by omega)
  have c1 := hc 1 (by omega)
  have c2 := hc 2 (by omega)
  have c3 := hc 3 (by omega)
  have HY := Hid.mk hY
  have HT := Hid.mk hT
  clear hc hY hT
  refine callsIn_of_wp Tryz.func103 rfl trivial ?_ rfl
  simp only [Tryz.ntmps103, List.size_toArray, List.length_cons, List.length_nil, Nat.reduceAdd, Nat.reduceSub, Array.replicate_succ, Array.replicate_zero, List.push_toArray, List.append_toArray, List.nil_append, List.cons_append]
  have hIX : ∀ (i : Nat) (w' : World), i < 4 → (Instr.index 90 (.agg #[.int .u64 (wd f 0 : Int), .int .u64 (wd f 1 : Int), .int .u64 (wd f 2 : Int), .int .u64 (wd f 3 : Int)]) (.int .i64 (i : Int))).run Tryz.prog w' = .ok (.int .u64 (restW (fun b => f (64 * i + b)) 0 : Int)) w' := by
    intro i w' hi
    rw [← restW_all]
    rcases (show i = 0 ∨ i = 1 ∨ i = 2 ∨ i = 3 by omega) with rfl | rfl | rfl | rfl
    all_goals kernel_rfl
  have HIX := Hid.mk hIX
  clear hIX
  gi_wp2
  clear c0 c1 c2 c3
  gi_loopw [6] (fun q wr => ∃ (i : Nat), i ≤ 4 ∧ q = .int .i64 i ∧ Hid (J (rowUpto f (64 * i)) wr) ∧ Hid (Below n₀ W wr)) (fun q _ => 4 - (intOf q).toNat)
  case atStart => exact ⟨0, by omega, rfl, h0, Below.refl _ _⟩
  case round =>
    obtain ⟨i, hi, rfl, HJ, HB⟩ := hrel
    by_cases hi4 : (i : Int) < 4
    · have hix := HIX.out i wr (by omega)
      obtain ⟨g, hg⟩ : ∃ g, (fun b => f (64 * i + b)) = g := ⟨_, rfl⟩
      rw [hg] at hix
      have HG : Hid (∀ b, g b = f (64 * i + b)) := fun b => by rw [← hg]
      have hil : i < 4 := by omega
      clear hg
      gi_wp2
      clear hix
      gi_loopw [4] (fun q wr => ∃ (j : Nat), j ≤ 64 ∧ q = .int .u64 (restW g j : Int) ∧ Hid (J (rowUpto f (64 * i + j)) wr) ∧ Hid (Below n₀ W wr)) (fun q _ => (intOf q).toNat)
      case atStart => exact ⟨0, by omega, rfl, HJ, HB⟩
      case round =>
        obtain ⟨j, hj, rfl, HJs, HBs⟩ := hrel
        clear HJ HB
        by_cases hz : restW g j = 0
        · have HN : Hid (J (rowUpto f (64 * (i + 1))) wr) := by
            have hgap := rowUpto_gap f (64 * i + j) (64 * (i + 1)) (by omega) (fun b h1 h2 => by
              have := restW_zero g j hz (b - 64 * i) (by omega) (by omega)
              rw [HG.out, show 64 * i + (b - 64 * i) = b by omega] at this
              exact this)
            show J _ _
            rw [hgap]; exact HJs.out
          rw [hz]
          clear hz
          gi_wp2
          go_roundw
          case rel => exact ⟨i + 1, by omega, by go_num, HN, HBs⟩
          case measure => simp [intOf]; omega
        · obtain ⟨k, hk, hjk, hk64, hgk, hbelow, hand⟩ := restW_next g j hz
          have hgap := rowUpto_gap f (64 * i + j) (64 * i + k) (by omega) (fun b h1 h2 => by
            have := hbelow (b - 64 * i) (by omega) (by omega)
            rw [HG.out, show 64 * i + (b - 64 * i) = b by omega] at this
            exact this)
          have hyes := rowUpto_yes f (64 * i + k) (by rw [← HG.out]; exact hgk)
          have hJ := HJs.out
          rw [← hgap] at hJ
          obtain ⟨fn, tmps, assign, body, hy, hR⟩ := HY.out _ (64 * i + k) wr (by rw [← HG.out]; exact hgk) hJ (by have := rowUpto_len f (64 * i + k); omega)
          rw [show ((64 * i + k : Nat) : Int) = (i : Int) * 64 + (k : Int) by omega] at hy
          have HTZ := Hid.mk (tz64_any (restW g j) (restW_lt g j) hz wr (HT.out wr HBs.out))
          rw [hk] at HTZ
          have hlt := restW_lt g j
          have HAND : Hid (bits BinOp.and IntKind.u64 (restW g j : Int) ((restW g j - 1 : Nat) : Int) = (restW g (k + 1) : Int)) := by
            show _ = _
            rw [bits_and_u64_nat _ _ hlt (by omega), hand]
          have HLT : Hid (restW g (k + 1) < restW g j) := by
            have := @Nat.and_le_right (restW g j) (restW g j - 1)
            rw [hand] at this
            show _ < _
            omega
          have hneq : (((restW g j : Nat) : Int) != 0) = true := by simp; omega
          obtain ⟨X, hX⟩ : ∃ X, restW g j = X := ⟨_, rfl⟩
          rw [hX] at HTZ HAND HLT hneq hlt ⊢
          have hX0 : 0 < X := by omega
          have HYS := Hid.mk hyes
          have hw64 : (i : Int) * 64 + (k : Int) ≤ 256 := by omega
          clear hz hk hgk hbelow hand hgap hyes hJ hX HJs
          gi_wp2_with (refine ⟨trivial, ?_⟩; gi_at_call 104; refine (callsIn_wide.2 HTZ.out).mono ?_; rintro e w' ⟨rfl, rfl⟩)
          refine hR.mono ?_
          rintro e W3 (⟨rfl, hJ3, hk3⟩ | ⟨rfl, hJx3⟩)
          · have hsub : IntKind.u64.wrap ((X : Int) - 1) = ((X - 1 : Nat) : Int) := by rw [IntKind.wrap_u64]; omega
            have hand := HAND.out
            have HJn : Hid (J (rowUpto f (64 * i + (k + 1))) W3) := by
              show J _ _
              rw [← Nat.add_assoc, HYS.out]; exact hJ3
            have HBn := Hid.mk (HBs.out.trans hk3)
            clear hy hR hJ3 hk3 HTZ HAND
            gi_wp2
            go_roundw
            case rel => exact ⟨k + 1, by omega, rfl, HJn, HBn⟩
            case measure => have := HLT.out; simp [intOf]; omega
          · have HJX := Hid.mk hJx3
            clear hy hR hJx3 HTZ HAND
            gi_wp2
            refine bodyPost_ret (results_none rfl _ _ _) rfl ?_
            exact ⟨⟨_, rfl⟩, .inr ⟨_, ⟨64 * i + k + 1, by omega, HYS.out.symm⟩, HJX.out⟩⟩
    · obtain rfl : i = 4 := by omega
      have HJe := HJ
      clear HJ
      gi_wp2
      go_end0
      first | exact ⟨⟨_, rfl⟩, .inl ⟨_, rfl, HJe.out⟩⟩ | exact ⟨⟨_, rfl⟩, .inl HJe.out⟩

/-- **The iterator over the places of a set: for every loop body that keeps what lay below n₀.** -/
theorem all_stops (n : Nat) (hn : 1 ≤ n) (Bn n₀ : Nat) (f : Nat → Bool) (w : World) (hBn : Bn < w.heap.size) (hn0 : n₀ ≤ w.heap.size)
    (hc : ∀ j, j < 4 → w.cell? ⟨Bn, j, none⟩ = some (.int .u64 (wd f j : Int))) (hT : ∀ w', Below n₀ w w' → TabB w') :
    SeqStopsK .wide n Tryz.prog 103 #[.pointer (some ⟨Bn, 0, none⟩)] (fun (x : Nat) => #[.int .i64 (x : Int)]) (Below n₀) (fun ys => ys = rowUpto f 256) (fun pre => ∃ k, k ≤ 256 ∧ pre = rowUpto f k) 256 w := by
  intro l J Jx W hW hJ hJx hY h0
  refine all1_in n hn l Bn n₀ f J Jx W (fun pre x W1 _ => hY pre x W1) (fun j hj => ?_) (fun w' hb => hT w' ((hW.mono hn0).trans hb)) h0
  rw [hW.cell (p := ⟨Bn, j, none⟩) hBn]
  exact hc j hj

theorem map_val_len {f : Nat → Bool} (pre : List { x : Nat // f x = true }) : (pre.map (·.1)).length = pre.length := by simp

/-- **The same, where the body is told that each place is one of the set.** -/
theorem all_stopsF (n : Nat) (hn : 1 ≤ n) (Bn n₀ : Nat) (f : Nat → Bool) (w : World) (hBn : Bn < w.heap.size) (hn0 : n₀ ≤ w.heap.size)
    (hc : ∀ j, j < 4 → w.cell? ⟨Bn, j, none⟩ = some (.int .u64 (wd f j : Int))) (hT : ∀ w', Below n₀ w w' → TabB w') :
    SeqStopsK .wide n Tryz.prog 103 #[.pointer (some ⟨Bn, 0, none⟩)] (fun (x : { x : Nat // f x = true }) => #[.int .i64 (x.1 : Int)]) (Below n₀) (fun ys => ys.map (·.1) = rowUpto f 256) (fun pre => ∃ k, k ≤ 256 ∧ pre.map (·.1) = rowUpto f k) 256 w := by
  intro l J Jx W hW hJ hJx hY h0
  refine (all1_in n hn l Bn n₀ f (fun pre W1 => ∃ p' : List { x : Nat // f x = true }, p'.map (·.1) = pre ∧ J p' W1) (fun pre W1 => ∃ p' : List { x : Nat // f x = true }, p'.map (·.1) = pre ∧ Jx p' W1) W ?_ (fun j hj => ?_) (fun w' hb => hT w' ((hW.mono hn0).trans hb)) ⟨[], rfl, h0⟩).mono ?_
  · rintro pre x W1 hx ⟨p', rfl, hj⟩ hlen
    rw [map_val_len] at hlen
    obtain ⟨fn, tmps, assign, body, hy, hR⟩ := hY p' ⟨x, hx⟩ W1 hj hlen
    refine ⟨fn, tmps, assign, body, hy, hR.mono ?_⟩
    rintro e W' (⟨h1, h2, h3⟩ | ⟨h1, h2⟩)
    · exact .inl ⟨h1, ⟨p' ++ [⟨x, hx⟩], by simp, h2⟩, h3⟩
    · exact .inr ⟨h1, p' ++ [⟨x, hx⟩], by simp, h2⟩
  · rw [hW.cell (p := ⟨Bn, j, none⟩) hBn]
    exact hc j hj
  · rintro e W' ⟨h1, (⟨ys, h2, p', h3, h4⟩ | ⟨pre, h2, p', h3, h4⟩)⟩
    · exact ⟨h1, .inl ⟨p', h3.trans h2, h4⟩⟩
    · obtain ⟨k, hk, h2⟩ := h2
      exact ⟨h1, .inr ⟨p', ⟨k, hk, h3.trans h2⟩, h4⟩⟩
end Go.Proofs.YtapniafhcagogaaGreatDoor

namespace Go.Proofs.YtapniafhcagogaaGreatDoor
open Go.RowKit Go.Shelf
set_option maxRecDepth 8000

attribute [local go_sem] Oper.semAt_some

/-- The four words as one value. -/
abbrev aggW (f : Nat → Bool) : Value := .agg #[.int .u64 (wd f 0 : Int), .int .u64 (wd f 1 : Int), .int .u64 (wd f 2 : Int), .int .u64 (wd f 3 : Int)]
abbrev boxW (w : World) (f : Nat → Bool) : World := w.alloc (.cells #[.int .u64 (wd f 0 : Int), .int .u64 (wd f 1 : Int), .int .u64 (wd f 2 : Int), .int .u64 (wd f 3 : Int)] 90)

theorem boxW_cell (w : World) (f : Nat → Bool) (j : Nat) (hj : j < 4) : (boxW w f).cell? ⟨w.heap.size, j, none⟩ = some (.int .u64 (wd f j : Int)) := by
  rw [cell_of_row _ w.heap.size j _ _ (0, 0) (heap_alloc_new w _)]
  rcases (show j = 0 ∨ j = 1 ∨ j = 2 ∨ j = 3 by omega) with rfl | rfl | rfl | rfl <;> rfl

theorem all_any (f : Nat → Bool) (w : World) :
    Calls Tryz.prog 89 #[aggW f] w fun e w' => e = .returned (.func (.func 103) #[] #[.pointer (some ⟨w.heap.size, 0, none⟩)]) ∧ w' = boxW w f := by
  go_enter Tryz.func89, Tryz.ntmps89
  go_wp2
  go_ret
  exact ⟨rfl, rfl⟩

end Go.Proofs.YtapniafhcagogaaGreatDoor

namespace Go.Proofs.YtapniafhcagogaaGreatDoor
open Go.RowKit

def noDefB (ops : Array Oper) : Bool := ops.toList.all fun o => match o.op with | .defer _ => false | _ => true

theorem noDefB_spec {ops : Array Oper} (h : noDefB ops = true) {i : Nat} {o : Oper} (ho : ops[i]? = some o) : ∀ c, o.op ≠ .defer c := by
  intro c hc
  have hm : o ∈ ops.toList := by
    rw [Array.getElem?_eq_some_iff] at ho
    obtain ⟨hl, rfl⟩ := ho
    exact Array.mem_toList_iff.2 (Array.getElem_mem hl)
  have := List.all_eq_true.1 h o hm
  rw [hc] at this
  cases this

section
variable {P : Program} {ops : Array Oper} {Q : Exit → Act → World → Prop} {md : Region.Mode} {S : World → Prop}

theorem wpOp_inRound {l n i : Nat} {K : Act → World → Prop} {a : Act} {w : World} (hnd : noDefB ops = true) (hLO : ¬ LetsOut Q) (h : wpOp P ops Q i K a w) : wpOpIn (Fence.wide.inRound l) n P ops Q i K a w := by
  unfold wpOp at h
  unfold wpOpIn
  cases ho : ops[i]? with
  | none => simp only [ho] at h ⊢; exact h
  | some o =>
    simp only [ho] at h ⊢
    by_cases hw : Region.wanted o (yielded ops a.tmps) = true
    · simp only [hw, if_true] at h ⊢
      rcases h with h | ⟨_, h⟩
      · unfold Oper.wp at h
        unfold Oper.wpIn
        refine ⟨fun _ _ => trivial, ?_⟩
        rw [show (Fence.wide.inRound l).round = some l from rfl, Oper.semAt_some l _ _ (noDefB_spec hnd ho)]
        generalize (execOp a.eval o).run P w = r at h ⊢
        cases r with
        | ok x w' =>
          cases x <;> simp only [Oper.upon, Oper.uponIn] at h ⊢
          all_goals first
            | exact h
            | exact ⟨fun hh => by simp [Fence.wide] at hh, CallsIn.inRound l (callsIn_wide.2 h)⟩
            | exact ⟨fun hh => by simp [Fence.wide] at hh, fun c cs _ => by obtain ⟨v, w'', r, s⟩ := h c cs; exact ⟨v, w'', r, stepsIn_wide.2 s⟩⟩
            | exact h.elim
        | halt x w' =>
          cases x <;> simp only [Oper.upon, Oper.uponIn] at h ⊢
          all_goals first | exact h | exact h.elim
      · exact absurd h hLO
    · simp only [hw] at h ⊢
      exact ⟨fun _ _ => trivial, h⟩

theorem wpAny_inRound {l n : Nat} (hnd : noDefB ops = true) (hLO : ¬ LetsOut Q) : ∀ (fuel : Nat) (listed : Array Bool) (a : Act) (w : World), wpAny P md ops Q fuel listed a w → wpAnyIn (Fence.wide.inRound l) n P md ops Q fuel listed a w := by
  intro fuel
  induction fuel with
  | zero => intro listed a w h; exact h
  | succ fuel ih => intro listed a w h; exact ⟨h.1, fun i hi => wpOpIn_mono (fun a' w' h' => ih _ a' w' h') (wpOp_inRound hnd hLO (h.2 i hi))⟩

/-- The law of a region that holds S, in a round. -/
theorem wpIn_region_held_round {l n id : Nat} {a : Act} {w : World} (hm : P.follows .mixedOrders = true) (hnd : noDefB ops = true) (hLO : ¬ LetsOut Q) (hS : S w.drew)
    (h : S w.drew → wpAnyH P .any ops Q S ops.size (Array.replicate ops.size false) a w.drew) : (Code.region id ops true).wpIn (Fence.wide.inRound l) n P Q a w :=
  wpIn_region_any hm (wpAny_inRound hnd hLO _ _ _ _ (wpAny_of_held _ _ _ _ (h hS)))
end

/-- It ends by itself, in no other way. -/
def OnlyN (K : Act → World → Prop) : Exit → Act → World → Prop := fun e a w => match e with
  | .normal => K a w
  | _ => False
theorem wp_onlyN {P : Program} {c : Code} {Q : Exit → Act → World → Prop} {a : Act} {w : World} (h : c.wp P (OnlyN (Q .normal)) a w) : c.wp P Q a w :=
  wp_mono h (fun e a w hq => by cases e <;> first | exact hq | exact hq.elim)

/-- make, whole, for a fenced goal. -/
theorem wpListIn_make_full {F : Fence} {n : Nat} {P : Program} (w : World) {ops : Array Oper} {rest : List Oper} {o : Oper} {a : Act} {Q : Exit → Act → World → Prop}
    (hg : o.guard = none) (l c : Operand) (t : TypeId) (hop : o.op = Op.makeSlice t l c)
    (base : Nat) (e : TypeId) (i : TypeInfo) (z : Value) (size : Nat) (h1 : P.underlying t = some (.slice e)) (h2 : P.info? e = some i) (h3 : i.zero = some z) (h4 : i.size = size)
    (kl kc : IntKind) (L C : Int) (m : Nat) (hl : a.eval l = .int kl L) (hc : a.eval c = .int kc C) (hL : L = (m : Int)) (hC : C = (m : Int)) (b2 : i.bytes * m ≤ 281474976710656) (b3 : m ≤ maxLen) (b4 : base ≤ w.heap.size)
    (hK : ∀ w', w'.ownsRow base e size (.slice (some ⟨w.heap.size, 0, none⟩) m m) m (madeCells z.cells (m * size)).toList → w.grownBy w' none → wpListIn F n P ops Q rest (a.put o.dst (.slice (some ⟨w.heap.size, 0, none⟩) m m)) w') :
    wpListIn F n P ops Q (o :: rest) a w := by
  refine wpListIn_plain hg fun K hK' => ?_
  obtain ⟨w', hrun, r1, r2⟩ := run_make_full (P := P) w base t e i z size h1 h2 h3 h4 kl kc m b2 b3 b4
  subst hL hC
  unfold Oper.wpIn
  refine ⟨?_, ?_⟩
  · simp [Oper.about, hop]
  · rw [Oper.semAt_plain F _ _ (by rw [hop]; intro c hc'; cases hc')]
    simp [execOp, hop, hl, hc, hrun, Result.andThen]
    exact hK' _ _ (hK w' r1 r2)

/-- The marks of ranges that are over. -/
inductive Marks (B : Nat) (W : World) : List Deferred → Prop
  | nil : Marks B W []
  | cons {D : Nat} {ds : List Deferred} (hB : B ≤ D) (hD : W.heap[D]? = some (.deferred (some []))) (hne : ∀ d ∈ ds, d.target ≠ .collected D) (h : Marks B W ds) : Marks B W ({ target := .collected D, args := #[] } :: ds)

theorem Marks.lt {B : Nat} {W : World} {ds : List Deferred} (h : Marks B W ds) : ∀ d ∈ ds, ∀ D, d.target = .collected D → D < W.heap.size := by
  induction h with
  | nil => intro d hd; cases hd
  | cons hB hD hne _ ih =>
    intro d hd D e
    rcases List.mem_cons.1 hd with rfl | hd
    · cases e; exact (Array.getElem?_eq_some_iff.1 hD).1
    · exact ih d hd D e
theorem Marks.keeps {B : Nat} {W W' : World} {ds : List Deferred} (h : Marks B W ds) (hk : KeepsFrom B W W') : Marks B W' ds := by
  induction h with
  | nil => exact .nil
  | cons hB hD hne _ ih => exact .cons hB (hk.same _ _ hB hD rfl) hne ih
theorem Marks.taken {B : Nat} {W : World} {D : Nat} {ds : List Deferred} (h : Marks B W ds) (hne : ∀ d ∈ ds, d.target ≠ .collected D) (o : Obj) : Marks B (W.putObj D o) ds := by
  induction h with
  | nil => exact .nil
  | @cons D' ds' hB hD hne' _ ih =>
    have hDD : D' ≠ D := fun e => hne _ (List.mem_cons_self ..) (by rw [e])
    exact .cons hB ((World.putObj_heap_other (fun e => hDD (by rw [e]))).trans hD) hne' (ih (fun d hd => hne d (List.mem_cons_of_mem _ hd)))

theorem leaves_marks {F : Fence} {n : Nat} {P : Program} {fn : Func} {tmps : Array Value} {R : Ending → World → Prop} {B : Nat} : ∀ (ds : List Deferred) (W : World), Marks B W ds →
    (∀ W', Below B W W' → (∀ (b : Nat) (o : Obj), W.heap[b]? = some o → o.isCells = true → W'.heap[b]? = some o) → LeavesIn F n P fn tmps R [] .returning W') → LeavesInM F n P fn tmps R ds .returning W := by
  intro ds
  induction ds with
  | nil => intro W _ h; exact h W (Below.refl _ _) (fun _ _ h _ => h)
  | cons d ds ih =>
    intro W hm h
    cases hm with
    | @cons D _ hB hD hne hrest =>
      refine ⟨by simp, .inl ⟨D, _, rfl, run_takeDeferred hD, ?_⟩⟩
      have hb : Below B W (W.putObj D (.deferred none)) := (Below.refl B W).grown (grownBy_putObj' W D _) (by have := (Array.getElem?_eq_some_iff.1 hD).1; omega) (fun k e => by cases e; exact hB)
      refine ih _ (hrest.taken hne _) (fun W' hb' hc => h W' (hb.trans hb') (fun b o ho hcells => hc b o ?_ hcells))
      have hbD : b ≠ D := fun e => by subst e; rw [hD] at ho; cases ho; cases hcells
      exact (World.putObj_heap_other hbD).trans ho
end Go.Proofs.YtapniafhcagogaaGreatDoor
