/- The program's layPart: every right expression; the machine of one: NfaOf of the program. -/
import Derived.Test.YtapniafhcagogaaArrH
import Derived.Test.YtapniafhcagogaaNfaSp
import Derived.Laws.Cover3
namespace Go.Proofs.Ytapniafhcagogaa
open Go.RowKit
set_option maxRecDepth 8000

set_option maxHeartbeats 2000000 in
theorem arrPart_5 (t : Tr) (hk : t.k = 5) (ih : ∀ x ∈ t.l, ApC x) : ApC t := by
  intro B v g N w hA h hB hok hn
  have hlay := lay_eq t N.length
  rw [if_neg (by omega), if_neg (by omega), if_neg (by omega), if_neg (by omega), if_pos hk] at hlay
  have hnsz := nsz_eq t
  rw [if_neg (by omega), if_pos hk] at hnsz
  rw [hlay]
  have h8 := okT_two hok (.inr hk)
  have hkids := okT_kids hok
  obtain ⟨ao, cap, rfl, hl1, hl2, -⟩ := h.len
  have X0 := Hid.mk (Bz3.new w (.int .i64 t.k) (.string t.s) (.slice ao t.l.length cap))
  have A0 : Hid (Below w.heap.size w (w.alloc (.cells #[.int .i64 t.k, .string t.s, .slice ao t.l.length cap] 26))) := (Below.refl _ _).alloc (Nat.le_refl _) _
  have HR := h.grow A0.out
  have HC := Hid.mk (arrChoices_any t.l ih hkids h8.1 h8.2 B _ g N _ (hA.grow A0.out) HR hB (by omega))
  rw [hk] at X0 A0 HC ⊢
  generalize t.s = ts at *
  generalize t.l = l at *
  have x0 := X0.out.c0
  have x2 := X0.out.c2
  clear hlay hA h hk hok ih hnsz HR hkids hl2
  go_enter Try.func49, Try.ntmps49
  go_wp2_with fail
  refine HC.out.mono ?_
  rintro e w1 ⟨⟨q, rfl⟩, h1, m1⟩
  have H1 := Hid.mk h1
  have M1 := Hid.mk ((Mkd.below A0.out).trans m1)
  clear h1 m1 HC A0 X0 x0 x2
  go_wp2
  refine bodyPost_end (v := .tuple #[]) (by simp [results, Try.results49, go_sem]) rfl ⟨⟨_, rfl⟩, H1.out, M1.out⟩

/-- layPart of the program: a right part is laid behind the nodes. -/
theorem arrPart_any : ∀ t : Tr, ApC t := Tr.ind fun t ih => by
  intro B v g N w hA h hB hok hn
  rcases okT_kinds hok with hk | hk | hk | hk | hk | hk | hk | hk | hk | hk | hk
  · exact arrPart_1 t hk B v g N w hA h hB hok hn
  · exact arrPart_2 t hk B v g N w hA h hB hok hn
  · exact arrPart_3 t hk B v g N w hA h hB hok hn
  · exact arrPart_4 t hk ih B v g N w hA h hB hok hn
  · exact arrPart_5 t hk ih B v g N w hA h hB hok hn
  · exact arrPart_6 t hk ih B v g N w hA h hB hok hn
  · exact arrPart_7 t hk ih B v g N w hA h hB hok hn
  · exact arrPart_8 t hk ih B v g N w hA h hB hok hn
  · exact arrPart_9 t hk B v g N w hA h hB hok hn
  · exact arrPart_10 t hk B v g N w hA h hB hok hn
  · exact arrPart_11 t hk B v g N w hA h hB hok hn

theorem zeroArr : Try.zeroCells73 = (arC []).toArray := by kernel_rfl
theorem newArr (w : World) : AB (w.alloc (.cells Try.zeroCells73 73)) w.heap.size [] := by
  refine ⟨?_, Nat.zero_le _⟩
  rw [heap_alloc_new, zeroArr]

theorem ndCells_one : ∀ (L : List Nd), ∀ u ∈ ndCells L, u.oneCell' = true
  | [], u, h => by cases h
  | x :: r, u, h => by
    simp only [ndCells, List.mem_cons] at h
    rcases h with rfl | rfl | rfl | rfl | h
    · rfl
    · rfl
    · rfl
    · rfl
    · exact ndCells_one r u h

set_option maxHeartbeats 2000000 in
theorem arrClone_any (N : List Nd) (g : Nat) (w : World) (h : AB w g N) :
    Calls Try.prog 51 #[.slice (some ⟨g, 0, none⟩) N.length 300] w fun e w' => ∃ u, e = .returned u ∧ OwnN w' w.heap.size u N ∧ Below w.heap.size w w' := by
  obtain ⟨i0, hi, hz0, hz1, hz2⟩ := info_parts infoNode
  have A0 : Hid (Below w.heap.size w (w.alloc (.cells #[] 69))) := (Below.refl _ _).alloc (Nat.le_refl _) _
  have O0 : Hid (OwnN (w.alloc (.cells #[] 69)) w.heap.size (.slice (some ⟨w.heap.size, 0, none⟩) 0 0) []) := World.ownsRow_lit w #[] 0 (Nat.le_refl _) (by decide) rfl
  have HCE : Hid (∀ j u, (ndCells N)[j]? = some u → (w.alloc (.cells #[] 69)).cell? ((⟨g, 0, none⟩ : Addr).add j) = some u) := fun j u hj => by
    have h0 := h.grow A0.out
    rw [Addr.add_lit, Nat.zero_add, cell_of_row _ g j _ _ (0, 0) h0.1, List.getElem?_toArray]
    have hlt := (List.getElem?_eq_some_iff.1 hj).1
    unfold arC padN
    rw [ndCells_append, List.append_assoc, List.getElem?_append_left hlt]
    exact hj
  have hN := h.2
  have hnil : ∀ w, (binOp .eql 42 (.slice (some ⟨g, 0, none⟩) N.length 300) (.slice none 0 0)).run Try.prog w = .ok (.bool false) w := fun w => by
    have := run_equal_slice_nil (P := Try.prog) w 42 69 (some ⟨g, 0, none⟩) N.length 300 Try.underlying42
    simp [binOp, this]
  clear h
  go_enter Try.func51, Try.ntmps51
  go_wp2_with (at_builtin; refine wpList_append_own_at _ rfl _ _ 42 rfl w.heap.size 69 i0 _ 4 40 Try.underlying42 hi hz0 hz1 hz2 rfl (by decide) _ 0 [] rfl O0.out ⟨g, 0, none⟩ N.length 300 (ndCells N) rfl (ndCells_len N) HCE.out (ndCells_one N) (by unfold maxLen; omega) (by omega) (by simp) ?_)
  intro v' w' hown hgr _ _
  have HO : Hid (OwnN w' w.heap.size v' N) := by
    show OwnN _ _ _ _
    unfold OwnN
    simpa using hown
  have HB : Hid (Below w.heap.size w w') := A0.out.grown hgr (by simp) (fun k hk => by simp [Value.ownBlock] at hk; omega)
  clear hown hgr A0 O0 HCE hi hz0 hz1 hz2
  go_wp2
  go_ret
  exact ⟨_, rfl, HO.out, HB.out⟩

set_option maxHeartbeats 2000000 in
theorem implNfaOf_any (t : Tr) (B : Nat → Prop) (v : Value) (w : World) (h : Rl w B t.l v) (hs : t.s.size ≤ maxLen) :
    Calls Try.prog 24 #[rx t.k t.s v] w fun e w' => ∃ u, e = .returned (.agg #[u]) ∧ OwnN w' w.heap.size u (nfN t) ∧ Below w.heap.size w w' := by
  have HC := Hid.mk (fun (w' : World) (hb : Below w.heap.size w w') => implRexOk_any t B v w' (h.grow hb) hs)
  have HL : Hid (∀ (w1 : World) (g : Nat), Below w.heap.size w w1 → AB w1 g [] → w.heap.size ≤ g → okR t = true → Calls Try.prog 49 #[.pointer (some ⟨g, 0, none⟩), rx t.k t.s v] w1 fun e w' => (∃ x, e = .returned x) ∧ AB w' g (t.lay 0) ∧ Mkd g w1 w') := fun w1 g h1 ha hg hk => by
    have h2 := okR_nsz hk
    exact arrPart_any t (fun b => b < w.heap.size) v g [] w1 ha (((h.imp (C := fun b => b < w.heap.size) fun _ _ hb => hb)).kept fun b hb' _ => h1.block b hb') (by omega) (okR_tree hk) (by simp; omega)
  have HE : Hid (okR t = true → nfN t = t.lay 0 ++ [doneN]) := fun h => by unfold nfN; rw [if_pos h]
  have HE2 : Hid (okR t = false → nfN t = []) := fun h => by unfold nfN; rw [h]; rfl
  have HN : Hid (okR t = true → (t.lay 0).length ≤ 238) := fun h => by rw [lay_len t (okR_tree h)]; exact okR_nsz h
  generalize nfN t = R at *
  generalize t.lay 0 = Y at *
  obtain ⟨o, ho⟩ : ∃ o, okR t = o := ⟨_, rfl⟩
  obtain ⟨k, hk⟩ : ∃ k, t.k = k := ⟨_, rfl⟩
  obtain ⟨s, hsn⟩ : ∃ s, t.s = s := ⟨_, rfl⟩
  rw [hk, hsn, ho] at HC HL
  rw [ho] at HE HE2 HN
  rw [hk, hsn]
  obtain ⟨ao, cap, rfl, hl1, hl2, hl3⟩ := h.len
  generalize t.l.length = tl at *
  have X0 := Hid.mk ((Bz3.new w (.int .i64 k) (.string s) (.slice ao tl cap)).grow ((Below.refl (w.alloc (.cells #[.int .i64 k, .string s, .slice ao tl cap] 26)).heap.size _).alloc (Nat.le_refl _) (.cells #[.slice none 0 0] 44)))
  have Y0 := Hid.mk (Bx1.new (w.alloc (.cells #[.int .i64 k, .string s, .slice ao tl cap] 26)) 44 (.slice none 0 0))
  rw [World.size_alloc] at Y0
  have B0 : Below w.heap.size w ((w.alloc (.cells #[.int .i64 k, .string s, .slice ao tl cap] 26)).alloc (.cells #[.slice none 0 0] 44)) := ((Below.refl _ _).alloc (Nat.le_refl _) _).alloc (by simp) _
  clear h hk hsn ho hl2 hs
  cases o with
  | false =>
    have HR := Hid.mk (HE2.out rfl)
    clear HL HE HN HE2
    go_enter Try.func24, Try.ntmps24
    go_wp2_with fail
    refine (HC.out _ B0).mono ?_
    rintro e w1 ⟨rfl, hb1⟩
    have B1 := B0.trans (hb1.mono (by simp; omega))
    have Y1 := Hid.mk (Y0.out.grow hb1)
    have y1 := Y1.out.c0
    have f1 := frozen_of_row w1 _ 0 _ _ Y1.out
    have hlt1 := Y1.out.lt
    clear B0 hb1 HC X0 Y0
    go_wp2
    refine bodyPost_ret (v := .agg #[.slice none 0 0]) ?_ rfl ⟨_, rfl, ?_, ?_⟩
    · have z1 := (Y1.out.put (.slice none 0 0)).c0
      simp [results, Try.results24, go_sem, z1]
    · rw [HR.out]; exact OwnN.nil _ _
    · exact B1.setCell (by simp) _
  | true =>
    have HR := Hid.mk (HE.out rfl)
    have hlen := HN.out rfl
    clear HE HN HE2
    go_enter Try.func24, Try.ntmps24
    go_wp2_with fail
    refine (HC.out _ B0).mono ?_
    rintro e w1 ⟨rfl, hb1⟩
    have B1 := B0.trans (hb1.mono (by simp; omega))
    have X1 := Hid.mk (X0.out.grow hb1)
    have Y1 := Hid.mk (Y0.out.grow hb1)
    have hs1 := B1.size
    clear B0 hb1 HC X0 Y0
    have b2 : Hid (Below w1.heap.size w1 (w1.alloc (.cells Try.zeroCells73 73))) := (Below.refl _ _).alloc (Nat.le_refl _) _
    have X2 := Hid.mk (X1.out.grow b2.out)
    have x0 := X2.out.c0
    have x1 := X2.out.c1
    have x2 := X2.out.c2
    have hx := X1.out.lt
    have HL2 := Hid.mk (HL.out _ _ (B1.trans (b2.out.mono hs1)) (newArr w1) hs1 trivial)
    clear HL
    go_wp2_with fail
    refine HL2.out.mono ?_
    rintro e w3 ⟨⟨q, rfl⟩, h3, m3⟩
    have m13 := (Mkd.below (g := w1.heap.size) b2.out).trans m3
    have HD := Hid.mk (arrLay_any Y w1.heap.size 7 w3 h3 (by omega))
    clear HL2 h3 m3 b2 x0 x1 x2 X1 X2
    go_wp2_with fail
    refine HD.out.mono ?_
    rintro e w4 ⟨rfl, h4, m4⟩
    have b4 := Hid.mk ((m13.trans m4).low (n := w1.heap.size) (Nat.le_refl _) (Nat.le_refl _))
    have cn := h4.cnt
    generalize hYY : Y ++ [(⟨7, ⟨#[]⟩, 0, 0⟩ : Nd)] = YD at *
    have HYD : Hid (R = YD) := by show _ = _; rw [HR.out, ← hYY]; rfl
    have hle : YD.length ≤ 300 := h4.2
    have HCL := Hid.mk (arrClone_any YD w1.heap.size w4.drew (h4.grow (Below.drewSelf w4.heap.size w4 1)))
    have hs4 := b4.out.size
    have Y4 := Hid.mk (Y1.out.grow b4.out)
    have hb1 := Y1.out.lt
    clear HD m4 m13 h4 hYY HR Y1
    obtain ⟨S, hS⟩ : ∃ S : World → Prop, ∀ w', S w' ↔ w'.cell? ⟨w1.heap.size, 1200, none⟩ = some (.int .i64 (YD.length : Int)) := ⟨_, fun _ => Iff.rfl⟩
    have S0 : S w4.drew := (hS _).2 (by simpa using cn)
    have hlei : (YD.length : Int) ≤ 300 := by omega
    go_wp2_with fail
    refine wp_region_held_drew (S := S) (by kernel_rfl) S0 (fun _ => ?_)
    refine takeHD (i := 0) (v := .pointer (some ⟨w1.heap.size, 0, none⟩)) (some 15) rfl rfl (by kernel_rfl) (by kernel_rfl) (by kernel_rfl) (fun _ _ _ h => h) (Or.inl ⟨by kernel_rfl, fun w' hw => ?_⟩) S0 ?_
    · kernel_rfl
    simp only [Act.put, List.setIfInBounds_toArray]
    refine takeHD (i := 1) (v := .pointer (some ⟨w1.heap.size, 0, none⟩)) (some 16) rfl rfl (by kernel_rfl) (by kernel_rfl) (by kernel_rfl) (fun _ _ _ h => h) (Or.inl ⟨by kernel_rfl, fun w' hw => ?_⟩) S0 ?_
    · kernel_rfl
    simp only [Act.put, List.setIfInBounds_toArray]
    refine takeHD (i := 2) (v := .pointer (some ⟨w1.heap.size, 0, none⟩)) (some 17) rfl rfl (by kernel_rfl) (by kernel_rfl) (by kernel_rfl) (fun _ _ _ h => h) (Or.inl ⟨by kernel_rfl, fun w' hw => ?_⟩) S0 ?_
    · kernel_rfl
    simp only [Act.put, List.setIfInBounds_toArray]
    refine takeHD (i := 3) (v := .pointer (some ⟨w1.heap.size, 0, none⟩)) (some 18) rfl rfl (by kernel_rfl) (by kernel_rfl) (by kernel_rfl) (fun _ _ _ h => h) (Or.inl ⟨by kernel_rfl, fun w' hw => ?_⟩) S0 ?_
    · kernel_rfl
    simp only [Act.put, List.setIfInBounds_toArray]
    refine takeHD (i := 4) (v := .pointer (some ⟨w1.heap.size, 0, none⟩)) (some 19) rfl rfl (by kernel_rfl) (by kernel_rfl) (by kernel_rfl) (fun _ _ _ h => h) (Or.inl ⟨by kernel_rfl, fun w' hw => ?_⟩) S0 ?_
    · kernel_rfl
    simp only [Act.put, List.setIfInBounds_toArray]
    refine takeHD (i := 5) (v := .pointer (some ⟨w1.heap.size, 1200, none⟩)) (some 20) rfl rfl (by kernel_rfl) (by kernel_rfl) (by kernel_rfl) (fun _ _ _ h => h) (Or.inl ⟨by kernel_rfl, fun w' hw => ?_⟩) S0 ?_
    · kernel_rfl
    simp only [Act.put, List.setIfInBounds_toArray]
    refine takeHD (i := 6) (v := .int .i64 (YD.length : Int)) (some 21) rfl rfl (by kernel_rfl) (by kernel_rfl) (by kernel_rfl) (fun _ _ _ h => h) (Or.inl ⟨by kernel_rfl, fun w' hw => ?_⟩) S0 ?_
    · have y := (hS _).1 hw; go_simp
    simp only [Act.put, List.setIfInBounds_toArray]
    refine takeHD (i := 7) (v := .slice (some ⟨w1.heap.size, 0, none⟩) YD.length 300) (some 22) rfl rfl (by kernel_rfl) (by kernel_rfl) (by kernel_rfl) (fun _ _ _ h => h) (Or.inl ⟨by kernel_rfl, fun w' hw => ?_⟩) S0 ?_
    · go_simp
    simp only [Act.put, List.setIfInBounds_toArray]
    refine wpAnyH_ready (rs := [8]) (by kernel_rfl) (by simp) ?_
    refine AllReadyH.cons rfl (fun K hK => ?_) AllReadyH.nil
    rw [if_pos (by kernel_rfl)]
    go_wp2_with fail
    refine HCL.out.mono ?_
    rintro e w5 ⟨u5, rfl, ho5, hb5⟩
    have hw4 : w4.drew.heap.size = w4.heap.size := by simp
    rw [hw4] at ho5 hb5
    have hb45 : Below w4.heap.size w4 w5 := (Below.drewSelf w4.heap.size w4 1).trans hb5
    have S5 : S w5 := (hS _).2 (by rw [hb45.cell (p := ⟨w1.heap.size, 1200, none⟩) (World.block_lt_of_cell? w4 _ cn)]; exact cn)
    refine hK.out _ _ S5 (fun _ => ?_)
    clear hK K
    have O5 := Hid.mk ho5
    have Q5 := Hid.mk (B1.trans ((b4.out.trans (hb45.mono hs4)).mono hs1))
    have Y5 := Hid.mk (Y4.out.grow hb45)
    have y5 := Y5.out.c0
    have f5 := frozen_of_row w5 _ 0 _ _ Y5.out
    obtain ⟨va, vc, hv5, -⟩ := ho5.lenV
    subst hv5
    refine wpAnyH_ready (rs := [9]) (by kernel_rfl) (by simp) ?_
    refine AllReadyH.cons rfl (fun K hK => ?_) AllReadyH.nil
    rw [if_pos (by kernel_rfl)]
    go_wp2_with fail
    refine hK.out _ _ S5 (fun _ => ?_)
    clear hK K
    refine wpAnyH_ready (rs := [10]) (by kernel_rfl) (by simp) ?_
    refine AllReadyH.cons rfl (fun K hK => ?_) AllReadyH.nil
    rw [if_pos (by kernel_rfl)]
    go_wp2_with fail
    refine hK.out _ _ ((hS _).2 ((World.cell?_setCell_other w5 _ _ _ (by simp)).trans ((hS _).1 S5))) (fun _ => ?_)
    clear hK K
    refine wpAnyH_done (by kernel_rfl) ?_ _
    clear HCL ho5 hb5 hb45 b4 cn Y4
    go_wp2
    have z1 := (Y5.out.put (.slice va YD.length vc)).c0
    refine bodyPost_ret (v := .agg #[.slice va YD.length vc]) ?_ rfl ⟨_, rfl, ?_, ?_⟩
    · simp [results, Try.results24, go_sem, z1]
    · rw [HYD.out]; exact (OwnN.setLow O5.out (by show w.heap.size + 1 < _; omega) _).mono (by omega)
    · exact Q5.out.setCell (by simp) _

/-- No text of a machine's nodes is too long. -/
theorem lay_small (t : Tr) : t.okT = true → ∀ p, ∀ x ∈ t.lay p, x.s.size ≤ maxLen := by
  refine Tr.ind (P := fun t => t.okT = true → ∀ p, ∀ x ∈ t.lay p, x.s.size ≤ maxLen) ?_ t
  intro t ih hok p x hx
  have hk := okT_kids hok
  have h0 : (noS : ByteArray).size ≤ maxLen := by decide
  have hs : ∀ a b, (split a b).s.size ≤ maxLen := fun a b => h0
  have hL : ∀ (l : List Tr), (∀ y ∈ l, y ∈ t.l) → ∀ p, ∀ x ∈ layL l p, x.s.size ≤ maxLen := by
    intro l
    induction l with
    | nil => intro _ p x hx; rw [layL] at hx; cases hx
    | cons y r ihr =>
      intro hm p x hx
      rw [layL, List.mem_append] at hx
      rcases hx with hx | hx
      · exact ih y (hm y (List.mem_cons_self ..)) (hk y (hm y (List.mem_cons_self ..))) p x hx
      · exact ihr (fun z hz => hm z (List.mem_cons_of_mem _ hz)) _ x hx
  have hA : ∀ (l : List Tr), (∀ y ∈ l, y ∈ t.l) → ∀ p q, ∀ x ∈ layA l p q, x.s.size ≤ maxLen := by
    intro l
    induction l with
    | nil => intro _ p q x hx; rw [layA] at hx; cases hx
    | cons y r ihr =>
      intro hm p q x hx
      have hy := ih y (hm y (List.mem_cons_self ..)) (hk y (hm y (List.mem_cons_self ..)))
      rw [layA] at hx
      split at hx
      · exact hy p x hx
      · rw [List.mem_cons, List.mem_append, List.mem_cons] at hx
        rcases hx with rfl | hx | rfl | hx
        · exact hs _ _
        · exact hy _ x hx
        · exact hs _ _
        · exact ihr (fun z hz => hm z (List.mem_cons_of_mem _ hz)) _ _ x hx
  have hb : ∀ n, n ≤ 1048576 → n ≤ maxLen := fun n hn => by unfold maxLen; omega
  rw [lay_eq] at hx
  split at hx
  · rename_i h1
    obtain rfl := List.mem_singleton.1 hx
    exact hb _ (okT_size hok (.inl h1))
  split at hx
  · obtain rfl := List.mem_singleton.1 hx; exact h0
  split at hx
  · rename_i h3
    obtain rfl := List.mem_singleton.1 hx
    exact hb _ (okT_size hok (.inr h3))
  split at hx
  · exact hL t.l (fun _ h => h) _ x hx
  split at hx
  · exact hA t.l (fun _ h => h) _ _ x hx
  split at hx
  · rw [List.mem_cons, List.mem_append, List.mem_singleton] at hx
    rcases hx with rfl | hx | rfl
    · exact hs _ _
    · exact hL t.l (fun _ h => h) _ x hx
    · exact hs _ _
  split at hx
  · rw [List.mem_append, List.mem_singleton] at hx
    rcases hx with hx | rfl
    · exact hL t.l (fun _ h => h) _ x hx
    · exact hs _ _
  split at hx
  · rw [List.mem_cons] at hx
    rcases hx with rfl | hx
    · exact hs _ _
    · exact hL t.l (fun _ h => h) _ x hx
  split at hx
  · obtain rfl := List.mem_singleton.1 hx; exact h0
  split at hx
  · obtain rfl := List.mem_singleton.1 hx; exact h0
  · cases hx
theorem nfN_small (t : Tr) : ∀ x ∈ nfN t, x.s.size ≤ maxLen := by
  intro x hx
  unfold nfN at hx
  split at hx
  · rename_i h
    rw [List.mem_append, List.mem_singleton] at hx
    rcases hx with hx | rfl
    · exact lay_small t (okR_tree h) _ x hx
    · show (noS : ByteArray).size ≤ maxLen; decide
  · cases hx
theorem nfN_len (t : Tr) : (nfN t).length ≤ 239 := by
  unfold nfN
  split
  · rename_i h
    rw [List.length_append, lay_len t (okR_tree h)]
    have := okR_nsz h
    simp
    omega
  · simp
end Go.Proofs.Ytapniafhcagogaa
