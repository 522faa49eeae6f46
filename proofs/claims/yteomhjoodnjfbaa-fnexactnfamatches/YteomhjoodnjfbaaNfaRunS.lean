/- NfaMatches of the model. -/
import Derived.Test.YteomhjoodnjfbaaNfaRun
import Derived.Test.YteomhjoodnjfbaaSpecSpreadB
namespace Go.Proofs.Yteomhjoodnjfbaa
open Go.RowKit
set_option maxRecDepth 8000

/-- What is reached at each place; of what is no machine nothing. -/
noncomputable def runS (N : List Nd) (s : ByteArray) (i : Nat) : List Int := if okNfa N = true then runL N s i else []
theorem runS_of {N : List Nd} {s : ByteArray} {k : Nat} {ys L : List Int} (h : SprL N (ys ++ [0]) (k : Int) (s.size : Int) L) (hy : ∀ j, j ∈ ys ↔ goOn N s (runS N s) k j) : L = runS N s k := by
  rcases h with ⟨h1, rfl⟩ | ⟨h1, M, rfl, hM⟩
  · unfold runS
    rw [if_neg (by rw [h1]; simp)]
  · have e : runS N s = runL N s := funext fun i => by unfold runS; rw [if_pos h1]
    rw [e] at hy ⊢
    rw [runL_eq]
    exact rchL_of hM (seed_iff N _ ys hy)
theorem runS_in (N : List Nd) (s : ByteArray) (i : Nat) : inN N.length (runS N s i) := by
  unfold runS
  split
  · exact runL_in N s i
  · intro j hj; cases hj
theorem runS_len (N : List Nd) (s : ByteArray) (i : Nat) : (runS N s i).length ≤ 300 := by
  unfold runS
  split
  · rename_i h
    exact Nat.le_trans (runL_len N s i) (okNfa_size h)
  · simp
theorem mtS_yes {N : List Nd} {s : ByteArray} {i : Nat} (hi : i ≤ s.size) (h : dnB N (runS N s i) = true) : mtB N s = true := by
  unfold runS at h
  split at h
  · rename_i hok
    exact mtB_yes hok hi h
  · simp [dnB] at h
theorem mtS_no {N : List Nd} {s : ByteArray} (h : ∀ i, i ≤ s.size → dnB N (runS N s i) = false) : mtB N s = false := by
  cases hok : okNfa N with
  | false => exact mtB_bad hok
  | true =>
    apply mtB_no
    intro i hi
    have := h i hi
    unfold runS at this
    rw [if_pos hok] at this
    exact this
theorem dnB_yes {N : List Nd} {l : List Int} {k m : Nat} (h : k < l.length) (hm : l[k] = (m : Int)) (hmN : m < N.length) (e : N[m].k = 7) : dnB N l = true := by
  unfold dnB
  rw [List.any_eq_true]
  refine ⟨l[k], List.getElem_mem h, ?_⟩
  rw [hm, Int.toNat_natCast, List.getD, List.getElem?_eq_getElem hmN, Option.getD_some, e]
  rfl
theorem dnB_no {N : List Nd} {l : List Int} (hin : inN N.length l) (h : ∀ k (hk : k < l.length) (m : Nat) (hm : m < N.length), l[k] = (m : Int) → N[m].k ≠ 7) : dnB N l = false := by
  unfold dnB
  rw [List.any_eq_false]
  intro x hx
  obtain ⟨k, hk, rfl⟩ := List.getElem_of_mem hx
  have hi := hin l[k] (List.getElem_mem hk)
  have hmN : (l[k]).toNat < N.length := by omega
  have := h k hk (l[k]).toNat hmN (by omega)
  rw [beq_iff_eq, List.getD, List.getElem?_eq_getElem hmN, Option.getD_some]
  exact this

theorem Iz.lies {w : World} {ao : Option Addr} {n cap : Nat} {xs : List Int} (h : Iz w (.slice ao n cap) xs) {k : Nat} (hk : k < xs.length) : ∃ b off, ao = some ⟨b, off, none⟩ ∧ ∀ w', Below w.heap.size w w' → w'.cell? ⟨b, off + k, none⟩ = some (.int .i64 xs[k]) := by
  obtain ⟨ao', cap', h1, _, _, _, h5⟩ := h
  obtain ⟨b', off', rfl, h7⟩ := h5 (by intro h0; rw [h0] at hk; simp at hk)
  simp only [Value.slice.injEq] at h1
  obtain ⟨rfl, rfl, rfl⟩ := h1
  refine ⟨b', off', rfl, fun w' hb => ?_⟩
  have h8 := h7 k hk
  rw [hb.cell (p := ⟨b', off' + k, none⟩) (World.block_lt_of_cell? w _ h8), h8]
  simp [List.getD, hk]

set_option maxHeartbeats 2000000 in
theorem specNfaMatches_any (N : List Nd) (B : Nat → Prop) (v : Value) (s : ByteArray) (w : World) (h : Nl w B N v) (hs : s.size ≤ 1048576) :
    Calls Try.prog 25 #[.agg #[v], .string s] w fun e w' => e = .returned (.bool (mtB N s)) ∧ Below w.heap.size w w' := by
  have HSP := Hid.mk (fun w' (hb : Below w.heap.size w w') u l p z hl => specSpread_any N B v u l p z w' (h.grow hb) hl)
  have HON := Hid.mk (fun w' (hb : Below w.heap.size w w') u l c hl hin hll => specOnward_any N B v u l c w' (h.grow hb) hl hin hll)
  have HR := Hid.mk (fun k ys L (h : SprL N (ys ++ [0]) ((k : Nat) : Int) (s.size : Int) L) hy => runS_of h hy)
  have HRI := Hid.mk (runS_in N s)
  have HRL := Hid.mk (runS_len N s)
  have HMY := Hid.mk (fun i hi hd => mtS_yes (N := N) (s := s) (i := i) hi hd)
  have HMN := Hid.mk (fun hd => mtS_no (N := N) (s := s) hd)
  have HNG := Hid.mk (fun (w' : World) (hb : Below w.heap.size w w') => h.grow hb)
  obtain ⟨ao, cap, rfl, -, hcm, -⟩ := id h
  unfold maxLen at hcm
  obtain ⟨R, hRR⟩ : ∃ R, runS N s = R := ⟨_, rfl⟩
  rw [hRR] at HR HRI HRL HMY HMN
  clear hRR h
  generalize mtB N s = mt at *
  have A0 : Hid (Below w.heap.size w (w.alloc (.cells #[.slice ao N.length cap] 30))) := (Below.refl _ _).alloc (Nat.le_refl _) _
  have A1 : Hid (Below (w.heap.size + 1) (w.alloc (.cells #[.slice ao N.length cap] 30)) ((w.alloc (.cells #[.slice ao N.length cap] 30)).alloc (.cells #[] 3))) := (Below.refl _ _).alloc (by simp) _
  have O0 : Hid (OwnZ ((w.alloc (.cells #[.slice ao N.length cap] 30)).alloc (.cells #[] 3)) (w.heap.size + 1) (.slice (some ⟨w.heap.size + 1, 0, none⟩) 0 0) []) := by
    have h0 : OwnZ ((w.alloc (.cells #[.slice ao N.length cap] 30)).alloc (.cells #[] 3)) (w.heap.size + 1) (.slice (some ⟨(w.alloc (.cells #[.slice ao N.length cap] 30)).heap.size, 0, none⟩) 0 0) [] := World.ownsRow_lit (w.alloc (.cells #[.slice ao N.length cap] 30)) #[] 0 (by simp) (by decide) rfl
    show OwnZ _ _ _ _
    simpa using h0
  go_enter Try.func25, Try.ntmps25
  go_wp2
  go_loopw [5, 6] (fun q i wr => ∃ (k : Nat) (ys : List Int), k ≤ s.size + 1 ∧ i = .int .i64 k ∧ ys.length ≤ 300 ∧ Hid (k ≤ s.size → OwnZ wr (w.heap.size + 1) q ys) ∧ Hid (k ≤ s.size → ∀ j, j ∈ ys ↔ goOn N s R k j) ∧ Hid (∀ i, i < k → dnB N (R i) = false) ∧ Hid (Below (w.heap.size + 1) (w.alloc (.cells #[.slice ao N.length cap] 30)) wr)) (fun _ i _ => s.size + 1 - (intOf i).toNat)
  case atStart => exact ⟨0, [], Nat.zero_le _, rfl, by simp, (fun _ => O0.out), (fun _ j => ⟨(fun h => by cases h), (fun h => h.elim)⟩), (fun i hi => by omega), A1⟩
  case round =>
    obtain ⟨k, ys, hk, rfl, hyl, HO0, HG, HD, HB⟩ := hrel
    clear O0 A1
    have BW := Hid.mk (A0.out.trans (HB.out.mono (by omega)))
    have hsz : w.heap.size + 1 ≤ wr.heap.size := by have := HB.out.size; simpa using this
    by_cases hkn : k ≤ s.size
    · have hki : (k : Int) ≤ (s.size : Int) := by omega
      have HO := Hid.mk (HO0.out hkn)
      have HRk := Hid.mk (fun L (h : SprL N (ys ++ [0]) ((k : Nat) : Int) (s.size : Int) L) => HR.out k ys L h (HG.out hkn))
      have d0 : wr.cell? ⟨w.heap.size, 0, none⟩ = some (.slice ao N.length cap) := by rw [HB.out.cell (p := ⟨w.heap.size, 0, none⟩) (by simp)]; simp
      have S0 : Hid (Below (w.heap.size + 1) wr wr.drew) := Below.drewSelf _ _ 1
      have HD0 : Hid (∀ w', Below (w.heap.size + 1) wr w' → w'.cell? ⟨w.heap.size, 0, none⟩ = some (.slice ao N.length cap)) := fun w' hb => by rw [hb.cell (p := ⟨w.heap.size, 0, none⟩) (by simp)]; exact d0
      clear HO0 HG
      go_wp2_with fail
      refine wp_region_held_drew (S := Below (w.heap.size + 1) wr) (by kernel_rfl) S0.out (fun _ => ?_)
      refine takeHD (i := 0) (v := .agg #[.slice ao N.length cap]) (some 15) rfl rfl (by kernel_rfl) (by kernel_rfl) (by kernel_rfl) (fun _ _ _ h => h) (Or.inl ⟨by kernel_rfl, fun w' hw => ?_⟩) S0.out ?_
      · have hx := HD0.out w' hw; go_simp
      simp only [Act.put, List.setIfInBounds_toArray]
      refine takeHD (i := 1) (v := u5) (some 16) rfl rfl (by kernel_rfl) (by kernel_rfl) (by kernel_rfl) (fun _ _ _ h => h) (Or.inl ⟨by kernel_rfl, fun w' hw => ?_⟩) S0.out ?_
      · first | kernel_rfl | go_simp
      simp only [Act.put, List.setIfInBounds_toArray]
      refine takeHD (i := 4) (v := .int .i64 (k : Int)) (some 19) rfl rfl (by kernel_rfl) (by kernel_rfl) (by kernel_rfl) (fun _ _ _ h => h) (Or.inl ⟨by kernel_rfl, fun w' hw => ?_⟩) S0.out ?_
      · first | kernel_rfl | go_simp
      simp only [Act.put, List.setIfInBounds_toArray]
      refine takeHD (i := 5) (v := .string s) (some 20) rfl rfl (by kernel_rfl) (by kernel_rfl) (by kernel_rfl) (fun _ _ _ h => h) (Or.inl ⟨by kernel_rfl, fun w' hw => ?_⟩) S0.out ?_
      · first | kernel_rfl | go_simp
      simp only [Act.put, List.setIfInBounds_toArray]
      refine takeHD (i := 6) (v := .int .i64 (s.size : Int)) (some 21) rfl rfl (by kernel_rfl) (by kernel_rfl) (by kernel_rfl) (fun _ _ _ h => h) (Or.inl ⟨by kernel_rfl, fun w' hw => ?_⟩) S0.out ?_
      · go_simp
      simp only [Act.put, List.setIfInBounds_toArray]
      refine wpAnyH_ready (rs := [2]) (by kernel_rfl) (by simp) ?_
      refine AllReadyH.cons rfl (fun K hK => ?_) AllReadyH.nil
      rw [if_pos (by kernel_rfl)]
      go_wp2_with fail
      have S1 : Hid (Below (w.heap.size + 1) wr (wr.drew.alloc (.cells #[.int .i64 0] 3))) := S0.out.alloc (by simpa using hsz) _
      refine hK.out _ _ S1.out (fun _ => ?_)
      clear hK K
      refine wpAnyH_ready (rs := [3]) (by kernel_rfl) (by simp) ?_
      refine AllReadyH.cons rfl (fun K hK => ?_) AllReadyH.nil
      rw [if_pos (by kernel_rfl)]
      have ho1 := HO.out.grow ((Below.drewSelf wr.heap.size wr 1).alloc (Nat.le_refl _) (.cells #[.int .i64 0] 3))
      refine wp_append_z (.tmp 16) (.tmp 17) rfl (w.heap.size + 1) u5 ys 0 rfl ho1 wr.heap.size rfl (by simp) S1.out (by simp; omega) (by omega) ?_
      intro v3 w3 ho3 S3 s13
      obtain ⟨z3, hz3⟩ : ∃ z3, ys ++ [0] = z3 := ⟨_, rfl⟩
      rw [hz3] at ho3 HRk
      clear hz3
      refine hK.out _ _ S3 (fun _ => ?_)
      clear hK K ho1
      have HO3 := Hid.mk ho3.iz
      have BW3 := Hid.mk (BW.out.trans (S3.mono (by omega)))
      have HS3 := Hid.mk S3
      have hsz3 : w.heap.size + 1 ≤ w3.heap.size := by have := S3.size; omega
      obtain ⟨a3, c3, hv3, -⟩ := ho3.iz
      subst hv3
      clear ho3 S3 S1
      refine wpAnyH_ready (rs := [7]) (by kernel_rfl) (by simp) ?_
      refine AllReadyH.cons rfl (fun K hK => ?_) AllReadyH.nil
      rw [if_pos (by kernel_rfl)]
      go_wp2_with fail
      refine (HSP.out w3 BW3.out _ _ (k : Int) (s.size : Int) HO3.out).mono ?_
      rintro e w4 ⟨x4, L4, rfl, hi4, hL4, hb4⟩
      have S4 : Hid (Below (w.heap.size + 1) wr w4) := HS3.out.trans (hb4.mono hsz3)
      obtain rfl := HRk.out L4 hL4
      refine hK.out _ _ S4.out (fun _ => ?_)
      clear hK K
      have HI4 := Hid.mk hi4
      have hsz4 : w.heap.size + 1 ≤ w4.heap.size := by have := hb4.size; omega
      obtain ⟨a4, c4, hv4, -, hm4, -⟩ := hi4
      subst hv4
      unfold maxLen at hm4
      clear hL4 hb4 HS3 HO3 BW3 hsz3 s13 HRk
      refine wpAnyH_ready (rs := [8]) (by kernel_rfl) (by simp) ?_
      refine AllReadyH.cons rfl (fun K hK => ?_) AllReadyH.nil
      rw [if_pos (by kernel_rfl)]
      go_wp2_with fail
      refine hK.out _ _ S4.out (fun _ => ?_)
      clear hK K
      refine wpAnyH_done (by kernel_rfl) ?_ _
      have HB4 := Hid.mk (HB.out.trans S4.out)
      have BW4 := Hid.mk (A0.out.trans (HB4.out.mono (by omega)))
      have d4 : w4.cell? ⟨w.heap.size, 0, none⟩ = some (.slice ao N.length cap) := HD0.out w4 S4.out
      have hR3 := HRL.out k
      have HRIk := Hid.mk (HRI.out k)
      have HDY : Hid (∀ q m : Nat, ∀ (hq : q < (R k).length) (hm : m < N.length), (R k)[q] = (m : Int) → N[m].k = 7 → mt = true) := fun q m hq hm e e7 => HMY.out k hkn (dnB_yes hq e hm e7)
      have HDN : Hid ((∀ q (hq : q < (R k).length) (m : Nat) (hm : m < N.length), (R k)[q] = (m : Int) → N[m].k ≠ 7) → ∀ i, i < k + 1 → dnB N (R i) = false) := by
        intro hno i hi
        by_cases e : i = k
        · subst e; exact dnB_no HRIk.out hno
        · exact HD.out i (by omega)
      obtain ⟨Lk, hLk⟩ : ∃ Lk, R k = Lk := ⟨_, rfl⟩
      have HGO : Hid (∀ j, goOn N s R (k + 1) j ↔ onK N Lk ((txt s).getD k 0) Lk.length j) := fun j => by rw [← hLk]; rfl
      rw [hLk] at HI4 hR3 HRIk HDY HDN ⊢
      clear hLk HO HB S0 S4 HD0 d0 BW HD
      go_wp2
      go_loopw [7] (fun i w5 => ∃ q : Nat, i = .int .i64 q ∧ q ≤ Lk.length ∧ Hid (∀ j (hj : j < Lk.length) (m : Nat) (hm : m < N.length), j < q → Lk[j] = (m : Int) → N[m].k ≠ 7) ∧ Hid (Below w4.heap.size w4 w5)) (fun i _ => Lk.length - (intOf i).toNat)
      case atStart => exact ⟨0, rfl, Nat.zero_le _, (fun j _ _ _ hj => by omega), Below.refl _ _⟩
      case round =>
        obtain ⟨q, rfl, hq, HNQ, HB5⟩ := hrel
        have BW5 := Hid.mk (BW4.out.trans (HB5.out.mono BW4.out.size))
        have e0 : wr.cell? ⟨w.heap.size, 0, none⟩ = some (.slice ao N.length cap) := by rw [HB5.out.cell (p := ⟨w.heap.size, 0, none⟩) (by simp; omega)]; exact d4
        by_cases hql : q < Lk.length
        · obtain ⟨b2, off2, rfl, hcl⟩ := HI4.out.lies hql
          have hi0 := HRIk.out Lk[q] (List.getElem_mem hql)
          obtain ⟨m, hm⟩ : ∃ m : Nat, Lk[q] = (m : Int) := ⟨Lk[q].toNat, by omega⟩
          have hmN : m < N.length := by omega
          have e1 := hcl wr HB5.out
          rw [hm] at e1
          obtain ⟨ao', cap', hv', -, -, -, -, hcN⟩ := HNG.out wr BW5.out
          simp only [Value.slice.injEq, true_and] at hv'
          obtain ⟨rfl, rfl⟩ := hv'
          obtain ⟨b, off, rfl, _, hcell⟩ := hcN (by intro h0; rw [h0] at hmN; simp at hmN)
          have e2 := (hcell m hmN).1
          have HDYq := Hid.mk (HDY.out q m hql hmN hm)
          have HNQ2 : Hid (N[m].k ≠ 7 → ∀ j (hj : j < Lk.length) (m : Nat) (hm : m < N.length), j < q + 1 → Lk[j] = (m : Int) → N[m].k ≠ 7) := by
            intro hne j hj m' hm' hjq ej
            by_cases e : j = q
            · subst e
              rw [hm] at ej
              obtain rfl : m = m' := by omega
              exact hne
            · exact HNQ.out j hj m' hm' (by omega) ej
          generalize N[m].k = nk at e2 HDYq HNQ2
          have hqi : (q : Int) < (Lk.length : Int) := by omega
          have hmi : (m : Int) < (N.length : Int) := by omega
          clear hcl hi0 hcell hcN hm HI4 HDY HDN HSP HON HR HMY HMN HNG HNQ
          by_cases h7 : nk = 7
          · have hmt := HDYq.out h7
            subst hmt
            subst h7
            clear HDYq HNQ2
            go_wp2
            go_quiet (fail)
            go_wp2
            go_ret
            exact ⟨rfl, BW5.out.trans (Below.drewSelf _ _ _)⟩
          · have h7' : (nk == 7) = false := beq_eq_false_iff_ne.2 h7
            have HNQ3 := Hid.mk (HNQ2.out h7)
            clear HDYq HNQ2 h7
            go_wp2
            go_quiet (fail)
            go_wp2
            go_roundw
            case rel => exact ⟨q + 1, by go_num, by omega, HNQ3, Hid.mk (HB5.out.trans (Below.drewSelf _ _ _))⟩
            case measure => simp [intOf]; omega
        · have eq : q = Lk.length := by omega
          have HD2 := Hid.mk (HDN.out (fun j hj m hm e => HNQ.out j hj m hm (by omega) e))
          have HB6 := Hid.mk (HB4.out.trans (HB5.out.mono hsz4))
          have hsz5 : w.heap.size + 1 ≤ wr.heap.size := by have := HB5.out.size; omega
          have HI5 := Hid.mk (HI4.out.grow HB5.out)
          subst eq
          clear HDN HNQ HDY HI4 HNG HSP
          by_cases hlt : k < s.size
          · have hlti : (k : Int) < (s.size : Int) := by omega
            have hbt := byte_at6 s k hlt
            have HON4 := Hid.mk (fun (w' : World) (hb : Below wr.heap.size wr w') => HON.out w' (BW5.out.trans (hb.mono BW5.out.size)) _ _ ((s[k].toNat : Nat) : Int) (HI5.out.grow hb) HRIk.out hR3)
            rw [hbt] at HON4
            have hHB := hbt
            generalize hcc : (txt s).getD k 0 = cc at HON4 hHB HGO
            have S5 : Hid (Below wr.heap.size wr wr.drew) := Below.drewSelf _ _ 1
            have HD5 : Hid (∀ w', Below wr.heap.size wr w' → w'.cell? ⟨w.heap.size, 0, none⟩ = some (.slice ao N.length cap)) := fun w' hb => by rw [hb.cell (p := ⟨w.heap.size, 0, none⟩) (by simp; omega)]; exact e0
            clear hbt hcc HON
            go_wp2_with fail
            refine wp_region_held_drew (S := Below wr.heap.size wr) (by kernel_rfl) S5.out (fun _ => ?_)
            refine takeHD (i := 0) (v := .agg #[.slice ao N.length cap]) (some 43) rfl rfl (by kernel_rfl) (by kernel_rfl) (by kernel_rfl) (fun _ _ _ h => h) (Or.inl ⟨by kernel_rfl, fun w' hw => ?_⟩) S5.out ?_
            · have hx := HD5.out w' hw; go_simp
            simp only [Act.put, List.setIfInBounds_toArray]
            refine takeHD (i := 1) (v := .slice a4 Lk.length c4) (some 44) rfl rfl (by kernel_rfl) (by kernel_rfl) (by kernel_rfl) (fun _ _ _ h => h) (Or.inl ⟨by kernel_rfl, fun w' hw => ?_⟩) S5.out ?_
            · first | kernel_rfl | go_simp
            simp only [Act.put, List.setIfInBounds_toArray]
            refine takeHD (i := 2) (v := .string s) (some 45) rfl rfl (by kernel_rfl) (by kernel_rfl) (by kernel_rfl) (fun _ _ _ h => h) (Or.inl ⟨by kernel_rfl, fun w' hw => ?_⟩) S5.out ?_
            · first | kernel_rfl | go_simp
            simp only [Act.put, List.setIfInBounds_toArray]
            refine takeHD (i := 3) (v := .int .i64 (k : Int)) (some 46) rfl rfl (by kernel_rfl) (by kernel_rfl) (by kernel_rfl) (fun _ _ _ h => h) (Or.inl ⟨by kernel_rfl, fun w' hw => ?_⟩) S5.out ?_
            · first | kernel_rfl | go_simp
            simp only [Act.put, List.setIfInBounds_toArray]
            refine takeHD (i := 4) (v := .int .u8 cc) (some 47) rfl rfl (by kernel_rfl) (by kernel_rfl) (by kernel_rfl) (fun _ _ _ h => h) (Or.inl ⟨by kernel_rfl, fun w' hw => ?_⟩) S5.out ?_
            · go_simp
            simp only [Act.put, List.setIfInBounds_toArray]
            refine wpAnyH_ready (rs := [5]) (by kernel_rfl) (by simp) ?_
            refine AllReadyH.cons rfl (fun K hK => ?_) AllReadyH.nil
            rw [if_pos (by kernel_rfl)]
            go_wp2_with fail
            refine (HON4.out _ S5.out).mono ?_
            rintro e w6 ⟨x6, y6, rfl, ho6, hm6, hb6⟩
            have S6 : Hid (Below wr.heap.size wr w6) := S5.out.trans hb6
            refine hK.out _ _ S6.out (fun _ => ?_)
            clear hK K
            have HO6 := Hid.mk (ho6.mono (base' := w.heap.size + 1) (by simpa using hsz5))
            have hl6 : y6.length ≤ 300 := by have := hm6.2.2; omega
            have HM6 : Hid (k + 1 ≤ s.size → ∀ j, j ∈ y6 ↔ goOn N s R (k + 1) j) := fun _ j => by rw [hm6.2.1, HGO.out]
            have HB7 := Hid.mk (HB6.out.trans (S6.out.mono hsz5))
            clear ho6 hm6 hb6 HON4
            refine wpAnyH_ready (rs := [6]) (by kernel_rfl) (by simp) ?_
            refine AllReadyH.cons rfl (fun K hK => ?_) AllReadyH.nil
            rw [if_pos (by kernel_rfl)]
            go_wp2_with fail
            refine hK.out _ _ S6.out (fun _ => ?_)
            clear hK K
            refine wpAnyH_done (by kernel_rfl) ?_ _
            clear S5 S6 HD5 HB4 BW4 d4 e0 HB5 BW5
            go_wp2
            go_roundw
            case rel => exact ⟨k + 1, y6, by omega, by go_num, by omega, (fun _ => HO6.out), HM6, HD2, HB7⟩
            case measure => simp [intOf]; omega
          · have hlti : ¬ (k : Int) < (s.size : Int) := by omega
            have HG2 : Hid (k + 1 ≤ s.size → ∀ j, j ∈ ([] : List Int) ↔ goOn N s R (k + 1) j) := fun h => by omega
            go_wp2
            go_roundw
            case rel => exact ⟨k + 1, [], by omega, by go_num, by simp, (fun h => by omega), HG2, HD2, HB6⟩
            case measure => simp [intOf]; omega
    · have e : k = s.size + 1 := by omega
      subst e
      have hmt := HMN.out (fun i hi => HD.out i (by omega))
      subst hmt
      have hki : ¬ ((s.size : Int) + 1 ≤ (s.size : Int)) := by omega
      go_wp2
      go_ret
      exact ⟨rfl, BW.out⟩
end Go.Proofs.Yteomhjoodnjfbaa
