/- A machine run over a text: what is reached at each place; whether it is the end. NfaMatches of the program. -/
import Derived.Test.YteomhjoodnjfbaaOnwI
import Derived.Test.YteomhjoodnjfbaaSpreadI
import Derived.Test.YteomhjoodnjfbaaTake
namespace Go.Proofs.Yteomhjoodnjfbaa
open Go.RowKit
set_option maxRecDepth 8000

open Classical in
/-- What is reached of these, as a list. -/
noncomputable def rchL (N : List Nd) (b e : Bool) (S : Nat → Prop) : List Int := mkL (fun j => decide (Rch N b e S j)) N.length
/-- What one begins with at a place. -/
def seedS (N : List Nd) (P : Int → Prop) : Nat → Prop := fun j => (P (j : Int) ∨ j = 0) ∧ j < N.length
/-- What is reached at each place. -/
noncomputable def runL (N : List Nd) (s : ByteArray) : Nat → List Int
  | 0 => rchL N true ((0 : Int) == (s.size : Int)) (seedS N fun _ => False)
  | i + 1 => rchL N false (((i + 1 : Nat) : Int) == (s.size : Int)) (seedS N (onK N (runL N s i) ((txt s).getD i 0) (runL N s i).length))
/-- What goes on to the place i. -/
def goOn (N : List Nd) (s : ByteArray) (R : Nat → List Int) : Nat → Int → Prop
  | 0 => fun _ => False
  | i + 1 => onK N (R i) ((txt s).getD i 0) (R i).length
theorem runL_eq (N : List Nd) (s : ByteArray) (i : Nat) : runL N s i = rchL N ((i : Int) == 0) ((i : Int) == (s.size : Int)) (seedS N (goOn N s (runL N s) i)) := by
  cases i with
  | zero => rfl
  | succ i =>
    have e : (((i + 1 : Nat) : Int) == 0) = false := by rw [beq_eq_false_iff_ne]; omega
    rw [runL, e]
    rfl
theorem rchL_of {N : List Nd} {b e : Bool} {S S' : Nat → Prop} {M : Nat → Bool} (h : ∀ j, M j = true ↔ Rch N b e S j) (hS : ∀ j, S j ↔ S' j) : mkL M N.length = rchL N b e S' := by
  have e0 : S = S' := funext fun j => propext (hS j)
  subst e0
  unfold rchL
  congr 1
  funext j
  rw [Bool.eq_iff_iff, h j]
  simp
theorem seed_iff (N : List Nd) (P : Int → Prop) (ys : List Int) (h : ∀ j, j ∈ ys ↔ P j) (j : Nat) : inS (ys ++ [0]) N.length j ↔ seedS N P j := by
  unfold inS seedS
  rw [List.mem_append, h, List.mem_singleton]
  constructor
  · rintro ⟨h1 | h1, h2⟩
    · exact ⟨.inl h1, h2⟩
    · exact ⟨.inr (by omega), h2⟩
  · rintro ⟨h1 | h1, h2⟩
    · exact ⟨.inl h1, h2⟩
    · exact ⟨.inr (by omega), h2⟩
theorem rchL_in (N : List Nd) (b e : Bool) (S : Nat → Prop) : inN N.length (rchL N b e S) := by
  intro j hj
  unfold rchL mkL at hj
  obtain ⟨i, hi, rfl⟩ := List.mem_map.1 hj
  have := List.mem_range.1 (List.mem_filter.1 hi).1
  omega
theorem runL_in (N : List Nd) (s : ByteArray) (i : Nat) : inN N.length (runL N s i) := by rw [runL_eq]; exact rchL_in _ _ _ _
theorem runL_len (N : List Nd) (s : ByteArray) (i : Nat) : (runL N s i).length ≤ N.length := by rw [runL_eq]; exact mkL_len _ _
/-- Whether the machine matches. -/
noncomputable def mtB (N : List Nd) (s : ByteArray) : Bool := okNfa N && (List.range (s.size + 1)).any fun i => dnB N (runL N s i)
theorem mtB_yes {N : List Nd} {s : ByteArray} (hok : okNfa N = true) {i : Nat} (hi : i ≤ s.size) (h : dnB N (runL N s i) = true) : mtB N s = true := by
  unfold mtB
  rw [hok, Bool.true_and, List.any_eq_true]
  exact ⟨i, List.mem_range.2 (by omega), h⟩
theorem mtB_no {N : List Nd} {s : ByteArray} (h : ∀ i, i ≤ s.size → dnB N (runL N s i) = false) : mtB N s = false := by
  unfold mtB
  rw [Bool.and_eq_false_iff]
  right
  rw [List.any_eq_false]
  intro i hi
  rw [h i (by have := List.mem_range.1 hi; omega)]
  simp
theorem mtB_bad {N : List Nd} {s : ByteArray} (h : okNfa N = false) : mtB N s = false := by unfold mtB; rw [h]; rfl

/-- One number appended onto a slice of the call's own, at a step of a region. -/
theorem wp_append_z {w0 w : World} {o : Oper} {a : Act} {K : Act → World → Prop} {Q : Exit → Act → World → Prop} (s x : Operand)
    (ho : o.op = .call { callee := .builtin .append, args := #[s, x], argTypes := #[25, 25] })
    (base : Nat) (v : Value) (xs : List Int) (c : Int) (hs : a.eval s = v) (hown : OwnZ w base v xs) (lb : Nat) (hx : a.eval x = .slice (some ⟨lb, 0, none⟩) 1 1) (hc : w.cell? ⟨lb, 0, none⟩ = some (.int .i64 c))
    (hbel : Below base w0 w) (hbase : base ≤ w.heap.size) (hlen : xs.length ≤ 1000000)
    (h : ∀ v' w', OwnZ w' base v' (xs ++ [c]) → Below base w0 w' → w.heap.size ≤ w'.heap.size → K (a.put o.dst v') w') : o.wp Try.prog a w K Q := by
  obtain ⟨i0, hi, hz0, hz1, hz2⟩ := info_parts infoZ
  refine wp_append_own w s x 25 ho base 3 i0 (.int .i64 0) 1 8 Try.underlying25 hi hz0 hz1 hz2 rfl (by decide) v xs.length (xs.map (Value.int .i64)) hs hown ⟨lb, 0, none⟩ 1 1 [.int .i64 c] hx (by simp) ?_ (by simp [Value.oneCell']) (by unfold maxLen; omega) (by omega) hbase ?_
  · intro j q hq
    match j, hq with
    | 0, hq => simp at hq; subst hq; simpa [Addr.add] using hc
  · intro v' w' hown' hgr _
    refine h v' w' ?_ (hbel.grown hgr hbase fun k hk => (World.ownsRow.lt hown k hk).1) hgr.size
    unfold OwnZ
    rw [List.map_append, List.length_append]
    exact hown'

set_option maxHeartbeats 1000000 in
theorem implNfaMatches_any (N : List Nd) (B : Nat → Prop) (v : Value) (s : ByteArray) (w : World) (h : Nl w B N v) (hs : s.size ≤ 1048576) :
    Calls Try.prog 26 #[.agg #[v], .string s] w fun e w' => e = .returned (.bool (mtB N s)) ∧ Below w.heap.size w w' := by
  have HK := Hid.mk (fun w' (hb : Below w.heap.size w w') => implNfaOk_any N B v w' (h.grow hb))
  have HSP := Hid.mk (fun hok w' (hb : Below w.heap.size w w') u l p z hl => spreadNodes_any N hok B v u l p z w' (h.grow hb) hl)
  have HAD := Hid.mk (fun w' (hb : Below w.heap.size w w') u l hl hin => anyDone_any N B v u l w' (h.grow hb) hl hin)
  have HON := Hid.mk (fun hok w' (hb : Below w.heap.size w w') u l c hl hin hll h0 h1 => implOnward_any N hok B v u l c w' (h.grow hb) hl hin hll h0 h1)
  have HR := Hid.mk (runL_eq N s)
  have HRI := Hid.mk (runL_in N s)
  have HRL := Hid.mk (runL_len N s)
  have HMY := Hid.mk (fun hok i hi hd => mtB_yes (N := N) (s := s) hok (i := i) hi hd)
  have HMN := Hid.mk (fun hd => mtB_no (N := N) (s := s) hd)
  have HMB := Hid.mk (fun hok => mtB_bad (N := N) (s := s) hok)
  obtain ⟨ao, cap, rfl, -⟩ := h
  obtain ⟨R, hRR⟩ : ∃ R, runL N s = R := ⟨_, rfl⟩
  rw [hRR] at HR HRI HRL HMY HMN
  clear hRR
  generalize mtB N s = mt at *
  have A0 : Hid (Below w.heap.size w (w.alloc (.cells #[.slice ao N.length cap] 30))) := (Below.refl _ _).alloc (Nat.le_refl _) _
  go_enter Try.func26, Try.ntmps26
  go_wp2_with fail
  refine (HK.out _ A0.out).mono ?_
  rintro e w1 ⟨rfl, hb1⟩
  have C1 : Hid (Below (w.heap.size + 1) (w.alloc (.cells #[.slice ao N.length cap] 30)) w1) := hb1.mono (by simp)
  clear hb1 HK
  cases hok : okNfa N with
  | false =>
    have hmt := HMB.out hok
    subst hmt
    have B1 := Hid.mk (A0.out.trans (C1.out.mono (by omega)))
    clear HSP HAD HON HR HRI HRL HMY HMN HMB
    go_wp2
    go_ret
    exact ⟨rfl, B1.out⟩
  | true =>
    have hn3 := okNfa_size hok
    have HSP' := Hid.mk (HSP.out hok)
    have HON' := Hid.mk (HON.out hok)
    have HMY' := Hid.mk (HMY.out hok)
    clear HSP HON HMY HMB hok
    have O1 : Hid (OwnZ w1 (w.heap.size + 1) (.slice none 0 0) []) := World.ownsRow_nil _ _ _ _
    go_wp2
    go_loopw [5, 14] (fun q i wr => ∃ (k : Nat) (ys : List Int), k ≤ s.size + 1 ∧ i = .int .i64 k ∧ ys.length ≤ 300 ∧ Hid (k ≤ s.size → OwnZ wr (w.heap.size + 1) q ys) ∧ Hid (k ≤ s.size → ∀ j, j ∈ ys ↔ goOn N s R k j) ∧ Hid (∀ i, i < k → dnB N (R i) = false) ∧ Hid (Below (w.heap.size + 1) (w.alloc (.cells #[.slice ao N.length cap] 30)) wr)) (fun _ i _ => s.size + 1 - (intOf i).toNat)
    case atStart => exact ⟨0, [], Nat.zero_le _, rfl, by simp, (fun _ => O1.out), (fun _ j => ⟨(fun h => by cases h), (fun h => h.elim)⟩), (fun i hi => by omega), C1⟩
    case round =>
      obtain ⟨k, ys, hk, rfl, hyl, HO0, HG, HD, HB⟩ := hrel
      clear O1 C1
      have BW := Hid.mk (A0.out.trans (HB.out.mono (by omega)))
      have hsz : w.heap.size + 1 ≤ wr.heap.size := by have := HB.out.size; simpa using this
      by_cases hkn : k ≤ s.size
      · have hki : (k : Int) < (s.size : Int) + 1 := by omega
        have HS := Hid.mk (seed_iff N _ ys (HG.out hkn))
        have HO := Hid.mk (HO0.out hkn)
        clear HO0
        have d0 : wr.cell? ⟨w.heap.size, 0, none⟩ = some (.slice ao N.length cap) := by rw [HB.out.cell (p := ⟨w.heap.size, 0, none⟩) (by simp)]; simp
        have S0 : Hid (Below (w.heap.size + 1) wr wr.drew) := Below.drewSelf _ _ 1
        have HD0 : Hid (∀ w', Below (w.heap.size + 1) wr w' → w'.cell? ⟨w.heap.size, 0, none⟩ = some (.slice ao N.length cap)) := fun w' hb => by rw [hb.cell (p := ⟨w.heap.size, 0, none⟩) (by simp)]; exact d0
        go_wp2_with fail
        refine wp_region_held_drew (S := Below (w.heap.size + 1) wr) (by kernel_rfl) S0.out (fun _ => ?_)
        refine takeHD (i := 0) (v := .pointer (some ⟨w.heap.size, 0, none⟩)) (some 17) rfl rfl (by kernel_rfl) (by kernel_rfl) (by kernel_rfl) (fun _ _ _ h => h) (Or.inl ⟨by kernel_rfl, fun w' hw => ?_⟩) S0.out ?_
        · go_simp
        simp only [Act.put, List.setIfInBounds_toArray]
        refine takeHD (i := 1) (v := .slice ao N.length cap) (some 18) rfl rfl (by kernel_rfl) (by kernel_rfl) (by kernel_rfl) (fun _ _ _ h => h) (Or.inl ⟨by kernel_rfl, fun w' hw => ?_⟩) S0.out ?_
        · have hx := HD0.out w' hw
          go_simp
        simp only [Act.put, List.setIfInBounds_toArray]
        refine takeHD (i := 2) (v := u5) (some 19) rfl rfl (by kernel_rfl) (by kernel_rfl) (by kernel_rfl) (fun _ _ _ h => h) (Or.inl ⟨by kernel_rfl, fun w' hw => ?_⟩) S0.out ?_
        · first | kernel_rfl | go_simp
        simp only [Act.put, List.setIfInBounds_toArray]
        refine takeHD (i := 5) (v := .int .i64 (k : Int)) (some 22) rfl rfl (by kernel_rfl) (by kernel_rfl) (by kernel_rfl) (fun _ _ _ h => h) (Or.inl ⟨by kernel_rfl, fun w' hw => ?_⟩) S0.out ?_
        · first | kernel_rfl | go_simp
        simp only [Act.put, List.setIfInBounds_toArray]
        refine takeHD (i := 6) (v := .string s) (some 23) rfl rfl (by kernel_rfl) (by kernel_rfl) (by kernel_rfl) (fun _ _ _ h => h) (Or.inl ⟨by kernel_rfl, fun w' hw => ?_⟩) S0.out ?_
        · first | kernel_rfl | go_simp
        simp only [Act.put, List.setIfInBounds_toArray]
        refine takeHD (i := 7) (v := .int .i64 (s.size : Int)) (some 24) rfl rfl (by kernel_rfl) (by kernel_rfl) (by kernel_rfl) (fun _ _ _ h => h) (Or.inl ⟨by kernel_rfl, fun w' hw => ?_⟩) S0.out ?_
        · go_simp
        simp only [Act.put, List.setIfInBounds_toArray]
        refine wpAnyH_ready (rs := [3]) (by kernel_rfl) (by simp) ?_
        refine AllReadyH.cons rfl (fun K hK => ?_) AllReadyH.nil
        rw [if_pos (by kernel_rfl)]
        go_wp2_with fail
        have S1 : Hid (Below (w.heap.size + 1) wr (wr.drew.alloc (.cells #[.int .i64 0] 3))) := S0.out.alloc (by simpa using hsz) _
        refine hK.out _ _ S1.out (fun _ => ?_)
        clear hK K
        refine wpAnyH_ready (rs := [4]) (by kernel_rfl) (by simp) ?_
        refine AllReadyH.cons rfl (fun K hK => ?_) AllReadyH.nil
        rw [if_pos (by kernel_rfl)]
        have ho1 := HO.out.grow ((Below.drewSelf wr.heap.size wr 1).alloc (Nat.le_refl _) (.cells #[.int .i64 0] 3))
        refine wp_append_z (.tmp 19) (.tmp 20) rfl (w.heap.size + 1) u5 ys 0 rfl ho1 wr.heap.size rfl (by simp) S1.out (by simp; omega) (by omega) ?_
        intro v3 w3 ho3 S3 s13
        obtain ⟨z3, hz3⟩ : ∃ z3, ys ++ [0] = z3 := ⟨_, rfl⟩
        rw [hz3] at ho3 HS
        clear hz3
        refine hK.out _ _ S3 (fun _ => ?_)
        clear hK K ho1
        have HO3 := Hid.mk ho3.iz
        have BW3 := Hid.mk (BW.out.trans (S3.mono (by omega)))
        have HS3 := Hid.mk S3
        have hsz3 : w.heap.size + 1 ≤ w3.heap.size := by have := S3.size; omega
        obtain ⟨a3, c3, hv3, -⟩ := ho3.iz
        subst hv3
        clear ho3 S3 S1
        refine wpAnyH_ready (rs := [8]) (by kernel_rfl) (by simp) ?_
        refine AllReadyH.cons rfl (fun K hK => ?_) AllReadyH.nil
        rw [if_pos (by kernel_rfl)]
        go_wp2_with fail
        refine (HSP'.out w3 BW3.out _ _ (k : Int) (s.size : Int) HO3.out).mono ?_
        rintro e w4 ⟨x4, M, rfl, ho4, hM4, hb4⟩
        have S4 : Hid (Below (w.heap.size + 1) wr w4) := HS3.out.trans (hb4.mono hsz3)
        have hRk : mkL M N.length = R k := by rw [HR.out k]; exact rchL_of hM4 HS.out
        rw [hRk] at ho4
        refine hK.out _ _ S4.out (fun _ => ?_)
        clear hK K
        have HI4 := Hid.mk ho4.iz
        have hsz4 : w.heap.size + 1 ≤ w4.heap.size := by have := hb4.size; omega
        obtain ⟨a4, c4, hv4, -⟩ := ho4.iz
        subst hv4
        clear ho4 hM4 hb4 hRk HS3 HO3 BW3 hsz3 s13
        refine wpAnyH_ready (rs := [9]) (by kernel_rfl) (by simp) ?_
        refine AllReadyH.cons rfl (fun K hK => ?_) AllReadyH.nil
        rw [if_pos (by kernel_rfl)]
        go_wp2_with fail
        refine hK.out _ _ S4.out (fun _ => ?_)
        clear hK K
        refine wpAnyH_done (by kernel_rfl) ?_ _
        have HB4 := Hid.mk (HB.out.trans S4.out)
        have BW4 := Hid.mk (A0.out.trans (HB4.out.mono (by omega)))
        have d4 : w4.cell? ⟨w.heap.size, 0, none⟩ = some (.slice ao N.length cap) := HD0.out w4 S4.out
        have HAD4 := Hid.mk (HAD.out w4 BW4.out _ _ HI4.out (HRI.out k))
        have hR3 : (R k).length ≤ 300 := by have := HRL.out k; omega
        obtain ⟨db, hdb⟩ : ∃ db, dnB N (R k) = db := ⟨_, rfl⟩
        rw [hdb] at HAD4
        have HDB := Hid.mk hdb
        clear hdb HO HB S0 S4 HD0 d0 HS HG BW
        go_wp2_with fail
        refine HAD4.out.mono ?_
        rintro e w5 ⟨rfl, hw5⟩
        obtain rfl := hw5.symm
        clear hw5 HAD4
        cases db with
        | true =>
          have hmt := HMY'.out k hkn HDB.out
          subst hmt
          go_wp2
          go_ret
          exact ⟨rfl, BW4.out⟩
        | false =>
          have HD2 : Hid (∀ i, i < k + 1 → dnB N (R i) = false) := by
            intro i hi
            by_cases e : i = k
            · subst e; exact HDB.out
            · exact HD.out i (by omega)
          clear HD HDB
          by_cases hlt : k < s.size
          · have hlti : (k : Int) < (s.size : Int) := by omega
            have hbt := byte_at6 s k hlt
            have hbd := (txt_byte s).getD k
            rw [← hbt] at hbd
            have HON4 := Hid.mk (fun (w' : World) (hb : Below w4.heap.size w4 w') => HON'.out w' (BW4.out.trans (hb.mono BW4.out.size)) _ _ ((s[k].toNat : Nat) : Int) (HI4.out.grow hb) (HRI.out k) hR3 hbd.1 hbd.2)
            rw [hbt] at HON4
            have hHB := hbt
            generalize hcc : (txt s).getD k 0 = cc at HON4 hHB
            have S5 : Hid (Below w4.heap.size w4 w4.drew) := Below.drewSelf _ _ 1
            have HD5 : Hid (∀ w', Below w4.heap.size w4 w' → w'.cell? ⟨w.heap.size, 0, none⟩ = some (.slice ao N.length cap)) := fun w' hb => by rw [hb.cell (p := ⟨w.heap.size, 0, none⟩) (by simp; omega)]; exact d4
            have HCC := Hid.mk hcc
            clear hbt hbd hcc
            go_wp2_with fail
            refine wp_region_held_drew (S := Below w4.heap.size w4) (by kernel_rfl) S5.out (fun _ => ?_)
            refine takeHD (i := 0) (v := .agg #[.slice ao N.length cap]) (some 34) rfl rfl (by kernel_rfl) (by kernel_rfl) (by kernel_rfl) (fun _ _ _ h => h) (Or.inl ⟨by kernel_rfl, fun w' hw => ?_⟩) S5.out ?_
            · have hx := HD5.out w' hw; go_simp
            simp only [Act.put, List.setIfInBounds_toArray]
            refine takeHD (i := 1) (v := .slice a4 (R k).length c4) (some 35) rfl rfl (by kernel_rfl) (by kernel_rfl) (by kernel_rfl) (fun _ _ _ h => h) (Or.inl ⟨by kernel_rfl, fun w' hw => ?_⟩) S5.out ?_
            · first | kernel_rfl | go_simp
            simp only [Act.put, List.setIfInBounds_toArray]
            refine takeHD (i := 2) (v := .string s) (some 36) rfl rfl (by kernel_rfl) (by kernel_rfl) (by kernel_rfl) (fun _ _ _ h => h) (Or.inl ⟨by kernel_rfl, fun w' hw => ?_⟩) S5.out ?_
            · first | kernel_rfl | go_simp
            simp only [Act.put, List.setIfInBounds_toArray]
            refine takeHD (i := 3) (v := .int .i64 (k : Int)) (some 37) rfl rfl (by kernel_rfl) (by kernel_rfl) (by kernel_rfl) (fun _ _ _ h => h) (Or.inl ⟨by kernel_rfl, fun w' hw => ?_⟩) S5.out ?_
            · first | kernel_rfl | go_simp
            simp only [Act.put, List.setIfInBounds_toArray]
            refine takeHD (i := 4) (v := .int .u8 cc) (some 38) rfl rfl (by kernel_rfl) (by kernel_rfl) (by kernel_rfl) (fun _ _ _ h => h) (Or.inl ⟨by kernel_rfl, fun w' hw => ?_⟩) S5.out ?_
            · go_simp
            simp only [Act.put, List.setIfInBounds_toArray]
            refine wpAnyH_ready (rs := [5]) (by kernel_rfl) (by simp) ?_
            refine AllReadyH.cons rfl (fun K hK => ?_) AllReadyH.nil
            rw [if_pos (by kernel_rfl)]
            go_wp2_with fail
            refine (HON4.out _ S5.out).mono ?_
            rintro e w6 ⟨x6, y6, rfl, ho6, hm6, hl6, hb6⟩
            have S6 : Hid (Below w4.heap.size w4 w6) := S5.out.trans hb6
            refine hK.out _ _ S6.out (fun _ => ?_)
            clear hK K
            have HO6 := Hid.mk (ho6.mono (base' := w.heap.size + 1) (by simpa using hsz4))
            have HM6 : Hid (k + 1 ≤ s.size → ∀ j, j ∈ y6 ↔ goOn N s R (k + 1) j) := fun _ j => by
              rw [hm6]
              show _ ↔ onK N (R k) ((txt s).getD k 0) (R k).length j
              rw [HCC.out]
            have HB6 := Hid.mk (HB4.out.trans (S6.out.mono hsz4))
            clear ho6 hm6 hb6 HON4
            refine wpAnyH_ready (rs := [6]) (by kernel_rfl) (by simp) ?_
            refine AllReadyH.cons rfl (fun K hK => ?_) AllReadyH.nil
            rw [if_pos (by kernel_rfl)]
            go_wp2_with fail
            refine hK.out _ _ S6.out (fun _ => ?_)
            clear hK K
            refine wpAnyH_done (by kernel_rfl) ?_ _
            clear S5 S6 HD5 HB4 BW4 HI4 d4
            go_wp2
            go_roundw
            case rel => exact ⟨k + 1, y6, by omega, by go_num, by omega, (fun _ => HO6.out), HM6, HD2, HB6⟩
            case measure => simp [intOf]; omega
          · have hlti : ¬ (k : Int) < (s.size : Int) := by omega
            have HG2 : Hid (k + 1 ≤ s.size → ∀ j, j ∈ ([] : List Int) ↔ goOn N s R (k + 1) j) := fun h => by omega
            go_wp2
            go_roundw
            case rel => exact ⟨k + 1, [], by omega, by go_num, by simp, (fun h => by omega), HG2, HD2, HB4⟩
            case measure => simp [intOf]; omega
      · have e : k = s.size + 1 := by omega
        subst e
        have hmt := HMN.out (fun i hi => HD.out i (by omega))
        subst hmt
        have hki : ¬ ((s.size : Int) + 1 < (s.size : Int) + 1) := by omega
        go_wp2
        go_ret
        exact ⟨rfl, BW.out⟩
end Go.Proofs.Yteomhjoodnjfbaa
