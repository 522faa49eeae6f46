/- A machine run over a text: what is reached at each place; whether it is the end. NfaMatches of the program. How many nodes a part has: l5Size of the model. The built-in append of a node onto a slice of nodes of the call's own, as a law for the walk. A part is laid behind nodes: l5Lay of the model, the parts of one node. A part is laid behind nodes: l5Lay of the model, the parts of one part. A part is laid behind nodes: l5Lay of the model, nothing and one behind the other. -/
import Derived.Test.YtapniafhcagogaaGreatDoorPk1
import Derived.Test.YtapniafhcagogaaGreatDoorTake
import Derived.Test.YtapniafhcagogaaGreatDoorNfaLay
import Derived.Test.YtapniafhcagogaaGreatDoorRexTo
import Derived.Test.YtapniafhcagogaaGreatDoorRexBox
import Derived.Test.YtapniafhcagogaaGreatDoorNodeTo
import Derived.Maps.AppendAt
import Derived.Test.YtapniafhcagogaaGreatDoorNfaLen
namespace Go.Proofs.YtapniafhcagogaaGreatDoor
open Go.RowKit
set_option maxRecDepth 8000

open Classical in
/-- What is reached of these, as a list. -/
noncomputable def rchL (N : List Nd) (b e : Bool) (S : Nat → Prop) : List Int := mkL (fun j => decide (Rch N b e S j)) N.length
/-- What one begins with at a place. -/
def seedS (N : List Nd) (P : Int → Prop) : Nat → Prop := fun j => (P (j : Int) ∨ j = 0) ∧ j < N.length
/-- What is reached at each place. -/
noncomputable def runL (N : List Nd) (s : ByteArray) : Nat → List Int
  | 0 => rchL N true ((0 : Int) == (s.size : Int)) (seedS N fun _ => False)
  | i + 1 => rchL N false (((i + 1 : Nat) : Int) == (s.size : Int)) (seedS N (onK N (runL N s i) ((txt s).getD i 0) (runL N s i).length))
/-- What goes on to the place i. -/
def goOn (N : List Nd) (s : ByteArray) (R : Nat → List Int) : Nat → Int → Prop
  | 0 => fun _ => False
  | i + 1 => onK N (R i) ((txt s).getD i 0) (R i).length
theorem runL_eq (N : List Nd) (s : ByteArray) (i : Nat) : runL N s i = rchL N ((i : Int) == 0) ((i : Int) == (s.size : Int)) (seedS N (goOn N s (runL N s) i)) := by
  cases i with
  | zero => rfl
  | succ i =>
    have e : (((i + 1 : Nat) : Int) == 0) = false := by rw [beq_eq_false_iff_ne]; omega
    rw [runL, e]
    rfl
theorem rchL_of {N : List Nd} {b e : Bool} {S S' : Nat → Prop} {M : Nat → Bool} (h : ∀ j, M j = true ↔ Rch N b e S j) (hS : ∀ j, S j ↔ S' j) : mkL M N.length = rchL N b e S' := by
  have e0 : S = S' := funext fun j => propext (hS j)
  subst e0
  unfold rchL
  congr 1
  funext j
  rw [Bool.eq_iff_iff, h j]
  simp
theorem seed_iff (N : List Nd) (P : Int → Prop) (ys : List Int) (h : ∀ j, j ∈ ys ↔ P j) (j : Nat) : inS (ys ++ [0]) N.length j ↔ seedS N P j := by
  unfold inS seedS
  rw [List.mem_append, h, List.mem_singleton]
  constructor
  · rintro ⟨h1 | h1, h2⟩
    · exact ⟨.inl h1, h2⟩
    · exact ⟨.inr (by omega), h2⟩
  · rintro ⟨h1 | h1, h2⟩
    · exact ⟨.inl h1, h2⟩
    · exact ⟨.inr (by omega), h2⟩
theorem rchL_in (N : List Nd) (b e : Bool) (S : Nat → Prop) : inN N.length (rchL N b e S) := by
  intro j hj
  unfold rchL mkL at hj
  obtain ⟨i, hi, rfl⟩ := List.mem_map.1 hj
  have := List.mem_range.1 (List.mem_filter.1 hi).1
  omega
theorem runL_in (N : List Nd) (s : ByteArray) (i : Nat) : inN N.length (runL N s i) := by rw [runL_eq]; exact rchL_in _ _ _ _
theorem runL_len (N : List Nd) (s : ByteArray) (i : Nat) : (runL N s i).length ≤ N.length := by rw [runL_eq]; exact mkL_len _ _
/-- Whether the machine matches. -/
noncomputable def mtB (N : List Nd) (s : ByteArray) : Bool := okNfa N && (List.range (s.size + 1)).any fun i => dnB N (runL N s i)
theorem mtB_yes {N : List Nd} {s : ByteArray} (hok : okNfa N = true) {i : Nat} (hi : i ≤ s.size) (h : dnB N (runL N s i) = true) : mtB N s = true := by
  unfold mtB
  rw [hok, Bool.true_and, List.any_eq_true]
  exact ⟨i, List.mem_range.2 (by omega), h⟩
theorem mtB_no {N : List Nd} {s : ByteArray} (h : ∀ i, i ≤ s.size → dnB N (runL N s i) = false) : mtB N s = false := by
  unfold mtB
  rw [Bool.and_eq_false_iff]
  right
  rw [List.any_eq_false]
  intro i hi
  rw [h i (by have := List.mem_range.1 hi; omega)]
  simp
theorem mtB_bad {N : List Nd} {s : ByteArray} (h : okNfa N = false) : mtB N s = false := by unfold mtB; rw [h]; rfl

/-- One number appended onto a slice of the call's own, at a step of a region. -/
theorem wp_append_z {w0 w : World} {o : Oper} {a : Act} {K : Act → World → Prop} {Q : Exit → Act → World → Prop} (s x : Operand)
    (ho : o.op = .call { callee := .builtin .append, args := #[s, x], argTypes := #[52, 52] })
    (base : Nat) (v : Value) (xs : List Int) (c : Int) (hs : a.eval s = v) (hown : OwnZ w base v xs) (lb : Nat) (hx : a.eval x = .slice (some ⟨lb, 0, none⟩) 1 1) (hc : w.cell? ⟨lb, 0, none⟩ = some (.int .i64 c))
    (hbel : Below base w0 w) (hbase : base ≤ w.heap.size) (hlen : xs.length ≤ 1000000)
    (h : ∀ v' w', OwnZ w' base v' (xs ++ [c]) → Below base w0 w' → w.heap.size ≤ w'.heap.size → K (a.put o.dst v') w') : o.wp Tryz.prog a w K Q := by
  obtain ⟨i0, hi, hz0, hz1, hz2⟩ := info_parts infoZ
  refine wp_append_own w s x 52 ho base 3 i0 (.int .i64 0) 1 8 Tryz.underlying52 hi hz0 hz1 hz2 rfl (by decide) v xs.length (xs.map (Value.int .i64)) hs hown ⟨lb, 0, none⟩ 1 1 [.int .i64 c] hx (by simp) ?_ (by simp [Value.oneCell']) (by unfold maxLen; omega) (by omega) hbase ?_
  · intro j q hq
    match j, hq with
    | 0, hq => simp at hq; subst hq; simpa [Addr.add] using hc
  · intro v' w' hown' hgr _
    refine h v' w' ?_ (hbel.grown hgr hbase fun k hk => (World.ownsRow.lt hown k hk).1) hgr.size
    unfold OwnZ
    rw [List.map_append, List.length_append]
    exact hown'

set_option maxHeartbeats 1000000 in
theorem implNfaMatches_any (N : List Nd) (B : Nat → Prop) (v : Value) (s : ByteArray) (w : World) (h : Nl w B N v) (hs : s.size ≤ 1048576) :
    Calls Tryz.prog 8 #[.agg #[v], .string s] w fun e w' => e = .returned (.bool (mtB N s)) ∧ Below w.heap.size w w' := by
  have HK := Hid.mk (fun w' (hb : Below w.heap.size w w') => implNfaOk_any N B v w' (h.grow hb))
  have HSP := Hid.mk (fun hok w' (hb : Below w.heap.size w w') u l p z hl => spreadNodes_any N hok B v u l p z w' (h.grow hb) hl)
  have HAD := Hid.mk (fun w' (hb : Below w.heap.size w w') u l hl hin => anyDone_any N B v u l w' (h.grow hb) hl hin)
  have HON := Hid.mk (fun hok w' (hb : Below w.heap.size w w') u l c hl hin hll h0 h1 => implOnward_any N hok B v u l c w' (h.grow hb) hl hin hll h0 h1)
  have HR := Hid.mk (runL_eq N s)
  have HRI := Hid.mk (runL_in N s)
  have HRL := Hid.mk (runL_len N s)
  have HMY := Hid.mk (fun hok i hi hd => mtB_yes (N := N) (s := s) hok (i := i) hi hd)
  have HMN := Hid.mk (fun hd => mtB_no (N := N) (s := s) hd)
  have HMB := Hid.mk (fun hok => mtB_bad (N := N) (s := s) hok)
  obtain ⟨ao, cap, rfl, -⟩ := h
  obtain ⟨R, hRR⟩ : ∃ R, runL N s = R := ⟨_, rfl⟩
  rw [hRR] at HR HRI HRL HMY HMN
  clear hRR
  generalize mtB N s = mt at *
  have A0 : Hid (Below w.heap.size w (w.alloc (.cells #[.slice ao N.length cap] 31))) := (Below.refl _ _).alloc (Nat.le_refl _) _
  go_enter Tryz.func8, Tryz.ntmps8
  go_wp2_with fail
  refine (HK.out _ A0.out).mono ?_
  rintro e w1 ⟨rfl, hb1⟩
  have C1 : Hid (Below (w.heap.size + 1) (w.alloc (.cells #[.slice ao N.length cap] 31)) w1) := hb1.mono (by simp)
  clear hb1 HK
  cases hok : okNfa N with
  | false =>
    have hmt := HMB.out hok
    subst hmt
    have B1 := Hid.mk (A0.out.trans (C1.out.mono (by omega)))
    clear HSP HAD HON HR HRI HRL HMY HMN HMB
    go_wp2
    go_ret
    exact ⟨rfl, B1.out⟩
  | true =>
    have hn3 := okNfa_size hok
    have HSP' := Hid.mk (HSP.out hok)
    have HON' := Hid.mk (HON.out hok)
    have HMY' := Hid.mk (HMY.out hok)
    clear HSP HON HMY HMB hok
    have O1 : Hid (OwnZ w1 (w.heap.size + 1) (.slice none 0 0) []) := World.ownsRow_nil _ _ _ _
    go_wp2
    go_loopw [5, 14] (fun q i wr => ∃ (k : Nat) (ys : List Int), k ≤ s.size + 1 ∧ i = .int .i64 k ∧ ys.length ≤ 300 ∧ Hid (k ≤ s.size → OwnZ wr (w.heap.size + 1) q ys) ∧ Hid (k ≤ s.size → ∀ j, j ∈ ys ↔ goOn N s R k j) ∧ Hid (∀ i, i < k → dnB N (R i) = false) ∧ Hid (Below (w.heap.size + 1) (w.alloc (.cells #[.slice ao N.length cap] 31)) wr)) (fun _ i _ => s.size + 1 - (intOf i).toNat)
    case atStart => exact ⟨0, [], Nat.zero_le _, rfl, by simp, (fun _ => O1.out), (fun _ j => ⟨(fun h => by cases h), (fun h => h.elim)⟩), (fun i hi => by omega), C1⟩
    case round =>
      obtain ⟨k, ys, hk, rfl, hyl, HO0, HG, HD, HB⟩ := hrel
      clear O1 C1
      have BW := Hid.mk (A0.out.trans (HB.out.mono (by omega)))
      have hsz : w.heap.size + 1 ≤ wr.heap.size := by have := HB.out.size; simpa using this
      by_cases hkn : k ≤ s.size
      · have hki : (k : Int) < (s.size : Int) + 1 := by omega
        have HS := Hid.mk (seed_iff N _ ys (HG.out hkn))
        have HO := Hid.mk (HO0.out hkn)
        clear HO0
        have d0 : wr.cell? ⟨w.heap.size, 0, none⟩ = some (.slice ao N.length cap) := by rw [HB.out.cell (p := ⟨w.heap.size, 0, none⟩) (by simp)]; simp
        have S0 : Hid (Below (w.heap.size + 1) wr wr.drew) := Below.drewSelf _ _ 1
        have HD0 : Hid (∀ w', Below (w.heap.size + 1) wr w' → w'.cell? ⟨w.heap.size, 0, none⟩ = some (.slice ao N.length cap)) := fun w' hb => by rw [hb.cell (p := ⟨w.heap.size, 0, none⟩) (by simp)]; exact d0
        go_wp2_with fail
        refine wp_region_held_drew (S := Below (w.heap.size + 1) wr) (by kernel_rfl) S0.out (fun _ => ?_)
        refine takeHD (i := 0) (v := .pointer (some ⟨w.heap.size, 0, none⟩)) (some 17) rfl rfl (by kernel_rfl) (by kernel_rfl) (by kernel_rfl) (fun _ _ _ h => h) (Or.inl ⟨by kernel_rfl, fun w' hw => ?_⟩) S0.out ?_
        · go_simp
        simp only [Act.put, List.setIfInBounds_toArray]
        refine takeHD (i := 1) (v := .slice ao N.length cap) (some 18) rfl rfl (by kernel_rfl) (by kernel_rfl) (by kernel_rfl) (fun _ _ _ h => h) (Or.inl ⟨by kernel_rfl, fun w' hw => ?_⟩) S0.out ?_
        · have hx := HD0.out w' hw
          go_simp
        simp only [Act.put, List.setIfInBounds_toArray]
        refine takeHD (i := 2) (v := u5) (some 19) rfl rfl (by kernel_rfl) (by kernel_rfl) (by kernel_rfl) (fun _ _ _ h => h) (Or.inl ⟨by kernel_rfl, fun w' hw => ?_⟩) S0.out ?_
        · first | kernel_rfl | go_simp
        simp only [Act.put, List.setIfInBounds_toArray]
        refine takeHD (i := 5) (v := .int .i64 (k : Int)) (some 22) rfl rfl (by kernel_rfl) (by kernel_rfl) (by kernel_rfl) (fun _ _ _ h => h) (Or.inl ⟨by kernel_rfl, fun w' hw => ?_⟩) S0.out ?_
        · first | kernel_rfl | go_simp
        simp only [Act.put, List.setIfInBounds_toArray]
        refine takeHD (i := 6) (v := .string s) (some 23) rfl rfl (by kernel_rfl) (by kernel_rfl) (by kernel_rfl) (fun _ _ _ h => h) (Or.inl ⟨by kernel_rfl, fun w' hw => ?_⟩) S0.out ?_
        · first | kernel_rfl | go_simp
        simp only [Act.put, List.setIfInBounds_toArray]
        refine takeHD (i := 7) (v := .int .i64 (s.size : Int)) (some 24) rfl rfl (by kernel_rfl) (by kernel_rfl) (by kernel_rfl) (fun _ _ _ h => h) (Or.inl ⟨by kernel_rfl, fun w' hw => ?_⟩) S0.out ?_
        · go_simp
        simp only [Act.put, List.setIfInBounds_toArray]
        refine wpAnyH_ready (rs := [3]) (by kernel_rfl) (by simp) ?_
        refine AllReadyH.cons rfl (fun K hK => ?_) AllReadyH.nil
        rw [if_pos (by kernel_rfl)]
        go_wp2_with fail
        have S1 : Hid (Below (w.heap.size + 1) wr (wr.drew.alloc (.cells #[.int .i64 0] 3))) := S0.out.alloc (by simpa using hsz) _
        refine hK.out _ _ S1.out (fun _ => ?_)
        clear hK K
        refine wpAnyH_ready (rs := [4]) (by kernel_rfl) (by simp) ?_
        refine AllReadyH.cons rfl (fun K hK => ?_) AllReadyH.nil
        rw [if_pos (by kernel_rfl)]
        have ho1 := HO.out.grow ((Below.drewSelf wr.heap.size wr 1).alloc (Nat.le_refl _) (.cells #[.int .i64 0] 3))
        refine wp_append_z (.tmp 19) (.tmp 20) rfl (w.heap.size + 1) u5 ys 0 rfl ho1 wr.heap.size rfl (by simp) S1.out (by simp; omega) (by omega) ?_
        intro v3 w3 ho3 S3 s13
        obtain ⟨z3, hz3⟩ : ∃ z3, ys ++ [0] = z3 := ⟨_, rfl⟩
        rw [hz3] at ho3 HS
        clear hz3
        refine hK.out _ _ S3 (fun _ => ?_)
        clear hK K ho1
        have HO3 := Hid.mk ho3.iz
        have BW3 := Hid.mk (BW.out.trans (S3.mono (by omega)))
        have HS3 := Hid.mk S3
        have hsz3 : w.heap.size + 1 ≤ w3.heap.size := by have := S3.size; omega
        obtain ⟨a3, c3, hv3, -⟩ := ho3.iz
        subst hv3
        clear ho3 S3 S1
        refine wpAnyH_ready (rs := [8]) (by kernel_rfl) (by simp) ?_
        refine AllReadyH.cons rfl (fun K hK => ?_) AllReadyH.nil
        rw [if_pos (by kernel_rfl)]
        go_wp2_with fail
        refine (HSP'.out w3 BW3.out _ _ (k : Int) (s.size : Int) HO3.out).mono ?_
        rintro e w4 ⟨x4, M, rfl, ho4, hM4, hb4⟩
        have S4 : Hid (Below (w.heap.size + 1) wr w4) := HS3.out.trans (hb4.mono hsz3)
        have hRk : mkL M N.length = R k := by rw [HR.out k]; exact rchL_of hM4 HS.out
        rw [hRk] at ho4
        refine hK.out _ _ S4.out (fun _ => ?_)
        clear hK K
        have HI4 := Hid.mk ho4.iz
        have hsz4 : w.heap.size + 1 ≤ w4.heap.size := by have := hb4.size; omega
        obtain ⟨a4, c4, hv4, -⟩ := ho4.iz
        subst hv4
        clear ho4 hM4 hb4 hRk HS3 HO3 BW3 hsz3 s13
        refine wpAnyH_ready (rs := [9]) (by kernel_rfl) (by simp) ?_
        refine AllReadyH.cons rfl (fun K hK => ?_) AllReadyH.nil
        rw [if_pos (by kernel_rfl)]
        go_wp2_with fail
        refine hK.out _ _ S4.out (fun _ => ?_)
        clear hK K
        refine wpAnyH_done (by kernel_rfl) ?_ _
        have HB4 := Hid.mk (HB.out.trans S4.out)
        have BW4 := Hid.mk (A0.out.trans (HB4.out.mono (by omega)))
        have d4 : w4.cell? ⟨w.heap.size, 0, none⟩ = some (.slice ao N.length cap) := HD0.out w4 S4.out
        have HAD4 := Hid.mk (HAD.out w4 BW4.out _ _ HI4.out (HRI.out k))
        have hR3 : (R k).length ≤ 300 := by have := HRL.out k; omega
        obtain ⟨db, hdb⟩ : ∃ db, dnB N (R k) = db := ⟨_, rfl⟩
        rw [hdb] at HAD4
        have HDB := Hid.mk hdb
        clear hdb HO HB S0 S4 HD0 d0 HS HG BW
        go_wp2_with fail
        refine HAD4.out.mono ?_
        rintro e w5 ⟨rfl, hw5⟩
        obtain rfl := hw5.symm
        clear hw5 HAD4
        cases db with
        | true =>
          have hmt := HMY'.out k hkn HDB.out
          subst hmt
          go_wp2
          go_ret
          exact ⟨rfl, BW4.out⟩
        | false =>
          have HD2 : Hid (∀ i, i < k + 1 → dnB N (R i) = false) := by
            intro i hi
            by_cases e : i = k
            · subst e; exact HDB.out
            · exact HD.out i (by omega)
          clear HD HDB
          by_cases hlt : k < s.size
          · have hlti : (k : Int) < (s.size : Int) := by omega
            have hbt := byte_at6 s k hlt
            have hbd := (txt_byte s).getD k
            rw [← hbt] at hbd
            have HON4 := Hid.mk (fun (w' : World) (hb : Below w4.heap.size w4 w') => HON'.out w' (BW4.out.trans (hb.mono BW4.out.size)) _ _ ((s[k].toNat : Nat) : Int) (HI4.out.grow hb) (HRI.out k) hR3 hbd.1 hbd.2)
            rw [hbt] at HON4
            have hHB := hbt
            generalize hcc : (txt s).getD k 0 = cc at HON4 hHB
            have S5 : Hid (Below w4.heap.size w4 w4.drew) := Below.drewSelf _ _ 1
            have HD5 : Hid (∀ w', Below w4.heap.size w4 w' → w'.cell? ⟨w.heap.size, 0, none⟩ = some (.slice ao N.length cap)) := fun w' hb => by rw [hb.cell (p := ⟨w.heap.size, 0, none⟩) (by simp; omega)]; exact d4
            have HCC := Hid.mk hcc
            clear hbt hbd hcc
            go_wp2_with fail
            refine wp_region_held_drew (S := Below w4.heap.size w4) (by kernel_rfl) S5.out (fun _ => ?_)
            refine takeHD (i := 0) (v := .agg #[.slice ao N.length cap]) (some 34) rfl rfl (by kernel_rfl) (by kernel_rfl) (by kernel_rfl) (fun _ _ _ h => h) (Or.inl ⟨by kernel_rfl, fun w' hw => ?_⟩) S5.out ?_
            · have hx := HD5.out w' hw; go_simp
            simp only [Act.put, List.setIfInBounds_toArray]
            refine takeHD (i := 1) (v := .slice a4 (R k).length c4) (some 35) rfl rfl (by kernel_rfl) (by kernel_rfl) (by kernel_rfl) (fun _ _ _ h => h) (Or.inl ⟨by kernel_rfl, fun w' hw => ?_⟩) S5.out ?_
            · first | kernel_rfl | go_simp
            simp only [Act.put, List.setIfInBounds_toArray]
            refine takeHD (i := 2) (v := .string s) (some 36) rfl rfl (by kernel_rfl) (by kernel_rfl) (by kernel_rfl) (fun _ _ _ h => h) (Or.inl ⟨by kernel_rfl, fun w' hw => ?_⟩) S5.out ?_
            · first | kernel_rfl | go_simp
            simp only [Act.put, List.setIfInBounds_toArray]
            refine takeHD (i := 3) (v := .int .i64 (k : Int)) (some 37) rfl rfl (by kernel_rfl) (by kernel_rfl) (by kernel_rfl) (fun _ _ _ h => h) (Or.inl ⟨by kernel_rfl, fun w' hw => ?_⟩) S5.out ?_
            · first | kernel_rfl | go_simp
            simp only [Act.put, List.setIfInBounds_toArray]
            refine takeHD (i := 4) (v := .int .u8 cc) (some 38) rfl rfl (by kernel_rfl) (by kernel_rfl) (by kernel_rfl) (fun _ _ _ h => h) (Or.inl ⟨by kernel_rfl, fun w' hw => ?_⟩) S5.out ?_
            · go_simp
            simp only [Act.put, List.setIfInBounds_toArray]
            refine wpAnyH_ready (rs := [5]) (by kernel_rfl) (by simp) ?_
            refine AllReadyH.cons rfl (fun K hK => ?_) AllReadyH.nil
            rw [if_pos (by kernel_rfl)]
            go_wp2_with fail
            refine (HON4.out _ S5.out).mono ?_
            rintro e w6 ⟨x6, y6, rfl, ho6, hm6, hl6, hb6⟩
            have S6 : Hid (Below w4.heap.size w4 w6) := S5.out.trans hb6
            refine hK.out _ _ S6.out (fun _ => ?_)
            clear hK K
            have HO6 := Hid.mk (ho6.mono (base' := w.heap.size + 1) (by simpa using hsz4))
            have HM6 : Hid (k + 1 ≤ s.size → ∀ j, j ∈ y6 ↔ goOn N s R (k + 1) j) := fun _ j => by
              rw [hm6]
              show _ ↔ onK N (R k) ((txt s).getD k 0) (R k).length j
              rw [HCC.out]
            have HB6 := Hid.mk (HB4.out.trans (S6.out.mono hsz4))
            clear ho6 hm6 hb6 HON4
            refine wpAnyH_ready (rs := [6]) (by kernel_rfl) (by simp) ?_
            refine AllReadyH.cons rfl (fun K hK => ?_) AllReadyH.nil
            rw [if_pos (by kernel_rfl)]
            go_wp2_with fail
            refine hK.out _ _ S6.out (fun _ => ?_)
            clear hK K
            refine wpAnyH_done (by kernel_rfl) ?_ _
            clear S5 S6 HD5 HB4 BW4 HI4 d4
            go_wp2
            go_roundw
            case rel => exact ⟨k + 1, y6, by omega, by go_num, by omega, (fun _ => HO6.out), HM6, HD2, HB6⟩
            case measure => simp [intOf]; omega
          · have hlti : ¬ (k : Int) < (s.size : Int) := by omega
            have HG2 : Hid (k + 1 ≤ s.size → ∀ j, j ∈ ([] : List Int) ↔ goOn N s R (k + 1) j) := fun h => by omega
            go_wp2
            go_roundw
            case rel => exact ⟨k + 1, [], by omega, by go_num, by simp, (fun h => by omega), HG2, HD2, HB4⟩
            case measure => simp [intOf]; omega
      · have e : k = s.size + 1 := by omega
        subst e
        have hmt := HMN.out (fun i hi => HD.out i (by omega))
        subst hmt
        have hki : ¬ ((s.size : Int) + 1 < (s.size : Int) + 1) := by omega
        go_wp2
        go_ret
        exact ⟨rfl, BW.out⟩
end Go.Proofs.YtapniafhcagogaaGreatDoor

namespace Go.Proofs.YtapniafhcagogaaGreatDoor
open Go.RowKit
set_option maxRecDepth 8000

mutual
/-- One or the other has at least one part. -/
def Tr.alt : Tr → Bool
  | .node k _ l => (k != 5 || !l.isEmpty) && altL l
def altL : List Tr → Bool
  | [] => true
  | t :: r => t.alt && altL r
end
theorem altL_mem : ∀ {l : List Tr}, altL l = true → ∀ x ∈ l, x.alt = true
  | [], _, x, h => by cases h
  | t :: r, h, x, hx => by
    rw [altL, Bool.and_eq_true] at h
    rcases List.mem_cons.1 hx with rfl | h'
    · exact h.1
    · exact altL_mem h.2 x h'
theorem alt_l {t : Tr} (h : t.alt = true) : altL t.l = true ∧ (t.k = 5 → t.l ≠ []) := by
  cases t with
  | node k s l =>
    rw [Tr.alt, Bool.and_eq_true] at h
    refine ⟨h.2, fun hk hl => ?_⟩
    simp only [Tr.k, Tr.l] at hk hl
    subst hk hl
    simp at h
theorem nszL_take : ∀ (l : List Tr) (k : Nat) (h : k < l.length), nszL (l.take (k + 1)) = nszL (l.take k) + l[k].nsz
  | t :: r, 0, _ => by simp [nszL]
  | t :: r, k + 1, h => by
    have := nszL_take r k (by simpa using h)
    simp only [List.take_succ_cons, nszL, List.getElem_cons_succ] at this ⊢
    omega
theorem nszL_le : ∀ (l : List Tr) (k : Nat), nszL (l.take k) ≤ nszL l
  | [], k => by simp [nszL]
  | t :: r, 0 => by simp [nszL]
  | t :: r, k + 1 => by
    have := nszL_le r k
    simp only [List.take_succ_cons, nszL]
    omega
theorem nszL_nsz (t : Tr) : nszL t.l ≤ t.nsz := by
  rw [nsz_eq]
  split
  · omega
  · split
    · omega
    · split <;> omega

def LsC (t : Tr) : Prop := ∀ (B : Nat → Prop) (v : Value) (w : World), Rl w B t.l v → t.s.size ≤ maxLen → t.alt = true → t.nsz ≤ 1000000 →
  Calls Tryz.prog 52 #[rx t.k t.s v] w fun e w' => e = .returned (.int .i64 ((t.nsz : Nat) : Int)) ∧ Below w.heap.size w w'

set_option maxHeartbeats 2000000 in
theorem l5Size_step (t : Tr) (ih : ∀ x ∈ t.l, LsC x) : LsC t := by
  intro B v w h hts halt hn
  have hal := alt_l halt
  have hnn := nszL_nsz t
  have HNS := Hid.mk (nsz_eq t)
  have HIH := Hid.mk ih
  have HH := Hid.mk h
  have HAL := Hid.mk (altL_mem hal.1)
  have HNE := Hid.mk hal.2
  obtain ⟨ao, cap, rfl, hl1, hl2, -⟩ := h.len
  unfold maxLen at hl2
  obtain ⟨N, hN⟩ : ∃ N, t.nsz = N := ⟨_, rfl⟩
  obtain ⟨tk, htk⟩ : ∃ tk, t.k = tk := ⟨_, rfl⟩
  obtain ⟨ts, hts'⟩ : ∃ ts, t.s = ts := ⟨_, rfl⟩
  obtain ⟨l, hl⟩ : ∃ l, t.l = l := ⟨_, rfl⟩
  rw [hN, htk, hl] at HNS
  rw [hN] at hn hnn
  rw [hl] at HIH HH HAL hl1 hnn
  rw [htk, hl] at HNE
  rw [htk, hts', hl, hN]
  have HTK := Hid.mk (nszL_take l)
  have HLE := Hid.mk (nszL_le l)
  have HALL : Hid (nszL (l.take l.length) = nszL l) := by show _ = _; rw [List.take_length]
  have H0 : Hid (nszL (l.take 0) = 0) := by show _ = _; simp [nszL]
  have X0 := Hid.mk (Bz3.new w (.int .i64 tk) (.string ts) (.slice ao l.length cap))
  have A0 : Hid (Below w.heap.size w (w.alloc (.cells #[.int .i64 tk, .string ts, .slice ao l.length cap] 26))) := (Below.refl _ _).alloc (Nat.le_refl _) _
  clear ih h hal halt hN htk hts' hl hts
  go_enter Tryz.func52, Tryz.ntmps52
  go_wp2
  go_loopw [3, 4] (fun q i wr => ∃ (k : Nat), k ≤ l.length ∧ i = .int .i64 k ∧ q = .int .i64 ((nszL (l.take k) : Nat) : Int) ∧ Hid (Bz3 wr w.heap.size (.int .i64 tk) (.string ts) (.slice ao l.length cap)) ∧ Hid (Below w.heap.size w wr)) (fun _ i _ => l.length - (intOf i).toNat)
  case atStart => exact ⟨0, Nat.zero_le _, rfl, by rw [H0.out]; rfl, X0, A0⟩
  case round =>
    obtain ⟨k, hk, rfl, rfl, HX, HB⟩ := hrel
    clear X0 A0 H0
    have x0 := HX.out.c0
    have x2 := HX.out.c2
    by_cases hkl : k < l.length
    · obtain ⟨b, off, V, rfl, hel⟩ := HH.out.elems (by intro hn; rw [hn] at hkl; simp at hkl)
      obtain ⟨h3, hsub, hss⟩ := hel k hkl
      obtain ⟨c0, c1, c2⟩ := h3.kept (w' := wr) (HB.out.block b (World.block_lt_of_cell? w _ h3.1))
      have hsz := HTK.out k hkl
      have hle := HLE.out (k + 1)
      have HC := Hid.mk (HIH.out l[k] (List.getElem_mem hkl) B (V k) wr (hsub.grow HB.out) hss (HAL.out _ (List.getElem_mem hkl)) (by omega))
      have HSZ := Hid.mk hsz
      generalize l[k] = x at c0 c1 c2 HC HSZ hsz
      generalize hT : nszL (l.take k) = T at hsz
      generalize hT1 : nszL (l.take (k + 1)) = T1 at hsz hle
      have HT1 := Hid.mk hT1
      have hi1 : (k : Int) < (l.length : Int) := by omega
      obtain ⟨xn, hxn⟩ : ∃ xn, x.nsz = xn := ⟨_, rfl⟩
      rw [hxn] at HC hsz
      clear hel h3 hsub hss hT hT1 hxn HSZ HIH HH HAL
      go_wp2_with fail
      refine HC.out.mono ?_
      rintro e w1 ⟨rfl, hb1⟩
      have HX1 := Hid.mk (HX.out.grow hb1)
      have HB1 := Hid.mk (HB.out.trans (hb1.mono HB.out.size))
      clear hb1 HC HX HB x0 x2 c0 c1 c2
      go_wp2
      go_roundw
      case rel => exact ⟨k + 1, by omega, by go_num, by rw [HT1.out, hsz]; congr 1, HX1, HB1⟩
      case measure => simp [intOf]; omega
    · have e : k = l.length := by omega
      subst e
      have hall := HALL.out
      have hns := HNS.out
      generalize hS : nszL (l.take l.length) = S at *
      rw [← hall] at hns hnn
      clear hS hall HTK HLE HALL HIH HH HAL HX
      by_cases h9 : tk = 9
      · rw [if_pos (.inl h9)] at hns
        subst h9
        subst hns
        go_wp2
        go_ret
        exact ⟨rfl, HB.out⟩
      have h9' : (tk == 9) = false := beq_eq_false_iff_ne.2 h9
      by_cases h4 : tk = 4
      · rw [if_pos (.inr h4)] at hns
        subst h4
        subst hns
        go_wp2
        go_ret
        exact ⟨rfl, HB.out⟩
      have h4' : (tk == 4) = false := beq_eq_false_iff_ne.2 h4
      rw [if_neg (by rintro (h | h) <;> contradiction)] at hns
      by_cases h5 : tk = 5
      · rw [if_pos h5] at hns
        have hpos : 0 < l.length := List.length_pos_iff.2 (HNE.out h5)
        have hnz : ((N : Nat) : Int) = (S : Int) + 2 * ((l.length : Int) - 1) := by omega
        subst h5
        obtain ⟨ln, hln⟩ : ∃ ln : Int, (l.length : Int) - 1 = ln := ⟨_, rfl⟩
        have hl0 : 0 ≤ ln := by omega
        have hl9 : ln ≤ 1000000 := by omega
        have HZ := Hid.mk hnz
        rw [hln] at HZ
        have HL := Hid.mk hln
        clear hns hnz HNE
        go_wp2
        go_ret
        refine ⟨?_, HB.out⟩
        rw [HZ.out]
        first | rfl | (rw [← HL.out]; rfl) | (simp; done) | (simp; omega)
      have h5' : (tk == 5) = false := beq_eq_false_iff_ne.2 h5
      rw [if_neg h5] at hns
      by_cases h6 : tk = 6
      · rw [if_pos h6] at hns
        subst h6
        subst hns
        go_wp2
        go_ret
        exact ⟨by simp, HB.out⟩
      have h6' : (tk == 6) = false := beq_eq_false_iff_ne.2 h6
      rw [if_neg h6] at hns
      subst hns
      go_wp2
      go_ret
      exact ⟨by simp, HB.out⟩
theorem l5Size_any : ∀ t : Tr, LsC t := Tr.ind (fun t ih => l5Size_step t ih)
end Go.Proofs.YtapniafhcagogaaGreatDoor

namespace Go.Proofs.YtapniafhcagogaaGreatDoor
open Go.RowKit
set_option maxRecDepth 8000

/-- A slice of the call's own with these nodes. -/
def OwnN (w : World) (base : Nat) (v : Value) (L : List Nd) : Prop := w.ownsRow base 43 4 v L.length (ndCells L)
theorem OwnN.mono {w : World} {base base' : Nat} {v : Value} {L : List Nd} (h : OwnN w base v L) (hle : base' ≤ base) : OwnN w base' v L := by
  refine ⟨h.1, ?_⟩
  rcases h.2 with h' | ⟨g, cap, cur, e, hb, rest⟩
  · exact Or.inl h'
  · exact Or.inr ⟨g, cap, cur, e, Nat.le_trans hle hb, rest⟩
theorem OwnN.grow {w w' : World} {base : Nat} {v : Value} {L : List Nd} (h : OwnN w base v L) (hb : Below w.heap.size w w') : OwnN w' base v L :=
  World.ownsRow.kept (row := none) h ⟨hb.os, hb.tape, hb.output, hb.size, fun k hk _ => hb.block k hk⟩ (by
    rcases h.2 with ⟨rfl, _⟩ | ⟨g, cap, cur, rfl, _⟩
    · exact .inl rfl
    · exact .inr (by simp [Value.ownBlock]))
theorem ndCells_append (L M : List Nd) : ndCells (L ++ M) = ndCells L ++ ndCells M := by
  induction L with
  | nil => rfl
  | cons x r ih => simp only [List.cons_append, ndCells, ih]

/-- Nothing but the slice's own block has turned, and what is there now lies there or in a new block. -/
def Nign (w w' : World) (v v' : Value) : Prop := w.grownBy w' v.ownBlock ∧ (v'.ownBlock = v.ownBlock ∨ ∃ g, w.heap.size ≤ g ∧ v'.ownBlock = some g)
theorem Nign.refl (w : World) (v : Value) : Nign w w v v := ⟨⟨rfl, rfl, rfl, Nat.le_refl _, fun _ _ _ => rfl⟩, .inl rfl⟩
theorem Nign.trans {a b c : World} {u v x : Value} (h : Nign a b u v) (k : Nign b c v x) : Nign a c u x := by
  obtain ⟨h1, h2⟩ := h
  obtain ⟨k1, k2⟩ := k
  have hs := h1.size
  refine ⟨⟨k1.os.trans h1.os, k1.tape.trans h1.tape, k1.output.trans h1.output, Nat.le_trans hs k1.size, fun j hj hne => (k1.block j (by omega) ?_).trans (h1.block j hj hne)⟩, ?_⟩
  · intro e
    rcases h2 with h2 | ⟨g, hg, h2⟩
    · exact hne (e.trans h2)
    · rw [h2] at e
      have := Option.some.inj e
      omega
  · rcases k2 with k2 | ⟨g, hg, k2⟩
    · rcases h2 with h2 | ⟨g, hg, h2⟩
      · exact .inl (k2.trans h2)
      · exact .inr ⟨g, hg, k2.trans h2⟩
    · exact .inr ⟨g, by omega, k2⟩
/-- What is new in between changes nothing of it. -/
theorem Nign.ahead {a b c : World} {u v : Value} (h : Below a.heap.size a b) (k : Nign b c u v) : Nign a c u v := by
  obtain ⟨k1, k2⟩ := k
  have hs := h.size
  refine ⟨⟨k1.os.trans h.os, k1.tape.trans h.tape, k1.output.trans h.output, Nat.le_trans hs k1.size, fun j hj hne => (k1.block j (by omega) hne).trans (h.block j hj)⟩, ?_⟩
  rcases k2 with k2 | ⟨g, hg, k2⟩
  · exact .inl k2
  · exact .inr ⟨g, by omega, k2⟩

theorem wpList_append_n {w0 w : World} {ops : Array Oper} {rest : List Oper} {o : Oper} {a : Act} {Q : Exit → Act → World → Prop} (hgd : o.guard = none) (s x : Operand)
    (ho : o.op = .call { callee := .builtin .append, args := #[s, x], argTypes := #[29, 29] })
    (base : Nat) (v : Value) (L : List Nd) (y : Nd) (hs : a.eval s = v) (hown : OwnN w base v L) (lb : Nat) (hx : a.eval x = .slice (some ⟨lb, 0, none⟩) 1 1)
    (hc : w.heap[lb]? = some (.cells #[.int .i64 y.k, .string y.s, .int .i64 y.a, .int .i64 y.b] 43 (0, 0)))
    (hbel : Below base w0 w) (hbase : base ≤ w.heap.size) (hlen : L.length ≤ 1000000)
    (h : ∀ v' w', OwnN w' base v' (L ++ [y]) → Below base w0 w' → w.heap.size ≤ w'.heap.size → Nign w w' v v' → wpList Tryz.prog ops Q rest (a.put o.dst v') w') :
    wpList Tryz.prog ops Q (o :: rest) a w := by
  obtain ⟨i0, hi, hz0, hz1, hz2⟩ := info_parts infoNode
  refine wpList_append_own_at w hgd s x 29 ho base 43 i0 _ 4 40 Tryz.underlying29 hi hz0 hz1 hz2 rfl (by decide) v L.length (ndCells L) hs hown ⟨lb, 0, none⟩ 1 1 (ndCells [y]) hx rfl ?_ (by simp [ndCells, Value.oneCell']) (by unfold maxLen; omega) (by omega) hbase ?_
  · intro j q hq
    rw [Addr.add_lit, Nat.zero_add, cell_of_row w lb j _ _ (0, 0) hc]
    simpa [ndCells] using hq
  · intro v' w' hown' hgr _ hat
    refine h v' w' ?_ (hbel.grown hgr hbase fun k hk => (World.ownsRow.lt hown k hk).1) hgr.size ⟨hgr, ?_⟩
    rotate_left
    · rcases hat with hat | hat
      · exact .inl hat
      · exact .inr ⟨_, Nat.le_refl _, hat⟩
    unfold OwnN
    rw [ndCells_append, List.length_append]
    exact hown'
end Go.Proofs.YtapniafhcagogaaGreatDoor

namespace Go.Proofs.YtapniafhcagogaaGreatDoor
open Go.RowKit
set_option maxRecDepth 8000

/-- A part is laid behind the nodes of a slice of the call's own. -/
def LyC (t : Tr) : Prop := ∀ (B : Nat → Prop) (v o : Value) (base : Nat) (L : List Nd) (w : World), Rl w B t.l v → (∀ b, B b → b < base) → base ≤ w.heap.size → OwnN w base o L →
  t.s.size ≤ maxLen → t.okT = true → L.length + t.nsz ≤ 1000000 →
  Calls Tryz.prog 26 #[o, rx t.k t.s v] w fun e w' => ∃ o', e = .returned o' ∧ OwnN w' base o' (L ++ t.lay L.length) ∧ Nign w w' o o'

theorem alt_ok (t : Tr) (h : t.okT = true) : t.alt = true := by
  refine Tr.ind (P := fun t => t.okT = true → t.alt = true) ?_ t h
  intro t ih h
  have hl : ∀ x ∈ t.l, x.alt = true := fun x hx => ih x hx (okT_kids h x hx)
  have h2 := okT_two h
  cases t with
  | node k s l =>
    simp only [Tr.k, Tr.l] at hl h2
    rw [Tr.alt, Bool.and_eq_true]
    constructor
    · by_cases hk : k = 5
      · have := h2 (.inr hk)
        cases l with
        | nil => simp at this
        | cons _ _ => simp
      · simp [hk]
    · clear h2 ih h
      induction l with
      | nil => rfl
      | cons x r ih => rw [altL, hl x (List.mem_cons_self ..), ih fun y hy => hl y (List.mem_cons_of_mem _ hy)]; rfl
theorem OwnN.lenV {w : World} {base : Nat} {v : Value} {L : List Nd} (h : OwnN w base v L) : ∃ ao cap, v = .slice ao L.length cap ∧ L.length ≤ cap := by
  rcases h.2 with ⟨e, h0⟩ | ⟨g, cap, cur, e, -, -, hle, -⟩
  · exact ⟨none, 0, by rw [e, h0], by omega⟩
  · exact ⟨_, cap, e, hle⟩

set_option maxHeartbeats 2000000 in
theorem l5Lay_1 (t : Tr) (hk : t.k = 1) : LyC t := by
  intro B v o base L w h hB hbase hO hts hok hn
  have halt := alt_ok t hok
  have HC := Hid.mk (l5Size_any t B v)
  have hlay := lay_eq t L.length
  rw [if_pos hk] at hlay
  rw [hlay]
  obtain ⟨ao, cap, rfl, hl1, hl2, -⟩ := h.len
  unfold maxLen at hl2
  have X0 := Hid.mk (Bz3.new w (.int .i64 t.k) (.string t.s) (.slice ao t.l.length cap))
  have A0 : Hid (Below w.heap.size w (w.alloc (.cells #[.int .i64 t.k, .string t.s, .slice ao t.l.length cap] 26))) := (Below.refl _ _).alloc (Nat.le_refl _) _
  have HC1 := Hid.mk (HC.out _ (h.grow A0.out) hts halt (by omega))
  have HO := Hid.mk hO
  obtain ⟨oa, oc, hov, hoc⟩ := hO.lenV
  subst hov
  rw [hk] at X0 A0 HC1 ⊢
  generalize t.s = ts at *
  generalize t.nsz = N at *
  generalize t.l.length = tl at *
  clear hlay hO h HC hk halt hok
  go_enter Tryz.func26, Tryz.ntmps26
  have x0 := X0.out.c0
  have x1 := X0.out.c1
  have x2 := X0.out.c2
  go_wp2_with fail
  refine HC1.out.mono ?_
  rintro e w1 ⟨rfl, hb1⟩
  have HX1 := Hid.mk (X0.out.grow hb1)
  have HB1 := Hid.mk (A0.out.trans (hb1.mono A0.out.size))
  have y0 := HX1.out.c0
  have y1 := HX1.out.c1
  clear x0 x1 x2 X0 HC1 hb1
  have hsz := HB1.out.size
  have HN1 : Hid ((w1.alloc (.cells #[.int .i64 1, .string ts, .int .i64 ((L.length : Int) + 1), .int .i64 0] 43)).heap[w1.heap.size]? = some (.cells #[.int .i64 1, .string ts, .int .i64 ((L.length : Int) + 1), .int .i64 0] 43 (0, 0))) := heap_alloc_new _ _
  have BA : Hid (Below w.heap.size w (w1.alloc (.cells #[.int .i64 1, .string ts, .int .i64 ((L.length : Int) + 1), .int .i64 0] 43))) := HB1.out.alloc hsz _
  have HO1 := Hid.mk (HO.out.grow BA.out)
  go_wp2_with (at_builtin; refine wpList_append_n (w0 := w) rfl _ _ rfl base _ L ⟨1, ts, (L.length : Int) + 1, 0⟩ rfl HO1.out _ rfl HN1.out (BA.out.mono hbase) (by simp; omega) (by omega) ?_)
  intro v3 w3 hown3 hbel3 hq hn3
  have hni := hn3.ahead BA.out
  have HO3 := Hid.mk hown3
  have HN3 := Hid.mk hni
  clear hown3 hbel3 hq hn3 hni HN1 BA HO1 y0 y1 HX1 HB1 A0 HO
  go_wp2
  go_ret
  exact ⟨_, rfl, HO3.out, HN3.out⟩
set_option maxHeartbeats 2000000 in
theorem l5Lay_2 (t : Tr) (hk : t.k = 2) : LyC t := by
  intro B v o base L w h hB hbase hO hts hok hn
  have halt := alt_ok t hok
  have HC := Hid.mk (l5Size_any t B v)
  have hlay := lay_eq t L.length
  rw [if_neg (by omega), if_pos hk] at hlay
  rw [hlay]
  obtain ⟨ao, cap, rfl, hl1, hl2, -⟩ := h.len
  unfold maxLen at hl2
  have X0 := Hid.mk (Bz3.new w (.int .i64 t.k) (.string t.s) (.slice ao t.l.length cap))
  have A0 : Hid (Below w.heap.size w (w.alloc (.cells #[.int .i64 t.k, .string t.s, .slice ao t.l.length cap] 26))) := (Below.refl _ _).alloc (Nat.le_refl _) _
  have HC1 := Hid.mk (HC.out _ (h.grow A0.out) hts halt (by omega))
  have HO := Hid.mk hO
  obtain ⟨oa, oc, hov, hoc⟩ := hO.lenV
  subst hov
  rw [hk] at X0 A0 HC1 ⊢
  generalize t.s = ts at *
  generalize t.nsz = N at *
  generalize t.l.length = tl at *
  clear hlay hO h HC hk halt hok
  go_enter Tryz.func26, Tryz.ntmps26
  have x0 := X0.out.c0
  have x1 := X0.out.c1
  have x2 := X0.out.c2
  go_wp2_with fail
  refine HC1.out.mono ?_
  rintro e w1 ⟨rfl, hb1⟩
  have HX1 := Hid.mk (X0.out.grow hb1)
  have HB1 := Hid.mk (A0.out.trans (hb1.mono A0.out.size))
  have y0 := HX1.out.c0
  have y1 := HX1.out.c1
  clear x0 x1 x2 X0 HC1 hb1
  have hsz := HB1.out.size
  have HN1 : Hid ((w1.alloc (.cells #[.int .i64 2, .string ⟨#[]⟩, .int .i64 ((L.length : Int) + 1), .int .i64 0] 43)).heap[w1.heap.size]? = some (.cells #[.int .i64 2, .string ⟨#[]⟩, .int .i64 ((L.length : Int) + 1), .int .i64 0] 43 (0, 0))) := heap_alloc_new _ _
  have BA : Hid (Below w.heap.size w (w1.alloc (.cells #[.int .i64 2, .string ⟨#[]⟩, .int .i64 ((L.length : Int) + 1), .int .i64 0] 43))) := HB1.out.alloc hsz _
  have HO1 := Hid.mk (HO.out.grow BA.out)
  go_wp2_with (at_builtin; refine wpList_append_n (w0 := w) rfl _ _ rfl base _ L ⟨2, ⟨#[]⟩, (L.length : Int) + 1, 0⟩ rfl HO1.out _ rfl HN1.out (BA.out.mono hbase) (by simp; omega) (by omega) ?_)
  intro v3 w3 hown3 hbel3 hq hn3
  have hni := hn3.ahead BA.out
  have HO3 := Hid.mk hown3
  have HN3 := Hid.mk hni
  clear hown3 hbel3 hq hn3 hni HN1 BA HO1 y0 y1 HX1 HB1 A0 HO
  go_wp2
  go_ret
  exact ⟨_, rfl, HO3.out, HN3.out⟩
set_option maxHeartbeats 2000000 in
theorem l5Lay_3 (t : Tr) (hk : t.k = 3) : LyC t := by
  intro B v o base L w h hB hbase hO hts hok hn
  have halt := alt_ok t hok
  have HC := Hid.mk (l5Size_any t B v)
  have hlay := lay_eq t L.length
  rw [if_neg (by omega), if_neg (by omega), if_pos hk] at hlay
  rw [hlay]
  obtain ⟨ao, cap, rfl, hl1, hl2, -⟩ := h.len
  unfold maxLen at hl2
  have X0 := Hid.mk (Bz3.new w (.int .i64 t.k) (.string t.s) (.slice ao t.l.length cap))
  have A0 : Hid (Below w.heap.size w (w.alloc (.cells #[.int .i64 t.k, .string t.s, .slice ao t.l.length cap] 26))) := (Below.refl _ _).alloc (Nat.le_refl _) _
  have HC1 := Hid.mk (HC.out _ (h.grow A0.out) hts halt (by omega))
  have HO := Hid.mk hO
  obtain ⟨oa, oc, hov, hoc⟩ := hO.lenV
  subst hov
  rw [hk] at X0 A0 HC1 ⊢
  generalize t.s = ts at *
  generalize t.nsz = N at *
  generalize t.l.length = tl at *
  clear hlay hO h HC hk halt hok
  go_enter Tryz.func26, Tryz.ntmps26
  have x0 := X0.out.c0
  have x1 := X0.out.c1
  have x2 := X0.out.c2
  go_wp2_with fail
  refine HC1.out.mono ?_
  rintro e w1 ⟨rfl, hb1⟩
  have HX1 := Hid.mk (X0.out.grow hb1)
  have HB1 := Hid.mk (A0.out.trans (hb1.mono A0.out.size))
  have y0 := HX1.out.c0
  have y1 := HX1.out.c1
  clear x0 x1 x2 X0 HC1 hb1
  have hsz := HB1.out.size
  have HN1 : Hid ((w1.alloc (.cells #[.int .i64 3, .string ts, .int .i64 ((L.length : Int) + 1), .int .i64 0] 43)).heap[w1.heap.size]? = some (.cells #[.int .i64 3, .string ts, .int .i64 ((L.length : Int) + 1), .int .i64 0] 43 (0, 0))) := heap_alloc_new _ _
  have BA : Hid (Below w.heap.size w (w1.alloc (.cells #[.int .i64 3, .string ts, .int .i64 ((L.length : Int) + 1), .int .i64 0] 43))) := HB1.out.alloc hsz _
  have HO1 := Hid.mk (HO.out.grow BA.out)
  go_wp2_with (at_builtin; refine wpList_append_n (w0 := w) rfl _ _ rfl base _ L ⟨3, ts, (L.length : Int) + 1, 0⟩ rfl HO1.out _ rfl HN1.out (BA.out.mono hbase) (by simp; omega) (by omega) ?_)
  intro v3 w3 hown3 hbel3 hq hn3
  have hni := hn3.ahead BA.out
  have HO3 := Hid.mk hown3
  have HN3 := Hid.mk hni
  clear hown3 hbel3 hq hn3 hni HN1 BA HO1 y0 y1 HX1 HB1 A0 HO
  go_wp2
  go_ret
  exact ⟨_, rfl, HO3.out, HN3.out⟩
set_option maxHeartbeats 2000000 in
theorem l5Lay_10 (t : Tr) (hk : t.k = 10) : LyC t := by
  intro B v o base L w h hB hbase hO hts hok hn
  have halt := alt_ok t hok
  have HC := Hid.mk (l5Size_any t B v)
  have hlay := lay_eq t L.length
  rw [if_neg (by omega), if_neg (by omega), if_neg (by omega), if_neg (by omega), if_neg (by omega), if_neg (by omega), if_neg (by omega), if_neg (by omega), if_pos hk] at hlay
  rw [hlay]
  obtain ⟨ao, cap, rfl, hl1, hl2, -⟩ := h.len
  unfold maxLen at hl2
  have X0 := Hid.mk (Bz3.new w (.int .i64 t.k) (.string t.s) (.slice ao t.l.length cap))
  have A0 : Hid (Below w.heap.size w (w.alloc (.cells #[.int .i64 t.k, .string t.s, .slice ao t.l.length cap] 26))) := (Below.refl _ _).alloc (Nat.le_refl _) _
  have HC1 := Hid.mk (HC.out _ (h.grow A0.out) hts halt (by omega))
  have HO := Hid.mk hO
  obtain ⟨oa, oc, hov, hoc⟩ := hO.lenV
  subst hov
  rw [hk] at X0 A0 HC1 ⊢
  generalize t.s = ts at *
  generalize t.nsz = N at *
  generalize t.l.length = tl at *
  clear hlay hO h HC hk halt hok
  go_enter Tryz.func26, Tryz.ntmps26
  have x0 := X0.out.c0
  have x1 := X0.out.c1
  have x2 := X0.out.c2
  go_wp2_with fail
  refine HC1.out.mono ?_
  rintro e w1 ⟨rfl, hb1⟩
  have HX1 := Hid.mk (X0.out.grow hb1)
  have HB1 := Hid.mk (A0.out.trans (hb1.mono A0.out.size))
  have y0 := HX1.out.c0
  have y1 := HX1.out.c1
  clear x0 x1 x2 X0 HC1 hb1
  have hsz := HB1.out.size
  have HN1 : Hid ((w1.alloc (.cells #[.int .i64 5, .string ⟨#[]⟩, .int .i64 ((L.length : Int) + 1), .int .i64 0] 43)).heap[w1.heap.size]? = some (.cells #[.int .i64 5, .string ⟨#[]⟩, .int .i64 ((L.length : Int) + 1), .int .i64 0] 43 (0, 0))) := heap_alloc_new _ _
  have BA : Hid (Below w.heap.size w (w1.alloc (.cells #[.int .i64 5, .string ⟨#[]⟩, .int .i64 ((L.length : Int) + 1), .int .i64 0] 43))) := HB1.out.alloc hsz _
  have HO1 := Hid.mk (HO.out.grow BA.out)
  go_wp2_with (at_builtin; refine wpList_append_n (w0 := w) rfl _ _ rfl base _ L ⟨5, ⟨#[]⟩, (L.length : Int) + 1, 0⟩ rfl HO1.out _ rfl HN1.out (BA.out.mono hbase) (by simp; omega) (by omega) ?_)
  intro v3 w3 hown3 hbel3 hq hn3
  have hni := hn3.ahead BA.out
  have HO3 := Hid.mk hown3
  have HN3 := Hid.mk hni
  clear hown3 hbel3 hq hn3 hni HN1 BA HO1 y0 y1 HX1 HB1 A0 HO
  go_wp2
  go_ret
  exact ⟨_, rfl, HO3.out, HN3.out⟩
set_option maxHeartbeats 2000000 in
theorem l5Lay_11 (t : Tr) (hk : t.k = 11) : LyC t := by
  intro B v o base L w h hB hbase hO hts hok hn
  have halt := alt_ok t hok
  have HC := Hid.mk (l5Size_any t B v)
  have hlay := lay_eq t L.length
  rw [if_neg (by omega), if_neg (by omega), if_neg (by omega), if_neg (by omega), if_neg (by omega), if_neg (by omega), if_neg (by omega), if_neg (by omega), if_neg (by omega), if_pos hk] at hlay
  rw [hlay]
  obtain ⟨ao, cap, rfl, hl1, hl2, -⟩ := h.len
  unfold maxLen at hl2
  have X0 := Hid.mk (Bz3.new w (.int .i64 t.k) (.string t.s) (.slice ao t.l.length cap))
  have A0 : Hid (Below w.heap.size w (w.alloc (.cells #[.int .i64 t.k, .string t.s, .slice ao t.l.length cap] 26))) := (Below.refl _ _).alloc (Nat.le_refl _) _
  have HC1 := Hid.mk (HC.out _ (h.grow A0.out) hts halt (by omega))
  have HO := Hid.mk hO
  obtain ⟨oa, oc, hov, hoc⟩ := hO.lenV
  subst hov
  rw [hk] at X0 A0 HC1 ⊢
  generalize t.s = ts at *
  generalize t.nsz = N at *
  generalize t.l.length = tl at *
  clear hlay hO h HC hk halt hok
  go_enter Tryz.func26, Tryz.ntmps26
  have x0 := X0.out.c0
  have x1 := X0.out.c1
  have x2 := X0.out.c2
  go_wp2_with fail
  refine HC1.out.mono ?_
  rintro e w1 ⟨rfl, hb1⟩
  have HX1 := Hid.mk (X0.out.grow hb1)
  have HB1 := Hid.mk (A0.out.trans (hb1.mono A0.out.size))
  have y0 := HX1.out.c0
  have y1 := HX1.out.c1
  clear x0 x1 x2 X0 HC1 hb1
  have hsz := HB1.out.size
  have HN1 : Hid ((w1.alloc (.cells #[.int .i64 6, .string ⟨#[]⟩, .int .i64 ((L.length : Int) + 1), .int .i64 0] 43)).heap[w1.heap.size]? = some (.cells #[.int .i64 6, .string ⟨#[]⟩, .int .i64 ((L.length : Int) + 1), .int .i64 0] 43 (0, 0))) := heap_alloc_new _ _
  have BA : Hid (Below w.heap.size w (w1.alloc (.cells #[.int .i64 6, .string ⟨#[]⟩, .int .i64 ((L.length : Int) + 1), .int .i64 0] 43))) := HB1.out.alloc hsz _
  have HO1 := Hid.mk (HO.out.grow BA.out)
  go_wp2_with (at_builtin; refine wpList_append_n (w0 := w) rfl _ _ rfl base _ L ⟨6, ⟨#[]⟩, (L.length : Int) + 1, 0⟩ rfl HO1.out _ rfl HN1.out (BA.out.mono hbase) (by simp; omega) (by omega) ?_)
  intro v3 w3 hown3 hbel3 hq hn3
  have hni := hn3.ahead BA.out
  have HO3 := Hid.mk hown3
  have HN3 := Hid.mk hni
  clear hown3 hbel3 hq hn3 hni HN1 BA HO1 y0 y1 HX1 HB1 A0 HO
  go_wp2
  go_ret
  exact ⟨_, rfl, HO3.out, HN3.out⟩
end Go.Proofs.YtapniafhcagogaaGreatDoor

namespace Go.Proofs.YtapniafhcagogaaGreatDoor
open Go.RowKit
set_option maxRecDepth 8000

theorem OwnN.own {w : World} {base : Nat} {o : Value} {L : List Nd} (h : OwnN w base o L) {g : Nat} (hg : o.ownBlock = some g) : base ≤ g ∧ g < w.heap.size := World.ownsRow.lt h g hg
theorem Nign.box {w w' : World} {o o' : Value} (h : Nign w w' o o') {b : Nat} {x y z : Value} (hb : Bz3 w b x y z) (hne : ∀ g, o.ownBlock = some g → g < b) : Bz3 w' b x y z := by
  refine hb.kept (h.1.block b hb.lt fun e => ?_)
  exact Nat.lt_irrefl _ (hne b e.symm)
theorem Nign.tree {w w' : World} {o o' : Value} (h : Nign w w' o o') {base : Nat} {L : List Nd} (ho : OwnN w base o L) {B : Nat → Prop} (hB : ∀ b, B b → b < base) {l : List Tr} {v : Value} (hr : Rl w B l v) : Rl w' B l v := by
  refine hr.kept fun b hb hlt => h.1.block b hlt fun e => ?_
  have h1 := (ho.own e.symm).1
  have h2 := hB b hb
  omega
theorem layL_one (x : Tr) (p : Nat) : layL [x] p = x.lay p := by rw [layL, layL, List.append_nil]

set_option maxHeartbeats 2000000 in
theorem l5Lay_8 (t : Tr) (hk : t.k = 8) (ih : ∀ x ∈ t.l, LyC x) : LyC t := by
  intro B v o base L w h hB hbase hO hts hok hn
  have halt := alt_ok t hok
  have HC := Hid.mk (l5Size_any t B v)
  have hlay := lay_eq t L.length
  rw [if_neg (by omega), if_neg (by omega), if_neg (by omega), if_neg (by omega), if_neg (by omega), if_neg (by omega), if_neg (by omega), if_pos hk] at hlay
  have hnsz := nsz_eq t
  rw [if_neg (by omega), if_neg (by omega), if_neg (by omega)] at hnsz
  rw [← hnsz] at hlay
  obtain ⟨x, hx⟩ := okT_one hok (.inr (.inr hk))
  have hokx := okT_kids hok x (by rw [hx]; exact List.mem_singleton.2 rfl)
  have hihx := ih x (by rw [hx]; exact List.mem_singleton.2 rfl)
  have hnx : x.nsz + 1 ≤ t.nsz := by rw [hnsz, hx, nszL, nszL]; omega
  rw [hx, layL_one] at hlay
  rw [hlay]
  obtain ⟨ao, cap, rfl, hl1, hl2, -⟩ := h.len
  unfold maxLen at hl2
  have X0 := Hid.mk (Bz3.new w (.int .i64 t.k) (.string t.s) (.slice ao t.l.length cap))
  have A0 : Hid (Below w.heap.size w (w.alloc (.cells #[.int .i64 t.k, .string t.s, .slice ao t.l.length cap] 26))) := (Below.refl _ _).alloc (Nat.le_refl _) _
  have HC1 := Hid.mk (HC.out _ (h.grow A0.out) hts halt (by omega))
  have HO := Hid.mk hO
  have HR := Hid.mk h
  obtain ⟨oa, oc, hov, hoc⟩ := hO.lenV
  subst hov
  have HOW : Hid (∀ g, (Value.slice oa L.length oc).ownBlock = some g → g < w.heap.size) := fun g hg => (hO.own hg).2
  rw [hk] at X0 A0 HC1 ⊢
  have hlen1 : t.l.length = 1 := by rw [hx]; rfl
  rw [hlen1] at X0 A0 HC1 HR hl1 ⊢
  rw [hx] at HR
  generalize t.s = ts at *
  generalize t.nsz = N at *
  have HIX := Hid.mk hihx
  have HOX := Hid.mk hokx
  clear hlay hO h HC hk halt hok hx hlen1 hihx hokx ih hnsz
  go_enter Tryz.func26, Tryz.ntmps26
  have x0 := X0.out.c0
  have x1 := X0.out.c1
  have x2 := X0.out.c2
  go_wp2_with fail
  refine HC1.out.mono ?_
  rintro e w1 ⟨rfl, hb1⟩
  have HX1 := Hid.mk (X0.out.grow hb1)
  have HB1 := Hid.mk (A0.out.trans (hb1.mono A0.out.size))
  have y0 := HX1.out.c0
  have y1 := HX1.out.c1
  clear x0 x1 x2 X0 HC1 hb1
  have hsz := HB1.out.size
  have HN1 : Hid ((w1.alloc (.cells #[.int .i64 4, .string ⟨#[]⟩, .int .i64 ((L.length : Int) + 1), .int .i64 ((L.length : Int) + (N : Int))] 43)).heap[w1.heap.size]? = some (.cells #[.int .i64 4, .string ⟨#[]⟩, .int .i64 ((L.length : Int) + 1), .int .i64 ((L.length : Int) + (N : Int))] 43 (0, 0))) := heap_alloc_new _ _
  have BN : Hid (Below w1.heap.size w1 (w1.alloc (.cells #[.int .i64 4, .string ⟨#[]⟩, .int .i64 ((L.length : Int) + 1), .int .i64 ((L.length : Int) + (N : Int))] 43))) := (Below.refl _ _).alloc (Nat.le_refl _) _
  have BA := Hid.mk (HB1.out.trans (BN.out.mono hsz))
  have HO1 := Hid.mk (HO.out.grow BA.out)
  have HXA := Hid.mk (HX1.out.grow BN.out)
  have HRA := Hid.mk (HR.out.grow BA.out)
  go_wp2_with (at_builtin; refine wpList_append_n (w0 := w) rfl _ _ rfl base _ L ⟨4, ⟨#[]⟩, (L.length : Int) + 1, (L.length : Int) + (N : Int)⟩ rfl HO1.out _ rfl HN1.out (BA.out.mono hbase) (by simp; omega) (by omega) ?_)
  intro v3 w3 hown3 hbel3 hq hn3
  have hsz3 : w1.heap.size ≤ w3.heap.size := by first | omega | (have := hq; simp at this; omega)
  have HX3 := Hid.mk (hn3.box HXA.out HOW.out)
  have HR3 := Hid.mk (hn3.tree HO1.out hB HRA.out)
  have hni := hn3.ahead BA.out
  have HO3 := Hid.mk hown3
  have HN3 := Hid.mk hni
  obtain ⟨b, off, V, rfl, hel⟩ := HR3.out.elems (by simp)
  obtain ⟨⟨c0, c1, c2⟩, hsub, hss⟩ := hel 0 (by simp)
  simp only [List.getElem_cons_zero, Nat.zero_mul, Nat.add_zero] at c0 c1 c2 hsub hss
  have HCX := Hid.mk (HIX.out B (V 0) v3 base _ w3 hsub hB (by omega) hown3 hss HOX.out (by simp; omega))
  obtain ⟨oa3, oc3, hov3, hoc3⟩ := hown3.lenV
  subst hov3
  have z2 := HX3.out.c2
  clear hel hsub hss hown3 hbel3 hq hn3 hni HN1 BA HO1 y0 y1 HX1 HB1 A0 HO HR HRA HXA BN HOW HIX HOX
  generalize hM : L ++ [(⟨4, ⟨#[]⟩, (L.length : Int) + 1, (L.length : Int) + (N : Int)⟩ : Nd)] = M at *
  have HM := Hid.mk hM
  clear hM
  go_wp2_with fail
  refine HCX.out.mono ?_
  rintro e w4 ⟨o4, rfl, hown4, hn4⟩
  have HO4 := Hid.mk hown4
  have HN4 := Hid.mk (HN3.out.trans hn4)
  clear hown4 hn4 HCX HN3 HO3 z2 c0 c1 c2 HX3 HR3
  go_wp2
  go_ret
  refine ⟨_, rfl, ?_, HN4.out⟩
  have := HO4.out
  rw [← HM.out, List.append_assoc, List.length_append] at this
  exact this
set_option maxHeartbeats 2000000 in
theorem l5Lay_7 (t : Tr) (hk : t.k = 7) (ih : ∀ x ∈ t.l, LyC x) : LyC t := by
  intro B v o base L w h hB hbase hO hts hok hn
  have halt := alt_ok t hok
  have HC := Hid.mk (l5Size_any t B v)
  have hlay := lay_eq t L.length
  rw [if_neg (by omega), if_neg (by omega), if_neg (by omega), if_neg (by omega), if_neg (by omega), if_neg (by omega), if_pos hk] at hlay
  have hnsz := nsz_eq t
  rw [if_neg (by omega), if_neg (by omega), if_neg (by omega)] at hnsz
  rw [← hnsz] at hlay
  obtain ⟨x, hx⟩ := okT_one hok (.inr (.inl hk))
  have hokx := okT_kids hok x (by rw [hx]; exact List.mem_singleton.2 rfl)
  have hihx := ih x (by rw [hx]; exact List.mem_singleton.2 rfl)
  have hnx : x.nsz + 1 ≤ t.nsz := by rw [hnsz, hx, nszL, nszL]; omega
  rw [hx, layL_one] at hlay
  rw [hlay]
  obtain ⟨ao, cap, rfl, hl1, hl2, -⟩ := h.len
  unfold maxLen at hl2
  have X0 := Hid.mk (Bz3.new w (.int .i64 t.k) (.string t.s) (.slice ao t.l.length cap))
  have A0 : Hid (Below w.heap.size w (w.alloc (.cells #[.int .i64 t.k, .string t.s, .slice ao t.l.length cap] 26))) := (Below.refl _ _).alloc (Nat.le_refl _) _
  have HC1 := Hid.mk (HC.out _ (h.grow A0.out) hts halt (by omega))
  have HO := Hid.mk hO
  have HR := Hid.mk h
  obtain ⟨oa, oc, hov, hoc⟩ := hO.lenV
  subst hov
  have HOW : Hid (∀ g, (Value.slice oa L.length oc).ownBlock = some g → g < w.heap.size) := fun g hg => (hO.own hg).2
  rw [hk] at X0 A0 HC1 ⊢
  have hlen1 : t.l.length = 1 := by rw [hx]; rfl
  rw [hlen1] at X0 A0 HC1 HR hl1 ⊢
  rw [hx] at HR
  generalize t.s = ts at *
  generalize t.nsz = N at *
  have HIX := Hid.mk hihx
  have HOX := Hid.mk hokx
  have HOK := Hid.mk hokx
  clear hlay hO h HC hk halt hok hx hlen1 hihx hokx ih hnsz
  go_enter Tryz.func26, Tryz.ntmps26
  have x0 := X0.out.c0
  have x1 := X0.out.c1
  have x2 := X0.out.c2
  go_wp2_with fail
  refine HC1.out.mono ?_
  rintro e w1 ⟨rfl, hb1⟩
  have HX1 := Hid.mk (X0.out.grow hb1)
  have HB1 := Hid.mk (A0.out.trans (hb1.mono A0.out.size))
  have y0 := HX1.out.c0
  have y1 := HX1.out.c1
  have y2 := HX1.out.c2
  have hsz := HB1.out.size
  clear x0 x1 x2 X0 HC1 hb1
  have HO1 := Hid.mk (HO.out.grow HB1.out)
  have HR1 := Hid.mk (HR.out.grow HB1.out)
  obtain ⟨b, off, V, rfl, hel⟩ := HR1.out.elems (by simp)
  obtain ⟨⟨c0, c1, c2⟩, hsub, hss⟩ := hel 0 (by simp)
  simp only [List.getElem_cons_zero, Nat.zero_mul, Nat.add_zero] at c0 c1 c2 hsub hss
  have HCX := Hid.mk (HIX.out B (V 0) _ base _ w1 hsub hB (by omega) HO1.out hss HOX.out (by omega))
  clear hel hsub hss HIX HOX HR HO A0 HR1
  go_wp2_with fail
  refine HCX.out.mono ?_
  rintro e w4 ⟨o4, rfl, hown4, hn4⟩
  have hsz4 := hn4.1.size
  have HO4 := Hid.mk hown4
  have HN4 := Hid.mk (hn4.ahead HB1.out)
  obtain ⟨oa4, oc4, hov4, hoc4⟩ := hown4.lenV
  subst hov4
  have hlen4 : (L ++ x.lay L.length).length ≤ 1000000 := by rw [List.length_append, lay_len x HOK.out]; omega
  generalize hM : L ++ x.lay L.length = M at *
  have HM := Hid.mk hM
  clear hM hown4 hn4 HCX y0 y1 y2 c0 c1 c2 HX1 HO1
  have HN5 : Hid ((w4.alloc (.cells #[.int .i64 4, .string ⟨#[]⟩, .int .i64 (L.length : Int), .int .i64 ((L.length : Int) + (N : Int))] 43)).heap[w4.heap.size]? = some (.cells #[.int .i64 4, .string ⟨#[]⟩, .int .i64 (L.length : Int), .int .i64 ((L.length : Int) + (N : Int))] 43 (0, 0))) := heap_alloc_new _ _
  have BN : Hid (Below w4.heap.size w4 (w4.alloc (.cells #[.int .i64 4, .string ⟨#[]⟩, .int .i64 (L.length : Int), .int .i64 ((L.length : Int) + (N : Int))] 43))) := (Below.refl _ _).alloc (Nat.le_refl _) _
  have HO5 := Hid.mk (HO4.out.grow BN.out)
  go_wp2_with (at_builtin; refine wpList_append_n (w0 := w4) rfl _ _ rfl base _ M ⟨4, ⟨#[]⟩, (L.length : Int), ((L.length : Int) + (N : Int))⟩ rfl HO5.out _ rfl HN5.out (BN.out.mono (by omega)) (by simp; omega) (by omega) ?_)
  intro v6 w6 hown6 hbel6 hq6 hn6
  have HO6 := Hid.mk hown6
  have HN6 := Hid.mk (HN4.out.trans (hn6.ahead BN.out))
  clear hown6 hbel6 hq6 hn6 HN5 BN HO5 HO4 HN4
  go_wp2
  go_ret
  refine ⟨_, rfl, ?_, HN6.out⟩
  have := HO6.out
  rw [← HM.out, List.append_assoc] at this
  exact this
set_option maxHeartbeats 2000000 in
theorem l5Lay_6 (t : Tr) (hk : t.k = 6) (ih : ∀ x ∈ t.l, LyC x) : LyC t := by
  intro B v o base L w h hB hbase hO hts hok hn
  have halt := alt_ok t hok
  have HC := Hid.mk (l5Size_any t B v)
  have hlay := lay_eq t L.length
  rw [if_neg (by omega), if_neg (by omega), if_neg (by omega), if_neg (by omega), if_neg (by omega), if_pos hk] at hlay
  have hnsz := nsz_eq t
  rw [if_neg (by omega), if_neg (by omega), if_pos hk] at hnsz
  rw [← hnsz] at hlay
  obtain ⟨x, hx⟩ := okT_one hok (.inl hk)
  have hokx := okT_kids hok x (by rw [hx]; exact List.mem_singleton.2 rfl)
  have hihx := ih x (by rw [hx]; exact List.mem_singleton.2 rfl)
  have hnx : x.nsz + 2 ≤ t.nsz := by rw [hnsz, hx, nszL, nszL]; omega
  rw [hx, layL_one] at hlay
  rw [hlay]
  obtain ⟨ao, cap, rfl, hl1, hl2, -⟩ := h.len
  unfold maxLen at hl2
  have X0 := Hid.mk (Bz3.new w (.int .i64 t.k) (.string t.s) (.slice ao t.l.length cap))
  have A0 : Hid (Below w.heap.size w (w.alloc (.cells #[.int .i64 t.k, .string t.s, .slice ao t.l.length cap] 26))) := (Below.refl _ _).alloc (Nat.le_refl _) _
  have HC1 := Hid.mk (HC.out _ (h.grow A0.out) hts halt (by omega))
  have HO := Hid.mk hO
  have HR := Hid.mk h
  obtain ⟨oa, oc, hov, hoc⟩ := hO.lenV
  subst hov
  have HOW : Hid (∀ g, (Value.slice oa L.length oc).ownBlock = some g → g < w.heap.size) := fun g hg => (hO.own hg).2
  rw [hk] at X0 A0 HC1 ⊢
  have hlen1 : t.l.length = 1 := by rw [hx]; rfl
  rw [hlen1] at X0 A0 HC1 HR hl1 ⊢
  rw [hx] at HR
  generalize t.s = ts at *
  generalize t.nsz = N at *
  have HIX := Hid.mk hihx
  have HOX := Hid.mk hokx
  have HOK := Hid.mk hokx
  clear hlay hO h HC hk halt hok hx hlen1 hihx hokx ih hnsz
  go_enter Tryz.func26, Tryz.ntmps26
  have x0 := X0.out.c0
  have x1 := X0.out.c1
  have x2 := X0.out.c2
  go_wp2_with fail
  refine HC1.out.mono ?_
  rintro e w1 ⟨rfl, hb1⟩
  have HX1 := Hid.mk (X0.out.grow hb1)
  have HB1 := Hid.mk (A0.out.trans (hb1.mono A0.out.size))
  have y0 := HX1.out.c0
  have y1 := HX1.out.c1
  clear x0 x1 x2 X0 HC1 hb1
  have hsz := HB1.out.size
  have HN1 : Hid ((w1.alloc (.cells #[.int .i64 4, .string ⟨#[]⟩, .int .i64 ((L.length : Int) + 1), .int .i64 ((L.length : Int) + (N : Int))] 43)).heap[w1.heap.size]? = some (.cells #[.int .i64 4, .string ⟨#[]⟩, .int .i64 ((L.length : Int) + 1), .int .i64 ((L.length : Int) + (N : Int))] 43 (0, 0))) := heap_alloc_new _ _
  have BN : Hid (Below w1.heap.size w1 (w1.alloc (.cells #[.int .i64 4, .string ⟨#[]⟩, .int .i64 ((L.length : Int) + 1), .int .i64 ((L.length : Int) + (N : Int))] 43))) := (Below.refl _ _).alloc (Nat.le_refl _) _
  have BA := Hid.mk (HB1.out.trans (BN.out.mono hsz))
  have HO1 := Hid.mk (HO.out.grow BA.out)
  have HXA := Hid.mk (HX1.out.grow BN.out)
  have HRA := Hid.mk (HR.out.grow BA.out)
  go_wp2_with (at_builtin; refine wpList_append_n (w0 := w) rfl _ _ rfl base _ L ⟨4, ⟨#[]⟩, (L.length : Int) + 1, (L.length : Int) + (N : Int)⟩ rfl HO1.out _ rfl HN1.out (BA.out.mono hbase) (by simp; omega) (by omega) ?_)
  intro v3 w3 hown3 hbel3 hq hn3
  have hsz3 : w1.heap.size ≤ w3.heap.size := by first | omega | (have := hq; simp at this; omega)
  have HX3 := Hid.mk (hn3.box HXA.out HOW.out)
  have HR3 := Hid.mk (hn3.tree HO1.out hB HRA.out)
  have hni := hn3.ahead BA.out
  have HO3 := Hid.mk hown3
  have HN3 := Hid.mk hni
  obtain ⟨b, off, V, rfl, hel⟩ := HR3.out.elems (by simp)
  obtain ⟨⟨c0, c1, c2⟩, hsub, hss⟩ := hel 0 (by simp)
  simp only [List.getElem_cons_zero, Nat.zero_mul, Nat.add_zero] at c0 c1 c2 hsub hss
  have HCX := Hid.mk (HIX.out B (V 0) v3 base _ w3 hsub hB (by omega) hown3 hss HOX.out (by simp; omega))
  obtain ⟨oa3, oc3, hov3, hoc3⟩ := hown3.lenV
  subst hov3
  have z2 := HX3.out.c2
  clear hel hsub hss hown3 hbel3 hq hn3 hni HN1 BA HO1 y0 y1 HX1 HB1 A0 HO HR HRA HXA BN HOW HIX HOX
  generalize hM : L ++ [(⟨4, ⟨#[]⟩, (L.length : Int) + 1, (L.length : Int) + (N : Int)⟩ : Nd)] = M at *
  have HM := Hid.mk hM
  clear hM
  go_wp2_with fail
  refine HCX.out.mono ?_
  rintro e w4 ⟨o4, rfl, hown4, hn4⟩
  have hsz4 := hn4.1.size
  have HO4 := Hid.mk hown4
  have HN4 := Hid.mk (HN3.out.trans hn4)
  obtain ⟨oa4, oc4, hov4, hoc4⟩ := hown4.lenV
  subst hov4
  have hlen4 : (M ++ x.lay M.length).length ≤ 1000000 := by rw [List.length_append, lay_len x HOK.out, ← HM.out, List.length_append]; simp; omega
  generalize hP : M ++ x.lay M.length = P at *
  have HP := Hid.mk hP
  clear hP hown4 hn4 HCX HN3 HO3 z2 c0 c1 c2 HX3 HR3
  have HN5 : Hid ((w4.alloc (.cells #[.int .i64 4, .string ⟨#[]⟩, .int .i64 (L.length : Int), .int .i64 (L.length : Int)] 43)).heap[w4.heap.size]? = some (.cells #[.int .i64 4, .string ⟨#[]⟩, .int .i64 (L.length : Int), .int .i64 (L.length : Int)] 43 (0, 0))) := heap_alloc_new _ _
  have BN : Hid (Below w4.heap.size w4 (w4.alloc (.cells #[.int .i64 4, .string ⟨#[]⟩, .int .i64 (L.length : Int), .int .i64 (L.length : Int)] 43))) := (Below.refl _ _).alloc (Nat.le_refl _) _
  have HO5 := Hid.mk (HO4.out.grow BN.out)
  go_wp2_with (at_builtin; refine wpList_append_n (w0 := w4) rfl _ _ rfl base _ P ⟨4, ⟨#[]⟩, (L.length : Int), (L.length : Int)⟩ rfl HO5.out _ rfl HN5.out (BN.out.mono (by omega)) (by simp; omega) (by omega) ?_)
  intro v6 w6 hown6 hbel6 hq6 hn6
  have HO6 := Hid.mk hown6
  have HN6 := Hid.mk (HN4.out.trans (hn6.ahead BN.out))
  clear hown6 hbel6 hq6 hn6 HN5 BN HO5 HO4 HN4
  go_wp2
  go_ret
  refine ⟨_, rfl, ?_, HN6.out⟩
  have := HO6.out
  rw [← HP.out, ← HM.out, List.append_assoc, List.append_assoc, List.length_append] at this
  exact this
end Go.Proofs.YtapniafhcagogaaGreatDoor

namespace Go.Proofs.YtapniafhcagogaaGreatDoor
open Go.RowKit
set_option maxRecDepth 8000

theorem layL_take : ∀ (l : List Tr) (k : Nat) (h : k < l.length) (p : Nat), layL (l.take (k + 1)) p = layL (l.take k) p ++ l[k].lay (p + nszL (l.take k))
  | t :: r, 0, _, p => by simp [layL, nszL]
  | t :: r, k + 1, h, p => by
    have := layL_take r k (by simpa using h) (p + t.nsz)
    simp only [List.take_succ_cons, layL, nszL, List.getElem_cons_succ, List.append_assoc] at this ⊢
    rw [this, Nat.add_assoc]

set_option maxHeartbeats 2000000 in
theorem l5Lay_9 (t : Tr) (hk : t.k = 9) : LyC t := by
  intro B v o base L w h hB hbase hO hts hok hn
  have halt := alt_ok t hok
  have HC := Hid.mk (l5Size_any t B v)
  have hlay := lay_eq t L.length
  rw [if_neg (by omega), if_neg (by omega), if_neg (by omega), if_neg (by omega), if_neg (by omega), if_neg (by omega), if_neg (by omega), if_neg (by omega), if_neg (by omega), if_neg (by omega)] at hlay
  rw [hlay]
  obtain ⟨ao, cap, rfl, hl1, hl2, -⟩ := h.len
  unfold maxLen at hl2
  have X0 := Hid.mk (Bz3.new w (.int .i64 t.k) (.string t.s) (.slice ao t.l.length cap))
  have A0 : Hid (Below w.heap.size w (w.alloc (.cells #[.int .i64 t.k, .string t.s, .slice ao t.l.length cap] 26))) := (Below.refl _ _).alloc (Nat.le_refl _) _
  have HC1 := Hid.mk (HC.out _ (h.grow A0.out) hts halt (by omega))
  have HO := Hid.mk hO
  have HR := Hid.mk h
  obtain ⟨oa, oc, hov, hoc⟩ := hO.lenV
  subst hov
  have HOW : Hid (∀ g, (Value.slice oa L.length oc).ownBlock = some g → g < w.heap.size) := fun g hg => (hO.own hg).2
  rw [hk] at X0 A0 HC1 ⊢
  generalize t.s = ts at *
  generalize t.nsz = N at *
  generalize t.l = tl at *
  clear hlay hO h HC hk halt hok
  go_enter Tryz.func26, Tryz.ntmps26
  have x0 := X0.out.c0
  have x1 := X0.out.c1
  have x2 := X0.out.c2
  go_wp2_with fail
  refine HC1.out.mono ?_
  rintro e w1 ⟨rfl, hb1⟩
  have HX1 := Hid.mk (X0.out.grow hb1)
  have HB1 := Hid.mk (A0.out.trans (hb1.mono A0.out.size))
  have y0 := HX1.out.c0
  have y2 := HX1.out.c2
  have hsz := HB1.out.size
  clear x0 x1 x2 X0 HC1 hb1 A0
  have HO1 := Hid.mk (HO.out.grow HB1.out)
  have HR1 := Hid.mk (HR.out.grow HB1.out)
  clear HO HR
  have HN1 : Hid (Nign w w1 (.slice oa L.length oc) (.slice oa L.length oc)) := (Nign.refl w1 _).ahead HB1.out
  clear HR1 HOW
  go_wp2
  go_ret
  refine ⟨_, rfl, ?_, HN1.out⟩
  rw [List.append_nil]
  exact HO1.out
set_option maxHeartbeats 2000000 in
theorem l5Lay_4 (t : Tr) (hk : t.k = 4) (ih : ∀ x ∈ t.l, LyC x) : LyC t := by
  intro B v o base L w h hB hbase hO hts hok hn
  have halt := alt_ok t hok
  have HC := Hid.mk (l5Size_any t B v)
  have hlay := lay_eq t L.length
  rw [if_neg (by omega), if_neg (by omega), if_neg (by omega), if_pos hk] at hlay
  have hnsz := nsz_eq t
  rw [if_pos (.inr hk)] at hnsz
  have hkids := okT_kids hok
  rw [hlay]
  obtain ⟨ao, cap, rfl, hl1, hl2, -⟩ := h.len
  unfold maxLen at hl2
  have X0 := Hid.mk (Bz3.new w (.int .i64 t.k) (.string t.s) (.slice ao t.l.length cap))
  have A0 : Hid (Below w.heap.size w (w.alloc (.cells #[.int .i64 t.k, .string t.s, .slice ao t.l.length cap] 26))) := (Below.refl _ _).alloc (Nat.le_refl _) _
  have HC1 := Hid.mk (HC.out _ (h.grow A0.out) hts halt (by omega))
  have HO := Hid.mk hO
  have HR := Hid.mk h
  obtain ⟨oa, oc, hov, hoc⟩ := hO.lenV
  subst hov
  have HOW : Hid (∀ g, (Value.slice oa L.length oc).ownBlock = some g → g < w.heap.size) := fun g hg => (hO.own hg).2
  rw [hk] at X0 A0 HC1 ⊢
  have HIH := Hid.mk ih
  have HKI := Hid.mk hkids
  obtain ⟨l, hl⟩ : ∃ l, t.l = l := ⟨_, rfl⟩
  rw [hl] at X0 HIH HKI HR hnsz hl1 A0 HC1 ⊢
  generalize t.s = ts at *
  generalize t.nsz = N at *
  have HLE := Hid.mk (nszL_le l)
  have HTK := Hid.mk (nszL_take l)
  have HLT := Hid.mk (layL_take l)
  have HLL : Hid (∀ k p, (layL (l.take k) p).length = nszL (l.take k)) := fun k p => layL_len _ (fun x hx => lay_len x (HKI.out x (List.mem_of_mem_take hx))) p
  have HALL : Hid (layL (l.take l.length) L.length = layL l L.length) := by show _ = _; rw [List.take_length]
  have H0 : Hid (L ++ layL (l.take 0) L.length = L) := by show _ = _; rw [List.take_zero, layL, List.append_nil]
  clear hlay hO h HC hk halt hok ih hkids hl
  go_enter Tryz.func26, Tryz.ntmps26
  have x0 := X0.out.c0
  have x1 := X0.out.c1
  have x2 := X0.out.c2
  go_wp2_with fail
  refine HC1.out.mono ?_
  rintro e w1 ⟨rfl, hb1⟩
  have HX1 := Hid.mk (X0.out.grow hb1)
  have HB1 := Hid.mk (A0.out.trans (hb1.mono A0.out.size))
  have y0 := HX1.out.c0
  have y2 := HX1.out.c2
  have hsz := HB1.out.size
  clear x0 x1 x2 X0 HC1 hb1 A0
  have HO1 := Hid.mk (HO.out.grow HB1.out)
  have HR1 := Hid.mk (HR.out.grow HB1.out)
  clear HO HR
  go_wp2
  go_loopw [0, 7] (fun q i wr => ∃ (k : Nat) (qa : Option Addr) (qc : Nat) (M : List Nd), k ≤ l.length ∧ i = .int .i64 k ∧ q = .slice qa M.length qc ∧ M.length ≤ qc ∧ Hid (M = L ++ layL (l.take k) L.length) ∧ Hid (OwnN wr base q M) ∧ Hid (Nign w1 wr (.slice oa L.length oc) q)) (fun _ i _ => l.length - (intOf i).toNat)
  case atStart => exact ⟨0, oa, oc, L, Nat.zero_le _, rfl, rfl, hoc, H0.out.symm, HO1.out, Nign.refl _ _⟩
  case round =>
    obtain ⟨k, qa, qc, M, hkl0, rfl, rfl, hMc, HM, HOM, HNM⟩ := hrel
    have HXR := Hid.mk (HNM.out.box HX1.out HOW.out)
    have HRR := Hid.mk (HNM.out.tree HO1.out hB HR1.out)
    have hszr := HNM.out.1.size
    have z2 := HXR.out.c2
    clear y0 y2 H0
    by_cases hkl : k < l.length
    · obtain ⟨b, off, V, rfl, hel⟩ := HRR.out.elems (by intro hn; rw [hn] at hkl; simp at hkl)
      obtain ⟨⟨c0, c1, c2⟩, hsub, hss⟩ := hel k hkl
      have hle := HLE.out (k + 1)
      have htk := HTK.out k hkl
      have hml : M.length = L.length + nszL (l.take k) := by rw [HM.out, List.length_append, HLL.out]
      have HCX := Hid.mk (HIH.out l[k] (List.getElem_mem hkl) B (V k) _ base M wr hsub hB (by omega) HOM.out hss (HKI.out _ (List.getElem_mem hkl)) (by omega))
      have HNX : Hid (M ++ l[k].lay M.length = L ++ layL (l.take (k + 1)) L.length) := by
        show _ = _
        rw [HLT.out k hkl L.length, ← List.append_assoc, ← HM.out, hml]
      generalize l[k] = x at c0 c1 c2 HCX HNX
      have hi1 : (k : Int) < (l.length : Int) := by omega
      clear hel hsub hss hle htk hml HRR HXR HIH HKI HLE HTK HLT HLL HM HOM
      go_wp2_with fail
      refine HCX.out.mono ?_
      rintro e w4 ⟨o4, rfl, hown4, hn4⟩
      have HO4 := Hid.mk hown4
      have HN4 := Hid.mk (HNM.out.trans hn4)
      obtain ⟨oa4, oc4, hov4, hoc4⟩ := hown4.lenV
      subst hov4
      generalize hP : M ++ x.lay M.length = P at *
      clear hP hown4 hn4 HCX HNM c0 c1 c2 z2
      go_wp2
      go_roundw
      case rel => exact ⟨k + 1, oa4, oc4, P, by omega, by go_num, rfl, hoc4, HNX, HO4, HN4⟩
      case measure => simp [intOf]; omega
    · have e : k = l.length := by omega
      subst e
      have HN9 := Hid.mk (HNM.out.ahead HB1.out)
      have HM9 : Hid (OwnN wr base (.slice qa M.length qc) (L ++ layL l L.length)) := by
        show OwnN _ _ _ _
        have := HOM.out
        rw [← HALL.out, ← HM.out]
        exact this
      clear HRR HXR HIH HKI HLE HTK HLT HLL HM HOM HALL HNM
      go_wp2
      go_ret
      exact ⟨_, rfl, HM9.out, HN9.out⟩
end Go.Proofs.YtapniafhcagogaaGreatDoor
