/- The law FnExactNfaOf walked: at every regular expression the program's NfaOf answers what the document's model of it answers; the answer owns its memory. -/
import Derived.Test.YtapniafhcagogaaArrI
import Derived.Test.YtapniafhcagogaaHeldOwn
import Derived.Test.YtapniafhcagogaaNodeCopy
import Derived.Test.YtapniafhcagogaaMarkRex
import Derived.Test.YtapniafhcagogaaRexEq
namespace Go.Proofs.Ytapniafhcagogaa
open Go.RowKit
set_option maxRecDepth 8000

set_option maxHeartbeats 1000000 in
theorem markOwn_any (base j : Nat) (v : Value) (L : List Nd) (w : World) (h : OwnN w base v L) (hn : L.length ≤ 1048576) (hj : j ≤ 1048576) :
    Calls Try.prog 26 #[.agg #[v], .int .i64 (j : Int)] w fun e w' => e = .returned (.int .i64 ((j + 4 * L.length : Nat) : Int)) ∧ OwnN w' base v (marksN j L.length) ∧ w.grownBy w' v.ownBlock := by
  have A0 : Below w.heap.size w (w.alloc (.cells #[v] 44)) := (Below.refl _ _).alloc (Nat.le_refl _) _
  have HC := Hid.mk (markOwnS_any base j v L _ (h.grow A0) hn hj)
  obtain ⟨ao, cap, rfl, -⟩ := h.lenV
  have HA := Hid.mk A0
  clear h A0
  go_enter Try.func26, Try.ntmps26
  go_wp2_with fail
  refine HC.out.mono ?_
  rintro e w1 ⟨rfl, ho, hg⟩
  have HO := Hid.mk ho
  have HG : Hid (w.grownBy w1 (Value.slice ao L.length cap).ownBlock) := ⟨hg.os.trans HA.out.os, hg.tape.trans HA.out.tape, hg.output.trans HA.out.output, Nat.le_trans HA.out.size hg.size, fun b hb hne => (hg.block b (Nat.lt_of_lt_of_le hb HA.out.size) hne).trans (HA.out.block b hb)⟩
  clear ho hg HC HA
  go_wp2
  go_ret
  exact ⟨rfl, HO.out, HG.out⟩

set_option maxHeartbeats 1000000 in
theorem heldNfa_marks (j n : Nat) (B : Nat → Prop) (v : Value) (w : World) (h : Nl w B (marksN j n) v) (hn : n ≤ 1048576) (hj : j ≤ 1048576) :
    Calls Try.prog 27 #[.agg #[v], .int .i64 (j : Int)] w fun e w' => e = .returned (.int .i64 ((j + 4 * n : Nat) : Int)) ∧ Below w.heap.size w w' := by
  have A0 : Below w.heap.size w (w.alloc (.cells #[v] 44)) := (Below.refl _ _).alloc (Nat.le_refl _) _
  have HC := Hid.mk (heldNodeS_marks j n B v _ (h.grow A0) hn hj)
  obtain ⟨ao, cap, rfl, -⟩ := h
  have HA := Hid.mk A0
  have hlt : ¬ (((j + 4 * n : Nat) : Int) < 0) := by omega
  obtain ⟨q, hq⟩ : ∃ q : Int, ((j + 4 * n : Nat) : Int) = q := ⟨_, rfl⟩
  rw [hq] at HC hlt ⊢
  rw [marksN_len] at *
  clear A0 hq
  go_enter Try.func27, Try.ntmps27
  go_wp2_with fail
  refine HC.out.mono ?_
  rintro e w1 ⟨rfl, hb⟩
  have HB := Hid.mk (HA.out.trans (hb.mono HA.out.size))
  clear hb HC HA
  go_wp2
  go_ret
  exact ⟨rfl, HB.out⟩

/-- A box with an expression of the law's own type. -/
def Bl3 (w : World) (b : Nat) (x y z : Value) : Prop := w.heap[b]? = some (.cells #[x, y, z] 35 (0, 0))
theorem Bl3.c0 {w : World} {b : Nat} {x y z : Value} (h : Bl3 w b x y z) : w.cell? ⟨b, 0, none⟩ = some x := by rw [cell_of_row w b 0 _ _ (0, 0) h]; rfl
theorem Bl3.c1 {w : World} {b : Nat} {x y z : Value} (h : Bl3 w b x y z) : w.cell? ⟨b, 1, none⟩ = some y := by rw [cell_of_row w b 1 _ _ (0, 0) h]; rfl
theorem Bl3.c2 {w : World} {b : Nat} {x y z : Value} (h : Bl3 w b x y z) : w.cell? ⟨b, 2, none⟩ = some z := by rw [cell_of_row w b 2 _ _ (0, 0) h]; rfl
theorem Bl3.lt {w : World} {b : Nat} {x y z : Value} (h : Bl3 w b x y z) : b < w.heap.size := by unfold Bl3 at h; exact (Array.getElem?_eq_some_iff.1 h).1
theorem Bl3.new (w : World) (x y z : Value) : Bl3 (w.alloc (.cells #[x, y, z] 35)) w.heap.size x y z := heap_alloc_new w _
theorem Bl3.kept {w w' : World} {b : Nat} {x y z : Value} (h : Bl3 w b x y z) (hh : w'.heap[b]? = w.heap[b]?) : Bl3 w' b x y z := by unfold Bl3; rw [hh]; exact h
theorem Bl3.grow {w w' : World} {b : Nat} {x y z : Value} (h : Bl3 w b x y z) (hk : Below w.heap.size w w') : Bl3 w' b x y z := h.kept (hk.block b h.lt)

theorem cntL_szs (l : List Tr) : cntL l ≤ szs l := by
  have key : ∀ l : List Tr, (∀ x ∈ l, cntL x.l ≤ szs x.l) → cntL l ≤ szs l := by
    intro l
    induction l with
    | nil => intro _; simp [cntL, szs]
    | cons x r ih =>
      intro h
      have h1 := h x (List.mem_cons_self ..)
      have h2 := ih (fun y hy => h y (List.mem_cons_of_mem _ hy))
      have h3 := x.sz_eq
      rw [cntL, szs, cnt_eq]
      omega
  exact Tr.ind (P := fun t => cntL t.l ≤ szs t.l) (fun t ih => key t.l ih) (.node 0 ⟨#[]⟩ l)

theorem mkS_small (n : Nat) (h : n ≤ 1073741824) : (mkS n).size ≤ maxLen := by
  unfold mkS
  split
  · decide
  · rw [ByteArray.size_append]
    have := mDig_size n ⟨#[]⟩
    have e : (⟨#[]⟩ : ByteArray).size = 0 := rfl
    have e1 : (⟨#[109]⟩ : ByteArray).size = 1 := rfl
    unfold maxLen
    omega
theorem marksN_small (j n : Nat) (hj : j + 4 * n ≤ 1048576) : ∀ x ∈ marksN j n, x.s.size ≤ maxLen := by
  intro x hx
  unfold marksN at hx
  obtain ⟨i, hi, rfl⟩ := List.mem_map.1 hx
  have := List.mem_range.1 hi
  exact mkS_small (j + 4 * i + 1) (by omega)

theorem OwnN.keptOwn {w w' : World} {base : Nat} {v : Value} {L : List Nd} (h : OwnN w base v L) (hk : ∀ g, base ≤ g → g < w.heap.size → w'.heap[g]? = w.heap[g]?) : OwnN w' base v L := by
  rcases h.2 with ⟨rfl, h0⟩ | ⟨g, cap, cur, rfl, hb, hg, rest⟩
  · exact ⟨h.1, .inl ⟨rfl, h0⟩⟩
  · exact ⟨h.1, .inr ⟨g, cap, cur, rfl, hb, (hk g hb (Array.getElem?_eq_some_iff.1 hg).1).trans hg, rest⟩⟩

set_option maxHeartbeats 4000000 in
theorem fnExactNfaOf_walk (t : Tr) (v : Value) (w : World) (h : Rl w anyBlock t.l v) (hs : t.s.size ≤ maxLen) :
    Calls Try.prog 8 #[rx t.k t.s v] w fun e w' => e = .returned (.bool true) ∧ Below w.heap.size w w' := by
  have HS := Hid.mk (fun (w' : World) (hb : Below w.heap.size w w') => szRex_any t anyBlock v w' 1048576 (h.grow hb) hs (by omega) (by omega))
  have HTO := Hid.mk (fun hz (w' : World) (hb : Below w.heap.size w w') => toRexF_any t anyBlock v w' (h.grow hb) hz)
  have HSO := Hid.mk (fun (w' : World) (B : Nat → Prop) (u : Value) (h : Rl w' B t.l u) => specNfaOf_any t B u w' h hs)
  have HIO := Hid.mk (fun (w' : World) (B : Nat → Prop) (u : Value) (h : Rl w' B t.l u) => implNfaOf_any t B u w' h hs)
  have HEQ := Hid.mk (fun (w' : World) (B C : Nat → Prop) (u u' : Value) (h : Rl w' B t.l u) (h' : Rl w' C t.l u') => eqRex_any t B C u u' w' h h')
  have HEN := Hid.mk (fun (w' : World) (B C : Nat → Prop) (u u' : Value) (h : Nl w' B (nfN t) u) (h' : Nl w' C (nfN t) u') => eqNfa_same (nfN t) B C u u' w' h h')
  have HMK : Hid (szs t.l ≤ 1048576 → ∀ (w' : World) (k : Int) (s : ByteArray) (B : Nat → Prop) (u : Value), Sh w' B t.l u → Calls Try.prog 21 #[rx k s u, .int .i64 1] w' fun e w'' => e = .returned (.int .i64 ((1 + 2 * cntL t.l : Nat) : Int)) ∧ ∃ w0, Below w'.heap.size w' w0 ∧ MkPost t.l 1 u w0 w'') := fun hz w' k s B u h => markRex_any t k s 1 B u w' h (by have := cntL_szs t.l; omega)
  have HZ : Hid (¬ leftOf 1048576 t.sz < 0 → szs t.l ≤ 1048576) := by
    intro h
    have := t.sz_eq
    unfold leftOf at h
    split at h <;> omega
  have HSM := Hid.mk (nfN_small t)
  have hEL := nfN_len t
  obtain ⟨m, hm⟩ : ∃ m, leftOf 1048576 t.sz = m := ⟨_, rfl⟩
  generalize nfN t = E at *
  obtain ⟨k, hk⟩ : ∃ k, t.k = k := ⟨_, rfl⟩
  obtain ⟨s, hsn⟩ : ∃ s, t.s = s := ⟨_, rfl⟩
  obtain ⟨l, hln⟩ : ∃ l, t.l = l := ⟨_, rfl⟩
  rw [hk, hsn, hm] at HS
  rw [hk, hsn, hln] at HTO
  rw [hk, hsn, hln] at HSO HIO
  rw [hk, hsn, hln] at HEQ
  rw [hln] at HMK
  rw [hm, hln] at HZ
  rw [hln] at h
  rw [hk, hsn]
  clear hm hk hsn hln hs
  obtain ⟨ao, cap, rfl, hl1, hl2, hl3⟩ := h.len
  have B0 : Below w.heap.size w (w.alloc (.cells #[.int .i64 k, .string s, .slice ao l.length cap] 35)) := (Below.refl _ _).alloc (Nat.le_refl _) _
  clear h hl1 hl2 hl3
  by_cases hm : m < 0
  · clear HTO HSO HIO HEQ HZ HMK HEN
    go_enter Try.func8, Try.ntmps8
    go_wp2_with fail
    refine (HS.out _ B0).mono ?_
    rintro e w1 ⟨rfl, hb1⟩
    have B1 := B0.trans (hb1.mono (by simp))
    clear B0 hb1 HS
    go_wp2
    go_ret
    exact ⟨rfl, B1⟩
  have HT' := Hid.mk (HTO.out (HZ.out hm))
  have HMK' := Hid.mk (HMK.out (HZ.out hm))
  clear HTO HZ HMK
  have L0 := Bl3.new w (.int .i64 k) (.string s) (.slice ao l.length cap)
  go_enter Try.func8, Try.ntmps8
  go_wp2_with fail
  refine (HS.out _ B0).mono ?_
  rintro e w1 ⟨rfl, hb1⟩
  have L1 := Hid.mk (L0.grow hb1)
  have B1 := Hid.mk (B0.trans (hb1.mono (by simp)))
  clear hb1 HS B0 L0
  have x0 := L1.out.c0
  have x1 := L1.out.c1
  have x2 := L1.out.c2
  go_wp2_with fail
  refine (HT'.out _ B1.out).mono ?_
  rintro e w2 ⟨u2, rfl, hr2, hb2⟩
  have L2 := Hid.mk (L1.out.grow hb2)
  have B2 := Hid.mk (B1.out.trans (hb2.mono B1.out.size))
  obtain ⟨a2, c2, rfl, -⟩ := hr2.len
  have HR2 := Hid.mk hr2
  clear hb2 hr2 L1 B1 x0 x1 x2
  go_wp2_with fail
  refine (HSO.out _ _ _ HR2.out).mono ?_
  rintro e w3 ⟨v3, rfl, ho3, hb3⟩
  have L3 := Hid.mk (L2.out.grow hb3)
  have B3 := Hid.mk (B2.out.trans (hb3.mono B2.out.size))
  have I3 := ho3.nl HSM.out
  have O3lt : ∀ g, (v3 : Value).ownBlock = some g → g < w3.heap.size := fun g hg => (ho3.own hg).2
  obtain ⟨a3, c3, hv3, -⟩ := ho3.lenV
  subst hv3
  have A3 : Below w3.heap.size w3 (w3.alloc (.cells #[.slice a3 E.length c3] 44)) := (Below.refl _ _).alloc (Nat.le_refl _) _
  have W3 := Hid.mk (Bx1.new w3 44 (.slice a3 E.length c3))
  have L3' := Hid.mk (L3.out.grow A3)
  have B3' := Hid.mk (B3.out.trans (A3.mono B3.out.size))
  have I3' := Hid.mk ((I3.imp (C := fun b => b < w3.heap.size) fun b _ hlt => hlt).grow A3)
  have S3 : (w3.alloc (.cells #[.slice a3 E.length c3] 44)).heap.size = w3.heap.size + 1 := by simp
  have hwN3 : w.heap.size ≤ w3.heap.size := B3.out.size
  have hL3 : w.heap.size < w3.heap.size := L3.out.lt
  clear hb3 ho3 L2 B2 HR2 HSO L3 B3 I3 A3 O3lt
  have x0 := L3'.out.c0
  have x1 := L3'.out.c1
  have x2 := L3'.out.c2
  go_wp2_with fail
  generalize w3.alloc (.cells #[.slice a3 E.length c3] 44) = W3w at W3 L3' B3' I3' S3 x0 x1 x2 ⊢
  refine (HT'.out _ B3'.out).mono ?_
  rintro e w4 ⟨u4, rfl, hr4, hb4⟩
  have L4 := L3'.out.grow hb4
  have B4 := B3'.out.trans (hb4.mono B3'.out.size)
  have I4 := I3'.out.kept (w' := w4) (fun b hb hlt => hb4.block b hlt)
  have W4 := W3.out.grow hb4
  have s34 := hb4.size
  rw [S3] at hr4 s34
  have R4 := hr4.imp (C := fun b => w3.heap.size + 1 + 1 ≤ b ∧ b < w4.heap.size) (fun b hb hlt => ⟨hb.1, hlt⟩)
  have SH4 := (hr4.imp (C := fun b => (w3.heap.size + 1 + 1 ≤ b ∧ b < w4.heap.size) ∧ ∀ o, w4.frozen? ⟨b, o, none⟩ = false) (fun b hb hlt => ⟨⟨hb.1, hlt⟩, hb.2⟩)).sh (fun b hb => hb.2)
  obtain ⟨a4, c4, rfl, -⟩ := hr4.len
  have A5 : Below w4.heap.size w4 (w4.alloc (.cells #[.int .i64 k, .string s, .slice a4 l.length c4] 26)) := (Below.refl _ _).alloc (Nat.le_refl _) _
  have X5 := Hid.mk (Bz3.new w4 (.int .i64 k) (.string s) (.slice a4 l.length c4))
  have L5 := Hid.mk (L4.grow A5)
  have B5 := Hid.mk (B4.trans (A5.mono B4.size))
  have W5 := Hid.mk (W4.grow A5)
  have I5 := Hid.mk (I4.grow A5)
  have R5 := Hid.mk (R4.grow A5)
  have SH5 := Hid.mk (SH4.ty (Ty.below A5))
  have S5 : (w4.alloc (.cells #[.int .i64 k, .string s, .slice a4 l.length c4] 26)).heap.size = w4.heap.size + 1 := by simp
  clear hb4 hr4 L3' B3' I3' W3 L4 B4 I4 W4 R4 SH4 A5 x0 x1 x2 S3
  go_wp2_with fail
  generalize w4.alloc (.cells #[.int .i64 k, .string s, .slice a4 l.length c4] 26) = W5w at X5 L5 B5 I5 R5 SH5 S5 W5 ⊢
  generalize hN3 : w3.heap.size = N3 at *
  generalize hN4 : w4.heap.size = N4 at *
  clear hN3 hN4
  have y0 := X5.out.c0
  have y1 := X5.out.c1
  have y2 := X5.out.c2
  refine (HIO.out W5w _ _ R5.out).mono ?_
  rintro e w6 ⟨v6, rfl, ho6, hb6⟩
  rw [S5] at ho6
  have hs6 : N4 + 1 ≤ w6.heap.size := by have := hb6.size; omega
  obtain ⟨a6, c6, hv6, -⟩ := ho6.lenV
  have O6lt : ∀ g, v6.ownBlock = some g → N4 + 1 ≤ g ∧ g < w6.heap.size := fun g hg => ho6.own hg
  subst hv6
  have A7 : Below w6.heap.size w6 (w6.alloc (.cells #[.slice a6 E.length c6] 44)) := (Below.refl _ _).alloc (Nat.le_refl _) _
  have hb67 := hb6.trans (A7.mono hb6.size)
  have G7 := Hid.mk (Bx1.new w6 44 (.slice a6 E.length c6))
  have X7 := Hid.mk (X5.out.grow hb67)
  have L7 := Hid.mk (L5.out.grow hb67)
  have B7 := Hid.mk (B5.out.trans (hb67.mono B5.out.size))
  have W7 := Hid.mk (W5.out.grow hb67)
  have I7 := Hid.mk (I5.out.grow hb67)
  have R7 := Hid.mk (R5.out.grow hb67)
  have SH7 := Hid.mk (SH5.out.ty (Ty.below hb67))
  have O7 := Hid.mk (ho6.grow A7)
  have S7 : (w6.alloc (.cells #[.slice a6 E.length c6] 44)).heap.size = w6.heap.size + 1 := by simp
  clear ho6 hb6 A7 hb67 X5 L5 B5 W5 I5 R5 SH5 S5 y0 y1 y2
  have g7 := G7.out.c0
  have q7 := W7.out.c0
  have HE7 := Hid.mk (HEN.out _ _ _ _ _ (O7.out.nl HSM.out) I7.out)
  go_wp2_with fail
  generalize w6.alloc (.cells #[.slice a6 E.length c6] 44) = W7w at G7 X7 L7 B7 W7 I7 R7 SH7 O7 S7 HE7 g7 q7 ⊢
  generalize hN6 : w6.heap.size = N6 at *
  clear hN6
  refine HE7.out.mono ?_
  rintro e w8 ⟨rfl, D8⟩
  have G8 := Hid.mk (G7.out.grow D8)
  have X8 := Hid.mk (X7.out.grow D8)
  have L8 := Hid.mk (L7.out.grow D8)
  have B8 := Hid.mk (B7.out.trans (D8.mono B7.out.size))
  have W8 := Hid.mk (W7.out.grow D8)
  have I8 := Hid.mk (I7.out.grow D8)
  have R8 := Hid.mk (R7.out.grow D8)
  have SH8 := Hid.mk (SH7.out.ty (Ty.below D8))
  have O8 := Hid.mk (O7.out.grow D8)
  have hs8 : N6 + 1 ≤ w8.heap.size := by have := D8.size; omega
  clear D8 HE7 G7 X7 L7 B7 W7 I7 R7 SH7 O7 S7 g7 q7
  have S0 : Hid (Below w8.heap.size w8 w8.drew) := Below.drewSelf _ _ 1
  go_wp2_with fail
  refine wp_region_held_drew (S := Below w8.heap.size w8) (by kernel_rfl) S0.out (fun _ => ?_)
  refine takeHD (i := 0) (v := rx k s (.slice a4 l.length c4)) (some 27) rfl rfl (by kernel_rfl) (by kernel_rfl) (by kernel_rfl) (fun _ _ _ h => h) (Or.inl ⟨by kernel_rfl, fun w' hw => ?_⟩) S0.out ?_
  · have X := X8.out.grow hw
    have y0 := X.c0
    have y1 := X.c1
    have y2 := X.c2
    go_simp
  simp only [Act.put, List.setIfInBounds_toArray]
  refine takeHD (i := 1) (v := rx k s (.slice ao l.length cap)) (some 28) rfl rfl (by kernel_rfl) (by kernel_rfl) (by kernel_rfl) (fun _ _ _ h => h) (Or.inl ⟨by kernel_rfl, fun w' hw => ?_⟩) S0.out ?_
  · have X := L8.out.grow hw
    have y0 := X.c0
    have y1 := X.c1
    have y2 := X.c2
    go_simp
  simp only [Act.put, List.setIfInBounds_toArray]
  refine wpAnyH_ready (rs := [2]) (by kernel_rfl) (by simp) ?_
  refine AllReadyH.cons rfl (fun K hK => ?_) AllReadyH.nil
  rw [if_pos (by kernel_rfl)]
  go_wp2_with fail
  refine (HT'.out _ (B8.out.trans (S0.out.mono B8.out.size))).mono ?_
  rintro e wa ⟨ua, rfl, hra, hba⟩
  have Sa : Hid (Below w8.heap.size w8 wa) := S0.out.trans hba
  refine hK.out _ _ Sa.out (fun _ => ?_)
  clear hK K
  have HRa := Hid.mk (R8.out.grow Sa.out)
  refine wpAnyH_ready (rs := [3]) (by kernel_rfl) (by simp) ?_
  refine AllReadyH.cons rfl (fun K hK => ?_) AllReadyH.nil
  rw [if_pos (by kernel_rfl)]
  go_wp2_with fail
  refine (HEQ.out _ _ _ _ _ HRa.out hra).mono ?_
  rintro e w9 ⟨rfl, hb9⟩
  have D9 : Hid (Below w8.heap.size w8 w9) := Sa.out.trans (hb9.mono Sa.out.size)
  refine hK.out _ _ D9.out (fun _ => ?_)
  clear hK K hra hba hb9 Sa HRa S0
  refine wpAnyH_ready (rs := [4]) (by kernel_rfl) (by simp) ?_
  refine AllReadyH.cons rfl (fun K hK => ?_) AllReadyH.nil
  rw [if_pos (by kernel_rfl)]
  go_wp2_with fail
  refine hK.out _ _ D9.out (fun _ => ?_)
  clear hK K
  refine wpAnyH_done (by kernel_rfl) ?_ _
  have G9 := Hid.mk (G8.out.grow D9.out)
  have X9 := Hid.mk (X8.out.grow D9.out)
  have L9 := Hid.mk (L8.out.grow D9.out)
  have B9 := Hid.mk (B8.out.trans (D9.out.mono B8.out.size))
  have W9 := Hid.mk (W8.out.grow D9.out)
  have I9 := Hid.mk (I8.out.grow D9.out)
  have SH9 := Hid.mk (SH8.out.ty (Ty.below D9.out))
  have O9 := Hid.mk (O8.out.grow D9.out)
  have hs9 : N6 + 1 ≤ w9.heap.size := by have := D9.out.size; omega
  clear D9 G8 X8 L8 B8 W8 I8 R8 SH8 O8 HEQ
  have y0 := X9.out.c0
  have y1 := X9.out.c1
  have y2 := X9.out.c2
  go_wp2_with fail
  refine (HMK'.out w9 k s _ _ SH9.out).mono ?_
  rintro e w10 ⟨rfl, w9', hb9', hmk⟩
  have T10 := hmk.2.1 _ (SH9.out.ty (Ty.below hb9'))
  have hblk : ∀ b, b < w9.heap.size → ¬ (N3 + 1 + 1 ≤ b ∧ b < N4) → w10.heap[b]? = w9.heap[b]? := fun b hb hne => (T10.block b (Nat.lt_of_lt_of_le hb hb9'.size) (fun h => hne h.1)).trans (hb9'.block b hb)
  have hsz : w9.heap.size ≤ w10.heap.size := Nat.le_trans hb9'.size T10.size
  have hos : w10.os = w9.os := T10.os.trans hb9'.os
  have htp : w10.tape = w9.tape := T10.tape.trans hb9'.tape
  have hou : w10.output = w9.output := T10.output.trans hb9'.output
  have B10 := Hid.mk (B9.out.trans (⟨hos, htp, hou, hsz, fun b hb => hblk b (by have := B9.out.size; omega) (by omega)⟩ : Below w.heap.size w9 w10))
  have L10 := Hid.mk (L9.out.kept (hblk _ L9.out.lt (by omega)))
  have W10 := Hid.mk (W9.out.kept (hblk _ W9.out.lt (by omega)))
  have I10 := Hid.mk (I9.out.kept (w' := w10) (fun b hb hlt => hblk b hlt (by omega)))
  have G10 := Hid.mk (G9.out.kept (hblk _ G9.out.lt (by omega)))
  have O10 := Hid.mk (O9.out.keptOwn (w' := w10) (fun g hg hlt => hblk g hlt (by omega)))
  clear y0 y1 y2 hmk T10 hblk hb9' X9 L9 B9 I9 SH9 O9 W9 G9 HMK' hos htp hou
  have hs10 : N6 + 1 ≤ w10.heap.size := by omega
  have hk10 : ¬ (((1 + 2 * cntL l : Nat) : Int) < 0) := by omega
  obtain ⟨kk, hkk⟩ : ∃ kk, ((1 + 2 * cntL l : Nat) : Int) = kk := ⟨_, rfl⟩
  rw [hkk] at hk10 ⊢
  clear hkk hs9 hsz
  have HE10 := Hid.mk (HEN.out _ _ _ _ _ (O10.out.nl HSM.out) I10.out)
  have g10 := G10.out.c0
  have q10 := W10.out.c0
  go_wp2_with fail
  refine HE10.out.mono ?_
  rintro e w11 ⟨rfl, D11⟩
  have L11 := Hid.mk (L10.out.grow D11)
  have B11 := Hid.mk (B10.out.trans (D11.mono B10.out.size))
  have W11 := Hid.mk (W10.out.grow D11)
  have I11 := Hid.mk (I10.out.grow D11)
  have G11 := Hid.mk (G10.out.grow D11)
  have O11 := Hid.mk (O10.out.grow D11)
  have hs11 : N6 + 1 ≤ w11.heap.size := by have := D11.size; omega
  clear D11 HE10 L10 B10 W10 I10 G10 O10 g10 q10 hs10
  have g11 := G11.out.c0
  have HM11 : Hid (Calls Try.prog 26 #[.agg #[.slice a6 E.length c6], .int .i64 1] w11 fun e w' => e = .returned (.int .i64 ((1 + 4 * E.length : Nat) : Int)) ∧ OwnN w' (N4 + 1) (.slice a6 E.length c6) (marksN 1 E.length) ∧ w11.grownBy w' (Value.slice a6 E.length c6).ownBlock) := markOwn_any (N4 + 1) 1 _ E w11 O11.out (by omega) (by omega)
  obtain ⟨mm, hmm⟩ : ∃ mm, ((1 + 4 * E.length : Nat) : Int) = mm := ⟨_, rfl⟩
  rw [hmm] at HM11
  go_wp2_with fail
  refine HM11.out.mono ?_
  rintro e w12 ⟨rfl, ho12, hg12⟩
  have hblk : ∀ b, b < w11.heap.size → ¬ (N4 + 1 ≤ b ∧ b < N6) → w12.heap[b]? = w11.heap[b]? := fun b hb hne => hg12.block b hb (fun e => hne (O6lt b e.symm))
  have B12 := Hid.mk (B11.out.trans (⟨hg12.os, hg12.tape, hg12.output, hg12.size, fun b hb => hblk b (by have := B11.out.size; omega) (by omega)⟩ : Below w.heap.size w11 w12))
  have L12 := Hid.mk (L11.out.kept (hblk _ L11.out.lt (by omega)))
  have W12 := Hid.mk (W11.out.kept (hblk _ W11.out.lt (by omega)))
  have I12 := Hid.mk (I11.out.kept (w' := w12) (fun b hb hlt => hblk b hlt (by omega)))
  have G12 := Hid.mk (G11.out.kept (hblk _ G11.out.lt (by omega)))
  have O12 := Hid.mk ho12
  have hs12 : N6 + 1 ≤ w12.heap.size := by have := hg12.size; omega
  clear hblk HM11 ho12 hg12 L11 B11 W11 I11 G11 O11 g11 hs11
  have HH12 : Hid (∀ w', OwnN w' (N4 + 1) (.slice a6 E.length c6) (marksN 1 E.length) → Calls Try.prog 27 #[.agg #[.slice a6 E.length c6], .int .i64 1] w' fun e w'' => e = .returned (.int .i64 mm) ∧ Below w'.heap.size w' w'') := fun w' ho => by
    have := heldNfa_marks 1 E.length _ _ w' (ho.nl (marksN_small 1 E.length (by omega))) (by omega) (by omega)
    rw [hmm] at this
    exact this
  have hne : (mm != mm) = false := by simp
  have hlt : ¬ (mm < 0) := by omega
  clear hmm
  have g12 := G12.out.c0
  go_wp2_with fail
  refine (HH12.out w12 O12.out).mono ?_
  rintro e w13 ⟨rfl, D13⟩
  have L13 := Hid.mk (L12.out.grow D13)
  have B13 := Hid.mk (B12.out.trans (D13.mono B12.out.size))
  have W13 := Hid.mk (W12.out.grow D13)
  have I13 := Hid.mk (I12.out.grow D13)
  have G13 := Hid.mk (G12.out.grow D13)
  have O13 := Hid.mk (O12.out.grow D13)
  clear D13 L12 B12 W12 I12 G12 O12 g12
  have x0 := L13.out.c0
  have x1 := L13.out.c1
  have x2 := L13.out.c2
  go_wp2_with fail
  refine (HT'.out w13 B13.out).mono ?_
  rintro e w14 ⟨u14, rfl, hr14, hb14⟩
  have B14 := Hid.mk (B13.out.trans (hb14.mono B13.out.size))
  have W14 := Hid.mk (W13.out.grow hb14)
  have I14 := Hid.mk (I13.out.grow hb14)
  have G14 := Hid.mk (G13.out.grow hb14)
  have O14 := Hid.mk (O13.out.grow hb14)
  obtain ⟨a14, c14, rfl, -⟩ := hr14.len
  have R14 := Hid.mk hr14
  clear hb14 hr14 L13 B13 W13 I13 G13 O13 x0 x1 x2 HT'
  go_wp2_with fail
  refine (HIO.out w14 _ _ R14.out).mono ?_
  rintro e w15 ⟨v15, rfl, ho15, hb15⟩
  obtain ⟨a15, c15, hv15, -⟩ := ho15.lenV
  subst hv15
  have A16 : Below w15.heap.size w15 (w15.alloc (.cells #[.slice a15 E.length c15] 44)) := (Below.refl _ _).alloc (Nat.le_refl _) _
  have hb156 := hb15.trans (A16.mono hb15.size)
  have H16 := Hid.mk (Bx1.new w15 44 (.slice a15 E.length c15))
  have B16 := Hid.mk (B14.out.trans (hb156.mono B14.out.size))
  have W16 := Hid.mk (W14.out.grow hb156)
  have I16 := Hid.mk (I14.out.grow hb156)
  have G16 := Hid.mk (G14.out.grow hb156)
  have O16 := Hid.mk (O14.out.grow hb156)
  have P16 := Hid.mk (ho15.grow A16)
  clear ho15 hb15 A16 hb156 B14 W14 I14 G14 O14 R14 HIO
  have h16 := H16.out.c0
  have q16 := W16.out.c0
  have HE16 := Hid.mk (HEN.out _ _ _ _ _ (P16.out.nl HSM.out) I16.out)
  go_wp2_with fail
  generalize w15.alloc (.cells #[.slice a15 E.length c15] 44) = W16w at H16 B16 W16 I16 G16 O16 P16 HE16 h16 q16 ⊢
  refine HE16.out.mono ?_
  rintro e w17 ⟨rfl, D17⟩
  have B17 := Hid.mk (B16.out.trans (D17.mono B16.out.size))
  have G17 := Hid.mk (G16.out.grow D17)
  have O17 := Hid.mk (O16.out.grow D17)
  clear D17 H16 B16 W16 I16 G16 O16 P16 HE16 h16 q16
  have g17 := G17.out.c0
  go_wp2_with fail
  refine (HH12.out w17 O17.out).mono ?_
  rintro e w18 ⟨rfl, D18⟩
  have B18 := Hid.mk (B17.out.trans (D18.mono B17.out.size))
  clear D18 B17 G17 O17 g17 HH12
  go_wp2
  go_ret
  exact ⟨rfl, B18.out⟩
end Go.Proofs.Ytapniafhcagogaa
