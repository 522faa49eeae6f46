/- The law FnExactSpread walked: at every machine, every places, every place and size the program's Spread answers what the document's model of it answers; the answer owns its memory. -/
import Derived.Test.YteomhjoodnjfbaaSpecSpreadB
import Derived.Test.YteomhjoodnjfbaaNodeCopy
import Derived.Test.YteomhjoodnjfbaaNodeTrod
import Derived.Test.YteomhjoodnjfbaaMarkNode
import Derived.Test.YteomhjoodnjfbaaIntTo
import Derived.Test.YteomhjoodnjfbaaIntKeep
namespace Go.Proofs.Yteomhjoodnjfbaa
open Go.RowKit
set_option maxRecDepth 8000

theorem NB.nlAnyS {w : World} {g : Nat} {L : List Nd} (h : NB w g L) (hl : L.length ≤ 1048576) (hs : ∀ x ∈ L, x.s.size ≤ maxLen) : Nl w anyB L (.slice (some ⟨g, 0, none⟩) L.length L.length) := h.nl trivial (by unfold maxLen; omega) hs

set_option maxHeartbeats 4000000 in
theorem fnExactSpread_walk (N : List Nd) (v : Value) (l : List Int) (u : Value) (p z : Int) (w : World) (h : Nl w anyB N v) (hi : Iz w u l) :
    Calls Try.prog 3 #[.agg #[v], u, .int .i64 p, .int .i64 z] w fun e w' => e = .returned (.bool true) ∧ Below w.heap.size w w' := by
  have HS := Hid.mk (fun (w' : World) (hb : Below w.heap.size w w') => szNfa_any N anyB v w' (h.grow hb))
  have HT := Hid.mk (fun hz (w' : World) (hb : Below w.heap.size w w') => toNfa_any N anyB v w' (h.grow hb) hz)
  have HTI := Hid.mk (fun hz (w' : World) (hb : Below w.heap.size w w') => toIntS_any u l w' (hi.grow hb) hz)
  have HSO := Hid.mk (fun (w' : World) (B : Nat → Prop) (u u' : Value) (h : Nl w' B N u) (h' : Iz w' u' l) => specSpread_any N B u u' l p z w' h h')
  have HIO := Hid.mk (fun (w' : World) (B : Nat → Prop) (u u' : Value) (h : Nl w' B N u) (h' : Iz w' u' l) => implSpread_any N B u u' l p z w' h h')
  have HEQ := Hid.mk (fun (w' : World) (B C : Nat → Prop) (u u' : Value) (h : Nl w' B N u) (h' : Nl w' C N u') => eqNfa_same N B C u u' w' h h')
  have HUQ : Hid (∀ L L', SprL N l p z L → SprL N l p z L' → L = L') := fun L L' h h' => h.uniq h'
  have HLN : Hid (∀ L, SprL N l p z L → L.length ≤ 300) := fun L h => h.len
  obtain ⟨ao, cap, rfl, hl1, hl2, hl3, hl4, -⟩ := h
  obtain ⟨lo, lc, rfl, hi1, hi2, hi3, -⟩ := hi
  have HL4 := Hid.mk hl4
  unfold maxLen at hl2 hi2
  obtain ⟨n, hn⟩ : ∃ n, N.length = n := ⟨_, rfl⟩
  obtain ⟨ln, hln⟩ : ∃ ln, l.length = ln := ⟨_, rfl⟩
  have HN := Hid.mk hn
  have HLL := Hid.mk hln
  have B0 : Below w.heap.size w (w.alloc (.cells #[.slice ao N.length cap] 24)) := (Below.refl _ _).alloc (Nat.le_refl _) _
  have L0 := Bx1.new w 24 (.slice ao N.length cap)
  rw [hn] at B0 HS HT hl1 L0 ⊢
  rw [hln] at HTI hi1 ⊢
  clear hn hln hl3 hl4 hi3
  by_cases hz : (1048576 : Int) < (ln : Int)
  · clear HS HT HTI HSO HIO HEQ HUQ HLN
    go_enter Try.func3, Try.ntmps3
    go_wp2
    go_ret
    exact ⟨rfl, B0⟩
  have HTI' := Hid.mk (HTI.out (by omega))
  clear HTI
  go_enter Try.func3, Try.ntmps3
  go_wp2_with fail
  refine (HS.out _ B0).mono ?_
  rintro e w1 ⟨m, rfl, hm1, hb1⟩
  have HM := Hid.mk hm1
  clear hm1 HS
  have B1 := Hid.mk (B0.trans (hb1.mono (by simp)))
  have L1 := Hid.mk (L0.grow hb1)
  clear B0 L0 hb1
  by_cases hm : m < 0
  · clear HT HTI' HSO HIO HEQ HUQ HLN HM L1
    go_wp2
    go_ret
    exact ⟨rfl, B1.out⟩
  have hle : n ≤ 1048576 := HM.out (by omega)
  have HT' := Hid.mk (HT.out hle)
  have HNL : Hid (∀ w' g, NB w' g N → Nl w' anyB N (.slice (some ⟨g, 0, none⟩) n n)) := fun w' g h => by
    have := h.nlAnyS (by rw [HN.out]; exact hle) HL4.out
    rw [HN.out] at this
    exact this
  clear HT HM HL4
  have x0 := L1.out.c0
  go_wp2_with fail
  refine (HT'.out _ B1.out).mono ?_
  rintro e w2 ⟨g2, rfl, -, hn2, hb2⟩
  have L2 := Hid.mk (L1.out.grow hb2)
  have B2 := Hid.mk (B1.out.trans (hb2.mono B1.out.size))
  have N2 := Hid.mk (HNL.out _ _ hn2)
  clear hb2 hn2 L1 B1 x0
  go_wp2_with fail
  refine (HTI'.out _ B2.out).mono ?_
  rintro e w3 ⟨u3, rfl, ho3, hb3⟩
  have L3 := Hid.mk (L2.out.grow hb3)
  have B3 := Hid.mk (B2.out.trans (hb3.mono B2.out.size))
  have N3 := Hid.mk (N2.out.grow hb3)
  have I3 := Hid.mk ho3.iz
  obtain ⟨a3, c3, rfl, -⟩ := ho3.iz
  clear hb3 ho3 L2 B2 N2
  go_wp2_with fail
  refine (HSO.out _ _ _ _ N3.out I3.out).mono ?_
  rintro e w4 ⟨x4, L, rfl, hi4, hL, hb4⟩
  have L4 := Hid.mk (L3.out.grow hb4)
  have B4 := Hid.mk (B3.out.trans (hb4.mono B3.out.size))
  have I4 := Hid.mk (IzN.of hi4)
  have HL := Hid.mk hL
  have hlen : L.length ≤ 300 := HLN.out _ hL
  have hwn : w.heap.size < w4.heap.size := Nat.lt_of_lt_of_le L3.out.lt hb4.size
  obtain ⟨a4, c4, rfl, -⟩ := hi4
  clear hb4 hL L3 B3 N3 I3 HSO HLN
  have x0 := L4.out.c0
  go_wp2_with fail
  refine (HT'.out _ B4.out).mono ?_
  rintro e w5 ⟨g5, rfl, hg5, hn5, hb5⟩
  have A6 : Below w5.heap.size w5 (w5.alloc (.cells #[.slice (some ⟨g5, 0, none⟩) n n] 30)) := (Below.refl _ _).alloc (Nat.le_refl _) _
  have X6 := Hid.mk (Bx1.new w5 30 (.slice (some ⟨g5, 0, none⟩) n n))
  have L6 := Hid.mk ((L4.out.grow hb5).grow A6)
  have B6 := Hid.mk (B4.out.trans ((hb5.trans (A6.mono hb5.size)).mono B4.out.size))
  have N6 := Hid.mk (hn5.grow A6)
  have I6 := Hid.mk ((I4.out.keep (fun b hb => hb5.block b hb)).keep (fun b hb => A6.block b (Nat.lt_of_lt_of_le hb hb5.size)))
  have hg6 : g5 < w5.heap.size := hn5.lt
  have S6 : (w5.alloc (.cells #[.slice (some ⟨g5, 0, none⟩) n n] 30)).heap.size = w5.heap.size + 1 := by simp
  have hs45 := hb5.size
  clear hb5 A6 hn5 L4 B4 I4 x0
  go_wp2_with fail
  generalize w5.alloc (.cells #[.slice (some ⟨g5, 0, none⟩) n n] 30) = W6 at X6 L6 B6 N6 I6 S6 ⊢
  generalize w4.heap.size = M4 at *
  generalize w5.heap.size = M5 at *
  refine (HTI'.out _ B6.out).mono ?_
  rintro e w7 ⟨u7, rfl, ho7, hb7⟩
  have X7 := Hid.mk (X6.out.grow hb7)
  have L7 := Hid.mk (L6.out.grow hb7)
  have B7 := Hid.mk (B6.out.trans (hb7.mono B6.out.size))
  have N7 := Hid.mk (N6.out.grow hb7)
  have I7 := Hid.mk (I6.out.keep (fun b hb => hb7.block b (by omega)))
  have U7 := Hid.mk ho7
  have HU := Hid.mk ho7.lies
  have s7 : M5 + 1 ≤ w7.heap.size := by have := hb7.size; omega
  rw [S6] at U7 HU
  obtain ⟨a7, c7, hv7, -⟩ := ho7.iz
  subst hv7
  clear hb7 ho7 X6 L6 B6 N6 I6 S6
  have x1 := X7.out.c0
  go_wp2_with fail
  refine (HIO.out _ _ _ _ (HNL.out _ _ N7.out) U7.out.iz).mono ?_
  rintro e w8 ⟨x8, L', rfl, ho8, hL8, hb8⟩
  obtain rfl := HUQ.out _ _ HL.out hL8
  have X8 := Hid.mk (X7.out.grow hb8)
  have L8 := Hid.mk (L7.out.grow hb8)
  have B8 := Hid.mk (B7.out.trans (hb8.mono B7.out.size))
  have N8 := Hid.mk (N7.out.grow hb8)
  have I8 := Hid.mk (I7.out.keep (fun b hb => hb8.block b (by omega)))
  have V8 := Hid.mk (U7.out.grow hb8)
  have O8 := Hid.mk ho8
  have s8 : w7.heap.size ≤ w8.heap.size := hb8.size
  obtain ⟨a8, c8, hv8, -⟩ := ho8.iz
  subst hv8
  generalize w7.heap.size = M7 at *
  clear hb8 ho8 hL8 X7 L7 B7 N7 I7 U7 x1
  have HE8 := Hid.mk (eqIntS_same _ _ _ w8 O8.out.iz I8.out.1)
  go_wp2_with fail
  refine HE8.out.mono ?_
  rintro e w9 ⟨rfl, n9, hw9⟩
  have D9 : Below w8.heap.size w8 w9 := by rw [hw9]; exact Below.drewSelf _ _ _
  clear hw9 HE8
  have X9 := Hid.mk (X8.out.grow D9)
  have L9 := Hid.mk (L8.out.grow D9)
  have B9 := Hid.mk (B8.out.trans (D9.mono B8.out.size))
  have N9 := Hid.mk (N8.out.grow D9)
  have I9 := Hid.mk (I8.out.keep (fun b hb => D9.block b (by omega)))
  have V9 := Hid.mk (V8.out.grow D9)
  have O9 := Hid.mk (O8.out.grow D9)
  have s9 : M7 ≤ w9.heap.size := by have := D9.size; omega
  clear D9 X8 L8 B8 N8 I8 V8 O8 s8
  have S0 : Hid (Below w9.heap.size w9 w9.drew) := Below.drewSelf _ _ 1
  go_wp2_with fail
  refine wp_region_held_drew (S := Below w9.heap.size w9) (by kernel_rfl) S0.out (fun _ => ?_)
  refine takeHD (i := 0) (v := .agg #[.slice (some ⟨g5, 0, none⟩) n n]) (some 46) rfl rfl (by kernel_rfl) (by kernel_rfl) (by kernel_rfl) (fun _ _ _ h => h) (Or.inl ⟨by kernel_rfl, fun w' hw => ?_⟩) S0.out ?_
  · have y0 := (X9.out.grow hw).c0
    go_simp
  simp only [Act.put, List.setIfInBounds_toArray]
  refine takeHD (i := 1) (v := .agg #[.slice ao n cap]) (some 47) rfl rfl (by kernel_rfl) (by kernel_rfl) (by kernel_rfl) (fun _ _ _ h => h) (Or.inl ⟨by kernel_rfl, fun w' hw => ?_⟩) S0.out ?_
  · have y0 := (L9.out.grow hw).c0
    go_simp
  simp only [Act.put, List.setIfInBounds_toArray]
  refine wpAnyH_ready (rs := [2]) (by kernel_rfl) (by simp) ?_
  refine AllReadyH.cons rfl (fun K hK => ?_) AllReadyH.nil
  rw [if_pos (by kernel_rfl)]
  go_wp2_with fail
  refine (HT'.out _ (B9.out.trans (S0.out.mono B9.out.size))).mono ?_
  rintro e wa ⟨ga, rfl, -, hna, hba⟩
  have Sa : Hid (Below w9.heap.size w9 wa) := S0.out.trans hba
  have Na := Hid.mk (HNL.out _ _ hna)
  refine hK.out _ _ Sa.out (fun _ => ?_)
  clear hK K hna
  have Nb := Hid.mk (HNL.out _ _ (N9.out.grow Sa.out))
  refine wpAnyH_ready (rs := [3]) (by kernel_rfl) (by simp) ?_
  refine AllReadyH.cons rfl (fun K hK => ?_) AllReadyH.nil
  rw [if_pos (by kernel_rfl)]
  go_wp2_with fail
  refine (HEQ.out _ _ _ _ _ Nb.out Na.out).mono ?_
  rintro e w10 ⟨rfl, hb10⟩
  have S10 : Hid (Below w9.heap.size w9 w10) := Sa.out.trans (hb10.mono Sa.out.size)
  refine hK.out _ _ S10.out (fun _ => ?_)
  clear hK K Na Nb hba hb10 Sa S0
  refine wpAnyH_ready (rs := [4]) (by kernel_rfl) (by simp) ?_
  refine AllReadyH.cons rfl (fun K hK => ?_) AllReadyH.nil
  rw [if_pos (by kernel_rfl)]
  go_wp2_with fail
  refine hK.out _ _ S10.out (fun _ => ?_)
  clear hK K
  refine wpAnyH_done (by kernel_rfl) ?_ _
  have X10 := Hid.mk (X9.out.grow S10.out)
  have L10 := Hid.mk (L9.out.grow S10.out)
  have B10 := Hid.mk (B9.out.trans (S10.out.mono B9.out.size))
  have N10 := Hid.mk (N9.out.grow S10.out)
  have I10 := Hid.mk (I9.out.keep (fun b hb => S10.out.block b (by omega)))
  have V10 := Hid.mk (V9.out.grow S10.out)
  have O10 := Hid.mk (O9.out.grow S10.out)
  have s10 : M7 ≤ w10.heap.size := by have := S10.out.size; omega
  clear S10 X9 L9 B9 N9 I9 V9 O9 s9
  go_wp2_with fail
  refine (HTI'.out _ B10.out).mono ?_
  rintro e w11 ⟨u11, rfl, ho11, hb11⟩
  have X11 := Hid.mk (X10.out.grow hb11)
  have L11 := Hid.mk (L10.out.grow hb11)
  have B11 := Hid.mk (B10.out.trans (hb11.mono B10.out.size))
  have N11 := Hid.mk (N10.out.grow hb11)
  have I11 := Hid.mk (I10.out.keep (fun b hb => hb11.block b (by omega)))
  have V11 := Hid.mk (V10.out.grow hb11)
  have O11 := Hid.mk (O10.out.grow hb11)
  have s11 : M7 ≤ w11.heap.size := by have := hb11.size; omega
  have HE11 := Hid.mk (eqIntS_same _ _ _ w11 V11.out.iz ho11.iz)
  obtain ⟨a11, c11, hv11, -⟩ := ho11.iz
  subst hv11
  rw [HLL.out] at HE11 V11 HU ⊢
  clear hb11 ho11 X10 L10 B10 N10 I10 V10 O10 s10
  go_wp2_with fail
  refine HE11.out.mono ?_
  rintro e w12 ⟨rfl, n12, hw12⟩
  have D12 : Below w11.heap.size w11 w12 := by rw [hw12]; exact Below.drewSelf _ _ _
  clear hw12 HE11
  have X12 := Hid.mk (X11.out.grow D12)
  have L12 := Hid.mk (L11.out.grow D12)
  have B12 := Hid.mk (B11.out.trans (D12.mono B11.out.size))
  have N12 : Hid (NBn w12 g5 n) := ⟨N, N11.out.grow D12, HN.out⟩
  have I12 := Hid.mk (I11.out.keep (fun b hb => D12.block b (by omega)))
  have V12 := Hid.mk (V11.out.grow D12)
  have O12 := Hid.mk (O11.out.grow D12)
  have s12 : M7 ≤ w12.heap.size := by have := D12.size; omega
  clear D12 X11 L11 B11 N11 I11 V11 O11 s11
  have x1 := X12.out.c0
  have HK := Hid.mk (markNfa_any n g5 1 w12 N12.out hle (by omega))
  go_wp2_with fail
  refine HK.out.mono ?_
  rintro e w13 ⟨rfl, hk13⟩
  have L13 := Hid.mk (L12.out.kept (hk13.block _ L12.out.lt (by omega)))
  have B13 := Hid.mk (B12.out.trans (hk13.low (n := w.heap.size) (by omega) B12.out.size))
  have I13 := Hid.mk (I12.out.keep (w' := w13) (fun b hb => hk13.block b (by omega) (by omega)))
  have V13 := Hid.mk (V12.out.keep (w' := w13) (fun b h1 h2 => hk13.block b h2 (by omega)))
  have O13 := Hid.mk (O12.out.keep (w' := w13) (fun b h1 h2 => hk13.block b h2 (by omega)))
  have s13 : M7 ≤ w13.heap.size := by have := hk13.size; omega
  clear hk13 HK x1 X12 L12 B12 N12 I12 V12 O12 s12
  obtain ⟨kk, hkk⟩ : ∃ kk, ((1 + 4 * n : Nat) : Int) = kk := ⟨_, rfl⟩
  have hk0 : 0 ≤ kk := by omega
  have hk1 : kk ≤ 8388608 := by omega
  rw [hkk]
  clear hkk
  have HM13 := Hid.mk (markIntS_any _ _ _ kk w13 V13.out (by rw [HLL.out]; omega) (by omega) (by omega))
  rw [HLL.out] at HM13
  go_wp2_with fail
  refine HM13.out.mono ?_
  rintro e w14 ⟨rfl, -, hg14⟩
  have hblk : ∀ b, b < w13.heap.size → (b < M5 + 1 ∨ M7 ≤ b) → w14.heap[b]? = w13.heap[b]? := fun b hb hne => hg14.block b hb (fun e => by have := HU.out b e.symm; omega)
  have L14 := Hid.mk (L13.out.kept (hblk _ L13.out.lt (by omega)))
  have B14 := Hid.mk (B13.out.trans (⟨hg14.os, hg14.tape, hg14.output, hg14.size, fun b hb => hblk b (by have := B13.out.size; omega) (by omega)⟩ : Below w.heap.size w13 w14))
  have I14 := Hid.mk (I13.out.keep (w' := w14) (fun b hb => hblk b (by omega) (by omega)))
  have O14 := Hid.mk (O13.out.keep (w' := w14) (fun b h1 h2 => hblk b h2 (by omega)))
  have s14 : M7 ≤ w14.heap.size := by have := hg14.size; omega
  clear hg14 hblk HM13 HU L13 B13 I13 V13 O13 s13
  have hneg : ¬ (kk + (ln : Int) < 0) := by omega
  have HE14 := Hid.mk (eqIntS_same _ _ _ w14 O14.out.iz I14.out.1)
  go_wp2_with fail
  refine HE14.out.mono ?_
  rintro e w15 ⟨rfl, n15, hw15⟩
  have D15 : Below w14.heap.size w14 w15 := by rw [hw15]; exact Below.drewSelf _ _ _
  have L15 := Hid.mk (L14.out.grow D15)
  have B15 := Hid.mk (B14.out.trans (D15.mono B14.out.size))
  have I15 := Hid.mk (I14.out.keep (w' := w15) (fun b hb => D15.block b (by omega)))
  have O15 := Hid.mk (O14.out.grow D15)
  have s15 : M7 ≤ w15.heap.size := by have := D15.size; omega
  clear D15 hw15 HE14 L14 B14 I14 O14 s14 hneg
  have HM15 := Hid.mk (markIntS_any _ _ _ 1 w15 O15.out (by omega) (by omega) (by omega))
  have hbl15 := O15.out.lies
  go_wp2_with fail
  refine HM15.out.mono ?_
  rintro e w16 ⟨rfl, ho16, hg16⟩
  have hblk : ∀ b, b < w15.heap.size → ¬ (M7 ≤ b) → w16.heap[b]? = w15.heap[b]? := fun b hb hne => hg16.block b hb (fun e => hne (hbl15 b e.symm).1)
  have L16 := Hid.mk (L15.out.kept (hblk _ L15.out.lt (by omega)))
  have B16 := Hid.mk (B15.out.trans (⟨hg16.os, hg16.tape, hg16.output, hg16.size, fun b hb => hblk b (by have := B15.out.size; omega) (by omega)⟩ : Below w.heap.size w15 w16))
  have I16 := Hid.mk (I15.out.keep (w' := w16) (fun b hb => hblk b (by omega) (by omega)))
  have O16 := Hid.mk ho16
  have s16 : M7 ≤ w16.heap.size := by have := hg16.size; omega
  clear hblk hbl15 HM15 ho16 hg16 L15 B15 I15 O15 s15
  have HH16 := Hid.mk (heldIntS_marks _ L.length 1 w16 O16.out.iz (by omega) (by omega) (by omega))
  go_wp2_with fail
  refine HH16.out.mono ?_
  rintro e w16' ⟨rfl, hw16⟩
  obtain rfl := hw16.symm
  clear HH16 hw16
  have hne : (((1 : Int) + (L.length : Int)) != (1 + (L.length : Int))) = false := by simp
  have hlt : ¬ ((1 : Int) + (L.length : Int) < 0) := by omega
  have x0 := L16.out.c0
  go_wp2_with fail
  refine (HT'.out _ B16.out).mono ?_
  rintro e w17 ⟨g17, rfl, -, hn17, hb17⟩
  have B17 := Hid.mk (B16.out.trans (hb17.mono B16.out.size))
  have I17 := Hid.mk (I16.out.keep (w' := w17) (fun b hb => hb17.block b (by omega)))
  have O17 := Hid.mk (O16.out.grow hb17)
  have N17 := Hid.mk (HNL.out _ _ hn17)
  have s17 : M7 ≤ w17.heap.size := by have := hb17.size; omega
  clear hb17 hn17 L16 B16 I16 O16 s16 x0
  go_wp2_with fail
  refine (HTI'.out _ B17.out).mono ?_
  rintro e w18 ⟨u18, rfl, ho18, hb18⟩
  have B18 := Hid.mk (B17.out.trans (hb18.mono B17.out.size))
  have I18 := Hid.mk (I17.out.keep (w' := w18) (fun b hb => hb18.block b (by omega)))
  have O18 := Hid.mk (O17.out.grow hb18)
  have N18 := Hid.mk (N17.out.grow hb18)
  have U18 := Hid.mk ho18.iz
  have s18 : M7 ≤ w18.heap.size := by have := hb18.size; omega
  obtain ⟨a18, c18, hv18, -⟩ := ho18.iz
  subst hv18
  clear hb18 ho18 B17 I17 O17 N17 s17
  go_wp2_with fail
  refine (HIO.out _ _ _ _ N18.out U18.out).mono ?_
  rintro e w19 ⟨x19, L', rfl, ho19, hL19, hb19⟩
  obtain rfl := HUQ.out _ _ HL.out hL19
  have B19 := Hid.mk (B18.out.trans (hb19.mono B18.out.size))
  have I19 := Hid.mk (I18.out.keep (w' := w19) (fun b hb => hb19.block b (by omega)))
  have O19 := Hid.mk (O18.out.grow hb19)
  have HE19 := Hid.mk (eqIntS_same _ _ _ w19 ho19.iz I19.out.1)
  obtain ⟨a19, c19, hv19, -⟩ := ho19.iz
  subst hv19
  clear hb19 ho19 hL19 B18 I18 O18 N18 U18 s18
  go_wp2_with fail
  refine HE19.out.mono ?_
  rintro e w20 ⟨rfl, n20, hw20⟩
  have D20 : Below w19.heap.size w19 w20 := by rw [hw20]; exact Below.drewSelf _ _ _
  have B20 := Hid.mk (B19.out.trans (D20.mono B19.out.size))
  have O20 := Hid.mk (O19.out.grow D20)
  clear hw20 D20 HE19 B19 I19 O19
  have HH20 := Hid.mk (heldIntS_marks _ L.length 1 w20 O20.out.iz (by omega) (by omega) (by omega))
  go_wp2_with fail
  refine HH20.out.mono ?_
  rintro e w21 ⟨rfl, hw21⟩
  obtain rfl := hw21.symm
  clear HH20 hw21
  go_wp2
  go_ret
  exact ⟨rfl, B20.out⟩
end Go.Proofs.Yteomhjoodnjfbaa
