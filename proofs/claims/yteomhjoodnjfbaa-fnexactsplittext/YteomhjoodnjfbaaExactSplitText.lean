/- The law FnExactSplitText walked: at every text the program's SplitText answers what the document's model of it answers; the answer owns its memory. -/
import Derived.Test.YteomhjoodnjfbaaSplTxt
namespace Go.Proofs.Yteomhjoodnjfbaa
open Go.RowKit
set_option maxRecDepth 8000

/-- A slice that reads these texts, its block (where there are any) below N. -/
def TzN (w : World) (N : Nat) (v : Value) (xs : List ByteArray) : Prop := Tz w v xs ∧ (xs ≠ [] → ∀ b off len cap, v = .slice (some ⟨b, off, none⟩) len cap → b < N)
theorem TzN.of {w : World} {v : Value} {xs : List ByteArray} (h : Tz w v xs) : TzN w w.heap.size v xs := by
  refine ⟨h, fun hn b off len cap e => ?_⟩
  obtain ⟨ao, cap', rfl, _, _, _, h5⟩ := h
  obtain ⟨b', off', rfl, h7⟩ := h5 hn
  simp only [Value.slice.injEq, Option.some.injEq, Addr.mk.injEq, and_true] at e
  obtain ⟨⟨rfl, rfl⟩, _⟩ := e
  exact World.block_lt_of_cell? w _ (h7 0 (List.length_pos_iff.2 hn))
theorem TzN.keep {w w' : World} {N : Nat} {v : Value} {xs : List ByteArray} (h : TzN w N v xs) (hk : ∀ b, b < N → w'.heap[b]? = w.heap[b]?) : TzN w' N v xs := by
  obtain ⟨⟨ao, cap, h1, h2, h3, h4, h5⟩, h6⟩ := h
  refine ⟨⟨ao, cap, h1, h2, h3, h4, fun hn => ?_⟩, h6⟩
  obtain ⟨b, off, rfl, h7⟩ := h5 hn
  refine ⟨b, off, rfl, fun k hk' => ?_⟩
  rw [World.cell?_of_block (w := w) (hk b (h6 hn _ _ _ _ h1))]
  exact h7 k hk'

set_option maxHeartbeats 2000000 in
theorem fnExactSplitText_walk (s : ByteArray) (w : World) (hs : s.size ≤ maxLen) :
    Calls Try.prog 13 #[.string s] w fun e w' => e = .returned (.bool true) ∧ Below w.heap.size w w' := by
  unfold maxLen at hs
  by_cases hz : (1048576 : Int) < (s.size : Int)
  · go_enter Try.func13, Try.ntmps13
    go_wp2
    go_ret
    exact ⟨rfl, Below.refl _ _⟩
  have HSO := Hid.mk (fun w' => specSplitText_any s w' (by omega))
  have HIO := Hid.mk (fun w' => implSplitText_any s w' (by omega))
  have hln : (splL s).length ≤ 1048577 := by have := splL_len s; omega
  generalize splL s = L at *
  have HEQ := Hid.mk (fun (w' : World) (u u' : Value) (h : Tz w' u L) (h' : Tz w' u' L) => eqStringS_same u u' L w' h h')
  go_enter Try.func13, Try.ntmps13
  go_wp2_with fail
  refine (HSO.out _).mono ?_
  rintro e w1 ⟨v1, rfl, ho1, hb1⟩
  have B1 := Hid.mk hb1
  have T1 := Hid.mk (TzN.of ho1.iz)
  have hwM : w.heap.size ≤ w1.heap.size := hb1.size
  obtain ⟨a1, c1, hv1, -⟩ := ho1.iz
  subst hv1
  clear hb1 ho1 HSO
  go_wp2_with fail
  refine (HIO.out _).mono ?_
  rintro e w2 ⟨v2, rfl, ho2, hb2⟩
  have B2 := Hid.mk (B1.out.trans (hb2.mono B1.out.size))
  have T2 := Hid.mk (T1.out.keep (w' := w2) (fun b hb => hb2.block b hb))
  have O2 := Hid.mk ho2
  have s2 : w1.heap.size ≤ w2.heap.size := hb2.size
  have HE2 := Hid.mk (HEQ.out _ _ _ ho2.iz T2.out.1)
  obtain ⟨a2, c2, hv2, -⟩ := ho2.iz
  subst hv2
  generalize w1.heap.size = M1 at *
  clear hb2 ho2 B1 T1
  go_wp2_with fail
  refine HE2.out.mono ?_
  rintro e w3 ⟨rfl, n3, hw3⟩
  have D3 : Below w2.heap.size w2 w3 := by rw [hw3]; exact Below.drewSelf _ _ _
  have B3 := Hid.mk (B2.out.trans (D3.mono B2.out.size))
  have T3 := Hid.mk (T2.out.keep (w' := w3) (fun b hb => D3.block b (by omega)))
  have O3 := Hid.mk (O2.out.grow D3)
  have s3 : M1 ≤ w3.heap.size := by have := D3.size; omega
  have hm3 := Hid.mk (markStringS_any _ _ L 1 w3 O3.out (by omega) (by omega))
  have hl3 := O3.out.lies
  clear hw3 D3 HE2 B2 T2 O2 s2
  go_wp2_with fail
  refine hm3.out.mono ?_
  rintro e w4 ⟨rfl, ho4, hg4⟩
  obtain ⟨q, hq⟩ : ∃ q : Int, ((1 + L.length : Nat) : Int) = q := ⟨_, rfl⟩
  have hq0 : ¬ q < 0 := by omega
  have hqq : (q != q) = false := by simp
  have HQ := Hid.mk hq
  rw [hq]
  clear hq
  have hblk : ∀ b, b < w3.heap.size → b < M1 → w4.heap[b]? = w3.heap[b]? := fun b hb hne => hg4.block b hb (fun e => by have := hl3 b e.symm; omega)
  have T4 := Hid.mk (T3.out.keep (w' := w4) (fun b hb => hblk b (by omega) hb))
  have O4 := Hid.mk ho4
  have B4 : Hid (Below w.heap.size w w4) := B3.out.trans (⟨hg4.os, hg4.tape, hg4.output, hg4.size, fun b hb => hblk b (by omega) (by omega)⟩ : Below w.heap.size w3 w4)
  have s4 : M1 ≤ w4.heap.size := by have := hg4.size; omega
  have HH4 := Hid.mk (heldStringS_marks _ L.length 1 w4 O4.out.iz (by omega) (by omega))
  rw [HQ.out] at HH4
  clear hblk hl3 hm3 ho4 hg4 B3 T3 O3 s3
  go_wp2_with fail
  refine HH4.out.mono ?_
  rintro e w5 ⟨rfl, hb5⟩
  have B5 := Hid.mk (B4.out.trans (hb5.mono B4.out.size))
  have T5 := Hid.mk (T4.out.keep (w' := w5) (fun b hb => hb5.block b (by omega)))
  have O5 := Hid.mk (O4.out.grow hb5)
  have s5 : M1 ≤ w5.heap.size := by have := hb5.size; omega
  clear hb5 HH4 B4 T4 O4 s4
  go_wp2_with fail
  refine (HIO.out _).mono ?_
  rintro e w6 ⟨v6, rfl, ho6, hb6⟩
  have B6 := Hid.mk (B5.out.trans (hb6.mono B5.out.size))
  have T6 := Hid.mk (T5.out.keep (w' := w6) (fun b hb => hb6.block b (by omega)))
  have O6 := Hid.mk (O5.out.grow hb6)
  have HE6 := Hid.mk (HEQ.out _ _ _ ho6.iz T6.out.1)
  obtain ⟨a6, c6, hv6, -⟩ := ho6.iz
  subst hv6
  clear hb6 ho6 B5 T5 O5 s5 HIO
  go_wp2_with fail
  refine HE6.out.mono ?_
  rintro e w7 ⟨rfl, n7, hw7⟩
  have D7 : Below w6.heap.size w6 w7 := by rw [hw7]; exact Below.drewSelf _ _ _
  have B7 := Hid.mk (B6.out.trans (D7.mono B6.out.size))
  have O7 := Hid.mk (O6.out.grow D7)
  have HH7 := Hid.mk (heldStringS_marks _ L.length 1 w7 O7.out.iz (by omega) (by omega))
  rw [HQ.out] at HH7
  clear hw7 D7 HE6 B6 T6 O6
  go_wp2_with fail
  refine HH7.out.mono ?_
  rintro e w8 ⟨rfl, hb8⟩
  have B8 := Hid.mk (B7.out.trans (hb8.mono B7.out.size))
  clear hb8 HH7 B7 O7
  go_wp2
  go_ret
  exact ⟨rfl, B8.out⟩
end Go.Proofs.Yteomhjoodnjfbaa
