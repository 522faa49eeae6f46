/- The law FnRexLaws walked. -/
import Derived.Test.YtapniafhcagogaaDoorPk7
namespace Go.Proofs.YtapniafhcagogaaDoor
open Go.RowKit
set_option maxRecDepth 8000

theorem rl_one {W : World} {b : Nat} (hb : W.heap[b]? = some (.cells #[.int .i64 1, .string ⟨#[97]⟩, .slice none 0 0] 26 (0, 0))) : Rl W anyBlock [oneT] (.slice (some ⟨b, 0, none⟩) 1 1) :=
  Rl.lit [(oneT, .slice none 0 0)] (by simp) (by simp) trivial hb (fun p hp => by
    simp at hp
    subst hp
    exact ⟨Rl.zero _ _, by decide⟩)
theorem rl_two {W : World} {b : Nat} (x y : Tr) (vx vy : Value) (hb : W.heap[b]? = some (.cells #[.int .i64 x.k, .string x.s, vx, .int .i64 y.k, .string y.s, vy] 26 (0, 0))) (hx : Rl W anyBlock x.l vx) (hy : Rl W anyBlock y.l vy) (hxs : x.s.size ≤ maxLen) (hys : y.s.size ≤ maxLen) : Rl W anyBlock [x, y] (.slice (some ⟨b, 0, none⟩) 2 2) :=
  Rl.lit [(x, vx), (y, vy)] (by simp) (by simp) trivial hb (fun p hp => by
    simp at hp
    rcases hp with rfl | rfl
    · exact ⟨hx, hxs⟩
    · exact ⟨hy, hys⟩)
theorem empty_max : (⟨#[]⟩ : ByteArray).size ≤ maxLen := by decide

set_option maxHeartbeats 4000000 in
theorem fnRexLaws_walk (v : Value) (zs : List Int) (w : World) (h : Bs w v zs) (hT : TabB w) :
    Calls Tryd.prog 4 #[v] w fun e w' => e = .returned (.bool true) ∧ Below w.heap.size w w' := by
  have H := Hid.mk h
  clear h
  have HB := Hid.mk (big_any v zs w H.out)
  by_cases hlen : zs.length ≤ 1048576
  · have hd : decide ((1048576 : Int) < zs.length) = false := by simp; omega
    rw [hd] at HB
    clear hd
    go_enter Tryd.func4, Tryd.ntmps4
    go_wp2_with fail
    refine HB.out.mono ?_
    rintro e w1 ⟨rfl, hw⟩
    obtain rfl := hw.symm
    clear hw HB
    go_wp2_with fail
    refine (drawRex_any v zs w H.out hlen).mono ?_
    rintro e w1 ⟨r, u, s, rfl, hdr, hs6, hr1, hb1⟩
    obtain ⟨au, cu, rfl, -⟩ := hr1.len
    have A0 : Below w1.heap.size w1 (w1.alloc (.cells #[.int .i64 r.k, .string r.s, .slice au r.l.length cu] 26)) := (Below.refl _ _).alloc (Nat.le_refl _) _
    have X2 := Hid.mk (Bz3.new w1 (.int .i64 r.k) (.string r.s) (.slice au r.l.length cu))
    have R2 := Hid.mk (hr1.any.grow A0)
    have B2 := Hid.mk (hb1.trans (A0.mono hb1.size))
    have HDR := Hid.mk hdr
    clear hr1 hb1 A0 hdr
    go_wp2_with fail
    generalize w1.alloc (.cells #[.int .i64 r.k, .string r.s, .slice au r.l.length cu] 26) = W2 at X2 R2 B2 ⊢
    generalize w1.heap.size = p0 at X2 ⊢
    clear w1
    refine (drawMatches_any v zs W2 (H.out.grow B2.out) hlen).mono ?_
    rintro e w3 ⟨q, u3, s3, rfl, hdq, -, hr3, hb3⟩
    obtain ⟨a3, c3, rfl, -⟩ := hr3.len
    have A0 : Below w3.heap.size w3 (w3.alloc (.cells #[.int .i64 q.k, .string q.s, .slice a3 q.l.length c3] 26)) := (Below.refl _ _).alloc (Nat.le_refl _) _
    have A3 := hb3.trans (A0.mono hb3.size)
    have X4 := Hid.mk (X2.out.grow A3)
    have R4 := Hid.mk (R2.out.grow A3)
    have Y4 := Hid.mk (Bz3.new w3 (.int .i64 q.k) (.string q.s) (.slice a3 q.l.length c3))
    have Q4 := Hid.mk (hr3.any.grow A0)
    have B4 := Hid.mk (B2.out.trans (A3.mono B2.out.size))
    have HDQ := Hid.mk hdq
    clear hr3 hb3 A0 A3 hdq X2 R2 B2
    go_wp2_with fail
    generalize w3.alloc (.cells #[.int .i64 q.k, .string q.s, .slice a3 q.l.length c3] 26) = W4 at X4 R4 Y4 Q4 B4 ⊢
    generalize w3.heap.size = p1 at Y4 ⊢
    clear w3
    refine (at_any v zs W4 (H.out.grow B4.out) hlen).mono ?_
    rintro e w5 ⟨x, rfl, hx0, hx1, hw5⟩
    obtain rfl := hw5.symm
    obtain ⟨i, hi⟩ : ∃ i : Nat, x % ((s.size : Int) + 1) = (i : Int) := ⟨(x % ((s.size : Int) + 1)).toNat, by have := Int.emod_nonneg x (show ((s.size : Int) + 1) ≠ 0 by omega); omega⟩
    have hil : i ≤ s.size := by have := Int.emod_lt_of_pos x (show (0 : Int) < (s.size : Int) + 1 by omega); omega
    have hi' : Int.tmod x ((s.size : Int) + 1) = (i : Int) := by rw [Int.tmod_eq_emod_of_nonneg hx0]; exact hi
    have hne0 : ((s.size : Int) + 1 == 0) = false := by simp; omega
    clear hw5 hi hx0 hx1
    have HIO := Hid.mk (fun (t : Tr) (hts : t.s.size ≤ maxLen) (w' : World) (hb : Below w.heap.size w w') (u : Value) (h : Rl w' anyBlock t.l u) => endsOf_any t anyBlock u s (i : Int) w' h hts (hT.grow hb))
    have H3 := Hid.mk (three_ends (s := s) (by omega) hil)
    obtain ⟨ES, hES⟩ : ∃ E, endsL starT s (i : Int) = E := ⟨_, rfl⟩
    obtain ⟨EP, hEP⟩ : ∃ E, endsL plusT s (i : Int) = E := ⟨_, rfl⟩
    rw [hES, hEP] at H3
    have HIA := Hid.mk (HIO.out altT empty_max)
    rw [H3.out.1] at HIA
    have HIS := Hid.mk (HIO.out starT empty_max)
    rw [hES] at HIS
    have HIP := Hid.mk (HIO.out plusT empty_max)
    rw [hEP] at HIP
    clear hES hEP
    go_wp2_with fail
    have G5 : Below W4.heap.size W4 (W4.alloc (.cells #[.int .i64 1, .string ⟨#[97]⟩, .slice none 0 0] 26)) := (Below.refl _ _).alloc (Nat.le_refl _) _
    have Z5 := Hid.mk (Bz3.new W4 (.int .i64 1) (.string ⟨#[97]⟩) (.slice none 0 0))
    have S5 : (W4.alloc (.cells #[.int .i64 1, .string ⟨#[97]⟩, .slice none 0 0] 26)).heap.size = W4.heap.size + 1 := by simp
    have X5 := Hid.mk (X4.out.grow G5)
    have R5 := Hid.mk (R4.out.grow G5)
    have Y5 := Hid.mk (Y4.out.grow G5)
    have Q5 := Hid.mk (Q4.out.grow G5)
    have B5 := Hid.mk (B4.out.trans (G5.mono B4.out.size))
    clear X4 R4 Y4 Q4 B4
    generalize W4.alloc (.cells #[.int .i64 1, .string ⟨#[97]⟩, .slice none 0 0] 26) = W5 at G5 X5 R5 Y5 Q5 Z5 B5 S5 ⊢
    generalize hp2 : W4.heap.size = p2 at *
    rw [← S5]
    clear G5 hp2
    have G6 : Below W5.heap.size W5 (W5.alloc (.cells #[.int .i64 1, .string ⟨#[97]⟩, .slice none 0 0] 26)) := (Below.refl _ _).alloc (Nat.le_refl _) _
    have N6 := heap_alloc_new W5 (.cells #[.int .i64 1, .string ⟨#[97]⟩, .slice none 0 0] 26)
    have S6 : (W5.alloc (.cells #[.int .i64 1, .string ⟨#[97]⟩, .slice none 0 0] 26)).heap.size = W5.heap.size + 1 := by simp
    have X6 := Hid.mk (X5.out.grow G6)
    have R6 := Hid.mk (R5.out.grow G6)
    have Y6 := Hid.mk (Y5.out.grow G6)
    have Q6 := Hid.mk (Q5.out.grow G6)
    have Z6 := Hid.mk (Z5.out.grow G6)
    have B6 := Hid.mk (B5.out.trans (G6.mono B5.out.size))
    clear X5 R5 Y5 Q5 Z5 B5
    generalize W5.alloc (.cells #[.int .i64 1, .string ⟨#[97]⟩, .slice none 0 0] 26) = W6 at G6 N6 X6 R6 Y6 Q6 Z6 B6 S6 ⊢
    generalize W5.heap.size = b5 at N6 S6 ⊢
    clear G6
    rw [← S6]
    have R1 := rl_one N6
    have G7 : Below W6.heap.size W6 (W6.alloc (.cells #[.int .i64 1, .string ⟨#[97]⟩, .slice none 0 0, .int .i64 6, .string ⟨#[]⟩, .slice (some ⟨b5, 0, none⟩) 1 1] 26)) := (Below.refl _ _).alloc (Nat.le_refl _) _
    have N7 := heap_alloc_new W6 (.cells #[.int .i64 1, .string ⟨#[97]⟩, .slice none 0 0, .int .i64 6, .string ⟨#[]⟩, .slice (some ⟨b5, 0, none⟩) 1 1] 26)
    have X7 := Hid.mk (X6.out.grow G7)
    have R7 := Hid.mk (R6.out.grow G7)
    have Y7 := Hid.mk (Y6.out.grow G7)
    have Q7 := Hid.mk (Q6.out.grow G7)
    have Z7 := Hid.mk (Z6.out.grow G7)
    have B7 := Hid.mk (B6.out.trans (G7.mono B6.out.size))
    clear X6 R6 Y6 Q6 Z6 B6
    have RA : Hid (Rl (W6.alloc (.cells #[.int .i64 1, .string ⟨#[97]⟩, .slice none 0 0, .int .i64 6, .string ⟨#[]⟩, .slice (some ⟨b5, 0, none⟩) 1 1] 26)) anyBlock altT.l (.slice (some ⟨W6.heap.size, 0, none⟩) 2 2)) := rl_two oneT starT (.slice none 0 0) (.slice (some ⟨b5, 0, none⟩) 1 1) N7 (Rl.zero _ _) (R1.grow G7) (by decide) (by decide)
    clear R1 G7 N7 N6
    generalize W6.alloc (.cells #[.int .i64 1, .string ⟨#[97]⟩, .slice none 0 0, .int .i64 6, .string ⟨#[]⟩, .slice (some ⟨b5, 0, none⟩) 1 1] 26) = W7 at X7 R7 Y7 Q7 Z7 B7 RA ⊢
    generalize W6.heap.size = b6 at RA ⊢
    refine (HIA.out W7 B7.out _ RA.out).mono ?_
    rintro e w8 ⟨v8, rfl, ho8, hb8⟩
    have X8 := Hid.mk (X7.out.grow hb8)
    have R8 := Hid.mk (R7.out.grow hb8)
    have Y8 := Hid.mk (Y7.out.grow hb8)
    have Q8 := Hid.mk (Q7.out.grow hb8)
    have Z8 := Hid.mk (Z7.out.grow hb8)
    have B8 := Hid.mk (B7.out.trans (hb8.mono B7.out.size))
    clear X7 R7 Y7 Q7 Z7 B7
    have IA8 := Hid.mk (OwnI.iz ho8)
    obtain ⟨a8, c8, h8v, -⟩ := OwnI.iz ho8
    subst h8v
    rw [List.length_map] at IA8 ⊢
    clear ho8 hb8 RA HIA
    have z0 := Z8.out.c0
    have z1 := Z8.out.c1
    have z2 := Z8.out.c2
    go_wp2_with fail
    clear z0 z1 z2
    have G : Below w8.heap.size w8 (w8.alloc (.cells #[.int .i64 1, .string ⟨#[97]⟩, .slice none 0 0] 26)) := (Below.refl _ _).alloc (Nat.le_refl _) _
    have N := heap_alloc_new w8 (.cells #[.int .i64 1, .string ⟨#[97]⟩, .slice none 0 0] 26)
    have X9 := Hid.mk (X8.out.grow G)
    have R9 := Hid.mk (R8.out.grow G)
    have Y9 := Hid.mk (Y8.out.grow G)
    have Q9 := Hid.mk (Q8.out.grow G)
    have Z9 := Hid.mk (Z8.out.grow G)
    have B9 := Hid.mk (B8.out.trans (G.mono B8.out.size))
    have IA9 := Hid.mk (IA8.out.grow G)
    clear X8 R8 Y8 Q8 Z8 B8 IA8
    have RS : Hid (Rl (w8.alloc (.cells #[.int .i64 1, .string ⟨#[97]⟩, .slice none 0 0] 26)) anyBlock starT.l (.slice (some ⟨w8.heap.size, 0, none⟩) 1 1)) := rl_one N
    clear G N
    generalize w8.alloc (.cells #[.int .i64 1, .string ⟨#[97]⟩, .slice none 0 0] 26) = W9 at X9 R9 Y9 Q9 Z9 B9 IA9 RS ⊢
    generalize w8.heap.size = bb at RS ⊢
    refine (HIS.out W9 B9.out _ RS.out).mono ?_
    rintro e w10 ⟨v10, rfl, ho, hb⟩
    have X10 := Hid.mk (X9.out.grow hb)
    have R10 := Hid.mk (R9.out.grow hb)
    have Y10 := Hid.mk (Y9.out.grow hb)
    have Q10 := Hid.mk (Q9.out.grow hb)
    have Z10 := Hid.mk (Z9.out.grow hb)
    have B10 := Hid.mk (B9.out.trans (hb.mono B9.out.size))
    have IA10 := Hid.mk (IA9.out.grow hb)
    clear X9 R9 Y9 Q9 Z9 B9 IA9
    have IS10 := Hid.mk (OwnI.iz ho)
    obtain ⟨a10, c10, hv, -⟩ := OwnI.iz ho
    subst hv
    rw [List.length_map] at IS10 ⊢
    clear ho hb RS HIS
    have z0 := Z10.out.c0
    have z1 := Z10.out.c1
    have z2 := Z10.out.c2
    go_wp2_with fail
    clear z0 z1 z2
    have G : Below w10.heap.size w10 (w10.alloc (.cells #[.int .i64 1, .string ⟨#[97]⟩, .slice none 0 0] 26)) := (Below.refl _ _).alloc (Nat.le_refl _) _
    have N := heap_alloc_new w10 (.cells #[.int .i64 1, .string ⟨#[97]⟩, .slice none 0 0] 26)
    have X11 := Hid.mk (X10.out.grow G)
    have R11 := Hid.mk (R10.out.grow G)
    have Y11 := Hid.mk (Y10.out.grow G)
    have Q11 := Hid.mk (Q10.out.grow G)
    have Z11 := Hid.mk (Z10.out.grow G)
    have B11 := Hid.mk (B10.out.trans (G.mono B10.out.size))
    have IA11 := Hid.mk (IA10.out.grow G)
    have IS11 := Hid.mk (IS10.out.grow G)
    clear X10 R10 Y10 Q10 Z10 B10 IA10 IS10
    have RS : Hid (Rl (w10.alloc (.cells #[.int .i64 1, .string ⟨#[97]⟩, .slice none 0 0] 26)) anyBlock plusT.l (.slice (some ⟨w10.heap.size, 0, none⟩) 1 1)) := rl_one N
    clear G N
    generalize w10.alloc (.cells #[.int .i64 1, .string ⟨#[97]⟩, .slice none 0 0] 26) = W11 at X11 R11 Y11 Q11 Z11 B11 IA11 IS11 RS ⊢
    generalize w10.heap.size = bb at RS ⊢
    refine (HIP.out W11 B11.out _ RS.out).mono ?_
    rintro e w12 ⟨v12, rfl, ho, hb⟩
    have X12 := Hid.mk (X11.out.grow hb)
    have R12 := Hid.mk (R11.out.grow hb)
    have Y12 := Hid.mk (Y11.out.grow hb)
    have Q12 := Hid.mk (Q11.out.grow hb)
    have Z12 := Hid.mk (Z11.out.grow hb)
    have B12 := Hid.mk (B11.out.trans (hb.mono B11.out.size))
    have IA12 := Hid.mk (IA11.out.grow hb)
    have IS12 := Hid.mk (IS11.out.grow hb)
    clear X11 R11 Y11 Q11 Z11 B11 IA11 IS11
    have IP12 := Hid.mk (OwnI.iz ho)
    obtain ⟨a12, c12, hv, -⟩ := OwnI.iz ho
    subst hv
    rw [List.length_map] at IP12 ⊢
    clear ho hb RS HIP
    have HS12 := Hid.mk (sameInts_same _ _ _ w12 IA12.out IS12.out)
    have hl3 : ((ES.length : Int) != (EP.length : Int) + 1) = false := by have := H3.out.2.1; simp; omega
    have hcs : ((ES.map fun (n : Nat) => (n : Int)).contains (i : Int)) = true := by rw [map_contains]; exact H3.out.2.2
    go_wp2_with fail
    refine HS12.out.mono ?_
    rintro e w13 ⟨rfl, n13, hw⟩
    have D : Below w12.heap.size w12 w13 := by rw [hw]; exact Below.drewSelf _ _ _
    have X13 := Hid.mk (X12.out.grow D)
    have R13 := Hid.mk (R12.out.grow D)
    have Y13 := Hid.mk (Y12.out.grow D)
    have Q13 := Hid.mk (Q12.out.grow D)
    have Z13 := Hid.mk (Z12.out.grow D)
    have B13 := Hid.mk (B12.out.trans (D.mono B12.out.size))
    have IA13 := Hid.mk (IA12.out.grow D)
    have IS13 := Hid.mk (IS12.out.grow D)
    have IP13 := Hid.mk (IP12.out.grow D)
    clear hw D
    clear X12 R12 Y12 Q12 Z12 B12 IA12 IS12 IP12
    have HH13 := Hid.mk (has_any _ _ (i : Int) w13 IS13.out)
    rw [hcs] at HH13
    have hepl : (EP.length : Int) + 1 ≤ 9223372036854775807 := by
      obtain ⟨_, _, _, h1, h2, _⟩ := IS13.out
      rw [List.length_map] at h1
      unfold maxLen at h2
      have := H3.out.2.1
      omega
    clear HS12 hcs
    go_wp2_with fail
    refine HH13.out.mono ?_
    rintro e w14 ⟨rfl, hw⟩
    obtain rfl := hw.symm
    clear hw HH13 hl3 hepl IA13 IS13 IP13 Z13 H3
    have HXR := Hid.mk (HIO.out r HDR.out.size)
    have HXQ := Hid.mk (HIO.out q HDQ.out.size)
    have x0 := X13.out.c0
    have x1 := X13.out.c1
    have x2 := X13.out.c2
    go_wp2_with fail
    clear x0 x1 x2
    refine (HXR.out w13 B13.out _ R13.out).mono ?_
    rintro e w15 ⟨v15, rfl, ho, hb⟩
    have X15 := Hid.mk (X13.out.grow hb)
    have R15 := Hid.mk (R13.out.grow hb)
    have Y15 := Hid.mk (Y13.out.grow hb)
    have Q15 := Hid.mk (Q13.out.grow hb)
    have B15 := Hid.mk (B13.out.trans (hb.mono B13.out.size))
    clear X13 R13 Y13 Q13 B13
    have IX15 := Hid.mk (OwnI.iz ho)
    obtain ⟨a15, c15, hv, -⟩ := OwnI.iz ho
    subst hv
    rw [List.length_map] at IX15 ⊢
    clear ho hb HXR
    have x0 := Y15.out.c0
    have x1 := Y15.out.c1
    have x2 := Y15.out.c2
    go_wp2_with fail
    clear x0 x1 x2
    refine (HXQ.out w15 B15.out _ Q15.out).mono ?_
    rintro e w16 ⟨v16, rfl, ho, hb⟩
    have X16 := Hid.mk (X15.out.grow hb)
    have R16 := Hid.mk (R15.out.grow hb)
    have Y16 := Hid.mk (Y15.out.grow hb)
    have Q16 := Hid.mk (Q15.out.grow hb)
    have B16 := Hid.mk (B15.out.trans (hb.mono B15.out.size))
    have IX16 := Hid.mk (IX15.out.grow hb)
    clear X15 R15 Y15 Q15 B15 IX15
    have IY16 := Hid.mk (OwnI.iz ho)
    obtain ⟨a16, c16, hv, -⟩ := OwnI.iz ho
    subst hv
    rw [List.length_map] at IY16 ⊢
    clear ho hb HXQ
    have x0 := X16.out.c0
    have x1 := X16.out.c1
    have x2 := X16.out.c2
    have y0 := Y16.out.c0
    have y1 := Y16.out.c1
    have y2 := Y16.out.c2
    go_wp2_with fail
    clear x0 x1 x2 y0 y1 y2
    have G : Below w16.heap.size w16 (w16.alloc (.cells #[.int .i64 r.k, .string r.s, .slice au r.l.length cu, .int .i64 q.k, .string q.s, .slice a3 q.l.length c3] 26)) := (Below.refl _ _).alloc (Nat.le_refl _) _
    have N := heap_alloc_new w16 (.cells #[.int .i64 r.k, .string r.s, .slice au r.l.length cu, .int .i64 q.k, .string q.s, .slice a3 q.l.length c3] 26)
    have X17 := Hid.mk (X16.out.grow G)
    have R17 := Hid.mk (R16.out.grow G)
    have Y17 := Hid.mk (Y16.out.grow G)
    have Q17 := Hid.mk (Q16.out.grow G)
    have B17 := Hid.mk (B16.out.trans (G.mono B16.out.size))
    have IX17 := Hid.mk (IX16.out.grow G)
    have IY17 := Hid.mk (IY16.out.grow G)
    have RB17 := rl_two r q (.slice au r.l.length cu) (.slice a3 q.l.length c3) N R17.out Q17.out HDR.out.size HDQ.out.size
    have S17 : (w16.alloc (.cells #[.int .i64 r.k, .string r.s, .slice au r.l.length cu, .int .i64 q.k, .string q.s, .slice a3 q.l.length c3] 26)).heap.size = w16.heap.size + 1 := by simp
    clear G N R16 X16 Y16 Q16 B16 IX16 IY16
    generalize hbb : w16.heap.size = bb at *
    generalize w16.alloc (.cells #[.int .i64 r.k, .string r.s, .slice au r.l.length cu, .int .i64 q.k, .string q.s, .slice a3 q.l.length c3] 26) = W17 at X17 R17 Y17 Q17 B17 IX17 IY17 RB17 S17 ⊢
    clear hbb
    have G : Below W17.heap.size W17 (W17.alloc (.cells #[.int .i64 5, .string ⟨#[]⟩, .slice (some ⟨bb, 0, none⟩) 2 2] 26)) := (Below.refl _ _).alloc (Nat.le_refl _) _
    have V18 := Hid.mk (Bz3.new W17 (.int .i64 5) (.string ⟨#[]⟩) (.slice (some ⟨bb, 0, none⟩) 2 2))
    have RB18 : Hid (Rl (W17.alloc (.cells #[.int .i64 5, .string ⟨#[]⟩, .slice (some ⟨bb, 0, none⟩) 2 2] 26)) anyBlock (Tr.node 5 ⟨#[]⟩ [r, q]).l (.slice (some ⟨bb, 0, none⟩) 2 2)) := RB17.grow G
    have X18 := Hid.mk (X17.out.grow G)
    have R18 := Hid.mk (R17.out.grow G)
    have Y18 := Hid.mk (Y17.out.grow G)
    have Q18 := Hid.mk (Q17.out.grow G)
    have B18 := Hid.mk (B17.out.trans (G.mono B17.out.size))
    have IX18 := Hid.mk (IX17.out.grow G)
    have IY18 := Hid.mk (IY17.out.grow G)
    clear G RB17 X17 R17 Y17 Q17 B17 IX17 IY17
    generalize W17.alloc (.cells #[.int .i64 5, .string ⟨#[]⟩, .slice (some ⟨bb, 0, none⟩) 2 2] 26) = W18 at X18 R18 Y18 Q18 B18 IX18 IY18 V18 RB18 ⊢
    rw [S17] at V18
    clear S17
    have HSR := Hid.mk (specRexOk_any (Tr.node 5 ⟨#[]⟩ [r, q]) anyBlock _ W18 RB18.out empty_max)
    refine HSR.out.mono ?_
    rintro e w19 ⟨rfl, hb⟩
    have X19 := Hid.mk (X18.out.grow hb)
    have R19 := Hid.mk (R18.out.grow hb)
    have Y19 := Hid.mk (Y18.out.grow hb)
    have Q19 := Hid.mk (Q18.out.grow hb)
    have B19 := Hid.mk (B18.out.trans (hb.mono B18.out.size))
    have IX19 := Hid.mk (IX18.out.grow hb)
    have IY19 := Hid.mk (IY18.out.grow hb)
    have V19 := Hid.mk (V18.out.grow hb)
    have RB19 := Hid.mk (RB18.out.grow hb)
    clear hb HSR
    clear X18 R18 Y18 Q18 B18 IX18 IY18 V18 RB18
    have HIB := Hid.mk (HIO.out (Tr.node 5 ⟨#[]⟩ [r, q]) empty_max)
    cases hok : okR (Tr.node 5 ⟨#[]⟩ [r, q]) with
    | false =>
      have hE0 : endsL (Tr.node 5 ⟨#[]⟩ [r, q]) s (i : Int) = [] := by
        unfold endsL
        rw [if_neg (fun h => by rw [hok] at h; cases h.1)]
      rw [hE0] at HIB
      have HRO := Hid.mk (implRexOk_any r anyBlock _ w19 R19.out HDR.out.size)
      rw [HDR.out.okR] at HRO
      have x0 := X19.out.c0
      have x1 := X19.out.c1
      have x2 := X19.out.c2
      clear hok hE0
      go_wp2_with fail
      refine HRO.out.mono ?_
      rintro e w20 ⟨rfl, hb⟩
      have V20 := Hid.mk (V19.out.grow hb)
      have RB20 := Hid.mk (RB19.out.grow hb)
      have B20 := Hid.mk (B19.out.trans (hb.mono B19.out.size))
      clear hb HRO x0 x1 x2 X19 R19 Y19 Q19 B19 IX19 IY19 V19 RB19
      have x0 := V20.out.c0
      have x1 := V20.out.c1
      have x2 := V20.out.c2
      go_wp2_with fail
      refine (HIB.out w20 B20.out _ RB20.out).mono ?_
      rintro e w21 ⟨v21, rfl, ho, hb⟩
      have B21 := Hid.mk (B20.out.trans (hb.mono B20.out.size))
      obtain ⟨a21, c21, hv, -⟩ := OwnI.iz ho
      subst hv
      simp only [List.map_nil, List.length_nil]
      clear ho hb x0 x1 x2 V20 RB20 B20 HIB
      go_wp2
      go_ret
      exact ⟨rfl, B21.out⟩
    | true =>
      have HEND := Hid.mk (fun (k : Nat) (hk : k ≤ s.size) => both_ends (s := s) HDR.out.okR HDQ.out.okR hok (by omega) (i := i) hil hk)
      have x0 := V19.out.c0
      have x1 := V19.out.c1
      have x2 := V19.out.c2
      go_wp2_with fail
      refine (HIB.out w19 B19.out _ RB19.out).mono ?_
      rintro e w20 ⟨v20, rfl, ho, hb⟩
      have IX20 := Hid.mk (IX19.out.grow hb)
      have IY20 := Hid.mk (IY19.out.grow hb)
      have B20 := Hid.mk (B19.out.trans (hb.mono B19.out.size))
      have IZ20 := Hid.mk (OwnI.iz ho)
      obtain ⟨a20, c20, hv, -⟩ := OwnI.iz ho
      subst hv
      obtain ⟨EX, hEX⟩ : ∃ E, endsL r s (i : Int) = E := ⟨_, rfl⟩
      obtain ⟨EY, hEY⟩ : ∃ E, endsL q s (i : Int) = E := ⟨_, rfl⟩
      obtain ⟨EZ, hEZ⟩ : ∃ E, endsL (Tr.node 5 ⟨#[]⟩ [r, q]) s (i : Int) = E := ⟨_, rfl⟩
      simp only [hEX, hEY, hEZ] at HEND IX20 IY20 IZ20 ⊢
      simp only [List.length_map] at IX20 IY20 IZ20 ⊢
      clear ho hb x0 x1 x2 hok hEX hEY hEZ HIB X19 R19 Y19 Q19 B19 IX19 IY19 V19 RB19 HIO
      go_wp2
      go_loop [16] (fun p => ∃ k : Nat, k ≤ s.size + 1 ∧ p = .int .i64 k) (fun p => s.size + 1 - (intOf p).toNat)
      case atStart => exact ⟨0, Nat.zero_le _, rfl⟩
      case round =>
        obtain ⟨k, hk, rfl⟩ := hrel
        by_cases hlt : (k : Int) ≤ (s.size : Int)
        · have HZ := Hid.mk (has_any _ _ (k : Int) w20 IZ20.out)
          have HXh := Hid.mk (has_any _ _ (k : Int) w20 IX20.out)
          have HYh := Hid.mk (has_any _ _ (k : Int) w20 IY20.out)
          rw [HEND.out k (by omega)] at HZ
          generalize ((EX.map fun (n : Nat) => (n : Int)).contains (k : Int)) = bx at HZ HXh
          generalize ((EY.map fun (n : Nat) => (n : Int)).contains (k : Int)) = by' at HZ HYh
          cases bx with
          | true =>
            rw [Bool.true_or] at HZ
            go_wp2_with fail
            refine HZ.out.mono ?_
            rintro e w21 ⟨rfl, hw⟩
            obtain rfl := hw.symm
            clear hw
            go_wp2_with fail
            refine HXh.out.mono ?_
            rintro e w21 ⟨rfl, hw⟩
            obtain rfl := hw.symm
            clear hw
            go_wp2
            go_round
            case rel => exact ⟨k + 1, by omega, by go_num⟩
            case measure => simp [intOf]; omega
          | false =>
            rw [Bool.false_or] at HZ
            go_wp2_with fail
            refine HZ.out.mono ?_
            rintro e w21 ⟨rfl, hw⟩
            obtain rfl := hw.symm
            clear hw
            go_wp2_with fail
            refine HXh.out.mono ?_
            rintro e w21 ⟨rfl, hw⟩
            obtain rfl := hw.symm
            clear hw
            go_wp2_with fail
            refine HYh.out.mono ?_
            rintro e w21 ⟨rfl, hw⟩
            obtain rfl := hw.symm
            clear hw
            have hbb : (by' != by') = false := by simp
            go_wp2
            go_round
            case rel => exact ⟨k + 1, by omega, by go_num⟩
            case measure => simp [intOf]; omega
        · go_wp2
          go_ret
          exact ⟨rfl, B20.out⟩
  · have hd : decide ((1048576 : Int) < zs.length) = true := by simp; omega
    rw [hd] at HB
    clear hd
    go_enter Tryd.func4, Tryd.ntmps4
    go_wp2_with fail
    refine HB.out.mono ?_
    rintro e w1 ⟨rfl, hw⟩
    obtain rfl := hw.symm
    go_wp2
    go_ret
    exact ⟨rfl, Below.refl _ _⟩
end Go.Proofs.YtapniafhcagogaaDoor
