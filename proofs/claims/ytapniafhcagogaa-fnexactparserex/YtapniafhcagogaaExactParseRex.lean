/- The law FnExactParseRex walked: at every text the program's ParseRex answers what the document's model of it answers, in memory of its own. -/
import Derived.Test.YtapniafhcagogaaRexParS
import Derived.Test.YtapniafhcagogaaMarkRex
namespace Go.Proofs.Ytapniafhcagogaa
open Go.RowKit
set_option maxRecDepth 8000

theorem IsTx.few {s : ByteArray} {t : Tr} (h : IsTx s t) : 1 + 2 * cntL t.l ≤ 1000 := by
  obtain ⟨hd, hc, ho⟩ := (okR_iff t).1 h.1
  have := cnt_eq t
  omega

set_option maxHeartbeats 1000000 in
theorem fnExactParseRex_yes (s : ByteArray) (t : Tr) (w : World) (h : IsTx s t) :
    Calls Try.prog 7 #[.string s] w fun e w' => e = .returned (.bool true) ∧ Below w.heap.size w w' := by
  have hsz := h.size
  have hfew := h.few
  have HS := Hid.mk (fun w' => specParse_yes s t w' h)
  have HP := Hid.mk (fun w' => implParse_yes s t w' h)
  have HEQ := Hid.mk (fun (w' : World) (B C : Nat → Prop) (u u' : Value) (h : Rl w' B t.l u) (h' : Rl w' C t.l u') => eqRex_any t B C u u' w' h h')
  have HMK : Hid (∀ (w' : World) (k : Int) (s : ByteArray) (B : Nat → Prop) (u : Value), Sh w' B t.l u → Calls Try.prog 21 #[rx k s u, .int .i64 1] w' fun e w'' => e = .returned (.int .i64 ((1 + 2 * cntL t.l : Nat) : Int)) ∧ ∃ w0, Below w'.heap.size w' w0 ∧ MkPost t.l 1 u w0 w'') := fun w' k s B u h => markRex_any t k s 1 B u w' h (by omega)
  have HHE : Hid (∀ (w' : World) (k : Int) (s : ByteArray) (B : Nat → Prop) (u : Value), Rl w' B (markedL t.l 1) u → Calls Try.prog 22 #[rx k s u, .int .i64 1] w' fun e w'' => e = .returned (.int .i64 ((1 + 2 * cntL t.l : Nat) : Int)) ∧ Below w'.heap.size w' w'') := fun w' k s B u h => heldRex_any t k s 1 B u w' h (by omega)
  obtain ⟨n, hn⟩ : ∃ n, 1 + 2 * cntL t.l = n := ⟨_, rfl⟩
  rw [hn] at HMK HHE
  obtain ⟨tk, htk⟩ : ∃ tk, t.k = tk := ⟨_, rfl⟩
  obtain ⟨ts, hts⟩ : ∃ ts, t.s = ts := ⟨_, rfl⟩
  obtain ⟨l, hl⟩ : ∃ l, t.l = l := ⟨_, rfl⟩
  rw [htk, hts, hl] at HS HP HEQ
  rw [hl] at HMK HHE
  have hs1 : ¬ (1048576 : Int) < (s.size : Int) := by omega
  have hn0 : ¬ ((n : Int) < 0) := by omega
  clear h hfew hsz hn htk hts hl
  go_enter Try.func7, Try.ntmps7
  go_wp2_with fail
  refine (HS.out _).mono ?_
  rintro e w1 ⟨u1, rfl, ho1, hz1, hb1⟩
  obtain ⟨a1, c1, rfl⟩ := ho1.value
  have X0 := Hid.mk (Bx3.new w1 (.int .i64 tk) (.string ts) (.slice a1 l.length c1))
  have A0 : Below w1.heap.size w1 (w1.alloc (.cells #[.int .i64 tk, .string ts, .slice a1 l.length c1] 26)) := (Below.refl _ _).alloc (Nat.le_refl _) _
  have R1 := Hid.mk ((ho1.rl.imp (C := fun b => b < w1.heap.size) (fun b _ hb => hb)).grow A0)
  have B1 := Hid.mk (hb1.trans (A0.mono hb1.size))
  have z1 : Hid ((w1.alloc (.cells #[.int .i64 tk, .string ts, .slice a1 l.length c1] 26)).heap.size = w1.heap.size + 1) := by show _ = _; simp
  have q1 := Hid.mk hb1.size
  clear ho1 hz1 hb1 HS A0
  go_wp2_with fail
  generalize w1.alloc (.cells #[.int .i64 tk, .string ts, .slice a1 l.length c1] 26) = W1 at X0 R1 B1 z1 ⊢
  generalize w1.heap.size = p0 at X0 R1 z1 q1 ⊢
  clear w1
  refine (HP.out _).mono ?_
  rintro e w2 ⟨u2, rfl, ho2, hz2, hb2⟩
  obtain ⟨a2, c2, rfl⟩ := ho2.value
  have Y0 := Hid.mk (Bx3.new w2 (.int .i64 tk) (.string ts) (.slice a2 l.length c2))
  have A0 : Below w2.heap.size w2 (w2.alloc (.cells #[.int .i64 tk, .string ts, .slice a2 l.length c2] 26)) := (Below.refl _ _).alloc (Nat.le_refl _) _
  have X2 : Hid (Bx3 (w2.alloc (.cells #[.int .i64 tk, .string ts, .slice a2 l.length c2] 26)) p0 (.int .i64 tk) (.string ts) (.slice a1 l.length c1)) := (X0.out.kept (hb2.block _ X0.out.lt)).kept (A0.block _ (Nat.lt_of_lt_of_le X0.out.lt hb2.size))
  have R2 := Hid.mk ((R1.out.grow hb2).grow A0)
  have O2 := Hid.mk ((ho2.there.grow A0).mono (C := fun b => p0 < b ∧ b < w2.heap.size) (fun b hb => ⟨by have h1 := hb.1; have h2 := z1.out; unfold newFrom at h1; omega, hb.2⟩))
  have B2 := Hid.mk (B1.out.trans ((hb2.trans (A0.mono hb2.size)).mono B1.out.size))
  have q2 : p0 < w2.heap.size := Nat.lt_of_lt_of_le X0.out.lt hb2.size
  have z2 : Hid (w.heap.size ≤ p0) := q1.out
  have x0 := (X0.out.kept (hb2.block _ X0.out.lt)).c0
  have x1 := (X0.out.kept (hb2.block _ X0.out.lt)).c1
  have x2 := (X0.out.kept (hb2.block _ X0.out.lt)).c2
  clear ho2 hz2 hb2 A0 X0 R1 B1 z1 q1
  go_wp2_with fail
  generalize w2.alloc (.cells #[.int .i64 tk, .string ts, .slice a2 l.length c2] 26) = W2 at Y0 X2 R2 O2 B2 ⊢
  have Q2 := Hid.mk q2
  clear x0 x1 x2 q2
  generalize w2.heap.size = p1 at Y0 O2 Q2 ⊢
  clear w2
  refine (HEQ.out W2 _ _ _ _ O2.out.rl R2.out).mono ?_
  rintro e w3 ⟨rfl, hb3⟩
  have X3 := Hid.mk (X2.out.kept (hb3.block _ X2.out.lt))
  have Y3 := Hid.mk (Y0.out.kept (hb3.block _ Y0.out.lt))
  have O3 := Hid.mk (O2.out.grow hb3)
  have R3 := Hid.mk (R2.out.grow hb3)
  have B3 := Hid.mk (B2.out.trans (hb3.mono B2.out.size))
  have y0 := Y3.out.c0
  have y1 := Y3.out.c1
  have y2 := Y3.out.c2
  clear hb3 X2 Y0 O2 R2 B2 W1 W2
  go_wp2_with fail
  refine (HMK.out w3 tk ts _ _ O3.out.sh).mono ?_
  rintro e w4 ⟨rfl, w3', hb3', hmk⟩
  have hO := O3.out.grow hb3'
  have T4 := hmk.2.1 _ hO.sh
  have O4 := Hid.mk (hmk.2.2 _ hO)
  have X4 := Hid.mk ((X3.out.kept (hb3'.block _ X3.out.lt)).kept (T4.block p0 (Nat.lt_of_lt_of_le X3.out.lt hb3'.size) (fun h => by have := h.1; omega)))
  have Y4 := Hid.mk ((Y3.out.kept (hb3'.block _ Y3.out.lt)).kept (T4.block p1 (Nat.lt_of_lt_of_le Y3.out.lt hb3'.size) (fun h => by have := h.2; omega)))
  have R4 := Hid.mk ((R3.out.grow hb3').kept (w' := w4) (fun b hb hl => T4.block b hl (fun h => by have := h.1; omega)))
  have B3' := B3.out.trans (hb3'.mono B3.out.size)
  have B4 := Hid.mk (B3'.trans (T4.toBelow B3'.size (fun b hb => by have := hb.1; have := z2.out; omega)))
  have y0' := Y4.out.c0
  have y1' := Y4.out.c1
  have y2' := Y4.out.c2
  clear y0 y1 y2 hO T4 hmk hb3' B3' X3 Y3 R3 B3 O3 w3'
  go_wp2_with fail
  refine (HHE.out w4 tk ts _ _ O4.out.rl).mono ?_
  rintro e w5 ⟨rfl, hb5⟩
  have X5 := Hid.mk (X4.out.kept (hb5.block _ X4.out.lt))
  have Y5 := Hid.mk (Y4.out.kept (hb5.block _ Y4.out.lt))
  have O5 := Hid.mk (O4.out.grow hb5)
  have R5 := Hid.mk (R4.out.grow hb5)
  have B5 := Hid.mk (B4.out.trans (hb5.mono B4.out.size))
  clear y0' y1' y2' hb5 X4 Y4 O4 R4 B4
  go_wp2_with fail
  refine (HP.out w5).mono ?_
  rintro e w6 ⟨u6, rfl, ho6, hz6, hb6⟩
  obtain ⟨a6, c6, rfl⟩ := ho6.value
  have A0 : Below w6.heap.size w6 (w6.alloc (.cells #[.int .i64 tk, .string ts, .slice a6 l.length c6] 26)) := (Below.refl _ _).alloc (Nat.le_refl _) _
  have A6 := hb6.trans (A0.mono hb6.size)
  have X6 := Hid.mk (X5.out.kept (hb6.block _ X5.out.lt))
  have q6 : p0 < w6.heap.size := X6.out.lt
  have Y6 := Hid.mk (Y5.out.kept (A6.block _ Y5.out.lt))
  have O6 := Hid.mk (O5.out.grow A6)
  have R6 := Hid.mk (R5.out.grow A6)
  have S6 := Hid.mk (ho6.rl.grow A0)
  have B6 := Hid.mk (B5.out.trans (A6.mono B5.out.size))
  have x0 := X6.out.c0
  have x1 := X6.out.c1
  have x2 := X6.out.c2
  clear ho6 hz6 hb6 A0 A6 X5 Y5 O5 R5 B5
  go_wp2_with fail
  generalize w6.alloc (.cells #[.int .i64 tk, .string ts, .slice a6 l.length c6] 26) = W6 at Y6 O6 R6 S6 B6 ⊢
  clear x0 x1 x2 q6 X6
  refine (HEQ.out W6 _ _ _ _ S6.out R6.out).mono ?_
  rintro e w7 ⟨rfl, hb7⟩
  have Y7 := Hid.mk (Y6.out.kept (hb7.block _ Y6.out.lt))
  have O7 := Hid.mk (O6.out.grow hb7)
  have B7 := Hid.mk (B6.out.trans (hb7.mono B6.out.size))
  have y0 := Y7.out.c0
  have y1 := Y7.out.c1
  have y2 := Y7.out.c2
  clear hb7 Y6 O6 R6 S6 B6 W6
  go_wp2_with fail
  refine (HHE.out w7 tk ts _ _ O7.out.rl).mono ?_
  rintro e w8 ⟨rfl, hb8⟩
  have B8 := B7.out.trans (hb8.mono B7.out.size)
  clear hb8 y0 y1 y2 O7 Y7 B7
  go_wp2
  go_ret
  exact ⟨rfl, B8⟩

set_option maxHeartbeats 1000000 in
theorem fnExactParseRex_no (s : ByteArray) (w : World) (hsz : s.size ≤ 1048576) (hno : ∀ t, ¬ IsTx s t) :
    Calls Try.prog 7 #[.string s] w fun e w' => e = .returned (.bool true) ∧ Below w.heap.size w w' := by
  have HS := Hid.mk (fun w' => specParse_no s w' hsz hno)
  have HP := Hid.mk (fun w' => implParse_no s w' hsz hno)
  have HEQ := Hid.mk (fun (w' : World) => eqRex_any (.node 0 ⟨#[]⟩ []) anyBlock anyBlock (.slice none 0 0) (.slice none 0 0) w' (Rl.zero _ _) (Rl.zero _ _))
  have HMK : Hid (∀ (w' : World) (k : Int) (s : ByteArray), Calls Try.prog 21 #[rx k s (.slice none 0 0), .int .i64 1] w' fun e w'' => e = .returned (.int .i64 1) ∧ Below w'.heap.size w' w'') := fun w' k s => by
    refine (markRex_any (.node 0 ⟨#[]⟩ []) k s 1 (fun _ => False) (.slice none 0 0) w' (.empty none 0 (by simp) fun _ => rfl) (by decide)).mono ?_
    rintro e w'' ⟨rfl, w0, hb, hm⟩
    have := hm.2.1 (fun _ => False) (.empty none 0 (by simp) fun _ => rfl)
    exact ⟨rfl, hb.trans (this.toBelow hb.size (fun _ h => h.elim))⟩
  have HHE : Hid (∀ (w' : World) (k : Int) (s : ByteArray), Calls Try.prog 22 #[rx k s (.slice none 0 0), .int .i64 1] w' fun e w'' => e = .returned (.int .i64 1) ∧ Below w'.heap.size w' w'') := fun w' k s => heldRex_any (.node 0 ⟨#[]⟩ []) k s 1 anyBlock (.slice none 0 0) w' (Rl.zero _ _) (by decide)
  have hs1 : ¬ (1048576 : Int) < (s.size : Int) := by omega
  clear hno
  go_enter Try.func7, Try.ntmps7
  go_wp2_with fail
  refine (HS.out _).mono ?_
  rintro e w1 ⟨rfl, hb1⟩
  have X0 := Hid.mk (Bx3.new w1 (.int .i64 0) (.string ⟨#[]⟩) (.slice none 0 0))
  have A0 : Below w1.heap.size w1 (w1.alloc (.cells #[.int .i64 0, .string ⟨#[]⟩, .slice none 0 0] 26)) := (Below.refl _ _).alloc (Nat.le_refl _) _
  have B1 := Hid.mk (hb1.trans (A0.mono hb1.size))
  clear hb1 HS A0
  go_wp2_with fail
  generalize w1.alloc (.cells #[.int .i64 0, .string ⟨#[]⟩, .slice none 0 0] 26) = W1 at X0 B1 ⊢
  generalize w1.heap.size = p0 at X0 ⊢
  clear w1
  refine (HP.out _).mono ?_
  rintro e w2 ⟨rfl, hb2⟩
  have Y0 := Hid.mk (Bx3.new w2 (.int .i64 0) (.string ⟨#[]⟩) (.slice none 0 0))
  have A0 : Below w2.heap.size w2 (w2.alloc (.cells #[.int .i64 0, .string ⟨#[]⟩, .slice none 0 0] 26)) := (Below.refl _ _).alloc (Nat.le_refl _) _
  have A2 := hb2.trans (A0.mono hb2.size)
  have X2 := Hid.mk (X0.out.kept (A2.block _ X0.out.lt))
  have B2 := Hid.mk (B1.out.trans (A2.mono B1.out.size))
  have q2 : p0 < w2.heap.size := Nat.lt_of_lt_of_le X0.out.lt hb2.size
  have x0 := (X0.out.kept (hb2.block _ X0.out.lt)).c0
  have x1 := (X0.out.kept (hb2.block _ X0.out.lt)).c1
  have x2 := (X0.out.kept (hb2.block _ X0.out.lt)).c2
  clear hb2 A0 A2 X0 B1
  go_wp2_with fail
  generalize w2.alloc (.cells #[.int .i64 0, .string ⟨#[]⟩, .slice none 0 0] 26) = W2 at Y0 X2 B2 ⊢
  clear x0 x1 x2 q2
  generalize w2.heap.size = p1 at Y0 ⊢
  clear w2
  refine (HEQ.out W2).mono ?_
  rintro e w3 ⟨rfl, hb3⟩
  have X3 := Hid.mk (X2.out.kept (hb3.block _ X2.out.lt))
  have Y3 := Hid.mk (Y0.out.kept (hb3.block _ Y0.out.lt))
  have B3 := Hid.mk (B2.out.trans (hb3.mono B2.out.size))
  have y0 := Y3.out.c0
  have y1 := Y3.out.c1
  have y2 := Y3.out.c2
  clear hb3 X2 Y0 B2 W1 W2
  go_wp2_with fail
  refine (HMK.out w3 0 ⟨#[]⟩).mono ?_
  rintro e w4 ⟨rfl, hb4⟩
  have X4 := Hid.mk (X3.out.kept (hb4.block _ X3.out.lt))
  have Y4 := Hid.mk (Y3.out.kept (hb4.block _ Y3.out.lt))
  have B4 := Hid.mk (B3.out.trans (hb4.mono B3.out.size))
  have y0' := Y4.out.c0
  have y1' := Y4.out.c1
  have y2' := Y4.out.c2
  clear y0 y1 y2 hb4 X3 Y3 B3
  go_wp2_with fail
  refine (HHE.out w4 0 ⟨#[]⟩).mono ?_
  rintro e w5 ⟨rfl, hb5⟩
  have X5 := Hid.mk (X4.out.kept (hb5.block _ X4.out.lt))
  have Y5 := Hid.mk (Y4.out.kept (hb5.block _ Y4.out.lt))
  have B5 := Hid.mk (B4.out.trans (hb5.mono B4.out.size))
  clear y0' y1' y2' hb5 X4 Y4 B4
  go_wp2_with fail
  refine (HP.out w5).mono ?_
  rintro e w6 ⟨rfl, hb6⟩
  have A0 : Below w6.heap.size w6 (w6.alloc (.cells #[.int .i64 0, .string ⟨#[]⟩, .slice none 0 0] 26)) := (Below.refl _ _).alloc (Nat.le_refl _) _
  have A6 := hb6.trans (A0.mono hb6.size)
  have X6 := Hid.mk (X5.out.kept (hb6.block _ X5.out.lt))
  have q6 : p0 < w6.heap.size := X6.out.lt
  have Y6 := Hid.mk (Y5.out.kept (A6.block _ Y5.out.lt))
  have B6 := Hid.mk (B5.out.trans (A6.mono B5.out.size))
  have x0 := X6.out.c0
  have x1 := X6.out.c1
  have x2 := X6.out.c2
  clear hb6 A0 A6 X5 Y5 B5
  go_wp2_with fail
  generalize w6.alloc (.cells #[.int .i64 0, .string ⟨#[]⟩, .slice none 0 0] 26) = W6 at Y6 B6 ⊢
  clear x0 x1 x2 q6 X6
  refine (HEQ.out W6).mono ?_
  rintro e w7 ⟨rfl, hb7⟩
  have Y7 := Hid.mk (Y6.out.kept (hb7.block _ Y6.out.lt))
  have B7 := Hid.mk (B6.out.trans (hb7.mono B6.out.size))
  have y0 := Y7.out.c0
  have y1 := Y7.out.c1
  have y2 := Y7.out.c2
  clear hb7 Y6 B6 W6
  go_wp2_with fail
  refine (HHE.out w7 0 ⟨#[]⟩).mono ?_
  rintro e w8 ⟨rfl, hb8⟩
  have B8 := B7.out.trans (hb8.mono B7.out.size)
  clear hb8 y0 y1 y2 Y7 B7
  go_wp2
  go_ret
  exact ⟨rfl, B8⟩

theorem fnExactParseRex_walk (s : ByteArray) (w : World) :
    Calls Try.prog 7 #[.string s] w fun e w' => e = .returned (.bool true) ∧ Below w.heap.size w w' := by
  by_cases hbig : (1048576 : Int) < (s.size : Int)
  · go_enter Try.func7, Try.ntmps7
    go_wp2
    go_ret
    exact ⟨rfl, Below.refl _ _⟩
  · by_cases h : ∃ t, IsTx s t
    · obtain ⟨t, ht⟩ := h
      exact fnExactParseRex_yes s t w ht
    · exact fnExactParseRex_no s w (by omega) (fun t ht => h ⟨t, ht⟩)
end Go.Proofs.Ytapniafhcagogaa
