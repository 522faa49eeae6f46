/- The law FnExactEndsOf walked: at every regular expression, every text and every place the program's EndsOf answers what the document's model of it answers; the answer owns its memory. -/
import Derived.Test.YtapniafhcagogaaDoorPlLong
import Derived.Test.YtapniafhcagogaaDoorRexEq
import Derived.Test.YtapniafhcagogaaDoorMarkRex
import Derived.Test.YtapniafhcagogaaDoorIntLeaf
namespace Go.Proofs.YtapniafhcagogaaDoor
open Go.RowKit
set_option maxRecDepth 8000

/-- A box with an expression of the law's own type. -/
def Bl3 (w : World) (b : Nat) (x y z : Value) : Prop := w.heap[b]? = some (.cells #[x, y, z] 47 (0, 0))
theorem Bl3.c0 {w : World} {b : Nat} {x y z : Value} (h : Bl3 w b x y z) : w.cell? ⟨b, 0, none⟩ = some x := by rw [cell_of_row w b 0 _ _ (0, 0) h]; rfl
theorem Bl3.c1 {w : World} {b : Nat} {x y z : Value} (h : Bl3 w b x y z) : w.cell? ⟨b, 1, none⟩ = some y := by rw [cell_of_row w b 1 _ _ (0, 0) h]; rfl
theorem Bl3.c2 {w : World} {b : Nat} {x y z : Value} (h : Bl3 w b x y z) : w.cell? ⟨b, 2, none⟩ = some z := by rw [cell_of_row w b 2 _ _ (0, 0) h]; rfl
theorem Bl3.lt {w : World} {b : Nat} {x y z : Value} (h : Bl3 w b x y z) : b < w.heap.size := by unfold Bl3 at h; exact (Array.getElem?_eq_some_iff.1 h).1
theorem Bl3.new (w : World) (x y z : Value) : Bl3 (w.alloc (.cells #[x, y, z] 47)) w.heap.size x y z := heap_alloc_new w _
theorem Bl3.kept {w w' : World} {b : Nat} {x y z : Value} (h : Bl3 w b x y z) (hh : w'.heap[b]? = w.heap[b]?) : Bl3 w' b x y z := by unfold Bl3; rw [hh]; exact h
theorem Bl3.grow {w w' : World} {b : Nat} {x y z : Value} (h : Bl3 w b x y z) (hk : Below w.heap.size w w') : Bl3 w' b x y z := h.kept (hk.block b h.lt)

/-- A slice that reads these numbers, its block below N. -/
def IzL (w : World) (N : Nat) (v : Value) (xs : List Int) : Prop := Iz w v xs ∧ ∀ b off len cap, v = .slice (some ⟨b, off, none⟩) len cap → b < N
theorem IzL.kept {w w' : World} {N : Nat} {v : Value} {xs : List Int} (h : IzL w N v xs) (hk : ∀ b, b < N → w'.heap[b]? = w.heap[b]?) : IzL w' N v xs := by
  obtain ⟨⟨ao, cap, h1, h2, h3, h4, h5⟩, h6⟩ := h
  refine ⟨⟨ao, cap, h1, h2, h3, h4, fun hn => ?_⟩, h6⟩
  obtain ⟨b, off, rfl, h7⟩ := h5 hn
  refine ⟨b, off, rfl, fun k hk' => ?_⟩
  rw [World.cell?_of_block (w := w) (hk b (h6 _ _ _ _ h1))]
  exact h7 k hk'
theorem OwnZ.izl {w : World} {base : Nat} {v : Value} {xs : List Int} (h : OwnZ w base v xs) : IzL w w.heap.size v xs := by
  refine ⟨h.iz, ?_⟩
  rintro b off len cap rfl
  rcases h.2 with ⟨h1, _⟩ | ⟨g, cap', cur, h1, hb, hg, _⟩
  · simp at h1
  · simp only [Value.slice.injEq, Option.some.injEq, Addr.mk.injEq, and_true] at h1
    obtain ⟨⟨rfl, _⟩, _⟩ := h1
    exact (Array.getElem?_eq_some_iff.1 hg).1
theorem OwnI.z {w : World} {base : Nat} {v : Value} {xs : List Nat} (h : OwnI w base v xs) : OwnZ w base v (xs.map fun (n : Nat) => (n : Int)) := by
  unfold OwnI at h
  unfold OwnZ
  rw [List.length_map, List.map_map]
  exact h
/-- Where it lies. -/
theorem OwnZ.block {w : World} {base : Nat} {v : Value} {xs : List Int} (h : OwnZ w base v xs) : ∀ g, v.ownBlock = some g → base ≤ g ∧ g < w.heap.size := by
  intro g hg
  rcases h.2 with ⟨rfl, _⟩ | ⟨g', cap, cur, rfl, hb, hgb, _⟩
  · simp [Value.ownBlock] at hg
  · obtain rfl : g' = g := by simpa [Value.ownBlock] using hg
    exact ⟨hb, (Array.getElem?_eq_some_iff.1 hgb).1⟩
theorem OwnZ.kept {w w' : World} {base : Nat} {v : Value} {xs : List Int} (h : OwnZ w base v xs) (hk : ∀ g, base ≤ g → g < w.heap.size → w'.heap[g]? = w.heap[g]?) : OwnZ w' base v xs := by
  rcases h.2 with ⟨rfl, h0⟩ | ⟨g, cap, cur, rfl, hb, hg, rest⟩
  · exact ⟨h.1, .inl ⟨rfl, h0⟩⟩
  · exact ⟨h.1, .inr ⟨g, cap, cur, rfl, hb, (hk g hb (Array.getElem?_eq_some_iff.1 hg).1).trans hg, rest⟩⟩

theorem cntL_szs (l : List Tr) : cntL l ≤ szs l := by
  have key : ∀ l : List Tr, (∀ x ∈ l, cntL x.l ≤ szs x.l) → cntL l ≤ szs l := by
    intro l
    induction l with
    | nil => intro _; simp [cntL, szs]
    | cons x r ih =>
      intro h
      have h1 := h x (List.mem_cons_self ..)
      have h2 := ih (fun y hy => h y (List.mem_cons_of_mem _ hy))
      have h3 := x.sz_eq
      rw [cntL, szs, cnt_eq]
      omega
  exact Tr.ind (P := fun t => cntL t.l ≤ szs t.l) (fun t ih => key t.l ih) (.node 0 ⟨#[]⟩ l)

set_option maxHeartbeats 4000000 in
theorem fnExactEndsOf_walk (t : Tr) (v : Value) (z : ByteArray) (at' : Int) (w : World) (h : Rl w anyBlock t.l v) (hs : t.s.size ≤ maxLen) (hT : TabB w) :
    Calls Tryd.prog 7 #[rx t.k t.s v, .string z, .int .i64 at'] w fun e w' => e = .returned (.bool true) ∧ Below w.heap.size w w' := by
  have HS := Hid.mk (fun (w' : World) (hb : Below w.heap.size w w') => szRex_any t anyBlock v w' 1048576 (h.grow hb) hs (by omega) (by omega))
  have HTO := Hid.mk (fun hz (w' : World) (hb : Below w.heap.size w w') => toRexF_any t anyBlock v w' (h.grow hb) hz)
  have HSO := Hid.mk (fun (hz : z.size ≤ 1048576) (w' : World) (B : Nat → Prop) (u : Value) (h : Rl w' B t.l u) => specEndsOf_any t B u z at' w' h hs hz)
  have HIO := Hid.mk (fun (w' : World) (hb : Below w.heap.size w w') (B : Nat → Prop) (u : Value) (h : Rl w' B t.l u) => endsOf_any t B u z at' w' h hs (hT.grow hb))
  have HEQ := Hid.mk (fun (w' : World) (B C : Nat → Prop) (u u' : Value) (h : Rl w' B t.l u) (h' : Rl w' C t.l u') => eqRex_any t B C u u' w' h h')
  have HMK : Hid (szs t.l ≤ 1048576 → ∀ (w' : World) (k : Int) (s : ByteArray) (B : Nat → Prop) (u : Value), Sh w' B t.l u → Calls Tryd.prog 34 #[rx k s u, .int .i64 1] w' fun e w'' => e = .returned (.int .i64 ((1 + 2 * cntL t.l : Nat) : Int)) ∧ ∃ w0, Below w'.heap.size w' w0 ∧ MkPost t.l 1 u w0 w'') := fun hz w' k s B u h => markRex_any t k s 1 B u w' h (by have := cntL_szs t.l; omega)
  have HZ : Hid (¬ leftOf 1048576 t.sz < 0 → szs t.l ≤ 1048576) := by
    intro h
    have := t.sz_eq
    unfold leftOf at h
    split at h <;> omega
  have HEL : Hid ((endsL t z at').length ≤ 201) := by
    show _ ≤ _
    unfold endsL
    split
    · rename_i hh
      unfold rowL
      have := List.length_filter_le (t.endM z at'.toNat) (List.range (z.size + 1))
      rw [List.length_range] at this
      omega
    · simp
  obtain ⟨m, hm⟩ : ∃ m, leftOf 1048576 t.sz = m := ⟨_, rfl⟩
  obtain ⟨E, hE⟩ : ∃ E, endsL t z at' = E := ⟨_, rfl⟩
  obtain ⟨k, hk⟩ : ∃ k, t.k = k := ⟨_, rfl⟩
  obtain ⟨s, hsn⟩ : ∃ s, t.s = s := ⟨_, rfl⟩
  obtain ⟨l, hln⟩ : ∃ l, t.l = l := ⟨_, rfl⟩
  rw [hk, hsn, hm] at HS
  rw [hk, hsn, hln] at HTO
  rw [hk, hsn, hln, hE] at HSO HIO
  rw [hk, hsn, hln] at HEQ
  rw [hln] at HMK
  rw [hm, hln] at HZ
  rw [hE] at HEL
  rw [hln] at h
  rw [hk, hsn]
  clear hm hE hk hsn hln hs hT
  obtain ⟨ao, cap, rfl, hl1, hl2, hl3⟩ := h.len
  have B0 : Below w.heap.size w (w.alloc (.cells #[.int .i64 k, .string s, .slice ao l.length cap] 47)) := (Below.refl _ _).alloc (Nat.le_refl _) _
  clear h hl1 hl2 hl3
  by_cases hz : (1048576 : Int) < (z.size : Int)
  · clear HTO HSO HIO HEQ HZ HS HMK
    go_enter Tryd.func7, Tryd.ntmps7
    go_wp2
    go_ret
    exact ⟨rfl, B0⟩
  have HSO' := Hid.mk (HSO.out (by omega))
  clear HSO
  by_cases hm : m < 0
  · clear HTO HSO' HIO HEQ HZ HMK
    go_enter Tryd.func7, Tryd.ntmps7
    go_wp2_with fail
    refine (HS.out _ B0).mono ?_
    rintro e w1 ⟨rfl, hb1⟩
    have B1 := B0.trans (hb1.mono (by simp))
    clear B0 hb1 HS
    go_wp2
    go_ret
    exact ⟨rfl, B1⟩
  have HT' := Hid.mk (HTO.out (HZ.out hm))
  have HMK' := Hid.mk (HMK.out (HZ.out hm))
  clear HTO HZ HMK
  have L0 := Bl3.new w (.int .i64 k) (.string s) (.slice ao l.length cap)
  go_enter Tryd.func7, Tryd.ntmps7
  go_wp2_with fail
  refine (HS.out _ B0).mono ?_
  rintro e w1 ⟨rfl, hb1⟩
  have L1 := Hid.mk (L0.grow hb1)
  have B1 := Hid.mk (B0.trans (hb1.mono (by simp)))
  clear hb1 HS B0 L0
  have x0 := L1.out.c0
  have x1 := L1.out.c1
  have x2 := L1.out.c2
  go_wp2_with fail
  refine (HT'.out _ B1.out).mono ?_
  rintro e w2 ⟨u2, rfl, hr2, hb2⟩
  have L2 := Hid.mk (L1.out.grow hb2)
  have B2 := Hid.mk (B1.out.trans (hb2.mono B1.out.size))
  obtain ⟨a2, c2, rfl, -⟩ := hr2.len
  have HR2 := Hid.mk hr2
  clear hb2 hr2 L1 B1 x0 x1 x2
  go_wp2_with fail
  refine (HSO'.out _ _ _ HR2.out).mono ?_
  rintro e w3 ⟨v3, rfl, ho3, hb3⟩
  have L3 := Hid.mk (L2.out.grow hb3)
  have B3 := Hid.mk (B2.out.trans (hb3.mono B2.out.size))
  have I3 := Hid.mk (OwnZ.izl (OwnI.z ho3))
  have hw3s := Hid.mk B3.out.size
  clear hb3 ho3 L2 B2 HR2 HSO'
  have x0 := L3.out.c0
  have x1 := L3.out.c1
  have x2 := L3.out.c2
  go_wp2_with fail
  refine (HT'.out _ B3.out).mono ?_
  rintro e w4 ⟨u4, rfl, hr4, hb4⟩
  have L4 := Hid.mk (L3.out.grow hb4)
  have B4 := Hid.mk (B3.out.trans (hb4.mono B3.out.size))
  have I4 := Hid.mk (I3.out.kept (w' := w4) (fun b hb => hb4.block b hb))
  have s34 := hb4.size
  have R4 := hr4.imp (C := fun b => w3.heap.size + 1 ≤ b ∧ b < w4.heap.size) (fun b hb hlt => ⟨hb.1, hlt⟩)
  have F4 : ∀ b, nf w4 (w3.heap.size + 1) b → ∀ o, w4.frozen? ⟨b, o, none⟩ = false := fun b hb => hb.2
  have SH4 := (hr4.imp (C := fun b => (w3.heap.size + 1 ≤ b ∧ b < w4.heap.size) ∧ ∀ o, w4.frozen? ⟨b, o, none⟩ = false) (fun b hb hlt => ⟨⟨hb.1, hlt⟩, hb.2⟩)).sh (fun b hb => hb.2)
  obtain ⟨a4, c4, rfl, -⟩ := hr4.len
  have A5 : Below w4.heap.size w4 (w4.alloc (.cells #[.int .i64 k, .string s, .slice a4 l.length c4] 26)) := (Below.refl _ _).alloc (Nat.le_refl _) _
  have X5 := Hid.mk (Bz3.new w4 (.int .i64 k) (.string s) (.slice a4 l.length c4))
  have L5 := Hid.mk (L4.out.grow A5)
  have B5 := Hid.mk (B4.out.trans (A5.mono B4.out.size))
  have I5 := Hid.mk (I4.out.kept (fun b hb => A5.block b (by omega)))
  have R5 := Hid.mk (R4.grow A5)
  have SH5 := Hid.mk (SH4.ty (Ty.below A5))
  have S5 : (w4.alloc (.cells #[.int .i64 k, .string s, .slice a4 l.length c4] 26)).heap.size = w4.heap.size + 1 := by simp
  clear hb4 hr4 L3 B3 I3 L4 B4 I4 R4 F4 SH4 A5 x0 x1 x2
  go_wp2_with fail
  generalize w4.alloc (.cells #[.int .i64 k, .string s, .slice a4 l.length c4] 26) = W5 at X5 L5 B5 I5 R5 SH5 S5 ⊢
  have hwN3 : w.heap.size ≤ w3.heap.size := hw3s.out
  generalize hN3 : w3.heap.size = N3 at *
  generalize hN4 : w4.heap.size = N4 at *
  clear hN3 hN4
  refine (HIO.out W5 B5.out _ _ R5.out).mono ?_
  rintro e w6 ⟨v6, rfl, ho6, hb6⟩
  have X6 := Hid.mk (X5.out.grow hb6)
  have L6 := Hid.mk (L5.out.grow hb6)
  have B6 := Hid.mk (B5.out.trans (hb6.mono B5.out.size))
  have I6 := Hid.mk (I5.out.kept (fun b hb => hb6.block b (by omega)))
  have R6 := Hid.mk (R5.out.grow hb6)
  have SH6 := Hid.mk (SH5.out.ty (Ty.below hb6))
  have O6 := Hid.mk (OwnZ.mono (OwnI.z ho6) (base' := N4 + 1) (by omega))
  have hs6 : N4 + 1 ≤ w6.heap.size := by have := hb6.size; omega
  clear ho6 hb6 X5 L5 B5 I5 R5 SH5 S5
  have HE6 := Hid.mk (eqIntS_same _ _ _ w6 O6.out.iz I6.out.1)
  obtain ⟨a6, c6, h6v, -⟩ := O6.out.iz
  obtain ⟨a3, c3, h3v, -⟩ := I6.out.1
  subst h6v h3v
  rw [List.length_map] at *
  go_wp2_with fail
  refine HE6.out.mono ?_
  rintro e w7 ⟨rfl, n7, hw7⟩
  have D7 : Below w6.heap.size w6 w7 := by rw [hw7]; exact Below.drewSelf _ _ _
  clear hw7 HE6
  have X7 := Hid.mk (X6.out.grow D7)
  have L7 := Hid.mk (L6.out.grow D7)
  have B7 := Hid.mk (B6.out.trans (D7.mono B6.out.size))
  have I7 := Hid.mk (I6.out.kept (fun b hb => D7.block b (by omega)))
  have R7 := Hid.mk (R6.out.grow D7)
  have SH7 := Hid.mk (SH6.out.ty (Ty.below D7))
  have O7 := Hid.mk (O6.out.grow D7)
  have hs7 : N4 + 1 ≤ w7.heap.size := by have := D7.size; omega
  clear D7 X6 L6 B6 I6 R6 SH6 O6 hs6
  have S0 : Hid (Below w7.heap.size w7 w7.drew) := Below.drewSelf _ _ 1
  go_wp2_with fail
  refine wp_region_held_drew (S := Below w7.heap.size w7) (by kernel_rfl) S0.out (fun _ => ?_)
  refine takeHD (i := 0) (v := rx k s (.slice a4 l.length c4)) (some 38) rfl rfl (by kernel_rfl) (by kernel_rfl) (by kernel_rfl) (fun _ _ _ h => h) (Or.inl ⟨by kernel_rfl, fun w' hw => ?_⟩) S0.out ?_
  · have X := X7.out.grow hw
    have y0 := X.c0
    have y1 := X.c1
    have y2 := X.c2
    go_simp
  simp only [Act.put, List.setIfInBounds_toArray]
  refine takeHD (i := 1) (v := rx k s (.slice ao l.length cap)) (some 39) rfl rfl (by kernel_rfl) (by kernel_rfl) (by kernel_rfl) (fun _ _ _ h => h) (Or.inl ⟨by kernel_rfl, fun w' hw => ?_⟩) S0.out ?_
  · have X := L7.out.grow hw
    have y0 := X.c0
    have y1 := X.c1
    have y2 := X.c2
    go_simp
  simp only [Act.put, List.setIfInBounds_toArray]
  refine wpAnyH_ready (rs := [2]) (by kernel_rfl) (by simp) ?_
  refine AllReadyH.cons rfl (fun K hK => ?_) AllReadyH.nil
  rw [if_pos (by kernel_rfl)]
  go_wp2_with fail
  refine (HT'.out _ (B7.out.trans (S0.out.mono B7.out.size))).mono ?_
  rintro e wa ⟨ua, rfl, hra, hba⟩
  have Sa : Hid (Below w7.heap.size w7 wa) := S0.out.trans hba
  refine hK.out _ _ Sa.out (fun _ => ?_)
  clear hK K
  have HRa := Hid.mk (R7.out.grow Sa.out)
  refine wpAnyH_ready (rs := [3]) (by kernel_rfl) (by simp) ?_
  refine AllReadyH.cons rfl (fun K hK => ?_) AllReadyH.nil
  rw [if_pos (by kernel_rfl)]
  go_wp2_with fail
  refine (HEQ.out _ _ _ _ _ HRa.out hra).mono ?_
  rintro e w8 ⟨rfl, hb8⟩
  have S8 : Hid (Below w7.heap.size w7 w8) := Sa.out.trans (hb8.mono Sa.out.size)
  refine hK.out _ _ S8.out (fun _ => ?_)
  clear hK K hra hba hb8 Sa HRa S0
  refine wpAnyH_ready (rs := [4]) (by kernel_rfl) (by simp) ?_
  refine AllReadyH.cons rfl (fun K hK => ?_) AllReadyH.nil
  rw [if_pos (by kernel_rfl)]
  go_wp2_with fail
  refine hK.out _ _ S8.out (fun _ => ?_)
  clear hK K
  refine wpAnyH_done (by kernel_rfl) ?_ _
  have X8 := Hid.mk (X7.out.grow S8.out)
  have L8 := Hid.mk (L7.out.grow S8.out)
  have B8 := Hid.mk (B7.out.trans (S8.out.mono B7.out.size))
  have I8 := Hid.mk (I7.out.kept (fun b hb => S8.out.block b (by omega)))
  have SH8 := Hid.mk (SH7.out.ty (Ty.below S8.out))
  have O8 := Hid.mk (O7.out.grow S8.out)
  have hs8 : N4 + 1 ≤ w8.heap.size := by have := S8.out.size; omega
  clear S8 X7 L7 B7 I7 R7 SH7 O7 hs7
  have y0 := X8.out.c0
  have y1 := X8.out.c1
  have y2 := X8.out.c2
  go_wp2_with fail
  refine (HMK'.out w8 k s _ _ SH8.out).mono ?_
  rintro e w9 ⟨rfl, w8', hb8', hmk⟩
  have T9 := hmk.2.1 _ (SH8.out.ty (Ty.below hb8'))
  have hblk : ∀ b, b < w8.heap.size → ¬ (N3 + 1 ≤ b ∧ b < N4) → w9.heap[b]? = w8.heap[b]? := fun b hb hne => (T9.block b (Nat.lt_of_lt_of_le hb hb8'.size) (fun h => hne h.1)).trans (hb8'.block b hb)
  have hsz : w8.heap.size ≤ w9.heap.size := Nat.le_trans hb8'.size T9.size
  have hos : w9.os = w8.os := T9.os.trans hb8'.os
  have htp : w9.tape = w8.tape := T9.tape.trans hb8'.tape
  have hou : w9.output = w8.output := T9.output.trans hb8'.output
  have hw3 : w.heap.size ≤ N3 := hwN3
  have B9 := Hid.mk (B8.out.trans (⟨hos, htp, hou, hsz, fun b hb => hblk b (by have := B8.out.size; omega) (by omega)⟩ : Below w.heap.size w8 w9))
  have L9 := Hid.mk (L8.out.kept (hblk _ L8.out.lt (by omega)))
  have I9 := Hid.mk (I8.out.kept (w' := w9) (fun b hb => hblk b (by omega) (by omega)))
  have O9 := Hid.mk (O8.out.kept (fun g h1 h2 => hblk g h2 (by omega)))
  clear y0 y1 y2 hmk T9 hblk hb8' X8 L8 B8 I8 SH8 O8 HMK' hos htp hou
  have hs9 : N4 + 1 ≤ w9.heap.size := by omega
  have hk9 : ¬ (((1 + 2 * cntL l : Nat) : Int) < 0) := by omega
  obtain ⟨kk, hkk⟩ : ∃ kk, ((1 + 2 * cntL l : Nat) : Int) = kk := ⟨_, rfl⟩
  rw [hkk] at hk9 ⊢
  clear hkk hs8 hsz
  have HE9 := Hid.mk (eqIntS_same _ _ _ w9 O9.out.iz I9.out.1)
  go_wp2_with fail
  refine HE9.out.mono ?_
  rintro e w10 ⟨rfl, n10, hw10⟩
  have D10 : Below w9.heap.size w9 w10 := by rw [hw10]; exact Below.drewSelf _ _ _
  have L10 := Hid.mk (L9.out.grow D10)
  have B10 := Hid.mk (B9.out.trans (D10.mono B9.out.size))
  have I10 := Hid.mk (I9.out.kept (w' := w10) (fun b hb => D10.block b (by omega)))
  have O10 := Hid.mk (O9.out.grow D10)
  have hs10 : N4 + 1 ≤ w10.heap.size := by have := D10.size; omega
  clear hw10 D10 HE9 L9 B9 I9 O9 hs9
  have HM10 := Hid.mk (markIntS_any _ _ _ 1 w10 O10.out (by rw [List.length_map]; have := HEL.out; omega) (by omega) (by omega))
  have hbl10 := O10.out.block
  rw [List.length_map] at HM10
  go_wp2_with fail
  refine HM10.out.mono ?_
  rintro e w11 ⟨rfl, ho11, hg11⟩
  have hblk : ∀ b, b < w10.heap.size → ¬ (N4 + 1 ≤ b) → w11.heap[b]? = w10.heap[b]? := fun b hb hne => hg11.block b hb (fun e => hne (hbl10 b e.symm).1)
  have B11 := Hid.mk (B10.out.trans (⟨hg11.os, hg11.tape, hg11.output, hg11.size, fun b hb => hblk b (by have := B10.out.size; omega) (by omega)⟩ : Below w.heap.size w10 w11))
  have L11 := Hid.mk (L10.out.kept (hblk _ L10.out.lt (by omega)))
  have I11 := Hid.mk (I10.out.kept (w' := w11) (fun b hb => hblk b (by have := B10.out.size; omega) (by omega)))
  have O11 := Hid.mk ho11
  have hs11 : N4 + 1 ≤ w11.heap.size := by have := hg11.size; omega
  clear hblk hbl10 HM10 ho11 hg11 L10 B10 I10 O10 hs10
  have HH11 := Hid.mk (heldIntS_marks _ E.length 1 w11 O11.out.iz (by have := HEL.out; omega) (by omega) (by omega))
  go_wp2_with fail
  refine HH11.out.mono ?_
  rintro e w12 ⟨rfl, hw12⟩
  obtain rfl := hw12.symm
  clear HH11 hw12
  have hne : (((1 : Int) + (E.length : Int)) != (1 + (E.length : Int))) = false := by simp
  have hlt : ¬ ((1 : Int) + (E.length : Int) < 0) := by omega
  have x0 := L11.out.c0
  have x1 := L11.out.c1
  have x2 := L11.out.c2
  go_wp2_with fail
  refine (HT'.out w11 B11.out).mono ?_
  rintro e w13 ⟨u13, rfl, hr13, hb13⟩
  have B13 := Hid.mk (B11.out.trans (hb13.mono B11.out.size))
  have I13 := Hid.mk (I11.out.kept (w' := w13) (fun b hb => hb13.block b (by omega)))
  have O13 := Hid.mk (O11.out.grow hb13)
  have hs13 : N4 + 1 ≤ w13.heap.size := by have := hb13.size; omega
  obtain ⟨a13, c13, rfl, -⟩ := hr13.len
  have HR13 := Hid.mk hr13
  clear hb13 hr13 L11 B11 I11 O11 hs11 x0 x1 x2
  go_wp2_with fail
  refine (HIO.out w13 B13.out _ _ HR13.out).mono ?_
  rintro e w14 ⟨v14, rfl, ho14, hb14⟩
  have B14 := Hid.mk (B13.out.trans (hb14.mono B13.out.size))
  have I14 := Hid.mk (I13.out.kept (w' := w14) (fun b hb => hb14.block b (by omega)))
  have O14 := Hid.mk (O13.out.grow hb14)
  have HE14 := Hid.mk (eqIntS_same _ _ _ w14 (OwnZ.iz (OwnI.z ho14)) I14.out.1)
  obtain ⟨a14, c14, h14v, -⟩ := OwnZ.iz (OwnI.z ho14)
  subst h14v
  rw [List.length_map] at HE14 ⊢
  clear ho14 hb14 B13 I13 O13 HR13 hs13
  go_wp2_with fail
  refine HE14.out.mono ?_
  rintro e w15 ⟨rfl, n15, hw15⟩
  have D15 : Below w14.heap.size w14 w15 := by rw [hw15]; exact Below.drewSelf _ _ _
  have B15 := Hid.mk (B14.out.trans (D15.mono B14.out.size))
  have O15 := Hid.mk (O14.out.grow D15)
  clear hw15 D15 HE14 B14 I14 O14
  have HH15 := Hid.mk (heldIntS_marks _ E.length 1 w15 O15.out.iz (by have := HEL.out; omega) (by omega) (by omega))
  go_wp2_with fail
  refine HH15.out.mono ?_
  rintro e w16 ⟨rfl, hw16⟩
  obtain rfl := hw16.symm
  clear HH15 hw16
  go_wp2
  go_ret
  exact ⟨rfl, B15.out⟩
end Go.Proofs.YtapniafhcagogaaDoor
