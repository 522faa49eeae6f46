/- The model's reader: where it stands, its small steps, a part within brackets. -/
import Derived.Test.YtbbhikbdbndefaaGreatRexParI
import Derived.Test.YtbbhikbdbndefaaGreatQuietS
namespace Go.Proofs.YtbbhikbdbndefaaGreat
open Go.RowKit
set_option maxRecDepth 8000

/-- The model's reader in block R. -/
def Sds (w : World) (R : Nat) (s : ByteArray) (p : Nat) (bad : Bool) (d : Int) : Prop := w.heap[R]? = some (.cells #[.string s, .int .i64 (p : Int), .bool bad, .int .i64 d] 135 (0, 0))

section
variable {w w' : World} {R p : Nat} {s : ByteArray} {bad : Bool} {d : Int}
theorem Sds.c0 (h : Sds w R s p bad d) : w.cell? ⟨R, 0, none⟩ = some (.string s) := by rw [cell_of_row w R 0 _ _ (0, 0) h]; rfl
theorem Sds.c1 (h : Sds w R s p bad d) : w.cell? ⟨R, 1, none⟩ = some (.int .i64 p) := by rw [cell_of_row w R 1 _ _ (0, 0) h]; rfl
theorem Sds.c2 (h : Sds w R s p bad d) : w.cell? ⟨R, 2, none⟩ = some (.bool bad) := by rw [cell_of_row w R 2 _ _ (0, 0) h]; rfl
theorem Sds.c3 (h : Sds w R s p bad d) : w.cell? ⟨R, 3, none⟩ = some (.int .i64 d) := by rw [cell_of_row w R 3 _ _ (0, 0) h]; rfl
theorem Sds.fr (h : Sds w R s p bad d) (j : Nat) : w.frozen? ⟨R, j, none⟩ = false := frozen_of_row w R j _ _ h
theorem Sds.lt (h : Sds w R s p bad d) : R < w.heap.size := by unfold Sds at h; exact (Array.getElem?_eq_some_iff.1 h).1
theorem Sds.kept (h : Sds w R s p bad d) (hh : w'.heap[R]? = w.heap[R]?) : Sds w' R s p bad d := by unfold Sds; rw [hh]; exact h
theorem Sds.grow (h : Sds w R s p bad d) (hb : Below w.heap.size w w') : Sds w' R s p bad d := h.kept (hb.block R h.lt)
theorem Sds.put1 (h : Sds w R s p bad d) (q : Nat) : Sds (w.setCell ⟨R, 1, none⟩ (.int .i64 (q : Int))) R s q bad d := by unfold Sds; rw [heap_setCell_same w R 1 _ _ _ h]; rfl
theorem Sds.put2 (h : Sds w R s p bad d) (b : Bool) : Sds (w.setCell ⟨R, 2, none⟩ (.bool b)) R s p b d := by unfold Sds; rw [heap_setCell_same w R 2 _ _ _ h]; rfl
theorem Sds.put3 (h : Sds w R s p bad d) (e : Int) : Sds (w.setCell ⟨R, 3, none⟩ (.int .i64 e)) R s p bad e := by unfold Sds; rw [heap_setCell_same w R 3 _ _ _ h]; rfl
theorem Sds.drew (h : Sds w R s p bad d) (n : Nat) : Sds (w.drewN n) R s p bad d := h
theorem Sds.set3 (h : Sds w R s p bad d) {b : Nat} (hne : R ≠ b) (x y z : Value) : Sds (set3 w b x y z) R s p bad d := h.kept (set3_other _ _ _ _ _ _ hne)
end

/-- What a function of the model's reader leaves, where the text from p on reads as r. -/
def SpOk (w w' : World) (R : Nat) (s : ByteArray) (p : Nat) (d : Int) (e : Ending) (r : Option (Tr × List Int)) : Prop :=
  w.grownBy w' (some R) ∧ ∃ t u p', e = .returned (rx t.k t.s u) ∧ t.s.size ≤ maxLen ∧ Ow w' (newFrom w.heap.size) t.l u ∧ p ≤ p' ∧ p' ≤ s.size ∧
    ((r = none ∧ ∃ d', Sds w' R s p' true d' ∧ d ≤ d' ∧ d' ≤ 9) ∨ (r = some (t, (txt s).drop p') ∧ p < p' ∧ Sds w' R s p' false d))

def SpC (f : Nat) (g : Rdr) (d : Int) : Prop := ∀ (s : ByteArray) (R p : Nat) (w : World), Sds w R s p false d → p ≤ s.size → s.size ≤ 1048576 →
  Calls Tryz.prog f #[.pointer (some ⟨R, 0, none⟩)] w fun e w' => SpOk w w' R s p d e (g ((txt s).drop p))

theorem pre_boxS {w : World} {R p : Nat} {s : ByteArray} {bad : Bool} {d : Int} (h : Sds w R s p bad d) : Sds (w.alloc (.cells #[.int .i64 0, .string ⟨#[]⟩, .slice none 0 0] 128)) R s p bad d ∧ w.heap.size ≠ R ∧ Bx3 (w.alloc (.cells #[.int .i64 0, .string ⟨#[]⟩, .slice none 0 0] 128)) w.heap.size (.int .i64 0) (.string ⟨#[]⟩) (.slice none 0 0) ∧ w.grownBy (w.alloc (.cells #[.int .i64 0, .string ⟨#[]⟩, .slice none 0 0] 128)) (some R) :=
  ⟨h.grow ((Below.refl _ _).alloc (Nat.le_refl _) _), by have := h.lt; omega, Bx3.new _ _ _ _, gb_alloc _ _ _⟩

set_option maxHeartbeats 1000000 in
theorem l3Is_no (s : ByteArray) (R p : Nat) (bad : Bool) (d c : Int) (w : World) (h : Sds w R s p bad d) (hp : p ≤ s.size) (_hs : s.size ≤ 1048576) (hn : bad = true ∨ nextIs s p c = false) :
    Calls Tryz.prog 91 #[.pointer (some ⟨R, 0, none⟩), .int .u8 c] w fun e w' => e = .returned (.bool false) ∧ ∃ n, w' = w.drewN n := by
  have c0 := h.c0
  have c1 := h.c1
  have c2 := h.c2
  clear h
  cases bad with
  | true =>
    clear hn
    go_enter Tryz.func91, Tryz.ntmps91
    go_wp2_with fail
    go_quiet (fail)
    go_wp2
    go_ret
    exact ⟨rfl, _, rfl⟩
  | false =>
    have hn' : nextIs s p c = false := by rcases hn with h | h; cases h; exact h
    clear hn
    by_cases he : p = s.size
    · have hb : s.size ≤ p := by omega
      clear he hn'
      go_enter Tryz.func91, Tryz.ntmps91
      go_wp2_with fail
      go_quiet (fail)
      go_wp2
      go_ret
      exact ⟨rfl, _, rfl⟩
    · have hlt : p < s.size := by omega
      have hb : ¬ s.size ≤ p := by omega
      have hpi : (p : Int) < (s.size : Int) := by omega
      have hcb : (((s[p].toNat : Nat) : Int) != c) = true := by rw [nextIs_at hlt] at hn'; simpa using hn'
      clear he hn'
      go_enter Tryz.func91, Tryz.ntmps91
      go_wp2_with fail
      go_quiet (fail)
      go_wp2
      go_ret
      exact ⟨rfl, _, rfl⟩

set_option maxHeartbeats 1000000 in
theorem l3Is_yes (s : ByteArray) (R p : Nat) (d c : Int) (w : World) (h : Sds w R s p false d) (hlt : p < s.size) (hs : s.size ≤ 1048576) (hn : nextIs s p c = true) :
    Calls Tryz.prog 91 #[.pointer (some ⟨R, 0, none⟩), .int .u8 c] w fun e w' => e = .returned (.bool true) ∧ ∃ n, w' = (w.drewN n).setCell ⟨R, 1, none⟩ (.int .i64 ((p + 1 : Nat) : Int)) := by
  have c0 := h.c0
  have c1 := h.c1
  have c2 := h.c2
  have f1 := h.fr 1
  clear h
  have hb : ¬ s.size ≤ p := by omega
  have hpi : (p : Int) < (s.size : Int) := by omega
  have hcb : (((s[p].toNat : Nat) : Int) != c) = false := by rw [nextIs_at hlt] at hn; simpa using hn
  clear hn
  go_enter Tryz.func91, Tryz.ntmps91
  go_wp2_with fail
  go_quiet (fail)
  go_wp2
  go_ret
  exact ⟨rfl, _, rfl⟩

theorem l3Is_any (s : ByteArray) (R p : Nat) (bad : Bool) (d c : Int) (w : World) (h : Sds w R s p bad d) (hp : p ≤ s.size) (hs : s.size ≤ 1048576) (b : Bool) (hb : (!bad && nextIs s p c) = b) :
    Calls Tryz.prog 91 #[.pointer (some ⟨R, 0, none⟩), .int .u8 c] w fun e w' => e = .returned (.bool b) ∧ w.grownBy w' (some R) ∧ Sds w' R s (if b = true then p + 1 else p) bad d ∧ w'.heap.size = w.heap.size := by
  cases b with
  | false =>
    refine (l3Is_no s R p bad d c w h hp hs (by cases bad <;> simp_all)).mono ?_
    rintro e w' ⟨rfl, n, rfl⟩
    exact ⟨rfl, gb_drew _ _ _, h.drew n, rfl⟩
  | true =>
    have h1 : bad = false := by cases bad <;> simp_all
    subst h1
    have h2 : nextIs s p c = true := by simpa using hb
    refine (l3Is_yes s R p d c w h (nextIs_lt h2) hs h2).mono ?_
    rintro e w' ⟨rfl, n, rfl⟩
    exact ⟨rfl, gb_put (gb_drew _ _ _) _ _, (h.drew n).put1 (p + 1), by simp⟩

/-- It has gone bad. -/
theorem l3Bad_any (s : ByteArray) (R p : Nat) (bad : Bool) (d : Int) (w : World) (h : Sds w R s p bad d) :
    Calls Tryz.prog 103 #[.pointer (some ⟨R, 0, none⟩)] w fun e w' => e = .returned (rx 0 ⟨#[]⟩ (.slice none 0 0)) ∧ w.grownBy w' (some R) ∧ Sds w' R s p true d ∧ w.heap.size < w'.heap.size := by
  obtain ⟨h0, hne, hb0, hg0⟩ := pre_boxS h
  have c2 := h.c2
  have f2 := h.fr 2
  have hlt := h.lt
  have HH := Hid.mk h
  clear h h0 hb0 hg0
  go_enter Tryz.func103, Tryz.ntmps103
  go_wp2
  refine bodyPost_ret (v := rx 0 ⟨#[]⟩ (.slice none 0 0)) ?_ rfl ⟨rfl, gb_below (gb_put (World.grownBy.refl _ _) _ _) ((Below.refl _ _).alloc (Nat.le_refl _) _), (HH.out.put2 true).grow ((Below.refl _ _).alloc (Nat.le_refl _) _), by simp⟩
  simp [results, Tryz.results103, go_sem]

set_option maxHeartbeats 2000000 in
theorem group_of (n : Nat) (hn8 : n ≤ 8) (hc : 1 ≤ n → SpC 85 (rd n) (9 - (n : Int))) : SpC 104 (rdGroup (rd n)) (8 - (n : Int)) := by
  intro s R p w h hp hs
  obtain ⟨h0, hne, hb0, hg0⟩ := pre_boxS h
  have H0 := Hid.mk h0
  have HB0 := Hid.mk hb0
  have HG0 := Hid.mk hg0
  have hRl := h.lt
  have HC := Hid.mk hc
  obtain ⟨d, hd⟩ : ∃ d : Int, 8 - (n : Int) = d := ⟨_, rfl⟩
  have hd9 : 9 - (n : Int) = d + 1 := by omega
  rw [hd] at H0 ⊢
  rw [hd9] at HC
  clear h h0 hb0 hg0 hc
  cases hx : nextIs s p 41 with
  | true =>
    have hlt := nextIs_lt hx
    have HT := Hid.mk (l3Is_any s R p false d 41 _ H0.out hp hs true (by simpa using hx))
    have HR : Hid (rdGroup (rd n) ((txt s).drop p) = some (leaf 9, (txt s).drop (p + 1))) := by show _ = _; rw [rdGroup, if_pos (head_is.1 hx), tail_is]
    clear HC
    go_enter Tryz.func104, Tryz.ntmps104
    go_wp2_with fail
    refine HT.out.mono ?_
    rintro e w1 ⟨rfl, hg1, hr1, hz1⟩
    have HB1 := Hid.mk (HB0.out.gb hg1 hne)
    have HG1 := Hid.mk (gb_trans HG0.out hg1)
    have HS1 : Hid (Sds w1 R s (p + 1) false d) := hr1
    clear HT hg1 hr1 HB0 HG0 H0
    have c0 := HB1.out.c0
    have c1 := HB1.out.c1
    have c2 := HB1.out.c2
    have f0 := HB1.out.fr
    go_wp2
    have hput := HB1.out.put (.int .i64 9) (.string ⟨#[]⟩) (.slice none 0 0)
    have hgp := gb_set3 HG1.out (Nat.le_refl _) (.int .i64 9) (.string ⟨#[]⟩) (.slice none 0 0)
    have hrp := HS1.out.set3 (Ne.symm hne) (.int .i64 9) (.string ⟨#[]⟩) (.slice none 0 0)
    unfold set3 at hput hgp hrp
    generalize ((w1.setCell ⟨w.heap.size, 0, none⟩ (.int .i64 9)).setCell ⟨w.heap.size, 1, none⟩ (.string ⟨#[]⟩)).setCell ⟨w.heap.size, 2, none⟩ (.slice none 0 0) = W at hput hgp hrp ⊢
    have r0 := hput.c0
    have r1 := hput.c1
    have r2 := hput.c2
    refine bodyPost_ret (v := .agg #[.int .i64 9, .string ⟨#[]⟩, .slice none 0 0]) ?_ rfl ⟨hgp, leaf 9, _, p + 1, rfl, (ow_leaf w anyBlock 9).1, Ow.none _, by omega, by omega, Or.inr ⟨HR.out, by omega, hrp⟩⟩
    simp [results, Tryz.results104, go_sem, r0, r1, r2]
  | false =>
    have HT := Hid.mk (l3Is_any s R p false d 41 _ H0.out hp hs false (by simpa using hx))
    have HN : Hid (¬ ((txt s).drop p).head? = some 41) := fun e => by rw [head_is.2 e] at hx; cases hx
    by_cases hn0 : n = 0
    · have HE : Hid (rdGroup (rd n) ((txt s).drop p) = none) := by show _ = _; rw [rdGroup, if_neg HN.out, hn0]; rfl
      have hd8 : d = 8 := by omega
      subst hd8
      clear HC
      go_enter Tryz.func104, Tryz.ntmps104
      go_wp2_with fail
      refine HT.out.mono ?_
      rintro e w1 ⟨rfl, hg1, hr1, hz1⟩
      have HB1 := HB0.out.gb hg1 hne
      have HG1 := gb_trans HG0.out hg1
      have hs1 : Sds w1 R s p false 8 := hr1
      have c3 := hs1.c3
      have f3 := hs1.fr 3
      have HB2 := Hid.mk (HB1.kept (w' := w1.setCell ⟨R, 3, none⟩ (.int .i64 9)) (heap_setCell_other _ _ _ _ hne))
      have HG2 := Hid.mk (gb_put HG1 3 (.int .i64 9))
      have HS2 := Hid.mk (hs1.put3 9)
      have HBad := Hid.mk (l3Bad_any s R p false 9 _ HS2.out)
      clear HT hg1 hr1 HB0 HG0 H0 HB1 HG1 hs1
      go_wp2_with fail
      refine HBad.out.mono ?_
      rintro e w3 ⟨rfl, hg3, hr3, hz3⟩
      have HB3 := Hid.mk (HB2.out.gb hg3 hne)
      have HG3 := Hid.mk (gb_trans HG2.out hg3)
      have HS3 := Hid.mk hr3
      clear HBad hg3 hr3 HB2 HG2 HS2 c3 f3
      have c0 := HB3.out.c0
      have c1 := HB3.out.c1
      have c2 := HB3.out.c2
      have f0 := HB3.out.fr
      go_wp2
      have hput := HB3.out.put (.int .i64 0) (.string ⟨#[]⟩) (.slice none 0 0)
      have hgp := gb_set3 HG3.out (Nat.le_refl _) (.int .i64 0) (.string ⟨#[]⟩) (.slice none 0 0)
      have hrp := HS3.out.set3 (Ne.symm hne) (.int .i64 0) (.string ⟨#[]⟩) (.slice none 0 0)
      unfold set3 at hput hgp hrp
      generalize ((w3.setCell ⟨w.heap.size, 0, none⟩ (.int .i64 0)).setCell ⟨w.heap.size, 1, none⟩ (.string ⟨#[]⟩)).setCell ⟨w.heap.size, 2, none⟩ (.slice none 0 0) = W at hput hgp hrp ⊢
      have r0 := hput.c0
      have r1 := hput.c1
      have r2 := hput.c2
      refine bodyPost_ret (v := .agg #[.int .i64 0, .string ⟨#[]⟩, .slice none 0 0]) ?_ rfl ⟨hgp, leaf 0, _, p, rfl, (ow_leaf w anyBlock 0).1, Ow.none _, by omega, by omega, Or.inl ⟨HE.out, 9, hrp, by omega, by omega⟩⟩
      simp [results, Tryz.results104, go_sem, r0, r1, r2]
    · have HC2 := Hid.mk (HC.out (by omega))
      have hd0 : 0 ≤ d ∧ d ≤ 7 := by omega
      have hgt : ¬ 8 < d + 1 := by omega
      clear HC
      go_enter Tryz.func104, Tryz.ntmps104
      go_wp2_with fail
      refine HT.out.mono ?_
      rintro e w1 ⟨rfl, hg1, hr1, hz1⟩
      have HB1 := HB0.out.gb hg1 hne
      have HG1 := gb_trans HG0.out hg1
      have hs1 : Sds w1 R s p false d := hr1
      have c3 := hs1.c3
      have f3 := hs1.fr 3
      have HB2 := Hid.mk (HB1.kept (w' := w1.setCell ⟨R, 3, none⟩ (.int .i64 (d + 1))) (heap_setCell_other _ _ _ _ hne))
      have HG2 := Hid.mk (gb_put HG1 3 (.int .i64 (d + 1)))
      have HS2 := Hid.mk (hs1.put3 (d + 1))
      have hz2 : (w1.setCell ⟨R, 3, none⟩ (.int .i64 (d + 1))).heap.size = w.heap.size + 1 := by simp [hz1]
      clear HT hg1 hr1 HB0 HG0 H0 HB1 HG1 hs1
      go_wp2_with fail
      refine (HC2.out s R p _ HS2.out hp hs).mono ?_
      rintro e w3 ⟨hg3, t, u, p2, rfl, hsz, how, hp1, hp2, hcase⟩
      rw [hz2] at how
      obtain ⟨au, cu, rfl⟩ := how.value
      have hbw : Below w3.heap.size w3 (w3.alloc (.cells #[.int .i64 t.k, .string t.s, .slice au t.l.length cu] 128)) := (Below.refl _ _).alloc (Nat.le_refl _) _
      have HB3 := Hid.mk ((HB2.out.gb hg3 hne).kept (hbw.block _ (HB2.out.gb hg3 hne).lt))
      have HG3 := Hid.mk (gb_below (gb_trans HG2.out hg3) hbw)
      have HX3 := Hid.mk (Bx3.new w3 (.int .i64 t.k) (.string t.s) (.slice au t.l.length cu))
      have HO3 := Hid.mk (how.grow hbw)
      have hs3 : w.heap.size + 1 ≤ w3.heap.size := by have := hg3.size; omega
      have hxne : w3.heap.size ≠ R := by omega
      have HSZ := Hid.mk hsz
      obtain ⟨tk, htk⟩ : ∃ tk, t.k = tk := ⟨_, rfl⟩
      obtain ⟨ts, hts⟩ : ∃ ts, t.s = ts := ⟨_, rfl⟩
      rw [htk, hts] at HB3 HG3 HX3 HO3 hbw
      rw [htk, hts]
      clear hg3 how hsz HB2 HG2 HS2 HC2 c3 f3
      rcases hcase with ⟨hr0, d', hsd, hd1, hd2⟩ | ⟨hrd, hpp, hsd⟩
      · have HE : Hid (rdGroup (rd n) ((txt s).drop p) = none) := by show _ = _; rw [rdGroup, if_neg HN.out, hr0]
        have hs4 := hsd.grow hbw
        have c3 := hs4.c3
        have f3 := hs4.fr 3
        have e3 : (w3.cell? ⟨R, 3, none⟩) = some (.int .i64 d') := hsd.c3
        have g3 := hsd.fr 3
        have HS5 := Hid.mk (hs4.put3 (d' - 1))
        have HB5 := Hid.mk (HB3.out.kept (w' := (w3.alloc (.cells #[.int .i64 tk, .string ts, .slice au t.l.length cu] 128)).setCell ⟨R, 3, none⟩ (.int .i64 (d' - 1))) (heap_setCell_other _ _ _ _ hne))
        have HG5 := Hid.mk (gb_put HG3.out 3 (.int .i64 (d' - 1)))
        have HT := Hid.mk (l3Is_any s R p2 true (d' - 1) 41 _ HS5.out hp2 hs false rfl)
        clear hsd hs4 HX3 HO3
        go_wp2_with fail
        refine HT.out.mono ?_
        rintro e w6 ⟨rfl, hg6, hr6, hz6⟩
        have HB6 := Hid.mk (HB5.out.gb hg6 hne)
        have HG6 := Hid.mk (gb_trans HG5.out hg6)
        have HS6 : Hid (Sds w6 R s p2 true (d' - 1)) := hr6
        have HBad := Hid.mk (l3Bad_any s R p2 true (d' - 1) w6 HS6.out)
        clear HT hg6 hr6 hz6 HB5 HG5 HS5 HB3 HG3 c3 f3 e3 g3
        go_wp2_with fail
        refine HBad.out.mono ?_
        rintro e w7 ⟨rfl, hg7, hr7, hz7⟩
        have HB7 := Hid.mk (HB6.out.gb hg7 hne)
        have HG7 := Hid.mk (gb_trans HG6.out hg7)
        have HS7 := Hid.mk hr7
        clear HBad hg7 hr7 HB6 HG6 HS6
        have c0 := HB7.out.c0
        have c1 := HB7.out.c1
        have c2 := HB7.out.c2
        have f0 := HB7.out.fr
        go_wp2
        have hput := HB7.out.put (.int .i64 0) (.string ⟨#[]⟩) (.slice none 0 0)
        have hgp := gb_set3 HG7.out (Nat.le_refl _) (.int .i64 0) (.string ⟨#[]⟩) (.slice none 0 0)
        have hrp := HS7.out.set3 (Ne.symm hne) (.int .i64 0) (.string ⟨#[]⟩) (.slice none 0 0)
        unfold set3 at hput hgp hrp
        generalize ((w7.setCell ⟨w.heap.size, 0, none⟩ (.int .i64 0)).setCell ⟨w.heap.size, 1, none⟩ (.string ⟨#[]⟩)).setCell ⟨w.heap.size, 2, none⟩ (.slice none 0 0) = W at hput hgp hrp ⊢
        have r0 := hput.c0
        have r1 := hput.c1
        have r2 := hput.c2
        refine bodyPost_ret (v := .agg #[.int .i64 0, .string ⟨#[]⟩, .slice none 0 0]) ?_ rfl ⟨hgp, leaf 0, _, p2, rfl, (ow_leaf w anyBlock 0).1, Ow.none _, by omega, by omega, Or.inl ⟨HE.out, d' - 1, hrp, by omega, by omega⟩⟩
        simp [results, Tryz.results104, go_sem, r0, r1, r2]
      · have HRD := Hid.mk hrd
        have hs4 := hsd.grow hbw
        have c3 := hs4.c3
        have f3 := hs4.fr 3
        have e3 : (w3.cell? ⟨R, 3, none⟩) = some (.int .i64 (d + 1)) := hsd.c3
        have g3 := hsd.fr 3
        have HS5 := Hid.mk (hs4.put3 d)
        have HB5 := Hid.mk (HB3.out.kept (w' := ((w3.alloc (.cells #[.int .i64 tk, .string ts, .slice au t.l.length cu] 128)).setCell ⟨R, 3, none⟩ (.int .i64 d))) (heap_setCell_other _ _ _ _ hne))
        have HX5 := Hid.mk (HX3.out.kept (w' := ((w3.alloc (.cells #[.int .i64 tk, .string ts, .slice au t.l.length cu] 128)).setCell ⟨R, 3, none⟩ (.int .i64 d))) (heap_setCell_other _ _ _ _ hxne))
        have HO5 := Hid.mk (HO3.out.kept (w' := ((w3.alloc (.cells #[.int .i64 tk, .string ts, .slice au t.l.length cu] 128)).setCell ⟨R, 3, none⟩ (.int .i64 d))) (fun b hb _ => heap_setCell_other _ _ _ _ (by rintro rfl; unfold newFrom at hb; omega)))
        have HG5 := Hid.mk (gb_put HG3.out 3 (.int .i64 d))
        clear hsd hs4 HX3 HO3 hrd
        cases hx2 : nextIs s p2 41 with
        | true =>
          have hlt2 := nextIs_lt hx2
          have HE : Hid (rdGroup (rd n) ((txt s).drop p) = some (t, (txt s).drop (p2 + 1))) := by
            show _ = _
            rw [rdGroup, if_neg HN.out, HRD.out]
            show (if ((txt s).drop p2).head? = some 41 then _ else _) = _
            rw [if_pos (head_is.1 hx2), tail_is]
          have HT := Hid.mk (l3Is_any s R p2 false d 41 _ HS5.out hp2 hs true (by simpa using hx2))
          go_wp2_with fail
          refine HT.out.mono ?_
          rintro e w6 ⟨rfl, hg6, hr6, hz6⟩
          have HB6 := Hid.mk (HB5.out.gb hg6 hne)
          have HG6 := Hid.mk (gb_trans HG5.out hg6)
          have HS6 : Hid (Sds w6 R s (p2 + 1) false d) := hr6
          have HX6 := Hid.mk (HX5.out.gb hg6 hxne)
          have HO6 := Hid.mk (HO5.out.gb hg6 (by unfold newFrom; omega))
          have x0 := HX6.out.c0
          have x1 := HX6.out.c1
          have x2 := HX6.out.c2
          clear HT hg6 hr6 hz6 HB5 HG5 HS5 HX5 HO5 HB3 HG3 c3 f3 e3 g3
          have c0 := HB6.out.c0
          have c1 := HB6.out.c1
          have c2 := HB6.out.c2
          have f0 := HB6.out.fr
          go_wp2
          have hput := HB6.out.put (.int .i64 tk) (.string ts) (.slice au t.l.length cu)
          have hgp := gb_set3 HG6.out (Nat.le_refl _) (.int .i64 tk) (.string ts) (.slice au t.l.length cu)
          have hrp := HS6.out.set3 (Ne.symm hne) (.int .i64 tk) (.string ts) (.slice au t.l.length cu)
          have hop := HO6.out.set3 (b := w.heap.size) (by unfold newFrom; omega) (.int .i64 tk) (.string ts) (.slice au t.l.length cu)
          unfold set3 at hput hgp hrp hop
          generalize ((w6.setCell ⟨w.heap.size, 0, none⟩ (.int .i64 tk)).setCell ⟨w.heap.size, 1, none⟩ (.string ts)).setCell ⟨w.heap.size, 2, none⟩ (.slice au t.l.length cu) = W at hput hgp hrp hop ⊢
          have r0 := hput.c0
          have r1 := hput.c1
          have r2 := hput.c2
          refine bodyPost_ret (v := .agg #[.int .i64 tk, .string ts, .slice au t.l.length cu]) ?_ rfl ⟨hgp, t, _, p2 + 1, by rw [htk, hts], HSZ.out, hop.mono (fun b hb => by unfold newFrom at *; omega), by omega, by omega, Or.inr ⟨HE.out, by omega, hrp⟩⟩
          simp [results, Tryz.results104, go_sem, r0, r1, r2]
        | false =>
          have HE : Hid (rdGroup (rd n) ((txt s).drop p) = none) := by
            show _ = _
            rw [rdGroup, if_neg HN.out, HRD.out]
            show (if ((txt s).drop p2).head? = some 41 then _ else _) = _
            rw [if_neg (fun e => by rw [head_is.2 e] at hx2; cases hx2)]
          have HT := Hid.mk (l3Is_any s R p2 false d 41 _ HS5.out hp2 hs false (by simpa using hx2))
          go_wp2_with fail
          refine HT.out.mono ?_
          rintro e w6 ⟨rfl, hg6, hr6, hz6⟩
          have HB6 := Hid.mk (HB5.out.gb hg6 hne)
          have HG6 := Hid.mk (gb_trans HG5.out hg6)
          have HS6 : Hid (Sds w6 R s p2 false d) := hr6
          have HBad := Hid.mk (l3Bad_any s R p2 false d w6 HS6.out)
          clear HT hg6 hr6 hz6 HB5 HG5 HS5 HX5 HO5 HB3 HG3 c3 f3 e3 g3
          go_wp2_with fail
          refine HBad.out.mono ?_
          rintro e w7 ⟨rfl, hg7, hr7, hz7⟩
          have HB7 := Hid.mk (HB6.out.gb hg7 hne)
          have HG7 := Hid.mk (gb_trans HG6.out hg7)
          have HS7 := Hid.mk hr7
          clear HBad hg7 hr7 HB6 HG6 HS6
          have c0 := HB7.out.c0
          have c1 := HB7.out.c1
          have c2 := HB7.out.c2
          have f0 := HB7.out.fr
          go_wp2
          have hput := HB7.out.put (.int .i64 0) (.string ⟨#[]⟩) (.slice none 0 0)
          have hgp := gb_set3 HG7.out (Nat.le_refl _) (.int .i64 0) (.string ⟨#[]⟩) (.slice none 0 0)
          have hrp := HS7.out.set3 (Ne.symm hne) (.int .i64 0) (.string ⟨#[]⟩) (.slice none 0 0)
          unfold set3 at hput hgp hrp
          generalize ((w7.setCell ⟨w.heap.size, 0, none⟩ (.int .i64 0)).setCell ⟨w.heap.size, 1, none⟩ (.string ⟨#[]⟩)).setCell ⟨w.heap.size, 2, none⟩ (.slice none 0 0) = W at hput hgp hrp ⊢
          have r0 := hput.c0
          have r1 := hput.c1
          have r2 := hput.c2
          refine bodyPost_ret (v := .agg #[.int .i64 0, .string ⟨#[]⟩, .slice none 0 0]) ?_ rfl ⟨hgp, leaf 0, _, p2, rfl, (ow_leaf w anyBlock 0).1, Ow.none _, by omega, by omega, Or.inl ⟨HE.out, d, hrp, by omega, by omega⟩⟩
          simp [results, Tryz.results104, go_sem, r0, r1, r2]
end Go.Proofs.YtbbhikbdbndefaaGreat
