/- The program's reader: where it stands, and its small steps. -/
import Derived.Test.YtgigalcajgjpnaaGreatRexLib
import Derived.Test.YtgigalcajgjpnaaGreatRexTextK
import Derived.WalkLawsBesides
import Derived.Lib.QuietBelow
import Derived.Laws.Pointers
namespace Go.Proofs.YtgigalcajgjpnaaGreat
open Go.RowKit
set_option maxRecDepth 8000

/-- The reader in block R: the text, and where it stands. -/
def Rds (w : World) (R : Nat) (s : ByteArray) (p : Nat) : Prop := w.heap[R]? = some (.cells #[.string s, .int .i64 (p : Int)] 247 (0, 0))

theorem Rds.c0 {w : World} {R : Nat} {s : ByteArray} {p : Nat} (h : Rds w R s p) : w.cell? ⟨R, 0, none⟩ = some (.string s) := by rw [cell_of_row w R 0 _ _ (0, 0) h]; rfl
theorem Rds.c1 {w : World} {R : Nat} {s : ByteArray} {p : Nat} (h : Rds w R s p) : w.cell? ⟨R, 1, none⟩ = some (.int .i64 p) := by rw [cell_of_row w R 1 _ _ (0, 0) h]; rfl
theorem Rds.fr {w : World} {R : Nat} {s : ByteArray} {p : Nat} (h : Rds w R s p) (j : Nat) : w.frozen? ⟨R, j, none⟩ = false := frozen_of_row w R j _ _ h
theorem Rds.lt {w : World} {R : Nat} {s : ByteArray} {p : Nat} (h : Rds w R s p) : R < w.heap.size := by
  unfold Rds at h
  exact (Array.getElem?_eq_some_iff.1 h).1
theorem Rds.grow {w w' : World} {R : Nat} {s : ByteArray} {p : Nat} (h : Rds w R s p) (hb : Below w.heap.size w w') : Rds w' R s p := by
  unfold Rds; rw [hb.block R h.lt]; exact h
theorem Rds.put {w : World} {R : Nat} {s : ByteArray} {p : Nat} (h : Rds w R s p) (q : Nat) : Rds (w.setCell ⟨R, 1, none⟩ (.int .i64 (q : Int))) R s q := by
  unfold Rds
  rw [heap_setCell_same w R 1 _ _ _ h]; rfl
theorem Rds.drew {w : World} {R : Nat} {s : ByteArray} {p : Nat} (h : Rds w R s p) (n : Nat) : Rds (w.drewN n) R s p := h

/-- From w on only the reader's block has turned. -/
theorem gb_drew (w : World) (R n : Nat) : w.grownBy (w.drewN n) (some R) := ⟨rfl, rfl, rfl, Nat.le_refl _, fun _ _ _ => rfl⟩
theorem gb_put {w w' : World} {R : Nat} (h : w.grownBy w' (some R)) (j : Nat) (u : Value) : w.grownBy (w'.setCell ⟨R, j, none⟩ u) (some R) :=
  ⟨h.os, h.tape, h.output, by simpa using h.size, fun k hk hne => by
    rw [heap_setCell_other w' ⟨R, j, none⟩ k u (fun e => hne (by rw [e]))]
    exact h.block k hk hne⟩
theorem gb_below {w w' w'' : World} {R : Nat} (h : w.grownBy w' (some R)) (hb : Below w'.heap.size w' w'') : w.grownBy w'' (some R) :=
  ⟨hb.os.trans h.os, hb.tape.trans h.tape, hb.output.trans h.output, Nat.le_trans h.size hb.size, fun k hk hne => (hb.block k (Nat.lt_of_lt_of_le hk h.size)).trans (h.block k hk hne)⟩

theorem txt_head {s : ByteArray} {p : Nat} (h : p < s.size) : (txt s).drop p = ((s[p].toNat : Nat) : Int) :: (txt s).drop (p + 1) := by
  have hl : p < (txt s).length := by rw [txt_length]; exact h
  rw [List.drop_eq_getElem_cons hl]
  congr 1
  simp [txt]
  rfl
theorem txt_end {s : ByteArray} {p : Nat} (h : s.size ≤ p) : (txt s).drop p = [] := List.drop_eq_nil_of_le (by rw [txt_length]; exact h)

/-- The next byte is c. -/
def nextIs (s : ByteArray) (p : Nat) (c : Int) : Bool := ((txt s).drop p).head? == some c

theorem nextIs_end {s : ByteArray} {p : Nat} (h : s.size ≤ p) (c : Int) : nextIs s p c = false := by unfold nextIs; rw [txt_end h]; rfl
theorem nextIs_at {s : ByteArray} {p : Nat} (h : p < s.size) (c : Int) : nextIs s p c = (((s[p].toNat : Nat) : Int) == c) := by unfold nextIs; rw [txt_head h]; simp

set_option maxHeartbeats 400000 in
theorem take_no (s : ByteArray) (R p : Nat) (c : Int) (w : World) (h : Rds w R s p) (hp : p ≤ s.size) (_hs : s.size ≤ 1048576) (hn : nextIs s p c = false) :
    Calls Tryz.prog 216 #[.pointer (some ⟨R, 0, none⟩), .int .u8 c] w fun e w' => e = .returned (.bool false) ∧ ∃ n, w' = w.drewN n := by
  have c0 := h.c0
  have c1 := h.c1
  clear h
  by_cases he : p = s.size
  · have hb : ((p : Int) == (s.size : Int)) = true := by rw [he]; simp
    clear he hn
    go_enter Tryz.func216, Tryz.ntmps216
    go_wp2_with fail
    go_quiet (fail)
    go_wp2
    go_ret
    exact ⟨rfl, _, rfl⟩
  · have hlt : p < s.size := by omega
    have hb : ((p : Int) == (s.size : Int)) = false := beq_eq_false_iff_ne.2 (by omega)
    have hpi : (p : Int) < (s.size : Int) := by omega
    have hcb : (((s[p].toNat : Nat) : Int) != c) = true := by rw [nextIs_at hlt] at hn; simpa using hn
    clear he hn
    go_enter Tryz.func216, Tryz.ntmps216
    go_wp2_with fail
    go_quiet (fail)
    go_wp2
    go_ret
    exact ⟨rfl, _, rfl⟩

set_option maxHeartbeats 400000 in
theorem take_yes (s : ByteArray) (R p : Nat) (c : Int) (w : World) (h : Rds w R s p) (hlt : p < s.size) (hs : s.size ≤ 1048576) (hn : nextIs s p c = true) :
    Calls Tryz.prog 216 #[.pointer (some ⟨R, 0, none⟩), .int .u8 c] w fun e w' => e = .returned (.bool true) ∧ ∃ n, w' = (w.drewN n).setCell ⟨R, 1, none⟩ (.int .i64 ((p + 1 : Nat) : Int)) := by
  have c0 := h.c0
  have c1 := h.c1
  have f1 := h.fr 1
  clear h
  have hb : ((p : Int) == (s.size : Int)) = false := beq_eq_false_iff_ne.2 (by omega)
  have hpi : (p : Int) < (s.size : Int) := by omega
  have hcb : (((s[p].toNat : Nat) : Int) != c) = false := by rw [nextIs_at hlt] at hn; simpa using hn
  clear hn
  go_enter Tryz.func216, Tryz.ntmps216
  go_wp2_with fail
  go_quiet (fail)
  go_wp2
  go_ret
  exact ⟨rfl, _, rfl⟩

theorem nextIs_lt {s : ByteArray} {p : Nat} {c : Int} (h : nextIs s p c = true) : p < s.size := by
  apply Decidable.byContradiction
  intro hn
  rw [nextIs_end (by omega)] at h
  cases h

theorem take_any (s : ByteArray) (R p : Nat) (c : Int) (w : World) (h : Rds w R s p) (hp : p ≤ s.size) (hs : s.size ≤ 1048576) (b : Bool) (hb : nextIs s p c = b) :
    Calls Tryz.prog 216 #[.pointer (some ⟨R, 0, none⟩), .int .u8 c] w fun e w' => e = .returned (.bool b) ∧ w.grownBy w' (some R) ∧ Rds w' R s (if b = true then p + 1 else p) ∧ w'.heap.size = w.heap.size := by
  cases b with
  | false =>
    refine (take_no s R p c w h hp hs hb).mono ?_
    rintro e w' ⟨rfl, n, rfl⟩
    exact ⟨rfl, gb_drew _ _ _, h.drew n, rfl⟩
  | true =>
    refine (take_yes s R p c w h (nextIs_lt hb) hs hb).mono ?_
    rintro e w' ⟨rfl, n, rfl⟩
    exact ⟨rfl, gb_put (gb_drew _ _ _) _ _, (h.drew n).put (p + 1), by simp⟩

set_option maxHeartbeats 400000 in
theorem goesOn_any (s : ByteArray) (R p : Nat) (w : World) (h : Rds w R s p) (hp : p ≤ s.size) (_hs : s.size ≤ 1048576) (b : Bool) (hgo : goesOn ((txt s).drop p) = b) :
    Calls Tryz.prog 221 #[.pointer (some ⟨R, 0, none⟩)] w fun e w' => e = .returned (.bool b) ∧ ∃ n, w' = w.drewN n := by
  have c0 := h.c0
  have c1 := h.c1
  have HG := Hid.mk hgo
  clear h hgo
  by_cases he : p = s.size
  · have H : Hid (b = false) := by show _ = _; rw [← HG.out, txt_end (by omega)]; rfl
    have hb : ¬ p < s.size := by omega
    clear he HG
    go_enter Tryz.func221, Tryz.ntmps221
    go_wp2_with fail
    go_quiet (fail)
    go_wp2
    go_ret
    exact ⟨ret_b (H.out.trans rfl).symm, _, rfl⟩
  · have hlt : p < s.size := by omega
    have hpi : (p : Int) < (s.size : Int) := by omega
    have H : Hid (b = ((((s[p].toNat : Nat) : Int) != 124) && (((s[p].toNat : Nat) : Int) != 41))) := by show _ = _; rw [← HG.out, txt_head hlt]; rfl
    clear he HG
    cases h1 : (((s[p].toNat : Nat) : Int) != 124) with
    | false =>
      rw [h1] at H
      go_enter Tryz.func221, Tryz.ntmps221
      go_wp2_with fail
      go_quiet (fail)
      go_wp2
      go_ret
      exact ⟨ret_b (H.out.trans rfl).symm, _, rfl⟩
    | true =>
      rw [h1] at H
      cases h2 : (((s[p].toNat : Nat) : Int) != 41) with
      | false =>
        rw [h2] at H
        go_enter Tryz.func221, Tryz.ntmps221
        go_wp2_with fail
        go_quiet (fail)
        go_wp2
        go_ret
        exact ⟨ret_b (H.out.trans rfl).symm, _, rfl⟩
      | true =>
        rw [h2] at H
        go_enter Tryz.func221, Tryz.ntmps221
        go_wp2_with fail
        go_quiet (fail)
        go_wp2
        go_ret
        exact ⟨ret_b (H.out.trans rfl).symm, _, rfl⟩

theorem goes_at {w w' : World} {n : Nat} (h : w' = w.drewN n) (R : Nat) : w.grownBy w' (some R) ∧ w'.heap.size = w.heap.size := by subst h; exact ⟨gb_drew _ _ _, rfl⟩

/-- The panic of what cannot be read. -/
abbrev nope : List PanicEntry := [{ v := .iface 9 (.string ⟨#[110, 111, 32, 114, 101, 103, 117, 108, 97, 114, 32, 101, 120, 112, 114, 101, 115, 115, 105, 111, 110]⟩), recovered := false }]

theorem extract_txt (s : ByteArray) (a b : Nat) (_hab : a ≤ b) (_hb : b ≤ s.size) : s.extract a b = strOf (((txt s).drop a).take (b - a)) := by
  conv => lhs; rw [← strOf_txt (s.extract a b)]
  congr 1
  unfold txt
  rw [← List.map_drop, ← List.map_take]
  congr 1
  rw [ByteArray.data_extract, Array.toList_extract]

set_option maxHeartbeats 1000000 in
theorem namedByte_any (s : ByteArray) (R p : Nat) (w : World) (h : Rds w R s p) (hlt : p < s.size) (hs : s.size ≤ 1048576) (hrb : rb ((s[p].toNat : Nat) : Int) = true) :
    Calls Tryz.prog 233 #[.pointer (some ⟨R, 0, none⟩)] w fun e w' => e = .returned (.string (strOf [((s[p].toNat : Nat) : Int)])) ∧ w.grownBy w' (some R) ∧ Rds w' R s (p + 1) := by
  have c0 := h.c0
  have c1 := h.c1
  have f1 := h.fr 1
  have hb : ((p : Int) == (s.size : Int)) = false := beq_eq_false_iff_ne.2 (by omega)
  have hc0 : ((s[p].toNat : Nat) : Int) ≤ 255 := by have := s[p].toNat_lt; omega
  have hcp : (0 : Int) ≤ ((s[p].toNat : Nat) : Int) := by omega
  have HB := Hid.mk (implByte_any _ hcp hc0)
  rw [hrb] at HB
  have HX : Hid (s.extract p (p + 1) = strOf [((s[p].toNat : Nat) : Int)]) := by
    show _ = _
    rw [extract_txt s p (p + 1) (by omega) (by omega), txt_head hlt]
    have : p + 1 - p = 1 := by omega
    rw [this]; rfl
  have HC := Hid.mk (fun (w' : World) => clone_any (s.extract p (p + 1)) w' (by rw [HX.out, strOf_size]; simp))
  have HG : Hid (∀ n, w.grownBy ((w.drewN n).setCell ⟨R, 1, none⟩ (.int .i64 ((p : Int) + 1))) (some R)) := fun n => gb_put (gb_drew _ _ _) _ _
  have HP : Hid (∀ n, Rds ((w.drewN n).setCell ⟨R, 1, none⟩ (.int .i64 ((p : Int) + 1))) R s (p + 1)) := fun n => by
    have := (h.drew n).put (p + 1)
    rwa [show ((p + 1 : Nat) : Int) = (p : Int) + 1 by omega] at this
  clear h hrb
  go_enter Tryz.func233, Tryz.ntmps233
  go_wp2_with fail
  go_quiet ((go_at_call 234; exact Calls.quiet_of_same (HB.out _)))
  go_wp2_with fail
  have hrd := HP.out nq
  have hgb := HG.out nq
  generalize (w.drewN nq).setCell ⟨R, 1, none⟩ (.int .i64 ((p : Int) + 1)) = W1 at hrd hgb ⊢
  have a0 := cell_regrown hrd.c0
  have a1 := cell_regrown hrd.c1
  rw [show ((p + 1 : Nat) : Int) = (p : Int) + 1 by omega] at a1
  have cA := Hid.mk (fun d os => Calls.regrown_of (w := W1) (d := d) (os := os) (HC.out _))
  have Hrd := Hid.mk hrd
  have Hgb := Hid.mk hgb
  have hple : (p : Int) + 1 ≤ (s.size : Int) := by omega
  have hpl0 : (0 : Int) ≤ (p : Int) + 1 := by omega
  have hwp : IntKind.i64.wrap (p : Int) = (p : Int) := by rw [IntKind.wrap_i64]; omega
  have hsl : ∀ w, (Instr.slice 9 (.string s) (some (.int .i64 (p : Int))) (some (.int .i64 ((p : Int) + 1))) none).run Tryz.prog w = .ok (.string (s.extract p (p + 1))) w := fun w => by
    have := run_slice_string (P := Tryz.prog) w 9 s .i64 .i64 (p : Int) ((p : Int) + 1) Tryz.underlying9 (by omega) (by omega) (by omega)
    rw [this]; rfl
  clear hrd hgb HP HG c0 c1 f1 HC HB
  refine wp_region_quiet_below (by kernel_rfl) (by kernel_rfl) ?_
  quiet_step (fail)
  quiet_step (fail)
  quiet_step (fail)
  quiet_step (fail)
  quiet_step (fail)
  quiet_step (fail)
  quiet_step (fail)
  quiet_step (fail)
  quiet_step (fail)
  quiet_step (fail)
  quiet_step (fail)
  quiet_step (fail)
  quiet_step (fail)
  quiet_step (fail)
  quiet_step (exact cA.out _ _)
  quiet_step (fail)
  refine wpQuiet_nil ?_
  intro w6 hw'
  obtain ⟨⟨dq, osq⟩, hw''⟩ := hw'
  have hb6 : Below W1.heap.size W1 w6 := by rw [hw'']; exact below_regrown _ _ _
  have Hb6 := Hid.mk hb6
  clear hw'' a0 a1 cA hb6
  go_wp2
  go_ret
  exact ⟨ret_str' HX.out, gb_below Hgb.out Hb6.out, Hrd.out.grow Hb6.out⟩

/-- What is no byte that stands for itself, or the end: the reader gives up. -/
theorem namedByte_dies (s : ByteArray) (R p : Nat) (w : World) (h : Rds w R s p) (hp : p ≤ s.size) (_hs : s.size ≤ 1048576) (hno : ∀ (hlt : p < s.size), rb ((s[p].toNat : Nat) : Int) = false) :
    Calls Tryz.prog 233 #[.pointer (some ⟨R, 0, none⟩)] w fun e w' => e = .panicked nope ∧ w.grownBy w' (some R) := by
  have c0 := h.c0
  have c1 := h.c1
  clear h
  by_cases he : p = s.size
  · have hb : ((p : Int) == (s.size : Int)) = true := by rw [he]; simp
    clear he hno
    go_enter Tryz.func233, Tryz.ntmps233
    go_wp2_with fail
    go_quiet (fail)
    go_wp2
    exact ⟨rfl, rfl, gb_drew _ _ _⟩
  · have hlt : p < s.size := by omega
    have hb : ((p : Int) == (s.size : Int)) = false := beq_eq_false_iff_ne.2 (by omega)
    have hc0 : ((s[p].toNat : Nat) : Int) ≤ 255 := by have := s[p].toNat_lt; omega
    have hcp : (0 : Int) ≤ ((s[p].toNat : Nat) : Int) := by omega
    have HB := Hid.mk (implByte_any _ hcp hc0)
    rw [hno hlt] at HB
    clear he hno
    go_enter Tryz.func233, Tryz.ntmps233
    go_wp2_with fail
    go_quiet ((go_at_call 234; exact Calls.quiet_of_same (HB.out _)))
    go_wp2
    exact ⟨rfl, rfl, gb_drew _ _ _⟩
end Go.Proofs.YtgigalcajgjpnaaGreat
