/- Tokens in memory: read, copied, the same. -/
import Derived.Test.YtapcbblfcmdbnaaDoorLeaf
import Derived.Test.YtapcbblfcmdbnaaDoorQuietS
import Derived.Test.YtapcbblfcmdbnaaDoorTake
import Derived.Deep.Slices
import Derived.Deep.Strs
namespace Go.Proofs.YtapcbblfcmdbnaaDoor
open Go.RowKit
set_option maxRecDepth 8000

structure Tk where
  k : Int
  n : Int
  s : ByteArray
instance : Inhabited Tk := ⟨⟨0, 0, ⟨#[]⟩⟩⟩
/-- A token as the program has it. -/
abbrev tkV (x : Tk) : Value := .agg #[.int .i64 x.k, .int .i64 x.n, .string x.s]
/-- The three cells of one. -/
def Tk3 (w : World) (b o : Nat) (x : Tk) : Prop :=
  w.cell? ⟨b, o, none⟩ = some (.int .i64 x.k) ∧ w.cell? ⟨b, o + 1, none⟩ = some (.int .i64 x.n) ∧ w.cell? ⟨b, o + 2, none⟩ = some (.string x.s)
theorem Tk3.kept {w w' : World} {b o : Nat} {x : Tk} (h : Tk3 w b o x) (hh : w'.heap[b]? = w.heap[b]?) : Tk3 w' b o x := by
  obtain ⟨h0, h1, h2⟩ := h
  exact ⟨by rw [World.cell?_of_block (w := w) hh]; exact h0, by rw [World.cell?_of_block (w := w) hh]; exact h1, by rw [World.cell?_of_block (w := w) hh]; exact h2⟩

/-- A slice that reads these tokens. -/
def Tl (w : World) (N : List Tk) (v : Value) : Prop := ∃ ao cap, v = .slice ao N.length cap ∧ N.length ≤ cap ∧ cap ≤ maxLen ∧ (ao = none → cap = 0) ∧ (∀ x ∈ N, x.s.size ≤ maxLen) ∧
  (N ≠ [] → ∃ b off, ao = some ⟨b, off, none⟩ ∧ ∀ i (h : i < N.length), Tk3 w b (off + i * 3) N[i])
theorem Tl.kept {w w' : World} {N : List Tk} {v : Value} (h : Tl w N v) (hk : ∀ b, b < w.heap.size → w'.heap[b]? = w.heap[b]?) : Tl w' N v := by
  obtain ⟨ao, cap, h1, h2, h3, h4, h5, h6⟩ := h
  refine ⟨ao, cap, h1, h2, h3, h4, h5, fun hn => ?_⟩
  obtain ⟨b, off, h7, h9⟩ := h6 hn
  have h0 : 0 < N.length := List.length_pos_iff.2 hn
  exact ⟨b, off, h7, fun i hi => (h9 i hi).kept (hk b (World.block_lt_of_cell? w _ (h9 0 h0).1))⟩
theorem Tl.grow {w w' : World} {N : List Tk} {v : Value} (h : Tl w N v) (hb : Below w.heap.size w w') : Tl w' N v := h.kept fun b hlt => hb.block b hlt

/-- How many letters. -/
def szTk (N : List Tk) : Nat := (N.map fun x => x.s.size).sum
theorem szTk_take {N : List Tk} {k : Nat} (h : k < N.length) : szTk (N.take (k + 1)) = szTk (N.take k) + N[k].s.size := by
  unfold szTk
  rw [List.take_succ_eq_append_getElem h]
  simp only [List.map_append, List.map_cons, List.map_nil, List.sum_append, List.sum_cons, List.sum_nil, Nat.add_zero]

set_option maxHeartbeats 1000000 in
theorem eqToken_same (x : Tk) (w : World) : Calls Tryd.prog 41 #[tkV x, tkV x] w fun e w' => e = .returned (.bool true) ∧ Below w.heap.size w w' := by
  obtain ⟨k, n, s⟩ := x
  have h1 : (k != k) = false := by simp
  have h2 : (n != n) = false := by simp
  have h4 : (s.toList != s.toList) = false := by simp
  have A0 : Hid (∀ o o', Below w.heap.size w ((w.alloc o).alloc o')) := fun o o' => ((Below.refl _ _).alloc (Nat.le_refl _) _).alloc (by simp) _
  go_enter Tryd.func41, Tryd.ntmps41
  go_wp2
  go_ret
  exact ⟨rfl, A0.out _ _⟩

set_option maxHeartbeats 1000000 in
theorem eqTokenS_same (N : List Tk) (v u : Value) (w : World) (h : Tl w N v) (h' : Tl w N u) :
    Calls Tryd.prog 17 #[v, u] w fun e w' => e = .returned (.bool true) ∧ Below w.heap.size w w' := by
  obtain ⟨ao, cap, rfl, hl, hm, -, -, hc⟩ := h
  obtain ⟨ao', cap', rfl, hl', hm', -, -, hc'⟩ := h'
  unfold maxLen at hm hm'
  have HC := Hid.mk hc
  have HC' := Hid.mk hc'
  clear hc hc'
  have hll : ((N.length : Int) != (N.length : Int)) = false := by simp
  go_enter Tryd.func17, Tryd.ntmps17
  go_wp2
  go_loopw [5] (fun i wr => ∃ (k : Nat), k ≤ N.length ∧ i = .int .i64 k ∧ Hid (Below w.heap.size w wr)) (fun i _ => N.length - (intOf i).toNat)
  case atStart => exact ⟨0, Nat.zero_le _, rfl, Below.refl _ _⟩
  case round =>
    obtain ⟨k, hk, rfl, HB⟩ := hrel
    by_cases hkl : k < N.length
    · obtain ⟨b, off, rfl, hcell⟩ := HC.out (by intro h0; rw [h0] at hkl; simp at hkl)
      obtain ⟨b', off', rfl, hcell'⟩ := HC'.out (by intro h0; rw [h0] at hkl; simp at hkl)
      have h4 := hcell k hkl
      have h4' := hcell' k hkl
      obtain ⟨c0, c1, c2⟩ := h4.kept (w' := wr) (HB.out.block b (World.block_lt_of_cell? w _ h4.1))
      obtain ⟨d0, d1, d2⟩ := h4'.kept (w' := wr) (HB.out.block b' (World.block_lt_of_cell? w _ h4'.1))
      generalize N[k] = x at c0 c1 c2 d0 d1 d2
      have cA := Hid.mk (fun d os => Calls.regrown_of (w := wr) (d := d) (os := os) (eqToken_same x _))
      obtain ⟨xk, xn, xs⟩ := x
      simp only at c0 c1 c2 d0 d1 d2 cA
      have a0 := cell_regrown c0
      have a1 := cell_regrown c1
      have a2 := cell_regrown c2
      have b0 := cell_regrown d0
      have b1 := cell_regrown d1
      have b2 := cell_regrown d2
      have hki : (k : Int) < (N.length : Int) := by omega
      clear hcell h4 hcell' h4' c0 c1 c2 d0 d1 d2
      go_wp2_with fail
      refine wp_region_quiet_below (by kernel_rfl) (by kernel_rfl) ?_
      quiet_step (fail)
      quiet_step (fail)
      quiet_step (fail)
      quiet_step (fail)
      quiet_step (fail)
      quiet_step (fail)
      quiet_step (fail)
      quiet_step (fail)
      quiet_step (exact cA.out _ _)
      quiet_step (fail)
      refine wpQuiet_nil ?_
      intro w6 hw'
      obtain ⟨⟨dq, osq⟩, hw''⟩ := hw'
      have hb6 : Below wr.heap.size wr w6 := by rw [hw'']; exact below_regrown _ _ _
      have HB2 := Hid.mk (HB.out.trans (hb6.mono HB.out.size))
      clear hw'' a0 a1 a2 b0 b1 b2 cA hb6 HB
      go_wp2
      go_roundw
      case rel => exact ⟨k + 1, by omega, by go_num, HB2⟩
      case measure => simp [intOf]; omega
    · go_wp2
      go_ret
      exact ⟨rfl, HB.out⟩
end Go.Proofs.YtapcbblfcmdbnaaDoor
