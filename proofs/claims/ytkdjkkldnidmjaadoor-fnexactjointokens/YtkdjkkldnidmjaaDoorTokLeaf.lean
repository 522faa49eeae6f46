/- Tokens in memory: read, copied, the same. -/
import Derived.Test.YtkdjkkldnidmjaaDoorLeaf
import Derived.Test.YtkdjkkldnidmjaaDoorQuietS
import Derived.Test.YtkdjkkldnidmjaaDoorTake
import Derived.Deep.Slices
import Derived.Deep.Strs
namespace Go.Proofs.YtkdjkkldnidmjaaDoor
open Go.RowKit
set_option maxRecDepth 8000

structure Tk where
  k : Int
  n : Int
  s : ByteArray
instance : Inhabited Tk := ⟨⟨0, 0, ⟨#[]⟩⟩⟩
/-- A token as the program has it. -/
abbrev tkV (x : Tk) : Value := .agg #[.int .i64 x.k, .int .i64 x.n, .string x.s]
/-- The three cells of one. -/
def Tk3 (w : World) (b o : Nat) (x : Tk) : Prop :=
  w.cell? ⟨b, o, none⟩ = some (.int .i64 x.k) ∧ w.cell? ⟨b, o + 1, none⟩ = some (.int .i64 x.n) ∧ w.cell? ⟨b, o + 2, none⟩ = some (.string x.s)
theorem Tk3.kept {w w' : World} {b o : Nat} {x : Tk} (h : Tk3 w b o x) (hh : w'.heap[b]? = w.heap[b]?) : Tk3 w' b o x := by
  obtain ⟨h0, h1, h2⟩ := h
  exact ⟨by rw [World.cell?_of_block (w := w) hh]; exact h0, by rw [World.cell?_of_block (w := w) hh]; exact h1, by rw [World.cell?_of_block (w := w) hh]; exact h2⟩

/-- A slice that reads these tokens. -/
def Tl (w : World) (N : List Tk) (v : Value) : Prop := ∃ ao cap, v = .slice ao N.length cap ∧ N.length ≤ cap ∧ cap ≤ maxLen ∧ (ao = none → cap = 0) ∧ (∀ x ∈ N, x.s.size ≤ maxLen) ∧
  (N ≠ [] → ∃ b off, ao = some ⟨b, off, none⟩ ∧ ∀ i (h : i < N.length), Tk3 w b (off + i * 3) N[i])
theorem Tl.kept {w w' : World} {N : List Tk} {v : Value} (h : Tl w N v) (hk : ∀ b, b < w.heap.size → w'.heap[b]? = w.heap[b]?) : Tl w' N v := by
  obtain ⟨ao, cap, h1, h2, h3, h4, h5, h6⟩ := h
  refine ⟨ao, cap, h1, h2, h3, h4, h5, fun hn => ?_⟩
  obtain ⟨b, off, h7, h9⟩ := h6 hn
  have h0 : 0 < N.length := List.length_pos_iff.2 hn
  exact ⟨b, off, h7, fun i hi => (h9 i hi).kept (hk b (World.block_lt_of_cell? w _ (h9 0 h0).1))⟩
theorem Tl.grow {w w' : World} {N : List Tk} {v : Value} (h : Tl w N v) (hb : Below w.heap.size w w') : Tl w' N v := h.kept fun b hlt => hb.block b hlt

set_option maxHeartbeats 1000000 in
theorem szToken_any (x : Tk) (m : Int) (w : World) (hx : x.s.size ≤ maxLen) (hm : m ≤ 1048576) (hm0 : 0 ≤ m) :
    Calls Tryd.prog 22 #[tkV x, .int .i64 m] w fun e w' => e = .returned (.int .i64 (if m - x.s.size < 0 then -1 else m - x.s.size)) ∧ Below w.heap.size w w' := by
  obtain ⟨k, n, s⟩ := x
  simp only at hx ⊢
  unfold maxLen at hx
  have A0 : Hid (∀ o, Below w.heap.size w (w.alloc o)) := fun o => (Below.refl _ _).alloc (Nat.le_refl _) _
  by_cases hlt : m - (s.size : Int) < 0
  · rw [if_pos hlt]
    go_enter Tryd.func22, Tryd.ntmps22
    go_wp2
    go_ret
    exact ⟨rfl, A0.out _⟩
  · rw [if_neg hlt]
    go_enter Tryd.func22, Tryd.ntmps22
    go_wp2
    go_ret
    exact ⟨rfl, A0.out _⟩

/-- How many letters. -/
def szTk (N : List Tk) : Nat := (N.map fun x => x.s.size).sum
theorem szTk_take {N : List Tk} {k : Nat} (h : k < N.length) : szTk (N.take (k + 1)) = szTk (N.take k) + N[k].s.size := by
  unfold szTk
  rw [List.take_succ_eq_append_getElem h]
  simp only [List.map_append, List.map_cons, List.map_nil, List.sum_append, List.sum_cons, List.sum_nil, Nat.add_zero]

set_option maxHeartbeats 1000000 in
theorem szTokenS_any (N : List Tk) (v : Value) (w : World) (h : Tl w N v) :
    Calls Tryd.prog 24 #[v, .int .i64 1048576] w fun e w' => ∃ m : Int, e = .returned (.int .i64 m) ∧ (0 ≤ m → N.length + szTk N ≤ 1048576) ∧ Below w.heap.size w w' := by
  obtain ⟨ao, cap, rfl, hl, hm, hn, hs, hc⟩ := h
  unfold maxLen at hm
  have HS := Hid.mk hs
  have HC := Hid.mk hc
  clear hs hc
  by_cases hlt : (1048576 : Int) - (N.length : Int) < 0
  · go_enter Tryd.func24, Tryd.ntmps24
    go_wp2
    go_ret
    exact ⟨-1, rfl, (fun h => by omega), Below.refl _ _⟩
  · go_enter Tryd.func24, Tryd.ntmps24
    go_wp2
    go_loopw [1, 5] (fun q i wr => ∃ (k : Nat) (m : Int), k ≤ N.length ∧ i = .int .i64 k ∧ q = .int .i64 m ∧ 0 ≤ m ∧ m ≤ 1048576 ∧ Hid (m = 1048576 - N.length - szTk (N.take k)) ∧ Hid (Below w.heap.size w wr)) (fun _ i _ => N.length - (intOf i).toNat)
    case atStart => exact ⟨0, _, Nat.zero_le _, rfl, rfl, by omega, by omega, by simp [szTk, Hid], Below.refl _ _⟩
    case round =>
      obtain ⟨k, m, hk, rfl, rfl, hm0, hm1, HQ, HB⟩ := hrel
      by_cases hkl : k < N.length
      · obtain ⟨b, off, rfl, hcell⟩ := HC.out (by intro h0; rw [h0] at hkl; simp at hkl)
        have h4 := hcell k hkl
        have hbl := World.block_lt_of_cell? w _ h4.1
        obtain ⟨c0, c1, c2⟩ := h4.kept (w' := wr) (HB.out.block b hbl)
        have HZ := Hid.mk (szToken_any N[k] m wr (HS.out _ (List.getElem_mem hkl)) hm1 hm0)
        have HT := Hid.mk (szTk_take hkl)
        generalize N[k] = x at c0 c1 c2 HZ HT
        obtain ⟨xk, xn, xs⟩ := x
        simp only at c0 c1 c2 HZ HT
        have hki : (k : Int) < (N.length : Int) := by omega
        clear hcell h4
        go_wp2_with fail
        refine HZ.out.mono ?_
        rintro e w2 ⟨rfl, hb2⟩
        have HB2 := Hid.mk (HB.out.trans (hb2.mono HB.out.size))
        clear hb2 HZ c0 c1 c2 HB
        by_cases hneg : m - (xs.size : Int) < 0
        · rw [if_pos hneg]
          go_wp2
          go_ret
          exact ⟨-1, rfl, (fun h => by omega), HB2.out⟩
        · rw [if_neg hneg]
          go_wp2
          go_roundw
          case rel => exact ⟨k + 1, _, by omega, by go_num, rfl, by omega, by omega, (by have h1 := HQ.out; have h2 := HT.out; show _ = _; omega), HB2⟩
          case measure => simp [intOf]; omega
      · have e : k = N.length := by omega
        have HZ : Hid (0 ≤ m → N.length + szTk N ≤ 1048576) := fun _ => by
          have h1 := HQ.out
          rw [e, List.take_length] at h1
          omega
        clear e HQ
        go_wp2
        go_ret
        exact ⟨m, rfl, HZ.out, HB.out⟩

theorem szTok_any (k n : Int) (s : ByteArray) (w : World) (hs : s.size ≤ maxLen) :
    Calls Tryd.prog 22 #[.agg #[.int .i64 k, .int .i64 n, .string s], .int .i64 1048576] w fun e w' => e = .returned (.int .i64 (if 1048576 < s.size then -1 else 1048576 - (s.size : Int))) ∧ Below w.heap.size w w' := by
  have h := szToken_any ⟨k, n, s⟩ 1048576 w hs (by omega) (by omega)
  have e : (if 1048576 < s.size then (-1 : Int) else 1048576 - (s.size : Int)) = if (1048576 : Int) - (s.size : Int) < 0 then -1 else 1048576 - (s.size : Int) := by
    by_cases hc : 1048576 < s.size
    · rw [if_pos hc, if_pos (by omega)]
    · rw [if_neg hc, if_neg (by omega)]
  rw [e]
  exact h

set_option maxHeartbeats 1000000 in
theorem toToken_any (x : Tk) (w : World) : Calls Tryd.prog 23 #[tkV x] w fun e w' => e = .returned (tkV x) ∧ Below w.heap.size w w' := by
  obtain ⟨k, n, s⟩ := x
  go_enter Tryd.func23, Tryd.ntmps23
  go_wp2
  refine bodyPost_ret (v := .agg #[.int .i64 k, .int .i64 n, .string s]) (by simp [results, Tryd.results23, go_sem]) rfl ⟨rfl, ?_⟩
  exact (((Below.refl _ _).alloc (Nat.le_refl _) _).alloc (by simp) _).alloc (by simp; omega) _

theorem toTok_any (k n : Int) (s : ByteArray) (w : World) : Calls Tryd.prog 23 #[.agg #[.int .i64 k, .int .i64 n, .string s]] w fun e w' => e = .returned (.agg #[.int .i64 k, .int .i64 n, .string s]) ∧ Below w.heap.size w w' := toToken_any ⟨k, n, s⟩ w

set_option maxHeartbeats 1000000 in
theorem eqToken_same (x : Tk) (w : World) : Calls Tryd.prog 47 #[tkV x, tkV x] w fun e w' => e = .returned (.bool true) ∧ Below w.heap.size w w' := by
  obtain ⟨k, n, s⟩ := x
  have h1 : (k != k) = false := by simp
  have h2 : (n != n) = false := by simp
  have h4 : (s.toList != s.toList) = false := by simp
  have A0 : Hid (∀ o o', Below w.heap.size w ((w.alloc o).alloc o')) := fun o o' => ((Below.refl _ _).alloc (Nat.le_refl _) _).alloc (by simp) _
  go_enter Tryd.func47, Tryd.ntmps47
  go_wp2
  go_ret
  exact ⟨rfl, A0.out _ _⟩

set_option maxHeartbeats 1000000 in
theorem eqTokenS_same (N : List Tk) (v u : Value) (w : World) (h : Tl w N v) (h' : Tl w N u) :
    Calls Tryd.prog 19 #[v, u] w fun e w' => e = .returned (.bool true) ∧ Below w.heap.size w w' := by
  obtain ⟨ao, cap, rfl, hl, hm, -, -, hc⟩ := h
  obtain ⟨ao', cap', rfl, hl', hm', -, -, hc'⟩ := h'
  unfold maxLen at hm hm'
  have HC := Hid.mk hc
  have HC' := Hid.mk hc'
  clear hc hc'
  have hll : ((N.length : Int) != (N.length : Int)) = false := by simp
  go_enter Tryd.func19, Tryd.ntmps19
  go_wp2
  go_loopw [5] (fun i wr => ∃ (k : Nat), k ≤ N.length ∧ i = .int .i64 k ∧ Hid (Below w.heap.size w wr)) (fun i _ => N.length - (intOf i).toNat)
  case atStart => exact ⟨0, Nat.zero_le _, rfl, Below.refl _ _⟩
  case round =>
    obtain ⟨k, hk, rfl, HB⟩ := hrel
    by_cases hkl : k < N.length
    · obtain ⟨b, off, rfl, hcell⟩ := HC.out (by intro h0; rw [h0] at hkl; simp at hkl)
      obtain ⟨b', off', rfl, hcell'⟩ := HC'.out (by intro h0; rw [h0] at hkl; simp at hkl)
      have h4 := hcell k hkl
      have h4' := hcell' k hkl
      obtain ⟨c0, c1, c2⟩ := h4.kept (w' := wr) (HB.out.block b (World.block_lt_of_cell? w _ h4.1))
      obtain ⟨d0, d1, d2⟩ := h4'.kept (w' := wr) (HB.out.block b' (World.block_lt_of_cell? w _ h4'.1))
      generalize N[k] = x at c0 c1 c2 d0 d1 d2
      have cA := Hid.mk (fun d os => Calls.regrown_of (w := wr) (d := d) (os := os) (eqToken_same x _))
      obtain ⟨xk, xn, xs⟩ := x
      simp only at c0 c1 c2 d0 d1 d2 cA
      have a0 := cell_regrown c0
      have a1 := cell_regrown c1
      have a2 := cell_regrown c2
      have b0 := cell_regrown d0
      have b1 := cell_regrown d1
      have b2 := cell_regrown d2
      have hki : (k : Int) < (N.length : Int) := by omega
      clear hcell h4 hcell' h4' c0 c1 c2 d0 d1 d2
      go_wp2_with fail
      refine wp_region_quiet_below (by kernel_rfl) (by kernel_rfl) ?_
      quiet_step (fail)
      quiet_step (fail)
      quiet_step (fail)
      quiet_step (fail)
      quiet_step (fail)
      quiet_step (fail)
      quiet_step (fail)
      quiet_step (fail)
      quiet_step (exact cA.out _ _)
      quiet_step (fail)
      refine wpQuiet_nil ?_
      intro w6 hw'
      obtain ⟨⟨dq, osq⟩, hw''⟩ := hw'
      have hb6 : Below wr.heap.size wr w6 := by rw [hw'']; exact below_regrown _ _ _
      have HB2 := Hid.mk (HB.out.trans (hb6.mono HB.out.size))
      clear hw'' a0 a1 a2 b0 b1 b2 cA hb6 HB
      go_wp2
      go_roundw
      case rel => exact ⟨k + 1, by omega, by go_num, HB2⟩
      case measure => simp [intOf]; omega
    · go_wp2
      go_ret
      exact ⟨rfl, HB.out⟩
end Go.Proofs.YtkdjkkldnidmjaaDoor
