/- Nodes in memory: read, copied, the same. -/
import Derived.Test.YteomhjoodnjfbaaLeaf
import Derived.Test.YteomhjoodnjfbaaQuietS
import Derived.Test.YteomhjoodnjfbaaTake
import Derived.Deep.Slices
import Derived.Deep.Strs
namespace Go.Proofs.Yteomhjoodnjfbaa
open Go.RowKit
set_option maxRecDepth 8000

structure Nd where
  k : Int
  s : ByteArray
  a : Int
  b : Int

instance : Inhabited Nd := ⟨⟨0, ⟨#[]⟩, 0, 0⟩⟩

/-- A node as the program has it. -/
abbrev ndV (x : Nd) : Value := .agg #[.int .i64 x.k, .string x.s, .int .i64 x.a, .int .i64 x.b]

/-- The four cells of one. -/
def At4 (w : World) (b o : Nat) (x : Nd) : Prop :=
  w.cell? ⟨b, o, none⟩ = some (.int .i64 x.k) ∧ w.cell? ⟨b, o + 1, none⟩ = some (.string x.s) ∧ w.cell? ⟨b, o + 2, none⟩ = some (.int .i64 x.a) ∧ w.cell? ⟨b, o + 3, none⟩ = some (.int .i64 x.b)
theorem At4.kept {w w' : World} {b o : Nat} {x : Nd} (h : At4 w b o x) (hh : w'.heap[b]? = w.heap[b]?) : At4 w' b o x := by
  obtain ⟨h0, h1, h2, h3⟩ := h
  exact ⟨by rw [World.cell?_of_block (w := w) hh]; exact h0, by rw [World.cell?_of_block (w := w) hh]; exact h1, by rw [World.cell?_of_block (w := w) hh]; exact h2, by rw [World.cell?_of_block (w := w) hh]; exact h3⟩

/-- A slice that reads these nodes, in a block of B. -/
def Nl (w : World) (B : Nat → Prop) (N : List Nd) (v : Value) : Prop := ∃ ao cap, v = .slice ao N.length cap ∧ N.length ≤ cap ∧ cap ≤ maxLen ∧ (ao = none → cap = 0) ∧ (∀ x ∈ N, x.s.size ≤ maxLen) ∧
  (N ≠ [] → ∃ b off, ao = some ⟨b, off, none⟩ ∧ B b ∧ ∀ i (h : i < N.length), At4 w b (off + i * 4) N[i])
theorem Nl.kept {w w' : World} {B : Nat → Prop} {N : List Nd} {v : Value} (h : Nl w B N v) (hk : ∀ b, B b → b < w.heap.size → w'.heap[b]? = w.heap[b]?) : Nl w' B N v := by
  obtain ⟨ao, cap, h1, h2, h3, h4, h5, h6⟩ := h
  refine ⟨ao, cap, h1, h2, h3, h4, h5, fun hn => ?_⟩
  obtain ⟨b, off, h7, h8, h9⟩ := h6 hn
  have h0 : 0 < N.length := List.length_pos_iff.2 hn
  exact ⟨b, off, h7, h8, fun i hi => (h9 i hi).kept (hk b h8 (World.block_lt_of_cell? w _ (h9 0 h0).1))⟩
theorem Nl.grow {w w' : World} {B : Nat → Prop} {N : List Nd} {v : Value} (h : Nl w B N v) (hb : Below w.heap.size w w') : Nl w' B N v := h.kept fun b _ hlt => hb.block b hlt
theorem Nl.imp {w : World} {B C : Nat → Prop} {N : List Nd} {v : Value} (h : Nl w B N v) (hk : ∀ b, B b → b < w.heap.size → C b) : Nl w C N v := by
  obtain ⟨ao, cap, h1, h2, h3, h4, h5, h6⟩ := h
  refine ⟨ao, cap, h1, h2, h3, h4, h5, fun hn => ?_⟩
  obtain ⟨b, off, h7, h8, h9⟩ := h6 hn
  have h0 : 0 < N.length := List.length_pos_iff.2 hn
  exact ⟨b, off, h7, hk b h8 (World.block_lt_of_cell? w _ (h9 0 h0).1), h9⟩

/-- How many letters and nodes. -/
def szN (N : List Nd) : Nat := (N.map fun x => x.s.size).sum

set_option maxHeartbeats 1000000 in
theorem szNode_any (x : Nd) (m : Int) (w : World) (hx : x.s.size ≤ maxLen) (hm : m ≤ 1048576) (hm0 : 0 ≤ m) :
    Calls Try.prog 95 #[ndV x, .int .i64 m] w fun e w' => e = .returned (.int .i64 (if m - x.s.size < 0 then -1 else m - x.s.size)) ∧ Below w.heap.size w w' := by
  obtain ⟨k, s, a, b⟩ := x
  simp only at hx ⊢
  unfold maxLen at hx
  have A0 : Hid (∀ o, Below w.heap.size w (w.alloc o)) := fun o => (Below.refl _ _).alloc (Nat.le_refl _) _
  by_cases hlt : m - (s.size : Int) < 0
  · rw [if_pos hlt]
    go_enter Try.func95, Try.ntmps95
    go_wp2
    go_ret
    exact ⟨rfl, A0.out _⟩
  · rw [if_neg hlt]
    go_enter Try.func95, Try.ntmps95
    go_wp2
    go_ret
    exact ⟨rfl, A0.out _⟩

set_option maxHeartbeats 1000000 in
theorem szNodeS_any (N : List Nd) (B : Nat → Prop) (v : Value) (w : World) (h : Nl w B N v) :
    Calls Try.prog 56 #[v, .int .i64 1048576] w fun e w' => ∃ m : Int, e = .returned (.int .i64 m) ∧ (0 ≤ m → N.length ≤ 1048576) ∧ Below w.heap.size w w' := by
  obtain ⟨ao, cap, rfl, hl, hm, hn, hs, hc⟩ := h
  unfold maxLen at hm
  have HS := Hid.mk hs
  have HC := Hid.mk hc
  clear hs hc
  by_cases hlt : (1048576 : Int) - (N.length : Int) < 0
  · go_enter Try.func56, Try.ntmps56
    go_wp2
    go_ret
    exact ⟨-1, rfl, (fun h => by omega), Below.refl _ _⟩
  · go_enter Try.func56, Try.ntmps56
    go_wp2
    go_loopw [1, 5] (fun q i wr => ∃ (k : Nat) (m : Int), k ≤ N.length ∧ i = .int .i64 k ∧ q = .int .i64 m ∧ 0 ≤ m ∧ m ≤ 1048576 ∧ Hid (Below w.heap.size w wr)) (fun _ i _ => N.length - (intOf i).toNat)
    case atStart => exact ⟨0, _, Nat.zero_le _, rfl, rfl, by omega, by omega, Below.refl _ _⟩
    case round =>
      obtain ⟨k, m, hk, rfl, rfl, hm0, hm1, HB⟩ := hrel
      by_cases hkl : k < N.length
      · obtain ⟨b, off, rfl, _, hcell⟩ := HC.out (by intro h0; rw [h0] at hkl; simp at hkl)
        have h4 := hcell k hkl
        have hbl := World.block_lt_of_cell? w _ h4.1
        obtain ⟨c0, c1, c2, c3⟩ := h4.kept (w' := wr) (HB.out.block b hbl)
        have HZ := Hid.mk (szNode_any N[k] m wr (HS.out _ (List.getElem_mem hkl)) hm1 hm0)
        generalize N[k] = x at c0 c1 c2 c3 HZ
        obtain ⟨xk, xs, xa, xb⟩ := x
        simp only at c0 c1 c2 c3 HZ
        have hki : (k : Int) < (N.length : Int) := by omega
        clear hcell h4
        go_wp2_with fail
        refine HZ.out.mono ?_
        rintro e w2 ⟨rfl, hb2⟩
        have HB2 := Hid.mk (HB.out.trans (hb2.mono HB.out.size))
        clear hb2 HZ c0 c1 c2 c3 HB
        by_cases hneg : m - (xs.size : Int) < 0
        · rw [if_pos hneg]
          go_wp2
          go_ret
          exact ⟨-1, rfl, (fun h => by omega), HB2.out⟩
        · rw [if_neg hneg]
          go_wp2
          go_roundw
          case rel => exact ⟨k + 1, _, by omega, by go_num, rfl, by omega, by omega, HB2⟩
          case measure => simp [intOf]; omega
      · go_wp2
        go_ret
        exact ⟨m, rfl, (fun _ => by omega), HB.out⟩

set_option maxHeartbeats 1000000 in
theorem szNfa_any (N : List Nd) (B : Nat → Prop) (v : Value) (w : World) (h : Nl w B N v) :
    Calls Try.prog 15 #[.agg #[v], .int .i64 1048576] w fun e w' => ∃ m : Int, e = .returned (.int .i64 m) ∧ (0 ≤ m → N.length ≤ 1048576) ∧ Below w.heap.size w w' := by
  have A0 : Below w.heap.size w (w.alloc (.cells #[v] 24)) := (Below.refl _ _).alloc (Nat.le_refl _) _
  have HC := Hid.mk (szNodeS_any N B v _ (h.grow A0))
  obtain ⟨ao, cap, rfl, -⟩ := h
  go_enter Try.func15, Try.ntmps15
  go_wp2_with fail
  refine HC.out.mono ?_
  rintro e w1 ⟨m, rfl, hm, hb1⟩
  have B1 := Hid.mk (A0.trans (hb1.mono (by simp)))
  have HM := Hid.mk hm
  clear hb1 A0 HC hm
  by_cases hneg : m < 0
  · go_wp2
    go_ret
    exact ⟨-1, rfl, (fun h => by omega), B1.out⟩
  · go_wp2
    go_ret
    exact ⟨m, rfl, HM.out, B1.out⟩
end Go.Proofs.Yteomhjoodnjfbaa
