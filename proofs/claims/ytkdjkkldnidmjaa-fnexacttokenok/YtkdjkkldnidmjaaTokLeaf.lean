/- Tokens in memory: read, copied, the same. -/
import Derived.Test.YtkdjkkldnidmjaaLeaf
import Derived.Test.YtkdjkkldnidmjaaQuietS
import Derived.Test.YtkdjkkldnidmjaaTake
import Derived.Deep.Slices
import Derived.Deep.Strs
namespace Go.Proofs.Ytkdjkkldnidmjaa
open Go.RowKit
set_option maxRecDepth 8000

structure Tk where
  k : Int
  n : Int
  s : ByteArray
instance : Inhabited Tk := ⟨⟨0, 0, ⟨#[]⟩⟩⟩
/-- A token as the program has it. -/
abbrev tkV (x : Tk) : Value := .agg #[.int .i64 x.k, .int .i64 x.n, .string x.s]
/-- The three cells of one. -/
def At3 (w : World) (b o : Nat) (x : Tk) : Prop :=
  w.cell? ⟨b, o, none⟩ = some (.int .i64 x.k) ∧ w.cell? ⟨b, o + 1, none⟩ = some (.int .i64 x.n) ∧ w.cell? ⟨b, o + 2, none⟩ = some (.string x.s)
theorem At3.kept {w w' : World} {b o : Nat} {x : Tk} (h : At3 w b o x) (hh : w'.heap[b]? = w.heap[b]?) : At3 w' b o x := by
  obtain ⟨h0, h1, h2⟩ := h
  exact ⟨by rw [World.cell?_of_block (w := w) hh]; exact h0, by rw [World.cell?_of_block (w := w) hh]; exact h1, by rw [World.cell?_of_block (w := w) hh]; exact h2⟩

/-- A slice that reads these tokens. -/
def Tl (w : World) (N : List Tk) (v : Value) : Prop := ∃ ao cap, v = .slice ao N.length cap ∧ N.length ≤ cap ∧ cap ≤ maxLen ∧ (ao = none → cap = 0) ∧ (∀ x ∈ N, x.s.size ≤ maxLen) ∧
  (N ≠ [] → ∃ b off, ao = some ⟨b, off, none⟩ ∧ ∀ i (h : i < N.length), At3 w b (off + i * 3) N[i])
theorem Tl.kept {w w' : World} {N : List Tk} {v : Value} (h : Tl w N v) (hk : ∀ b, b < w.heap.size → w'.heap[b]? = w.heap[b]?) : Tl w' N v := by
  obtain ⟨ao, cap, h1, h2, h3, h4, h5, h6⟩ := h
  refine ⟨ao, cap, h1, h2, h3, h4, h5, fun hn => ?_⟩
  obtain ⟨b, off, h7, h9⟩ := h6 hn
  have h0 : 0 < N.length := List.length_pos_iff.2 hn
  exact ⟨b, off, h7, fun i hi => (h9 i hi).kept (hk b (World.block_lt_of_cell? w _ (h9 0 h0).1))⟩
theorem Tl.grow {w w' : World} {N : List Tk} {v : Value} (h : Tl w N v) (hb : Below w.heap.size w w') : Tl w' N v := h.kept fun b hlt => hb.block b hlt

set_option maxHeartbeats 1000000 in
theorem szToken_any (x : Tk) (m : Int) (w : World) (hx : x.s.size ≤ maxLen) (hm : m ≤ 1048576) (hm0 : 0 ≤ m) :
    Calls Try.prog 14 #[tkV x, .int .i64 m] w fun e w' => e = .returned (.int .i64 (if m - x.s.size < 0 then -1 else m - x.s.size)) ∧ Below w.heap.size w w' := by
  obtain ⟨k, n, s⟩ := x
  simp only at hx ⊢
  unfold maxLen at hx
  have A0 : Hid (∀ o, Below w.heap.size w (w.alloc o)) := fun o => (Below.refl _ _).alloc (Nat.le_refl _) _
  by_cases hlt : m - (s.size : Int) < 0
  · rw [if_pos hlt]
    go_enter Try.func14, Try.ntmps14
    go_wp2
    go_ret
    exact ⟨rfl, A0.out _⟩
  · rw [if_neg hlt]
    go_enter Try.func14, Try.ntmps14
    go_wp2
    go_ret
    exact ⟨rfl, A0.out _⟩

/-- How many letters. -/
def szT (N : List Tk) : Nat := (N.map fun x => x.s.size).sum
theorem szT_take {N : List Tk} {k : Nat} (h : k < N.length) : szT (N.take (k + 1)) = szT (N.take k) + N[k].s.size := by
  unfold szT
  rw [List.take_succ_eq_append_getElem h]
  simp only [List.map_append, List.map_cons, List.map_nil, List.sum_append, List.sum_cons, List.sum_nil, Nat.add_zero]

theorem szTok_any (k n : Int) (s : ByteArray) (w : World) (hs : s.size ≤ maxLen) :
    Calls Try.prog 14 #[.agg #[.int .i64 k, .int .i64 n, .string s], .int .i64 1048576] w fun e w' => e = .returned (.int .i64 (if 1048576 < s.size then -1 else 1048576 - (s.size : Int))) ∧ Below w.heap.size w w' := by
  have h := szToken_any ⟨k, n, s⟩ 1048576 w hs (by omega) (by omega)
  have e : (if 1048576 < s.size then (-1 : Int) else 1048576 - (s.size : Int)) = if (1048576 : Int) - (s.size : Int) < 0 then -1 else 1048576 - (s.size : Int) := by
    by_cases hc : 1048576 < s.size
    · rw [if_pos hc, if_pos (by omega)]
    · rw [if_neg hc, if_neg (by omega)]
  rw [e]
  exact h

set_option maxHeartbeats 1000000 in
theorem toToken_any (x : Tk) (w : World) : Calls Try.prog 16 #[tkV x] w fun e w' => e = .returned (tkV x) ∧ Below w.heap.size w w' := by
  obtain ⟨k, n, s⟩ := x
  go_enter Try.func16, Try.ntmps16
  go_wp2
  refine bodyPost_ret (v := .agg #[.int .i64 k, .int .i64 n, .string s]) (by simp [results, Try.results16, go_sem]) rfl ⟨rfl, ?_⟩
  exact (((Below.refl _ _).alloc (Nat.le_refl _) _).alloc (by simp) _).alloc (by simp; omega) _

theorem toTok_any (k n : Int) (s : ByteArray) (w : World) : Calls Try.prog 16 #[.agg #[.int .i64 k, .int .i64 n, .string s]] w fun e w' => e = .returned (.agg #[.int .i64 k, .int .i64 n, .string s]) ∧ Below w.heap.size w w' := toToken_any ⟨k, n, s⟩ w

end Go.Proofs.Ytkdjkkldnidmjaa
