/- EndsOf, Longest and Matches: the model's answers. -/
import Derived.Test.YteomhjoodnjfbaaDoorSpecRow
import Derived.Test.YteomhjoodnjfbaaDoorExactRexOk
namespace Go.Proofs.YteomhjoodnjfbaaDoor
open Go.RowKit
set_option maxRecDepth 8000

/-- The places where what begins at this one may end. -/
def endsL (t : Tr) (s : ByteArray) (at' : Int) : List Nat := if okR t = true ∧ s.size ≤ 200 ∧ 0 ≤ at' ∧ at' ≤ s.size then rowL s.size (t.endM s at'.toNat) else []

theorem OwnI.mono {w : World} {base base' : Nat} {v : Value} {xs : List Nat} (h : OwnI w base v xs) (hle : base' ≤ base) : OwnI w base' v xs := by
  refine ⟨h.1, ?_⟩
  rcases h.2 with h' | ⟨g, cap, cur, e, hb, rest⟩
  · exact Or.inl h'
  · exact Or.inr ⟨g, cap, cur, e, Nat.le_trans hle hb, rest⟩

theorem okR_okT {t : Tr} (h : okR t = true) : t.okT = true := by
  unfold okR at h
  rw [Bool.and_eq_true] at h
  exact h.2

/-- The first place from i on that has an end, and its last one. -/
def longF (n : Nat) (M : Mat) (i : Nat) : Nat → Option (Nat × Nat)
  | 0 => none
  | d + 1 => match (rowL n (M i)).getLast? with
    | some e => some (i, e)
    | none => longF n M (i + 1) d
/-- What is longest. -/
def longE (t : Tr) (s : ByteArray) : Option (Nat × Nat) := if okR t = true ∧ s.size ≤ 200 then longF s.size (t.endM s) 0 (s.size + 1) else none
def longV : Option (Nat × Nat) → Value
  | none => .tuple #[.int .i64 0, .int .i64 0, .bool false]
  | some (i, e) => .tuple #[.int .i64 (i : Int), .int .i64 (e : Int), .bool true]

theorem OwnI.value {w : World} {base : Nat} {v : Value} {xs : List Nat} (h : OwnI w base v xs) : (v = .slice none 0 0 ∧ xs = []) ∨ ∃ g cap, v = .slice (some ⟨g, 0, none⟩) xs.length cap ∧ cap ≤ maxLen ∧ xs.length ≤ cap ∧ base ≤ g ∧ ∀ j (hj : j < xs.length), w.cell? ⟨g, j, none⟩ = some (.int .i64 (xs[j] : Int)) := by
  rcases h.2 with ⟨h1, h2⟩ | ⟨g, cap, cur, rfl, hb, hg, hn, hm, rest⟩
  · exact Or.inl ⟨h1, List.length_eq_zero_iff.1 h2⟩
  · refine Or.inr ⟨g, cap, rfl, hm, hn, hb, fun j hj => ?_⟩
    rw [World.ownsRow.cellAt h j (by omega)]
    simp [hj]

theorem rowL_len (n : Nat) (f : Nat → Bool) : (rowL n f).length ≤ n + 1 := rowUpto_len f (n + 1)

end Go.Proofs.YteomhjoodnjfbaaDoor
