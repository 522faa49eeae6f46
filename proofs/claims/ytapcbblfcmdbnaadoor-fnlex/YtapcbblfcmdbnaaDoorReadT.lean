/- Plain facts on reading texts: the bytes as a string; what the built-in conversion of bytes to a string comes to. -/
import Derived.Test.YtapcbblfcmdbnaaDoorRead
import Derived.Test.YtapcbblfcmdbnaaDoorStrOf
namespace Go.Proofs.YtapcbblfcmdbnaaDoor
open Go.RowKit

def gT (zs : List Int) (a : Int) : ByteArray × Int × Bool :=
  if (gU zs a).2.2 = false ∨ zs.length - (gU zs a).2.1 < (gU zs a).1 then (⟨#[]⟩, 0, false)
  else (strOf ((zs.drop (gU zs a).2.1.toNat).take (gU zs a).1.toNat), (gU zs a).2.1 + (gU zs a).1, true)

def tripT (r : ByteArray × Int × Bool) : Value := .tuple #[.string r.1, .int .i64 r.2.1, .bool r.2.2]

theorem cg_le (f : Nat) (l : List Int) : cg f l ≤ l.length := by
  induction f generalizing l with
  | zero => simp [cg]
  | succ f ih =>
    cases l with
    | nil => simp [cg]
    | cons c r =>
      have := ih r
      unfold cg
      split
      · simp
      · split <;> simp <;> omega

theorem gU_ok {zs : List Int} {a n x : Int} (h : gU zs a = (n, x, true)) : 0 ≤ n ∧ n ≤ 2147483647 ∧ 1 ≤ x ∧ x ≤ zs.length := by
  unfold gU at h
  split at h
  · rename_i ha
    unfold gUat at h
    split at h
    · simp at h
    · rename_i hc
      split at h
      · simp at h
      · rename_i hj
        simp only [Prod.mk.injEq, and_true] at h
        have hb := jn_bd (zs.drop a.toNat) (cg 5 (zs.drop a.toNat))
        have hl := cg_le 5 (zs.drop a.toNat)
        rw [List.length_drop] at hl
        obtain ⟨h1, h2⟩ := h
        rw [← h1, ← h2]
        refine ⟨hb.1, by omega, by omega, by omega⟩
  · simp at h
end Go.Proofs.YtapcbblfcmdbnaaDoor
