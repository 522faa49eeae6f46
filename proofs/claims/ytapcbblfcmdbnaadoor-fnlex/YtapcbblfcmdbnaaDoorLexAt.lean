/- Where the program's Lex stands. -/
import Derived.Test.YtapcbblfcmdbnaaDoorLexSame
namespace Go.Proofs.YtapcbblfcmdbnaaDoor
open Go.RowKit

/-- From this place on, behind these tokens, comes what the whole answers. -/
def LxAt (s : ByteArray) (q : Nat) (L : List Tk) : Prop := ∃ f, s.size < f + pas s q ∧ lexF s f (pas s q) L = lexT s
theorem LxAt.start (s : ByteArray) : LxAt s 0 [] := ⟨s.size + 1, by omega, rfl⟩
theorem LxAt.done {s : ByteArray} {q : Nat} {L : List Tk} (h : LxAt s q L) (hq : pas s q = s.size) : lexT s = (L, -1) := by
  obtain ⟨f, hf, h⟩ := h
  cases f with
  | zero => omega
  | succ f =>
    rw [hq] at h
    rw [← h]
    simp [lexF]
theorem LxAt.bad {s : ByteArray} {q : Nat} {L : List Tk} (h : LxAt s q L) (hq : pas s q < s.size) (hb : ¬ (tkOkB (oneT s (pas s q) (tiL L)).1 = true ∧ L.length ≠ 2000)) : lexT s = ([], ((pas s q : Nat) : Int)) := by
  obtain ⟨f, hf, h⟩ := h
  cases f with
  | zero => omega
  | succ f =>
    rw [← h]
    unfold lexF
    rw [if_pos hq, if_neg hb]
theorem LxAt.step {s : ByteArray} {q : Nat} {L : List Tk} (h : LxAt s q L) (hq : pas s q < s.size) (hb : tkOkB (oneT s (pas s q) (tiL L)).1 = true) (hl : L.length ≠ 2000) : LxAt s (oneT s (pas s q) (tiL L)).2 (L ++ [(oneT s (pas s q) (tiL L)).1]) := by
  obtain ⟨f, hf, h⟩ := h
  cases f with
  | zero => omega
  | succ f =>
    unfold lexF at h
    rw [if_pos hq, if_pos ⟨hb, hl⟩] at h
    refine ⟨f, ?_, h⟩
    obtain ⟨h1, h2⟩ := oneT_gt s (pas s q) (tiL L) hq
    have := (pas_bd s _ h2).1
    omega
end Go.Proofs.YtapcbblfcmdbnaaDoor
