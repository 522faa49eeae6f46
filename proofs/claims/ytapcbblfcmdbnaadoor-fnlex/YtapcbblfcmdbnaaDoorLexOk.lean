/- What Lex answers: all tokens are right, no more than 2000; slices of tokens that lie below a bound. -/
import Derived.Test.YtapcbblfcmdbnaaDoorLexC
namespace Go.Proofs.YtapcbblfcmdbnaaDoor
open Go.RowKit
set_option maxRecDepth 8000

theorem mDig_len (n : Nat) : ∀ o : ByteArray, (mDig n o).size ≤ n + o.size := by
  induction n using Nat.strongRecOn with
  | _ n ih =>
    intro o
    by_cases h : n = 0
    · subst h; rw [mDig_zero]; omega
    · rw [mDig_step n (by omega)]
      have := ih (n / 10) (by omega) (strOf [48 + (n : Int) % 10] ++ o)
      rw [ByteArray.size_append, strOf_size] at this
      simp at this
      omega
theorem mkS_len (n : Nat) : (mkS n).size ≤ n + 2 := by
  unfold mkS
  split
  · exact Nat.le_add_left 2 n
  · have := mDig_len n ⟨#[]⟩
    have e : (ByteArray.mk #[] : ByteArray).size = 0 := rfl
    have e1 : (ByteArray.mk #[109] : ByteArray).size = 1 := rfl
    rw [ByteArray.size_append, e1]
    omega
theorem lexF_ok (s : ByteArray) : ∀ (f p : Nat) (L : List Tk), L.length ≤ 2000 → (∀ x ∈ L, tkOkB x = true ∧ x.s.size ≤ s.size) → (lexF s f p L).1.length ≤ 2000 ∧ ∀ x ∈ (lexF s f p L).1, tkOkB x = true ∧ x.s.size ≤ s.size
  | 0, p, L, _, _ => by simp [lexF]
  | f + 1, p, L, hl, hx => by
    unfold lexF
    split
    · split
      · rename_i h
        refine lexF_ok s f _ _ (by have := h.2; simp; omega) ?_
        intro x hm
        rcases List.mem_append.1 hm with hm | hm
        · exact hx x hm
        · rw [List.mem_singleton.1 hm]
          exact ⟨h.1, oneT_sz s p (tiL L)⟩
      · simp
    · exact ⟨hl, hx⟩
theorem lexT_ok (s : ByteArray) : (lexT s).1.length ≤ 2000 ∧ ∀ x ∈ (lexT s).1, tkOkB x = true ∧ x.s.size ≤ s.size := lexF_ok s _ _ [] (by simp) (by simp)

/-- A slice that reads these tokens, its block (where there are any) below M. -/
def TlN (w : World) (M : Nat) (L : List Tk) (v : Value) : Prop := Tl w L v ∧ (L ≠ [] → ∀ b off len cap, v = .slice (some ⟨b, off, none⟩) len cap → b < M)
theorem TlN.of {w : World} {v : Value} {L : List Tk} (h : Tl w L v) : TlN w w.heap.size L v := by
  refine ⟨h, fun hn b off len cap e => ?_⟩
  obtain ⟨ao, cap', rfl, _, _, _, _, h5⟩ := h
  obtain ⟨b', off', rfl, h7⟩ := h5 hn
  simp only [Value.slice.injEq, Option.some.injEq, Addr.mk.injEq, and_true] at e
  obtain ⟨⟨rfl, rfl⟩, _⟩ := e
  exact World.block_lt_of_cell? w _ (h7 0 (List.length_pos_iff.2 hn)).1
theorem TlN.keep {w w' : World} {M : Nat} {v : Value} {L : List Tk} (h : TlN w M L v) (hk : ∀ b, b < M → w'.heap[b]? = w.heap[b]?) : TlN w' M L v := by
  obtain ⟨⟨ao, cap, h1, h2, h3, h4, h5, h6⟩, h7⟩ := h
  refine ⟨⟨ao, cap, h1, h2, h3, h4, h5, fun hn => ?_⟩, h7⟩
  obtain ⟨b, off, rfl, h8⟩ := h6 hn
  exact ⟨b, off, rfl, fun i hi => (h8 i hi).kept (hk b (h7 hn _ _ _ _ h1))⟩
theorem OwnK.lies {w : World} {base : Nat} {v : Value} {L : List Tk} (h : OwnK w base v L) : ∀ g, v.ownBlock = some g → base ≤ g := fun g hg => (World.ownsRow.lt h g hg).1
theorem marksT_sz (j n : Nat) (h : j + 3 * n ≤ 1048576) : ∀ x ∈ marksT j n, x.s.size ≤ maxLen := by
  intro x hx
  unfold marksT at hx
  obtain ⟨i, hi, rfl⟩ := List.mem_map.1 hx
  have hi' := List.mem_range.1 hi
  have := mkS_len (j + 3 * i + 2)
  unfold mkTk maxLen
  simp only
  omega
end Go.Proofs.YtapcbblfcmdbnaaDoor
