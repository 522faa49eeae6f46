/- The program's appendU once more: besides its bytes, that it writes into no block but that of the slice it is handed, and new ones. -/
import Derived.Test.YtapcbblfcmdbnaaDoorImplPutU
import Derived.Maps.AppendAt
namespace Go.Proofs.YtapcbblfcmdbnaaDoor
open Go.RowKit

/-- From (w0, v0) on only v0's own block has turned, and v lies there or in a new block. -/
def Near (w0 : World) (v0 : Value) (w : World) (v : Value) : Prop :=
  w0.grownBy w v0.ownBlock ∧ (v.ownBlock = v0.ownBlock ∨ ∀ k, v.ownBlock = some k → w0.heap.size ≤ k)

theorem Near.refl (w : World) (v : Value) : Near w v w v := ⟨World.grownBy.refl _ _, Or.inl rfl⟩

theorem Near.step {w0 w w' : World} {v0 v v' : Value} (h : Near w0 v0 w v) (hg : w.grownBy w' v.ownBlock) (hv : v'.ownBlock = v.ownBlock ∨ v'.ownBlock = some w.heap.size) : Near w0 v0 w' v' := by
  have hs := h.1.size
  refine ⟨⟨hg.os.trans h.1.os, hg.tape.trans h.1.tape, hg.output.trans h.1.output, Nat.le_trans hs hg.size, fun k hk hne => ?_⟩, ?_⟩
  · refine (hg.block k (Nat.lt_of_lt_of_le hk hs) ?_).trans (h.1.block k hk hne)
    rcases h.2 with h2 | h2
    · rw [h2]; exact hne
    · intro e; have := h2 k e.symm; omega
  · rcases hv with hv | hv
    · rw [hv]; exact h.2
    · exact Or.inr fun k hk => by rw [hv] at hk; simp at hk; omega

theorem Near.alloc {w0 w : World} {v0 v : Value} (h : Near w0 v0 w v) (o : Obj) : Near w0 v0 (w.alloc o) v := by
  refine ⟨⟨h.1.os, h.1.tape, h.1.output, Nat.le_trans h.1.size (by simp), fun k hk hne => ?_⟩, h.2⟩
  rw [← h.1.block k hk hne]
  have hb : Below w.heap.size w (w.alloc o) := (Below.refl _ _).alloc (Nat.le_refl _) _
  exact hb.block k (Nat.lt_of_lt_of_le hk h.1.size)

theorem Near.below {w0 w : World} {v0 v : Value} {base : Nat} {xs : List Int} (h : Near w0 v0 w v) (ho : Own w0 base v0 xs) (hb : base ≤ w0.heap.size) : Below base w0 w :=
  (Below.refl _ _).grown h.1 hb fun k hk => (ho.lt k hk).1

theorem wpList_append_near {w0 w : World} {ops : Array Oper} {rest : List Oper} {o : Oper} {a : Act} {Q : Exit → Act → World → Prop} (hgd : o.guard = none) (s x : Operand)
    (ho : o.op = .call { callee := .builtin .append, args := #[s, x], argTypes := #[22, 22] })
    (base : Nat) (v0 v u : Value) (xs zs : List Int) (hs : a.eval s = v) (hown : Own w base v xs) (hx : a.eval x = u) (hu : Bs w u zs) (hz : 0 < zs.length)
    (hn : Near w0 v0 w v) (hbase : base ≤ w.heap.size) (hlen : xs.length + zs.length ≤ 1073741824)
    (h : ∀ v' w', Own w' base v' (xs ++ zs) → Near w0 v0 w' v' → base ≤ w'.heap.size → wpList Tryd.prog ops Q rest (a.put o.dst v') w') :
    wpList Tryd.prog ops Q (o :: rest) a w := by
  obtain ⟨i0, hi, hz0, hz1, hz2⟩ := info_parts info5
  obtain ⟨b, off, cap, rfl, hl, hm⟩ := hu.addr hz
  refine wpList_append_own_at w hgd s x 22 ho base 5 i0 (.int .u8 0) 1 1 Tryd.underlying22 hi hz0 hz1 hz2 rfl (by decide) v xs.length (U8 xs) hs hown _ zs.length cap (U8 zs) hx
    (by simp [U8]) ?_ (ints_oneCell .u8 zs) (by unfold maxLen; omega) (by omega) hbase ?_
  · intro j q hq
    have hj : j < zs.length := by have := (List.getElem?_eq_some_iff.1 hq).1; simpa [U8] using this
    rw [Addr.add_lit, hu.cellAt hj]
    rw [U8_get zs j hj] at hq
    exact hq
  · intro v' w' hown' hgr _ hv
    refine h v' w' ?_ (hn.step hgr hv) (Nat.le_trans hbase hgr.size)
    unfold Own
    rw [U8_append, List.length_append]
    exact hown'

end Go.Proofs.YtapcbblfcmdbnaaDoor
