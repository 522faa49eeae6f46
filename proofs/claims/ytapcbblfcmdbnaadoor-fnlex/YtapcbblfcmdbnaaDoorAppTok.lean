/- The built-in append of a token onto a slice of tokens of the call's own, as a law for the walk. -/
import Derived.Test.YtapcbblfcmdbnaaDoorTokTo
import Derived.Maps.AppendAt
namespace Go.Proofs.YtapcbblfcmdbnaaDoor
open Go.RowKit
set_option maxRecDepth 8000

/-- A slice of the call's own with these tokens. -/
def OwnK (w : World) (base : Nat) (v : Value) (L : List Tk) : Prop := w.ownsRow base 31 3 v L.length (tkCells L)
theorem OwnK.mono {w : World} {base base' : Nat} {v : Value} {L : List Tk} (h : OwnK w base v L) (hle : base' ≤ base) : OwnK w base' v L := by
  refine ⟨h.1, ?_⟩
  rcases h.2 with h' | ⟨g, cap, cur, e, hb, rest⟩
  · exact Or.inl h'
  · exact Or.inr ⟨g, cap, cur, e, Nat.le_trans hle hb, rest⟩
theorem OwnK.grow {w w' : World} {base : Nat} {v : Value} {L : List Tk} (h : OwnK w base v L) (hb : Below w.heap.size w w') : OwnK w' base v L :=
  World.ownsRow.kept (row := none) h ⟨hb.os, hb.tape, hb.output, hb.size, fun k hk _ => hb.block k hk⟩ (by
    rcases h.2 with ⟨rfl, _⟩ | ⟨g, cap, cur, rfl, _⟩
    · exact .inl rfl
    · exact .inr (by simp [Value.ownBlock]))
theorem tkCells_append (L M : List Tk) : tkCells (L ++ M) = tkCells L ++ tkCells M := by
  induction L with
  | nil => rfl
  | cons x r ih => simp only [List.cons_append, tkCells, ih]

/-- Nothing but the slice's own block has turned, and what is there now lies there or in a new block. -/
def Kign (w w' : World) (v v' : Value) : Prop := w.grownBy w' v.ownBlock ∧ (v'.ownBlock = v.ownBlock ∨ ∃ g, w.heap.size ≤ g ∧ v'.ownBlock = some g)
theorem Kign.refl (w : World) (v : Value) : Kign w w v v := ⟨⟨rfl, rfl, rfl, Nat.le_refl _, fun _ _ _ => rfl⟩, .inl rfl⟩
theorem Kign.trans {a b c : World} {u v x : Value} (h : Kign a b u v) (k : Kign b c v x) : Kign a c u x := by
  obtain ⟨h1, h2⟩ := h
  obtain ⟨k1, k2⟩ := k
  have hs := h1.size
  refine ⟨⟨k1.os.trans h1.os, k1.tape.trans h1.tape, k1.output.trans h1.output, Nat.le_trans hs k1.size, fun j hj hne => (k1.block j (by omega) ?_).trans (h1.block j hj hne)⟩, ?_⟩
  · intro e
    rcases h2 with h2 | ⟨g, hg, h2⟩
    · exact hne (e.trans h2)
    · rw [h2] at e
      have := Option.some.inj e
      omega
  · rcases k2 with k2 | ⟨g, hg, k2⟩
    · rcases h2 with h2 | ⟨g, hg, h2⟩
      · exact .inl (k2.trans h2)
      · exact .inr ⟨g, hg, k2.trans h2⟩
    · exact .inr ⟨g, by omega, k2⟩
/-- What is new in between changes nothing of it. -/
theorem Kign.ahead {a b c : World} {u v : Value} (h : Below a.heap.size a b) (k : Kign b c u v) : Kign a c u v := by
  obtain ⟨k1, k2⟩ := k
  have hs := h.size
  refine ⟨⟨k1.os.trans h.os, k1.tape.trans h.tape, k1.output.trans h.output, Nat.le_trans hs k1.size, fun j hj hne => (k1.block j (by omega) hne).trans (h.block j hj)⟩, ?_⟩
  rcases k2 with k2 | ⟨g, hg, k2⟩
  · exact .inl k2
  · exact .inr ⟨g, by omega, k2⟩

theorem wpList_append_k {w0 w : World} {ops : Array Oper} {rest : List Oper} {o : Oper} {a : Act} {Q : Exit → Act → World → Prop} (hgd : o.guard = none) (s x : Operand)
    (ho : o.op = .call { callee := .builtin .append, args := #[s, x], argTypes := #[24, 24] })
    (base : Nat) (v : Value) (L : List Tk) (y : Tk) (hs : a.eval s = v) (hown : OwnK w base v L) (lb : Nat) (hx : a.eval x = .slice (some ⟨lb, 0, none⟩) 1 1)
    (hc : w.heap[lb]? = some (.cells #[.int .i64 y.k, .int .i64 y.n, .string y.s] 31 (0, 0)))
    (hbel : Below base w0 w) (hbase : base ≤ w.heap.size) (hlen : L.length ≤ 1000000)
    (h : ∀ v' w', OwnK w' base v' (L ++ [y]) → Below base w0 w' → w.heap.size ≤ w'.heap.size → Kign w w' v v' → wpList Tryd.prog ops Q rest (a.put o.dst v') w') :
    wpList Tryd.prog ops Q (o :: rest) a w := by
  obtain ⟨i0, hi, hz0, hz1, hz2⟩ := info_parts infoToken
  refine wpList_append_own_at w hgd s x 24 ho base 31 i0 _ 3 32 Tryd.underlying24 hi hz0 hz1 hz2 rfl (by decide) v L.length (tkCells L) hs hown ⟨lb, 0, none⟩ 1 1 (tkCells [y]) hx rfl ?_ (by simp [tkCells, Value.oneCell']) (by unfold maxLen; omega) (by omega) hbase ?_
  · intro j q hq
    rw [Addr.add_lit, Nat.zero_add, cell_of_row w lb j _ _ (0, 0) hc]
    simpa [tkCells] using hq
  · intro v' w' hown' hgr _ hat
    refine h v' w' ?_ (hbel.grown hgr hbase fun k hk => (World.ownsRow.lt hown k hk).1) hgr.size ⟨hgr, ?_⟩
    rotate_left
    · rcases hat with hat | hat
      · exact .inl hat
      · exact .inr ⟨_, Nat.le_refl _, hat⟩
    unfold OwnK
    rw [tkCells_append, List.length_append]
    exact hown'
end Go.Proofs.YtapcbblfcmdbnaaDoor
