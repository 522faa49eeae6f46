/- The built-in append onto a slice of bytes of the call's own, of bytes and of a string: nothing but the slice's own block has turned. -/
import Derived.Test.YtgigalcajgjpnaaGreatAppStr
import Derived.Maps.AppendAt
namespace Go.Proofs.YtgigalcajgjpnaaGreat
open Go.RowKit

/-- From (w0, v0) on only v0's own block has turned, and v lies there or in a new block. -/
def Nigh (w0 : World) (v0 : Value) (w : World) (v : Value) : Prop :=
  w0.grownBy w v0.ownBlock ∧ (v.ownBlock = v0.ownBlock ∨ ∀ k, v.ownBlock = some k → w0.heap.size ≤ k)

theorem Nigh.refl (w : World) (v : Value) : Nigh w v w v := ⟨World.grownBy.refl _ _, Or.inl rfl⟩

theorem Nigh.trans {w0 w w' : World} {v0 v v' : Value} (h : Nigh w0 v0 w v) (hh : Nigh w v w' v') : Nigh w0 v0 w' v' := by
  obtain ⟨hg, hv⟩ := hh
  have hs := h.1.size
  refine ⟨⟨hg.os.trans h.1.os, hg.tape.trans h.1.tape, hg.output.trans h.1.output, Nat.le_trans hs hg.size, fun k hk hne => ?_⟩, ?_⟩
  · refine (hg.block k (Nat.lt_of_lt_of_le hk hs) ?_).trans (h.1.block k hk hne)
    rcases h.2 with h2 | h2
    · rw [h2]; exact hne
    · intro e; have := h2 k e.symm; omega
  · rcases hv with hv | hv
    · rw [hv]; exact h.2
    · exact Or.inr fun k hk => by have := hv k hk; omega

theorem Nigh.step {w0 w w' : World} {v0 v v' : Value} (h : Nigh w0 v0 w v) (hg : w.grownBy w' v.ownBlock) (hv : v'.ownBlock = v.ownBlock ∨ v'.ownBlock = some w.heap.size) : Nigh w0 v0 w' v' :=
  h.trans ⟨hg, hv.imp id fun h k hk => by rw [h] at hk; simp at hk; omega⟩

theorem Nigh.grow {w0 w w' : World} {v0 v : Value} (h : Nigh w0 v0 w v) (hb : Below w.heap.size w w') : Nigh w0 v0 w' v :=
  h.trans ⟨⟨hb.os, hb.tape, hb.output, hb.size, fun k hk _ => hb.block k hk⟩, Or.inl rfl⟩

theorem Nigh.alloc {w0 w : World} {v0 v : Value} (h : Nigh w0 v0 w v) (o : Obj) : Nigh w0 v0 (w.alloc o) v := h.grow ((Below.refl _ _).alloc (Nat.le_refl _) _)

theorem Nigh.below {w0 w : World} {v0 v : Value} {base : Nat} {xs : List Int} (h : Nigh w0 v0 w v) (ho : Own w0 base v0 xs) (hb : base ≤ w0.heap.size) : Below base w0 w :=
  (Below.refl _ _).grown h.1 hb fun k hk => (ho.lt k hk).1

/-- A block that is not the slice's is as it was. -/
theorem Nigh.block {w0 w : World} {v0 v : Value} (h : Nigh w0 v0 w v) {b : Nat} (hb : b < w0.heap.size) (hne : v0.ownBlock ≠ some b) : w.heap[b]? = w0.heap[b]? :=
  h.1.block b hb fun e => hne e.symm

theorem wpList_append_nigh {w0 w : World} {ops : Array Oper} {rest : List Oper} {o : Oper} {a : Act} {Q : Exit → Act → World → Prop} (hgd : o.guard = none) (s x : Operand)
    (ho : o.op = .call { callee := .builtin .append, args := #[s, x], argTypes := #[62, 62] })
    (base : Nat) (v0 v u : Value) (xs zs : List Int) (hs : a.eval s = v) (hown : Own w base v xs) (hx : a.eval x = u) (hu : Bs w u zs) (hz : 0 < zs.length)
    (hn : Nigh w0 v0 w v) (hbase : base ≤ w.heap.size) (hlen : xs.length + zs.length ≤ 1073741824)
    (h : ∀ v' w', Own w' base v' (xs ++ zs) → Nigh w0 v0 w' v' → base ≤ w'.heap.size → wpList Tryz.prog ops Q rest (a.put o.dst v') w') :
    wpList Tryz.prog ops Q (o :: rest) a w := by
  obtain ⟨i0, hi, hz0, hz1, hz2⟩ := info_parts info5
  obtain ⟨b, off, cap, rfl, hl, hm⟩ := hu.addr hz
  refine wpList_append_own_at w hgd s x 62 ho base 5 i0 (.int .u8 0) 1 1 Tryz.underlying62 hi hz0 hz1 hz2 rfl (by decide) v xs.length (U8 xs) hs hown _ zs.length cap (U8 zs) hx
    (by simp [U8]) ?_ (ints_oneCell .u8 zs) (by unfold maxLen; omega) (by omega) hbase ?_
  · intro j q hq
    have hj : j < zs.length := by have := (List.getElem?_eq_some_iff.1 hq).1; simpa [U8] using this
    rw [Addr.add_lit, hu.cellAt hj]
    rw [U8_get zs j hj] at hq
    exact hq
  · intro v' w' hown' hgr _ hv
    refine h v' w' ?_ (hn.step hgr hv) (Nat.le_trans hbase hgr.size)
    unfold Own
    rw [U8_append, List.length_append]
    exact hown'

theorem run_append_str_at {w : World} (ty : TypeId) (base : Nat) (v : Value) (t : ByteArray) (xs : List Int) (hown : Own w base v xs) (hbase : base ≤ w.heap.size) (hlen : xs.length + t.size ≤ 1073741824) :
    ∃ v' w', (Builtin.append_ #[62, 9] ty #[v, .string t]).run Tryz.prog w = .ok v' w' ∧ Own w' base v' (xs ++ txt t) ∧ w.grownBy w' v.ownBlock ∧ (v'.ownBlock = v.ownBlock ∨ v'.ownBlock = some w.heap.size) := by
  obtain ⟨i0, hi, hz0, hz1, hz2⟩ := info_parts info5
  obtain ⟨v', w', hr, ho, hg, hn⟩ := Lib.run_append_own_string (P := Tryz.prog) w base 62 9 ty 5 i0 Tryz.underlying62 Tryz.underlying9 hi hz0 hz1 hz2 v xs.length (U8 xs) hown t (by unfold maxLen; omega) (by omega) hbase
  refine ⟨v', w', hr, ?_, hg, ?_⟩
  · unfold Own
    rw [U8_append, List.length_append, txt_length, ← txt_cells]
    exact ho
  · rcases hown.2 with ⟨rfl, h0⟩ | ⟨g, cap, cur, rfl, hbg, hgc, hnc, hcm, hcs, htake⟩
    · by_cases hm : t.size = 0
      · exact Or.inl (by rw [hn.2 ⟨rfl, hm⟩])
      · have := run_append_nil_string (P := Tryz.prog) w 62 9 ty 5 i0 (.int .u8 0) Tryz.underlying62 Tryz.underlying9 hi hz0 t (by omega) (by omega) (by rw [hz2]; simp; omega)
        rw [hr] at this
        injection this with e1 e2
        right; rw [e1]; rfl
    · by_cases hroom : xs.length + t.size ≤ cap
      · have := Lib.run_append_room_string (P := Tryz.prog) w 62 9 ty 5 i0 Tryz.underlying62 Tryz.underlying9 hi hz1 g xs.length cap cur hgc t hroom (by omega)
        rw [hr] at this
        injection this with e1 e2
        left; rw [e1]; rfl
      · have holds : ∀ j u, (U8 xs)[j]? = some u → w.cell? ((⟨g, 0, none⟩ : Addr).add j) = some u := World.ownsRow.cells (g := g) hown rfl
        have := Lib.run_append_grow_string (P := Tryz.prog) w 62 9 ty 5 i0 (.int .u8 0) Tryz.underlying62 Tryz.underlying9 hi hz0 ⟨g, 0, none⟩ xs.length cap (U8 xs) (by rw [hz1]; simp [U8]) holds t (by omega) (by omega) (by rw [hz2]; exact growslice_fits (by omega) (by omega))
        rw [hr] at this
        injection this with e1 e2
        right; rw [e1]; rfl

theorem wpList_append_str_nigh {w0 w : World} {ops : Array Oper} {rest : List Oper} {o : Oper} {a : Act} {Q : Exit → Act → World → Prop} (hgd : o.guard = none) (s x : Operand)
    (ho : o.op = .call { callee := .builtin .append, args := #[s, x], argTypes := #[62, 9] })
    (base : Nat) (v0 v : Value) (t : ByteArray) (xs : List Int) (hs : a.eval s = v) (hown : Own w base v xs) (hx : a.eval x = .string t)
    (hn : Nigh w0 v0 w v) (hbase : base ≤ w.heap.size) (hlen : xs.length + t.size ≤ 1073741824)
    (h : ∀ v' w', Own w' base v' (xs ++ txt t) → Nigh w0 v0 w' v' → base ≤ w'.heap.size → wpList Tryz.prog ops Q rest (a.put o.dst v') w') :
    wpList Tryz.prog ops Q (o :: rest) a w := by
  refine wpList_plain hgd fun K hK => ?_
  obtain ⟨v', w', hr, h2, h3, h4⟩ := run_append_str_at o.type base v t xs hown hbase hlen
  unfold Oper.wp execOp
  simp only [ho, resolve, invoke, builtin, Sem.run_bind, Sem.run_pure, Result.andThen_ok, List.map_toArray, List.map_cons, List.map_nil, hs, hx, hr]
  exact hK _ _ (h v' w' h2 (hn.step h3 h4) (Nat.le_trans hbase h3.size))

theorem Nigh.cell {w0 w : World} {v0 v : Value} (h : Nigh w0 v0 w v) {p : Addr} (hb : p.block < w0.heap.size) (hne : v0.ownBlock ≠ some p.block) : w.cell? p = w0.cell? p :=
  World.cell?_of_block (h.block hb hne)

theorem Nigh.size {w0 w : World} {v0 v : Value} (h : Nigh w0 v0 w v) : w0.heap.size ≤ w.heap.size := h.1.size

/-- A byte of a block that is not the slice's. -/
theorem Nigh.bs {w0 w : World} {v0 v u : Value} {zs : List Int} (h : Nigh w0 v0 w v) (hu : Bs w0 u zs) (hz : zs ≠ []) (hne : ∀ k, u.ownBlock = some k → v0.ownBlock ≠ some k) : Bs w u zs :=
  hu.kept fun k hk => h.block (hu.lt hz k hk) (hne k hk)

theorem oper_append_nigh {w0 w : World} {o : Oper} {a : Act} {K : Act → World → Prop} {Q : Exit → Act → World → Prop} (s x : Operand)
    (ho : o.op = .call { callee := .builtin .append, args := #[s, x], argTypes := #[62, 62] })
    (base : Nat) (v0 v u : Value) (xs zs : List Int) (hs : a.eval s = v) (hown : Own w base v xs) (hx : a.eval x = u) (hu : Bs w u zs) (hz : 0 < zs.length)
    (hn : Nigh w0 v0 w v) (hbase : base ≤ w.heap.size) (hlen : xs.length + zs.length ≤ 1073741824)
    (h : ∀ v' w', Own w' base v' (xs ++ zs) → Nigh w0 v0 w' v' → Nigh w v w' v' → base ≤ w'.heap.size → K (a.put o.dst v') w') : o.wp Tryz.prog a w K Q := by
  obtain ⟨i0, hi, hz0, hz1, hz2⟩ := info_parts info5
  obtain ⟨b, off, cap, rfl, hl, hm⟩ := hu.addr hz
  obtain ⟨v', w', hr, h2, h3, h4, h5⟩ := run_append_own_at (P := Tryz.prog) w base 62 o.type 5 i0 (.int .u8 0) 1 1 Tryz.underlying62 hi hz0 hz1 hz2 rfl (by decide) v xs.length (U8 xs) hown _ zs.length cap (U8 zs)
    (by simp [U8]) (by
      intro j q hq
      have hj : j < zs.length := by have := (List.getElem?_eq_some_iff.1 hq).1; simpa [U8] using this
      rw [Addr.add_lit, hu.cellAt hj]
      rw [U8_get zs j hj] at hq
      exact hq) (ints_oneCell .u8 zs) (by unfold maxLen; omega) (by omega) hbase
  unfold Oper.wp execOp
  simp only [ho, resolve, invoke, builtin, Sem.run_bind, Sem.run_pure, Result.andThen_ok, List.map_toArray, List.map_cons, List.map_nil, hs, hx, hr]
  refine h v' w' ?_ (hn.step h3 h5) ((Nigh.refl w v).step h3 h5) (Nat.le_trans hbase h3.size)
  unfold Own
  rw [U8_append, List.length_append]
  exact h2
end Go.Proofs.YtgigalcajgjpnaaGreat
