/- The built-in append onto a slice of numbers of the call's own, as a law for the walk. -/
import Derived.Test.YteomhjoodnjfbaaIntLeaf
import Derived.Laws.AppendOwnNone
namespace Go.Proofs.Yteomhjoodnjfbaa
open Go.RowKit

theorem infoZ : (Try.prog.info? 3).map (fun i => (i.zero, i.size, i.bytes)) = some (some (.int .i64 0), 1, 8) := by kernel_rfl
theorem wpList_append_z {w0 w : World} {ops : Array Oper} {rest : List Oper} {o : Oper} {a : Act} {Q : Exit → Act → World → Prop} (hgd : o.guard = none) (s x : Operand)
    (ho : o.op = .call { callee := .builtin .append, args := #[s, x], argTypes := #[25, 25] })
    (base : Nat) (v u : Value) (xs zs : List Int) (hs : a.eval s = v) (hown : OwnZ w base v xs) (hx : a.eval x = u) (hu : Iz w u zs)
    (hbel : Below base w0 w) (hbase : base ≤ w.heap.size) (hlen : xs.length + zs.length ≤ 1073741824)
    (h : ∀ v' w', OwnZ w' base v' (xs ++ zs) → Below base w0 w' → base ≤ w'.heap.size → w.heap.size ≤ w'.heap.size → (∀ b, b < w.heap.size → some b ≠ v.ownBlock → w'.heap[b]? = w.heap[b]?) → wpList Try.prog ops Q rest (a.put o.dst v') w') :
    wpList Try.prog ops Q (o :: rest) a w := by
  obtain ⟨i0, hi, hz0, hz1, hz2⟩ := info_parts infoZ
  obtain ⟨ao, cap, rfl, hl, hm, hn, hc⟩ := hu
  cases ao with
  | none =>
    have hcap := hn rfl
    have hz : zs.length = 0 := by omega
    have hz' : zs = [] := List.eq_nil_of_length_eq_zero hz
    subst hz'
    subst hcap
    refine wpList_append_own_none hgd s x 25 ho base 3 i0 1 Try.underlying25 hi v xs.length (xs.map (Value.int .i64)) hs hown hx ?_
    have := h v w (by rw [List.append_nil]; exact hown) hbel hbase (Nat.le_refl _) (fun _ _ _ => rfl)
    exact this
  | some ad =>
    refine wpList_append_own w hgd s x 25 ho base 3 i0 (.int .i64 0) 1 8 Try.underlying25 hi hz0 hz1 hz2 rfl (by decide) v xs.length (xs.map (Value.int .i64)) hs hown ad zs.length cap (zs.map (Value.int .i64)) hx
      (by simp) ?_ (by simp [Value.oneCell']) (by unfold maxLen; omega) (by omega) hbase ?_
    · intro j q hq
      have hj : j < zs.length := by have := (List.getElem?_eq_some_iff.1 hq).1; simpa using this
      obtain ⟨b, off, e, hcell⟩ := hc (by intro h0; rw [h0] at hj; simp at hj)
      obtain rfl := Option.some.inj e
      rw [Addr.add_lit, hcell j hj]
      simpa [hj] using hq
    · intro v' w' hown' hgr hx'
      refine h v' w' ?_ (hbel.grown hgr hbase fun k hk => (World.ownsRow.lt hown k hk).1) (Nat.le_trans hbase hgr.size) hgr.size (fun b hb hne => ?_)
      · unfold OwnZ
        rw [List.map_append, List.length_append]
        exact hown'
      · obtain ⟨_, _, _, _, hk⟩ := hgr
        exact hk b hb hne
end Go.Proofs.Yteomhjoodnjfbaa
