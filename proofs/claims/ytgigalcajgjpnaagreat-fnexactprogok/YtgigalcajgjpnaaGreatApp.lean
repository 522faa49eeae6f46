/- The built-in append onto a slice of bytes of the call's own, as a law for the walk. -/
import Derived.Test.YtgigalcajgjpnaaGreatLeaf
import Derived.Laws.AppendOwnNone
namespace Go.Proofs.YtgigalcajgjpnaaGreat
open Go.RowKit

theorem wpList_append_bs {w0 w : World} {ops : Array Oper} {rest : List Oper} {o : Oper} {a : Act} {Q : Exit → Act → World → Prop} (hgd : o.guard = none) (s x : Operand)
    (ho : o.op = .call { callee := .builtin .append, args := #[s, x], argTypes := #[62, 62] })
    (base : Nat) (v u : Value) (xs zs : List Int) (hs : a.eval s = v) (hown : Own w base v xs) (hx : a.eval x = u) (hu : Bs w u zs)
    (hbel : Below base w0 w) (hbase : base ≤ w.heap.size) (hlen : xs.length + zs.length ≤ 1073741824)
    (h : ∀ v' w', Own w' base v' (xs ++ zs) → Below base w0 w' → base ≤ w'.heap.size → wpList Tryz.prog ops Q rest (a.put o.dst v') w') :
    wpList Tryz.prog ops Q (o :: rest) a w := by
  obtain ⟨i0, hi, hz0, hz1, hz2⟩ := info_parts info5
  obtain ⟨hb, ao, cap, rfl, hl, hm, hn, hc⟩ := hu
  cases ao with
  | none =>
    have hcap := hn rfl
    have hz : zs.length = 0 := by omega
    have hz' : zs = [] := List.eq_nil_of_length_eq_zero hz
    subst hz'
    subst hcap
    refine wpList_append_own_none hgd s x 62 ho base 5 i0 1 Tryz.underlying62 hi v xs.length (U8 xs) hs hown hx ?_
    have := h v w (by rw [List.append_nil]; exact hown) hbel hbase
    exact this
  | some ad =>
    refine wpList_append_own w hgd s x 62 ho base 5 i0 (.int .u8 0) 1 1 Tryz.underlying62 hi hz0 hz1 hz2 rfl (by decide) v xs.length (U8 xs) hs hown ad zs.length cap (U8 zs) hx
      (by simp [U8]) ?_ (ints_oneCell .u8 zs) (by unfold maxLen; omega) (by omega) hbase ?_
    · intro j q hq
      have hj : j < zs.length := by have := (List.getElem?_eq_some_iff.1 hq).1; simpa [U8] using this
      obtain ⟨b, off, e, hcell⟩ := hc (by intro h0; rw [h0] at hj; simp at hj)
      obtain rfl := Option.some.inj e
      rw [Addr.add_lit, hcell j hj]
      rw [U8_get zs j hj] at hq
      exact hq
    · intro v' w' hown' hgr _
      refine h v' w' ?_ (hbel.grown hgr hbase fun k hk => (World.ownsRow.lt hown k hk).1) (Nat.le_trans hbase hgr.size)
      unfold Own
      rw [U8_append, List.length_append]
      exact hown'

theorem Own.mono {w : World} {base b0 : Nat} {v : Value} {xs : List Int} (h : Own w base v xs) (hle : b0 ≤ base) : Own w b0 v xs := by
  refine ⟨h.1, ?_⟩
  rcases h.2 with ⟨rfl, h0⟩ | ⟨g, cap, cur, rfl, hb, hr⟩
  · exact Or.inl ⟨rfl, h0⟩
  · exact Or.inr ⟨g, cap, cur, rfl, Nat.le_trans hle hb, hr⟩

/-- One byte in a new block. -/
theorem Bs.one (w : World) (c : Int) (h0 : 0 ≤ c) (h1 : c ≤ 255) : Bs (w.alloc (.cells #[.int .u8 c] 5)) (.slice (some ⟨w.heap.size, 0, none⟩) 1 1) [c] := by
  refine ⟨by intro z hz; simp at hz; omega, _, 1, rfl, by simp, by decide, fun h => by simp at h, fun _ => ⟨_, 0, rfl, fun i hi => ?_⟩⟩
  obtain rfl : i = 0 := by simpa using hi
  simp

end Go.Proofs.YtgigalcajgjpnaaGreat
