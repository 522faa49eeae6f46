/- Slices of texts: read, owned, the same, appended, copied, marked, held. -/
import Derived.Test.YtgigalcajgjpnaaMarkT
import Derived.Test.YtgigalcajgjpnaaQuietS
import Derived.Laws.AppendOwnNone
namespace Go.Proofs.Ytgigalcajgjpnaa
open Go.RowKit
set_option maxRecDepth 8000

/-- A slice that reads these texts. -/
def Tz (w : World) (v : Value) (xs : List ByteArray) : Prop := ∃ ao cap, v = .slice ao xs.length cap ∧ xs.length ≤ cap ∧ cap ≤ maxLen ∧ (ao = none → cap = 0) ∧ (xs ≠ [] → ∃ b off, ao = some ⟨b, off, none⟩ ∧ ∀ k, k < xs.length → w.cell? ⟨b, off + k, none⟩ = some (.string (xs.getD k ⟨#[]⟩)))
/-- A slice of the call's own with these texts. -/
def OwnT (w : World) (base : Nat) (v : Value) (xs : List ByteArray) : Prop := w.ownsRow base 9 1 v xs.length (xs.map (Value.string))

theorem Tz.grow {w w' : World} {v : Value} {xs : List ByteArray} (h : Tz w v xs) (hb : Below w.heap.size w w') : Tz w' v xs := by
  obtain ⟨ao, cap, h1, h2, h3, h4, h5⟩ := h
  refine ⟨ao, cap, h1, h2, h3, h4, fun hn => ?_⟩
  obtain ⟨b, off, h6, h7⟩ := h5 hn
  have h0 : 0 < xs.length := List.length_pos_iff.2 hn
  have hbl : b < w.heap.size := World.block_lt_of_cell? w _ (h7 0 h0)
  exact ⟨b, off, h6, fun k hk => by rw [hb.cell (p := ⟨b, off + k, none⟩) hbl]; exact h7 k hk⟩
theorem OwnT.iz {w : World} {base : Nat} {v : Value} {xs : List ByteArray} (h : OwnT w base v xs) : Tz w v xs := by
  rcases h.2 with ⟨h1, h2⟩ | ⟨g, cap, cur, rfl, hb, hg, hn, hm, hs, ht⟩
  · obtain rfl : xs = [] := List.length_eq_zero_iff.1 h2
    exact ⟨none, 0, h1, Nat.le_refl _, by simp, fun _ => rfl, fun h => absurd rfl h⟩
  · refine ⟨some ⟨g, 0, none⟩, cap, rfl, hn, hm, (fun h => by cases h), fun _ => ⟨g, 0, rfl, fun k hk => ?_⟩⟩
    have := h.cellAt k (by omega)
    rw [Nat.zero_add, this]
    simp [hk]
theorem OwnT.mono {w : World} {base base' : Nat} {v : Value} {xs : List ByteArray} (h : OwnT w base v xs) (hle : base' ≤ base) : OwnT w base' v xs := by
  refine ⟨h.1, ?_⟩
  rcases h.2 with h' | ⟨g, cap, cur, e, hb, rest⟩
  · exact Or.inl h'
  · exact Or.inr ⟨g, cap, cur, e, Nat.le_trans hle hb, rest⟩
theorem OwnT.grow {w w' : World} {base : Nat} {v : Value} {xs : List ByteArray} (h : OwnT w base v xs) (hb : Below w.heap.size w w') : OwnT w' base v xs :=
  World.ownsRow.kept (row := none) h ⟨hb.os, hb.tape, hb.output, hb.size, fun k hk _ => hb.block k hk⟩ (by
    rcases h.2 with ⟨rfl, _⟩ | ⟨g, cap, cur, rfl, _⟩
    · exact .inl rfl
    · exact .inr (by simp [Value.ownBlock]))

theorem infoT : (Try.prog.info? 9).map (fun i => (i.zero, i.size, i.bytes)) = some (some (.string ⟨#[]⟩), 1, 16) := by kernel_rfl
theorem wpList_append_t {w0 w : World} {ops : Array Oper} {rest : List Oper} {o : Oper} {a : Act} {Q : Exit → Act → World → Prop} (hgd : o.guard = none) (s x : Operand)
    (ho : o.op = .call { callee := .builtin .append, args := #[s, x], argTypes := #[80, 80] })
    (base : Nat) (v u : Value) (xs zs : List ByteArray) (hs : a.eval s = v) (hown : OwnT w base v xs) (hx : a.eval x = u) (hu : Tz w u zs)
    (hbel : Below base w0 w) (hbase : base ≤ w.heap.size) (hlen : xs.length + zs.length ≤ 1073741824)
    (h : ∀ v' w', OwnT w' base v' (xs ++ zs) → Below base w0 w' → base ≤ w'.heap.size → w.heap.size ≤ w'.heap.size → (∀ b, b < w.heap.size → some b ≠ v.ownBlock → w'.heap[b]? = w.heap[b]?) → wpList Try.prog ops Q rest (a.put o.dst v') w') :
    wpList Try.prog ops Q (o :: rest) a w := by
  obtain ⟨i0, hi, hz0, hz1, hz2⟩ := info_parts infoT
  obtain ⟨ao, cap, rfl, hl, hm, hn, hc⟩ := hu
  cases ao with
  | none =>
    have hcap := hn rfl
    have hz : zs.length = 0 := by omega
    have hz' : zs = [] := List.eq_nil_of_length_eq_zero hz
    subst hz'
    subst hcap
    refine wpList_append_own_none hgd s x 80 ho base 9 i0 1 Try.underlying80 hi v xs.length (xs.map (Value.string)) hs hown hx ?_
    have := h v w (by rw [List.append_nil]; exact hown) hbel hbase (Nat.le_refl _) (fun _ _ _ => rfl)
    exact this
  | some ad =>
    refine wpList_append_own w hgd s x 80 ho base 9 i0 (.string ⟨#[]⟩) 1 16 Try.underlying80 hi hz0 hz1 hz2 rfl (by decide) v xs.length (xs.map (Value.string)) hs hown ad zs.length cap (zs.map (Value.string)) hx
      (by simp) ?_ (by simp [Value.oneCell']) (by unfold maxLen; omega) (by omega) hbase ?_
    · intro j q hq
      have hj : j < zs.length := by have := (List.getElem?_eq_some_iff.1 hq).1; simpa using this
      obtain ⟨b, off, e, hcell⟩ := hc (by intro h0; rw [h0] at hj; simp at hj)
      obtain rfl := Option.some.inj e
      rw [Addr.add_lit, hcell j hj]
      simpa [hj] using hq
    · intro v' w' hown' hgr hx'
      refine h v' w' ?_ (hbel.grown hgr hbase fun k hk => (World.ownsRow.lt hown k hk).1) (Nat.le_trans hbase hgr.size) hgr.size (fun b hb hne => ?_)
      · unfold OwnT
        rw [List.map_append, List.length_append]
        exact hown'
      · obtain ⟨_, _, _, _, hk⟩ := hgr
        exact hk b hb hne

set_option maxHeartbeats 1000000 in
theorem eqStringS_same (v v' : Value) (zs : List ByteArray) (w : World) (h : Tz w v zs) (h' : Tz w v' zs) :
    Calls Try.prog 80 #[v, v'] w fun e w' => e = .returned (.bool true) ∧ ∃ n, w' = w.drewN n := by
  obtain ⟨ao, cap, rfl, hl, hm, hn, hc⟩ := h
  obtain ⟨ao2, cap2, rfl, hl2, hm2, hn2, hc2⟩ := h'
  unfold maxLen at hm hm2
  have hnn : ((zs.length : Int) != (zs.length : Int)) = false := by simp
  go_enter Try.func80, Try.ntmps80
  go_wp2
  go_loopw [5] (fun i wr => ∃ k : Nat, k ≤ zs.length ∧ i = .int .i64 k ∧ ∃ n, wr = w.drewN n) (fun i _ => zs.length - (intOf i).toNat)
  case atStart => exact ⟨0, Nat.zero_le _, rfl, 0, rfl⟩
  case round =>
    obtain ⟨k, hk, rfl, n, rfl⟩ := hrel
    by_cases hlt : k < zs.length
    · obtain ⟨b, off, rfl, hcell⟩ := hc (by intro h0; rw [h0] at hlt; simp at hlt)
      obtain ⟨b2, off2, rfl, hcell2⟩ := hc2 (by intro h0; rw [h0] at hlt; simp at hlt)
      obtain ⟨c, Hc⟩ : ∃ c, Hid (zs.getD k ⟨#[]⟩ = c) := ⟨_, rfl⟩
      have h1 : w.cell? ⟨b, off + k, none⟩ = some (.string c) := by rw [← Hc.out]; exact hcell k hlt
      have h2 : w.cell? ⟨b2, off2 + k, none⟩ = some (.string c) := by rw [← Hc.out]; exact hcell2 k hlt
      have h4 : (c.toList != c.toList) = false := by simp
      have hi1 : (k : Int) < (zs.length : Int) := by omega
      clear hc hc2 hcell hcell2
      go_wp2
      go_quiet (fail)
      go_wp2
      go_roundw
      case rel => exact ⟨k + 1, by omega, by go_num, _, rfl⟩
      case measure => simp [intOf]; omega
    · go_wp2
      go_ret
      exact ⟨rfl, n, rfl⟩
end Go.Proofs.Ytgigalcajgjpnaa
