/- The program's appendU once more: besides its bytes, that it writes into no block but that of the slice it is handed, and new ones. -/
import Derived.Test.YtincoibidgkiaaaDoorImplPutU
import Derived.Maps.AppendAt
namespace Go.Proofs.YtincoibidgkiaaaDoor
open Go.RowKit

/-- From (w0, v0) on only v0's own block has turned, and v lies there or in a new block. -/
def Near (w0 : World) (v0 : Value) (w : World) (v : Value) : Prop :=
  w0.grownBy w v0.ownBlock ∧ (v.ownBlock = v0.ownBlock ∨ ∀ k, v.ownBlock = some k → w0.heap.size ≤ k)

theorem Near.refl (w : World) (v : Value) : Near w v w v := ⟨World.grownBy.refl _ _, Or.inl rfl⟩

theorem Near.step {w0 w w' : World} {v0 v v' : Value} (h : Near w0 v0 w v) (hg : w.grownBy w' v.ownBlock) (hv : v'.ownBlock = v.ownBlock ∨ v'.ownBlock = some w.heap.size) : Near w0 v0 w' v' := by
  have hs := h.1.size
  refine ⟨⟨hg.os.trans h.1.os, hg.tape.trans h.1.tape, hg.output.trans h.1.output, Nat.le_trans hs hg.size, fun k hk hne => ?_⟩, ?_⟩
  · refine (hg.block k (Nat.lt_of_lt_of_le hk hs) ?_).trans (h.1.block k hk hne)
    rcases h.2 with h2 | h2
    · rw [h2]; exact hne
    · intro e; have := h2 k e.symm; omega
  · rcases hv with hv | hv
    · rw [hv]; exact h.2
    · exact Or.inr fun k hk => by rw [hv] at hk; simp at hk; omega

theorem Near.alloc {w0 w : World} {v0 v : Value} (h : Near w0 v0 w v) (o : Obj) : Near w0 v0 (w.alloc o) v := by
  refine ⟨⟨h.1.os, h.1.tape, h.1.output, Nat.le_trans h.1.size (by simp), fun k hk hne => ?_⟩, h.2⟩
  rw [← h.1.block k hk hne]
  have hb : Below w.heap.size w (w.alloc o) := (Below.refl _ _).alloc (Nat.le_refl _) _
  exact hb.block k (Nat.lt_of_lt_of_le hk h.1.size)

theorem Near.below {w0 w : World} {v0 v : Value} {base : Nat} {xs : List Int} (h : Near w0 v0 w v) (ho : Own w0 base v0 xs) (hb : base ≤ w0.heap.size) : Below base w0 w :=
  (Below.refl _ _).grown h.1 hb fun k hk => (ho.lt k hk).1

theorem wpList_append_near {w0 w : World} {ops : Array Oper} {rest : List Oper} {o : Oper} {a : Act} {Q : Exit → Act → World → Prop} (hgd : o.guard = none) (s x : Operand)
    (ho : o.op = .call { callee := .builtin .append, args := #[s, x], argTypes := #[22, 22] })
    (base : Nat) (v0 v u : Value) (xs zs : List Int) (hs : a.eval s = v) (hown : Own w base v xs) (hx : a.eval x = u) (hu : Bs w u zs) (hz : 0 < zs.length)
    (hn : Near w0 v0 w v) (hbase : base ≤ w.heap.size) (hlen : xs.length + zs.length ≤ 1073741824)
    (h : ∀ v' w', Own w' base v' (xs ++ zs) → Near w0 v0 w' v' → base ≤ w'.heap.size → wpList Tryd.prog ops Q rest (a.put o.dst v') w') :
    wpList Tryd.prog ops Q (o :: rest) a w := by
  obtain ⟨i0, hi, hz0, hz1, hz2⟩ := info_parts info5
  obtain ⟨b, off, cap, rfl, hl, hm⟩ := hu.addr hz
  refine wpList_append_own_at w hgd s x 22 ho base 5 i0 (.int .u8 0) 1 1 Tryd.underlying22 hi hz0 hz1 hz2 rfl (by decide) v xs.length (U8 xs) hs hown _ zs.length cap (U8 zs) hx
    (by simp [U8]) ?_ (ints_oneCell .u8 zs) (by unfold maxLen; omega) (by omega) hbase ?_
  · intro j q hq
    have hj : j < zs.length := by have := (List.getElem?_eq_some_iff.1 hq).1; simpa [U8] using this
    rw [Addr.add_lit, hu.cellAt hj]
    rw [U8_get zs j hj] at hq
    exact hq
  · intro v' w' hown' hgr _ hv
    refine h v' w' ?_ (hn.step hgr hv) (Nat.le_trans hbase hgr.size)
    unfold Own
    rw [U8_append, List.length_append]
    exact hown'

set_option maxHeartbeats 800000 in
theorem appendU_near (base nb : Nat) (v : Value) (xs : List Int) (n : Int) (w : World) (ho : Own w base v xs) (hbase : base ≤ w.heap.size) (hlen : xs.length ≤ 16777216)
    (hcell : w.cell? ⟨nb, 0, none⟩ = some (.int .i64 n)) :
    Calls Tryd.prog 54 #[v, .slice (some ⟨nb, 0, none⟩) 1 1] w fun e w' => ∃ v', e = .returned v' ∧ Own w' base v' (xs ++ Ma.UG (Ma.clamp n)) ∧ Near w v w' v' := by
  obtain ⟨N, HN⟩ : ∃ N, Hid (Ma.clamp n = N) := ⟨_, rfl⟩
  rw [HN.out]
  have hN0 : 0 ≤ N := by rw [← HN.out]; exact Ma.clamp_lo n
  have hN1 : N ≤ 2147483647 := by rw [← HN.out]; exact Ma.clamp_hi n
  have hcc := Ma.clamp_cases n
  rw [HN.out] at hcc
  have HC := Hid.mk hcc
  clear hcc HN
  go_enter Tryd.func54, Tryd.ntmps54
  go_wp2
  go_loopw [0, 6, 9] (fun v' _ i wr => (i = .int .i64 0 ∧ v' = v ∧ wr = w) ∨ (i = .int .i64 1 ∧ Own wr base v' (xs ++ Ma.UG N) ∧ Near w v wr v')) (fun _ _ i _ => 1 - (intOf i).toNat)
  case atStart => exact Or.inl ⟨rfl, rfl, rfl⟩
  case round =>
    rcases hrel with ⟨rfl, hv0, rfl⟩ | ⟨rfl, hown, hbel⟩
    · obtain ⟨wo, rfl⟩ : ∃ wo : World, wo = wr := ⟨_, rfl⟩
      obtain rfl := hv0.symm
      clear hv0
      rcases HC.out with ⟨hn, hv⟩ | ⟨hn, hn2, hv⟩ | ⟨hn, hn2, hv⟩
      all_goals
        have HV := Hid.mk hv
        clear hv HC
        go_wp2
        go_loopw [0, 6] (fun v' q wr => ∃ (pre : List Int) (m : Int), q = .int .i64 m ∧ 0 ≤ m ∧ m ≤ 2147483647 ∧ Hid (pre ++ Ma.UG m = Ma.UG N) ∧ Own wr base v' (xs ++ pre) ∧ Near wo v wr v' ∧ base ≤ wr.heap.size) (fun _ q _ => (intOf q).toNat)
        case atStart =>
          exact ⟨[], N, congrArg (Value.int .i64) HV.out, hN0, hN1, rfl, by rw [List.append_nil]; exact ho, Near.refl _ _, hbase⟩
        case round =>
          obtain ⟨pre, m, rfl, hm0, hm1, hpre, hownr, hbelr, hszr⟩ := hrel
          have hp := ug_pre hpre.out
          clear ho hbase hcell
          by_cases hlt : 127 < m
          · have e1 := i64_and127 m
            have e2 := Ma.low7_128 m
            have e3 : 0 ≤ m % 128 := by omega
            have e4 : m % 128 < 128 := by omega
            have hb1 := Bs.one wr (m % 128 + 128) (by omega) (by omega)
            go_wp2_with (at_builtin; refine wpList_append_near rfl _ _ rfl base v _ _ (xs ++ pre) [m % 128 + 128] rfl (hownr.alloc _) rfl hb1 (by simp) (hbelr.alloc _) (by simp; omega) (by simp; omega) ?_)
            intro v2 w2 hown2 hbel2 hsz2
            have hown3 : Own w2 base v2 (xs ++ (pre ++ [m % 128 + 128])) := by first | exact hown2 | exact hown2.assoc
            have hr := Hid.mk (ug_round hpre.out hlt hm1)
            clear hb1 hpre hownr hbelr hszr hown2
            go_wp2
            go_roundw
            case rel => exact ⟨pre ++ [m % 128 + 128], m / 128, rfl, by omega, by omega, hr, hown3, hbel2, hsz2⟩
            case measure => simp [intOf]; omega
          · have hb1 := Bs.one wr m (by omega) (by omega)
            go_wp2_with (at_builtin; refine wpList_append_near rfl _ _ rfl base v _ _ (xs ++ pre) [m] rfl (hownr.alloc _) rfl hb1 (by simp) (hbelr.alloc _) (by simp; omega) (by simp; omega) ?_)
            intro v2 w2 hown2 hbel2 hsz2
            have hown3 : Own w2 base v2 (xs ++ (pre ++ [m])) := by first | exact hown2 | exact hown2.assoc
            rw [← Ma.UG_last m (by omega), hpre.out] at hown3
            clear hb1 hpre hownr hbelr hszr hown2
            go_wp2
            go_roundw
            case rel => exact Or.inr ⟨rfl, hown3, hbel2⟩
            case measure => simp [intOf]
    · clear HC
      go_wp2
      go_ret
      exact ⟨_, rfl, hown, hbel⟩
end Go.Proofs.YtincoibidgkiaaaDoor
