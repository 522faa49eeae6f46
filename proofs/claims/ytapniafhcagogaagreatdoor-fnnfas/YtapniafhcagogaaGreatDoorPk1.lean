/- Which nodes are a machine: the program's question and the document's model's. Slices of numbers: the same, marked, held. The built-in append onto a slice of numbers of the call's own, as a law for the walk. What the program's Spread answers. The model's l4Put: a number more in a rising list. What the model's Spread answers. What a node takes; whether one is the end; of the program and of the model. Onward of the model, at places of a machine. Onward of the program, at places of a machine: sorted, each once. -/
import Derived.Test.YtapniafhcagogaaGreatDoorNodeOk
import Derived.Test.YtapniafhcagogaaGreatDoorLeaf
import Derived.Laws.AppendOwnNone
import Derived.Test.YtapniafhcagogaaGreatDoorReach
import Derived.Test.YtapniafhcagogaaGreatDoorAppStr
import Derived.Shelf.Small.Strs
import Derived.Lib.IndexLaws
import Derived.Test.YtapniafhcagogaaGreatDoorShelf
import Derived.Lib.RowBridge
namespace Go.Proofs.YtapniafhcagogaaGreatDoor
open Go.RowKit
set_option maxRecDepth 8000

theorem okNfa_true {N : List Nd} (h0 : 0 < N.length) (h2 : N.length ≤ 300) (h3 : (N[N.length - 1]'(by omega)).k = 7) (h4 : ∀ i (h : i < N.length), okNd N[i] N.length = true) : okNfa N = true := by
  unfold okNfa
  rw [List.getLast?_eq_getElem?, List.getElem?_eq_getElem (by omega : N.length - 1 < N.length)]
  have : (N.all fun x => okNd x N.length) = true := by
    rw [List.all_eq_true]
    intro x hx
    obtain ⟨i, hi, rfl⟩ := List.getElem_of_mem hx
    exact h4 i hi
  rw [this, decide_eq_true (show 1 ≤ N.length by omega), decide_eq_true h2, decide_eq_true (by simpa using h3)]
  rfl
theorem okNfa_len {N : List Nd} (h : N.length = 0 ∨ 300 < N.length) : okNfa N = false := by
  unfold okNfa
  rcases h with h | h
  · rw [decide_eq_false (show ¬ 1 ≤ N.length by omega)]; rfl
  · rw [decide_eq_false (show ¬ N.length ≤ 300 by omega)]; simp
theorem okNfa_last {N : List Nd} (h0 : 0 < N.length) (h3 : (N[N.length - 1]'(by omega)).k ≠ 7) : okNfa N = false := by
  unfold okNfa
  rw [List.getLast?_eq_getElem?, List.getElem?_eq_getElem (by omega : N.length - 1 < N.length)]
  simp [h3]
theorem okNfa_bad {N : List Nd} (i : Nat) (h : i < N.length) (hb : okNd N[i] N.length = false) : okNfa N = false := by
  unfold okNfa
  have : (N.all fun x => okNd x N.length) = false := by
    rw [List.all_eq_false]
    exact ⟨_, List.getElem_mem h, by rw [hb]; simp⟩
  rw [this]; simp

set_option maxHeartbeats 2000000 in
theorem implNfaOk_any (N : List Nd) (B : Nat → Prop) (v : Value) (w : World) (h : Nl w B N v) :
    Calls Tryz.prog 7 #[.agg #[v]] w fun e w' => e = .returned (.bool (okNfa N)) ∧ Below w.heap.size w w' := by
  obtain ⟨ao, cap, rfl, hl, hm, hn, hs, hc⟩ := h
  unfold maxLen at hm
  have HS := Hid.mk hs
  have HC := Hid.mk hc
  clear hs hc
  have A0 : Hid (∀ o, Below w.heap.size w (w.alloc o)) := fun o => (Below.refl _ _).alloc (Nat.le_refl _) _
  have H0 := Hid.mk (okNfa_len (N := N))
  have H1 : Hid (∀ (h0 : 0 < N.length), (N[N.length - 1]'(by omega)).k ≠ 7 → okNfa N = false) := fun h0 h => okNfa_last h0 h
  have H2 : Hid (∀ (h0 : 0 < N.length), N.length ≤ 300 → (N[N.length - 1]'(by omega)).k = 7 → (∀ i (h : i < N.length), okNd N[i] N.length = true) → okNfa N = true) := fun h0 h2 h3 h4 => okNfa_true h0 h2 h3 h4
  have H3 : Hid (∀ i (h : i < N.length), okNd N[i] N.length = false → okNfa N = false) := fun i h hb => okNfa_bad i h hb
  obtain ⟨r, hr⟩ : ∃ r, okNfa N = r := ⟨_, rfl⟩
  rw [hr] at H0 H1 H2 H3 ⊢
  clear hr
  by_cases hz : N.length = 0
  · have HR := Hid.mk (H0.out (.inl hz))
    clear H0 H1 H2 H3
    go_enter Tryz.func7, Tryz.ntmps7
    go_wp2
    go_ret
    exact ⟨ret_bn HR.out.symm, A0.out _⟩
  by_cases hbig : 300 < N.length
  · have HR := Hid.mk (H0.out (.inr hbig))
    clear H0 H1 H2 H3
    go_enter Tryz.func7, Tryz.ntmps7
    go_wp2
    go_ret
    exact ⟨ret_bn HR.out.symm, A0.out _⟩
  obtain ⟨b, off, rfl, _, hcell⟩ := HC.out (by intro h0; rw [h0] at hz; simp at hz)
  have hlst : N.length - 1 < N.length := by omega
  have hbl := World.block_lt_of_cell? w _ (hcell 0 (by omega)).1
  obtain ⟨c0, c1, c2, c3⟩ := (hcell (N.length - 1) hlst).kept (w' := w.alloc (.cells #[.slice (some ⟨b, off, none⟩) N.length cap] 31)) ((A0.out _).block b hbl)
  have HCC := Hid.mk hcell
  clear hcell HC
  obtain ⟨kl, hkl⟩ : ∃ kl, (N[N.length - 1]'hlst).k = kl := ⟨_, rfl⟩
  have HK := Hid.mk hkl
  rw [hkl] at c0
  clear hkl
  have e1 : ((N.length : Int) - 1) = ((N.length - 1 : Nat) : Int) := by omega
  by_cases h7 : kl = 7
  rotate_left
  · have HR := Hid.mk (H1.out (by omega) (by rw [HK.out]; exact h7))
    have h7' : (kl != 7) = true := bne_iff_ne.2 h7
    have hz' : ((N.length : Int) == 0) = false := beq_eq_false_iff_ne.2 (by omega)
    clear H0 H1 H2 H3 HCC HS
    go_enter Tryz.func7, Tryz.ntmps7
    go_wp2
    go_ret
    exact ⟨ret_bn HR.out.symm, A0.out _⟩
  subst h7
  have hz' : ((N.length : Int) == 0) = false := beq_eq_false_iff_ne.2 (by omega)
  have hbig' : ¬ 300 < (N.length : Int) := by omega
  have HT := Hid.mk (H2.out (by omega) (by omega) HK.out)
  clear H0 H1 H2
  have A1 : Hid (Below w.heap.size w (w.alloc (.cells #[.slice (some ⟨b, off, none⟩) N.length cap] 31))) := A0.out _
  go_enter Tryz.func7, Tryz.ntmps7
  go_wp2
  go_loopw [27] (fun i wr => ∃ (k : Nat), k ≤ N.length ∧ i = .int .i64 k ∧ Hid (∀ j (h : j < N.length), j < k → okNd N[j] N.length = true) ∧ Hid (Below (w.heap.size + 1) (w.alloc (.cells #[.slice (some ⟨b, off, none⟩) N.length cap] 31)) wr)) (fun i _ => N.length - (intOf i).toNat)
  case atStart => exact ⟨0, Nat.zero_le _, rfl, fun j _ h => absurd h (Nat.not_lt_zero j), Below.refl _ _⟩
  case round =>
    obtain ⟨k, hk, rfl, HJ, HB⟩ := hrel
    have hc1 := fun o => HB.out.cell (p := ⟨w.heap.size, o, none⟩) (by simp)
    have BW := Hid.mk (A1.out.trans (HB.out.mono (by omega)))
    clear c0 c1 c2 c3
    by_cases hkn : k < N.length
    · have h4 := (HCC.out k hkn).kept (w' := wr) (BW.out.block b hbl)
      have HN := Hid.mk (nodeOk_any N[k] N.length b (off + k * 4) wr h4 (HS.out _ (List.getElem_mem hkn)))
      have HF := Hid.mk (H3.out k hkn)
      have HJ' : Hid (okNd N[k] N.length = true → ∀ j (h : j < N.length), j < k + 1 → okNd N[j] N.length = true) := by
        intro hok j hj hjk
        by_cases hjk' : j < k
        · exact HJ.out j hj hjk'
        · obtain rfl : j = k := by omega
          exact hok
      obtain ⟨c0, c1, c2, c3⟩ := h4
      generalize N[k] = x at c0 c1 c2 c3 HN HF HJ'
      obtain ⟨xk, xs, xa, xb⟩ := x
      simp only at c0 c1 c2 c3
      have hki : (k : Int) < (N.length : Int) := by omega
      generalize okNd ⟨xk, xs, xa, xb⟩ N.length = ok at HN HF HJ'
      go_wp2_with fail
      refine HN.out.mono ?_
      rintro e w2 ⟨rfl, hb2⟩
      have hsz : w.heap.size + 1 ≤ wr.heap.size := by have := HB.out.size; simpa using this
      have HB2 := Hid.mk (HB.out.trans (hb2.mono hsz))
      have BW2 := Hid.mk (BW.out.trans (hb2.mono (by omega)))
      clear hb2 HN BW HB HJ hc1 c0 c1 c2 c3
      cases ok with
      | false =>
        have HR := Hid.mk (HF.out rfl)
        clear HF HJ'
        go_wp2
        go_ret
        exact ⟨ret_bn HR.out.symm, BW2.out⟩
      | true =>
        have HJ2 := Hid.mk (HJ'.out rfl)
        clear HF HJ'
        go_wp2
        go_roundw
        case rel => exact ⟨k + 1, by omega, by go_num, HJ2, HB2⟩
        case measure => simp [intOf]; omega
    · have HR := Hid.mk (HT.out fun j hj => HJ.out j hj (by omega))
      clear HJ HT H3
      go_wp2
      go_ret
      exact ⟨ret_bn HR.out.symm, BW.out⟩

theorem len13_any (x : Int) (r : Bool) (hr : decide (1 ≤ x ∧ x ≤ 300) = r) (w : World) : Calls Tryz.prog 74 #[.int .i64 x, .int .i64 1, .int .i64 300] w fun e w' => e = .returned (.bool r) ∧ w' = w := by
  have HD := Hid.mk hr
  clear hr
  by_cases h : 1 ≤ x
  · by_cases h2 : x ≤ 300
    · have H := Hid.mk ((decide_eq_true (show 1 ≤ x ∧ x ≤ 300 from ⟨h, h2⟩)).symm.trans HD.out)
      go_enter Tryz.func74, Tryz.ntmps74
      go_wp2
      go_ret
      exact ⟨ret_bn H.out, rfl⟩
    · have H := Hid.mk ((decide_eq_false (show ¬ (1 ≤ x ∧ x ≤ 300) from fun q => h2 q.2)).symm.trans HD.out)
      go_enter Tryz.func74, Tryz.ntmps74
      go_wp2
      go_ret
      exact ⟨ret_bn H.out, rfl⟩
  · have H := Hid.mk ((decide_eq_false (show ¬ (1 ≤ x ∧ x ≤ 300) from fun q => h q.1)).symm.trans HD.out)
    go_enter Tryz.func74, Tryz.ntmps74
    go_wp2
    go_ret
    exact ⟨ret_bn H.out, rfl⟩

end Go.Proofs.YtapniafhcagogaaGreatDoor

namespace Go.Proofs.YtapniafhcagogaaGreatDoor
open Go.RowKit

/-- A slice that reads these numbers. -/
def Iz (w : World) (v : Value) (xs : List Int) : Prop := ∃ ao cap, v = .slice ao xs.length cap ∧ xs.length ≤ cap ∧ cap ≤ maxLen ∧ (ao = none → cap = 0) ∧ (xs ≠ [] → ∃ b off, ao = some ⟨b, off, none⟩ ∧ ∀ k, k < xs.length → w.cell? ⟨b, off + k, none⟩ = some (.int .i64 (xs.getD k 0)))
/-- A slice of the call's own with these numbers. -/
def OwnZ (w : World) (base : Nat) (v : Value) (xs : List Int) : Prop := w.ownsRow base 3 1 v xs.length (xs.map (Value.int .i64))

theorem Iz.grow {w w' : World} {v : Value} {xs : List Int} (h : Iz w v xs) (hb : Below w.heap.size w w') : Iz w' v xs := by
  obtain ⟨ao, cap, h1, h2, h3, h4, h5⟩ := h
  refine ⟨ao, cap, h1, h2, h3, h4, fun hn => ?_⟩
  obtain ⟨b, off, h6, h7⟩ := h5 hn
  have h0 : 0 < xs.length := List.length_pos_iff.2 hn
  have hbl : b < w.heap.size := World.block_lt_of_cell? w _ (h7 0 h0)
  exact ⟨b, off, h6, fun k hk => by rw [hb.cell (p := ⟨b, off + k, none⟩) hbl]; exact h7 k hk⟩
theorem OwnZ.iz {w : World} {base : Nat} {v : Value} {xs : List Int} (h : OwnZ w base v xs) : Iz w v xs := by
  rcases h.2 with ⟨h1, h2⟩ | ⟨g, cap, cur, rfl, hb, hg, hn, hm, hs, ht⟩
  · obtain rfl : xs = [] := List.length_eq_zero_iff.1 h2
    exact ⟨none, 0, h1, Nat.le_refl _, by simp, fun _ => rfl, fun h => absurd rfl h⟩
  · refine ⟨some ⟨g, 0, none⟩, cap, rfl, hn, hm, (fun h => by cases h), fun _ => ⟨g, 0, rfl, fun k hk => ?_⟩⟩
    have := h.cellAt k (by omega)
    rw [Nat.zero_add, this]
    simp [hk]
theorem OwnZ.mono {w : World} {base base' : Nat} {v : Value} {xs : List Int} (h : OwnZ w base v xs) (hle : base' ≤ base) : OwnZ w base' v xs := by
  refine ⟨h.1, ?_⟩
  rcases h.2 with h' | ⟨g, cap, cur, e, hb, rest⟩
  · exact Or.inl h'
  · exact Or.inr ⟨g, cap, cur, e, Nat.le_trans hle hb, rest⟩
theorem OwnZ.grow {w w' : World} {base : Nat} {v : Value} {xs : List Int} (h : OwnZ w base v xs) (hb : Below w.heap.size w w') : OwnZ w' base v xs :=
  World.ownsRow.kept (row := none) h ⟨hb.os, hb.tape, hb.output, hb.size, fun k hk _ => hb.block k hk⟩ (by
    rcases h.2 with ⟨rfl, _⟩ | ⟨g, cap, cur, rfl, _⟩
    · exact .inl rfl
    · exact .inr (by simp [Value.ownBlock]))

/-- The marks that 'markIntS' lays. -/
def marksI (k : Int) (n : Nat) : List Int := (List.range n).map fun (i : Nat) => k + (i : Int)
theorem marksI_length (k : Int) (n : Nat) : (marksI k n).length = n := by simp [marksI]
theorem marksI_getD (k : Int) (n i : Nat) (h : i < n) : (marksI k n).getD i 0 = k + i := by simp [marksI, List.getD, h]
theorem markI_step (p : Int) (xs : List Int) (k : Nat) (hk : k < xs.length) :
    (marksI p k ++ xs.drop k).set k (p + (k : Int)) = marksI p (k + 1) ++ xs.drop (k + 1) := by
  apply List.ext_getElem?
  intro i
  by_cases h : i = k
  · subst h
    rw [List.getElem?_set_self (by simp [marksI]; omega), List.getElem?_append_left (by simp [marksI])]
    simp [marksI]
  · rw [List.getElem?_set_ne (by omega)]
    by_cases h2 : i < k
    · rw [List.getElem?_append_left (by simp [marksI]; omega), List.getElem?_append_left (by simp [marksI]; omega)]
      simp [marksI, h2, show i < k + 1 by omega]
    · rw [List.getElem?_append_right (by simp [marksI]; omega), List.getElem?_append_right (by simp [marksI]; omega)]
      simp only [marksI_length, List.getElem?_drop]
      congr 1
      omega
theorem map_set_int (xs : List Int) (k : Nat) (z : Int) : (xs.map (Value.int .i64)).set k (.int .i64 z) = (xs.set k z).map (Value.int .i64) := by
  rw [List.map_set]

end Go.Proofs.YtapniafhcagogaaGreatDoor

namespace Go.Proofs.YtapniafhcagogaaGreatDoor
open Go.RowKit

theorem infoZ : (Tryz.prog.info? 3).map (fun i => (i.zero, i.size, i.bytes)) = some (some (.int .i64 0), 1, 8) := by kernel_rfl
theorem wpList_append_z {w0 w : World} {ops : Array Oper} {rest : List Oper} {o : Oper} {a : Act} {Q : Exit → Act → World → Prop} (hgd : o.guard = none) (s x : Operand)
    (ho : o.op = .call { callee := .builtin .append, args := #[s, x], argTypes := #[52, 52] })
    (base : Nat) (v u : Value) (xs zs : List Int) (hs : a.eval s = v) (hown : OwnZ w base v xs) (hx : a.eval x = u) (hu : Iz w u zs)
    (hbel : Below base w0 w) (hbase : base ≤ w.heap.size) (hlen : xs.length + zs.length ≤ 1073741824)
    (h : ∀ v' w', OwnZ w' base v' (xs ++ zs) → Below base w0 w' → base ≤ w'.heap.size → w.heap.size ≤ w'.heap.size → (∀ b, b < w.heap.size → some b ≠ v.ownBlock → w'.heap[b]? = w.heap[b]?) → wpList Tryz.prog ops Q rest (a.put o.dst v') w') :
    wpList Tryz.prog ops Q (o :: rest) a w := by
  obtain ⟨i0, hi, hz0, hz1, hz2⟩ := info_parts infoZ
  obtain ⟨ao, cap, rfl, hl, hm, hn, hc⟩ := hu
  cases ao with
  | none =>
    have hcap := hn rfl
    have hz : zs.length = 0 := by omega
    have hz' : zs = [] := List.eq_nil_of_length_eq_zero hz
    subst hz'
    subst hcap
    refine wpList_append_own_none hgd s x 52 ho base 3 i0 1 Tryz.underlying52 hi v xs.length (xs.map (Value.int .i64)) hs hown hx ?_
    have := h v w (by rw [List.append_nil]; exact hown) hbel hbase (Nat.le_refl _) (fun _ _ _ => rfl)
    exact this
  | some ad =>
    refine wpList_append_own w hgd s x 52 ho base 3 i0 (.int .i64 0) 1 8 Tryz.underlying52 hi hz0 hz1 hz2 rfl (by decide) v xs.length (xs.map (Value.int .i64)) hs hown ad zs.length cap (zs.map (Value.int .i64)) hx
      (by simp) ?_ (by simp [Value.oneCell']) (by unfold maxLen; omega) (by omega) hbase ?_
    · intro j q hq
      have hj : j < zs.length := by have := (List.getElem?_eq_some_iff.1 hq).1; simpa using this
      obtain ⟨b, off, e, hcell⟩ := hc (by intro h0; rw [h0] at hj; simp at hj)
      obtain rfl := Option.some.inj e
      rw [Addr.add_lit, hcell j hj]
      simpa [hj] using hq
    · intro v' w' hown' hgr hx'
      refine h v' w' ?_ (hbel.grown hgr hbase fun k hk => (World.ownsRow.lt hown k hk).1) (Nat.le_trans hbase hgr.size) hgr.size (fun b hb hne => ?_)
      · unfold OwnZ
        rw [List.map_append, List.length_append]
        exact hown'
      · obtain ⟨_, _, _, _, hk⟩ := hgr
        exact hk b hb hne
end Go.Proofs.YtapniafhcagogaaGreatDoor

namespace Go.Proofs.YtapniafhcagogaaGreatDoor
open Go.RowKit
set_option maxRecDepth 8000

/-- The places that are marked. -/
def mkL (M : Nat → Bool) (n : Nat) : List Int := ((List.range n).filter M).map fun (j : Nat) => (j : Int)
/-- Those of a list that are nodes. -/
def inS (l : List Int) (n : Nat) : Nat → Prop := fun j => (j : Int) ∈ l ∧ j < n

theorem mkL_yes {M : Nat → Bool} {k : Nat} (h : M k = true) : mkL M (k + 1) = mkL M k ++ [(k : Int)] := by simp [mkL, List.range_succ, h]
theorem mkL_no {M : Nat → Bool} {k : Nat} (h : M k = false) : mkL M (k + 1) = mkL M k := by simp [mkL, List.range_succ, h]
theorem mkL_len (M : Nat → Bool) (k : Nat) : (mkL M k).length ≤ k := by
  unfold mkL
  rw [List.length_map]
  exact Nat.le_trans (List.length_filter_le _ _) (by simp)
theorem inS_nil (n : Nat) (j : Nat) : ¬ inS [] n j := fun h => by cases h.1
theorem inS_yes {l : List Int} {n k q : Nat} (hk : k < l.length) (hq : l[k] = (q : Int)) (hqn : q < n) (j : Nat) : (inS (l.take k) n j ∨ j = q) ↔ inS (l.take (k + 1)) n j := by
  unfold inS
  rw [List.take_succ_eq_append_getElem hk, List.mem_append, List.mem_singleton, hq]
  constructor
  · rintro (⟨h1, h2⟩ | rfl)
    · exact ⟨.inl h1, h2⟩
    · exact ⟨.inr rfl, hqn⟩
  · rintro ⟨h1 | h1, h2⟩
    · exact .inl ⟨h1, h2⟩
    · exact .inr (by omega)
theorem inS_no {l : List Int} {n k : Nat} (hk : k < l.length) (hq : plB l[k] n = false) (j : Nat) : inS (l.take k) n j ↔ inS (l.take (k + 1)) n j := by
  unfold inS
  rw [List.take_succ_eq_append_getElem hk, List.mem_append, List.mem_singleton]
  constructor
  · rintro ⟨h1, h2⟩
    exact ⟨.inl h1, h2⟩
  · rintro ⟨h1 | h1, h2⟩
    · exact ⟨h1, h2⟩
    · rw [← h1] at hq
      simp [plB, h2] at hq

theorem Iz.one (w : World) (c : Int) : Iz (w.alloc (.cells #[.int .i64 c] 3)) (.slice (some ⟨w.heap.size, 0, none⟩) 1 1) [c] := by
  refine ⟨_, 1, rfl, by simp, by decide, fun h => by simp at h, fun _ => ⟨_, 0, rfl, fun i hi => ?_⟩⟩
  obtain rfl : i = 0 := by simpa using hi
  simp
theorem OwnZ.alloc {w : World} {base : Nat} {v : Value} {xs : List Int} (h : OwnZ w base v xs) (o : Obj) : OwnZ (w.alloc o) base v xs := World.ownsRow.alloc h o
theorem zeroWalk : Tryz.zeroCells80 = (.slice none 0 0 :: .bool false :: .bool false :: List.replicate 300 (.bool false) : List Value).toArray := by kernel_rfl
theorem newWalk (w : World) (v : Value) (ab ae : Bool) : WB (w.alloc (.cells (((Tryz.zeroCells80.setIfInBounds 0 v).setIfInBounds 1 (.bool ab)).setIfInBounds 2 (.bool ae)) 80)) w.heap.size v ab ae (fun _ => false) := by
  unfold WB
  rw [heap_alloc_new, zeroWalk]
  have : (List.range 300).map (fun _ => Value.bool false) = List.replicate 300 (.bool false) := by rw [List.map_const', List.length_range]
  unfold wkC
  rw [this]
  simp only [List.setIfInBounds_toArray, List.set_cons_zero, List.set_cons_succ]

set_option maxHeartbeats 2000000 in
theorem spreadNodes_any (N : List Nd) (hok : okNfa N = true) (B : Nat → Prop) (v u : Value) (l : List Int) (p z : Int) (w : World) (h : Nl w B N v) (hl : Iz w u l) :
    Calls Tryz.prog 20 #[v, u, .int .i64 p, .int .i64 z] w fun e w' => ∃ x M, e = .returned x ∧ OwnZ w' w.heap.size x (mkL M N.length) ∧ (∀ j, M j = true ↔ Rch N (p == 0) (p == z) (inS l N.length) j) ∧ Below w.heap.size w w' := by
  have HR := Hid.mk (fun u => reach_any N hok w.heap.size (p == 0) (p == z) u)
  have HN := Hid.mk (fun w' (hb : Below w.heap.size w w') => (h.imp (C := fun b => b < w.heap.size) (fun _ _ hlt => hlt)).kept (w' := w') fun b hb' _ => hb.block b hb')
  have hn3 := okNfa_size hok
  have HG : Hid (∀ M, Grew N (p == 0) (p == z) (inS l N.length) (fun _ => false) M → ∀ j, M j = true ↔ Rch N (p == 0) (p == z) (inS l N.length) j) := fun M h j => h.all j
  obtain ⟨ao, cap, rfl, hl1, hm1, -, -, -⟩ := h
  obtain ⟨lo, lc, rfl, hl2, hm2, hn2, hc2⟩ := hl
  unfold maxLen at hm1 hm2
  have HC := Hid.mk hc2
  have HW0 := Hid.mk (newWalk w (.slice ao N.length cap) (p == 0) (p == z))
  have B0 : Hid (∀ o, Below w.heap.size w (w.alloc o)) := fun o => (Below.refl _ _).alloc (Nat.le_refl _) _
  clear hc2 hok
  go_enter Tryz.func20, Tryz.ntmps20
  go_wp2_with fail
  go_loopw [24] (fun i wr => ∃ (k : Nat), k ≤ l.length ∧ i = .int .i64 k ∧ Hid (∃ M, WB wr w.heap.size (.slice ao N.length cap) (p == 0) (p == z) M ∧ Grew N (p == 0) (p == z) (inS (l.take k) N.length) (fun _ => false) M) ∧ Hid (Below w.heap.size w wr)) (fun i _ => l.length - (intOf i).toNat)
  case atStart => exact ⟨0, Nat.zero_le _, rfl, ⟨_, HW0.out, Grew.here fun j hj => absurd hj (inS_nil _ j)⟩, B0.out _⟩
  case round =>
    obtain ⟨k, hk, rfl, HM, HB⟩ := hrel
    clear HW0 B0
    by_cases hkl : k < l.length
    · obtain ⟨b, off, rfl, hcell⟩ := HC.out (by intro h0; rw [h0] at hkl; simp at hkl)
      have c0 := hcell k hkl
      have hbl := World.block_lt_of_cell? w _ c0
      have c1 : wr.cell? ⟨b, off + k, none⟩ = some (.int .i64 (l.getD k 0)) := by rw [HB.out.cell (p := ⟨b, off + k, none⟩) hbl]; exact c0
      obtain ⟨c, hcc⟩ : ∃ c, l.getD k 0 = c := ⟨_, rfl⟩
      have HL : Hid (l[k] = c) := by show _ = _; rw [← hcc]; simp [List.getD, hkl]
      rw [hcc] at c1
      have hki : (k : Int) < (l.length : Int) := by omega
      clear hcc c0 hcell
      go_wp2_with fail
      refine (isNode_any c N.length _).mono ?_
      rintro e w1 ⟨rfl, rfl⟩
      obtain ⟨M, hW, hG⟩ := HM.out
      rcases plCase c N.length with ⟨hp, hp'⟩ | ⟨hp, hp'⟩
      · obtain ⟨q, rfl⟩ : ∃ q : Nat, c = (q : Int) := ⟨c.toNat, by omega⟩
        have hq : q < N.length := by omega
        have HI := Hid.mk (inS_yes hkl HL.out hq)
        have HW := Hid.mk hW
        have HGG := Hid.mk hG
        rw [hp]
        clear hW hG HM hp hp'
        go_wp2_with fail
        refine (HR.out _ M q _ _ HW.out (HN.out _ HB.out) hq (Nat.le_refl _)).mono ?_
        rintro e w2 ⟨⟨x2, rfl⟩, M2, hW2, hG2, hb2⟩
        have HM2 : Hid (∃ M, WB w2 w.heap.size (.slice ao N.length cap) (p == 0) (p == z) M ∧ Grew N (p == 0) (p == z) (inS (l.take (k + 1)) N.length) (fun _ => false) M) := ⟨M2, hW2, (HGG.out.comp hG2).imp HI.out⟩
        have HB2 := Hid.mk (HB.out.trans hb2)
        clear hW2 hG2 hb2 HB HW HGG HI
        go_wp2
        go_roundw
        case rel => exact ⟨k + 1, by omega, by go_num, HM2, HB2⟩
        case measure => simp [intOf]; omega
      · have HM2 : Hid (∃ M, WB w1 w.heap.size (.slice ao N.length cap) (p == 0) (p == z) M ∧ Grew N (p == 0) (p == z) (inS (l.take (k + 1)) N.length) (fun _ => false) M) := ⟨M, hW, hG.imp (inS_no hkl (by rw [HL.out]; exact hp))⟩
        rw [hp]
        clear hW hG HM hp hp'
        go_wp2
        go_roundw
        case rel => exact ⟨k + 1, by omega, by go_num, HM2, HB⟩
        case measure => simp [intOf]; omega
    · have e : k = l.length := by omega
      subst e
      obtain ⟨M, hW, hG⟩ := HM.out
      rw [List.take_length] at hG
      have HF := Hid.mk (HG.out M hG)
      have HW := Hid.mk hW
      have hwl := hW.lt
      clear hW hG HM HG HR HN HC
      have O0 : Hid (OwnZ (wr.alloc (.cells #[] 3)) (w.heap.size + 1) (.slice (some ⟨wr.heap.size, 0, none⟩) 0 0) (mkL M 0)) := World.ownsRow_lit wr #[] 0 (by omega) (by decide) rfl
      have B1 : Hid (Below (w.heap.size + 1) wr (wr.alloc (.cells #[] 3))) := (Below.refl _ _).alloc (by omega) _
      go_wp2_with fail
      go_loopw [12, 39] (fun x i wq => ∃ (k : Nat), k ≤ N.length ∧ i = .int .i64 k ∧ Hid (OwnZ wq (w.heap.size + 1) x (mkL M k)) ∧ Hid (Below (w.heap.size + 1) wr wq)) (fun _ i _ => N.length - (intOf i).toNat)
      case atStart => exact ⟨0, Nat.zero_le _, rfl, O0, B1⟩
      case round =>
        obtain ⟨k, hk2, rfl, HO, HB2⟩ := hrel
        clear O0 B1
        have hs2 := HB2.out.size
        by_cases hkn : k < N.length
        · have cm := (show WB wr w.heap.size _ _ _ _ from (HB2.out.block w.heap.size (Nat.lt_succ_self _)).trans HW.out).cm (i := k) (by omega)
          have hkni : (k : Int) < (N.length : Int) := by omega
          have hk3 : k < 300 := by omega
          have HLen := Hid.mk (mkL_len M k)
          cases hM : M k with
          | false =>
            have HO2 : Hid (OwnZ wr (w.heap.size + 1) u12 (mkL M (k + 1))) := by show OwnZ _ _ _ _; rw [mkL_no hM]; exact HO.out
            rw [hM] at cm
            clear hM HO
            go_wp2
            go_roundw
            case rel => exact ⟨k + 1, by omega, by go_num, HO2, HB2⟩
            case measure => simp [intOf]; omega
          | true =>
            have HE := Hid.mk (mkL_yes hM)
            have I1 := Hid.mk (Iz.one wr (k : Int))
            have B3 : Hid (Below (w.heap.size + 1) _ (wr.alloc (.cells #[.int .i64 (k : Int)] 3))) := HB2.out.alloc (by omega) _
            rw [hM] at cm
            clear hM
            go_wp2_with (at_builtin; refine wpList_append_z rfl _ _ rfl (w.heap.size + 1) _ _ (mkL M k) [(k : Int)] rfl (HO.out.alloc _) rfl I1.out B3.out (by simp; omega) (by have := HLen.out; simp; omega) ?_)
            intro v2 w2 hown2 hbel2 hsz2 _ _
            have HO2 : Hid (OwnZ w2 (w.heap.size + 1) v2 (mkL M (k + 1))) := by show OwnZ _ _ _ _; rw [HE.out]; exact hown2
            have HB3 := Hid.mk hbel2
            clear hown2 hbel2 hsz2 HO HE I1 B3 HLen
            go_wp2
            go_roundw
            case rel => exact ⟨k + 1, by omega, by go_num, HO2, HB3⟩
            case measure => simp [intOf]; omega
        · have e : k = N.length := by omega
          subst e
          go_wp2
          go_ret
          exact ⟨_, M, rfl, HO.out.mono (Nat.le_succ _), HF.out, HB.out.trans (HB2.out.mono (Nat.le_succ _))⟩

/-- What Spread answers. -/
def SprL (N : List Nd) (l : List Int) (p z : Int) (L : List Int) : Prop :=
  (okNfa N = false ∧ L = []) ∨ (okNfa N = true ∧ ∃ M, L = mkL M N.length ∧ ∀ j, M j = true ↔ Rch N (p == 0) (p == z) (inS l N.length) j)
theorem SprL.uniq {N : List Nd} {l : List Int} {p z : Int} {L L' : List Int} (h : SprL N l p z L) (h' : SprL N l p z L') : L = L' := by
  rcases h with ⟨h1, rfl⟩ | ⟨h1, M, rfl, hM⟩ <;> rcases h' with ⟨h2, rfl⟩ | ⟨h2, M', rfl, hM'⟩
  · rfl
  · rw [h1] at h2; cases h2
  · rw [h1] at h2; cases h2
  · have : M = M' := by
      funext j
      rw [Bool.eq_iff_iff]
      exact (hM j).trans (hM' j).symm
    rw [this]
theorem SprL.len {N : List Nd} {l : List Int} {p z : Int} {L : List Int} (h : SprL N l p z L) : L.length ≤ 300 := by
  rcases h with ⟨_, rfl⟩ | ⟨h1, M, rfl, _⟩
  · simp
  · exact Nat.le_trans (mkL_len M _) (okNfa_size h1)

end Go.Proofs.YtapniafhcagogaaGreatDoor

namespace Go.Proofs.YtapniafhcagogaaGreatDoor
open Go.RowKit
set_option maxRecDepth 8000

/-- Rising. -/
def Ris (l : List Int) : Prop := l.Pairwise (· < ·)
/-- A list with one number more. -/
def PutL (xs : List Int) (n : Int) (ys : List Int) : Prop := Ris ys ∧ (∀ j, j ∈ ys ↔ j ∈ xs ∨ j = n) ∧ ys.length = xs.length + (if n ∈ xs then 0 else 1)

/-- Moved by one from i on. -/
def shL (xs : List Int) (i : Nat) : List Int := (xs ++ [0]).take (i + 1) ++ xs.drop i
theorem shL_len (xs : List Int) (i : Nat) (h : i ≤ xs.length) : (shL xs i).length = xs.length + 1 := by simp [shL]; omega
theorem shL_end (xs : List Int) : shL xs xs.length = xs ++ [0] := by
  unfold shL
  rw [List.drop_length, List.append_nil, List.take_of_length_le (by simp)]
theorem shL_get (xs : List Int) (i : Nat) (h : i + 1 ≤ xs.length) : (shL xs (i + 1))[i]? = some (xs.getD i 0) := by
  unfold shL
  rw [List.getElem?_append_left (by simp; omega), List.getElem?_take_of_lt (by omega), List.getElem?_append_left (by omega)]
  simp [List.getD, show i < xs.length by omega]
theorem shL_step (xs : List Int) (i : Nat) (h : i + 1 ≤ xs.length) : (shL xs (i + 1)).set (i + 1) (xs.getD i 0) = shL xs i := by
  have hi : i < xs.length := by omega
  apply List.ext_getElem?
  intro j
  unfold shL
  rcases Nat.lt_trichotomy j (i + 1) with hj | hj | hj
  · rw [List.getElem?_set_ne (by omega), List.getElem?_append_left (by simp; omega), List.getElem?_append_left (by simp; omega), List.getElem?_take_of_lt (by omega), List.getElem?_take_of_lt (by omega)]
  · subst hj
    rw [List.getElem?_set_self (by simp; omega), List.getElem?_append_right (by simp; omega)]
    simp [List.getD, hi]
    rw [show i + (i - min i xs.length) = i by omega]
    simp [hi]
  · rw [List.getElem?_set_ne (by omega), List.getElem?_append_right (by simp; omega), List.getElem?_append_right (by simp; omega)]
    simp
    congr 1
    omega
theorem shL_put (xs : List Int) (k : Nat) (n : Int) (h : k ≤ xs.length) : (shL xs k).set k n = xs.take k ++ n :: xs.drop k := by
  apply List.ext_getElem?
  intro j
  unfold shL
  rcases Nat.lt_trichotomy j k with hj | hj | hj
  · rw [List.getElem?_set_ne (by omega), List.getElem?_append_left (by simp; omega), List.getElem?_append_left (by simp; omega), List.getElem?_take_of_lt (by omega), List.getElem?_take_of_lt (by omega), List.getElem?_append_left (by omega)]
  · subst hj
    rw [List.getElem?_set_self (by simp; omega), List.getElem?_append_right (by simp; omega)]
    simp [Nat.min_eq_left h]
  · rw [List.getElem?_set_ne (by omega), List.getElem?_append_right (by simp; omega), List.getElem?_append_right (by simp; omega)]
    simp
    rw [show j - min k xs.length = (j - (k + 1)) + 1 by omega, List.getElem?_cons_succ, List.getElem?_drop]
    congr 1
    omega
theorem PutL.mid {xs : List Int} {k : Nat} {n : Int} (hr : Ris xs) (hk : k ≤ xs.length) (h1 : ∀ j (h : j < xs.length), k ≤ j → n < xs[j]) (h2 : ∀ j (h : j < xs.length), j < k → xs[j] < n) : PutL xs n (xs.take k ++ n :: xs.drop k) := by
  have hn : n ∉ xs := by
    intro hm
    obtain ⟨j, hj, e⟩ := List.getElem_of_mem hm
    by_cases hjk : j < k
    · have := h2 j hj hjk; omega
    · have := h1 j hj (by omega); omega
  have hsplit : xs = xs.take k ++ xs.drop k := (List.take_append_drop k xs).symm
  have ht : ∀ y ∈ xs.take k, y < n := by
    intro y hy
    obtain ⟨j, hj, rfl⟩ := List.getElem_of_mem hy
    simp at hj
    rw [List.getElem_take]
    exact h2 j (by omega) (by omega)
  have hd : ∀ y ∈ xs.drop k, n < y := by
    intro y hy
    obtain ⟨j, hj, rfl⟩ := List.getElem_of_mem hy
    simp at hj
    rw [List.getElem_drop]
    exact h1 (k + j) (by omega) (by omega)
  refine ⟨?_, fun j => ?_, ?_⟩
  · unfold Ris at hr ⊢
    rw [hsplit, List.pairwise_append] at hr
    rw [List.pairwise_append, List.pairwise_cons]
    refine ⟨hr.1, ⟨hd, hr.2.1⟩, fun a ha b hb => ?_⟩
    rcases List.mem_cons.1 hb with rfl | hb
    · exact ht a ha
    · exact hr.2.2 a ha b hb
  · rw [List.mem_append, List.mem_cons]
    conv => rhs; rw [hsplit, List.mem_append]
    constructor
    · rintro (h | h | h)
      · exact .inl (.inl h)
      · exact .inr h
      · exact .inl (.inr h)
    · rintro ((h | h) | h)
      · exact .inl h
      · exact .inr (.inr h)
      · exact .inr (.inl h)
  · rw [if_neg hn]
    simp
    omega
theorem PutL.there {xs : List Int} {n : Int} (hr : Ris xs) (h : n ∈ xs) : PutL xs n xs := by
  refine ⟨hr, fun j => ⟨.inl, ?_⟩, by rw [if_pos h]; rfl⟩
  rintro (h' | rfl)
  · exact h'
  · exact h
theorem Ris.lt_of {xs : List Int} (hr : Ris xs) {i j : Nat} (hij : i < j) (hj : j < xs.length) : xs[i] < xs[j] := (List.pairwise_iff_getElem.1 hr) i j (by omega) hj hij

theorem OwnZ.put {w : World} {base g c m : Nat} {xs : List Int} (h : OwnZ w base (.slice (some ⟨g, 0, none⟩) m c) xs) (hm : xs.length = m) (j : Nat) (x : Int) : OwnZ (w.setCell ⟨g, j, none⟩ (.int .i64 x)) base (.slice (some ⟨g, 0, none⟩) m c) (xs.set j x) := by
  subst hm
  unfold OwnZ at h ⊢
  rw [List.length_set, List.map_set]
  exact (World.ownsRow.stored h j (.int .i64 x)).1
theorem OwnZ.cell {w : World} {base g c m : Nat} {xs : List Int} (h : OwnZ w base (.slice (some ⟨g, 0, none⟩) m c) xs) {j : Nat} {x : Int} (hj : xs[j]? = some x) : w.cell? ⟨g, j, none⟩ = some (.int .i64 x) := by
  have hl : j < xs.length := (List.getElem?_eq_some_iff.1 hj).1
  have h' : w.ownsRow base 3 1 (.slice (some ⟨g, 0, none⟩) m c) xs.length (xs.map (Value.int .i64)) := h
  have e : m = xs.length := by
    rcases h'.2 with ⟨h1, _⟩ | ⟨g', cap', cur, h1, _⟩
    · simp at h1
    · simp at h1; exact h1.2.1
  subst e
  rw [World.ownsRow.cellAt h' j (by simpa using hl)]
  simp [hj]
theorem OwnZ.fr {w : World} {base g c m : Nat} {xs : List Int} (h : OwnZ w base (.slice (some ⟨g, 0, none⟩) m c) xs) (j : Nat) : w.frozen? ⟨g, j, none⟩ = false := by
  rcases h.2 with ⟨h1, _⟩ | ⟨g', cap', cur, h1, _, hg, _⟩
  · simp at h1
  · simp only [Value.slice.injEq, Option.some.injEq, Addr.mk.injEq, and_true] at h1
    obtain ⟨rfl, _⟩ := h1
    exact frozen_of_row w g j _ _ hg
theorem OwnZ.form {w : World} {base : Nat} {v : Value} {xs : List Int} (h : OwnZ w base v xs) (hne : xs ≠ []) : ∃ g c, v = .slice (some ⟨g, 0, none⟩) xs.length c ∧ xs.length ≤ c ∧ c ≤ maxLen := by
  rcases h.2 with ⟨_, h1⟩ | ⟨g, cap, cur, h1, _, _, h2, h3, _⟩
  · exact absurd (List.length_eq_zero_iff.1 h1) hne
  · exact ⟨g, cap, h1, h2, h3⟩
theorem OwnZ.blk {w : World} {base g c m : Nat} {xs : List Int} (h : OwnZ w base (.slice (some ⟨g, 0, none⟩) m c) xs) : base ≤ g := (World.ownsRow.lt h g rfl).1

end Go.Proofs.YtapniafhcagogaaGreatDoor

namespace Go.Proofs.YtapniafhcagogaaGreatDoor
open Go.RowKit
set_option maxRecDepth 8000

/-- A list that has been put to by these numbers. -/
def PutsL (xs ys : List Int) (F : List Int) : Prop := Ris ys ∧ (∀ j, j ∈ ys ↔ j ∈ xs ∨ j ∈ F) ∧ xs.length ≤ ys.length ∧ (ys.length = xs.length → ∀ j ∈ ys, j ∈ xs)
theorem PutsL.nil {xs : List Int} (h : Ris xs) : PutsL xs xs [] := ⟨h, fun j => by simp, Nat.le_refl _, fun _ _ h => h⟩
theorem PutsL.put {xs ys zs : List Int} {F : List Int} {n : Int} (h : PutsL xs ys F) (k : PutL ys n zs) : PutsL xs zs (F ++ [n]) := by
  obtain ⟨h1, h2, h3, h4⟩ := h
  obtain ⟨k1, k2, k3⟩ := k
  refine ⟨k1, fun j => ?_, by omega, fun he j hj => ?_⟩
  · rw [k2, h2, List.mem_append, List.mem_singleton, or_assoc]
  · by_cases hn : n ∈ ys
    · rw [if_pos hn] at k3
      rcases (k2 j).1 hj with h | rfl
      · exact h4 (by omega) j h
      · exact h4 (by omega) _ hn
    · rw [if_neg hn] at k3
      omega
theorem PutsL.trans {xs ys zs : List Int} {F G : List Int} (h : PutsL xs ys F) (k : PutsL ys zs G) : PutsL xs zs (F ++ G) := by
  obtain ⟨h1, h2, h3, h4⟩ := h
  obtain ⟨k1, k2, k3, k4⟩ := k
  refine ⟨k1, fun j => ?_, by omega, fun he j hj => h4 (by omega) j (k4 (by omega) j hj)⟩
  rw [k2, h2, List.mem_append, or_assoc]
/-- All that the first k go on to. -/
def folK (N : List Nd) (ab ae : Bool) (xs : List Int) (k : Nat) : List Int := (xs.take k).flatMap fun p => fol ab ae (ndAt N p.toNat)
theorem folK_succ (N : List Nd) (ab ae : Bool) (xs : List Int) (k : Nat) (h : k < xs.length) : folK N ab ae xs (k + 1) = folK N ab ae xs k ++ fol ab ae (ndAt N (xs[k]).toNat) := by
  unfold folK
  rw [List.take_succ_eq_append_getElem h, List.flatMap_append]
  simp
/-- A rising list of places is no longer than there are places. -/
theorem Ris.len {ys : List Int} {n : Nat} (hr : Ris ys) (h : ∀ j ∈ ys, 0 ≤ j ∧ j < n) : ys.length ≤ n := by
  have : ∀ i (hi : i < ys.length), (i : Int) ≤ ys[i] := by
    intro i
    induction i with
    | zero => intro hi; have := (h _ (List.getElem_mem hi)).1; simpa using this
    | succ i ih =>
      intro hi
      have h1 := ih (by omega)
      have h2 := hr.lt_of (i := i) (j := i + 1) (by omega) hi
      omega
  rcases Nat.eq_zero_or_pos ys.length with h0 | h0
  · omega
  · have h1 := this (ys.length - 1) (by omega)
    have h2 := (h _ (List.getElem_mem (show ys.length - 1 < ys.length by omega))).2
    omega

/-- All of them are nodes. -/
def inN (n : Nat) (ys : List Int) : Prop := ∀ j ∈ ys, 0 ≤ j ∧ j < n
theorem inN.put {xs ys F : List Int} {n : Nat} (h : inN n xs) (hF : ∀ j ∈ F, 0 ≤ j ∧ j < n) (k : PutsL xs ys F) : inN n ys := by
  intro j hj
  rcases (k.2.1 j).1 hj with h1 | h1
  · exact h j h1
  · exact hF j h1
theorem fol_inN {N : List Nd} {ab ae : Bool} (hok : okNfa N = true) {p : Int} (h : 0 ≤ p ∧ p < N.length) : ∀ j ∈ fol ab ae (ndAt N p.toNat), 0 ≤ j ∧ j < N.length := fun j hj => fol_in hok (by omega) hj

end Go.Proofs.YtapniafhcagogaaGreatDoor

namespace Go.Proofs.YtapniafhcagogaaGreatDoor
open Go.Shelf Go.RowKit
set_option maxRecDepth 8000

/-- The text has this byte. -/
def hasB (s : ByteArray) (c : Int) : Bool := (txt s).contains c
/-- A node takes a byte. -/
def tkNd (x : Nd) (c : Int) : Bool := x.k == 2 || (x.k == 1 || x.k == 3) && hasB x.s c

theorem byte_at6 (s : ByteArray) (i : Nat) (h : i < s.size) : ((s[i].toNat : Nat) : Int) = (txt s).getD i 0 := by
  have hl : i < (txt s).length := by rw [txt_length]; exact h
  rw [List.getD, List.getElem?_eq_getElem hl]
  simp [txt]
  rfl
theorem hasB_yes {s : ByteArray} {c : Int} {i : Nat} (h : i < s.size) (hc : (txt s).getD i 0 = c) : hasB s c = true := by
  unfold hasB
  rw [List.contains_iff_mem, ← hc]
  have hl : i < (txt s).length := by rw [txt_length]; exact h
  rw [List.getD, List.getElem?_eq_getElem hl]
  exact List.getElem_mem hl
theorem hasB_no {s : ByteArray} {c : Int} (h : ∀ i, i < s.size → (txt s).getD i 0 ≠ c) : hasB s c = false := by
  unfold hasB
  rw [Bool.eq_false_iff]
  intro hm
  rw [List.contains_iff_mem] at hm
  obtain ⟨i, hi, e⟩ := List.getElem_of_mem hm
  apply h i (by rw [← txt_length]; exact hi)
  rw [List.getD, List.getElem?_eq_getElem hi]
  exact e

set_option maxHeartbeats 1000000 in
theorem l4Takes_none (s : ByteArray) (c : Int) (w : World) (hs : s.size ≤ maxLen) :
    Calls Tryz.prog 94 #[.int .i64 0, .string s, .int .u8 c] w fun e w' => e = .returned (.bool (hasB s c)) ∧ w' = w := by
  unfold maxLen at hs
  have HY := Hid.mk (fun i h hc => hasB_yes (s := s) (c := c) (i := i) h hc)
  have HN := Hid.mk (fun h => hasB_no (s := s) (c := c) h)
  generalize hasB s c = r at *
  go_enter Tryz.func94, Tryz.ntmps94
  go_wp2
  go_loop [7] (fun i => ∃ k : Nat, i = .int .i64 k ∧ k ≤ s.size ∧ Hid (∀ j, j < k → (txt s).getD j 0 ≠ c)) (fun i => s.size - (intOf i).toNat)
  case atStart => exact ⟨0, rfl, Nat.zero_le _, fun j hj => by omega⟩
  case round =>
    obtain ⟨k, rfl, hk, HJ⟩ := hrel
    by_cases hlt : k < s.size
    · have hc := byte_at6 s k hlt
      have hki : (k : Int) < (s.size : Int) := by omega
      by_cases he : ((s[k].toNat : Nat) : Int) = c
      · have hr : r = true := HY.out k hlt (by rw [← hc]; exact he)
        have he' : (((s[k].toNat : Nat) : Int) == c) = true := by simp [he]
        subst hr
        clear hc HY HN he
        go_wp2
        go_ret
        exact ⟨rfl, rfl⟩
      · have he' : (((s[k].toNat : Nat) : Int) == c) = false := by simp [he]
        have HJ2 : Hid (∀ j, j < k + 1 → (txt s).getD j 0 ≠ c) := by
          intro j hj
          by_cases e : j = k
          · subst e; rw [← hc]; exact he
          · exact HJ.out j (by omega)
        clear hc he HY HN
        go_wp2
        go_round
        case rel => exact ⟨k + 1, by go_num, by omega, HJ2⟩
        case measure => simp [intOf]; omega
    · have hr : r = false := HN.out (fun i hi => HJ.out i (by omega))
      subst hr
      clear HY HN
      go_wp2
      go_ret
      exact ⟨rfl, rfl⟩

def ren137n : Go.Shelf.Ren := ⟨fun | 137 => 59 | 217 => 77 | 266 => 96 | n => n, fun | 9 => 9 | 5 => 5 | 3 => 3 | n => n, fun | n => n⟩
theorem lays137n : Go.Proofs.Lays.n137 Tryz.prog ren137n := {
  mixed := by kernel_rfl
  f137 := Tryz.func59.trans (congrArg some (by kernel_rfl))
  f217 := Tryz.func77.trans (congrArg some (by kernel_rfl))
  f266 := Tryz.func96.trans (congrArg some (by kernel_rfl))
  t3 := Tryz.underlying3
  a3 := Tryz.isAgg3
  z3 := Tryz.sizeOf3
  v3 := Tryz.zeroValue3
  t5 := Tryz.underlying5
  a5 := Tryz.isAgg5
  z5 := Tryz.sizeOf5
  v5 := Tryz.zeroValue5
  t9 := Tryz.underlying9
  a9 := Tryz.isAgg9
  z9 := Tryz.sizeOf9
  v9 := Tryz.zeroValue9 }
theorem indexByteN_any (s : ByteArray) (c : Int) (w : World) :
    Calls Tryz.prog 59 #[.string s, .int .u8 c] w fun e w' => e = .returned (.int .i64 (Lib.indexByte s.data.toList c.toNat.toUInt8)) ∧ w' = w := Any.strings_IndexByte lays137n s c w
theorem indexB_has (s : ByteArray) (c : Int) (h0 : 0 ≤ c) (h1 : c ≤ 255) : decide (0 ≤ Lib.indexByte s.data.toList c.toNat.toUInt8) = hasB s c := by
  have hcc : ((c.toNat.toUInt8).toNat : Int) = c := by
    rw [Nat.toUInt8, UInt8.toNat_ofNat']
    omega
  have hl : s.data.toList.length = s.size := by rw [Array.length_toList]; rfl
  by_cases h : Lib.indexByte s.data.toList c.toNat.toUInt8 = -1
  · rw [h]
    symm
    apply hasB_no
    intro i hi e
    have := Lib.indexByte_none h i
    apply this
    have hi' : i < s.data.toList.length := by omega
    rw [List.getElem?_eq_getElem hi']
    congr 1
    rw [← byte_at6 s i hi] at e
    apply UInt8.toNat_inj.1
    have : (s.data.toList[i].toNat : Int) = (s[i].toNat : Int) := by simp; rfl
    omega
  · have hge : 0 ≤ Lib.indexByte s.data.toList c.toNat.toUInt8 := by
      have hge : ∀ l : List UInt8, ∀ b, -1 ≤ Lib.indexByte l b := by
        intro l b
        induction l with
        | nil => simp [Lib.indexByte]
        | cons x r ih =>
          rw [Lib.indexByte]
          split
          · omega
          · split <;> omega
      have := hge s.data.toList c.toNat.toUInt8
      omega
    obtain ⟨o, ho⟩ := Int.eq_ofNat_of_zero_le hge
    have hso := (Lib.indexByte_some ho).1
    have hi' : o < s.data.toList.length := (List.getElem?_eq_some_iff.1 hso).1
    rw [List.getElem?_eq_getElem hi'] at hso
    rw [decide_eq_true hge]
    symm
    apply hasB_yes (i := o) (by omega)
    rw [← byte_at6 s o (by omega), ← hcc]
    have := Option.some.inj hso
    rw [← this]
    simp
    rfl

theorem hasB_one {s : ByteArray} {c : Int} (h : s.size = 1) : hasB s c = ((txt s).getD 0 0 == c) := by
  by_cases e : (txt s).getD 0 0 = c
  · rw [hasB_yes (i := 0) (by omega) e]
    symm
    rw [beq_iff_eq]
    exact e
  · rw [hasB_no (fun i hi => by obtain rfl : i = 0 := by omega
                                exact e)]
    symm
    rw [beq_eq_false_iff_ne]
    exact e
set_option maxHeartbeats 1000000 in
theorem nodeTakes_any (x : Nd) (n b o : Nat) (c : Int) (w : World) (h : At4 w b o x) (hok : okNd x n = true) (hs : x.s.size ≤ maxLen) (h0 : 0 ≤ c) (h1 : c ≤ 255) :
    Calls Tryz.prog 42 #[.pointer (some ⟨b, o, none⟩), .int .u8 c] w fun e w' => e = .returned (.bool (tkNd x c)) ∧ w' = w := by
  obtain ⟨c0, c1, -, -⟩ := h
  unfold maxLen at hs
  have HI := Hid.mk (indexByteN_any x.s c w)
  have HE := Hid.mk (indexB_has x.s c h0 h1)
  unfold tkNd
  obtain ⟨k, s, xa, xb⟩ := x
  simp only at *
  by_cases hk1 : k = 1
  · subst hk1
    have hsz : s.size = 1 := by
      unfold okNd at hok
      simp only [if_true, Bool.and_eq_true] at hok
      simpa using hok.1.1
    have e2 : ((1 : Int) == 2) = false := rfl
    have e1 : ((1 : Int) == 1) = true := rfl
    have hlt' : 0 < s.size := by omega
    rw [e2, e1, Bool.true_or, Bool.true_and, Bool.false_or, hasB_one hsz, ← byte_at6 s 0 hlt']
    have hs1 : ((s.size : Int) == 1) = true := by simp [hsz]
    have hlt : (0 : Int) < (s.size : Int) := by omega
    clear HI HE hok hsz
    go_enter Tryz.func42, Tryz.ntmps42
    go_wp2
    go_ret
    exact ⟨rfl, rfl⟩
  · have e1 : (k == 1) = false := by simp [hk1]
    by_cases hk2 : k = 2
    · subst hk2
      have e2 : ((2 : Int) == 2) = true := rfl
      rw [e2, Bool.true_or]
      clear HI HE hok
      go_enter Tryz.func42, Tryz.ntmps42
      go_wp2
      go_ret
      exact ⟨rfl, rfl⟩
    · have e2 : (k == 2) = false := by simp [hk2]
      by_cases hk3 : k = 3
      · subst hk3
        have e3 : ((3 : Int) == 3) = true := rfl
        rw [e2, e1, e3, Bool.false_or, Bool.false_or, Bool.true_and, ← HE.out]
        clear HE hok
        generalize Lib.indexByte s.data.toList c.toNat.toUInt8 = z at *
        go_enter Tryz.func42, Tryz.ntmps42
        go_wp2_with fail
        refine HI.out.mono ?_
        rintro e w1 ⟨rfl, hw1⟩
        obtain rfl := hw1.symm
        clear hw1 HI
        go_wp2
        go_ret
        exact ⟨rfl, rfl⟩
      · have e3 : (k == 3) = false := by simp [hk3]
        rw [e2, e1, e3]
        clear HI HE hok
        go_enter Tryz.func42, Tryz.ntmps42
        go_wp2
        go_ret
        exact ⟨rfl, rfl⟩

/-- One of these nodes is the end. -/
def dnB (N : List Nd) (l : List Int) : Bool := l.any fun i => (N.getD i.toNat default).k == 7
set_option maxHeartbeats 1000000 in
theorem anyDone_any (N : List Nd) (B : Nat → Prop) (v u : Value) (l : List Int) (w : World) (h : Nl w B N v) (hl : Iz w u l) (hin : ∀ i ∈ l, 0 ≤ i ∧ i < (N.length : Int)) :
    Calls Tryz.prog 21 #[v, u] w fun e w' => e = .returned (.bool (dnB N l)) ∧ w' = w := by
  obtain ⟨ao, cap, rfl, hn1, hm, -, -, hc⟩ := h
  obtain ⟨lo, lc, rfl, hl1, hlm, -, hlc⟩ := hl
  unfold maxLen at hm hlm
  have HC := Hid.mk hc
  have HLC := Hid.mk hlc
  have HIN := Hid.mk hin
  have HY : Hid (∀ k (h : k < l.length), (N.getD (l[k]).toNat default).k = 7 → dnB N l = true) := fun k h e => by
    unfold dnB
    rw [List.any_eq_true]
    exact ⟨l[k], List.getElem_mem h, beq_iff_eq.2 e⟩
  have HN : Hid ((∀ k (h : k < l.length), (N.getD (l[k]).toNat default).k ≠ 7) → dnB N l = false) := fun h => by
    unfold dnB
    rw [List.any_eq_false]
    intro x hx
    obtain ⟨k, hk, rfl⟩ := List.getElem_of_mem hx
    rw [beq_iff_eq]
    exact h k hk
  generalize dnB N l = r at *
  clear hc hlc hin
  go_enter Tryz.func21, Tryz.ntmps21
  go_wp2
  go_loop [9] (fun i => ∃ k : Nat, i = .int .i64 k ∧ k ≤ l.length ∧ Hid (∀ j (h : j < l.length), j < k → (N.getD (l[j]).toNat default).k ≠ 7)) (fun i => l.length - (intOf i).toNat)
  case atStart => exact ⟨0, rfl, Nat.zero_le _, fun j _ hj => by omega⟩
  case round =>
    obtain ⟨k, rfl, hk, HJ⟩ := hrel
    by_cases hlt : k < l.length
    · obtain ⟨lb, lof, rfl, hlcell⟩ := HLC.out (by intro h0; rw [h0] at hlt; simp at hlt)
      have hl0 := hlcell k hlt
      rw [List.getD, List.getElem?_eq_getElem hlt, Option.getD_some] at hl0
      obtain ⟨hi0, hi1⟩ := HIN.out l[k] (List.getElem_mem hlt)
      obtain ⟨m, hm'⟩ := Int.eq_ofNat_of_zero_le hi0
      rw [hm'] at hl0 hi1
      have hmn : m < N.length := by omega
      obtain ⟨b, off, rfl, _, hcell⟩ := HC.out (by intro h0; rw [h0] at hmn; simp at hmn)
      have h4 := (hcell m hmn).1
      have eN : N.getD (l[k]).toNat default = N[m] := by
        rw [hm', Int.toNat_natCast, List.getD, List.getElem?_eq_getElem hmn]
        rfl
      have hki : (k : Int) < (l.length : Int) := by omega
      have HY' := Hid.mk (HY.out k hlt)
      rw [eN] at HY'
      have HJ2 : Hid (N[m].k ≠ 7 → ∀ j (h : j < l.length), j < k + 1 → (N.getD (l[j]).toNat default).k ≠ 7) := by
        intro hne j hj hjk
        by_cases e : j = k
        · subst e; rw [eN]; exact hne
        · exact HJ.out j hj (by omega)
      generalize N[m].k = nk at h4 HY' HJ2
      clear hlcell hcell eN hm' HC HLC HIN HY
      by_cases he : nk = 7
      · have hr : r = true := HY'.out he
        subst hr
        subst he
        go_wp2
        go_ret
        exact ⟨rfl, rfl⟩
      · have he' : (nk == 7) = false := by simp [he]
        have HJ3 := Hid.mk (HJ2.out he)
        clear he
        go_wp2
        go_round
        case rel => exact ⟨k + 1, by go_num, by omega, HJ3⟩
        case measure => simp [intOf]; omega
    · have hr : r = false := HN.out (fun j hj => HJ.out j hj (by omega))
      subst hr
      clear HY HN
      go_wp2
      go_ret
      exact ⟨rfl, rfl⟩
end Go.Proofs.YtapniafhcagogaaGreatDoor

namespace Go.Proofs.YtapniafhcagogaaGreatDoor
open Go.RowKit
set_option maxRecDepth 8000

/-- What the first k of the places go on to with a byte. -/
def onK (N : List Nd) (l : List Int) (c : Int) (k : Nat) (j : Int) : Prop := ∃ i, i < k ∧ ∃ h : i < l.length, tkNd (ndAt N (l[i]).toNat) c = true ∧ (ndAt N (l[i]).toNat).a = j
theorem onK_yes {N : List Nd} {l : List Int} {c : Int} {k : Nat} (h : k < l.length) (ht : tkNd (ndAt N (l[k]).toNat) c = true) (j : Int) : onK N l c (k + 1) j ↔ onK N l c k j ∨ j = (ndAt N (l[k]).toNat).a := by
  constructor
  · rintro ⟨i, hi, hl, h1, h2⟩
    by_cases e : i = k
    · subst e; exact .inr h2.symm
    · exact .inl ⟨i, by omega, hl, h1, h2⟩
  · rintro (⟨i, hi, hl, h1, h2⟩ | rfl)
    · exact ⟨i, by omega, hl, h1, h2⟩
    · exact ⟨k, by omega, h, ht, rfl⟩
theorem onK_no {N : List Nd} {l : List Int} {c : Int} {k : Nat} (h : k < l.length) (ht : tkNd (ndAt N (l[k]).toNat) c = false) (j : Int) : onK N l c (k + 1) j ↔ onK N l c k j := by
  constructor
  · rintro ⟨i, hi, hl, h1, h2⟩
    by_cases e : i = k
    · subst e; rw [ht] at h1; cases h1
    · exact ⟨i, by omega, hl, h1, h2⟩
  · rintro ⟨i, hi, hl, h1, h2⟩
    exact ⟨i, by omega, hl, h1, h2⟩
/-- A rising list of what the first k go on to. -/
def OnS (N : List Nd) (l : List Int) (c : Int) (k : Nat) (ys : List Int) : Prop := Ris ys ∧ (∀ j, j ∈ ys ↔ onK N l c k j) ∧ ys.length ≤ k
theorem OnS.zero (N : List Nd) (l : List Int) (c : Int) : OnS N l c 0 [] := ⟨List.Pairwise.nil, fun j => ⟨(fun h => by cases h), (fun h => by obtain ⟨i, hi, _⟩ := h; omega)⟩, Nat.le_refl _⟩
theorem OnS.yes {N : List Nd} {l : List Int} {c : Int} {k : Nat} {ys zs : List Int} (h : OnS N l c k ys) (hk : k < l.length) (ht : tkNd (ndAt N (l[k]).toNat) c = true) (hp : PutL ys (ndAt N (l[k]).toNat).a zs) : OnS N l c (k + 1) zs := by
  refine ⟨hp.1, fun j => ?_, ?_⟩
  · rw [hp.2.1, h.2.1, onK_yes hk ht]
  · have := h.2.2
    rw [hp.2.2]
    split <;> omega
theorem OnS.no {N : List Nd} {l : List Int} {c : Int} {k : Nat} {ys : List Int} (h : OnS N l c k ys) (hk : k < l.length) (ht : tkNd (ndAt N (l[k]).toNat) c = false) : OnS N l c (k + 1) ys :=
  ⟨h.1, fun j => by rw [h.2.1, onK_no hk ht], by have := h.2.2; omega⟩

end Go.Proofs.YtapniafhcagogaaGreatDoor

namespace Go.Proofs.YtapniafhcagogaaGreatDoor
open Go.RowKit
set_option maxRecDepth 8000

theorem heap_putRow (w : World) (q g : Nat) (ys : List Int) (cur : Array Value) (hg : w.heap[g]? = some (.cells cur 3 (0, 0))) :
    (Go.Sort.putRow (Value.int .i64) (Go.Sort.ahead w q) g 0 ys.toArray).heap[g]? = some (.cells (Go.Sort.putCells (Value.int .i64) 0 ys.toArray cur) 3 (0, 0)) := by
  have hg' : (Go.Sort.ahead w q).heap[g]? = some (.cells cur 3 (0, 0)) := hg
  unfold Go.Sort.putRow Go.Sort.mapBlock
  simp only [Array.getElem?_modify, if_true, hg', Option.map_some, Go.Sort.onCells]
theorem heap_putRow_other (w : World) (q g b : Nat) (ys : List Int) (h : b ≠ g) :
    (Go.Sort.putRow (Value.int .i64) (Go.Sort.ahead w q) g 0 ys.toArray).heap[b]? = w.heap[b]? := by
  unfold Go.Sort.putRow Go.Sort.mapBlock
  simp only [Array.getElem?_modify, if_neg (Ne.symm h)]
  rfl
theorem size_putRow (w : World) (q g : Nat) (ys : List Int) : (Go.Sort.putRow (Value.int .i64) (Go.Sort.ahead w q) g 0 ys.toArray).heap.size = w.heap.size := by
  unfold Go.Sort.putRow Go.Sort.mapBlock
  simp only [Array.size_modify]
  rfl
/-- A row of the call's own, laid anew. -/
theorem OwnZ.putRow {w : World} {base g cap : Nat} {zs ys : List Int} (h : OwnZ w base (.slice (some ⟨g, 0, none⟩) zs.length cap) zs) (hl : ys.length = zs.length) (q m : Nat) (hm : m ≤ ys.length) :
    OwnZ (Go.Sort.putRow (Value.int .i64) (Go.Sort.ahead w q) g 0 ys.toArray) base (.slice (some ⟨g, 0, none⟩) m cap) (ys.take m) := by
  rcases h.2 with ⟨h1, _⟩ | ⟨g', cap', cur, h1, hb, hg, hn, hc, hs, ht⟩
  · simp at h1
  · simp only [Value.slice.injEq, Option.some.injEq, Addr.mk.injEq, and_true, true_and] at h1
    obtain ⟨rfl, rfl⟩ := h1
    have hml : (ys.take m).length = m := by rw [List.length_take]; omega
    refine ⟨by rw [List.length_map, Nat.mul_one], .inr ⟨g, cap, _, by rw [hml], hb, heap_putRow w q g ys cur hg, by omega, hc, by unfold Go.Sort.putCells; rw [Array.size_mapIdx]; exact hs, ?_⟩⟩
    rw [hml, Nat.mul_one]
    apply List.ext_getElem?
    intro k
    by_cases hk : k < m
    · have hky : k < ys.length := by omega
      have hkc : k < cur.size := by rw [hs]; omega
      rw [List.getElem?_take_of_lt hk, List.getElem?_map, List.getElem?_take_of_lt hk, List.getElem?_eq_getElem hky]
      unfold Go.Sort.putCells
      rw [Array.getElem?_toList, Array.getElem?_mapIdx, Array.getElem?_eq_getElem hkc]
      simp [hky]
    · rw [List.getElem?_eq_none (by rw [List.length_take]; omega), List.getElem?_eq_none (by rw [List.length_map, hml]; omega)]
theorem OwnZ.holds {w : World} {base g cap : Nat} {zs : List Int} (h : OwnZ w base (.slice (some ⟨g, 0, none⟩) zs.length cap) zs) : Go.Sort.Holds (Value.int .i64) w g 0 zs.toArray := by
  intro j hj
  have hj' : j < zs.length := by simpa using hj
  refine ⟨?_, by rw [Nat.zero_add]; exact h.fr j⟩
  rw [Nat.zero_add, h.cell (j := j) (List.getElem?_eq_getElem hj')]
  simp [hj']
theorem mem_compactUpTo (d : Array Int) (x : Int) : ∀ m, x ∈ Lib.compactUpTo d m ↔ ∃ j, j < m ∧ d[j]! = x
  | 0 => by simp [Lib.compactUpTo]
  | m + 1 => by
    rw [Lib.compactUpTo_succ, List.mem_append, mem_compactUpTo d x m]
    constructor
    · rintro (⟨j, hj, e⟩ | h)
      · exact ⟨j, by omega, e⟩
      · split at h
        · exact ⟨m, by omega, (List.mem_singleton.1 h).symm⟩
        · cases h
    · rintro ⟨j, hj, e⟩
      by_cases hjm : j < m
      · exact .inl ⟨j, hjm, e⟩
      · obtain rfl : j = m := by omega
        by_cases hk : Lib.keeps d j = true
        · right; rw [if_pos hk, e]; exact List.mem_singleton.2 rfl
        · left
          unfold Lib.keeps at hk
          simp only [decide_eq_true_eq, not_or, Classical.not_not] at hk
          exact ⟨j - 1, by omega, by rw [← hk.2]; exact e⟩
theorem mem_compact (zs : List Int) (x : Int) : x ∈ Lib.compact zs ↔ x ∈ zs := by
  unfold Lib.compact
  rw [mem_compactUpTo]
  constructor
  · rintro ⟨j, hj, e⟩
    rw [← e]
    have : zs.toArray[j]! = zs[j] := by simp [hj]
    rw [this]
    exact List.getElem_mem hj
  · intro h
    obtain ⟨j, hj, e⟩ := List.getElem_of_mem h
    exact ⟨j, hj, by simp [hj, e]⟩

theorem sortZ_any (base g cap : Nat) (zs : List Int) (w : World) (h : OwnZ w base (.slice (some ⟨g, 0, none⟩) zs.length cap) zs) (hl : zs.length ≤ 1000) :
    Calls Tryz.prog 43 #[.slice (some ⟨g, 0, none⟩) zs.length cap] w fun e w' => e = .returned (.tuple #[]) ∧ ∃ ys, OwnZ w' base (.slice (some ⟨g, 0, none⟩) zs.length cap) ys ∧ ys.length = zs.length ∧ (∀ j, j ∈ ys ↔ j ∈ zs) ∧ w.grownBy w' (some g) := by
  have hgl : g < w.heap.size := (World.ownsRow.lt h g rfl).2
  refine (Tryz.slices_Sort_int g 0 cap zs w h.holds hgl (by omega)).mono ?_
  rintro e w' ⟨rfl, n, os, rfl⟩
  obtain ⟨ys, hys⟩ : ∃ ys, zs.mergeSort (fun x y => decide (x ≤ y)) = ys := ⟨_, rfl⟩
  have hlen : ys.length = zs.length := by rw [← hys]; exact List.length_mergeSort ..
  have hmem : ∀ j, j ∈ ys ↔ j ∈ zs := fun j => by rw [← hys]; exact List.mem_mergeSort
  rw [hys]
  have ho := h.putRow hlen n ys.length (Nat.le_refl _)
  rw [List.take_length, hlen] at ho
  have G : ∀ W : World, Below W.heap.size W (Go.Sort.grow W os) := fun W => ⟨rfl, rfl, rfl, by simp [Go.Sort.grow], fun b hb => by simp [Go.Sort.grow, Array.getElem?_append, hb]⟩
  refine ⟨rfl, ys, ho.grow (G _), hlen, hmem, ⟨rfl, rfl, rfl, ?_, fun b hb hne => ?_⟩⟩
  · have := (G (Go.Sort.putRow (Value.int .i64) (Go.Sort.ahead w n) g 0 ys.toArray)).size
    rw [size_putRow] at this
    exact this
  · rw [(G _).block b (by rw [size_putRow]; exact hb), heap_putRow_other w n g b ys (fun e => hne (by rw [e]))]
theorem compactZ_any (base g cap : Nat) (zs : List Int) (w : World) (h : OwnZ w base (.slice (some ⟨g, 0, none⟩) zs.length cap) zs) (hl : zs.length ≤ 1000) :
    Calls Tryz.prog 44 #[.slice (some ⟨g, 0, none⟩) zs.length cap] w fun e w' => ∃ ys, e = .returned (.slice (some ⟨g, 0, none⟩) ys.length cap) ∧ OwnZ w' base (.slice (some ⟨g, 0, none⟩) ys.length cap) ys ∧ ys.length ≤ zs.length ∧ (∀ j, j ∈ ys ↔ j ∈ zs) ∧ w.grownBy w' (some g) := by
  have hcap : zs.length ≤ cap := by
    rcases h.2 with ⟨h1, _⟩ | ⟨g', cap', cur, h1, hb, hg, hn, _⟩
    · simp at h1
    · simp only [Value.slice.injEq, Option.some.injEq, Addr.mk.injEq, and_true, true_and] at h1
      omega
  refine (Tryz.slices_Compact_int g 0 cap zs w h.holds (by omega) hcap).mono ?_
  rintro e w' ⟨rfl, q, rfl⟩
  have hle := Lib.compact_length_le zs
  have ho := h.putRow (ys := Lib.compact zs ++ List.replicate (zs.length - (Lib.compact zs).length) 0) (by simp; omega) q (Lib.compact zs).length (by simp)
  rw [List.take_left] at ho
  refine ⟨Lib.compact zs, rfl, ho, hle, mem_compact zs, ⟨rfl, rfl, rfl, by rw [size_putRow]; exact Nat.le_refl _, fun b hb hne => heap_putRow_other w q g b _ (fun e => hne (by rw [e]))⟩⟩

theorem izOne (w : World) (a : Int) : Iz (w.alloc (.cells #[.int .i64 a] 3)) (.slice (some ⟨w.heap.size, 0, none⟩) 1 1) [a] := by
  refine ⟨_, 1, rfl, by simp, by decide, fun h => by simp at h, fun _ => ⟨_, 0, rfl, fun i hi => ?_⟩⟩
  obtain rfl : i = 0 := by simpa using hi
  simp
theorem okNfa_nd {N : List Nd} (h : okNfa N = true) {m : Nat} (hm : m < N.length) : okNd N[m] N.length = true := by
  unfold okNfa at h
  simp only [Bool.and_eq_true] at h
  exact List.all_eq_true.1 h.2 _ (List.getElem_mem hm)

set_option maxHeartbeats 1000000 in
theorem implOnward_any (N : List Nd) (hok : okNfa N = true) (B : Nat → Prop) (v u : Value) (l : List Int) (c : Int) (w : World) (h : Nl w B N v) (hl : Iz w u l) (hin : inN N.length l) (hll : l.length ≤ 300) (hc0 : 0 ≤ c) (hc1 : c ≤ 255) :
    Calls Tryz.prog 22 #[.agg #[v], u, .int .u8 c] w fun e w' => ∃ x ys, e = .returned x ∧ OwnZ w' w.heap.size x ys ∧ (∀ j, j ∈ ys ↔ onK N l c l.length j) ∧ ys.length ≤ 300 ∧ Below w.heap.size w w' := by
  obtain ⟨ao, cap, rfl, hl1, hm1, -, hsz1, hcN⟩ := id h
  obtain ⟨lo, lc, rfl, hl2, hm2, -, hcL⟩ := id hl
  unfold maxLen at hm1 hm2
  have HC1 := Hid.mk hcN
  have HC2 := Hid.mk hcL
  have HIn := Hid.mk hin
  have HSZ := Hid.mk hsz1
  have HOK := Hid.mk hok
  have A0 : Hid (Below w.heap.size w (w.alloc (.cells #[.slice ao N.length cap] 31))) := (Below.refl _ _).alloc (Nat.le_refl _) _
  have A1 : Hid (Below (w.heap.size + 1) (w.alloc (.cells #[.slice ao N.length cap] 31)) ((w.alloc (.cells #[.slice ao N.length cap] 31)).alloc (.cells #[] 3))) := (Below.refl _ _).alloc (by simp) _
  have O0 : Hid (OwnZ ((w.alloc (.cells #[.slice ao N.length cap] 31)).alloc (.cells #[] 3)) (w.heap.size + 1) (.slice (some ⟨w.heap.size + 1, 0, none⟩) 0 0) []) := by
    have h0 : OwnZ ((w.alloc (.cells #[.slice ao N.length cap] 31)).alloc (.cells #[] 3)) (w.heap.size + 1) (.slice (some ⟨(w.alloc (.cells #[.slice ao N.length cap] 31)).heap.size, 0, none⟩) 0 0) [] := World.ownsRow_lit (w.alloc (.cells #[.slice ao N.length cap] 31)) #[] 0 (by simp) (by decide) rfl
    show OwnZ _ _ _ _
    simpa using h0
  clear h hl hin hcN hcL hsz1 hok
  go_enter Tryz.func22, Tryz.ntmps22
  go_wp2
  go_loopw [7, 13] (fun q i wr => ∃ (k g cp : Nat) (ys : List Int), k ≤ l.length ∧ i = .int .i64 k ∧ q = .slice (some ⟨g, 0, none⟩) ys.length cp ∧ ys.length ≤ k ∧ Hid (OwnZ wr (w.heap.size + 1) (.slice (some ⟨g, 0, none⟩) ys.length cp) ys) ∧ Hid (∀ j, j ∈ ys ↔ onK N l c k j) ∧ Hid (Below (w.heap.size + 1) (w.alloc (.cells #[.slice ao N.length cap] 31)) wr)) (fun _ i _ => l.length - (intOf i).toNat)
  case atStart => exact ⟨0, _, _, [], Nat.zero_le _, rfl, rfl, Nat.le_refl _, O0, (OnS.zero N l c).2.1, A1⟩
  case round =>
    obtain ⟨k, g, cp, ys, hk, rfl, rfl, hyl, HY, HP, HB⟩ := hrel
    clear A1 O0
    have BW := Hid.mk (A0.out.trans (HB.out.mono (by omega)))
    have hsz : w.heap.size + 1 ≤ wr.heap.size := by have := HB.out.size; simpa using this
    by_cases hkl : k < l.length
    · obtain ⟨b2, off2, rfl, hcell2⟩ := HC2.out (by intro h0; rw [h0] at hkl; simp at hkl)
      have hcc0 := HIn.out l[k] (List.getElem_mem hkl)
      obtain ⟨m, hm⟩ : ∃ m : Nat, l[k] = (m : Int) := ⟨l[k].toNat, by omega⟩
      have hmN : m < N.length := by omega
      obtain ⟨b, off, rfl, _, hcell⟩ := HC1.out (by intro h0; rw [h0] at hmN; simp at hmN)
      have d0 : wr.cell? ⟨w.heap.size, 0, none⟩ = some (.slice (some ⟨b, off, none⟩) N.length cap) := by rw [HB.out.cell (p := ⟨w.heap.size, 0, none⟩) (by simp)]; simp
      have d1 : wr.cell? ⟨b2, off2 + k, none⟩ = some (.int .i64 (m : Int)) := by
        rw [BW.out.cell (p := ⟨b2, off2 + k, none⟩) (World.block_lt_of_cell? w _ (hcell2 k hkl)), hcell2 k hkl, ← hm]
        simp [List.getD, hkl]
      have d2 := (hcell m hmN).kept (w' := wr) (BW.out.block b (World.block_lt_of_cell? w _ (hcell m hmN).1))
      have HTK := Hid.mk (nodeTakes_any N[m] N.length b (off + m * 4) c wr d2 (okNfa_nd HOK.out hmN) (HSZ.out N[m] (List.getElem_mem hmN)) hc0 hc1)
      have HIS := Hid.mk (isNode_any (m : Int) N.length wr)
      rw [show plB (m : Int) N.length = true by simp [plB]; omega] at HIS
      have eM : ndAt N (l[k]).toNat = N[m] := by rw [hm, Int.toNat_natCast, ndAt_eq hmN]
      have HYES : Hid (tkNd N[m] c = true → ∀ j, j ∈ ys ++ [N[m].a] ↔ onK N l c (k + 1) j) := by
        intro ht j
        rw [onK_yes hkl (by rw [eM]; exact ht), List.mem_append, HP.out, List.mem_singleton, eM]
      have HNO : Hid (tkNd N[m] c = false → ∀ j, j ∈ ys ↔ onK N l c (k + 1) j) := by
        intro ht j
        rw [onK_no hkl (by rw [eM]; exact ht), HP.out]
      have e2 := d2.2.2.1
      generalize tkNd N[m] c = tb at HTK HYES HNO
      generalize N[m].a = xa at e2 HYES
      have hkb : (k : Int) < (l.length : Int) := by omega
      have hcb : (m : Int) < (N.length : Int) := by omega
      clear hcell hcell2 hm hcc0 HC1 HC2 HP d2 eM
      go_wp2_with fail
      refine HIS.out.mono ?_
      rintro e w1 ⟨rfl, hw1⟩
      obtain rfl := hw1.symm
      clear hw1 HIS
      go_wp2_with fail
      refine HTK.out.mono ?_
      rintro e w2 ⟨rfl, hw2⟩
      obtain rfl := hw2.symm
      clear hw2 HTK
      cases tb with
      | true =>
        have h1 := izOne wr xa
        have ho1 := HY.out.grow ((Below.refl _ _).alloc (Nat.le_refl _) (.cells #[.int .i64 xa] 3))
        have hb1 := HB.out.alloc (by simpa using hsz) (.cells #[.int .i64 xa] 3)
        go_wp2_with (at_builtin; refine wpList_append_z rfl _ _ rfl (w.heap.size + 1) _ _ ys [xa] rfl ho1 rfl h1 hb1 (by simp; omega) (by simp; omega) ?_)
        intro v3 w3 hown3 hbel3 hq1 hq2 hq3
        obtain ⟨g3, c3, hv3, -, -⟩ := hown3.form (by simp)
        have HY3 := Hid.mk hown3
        have HB3 := Hid.mk hbel3
        have HP3 := Hid.mk (HYES.out (by simp))
        subst hv3
        clear h1 ho1 hb1 hown3 hbel3 hq1 hq2 hq3 HY HB HYES HNO d0 d1 e2 BW
        go_wp2
        go_roundw
        case rel => exact ⟨k + 1, g3, c3, ys ++ [xa], by omega, by go_num, rfl, by simp; omega, HY3, HP3, HB3⟩
        case measure => simp [intOf]; omega
      | false =>
        have HP3 := Hid.mk (HNO.out (by simp))
        clear HYES HNO
        go_wp2
        go_roundw
        case rel => exact ⟨k + 1, g, cp, ys, by omega, by go_num, rfl, by omega, HY, HP3, HB⟩
        case measure => simp [intOf]; omega
    · have e : k = l.length := by omega
      subst e
      have hgb : w.heap.size + 1 ≤ g := (World.ownsRow.lt HY.out g rfl).1
      have HSO := Hid.mk (sortZ_any (w.heap.size + 1) g cp ys wr HY.out (by omega))
      clear HC1 HC2
      go_wp2_with fail
      refine HSO.out.mono ?_
      rintro e w1 ⟨rfl, y1, ho1, hl1', hm1', hg1⟩
      have HL1 := Hid.mk hl1'
      rw [← hl1'] at ho1
      have HCO := Hid.mk (compactZ_any (w.heap.size + 1) g cp y1 w1 ho1 (by omega))
      rw [hl1'] at HCO
      have B1 : Hid (Below w.heap.size w w1) := BW.out.grown hg1 BW.out.size (fun k e => by simp at e; omega)
      have HM1 := Hid.mk hm1'
      clear ho1 hg1 HSO hm1' hl1'
      go_wp2_with fail
      refine HCO.out.mono ?_
      rintro e w2 ⟨y2, rfl, ho2, hl2', hm2', hg2⟩
      have B2 : Hid (Below w.heap.size w w2) := B1.out.grown hg2 B1.out.size (fun k e => by simp at e; omega)
      have HM2 := Hid.mk hm2'
      have HO2 := Hid.mk (ho2.mono (base' := w.heap.size) (by omega))
      clear ho2 hg2 HCO hm2'
      go_wp2
      go_ret
      exact ⟨_, y2, rfl, HO2.out, fun j => by rw [HM2.out, HM1.out, HP.out], by have := HL1.out; omega, B2.out⟩
end Go.Proofs.YtapniafhcagogaaGreatDoor
