/- The places of a set, ascending: the iterator's contract. The last place of a set: a range over the iterator. -/
import Derived.Test.YtapniafhcagogaaDoorPlTz
import Derived.Test.YtapniafhcagogaaDoorSpecRow
import Derived.RangeFuncNested
import Derived.RangeFuncBound
import Derived.RangeFuncCalls
import Derived.RangeFuncLeaves
import Derived.Shelf.Abstract
import Derived.Shelf.RegionOpen
import Derived.WalkKit
import Derived.OwnWalkIn
import Derived.TacticsInMore
import Derived.LoopNIn
import Derived.LoopIn
namespace Go.Proofs.YtapniafhcagogaaDoor
open Go.RowKit Go.Shelf

attribute [local go_sem] Oper.semAt_some

theorem rowUpto_gap (f : Nat → Bool) (p q : Nat) (hpq : p ≤ q) (h : ∀ b, p ≤ b → b < q → f b = false) : rowUpto f q = rowUpto f p := by
  obtain ⟨d, rfl⟩ : ∃ d, q = p + d := ⟨q - p, by omega⟩
  clear hpq
  induction d with
  | zero => rfl
  | succ d ih => rw [← Nat.add_assoc, rowUpto_no f (p + d) (h _ (by omega) (by omega)), ih (fun b h1 h2 => h b h1 (by omega))]

set_option maxRecDepth 100000 in
set_option maxHeartbeats 2000000 in
theorem all1_in (n : Nat) (hn : 1 ≤ n) (l Bn n₀ : Nat) (f : Nat → Bool) (J Jx : List Nat → World → Prop) (W : World)
    (hY : ∀ pre (x : Nat) W1, f x = true → J pre W1 → pre.length < 256 → YieldAt .wide (n - 1) Tryd.prog l #[.int .i64 (x : Int)] W1 fun e W' =>
      (e = .returned (.bool true) ∧ J (pre ++ [x]) W' ∧ Below n₀ W1 W') ∨ (e = .returned (.bool false) ∧ Jx (pre ++ [x]) W'))
    (hc : ∀ j, j < 4 → W.cell? ⟨Bn, j, none⟩ = some (.int .u64 (wd f j : Int))) (hT : ∀ w', Below n₀ W w' → TabB w') (h0 : J [] W) :
    CallsIn .wide n Tryd.prog 74 #[.func (.yield l) #[] #[], .pointer (some ⟨Bn, 0, none⟩)] W fun e W' => (∃ v, e = .returned v) ∧
      ((∃ ys, ys = rowUpto f 256 ∧ J ys W') ∨ (∃ pre, (∃ k, k ≤ 256 ∧ pre = rowUpto f k) ∧ Jx pre W')) := by
  have c0 := hc 0 (by omega)
  have c1 := hc 1 (by omega)
  have c2 := hc 2 (by omega)
  have c3 := hc 3 (by omega)
  have HY := Hid.mk hY
  have HT := Hid.mk hT
  clear hc hY hT
  refine callsIn_of_wp Tryd.func74 rfl trivial ?_ rfl
  simp only [Tryd.ntmps74, List.size_toArray, List.length_cons, List.length_nil, Nat.reduceAdd, Nat.reduceSub, Array.replicate_succ, Array.replicate_zero, List.push_toArray, List.append_toArray, List.nil_append, List.cons_append]
  have hIX : ∀ (i : Nat) (w' : World), i < 4 → (Instr.index 68 (.agg #[.int .u64 (wd f 0 : Int), .int .u64 (wd f 1 : Int), .int .u64 (wd f 2 : Int), .int .u64 (wd f 3 : Int)]) (.int .i64 (i : Int))).run Tryd.prog w' = .ok (.int .u64 (restW (fun b => f (64 * i + b)) 0 : Int)) w' := by
    intro i w' hi
    rw [← restW_all]
    rcases (show i = 0 ∨ i = 1 ∨ i = 2 ∨ i = 3 by omega) with rfl | rfl | rfl | rfl
    all_goals kernel_rfl
  have HIX := Hid.mk hIX
  clear hIX
  gi_wp2
  clear c0 c1 c2 c3
  gi_loopw [6] (fun q wr => ∃ (i : Nat), i ≤ 4 ∧ q = .int .i64 i ∧ Hid (J (rowUpto f (64 * i)) wr) ∧ Hid (Below n₀ W wr)) (fun q _ => 4 - (intOf q).toNat)
  case atStart => exact ⟨0, by omega, rfl, h0, Below.refl _ _⟩
  case round =>
    obtain ⟨i, hi, rfl, HJ, HB⟩ := hrel
    by_cases hi4 : (i : Int) < 4
    · have hix := HIX.out i wr (by omega)
      obtain ⟨g, hg⟩ : ∃ g, (fun b => f (64 * i + b)) = g := ⟨_, rfl⟩
      rw [hg] at hix
      have HG : Hid (∀ b, g b = f (64 * i + b)) := fun b => by rw [← hg]
      have hil : i < 4 := by omega
      clear hg
      gi_wp2
      clear hix
      gi_loopw [4] (fun q wr => ∃ (j : Nat), j ≤ 64 ∧ q = .int .u64 (restW g j : Int) ∧ Hid (J (rowUpto f (64 * i + j)) wr) ∧ Hid (Below n₀ W wr)) (fun q _ => (intOf q).toNat)
      case atStart => exact ⟨0, by omega, rfl, HJ, HB⟩
      case round =>
        obtain ⟨j, hj, rfl, HJs, HBs⟩ := hrel
        clear HJ HB
        by_cases hz : restW g j = 0
        · have HN : Hid (J (rowUpto f (64 * (i + 1))) wr) := by
            have hgap := rowUpto_gap f (64 * i + j) (64 * (i + 1)) (by omega) (fun b h1 h2 => by
              have := restW_zero g j hz (b - 64 * i) (by omega) (by omega)
              rw [HG.out, show 64 * i + (b - 64 * i) = b by omega] at this
              exact this)
            show J _ _
            rw [hgap]; exact HJs.out
          rw [hz]
          clear hz
          gi_wp2
          go_roundw
          case rel => exact ⟨i + 1, by omega, by go_num, HN, HBs⟩
          case measure => simp [intOf]; omega
        · obtain ⟨k, hk, hjk, hk64, hgk, hbelow, hand⟩ := restW_next g j hz
          have hgap := rowUpto_gap f (64 * i + j) (64 * i + k) (by omega) (fun b h1 h2 => by
            have := hbelow (b - 64 * i) (by omega) (by omega)
            rw [HG.out, show 64 * i + (b - 64 * i) = b by omega] at this
            exact this)
          have hyes := rowUpto_yes f (64 * i + k) (by rw [← HG.out]; exact hgk)
          have hJ := HJs.out
          rw [← hgap] at hJ
          obtain ⟨fn, tmps, assign, body, hy, hR⟩ := HY.out _ (64 * i + k) wr (by rw [← HG.out]; exact hgk) hJ (by have := rowUpto_len f (64 * i + k); omega)
          rw [show ((64 * i + k : Nat) : Int) = (i : Int) * 64 + (k : Int) by omega] at hy
          have HTZ := Hid.mk (tz64_any (restW g j) (restW_lt g j) hz wr (HT.out wr HBs.out))
          rw [hk] at HTZ
          have hlt := restW_lt g j
          have HAND : Hid (bits BinOp.and IntKind.u64 (restW g j : Int) ((restW g j - 1 : Nat) : Int) = (restW g (k + 1) : Int)) := by
            show _ = _
            rw [bits_and_u64_nat _ _ hlt (by omega), hand]
          have HLT : Hid (restW g (k + 1) < restW g j) := by
            have := @Nat.and_le_right (restW g j) (restW g j - 1)
            rw [hand] at this
            show _ < _
            omega
          have hneq : (((restW g j : Nat) : Int) != 0) = true := by simp; omega
          obtain ⟨X, hX⟩ : ∃ X, restW g j = X := ⟨_, rfl⟩
          rw [hX] at HTZ HAND HLT hneq hlt ⊢
          have hX0 : 0 < X := by omega
          have HYS := Hid.mk hyes
          have hw64 : (i : Int) * 64 + (k : Int) ≤ 256 := by omega
          clear hz hk hgk hbelow hand hgap hyes hJ hX HJs
          gi_wp2_with (refine ⟨trivial, ?_⟩; gi_at_call 75; refine (callsIn_wide.2 HTZ.out).mono ?_; rintro e w' ⟨rfl, rfl⟩)
          refine hR.mono ?_
          rintro e W3 (⟨rfl, hJ3, hk3⟩ | ⟨rfl, hJx3⟩)
          · have hsub : IntKind.u64.wrap ((X : Int) - 1) = ((X - 1 : Nat) : Int) := by rw [IntKind.wrap_u64]; omega
            have hand := HAND.out
            have HJn : Hid (J (rowUpto f (64 * i + (k + 1))) W3) := by
              show J _ _
              rw [← Nat.add_assoc, HYS.out]; exact hJ3
            have HBn := Hid.mk (HBs.out.trans hk3)
            clear hy hR hJ3 hk3 HTZ HAND
            gi_wp2
            go_roundw
            case rel => exact ⟨k + 1, by omega, rfl, HJn, HBn⟩
            case measure => have := HLT.out; simp [intOf]; omega
          · have HJX := Hid.mk hJx3
            clear hy hR hJx3 HTZ HAND
            gi_wp2
            refine bodyPost_ret (results_none rfl _ _ _) rfl ?_
            exact ⟨⟨_, rfl⟩, .inr ⟨_, ⟨64 * i + k + 1, by omega, HYS.out.symm⟩, HJX.out⟩⟩
    · obtain rfl : i = 4 := by omega
      have HJe := HJ
      clear HJ
      gi_wp2
      go_end0
      first | exact ⟨⟨_, rfl⟩, .inl ⟨_, rfl, HJe.out⟩⟩ | exact ⟨⟨_, rfl⟩, .inl HJe.out⟩

/-- **The iterator over the places of a set: for every loop body that keeps what lay below n₀.** -/
theorem all_stops (n : Nat) (hn : 1 ≤ n) (Bn n₀ : Nat) (f : Nat → Bool) (w : World) (hBn : Bn < w.heap.size) (hn0 : n₀ ≤ w.heap.size)
    (hc : ∀ j, j < 4 → w.cell? ⟨Bn, j, none⟩ = some (.int .u64 (wd f j : Int))) (hT : ∀ w', Below n₀ w w' → TabB w') :
    SeqStopsK .wide n Tryd.prog 74 #[.pointer (some ⟨Bn, 0, none⟩)] (fun (x : Nat) => #[.int .i64 (x : Int)]) (Below n₀) (fun ys => ys = rowUpto f 256) (fun pre => ∃ k, k ≤ 256 ∧ pre = rowUpto f k) 256 w := by
  intro l J Jx W hW hJ hJx hY h0
  refine all1_in n hn l Bn n₀ f J Jx W (fun pre x W1 _ => hY pre x W1) (fun j hj => ?_) (fun w' hb => hT w' ((hW.mono hn0).trans hb)) h0
  rw [hW.cell (p := ⟨Bn, j, none⟩) hBn]
  exact hc j hj

theorem map_val_len {f : Nat → Bool} (pre : List { x : Nat // f x = true }) : (pre.map (·.1)).length = pre.length := by simp

/-- **The same, where the body is told that each place is one of the set.** -/
theorem all_stopsF (n : Nat) (hn : 1 ≤ n) (Bn n₀ : Nat) (f : Nat → Bool) (w : World) (hBn : Bn < w.heap.size) (hn0 : n₀ ≤ w.heap.size)
    (hc : ∀ j, j < 4 → w.cell? ⟨Bn, j, none⟩ = some (.int .u64 (wd f j : Int))) (hT : ∀ w', Below n₀ w w' → TabB w') :
    SeqStopsK .wide n Tryd.prog 74 #[.pointer (some ⟨Bn, 0, none⟩)] (fun (x : { x : Nat // f x = true }) => #[.int .i64 (x.1 : Int)]) (Below n₀) (fun ys => ys.map (·.1) = rowUpto f 256) (fun pre => ∃ k, k ≤ 256 ∧ pre.map (·.1) = rowUpto f k) 256 w := by
  intro l J Jx W hW hJ hJx hY h0
  refine (all1_in n hn l Bn n₀ f (fun pre W1 => ∃ p' : List { x : Nat // f x = true }, p'.map (·.1) = pre ∧ J p' W1) (fun pre W1 => ∃ p' : List { x : Nat // f x = true }, p'.map (·.1) = pre ∧ Jx p' W1) W ?_ (fun j hj => ?_) (fun w' hb => hT w' ((hW.mono hn0).trans hb)) ⟨[], rfl, h0⟩).mono ?_
  · rintro pre x W1 hx ⟨p', rfl, hj⟩ hlen
    rw [map_val_len] at hlen
    obtain ⟨fn, tmps, assign, body, hy, hR⟩ := hY p' ⟨x, hx⟩ W1 hj hlen
    refine ⟨fn, tmps, assign, body, hy, hR.mono ?_⟩
    rintro e W' (⟨h1, h2, h3⟩ | ⟨h1, h2⟩)
    · exact .inl ⟨h1, ⟨p' ++ [⟨x, hx⟩], by simp, h2⟩, h3⟩
    · exact .inr ⟨h1, p' ++ [⟨x, hx⟩], by simp, h2⟩
  · rw [hW.cell (p := ⟨Bn, j, none⟩) hBn]
    exact hc j hj
  · rintro e W' ⟨h1, (⟨ys, h2, p', h3, h4⟩ | ⟨pre, h2, p', h3, h4⟩)⟩
    · exact ⟨h1, .inl ⟨p', h3.trans h2, h4⟩⟩
    · obtain ⟨k, hk, h2⟩ := h2
      exact ⟨h1, .inr ⟨p', ⟨k, hk, h3.trans h2⟩, h4⟩⟩
end Go.Proofs.YtapniafhcagogaaDoor

namespace Go.Proofs.YtapniafhcagogaaDoor
open Go.RowKit Go.Shelf
set_option maxRecDepth 8000

attribute [local go_sem] Oper.semAt_some

/-- The four words as one value. -/
abbrev aggW (f : Nat → Bool) : Value := .agg #[.int .u64 (wd f 0 : Int), .int .u64 (wd f 1 : Int), .int .u64 (wd f 2 : Int), .int .u64 (wd f 3 : Int)]
abbrev boxW (w : World) (f : Nat → Bool) : World := w.alloc (.cells #[.int .u64 (wd f 0 : Int), .int .u64 (wd f 1 : Int), .int .u64 (wd f 2 : Int), .int .u64 (wd f 3 : Int)] 68)

theorem boxW_cell (w : World) (f : Nat → Bool) (j : Nat) (hj : j < 4) : (boxW w f).cell? ⟨w.heap.size, j, none⟩ = some (.int .u64 (wd f j : Int)) := by
  rw [cell_of_row _ w.heap.size j _ _ (0, 0) (heap_alloc_new w _)]
  rcases (show j = 0 ∨ j = 1 ∨ j = 2 ∨ j = 3 by omega) with rfl | rfl | rfl | rfl <;> rfl

theorem all_any (f : Nat → Bool) (w : World) :
    Calls Tryd.prog 47 #[aggW f] w fun e w' => e = .returned (.func (.func 74) #[] #[.pointer (some ⟨w.heap.size, 0, none⟩)]) ∧ w' = boxW w f := by
  go_enter Tryd.func47, Tryd.ntmps47
  go_wp2
  go_ret
  exact ⟨rfl, rfl⟩

set_option maxRecDepth 100000 in
set_option maxHeartbeats 2000000 in
theorem last_any (f : Nat → Bool) (w : World) (hT : TabB w) :
    Calls Tryd.prog 57 #[aggW f] w fun e w' => e = .returned (.int .i64 (((rowUpto f 256).getLast?.getD 0 : Nat) : Int)) ∧ Below w.heap.size w w' := by
  refine (callsIn_wide (n := 4)).1 ?_
  refine callsIn_of_wp_marks Tryd.func57 rfl trivial ?_ rfl
  simp only [Tryd.ntmps57, List.size_toArray, List.length_cons, List.length_nil, Nat.reduceAdd, Nat.reduceSub, Array.replicate_succ, Array.replicate_zero, List.push_toArray, List.append_toArray, List.nil_append, List.cons_append]
  gi_wp2_with (refine ⟨trivial, ?_⟩; gi_at_call 47; refine (callsIn_wide.2 (all_any f _)).mono ?_; rintro e w' ⟨rfl, rfl⟩)
  have hs : ((boxW w f).alloc (.cells #[.int .i64 0] 3)).cell? ⟨(boxW w f).heap.size, 0, none⟩ = some (.int .i64 0) ∧ ((boxW w f).alloc (.cells #[.int .i64 0] 3)).frozen? ⟨(boxW w f).heap.size, 0, none⟩ = false := by
    have hh := heap_alloc_new (boxW w f) (.cells #[.int .i64 0] 3)
    constructor <;> simp only [World.cell?, World.frozen?, hh] <;> rfl
  rw [World.size_alloc] at hs
  have hcell := boxW_cell ((boxW w f).alloc (.cells #[.int .i64 0] 3)) f
  simp only [World.size_alloc] at hcell
  have hB0 : Below w.heap.size w (boxW ((boxW w f).alloc (.cells #[.int .i64 0] 3)) f) := (((Below.refl _ w).alloc (Nat.le_refl _) _).alloc (by simp) _).alloc (by simp; omega) _
  refine wpIn_rangeFunc_ownF rfl (by omega) (gf := 74) (lb := #[.pointer (some ⟨w.heap.size + 1 + 1, 0, none⟩)]) rfl trivial (enters_of Tryd.func74 (by kernel_rfl) rfl)
    (all_stops 3 (by omega) (w.heap.size + 1 + 1) w.heap.size f _ (by simp) (by simp; omega) hcell (fun w' hb => hT.grow (hB0.trans hb))) belowK_t (belowK_b (by simp; omega)) (Below.refl _ _) (fun _ => rfl)
    (fun pre W => (W.cell? ⟨w.heap.size + 1, 0, none⟩ = some (.int .i64 ((pre.getLast?.getD 0 : Nat) : Int)) ∧ W.frozen? ⟨w.heap.size + 1, 0, none⟩ = false) ∧ Below w.heap.size w W)
    (fun _ _ _ => False)
    (OwnFrom.and (Own.from (fun s A B row hs hg hr => ⟨cell_kept hs.1 hg hr, (frozen_kept hs.1 hg hr).trans hs.2⟩) _) (ownFrom_below (Nat.le_refl _) (by simp; omega)))
    (fun _ _ _ _ _ hs _ _ => hs)
    ⟨⟨cell_kept hs.1 (World.grownBy_alloc _ _ none) (fun _ e => nomatch e), (frozen_kept hs.1 (World.grownBy_alloc _ _ none) (fun _ e => nomatch e)).trans hs.2⟩, hB0⟩
    (fun x => { tmps := #[aggW f, .pointer (some ⟨w.heap.size, 0, none⟩), .int .i64 0, .pointer (some ⟨w.heap.size + 1, 0, none⟩), .int .i64 (x : Int), aggW f, .func (.func 74) #[] #[.pointer (some ⟨w.heap.size + 1 + 1, 0, none⟩)], .int .i64 (x : Int), undef, undef], defers := [] }) ?assign ?body ?done ?stop
  case assign =>
    intro l x W K hK
    gi_wp2
    exact hK
  case body =>
    rintro l pre x W ⟨⟨hc, hf⟩, hB⟩ _
    gi_wp2
    exact ⟨KeepsOthers.setCell _ _ _, (Below.refl w.heap.size W).setCell (p := ⟨w.heap.size + 1, 0, none⟩) (by simp) _, ⟨by simp only [List.getLast?_append, List.getLast?_singleton, Option.some_or, Option.getD_some]; exact World.cell?_setCell_same' _ _ _ (by rw [hc]; rfl), by rw [World.frozen?_setCell]; exact hf⟩, hB.setCell (p := ⟨w.heap.size + 1, 0, none⟩) (by simp) _⟩
  case done =>
    rintro D ys W hD rfl ⟨⟨hc, _⟩, hB⟩ hK
    gi_wp2
    refine ⟨by simp, .inl ⟨_, _, rfl, run_takeDeferred hK, ?_⟩⟩
    exact ⟨_, results_tmp rfl _ _ _, rfl, hB.trans (belowK_b (w := w) (Nat.le_refl _) W D _ _ (by simp at hD; omega) hK rfl rfl)⟩
  case stop =>
    rintro D c pre W _ _ h _
    exact h.elim
end Go.Proofs.YtapniafhcagogaaDoor
