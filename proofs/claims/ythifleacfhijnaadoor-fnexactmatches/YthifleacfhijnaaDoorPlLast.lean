/- The last place of a set: a range over the iterator. -/
import Derived.Test.YthifleacfhijnaaDoorPlAll
namespace Go.Proofs.YthifleacfhijnaaDoor
open Go.RowKit Go.Shelf
set_option maxRecDepth 8000

attribute [local go_sem] Oper.semAt_some

/-- The four words as one value. -/
abbrev aggW (f : Nat → Bool) : Value := .agg #[.int .u64 (wd f 0 : Int), .int .u64 (wd f 1 : Int), .int .u64 (wd f 2 : Int), .int .u64 (wd f 3 : Int)]
abbrev boxW (w : World) (f : Nat → Bool) : World := w.alloc (.cells #[.int .u64 (wd f 0 : Int), .int .u64 (wd f 1 : Int), .int .u64 (wd f 2 : Int), .int .u64 (wd f 3 : Int)] 63)

theorem boxW_cell (w : World) (f : Nat → Bool) (j : Nat) (hj : j < 4) : (boxW w f).cell? ⟨w.heap.size, j, none⟩ = some (.int .u64 (wd f j : Int)) := by
  rw [cell_of_row _ w.heap.size j _ _ (0, 0) (heap_alloc_new w _)]
  rcases (show j = 0 ∨ j = 1 ∨ j = 2 ∨ j = 3 by omega) with rfl | rfl | rfl | rfl <;> rfl

theorem all_any (f : Nat → Bool) (w : World) :
    Calls Tryd.prog 42 #[aggW f] w fun e w' => e = .returned (.func (.func 64) #[] #[.pointer (some ⟨w.heap.size, 0, none⟩)]) ∧ w' = boxW w f := by
  go_enter Tryd.func42, Tryd.ntmps42
  go_wp2
  go_ret
  exact ⟨rfl, rfl⟩

set_option maxRecDepth 100000 in
set_option maxHeartbeats 2000000 in
theorem last_any (f : Nat → Bool) (w : World) (hT : TabB w) :
    Calls Tryd.prog 50 #[aggW f] w fun e w' => e = .returned (.int .i64 (((rowUpto f 256).getLast?.getD 0 : Nat) : Int)) ∧ Below w.heap.size w w' := by
  refine (callsIn_wide (n := 4)).1 ?_
  refine callsIn_of_wp_marks Tryd.func50 rfl trivial ?_ rfl
  simp only [Tryd.ntmps50, List.size_toArray, List.length_cons, List.length_nil, Nat.reduceAdd, Nat.reduceSub, Array.replicate_succ, Array.replicate_zero, List.push_toArray, List.append_toArray, List.nil_append, List.cons_append]
  gi_wp2_with (refine ⟨trivial, ?_⟩; gi_at_call 42; refine (callsIn_wide.2 (all_any f _)).mono ?_; rintro e w' ⟨rfl, rfl⟩)
  have hs : ((boxW w f).alloc (.cells #[.int .i64 0] 3)).cell? ⟨(boxW w f).heap.size, 0, none⟩ = some (.int .i64 0) ∧ ((boxW w f).alloc (.cells #[.int .i64 0] 3)).frozen? ⟨(boxW w f).heap.size, 0, none⟩ = false := by
    have hh := heap_alloc_new (boxW w f) (.cells #[.int .i64 0] 3)
    constructor <;> simp only [World.cell?, World.frozen?, hh] <;> rfl
  rw [World.size_alloc] at hs
  have hcell := boxW_cell ((boxW w f).alloc (.cells #[.int .i64 0] 3)) f
  simp only [World.size_alloc] at hcell
  have hB0 : Below w.heap.size w (boxW ((boxW w f).alloc (.cells #[.int .i64 0] 3)) f) := (((Below.refl _ w).alloc (Nat.le_refl _) _).alloc (by simp) _).alloc (by simp; omega) _
  refine wpIn_rangeFunc_ownF rfl (by omega) (gf := 64) (lb := #[.pointer (some ⟨w.heap.size + 1 + 1, 0, none⟩)]) rfl trivial (enters_of Tryd.func64 (by kernel_rfl) rfl)
    (all_stops 3 (by omega) (w.heap.size + 1 + 1) w.heap.size f _ (by simp) (by simp; omega) hcell (fun w' hb => hT.grow (hB0.trans hb))) belowK_t (belowK_b (by simp; omega)) (Below.refl _ _) (fun _ => rfl)
    (fun pre W => (W.cell? ⟨w.heap.size + 1, 0, none⟩ = some (.int .i64 ((pre.getLast?.getD 0 : Nat) : Int)) ∧ W.frozen? ⟨w.heap.size + 1, 0, none⟩ = false) ∧ Below w.heap.size w W)
    (fun _ _ _ => False)
    (OwnFrom.and (Own.from (fun s A B row hs hg hr => ⟨cell_kept hs.1 hg hr, (frozen_kept hs.1 hg hr).trans hs.2⟩) _) (ownFrom_below (Nat.le_refl _) (by simp; omega)))
    (fun _ _ _ _ _ hs _ _ => hs)
    ⟨⟨cell_kept hs.1 (World.grownBy_alloc _ _ none) (fun _ e => nomatch e), (frozen_kept hs.1 (World.grownBy_alloc _ _ none) (fun _ e => nomatch e)).trans hs.2⟩, hB0⟩
    (fun x => { tmps := #[aggW f, .pointer (some ⟨w.heap.size, 0, none⟩), .int .i64 0, .pointer (some ⟨w.heap.size + 1, 0, none⟩), .int .i64 (x : Int), aggW f, .func (.func 64) #[] #[.pointer (some ⟨w.heap.size + 1 + 1, 0, none⟩)], .int .i64 (x : Int), undef, undef], defers := [] }) ?assign ?body ?done ?stop
  case assign =>
    intro l x W K hK
    gi_wp2
    exact hK
  case body =>
    rintro l pre x W ⟨⟨hc, hf⟩, hB⟩ _
    gi_wp2
    exact ⟨KeepsOthers.setCell _ _ _, (Below.refl w.heap.size W).setCell (p := ⟨w.heap.size + 1, 0, none⟩) (by simp) _, ⟨by simp only [List.getLast?_append, List.getLast?_singleton, Option.some_or, Option.getD_some]; exact World.cell?_setCell_same' _ _ _ (by rw [hc]; rfl), by rw [World.frozen?_setCell]; exact hf⟩, hB.setCell (p := ⟨w.heap.size + 1, 0, none⟩) (by simp) _⟩
  case done =>
    rintro D ys W hD rfl ⟨⟨hc, _⟩, hB⟩ hK
    gi_wp2
    refine ⟨by simp, .inl ⟨_, _, rfl, run_takeDeferred hK, ?_⟩⟩
    exact ⟨_, results_tmp rfl _ _ _, rfl, hB.trans (belowK_b (w := w) (Nat.le_refl _) W D _ _ (by simp at hD; omega) hK rfl rfl)⟩
  case stop =>
    rintro D c pre W _ _ h _
    exact h.elim
end Go.Proofs.YthifleacfhijnaaDoor
