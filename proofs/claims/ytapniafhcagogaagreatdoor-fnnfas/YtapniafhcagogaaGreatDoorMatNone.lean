/- The model's matrices: none, and the same. -/
import Derived.Test.YtapniafhcagogaaGreatDoorMatThenM
import Derived.Test.YtapniafhcagogaaGreatDoorRexOwn
namespace Go.Proofs.YtapniafhcagogaaGreatDoor
open Go.RowKit
set_option maxRecDepth 8000

theorem infoBool : (Tryz.prog.info? 4).map (fun i => (i.zero, i.size, i.bytes)) = some (some (.bool false), 1, 1) := by kernel_rfl
theorem infoBools : (Tryz.prog.info? 94).map (fun i => (i.zero, i.size, i.bytes)) = some (some (.slice none 0 0), 1, 24) := by kernel_rfl

/-- The first k rows are made. -/
structure Rows0 (w0 w : World) (n k : Nat) (v : Value) (R : Nat → Nat) : Prop where
  own : w.ownsRow 0 94 1 v k ((List.range k).map fun i => Value.slice (some ⟨R i, 0, none⟩) (n + 1) (n + 1))
  ob : ∃ g, v.ownBlock = some g ∧ w0.heap.size ≤ g ∧ g < w.heap.size ∧ ∀ i, i < k → R i ≠ g
  row : ∀ i, i < k → w.heap[R i]? = some (.cells (rowOf n fun _ => false) 4 (0, 0)) ∧ w0.heap.size ≤ R i
  inj : ∀ i j, i < k → j < k → R i = R j → i = j

theorem made_none (n : Nat) : (madeCells (Value.bool false).cells ((n + 1) * 1)).toList.toArray = rowOf n fun _ => false := by
  have : (Value.bool false).cells = #[.bool false] := rfl
  rw [this, toList_madeCells_one, Nat.mul_one]
  unfold rowOf
  congr 1
  apply List.ext_getElem
  · simp
  · intro i h1 h2; simp

theorem Rows0.step {w0 w w1 w2 : World} {n k : Nat} {v v' : Value} {R : Nat → Nat} (h : Rows0 w0 w n k v R)
    (hown : w1.ownsRow 0 4 1 (.slice (some ⟨w.heap.size, 0, none⟩) (n + 1) (n + 1)) (n + 1) (madeCells (Value.bool false).cells ((n + 1) * 1)).toList) (hg1 : w.grownBy w1 none)
    (h0 : w0.heap.size ≤ w.heap.size)
    (hown2 : w2.ownsRow 0 94 1 v' (k + 1) (((List.range k).map fun i => Value.slice (some ⟨R i, 0, none⟩) (n + 1) (n + 1)) ++ [Value.slice (some ⟨w.heap.size, 0, none⟩) (n + 1) (n + 1)]))
    {A : Obj} (hg2 : (w1.alloc A).grownBy w2 v.ownBlock) (hv : v'.ownBlock = v.ownBlock ∨ v'.ownBlock = some (w1.alloc A).heap.size) :
    Rows0 w0 w2 n (k + 1) v' (fun i => if i < k then R i else w.heap.size) := by
  obtain ⟨g, hg, hg0, hgl, hgr⟩ := h.ob
  have hs1 := hg1.size
  have hlt1 : w.heap.size < w1.heap.size := own_lt hown
  have hsA : (w1.alloc A).heap.size = w1.heap.size + 1 := by simp
  have hs2 := hg2.size
  have keep : ∀ b, b < w.heap.size → b ≠ g → w2.heap[b]? = w.heap[b]? := by
    intro b hb hne
    rw [hg2.block b (by omega) (by rw [hg]; simpa using hne), Below.heap_alloc w1 A b (by omega), hg1.block b hb (by simp)]
  have hRlt : ∀ i, i < k → R i < w.heap.size := fun i hi => (Array.getElem?_eq_some_iff.1 (h.row i hi).1).1
  have hrow : w2.heap[w.heap.size]? = some (.cells (rowOf n fun _ => false) 4 (0, 0)) := by
    rw [hg2.block _ (by omega) (by rw [hg]; simp; omega), Below.heap_alloc w1 A w.heap.size hlt1, own_full hown, made_none]
  refine ⟨?_, ?_, ?_, ?_⟩
  · have e : (List.range (k + 1)).map (fun i => Value.slice (some ⟨(if i < k then R i else w.heap.size), 0, none⟩) (n + 1) (n + 1)) = ((List.range k).map fun i => Value.slice (some ⟨R i, 0, none⟩) (n + 1) (n + 1)) ++ [Value.slice (some ⟨w.heap.size, 0, none⟩) (n + 1) (n + 1)] := by
      rw [List.range_succ, List.map_append]
      congr 1
      · apply List.map_congr_left
        intro i hi
        rw [if_pos (List.mem_range.1 hi)]
      · simp
    rw [e]
    exact hown2
  · rcases hv with hv | hv
    · exact ⟨g, hv.trans hg, hg0, by omega, fun i hi => by
        show (if i < k then R i else w.heap.size) ≠ g
        split
        · rename_i h1; exact hgr i h1
        · omega⟩
    · have hlt := (World.ownsRow.lt hown2 _ hv).2
      refine ⟨_, hv, by omega, hlt, fun i hi => ?_⟩
      show (if i < k then R i else w.heap.size) ≠ _
      split
      · rename_i h1; have := hRlt i h1; omega
      · omega
  · intro i hi
    show w2.heap[if i < k then R i else w.heap.size]? = _ ∧ _ ≤ (if i < k then R i else w.heap.size)
    split
    · rename_i h1
      exact ⟨by rw [keep _ (hRlt i h1) (hgr i h1)]; exact (h.row i h1).1, (h.row i h1).2⟩
    · exact ⟨hrow, h0⟩
  · intro i j hi hj he
    revert he
    show (if i < k then R i else w.heap.size) = (if j < k then R j else w.heap.size) → i = j
    intro he
    split at he <;> split at he
    · rename_i h1 h2; exact h.inj i j h1 h2 he
    · rename_i h1 h2; have := hRlt i h1; omega
    · rename_i h1 h2; have := hRlt j h2; omega
    · omega

theorem Rows0.done {w0 w : World} {n : Nat} {v : Value} {R : Nat → Nat} (h : Rows0 w0 w n (n + 1) v R) : Mx w (newFrom w0.heap.size) n (fun _ _ => false) v := by
  obtain ⟨g, hg, hg0, hgl, hgr⟩ := h.ob
  rcases h.own.2 with ⟨h', _⟩ | ⟨g', cap, cur, rfl, hb, hgg, hn, hm, hs, ht⟩
  · subst h'; simp [Value.ownBlock] at hg
  · have : g' = g := by simpa [Value.ownBlock] using hg
    subst this
    refine ⟨g', cap, R, rfl, hn, hm, ⟨fun i j hi hj => h.inj i j (by omega) (by omega), fun i hi => hgr i (by omega), hg0, fun i hi => (h.row i (by omega)).2⟩, fun i hi => ?_, fun i hi => (h.row i (by omega)).1⟩
    rw [h.own.cellAt i (by omega)]
    simp [show i < n + 1 by omega]

set_option maxHeartbeats 1000000 in
theorem l4None_any (s : ByteArray) (hs : s.size ≤ 200) (w : World) :
    Calls Tryz.prog 69 #[.string s] w fun e w' => ∃ v, e = .returned v ∧ Mx w' (newFrom w.heap.size) s.size (fun _ _ => false) v ∧ Below w.heap.size w w' := by
  obtain ⟨ib, hib, hib0, hib1, hib2⟩ := info_parts infoBool
  obtain ⟨is, his, his0, his1, his2⟩ := info_parts infoBools
  have HS0 : Hid (Rows0 w (w.alloc (.cells #[] 94)) s.size 0 (.slice (some ⟨w.heap.size, 0, none⟩) 0 0) (fun _ => 0)) := by
    refine ⟨?_, ⟨w.heap.size, rfl, Nat.le_refl _, by simp, fun i hi => absurd hi (Nat.not_lt_zero i)⟩, fun i hi => absurd hi (Nat.not_lt_zero i), fun i j hi => absurd hi (Nat.not_lt_zero i)⟩
    exact World.ownsRow_lit (base := 0) (e := 94) (size := 1) w #[] 0 (Nat.zero_le _) (by decide) rfl
  have HB0 : Hid (Below w.heap.size w (w.alloc (.cells #[] 94))) := (Below.refl _ _).alloc (Nat.le_refl _) _
  go_enter Tryz.func69, Tryz.ntmps69
  go_wp2
  go_loopw [3, 4] (fun o i wr => ∃ (k : Nat) (R : Nat → Nat), k ≤ s.size + 1 ∧ i = .int .i64 k ∧ Hid (Rows0 w wr s.size k o R) ∧ Hid (Below w.heap.size w wr)) (fun _ i _ => s.size + 1 - (intOf i).toNat)
  case atStart => exact ⟨0, _, Nat.zero_le _, rfl, HS0, HB0⟩
  case round =>
    rename_i vo _
    obtain ⟨k, R, hk, rfl, HR, HB⟩ := hrel
    clear HS0 HB0
    by_cases hks : (k : Int) ≤ (s.size : Int)
    · obtain ⟨m, hm⟩ : ∃ m, s.size + 1 = m := ⟨_, rfl⟩
      have hmi : (s.size : Int) + 1 = (m : Int) := by omega
      have hm2 : m ≤ 201 := by omega
      have HM := Hid.mk hm
      clear hm
      go_wp2_with (at_make; refine wpList_make_full _ rfl _ _ 94 rfl 0 4 ib _ 1 Tryz.underlying94 hib hib0 hib1 _ _ _ _ m rfl rfl rfl rfl (by rw [hib2]; omega) (by unfold maxLen; omega) (Nat.zero_le _) ?_)
      intro w1 hown hgrow
      have HRO := Hid.mk ((HR.out.own.kept hgrow (Or.inr (by obtain ⟨g, hg, _⟩ := HR.out.ob; rw [hg]; simp))).alloc (.cells #[Value.slice (some ⟨wr.heap.size, 0, none⟩) m m] 94))
      have HOW : Hid (w1.ownsRow 0 4 1 (.slice (some ⟨wr.heap.size, 0, none⟩) (s.size + 1) (s.size + 1)) (s.size + 1) (madeCells (Value.bool false).cells ((s.size + 1) * 1)).toList) := by
        rw [HM.out, Nat.mul_one]; exact hown
      have HG1 := Hid.mk hgrow
      have HB1 : Hid (Below w.heap.size w (w1.alloc (.cells #[Value.slice (some ⟨wr.heap.size, 0, none⟩) m m] 94))) := (HB.out.grown hgrow HB.out.size (by simp)).alloc (Nat.le_trans HB.out.size hgrow.size) _
      clear hown hgrow
      go_wp2_with (at_builtin; refine wpList_append_own_at _ rfl _ _ 91 rfl 0 94 is _ 1 24 Tryz.underlying91 his his0 his1 his2 rfl (by decide) u3 k _ rfl HRO.out ⟨w1.heap.size, 0, none⟩ 1 1 [Value.slice (some ⟨wr.heap.size, 0, none⟩) m m] rfl rfl (cell_one_new _ _ _) (by simp [Value.oneCell']) (by unfold maxLen; omega) (by omega) (Nat.zero_le _) ?_)
      intro v2 w2 hown2 hgrow2 _ hat2
      have hown3 := hown2
      rw [← HM.out] at hown3
      have HST := Hid.mk (HR.out.step (v' := v2) HOW.out HG1.out HB.out.size hown3 hgrow2 (by simpa using hat2))
      have HB2 : Hid (Below w.heap.size w w2) := HB1.out.grown hgrow2 HB1.out.size (fun g e => by obtain ⟨g', hg', h0, _⟩ := HR.out.ob; rw [hg'] at e; simp at e; omega)
      clear hown2 hown3 hgrow2 hat2 HRO HOW HG1 HB1 HR HB
      go_wp2
      go_roundw
      case rel => exact ⟨k + 1, _, by omega, by go_num, HST, HB2⟩
      case measure => simp [intOf]; omega
    · have hke : k = s.size + 1 := by omega
      subst hke
      have HD := Hid.mk HR.out.done
      clear HR
      go_wp2
      go_ret
      exact ⟨_, rfl, HD.out, HB.out⟩
end Go.Proofs.YtapniafhcagogaaGreatDoor
