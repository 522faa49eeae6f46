/- Texts split: SplitText, of the program and of the model. -/
import Derived.Test.YteomhjoodnjfbaaStrLeaf
import Derived.Test.YteomhjoodnjfbaaStrMark
import Derived.Test.YteomhjoodnjfbaaRunes
import Derived.Test.YteomhjoodnjfbaaTxtClone
import Derived.WalkSpells
namespace Go.Proofs.Yteomhjoodnjfbaa
open Go.RowKit
set_option maxRecDepth 8000

/-- A blank. -/
def blk (c : Int) : Bool := c == 32 || c == 9
theorem blk_no {c : Int} (h : 128 ≤ c) : blk c = false := by
  unfold blk
  rw [Bool.or_eq_false_iff, beq_eq_false_iff_ne, beq_eq_false_iff_ne]
  omega
/-- Behind p bytes: where the word begins, and the words ahead of it. -/
def spl (s : ByteArray) : Nat → Nat × List ByteArray
  | 0 => (0, [])
  | p + 1 => if blk ((txt s).getD p 0) = true then (p + 1, if (spl s p).1 < p then (spl s p).2 ++ [s.extract (spl s p).1 p] else (spl s p).2) else spl s p
/-- The words. -/
def splL (s : ByteArray) : List ByteArray := if (spl s s.size).1 < s.size then (spl s s.size).2 ++ [s.extract (spl s s.size).1 s.size] else (spl s s.size).2
theorem spl_le (s : ByteArray) : ∀ p, (spl s p).1 ≤ p ∧ (spl s p).2.length ≤ p
  | 0 => ⟨Nat.le_refl _, Nat.le_refl _⟩
  | p + 1 => by
    have ih := spl_le s p
    rw [spl]
    split
    · refine ⟨Nat.le_refl _, ?_⟩
      simp only
      split
      · simp; omega
      · omega
    · omega
theorem spl_blank (s : ByteArray) (p : Nat) (h : blk ((txt s).getD p 0) = true) : spl s (p + 1) = (p + 1, if (spl s p).1 < p then (spl s p).2 ++ [s.extract (spl s p).1 p] else (spl s p).2) := by rw [spl, if_pos h]
theorem spl_no (s : ByteArray) (p : Nat) (h : blk ((txt s).getD p 0) = false) : spl s (p + 1) = spl s p := by rw [spl, if_neg (by rw [h]; simp)]
theorem spl_skip (s : ByteArray) (p : Nat) : ∀ d, (∀ k, p ≤ k → k < p + d → blk ((txt s).getD k 0) = false) → spl s (p + d) = spl s p
  | 0, _ => rfl
  | d + 1, h => by
    rw [show p + (d + 1) = (p + d) + 1 by omega, spl_no s (p + d) (h (p + d) (by omega) (by omega))]
    exact spl_skip s p d (fun k h1 h2 => h k h1 (by omega))
theorem splL_len (s : ByteArray) : (splL s).length ≤ s.size + 1 := by
  have := spl_le s s.size
  unfold splL
  split
  · simp; omega
  · omega

theorem Tz.one (w : World) (x : ByteArray) : Tz (w.alloc (.cells #[.string x] 9)) (.slice (some ⟨w.heap.size, 0, none⟩) 1 1) [x] := by
  refine ⟨_, 1, rfl, by simp, by decide, fun h => by simp at h, fun _ => ⟨_, 0, rfl, fun i hi => ?_⟩⟩
  obtain rfl : i = 0 := by simpa using hi
  simp
theorem OwnT.alloc {w : World} {base : Nat} {v : Value} {xs : List ByteArray} (h : OwnT w base v xs) (o : Obj) : OwnT (w.alloc o) base v xs := h.grow ((Below.refl _ _).alloc (Nat.le_refl _) _)

set_option maxHeartbeats 2000000 in
theorem specSplitText_any (s : ByteArray) (w : World) (hs : s.size ≤ 1048576) :
    Calls Try.prog 47 #[.string s] w fun e w' => ∃ v, e = .returned v ∧ OwnT w' w.heap.size v (splL s) ∧ Below w.heap.size w w' := by
  have hbe : Hid (Below w.heap.size w (w.alloc (.cells #[] 9))) := (Below.refl _ _).alloc (Nat.le_refl _) _
  have ho0 : Hid (OwnT (w.alloc (.cells #[] 9)) w.heap.size (.slice (some ⟨w.heap.size, 0, none⟩) 0 0) []) := World.ownsRow_lit w #[] 0 (Nat.le_refl _) (by decide) rfl
  have HLE := Hid.mk (spl_le s)
  have HBL := Hid.mk (spl_blank s)
  have HNO := Hid.mk (spl_no s)
  have HF : Hid ((spl s s.size).1 < s.size → splL s = (spl s s.size).2 ++ [s.extract (spl s s.size).1 s.size]) := fun h => by unfold splL; rw [if_pos h]
  have HF2 : Hid (¬ (spl s s.size).1 < s.size → splL s = (spl s s.size).2) := fun h => by unfold splL; rw [if_neg h]
  generalize splL s = L at *
  go_enter Try.func47, Try.ntmps47
  go_wp2
  go_loopw [3, 4, 5] (fun v f i wr => ∃ k : Nat, i = .int .i64 k ∧ Hid (Below w.heap.size w wr) ∧ ((k ≤ s.size ∧ f = .int .i64 ((spl s k).1 : Nat) ∧ Hid (OwnT wr w.heap.size v (spl s k).2)) ∨ (k = s.size + 1 ∧ Hid (OwnT wr w.heap.size v L)))) (fun _ _ i _ => s.size + 2 - (intOf i).toNat)
  case atStart => exact ⟨0, rfl, hbe, .inl ⟨Nat.zero_le _, rfl, ho0⟩⟩
  case round =>
    obtain ⟨k, rfl, HB, hh⟩ := hrel
    clear hbe ho0
    rcases hh with ⟨hk, rfl, HO⟩ | ⟨rfl, HO⟩
    · have hle := HLE.out k
      by_cases hlt : k < s.size
      · have hc := byte_txt s k hlt
        have HBL' := Hid.mk (HBL.out k)
        have HNO' := Hid.mk (HNO.out k)
        rw [← hc] at HBL' HNO'
        generalize hcc : ((s[k].toNat : Nat) : Int) = c at HBL' HNO'
        generalize hf : (spl s k).1 = f at *
        generalize ho : (spl s k).2 = o at *
        clear hc
        have hki : (k : Int) < (s.size : Int) := by omega
        have hkl : (k : Int) ≤ (s.size : Int) := by omega
        have hfi : (f : Int) ≤ (k : Int) := by omega
        by_cases hb : blk c = true
        · have HS := Hid.mk (HBL'.out hb)
          have hcs : c = 32 ∨ c = 9 := by simpa [blk] using hb
          have hc0 : 0 ≤ c := by rcases hcs with h | h <;> omega
          clear HBL' HNO' hb
          rcases hcs with hcs | hcs
          · rw [hcs] at hcc
            clear hcs hc0
            by_cases hfk : f < k
            · have hfk' : (f : Int) < (k : Int) := by omega
              rw [if_pos hfk] at HS
              have h1 := Tz.one wr (s.extract f k)
              have ho1 := HO.out.alloc (.cells #[.string (s.extract f k)] 9)
              have hb1 := HB.out.alloc HB.out.size (.cells #[.string (s.extract f k)] 9)
              go_wp2_with (at_builtin; refine wpList_append_t rfl _ _ rfl w.heap.size _ _ _ [s.extract f k] rfl ho1 rfl h1 hb1 (by simp; have := HB.out.size; omega) (by simp; omega) ?_)
              intro v2 w2 hown2 hbel2 hq1 hq2 hq3
              clear hq1 hq2 hq3
              have HO2 := Hid.mk hown2
              have HB2 := Hid.mk hbel2
              clear h1 ho1 hb1 hown2 hbel2 HO HB
              go_wp2
              go_roundw
              case rel => exact ⟨k + 1, by go_num, HB2, .inl ⟨by omega, by rw [HS.out]; go_num, by rw [HS.out]; exact HO2⟩⟩
              case measure => simp [intOf]; omega
            · have hfk' : ¬ (f : Int) < (k : Int) := by omega
              rw [if_neg hfk] at HS
              go_wp2
              go_roundw
              case rel => exact ⟨k + 1, by go_num, HB, .inl ⟨by omega, by rw [HS.out]; go_num, by rw [HS.out]; exact HO⟩⟩
              case measure => simp [intOf]; omega
          · rw [hcs] at hcc
            clear hcs hc0
            by_cases hfk : f < k
            · have hfk' : (f : Int) < (k : Int) := by omega
              rw [if_pos hfk] at HS
              have h1 := Tz.one wr (s.extract f k)
              have ho1 := HO.out.alloc (.cells #[.string (s.extract f k)] 9)
              have hb1 := HB.out.alloc HB.out.size (.cells #[.string (s.extract f k)] 9)
              go_wp2_with (at_builtin; refine wpList_append_t rfl _ _ rfl w.heap.size _ _ _ [s.extract f k] rfl ho1 rfl h1 hb1 (by simp; have := HB.out.size; omega) (by simp; omega) ?_)
              intro v2 w2 hown2 hbel2 hq1 hq2 hq3
              clear hq1 hq2 hq3
              have HO2 := Hid.mk hown2
              have HB2 := Hid.mk hbel2
              clear h1 ho1 hb1 hown2 hbel2 HO HB
              go_wp2
              go_roundw
              case rel => exact ⟨k + 1, by go_num, HB2, .inl ⟨by omega, by rw [HS.out]; go_num, by rw [HS.out]; exact HO2⟩⟩
              case measure => simp [intOf]; omega
            · have hfk' : ¬ (f : Int) < (k : Int) := by omega
              rw [if_neg hfk] at HS
              go_wp2
              go_roundw
              case rel => exact ⟨k + 1, by go_num, HB, .inl ⟨by omega, by rw [HS.out]; go_num, by rw [HS.out]; exact HO⟩⟩
              case measure => simp [intOf]; omega
        · have hb' : blk c = false := by simpa using hb
          have HS := Hid.mk (HNO'.out hb')
          have hn1 : (c != 32) = true := by simp [blk] at hb'; simp [hb'.1]
          have hn2 : (c != 9) = true := by simp [blk] at hb'; simp [hb'.2]
          have hff := Hid.mk hf
          have hoo := Hid.mk ho
          clear HBL' HNO' hb hb' hf ho
          go_wp2
          go_roundw
          case rel => exact ⟨k + 1, by go_num, HB, .inl ⟨by omega, by rw [HS.out, hff.out], by rw [HS.out, hoo.out]; exact HO⟩⟩
          case measure => simp [intOf]; omega
      · obtain rfl : k = s.size := by omega
        have hfi : (((spl s s.size).1 : Nat) : Int) ≤ (s.size : Int) := by omega
        generalize hf : (spl s s.size).1 = f at *
        generalize ho : (spl s s.size).2 = o at *
        by_cases hfk : f < s.size
        · have hfk' : (f : Int) < (s.size : Int) := by omega
          have HS := Hid.mk (HF.out hfk)
          have h1 := Tz.one wr (s.extract f s.size)
          have ho1 := HO.out.alloc (.cells #[.string (s.extract f s.size)] 9)
          have hb1 := HB.out.alloc HB.out.size (.cells #[.string (s.extract f s.size)] 9)
          go_wp2_with (at_builtin; refine wpList_append_t rfl _ _ rfl w.heap.size _ _ _ [s.extract f s.size] rfl ho1 rfl h1 hb1 (by simp; have := HB.out.size; omega) (by simp; omega) ?_)
          intro v2 w2 hown2 hbel2 hq1 hq2 hq3
          clear hq1 hq2 hq3
          have HO2 := Hid.mk hown2
          have HB2 := Hid.mk hbel2
          clear h1 ho1 hb1 hown2 hbel2 HO HB
          go_wp2
          go_roundw
          case rel => exact ⟨s.size + 1, by go_num, HB2, .inr ⟨rfl, by rw [HS.out]; exact HO2⟩⟩
          case measure => simp [intOf]
        · have hfk' : ¬ (f : Int) < (s.size : Int) := by omega
          have HS := Hid.mk (HF2.out hfk)
          go_wp2
          go_roundw
          case rel => exact ⟨s.size + 1, by go_num, HB, .inr ⟨rfl, by rw [HS.out]; exact HO⟩⟩
          case measure => simp [intOf]
    · have hk1 : ¬ ((s.size : Int) + 1 ≤ (s.size : Int)) := by omega
      go_wp2
      go_ret
      exact ⟨_, rfl, HO.out, HB.out⟩

set_option maxHeartbeats 2000000 in
theorem appendWord_any (B : Nat) (v : Value) (xs : List ByteArray) (x : ByteArray) (w : World) (h : OwnT w B v xs) (hB : B ≤ w.heap.size) (hx : x.size ≤ 1048576) (hl : xs.length ≤ 1048577) :
    Calls Try.prog 90 #[v, .string x] w fun e w' => ∃ v', e = .returned v' ∧ OwnT w' B v' (if x.size = 0 then xs else xs ++ [x]) ∧ Below B w w' ∧ w.heap.size ≤ w'.heap.size ∧ ∀ b, b < w.heap.size → some b ≠ v.ownBlock → w'.heap[b]? = w.heap[b]? := by
  by_cases h0 : x.size = 0
  · rw [if_pos h0]
    have he : x.toList.isEmpty = true := by
      rw [ByteArray.toList_eq]
      have : x.data.toList = [] := List.eq_nil_of_length_eq_zero (by rw [Array.length_toList]; exact h0)
      rw [this]
      rfl
    have HH := Hid.mk h
    clear h
    go_enter Try.func90, Try.ntmps90
    go_wp2
    go_ret
    exact ⟨_, rfl, HH.out, Below.refl _ _, Nat.le_refl _, fun _ _ _ => rfl⟩
  · rw [if_neg h0]
    have he : x.toList.isEmpty = false := by
      rw [ByteArray.toList_eq, List.isEmpty_eq_false_iff]
      intro h1
      have h2 : x.data.toList.length = 0 := by rw [h1]; rfl
      rw [Array.length_toList] at h2
      exact h0 h2
    have HC := Hid.mk (clone_any x w hx)
    have HH := Hid.mk h
    clear h
    go_enter Try.func90, Try.ntmps90
    go_wp2_with fail
    refine HC.out.mono ?_
    rintro e w1 ⟨rfl, hb1⟩
    have hs1 := hb1.size
    have h1 := Tz.one w1 x
    have ho1 := (HH.out.grow hb1).alloc (.cells #[.string x] 9)
    have hb2 : Below B w (w1.alloc (.cells #[.string x] 9)) := (hb1.mono hB).alloc (by omega) _
    go_wp2_with (at_builtin; refine wpList_append_t rfl _ _ rfl B _ _ xs [x] rfl ho1 rfl h1 hb2 (by simp; omega) (by simp; omega) ?_)
    intro v2 w2 hown2 hbel2 hq1 hq2 hq3
    have HO2 := Hid.mk hown2
    have HB2 := Hid.mk hbel2
    have HQ : Hid (w.heap.size ≤ w2.heap.size ∧ ∀ b, b < w.heap.size → some b ≠ v.ownBlock → w2.heap[b]? = w.heap[b]?) := by
      refine ⟨by omega, fun b hb hne => ?_⟩
      rw [hq3 b (by omega) hne]
      exact ((((Below.refl w1.heap.size w1).alloc (Nat.le_refl _) (.cells #[.string x] 9)).block b (by omega))).trans (hb1.block b hb)
    clear h1 ho1 hb2 hown2 hbel2 hq1 hq2 hq3 hb1 hs1 HC HH
    go_wp2
    go_ret
    exact ⟨_, rfl, HO2.out, HB2.out, HQ.out.1, HQ.out.2⟩

/-- An iterator's block is none of an owned slice. -/
theorem OwnT.notIter {w : World} {base : Nat} {v : Value} {xs : List ByteArray} (h : OwnT w base v xs) {k : Nat} {s : ByteArray} {p : Nat} (hk : w.heap[k]? = some (.stringIter s p)) : some k ≠ v.ownBlock := by
  intro e
  rcases h.2 with ⟨rfl, _⟩ | ⟨g, cap, cur, rfl, _, hg, _⟩
  · simp [Value.ownBlock] at e
  · simp [Value.ownBlock] at e
    subst e
    rw [hk] at hg
    cases hg
theorem OwnT.iterAt {w : World} {base : Nat} {v : Value} {xs : List ByteArray} (h : OwnT w base v xs) {k : Nat} {s : ByteArray} {p : Nat} (hk : w.heap[k]? = some (.stringIter s p)) (p' : Nat) : OwnT (w.iterAt k s p') base v xs := by
  have hne := h.notIter hk
  rcases h.2 with ⟨rfl, h0⟩ | ⟨g, cap, cur, rfl, hb, hg, rest⟩
  · exact ⟨h.1, .inl ⟨rfl, h0⟩⟩
  · refine ⟨h.1, .inr ⟨g, cap, cur, rfl, hb, ?_, rest⟩⟩
    rw [Lib.iterAt_other w k g s p' (fun e => hne (by rw [e]; rfl))]
    exact hg

set_option maxHeartbeats 2000000 in
theorem implSplitText_any (s : ByteArray) (w : World) (hs : s.size ≤ 1048576) :
    Calls Try.prog 45 #[.string s] w fun e w' => ∃ v, e = .returned v ∧ OwnT w' w.heap.size v (splL s) ∧ Below w.heap.size w w' := by
  have hbe : Hid (Below w.heap.size w ((w.alloc (.cells #[] 9)).iter s 0)) := ((Below.refl _ _).alloc (Nat.le_refl _) _).alloc (by simp) _
  have ho0 : Hid (OwnT ((w.alloc (.cells #[] 9)).iter s 0) w.heap.size (.slice (some ⟨w.heap.size, 0, none⟩) 0 0) []) := by
    have q : OwnT (w.alloc (.cells #[] 9)) w.heap.size (.slice (some ⟨w.heap.size, 0, none⟩) 0 0) [] := World.ownsRow_lit w #[] 0 (Nat.le_refl _) (by decide) rfl
    exact q.alloc _
  have hi0 : Hid (((w.alloc (.cells #[] 9)).iter s 0).heap[w.heap.size + 1]? = some (.stringIter s 0)) := by
    have := World.iter_heap (w.alloc (.cells #[] 9)) s 0
    exact Hid.mk (by simpa using this)
  have HLE := Hid.mk (spl_le s)
  have HBL := Hid.mk (spl_blank s)
  have HNO := Hid.mk (fun p d => spl_skip s p d)
  have HF : Hid (splL s = if (s.extract (spl s s.size).1 s.size).size = 0 then (spl s s.size).2 else (spl s s.size).2 ++ [s.extract (spl s s.size).1 s.size]) := by
    show _ = _
    have := spl_le s s.size
    unfold splL
    rw [ByteArray.size_extract]
    by_cases h : (spl s s.size).1 < s.size
    · rw [if_pos h, if_neg (by omega)]
    · rw [if_neg h, if_pos (by omega)]
  have HW := Hid.mk (fun v xs x w' => appendWord_any w.heap.size v xs x w')
  generalize splL s = L at *
  go_enter Try.func45, Try.ntmps45
  go_wp2
  go_loopw [3, 4] (fun v f wr => ∃ k : Nat, k ≤ s.size ∧ f = .int .i64 ((spl s k).1 : Nat) ∧ Hid (Below w.heap.size w wr) ∧ Hid (OwnT wr w.heap.size v (spl s k).2) ∧ Hid (wr.heap[w.heap.size + 1]? = some (.stringIter s k))) (fun _ _ wr => s.size - wr.iterPos (w.heap.size + 1))
  case atStart => exact ⟨0, Nat.zero_le _, rfl, hbe, ho0, hi0⟩
  case round =>
    obtain ⟨k, hk, rfl, HB, HO, HI⟩ := hrel
    clear hbe ho0 hi0
    have hle := HLE.out k
    by_cases hlt : k < s.size
    · have hnx : ∀ ty, (Instr.next (.pointer (some ⟨w.heap.size + 1, 0, none⟩)) true ty).run Try.prog wr = _ := fun ty => Lib.run_next_any_at wr (w.heap.size + 1) s k ty HI.out hlt
      have hst := rune_step s k hlt
      have hd1 := decode_le s k
      have hitp : wr.iterPos (w.heap.size + 1) = k := iterPos_of HI.out
      have HBL' := Hid.mk (HBL.out k)
      generalize (Utf8.decode s k).1 = r at hnx hst hd1
      generalize (Utf8.decode s k).2 = d at hnx hst
      have HI1 := Hid.mk (Lib.iterAt_heap wr (w.heap.size + 1) s k (k + d) HI.out)
      have HO1 := Hid.mk (HO.out.iterAt HI.out (k + d))
      have HB1 := Hid.mk (Lib.below_iterAt HB.out (k := w.heap.size + 1) (by omega) s (k + d))
      clear HB HO HI
      by_cases hb : (r : Int) = 32 ∨ (r : Int) = 9
      · rcases hst with ⟨h1, h2, rfl⟩ | ⟨h1, _⟩
        · have hbk : blk ((txt s).getD k 0) = true := by rw [← h2]; simp [blk]; omega
          have HS := Hid.mk (HBL'.out hbk)
          generalize hf : (spl s k).1 = f at *
          generalize ho : (spl s k).2 = o at *
          have HE : Hid (spl s (k + 1) = (k + 1, if (s.extract f k).size = 0 then o else o ++ [s.extract f k])) := by
            show _ = _
            rw [HS.out, ByteArray.size_extract]
            congr 1
            by_cases h : f < k
            · rw [if_pos h, if_neg (by omega)]
            · rw [if_neg h, if_pos (by omega)]
          have hfi : (f : Int) ≤ (k : Int) := by omega
          have hki : (k : Int) ≤ (s.size : Int) := by omega
          have HC := Hid.mk (HW.out _ o (s.extract f k) _ HO1.out HB1.out.size (by rw [ByteArray.size_extract]; omega) (by omega))
          have hne1 := HO1.out.notIter HI1.out
          have hlt1 : w.heap.size + 1 < (wr.iterAt (w.heap.size + 1) s (k + 1)).heap.size := (Array.getElem?_eq_some_iff.1 HI1.out).1
          have hr0 : (r : Int) = 32 ∨ (r : Int) = 9 := hb
          clear h1 h2 hbk HS HBL' hb hf ho HO1
          rcases hr0 with hr | hr
          all_goals
            go_wp2_with fail
            refine HC.out.mono ?_
            rintro e w2 ⟨v2, rfl, ho2, hb2, hs2, hk2⟩
            have HO2 := Hid.mk ho2
            have HB2 := Hid.mk (HB1.out.trans hb2)
            have HI2 := Hid.mk ((hk2 _ hlt1 hne1).trans HI1.out)
            clear ho2 hb2 hs2 hk2 HC
            go_wp2
            go_roundw
            case rel => exact ⟨k + 1, by omega, by rw [HE.out]; go_num, HB2, by rw [HE.out]; exact HO2, HI2⟩
            case measure =>
              rw [iterPos_of HI2.out, hitp]
              omega
        · omega
      · have hsame : spl s (k + d) = spl s k ∧ k + d ≤ s.size ∧ 1 ≤ d := by
          rcases hst with ⟨h1, h2, rfl⟩ | ⟨h1, h2, h3, h4⟩
          · refine ⟨HNO.out k 1 (fun j hj1 hj2 => ?_), by omega, by omega⟩
            obtain rfl : j = k := by omega
            rw [← h2]
            simp [blk]
            omega
          · refine ⟨HNO.out k d (fun j hj1 hj2 => ?_), h3, h2⟩
            exact blk_no (h4 j hj1 hj2)
        obtain ⟨hs1, hs2, hs3⟩ := hsame
        have HS1 := Hid.mk hs1
        have hn1 : ((r : Int) == 32) = false := by simp; omega
        have hn2 : ((r : Int) == 9) = false := by simp; omega
        clear hst hs1 hb HBL'
        go_wp2
        go_roundw
        case rel => exact ⟨k + d, hs2, by rw [HS1.out], HB1, by rw [HS1.out]; exact HO1, HI1⟩
        case measure =>
          rw [iterPos_of HI1.out, hitp]
          omega
    · obtain rfl : k = s.size := by omega
      have hnx : ∀ ty, (Instr.next (.pointer (some ⟨w.heap.size + 1, 0, none⟩)) true ty).run Try.prog wr = _ := fun ty => Lib.run_next_end_at wr (w.heap.size + 1) s s.size ty HI.out hlt
      generalize hf : (spl s s.size).1 = f at *
      generalize ho : (spl s s.size).2 = o at *
      have hfi : (f : Int) ≤ (s.size : Int) := by omega
      have HC := Hid.mk (HW.out _ o (s.extract f s.size) _ HO.out HB.out.size (by rw [ByteArray.size_extract]; omega) (by omega))
      go_wp2_with fail
      refine HC.out.mono ?_
      rintro e w2 ⟨v2, rfl, ho2, hb2, -, -⟩
      have HO2 := Hid.mk ho2
      have HB2 := Hid.mk (HB.out.trans hb2)
      clear ho2 hb2 HC HO HB HI
      go_wp2
      go_ret
      exact ⟨_, rfl, by rw [HF.out]; exact HO2.out, HB2.out⟩
end Go.Proofs.Yteomhjoodnjfbaa
