/- What takes a byte, or nothing: the program's. -/
import Derived.Test.YtapniafhcagogaaGreatDoorRexLib
import Derived.Test.YtapniafhcagogaaGreatDoorMatSame
namespace Go.Proofs.YtapniafhcagogaaGreatDoor
open Go.RowKit
set_option maxRecDepth 8000

/-- Whether a part of one byte takes this one, as the program asks. -/
def tkI (k : Int) (c : ByteArray) (b : Int) : Bool := k == 2 || ((k == 1 || k == 3) && (List.range c.size).any fun i => ba c i == b)

theorem any_txt (c : ByteArray) (b : Int) : ((List.range c.size).any fun i => ba c i == b) = (txt c).any fun z => z == b := by
  rw [Bool.eq_iff_iff, List.any_eq_true, List.any_eq_true]
  constructor
  · rintro ⟨i, hi, h⟩
    have hi' : i < (txt c).length := by rw [txt_length]; exact List.mem_range.1 hi
    refine ⟨(txt c)[i], List.getElem_mem hi', ?_⟩
    unfold ba at h
    rwa [List.getD, List.getElem?_eq_getElem hi'] at h
  · rintro ⟨z, hz, h⟩
    obtain ⟨i, hi, rfl⟩ := List.getElem_of_mem hz
    refine ⟨i, List.mem_range.2 (by rw [txt_length] at hi; exact hi), ?_⟩
    unfold ba
    rwa [List.getD, List.getElem?_eq_getElem hi]

theorem takeWhile_any (l : List Int) (b : Int) : decide ((l.takeWhile (fun z => z != b)).length < l.length) = l.any fun z => z == b := by
  induction l with
  | nil => rfl
  | cons x r ih =>
    by_cases h : x = b
    · subst h; simp
    · have h1 : (x != b) = true := by simp [h]
      rw [List.takeWhile_cons_of_pos (p := fun z => z != b) h1, List.any_cons, ← ih]
      simp [h]

theorem index_any (c : ByteArray) (b : Int) (h0 : 0 ≤ b) (h1 : b ≤ 255) : decide ((0 : Int) ≤ Lib.indexByte c.data.toList b.toNat.toUInt8) = (txt c).any fun z => z == b := by
  have hc : ((b.toNat.toUInt8.toNat : Nat) : Int) = b := by
    rw [Nat.toUInt8, UInt8.toNat_ofNat']
    omega
  have e := index_take c.data.toList b.toNat.toUInt8 b hc
  have hl : c.data.toList.length = (txt c).length := by rw [txt_length, Array.length_toList]; rfl
  rw [e, hl, ← takeWhile_any]
  show decide ((0 : Int) ≤ if ((txt c).takeWhile fun z => z != b).length < (txt c).length then (((txt c).takeWhile fun z => z != b).length : Int) else -1) = _
  by_cases h : ((txt c).takeWhile fun z => z != b).length < (txt c).length
  · rw [if_pos h, decide_eq_true h, decide_eq_true (by omega)]
  · rw [if_neg h, decide_eq_false h, decide_eq_false (by omega)]

set_option maxHeartbeats 1000000 in
theorem takesByte_any (t : Tr) (v : Value) (s : ByteArray) (i : Nat) (hi : i ≤ s.size) (w : World) :
    Calls Tryz.prog 92 #[rx t.k t.s v, .string s, .int .i64 (i : Int)] w fun e w' => e = .returned (.bool (decide (i < s.size) && tkI t.k t.s (ba s i))) ∧ Below w.heap.size w w' := by
  obtain ⟨k, hk⟩ : ∃ k, t.k = k := ⟨_, rfl⟩
  obtain ⟨c, hc⟩ : ∃ c, t.s = c := ⟨_, rfl⟩
  rw [hk, hc]
  clear hk hc
  have A0 : Hid (Below w.heap.size w (w.alloc (.cells #[.int .i64 k, .string c, v] 26))) := (Below.refl _ _).alloc (Nat.le_refl _) _
  by_cases hlt : i < s.size
  · have HBA := Hid.mk (ba_eq s i hlt)
    have hii : ((i : Int) == (s.size : Int)) = false := by simp; omega
    obtain ⟨z, hz⟩ : ∃ z : Int, ((s[i].toNat : Nat) : Int) = z := ⟨_, rfl⟩
    have hz0 : 0 ≤ z := by omega
    have hz1 : z ≤ 255 := by have := s[i].toNat_lt; omega
    have HI := Hid.mk (fun w' => indexByte_any c z w')
    have HX := Hid.mk (index_any c z hz0 hz1)
    have HT : Hid ((decide (i < s.size) && tkI k c (ba s i)) = (k == 2 || ((k == 1 || k == 3) && (txt c).any fun y => y == z))) := by
      show _ = _
      rw [decide_eq_true hlt, Bool.true_and, tkI, any_txt, HBA.out, hz]
    obtain ⟨T, hT⟩ : ∃ T, (decide (i < s.size) && tkI k c (ba s i)) = T := ⟨_, rfl⟩
    obtain ⟨Y, hY⟩ : ∃ Y, ((txt c).any fun y => y == z) = Y := ⟨_, rfl⟩
    obtain ⟨N, hN⟩ : ∃ N, Lib.indexByte c.data.toList z.toNat.toUInt8 = N := ⟨_, rfl⟩
    rw [hT, hY] at HT
    rw [hN] at HI
    rw [hN, hY] at HX
    rw [hT]
    clear hT hY hN HBA
    by_cases hk2 : k = 2
    · subst hk2
      have hTT : T = true := by rw [HT.out]; rfl
      subst hTT
      clear HT
      go_enter Tryz.func92, Tryz.ntmps92
      go_wp2
      go_quiet ((go_at_call 59; exact Calls.quiet_of_same (HI.out _)))
      go_wp2
      go_ret
      exact ⟨rfl, A0.out.trans (Below.drewSelf _ _ _)⟩
    · by_cases hk13 : k = 1 ∨ k = 3
      · have hTT : T = Y := by
          rw [HT.out]
          rcases hk13 with rfl | rfl <;> simp
        subst hTT
        clear HT
        have hX := HX.out
        rcases hk13 with rfl | rfl
        · go_enter Tryz.func92, Tryz.ntmps92
          go_wp2
          go_quiet ((go_at_call 59; exact Calls.quiet_of_same (HI.out _)))
          go_wp2
          go_ret
          exact ⟨rfl, A0.out.trans (Below.drewSelf _ _ _)⟩
        · go_enter Tryz.func92, Tryz.ntmps92
          go_wp2
          go_quiet ((go_at_call 59; exact Calls.quiet_of_same (HI.out _)))
          go_wp2
          go_ret
          exact ⟨rfl, A0.out.trans (Below.drewSelf _ _ _)⟩
      · have hb1 : (k == 1) = false := beq_eq_false_iff_ne.2 (fun e => hk13 (Or.inl e))
        have hb2 : (k == 2) = false := beq_eq_false_iff_ne.2 hk2
        have hb3 : (k == 3) = false := beq_eq_false_iff_ne.2 (fun e => hk13 (Or.inr e))
        have hTT : T = false := by rw [HT.out, hb1, hb2, hb3]; rfl
        subst hTT
        clear HT hk13 hk2
        go_enter Tryz.func92, Tryz.ntmps92
        go_wp2
        go_quiet ((go_at_call 59; exact Calls.quiet_of_same (HI.out _)))
        go_wp2
        go_ret
        exact ⟨rfl, A0.out.trans (Below.drewSelf _ _ _)⟩
  · have hie : i = s.size := by omega
    subst hie
    rw [decide_eq_false (Nat.lt_irrefl _), Bool.false_and]
    have hii : (((s.size : Nat) : Int) == (s.size : Int)) = true := by simp
    go_enter Tryz.func92, Tryz.ntmps92
    go_wp2
    go_ret
    exact ⟨rfl, A0.out⟩

/-- Whether a part takes nothing there. -/
def noB (s : ByteArray) (k : Int) (i : Nat) : Bool := k == 9 || (k == 10 && decide (i = 0)) || (k == 11 && decide (i = s.size))

set_option maxHeartbeats 1000000 in
theorem takesNothing_any (t : Tr) (v : Value) (s : ByteArray) (i : Nat) (w : World) :
    Calls Tryz.prog 93 #[rx t.k t.s v, .string s, .int .i64 (i : Int)] w fun e w' => e = .returned (.bool (noB s t.k i)) ∧ Below w.heap.size w w' := by
  obtain ⟨k, hk⟩ : ∃ k, t.k = k := ⟨_, rfl⟩
  obtain ⟨c, hc⟩ : ∃ c, t.s = c := ⟨_, rfl⟩
  rw [hk, hc]
  clear hk hc
  have A0 : Hid (Below w.heap.size w (w.alloc (.cells #[.int .i64 k, .string c, v] 26))) := (Below.refl _ _).alloc (Nat.le_refl _) _
  have h0 : ((i : Int) == 0) = decide (i = 0) := by rw [Bool.eq_iff_iff, beq_iff_eq, decide_eq_true_iff]; omega
  have hn : ((i : Int) == (s.size : Int)) = decide (i = s.size) := by rw [Bool.eq_iff_iff, beq_iff_eq, decide_eq_true_iff]; omega
  obtain ⟨d0, hd0⟩ : ∃ d, decide (i = 0) = d := ⟨_, rfl⟩
  obtain ⟨dn, hdn⟩ : ∃ d, decide (i = s.size) = d := ⟨_, rfl⟩
  have HT : Hid (noB s k i = (k == 9 || (k == 10 && d0) || (k == 11 && dn))) := by show _ = _; rw [noB, hd0, hdn]
  obtain ⟨T, hT⟩ : ∃ T, noB s k i = T := ⟨_, rfl⟩
  rw [hT] at HT ⊢
  rw [hd0] at h0
  rw [hdn] at hn
  clear hT hd0 hdn
  by_cases h9 : k = 9
  · subst h9
    have hTT : T = true := by rw [HT.out]; rfl
    subst hTT
    clear HT
    go_enter Tryz.func93, Tryz.ntmps93
    go_wp2
    go_ret
    exact ⟨rfl, A0.out⟩
  by_cases h10 : k = 10
  · subst h10
    have hTT : T = d0 := by rw [HT.out]; simp
    subst hTT
    clear HT
    cases T
    all_goals
      go_enter Tryz.func93, Tryz.ntmps93
      go_wp2
      go_ret
      exact ⟨rfl, A0.out⟩
  by_cases h11 : k = 11
  · subst h11
    have hTT : T = dn := by rw [HT.out]; simp
    subst hTT
    clear HT
    go_enter Tryz.func93, Tryz.ntmps93
    go_wp2
    go_ret
    exact ⟨rfl, A0.out⟩
  · have hb9 : (k == 9) = false := beq_eq_false_iff_ne.2 h9
    have hb10 : (k == 10) = false := beq_eq_false_iff_ne.2 h10
    have hb11 : (k == 11) = false := beq_eq_false_iff_ne.2 h11
    have hTT : T = false := by rw [HT.out, hb9, hb10, hb11]; rfl
    subst hTT
    clear HT h9 h10 h11
    go_enter Tryz.func93, Tryz.ntmps93
    go_wp2
    go_ret
    exact ⟨rfl, A0.out⟩
end Go.Proofs.YtapniafhcagogaaGreatDoor
