/- What a node takes; whether one is the end; of the program and of the model. -/
import Derived.Test.YteomhjoodnjfbaaNodeOk
import Derived.Test.YteomhjoodnjfbaaIntLeaf
import Derived.Test.YteomhjoodnjfbaaAppStr
import Derived.Shelf.Small.Strs
import Derived.Lib.IndexLaws
namespace Go.Proofs.Yteomhjoodnjfbaa
open Go.Shelf Go.RowKit
set_option maxRecDepth 8000

/-- The text has this byte. -/
def hasB (s : ByteArray) (c : Int) : Bool := (txt s).contains c
/-- A node takes a byte. -/
def tkB (x : Nd) (c : Int) : Bool := x.k == 2 || (x.k == 1 || x.k == 3) && hasB x.s c

theorem byte_at6 (s : ByteArray) (i : Nat) (h : i < s.size) : ((s[i].toNat : Nat) : Int) = (txt s).getD i 0 := by
  have hl : i < (txt s).length := by rw [txt_length]; exact h
  rw [List.getD, List.getElem?_eq_getElem hl]
  simp [txt]
  rfl
theorem hasB_yes {s : ByteArray} {c : Int} {i : Nat} (h : i < s.size) (hc : (txt s).getD i 0 = c) : hasB s c = true := by
  unfold hasB
  rw [List.contains_iff_mem, ← hc]
  have hl : i < (txt s).length := by rw [txt_length]; exact h
  rw [List.getD, List.getElem?_eq_getElem hl]
  exact List.getElem_mem hl
theorem hasB_no {s : ByteArray} {c : Int} (h : ∀ i, i < s.size → (txt s).getD i 0 ≠ c) : hasB s c = false := by
  unfold hasB
  rw [Bool.eq_false_iff]
  intro hm
  rw [List.contains_iff_mem] at hm
  obtain ⟨i, hi, e⟩ := List.getElem_of_mem hm
  apply h i (by rw [← txt_length]; exact hi)
  rw [List.getD, List.getElem?_eq_getElem hi]
  exact e

set_option maxHeartbeats 1000000 in
theorem l4Takes_none (s : ByteArray) (c : Int) (w : World) (hs : s.size ≤ maxLen) :
    Calls Try.prog 102 #[.int .i64 0, .string s, .int .u8 c] w fun e w' => e = .returned (.bool (hasB s c)) ∧ w' = w := by
  unfold maxLen at hs
  have HY := Hid.mk (fun i h hc => hasB_yes (s := s) (c := c) (i := i) h hc)
  have HN := Hid.mk (fun h => hasB_no (s := s) (c := c) h)
  generalize hasB s c = r at *
  go_enter Try.func102, Try.ntmps102
  go_wp2
  go_loop [7] (fun i => ∃ k : Nat, i = .int .i64 k ∧ k ≤ s.size ∧ Hid (∀ j, j < k → (txt s).getD j 0 ≠ c)) (fun i => s.size - (intOf i).toNat)
  case atStart => exact ⟨0, rfl, Nat.zero_le _, fun j hj => by omega⟩
  case round =>
    obtain ⟨k, rfl, hk, HJ⟩ := hrel
    by_cases hlt : k < s.size
    · have hc := byte_at6 s k hlt
      have hki : (k : Int) < (s.size : Int) := by omega
      by_cases he : ((s[k].toNat : Nat) : Int) = c
      · have hr : r = true := HY.out k hlt (by rw [← hc]; exact he)
        have he' : (((s[k].toNat : Nat) : Int) == c) = true := by simp [he]
        subst hr
        clear hc HY HN he
        go_wp2
        go_ret
        exact ⟨rfl, rfl⟩
      · have he' : (((s[k].toNat : Nat) : Int) == c) = false := by simp [he]
        have HJ2 : Hid (∀ j, j < k + 1 → (txt s).getD j 0 ≠ c) := by
          intro j hj
          by_cases e : j = k
          · subst e; rw [← hc]; exact he
          · exact HJ.out j (by omega)
        clear hc he HY HN
        go_wp2
        go_round
        case rel => exact ⟨k + 1, by go_num, by omega, HJ2⟩
        case measure => simp [intOf]; omega
    · have hr : r = false := HN.out (fun i hi => HJ.out i (by omega))
      subst hr
      clear HY HN
      go_wp2
      go_ret
      exact ⟨rfl, rfl⟩

def ren137n : Go.Shelf.Ren := ⟨fun | 137 => 119 | 217 => 126 | 266 => 146 | n => n, fun | 9 => 9 | 5 => 5 | 3 => 3 | n => n, fun | n => n⟩
theorem lays137n : Go.Proofs.Lays.n137 Try.prog ren137n := {
  mixed := by kernel_rfl
  f137 := Try.func119.trans (congrArg some (by kernel_rfl))
  f217 := Try.func126.trans (congrArg some (by kernel_rfl))
  f266 := Try.func146.trans (congrArg some (by kernel_rfl))
  t3 := Try.underlying3
  a3 := Try.isAgg3
  z3 := Try.sizeOf3
  v3 := Try.zeroValue3
  t5 := Try.underlying5
  a5 := Try.isAgg5
  z5 := Try.sizeOf5
  v5 := Try.zeroValue5
  t9 := Try.underlying9
  a9 := Try.isAgg9
  z9 := Try.sizeOf9
  v9 := Try.zeroValue9 }
theorem indexByteN_any (s : ByteArray) (c : Int) (w : World) :
    Calls Try.prog 119 #[.string s, .int .u8 c] w fun e w' => e = .returned (.int .i64 (Lib.indexByte s.data.toList c.toNat.toUInt8)) ∧ w' = w := Any.strings_IndexByte lays137n s c w
theorem indexB_has (s : ByteArray) (c : Int) (h0 : 0 ≤ c) (h1 : c ≤ 255) : decide (0 ≤ Lib.indexByte s.data.toList c.toNat.toUInt8) = hasB s c := by
  have hcc : ((c.toNat.toUInt8).toNat : Int) = c := by
    rw [Nat.toUInt8, UInt8.toNat_ofNat']
    omega
  have hl : s.data.toList.length = s.size := by rw [Array.length_toList]; rfl
  by_cases h : Lib.indexByte s.data.toList c.toNat.toUInt8 = -1
  · rw [h]
    symm
    apply hasB_no
    intro i hi e
    have := Lib.indexByte_none h i
    apply this
    have hi' : i < s.data.toList.length := by omega
    rw [List.getElem?_eq_getElem hi']
    congr 1
    rw [← byte_at6 s i hi] at e
    apply UInt8.toNat_inj.1
    have : (s.data.toList[i].toNat : Int) = (s[i].toNat : Int) := by simp; rfl
    omega
  · have hge : 0 ≤ Lib.indexByte s.data.toList c.toNat.toUInt8 := by
      have hge : ∀ l : List UInt8, ∀ b, -1 ≤ Lib.indexByte l b := by
        intro l b
        induction l with
        | nil => simp [Lib.indexByte]
        | cons x r ih =>
          rw [Lib.indexByte]
          split
          · omega
          · split <;> omega
      have := hge s.data.toList c.toNat.toUInt8
      omega
    obtain ⟨o, ho⟩ := Int.eq_ofNat_of_zero_le hge
    have hso := (Lib.indexByte_some ho).1
    have hi' : o < s.data.toList.length := (List.getElem?_eq_some_iff.1 hso).1
    rw [List.getElem?_eq_getElem hi'] at hso
    rw [decide_eq_true hge]
    symm
    apply hasB_yes (i := o) (by omega)
    rw [← byte_at6 s o (by omega), ← hcc]
    have := Option.some.inj hso
    rw [← this]
    simp
    rfl

theorem hasB_one {s : ByteArray} {c : Int} (h : s.size = 1) : hasB s c = ((txt s).getD 0 0 == c) := by
  by_cases e : (txt s).getD 0 0 = c
  · rw [hasB_yes (i := 0) (by omega) e]
    symm
    rw [beq_iff_eq]
    exact e
  · rw [hasB_no (fun i hi => by obtain rfl : i = 0 := by omega
                                exact e)]
    symm
    rw [beq_eq_false_iff_ne]
    exact e
set_option maxHeartbeats 1000000 in
theorem nodeTakes_any (x : Nd) (n b o : Nat) (c : Int) (w : World) (h : At4 w b o x) (hok : okNd x n = true) (hs : x.s.size ≤ maxLen) (h0 : 0 ≤ c) (h1 : c ≤ 255) :
    Calls Try.prog 103 #[.pointer (some ⟨b, o, none⟩), .int .u8 c] w fun e w' => e = .returned (.bool (tkB x c)) ∧ w' = w := by
  obtain ⟨c0, c1, -, -⟩ := h
  unfold maxLen at hs
  have HI := Hid.mk (indexByteN_any x.s c w)
  have HE := Hid.mk (indexB_has x.s c h0 h1)
  unfold tkB
  obtain ⟨k, s, xa, xb⟩ := x
  simp only at *
  by_cases hk1 : k = 1
  · subst hk1
    have hsz : s.size = 1 := by
      unfold okNd at hok
      simp only [if_true, Bool.and_eq_true] at hok
      simpa using hok.1.1
    have e2 : ((1 : Int) == 2) = false := rfl
    have e1 : ((1 : Int) == 1) = true := rfl
    have hlt' : 0 < s.size := by omega
    rw [e2, e1, Bool.true_or, Bool.true_and, Bool.false_or, hasB_one hsz, ← byte_at6 s 0 hlt']
    have hs1 : ((s.size : Int) == 1) = true := by simp [hsz]
    have hlt : (0 : Int) < (s.size : Int) := by omega
    clear HI HE hok hsz
    go_enter Try.func103, Try.ntmps103
    go_wp2
    go_ret
    exact ⟨rfl, rfl⟩
  · have e1 : (k == 1) = false := by simp [hk1]
    by_cases hk2 : k = 2
    · subst hk2
      have e2 : ((2 : Int) == 2) = true := rfl
      rw [e2, Bool.true_or]
      clear HI HE hok
      go_enter Try.func103, Try.ntmps103
      go_wp2
      go_ret
      exact ⟨rfl, rfl⟩
    · have e2 : (k == 2) = false := by simp [hk2]
      by_cases hk3 : k = 3
      · subst hk3
        have e3 : ((3 : Int) == 3) = true := rfl
        rw [e2, e1, e3, Bool.false_or, Bool.false_or, Bool.true_and, ← HE.out]
        clear HE hok
        generalize Lib.indexByte s.data.toList c.toNat.toUInt8 = z at *
        go_enter Try.func103, Try.ntmps103
        go_wp2_with fail
        refine HI.out.mono ?_
        rintro e w1 ⟨rfl, hw1⟩
        obtain rfl := hw1.symm
        clear hw1 HI
        go_wp2
        go_ret
        exact ⟨rfl, rfl⟩
      · have e3 : (k == 3) = false := by simp [hk3]
        rw [e2, e1, e3]
        clear HI HE hok
        go_enter Try.func103, Try.ntmps103
        go_wp2
        go_ret
        exact ⟨rfl, rfl⟩

/-- One of these nodes is the end. -/
def dnB (N : List Nd) (l : List Int) : Bool := l.any fun i => (N.getD i.toNat default).k == 7
set_option maxHeartbeats 1000000 in
theorem anyDone_any (N : List Nd) (B : Nat → Prop) (v u : Value) (l : List Int) (w : World) (h : Nl w B N v) (hl : Iz w u l) (hin : ∀ i ∈ l, 0 ≤ i ∧ i < (N.length : Int)) :
    Calls Try.prog 67 #[v, u] w fun e w' => e = .returned (.bool (dnB N l)) ∧ w' = w := by
  obtain ⟨ao, cap, rfl, hn1, hm, -, -, hc⟩ := h
  obtain ⟨lo, lc, rfl, hl1, hlm, -, hlc⟩ := hl
  unfold maxLen at hm hlm
  have HC := Hid.mk hc
  have HLC := Hid.mk hlc
  have HIN := Hid.mk hin
  have HY : Hid (∀ k (h : k < l.length), (N.getD (l[k]).toNat default).k = 7 → dnB N l = true) := fun k h e => by
    unfold dnB
    rw [List.any_eq_true]
    exact ⟨l[k], List.getElem_mem h, beq_iff_eq.2 e⟩
  have HN : Hid ((∀ k (h : k < l.length), (N.getD (l[k]).toNat default).k ≠ 7) → dnB N l = false) := fun h => by
    unfold dnB
    rw [List.any_eq_false]
    intro x hx
    obtain ⟨k, hk, rfl⟩ := List.getElem_of_mem hx
    rw [beq_iff_eq]
    exact h k hk
  generalize dnB N l = r at *
  clear hc hlc hin
  go_enter Try.func67, Try.ntmps67
  go_wp2
  go_loop [9] (fun i => ∃ k : Nat, i = .int .i64 k ∧ k ≤ l.length ∧ Hid (∀ j (h : j < l.length), j < k → (N.getD (l[j]).toNat default).k ≠ 7)) (fun i => l.length - (intOf i).toNat)
  case atStart => exact ⟨0, rfl, Nat.zero_le _, fun j _ hj => by omega⟩
  case round =>
    obtain ⟨k, rfl, hk, HJ⟩ := hrel
    by_cases hlt : k < l.length
    · obtain ⟨lb, lof, rfl, hlcell⟩ := HLC.out (by intro h0; rw [h0] at hlt; simp at hlt)
      have hl0 := hlcell k hlt
      rw [List.getD, List.getElem?_eq_getElem hlt, Option.getD_some] at hl0
      obtain ⟨hi0, hi1⟩ := HIN.out l[k] (List.getElem_mem hlt)
      obtain ⟨m, hm'⟩ := Int.eq_ofNat_of_zero_le hi0
      rw [hm'] at hl0 hi1
      have hmn : m < N.length := by omega
      obtain ⟨b, off, rfl, _, hcell⟩ := HC.out (by intro h0; rw [h0] at hmn; simp at hmn)
      have h4 := (hcell m hmn).1
      have eN : N.getD (l[k]).toNat default = N[m] := by
        rw [hm', Int.toNat_natCast, List.getD, List.getElem?_eq_getElem hmn]
        rfl
      have hki : (k : Int) < (l.length : Int) := by omega
      have HY' := Hid.mk (HY.out k hlt)
      rw [eN] at HY'
      have HJ2 : Hid (N[m].k ≠ 7 → ∀ j (h : j < l.length), j < k + 1 → (N.getD (l[j]).toNat default).k ≠ 7) := by
        intro hne j hj hjk
        by_cases e : j = k
        · subst e; rw [eN]; exact hne
        · exact HJ.out j hj (by omega)
      generalize N[m].k = nk at h4 HY' HJ2
      clear hlcell hcell eN hm' HC HLC HIN HY
      by_cases he : nk = 7
      · have hr : r = true := HY'.out he
        subst hr
        subst he
        go_wp2
        go_ret
        exact ⟨rfl, rfl⟩
      · have he' : (nk == 7) = false := by simp [he]
        have HJ3 := Hid.mk (HJ2.out he)
        clear he
        go_wp2
        go_round
        case rel => exact ⟨k + 1, by go_num, by omega, HJ3⟩
        case measure => simp [intOf]; omega
    · have hr : r = false := HN.out (fun j hj => HJ.out j hj (by omega))
      subst hr
      clear HY HN
      go_wp2
      go_ret
      exact ⟨rfl, rfl⟩
end Go.Proofs.Yteomhjoodnjfbaa
