/- Names, no two alike: the program's noTwoAlike, the library's slices.Contains; each name asked; the functions' names. Which programs are right: the model's l10Params and ProgOk. Names: each is asked by NameOk. Functions: each is asked by fnOk; their names. A program that is right: the program's ProgOk says so. How great rules, functions and programs are: the laws' own functions. A copy of a slice of texts, by the laws' own function. Copies of rules, functions and programs, in new blocks: the laws' own functions. Whether two statements are the same, by the laws' own function: two that read the same tree are. Whether two rules, functions, programs are the same, by the laws' own functions: two that read the same are. How great the texts within a term are, against the term. How great the texts within a statement are, against the statement. The law FnExactProgOk walked, but for the program's own function, whose answer is handed in. What is read as data reads as texts, rules, functions. A struct of six fields among the arguments, opened. FnExactProgOk walked: the program's own function is met by its contract. -/
import Derived.Test.YtgigalcajgjpnaaGreatPk3
import Derived.Test.YtgigalcajgjpnaaGreatPk4
import Derived.Test.YtgigalcajgjpnaaGreatQuietS
import Derived.Test.YtgigalcajgjpnaaGreatExWord
import Derived.Test.YtgigalcajgjpnaaGreatPk2
import Derived.Lib.QuietBelow
import Derived.Test.YtgigalcajgjpnaaGreatTake
import Derived.WalkKit
import Derived.ProofKit
import Derived.OpenShut
import Derived.ChangeOld
import Derived.Test.YtgigalcajgjpnaaGreatStTree
namespace Go.Proofs.YtgigalcajgjpnaaGreat
open Go.RowKit
set_option maxRecDepth 8000
set_option linter.unusedSimpArgs false

/-- The texts as cells. -/
def TbC (w : World) (b off : Nat) (xs : List ByteArray) : Prop := ∀ j (h : j < xs.length), w.cell? ⟨b, off + j, none⟩ = some (.string xs[j])

set_option maxHeartbeats 4000000 in
theorem slicesIndex_any (xs : List ByteArray) (ao : Option Addr) (cap : Nat) (s : ByteArray) (w : World) (hc : xs ≠ [] → ∃ b off, ao = some ⟨b, off, none⟩ ∧ TbC w b off xs) (h1 : xs.length ≤ cap) (h2 : cap ≤ 9223372036854775807) :
    Calls Tryz.prog 79 #[.slice ao xs.length cap, .string s] w fun e w' => ∃ m : Int, e = .returned (.int .i64 m) ∧ decide (0 ≤ m) = hasT xs s ∧ w' = w := by
  have HC := Hid.mk hc
  clear hc
  obtain ⟨n, hn⟩ : ∃ n, xs.length = n := ⟨_, rfl⟩
  rw [hn] at h1 ⊢
  have HN := Hid.mk hn
  clear hn
  have HY := Hid.mk (fun (k : Nat) (h : k < xs.length) (hk : (xs[k].toList == s.toList) = true) => hasT_yes h hk)
  have HO := Hid.mk (fun (h : ∀ j (hj : j < xs.length), (xs[j].toList == s.toList) = false) => hasT_no h)
  obtain ⟨R, hR⟩ : ∃ R, hasT xs s = R := ⟨_, rfl⟩
  rw [hR] at HY HO ⊢
  clear hR
  go_enter Tryz.func79, Tryz.ntmps79
  go_wp2
  go_loopw [8] (fun i wr => ∃ k : Nat, k ≤ n ∧ i = .int .i64 k ∧ Hid (∀ j (hj : j < xs.length), j < k → (xs[j].toList == s.toList) = false) ∧ wr = w) (fun i _ => n - (intOf i).toNat)
  case atStart => exact ⟨0, Nat.zero_le _, rfl, fun j _ h => absurd h (Nat.not_lt_zero j), rfl⟩
  case round =>
    obtain ⟨k, hk, rfl, Ho, rfl⟩ := hrel
    by_cases hkl : k < n
    · have hi1 : (k : Int) < n := by omega
      have hkx : k < xs.length := by rw [HN.out]; exact hkl
      obtain ⟨b, off, rfl, hcl⟩ := HC.out (by rintro rfl; simp at hkx)
      have hck := hcl k hkx
      have HY1 := Hid.mk (HY.out k hkx)
      have HO1 : Hid ((xs[k].toList == s.toList) = false → ∀ j (hj : j < xs.length), j < k + 1 → (xs[j].toList == s.toList) = false) := by
        intro h j hj hj1
        by_cases e : j < k
        · exact Ho.out j hj e
        · obtain rfl : j = k := by omega
          exact h
      obtain ⟨x, hx⟩ : ∃ x, xs[k] = x := ⟨_, rfl⟩
      rw [hx] at hck HY1 HO1
      clear hx hkx hcl
      by_cases he : x = s
      · have hb : (s.toList == x.toList) = true := by rw [he]; simp
        have HR : Hid (R = true) := (HY1.out (by rw [he]; simp)).symm ▸ rfl
        have HK0 : Hid ((0 : Int) ≤ k) := Hid.mk (by omega)
        clear he HY1 HO1 Ho
        go_wp2
        go_ret
        exact ⟨k, rfl, by rw [HR.out]; exact decide_eq_true HK0.out, rfl⟩
      · have hb : (s.toList == x.toList) = false := by have := txt_bne (Ne.symm he); simpa [bne] using this
        have HO2 := Hid.mk (HO1.out (by have := txt_bne he; simpa [bne] using this))
        clear he HY1 HO1 Ho
        go_wp2
        go_roundw
        case measure => simp [intOf]; omega
        case rel => exact ⟨k + 1, by omega, rfl, HO2, by first | rfl | trivial⟩
    · obtain rfl : k = n := by omega
      have hi1 : ¬ ((k : Int) < (k : Int)) := by omega
      have HR : Hid (R = false) := (HO.out fun j hj => Ho.out j hj (by rw [← HN.out]; exact hj)).symm ▸ rfl
      go_wp2
      go_ret
      exact ⟨-1, rfl, by rw [HR.out]; rfl, rfl⟩

theorem slicesContains_any (xs : List ByteArray) (ao : Option Addr) (cap : Nat) (s : ByteArray) (w : World) (hc : xs ≠ [] → ∃ b off, ao = some ⟨b, off, none⟩ ∧ TbC w b off xs) (h1 : xs.length ≤ cap) (h2 : cap ≤ 9223372036854775807) :
    Calls Tryz.prog 48 #[.slice ao xs.length cap, .string s] w fun e w' => e = .returned (.bool (hasT xs s)) ∧ w' = w := by
  have HI := Hid.mk (slicesIndex_any xs ao cap s w hc h1 h2)
  clear hc
  obtain ⟨R, hR⟩ : ∃ R, hasT xs s = R := ⟨_, rfl⟩
  rw [hR] at HI ⊢
  clear hR
  obtain ⟨n, hn⟩ : ∃ n, xs.length = n := ⟨_, rfl⟩
  rw [hn] at HI h1 ⊢
  clear hn
  go_enter Tryz.func48, Tryz.ntmps48
  go_wp2_with fail
  refine HI.out.mono ?_
  rintro e w' ⟨m, rfl, hm, rfl⟩
  have HM := Hid.mk hm
  clear hm HI
  by_cases h0 : 0 ≤ m
  · have HR : Hid (R = true) := by have := HM.out; rw [decide_eq_true h0] at this; exact this.symm
    have hd : decide (0 ≤ m) = true := decide_eq_true h0
    go_wp2
    go_ret
    have hr := HR.out
    subst hr
    exact ⟨rfl, rfl⟩
  · have HR : Hid (R = false) := by have := HM.out; rw [decide_eq_false h0] at this; exact this.symm
    have hd : decide (0 ≤ m) = false := decide_eq_false h0
    go_wp2
    go_ret
    have hr := HR.out
    subst hr
    exact ⟨rfl, rfl⟩

open Classical in
/-- No two of these are alike. -/
noncomputable def noTwoB (l : List ByteArray) : Bool := decide (∀ i (h : i < l.length), hasT (l.take i) l[i] = false)
theorem noTwoB_iff {l : List ByteArray} : noTwoB l = true ↔ ∀ i (h : i < l.length), hasT (l.take i) l[i] = false := by simp [noTwoB]

set_option maxHeartbeats 4000000 in
theorem noTwoAlike_any (xs : List ByteArray) (ao : Option Addr) (cap : Nat) (w : World) (hc : xs ≠ [] → ∃ b off, ao = some ⟨b, off, none⟩ ∧ TbC w b off xs) (h1 : xs.length ≤ cap) (h2 : cap ≤ 9223372036854775807) :
    Calls Tryz.prog 25 #[.slice ao xs.length cap] w fun e w' => e = .returned (.bool (noTwoB xs)) ∧ w' = w := by
  have HC := Hid.mk hc
  clear hc
  have HI := Hid.mk (noTwoB_iff (l := xs))
  obtain ⟨R, hR⟩ : ∃ R, noTwoB xs = R := ⟨_, rfl⟩
  rw [hR] at HI ⊢
  clear hR
  obtain ⟨n, hn⟩ : ∃ n, xs.length = n := ⟨_, rfl⟩
  rw [hn] at h1 ⊢
  have HN := Hid.mk hn
  clear hn
  go_enter Tryz.func25, Tryz.ntmps25
  go_wp2
  go_loopw [7] (fun i wr => ∃ k : Nat, k ≤ n ∧ i = .int .i64 k ∧ Hid (∀ j (hj : j < xs.length), j < k → hasT (xs.take j) xs[j] = false) ∧ wr = w) (fun i _ => n - (intOf i).toNat)
  case atStart => exact ⟨0, Nat.zero_le _, rfl, fun j _ h => absurd h (Nat.not_lt_zero j), rfl⟩
  case round =>
    obtain ⟨k, hk, rfl, Ho, rfl⟩ := hrel
    by_cases hkl : k < n
    · have hi1 : (k : Int) < n := by omega
      have hi2 : (k : Int) ≤ cap := by omega
      have hi3 : k ≤ cap := by omega
      have hkx : k < xs.length := by rw [HN.out]; exact hkl
      obtain ⟨b, off, rfl, hcl⟩ := HC.out (by rintro rfl; simp at hkx)
      have hck := hcl k hkx
      have hlt : (xs.take k).length = k := by rw [List.length_take]; omega
      have HCT := Hid.mk (slicesContains_any (xs.take k) (some ⟨b, off, none⟩) cap xs[k] wr (fun _ => ⟨b, off, rfl, fun j hj => by rw [List.getElem_take]; exact hcl j (by omega)⟩) (by omega) h2)
      rw [hlt] at HCT
      have HO1 : Hid (hasT (xs.take k) xs[k] = false → ∀ j (hj : j < xs.length), j < k + 1 → hasT (xs.take j) xs[j] = false) := by
        intro h j hj hj1
        by_cases e : j < k
        · exact Ho.out j hj e
        · obtain rfl : j = k := by omega
          exact h
      have HNO : Hid (hasT (xs.take k) xs[k] = true → R = false) := by
        intro h
        cases R with
        | false => rfl
        | true => rw [HI.out.1 rfl k hkx] at h; cases h
      obtain ⟨r, hr⟩ : ∃ r, hasT (xs.take k) xs[k] = r := ⟨_, rfl⟩
      rw [hr] at HCT HO1 HNO
      obtain ⟨x, hx⟩ : ∃ x, xs[k] = x := ⟨_, rfl⟩
      rw [hx] at hck HCT
      clear hx hkx hcl hr hlt
      go_wp2_with fail
      refine HCT.out.mono ?_
      rintro e w' ⟨rfl, rfl⟩
      cases r with
      | true =>
        have HF := Hid.mk (HNO.out rfl)
        clear HO1 HNO HCT Ho
        go_wp2
        go_ret
        have hr := HF.out
        subst hr
        exact ⟨rfl, rfl⟩
      | false =>
        have HO2 := Hid.mk (HO1.out rfl)
        clear HO1 HNO HCT Ho
        go_wp2
        go_roundw
        case measure => simp [intOf]; omega
        case rel => exact ⟨k + 1, by omega, rfl, HO2, by first | rfl | trivial⟩
    · obtain rfl : k = n := by omega
      have hi1 : ¬ ((k : Int) < (k : Int)) := by omega
      have HT : Hid (R = true) := HI.out.2 fun j hj => Ho.out j hj (by rw [← HN.out]; exact hj)
      go_wp2
      go_ret
      have hr := HT.out
      subst hr
      exact ⟨rfl, rfl⟩
end Go.Proofs.YtgigalcajgjpnaaGreat

namespace Go.Proofs.YtgigalcajgjpnaaGreat
open Go.RowKit
set_option maxRecDepth 8000

theorem Tb.at' {w : World} {B : Nat → Prop} {ao : Option Addr} {n cap : Nat} {xs : List ByteArray} (h : Tb w B (.slice ao n cap) xs) (hne : xs ≠ []) : ∃ b off, ao = some ⟨b, off, none⟩ ∧ ∀ k (hk : k < xs.length), w.cell? ⟨b, off + k, none⟩ = some (.string xs[k]) := by
  obtain ⟨_, _, e, _, _, _, _, h6⟩ := h
  cases e
  obtain ⟨b, off, e, -, hc⟩ := h6 hne
  exact ⟨b, off, e, fun k hk => by rw [hc k hk]; simp [hk]⟩

set_option maxHeartbeats 2000000 in
theorem l10Params_any (l : List ByteArray) (B : Nat → Prop) (v : Value) (w : World) (h : Tb w B v l) :
    Calls Tryz.prog 17 #[v] w fun e w' => e = .returned (.bool (paramsB l)) ∧ Below w.heap.size w w' := by
  have HR0 : Hid (paramsB l = true ↔ (∀ i (h : i < l.length), nmB l[i] = true ∧ hasT (l.take i) l[i] = false) ∧ l.length ≤ 4) := paramsB_iff
  obtain ⟨R, hR⟩ : ∃ R, paramsB l = R := ⟨_, rfl⟩
  rw [hR] at HR0 ⊢
  clear hR
  obtain ⟨ao, cap, rfl, hl1, hl2, hl3⟩ := h.len
  have hm : cap ≤ 9223372036854775807 := by unfold maxLen at hl2; omega
  have HSZ : Hid (∀ s ∈ l, s.size ≤ maxLen) := by obtain ⟨_, _, _, _, _, _, h, _⟩ := h; exact h
  have HH := Hid.mk h
  clear h hl2
  go_enter Tryz.func17, Tryz.ntmps17
  go_wp2
  go_loopw [3] (fun i wr => ∃ (k1 : Nat), k1 ≤ l.length ∧ i = .int .i64 k1 ∧ Hid (∀ j (hj : j < l.length), j < k1 → nmB l[j] = true ∧ hasT (l.take j) l[j] = false) ∧ Below w.heap.size w wr) (fun i _ => l.length - (intOf i).toNat)
  case atStart => exact ⟨0, Nat.zero_le _, rfl, fun j _ hj => absurd hj (Nat.not_lt_zero j), Below.refl _ _⟩
  case round =>
    obtain ⟨k1, hk, rfl, Ho, hbel⟩ := hrel
    by_cases hkl : k1 < l.length
    · have hi1 : (k1 : Int) < (l.length : Int) := by omega
      obtain ⟨b, off, rfl, hel⟩ := HH.out.at' (by intro hn; rw [hn] at hkl; simp at hkl)
      have hz := HSZ.out _ (List.getElem_mem hkl)
      have hcell := hel k1 hkl
      have hlt := World.block_lt_of_cell? w _ hcell
      have c0 : wr.cell? ⟨b, off + k1, none⟩ = some (.string l[k1]) := by rw [hbel.cell (p := ⟨b, off + k1, none⟩) hlt]; exact hcell
      have cN := Hid.mk (fun d os => Calls.regrown_of (w := wr) (d := d) (os := os) (specNameOk_any l[k1] _ hz))
      have cH := Hid.mk (fun d os => Calls.regrown_of (w := wr) (d := d) (os := os) ((hasT_any (l.take k1) b off k1 cap l[k1] _ (fun j hj => by
        have hj' : j < l.length := by simp at hj; omega
        rw [((hbel.trans ((below_regrown wr d os).mono hbel.size))).cell (p := ⟨b, off + j, none⟩) hlt, hel j hj', List.getElem_take]) (by simp; omega) (by omega) hm).mono (fun e w' h => ⟨h.1, by rw [h.2]; exact Below.refl _ _⟩)))
      have HNO : Hid (¬ (nmB l[k1] = true ∧ hasT (l.take k1) l[k1] = false) → R = false) := by
        intro hne
        cases R with
        | false => rfl
        | true => exact absurd ((HR0.out.1 rfl).1 k1 hkl) hne
      have HO2 : Hid ((nmB l[k1] = true ∧ hasT (l.take k1) l[k1] = false) → ∀ j (hj : j < l.length), j < k1 + 1 → nmB l[j] = true ∧ hasT (l.take j) l[j] = false) := by
        intro hne j hj hj1
        by_cases hj2 : j < k1
        · exact Ho.out j hj hj2
        · obtain rfl : j = k1 := by omega
          exact hne
      generalize hasT (l.take k1) l[k1] = ht at cH HNO HO2
      generalize nmB l[k1] = nb at cN HNO HO2
      generalize l[k1] = z at c0 cN cH
      have a0 := cell_regrown c0
      have hk1c : (k1 : Int) ≤ (cap : Int) := by omega
      clear hel hcell c0 hz HR0
      cases nb with
      | false =>
        have HG : Hid (R = false) := HNO.out (by simp)
        clear HNO HO2 Ho HH HSZ cH
        go_wp2_with fail
        refine wp_region_quiet_below (by kernel_rfl) (by kernel_rfl) (Qt.out ?_)
        refine Qt.step (fun K hK => ?_)
        go_simp
        refine hK _ ?_
        clear hK K
        refine Qt.step (fun K hK => ?_)
        go_simp
        refine hK _ ?_
        clear hK K
        refine Qt.step (fun K hK => ?_)
        go_simp
        refine hK _ ?_
        clear hK K
        refine Qt.step (fun K hK => ?_)
        go_simp
        refine hK _ ?_
        clear hK K
        refine Qt.step (fun K hK => ?_)
        go_simp
        apply Exists.intro
        refine ⟨fun _ => ?_, hK _ ?_⟩
        exact cN.out _ _
        clear hK K
        refine Qt.step (fun K hK => ?_)
        go_simp
        refine hK _ ?_
        clear hK K
        refine Qt.step (fun K hK => ?_)
        go_simp
        refine hK _ ?_
        clear hK K
        refine Qt.step (fun K hK => ?_)
        go_simp
        refine hK _ ?_
        clear hK K
        refine Qt.step (fun K hK => ?_)
        go_simp
        refine hK _ ?_
        clear hK K
        refine Qt.step (fun K hK => ?_)
        go_simp
        refine hK _ ?_
        clear hK K
        refine Qt.step (fun K hK => ?_)
        go_simp
        refine hK _ ?_
        clear hK K
        refine Qt.step (fun K hK => ?_)
        go_simp
        refine hK _ ?_
        clear hK K
        refine Qt.step (fun K hK => ?_)
        go_simp
        refine hK _ ?_
        clear hK K
        refine Qt.step (fun K hK => ?_)
        go_simp
        refine hK _ ?_
        clear hK K
        refine Qt.step (fun K hK => ?_)
        go_simp
        refine hK _ ?_
        clear hK K
        refine Qt.step (fun K hK => ?_)
        go_simp
        refine hK _ ?_
        clear hK K
        refine Qt.nil ?_
        intro w6 hw'
        obtain ⟨⟨dq, osq⟩, hw''⟩ := hw'
        have hb6 : Below wr.heap.size wr w6 := by rw [hw'']; exact below_regrown _ _ _
        have B6 := hbel.trans (hb6.mono hbel.size)
        clear hw'' a0 cN hb6
        go_wp2
        go_ret
        exact ⟨ret_tb HG.out.symm, B6⟩
      | true =>
        cases ht with
        | true =>
          have HG : Hid (R = false) := HNO.out (by simp)
          clear HNO HO2 Ho HH HSZ
          go_wp2_with fail
          refine wp_region_quiet_below (by kernel_rfl) (by kernel_rfl) (Qt.out ?_)
          refine Qt.step (fun K hK => ?_)
          go_simp
          refine hK _ ?_
          clear hK K
          refine Qt.step (fun K hK => ?_)
          go_simp
          refine hK _ ?_
          clear hK K
          refine Qt.step (fun K hK => ?_)
          go_simp
          refine hK _ ?_
          clear hK K
          refine Qt.step (fun K hK => ?_)
          go_simp
          refine hK _ ?_
          clear hK K
          refine Qt.step (fun K hK => ?_)
          go_simp
          apply Exists.intro
          refine ⟨fun _ => ?_, hK _ ?_⟩
          exact cN.out _ _
          clear hK K
          refine Qt.step (fun K hK => ?_)
          go_simp
          refine hK _ ?_
          clear hK K
          refine Qt.step (fun K hK => ?_)
          go_simp
          refine hK _ ?_
          clear hK K
          refine Qt.step (fun K hK => ?_)
          go_simp
          refine hK _ ?_
          clear hK K
          refine Qt.step (fun K hK => ?_)
          go_simp
          refine hK _ ?_
          clear hK K
          refine Qt.step (fun K hK => ?_)
          go_simp
          refine hK _ ?_
          clear hK K
          refine Qt.step (fun K hK => ?_)
          go_simp
          refine hK _ ?_
          clear hK K
          refine Qt.step (fun K hK => ?_)
          go_simp
          refine hK _ ?_
          clear hK K
          refine Qt.step (fun K hK => ?_)
          go_simp
          refine hK _ ?_
          clear hK K
          refine Qt.step (fun K hK => ?_)
          go_simp
          refine hK _ ?_
          clear hK K
          refine Qt.step (fun K hK => ?_)
          go_simp
          apply Exists.intro
          refine ⟨fun _ => ?_, hK _ ?_⟩
          exact cH.out _ _
          clear hK K
          refine Qt.step (fun K hK => ?_)
          go_simp
          refine hK _ ?_
          clear hK K
          refine Qt.nil ?_
          intro w6 hw'
          obtain ⟨⟨dq, osq⟩, hw''⟩ := hw'
          have hb6 : Below wr.heap.size wr w6 := by rw [hw'']; exact below_regrown _ _ _
          have B6 := hbel.trans (hb6.mono hbel.size)
          clear hw'' a0 cN cH hb6
          go_wp2
          go_ret
          exact ⟨ret_tb HG.out.symm, B6⟩
        | false =>
          have HO3 := Hid.mk (HO2.out ⟨rfl, rfl⟩)
          clear HNO HO2 Ho
          go_wp2_with fail
          refine wp_region_quiet_below (by kernel_rfl) (by kernel_rfl) (Qt.out ?_)
          refine Qt.step (fun K hK => ?_)
          go_simp
          refine hK _ ?_
          clear hK K
          refine Qt.step (fun K hK => ?_)
          go_simp
          refine hK _ ?_
          clear hK K
          refine Qt.step (fun K hK => ?_)
          go_simp
          refine hK _ ?_
          clear hK K
          refine Qt.step (fun K hK => ?_)
          go_simp
          refine hK _ ?_
          clear hK K
          refine Qt.step (fun K hK => ?_)
          go_simp
          apply Exists.intro
          refine ⟨fun _ => ?_, hK _ ?_⟩
          exact cN.out _ _
          clear hK K
          refine Qt.step (fun K hK => ?_)
          go_simp
          refine hK _ ?_
          clear hK K
          refine Qt.step (fun K hK => ?_)
          go_simp
          refine hK _ ?_
          clear hK K
          refine Qt.step (fun K hK => ?_)
          go_simp
          refine hK _ ?_
          clear hK K
          refine Qt.step (fun K hK => ?_)
          go_simp
          refine hK _ ?_
          clear hK K
          refine Qt.step (fun K hK => ?_)
          go_simp
          refine hK _ ?_
          clear hK K
          refine Qt.step (fun K hK => ?_)
          go_simp
          refine hK _ ?_
          clear hK K
          refine Qt.step (fun K hK => ?_)
          go_simp
          refine hK _ ?_
          clear hK K
          refine Qt.step (fun K hK => ?_)
          go_simp
          refine hK _ ?_
          clear hK K
          refine Qt.step (fun K hK => ?_)
          go_simp
          refine hK _ ?_
          clear hK K
          refine Qt.step (fun K hK => ?_)
          go_simp
          apply Exists.intro
          refine ⟨fun _ => ?_, hK _ ?_⟩
          exact cH.out _ _
          clear hK K
          refine Qt.step (fun K hK => ?_)
          go_simp
          refine hK _ ?_
          clear hK K
          refine Qt.nil ?_
          intro w6 hw'
          obtain ⟨⟨dq, osq⟩, hw''⟩ := hw'
          have hb6 : Below wr.heap.size wr w6 := by rw [hw'']; exact below_regrown _ _ _
          have B6 := hbel.trans (hb6.mono hbel.size)
          clear hw'' a0 cN cH hb6
          go_wp2
          go_roundw
          case rel => exact ⟨k1 + 1, by omega, by go_num, HO3, B6⟩
          case measure => simp [intOf]; omega
    · have e : k1 = l.length := by omega
      subst e
      have HE : Hid (decide ((l.length : Int) ≤ 4) = R) := by
        show _ = _
        by_cases h : l.length ≤ 4
        · rw [decide_eq_true (by omega), HR0.out.2 ⟨fun j hj => Ho.out j hj hj, h⟩]
        · rw [decide_eq_false (by omega)]
          cases R with
          | false => rfl
          | true => exact absurd (HR0.out.1 rfl).2 h
      clear Ho HR0 HH HSZ
      go_wp2
      go_ret
      exact ⟨ret_tb HE.out, hbel⟩

set_option maxHeartbeats 4000000 in
theorem specProgOk_any (p : Pg) (B : Nat → Prop) (x y : Value) (w : World) (hx : Ul w B p.r x) (hy : Fl w B p.f y) (hs : ShPg p) :
    Calls Tryz.prog 6 #[pgV x y] w fun e w' => e = .returned (.bool (progB p)) ∧ Below w.heap.size w w' := by
  have HR0 : Hid (progB p = true ↔ (∀ r ∈ p.r, ruleB r = true) ∧ (∀ i (h : i < p.f.length), FnP p.f i h) ∧ p.r.length ≤ 10 ∧ p.f.length ≤ 6) := progB_iff
  obtain ⟨R, hR⟩ : ∃ R, progB p = R := ⟨_, rfl⟩
  rw [hR] at HR0 ⊢
  clear hR
  have HFA := Hid.mk (fun (w' : World) (hw : Below w.heap.size w w') (s : ByteArray) => l10Fn_any p B x y s w' (by obtain ⟨a, c, e, -⟩ := hx.len; exact ⟨a, _, c, e⟩) (hy.grow hw))
  have HS := Hid.mk hs
  clear hs
  obtain ⟨xo, xc, rfl, hx1, hx2, -⟩ := hx.len
  obtain ⟨yo, yc, rfl, hy1, hy2, -⟩ := hy.len
  have hm1 : xc ≤ 9223372036854775807 := by unfold maxLen at hx2; omega
  have hm2 : yc ≤ 9223372036854775807 := by unfold maxLen at hy2; omega
  have H1 := Hid.mk hx
  have H2 := Hid.mk hy
  have HSR : Hid (∀ r ∈ p.r, ShRu r) := HS.out.1
  have HSF : Hid (∀ f ∈ p.f, ShFu f) := HS.out.2
  clear hx hy hx2 hy2 HS
  obtain ⟨ra, hra⟩ : ∃ q, p.r = q := ⟨_, rfl⟩
  obtain ⟨fa, hfa⟩ : ∃ q, p.f = q := ⟨_, rfl⟩
  rw [hra] at H1 HSR hx1 HFA HR0
  rw [hfa] at H2 HSF hy1 HFA HR0
  rw [hra, hfa]
  clear hra hfa
  have B0 : Below w.heap.size w (w.alloc (.cells #[.slice xo ra.length xc, .slice yo fa.length yc] 31)) := (Below.refl _ _).alloc (Nat.le_refl _) _
  have B01 : Below (w.heap.size + 1) (w.alloc (.cells #[.slice xo ra.length xc, .slice yo fa.length yc] 31)) (w.alloc (.cells #[.slice xo ra.length xc, .slice yo fa.length yc] 31)) := Below.refl _ _
  go_enter Tryz.func6, Tryz.ntmps6
  go_wp2
  go_loopw [3] (fun i wr => ∃ (k1 : Nat), k1 ≤ ra.length ∧ i = .int .i64 k1 ∧ Hid (∀ j (hj : j < ra.length), j < k1 → ruleB ra[j] = true) ∧ Below (w.heap.size + 1) (w.alloc (.cells #[.slice xo ra.length xc, .slice yo fa.length yc] 31)) wr) (fun i _ => ra.length - (intOf i).toNat)
  case atStart => exact ⟨0, Nat.zero_le _, rfl, fun j _ hj => absurd hj (Nat.not_lt_zero j), B01⟩
  case round =>
    obtain ⟨k1, hk, rfl, Ho, hbel⟩ := hrel
    have hc1 := fun o => hbel.cell (p := ⟨w.heap.size, o, none⟩) (by simp)
    have hbw := B0.trans (hbel.mono (by omega))
    have hs1 := hbel.size
    simp at hs1
    by_cases hkl : k1 < ra.length
    · have hi1 : (k1 : Int) < (ra.length : Int) := by omega
      obtain ⟨b, off, X, Y, rfl, hel⟩ := H1.out.elems (by intro hn; rw [hn] at hkl; simp at hkl)
      obtain ⟨h3, hx, hy, -⟩ := hel k1 hkl
      have hall : ShRu ra[k1] := HSR.out _ (List.getElem_mem hkl)
      have HNO : Hid (ruleB ra[k1] = false → R = false) := by
        intro hf
        cases R with
        | false => rfl
        | true => have := (HR0.out.1 rfl).1 _ (List.getElem_mem hkl); rw [hf] at this; cases this
      have HO2 : Hid (ruleB ra[k1] = true → ∀ j (hj : j < ra.length), j < k1 + 1 → ruleB ra[j] = true) := by
        intro hne j hj hj1
        by_cases hj2 : j < k1
        · exact Ho.out j hj hj2
        · obtain rfl : j = k1 := by omega
          exact hne
      obtain ⟨t, ht⟩ : ∃ t, ra[k1] = t := ⟨_, rfl⟩
      rw [ht] at h3 hx hy HNO HO2 hall
      clear ht hel
      obtain ⟨c0, c1, c2, c3, c4, c5⟩ := h3.kept (w' := wr) (hbw.block b (World.block_lt_of_cell? w _ h3.1))
      have cA := Hid.mk (l10Rule_any t B (X k1) (Y k1) wr (hx.grow hbw) (hy.grow hbw) hall)
      obtain ⟨ok, hok⟩ : ∃ ok, ruleB t = ok := ⟨_, rfl⟩
      rw [hok] at cA HNO HO2
      clear hx hy h3 hok hall
      cases ok with
      | false =>
        have HG := Hid.mk (HNO.out rfl)
        clear HNO HO2 Ho HR0 H1 H2 HSR HSF HFA
        go_wp2_with fail
        refine cA.out.mono ?_
        rintro e w2 ⟨rfl, hb2⟩
        have B3 := hbw.trans (hb2.mono hbw.size)
        clear hb2 cA
        go_wp2
        go_ret
        exact ⟨ret_tb HG.out.symm, B3⟩
      | true =>
        have HO3 := Hid.mk (HO2.out rfl)
        clear HNO HO2 Ho
        go_wp2_with fail
        refine cA.out.mono ?_
        rintro e w2 ⟨rfl, hb2⟩
        have B3 := hbel.trans (hb2.mono (by omega))
        clear hb2 cA
        go_wp2
        go_roundw
        case rel => exact ⟨k1 + 1, by omega, by go_num, HO3, B3⟩
        case measure => simp [intOf]; omega
    · have e : k1 = ra.length := by omega
      subst e
      have HRR : Hid (∀ r ∈ ra, ruleB r = true) := by
        intro r hr
        obtain ⟨j, hj, rfl⟩ := List.getElem_of_mem hr
        exact Ho.out j hj hj
      have HR1 : Hid (R = true ↔ (∀ i (h : i < fa.length), FnP fa i h) ∧ ra.length ≤ 10 ∧ fa.length ≤ 6) := by
        show _ ↔ _
        rw [HR0.out]
        exact ⟨fun h => h.2, fun h => ⟨HRR.out, h⟩⟩
      clear Ho HR0 HRR H1 HSR hkl hk
      go_wp2
      go_loopw [4] (fun i wr => ∃ (k1 : Nat), k1 ≤ fa.length ∧ i = .int .i64 k1 ∧ Hid (∀ j (hj : j < fa.length), j < k1 → FnP fa j hj) ∧ Below (w.heap.size + 1) (w.alloc (.cells #[.slice xo ra.length xc, .slice yo fa.length yc] 31)) wr) (fun i _ => fa.length - (intOf i).toNat)
      case atStart => exact ⟨0, Nat.zero_le _, rfl, fun j _ hj => absurd hj (Nat.not_lt_zero j), hbel⟩
      case round =>
        clear hc1 hbw hs1 hbel
        obtain ⟨k1, hk, rfl, Ho, hbel⟩ := hrel
        have hc1 := fun o => hbel.cell (p := ⟨w.heap.size, o, none⟩) (by simp)
        have hbw := B0.trans (hbel.mono (by omega))
        have hs1 := hbel.size
        simp at hs1
        by_cases hkl : k1 < fa.length
        · have hi1 : (k1 : Int) < (fa.length : Int) := by omega
          obtain ⟨b, off, X, Y, rfl, hel⟩ := H2.out.elems (by intro hn; rw [hn] at hkl; simp at hkl)
          obtain ⟨h3, hx, hy, hss⟩ := hel k1 hkl
          have hall : ShFu fa[k1] := HSF.out _ (List.getElem_mem hkl)
          have HNO : Hid (¬ FnP fa k1 hkl → R = false) := by
            intro hf
            cases R with
            | false => rfl
            | true => exact absurd ((HR1.out.1 rfl).1 k1 hkl) hf
          have HO2 : Hid (FnP fa k1 hkl → ∀ j (hj : j < fa.length), j < k1 + 1 → FnP fa j hj) := by
            intro hne j hj hj1
            by_cases hj2 : j < k1
            · exact Ho.out j hj hj2
            · obtain rfl : j = k1 := by omega
              exact hne
          have HP : Hid (FnP fa k1 hkl ↔ nmB fa[k1].n = true ∧ (∀ j (hj : j < k1), (fa[j].n.toList == fa[k1].n.toList) = false) ∧ paramsB fa[k1].ps = true ∧ bodyB fa[k1].a = true) := Iff.rfl
          have HM : Hid (∀ m, FnAt fa fa[k1].n m → (m = k1 ↔ ∀ j (hj : j < k1), (fa[j].n.toList == fa[k1].n.toList) = false)) := by
            intro m hm
            rcases hm with ⟨rfl, hn⟩ | ⟨i, hi, rfl, he, hn⟩
            · have := hn k1 hkl; simp at this
            · constructor
              · intro h j hj
                exact hn j (by omega)
              · intro h
                rcases Nat.lt_trichotomy i k1 with hlt | rfl | hgt
                · have := h i hlt; rw [he] at this; cases this
                · rfl
                · have := hn k1 hgt; simp at this
          obtain ⟨Q, hQ⟩ : ∃ Q : Prop, (∀ j (hj : j < k1), (fa[j].n.toList == fa[k1].n.toList) = false) = Q := ⟨_, rfl⟩
          rw [hQ] at HP HM
          clear hQ
          obtain ⟨P, hP⟩ : ∃ P : Prop, FnP fa k1 hkl = P := ⟨_, rfl⟩
          rw [hP] at HNO HO2 HP
          clear hP
          obtain ⟨t, ht⟩ : ∃ t, fa[k1] = t := ⟨_, rfl⟩
          rw [ht] at h3 hx hy hss HP HM hall
          clear ht hel
          obtain ⟨c0, c1, c2⟩ := h3.kept (w' := wr) (hbw.block b (World.block_lt_of_cell? w _ h3.1))
          have hblt : b < wr.heap.size := World.block_lt_of_cell? wr _ c0
          obtain ⟨po, pc, ep, -, -, -⟩ := hx.len
          obtain ⟨so, sc, es, -, -, -⟩ := hy.len
          have A1 : Hid (Below w.heap.size w (wr.alloc (.cells #[.string t.n, X k1, Y k1] 47))) := hbw.alloc (by omega) _
          have D1 : Hid (Below (w.heap.size + 1) (w.alloc (.cells #[.slice xo ra.length xc, .slice (some ⟨b, off, none⟩) fa.length yc] 31)) (wr.alloc (.cells #[.string t.n, X k1, Y k1] 47))) := hbel.alloc hs1 _
          have cN := Hid.mk (fun (w' : World) => specNameOk_any t.n w' hss)
          have cF := Hid.mk (fun (w' : World) (hw : Below w.heap.size w w') => HFA.out w' hw t.n)
          have cP := Hid.mk (fun (w' : World) (hw : Below w.heap.size w w') => l10Params_any t.ps B (X k1) w' (hx.grow hw))
          have cB := Hid.mk (fun (w' : World) (hw : Below w.heap.size w w') => l10Body_any t.a B (Y k1) w' (hy.grow hw) hall)
          rw [ep] at c1 cP A1 D1
          rw [es] at c2 cB A1 D1
          clear hx hy h3 ep es hss hall
          generalize nmB t.n = nb at cN HP
          generalize paramsB t.ps = pb at cP HP
          generalize bodyB t.a = bb at cB HP
          generalize t.n = n at c0 cN cF HM A1 D1
          generalize t.ps.length = pl at c1 cP A1 D1
          generalize t.a.length = al at c2 cB A1 D1
          have hne1 : w.heap.size ≠ wr.heap.size := by omega
          have hne2 : w.heap.size < wr.heap.size := by omega
          have HC : Hid (∀ w', Below (wr.heap.size + 1) (wr.alloc (.cells #[.string n, .slice po pl pc, .slice so al sc] 47)) w' → (∀ o, w'.cell? ⟨w.heap.size, o, none⟩ = (w.alloc (.cells #[.slice xo ra.length xc, .slice (some ⟨b, off, none⟩) fa.length yc] 31)).cell? ⟨w.heap.size, o, none⟩) ∧ ∀ o, w'.cell? ⟨wr.heap.size, o, none⟩ = (wr.alloc (.cells #[.string n, .slice po pl pc, .slice so al sc] 47)).cell? ⟨wr.heap.size, o, none⟩) := by
            intro w' hw
            refine ⟨fun o => ?_, fun o => hw.cell (p := ⟨wr.heap.size, o, none⟩) (by simp)⟩
            rw [hw.cell (p := ⟨w.heap.size, o, none⟩) (by show w.heap.size < _; omega)]
            exact D1.out.cell (p := ⟨w.heap.size, o, none⟩) (by simp)
          clear hbel hbw
          cases nb with
          | false =>
            have HG : Hid (R = false) := HNO.out fun p => by cases (HP.out.1 p).1
            clear HNO HO2 HP HM Ho HR1 H2 HSF HFA
            go_wp2_with fail
            refine (cN.out _).mono ?_
            rintro e w1 ⟨rfl, hbw1⟩
            have Ew1 : Hid (Below (wr.heap.size + 1) (wr.alloc (.cells #[.string n, .slice po pl pc, .slice so al sc] 47)) w1) := hbw1.mono (by simp)
            have Aw1 := Hid.mk (A1.out.trans (hbw1.mono (by simp; omega)))
            obtain ⟨xw1, yw1⟩ := HC.out w1 Ew1.out
            clear hbw1
            go_wp2
            go_ret
            exact ⟨ret_tb HG.out.symm, Aw1.out⟩
          | true =>
            go_wp2_with fail
            refine (cN.out _).mono ?_
            rintro e w1 ⟨rfl, hbw1⟩
            have Ew1 : Hid (Below (wr.heap.size + 1) (wr.alloc (.cells #[.string n, .slice po pl pc, .slice so al sc] 47)) w1) := hbw1.mono (by simp)
            have Aw1 := Hid.mk (A1.out.trans (hbw1.mono (by simp; omega)))
            obtain ⟨xw1, yw1⟩ := HC.out w1 Ew1.out
            clear hbw1
            go_wp2_with fail
            refine (cF.out _ Aw1.out).mono ?_
            rintro e w2 ⟨m, rfl, hm, hbw2⟩
            have Ew2 : Hid (Below (wr.heap.size + 1) (wr.alloc (.cells #[.string n, .slice po pl pc, .slice so al sc] 47)) w2) := Ew1.out.trans (hbw2.mono (by have := Ew1.out.size; simpa using this))
            have Aw2 := Hid.mk (Aw1.out.trans (hbw2.mono Aw1.out.size))
            obtain ⟨xw2, yw2⟩ := HC.out w2 Ew2.out
            clear hbw2
            by_cases hmk : m = (k1 : Int)
            case neg =>
              have hb : ((m : Int) != (k1 : Int)) = true := by rw [bne_iff_ne]; exact hmk
              have hb2 : ((m : Int) == (k1 : Int)) = false := by rw [beq_eq_false_iff_ne]; exact hmk
              have HG : Hid (R = false) := HNO.out fun p => hmk ((HM.out m hm).2 (HP.out.1 p).2.1)
              clear HNO HO2 HP HM Ho HR1 H2 HSF HFA
              clear hm hmk
              go_wp2
              go_ret
              exact ⟨ret_tb HG.out.symm, Aw2.out⟩
            have hb : ((m : Int) != (k1 : Int)) = false := by rw [hmk]; simp
            have hb2 : ((m : Int) == (k1 : Int)) = true := by rw [hmk]; simp
            cases pb with
            | false =>
              have HG : Hid (R = false) := HNO.out fun p => by cases (HP.out.1 p).2.2.1
              clear HNO HO2 HP HM Ho HR1 H2 HSF HFA
              go_wp2_with fail
              refine (cP.out _ Aw2.out).mono ?_
              rintro e w3 ⟨rfl, hbw3⟩
              have Ew3 : Hid (Below (wr.heap.size + 1) (wr.alloc (.cells #[.string n, .slice po pl pc, .slice so al sc] 47)) w3) := Ew2.out.trans (hbw3.mono (by have := Ew2.out.size; simpa using this))
              have Aw3 := Hid.mk (Aw2.out.trans (hbw3.mono Aw2.out.size))
              obtain ⟨xw3, yw3⟩ := HC.out w3 Ew3.out
              clear hbw3
              go_wp2
              go_ret
              exact ⟨ret_tb HG.out.symm, Aw3.out⟩
            | true =>
              cases bb with
              | false =>
                have HG : Hid (R = false) := HNO.out fun p => by cases (HP.out.1 p).2.2.2
                clear HNO HO2 HP HM Ho HR1 H2 HSF HFA
                go_wp2_with fail
                refine (cP.out _ Aw2.out).mono ?_
                rintro e w3 ⟨rfl, hbw3⟩
                have Ew3 : Hid (Below (wr.heap.size + 1) (wr.alloc (.cells #[.string n, .slice po pl pc, .slice so al sc] 47)) w3) := Ew2.out.trans (hbw3.mono (by have := Ew2.out.size; simpa using this))
                have Aw3 := Hid.mk (Aw2.out.trans (hbw3.mono Aw2.out.size))
                obtain ⟨xw3, yw3⟩ := HC.out w3 Ew3.out
                clear hbw3
                go_wp2_with fail
                refine (cB.out _ Aw3.out).mono ?_
                rintro e w4 ⟨rfl, hbw4⟩
                have Ew4 : Hid (Below (wr.heap.size + 1) (wr.alloc (.cells #[.string n, .slice po pl pc, .slice so al sc] 47)) w4) := Ew3.out.trans (hbw4.mono (by have := Ew3.out.size; simpa using this))
                have Aw4 := Hid.mk (Aw3.out.trans (hbw4.mono Aw3.out.size))
                obtain ⟨xw4, yw4⟩ := HC.out w4 Ew4.out
                clear hbw4
                go_wp2
                go_ret
                exact ⟨ret_tb HG.out.symm, Aw4.out⟩
              | true =>
                have HO3 := Hid.mk (HO2.out (HP.out.2 ⟨by first | rfl | trivial, (HM.out m hm).1 hmk, by first | rfl | trivial, by first | rfl | trivial⟩))
                clear HNO HO2 HP HM Ho hm hmk
                go_wp2_with fail
                refine (cP.out _ Aw2.out).mono ?_
                rintro e w3 ⟨rfl, hbw3⟩
                have Ew3 : Hid (Below (wr.heap.size + 1) (wr.alloc (.cells #[.string n, .slice po pl pc, .slice so al sc] 47)) w3) := Ew2.out.trans (hbw3.mono (by have := Ew2.out.size; simpa using this))
                have Aw3 := Hid.mk (Aw2.out.trans (hbw3.mono Aw2.out.size))
                obtain ⟨xw3, yw3⟩ := HC.out w3 Ew3.out
                clear hbw3
                go_wp2_with fail
                refine (cB.out _ Aw3.out).mono ?_
                rintro e w4 ⟨rfl, hbw4⟩
                have Ew4 : Hid (Below (wr.heap.size + 1) (wr.alloc (.cells #[.string n, .slice po pl pc, .slice so al sc] 47)) w4) := Ew3.out.trans (hbw4.mono (by have := Ew3.out.size; simpa using this))
                have Aw4 := Hid.mk (Aw3.out.trans (hbw4.mono Aw3.out.size))
                obtain ⟨xw4, yw4⟩ := HC.out w4 Ew4.out
                clear hbw4
                have D4 := D1.out.trans (Ew4.out.mono (by omega))
                go_wp2
                go_roundw
                case rel => exact ⟨k1 + 1, by omega, by go_num, HO3, D4⟩
                case measure => simp [intOf]; omega
        · have e : k1 = fa.length := by omega
          subst e
          have HG : Hid (R = (decide ((ra.length : Int) ≤ 10) && decide ((fa.length : Int) ≤ 6))) := by
            show _ = _
            rw [Bool.eq_iff_iff, HR1.out]
            simp only [Bool.and_eq_true, decide_eq_true_eq]
            constructor
            · intro h; omega
            · intro h; exact ⟨fun j hj => Ho.out j hj hj, by omega, by omega⟩
          clear Ho HR1 H2 HSF HFA
          by_cases h10 : (ra.length : Int) ≤ 10
          · rw [decide_eq_true h10, Bool.true_and] at HG
            go_wp2
            go_ret
            exact ⟨ret_tb HG.out.symm, hbw⟩
          · rw [decide_eq_false h10, Bool.false_and] at HG
            go_wp2
            go_ret
            exact ⟨ret_tb HG.out.symm, hbw⟩
end Go.Proofs.YtgigalcajgjpnaaGreat

namespace Go.Proofs.YtgigalcajgjpnaaGreat
open Go.RowKit
set_option maxRecDepth 8000
set_option linter.unusedSimpArgs false

set_option maxHeartbeats 4000000 in
theorem eachT_any (l : List ByteArray) (v : Value) (w : World) (h : Tb w (uf w) v l) (hs : ∀ s ∈ l, s.size ≤ maxLen) :
    Calls Tryz.prog 47 #[v, .func (.func 46) #[] #[]] w fun e w' => e = .returned (.bool (l.all nmB)) ∧ Below w.heap.size w w' := by
  obtain ⟨ao, cap, rfl, h1, h2, -⟩ := (show ∃ ao cap, v = .slice ao l.length cap ∧ l.length ≤ cap ∧ cap ≤ maxLen ∧ True from by obtain ⟨a, c, e, e1, e2, -⟩ := h; exact ⟨a, c, e, e1, e2, trivial⟩)
  have h3 : cap ≤ 9223372036854775807 := by unfold maxLen at h2; exact h2
  have HL := Hid.mk h
  have HS := Hid.mk hs
  clear h hs h2
  obtain ⟨n, hn⟩ : ∃ n, l.length = n := ⟨_, rfl⟩
  rw [hn] at h1 HL ⊢
  have HN := Hid.mk hn
  clear hn
  have HY : Hid ((∀ j (hj : j < l.length), nmB l[j] = true) → l.all nmB = true) := fun h => List.all_eq_true.2 fun x hx => by
    obtain ⟨j, hj, rfl⟩ := List.mem_iff_getElem.1 hx
    exact h j hj
  have HF : Hid (∀ j (hj : j < l.length), nmB l[j] = false → l.all nmB = false) := fun j hj h => by
    cases hq : l.all nmB with
    | false => rfl
    | true => rw [List.all_eq_true.1 hq _ (List.getElem_mem hj)] at h; cases h
  obtain ⟨R, hR⟩ : ∃ R, l.all nmB = R := ⟨_, rfl⟩
  rw [hR] at HY HF ⊢
  clear hR
  go_enter Tryz.func47, Tryz.ntmps47
  go_wp2
  go_loopw [9] (fun i wr => ∃ k : Nat, k ≤ n ∧ i = .int .i64 k ∧ Hid (∀ j (hj : j < l.length), j < k → nmB l[j] = true) ∧ Below w.heap.size w wr) (fun i _ => n - (intOf i).toNat)
  case atStart => exact ⟨0, Nat.zero_le _, rfl, fun j _ h => absurd h (Nat.not_lt_zero j), Below.refl _ _⟩
  case round =>
    obtain ⟨k, hk, rfl, Ho, hbel⟩ := hrel
    by_cases hkl : k < n
    · have hi1 : (k : Int) < n := by omega
      have hkx : k < l.length := by rw [HN.out]; exact hkl
      obtain ⟨b, off, rfl, hck0⟩ := Tb.at' (HL.out.grow hbel) (by rintro rfl; simp at hkx)
      have hck := hck0 k hkx
      clear hck0
      have HO1 : Hid (nmB l[k] = true → ∀ j (hj : j < l.length), j < k + 1 → nmB l[j] = true) := by
        intro h j hj hj1
        by_cases e : j < k
        · exact Ho.out j hj e
        · obtain rfl : j = k := by omega
          exact h
      have HF1 := Hid.mk (HF.out k hkx)
      have HSK := Hid.mk (HS.out _ (List.getElem_mem hkx))
      skip
      obtain ⟨x, hx⟩ : ∃ x, l[k] = x := ⟨_, rfl⟩
      rw [hx] at HO1 HF1 HSK hck
      clear hx hkx

      go_wp2_with fail
      refine (implNameOk_any x wr HSK.out).mono ?_
      rintro e w3 ⟨rfl, rfl⟩
      obtain ⟨r, hr⟩ : ∃ r, nmB x = r := ⟨_, rfl⟩
      rw [hr] at HO1 HF1 ⊢
      clear hr
      have HBE : Hid (Below w.heap.size w w3) := hbel
      clear hck hbel
      cases r with
      | false =>
        have HF2 := Hid.mk (HF1.out rfl)
        clear HO1 HF1 Ho
        go_wp2
        go_ret
        have hr := HF2.out
        subst hr
        exact ⟨rfl, HBE.out⟩
      | true =>
        have HO2 := Hid.mk (HO1.out rfl)
        clear HO1 HF1 Ho
        go_wp2
        go_roundw
        case measure => simp [intOf]; omega
        case rel => exact ⟨k + 1, by omega, rfl, HO2, HBE.out⟩
    · obtain rfl : k = n := by omega
      have hi1 : ¬ ((k : Int) < (k : Int)) := by omega
      have HT : Hid (R = true) := HY.out fun j hj => Ho.out j hj (by rw [← HN.out]; exact hj)
      go_wp2
      go_ret
      have hr := HT.out
      subst hr
      exact ⟨rfl, hbel⟩

end Go.Proofs.YtgigalcajgjpnaaGreat

namespace Go.Proofs.YtgigalcajgjpnaaGreat
open Go.RowKit
set_option maxRecDepth 8000
set_option linter.unusedSimpArgs false

theorem tbLen {w : World} {B : Nat → Prop} {l : List ByteArray} {v : Value} (h : Tb w B v l) : ∃ ao cap, v = .slice ao l.length cap := by obtain ⟨a, c, e, -⟩ := h; exact ⟨a, c, e⟩
theorem Tb.growU {w w' : World} {l : List ByteArray} {v : Value} (h : Tb w (uf w) v l) (hk : Below w.heap.size w w') : Tb w' (uf w') v l := (h.imp fun _ hb hlt => uf.grow hk hb hlt).grow hk
theorem Tb.c {w : World} {B : Nat → Prop} {ao : Option Addr} {n cap : Nat} {l : List ByteArray} (h : Tb w B (.slice ao n cap) l) : l ≠ [] → ∃ b off, ao = some ⟨b, off, none⟩ ∧ TbC w b off l := by
  intro hl
  obtain ⟨_, _, e, _, _, _, _, h6⟩ := h
  cases e
  obtain ⟨b, off, e, -, hc⟩ := h6 hl
  exact ⟨b, off, e, fun j hj => by rw [hc j hj]; simp [hj]⟩
theorem own_fullF {w : World} {e : TypeId} {g m : Nat} {xs : List Value} (h : w.ownsRow 0 e 1 (.slice (some ⟨g, 0, none⟩) m m) m xs) : w.heap[g]? = some (.cells xs.toArray e (0, 0)) := by
  rcases h.2 with ⟨h', _⟩ | ⟨g', cap', cur, h', hb, hg, hn, hm, hs, ht⟩
  · simp at h'
  · simp only [Value.slice.injEq, Option.some.injEq, Addr.mk.injEq, and_true, true_and] at h'
    obtain ⟨rfl, rfl⟩ := h'
    rw [hg]
    congr 2
    rw [← ht, List.take_of_length_le (by rw [Array.length_toList, hs]; exact Nat.le_refl _)]
/-- A function is right. -/
noncomputable def fnB (f : Fu) : Bool := nmB f.n && (decide (f.ps.length ≤ 4) && (f.ps.all nmB && (noTwoB f.ps && bodyB f.a)))

set_option maxHeartbeats 4000000 in
theorem fnOk_any (t : Fu) (x y : Value) (w : World) (hx : Tb w (uf w) x t.ps) (hy : Sl w (uf w) t.a y) (hs : ShFu t) (hsz : t.n.size ≤ maxLen) :
    Calls Tryz.prog 24 #[fuV t x y] w fun e w' => e = .returned (.bool (fnB t)) ∧ Below w.heap.size w w' := by
  have hx0 := hx
  obtain ⟨xo, xc, rfl, g1, g2, -, g3, -⟩ := hx
  have g4 : xc ≤ 9223372036854775807 := by unfold maxLen at g2; exact g2
  obtain ⟨yo, yc, rfl, -⟩ := hy.len
  have B0 : Below w.heap.size w (w.alloc (.cells #[.string t.n, .slice xo t.ps.length xc, .slice yo t.a.length yc] 47)) := (Below.refl _ _).alloc (Nat.le_refl _) _
  have HX := Hid.mk (hx0.growU B0)
  have HY := Hid.mk (hy.growU B0)
  have HS := Hid.mk hs
  have HSZ := Hid.mk hsz
  have HB0 := Hid.mk B0
  have HG := Hid.mk g3
  have HX3 := Hid.mk (MapKept.heap_alloc w (.cells #[.string t.n, .slice xo t.ps.length xc, .slice yo t.a.length yc] 47)).1
  clear hx0 hy hs hsz B0 g2 g3
  have HR : Hid (fnB t = (nmB t.n && (decide (t.ps.length ≤ 4) && (t.ps.all nmB && (noTwoB t.ps && bodyB t.a))))) := rfl
  obtain ⟨R, hR⟩ : ∃ R, fnB t = R := ⟨_, rfl⟩
  rw [hR] at HR ⊢
  clear hR
  obtain ⟨n, hn⟩ : ∃ n, t.ps.length = n := ⟨_, rfl⟩
  rw [hn] at HR HX HY HX3 HB0 g1
  rw [hn]
  have HN := Hid.mk hn
  clear hn
  go_enter Tryz.func24, Tryz.ntmps24
  go_wp2_with fail
  refine (implNameOk_any t.n _ HSZ.out).mono ?_
  rintro e w1 ⟨rfl, rfl⟩
  obtain ⟨A, hA⟩ : ∃ A, nmB t.n = A := ⟨_, rfl⟩
  rw [hA] at HR ⊢
  clear hA
  cases A with
  | false =>
    have HR2 : Hid (R = false) := by have := HR.out; rw [Bool.false_and] at this; exact this
    go_wp2
    go_ret
    have hr := HR2.out
    subst hr
    exact ⟨rfl, HB0.out⟩
  | true =>
    have HR : Hid (R = (decide (n ≤ 4) && (t.ps.all nmB && (noTwoB t.ps && bodyB t.a)))) := by have := HR.out; rw [Bool.true_and] at this; exact this
    by_cases h4 : n ≤ 4
    case neg =>
      have hi : ¬ ((n : Int) ≤ 4) := by omega
      have HR2 : Hid (R = false) := by have := HR.out; rw [decide_eq_false h4, Bool.false_and] at this; exact this
      go_wp2
      go_ret
      have hr := HR2.out
      subst hr
      exact ⟨rfl, HB0.out⟩
    have hi : (n : Int) ≤ 4 := by omega
    have HR : Hid (R = (t.ps.all nmB && (noTwoB t.ps && bodyB t.a))) := by have := HR.out; rw [decide_eq_true h4, Bool.true_and] at this; exact this
    go_wp2_with fail
    refine (eachT_any t.ps _ _ HX.out HG.out).mono ?_
    rintro e w2 ⟨rfl, hb2⟩
    obtain ⟨A, hA⟩ : ∃ A, t.ps.all nmB = A := ⟨_, rfl⟩
    rw [hA] at HR ⊢
    clear hA
    have c2 : ∀ o, w2.cell? ⟨w.heap.size, o, none⟩ = #[Value.string t.n, .slice xo n xc, .slice yo t.a.length yc][o]? := fun o => cell_of_row w2 _ o _ _ (0, 0) ((hb2.block _ (by simp)).trans HX3.out)
    have HB2 : Hid (Below w.heap.size w w2) := HB0.out.trans (hb2.mono (by simp))
    have HX2 := Hid.mk (HX.out.growU hb2)
    have HY2 := Hid.mk (HY.out.growU hb2)
    have l2 : w.heap.size < w2.heap.size := by have := hb2.size; simp at this; omega
    clear hb2
    cases A with
    | false =>
      have HR2 : Hid (R = false) := by have := HR.out; rw [Bool.false_and] at this; exact this
      go_wp2
      go_ret
      have hr := HR2.out
      subst hr
      exact ⟨rfl, HB2.out⟩
    | true =>
      have HR : Hid (R = (noTwoB t.ps && bodyB t.a)) := by have := HR.out; rw [Bool.true_and] at this; exact this
      have HNT := Hid.mk (noTwoAlike_any t.ps xo xc w2 HX2.out.c (by rw [HN.out]; exact g1) g4)
      rw [HN.out] at HNT
      go_wp2_with fail
      refine HNT.out.mono ?_
      rintro e w3 ⟨rfl, rfl⟩
      obtain ⟨A, hA⟩ : ∃ A, noTwoB t.ps = A := ⟨_, rfl⟩
      rw [hA] at HR ⊢
      clear hA HNT
      cases A with
      | false =>
        have HR2 : Hid (R = false) := by have := HR.out; rw [Bool.false_and] at this; exact this
        go_wp2
        go_ret
        have hr := HR2.out
        subst hr
        exact ⟨rfl, HB2.out⟩
      | true =>
        have HR : Hid (R = bodyB t.a) := by have := HR.out; rw [Bool.true_and] at this; exact this
        go_wp2_with fail
        refine (blockOk_any t.a _ _ HY2.out HS.out).mono ?_
        rintro e w4 ⟨rfl, hb4⟩
        have HB4 : Hid (Below w.heap.size w w4) := HB2.out.trans (hb4.mono HB2.out.size)
        obtain ⟨A, hA⟩ : ∃ A, bodyB t.a = A := ⟨_, rfl⟩
        rw [hA] at HR ⊢
        clear hA hb4 c2
        go_wp2
        go_ret
        have hr := HR.out
        subst hr
        exact ⟨rfl, HB4.out⟩

set_option maxHeartbeats 4000000 in
theorem eachF_any (l : List Fu) (v : Value) (w : World) (h : Fl w (uf w) l v) (hs : ∀ f ∈ l, ShFu f) :
    Calls Tryz.prog 23 #[v, .func (.func 24) #[] #[]] w fun e w' => e = .returned (.bool (l.all fnB)) ∧ Below w.heap.size w w' := by
  obtain ⟨ao, cap, rfl, h1, h2, -⟩ := h.len
  have h3 : cap ≤ 9223372036854775807 := by unfold maxLen at h2; exact h2
  have HL := Hid.mk h
  have HS := Hid.mk hs
  clear h hs h2
  obtain ⟨n, hn⟩ : ∃ n, l.length = n := ⟨_, rfl⟩
  rw [hn] at h1 HL ⊢
  have HN := Hid.mk hn
  clear hn
  have HY : Hid ((∀ j (hj : j < l.length), fnB l[j] = true) → l.all fnB = true) := fun h => List.all_eq_true.2 fun x hx => by
    obtain ⟨j, hj, rfl⟩ := List.mem_iff_getElem.1 hx
    exact h j hj
  have HF : Hid (∀ j (hj : j < l.length), fnB l[j] = false → l.all fnB = false) := fun j hj h => by
    cases hq : l.all fnB with
    | false => rfl
    | true => rw [List.all_eq_true.1 hq _ (List.getElem_mem hj)] at h; cases h
  obtain ⟨R, hR⟩ : ∃ R, l.all fnB = R := ⟨_, rfl⟩
  rw [hR] at HY HF ⊢
  clear hR
  go_enter Tryz.func23, Tryz.ntmps23
  go_wp2
  go_loopw [9] (fun i wr => ∃ k : Nat, k ≤ n ∧ i = .int .i64 k ∧ Hid (∀ j (hj : j < l.length), j < k → fnB l[j] = true) ∧ Below w.heap.size w wr) (fun i _ => n - (intOf i).toNat)
  case atStart => exact ⟨0, Nat.zero_le _, rfl, fun j _ h => absurd h (Nat.not_lt_zero j), Below.refl _ _⟩
  case round =>
    obtain ⟨k, hk, rfl, Ho, hbel⟩ := hrel
    by_cases hkl : k < n
    · have hi1 : (k : Int) < n := by omega
      have hkx : k < l.length := by rw [HN.out]; exact hkl
      have hgr := HL.out.growU hbel
      obtain ⟨b, off, XP, XA, rfl, hel⟩ := hgr.elems (by rintro rfl; simp at hkx)
      obtain ⟨⟨x0, x1, x2⟩, hsx, hsa, hsz⟩ := hel k hkx
      obtain ⟨o0, p0, e0⟩ := tbLen hsx
      rw [e0] at x1 hsx
      obtain ⟨o1, p1, e1, -⟩ := hsa.len
      rw [e1] at x2 hsa
      clear e0 e1 hel hgr
      have HO1 : Hid (fnB l[k] = true → ∀ j (hj : j < l.length), j < k + 1 → fnB l[j] = true) := by
        intro h j hj hj1
        by_cases e : j < k
        · exact Ho.out j hj e
        · obtain rfl : j = k := by omega
          exact h
      have HF1 := Hid.mk (HF.out k hkx)
      have HSK := Hid.mk (And.intro (HS.out _ (List.getElem_mem hkx)) hsz)
      clear hsz
      obtain ⟨x, hx⟩ : ∃ x, l[k] = x := ⟨_, rfl⟩
      rw [hx] at HO1 HF1 HSK x0 x1 x2 hsx hsa
      clear hx hkx
      have c0 : wr.cell? ⟨b, off + k * 3, none⟩ = some (.string x.n) := x0
      have c1 : wr.cell? ⟨b, off + k * 3 + 1, none⟩ = some (.slice o0 x.ps.length p0) := x1
      have c2 : wr.cell? ⟨b, off + k * 3 + 2, none⟩ = some (.slice o1 x.a.length p1) := x2
      have HE := Hid.mk (And.intro hsx hsa)
      clear x0 x1 x2 hsx hsa
      go_wp2_with fail
      refine (fnOk_any x (.slice o0 x.ps.length p0) (.slice o1 x.a.length p1) _ (HE.out.1.growU (((Below.refl _ _).alloc (Nat.le_refl _) _ : Below wr.heap.size wr (wr.alloc _)))) (HE.out.2.growU (((Below.refl _ _).alloc (Nat.le_refl _) _ : Below wr.heap.size wr (wr.alloc _)))) HSK.out.1 HSK.out.2).mono ?_
      rintro e w3 ⟨rfl, hb3⟩
      obtain ⟨r, hr⟩ : ∃ r, fnB x = r := ⟨_, rfl⟩
      rw [hr] at HO1 HF1 ⊢
      clear hr
      have HBE : Hid (Below w.heap.size w w3) := hbel.trans (((((Below.refl _ _).alloc (Nat.le_refl _) _ : Below wr.heap.size wr (wr.alloc _))).mono hbel.size).trans (hb3.mono (by have := hbel.size; simp; omega)))
      clear c0 c1 c2 hb3 hbel
      cases r with
      | false =>
        have HF2 := Hid.mk (HF1.out rfl)
        clear HO1 HF1 Ho
        go_wp2
        go_ret
        have hr := HF2.out
        subst hr
        exact ⟨rfl, HBE.out⟩
      | true =>
        have HO2 := Hid.mk (HO1.out rfl)
        clear HO1 HF1 Ho
        go_wp2
        go_roundw
        case measure => simp [intOf]; omega
        case rel => exact ⟨k + 1, by omega, rfl, HO2, HBE.out⟩
    · obtain rfl : k = n := by omega
      have hi1 : ¬ ((k : Int) < (k : Int)) := by omega
      have HT : Hid (R = true) := HY.out fun j hj => Ho.out j hj (by rw [← HN.out]; exact hj)
      go_wp2
      go_ret
      have hr := HT.out
      subst hr
      exact ⟨rfl, hbel⟩

set_option maxHeartbeats 4000000 in
/-- The names of some functions, in a new list. -/
theorem fnNames_any (l : List Fu) (v : Value) (w : World) (h : Fl w (uf w) l v) (hl : l.length ≤ 6) :
    Calls Tryz.prog 26 #[v] w fun e w' => ∃ g, e = .returned (.slice (some ⟨g, 0, none⟩) l.length l.length) ∧ TbC w' g 0 (l.map Fu.n) ∧ Below w.heap.size w w' := by
  obtain ⟨ao, cap, rfl, h1, h2, -⟩ := h.len
  have h3 : cap ≤ 9223372036854775807 := by unfold maxLen at h2; exact h2
  have HL := Hid.mk h
  clear h h2
  obtain ⟨n, hn⟩ : ∃ n, l.length = n := ⟨_, rfl⟩
  rw [hn] at h1 hl HL ⊢
  have HN := Hid.mk hn
  clear hn
  obtain ⟨i0, hi, hz0, hz1, hz2⟩ := info_parts (show (Tryz.prog.info? 9).map (fun i => (i.zero, i.size, i.bytes)) = some (some (.string ByteArray.empty), 1, 16) by kernel_rfl)
  go_enter Tryz.func26, Tryz.ntmps26
  go_wp2_with (at_make; refine wpList_make_full _ rfl _ _ 45 rfl 0 9 i0 _ 1 Tryz.underlying45 hi hz0 hz1 _ _ _ _ n rfl rfl rfl rfl (by rw [hz2]; omega) (by unfold maxLen; omega) (by simp) ?_; intro w1 ho1 hg1; refine Hid.out ?_)
  have hf1 := own_fullF ho1
  have hlen := ho1.1
  have HST : Hid (∃ C : Array Value, w1.heap[w.heap.size]? = some (.cells C 9 (0, 0)) ∧ C.size = n ∧ ∀ j (h : j < l.length), j < 0 → C[j]? = some (.string l[j].n)) := ⟨_, hf1, by simpa using hlen, fun j _ h => absurd h (Nat.not_lt_zero j)⟩
  have HB1 : Hid (Below w.heap.size w w1) := (Below.refl _ _).grown hg1 (Nat.le_refl _) (by simp)
  clear hf1 hlen ho1 hg1
  refine Hid.mk ?_
  go_wp2
  go_loopw [11] (fun i wr => ∃ k : Nat, k ≤ n ∧ i = .int .i64 k ∧ Hid (∃ C : Array Value, wr.heap[w.heap.size]? = some (.cells C 9 (0, 0)) ∧ C.size = n ∧ ∀ j (h : j < l.length), j < k → C[j]? = some (.string l[j].n)) ∧ Below w.heap.size w wr) (fun i _ => n - (intOf i).toNat)
  case atStart => exact ⟨0, Nat.zero_le _, rfl, HST, HB1.out⟩
  case round =>
    obtain ⟨k, hk, rfl, Ho, hbel⟩ := hrel
    obtain ⟨C, hC, hCs, hCj⟩ := Ho.out
    clear HST HB1 Ho
    by_cases hkl : k < n
    · have hi1 : (k : Int) < n := by omega
      have hkx : k < l.length := by rw [HN.out]; exact hkl
      obtain ⟨b, off, XP, XA, rfl, hel⟩ := (HL.out.grow hbel).elems (by rintro rfl; simp at hkx)
      obtain ⟨⟨x0, x1, x2⟩, hsx, hsa, hsz⟩ := hel k hkx
      obtain ⟨o0, p0, e0⟩ := tbLen hsx
      rw [e0] at x1
      obtain ⟨o1, p1, e1, -⟩ := hsa.len
      rw [e1] at x2
      clear e0 e1 hel hsx hsa hsz
      have HJ : Hid (∀ s, l[k].n = s → ∀ wz : World, wz.heap[w.heap.size]? = some (.cells (C.setIfInBounds k (.string s)) 9 (0, 0)) → ∃ C : Array Value, wz.heap[w.heap.size]? = some (.cells C 9 (0, 0)) ∧ C.size = n ∧ ∀ j (h : j < l.length), j < k + 1 → C[j]? = some (.string l[j].n)) := by
        rintro s rfl wz hz
        refine ⟨_, hz, by simpa using hCs, fun j hj hj1 => ?_⟩
        by_cases e : j = k
        · subst e
          rw [Array.getElem?_setIfInBounds_self_of_lt (by omega)]
        · rw [Array.getElem?_setIfInBounds_ne (Ne.symm e)]
          exact hCj j hj (by omega)
      obtain ⟨x, hx⟩ : ∃ x, l[k] = x := ⟨_, rfl⟩
      rw [hx] at x0 x1 x2 HJ
      have hlw : w.heap.size < wr.heap.size := (Array.getElem?_eq_some_iff.1 hC).1
      have hnw : w.heap.size ≠ wr.heap.size := by omega
      have cC : ∃ q, wr.cell? ⟨w.heap.size, k, none⟩ = some q := by
        rw [cell_of_row wr _ k _ _ (0, 0) hC]
        exact ⟨C[k]'(by omega), by simp [hCs, hkl]⟩
      obtain ⟨q, cq⟩ := cC
      have fC : ∀ o, wr.frozen? ⟨w.heap.size, o, none⟩ = false := fun o => by simp [World.frozen?, hC]
      have HCC := Hid.mk hC
      clear hC hCs hCj hx hkx
      go_wp2
      go_roundw
      case measure => simp [intOf]; omega
      case rel =>
        refine ⟨k + 1, by omega, rfl, HJ.out _ rfl _ ?_, (hbel.setCell (p := ⟨w.heap.size, k, none⟩) (Nat.le_refl _) _).alloc (by simp; omega) _⟩
        rw [(World.grownBy_alloc _ _ none).block _ (by simpa using hlw) (by simp)]
        exact heap_setCell_same HCC.out k _
    · obtain rfl : k = n := by omega
      have hi1 : ¬ ((k : Int) < (k : Int)) := by omega
      have HT : Hid (TbC wr w.heap.size 0 (l.map Fu.n)) := by
        intro j hj
        have hj' : j < l.length := by simpa using hj
        rw [Nat.zero_add, cell_of_row wr _ j _ _ (0, 0) hC, hCj j hj' (by rw [← HN.out]; exact hj')]
        simp
      clear hC hCs hCj
      go_wp2
      go_ret
      exact ⟨w.heap.size, rfl, HT.out, hbel⟩

end Go.Proofs.YtgigalcajgjpnaaGreat

namespace Go.Proofs.YtgigalcajgjpnaaGreat
open Go.RowKit
set_option maxRecDepth 8000
set_option linter.unusedSimpArgs false

theorem progB_eq (t : Pg) : progB t = (decide (t.r.length ≤ 10) && (decide (t.f.length ≤ 6) && (t.r.all ruleB && (t.f.all fnB && noTwoB (t.f.map Fu.n))))) := by
  have hfn : ∀ f : Fu, fnB f = true ↔ nmB f.n = true ∧ f.ps.length ≤ 4 ∧ (∀ s ∈ f.ps, nmB s = true) ∧ noTwoB f.ps = true ∧ bodyB f.a = true := by
    intro f
    unfold fnB
    simp only [Bool.and_eq_true, decide_eq_true_eq, List.all_eq_true]
  have hpa : ∀ l : List ByteArray, paramsB l = true ↔ l.length ≤ 4 ∧ (∀ s ∈ l, nmB s = true) ∧ noTwoB l = true := by
    intro l
    rw [paramsB_iff, noTwoB_iff]
    constructor
    · rintro ⟨h1, h2⟩
      exact ⟨h2, fun s hs => by obtain ⟨i, hi, rfl⟩ := List.mem_iff_getElem.1 hs; exact (h1 i hi).1, fun i hi => (h1 i hi).2⟩
    · rintro ⟨h1, h2, h3⟩
      exact ⟨fun i hi => ⟨h2 _ (List.getElem_mem hi), h3 i hi⟩, h1⟩
  have hi : progB t = true ↔ (decide (t.r.length ≤ 10) && (decide (t.f.length ≤ 6) && (t.r.all ruleB && (t.f.all fnB && noTwoB (t.f.map Fu.n))))) = true := by
    rw [progB_iff]
    simp only [Bool.and_eq_true, decide_eq_true_eq, List.all_eq_true]
    constructor
    · rintro ⟨h1, h2, h3, h4⟩
      refine ⟨h3, h4, h1, fun f hf => ?_, noTwoB_iff.2 fun i h => ?_⟩
      · obtain ⟨i, hi, rfl⟩ := List.mem_iff_getElem.1 hf
        obtain ⟨a1, -, a3, a4⟩ := h2 i hi
        obtain ⟨b1, b2, b3⟩ := (hpa _).1 a3
        exact (hfn _).2 ⟨a1, b1, b2, b3, a4⟩
      · have hi : i < t.f.length := by simpa using h
        refine hasT_no fun j hj => ?_
        have hj' : j < i := by simp at hj; omega
        have := (h2 i hi).2.1 j hj'
        simpa using this
    · rintro ⟨h3, h4, h1, h2, h5⟩
      refine ⟨h1, fun i hi => ?_, h3, h4⟩
      obtain ⟨a1, b1, b2, b3, a4⟩ := (hfn _).1 (h2 _ (List.getElem_mem hi))
      refine ⟨a1, fun j hj => ?_, (hpa _).2 ⟨b1, b2, b3⟩, a4⟩
      have h6 := noTwoB_iff.1 h5 i (by simpa using hi)
      cases hq : (t.f[j].n.toList == t.f[i].n.toList) with
      | false => rfl
      | true =>
        have h7 := hasT_yes (l := (t.f.map Fu.n).take i) (s := (t.f.map Fu.n)[i]'(by simpa using hi)) (k := j) (by simp; omega) (by simpa using hq)
        rw [h6] at h7
        cases h7
  cases ha : progB t <;> cases hb : (decide (t.r.length ≤ 10) && (decide (t.f.length ≤ 6) && (t.r.all ruleB && (t.f.all fnB && noTwoB (t.f.map Fu.n))))) <;> simp_all

set_option maxHeartbeats 4000000 in
theorem implProgOk_any (t : Pg) (x y : Value) (w : World) (hx : Ul w (uf w) t.r x) (hy : Fl w (uf w) t.f y) (hs : ShPg t) :
    Calls Tryz.prog 8 #[pgV x y] w fun e w' => e = .returned (.bool (progB t)) ∧ Below w.heap.size w w' := by
  obtain ⟨xo, xc, rfl, -⟩ := hx.len
  obtain ⟨yo, yc, rfl, -⟩ := hy.len
  have B0 : Below w.heap.size w (w.alloc (.cells #[.slice xo t.r.length xc, .slice yo t.f.length yc] 31)) := (Below.refl _ _).alloc (Nat.le_refl _) _
  have HX := Hid.mk (hx.growU B0)
  have HY := Hid.mk (hy.growU B0)
  have HS := Hid.mk hs
  have HB0 := Hid.mk B0
  have HX2 := Hid.mk (MapKept.heap_alloc w (.cells #[.slice xo t.r.length xc, .slice yo t.f.length yc] 31)).1
  clear hx hy hs B0
  have HR := Hid.mk (progB_eq t)
  obtain ⟨R, hR⟩ : ∃ R, progB t = R := ⟨_, rfl⟩
  rw [hR] at HR ⊢
  clear hR
  obtain ⟨n, hn⟩ : ∃ n, t.r.length = n := ⟨_, rfl⟩
  obtain ⟨m, hm⟩ : ∃ n, t.f.length = n := ⟨_, rfl⟩
  rw [hn, hm] at HR HX2 HB0 HX HY
  rw [hn, hm]
  have HM := Hid.mk hm
  clear hn hm
  go_enter Tryz.func8, Tryz.ntmps8
  by_cases h1 : n ≤ 10
  case neg =>
    have hi : ¬ ((n : Int) ≤ 10) := by omega
    have HR2 : Hid (R = false) := by have := HR.out; rw [decide_eq_false h1, Bool.false_and] at this; exact this
    go_wp2
    go_ret
    have hr := HR2.out
    subst hr
    exact ⟨rfl, HB0.out⟩
  have hi1 : (n : Int) ≤ 10 := by omega
  have HR : Hid (R = (decide (m ≤ 6) && (t.r.all ruleB && (t.f.all fnB && noTwoB (t.f.map Fu.n))))) := by have := HR.out; rw [decide_eq_true h1, Bool.true_and] at this; exact this
  by_cases h2 : m ≤ 6
  case neg =>
    have hi : ¬ ((m : Int) ≤ 6) := by omega
    have HR2 : Hid (R = false) := by have := HR.out; rw [decide_eq_false h2, Bool.false_and] at this; exact this
    go_wp2
    go_ret
    have hr := HR2.out
    subst hr
    exact ⟨rfl, HB0.out⟩
  have hi2 : (m : Int) ≤ 6 := by omega
  have HR : Hid (R = (t.r.all ruleB && (t.f.all fnB && noTwoB (t.f.map Fu.n)))) := by have := HR.out; rw [decide_eq_true h2, Bool.true_and] at this; exact this
  go_wp2_with fail
  refine (eachR_any t.r _ _ HX.out HS.out.1).mono ?_
  rintro e w1 ⟨rfl, hb1⟩
  obtain ⟨A, hA⟩ : ∃ A, t.r.all ruleB = A := ⟨_, rfl⟩
  rw [hA] at HR ⊢
  clear hA
  have c1 : ∀ o, w1.cell? ⟨w.heap.size, o, none⟩ = #[Value.slice xo n xc, .slice yo m yc][o]? := fun o => cell_of_row w1 _ o _ _ (0, 0) ((hb1.block _ (by simp)).trans HX2.out)
  have HY1 := Hid.mk (HY.out.growU hb1)
  have HB1 : Hid (Below w.heap.size w w1) := HB0.out.trans (hb1.mono (by simp))
  have l1 : w.heap.size < w1.heap.size := by have := hb1.size; simp at this; omega
  clear hb1
  cases A with
  | false =>
    have HR2 : Hid (R = false) := by have := HR.out; rw [Bool.false_and] at this; exact this
    go_wp2
    go_ret
    have hr := HR2.out
    subst hr
    exact ⟨rfl, HB1.out⟩
  | true =>
    have HR : Hid (R = (t.f.all fnB && noTwoB (t.f.map Fu.n))) := by have := HR.out; rw [Bool.true_and] at this; exact this
    go_wp2_with fail
    refine (eachF_any t.f _ _ HY1.out HS.out.2).mono ?_
    rintro e w2 ⟨rfl, hb2⟩
    obtain ⟨A, hA⟩ : ∃ A, t.f.all fnB = A := ⟨_, rfl⟩
    rw [hA] at HR ⊢
    clear hA
    have c2 : ∀ o, w2.cell? ⟨w.heap.size, o, none⟩ = #[Value.slice xo n xc, .slice yo m yc][o]? := fun o => (World.cell?_of_block (a := ⟨w.heap.size, o, none⟩) (hb2.block _ l1)).trans (c1 o)
    have HY2 := Hid.mk (HY1.out.growU hb2)
    have HB2 : Hid (Below w.heap.size w w2) := HB1.out.trans (hb2.mono HB1.out.size)
    clear hb2 c1
    cases A with
    | false =>
      have HR2 : Hid (R = false) := by have := HR.out; rw [Bool.false_and] at this; exact this
      go_wp2
      go_ret
      have hr := HR2.out
      subst hr
      exact ⟨rfl, HB2.out⟩
    | true =>
      have HR : Hid (R = noTwoB (t.f.map Fu.n)) := by have := HR.out; rw [Bool.true_and] at this; exact this
      have HFN := Hid.mk (fnNames_any t.f _ w2 HY2.out (by rw [HM.out]; exact h2))
      rw [HM.out] at HFN
      go_wp2_with fail
      refine HFN.out.mono ?_
      rintro e w3 ⟨g, rfl, hg, hb3⟩
      have HB3 : Hid (Below w.heap.size w w3) := HB2.out.trans (hb3.mono HB2.out.size)
      have hml : (t.f.map Fu.n).length = m := by rw [List.length_map, HM.out]
      have HNT := Hid.mk (noTwoAlike_any (t.f.map Fu.n) (some ⟨g, 0, none⟩) m w3 (fun _ => ⟨g, 0, rfl, hg⟩) (by rw [hml]; exact Nat.le_refl _) (by omega))
      rw [hml] at HNT
      clear hml hg hb3 HFN c2
      go_wp2_with fail
      refine HNT.out.mono ?_
      rintro e w4 ⟨rfl, rfl⟩
      obtain ⟨A, hA⟩ : ∃ A, noTwoB (t.f.map Fu.n) = A := ⟨_, rfl⟩
      rw [hA] at HR ⊢
      clear hA HNT
      go_wp2
      go_ret
      have hr := HR.out
      subst hr
      exact ⟨rfl, HB3.out⟩
end Go.Proofs.YtgigalcajgjpnaaGreat

namespace Go.Proofs.YtgigalcajgjpnaaGreat
open Go.RowKit
set_option maxRecDepth 8000

/-- How great a list is whose parts are that great, each counted besides. -/
def gsz {α : Type} (g : α → Nat) : List α → Nat
  | [] => 0
  | t :: r => 1 + g t + gsz g r
theorem gsz_take {α : Type} (g : α → Nat) (l : List α) (k : Nat) (h : k < l.length) : gsz g (l.take (k + 1)) = gsz g (l.take k) + 1 + g l[k] := by
  induction l generalizing k with
  | nil => simp at h
  | cons t r ih =>
    cases k with
    | zero => simp [gsz]
    | succ k =>
      have := ih k (by simpa using h)
      simp only [List.take_succ_cons, gsz, List.getElem_cons_succ]
      omega
theorem gsz_length {α : Type} (g : α → Nat) (l : List α) : l.length ≤ gsz g l := by
  induction l with
  | nil => simp
  | cons t r ih => simp only [List.length_cons, gsz]; omega
theorem gsz_take_length {α : Type} (g : α → Nat) (l : List α) (k : Nat) (h : k ≤ l.length) : gsz g (l.take k) + (l.length - k) ≤ gsz g l := by
  induction l generalizing k with
  | nil => simp
  | cons t r ih =>
    cases k with
    | zero => have := gsz_length g (t :: r); simpa [gsz] using this
    | succ k => have := ih k (by simpa using h); simp only [List.take_succ_cons, gsz, List.length_cons]; omega
theorem gsz_mem {α : Type} (g : α → Nat) {y : α} {l : List α} (h : y ∈ l) : g y + 1 ≤ gsz g l := by
  induction l with
  | nil => cases h
  | cons t r ih =>
    rw [gsz]
    rcases List.mem_cons.1 h with rfl | h
    · omega
    · have := ih h; omega

def Ru.sz (r : Ru) : Nat := r.p.sz + szy r.a
def Fu.sz (f : Fu) : Nat := f.n.size + gsz ByteArray.size f.ps + szy f.a
def Pg.sz (p : Pg) : Nat := gsz Ru.sz p.r + gsz Fu.sz p.f

set_option maxHeartbeats 1000000 in
theorem szTexts_any (l : List ByteArray) (B : Nat → Prop) (v : Value) (w : World) (left : Int) (h : Tb w B v l) (h0 : 0 ≤ left) (h1 : left ≤ 1048576) :
    Calls Tryz.prog 60 #[v, .int .i64 left] w fun e w' => e = .returned (.int .i64 (leftOf left (gsz ByteArray.size l))) ∧ Below w.heap.size w w' := by
  obtain ⟨ao, cap, rfl, hl1, hl2, hl3, hsz, hc⟩ := h
  have hm : cap ≤ 9223372036854775807 := by unfold maxLen at hl2; omega
  have hlen := gsz_length ByteArray.size l
  by_cases hlt : left < l.length
  · have hh : left - (l.length : Int) < 0 := by omega
    have HR : Hid (leftOf left (gsz ByteArray.size l) = -1) := by show _ = _; unfold leftOf; rw [if_pos (by omega)]
    clear hc hsz hl2 hlen
    go_enter Tryz.func60, Tryz.ntmps60
    go_wp2
    go_ret
    exact ⟨ret_int' HR.out.symm, Below.refl _ _⟩
  · have hh : ¬ left - (l.length : Int) < 0 := by omega
    have HC := Hid.mk hc
    have HSZ := Hid.mk hsz
    have HL := Hid.mk hlen
    clear hc hsz hl2 hlen
    go_enter Tryz.func60, Tryz.ntmps60
    go_wp2
    go_loopw [1, 5] (fun q i wr => ∃ (k : Nat) (r : Int), k ≤ l.length ∧ i = .int .i64 k ∧ q = .int .i64 r ∧ 0 ≤ r ∧ r ≤ 1048576 ∧ Hid (r = left - (l.length : Int) - (gsz ByteArray.size (l.take k) : Int) + (k : Int)) ∧ Below w.heap.size w wr) (fun _ i _ => l.length - (intOf i).toNat)
    case atStart => exact ⟨0, left - (l.length : Int), Nat.zero_le _, rfl, rfl, by omega, by omega, by show _ = _; simp [gsz], Below.refl _ _⟩
    case round =>
      obtain ⟨k, r, hk, rfl, rfl, r0, r1, Hr, hbel⟩ := hrel
      by_cases hkl : k < l.length
      · obtain ⟨b, off, rfl, -, hel⟩ := HC.out (by intro hn; rw [hn] at hkl; simp at hkl)
        have hcell := hel k hkl
        have hgd : l.getD k ⟨#[]⟩ = l[k] := by simp [hkl]
        rw [hgd] at hcell
        have hss := HSZ.out _ (List.getElem_mem hkl)
        have HE := Hid.mk (gsz_take ByteArray.size l k hkl)
        have HZ := Hid.mk (gsz_take_length ByteArray.size l (k + 1) hkl)
        obtain ⟨t, ht⟩ : ∃ t, l[k] = t := ⟨_, rfl⟩
        rw [ht] at hcell hss HE
        clear ht hel hgd
        have c0 : wr.cell? ⟨b, off + k, none⟩ = some (.string t) := by rw [hbel.cell (p := ⟨b, off + k, none⟩) (World.block_lt_of_cell? w _ hcell)]; exact hcell
        have hi1 : (k : Int) < (l.length : Int) := by omega
        have ht1 : t.size ≤ 9223372036854775807 := by unfold maxLen at hss; omega
        clear hss hcell
        by_cases hm : r - (t.size : Int) < 0
        · have HR : Hid (leftOf left (gsz ByteArray.size l) = -1) := by
            show _ = _
            have e2 := Hr.out
            have e3 := HE.out
            have e5 := HZ.out
            unfold leftOf
            split <;> omega
          clear HE Hr HZ
          go_wp2
          go_ret
          exact ⟨ret_int' HR.out.symm, hbel⟩
        · have HR : Hid (r - (t.size : Int) = left - (l.length : Int) - (gsz ByteArray.size (l.take (k + 1)) : Int) + ((k + 1 : Nat) : Int)) := by
            show _ = _
            have e2 := Hr.out
            have e3 := HE.out
            omega
          clear HE Hr HZ
          go_wp2
          go_roundw
          case rel => exact ⟨k + 1, r - (t.size : Int), by omega, by go_num, rfl, by omega, by omega, HR, hbel⟩
          case measure => simp [intOf]; omega
      · have e : k = l.length := by omega
        subst e
        have HR : Hid (r = leftOf left (gsz ByteArray.size l)) := by
          show _ = _
          have e2 := Hr.out
          rw [List.take_length] at e2
          unfold leftOf
          split <;> omega
        clear Hr
        go_wp2
        go_ret
        exact ⟨ret_int' HR.out, hbel⟩

set_option maxHeartbeats 1000000 in
theorem szRule_any (t : Ru) (B : Nat → Prop) (x y : Value) (w : World) (left : Int) (hx : El w B t.p.l x) (hy : Sl w B t.a y) (hs : t.p.s.size ≤ maxLen) (h0 : 0 ≤ left) (h1 : left ≤ 1048576) :
    Calls Tryz.prog 33 #[ruV t x y, .int .i64 left] w fun e w' => e = .returned (.int .i64 (leftOf left t.sz)) ∧ Below w.heap.size w w' := by
  have HE : Hid (t.sz = t.p.sz + szy t.a) := rfl
  obtain ⟨xo, xc, rfl, -, -, -⟩ := hx.len
  obtain ⟨yo, yc, rfl, -, -, -⟩ := hy.len
  have B0 : Below w.heap.size w (w.alloc (.cells #[.int .i64 t.k, .int .i64 t.p.k, .int .i64 t.p.n, .string t.p.s, .slice xo t.p.l.length xc, .slice yo t.a.length yc] 71)) := (Below.refl _ _).alloc (Nat.le_refl _) _
  obtain ⟨m1, Hm1⟩ : ∃ m, Hid (leftOf (left) (t.p.sz) = m) := ⟨_, rfl⟩
  obtain ⟨m2, Hm2⟩ : ∃ m, Hid (leftOf m1 (szy t.a) = m) := ⟨_, rfl⟩
  have HX := Hid.mk (fun (w' : World) (hw : Below w.heap.size w w') => szExpr_any t.p B _ w' left (hx.grow hw) hs h0 h1)
  have HY := Hid.mk (fun (w' : World) (hw : Below w.heap.size w w') (c0 : 0 ≤ m1) (c1 : m1 ≤ 1048576) => szStmtS_any t.a B _ w' m1 (hy.grow hw) c0 c1)
  rw [Hm1.out] at HX
  rw [Hm2.out] at HY
  obtain ⟨z, hz⟩ : ∃ z, t.sz = z := ⟨_, rfl⟩
  rw [hz] at HE ⊢
  clear hx hy hz
  go_enter Tryz.func33, Tryz.ntmps33
  go_wp2_with fail
  refine (HX.out _ B0).mono ?_
  rintro e w1 ⟨rfl, hb1⟩
  have B1 := B0.trans (hb1.mono (by simp))
  have hc1 := fun o => hb1.cell (p := ⟨w.heap.size, o, none⟩) (by simp)
  clear B0 hb1 HX
  by_cases hm1 : m1 < 0
  · have HR : Hid (leftOf left z = -1) := by
      show _ = _
      have e1 := Hm1.out
      have e2 := HE.out
      unfold leftOf at e1 ⊢
      split at e1 <;> split <;> omega
    clear HE Hm1 Hm2 HY
    go_wp2
    go_ret
    exact ⟨ret_int' HR.out.symm, B1⟩
  have c0 : 0 ≤ m1 := by omega
  have c1 : m1 ≤ 1048576 := by have e1 := Hm1.out; unfold leftOf at e1; split at e1 <;> omega
  go_wp2_with fail
  refine (HY.out _ B1 c0 c1).mono ?_
  rintro e w2 ⟨rfl, hb2⟩
  have B2 := B1.trans (hb2.mono B1.size)
  clear B1 hb2 HY hc1
  have HR : Hid ((m2 < 0 → leftOf left z = -1) ∧ (¬ m2 < 0 → leftOf left z = m2)) := by
    show _ ∧ _
    have e1 := Hm1.out
    have e2 := HE.out
    have e4 := Hm2.out
    unfold leftOf at e1 e4 ⊢
    split at e1 <;> split at e4 <;> split <;> constructor <;> omega
  clear HE Hm1 Hm2
  by_cases hm2 : m2 < 0
  · go_wp2
    go_ret
    exact ⟨ret_int' (HR.out.1 hm2).symm, B2⟩
  · go_wp2
    go_ret
    exact ⟨ret_int' (HR.out.2 hm2).symm, B2⟩

set_option maxHeartbeats 1000000 in
theorem szFn_any (t : Fu) (B : Nat → Prop) (x y : Value) (w : World) (left : Int) (hx : Tb w B x t.ps) (hy : Sl w B t.a y) (hs : t.n.size ≤ maxLen) (h0 : 0 ≤ left) (h1 : left ≤ 1048576) :
    Calls Tryz.prog 34 #[fuV t x y, .int .i64 left] w fun e w' => e = .returned (.int .i64 (leftOf left t.sz)) ∧ Below w.heap.size w w' := by
  have HE : Hid (t.sz = t.n.size + gsz ByteArray.size t.ps + szy t.a) := rfl
  obtain ⟨xo, xc, rfl, -, -, -⟩ := hx.len
  obtain ⟨yo, yc, rfl, -, -, -⟩ := hy.len
  have B0 : Below w.heap.size w (w.alloc (.cells #[.string t.n, .slice xo t.ps.length xc, .slice yo t.a.length yc] 74)) := (Below.refl _ _).alloc (Nat.le_refl _) _
  unfold maxLen at hs
  by_cases hlt : left < t.n.size
  · have hh : left - (t.n.size : Int) < 0 := by omega
    have HR : Hid (leftOf left t.sz = -1) := by show _ = _; unfold leftOf; have := HE.out; rw [if_pos (by omega)]
    clear HE hx hy
    go_enter Tryz.func34, Tryz.ntmps34
    go_wp2
    go_ret
    exact ⟨ret_int' HR.out.symm, B0⟩
  have hh : ¬ left - (t.n.size : Int) < 0 := by omega
  obtain ⟨m1, Hm1⟩ : ∃ m, Hid (leftOf (left - (t.n.size : Int)) (gsz ByteArray.size t.ps) = m) := ⟨_, rfl⟩
  obtain ⟨m2, Hm2⟩ : ∃ m, Hid (leftOf m1 (szy t.a) = m) := ⟨_, rfl⟩
  have HX := Hid.mk (fun (w' : World) (hw : Below w.heap.size w w') => szTexts_any t.ps B _ w' (left - (t.n.size : Int)) (hx.grow hw) (by omega) (by omega))
  have HY := Hid.mk (fun (w' : World) (hw : Below w.heap.size w w') (c0 : 0 ≤ m1) (c1 : m1 ≤ 1048576) => szStmtS_any t.a B _ w' m1 (hy.grow hw) c0 c1)
  rw [Hm1.out] at HX
  rw [Hm2.out] at HY
  obtain ⟨z, hz⟩ : ∃ z, t.sz = z := ⟨_, rfl⟩
  rw [hz] at HE ⊢
  clear hx hy hz
  go_enter Tryz.func34, Tryz.ntmps34
  go_wp2_with fail
  refine (HX.out _ B0).mono ?_
  rintro e w1 ⟨rfl, hb1⟩
  have B1 := B0.trans (hb1.mono (by simp))
  have hc1 := fun o => hb1.cell (p := ⟨w.heap.size, o, none⟩) (by simp)
  clear B0 hb1 HX
  by_cases hm1 : m1 < 0
  · have HR : Hid (leftOf left z = -1) := by
      show _ = _
      have e1 := Hm1.out
      have e2 := HE.out
      unfold leftOf at e1 ⊢
      split at e1 <;> split <;> omega
    clear HE Hm1 Hm2 HY
    go_wp2
    go_ret
    exact ⟨ret_int' HR.out.symm, B1⟩
  have c0 : 0 ≤ m1 := by omega
  have c1 : m1 ≤ 1048576 := by have e1 := Hm1.out; unfold leftOf at e1; split at e1 <;> omega
  go_wp2_with fail
  refine (HY.out _ B1 c0 c1).mono ?_
  rintro e w2 ⟨rfl, hb2⟩
  have B2 := B1.trans (hb2.mono B1.size)
  clear B1 hb2 HY hc1
  have HR : Hid ((m2 < 0 → leftOf left z = -1) ∧ (¬ m2 < 0 → leftOf left z = m2)) := by
    show _ ∧ _
    have e1 := Hm1.out
    have e2 := HE.out
    have e4 := Hm2.out
    unfold leftOf at e1 e4 ⊢
    split at e1 <;> split at e4 <;> split <;> constructor <;> omega
  clear HE Hm1 Hm2
  by_cases hm2 : m2 < 0
  · go_wp2
    go_ret
    exact ⟨ret_int' (HR.out.1 hm2).symm, B2⟩
  · go_wp2
    go_ret
    exact ⟨ret_int' (HR.out.2 hm2).symm, B2⟩

set_option maxHeartbeats 1000000 in
theorem szRuleS_any (l : List Ru) (B : Nat → Prop) (v : Value) (w : World) (left : Int) (h : Ul w B l v) (h0 : 0 ≤ left) (h1 : left ≤ 1048576) :
    Calls Tryz.prog 12 #[v, .int .i64 left] w fun e w' => e = .returned (.int .i64 (leftOf left (gsz Ru.sz l))) ∧ Below w.heap.size w w' := by
  obtain ⟨ao, cap, rfl, hl1, hl2, hl3⟩ := h.len
  have hm : cap ≤ 9223372036854775807 := by unfold maxLen at hl2; omega
  have hlen := gsz_length Ru.sz l
  by_cases hlt : left < l.length
  · have hh : left - (l.length : Int) < 0 := by omega
    have HR : Hid (leftOf left (gsz Ru.sz l) = -1) := by show _ = _; unfold leftOf; rw [if_pos (by omega)]
    clear h hl2 hlen
    go_enter Tryz.func12, Tryz.ntmps12
    go_wp2
    go_ret
    exact ⟨ret_int' HR.out.symm, Below.refl _ _⟩
  · have hh : ¬ left - (l.length : Int) < 0 := by omega
    have HH := Hid.mk h
    have HL := Hid.mk hlen
    clear h hl2 hlen
    go_enter Tryz.func12, Tryz.ntmps12
    go_wp2
    go_loopw [1, 5] (fun q i wr => ∃ (k : Nat) (r : Int), k ≤ l.length ∧ i = .int .i64 k ∧ q = .int .i64 r ∧ 0 ≤ r ∧ r ≤ 1048576 ∧ Hid (r = left - (l.length : Int) - (gsz Ru.sz (l.take k) : Int) + (k : Int)) ∧ Below w.heap.size w wr) (fun _ i _ => l.length - (intOf i).toNat)
    case atStart => exact ⟨0, left - (l.length : Int), Nat.zero_le _, rfl, rfl, by omega, by omega, by show _ = _; simp [gsz], Below.refl _ _⟩
    case round =>
      obtain ⟨k, r, hk, rfl, rfl, r0, r1, Hr, hbel⟩ := hrel
      by_cases hkl : k < l.length
      · obtain ⟨b, off, X, Y, rfl, hel⟩ := HH.out.elems (by intro hn; rw [hn] at hkl; simp at hkl)
        obtain ⟨h3, hx, hy, hss⟩ := hel k hkl
        have HE := Hid.mk (gsz_take Ru.sz l k hkl)
        have HZ := Hid.mk (gsz_take_length Ru.sz l (k + 1) hkl)
        obtain ⟨t, ht⟩ : ∃ t, l[k] = t := ⟨_, rfl⟩
        rw [ht] at h3 hx hy hss HE
        clear ht hel
        obtain ⟨c0, c1, c2, c3, c4, c5⟩ := h3.kept (w' := wr) (hbel.block b (World.block_lt_of_cell? w _ h3.1))
        have HC := Hid.mk (szRule_any t B (X k) (Y k) wr r (hx.grow hbel) (hy.grow hbel) hss r0 r1)
        have hi1 : (k : Int) < (l.length : Int) := by omega
        obtain ⟨m, Hm⟩ : ∃ m, Hid (leftOf r t.sz = m) := ⟨_, rfl⟩
        rw [Hm.out] at HC
        clear hx hy hss h3
        by_cases hm : m < 0
        · have HR : Hid (leftOf left (gsz Ru.sz l) = -1) := by
            show _ = _
            have e1 := Hm.out
            have e2 := Hr.out
            have e3 := HE.out
            have e5 := HZ.out
            unfold leftOf at e1 ⊢
            split at e1 <;> split <;> omega
          clear HE Hr Hm HZ
          go_wp2_with fail
          refine HC.out.mono ?_
          rintro e w1 ⟨rfl, hb1⟩
          have B1 := hbel.trans (hb1.mono hbel.size)
          clear hb1 HC
          go_wp2
          go_ret
          exact ⟨ret_int' HR.out.symm, B1⟩
        · have HR : Hid (m = left - (l.length : Int) - (gsz Ru.sz (l.take (k + 1)) : Int) + ((k + 1 : Nat) : Int)) := by
            show _ = _
            have e1 := Hm.out
            have e2 := Hr.out
            have e3 := HE.out
            unfold leftOf at e1
            split at e1 <;> omega
          have hm1 : m ≤ 1048576 := by
            have e1 := Hm.out
            unfold leftOf at e1
            split at e1 <;> omega
          clear HE Hr Hm HZ
          go_wp2_with fail
          refine HC.out.mono ?_
          rintro e w1 ⟨rfl, hb1⟩
          have B1 := hbel.trans (hb1.mono hbel.size)
          clear hb1 HC
          go_wp2
          go_roundw
          case rel => exact ⟨k + 1, m, by omega, by go_num, rfl, by omega, hm1, HR, B1⟩
          case measure => simp [intOf]; omega
      · have e : k = l.length := by omega
        subst e
        have HR : Hid (r = leftOf left (gsz Ru.sz l)) := by
          show _ = _
          have e2 := Hr.out
          rw [List.take_length] at e2
          unfold leftOf
          split <;> omega
        clear Hr
        go_wp2
        go_ret
        exact ⟨ret_int' HR.out, hbel⟩

set_option maxHeartbeats 1000000 in
theorem szFnS_any (l : List Fu) (B : Nat → Prop) (v : Value) (w : World) (left : Int) (h : Fl w B l v) (h0 : 0 ≤ left) (h1 : left ≤ 1048576) :
    Calls Tryz.prog 13 #[v, .int .i64 left] w fun e w' => e = .returned (.int .i64 (leftOf left (gsz Fu.sz l))) ∧ Below w.heap.size w w' := by
  obtain ⟨ao, cap, rfl, hl1, hl2, hl3⟩ := h.len
  have hm : cap ≤ 9223372036854775807 := by unfold maxLen at hl2; omega
  have hlen := gsz_length Fu.sz l
  by_cases hlt : left < l.length
  · have hh : left - (l.length : Int) < 0 := by omega
    have HR : Hid (leftOf left (gsz Fu.sz l) = -1) := by show _ = _; unfold leftOf; rw [if_pos (by omega)]
    clear h hl2 hlen
    go_enter Tryz.func13, Tryz.ntmps13
    go_wp2
    go_ret
    exact ⟨ret_int' HR.out.symm, Below.refl _ _⟩
  · have hh : ¬ left - (l.length : Int) < 0 := by omega
    have HH := Hid.mk h
    have HL := Hid.mk hlen
    clear h hl2 hlen
    go_enter Tryz.func13, Tryz.ntmps13
    go_wp2
    go_loopw [1, 5] (fun q i wr => ∃ (k : Nat) (r : Int), k ≤ l.length ∧ i = .int .i64 k ∧ q = .int .i64 r ∧ 0 ≤ r ∧ r ≤ 1048576 ∧ Hid (r = left - (l.length : Int) - (gsz Fu.sz (l.take k) : Int) + (k : Int)) ∧ Below w.heap.size w wr) (fun _ i _ => l.length - (intOf i).toNat)
    case atStart => exact ⟨0, left - (l.length : Int), Nat.zero_le _, rfl, rfl, by omega, by omega, by show _ = _; simp [gsz], Below.refl _ _⟩
    case round =>
      obtain ⟨k, r, hk, rfl, rfl, r0, r1, Hr, hbel⟩ := hrel
      by_cases hkl : k < l.length
      · obtain ⟨b, off, X, Y, rfl, hel⟩ := HH.out.elems (by intro hn; rw [hn] at hkl; simp at hkl)
        obtain ⟨h3, hx, hy, hss⟩ := hel k hkl
        have HE := Hid.mk (gsz_take Fu.sz l k hkl)
        have HZ := Hid.mk (gsz_take_length Fu.sz l (k + 1) hkl)
        obtain ⟨t, ht⟩ : ∃ t, l[k] = t := ⟨_, rfl⟩
        rw [ht] at h3 hx hy hss HE
        clear ht hel
        obtain ⟨c0, c1, c2⟩ := h3.kept (w' := wr) (hbel.block b (World.block_lt_of_cell? w _ h3.1))
        have HC := Hid.mk (szFn_any t B (X k) (Y k) wr r (hx.grow hbel) (hy.grow hbel) hss r0 r1)
        have hi1 : (k : Int) < (l.length : Int) := by omega
        obtain ⟨m, Hm⟩ : ∃ m, Hid (leftOf r t.sz = m) := ⟨_, rfl⟩
        rw [Hm.out] at HC
        clear hx hy hss h3
        by_cases hm : m < 0
        · have HR : Hid (leftOf left (gsz Fu.sz l) = -1) := by
            show _ = _
            have e1 := Hm.out
            have e2 := Hr.out
            have e3 := HE.out
            have e5 := HZ.out
            unfold leftOf at e1 ⊢
            split at e1 <;> split <;> omega
          clear HE Hr Hm HZ
          go_wp2_with fail
          refine HC.out.mono ?_
          rintro e w1 ⟨rfl, hb1⟩
          have B1 := hbel.trans (hb1.mono hbel.size)
          clear hb1 HC
          go_wp2
          go_ret
          exact ⟨ret_int' HR.out.symm, B1⟩
        · have HR : Hid (m = left - (l.length : Int) - (gsz Fu.sz (l.take (k + 1)) : Int) + ((k + 1 : Nat) : Int)) := by
            show _ = _
            have e1 := Hm.out
            have e2 := Hr.out
            have e3 := HE.out
            unfold leftOf at e1
            split at e1 <;> omega
          have hm1 : m ≤ 1048576 := by
            have e1 := Hm.out
            unfold leftOf at e1
            split at e1 <;> omega
          clear HE Hr Hm HZ
          go_wp2_with fail
          refine HC.out.mono ?_
          rintro e w1 ⟨rfl, hb1⟩
          have B1 := hbel.trans (hb1.mono hbel.size)
          clear hb1 HC
          go_wp2
          go_roundw
          case rel => exact ⟨k + 1, m, by omega, by go_num, rfl, by omega, hm1, HR, B1⟩
          case measure => simp [intOf]; omega
      · have e : k = l.length := by omega
        subst e
        have HR : Hid (r = leftOf left (gsz Fu.sz l)) := by
          show _ = _
          have e2 := Hr.out
          rw [List.take_length] at e2
          unfold leftOf
          split <;> omega
        clear Hr
        go_wp2
        go_ret
        exact ⟨ret_int' HR.out, hbel⟩

set_option maxHeartbeats 1000000 in
theorem szProg_any (t : Pg) (B : Nat → Prop) (x y : Value) (w : World) (left : Int) (hx : Ul w B t.r x) (hy : Fl w B t.f y) (h0 : 0 ≤ left) (h1 : left ≤ 1048576) :
    Calls Tryz.prog 5 #[pgV x y, .int .i64 left] w fun e w' => e = .returned (.int .i64 (leftOf left t.sz)) ∧ Below w.heap.size w w' := by
  have HE : Hid (t.sz = gsz Ru.sz t.r + gsz Fu.sz t.f) := rfl
  obtain ⟨xo, xc, rfl, -, -, -⟩ := hx.len
  obtain ⟨yo, yc, rfl, -, -, -⟩ := hy.len
  have B0 : Below w.heap.size w (w.alloc (.cells #[.slice xo t.r.length xc, .slice yo t.f.length yc] 25)) := (Below.refl _ _).alloc (Nat.le_refl _) _
  obtain ⟨m1, Hm1⟩ : ∃ m, Hid (leftOf (left) (gsz Ru.sz t.r) = m) := ⟨_, rfl⟩
  obtain ⟨m2, Hm2⟩ : ∃ m, Hid (leftOf m1 (gsz Fu.sz t.f) = m) := ⟨_, rfl⟩
  have HX := Hid.mk (fun (w' : World) (hw : Below w.heap.size w w') => szRuleS_any t.r B _ w' left (hx.grow hw) h0 h1)
  have HY := Hid.mk (fun (w' : World) (hw : Below w.heap.size w w') (c0 : 0 ≤ m1) (c1 : m1 ≤ 1048576) => szFnS_any t.f B _ w' m1 (hy.grow hw) c0 c1)
  rw [Hm1.out] at HX
  rw [Hm2.out] at HY
  obtain ⟨z, hz⟩ : ∃ z, t.sz = z := ⟨_, rfl⟩
  rw [hz] at HE ⊢
  clear hx hy hz
  go_enter Tryz.func5, Tryz.ntmps5
  go_wp2_with fail
  refine (HX.out _ B0).mono ?_
  rintro e w1 ⟨rfl, hb1⟩
  have B1 := B0.trans (hb1.mono (by simp))
  have hc1 := fun o => hb1.cell (p := ⟨w.heap.size, o, none⟩) (by simp)
  clear B0 hb1 HX
  by_cases hm1 : m1 < 0
  · have HR : Hid (leftOf left z = -1) := by
      show _ = _
      have e1 := Hm1.out
      have e2 := HE.out
      unfold leftOf at e1 ⊢
      split at e1 <;> split <;> omega
    clear HE Hm1 Hm2 HY
    go_wp2
    go_ret
    exact ⟨ret_int' HR.out.symm, B1⟩
  have c0 : 0 ≤ m1 := by omega
  have c1 : m1 ≤ 1048576 := by have e1 := Hm1.out; unfold leftOf at e1; split at e1 <;> omega
  go_wp2_with fail
  refine (HY.out _ B1 c0 c1).mono ?_
  rintro e w2 ⟨rfl, hb2⟩
  have B2 := B1.trans (hb2.mono B1.size)
  clear B1 hb2 HY hc1
  have HR : Hid ((m2 < 0 → leftOf left z = -1) ∧ (¬ m2 < 0 → leftOf left z = m2)) := by
    show _ ∧ _
    have e1 := Hm1.out
    have e2 := HE.out
    have e4 := Hm2.out
    unfold leftOf at e1 e4 ⊢
    split at e1 <;> split at e4 <;> split <;> constructor <;> omega
  clear HE Hm1 Hm2
  by_cases hm2 : m2 < 0
  · go_wp2
    go_ret
    exact ⟨ret_int' (HR.out.1 hm2).symm, B2⟩
  · go_wp2
    go_ret
    exact ⟨ret_int' (HR.out.2 hm2).symm, B2⟩

end Go.Proofs.YtgigalcajgjpnaaGreat

namespace Go.Proofs.YtgigalcajgjpnaaGreat
open Go.RowKit
set_option maxRecDepth 8000

theorem Tz.cellAt {w : World} {b off n cap : Nat} {xs : List ByteArray} (h : Tz w (.slice (some ⟨b, off, none⟩) n cap) xs) {k : Nat} (hk : k < xs.length) : w.cell? ⟨b, off + k, none⟩ = some (.string (xs.getD k ⟨#[]⟩)) := by
  obtain ⟨ao, cap', h1, _, _, _, h5⟩ := h
  obtain ⟨b', off', rfl, h7⟩ := h5 (by intro h0; rw [h0] at hk; simp at hk)
  simp only [Value.slice.injEq, Option.some.injEq, Addr.mk.injEq, and_true] at h1
  obtain ⟨⟨rfl, rfl⟩, _⟩ := h1
  exact h7 k hk
theorem Tz.at {w : World} {ao : Option Addr} {n cap : Nat} {xs : List ByteArray} (h : Tz w (.slice ao n cap) xs) {k : Nat} (hk : k < xs.length) : ∃ b off, ao = some ⟨b, off, none⟩ ∧ ∀ w', Below w.heap.size w w' → w'.cell? ⟨b, off + k, none⟩ = some (.string (xs.getD k ⟨#[]⟩)) := by
  obtain ⟨ao', cap', h1, _, _, _, h5⟩ := id h
  obtain ⟨b', off', rfl, h7⟩ := h5 (by intro h0; rw [h0] at hk; simp at hk)
  simp only [Value.slice.injEq] at h1
  obtain ⟨rfl, rfl, rfl⟩ := h1
  exact ⟨b', off', rfl, fun w' hb => (h.grow hb).cellAt hk⟩

theorem made_t (n : Nat) : (madeCells #[Value.string ⟨#[]⟩] n).toList = (List.replicate n (⟨#[]⟩ : ByteArray)).map Value.string := by
  rw [toList_madeCells_one]; simp
theorem map_set_str (xs : List ByteArray) (k : Nat) (z : ByteArray) : (xs.map Value.string).set k (.string z) = (xs.set k z).map Value.string := by
  rw [List.map_set]
theorem copy_step_t (zs : List ByteArray) (k : Nat) (hk : k < zs.length) :
    (zs.take k ++ List.replicate (zs.length - k) (⟨#[]⟩ : ByteArray)).set k (zs.getD k ⟨#[]⟩) = zs.take (k + 1) ++ List.replicate (zs.length - (k + 1)) (⟨#[]⟩ : ByteArray) := by
  apply List.ext_getElem?
  intro i
  by_cases h : i = k
  · subst h
    rw [List.getElem?_set_self (by simp; omega), List.getElem?_append_left (by simp; omega)]
    simp [List.getD, hk]
  · rw [List.getElem?_set_ne (by omega)]
    simp only [List.getElem?_append, List.length_take, List.getElem?_take, List.getElem?_replicate]
    grind

set_option maxHeartbeats 1000000 in
theorem toStringS_any (v : Value) (zs : List ByteArray) (w : World) (h : Tz w v zs) (hlen : zs.length ≤ 4194304) :
    Calls Tryz.prog 70 #[v] w fun e w' => ∃ u, e = .returned u ∧ OwnT w' w.heap.size u zs ∧ Below w.heap.size w w' := by
  have hsub := Hid.mk h
  obtain ⟨ao, cap, rfl, hl, hm, hn, hc⟩ := h
  unfold maxLen at hm
  clear hc
  have HB0 : Hid (∀ k, k < zs.length → ao ≠ none) := fun k hk h0 => by rw [hn h0] at hl; omega
  obtain ⟨i0, hi, hz0, hz1, hz2⟩ := info_parts infoT
  go_enter Tryz.func70, Tryz.ntmps70
  go_wp2_with (at_make; refine wpList_make_full _ rfl _ _ 45 rfl w.heap.size 9 i0 (.string ⟨#[]⟩) 1 Tryz.underlying45 hi hz0 hz1 _ _ _ _ zs.length rfl rfl rfl rfl (by rw [hz2]; omega) (by unfold maxLen; omega) (by simp) ?_)
  intro w1 hown hgrow
  rw [made_t] at hown
  have hbel : Below w.heap.size w w1 := (Below.refl _ _).grown hgrow (Nat.le_refl _) (by simp)
  clear hgrow
  go_wp2
  go_loopw [4] (fun i wr => ∃ k : Nat, k ≤ zs.length ∧ i = .int .i64 k ∧ wr.ownsRow w.heap.size 9 1 (.slice (some ⟨w.heap.size, 0, none⟩) zs.length zs.length) zs.length ((zs.take k ++ List.replicate (zs.length - k) (⟨#[]⟩ : ByteArray)).map Value.string) ∧ Below w.heap.size w wr) (fun i _ => zs.length - (intOf i).toNat)
  case atStart => exact ⟨0, Nat.zero_le _, rfl, by simpa using hown, hbel⟩
  case round =>
    obtain ⟨k, hk, rfl, hownr, hbelr⟩ := hrel
    by_cases hlt : k < zs.length
    · obtain ⟨⟨b, off, r⟩, rfl⟩ : ∃ a, ao = some a := Option.ne_none_iff_exists'.1 (HB0.out k hlt)
      obtain rfl : r = none := by
        obtain ⟨ao', cap', h1, _, _, _, h5⟩ := hsub.out
        obtain ⟨b', off', rfl, h7⟩ := h5 (by intro h0; rw [h0] at hlt; simp at hlt)
        simp only [Value.slice.injEq, Option.some.injEq, Addr.mk.injEq] at h1
        exact h1.1.2.2
      obtain ⟨c, Hc⟩ : ∃ c, Hid (zs.getD k ⟨#[]⟩ = c) := ⟨_, rfl⟩
      have hcx : wr.cell? ⟨b, off + k, none⟩ = some (.string c) := by rw [← Hc.out]; exact (hsub.out.grow hbelr).cellAt hlt
      have hfr := hownr.frozenAt k
      have hold := hownr.cellAt k (by omega)
      have R : (wr.setCell ⟨w.heap.size, k, none⟩ (.string c)).ownsRow w.heap.size 9 1 (.slice (some ⟨w.heap.size, 0, none⟩) zs.length zs.length) zs.length ((zs.take (k + 1) ++ List.replicate (zs.length - (k + 1)) (⟨#[]⟩ : ByteArray)).map Value.string) ∧ Below w.heap.size w (wr.setCell ⟨w.heap.size, k, none⟩ (.string c)) := by
        refine ⟨?_, hbelr.setCell (Nat.le_refl _) _⟩
        have := (hownr.stored k (.string c)).1
        rw [map_set_str, ← Hc.out, copy_step_t zs k hlt] at this
        rw [← Hc.out]
        exact this
      obtain ⟨o, ho⟩ : ∃ o, ((zs.take k ++ List.replicate (zs.length - k) (⟨#[]⟩ : ByteArray)).map Value.string)[k]? = some (.string o) := by
        have : k < (zs.take k ++ List.replicate (zs.length - k) (⟨#[]⟩ : ByteArray)).length := by simp; omega
        exact ⟨_, by rw [List.getElem?_map, List.getElem?_eq_getElem this]; rfl⟩
      rw [ho] at hold
      have HR := Hid.mk R
      clear hownr hbelr hsub R ho
      go_wp2
      go_roundw
      case rel => exact ⟨k + 1, by omega, by go_num, HR.out.1, HR.out.2⟩
      case measure => simp [intOf]; omega
    · go_wp2
      go_ret
      have e : k = zs.length := by omega
      subst e
      exact ⟨_, rfl, by unfold OwnT; simpa using hownr, hbelr⟩
end Go.Proofs.YtgigalcajgjpnaaGreat

namespace Go.Proofs.YtgigalcajgjpnaaGreat
open Go.RowKit
set_option maxRecDepth 8000

theorem Tb.nfgrow {w w' : World} {n : Nat} {v : Value} {xs : List ByteArray} (h : Tb w (nf w n) v xs) (hk : Below w.heap.size w w') : Tb w' (nf w' n) v xs :=
  (h.imp (C := nf w' n) fun b hb hlt => ⟨hb.1, fun o => by rw [hk.frozen (p := ⟨b, o, none⟩) hlt]; exact hb.2 o⟩).grow hk
theorem Ul.nfgrow {w w' : World} {n : Nat} {l : List Ru} {v : Value} (h : Ul w (nf w n) l v) (hk : Below w.heap.size w w') : Ul w' (nf w' n) l v :=
  (h.imp (C := nf w' n) fun b hb hlt => ⟨hb.1, fun o => by rw [hk.frozen (p := ⟨b, o, none⟩) hlt]; exact hb.2 o⟩).grow hk
theorem Fl.nfgrow {w w' : World} {n : Nat} {l : List Fu} {v : Value} (h : Fl w (nf w n) l v) (hk : Below w.heap.size w w') : Fl w' (nf w' n) l v :=
  (h.imp (C := nf w' n) fun b hb hlt => ⟨hb.1, fun o => by rw [hk.frozen (p := ⟨b, o, none⟩) hlt]; exact hb.2 o⟩).grow hk
theorem Tb.nfset {w : World} {n : Nat} {v : Value} {xs : List ByteArray} (h : Tb w (nf w n) v xs) {a : Addr} (ha : a.block < n) (u : Value) : Tb (w.setCell a u) (nf (w.setCell a u) n) v xs :=
  (h.setCell (fun hb => by have := hb.1; omega) u).imp fun b hb _ => ⟨hb.1, fun o => by rw [World.frozen?_setCell]; exact hb.2 o⟩
theorem Ul.nfset {w : World} {n : Nat} {l : List Ru} {v : Value} (h : Ul w (nf w n) l v) {a : Addr} (ha : a.block < n) (u : Value) : Ul (w.setCell a u) (nf (w.setCell a u) n) l v :=
  (h.setCell (fun hb => by have := hb.1; omega) u).imp fun b hb _ => ⟨hb.1, fun o => by rw [World.frozen?_setCell]; exact hb.2 o⟩
theorem Fl.nfset {w : World} {n : Nat} {l : List Fu} {v : Value} (h : Fl w (nf w n) l v) {a : Addr} (ha : a.block < n) (u : Value) : Fl (w.setCell a u) (nf (w.setCell a u) n) l v :=
  (h.setCell (fun hb => by have := hb.1; omega) u).imp fun b hb _ => ⟨hb.1, fun o => by rw [World.frozen?_setCell]; exact hb.2 o⟩

/-- What is owned from n on reads these texts, in new blocks. -/
theorem OwnT.tb {w : World} {n : Nat} {v : Value} {xs : List ByteArray} (h : OwnT w n v xs) (hs : ∀ s ∈ xs, s.size ≤ maxLen) : Tb w (nf w n) v xs := by
  rcases id h.2 with ⟨h1, h2⟩ | ⟨g, cap, cur, rfl, hb, hg, hn, hm, hsz, ht⟩
  · obtain rfl : xs = [] := List.length_eq_zero_iff.1 h2
    rw [h1]
    exact Tb.zero w _
  · refine ⟨some ⟨g, 0, none⟩, cap, rfl, hn, hm, (fun h => by cases h), hs, fun _ => ⟨g, 0, rfl, ⟨hb, fun o => ?_⟩, fun k hk => ?_⟩⟩
    · exact h.frozenAt o
    · have := h.cellAt k (by omega)
      rw [Nat.zero_add, this]
      simp [hk]

set_option maxHeartbeats 1000000 in
theorem toRule_any (t : Ru) (B : Nat → Prop) (x y : Value) (w : World) (hx : El w B t.p.l x) (hy : Sl w B t.a y) (hs : t.sz ≤ 1048576) :
    Calls Tryz.prog 41 #[ruV t x y] w fun e w' => ∃ u v, e = .returned (ruV t u v) ∧ El w' (nf w' (w.heap.size + 1)) t.p.l u ∧ Sl w' (nf w' (w.heap.size + 1)) t.a v ∧ Below w.heap.size w w' := by
  have hz : t.sz = t.p.sz + szy t.a := rfl
  have hz2 := t.p.sz_eq
  have HX := Hid.mk (fun (w' : World) (hw : Below w.heap.size w w') => toExprF_any t.p B _ w' (hx.grow hw) (by omega))
  have HY := Hid.mk (fun (w' : World) (hw : Below w.heap.size w w') => toStmtS_any t.a B _ w' (hy.grow hw) (by omega))
  obtain ⟨xo, xcap, rfl, -, -, -⟩ := hx.len
  obtain ⟨yo, ycap, rfl, -, -, -⟩ := hy.len
  clear hx hy
  go_enter Tryz.func41, Tryz.ntmps41
  go_wp2_with fail
  refine (HX.out _ ?_).mono ?_
  · exact ((((Below.refl _ _).alloc (Nat.le_refl _) _).alloc (by simp) _).alloc (by simp <;> omega) _)
  rintro e w1 ⟨u1, rfl, hrx, hb1⟩
  have ha1 := fun o => hb1.cell (p := ⟨w.heap.size, o, none⟩) (by simp <;> omega)
  have hc1 := fun o => hb1.cell (p := ⟨w.heap.size + 1, o, none⟩) (by simp)
  have hd1 := fun o => hb1.cell (p := ⟨w.heap.size + 1 + 1, o, none⟩) (by simp)
  have hf1 := fun o => hb1.frozen (p := ⟨w.heap.size + 1, o, none⟩) (by simp)
  have hg1 := fun o => hb1.frozen (p := ⟨w.heap.size + 1 + 1, o, none⟩) (by simp)
  have s1 : w.heap.size + 3 ≤ w1.heap.size := by have := hb1.size; simp at this; omega
  have B1 : Hid (Below w.heap.size w w1) := ((((Below.refl _ _).alloc (Nat.le_refl _) _).alloc (by simp) _).alloc (by simp <;> omega) _).trans (hb1.mono (by simp <;> omega))
  have HRX := Hid.mk (hrx.imp (C := nf w1 (w.heap.size + 3)) fun b hb _ => ⟨by have := hb.1; simp at this; omega, hb.2⟩)
  obtain ⟨xa, xc, rfl, -, -, -⟩ := HRX.out.len
  clear hrx hb1 HX
  go_wp2_with fail
  refine (HY.out _ (((((B1.out.setCell (by simp <;> omega) _).setCell (by simp <;> omega) _).setCell (by simp <;> omega) _).setCell (by simp <;> omega) _))).mono ?_
  rintro e w2 ⟨u2, rfl, hry, hb2⟩
  have hc2 := fun o => hb2.cell (p := ⟨w.heap.size + 1, o, none⟩) (by simp <;> omega)
  have hd2 := fun o => hb2.cell (p := ⟨w.heap.size + 1 + 1, o, none⟩) (by simp <;> omega)
  have hf2 := fun o => hb2.frozen (p := ⟨w.heap.size + 1, o, none⟩) (by simp <;> omega)
  have hg2 := fun o => hb2.frozen (p := ⟨w.heap.size + 1 + 1, o, none⟩) (by simp <;> omega)
  have s2 : w.heap.size + 3 ≤ w2.heap.size := by have := hb2.size; simp at this; omega
  have B2 : Hid (Below w.heap.size w w2) := (((((B1.out.setCell (by simp <;> omega) _).setCell (by simp <;> omega) _).setCell (by simp <;> omega) _).setCell (by simp <;> omega) _)).trans (hb2.mono (by simp <;> omega))
  have HRX2 := Hid.mk (((((HRX.out.nfset (a := ⟨w.heap.size + 1 + 1, 1, none⟩) (by simp <;> omega) (.int .i64 t.p.k)).nfset (a := ⟨w.heap.size + 1 + 1, 2, none⟩) (by simp <;> omega) (.int .i64 t.p.n)).nfset (a := ⟨w.heap.size + 1 + 1, 3, none⟩) (by simp <;> omega) (.string t.p.s)).nfset (a := ⟨w.heap.size + 1 + 1, 4, none⟩) (by simp <;> omega) (.slice xa t.p.l.length xc)).nfgrow hb2)
  have HRY := Hid.mk (hry.imp (C := nf w2 (w.heap.size + 3)) fun b hb _ => ⟨by have := hb.1; simp at this; omega, hb.2⟩)
  obtain ⟨ya, yc, rfl, -, -, -⟩ := HRY.out.len
  clear hry hb2 HY HRX B1
  have v0 : w2.cell? ⟨w.heap.size + 1 + 1, 0, none⟩ = some (.int .i64 t.k) := by go_simp
  have v1 : w2.cell? ⟨w.heap.size + 1 + 1, 1, none⟩ = some (.int .i64 t.p.k) := by go_simp
  have v2 : w2.cell? ⟨w.heap.size + 1 + 1, 2, none⟩ = some (.int .i64 t.p.n) := by go_simp
  have v3 : w2.cell? ⟨w.heap.size + 1 + 1, 3, none⟩ = some (.string t.p.s) := by go_simp
  have v4 : w2.cell? ⟨w.heap.size + 1 + 1, 4, none⟩ = some (.slice xa t.p.l.length xc) := by go_simp
  have v5 : w2.cell? ⟨w.heap.size + 1 + 1, 5, none⟩ = some (.slice none 0 0) := by go_simp
  have r0 : w2.cell? ⟨w.heap.size + 1, 0, none⟩ = some (.int .i64 0) := by go_simp
  have r1 : w2.cell? ⟨w.heap.size + 1, 1, none⟩ = some (.int .i64 0) := by go_simp
  have r2 : w2.cell? ⟨w.heap.size + 1, 2, none⟩ = some (.int .i64 0) := by go_simp
  have r3 : w2.cell? ⟨w.heap.size + 1, 3, none⟩ = some (.string ⟨#[]⟩) := by go_simp
  have r4 : w2.cell? ⟨w.heap.size + 1, 4, none⟩ = some (.slice none 0 0) := by go_simp
  have r5 : w2.cell? ⟨w.heap.size + 1, 5, none⟩ = some (.slice none 0 0) := by go_simp
  have q1 : ∀ o, w2.frozen? ⟨w.heap.size + 1, o, none⟩ = false := by intro o; go_simp
  have q2 : ∀ o, w2.frozen? ⟨w.heap.size + 1 + 1, o, none⟩ = false := by intro o; go_simp
  clear ha1 hc1 hd1 hf1 hg1 hc2 hd2 hf2 hg2 s1
  go_wp2
  have f0 : (((((((w2.setCell ⟨w.heap.size + 1 + 1, 5, none⟩ (.slice ya t.a.length yc)).setCell ⟨w.heap.size + 1, 0, none⟩ (.int .i64 t.k)).setCell ⟨w.heap.size + 1, 1, none⟩ (.int .i64 t.p.k)).setCell ⟨w.heap.size + 1, 2, none⟩ (.int .i64 t.p.n)).setCell ⟨w.heap.size + 1, 3, none⟩ (.string t.p.s)).setCell ⟨w.heap.size + 1, 4, none⟩ (.slice xa t.p.l.length xc)).setCell ⟨w.heap.size + 1, 5, none⟩ (.slice ya t.a.length yc)).cell? ⟨w.heap.size + 1, 0, none⟩ = some (.int .i64 t.k) := by go_simp
  have f1 : (((((((w2.setCell ⟨w.heap.size + 1 + 1, 5, none⟩ (.slice ya t.a.length yc)).setCell ⟨w.heap.size + 1, 0, none⟩ (.int .i64 t.k)).setCell ⟨w.heap.size + 1, 1, none⟩ (.int .i64 t.p.k)).setCell ⟨w.heap.size + 1, 2, none⟩ (.int .i64 t.p.n)).setCell ⟨w.heap.size + 1, 3, none⟩ (.string t.p.s)).setCell ⟨w.heap.size + 1, 4, none⟩ (.slice xa t.p.l.length xc)).setCell ⟨w.heap.size + 1, 5, none⟩ (.slice ya t.a.length yc)).cell? ⟨w.heap.size + 1, 1, none⟩ = some (.int .i64 t.p.k) := by go_simp
  have f2 : (((((((w2.setCell ⟨w.heap.size + 1 + 1, 5, none⟩ (.slice ya t.a.length yc)).setCell ⟨w.heap.size + 1, 0, none⟩ (.int .i64 t.k)).setCell ⟨w.heap.size + 1, 1, none⟩ (.int .i64 t.p.k)).setCell ⟨w.heap.size + 1, 2, none⟩ (.int .i64 t.p.n)).setCell ⟨w.heap.size + 1, 3, none⟩ (.string t.p.s)).setCell ⟨w.heap.size + 1, 4, none⟩ (.slice xa t.p.l.length xc)).setCell ⟨w.heap.size + 1, 5, none⟩ (.slice ya t.a.length yc)).cell? ⟨w.heap.size + 1, 2, none⟩ = some (.int .i64 t.p.n) := by go_simp
  have f3 : (((((((w2.setCell ⟨w.heap.size + 1 + 1, 5, none⟩ (.slice ya t.a.length yc)).setCell ⟨w.heap.size + 1, 0, none⟩ (.int .i64 t.k)).setCell ⟨w.heap.size + 1, 1, none⟩ (.int .i64 t.p.k)).setCell ⟨w.heap.size + 1, 2, none⟩ (.int .i64 t.p.n)).setCell ⟨w.heap.size + 1, 3, none⟩ (.string t.p.s)).setCell ⟨w.heap.size + 1, 4, none⟩ (.slice xa t.p.l.length xc)).setCell ⟨w.heap.size + 1, 5, none⟩ (.slice ya t.a.length yc)).cell? ⟨w.heap.size + 1, 3, none⟩ = some (.string t.p.s) := by go_simp
  have f4 : (((((((w2.setCell ⟨w.heap.size + 1 + 1, 5, none⟩ (.slice ya t.a.length yc)).setCell ⟨w.heap.size + 1, 0, none⟩ (.int .i64 t.k)).setCell ⟨w.heap.size + 1, 1, none⟩ (.int .i64 t.p.k)).setCell ⟨w.heap.size + 1, 2, none⟩ (.int .i64 t.p.n)).setCell ⟨w.heap.size + 1, 3, none⟩ (.string t.p.s)).setCell ⟨w.heap.size + 1, 4, none⟩ (.slice xa t.p.l.length xc)).setCell ⟨w.heap.size + 1, 5, none⟩ (.slice ya t.a.length yc)).cell? ⟨w.heap.size + 1, 4, none⟩ = some (.slice xa t.p.l.length xc) := by go_simp
  have f5 : (((((((w2.setCell ⟨w.heap.size + 1 + 1, 5, none⟩ (.slice ya t.a.length yc)).setCell ⟨w.heap.size + 1, 0, none⟩ (.int .i64 t.k)).setCell ⟨w.heap.size + 1, 1, none⟩ (.int .i64 t.p.k)).setCell ⟨w.heap.size + 1, 2, none⟩ (.int .i64 t.p.n)).setCell ⟨w.heap.size + 1, 3, none⟩ (.string t.p.s)).setCell ⟨w.heap.size + 1, 4, none⟩ (.slice xa t.p.l.length xc)).setCell ⟨w.heap.size + 1, 5, none⟩ (.slice ya t.a.length yc)).cell? ⟨w.heap.size + 1, 5, none⟩ = some (.slice ya t.a.length yc) := by go_simp
  refine bodyPost_ret (v := ruV t (.slice xa t.p.l.length xc) (.slice ya t.a.length yc)) ?_ rfl ⟨_, _, rfl, ?_, ?_, ?_⟩
  · generalize (((((((w2.setCell ⟨w.heap.size + 1 + 1, 5, none⟩ (.slice ya t.a.length yc)).setCell ⟨w.heap.size + 1, 0, none⟩ (.int .i64 t.k)).setCell ⟨w.heap.size + 1, 1, none⟩ (.int .i64 t.p.k)).setCell ⟨w.heap.size + 1, 2, none⟩ (.int .i64 t.p.n)).setCell ⟨w.heap.size + 1, 3, none⟩ (.string t.p.s)).setCell ⟨w.heap.size + 1, 4, none⟩ (.slice xa t.p.l.length xc)).setCell ⟨w.heap.size + 1, 5, none⟩ (.slice ya t.a.length yc)) = W at f0 f1 f2 f3 f4 f5
    simp [results, Tryz.results41, go_sem, f0, f1, f2, f3, f4, f5]
  · exact (((((((HRX2.out.nfset (by simp <;> omega) _).nfset (by simp <;> omega) _).nfset (by simp <;> omega) _).nfset (by simp <;> omega) _).nfset (by simp <;> omega) _).nfset (by simp <;> omega) _).nfset (by simp <;> omega) _).imp (fun b hb _ => ⟨by have := hb.1; omega, hb.2⟩)
  · exact (((((((HRY.out.nfset (by simp <;> omega) _).nfset (by simp <;> omega) _).nfset (by simp <;> omega) _).nfset (by simp <;> omega) _).nfset (by simp <;> omega) _).nfset (by simp <;> omega) _).nfset (by simp <;> omega) _).imp (fun b hb _ => ⟨by have := hb.1; omega, hb.2⟩)
  · exact (((((((B2.out.setCell (by simp <;> omega) _).setCell (by simp <;> omega) _).setCell (by simp <;> omega) _).setCell (by simp <;> omega) _).setCell (by simp <;> omega) _).setCell (by simp <;> omega) _).setCell (by simp <;> omega) _)

set_option maxHeartbeats 1000000 in
theorem toFn_any (t : Fu) (B : Nat → Prop) (x y : Value) (w : World) (hx : Tb w B x t.ps) (hy : Sl w B t.a y) (hs : t.sz ≤ 1048576) :
    Calls Tryz.prog 42 #[fuV t x y] w fun e w' => ∃ u v, e = .returned (fuV t u v) ∧ Tb w' (nf w' (w.heap.size + 1)) u t.ps ∧ Sl w' (nf w' (w.heap.size + 1)) t.a v ∧ Below w.heap.size w w' := by
  have hz : t.sz = t.n.size + gsz ByteArray.size t.ps + szy t.a := rfl
  have hz2 := gsz_length ByteArray.size t.ps
  have hps : ∀ s ∈ t.ps, s.size ≤ maxLen := by obtain ⟨_, _, _, _, _, _, h, _⟩ := hx; exact h
  have HX := Hid.mk (fun (w' : World) (hw : Below w.heap.size w w') => toStringS_any _ t.ps w' (hx.grow hw).tz (by omega))
  have HY := Hid.mk (fun (w' : World) (hw : Below w.heap.size w w') => toStmtS_any t.a B _ w' (hy.grow hw) (by omega))
  obtain ⟨xo, xcap, rfl, -, -, -⟩ := hx.len
  obtain ⟨yo, ycap, rfl, -, -, -⟩ := hy.len
  clear hx hy
  go_enter Tryz.func42, Tryz.ntmps42
  go_wp2_with fail
  refine (HX.out _ ?_).mono ?_
  · exact ((((Below.refl _ _).alloc (Nat.le_refl _) _).alloc (by simp) _).alloc (by simp <;> omega) _)
  rintro e w1 ⟨u1, rfl, hrx, hb1⟩
  have ha1 := fun o => hb1.cell (p := ⟨w.heap.size, o, none⟩) (by simp <;> omega)
  have hc1 := fun o => hb1.cell (p := ⟨w.heap.size + 1, o, none⟩) (by simp)
  have hd1 := fun o => hb1.cell (p := ⟨w.heap.size + 1 + 1, o, none⟩) (by simp)
  have hf1 := fun o => hb1.frozen (p := ⟨w.heap.size + 1, o, none⟩) (by simp)
  have hg1 := fun o => hb1.frozen (p := ⟨w.heap.size + 1 + 1, o, none⟩) (by simp)
  have s1 : w.heap.size + 3 ≤ w1.heap.size := by have := hb1.size; simp at this; omega
  have B1 : Hid (Below w.heap.size w w1) := ((((Below.refl _ _).alloc (Nat.le_refl _) _).alloc (by simp) _).alloc (by simp <;> omega) _).trans (hb1.mono (by simp <;> omega))
  have HRX := Hid.mk ((hrx.tb hps).imp (C := nf w1 (w.heap.size + 3)) fun b hb _ => ⟨by have := hb.1; simp at this; omega, hb.2⟩)
  obtain ⟨xa, xc, rfl, -, -, -⟩ := HRX.out.len
  clear hrx hb1 HX
  go_wp2_with fail
  refine (HY.out _ ((B1.out.setCell (by simp <;> omega) _))).mono ?_
  rintro e w2 ⟨u2, rfl, hry, hb2⟩
  have hc2 := fun o => hb2.cell (p := ⟨w.heap.size + 1, o, none⟩) (by simp <;> omega)
  have hd2 := fun o => hb2.cell (p := ⟨w.heap.size + 1 + 1, o, none⟩) (by simp <;> omega)
  have hf2 := fun o => hb2.frozen (p := ⟨w.heap.size + 1, o, none⟩) (by simp <;> omega)
  have hg2 := fun o => hb2.frozen (p := ⟨w.heap.size + 1 + 1, o, none⟩) (by simp <;> omega)
  have s2 : w.heap.size + 3 ≤ w2.heap.size := by have := hb2.size; simp at this; omega
  have B2 : Hid (Below w.heap.size w w2) := ((B1.out.setCell (by simp <;> omega) _)).trans (hb2.mono (by simp <;> omega))
  have HRX2 := Hid.mk ((HRX.out.nfset (a := ⟨w.heap.size + 1 + 1, 1, none⟩) (by simp <;> omega) (.slice xa t.ps.length xc)).nfgrow hb2)
  have HRY := Hid.mk (hry.imp (C := nf w2 (w.heap.size + 3)) fun b hb _ => ⟨by have := hb.1; simp at this; omega, hb.2⟩)
  obtain ⟨ya, yc, rfl, -, -, -⟩ := HRY.out.len
  clear hry hb2 HY HRX B1
  have v0 : w2.cell? ⟨w.heap.size + 1 + 1, 0, none⟩ = some (.string t.n) := by go_simp
  have v1 : w2.cell? ⟨w.heap.size + 1 + 1, 1, none⟩ = some (.slice xa t.ps.length xc) := by go_simp
  have v2 : w2.cell? ⟨w.heap.size + 1 + 1, 2, none⟩ = some (.slice none 0 0) := by go_simp
  have r0 : w2.cell? ⟨w.heap.size + 1, 0, none⟩ = some (.string ⟨#[]⟩) := by go_simp
  have r1 : w2.cell? ⟨w.heap.size + 1, 1, none⟩ = some (.slice none 0 0) := by go_simp
  have r2 : w2.cell? ⟨w.heap.size + 1, 2, none⟩ = some (.slice none 0 0) := by go_simp
  have q1 : ∀ o, w2.frozen? ⟨w.heap.size + 1, o, none⟩ = false := by intro o; go_simp
  have q2 : ∀ o, w2.frozen? ⟨w.heap.size + 1 + 1, o, none⟩ = false := by intro o; go_simp
  clear ha1 hc1 hd1 hf1 hg1 hc2 hd2 hf2 hg2 s1
  go_wp2
  have f0 : ((((w2.setCell ⟨w.heap.size + 1 + 1, 2, none⟩ (.slice ya t.a.length yc)).setCell ⟨w.heap.size + 1, 0, none⟩ (.string t.n)).setCell ⟨w.heap.size + 1, 1, none⟩ (.slice xa t.ps.length xc)).setCell ⟨w.heap.size + 1, 2, none⟩ (.slice ya t.a.length yc)).cell? ⟨w.heap.size + 1, 0, none⟩ = some (.string t.n) := by go_simp
  have f1 : ((((w2.setCell ⟨w.heap.size + 1 + 1, 2, none⟩ (.slice ya t.a.length yc)).setCell ⟨w.heap.size + 1, 0, none⟩ (.string t.n)).setCell ⟨w.heap.size + 1, 1, none⟩ (.slice xa t.ps.length xc)).setCell ⟨w.heap.size + 1, 2, none⟩ (.slice ya t.a.length yc)).cell? ⟨w.heap.size + 1, 1, none⟩ = some (.slice xa t.ps.length xc) := by go_simp
  have f2 : ((((w2.setCell ⟨w.heap.size + 1 + 1, 2, none⟩ (.slice ya t.a.length yc)).setCell ⟨w.heap.size + 1, 0, none⟩ (.string t.n)).setCell ⟨w.heap.size + 1, 1, none⟩ (.slice xa t.ps.length xc)).setCell ⟨w.heap.size + 1, 2, none⟩ (.slice ya t.a.length yc)).cell? ⟨w.heap.size + 1, 2, none⟩ = some (.slice ya t.a.length yc) := by go_simp
  refine bodyPost_ret (v := fuV t (.slice xa t.ps.length xc) (.slice ya t.a.length yc)) ?_ rfl ⟨_, _, rfl, ?_, ?_, ?_⟩
  · generalize ((((w2.setCell ⟨w.heap.size + 1 + 1, 2, none⟩ (.slice ya t.a.length yc)).setCell ⟨w.heap.size + 1, 0, none⟩ (.string t.n)).setCell ⟨w.heap.size + 1, 1, none⟩ (.slice xa t.ps.length xc)).setCell ⟨w.heap.size + 1, 2, none⟩ (.slice ya t.a.length yc)) = W at f0 f1 f2
    simp [results, Tryz.results42, go_sem, f0, f1, f2]
  · exact ((((HRX2.out.nfset (by simp <;> omega) _).nfset (by simp <;> omega) _).nfset (by simp <;> omega) _).nfset (by simp <;> omega) _).imp (fun b hb _ => ⟨by have := hb.1; omega, hb.2⟩)
  · exact ((((HRY.out.nfset (by simp <;> omega) _).nfset (by simp <;> omega) _).nfset (by simp <;> omega) _).nfset (by simp <;> omega) _).imp (fun b hb _ => ⟨by have := hb.1; omega, hb.2⟩)
  · exact ((((B2.out.setCell (by simp <;> omega) _).setCell (by simp <;> omega) _).setCell (by simp <;> omega) _).setCell (by simp <;> omega) _)

/-- The first k of such a row are laid. -/
def FilU (wr : World) (g : Nat) (e : TypeId) (l : List Ru) (k : Nat) : Prop :=
  ∃ (xs : List Value) (X Y : Nat → Value), wr.ownsRow g e 6 (.slice (some ⟨g, 0, none⟩) l.length l.length) l.length xs ∧
    ∀ i (h : i < l.length), i < k → (xs[i * 6]? = some (.int .i64 l[i].k) ∧ xs[i * 6 + 1]? = some (.int .i64 l[i].p.k) ∧ xs[i * 6 + 2]? = some (.int .i64 l[i].p.n) ∧ xs[i * 6 + 3]? = some (.string l[i].p.s) ∧ xs[i * 6 + 4]? = some (X i) ∧ xs[i * 6 + 5]? = some (Y i)) ∧ El wr (nf wr (g + 1)) l[i].p.l (X i) ∧ Sl wr (nf wr (g + 1)) l[i].a (Y i)
theorem FilU.grow {w w' : World} {g : Nat} {e : TypeId} {l : List Ru} {k : Nat} (h : FilU w g e l k) (hk : Below w.heap.size w w') : FilU w' g e l k := by
  obtain ⟨xs, X, Y, ho, hr⟩ := h
  exact ⟨xs, X, Y, own_grow ho hk, fun i h1 h2 => ⟨(hr i h1 h2).1, (hr i h1 h2).2.1.nfgrow hk, (hr i h1 h2).2.2.nfgrow hk⟩⟩
theorem FilU.step {w : World} {g : Nat} {e : TypeId} {l : List Ru} {k : Nat} (h : FilU w g e l k) (hk : k < l.length) {u v : Value} (hx : El w (nf w (g + 1)) l[k].p.l u) (hy : Sl w (nf w (g + 1)) l[k].a v) :
    FilU ((((((w.setCell ⟨g, k * 6, none⟩ (.int .i64 l[k].k)).setCell ⟨g, k * 6 + 1, none⟩ (.int .i64 l[k].p.k)).setCell ⟨g, k * 6 + 2, none⟩ (.int .i64 l[k].p.n)).setCell ⟨g, k * 6 + 3, none⟩ (.string l[k].p.s)).setCell ⟨g, k * 6 + 4, none⟩ u).setCell ⟨g, k * 6 + 5, none⟩ v) g e l (k + 1) := by
  obtain ⟨xs, X, Y, ho, hr⟩ := h
  have o1 := (ho.stored (k * 6) (.int .i64 l[k].k)).1
  have o2 := (o1.stored (k * 6 + 1) (.int .i64 l[k].p.k)).1
  have o3 := (o2.stored (k * 6 + 2) (.int .i64 l[k].p.n)).1
  have o4 := (o3.stored (k * 6 + 3) (.string l[k].p.s)).1
  have o5 := (o4.stored (k * 6 + 4) u).1
  have o6 := (o5.stored (k * 6 + 5) v).1
  have hl : xs.length = l.length * 6 := ho.1
  refine ⟨_, fun i => if i = k then u else X i, fun i => if i = k then v else Y i, o6, fun i hi hik => ?_⟩
  have hn : g < g + 1 := by omega
  by_cases he : i = k
  · subst he
    simp only [if_true]
    refine ⟨⟨?_, ?_, ?_, ?_, ?_, ?_⟩, ((((((hx.nfset hn _).nfset hn _).nfset hn _).nfset hn _).nfset hn _).nfset hn _), ((((((hy.nfset hn _).nfset hn _).nfset hn _).nfset hn _).nfset hn _).nfset hn _)⟩
    · rw [List.getElem?_set_ne (by omega), List.getElem?_set_ne (by omega), List.getElem?_set_ne (by omega), List.getElem?_set_ne (by omega), List.getElem?_set_ne (by omega), List.getElem?_set_self (by omega)]
    · rw [List.getElem?_set_ne (by omega), List.getElem?_set_ne (by omega), List.getElem?_set_ne (by omega), List.getElem?_set_ne (by omega), List.getElem?_set_self (by simp; omega)]
    · rw [List.getElem?_set_ne (by omega), List.getElem?_set_ne (by omega), List.getElem?_set_ne (by omega), List.getElem?_set_self (by simp; omega)]
    · rw [List.getElem?_set_ne (by omega), List.getElem?_set_ne (by omega), List.getElem?_set_self (by simp; omega)]
    · rw [List.getElem?_set_ne (by omega), List.getElem?_set_self (by simp; omega)]
    · rw [List.getElem?_set_self (by simp; omega)]
  · obtain ⟨⟨x0, x1, x2, x3, x4, x5⟩, y1, y2⟩ := hr i hi (by omega)
    simp only [if_neg he]
    refine ⟨⟨?_, ?_, ?_, ?_, ?_, ?_⟩, ((((((y1.nfset hn _).nfset hn _).nfset hn _).nfset hn _).nfset hn _).nfset hn _), ((((((y2.nfset hn _).nfset hn _).nfset hn _).nfset hn _).nfset hn _).nfset hn _)⟩
    · rw [List.getElem?_set_ne (by omega), List.getElem?_set_ne (by omega), List.getElem?_set_ne (by omega), List.getElem?_set_ne (by omega), List.getElem?_set_ne (by omega), List.getElem?_set_ne (by omega)]; exact x0
    · rw [List.getElem?_set_ne (by omega), List.getElem?_set_ne (by omega), List.getElem?_set_ne (by omega), List.getElem?_set_ne (by omega), List.getElem?_set_ne (by omega), List.getElem?_set_ne (by omega)]; exact x1
    · rw [List.getElem?_set_ne (by omega), List.getElem?_set_ne (by omega), List.getElem?_set_ne (by omega), List.getElem?_set_ne (by omega), List.getElem?_set_ne (by omega), List.getElem?_set_ne (by omega)]; exact x2
    · rw [List.getElem?_set_ne (by omega), List.getElem?_set_ne (by omega), List.getElem?_set_ne (by omega), List.getElem?_set_ne (by omega), List.getElem?_set_ne (by omega), List.getElem?_set_ne (by omega)]; exact x3
    · rw [List.getElem?_set_ne (by omega), List.getElem?_set_ne (by omega), List.getElem?_set_ne (by omega), List.getElem?_set_ne (by omega), List.getElem?_set_ne (by omega), List.getElem?_set_ne (by omega)]; exact x4
    · rw [List.getElem?_set_ne (by omega), List.getElem?_set_ne (by omega), List.getElem?_set_ne (by omega), List.getElem?_set_ne (by omega), List.getElem?_set_ne (by omega), List.getElem?_set_ne (by omega)]; exact x5
theorem FilU.whole {w : World} {g : Nat} {e : TypeId} {l : List Ru} (h : FilU w g e l l.length) (hm : l.length ≤ maxLen) (hs : ∀ i (h : i < l.length), l[i].p.s.size ≤ maxLen) :
    Ul w (nf w g) l (.slice (some ⟨g, 0, none⟩) l.length l.length) := by
  obtain ⟨xs, X, Y, ho, hr⟩ := h
  refine ⟨some ⟨g, 0, none⟩, l.length, rfl, Nat.le_refl _, hm, (fun h => by cases h), fun hl => ⟨g, 0, X, Y, rfl, ⟨Nat.le_refl _, fun o => ho.frozenAt o⟩, fun i hi => ?_⟩⟩
  obtain ⟨⟨x0, x1, x2, x3, x4, x5⟩, y1, y2⟩ := hr i hi hi
  rw [Nat.zero_add]
  exact ⟨⟨by rw [ho.cellAt _ (by omega), x0], by rw [ho.cellAt _ (by omega), x1], by rw [ho.cellAt _ (by omega), x2], by rw [ho.cellAt _ (by omega), x3], by rw [ho.cellAt _ (by omega), x4], by rw [ho.cellAt _ (by omega), x5]⟩, y1.imp fun b hb _ => ⟨by have := hb.1; omega, hb.2⟩, y2.imp fun b hb _ => ⟨by have := hb.1; omega, hb.2⟩, hs i hi⟩

theorem infoRule : (Tryz.prog.info? 44).map (fun i => (i.zero, i.size, i.bytes)) = some (some (.agg #[.int .i64 0, .int .i64 0, .int .i64 0, .string ⟨#[]⟩, .slice none 0 0, .slice none 0 0]), 6, 88) := by kernel_rfl

set_option maxHeartbeats 1000000 in
theorem toRuleS_any (l : List Ru) (B : Nat → Prop) (v : Value) (w : World) (h : Ul w B l v) (hsz : gsz Ru.sz l ≤ 1048576) :
    Calls Tryz.prog 19 #[v] w fun e w' => ∃ u, e = .returned u ∧ Ul w' (nf w' w.heap.size) l u ∧ Below w.heap.size w w' := by
  have hS : l ≠ [] → ∀ i (h : i < l.length), l[i].p.s.size ≤ maxLen := by
    intro hl i hi
    obtain ⟨ao, cap, rfl, -⟩ := h.len
    obtain ⟨_, _, _, _, _, hel⟩ := h.elems hl
    exact (hel i hi).2.2.2
  obtain ⟨ao, cap, rfl, hl1, hl2, hl3⟩ := h.len
  have hlen := gsz_length Ru.sz l
  obtain ⟨i0, hi, hz0, hz1, hz2⟩ := info_parts infoRule
  have HH := Hid.mk h
  have HS := Hid.mk hS
  have hln : l.length ≤ 1048576 := by omega
  clear h hl2 hS
  go_enter Tryz.func19, Tryz.ntmps19
  go_wp2_with (at_make; refine wpList_make_full _ rfl _ _ 28 rfl w.heap.size 44 i0 _ 6 Tryz.underlying28 hi hz0 hz1 _ _ _ _ l.length rfl rfl rfl rfl (by rw [hz2]; omega) (by unfold maxLen; omega) (by simp) ?_)
  intro w1 hown hgrow
  have hbel : Below w.heap.size w w1 := (Below.refl _ _).grown hgrow (Nat.le_refl _) (by simp)
  have hg1 : w.heap.size < w1.heap.size := (World.ownsRow.lt hown _ rfl).2
  have HF : FilU w1 w.heap.size 44 l 0 := ⟨_, fun _ => .bool true, fun _ => .bool true, hown, fun i _ h => absurd h (Nat.not_lt_zero i)⟩
  clear hgrow hown hi hz0 hz1 hz2
  go_wp2
  go_loopw [4] (fun i wr => ∃ (k : Nat), k ≤ l.length ∧ i = .int .i64 k ∧ Hid (FilU wr w.heap.size 44 l k) ∧ Below w.heap.size w wr ∧ w.heap.size < wr.heap.size) (fun i _ => l.length - (intOf i).toNat)
  case atStart => exact ⟨0, Nat.zero_le _, rfl, HF, hbel, hg1⟩
  case round =>
    obtain ⟨k, hk, rfl, HFr, hbelr, hgr⟩ := hrel
    clear HF hbel hg1
    by_cases hkl : k < l.length
    · obtain ⟨b, off, X, Y, rfl, hel⟩ := HH.out.elems (by intro hn; rw [hn] at hkl; simp at hkl)
      obtain ⟨h3, hx, hy, hss⟩ := hel k hkl
      have hsk : l[k].sz ≤ 1048576 := by have := gsz_mem Ru.sz (List.getElem_mem hkl); omega
      have HST := Hid.mk (fun (w2 : World) (u v : Value) (h1 : FilU w2 w.heap.size 44 l k) h2 h3 => h1.step hkl (u := u) (v := v) h2 h3)
      obtain ⟨t, ht⟩ : ∃ t, l[k] = t := ⟨_, rfl⟩
      rw [ht] at h3 hx hy hss hsk HST
      clear ht hel
      obtain ⟨c0, c1, c2, c3, c4, c5⟩ := h3.kept (w' := wr) (hbelr.block b (World.block_lt_of_cell? w _ h3.1))
      have HC := Hid.mk (toRule_any t B (X k) (Y k) wr (hx.grow hbelr) (hy.grow hbelr) hsk)
      have hi1 : (k : Int) < (l.length : Int) := by omega
      clear hx hy hss h3 HH
      go_wp2_with fail
      refine HC.out.mono ?_
      rintro e w2 ⟨u, v, rfl, hrx, hry, hb2⟩
      have HF2 := HFr.out.grow hb2
      have H3 := Hid.mk (HST.out w2 u v HF2 (hrx.imp fun b hb _ => ⟨by have := hb.1; omega, hb.2⟩) (hry.imp fun b hb _ => ⟨by have := hb.1; omega, hb.2⟩))
      have B2 := hbelr.trans (hb2.mono hbelr.size)
      have hg2 : w.heap.size < w2.heap.size := Nat.lt_of_lt_of_le hgr hb2.size
      obtain ⟨xs, _, _, hown2, -⟩ := HF2
      have hxl : xs.length = l.length * 6 := hown2.1
      have f0 := hown2.frozenAt (k * 6)
      have o0 := hown2.cellAt (k * 6) (by omega)
      obtain ⟨y0, e0⟩ : ∃ y, xs[k * 6]? = some y := ⟨_, List.getElem?_eq_getElem (by omega)⟩
      rw [e0] at o0
      have f1 := hown2.frozenAt (k * 6 + 1)
      have o1 := hown2.cellAt (k * 6 + 1) (by omega)
      obtain ⟨y1, e1⟩ : ∃ y, xs[k * 6 + 1]? = some y := ⟨_, List.getElem?_eq_getElem (by omega)⟩
      rw [e1] at o1
      have f2 := hown2.frozenAt (k * 6 + 2)
      have o2 := hown2.cellAt (k * 6 + 2) (by omega)
      obtain ⟨y2, e2⟩ : ∃ y, xs[k * 6 + 2]? = some y := ⟨_, List.getElem?_eq_getElem (by omega)⟩
      rw [e2] at o2
      have f3 := hown2.frozenAt (k * 6 + 3)
      have o3 := hown2.cellAt (k * 6 + 3) (by omega)
      obtain ⟨y3, e3⟩ : ∃ y, xs[k * 6 + 3]? = some y := ⟨_, List.getElem?_eq_getElem (by omega)⟩
      rw [e3] at o3
      have f4 := hown2.frozenAt (k * 6 + 4)
      have o4 := hown2.cellAt (k * 6 + 4) (by omega)
      obtain ⟨y4, e4⟩ : ∃ y, xs[k * 6 + 4]? = some y := ⟨_, List.getElem?_eq_getElem (by omega)⟩
      rw [e4] at o4
      have f5 := hown2.frozenAt (k * 6 + 5)
      have o5 := hown2.cellAt (k * 6 + 5) (by omega)
      obtain ⟨y5, e5⟩ : ∃ y, xs[k * 6 + 5]? = some y := ⟨_, List.getElem?_eq_getElem (by omega)⟩
      rw [e5] at o5
      clear e0 e1 e2 e3 e4 e5
      obtain ⟨xa, xc, rfl, -, -, -⟩ := hrx.len
      obtain ⟨ya, yc, rfl, -, -, -⟩ := hry.len
      have hk0 : 0 < l.length := by omega
      clear hown2 HFr HC HST hb2 hbelr hrx hry c0 c1 c2 c3 c4 c5 hxl
      go_wp2
      go_roundw
      case rel => exact ⟨k + 1, by omega, by go_num, H3, ((((((B2.setCell (Nat.le_refl _) _).setCell (Nat.le_refl _) _).setCell (Nat.le_refl _) _).setCell (Nat.le_refl _) _).setCell (Nat.le_refl _) _).setCell (Nat.le_refl _) _), by simpa using hg2⟩
      case measure => simp [intOf]; omega
    · have e : k = l.length := by omega
      subst e
      have HR := Hid.mk (fun hS => HFr.out.whole (by unfold maxLen; omega) hS)
      have HR2 : Hid (Ul wr (nf wr w.heap.size) l (.slice (some ⟨w.heap.size, 0, none⟩) l.length l.length)) := HR.out (by
        intro i hi
        exact HS.out (by intro hn; rw [hn] at hi; simp at hi) i hi)
      clear HR HFr HS HH
      go_wp2
      go_ret
      exact ⟨_, rfl, HR2.out, hbelr⟩

/-- The first k of such a row are laid. -/
def FilF2 (wr : World) (g : Nat) (e : TypeId) (l : List Fu) (k : Nat) : Prop :=
  ∃ (xs : List Value) (X Y : Nat → Value), wr.ownsRow g e 3 (.slice (some ⟨g, 0, none⟩) l.length l.length) l.length xs ∧
    ∀ i (h : i < l.length), i < k → (xs[i * 3]? = some (.string l[i].n) ∧ xs[i * 3 + 1]? = some (X i) ∧ xs[i * 3 + 2]? = some (Y i)) ∧ Tb wr (nf wr (g + 1)) (X i) l[i].ps ∧ Sl wr (nf wr (g + 1)) l[i].a (Y i)
theorem FilF2.grow {w w' : World} {g : Nat} {e : TypeId} {l : List Fu} {k : Nat} (h : FilF2 w g e l k) (hk : Below w.heap.size w w') : FilF2 w' g e l k := by
  obtain ⟨xs, X, Y, ho, hr⟩ := h
  exact ⟨xs, X, Y, own_grow ho hk, fun i h1 h2 => ⟨(hr i h1 h2).1, (hr i h1 h2).2.1.nfgrow hk, (hr i h1 h2).2.2.nfgrow hk⟩⟩
theorem FilF2.step {w : World} {g : Nat} {e : TypeId} {l : List Fu} {k : Nat} (h : FilF2 w g e l k) (hk : k < l.length) {u v : Value} (hx : Tb w (nf w (g + 1)) u l[k].ps) (hy : Sl w (nf w (g + 1)) l[k].a v) :
    FilF2 (((w.setCell ⟨g, k * 3, none⟩ (.string l[k].n)).setCell ⟨g, k * 3 + 1, none⟩ u).setCell ⟨g, k * 3 + 2, none⟩ v) g e l (k + 1) := by
  obtain ⟨xs, X, Y, ho, hr⟩ := h
  have o1 := (ho.stored (k * 3) (.string l[k].n)).1
  have o2 := (o1.stored (k * 3 + 1) u).1
  have o3 := (o2.stored (k * 3 + 2) v).1
  have hl : xs.length = l.length * 3 := ho.1
  refine ⟨_, fun i => if i = k then u else X i, fun i => if i = k then v else Y i, o3, fun i hi hik => ?_⟩
  have hn : g < g + 1 := by omega
  by_cases he : i = k
  · subst he
    simp only [if_true]
    refine ⟨⟨?_, ?_, ?_⟩, (((hx.nfset hn _).nfset hn _).nfset hn _), (((hy.nfset hn _).nfset hn _).nfset hn _)⟩
    · rw [List.getElem?_set_ne (by omega), List.getElem?_set_ne (by omega), List.getElem?_set_self (by omega)]
    · rw [List.getElem?_set_ne (by omega), List.getElem?_set_self (by simp; omega)]
    · rw [List.getElem?_set_self (by simp; omega)]
  · obtain ⟨⟨x0, x1, x2⟩, y1, y2⟩ := hr i hi (by omega)
    simp only [if_neg he]
    refine ⟨⟨?_, ?_, ?_⟩, (((y1.nfset hn _).nfset hn _).nfset hn _), (((y2.nfset hn _).nfset hn _).nfset hn _)⟩
    · rw [List.getElem?_set_ne (by omega), List.getElem?_set_ne (by omega), List.getElem?_set_ne (by omega)]; exact x0
    · rw [List.getElem?_set_ne (by omega), List.getElem?_set_ne (by omega), List.getElem?_set_ne (by omega)]; exact x1
    · rw [List.getElem?_set_ne (by omega), List.getElem?_set_ne (by omega), List.getElem?_set_ne (by omega)]; exact x2
theorem FilF2.whole {w : World} {g : Nat} {e : TypeId} {l : List Fu} (h : FilF2 w g e l l.length) (hm : l.length ≤ maxLen) (hs : ∀ i (h : i < l.length), l[i].n.size ≤ maxLen) :
    Fl w (nf w g) l (.slice (some ⟨g, 0, none⟩) l.length l.length) := by
  obtain ⟨xs, X, Y, ho, hr⟩ := h
  refine ⟨some ⟨g, 0, none⟩, l.length, rfl, Nat.le_refl _, hm, (fun h => by cases h), fun hl => ⟨g, 0, X, Y, rfl, ⟨Nat.le_refl _, fun o => ho.frozenAt o⟩, fun i hi => ?_⟩⟩
  obtain ⟨⟨x0, x1, x2⟩, y1, y2⟩ := hr i hi hi
  rw [Nat.zero_add]
  exact ⟨⟨by rw [ho.cellAt _ (by omega), x0], by rw [ho.cellAt _ (by omega), x1], by rw [ho.cellAt _ (by omega), x2]⟩, y1.imp fun b hb _ => ⟨by have := hb.1; omega, hb.2⟩, y2.imp fun b hb _ => ⟨by have := hb.1; omega, hb.2⟩, hs i hi⟩

theorem infoFn : (Tryz.prog.info? 47).map (fun i => (i.zero, i.size, i.bytes)) = some (some (.agg #[.string ⟨#[]⟩, .slice none 0 0, .slice none 0 0]), 3, 64) := by kernel_rfl

set_option maxHeartbeats 1000000 in
theorem toFnS_any (l : List Fu) (B : Nat → Prop) (v : Value) (w : World) (h : Fl w B l v) (hsz : gsz Fu.sz l ≤ 1048576) :
    Calls Tryz.prog 20 #[v] w fun e w' => ∃ u, e = .returned u ∧ Fl w' (nf w' w.heap.size) l u ∧ Below w.heap.size w w' := by
  have hS : l ≠ [] → ∀ i (h : i < l.length), l[i].n.size ≤ maxLen := by
    intro hl i hi
    obtain ⟨ao, cap, rfl, -⟩ := h.len
    obtain ⟨_, _, _, _, _, hel⟩ := h.elems hl
    exact (hel i hi).2.2.2
  obtain ⟨ao, cap, rfl, hl1, hl2, hl3⟩ := h.len
  have hlen := gsz_length Fu.sz l
  obtain ⟨i0, hi, hz0, hz1, hz2⟩ := info_parts infoFn
  have HH := Hid.mk h
  have HS := Hid.mk hS
  have hln : l.length ≤ 1048576 := by omega
  clear h hl2 hS
  go_enter Tryz.func20, Tryz.ntmps20
  go_wp2_with (at_make; refine wpList_make_full _ rfl _ _ 29 rfl w.heap.size 47 i0 _ 3 Tryz.underlying29 hi hz0 hz1 _ _ _ _ l.length rfl rfl rfl rfl (by rw [hz2]; omega) (by unfold maxLen; omega) (by simp) ?_)
  intro w1 hown hgrow
  have hbel : Below w.heap.size w w1 := (Below.refl _ _).grown hgrow (Nat.le_refl _) (by simp)
  have hg1 : w.heap.size < w1.heap.size := (World.ownsRow.lt hown _ rfl).2
  have HF : FilF2 w1 w.heap.size 47 l 0 := ⟨_, fun _ => .bool true, fun _ => .bool true, hown, fun i _ h => absurd h (Nat.not_lt_zero i)⟩
  clear hgrow hown hi hz0 hz1 hz2
  go_wp2
  go_loopw [4] (fun i wr => ∃ (k : Nat), k ≤ l.length ∧ i = .int .i64 k ∧ Hid (FilF2 wr w.heap.size 47 l k) ∧ Below w.heap.size w wr ∧ w.heap.size < wr.heap.size) (fun i _ => l.length - (intOf i).toNat)
  case atStart => exact ⟨0, Nat.zero_le _, rfl, HF, hbel, hg1⟩
  case round =>
    obtain ⟨k, hk, rfl, HFr, hbelr, hgr⟩ := hrel
    clear HF hbel hg1
    by_cases hkl : k < l.length
    · obtain ⟨b, off, X, Y, rfl, hel⟩ := HH.out.elems (by intro hn; rw [hn] at hkl; simp at hkl)
      obtain ⟨h3, hx, hy, hss⟩ := hel k hkl
      have hsk : l[k].sz ≤ 1048576 := by have := gsz_mem Fu.sz (List.getElem_mem hkl); omega
      have HST := Hid.mk (fun (w2 : World) (u v : Value) (h1 : FilF2 w2 w.heap.size 47 l k) h2 h3 => h1.step hkl (u := u) (v := v) h2 h3)
      obtain ⟨t, ht⟩ : ∃ t, l[k] = t := ⟨_, rfl⟩
      rw [ht] at h3 hx hy hss hsk HST
      clear ht hel
      obtain ⟨c0, c1, c2⟩ := h3.kept (w' := wr) (hbelr.block b (World.block_lt_of_cell? w _ h3.1))
      have HC := Hid.mk (toFn_any t B (X k) (Y k) wr (hx.grow hbelr) (hy.grow hbelr) hsk)
      have hi1 : (k : Int) < (l.length : Int) := by omega
      clear hx hy hss h3 HH
      go_wp2_with fail
      refine HC.out.mono ?_
      rintro e w2 ⟨u, v, rfl, hrx, hry, hb2⟩
      have HF2 := HFr.out.grow hb2
      have H3 := Hid.mk (HST.out w2 u v HF2 (hrx.imp fun b hb _ => ⟨by have := hb.1; omega, hb.2⟩) (hry.imp fun b hb _ => ⟨by have := hb.1; omega, hb.2⟩))
      have B2 := hbelr.trans (hb2.mono hbelr.size)
      have hg2 : w.heap.size < w2.heap.size := Nat.lt_of_lt_of_le hgr hb2.size
      obtain ⟨xs, _, _, hown2, -⟩ := HF2
      have hxl : xs.length = l.length * 3 := hown2.1
      have f0 := hown2.frozenAt (k * 3)
      have o0 := hown2.cellAt (k * 3) (by omega)
      obtain ⟨y0, e0⟩ : ∃ y, xs[k * 3]? = some y := ⟨_, List.getElem?_eq_getElem (by omega)⟩
      rw [e0] at o0
      have f1 := hown2.frozenAt (k * 3 + 1)
      have o1 := hown2.cellAt (k * 3 + 1) (by omega)
      obtain ⟨y1, e1⟩ : ∃ y, xs[k * 3 + 1]? = some y := ⟨_, List.getElem?_eq_getElem (by omega)⟩
      rw [e1] at o1
      have f2 := hown2.frozenAt (k * 3 + 2)
      have o2 := hown2.cellAt (k * 3 + 2) (by omega)
      obtain ⟨y2, e2⟩ : ∃ y, xs[k * 3 + 2]? = some y := ⟨_, List.getElem?_eq_getElem (by omega)⟩
      rw [e2] at o2
      clear e0 e1 e2
      obtain ⟨xa, xc, rfl, -, -, -⟩ := hrx.len
      obtain ⟨ya, yc, rfl, -, -, -⟩ := hry.len
      have hk0 : 0 < l.length := by omega
      clear hown2 HFr HC HST hb2 hbelr hrx hry c0 c1 c2 hxl
      go_wp2
      go_roundw
      case rel => exact ⟨k + 1, by omega, by go_num, H3, (((B2.setCell (Nat.le_refl _) _).setCell (Nat.le_refl _) _).setCell (Nat.le_refl _) _), by simpa using hg2⟩
      case measure => simp [intOf]; omega
    · have e : k = l.length := by omega
      subst e
      have HR := Hid.mk (fun hS => HFr.out.whole (by unfold maxLen; omega) hS)
      have HR2 : Hid (Fl wr (nf wr w.heap.size) l (.slice (some ⟨w.heap.size, 0, none⟩) l.length l.length)) := HR.out (by
        intro i hi
        exact HS.out (by intro hn; rw [hn] at hi; simp at hi) i hi)
      clear HR HFr HS HH
      go_wp2
      go_ret
      exact ⟨_, rfl, HR2.out, hbelr⟩

set_option maxHeartbeats 1000000 in
theorem toProg_any (t : Pg) (B : Nat → Prop) (x y : Value) (w : World) (hx : Ul w B t.r x) (hy : Fl w B t.f y) (hs : t.sz ≤ 1048576) :
    Calls Tryz.prog 7 #[pgV x y] w fun e w' => ∃ u v, e = .returned (pgV u v) ∧ Ul w' (nf w' (w.heap.size + 1)) t.r u ∧ Fl w' (nf w' (w.heap.size + 1)) t.f v ∧ Below w.heap.size w w' := by
  have hz : t.sz = gsz Ru.sz t.r + gsz Fu.sz t.f := rfl
  have HX := Hid.mk (fun (w' : World) (hw : Below w.heap.size w w') => toRuleS_any t.r B _ w' (hx.grow hw) (by omega))
  have HY := Hid.mk (fun (w' : World) (hw : Below w.heap.size w w') => toFnS_any t.f B _ w' (hy.grow hw) (by omega))
  obtain ⟨xo, xcap, rfl, -, -, -⟩ := hx.len
  obtain ⟨yo, ycap, rfl, -, -, -⟩ := hy.len
  clear hx hy
  go_enter Tryz.func7, Tryz.ntmps7
  go_wp2_with fail
  refine (HX.out _ ?_).mono ?_
  · exact ((((Below.refl _ _).alloc (Nat.le_refl _) _).alloc (by simp) _).alloc (by simp <;> omega) _)
  rintro e w1 ⟨u1, rfl, hrx, hb1⟩
  have ha1 := fun o => hb1.cell (p := ⟨w.heap.size, o, none⟩) (by simp <;> omega)
  have hc1 := fun o => hb1.cell (p := ⟨w.heap.size + 1, o, none⟩) (by simp)
  have hd1 := fun o => hb1.cell (p := ⟨w.heap.size + 1 + 1, o, none⟩) (by simp)
  have hf1 := fun o => hb1.frozen (p := ⟨w.heap.size + 1, o, none⟩) (by simp)
  have hg1 := fun o => hb1.frozen (p := ⟨w.heap.size + 1 + 1, o, none⟩) (by simp)
  have s1 : w.heap.size + 3 ≤ w1.heap.size := by have := hb1.size; simp at this; omega
  have B1 : Hid (Below w.heap.size w w1) := ((((Below.refl _ _).alloc (Nat.le_refl _) _).alloc (by simp) _).alloc (by simp <;> omega) _).trans (hb1.mono (by simp <;> omega))
  have HRX := Hid.mk (hrx.imp (C := nf w1 (w.heap.size + 3)) fun b hb _ => ⟨by have := hb.1; simp at this; omega, hb.2⟩)
  obtain ⟨xa, xc, rfl, -, -, -⟩ := HRX.out.len
  clear hrx hb1 HX
  go_wp2_with fail
  refine (HY.out _ ((B1.out.setCell (by simp <;> omega) _))).mono ?_
  rintro e w2 ⟨u2, rfl, hry, hb2⟩
  have hc2 := fun o => hb2.cell (p := ⟨w.heap.size + 1, o, none⟩) (by simp <;> omega)
  have hd2 := fun o => hb2.cell (p := ⟨w.heap.size + 1 + 1, o, none⟩) (by simp <;> omega)
  have hf2 := fun o => hb2.frozen (p := ⟨w.heap.size + 1, o, none⟩) (by simp <;> omega)
  have hg2 := fun o => hb2.frozen (p := ⟨w.heap.size + 1 + 1, o, none⟩) (by simp <;> omega)
  have s2 : w.heap.size + 3 ≤ w2.heap.size := by have := hb2.size; simp at this; omega
  have B2 : Hid (Below w.heap.size w w2) := ((B1.out.setCell (by simp <;> omega) _)).trans (hb2.mono (by simp <;> omega))
  have HRX2 := Hid.mk ((HRX.out.nfset (a := ⟨w.heap.size + 1 + 1, 0, none⟩) (by simp <;> omega) (.slice xa t.r.length xc)).nfgrow hb2)
  have HRY := Hid.mk (hry.imp (C := nf w2 (w.heap.size + 3)) fun b hb _ => ⟨by have := hb.1; simp at this; omega, hb.2⟩)
  obtain ⟨ya, yc, rfl, -, -, -⟩ := HRY.out.len
  clear hry hb2 HY HRX B1
  have v0 : w2.cell? ⟨w.heap.size + 1 + 1, 0, none⟩ = some (.slice xa t.r.length xc) := by go_simp
  have v1 : w2.cell? ⟨w.heap.size + 1 + 1, 1, none⟩ = some (.slice none 0 0) := by go_simp
  have r0 : w2.cell? ⟨w.heap.size + 1, 0, none⟩ = some (.slice none 0 0) := by go_simp
  have r1 : w2.cell? ⟨w.heap.size + 1, 1, none⟩ = some (.slice none 0 0) := by go_simp
  have q1 : ∀ o, w2.frozen? ⟨w.heap.size + 1, o, none⟩ = false := by intro o; go_simp
  have q2 : ∀ o, w2.frozen? ⟨w.heap.size + 1 + 1, o, none⟩ = false := by intro o; go_simp
  clear ha1 hc1 hd1 hf1 hg1 hc2 hd2 hf2 hg2 s1
  go_wp2
  have f0 : (((w2.setCell ⟨w.heap.size + 1 + 1, 1, none⟩ (.slice ya t.f.length yc)).setCell ⟨w.heap.size + 1, 0, none⟩ (.slice xa t.r.length xc)).setCell ⟨w.heap.size + 1, 1, none⟩ (.slice ya t.f.length yc)).cell? ⟨w.heap.size + 1, 0, none⟩ = some (.slice xa t.r.length xc) := by go_simp
  have f1 : (((w2.setCell ⟨w.heap.size + 1 + 1, 1, none⟩ (.slice ya t.f.length yc)).setCell ⟨w.heap.size + 1, 0, none⟩ (.slice xa t.r.length xc)).setCell ⟨w.heap.size + 1, 1, none⟩ (.slice ya t.f.length yc)).cell? ⟨w.heap.size + 1, 1, none⟩ = some (.slice ya t.f.length yc) := by go_simp
  refine bodyPost_ret (v := pgV (.slice xa t.r.length xc) (.slice ya t.f.length yc)) ?_ rfl ⟨_, _, rfl, ?_, ?_, ?_⟩
  · generalize (((w2.setCell ⟨w.heap.size + 1 + 1, 1, none⟩ (.slice ya t.f.length yc)).setCell ⟨w.heap.size + 1, 0, none⟩ (.slice xa t.r.length xc)).setCell ⟨w.heap.size + 1, 1, none⟩ (.slice ya t.f.length yc)) = W at f0 f1
    simp [results, Tryz.results7, go_sem, f0, f1]
  · exact (((HRX2.out.nfset (by simp <;> omega) _).nfset (by simp <;> omega) _).nfset (by simp <;> omega) _).imp (fun b hb _ => ⟨by have := hb.1; omega, hb.2⟩)
  · exact (((HRY.out.nfset (by simp <;> omega) _).nfset (by simp <;> omega) _).nfset (by simp <;> omega) _).imp (fun b hb _ => ⟨by have := hb.1; omega, hb.2⟩)
  · exact (((B2.out.setCell (by simp <;> omega) _).setCell (by simp <;> omega) _).setCell (by simp <;> omega) _)

end Go.Proofs.YtgigalcajgjpnaaGreat

namespace Go.Proofs.YtgigalcajgjpnaaGreat
open Go.RowKit
set_option maxRecDepth 8000

def EqY (l : List St) : Prop := ∀ (B C : Nat → Prop) (v u : Value) (w : World), Sl w B l v → Sl w C l u →
  Calls Tryz.prog 81 #[v, u] w fun e w' => e = .returned (.bool true) ∧ Below w.heap.size w w'

set_option maxHeartbeats 1000000 in
theorem eqStmt_of (t : St) (iha : EqY t.a) (ihb : EqY t.b) (B C : Nat → Prop) (vx va vb ux ua ub : Value) (w : World) (hx : El w B t.x vx) (ha : Sl w B t.a va) (hb : Sl w B t.b vb) (hx' : El w C t.x ux) (ha' : Sl w C t.a ua) (hb' : Sl w C t.b ub) :
    Calls Tryz.prog 107 #[st t.k t.s t.t vx va vb, st t.k t.s t.t ux ua ub] w fun e w' => e = .returned (.bool true) ∧ Below w.heap.size w w' := by
  obtain ⟨k, hk⟩ : ∃ k, t.k = k := ⟨_, rfl⟩
  obtain ⟨s, hsn⟩ : ∃ s, t.s = s := ⟨_, rfl⟩
  obtain ⟨u, hun⟩ : ∃ u, t.t = u := ⟨_, rfl⟩
  obtain ⟨x, hxn⟩ : ∃ x, t.x = x := ⟨_, rfl⟩
  obtain ⟨a, han⟩ : ∃ a, t.a = a := ⟨_, rfl⟩
  obtain ⟨b, hbn⟩ : ∃ b, t.b = b := ⟨_, rfl⟩
  rw [hk, hsn, hun]
  rw [hxn] at hx hx'
  rw [han] at ha ha' iha
  rw [hbn] at hb hb' ihb
  clear hk hsn hun hxn han hbn
  have HX := Hid.mk (fun (w' : World) (hw : Below w.heap.size w w') => eqExprS_any x B C vx ux w' (hx.grow hw) (hx'.grow hw))
  have HA := Hid.mk (fun (w' : World) (hw : Below w.heap.size w w') => iha B C va ua w' (ha.grow hw) (ha'.grow hw))
  have HB := Hid.mk (fun (w' : World) (hw : Below w.heap.size w w') => ihb B C vb ub w' (hb.grow hw) (hb'.grow hw))
  obtain ⟨xo, xc, rfl, -, -, -⟩ := hx.len
  obtain ⟨xo', xc', rfl, -, -, -⟩ := hx'.len
  obtain ⟨ao, ac, rfl, -, -, -⟩ := ha.len
  obtain ⟨ao', ac', rfl, -, -, -⟩ := ha'.len
  obtain ⟨bo, bc, rfl, -, -, -⟩ := hb.len
  obtain ⟨bo', bc', rfl, -, -, -⟩ := hb'.len
  have B0 : Below w.heap.size w ((w.alloc (.cells #[.int .i64 k, .string s, .string u, .slice xo x.length xc, .slice ao a.length ac, .slice bo b.length bc] 80)).alloc (.cells #[.int .i64 k, .string s, .string u, .slice xo' x.length xc', .slice ao' a.length ac', .slice bo' b.length bc'] 80)) := ((Below.refl _ _).alloc (Nat.le_refl _) _).alloc (by simp) _
  have hkk : (k != k) = false := by simp
  have hss : (s.toList != s.toList) = false := by simp
  have huu : (u.toList != u.toList) = false := by simp
  clear hx hx' ha ha' hb hb' iha ihb
  go_enter Tryz.func107, Tryz.ntmps107
  go_wp2_with fail
  refine (HX.out _ B0).mono ?_
  rintro e w1 ⟨rfl, hb1⟩
  have B1 := B0.trans (hb1.mono (by simp; omega))
  have hc1 := fun o => hb1.cell (p := ⟨w.heap.size, o, none⟩) (by simp; omega)
  have hd1 := fun o => hb1.cell (p := ⟨w.heap.size + 1, o, none⟩) (by simp)
  have s1 : w.heap.size + 2 ≤ w1.heap.size := by have := hb1.size; simp at this; omega
  clear B0 hb1 HX
  go_wp2_with fail
  refine (HA.out _ B1).mono ?_
  rintro e w2 ⟨rfl, hb2⟩
  have B2 := B1.trans (hb2.mono (by omega))
  have hc2 := fun o => hb2.cell (p := ⟨w.heap.size, o, none⟩) (by simp; omega)
  have hd2 := fun o => hb2.cell (p := ⟨w.heap.size + 1, o, none⟩) (by simp; omega)
  have s2 : w.heap.size + 2 ≤ w2.heap.size := Nat.le_trans s1 hb2.size
  clear B1 hb2 HA
  go_wp2_with fail
  refine (HB.out _ B2).mono ?_
  rintro e w3 ⟨rfl, hb3⟩
  have B3 := B2.trans (hb3.mono (by omega))
  clear B2 hb3 HB hc1 hd1 hc2 hd2
  go_wp2
  go_ret
  exact ⟨rfl, B3⟩

set_option maxHeartbeats 1000000 in
theorem eqStmtS_step (l : List St) (ih : ∀ x ∈ l, EqY x.a ∧ EqY x.b) : EqY l := by
  intro B C v u w h h'
  obtain ⟨ao, cap, rfl, hl1, hl2, hl3⟩ := h.len
  obtain ⟨ao', cap', rfl, hl1', hl2', hl3'⟩ := h'.len
  have hm : cap ≤ 9223372036854775807 := by unfold maxLen at hl2; omega
  have HI := Hid.mk ih
  have H1 := Hid.mk h
  have H2 := Hid.mk h'
  clear ih h h' hl2 hl2'
  go_enter Tryz.func81, Tryz.ntmps81
  go_wp2
  go_loopw [5] (fun i wr => ∃ (k : Nat), k ≤ l.length ∧ i = .int .i64 k ∧ Below w.heap.size w wr) (fun i _ => l.length - (intOf i).toNat)
  case atStart => exact ⟨0, Nat.zero_le _, rfl, Below.refl _ _⟩
  case round =>
    obtain ⟨k, hk, rfl, hbel⟩ := hrel
    by_cases hkl : k < l.length
    · obtain ⟨b, off, X, Y, Z, rfl, hel⟩ := H1.out.elems (by intro hn; rw [hn] at hkl; simp at hkl)
      obtain ⟨b', off', X', Y', Z', rfl, hel'⟩ := H2.out.elems (by intro hn; rw [hn] at hkl; simp at hkl)
      obtain ⟨h3, hx, ha, hz, -⟩ := hel k hkl
      obtain ⟨h3', hx', ha', hz', -⟩ := hel' k hkl
      have hsz := HI.out _ (List.getElem_mem hkl)
      obtain ⟨t, ht⟩ : ∃ t, l[k] = t := ⟨_, rfl⟩
      rw [ht] at h3 hx ha hz h3' hx' ha' hz' hsz
      clear ht hel hel'
      obtain ⟨c0, c1, c2, c3, c4, c5⟩ := h3.kept (w' := wr) (hbel.block b (World.block_lt_of_cell? w _ h3.1))
      obtain ⟨d0, d1, d2, d3, d4, d5⟩ := h3'.kept (w' := wr) (hbel.block b' (World.block_lt_of_cell? w _ h3'.1))
      have a0 := cell_regrown c0
      have a1 := cell_regrown c1
      have a2 := cell_regrown c2
      have a3 := cell_regrown c3
      have a4 := cell_regrown c4
      have a5 := cell_regrown c5
      have b0 := cell_regrown d0
      have b1 := cell_regrown d1
      have b2 := cell_regrown d2
      have b3 := cell_regrown d3
      have b4 := cell_regrown d4
      have b5 := cell_regrown d5
      have cA := Hid.mk (fun d os => Calls.regrown_of (w := wr) (d := d) (os := os) (eqStmt_of t hsz.1 hsz.2 B C (X k) (Y k) (Z k) (X' k) (Y' k) (Z' k) _ ((hx.grow hbel).grow (below_regrown wr d os)) ((ha.grow hbel).grow (below_regrown wr d os)) ((hz.grow hbel).grow (below_regrown wr d os)) ((hx'.grow hbel).grow (below_regrown wr d os)) ((ha'.grow hbel).grow (below_regrown wr d os)) ((hz'.grow hbel).grow (below_regrown wr d os))))
      have hi1 : (k : Int) < (l.length : Int) := by omega
      clear hx ha hz hx' ha' hz' hsz h3 h3' c0 c1 c2 c3 c4 c5 d0 d1 d2 d3 d4 d5
      go_wp2_with fail
      refine wp_region_quiet_below (by kernel_rfl) (by kernel_rfl) ?_
      quiet_step (fail)
      quiet_step (fail)
      quiet_step (fail)
      quiet_step (fail)
      quiet_step (fail)
      quiet_step (fail)
      quiet_step (fail)
      quiet_step (fail)
      quiet_step (exact cA.out _ _)
      quiet_step (fail)
      refine wpQuiet_nil ?_
      intro w6 hw'
      obtain ⟨⟨dq, osq⟩, hw''⟩ := hw'
      have hb6 : Below wr.heap.size wr w6 := by rw [hw'']; exact below_regrown _ _ _
      have B6 := hbel.trans (hb6.mono hbel.size)
      clear hw'' a0 a1 a2 a3 a4 a5 b0 b1 b2 b3 b4 b5 cA hb6
      go_wp2
      go_roundw
      case rel => exact ⟨k + 1, by omega, by go_num, B6⟩
      case measure => simp [intOf]; omega
    · go_wp2
      go_ret
      exact ⟨rfl, hbel⟩

theorem eqStmtS_any (l : List St) : EqY l := (St.ind (P := fun t => EqY t.a ∧ EqY t.b) (fun t iha ihb => ⟨eqStmtS_step t.a iha, eqStmtS_step t.b ihb⟩) (.node 0 ⟨#[]⟩ ⟨#[]⟩ [] l [])).1
theorem eqStmt_any (t : St) (B C : Nat → Prop) (vx va vb ux ua ub : Value) (w : World) (hx : El w B t.x vx) (ha : Sl w B t.a va) (hb : Sl w B t.b vb) (hx' : El w C t.x ux) (ha' : Sl w C t.a ua) (hb' : Sl w C t.b ub) :
    Calls Tryz.prog 107 #[st t.k t.s t.t vx va vb, st t.k t.s t.t ux ua ub] w fun e w' => e = .returned (.bool true) ∧ Below w.heap.size w w' :=
  eqStmt_of t (eqStmtS_any t.a) (eqStmtS_any t.b) B C vx va vb ux ua ub w hx ha hb hx' ha' hb'
end Go.Proofs.YtgigalcajgjpnaaGreat

namespace Go.Proofs.YtgigalcajgjpnaaGreat
open Go.RowKit
set_option maxRecDepth 8000

theorem eqTexts_any (v v' : Value) (zs : List ByteArray) (B C : Nat → Prop) (w : World) (h : Tb w B v zs) (h' : Tb w C v' zs) :
    Calls Tryz.prog 82 #[v, v'] w fun e w' => e = .returned (.bool true) ∧ Below w.heap.size w w' := by
  refine (eqStringS_same v v' zs w h.tz h'.tz).mono ?_
  rintro e w' ⟨rfl, n, rfl⟩
  exact ⟨rfl, Below.drewSelf _ _ n⟩

set_option maxHeartbeats 1000000 in
theorem eqRule_any (t : Ru) (B C : Nat → Prop) (x y u v : Value) (w : World) (hx : El w B t.p.l x) (hy : Sl w B t.a y) (hu : El w C t.p.l u) (hv : Sl w C t.a v) :
    Calls Tryz.prog 49 #[ruV t x y, ruV t u v] w fun e w' => e = .returned (.bool true) ∧ Below w.heap.size w w' := by
  have HX := Hid.mk (fun (w' : World) (hw : Below w.heap.size w w') => eqExpr_any t.p B C x u w' (hx.grow hw) (hu.grow hw))
  have HY := Hid.mk (fun (w' : World) (hw : Below w.heap.size w w') => eqStmtS_any t.a B C y v w' (hy.grow hw) (hv.grow hw))
  obtain ⟨xo, xc, rfl, -, -, -⟩ := hx.len
  obtain ⟨yo, yc, rfl, -, -, -⟩ := hy.len
  obtain ⟨uo, uc, rfl, -, -, -⟩ := hu.len
  obtain ⟨vo, vc, rfl, -, -, -⟩ := hv.len
  have B0 : Below w.heap.size w ((w.alloc (.cells #[.int .i64 t.k, .int .i64 t.p.k, .int .i64 t.p.n, .string t.p.s, .slice xo t.p.l.length xc, .slice yo t.a.length yc] 44)).alloc (.cells #[.int .i64 t.k, .int .i64 t.p.k, .int .i64 t.p.n, .string t.p.s, .slice uo t.p.l.length uc, .slice vo t.a.length vc] 44)) := ((Below.refl _ _).alloc (Nat.le_refl _) _).alloc (by simp) _
  have hkk : (t.k != t.k) = false := by simp
  clear hx hy hu hv
  go_enter Tryz.func49, Tryz.ntmps49
  go_wp2_with fail
  refine (HX.out _ B0).mono ?_
  rintro e w1 ⟨rfl, hb1⟩
  have B1 := B0.trans (hb1.mono (by simp; omega))
  have hc1 := fun o => hb1.cell (p := ⟨w.heap.size, o, none⟩) (by simp <;> omega)
  have hd1 := fun o => hb1.cell (p := ⟨w.heap.size + 1, o, none⟩) (by simp)
  clear B0 hb1 HX
  go_wp2_with fail
  refine (HY.out _ B1).mono ?_
  rintro e w2 ⟨rfl, hb2⟩
  have B2 := B1.trans (hb2.mono B1.size)
  clear B1 hb2 HY hc1 hd1
  go_wp2
  go_ret
  exact ⟨rfl, B2⟩

set_option maxHeartbeats 1000000 in
theorem eqFn_any (t : Fu) (B C : Nat → Prop) (x y u v : Value) (w : World) (hx : Tb w B x t.ps) (hy : Sl w B t.a y) (hu : Tb w C u t.ps) (hv : Sl w C t.a v) :
    Calls Tryz.prog 50 #[fuV t x y, fuV t u v] w fun e w' => e = .returned (.bool true) ∧ Below w.heap.size w w' := by
  have HX := Hid.mk (fun (w' : World) (hw : Below w.heap.size w w') => eqTexts_any x u t.ps B C w' (hx.grow hw) (hu.grow hw))
  have HY := Hid.mk (fun (w' : World) (hw : Below w.heap.size w w') => eqStmtS_any t.a B C y v w' (hy.grow hw) (hv.grow hw))
  obtain ⟨xo, xc, rfl, -, -, -⟩ := hx.len
  obtain ⟨yo, yc, rfl, -, -, -⟩ := hy.len
  obtain ⟨uo, uc, rfl, -, -, -⟩ := hu.len
  obtain ⟨vo, vc, rfl, -, -, -⟩ := hv.len
  have B0 : Below w.heap.size w ((w.alloc (.cells #[.string t.n, .slice xo t.ps.length xc, .slice yo t.a.length yc] 47)).alloc (.cells #[.string t.n, .slice uo t.ps.length uc, .slice vo t.a.length vc] 47)) := ((Below.refl _ _).alloc (Nat.le_refl _) _).alloc (by simp) _
  have hss : (t.n.toList != t.n.toList) = false := by simp
  clear hx hy hu hv
  go_enter Tryz.func50, Tryz.ntmps50
  go_wp2_with fail
  refine (HX.out _ B0).mono ?_
  rintro e w1 ⟨rfl, hb1⟩
  have B1 := B0.trans (hb1.mono (by simp; omega))
  have hc1 := fun o => hb1.cell (p := ⟨w.heap.size, o, none⟩) (by simp <;> omega)
  have hd1 := fun o => hb1.cell (p := ⟨w.heap.size + 1, o, none⟩) (by simp)
  clear B0 hb1 HX
  go_wp2_with fail
  refine (HY.out _ B1).mono ?_
  rintro e w2 ⟨rfl, hb2⟩
  have B2 := B1.trans (hb2.mono B1.size)
  clear B1 hb2 HY hc1 hd1
  go_wp2
  go_ret
  exact ⟨rfl, B2⟩

set_option maxHeartbeats 1000000 in
theorem eqRuleS_any (l : List Ru) (B C : Nat → Prop) (v u : Value) (w : World) (h : Ul w B l v) (h' : Ul w C l u) :
    Calls Tryz.prog 27 #[v, u] w fun e w' => e = .returned (.bool true) ∧ Below w.heap.size w w' := by
  obtain ⟨ao, cap, rfl, hl1, hl2, hl3⟩ := h.len
  obtain ⟨ao', cap', rfl, hl1', hl2', hl3'⟩ := h'.len
  have hm : cap ≤ 9223372036854775807 := by unfold maxLen at hl2; omega
  have H1 := Hid.mk h
  have H2 := Hid.mk h'
  clear h h' hl2 hl2'
  go_enter Tryz.func27, Tryz.ntmps27
  go_wp2
  go_loopw [5] (fun i wr => ∃ (k : Nat), k ≤ l.length ∧ i = .int .i64 k ∧ Below w.heap.size w wr) (fun i _ => l.length - (intOf i).toNat)
  case atStart => exact ⟨0, Nat.zero_le _, rfl, Below.refl _ _⟩
  case round =>
    obtain ⟨k, hk, rfl, hbel⟩ := hrel
    by_cases hkl : k < l.length
    · obtain ⟨b, off, X, Y, rfl, hel⟩ := H1.out.elems (by intro hn; rw [hn] at hkl; simp at hkl)
      obtain ⟨b', off', X', Y', rfl, hel'⟩ := H2.out.elems (by intro hn; rw [hn] at hkl; simp at hkl)
      obtain ⟨h3, hx, hy, -⟩ := hel k hkl
      obtain ⟨h3', hx', hy', -⟩ := hel' k hkl
      obtain ⟨t, ht⟩ : ∃ t, l[k] = t := ⟨_, rfl⟩
      rw [ht] at h3 hx hy h3' hx' hy'
      clear ht hel hel'
      obtain ⟨c0, c1, c2, c3, c4, c5⟩ := h3.kept (w' := wr) (hbel.block b (World.block_lt_of_cell? w _ h3.1))
      obtain ⟨d0, d1, d2, d3, d4, d5⟩ := h3'.kept (w' := wr) (hbel.block b' (World.block_lt_of_cell? w _ h3'.1))
      have a0 := cell_regrown c0
      have b0 := cell_regrown d0
      have a1 := cell_regrown c1
      have b1 := cell_regrown d1
      have a2 := cell_regrown c2
      have b2 := cell_regrown d2
      have a3 := cell_regrown c3
      have b3 := cell_regrown d3
      have a4 := cell_regrown c4
      have b4 := cell_regrown d4
      have a5 := cell_regrown c5
      have b5 := cell_regrown d5
      have cA := Hid.mk (fun d os => Calls.regrown_of (w := wr) (d := d) (os := os) (eqRule_any t B C (X k) (Y k) (X' k) (Y' k) _ ((hx.grow hbel).grow (below_regrown wr d os)) ((hy.grow hbel).grow (below_regrown wr d os)) ((hx'.grow hbel).grow (below_regrown wr d os)) ((hy'.grow hbel).grow (below_regrown wr d os))))
      have hi1 : (k : Int) < (l.length : Int) := by omega
      clear hx hy hx' hy' h3 h3' c0 c1 c2 c3 c4 c5 d0 d1 d2 d3 d4 d5
      go_wp2_with fail
      refine wp_region_quiet_below (by kernel_rfl) (by kernel_rfl) ?_
      quiet_step (fail)
      quiet_step (fail)
      quiet_step (fail)
      quiet_step (fail)
      quiet_step (fail)
      quiet_step (fail)
      quiet_step (fail)
      quiet_step (fail)
      quiet_step (exact cA.out _ _)
      quiet_step (fail)
      refine wpQuiet_nil ?_
      intro w6 hw'
      obtain ⟨⟨dq, osq⟩, hw''⟩ := hw'
      have hb6 : Below wr.heap.size wr w6 := by rw [hw'']; exact below_regrown _ _ _
      have B6 := hbel.trans (hb6.mono hbel.size)
      clear hw'' a0 a1 a2 a3 a4 a5 b0 b1 b2 b3 b4 b5 cA hb6
      go_wp2
      go_roundw
      case rel => exact ⟨k + 1, by omega, by go_num, B6⟩
      case measure => simp [intOf]; omega
    · go_wp2
      go_ret
      exact ⟨rfl, hbel⟩

set_option maxHeartbeats 1000000 in
theorem eqFnS_any (l : List Fu) (B C : Nat → Prop) (v u : Value) (w : World) (h : Fl w B l v) (h' : Fl w C l u) :
    Calls Tryz.prog 28 #[v, u] w fun e w' => e = .returned (.bool true) ∧ Below w.heap.size w w' := by
  obtain ⟨ao, cap, rfl, hl1, hl2, hl3⟩ := h.len
  obtain ⟨ao', cap', rfl, hl1', hl2', hl3'⟩ := h'.len
  have hm : cap ≤ 9223372036854775807 := by unfold maxLen at hl2; omega
  have H1 := Hid.mk h
  have H2 := Hid.mk h'
  clear h h' hl2 hl2'
  go_enter Tryz.func28, Tryz.ntmps28
  go_wp2
  go_loopw [5] (fun i wr => ∃ (k : Nat), k ≤ l.length ∧ i = .int .i64 k ∧ Below w.heap.size w wr) (fun i _ => l.length - (intOf i).toNat)
  case atStart => exact ⟨0, Nat.zero_le _, rfl, Below.refl _ _⟩
  case round =>
    obtain ⟨k, hk, rfl, hbel⟩ := hrel
    by_cases hkl : k < l.length
    · obtain ⟨b, off, X, Y, rfl, hel⟩ := H1.out.elems (by intro hn; rw [hn] at hkl; simp at hkl)
      obtain ⟨b', off', X', Y', rfl, hel'⟩ := H2.out.elems (by intro hn; rw [hn] at hkl; simp at hkl)
      obtain ⟨h3, hx, hy, -⟩ := hel k hkl
      obtain ⟨h3', hx', hy', -⟩ := hel' k hkl
      obtain ⟨t, ht⟩ : ∃ t, l[k] = t := ⟨_, rfl⟩
      rw [ht] at h3 hx hy h3' hx' hy'
      clear ht hel hel'
      obtain ⟨c0, c1, c2⟩ := h3.kept (w' := wr) (hbel.block b (World.block_lt_of_cell? w _ h3.1))
      obtain ⟨d0, d1, d2⟩ := h3'.kept (w' := wr) (hbel.block b' (World.block_lt_of_cell? w _ h3'.1))
      have a0 := cell_regrown c0
      have b0 := cell_regrown d0
      have a1 := cell_regrown c1
      have b1 := cell_regrown d1
      have a2 := cell_regrown c2
      have b2 := cell_regrown d2
      have cA := Hid.mk (fun d os => Calls.regrown_of (w := wr) (d := d) (os := os) (eqFn_any t B C (X k) (Y k) (X' k) (Y' k) _ ((hx.grow hbel).grow (below_regrown wr d os)) ((hy.grow hbel).grow (below_regrown wr d os)) ((hx'.grow hbel).grow (below_regrown wr d os)) ((hy'.grow hbel).grow (below_regrown wr d os))))
      have hi1 : (k : Int) < (l.length : Int) := by omega
      clear hx hy hx' hy' h3 h3' c0 c1 c2 d0 d1 d2
      go_wp2_with fail
      refine wp_region_quiet_below (by kernel_rfl) (by kernel_rfl) ?_
      quiet_step (fail)
      quiet_step (fail)
      quiet_step (fail)
      quiet_step (fail)
      quiet_step (fail)
      quiet_step (fail)
      quiet_step (fail)
      quiet_step (fail)
      quiet_step (exact cA.out _ _)
      quiet_step (fail)
      refine wpQuiet_nil ?_
      intro w6 hw'
      obtain ⟨⟨dq, osq⟩, hw''⟩ := hw'
      have hb6 : Below wr.heap.size wr w6 := by rw [hw'']; exact below_regrown _ _ _
      have B6 := hbel.trans (hb6.mono hbel.size)
      clear hw'' a0 a1 a2 b0 b1 b2 cA hb6
      go_wp2
      go_roundw
      case rel => exact ⟨k + 1, by omega, by go_num, B6⟩
      case measure => simp [intOf]; omega
    · go_wp2
      go_ret
      exact ⟨rfl, hbel⟩

set_option maxHeartbeats 1000000 in
theorem eqProg_any (t : Pg) (B C : Nat → Prop) (x y u v : Value) (w : World) (hx : Ul w B t.r x) (hy : Fl w B t.f y) (hu : Ul w C t.r u) (hv : Fl w C t.f v) :
    Calls Tryz.prog 9 #[pgV x y, pgV u v] w fun e w' => e = .returned (.bool true) ∧ Below w.heap.size w w' := by
  have HX := Hid.mk (fun (w' : World) (hw : Below w.heap.size w w') => eqRuleS_any t.r B C x u w' (hx.grow hw) (hu.grow hw))
  have HY := Hid.mk (fun (w' : World) (hw : Below w.heap.size w w') => eqFnS_any t.f B C y v w' (hy.grow hw) (hv.grow hw))
  obtain ⟨xo, xc, rfl, -, -, -⟩ := hx.len
  obtain ⟨yo, yc, rfl, -, -, -⟩ := hy.len
  obtain ⟨uo, uc, rfl, -, -, -⟩ := hu.len
  obtain ⟨vo, vc, rfl, -, -, -⟩ := hv.len
  have B0 : Below w.heap.size w ((w.alloc (.cells #[.slice xo t.r.length xc, .slice yo t.f.length yc] 31)).alloc (.cells #[.slice uo t.r.length uc, .slice vo t.f.length vc] 31)) := ((Below.refl _ _).alloc (Nat.le_refl _) _).alloc (by simp) _
  clear hx hy hu hv
  go_enter Tryz.func9, Tryz.ntmps9
  go_wp2_with fail
  refine (HX.out _ B0).mono ?_
  rintro e w1 ⟨rfl, hb1⟩
  have B1 := B0.trans (hb1.mono (by simp; omega))
  have hc1 := fun o => hb1.cell (p := ⟨w.heap.size, o, none⟩) (by simp <;> omega)
  have hd1 := fun o => hb1.cell (p := ⟨w.heap.size + 1, o, none⟩) (by simp)
  clear B0 hb1 HX
  go_wp2_with fail
  refine (HY.out _ B1).mono ?_
  rintro e w2 ⟨rfl, hb2⟩
  have B2 := B1.trans (hb2.mono B1.size)
  clear B1 hb2 HY hc1 hd1
  go_wp2
  go_ret
  exact ⟨rfl, B2⟩

end Go.Proofs.YtgigalcajgjpnaaGreat

namespace Go.Proofs.YtgigalcajgjpnaaGreat
open Go.RowKit

theorem szx_mem {y : Ex} {l : List Ex} (h : y ∈ l) : y.sz ≤ szx l := by
  induction l with
  | nil => cases h
  | cons t r ih =>
    rw [szx]
    rcases List.mem_cons.1 h with rfl | h
    · omega
    · have := ih h; omega
theorem inX_sz {x t : Ex} (h : InX x t) : x.s.size ≤ t.sz := by
  induction h with
  | self => have := x.sz_eq; omega
  | @sub y t h hx ih =>
    have := szx_mem h
    have := t.sz_eq
    omega
end Go.Proofs.YtgigalcajgjpnaaGreat

namespace Go.Proofs.YtgigalcajgjpnaaGreat
open Go.RowKit

theorem inY_sz {y t : St} (h : InY y t) : y.sz ≤ t.sz := by
  induction h with
  | self => exact Nat.le_refl _
  | @sa y t h hx ih => have := szy_mem h; have := t.sz_eq; omega
  | @sb y t h hx ih => have := szy_mem h; have := t.sz_eq; omega
theorem shY_of {t : St} (h : t.sz ≤ 1048576) : ShY t := by
  intro y hy
  have h1 := inY_sz hy
  have h2 := y.sz_eq
  refine ⟨by omega, by omega, fun e he x hx => ?_⟩
  have h3 := szx_mem he
  have h4 := inX_sz hx
  omega
end Go.Proofs.YtgigalcajgjpnaaGreat

namespace Go.Proofs.YtgigalcajgjpnaaGreat
open Go.RowKit
set_option maxRecDepth 8000

theorem shPg_of {t : Pg} (h : t.sz ≤ 1048576) : ShPg t := by
  have h0 : t.sz = gsz Ru.sz t.r + gsz Fu.sz t.f := rfl
  refine ⟨fun r hr => ?_, fun f hf => ?_⟩
  · have h1 := gsz_mem Ru.sz hr
    have h2 : r.sz = r.p.sz + szy r.a := rfl
    refine ⟨fun x hx => ?_, fun y hy => shY_of ?_⟩
    · have := inX_sz hx; omega
    · have := szy_mem hy; omega
  · have h1 := gsz_mem Fu.sz hf
    have h2 : f.sz = f.n.size + gsz ByteArray.size f.ps + szy f.a := rfl
    intro y hy
    refine shY_of ?_
    have := szy_mem hy; omega

set_option maxHeartbeats 1000000 in
theorem fnExactProgOk_of (HI : ∀ (t : Pg) (ux ua : Value) (w : World), Ul w (uf w) t.r ux → Fl w (uf w) t.f ua → ShPg t → Calls Tryz.prog 8 #[pgV ux ua] w fun e w' => e = .returned (.bool (progB t)) ∧ Below w.heap.size w w') (t : Pg) (vx va : Value) (w : World) (hx : Ul w anyBlock t.r vx) (ha : Fl w anyBlock t.f va) :
    Calls Tryz.prog 3 #[pgV vx va] w fun e w' => e = .returned (.bool true) ∧ Below w.heap.size w w' := by
  have HS := Hid.mk (fun (w' : World) (hw : Below w.heap.size w w') => szProg_any t anyBlock vx va w' 1048576 (hx.grow hw) (ha.grow hw) (by omega) (by omega))
  have HT := Hid.mk (fun hz (w' : World) (hw : Below w.heap.size w w') => toProg_any t anyBlock vx va w' (hx.grow hw) (ha.grow hw) hz)
  have HSO := Hid.mk (fun (hz : ShPg t) (w' : World) (B : Nat → Prop) (ux ua : Value) (h1 : Ul w' B t.r ux) (h2 : Fl w' B t.f ua) => specProgOk_any t B ux ua w' h1 h2 hz)
  have HIO := Hid.mk (fun (hz : ShPg t) (w' : World) (ux ua : Value) (h1 : Ul w' (uf w') t.r ux) (h2 : Fl w' (uf w') t.f ua) => HI t ux ua w' h1 h2 hz)
  have HEQ := Hid.mk (fun (w' : World) (B C : Nat → Prop) (ux ua yx ya : Value) (h1 : Ul w' B t.r ux) (h2 : Fl w' B t.f ua) (g1 : Ul w' C t.r yx) (g2 : Fl w' C t.f ya) => eqProg_any t B C ux ua yx ya w' h1 h2 g1 g2)
  have HZ : Hid (¬ leftOf 1048576 t.sz < 0 → t.sz ≤ 1048576) := by
    intro h
    unfold leftOf at h
    split at h <;> omega
  have HZ2 : Hid (t.sz ≤ 1048576 → ShPg t) := shPg_of
  obtain ⟨m, hm⟩ : ∃ m, leftOf 1048576 t.sz = m := ⟨_, rfl⟩
  obtain ⟨r, hr⟩ : ∃ b, progB t = b := ⟨_, rfl⟩
  obtain ⟨x, hxn⟩ : ∃ x, t.r = x := ⟨_, rfl⟩
  obtain ⟨a, han⟩ : ∃ a, t.f = a := ⟨_, rfl⟩
  rw [hm] at HS
  rw [hxn, han] at HT
  rw [hxn, han, hr] at HSO HIO
  rw [hxn, han] at HEQ
  rw [hm] at HZ
  rw [hxn] at hx
  rw [han] at ha
  clear hm hr hxn han HI
  obtain ⟨xo, xc, rfl, -, -, -⟩ := hx.len
  obtain ⟨yo, yc, rfl, -, -, -⟩ := ha.len
  have B0 : Below w.heap.size w (w.alloc (.cells #[.slice xo x.length xc, .slice yo a.length yc] 25)) := (Below.refl _ _).alloc (Nat.le_refl _) _
  have hbb : (r != r) = false := by simp
  clear hx ha
  by_cases hm : m < 0
  · clear HT HSO HIO HEQ HZ HZ2
    go_enter Tryz.func3, Tryz.ntmps3
    go_wp2_with fail
    refine (HS.out _ B0).mono ?_
    rintro e w1 ⟨rfl, hb1⟩
    have B1 := B0.trans (hb1.mono (by simp))
    clear B0 hb1 HS
    go_wp2
    go_ret
    exact ⟨rfl, B1⟩
  · have HT' := Hid.mk (HT.out (HZ.out hm))
    have HSO := Hid.mk (HSO.out (HZ2.out (HZ.out hm)))
    have HIO := Hid.mk (HIO.out (HZ2.out (HZ.out hm)))
    clear HT HZ HZ2
    go_enter Tryz.func3, Tryz.ntmps3
    go_wp2_with fail
    refine (HS.out _ B0).mono ?_
    rintro e w1 ⟨rfl, hb1⟩
    have C1 : Hid (Below (w.heap.size + 1) (w.alloc (.cells #[.slice xo x.length xc, .slice yo a.length yc] 25)) w1) := hb1.mono (by simp)
    have s1 := hb1.size
    simp at s1
    have hc1 := fun o => C1.out.cell (p := ⟨w.heap.size, o, none⟩) (by simp)
    clear hb1 HS
    go_wp2_with fail
    refine (HT'.out _ (B0.trans (C1.out.mono (by omega)))).mono ?_
    rintro e w2 ⟨ux, ua, rfl, hrx2, hra2, hb2⟩
    have C2 : Hid (Below (w.heap.size + 1) (w.alloc (.cells #[.slice xo x.length xc, .slice yo a.length yc] 25)) w2) := C1.out.trans (hb2.mono (by omega))
    have s2 : w.heap.size + 1 ≤ w2.heap.size := Nat.le_trans s1 hb2.size
    clear hb2 C1 hc1 s1
    go_wp2_with fail
    refine (HSO.out _ _ _ _ hrx2 hra2).mono ?_
    rintro e w3 ⟨rfl, hb3⟩
    have C3 : Hid (Below (w.heap.size + 1) (w.alloc (.cells #[.slice xo x.length xc, .slice yo a.length yc] 25)) w3) := C2.out.trans (hb3.mono (by omega))
    have s3 : w.heap.size + 1 ≤ w3.heap.size := Nat.le_trans s2 hb3.size
    have hc3 := fun o => C3.out.cell (p := ⟨w.heap.size, o, none⟩) (by simp)
    clear hb3 C2 s2 hrx2 hra2 HSO
    go_wp2_with fail
    refine (HT'.out _ (B0.trans (C3.out.mono (by omega)))).mono ?_
    rintro e w4 ⟨u4, u5, rfl, hrx4, hra4, hb4⟩
    have C4 : Hid (Below (w.heap.size + 1) (w.alloc (.cells #[.slice xo x.length xc, .slice yo a.length yc] 25)) w4) := C3.out.trans (hb4.mono (by omega))
    have s4 : w.heap.size + 1 ≤ w4.heap.size := Nat.le_trans s3 hb4.size
    obtain ⟨a4, c4, rfl, -, -, -⟩ := hrx4.len
    obtain ⟨a5, c5, rfl, -, -, -⟩ := hra4.len
    have B5 : Below w4.heap.size w4 (w4.alloc (.cells #[.slice a4 x.length c4, .slice a5 a.length c5] 31)) := (Below.refl _ _).alloc (Nat.le_refl _) _
    have HRX5 := Hid.mk (hrx4.ufOf.growU B5)
    have HRA5 := Hid.mk (hra4.ufOf.growU B5)
    clear hb4 C3 hc3 s3 hrx4 hra4
    go_wp2_with fail
    refine (HIO.out _ _ _ HRX5.out HRA5.out).mono ?_
    rintro e w6 ⟨rfl, hb6⟩
    have D6 : Hid (Below (w4.heap.size + 1) (w4.alloc (.cells #[.slice a4 x.length c4, .slice a5 a.length c5] 31)) w6) := hb6.mono (by simp)
    have HRX6 := Hid.mk (HRX5.out.grow hb6)
    have HRA6 := Hid.mk (HRA5.out.grow hb6)
    have C6 : Hid (Below (w.heap.size + 1) (w.alloc (.cells #[.slice xo x.length xc, .slice yo a.length yc] 25)) w6) := C4.out.trans ((B5.trans (hb6.mono (by simp))).mono (by omega))
    have s6 : w4.heap.size + 1 ≤ w6.heap.size := by have := hb6.size; simpa using this
    clear hb6 HRX5 HRA5 B5 C4 HIO
    have S0 : Hid (Below w6.heap.size w6 w6.drew) := Below.drewSelf _ _ 1
    have hxb : ∀ w', Below w6.heap.size w6 w' → ∀ o, w'.cell? ⟨w4.heap.size, o, none⟩ = (w4.alloc (.cells #[.slice a4 x.length c4, .slice a5 a.length c5] 31)).cell? ⟨w4.heap.size, o, none⟩ := by
      intro w' hb o
      rw [hb.cell (p := ⟨w4.heap.size, o, none⟩) (by simp; omega)]
      exact D6.out.cell (p := ⟨w4.heap.size, o, none⟩) (by simp)
    have hyb : ∀ w', Below w6.heap.size w6 w' → ∀ o, w'.cell? ⟨w.heap.size, o, none⟩ = (w.alloc (.cells #[.slice xo x.length xc, .slice yo a.length yc] 25)).cell? ⟨w.heap.size, o, none⟩ := by
      intro w' hb o
      rw [hb.cell (p := ⟨w.heap.size, o, none⟩) (by simp; omega)]
      exact C6.out.cell (p := ⟨w.heap.size, o, none⟩) (by simp)
    have HX := Hid.mk hxb
    have HY := Hid.mk hyb
    clear hxb hyb
    go_wp2_with fail
    refine wp_region_held_drew (S := Below w6.heap.size w6) (by kernel_rfl) S0.out (fun _ => ?_)
    refine takeHD (i := 0) (v := pgV (.slice a4 x.length c4) (.slice a5 a.length c5)) (some 22) rfl rfl (by kernel_rfl) (by kernel_rfl) (by kernel_rfl) (fun _ _ _ h => h) (Or.inl ⟨by kernel_rfl, fun w' hw => ?_⟩) S0.out ?_
    · have hx := HX.out w' hw
      go_simp
    simp only [Act.put, List.setIfInBounds_toArray]
    refine takeHD (i := 1) (v := pgV (.slice xo x.length xc) (.slice yo a.length yc)) (some 23) rfl rfl (by kernel_rfl) (by kernel_rfl) (by kernel_rfl) (fun _ _ _ h => h) (Or.inl ⟨by kernel_rfl, fun w' hw => ?_⟩) S0.out ?_
    · have hy := HY.out w' hw
      go_simp
    simp only [Act.put, List.setIfInBounds_toArray]
    refine wpAnyH_ready (rs := [2]) (by kernel_rfl) (by simp) ?_
    refine AllReadyH.cons rfl (fun K hK => ?_) AllReadyH.nil
    rw [if_pos (by kernel_rfl)]
    go_wp2_with fail
    refine (HT'.out _ (B0.trans ((C6.out.trans (S0.out.mono (by omega))).mono (by omega)))).mono ?_
    rintro e w7 ⟨x7, y7, rfl, hrx7, hra7, hb7⟩
    have S7 : Hid (Below w6.heap.size w6 w7) := S0.out.trans hb7
    refine hK.out _ _ S7.out (fun _ => ?_)
    clear hK K
    have HRX7 := Hid.mk (HRX6.out.grow S7.out)
    have HRA7 := Hid.mk (HRA6.out.grow S7.out)
    refine wpAnyH_ready (rs := [3]) (by kernel_rfl) (by simp) ?_
    refine AllReadyH.cons rfl (fun K hK => ?_) AllReadyH.nil
    rw [if_pos (by kernel_rfl)]
    go_wp2_with fail
    refine (HEQ.out _ _ _ _ _ _ _ HRX7.out HRA7.out hrx7 hra7).mono ?_
    rintro e w8 ⟨rfl, hb8⟩
    have S8 : Hid (Below w6.heap.size w6 w8) := S7.out.trans (hb8.mono S7.out.size)
    refine hK.out _ _ S8.out (fun _ => ?_)
    clear hK K hrx7 hra7 hb7 hb8 S7 HRX7 HRA7 HRX6 HRA6
    refine wpAnyH_ready (rs := [4]) (by kernel_rfl) (by simp) ?_
    refine AllReadyH.cons rfl (fun K hK => ?_) AllReadyH.nil
    rw [if_pos (by kernel_rfl)]
    go_wp2_with fail
    refine hK.out _ _ S8.out (fun _ => ?_)
    clear hK K
    refine wpAnyH_done (by kernel_rfl) ?_ _
    go_wp2
    go_ret
    exact ⟨rfl, B0.trans ((C6.out.trans (S8.out.mono (by omega))).mono (by omega))⟩
end Go.Proofs.YtgigalcajgjpnaaGreat

namespace Go.Proofs.YtgigalcajgjpnaaGreat
open Go.RowKit Go.ChangeShapes

section
variable {H : Type} {enc : TypeId × Value → H} {P : Program} {w : World} {sp : Nat → Bool} {held : Bool}

theorem Tb.of_trod {t e : TypeId} (ht : P.underlying t = some (.slice e)) (he : P.underlying e = some .string) (hc : P.cellsOf e = 1) :
    ∀ (fuel : Nat) (cs : List Value) (x : DataW H × List MemPlace), DataW.trod enc P w 0 sp held fuel t cs = some x → ∃ v l, cs = [v] ∧ Tb w anyBlock v l := by
  intro fuel cs x h
  rcases DataW.trod_slice ht h with ⟨rfl, _⟩ | ⟨a, len, cap, elems, rest, n, hn, rfl, rfl, hb, hl, hm, hlen, hel, hsp, hns⟩
  · exact ⟨_, [], rfl, Tb.zero w _⟩
  · have each : ∀ i, i < len → ∃ s : ByteArray, s.size ≤ maxLen ∧ w.cell? (a.add i) = some (.string s) := by
      intro i hi
      have := hel i hi
      rw [hc, Nat.mul_one, List.getElem?_eq_getElem (by omega)] at this
      obtain ⟨cs', h1, h2⟩ := Option.bind_eq_some_iff.1 this
      obtain ⟨_, hl1, hcell⟩ := World.cells?_some h1
      obtain ⟨s, hs, _, hsz⟩ := DataW.trod_string he h2
      subst hs
      refine ⟨s, hsz, ?_⟩
      have := hcell 0 (by simp)
      rw [Go.Deep.add_add, Nat.add_zero] at this
      simpa using this
    obtain ⟨q, hq⟩ := Go.Deep.choose_lt each
    refine ⟨_, (List.range len).map q, rfl, some a, cap, by simp, by simpa using hl, hm, (fun h => by cases h), ?_, fun hne => ?_⟩
    · intro s hs
      obtain ⟨i, hi, rfl⟩ := List.mem_map.1 hs
      exact (hq i (by simpa using hi)).1
    · have h0 : 0 < len := by
        have := List.length_pos_iff.2 hne
        simpa using this
      obtain ⟨b, off, spot⟩ := a
      have hspot : spot = none := by simpa [Addr.add] using World.cell?_spot (hq 0 h0).2
      subst hspot
      refine ⟨b, off, rfl, trivial, fun k hk => ?_⟩
      have hk' : k < len := by simpa using hk
      have := (hq k hk').2
      rw [Addr.add_lit] at this
      simpa [hk'] using this

theorem Ex.of_struct {e ti ts t : TypeId} {f0 fn f1 f2 : Field} (he : P.underlying e = some (.struct #[f0, fn, f1, f2]))
    (o0 : f0.offset = 0) (on : fn.offset = 1) (o1 : f1.offset = 2) (o2 : f2.offset = 3) (t0 : f0.type = ti) (tn : fn.type = ti) (t1 : f1.type = ts) (t2 : f2.type = t)
    (c0 : P.cellsOf ti = 1) (c1 : P.cellsOf ts = 1) (c2 : P.cellsOf t = 1) (hi : P.underlying ti = some (.int .i64)) (hst : P.underlying ts = some .string)
    (hX : ∀ (fuel : Nat) (cs : List Value) (x : DataW H × List MemPlace), DataW.trod enc P w 0 sp held fuel t cs = some x → ∃ v l, cs = [v] ∧ El w anyBlock l v) :
    ∀ (fuel : Nat) (v0 v1 v2 v3 : Value) (x : DataW H × List MemPlace), DataW.trod enc P w 0 sp held fuel e [v0, v1, v2, v3] = some x → ∃ t : Ex, v0 = .int .i64 t.k ∧ v1 = .int .i64 t.n ∧ v2 = .string t.s ∧ El w anyBlock t.l v3 ∧ t.s.size ≤ maxLen := by
  intro fuel v0 v1 v2 v3 x h
  obtain ⟨xs, k, hk, hxy, _, hxl, hf⟩ := DataW.trod_struct he h
  have g0 := hf 0 f0 rfl
  have gn := hf 1 fn rfl
  have g1 := hf 2 f1 rfl
  have g2 := hf 3 f2 rfl
  simp [o0, on, o1, o2, t0, tn, t1, t2, c0, c1, c2] at g0 gn g1 g2
  have hxl' : xs.length = 4 := by simpa using hxl
  rw [List.getElem?_eq_getElem (by omega)] at g0 gn g1 g2
  obtain ⟨k0, hk0, _, _⟩ := DataW.trod_int hi g0
  obtain ⟨n0, hn0, _, _⟩ := DataW.trod_int hi gn
  obtain ⟨s0, hs0, _, hsz⟩ := DataW.trod_string hst g1
  obtain ⟨v, l, hv, hr⟩ := hX _ _ _ g2
  simp at hk0 hn0 hs0 hv
  subst hk0 hn0 hs0 hv
  exact ⟨.node k0 n0 s0 l, rfl, rfl, rfl, hr, hsz⟩

theorem Ul.of_trod {t e ti tx tl : TypeId} {f0 f1 f2 : Field} (ht : P.underlying t = some (.slice e)) (he : P.underlying e = some (.struct #[f0, f1, f2]))
    (ce : P.cellsOf e = 6) (o0 : f0.offset = 0) (o1 : f1.offset = 1) (o2 : f2.offset = 5) (t0 : f0.type = ti) (t1 : f1.type = tx) (t2 : f2.type = tl)
    (c0 : P.cellsOf ti = 1) (c1 : P.cellsOf tx = 4) (c2 : P.cellsOf tl = 1) (hi : P.underlying ti = some (.int .i64))
    (hE : ∀ (fuel : Nat) (v0 v1 v2 v3 : Value) (x : DataW H × List MemPlace), DataW.trod enc P w 0 sp held fuel tx [v0, v1, v2, v3] = some x → ∃ t : Ex, v0 = .int .i64 t.k ∧ v1 = .int .i64 t.n ∧ v2 = .string t.s ∧ El w anyBlock t.l v3 ∧ t.s.size ≤ maxLen)
    (hS : ∀ (fuel : Nat) (cs : List Value) (x : DataW H × List MemPlace), DataW.trod enc P w 0 sp held fuel tl cs = some x → ∃ v l, cs = [v] ∧ Sl w anyBlock l v) :
    ∀ (fuel : Nat) (cs : List Value) (x : DataW H × List MemPlace), DataW.trod enc P w 0 sp held fuel t cs = some x → ∃ v l, cs = [v] ∧ Ul w anyBlock l v := by
  intro fuel cs x h
  rcases DataW.trod_slice ht h with ⟨rfl, _⟩ | ⟨a, len, cap, elems, rest, n, hn, rfl, rfl, hb, hl, hm, hlen, hel, hsp, hns⟩
  · exact ⟨_, [], rfl, Ul.zero w _⟩
  · have each : ∀ i, i < len → ∃ q : Ru × Value × Value, w.cell? (a.add (i * 6)) = some (.int .i64 q.1.k) ∧ w.cell? (a.add (i * 6 + 1)) = some (.int .i64 q.1.p.k) ∧ w.cell? (a.add (i * 6 + 2)) = some (.int .i64 q.1.p.n) ∧ w.cell? (a.add (i * 6 + 3)) = some (.string q.1.p.s) ∧ w.cell? (a.add (i * 6 + 4)) = some q.2.1 ∧ w.cell? (a.add (i * 6 + 5)) = some q.2.2 ∧ El w anyBlock q.1.p.l q.2.1 ∧ Sl w anyBlock q.1.a q.2.2 ∧ q.1.p.s.size ≤ maxLen := by
      intro i hi'
      have := hel i hi'
      rw [ce, List.getElem?_eq_getElem (by omega)] at this
      obtain ⟨cs', h1, h2⟩ := Option.bind_eq_some_iff.1 this
      obtain ⟨v0, v1, v2, v3, v4, v5, rfl, e0, e1, e2, e3, e4, e5⟩ := cell_of_cells6 h1
      obtain ⟨xs, k, hk, hxy, _, hxl, hf⟩ := DataW.trod_struct he h2
      have g0 := hf 0 f0 rfl
      have g1 := hf 1 f1 rfl
      have g2 := hf 2 f2 rfl
      simp [o0, o1, o2, t0, t1, t2, c0, c1, c2] at g0 g1 g2
      have hxl' : xs.length = 3 := by simpa using hxl
      rw [List.getElem?_eq_getElem (by omega)] at g0 g1 g2
      obtain ⟨k0, hk0, _, _⟩ := DataW.trod_int hi g0
      obtain ⟨t, rfl, rfl, rfl, hr, hsz⟩ := hE _ _ _ _ _ _ g1
      obtain ⟨v, l, hv, hs⟩ := hS _ _ _ g2
      simp at hk0 hv
      subst hk0 hv
      rw [Go.Deep.add_add] at e0 e1 e2 e3 e4 e5
      exact ⟨(⟨k0, t, l⟩, v4, v5), by simpa using e0, by simpa using e1, by simpa using e2, by simpa using e3, by simpa using e4, by simpa using e5, hr, hs, hsz⟩
    obtain ⟨q, hq⟩ := Go.Deep.choose_lt each
    refine ⟨_, (List.range len).map fun i => (q i).1, rfl, some a, cap, by simp, by simpa using hl, hm, (fun h => by cases h), fun hne => ?_⟩
    have h0 : 0 < len := by
      have := List.length_pos_iff.2 hne
      simpa using this
    obtain ⟨b, off, spot⟩ := a
    have hspot : spot = none := by simpa [Addr.add] using World.cell?_spot (hq 0 h0).1
    subst hspot
    refine ⟨b, off, fun i => (q i).2.1, fun i => (q i).2.2, rfl, trivial, fun i h => ?_⟩
    have hi' : i < len := by simpa using h
    obtain ⟨x0, x1, x2, x3, x4, x5, y1, y2, y3⟩ := hq i hi'
    simp only [Addr.add_lit] at x0 x1 x2 x3 x4 x5
    simp only [List.getElem_map, List.getElem_range]
    exact ⟨⟨x0, x1, x2, x3, x4, x5⟩, y1, y2, y3⟩

theorem Fl.of_trod {t e ts tp tl : TypeId} {f0 f1 f2 : Field} (ht : P.underlying t = some (.slice e)) (he : P.underlying e = some (.struct #[f0, f1, f2]))
    (ce : P.cellsOf e = 3) (o0 : f0.offset = 0) (o1 : f1.offset = 1) (o2 : f2.offset = 2) (t0 : f0.type = ts) (t1 : f1.type = tp) (t2 : f2.type = tl)
    (c0 : P.cellsOf ts = 1) (c1 : P.cellsOf tp = 1) (c2 : P.cellsOf tl = 1) (hst : P.underlying ts = some .string)
    (hP : ∀ (fuel : Nat) (cs : List Value) (x : DataW H × List MemPlace), DataW.trod enc P w 0 sp held fuel tp cs = some x → ∃ v l, cs = [v] ∧ Tb w anyBlock v l)
    (hS : ∀ (fuel : Nat) (cs : List Value) (x : DataW H × List MemPlace), DataW.trod enc P w 0 sp held fuel tl cs = some x → ∃ v l, cs = [v] ∧ Sl w anyBlock l v) :
    ∀ (fuel : Nat) (cs : List Value) (x : DataW H × List MemPlace), DataW.trod enc P w 0 sp held fuel t cs = some x → ∃ v l, cs = [v] ∧ Fl w anyBlock l v := by
  intro fuel cs x h
  rcases DataW.trod_slice ht h with ⟨rfl, _⟩ | ⟨a, len, cap, elems, rest, n, hn, rfl, rfl, hb, hl, hm, hlen, hel, hsp, hns⟩
  · exact ⟨_, [], rfl, Fl.zero w _⟩
  · have each : ∀ i, i < len → ∃ q : Fu × Value × Value, w.cell? (a.add (i * 3)) = some (.string q.1.n) ∧ w.cell? (a.add (i * 3 + 1)) = some q.2.1 ∧ w.cell? (a.add (i * 3 + 2)) = some q.2.2 ∧ Tb w anyBlock q.2.1 q.1.ps ∧ Sl w anyBlock q.1.a q.2.2 ∧ q.1.n.size ≤ maxLen := by
      intro i hi'
      have := hel i hi'
      rw [ce, List.getElem?_eq_getElem (by omega)] at this
      obtain ⟨cs', h1, h2⟩ := Option.bind_eq_some_iff.1 this
      obtain ⟨v0, v1, v2, rfl, e0, e1, e2⟩ := cell_of_cells3 h1
      obtain ⟨xs, k, hk, hxy, _, hxl, hf⟩ := DataW.trod_struct he h2
      have g0 := hf 0 f0 rfl
      have g1 := hf 1 f1 rfl
      have g2 := hf 2 f2 rfl
      simp [o0, o1, o2, t0, t1, t2, c0, c1, c2] at g0 g1 g2
      have hxl' : xs.length = 3 := by simpa using hxl
      rw [List.getElem?_eq_getElem (by omega)] at g0 g1 g2
      obtain ⟨s0, hs0, _, hsz⟩ := DataW.trod_string hst g0
      obtain ⟨vp, lp, hvp, hp⟩ := hP _ _ _ g1
      obtain ⟨v, l, hv, hs⟩ := hS _ _ _ g2
      simp at hs0 hvp hv
      subst hs0 hvp hv
      rw [Go.Deep.add_add] at e0 e1 e2
      exact ⟨(⟨s0, lp, l⟩, v1, v2), by simpa using e0, by simpa using e1, by simpa using e2, hp, hs, hsz⟩
    obtain ⟨q, hq⟩ := Go.Deep.choose_lt each
    refine ⟨_, (List.range len).map fun i => (q i).1, rfl, some a, cap, by simp, by simpa using hl, hm, (fun h => by cases h), fun hne => ?_⟩
    have h0 : 0 < len := by
      have := List.length_pos_iff.2 hne
      simpa using this
    obtain ⟨b, off, spot⟩ := a
    have hspot : spot = none := by simpa [Addr.add] using World.cell?_spot (hq 0 h0).1
    subst hspot
    refine ⟨b, off, fun i => (q i).2.1, fun i => (q i).2.2, rfl, trivial, fun i h => ?_⟩
    have hi' : i < len := by simpa using h
    obtain ⟨x0, x1, x2, y1, y2, y3⟩ := hq i hi'
    simp only [Addr.add_lit] at x0 x1 x2
    simp only [List.getElem_map, List.getElem_range]
    exact ⟨⟨x0, x1, x2⟩, y1, y2, y3⟩
end

section
open Go.WideShapes Go.ChangeAt
variable {H : Type} {enc : TypeId × Value → H} {P : Program} {w : World} {held : Bool}
/-- A struct of two fields among the arguments, opened. -/
theorem open_agg2 {r : Reach} {b0 base : Nat} {spare : Nat → Bool} {t : TypeId} {f0 f1 : Field} {v : Value} {d : DataW H} {p : List MemPlace} (hs : P.underlying t = some (.struct #[f0, f1]))
    (o0 : f0.offset = 0) (o1 : f1.offset = 1) (k0 : P.cellsOf f0.type = 1) (k1 : P.cellsOf f1.type = 1) (hC : P.cellsOf t = 2)
    (hv : Value.okWide P w r b0 t v) (h : DataW.Trod enc P w base spare held t v d p) :
    ∃ (v0 v1 : Value) (y0 y1 : DataW H × List MemPlace) (n : Nat), v = .agg #[v0, v1] ∧ DataW.trod enc P w base spare held n f0.type [v0] = some y0 ∧ DataW.trod enc P w base spare held n f1.type [v1] = some y1 := by
  obtain ⟨cs, rfl, hsz⟩ := Go.WideShapes.okWide_struct hs hv
  obtain ⟨c0, c1, rfl⟩ : ∃ c0 c1, cs = #[c0, c1] := by
    obtain ⟨l⟩ := cs
    match l, hsz.trans hC with
    | [c0, c1], _ => exact ⟨c0, c1, rfl⟩
  obtain ⟨fuel, hf⟩ := h
  obtain ⟨xs, k, hk, hxy, _, hxl, hf⟩ := DataW.trod_struct hs hf
  have g0 := hf 0 f0 rfl
  have g1 := hf 1 f1 rfl
  simp [o0, o1, k0, k1, Value.cells] at g0 g1
  have hxl' : xs.length = 2 := by simpa using hxl
  rw [List.getElem?_eq_getElem (by omega)] at g0 g1
  exact ⟨c0, c1, _, _, _, rfl, g0, g1⟩
end
end Go.Proofs.YtgigalcajgjpnaaGreat

namespace Go.Proofs.YtgigalcajgjpnaaGreat
open Go.ChangeShapes Go.WideShapes Go.ChangeAt Go.RowKit

section
variable {H : Type} {enc : TypeId × Value → H} {P : Program} {w : World} {held : Bool}
theorem open_agg6 {r : Reach} {b0 base : Nat} {spare : Nat → Bool} {t : TypeId} {f0 f1 f2 f3 f4 f5 : Field} {v : Value} {d : DataW H} {p : List MemPlace} (hs : P.underlying t = some (.struct #[f0, f1, f2, f3, f4, f5]))
    (o0 : f0.offset = 0) (o1 : f1.offset = 1) (o2 : f2.offset = 2) (o3 : f3.offset = 3) (o4 : f4.offset = 4) (o5 : f5.offset = 5) (k0 : P.cellsOf f0.type = 1) (k1 : P.cellsOf f1.type = 1) (k2 : P.cellsOf f2.type = 1) (k3 : P.cellsOf f3.type = 1) (k4 : P.cellsOf f4.type = 1) (k5 : P.cellsOf f5.type = 1) (hC : P.cellsOf t = 6)
    (hv : Value.okWide P w r b0 t v) (h : DataW.Trod enc P w base spare held t v d p) :
    ∃ (v0 v1 v2 v3 v4 v5 : Value) (y0 y1 y2 y3 y4 y5 : DataW H × List MemPlace) (n : Nat), v = .agg #[v0, v1, v2, v3, v4, v5] ∧ DataW.trod enc P w base spare held n f0.type [v0] = some y0 ∧ DataW.trod enc P w base spare held n f1.type [v1] = some y1 ∧ DataW.trod enc P w base spare held n f2.type [v2] = some y2 ∧ DataW.trod enc P w base spare held n f3.type [v3] = some y3 ∧ DataW.trod enc P w base spare held n f4.type [v4] = some y4 ∧ DataW.trod enc P w base spare held n f5.type [v5] = some y5 := by
  obtain ⟨cs, rfl, hsz⟩ := Go.WideShapes.okWide_struct hs hv
  obtain ⟨c0, c1, c2, c3, c4, c5, rfl⟩ : ∃ c0 c1 c2 c3 c4 c5, cs = #[c0, c1, c2, c3, c4, c5] := by
    obtain ⟨l⟩ := cs
    match l, hsz.trans hC with
    | [c0, c1, c2, c3, c4, c5], _ => exact ⟨c0, c1, c2, c3, c4, c5, rfl⟩
  obtain ⟨fuel, hf⟩ := h
  obtain ⟨xs, k, hk, hxy, _, hxl, hf⟩ := DataW.trod_struct hs hf
  have g0 := hf 0 f0 rfl
  have g1 := hf 1 f1 rfl
  have g2 := hf 2 f2 rfl
  have g3 := hf 3 f3 rfl
  have g4 := hf 4 f4 rfl
  have g5 := hf 5 f5 rfl
  simp [o0, o1, o2, o3, o4, o5, k0, k1, k2, k3, k4, k5, Value.cells] at g0 g1 g2 g3 g4 g5
  have hxl' : xs.length = 6 := by simpa using hxl
  rw [List.getElem?_eq_getElem (by omega)] at g0 g1 g2 g3 g4 g5
  exact ⟨c0, c1, c2, c3, c4, c5, _, _, _, _, _, _, _, rfl, g0, g1, g2, g3, g4, g5⟩
end
end Go.Proofs.YtgigalcajgjpnaaGreat

namespace Go.Proofs.YtgigalcajgjpnaaGreat
open Go.RowKit

theorem fnExactProgOk_walk (t : Pg) (vx va : Value) (w : World) (hx : Ul w anyBlock t.r vx) (ha : Fl w anyBlock t.f va) :
    Calls Tryz.prog 3 #[pgV vx va] w fun e w' => e = .returned (.bool true) ∧ Below w.heap.size w w' :=
  fnExactProgOk_of (fun t ux ua w h1 h2 hs => implProgOk_any t ux ua w h1 h2 hs) t vx va w hx ha
end Go.Proofs.YtgigalcajgjpnaaGreat
