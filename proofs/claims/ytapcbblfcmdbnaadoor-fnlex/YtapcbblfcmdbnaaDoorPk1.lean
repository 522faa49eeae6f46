/- strings.Clone, by the kit's contract laid at this dump. The text of a token: TokenText, of the program and of the model. Slices of texts: read, owned, the same, appended, copied, marked, held. What strings.Builder's writing methods do, walked at this dump (the check ahead of a write has an arm that the translation refuses: no run comes there). Texts joined: JoinTexts, of the program and of the model; slices of texts copied by the laws, and how much they hold. Tokens joined: JoinTokens, of the program and of the model. -/
import Derived.Shelf.Strconv.Clone
import Derived.Test.YtapcbblfcmdbnaaDoorBytes
import Derived.Test.YtapcbblfcmdbnaaDoorTokOk
import Derived.Test.YtapcbblfcmdbnaaDoorTokLeaf
import Derived.Test.YtapcbblfcmdbnaaDoorSame
import Derived.Test.YtapcbblfcmdbnaaDoorMarkT
import Derived.Test.YtapcbblfcmdbnaaDoorQuietS
import Derived.Laws.AppendOwnNone
import Derived.Test.YtapcbblfcmdbnaaDoorShelf
import Derived.Test.YtapcbblfcmdbnaaDoorAppStr
import Derived.Lib.Builder
import Derived.Lib.OthersKept
import Derived.Lib.OwnKind
import Derived.Shelf.Strings.Builder1
import Derived.Test.YtapcbblfcmdbnaaDoorTokTo
namespace Go.Proofs.YtapcbblfcmdbnaaDoor
open Go.Shelf Go.RowKit

def ren316 : Go.Shelf.Ren := ⟨fun | 316 => 49 | n => n, fun | 0 => 0 | 3 => 3 | 4 => 4 | 5 => 5 | 9 => 9 | 37 => 22 | 127 => 78 | n => n, fun | n => n⟩
theorem lays316 : Go.Proofs.LaysM.n316 Tryd.prog ren316 := {
  mixed := by kernel_rfl
  f316 := Tryd.func49.trans (congrArg some (by kernel_rfl))
  t0 := Tryd.underlying0
  a0 := Tryd.isAgg0
  z0 := Tryd.sizeOf0
  v0 := Tryd.zeroValue0
  t3 := Tryd.underlying3
  a3 := Tryd.isAgg3
  z3 := Tryd.sizeOf3
  v3 := Tryd.zeroValue3
  t4 := Tryd.underlying4
  a4 := Tryd.isAgg4
  z4 := Tryd.sizeOf4
  v4 := Tryd.zeroValue4
  t9 := Tryd.underlying9
  a9 := Tryd.isAgg9
  z9 := Tryd.sizeOf9
  v9 := Tryd.zeroValue9
  t37 := Tryd.underlying22
  a37 := Tryd.isAgg22
  z37 := Tryd.sizeOf22
  v37 := Tryd.zeroValue22
  t127 := Tryd.underlying78
  a127 := Tryd.isAgg78
  z127 := Tryd.sizeOf78
  v127 := Tryd.zeroValue78
  t5 := Tryd.underlying5
  a5 := Tryd.isAgg5
  z5 := Tryd.sizeOf5
  v5 := Tryd.zeroValue5
  i0 := by kernel_rfl
  i3 := by kernel_rfl
  i4 := by kernel_rfl
  i5 := by kernel_rfl
  i9 := by kernel_rfl
  i37 := by kernel_rfl
  i127 := by kernel_rfl }
theorem cloneLite_any (s : ByteArray) (w : World) (hs : s.size ≤ 1048576) :
    Calls Tryd.prog 49 #[.string s] w fun e w' => e = .returned (.string s) ∧ Below w.heap.size w w' := Any.stringslite_Clone lays316 s w (by omega)
theorem clone_any (s : ByteArray) (w : World) (hs : s.size ≤ 1048576) :
    Calls Tryd.prog 28 #[.string s] w fun e w' => e = .returned (.string s) ∧ Below w.heap.size w w' := by
  go_enter Tryd.func28, Tryd.ntmps28
  go_wp2_with fail
  refine (cloneLite_any s w hs).mono ?_
  rintro e w1 ⟨rfl, hb⟩
  go_wp2
  go_ret
  exact ⟨rfl, hb⟩
end Go.Proofs.YtapcbblfcmdbnaaDoor

namespace Go.Proofs.YtapcbblfcmdbnaaDoor
open Go.RowKit
set_option maxRecDepth 8000

/-- A token's text. -/
def tkT (k n : Int) (s : ByteArray) : ByteArray :=
  if tokB k n s = true then (if k = 1 then numS n else if k = 3 then (⟨#[39]⟩ ++ s) ++ ⟨#[39]⟩ else if k = 4 then (⟨#[47]⟩ ++ s) ++ ⟨#[47]⟩ else s) else ⟨#[]⟩
theorem tkT_no {k n : Int} {s : ByteArray} (h : tokB k n s = false) : tkT k n s = ⟨#[]⟩ := by unfold tkT; rw [h]; rfl
theorem tkT_1 {n : Int} {s : ByteArray} (h : tokB 1 n s = true) : tkT 1 n s = numS n := by unfold tkT; rw [h]; rfl
theorem tkT_3 {n : Int} {s : ByteArray} (h : tokB 3 n s = true) : tkT 3 n s = (⟨#[39]⟩ ++ s) ++ ⟨#[39]⟩ := by unfold tkT; rw [h]; rfl
theorem tkT_4 {n : Int} {s : ByteArray} (h : tokB 4 n s = true) : tkT 4 n s = (⟨#[47]⟩ ++ s) ++ ⟨#[47]⟩ := by unfold tkT; rw [h]; rfl
theorem tkT_s {k n : Int} {s : ByteArray} (h : tokB k n s = true) (h1 : k ≠ 1) (h3 : k ≠ 3) (h4 : k ≠ 4) : tkT k n s = s := by unfold tkT; rw [if_pos h, if_neg h1, if_neg h3, if_neg h4]
theorem tok_num {n : Int} {s : ByteArray} (h : tokB 1 n s = true) : 0 ≤ n ∧ n ≤ 2147483647 := by
  have h' : (bwB 0 2147483647 n && s.toList.isEmpty) = true := h
  rw [Bool.and_eq_true] at h'
  have := h'.1
  simp [bwB] at this
  exact this
/-- A token's text isn't long. -/
theorem tok_short {k n : Int} {s : ByteArray} (h : tokB k n s = true) : s.size ≤ 200 := by
  by_cases h1 : k = 1
  · subst h1
    have h' : (bwB 0 2147483647 n && s.toList.isEmpty) = true := h
    rw [Bool.and_eq_true] at h'
    rcases sEmp s with ⟨_, hz⟩ | ⟨he, _⟩
    · omega
    · rw [he] at h'; exact absurd h'.2 (by simp)
  · have h' : (n == 0 && wrB k s) = true := by unfold tokB at h; rwa [if_neg h1] at h
    rw [Bool.and_eq_true] at h'
    have hw := h'.2
    unfold wrB at hw
    split at hw
    · unfold nameB at hw
      simp [bwB] at hw
      omega
    split at hw
    · unfold prB at hw
      simp at hw
      omega
    split at hw
    · unfold prB at hw
      simp at hw
      omega
    split at hw
    · unfold mkB at hw
      have hm : s.toList ∈ tkMarks := by simpa using hw
      have h2 : ∀ l ∈ tkMarks, l.length ≤ 2 := by decide
      have h3 : s.size = s.toList.length := by rw [ByteArray.toList_eq, Array.length_toList]; rfl
      have := h2 _ hm
      omega
    · cases hw

set_option maxHeartbeats 2000000 in
theorem specTokenText_any (k n : Int) (s : ByteArray) (w : World) (hs : s.size ≤ maxLen) : Calls Tryd.prog 16 #[vl k n s] w fun e w' => e = .returned (.string (tkT k n s)) ∧ Below w.heap.size w w' := by
  have HO := Hid.mk (fun w => specTokenOk_any k n s w hs)
  have A0 : Below w.heap.size w (boxed w k n s 31) := (Below.refl _ _).alloc (Nat.le_refl _) _
  clear hs
  cases hb : tokB k n s with
  | false =>
    have H := Hid.mk (tkT_no hb)
    rw [hb] at HO
    clear hb
    go_enter Tryd.func16, Tryd.ntmps16
    go_wp2_with fail
    refine (HO.out _).mono ?_
    rintro e w1 ⟨rfl, hb1⟩
    have B1 := A0.trans (hb1.mono (by simp))
    clear hb1 HO A0
    go_wp2
    go_ret
    exact ⟨ret_str H.out.symm, B1⟩
  | true =>
    have hsz := tok_short hb
    rw [hb] at HO
    by_cases h1 : k = 1
    · subst h1
      have H := Hid.mk (tkT_1 hb)
      obtain ⟨n0, n1⟩ := tok_num hb
      have HN := Hid.mk (fun w => l2Num_ind n.natAbs n w rfl (by omega) (by omega))
      clear hb
      go_enter Tryd.func16, Tryd.ntmps16
      go_wp2_with fail
      refine (HO.out _).mono ?_
      rintro e w1 ⟨rfl, hb1⟩
      have B1 := A0.trans (hb1.mono (by simp))
      have hc1 := fun o => hb1.cell (p := ⟨w.heap.size, o, none⟩) (by simp)
      have hs1 := hb1.size
      clear hb1 HO A0
      go_wp2_with fail
      refine (HN.out _).mono ?_
      rintro e w2 ⟨rfl, hb2⟩
      have B2 := B1.trans (hb2.mono B1.size)
      clear hb2 HN hc1 B1
      go_wp2
      go_ret
      exact ⟨ret_str H.out.symm, B2⟩
    have g1 : ¬ 9223372036854775807 < 1 + s.size := by omega
    have g2 : ∀ c, (⟨#[c]⟩ : ByteArray).size = 1 := fun c => rfl
    have g3 : ∀ c, ¬ 9223372036854775807 < (⟨#[c]⟩ ++ s : ByteArray).size + 1 := fun c => by rw [ByteArray.size_append, g2]; omega
    by_cases h3 : k = 3
    · subst h3
      have H := Hid.mk (tkT_3 hb)
      have g4 := g3 39
      have g5 := g2 39
      clear hb g2 g3
      go_enter Tryd.func16, Tryd.ntmps16
      go_wp2_with fail
      refine (HO.out _).mono ?_
      rintro e w1 ⟨rfl, hb1⟩
      have B1 := A0.trans (hb1.mono (by simp))
      have hc1 := fun o => hb1.cell (p := ⟨w.heap.size, o, none⟩) (by simp)
      clear hb1 HO A0
      go_wp2
      go_ret
      exact ⟨ret_str H.out.symm, B1⟩
    by_cases h4 : k = 4
    · subst h4
      have H := Hid.mk (tkT_4 hb)
      have g4 := g3 47
      have g5 := g2 47
      clear hb g2 g3
      go_enter Tryd.func16, Tryd.ntmps16
      go_wp2_with fail
      refine (HO.out _).mono ?_
      rintro e w1 ⟨rfl, hb1⟩
      have B1 := A0.trans (hb1.mono (by simp))
      have hc1 := fun o => hb1.cell (p := ⟨w.heap.size, o, none⟩) (by simp)
      clear hb1 HO A0
      go_wp2
      go_ret
      exact ⟨ret_str H.out.symm, B1⟩
    · have H := Hid.mk (tkT_s hb h1 h3 h4)
      clear hb g2 g3 g1
      go_enter Tryd.func16, Tryd.ntmps16
      go_wp2_with fail
      refine (HO.out _).mono ?_
      rintro e w1 ⟨rfl, hb1⟩
      have B1 := A0.trans (hb1.mono (by simp))
      have hc1 := fun o => hb1.cell (p := ⟨w.heap.size, o, none⟩) (by simp)
      clear hb1 HO A0
      go_wp2
      go_ret
      exact ⟨ret_str H.out.symm, B1⟩

set_option maxHeartbeats 2000000 in
theorem implTokenText_any (k n : Int) (s : ByteArray) (w : World) (hs : s.size ≤ maxLen) (ht : Tab w) : Calls Tryd.prog 11 #[vl k n s] w fun e w' => e = .returned (.string (tkT k n s)) ∧ Below w.heap.size w w' := by
  have HO := Hid.mk (fun w => implTokenOk_any k n s w hs)
  have A0 : Below w.heap.size w (boxed w k n s 31) := (Below.refl _ _).alloc (Nat.le_refl _) _
  have HTB := Hid.mk (fun w' (hb : Below w.heap.size w w') => ht.grow hb)
  clear hs ht
  cases hb : tokB k n s with
  | false =>
    have H := Hid.mk (tkT_no hb)
    rw [hb] at HO
    clear hb
    go_enter Tryd.func11, Tryd.ntmps11
    go_wp2_with fail
    refine (HO.out _).mono ?_
    rintro e w1 ⟨rfl, hb1⟩
    have B1 := A0.trans (hb1.mono (by simp))
    clear hb1 HO A0
    go_wp2
    go_ret
    exact ⟨ret_str H.out.symm, B1⟩
  | true =>
    have hsz := tok_short hb
    rw [hb] at HO
    by_cases h1 : k = 1
    · subst h1
      have H := Hid.mk (tkT_1 hb)
      obtain ⟨n0, n1⟩ := tok_num hb
      clear hb
      go_enter Tryd.func11, Tryd.ntmps11
      go_wp2_with fail
      refine (HO.out _).mono ?_
      rintro e w1 ⟨rfl, hb1⟩
      have B1 := A0.trans (hb1.mono (by simp))
      have hc1 := fun o => hb1.cell (p := ⟨w.heap.size, o, none⟩) (by simp)
      have hs1 := hb1.size
      have HT1 := Hid.mk (HTB.out _ B1)
      clear hb1 HO A0
      go_wp2_with fail
      refine (Tryd.strconv_Itoa n (by omega) (by omega) _ HT1.out).mono ?_
      rintro e w2 ⟨rfl, kk, os, rfl⟩
      have B2 := B1.trans (Lib.below_grow w.heap.size _ B1.size kk os)
      clear hc1 B1 HT1
      go_wp2
      go_ret
      exact ⟨ret_str (by rw [H.out]; rfl), B2⟩
    have g1 : ¬ 9223372036854775807 < 1 + s.size := by omega
    have g2 : ∀ c, (⟨#[c]⟩ : ByteArray).size = 1 := fun c => rfl
    have g3 : ∀ c, ¬ 9223372036854775807 < (⟨#[c]⟩ ++ s : ByteArray).size + 1 := fun c => by rw [ByteArray.size_append, g2]; omega
    by_cases h3 : k = 3
    · subst h3
      have H := Hid.mk (tkT_3 hb)
      have g4 := g3 39
      have g5 := g2 39
      clear hb g2 g3 HTB
      go_enter Tryd.func11, Tryd.ntmps11
      go_wp2_with fail
      refine (HO.out _).mono ?_
      rintro e w1 ⟨rfl, hb1⟩
      have B1 := A0.trans (hb1.mono (by simp))
      have hc1 := fun o => hb1.cell (p := ⟨w.heap.size, o, none⟩) (by simp)
      clear hb1 HO A0
      go_wp2
      go_ret
      exact ⟨ret_str H.out.symm, B1⟩
    by_cases h4 : k = 4
    · subst h4
      have H := Hid.mk (tkT_4 hb)
      have g4 := g3 47
      have g5 := g2 47
      clear hb g2 g3 HTB
      go_enter Tryd.func11, Tryd.ntmps11
      go_wp2_with fail
      refine (HO.out _).mono ?_
      rintro e w1 ⟨rfl, hb1⟩
      have B1 := A0.trans (hb1.mono (by simp))
      have hc1 := fun o => hb1.cell (p := ⟨w.heap.size, o, none⟩) (by simp)
      clear hb1 HO A0
      go_wp2
      go_ret
      exact ⟨ret_str H.out.symm, B1⟩
    · have H := Hid.mk (tkT_s hb h1 h3 h4)
      have HC := Hid.mk (fun w => clone_any s w (by omega))
      clear hb g2 g3 g1 HTB
      go_enter Tryd.func11, Tryd.ntmps11
      go_wp2_with fail
      refine (HO.out _).mono ?_
      rintro e w1 ⟨rfl, hb1⟩
      have B1 := A0.trans (hb1.mono (by simp))
      have hc1 := fun o => hb1.cell (p := ⟨w.heap.size, o, none⟩) (by simp)
      clear hb1 HO A0
      go_wp2_with fail
      refine (HC.out _).mono ?_
      rintro e w2 ⟨rfl, hb2⟩
      have B2 := B1.trans (hb2.mono B1.size)
      clear hb2 HC hc1 B1
      go_wp2
      go_ret
      exact ⟨ret_str H.out.symm, B2⟩
end Go.Proofs.YtapcbblfcmdbnaaDoor

namespace Go.Proofs.YtapcbblfcmdbnaaDoor
open Go.RowKit
set_option maxRecDepth 8000

/-- A slice that reads these texts. -/
def Tz (w : World) (v : Value) (xs : List ByteArray) : Prop := ∃ ao cap, v = .slice ao xs.length cap ∧ xs.length ≤ cap ∧ cap ≤ maxLen ∧ (ao = none → cap = 0) ∧ (xs ≠ [] → ∃ b off, ao = some ⟨b, off, none⟩ ∧ ∀ k, k < xs.length → w.cell? ⟨b, off + k, none⟩ = some (.string (xs.getD k ⟨#[]⟩)))
/-- A slice of the call's own with these texts. -/
def OwnT (w : World) (base : Nat) (v : Value) (xs : List ByteArray) : Prop := w.ownsRow base 9 1 v xs.length (xs.map (Value.string))

theorem Tz.grow {w w' : World} {v : Value} {xs : List ByteArray} (h : Tz w v xs) (hb : Below w.heap.size w w') : Tz w' v xs := by
  obtain ⟨ao, cap, h1, h2, h3, h4, h5⟩ := h
  refine ⟨ao, cap, h1, h2, h3, h4, fun hn => ?_⟩
  obtain ⟨b, off, h6, h7⟩ := h5 hn
  have h0 : 0 < xs.length := List.length_pos_iff.2 hn
  have hbl : b < w.heap.size := World.block_lt_of_cell? w _ (h7 0 h0)
  exact ⟨b, off, h6, fun k hk => by rw [hb.cell (p := ⟨b, off + k, none⟩) hbl]; exact h7 k hk⟩
theorem OwnT.iz {w : World} {base : Nat} {v : Value} {xs : List ByteArray} (h : OwnT w base v xs) : Tz w v xs := by
  rcases h.2 with ⟨h1, h2⟩ | ⟨g, cap, cur, rfl, hb, hg, hn, hm, hs, ht⟩
  · obtain rfl : xs = [] := List.length_eq_zero_iff.1 h2
    exact ⟨none, 0, h1, Nat.le_refl _, by simp, fun _ => rfl, fun h => absurd rfl h⟩
  · refine ⟨some ⟨g, 0, none⟩, cap, rfl, hn, hm, (fun h => by cases h), fun _ => ⟨g, 0, rfl, fun k hk => ?_⟩⟩
    have := h.cellAt k (by omega)
    rw [Nat.zero_add, this]
    simp [hk]
theorem OwnT.mono {w : World} {base base' : Nat} {v : Value} {xs : List ByteArray} (h : OwnT w base v xs) (hle : base' ≤ base) : OwnT w base' v xs := by
  refine ⟨h.1, ?_⟩
  rcases h.2 with h' | ⟨g, cap, cur, e, hb, rest⟩
  · exact Or.inl h'
  · exact Or.inr ⟨g, cap, cur, e, Nat.le_trans hle hb, rest⟩
theorem OwnT.grow {w w' : World} {base : Nat} {v : Value} {xs : List ByteArray} (h : OwnT w base v xs) (hb : Below w.heap.size w w') : OwnT w' base v xs :=
  World.ownsRow.kept (row := none) h ⟨hb.os, hb.tape, hb.output, hb.size, fun k hk _ => hb.block k hk⟩ (by
    rcases h.2 with ⟨rfl, _⟩ | ⟨g, cap, cur, rfl, _⟩
    · exact .inl rfl
    · exact .inr (by simp [Value.ownBlock]))

theorem infoT : (Tryd.prog.info? 9).map (fun i => (i.zero, i.size, i.bytes)) = some (some (.string ⟨#[]⟩), 1, 16) := by kernel_rfl
theorem wpList_append_t {w0 w : World} {ops : Array Oper} {rest : List Oper} {o : Oper} {a : Act} {Q : Exit → Act → World → Prop} (hgd : o.guard = none) (s x : Operand)
    (ho : o.op = .call { callee := .builtin .append, args := #[s, x], argTypes := #[46, 46] })
    (base : Nat) (v u : Value) (xs zs : List ByteArray) (hs : a.eval s = v) (hown : OwnT w base v xs) (hx : a.eval x = u) (hu : Tz w u zs)
    (hbel : Below base w0 w) (hbase : base ≤ w.heap.size) (hlen : xs.length + zs.length ≤ 1073741824)
    (h : ∀ v' w', OwnT w' base v' (xs ++ zs) → Below base w0 w' → base ≤ w'.heap.size → w.heap.size ≤ w'.heap.size → (∀ b, b < w.heap.size → some b ≠ v.ownBlock → w'.heap[b]? = w.heap[b]?) → wpList Tryd.prog ops Q rest (a.put o.dst v') w') :
    wpList Tryd.prog ops Q (o :: rest) a w := by
  obtain ⟨i0, hi, hz0, hz1, hz2⟩ := info_parts infoT
  obtain ⟨ao, cap, rfl, hl, hm, hn, hc⟩ := hu
  cases ao with
  | none =>
    have hcap := hn rfl
    have hz : zs.length = 0 := by omega
    have hz' : zs = [] := List.eq_nil_of_length_eq_zero hz
    subst hz'
    subst hcap
    refine wpList_append_own_none hgd s x 46 ho base 9 i0 1 Tryd.underlying46 hi v xs.length (xs.map (Value.string)) hs hown hx ?_
    have := h v w (by rw [List.append_nil]; exact hown) hbel hbase (Nat.le_refl _) (fun _ _ _ => rfl)
    exact this
  | some ad =>
    refine wpList_append_own w hgd s x 46 ho base 9 i0 (.string ⟨#[]⟩) 1 16 Tryd.underlying46 hi hz0 hz1 hz2 rfl (by decide) v xs.length (xs.map (Value.string)) hs hown ad zs.length cap (zs.map (Value.string)) hx
      (by simp) ?_ (by simp [Value.oneCell']) (by unfold maxLen; omega) (by omega) hbase ?_
    · intro j q hq
      have hj : j < zs.length := by have := (List.getElem?_eq_some_iff.1 hq).1; simpa using this
      obtain ⟨b, off, e, hcell⟩ := hc (by intro h0; rw [h0] at hj; simp at hj)
      obtain rfl := Option.some.inj e
      rw [Addr.add_lit, hcell j hj]
      simpa [hj] using hq
    · intro v' w' hown' hgr hx'
      refine h v' w' ?_ (hbel.grown hgr hbase fun k hk => (World.ownsRow.lt hown k hk).1) (Nat.le_trans hbase hgr.size) hgr.size (fun b hb hne => ?_)
      · unfold OwnT
        rw [List.map_append, List.length_append]
        exact hown'
      · obtain ⟨_, _, _, _, hk⟩ := hgr
        exact hk b hb hne

end Go.Proofs.YtapcbblfcmdbnaaDoor

namespace Go.Proofs.YtapcbblfcmdbnaaDoor
open Go.RowKit
set_option maxRecDepth 100000

theorem sizeBd : (Tryd.prog.info? 66).map (·.size) = some 2 := by kernel_rfl
theorem liesBd : liesAt Tryd.prog Tryd.prog.depth 66 (2 / Tryd.prog.cellsOf 66) 0 66 1 = true := by kernel_rfl

set_option maxHeartbeats 1000000 in
theorem copyUsed (b : Nat) (w : World) (h0 : w.cell? ⟨b, 0, none⟩ = some (.pointer (some ⟨b, 0, none⟩))) :
    Calls Tryd.prog 70 #[.pointer (some ⟨b, 0, none⟩)] w fun e w' => e = .returned (.tuple #[]) ∧ w' = w := by
  obtain ⟨j, hj, _⟩ := Option.map_eq_some_iff.1 sizeBd
  go_enter Tryd.func70, Tryd.ntmps70
  go_wp2
  rw [Lib.run_neq_ptr_same w _ Tryd.underlying64 hj]
  go_wp2
  go_end0
  exact ⟨rfl, rfl⟩
set_option maxHeartbeats 1000000 in
theorem copyFresh (b : Nat) (w : World) (h0 : w.cell? ⟨b, 0, none⟩ = some (.pointer none)) (hsh : w.shape? b = some (66, 2)) (hfz : w.frozen? ⟨b, 0, none⟩ = false) :
    Calls Tryd.prog 70 #[.pointer (some ⟨b, 0, none⟩)] w fun e w' => e = .returned (.tuple #[]) ∧ w' = w.setCell ⟨b, 0, none⟩ (.pointer (some ⟨b, 0, none⟩)) := by
  obtain ⟨j, hj, hjs⟩ := Option.map_eq_some_iff.1 sizeBd
  go_enter Tryd.func70, Tryd.ntmps70
  go_wp2
  rw [Lib.run_to_unsafe w ⟨b, 0, none⟩ Tryd.underlying64 Tryd.underlying87 hj (by rw [hjs]; decide) hsh (Nat.zero_lt_succ 1)]
  simp only [Result.andThen]
  rw [Oper.upon_value]
  go_wp2
  rw [run_callFunc_extern Tryd.func77 (by kernel_rfl) (by kernel_rfl) (by kernel_rfl) (e := Extern.AbiNoEscape.same) (by kernel_rfl)]
  rw [Lib.run_noEscape]
  simp only [Result.andThen]
  rw [Oper.upon_value]
  go_wp2
  rw [Lib.run_from_unsafe w ⟨b, 0, none⟩ Tryd.underlying87 Tryd.underlying64 hj hsh liesBd]
  simp only [Result.andThen]
  rw [Oper.upon_value]
  go_wp2
  go_end0
  exact ⟨rfl, rfl⟩
theorem copyCheck_any (B b : Nat) (bs : List Value) (w : World) (h : Lib.IsBuilder 66 5 B b bs w) :
    Calls Tryd.prog 70 #[.pointer (some ⟨b, 0, none⟩)] w fun e w' => e = .returned (.tuple #[]) ∧ Lib.BuilderAt 66 5 B b (.pointer (some ⟨b, 0, none⟩)) bs w' ∧ Below B w w' ∧ Lib.OthersKept 5 (some b) w w' := by
  rcases h with h | h
  · refine (copyFresh b w h.cell0 h.shape h.frozen0).mono ?_
    rintro e w' ⟨rfl, rfl⟩
    exact ⟨rfl, h.used _, (Below.refl B w).setCell (p := ⟨b, 0, none⟩) h.1 _, (Lib.OthersKept.refl _ _ w).setCell ⟨b, 0, none⟩ rfl _⟩
  · refine (copyUsed b w h.cell0).mono ?_
    rintro e w' ⟨rfl, rfl⟩
    exact ⟨rfl, h, Below.refl B _, Lib.OthersKept.refl _ _ _⟩

set_option maxHeartbeats 2000000 in
theorem writeByte_any (B b : Nat) (bs : List Value) (c : Int) (w : World) (h : Lib.IsBuilder 66 5 B b bs w) (hlen : bs.length + 1 ≤ 140737488355328) (hBw : B ≤ w.heap.size) :
    Calls Tryd.prog 50 #[.pointer (some ⟨b, 0, none⟩), .int .u8 c] w fun e w' => e = .returned .nilIface ∧ Lib.BuilderAt 66 5 B b (.pointer (some ⟨b, 0, none⟩)) (bs ++ [.int .u8 c]) w' ∧ Below B w w' ∧ Lib.OthersKept 5 (some b) w w' := by
  obtain ⟨i0, hi, hz0, hz1, hz2⟩ := info_parts info5
  go_enter Tryd.func50, Tryd.ntmps50
  go_wp2_with (go_at_call 70; refine (copyCheck_any B b bs _ h).mono ?_)
  rintro e w1 ⟨rfl, h1, hb1, hk1⟩
  obtain ⟨hB, v, hbk, hown, hne⟩ := h1
  have c0 : w1.cell? ⟨b, 0, none⟩ = some (.pointer (some ⟨b, 0, none⟩)) := by rw [Lib.cell_of_heap hbk]; rfl
  have c1 : w1.cell? ⟨b, 1, none⟩ = some v := by rw [Lib.cell_of_heap hbk]; rfl
  go_wp2_with (at_builtin; refine wpList_append_own _ rfl _ _ 22 rfl B 5 i0 (.int .u8 0) 1 1 Tryd.underlying22 hi hz0 hz1 hz2 rfl (by decide) _ _ _ rfl (hown.alloc _) ⟨w1.heap.size, 0, none⟩ 1 1 [.int .u8 c] rfl rfl ?c1 ?c2 ?c3 ?c4 ?c5 ?_)
  case c1 =>
    intro j u hj
    match j, hj with
    | 0, hj => simp at hj; subst hj; simp [Addr.add]
  case c2 => intro u hu; simp at hu; subst hu; rfl
  case c3 => unfold maxLen; omega
  case c4 => omega
  case c5 => have := hb1.size; simp; omega
  intro v' w2 hown' hgrow _
  have hlt : b < w1.heap.size := by
    rcases Nat.lt_or_ge b w1.heap.size with h' | h'
    · exact h'
    · simp [Array.getElem?_eq_none h'] at hbk
  have hb2 : w2.heap[b]? = some (.cells #[.pointer (some ⟨b, 0, none⟩), v] 66 (0, 0)) := by
    rw [hgrow.block b (by simp; omega) (fun e => hne e.symm), Lib.alloc_old w1 _ b hlt]
    exact hbk
  have d0 : w2.cell? ⟨b, 0, none⟩ = some (.pointer (some ⟨b, 0, none⟩)) := by rw [Lib.cell_of_heap hb2]; rfl
  have d1 : w2.cell? ⟨b, 1, none⟩ = some v := by rw [Lib.cell_of_heap hb2]; rfl
  have f1 : w2.frozen? ⟨b, 1, none⟩ = false := Lib.frozen_of_heap hb2 1
  obtain ⟨g, cap, rfl⟩ : ∃ g cap, v' = .slice (some ⟨g, 0, none⟩) (bs.length + 1) cap := by
    rcases hown'.2 with ⟨_, h0⟩ | ⟨g, cap, cur, hv, _⟩
    · omega
    · exact ⟨g, cap, hv⟩
  go_wp2
  go_ret
  refine ⟨rfl, ?_, ?_, ((hk1.alloc _).grown hgrow (Lib.ownsRow_kind (hown.alloc _))).setCell ⟨b, 1, none⟩ rfl _⟩
  · exact Lib.BuilderAt.put (T := 66) (e := 5) hB hb2 (bs' := bs ++ [.int .u8 c]) (by simpa using hown') (by decide)
  · exact ((hb1.alloc (by have := hb1.size; omega) _).grown hgrow (by have := hb1.size; simp; omega) (fun k hk => (hown.lt k hk).1)).setCell (p := ⟨b, 1, none⟩) hB _

set_option maxHeartbeats 2000000 in
theorem writeString_any (B b : Nat) (bs : List Value) (s : ByteArray) (w : World) (h : Lib.IsBuilder 66 5 B b bs w) (hlen : bs.length + s.size ≤ 140737488355328) (hBw : B ≤ w.heap.size) :
    Calls Tryd.prog 51 #[.pointer (some ⟨b, 0, none⟩), .string s] w fun e w' => e = .returned (.tuple #[.int .i64 s.size, .nilIface]) ∧ Lib.BuilderAt 66 5 B b (.pointer (some ⟨b, 0, none⟩)) (bs ++ Lib.strCells s) w' ∧ Below B w w' ∧ Lib.OthersKept 5 (some b) w w' := by
  obtain ⟨i0, hi, hz0, hz1, hz2⟩ := info_parts info5
  go_enter Tryd.func51, Tryd.ntmps51
  go_wp2_with (go_at_call 70; refine (copyCheck_any B b bs _ h).mono ?_)
  rintro e w1 ⟨rfl, h1, hb1, hk1⟩
  obtain ⟨hB, v, hbk, hown, hne⟩ := h1
  have c0 : w1.cell? ⟨b, 0, none⟩ = some (.pointer (some ⟨b, 0, none⟩)) := by rw [Lib.cell_of_heap hbk]; rfl
  have c1 : w1.cell? ⟨b, 1, none⟩ = some v := by rw [Lib.cell_of_heap hbk]; rfl
  go_wp2_with (at_builtin; refine Lib.wpList_append_own_string _ rfl _ _ 22 9 rfl B 5 i0 Tryd.underlying22 Tryd.underlying9 hi hz0 hz1 hz2 _ _ _ rfl hown s rfl ?c3 ?c4 ?c5 ?_)
  case c3 => unfold maxLen; omega
  case c4 => omega
  case c5 => have := hb1.size; omega
  intro v' w2 hown' hgrow _
  have hlt : b < w1.heap.size := by
    rcases Nat.lt_or_ge b w1.heap.size with h' | h'
    · exact h'
    · simp [Array.getElem?_eq_none h'] at hbk
  have hb2 : w2.heap[b]? = some (.cells #[.pointer (some ⟨b, 0, none⟩), v] 66 (0, 0)) := by
    rw [hgrow.block b hlt (fun e => hne e.symm)]
    exact hbk
  have d0 : w2.cell? ⟨b, 0, none⟩ = some (.pointer (some ⟨b, 0, none⟩)) := by rw [Lib.cell_of_heap hb2]; rfl
  have d1 : w2.cell? ⟨b, 1, none⟩ = some v := by rw [Lib.cell_of_heap hb2]; rfl
  have f1 : w2.frozen? ⟨b, 1, none⟩ = false := Lib.frozen_of_heap hb2 1
  obtain ⟨ao, n', cap, rfl⟩ : ∃ ao n' cap, v' = .slice ao n' cap := by
    rcases hown'.2 with ⟨hv, _⟩ | ⟨g, cap, cur, hv, _⟩
    · exact ⟨_, _, _, hv⟩
    · exact ⟨_, _, _, hv⟩
  go_wp2
  go_ret2
  refine ⟨rfl, ?_, ?_, (hk1.grown hgrow (Lib.ownsRow_kind hown)).setCell ⟨b, 1, none⟩ rfl _⟩
  · exact Lib.BuilderAt.put (T := 66) (e := 5) hB hb2 (bs' := bs ++ Lib.strCells s) (by simpa [Lib.strCells_length] using hown') (by decide)
  · exact (hb1.grown hgrow (by have := hb1.size; omega) (fun k hk => (hown.lt k hk).1)).setCell (p := ⟨b, 1, none⟩) hB _

/-- A builder with this text. -/
def Bd (w : World) (B b : Nat) (x : ByteArray) : Prop := Lib.IsBuilder 66 5 B b (Lib.strCells x) w
theorem strCells_app (x y : ByteArray) : Lib.strCells x ++ Lib.strCells y = Lib.strCells (x ++ y) := by
  simp [Lib.strCells, ByteArray.data_append]
theorem strCells_len (x : ByteArray) : (Lib.strCells x).length = x.size := Lib.strCells_length x
theorem bdByte_any (B b : Nat) (x : ByteArray) (c : Int) (y : ByteArray) (hy : Lib.strCells y = [.int .u8 c]) (w : World) (h : Bd w B b x) (hlen : x.size + 1 ≤ 140737488355328) (hBw : B ≤ w.heap.size) :
    Calls Tryd.prog 50 #[.pointer (some ⟨b, 0, none⟩), .int .u8 c] w fun e w' => e = .returned .nilIface ∧ Bd w' B b (x ++ y) ∧ Below B w w' ∧ Lib.OthersKept 5 (some b) w w' := by
  refine (writeByte_any B b _ c w h (by rw [strCells_len]; exact hlen) hBw).mono ?_
  rintro e w' ⟨rfl, h1, h2, h3⟩
  refine ⟨rfl, Or.inr ?_, h2, h3⟩
  rw [← strCells_app, hy]
  exact h1
theorem bdString_any (B b : Nat) (x y : ByteArray) (w : World) (h : Bd w B b x) (hlen : x.size + y.size ≤ 140737488355328) (hBw : B ≤ w.heap.size) :
    Calls Tryd.prog 51 #[.pointer (some ⟨b, 0, none⟩), .string y] w fun e w' => e = .returned (.tuple #[.int .i64 y.size, .nilIface]) ∧ Bd w' B b (x ++ y) ∧ Below B w w' ∧ Lib.OthersKept 5 (some b) w w' := by
  refine (writeString_any B b _ y w h (by rw [strCells_len]; exact hlen) hBw).mono ?_
  rintro e w' ⟨rfl, h1, h2, h3⟩
  refine ⟨rfl, Or.inr ?_, h2, h3⟩
  rw [← strCells_app]
  exact h1
theorem bdText_any (B b : Nat) (x : ByteArray) (w : World) (h : Bd w B b x) (hBw : B ≤ w.heap.size) :
    Calls Tryd.prog 52 #[.pointer (some ⟨b, 0, none⟩)] w fun e w' => e = .returned (.string x) ∧ Below B w w' := by
  have e0 : Lib.strCells x = Lib.byteCells x.data.toList := by simp [Lib.strCells, Lib.byteCells]
  unfold Bd at h
  rw [e0] at h
  refine (Tryd.Builder_String_any_k B b x.data.toList w (Lib.IsBuilderF.of h) hBw).mono ?_
  rintro e w' ⟨rfl, _, h2, _⟩
  exact ⟨by simp, h2⟩
theorem Bd.fresh (w : World) : Bd (w.alloc (.cells #[.pointer none, .slice none 0 0] 66)) w.heap.size w.heap.size ⟨#[]⟩ := Lib.fresh_isBuilder 66 5 w
end Go.Proofs.YtapcbblfcmdbnaaDoor

namespace Go.Proofs.YtapcbblfcmdbnaaDoor
open Go.RowKit
set_option maxRecDepth 8000

/-- The first k texts joined. -/
def jnT (l : List ByteArray) : Nat → ByteArray
  | 0 => ⟨#[]⟩
  | k + 1 => (if k = 0 then jnT l k else jnT l k ++ ⟨#[32]⟩) ++ l.getD k ⟨#[]⟩
/-- How many letters. -/
def szT (l : List ByteArray) : Nat := (l.map ByteArray.size).sum
theorem szT_take (l : List ByteArray) (k : Nat) (h : k < l.length) : szT (l.take (k + 1)) = szT (l.take k) + (l.getD k ⟨#[]⟩).size := by
  unfold szT
  rw [List.take_succ_eq_append_getElem h, List.map_append, List.sum_append]
  simp [List.getD, h]
theorem szT_le (l : List ByteArray) (k : Nat) : szT (l.take k) ≤ szT l := by
  have : szT l = szT (l.take k) + szT (l.drop k) := by
    unfold szT
    rw [← List.sum_append, ← List.map_append, List.take_append_drop]
  omega
theorem szT_at (l : List ByteArray) (k : Nat) (h : k < l.length) : (l.getD k ⟨#[]⟩).size ≤ szT l := by
  have h1 := szT_take l k h
  have h2 := szT_le l (k + 1)
  omega
theorem jnT_size (l : List ByteArray) : ∀ k, k ≤ l.length → (jnT l k).size ≤ szT (l.take k) + k
  | 0, _ => by simp [jnT, szT]; rfl
  | k + 1, h => by
    have ih := jnT_size l k (by omega)
    rw [szT_take l k (by omega), jnT, ByteArray.size_append]
    split
    · omega
    · rw [ByteArray.size_append]
      have : (⟨#[32]⟩ : ByteArray).size = 1 := rfl
      omega

theorem Tz.cellAt {w : World} {b off n cap : Nat} {xs : List ByteArray} (h : Tz w (.slice (some ⟨b, off, none⟩) n cap) xs) {k : Nat} (hk : k < xs.length) : w.cell? ⟨b, off + k, none⟩ = some (.string (xs.getD k ⟨#[]⟩)) := by
  obtain ⟨ao, cap', h1, _, _, _, h5⟩ := h
  obtain ⟨b', off', rfl, h7⟩ := h5 (by intro h0; rw [h0] at hk; simp at hk)
  simp only [Value.slice.injEq, Option.some.injEq, Addr.mk.injEq, and_true] at h1
  obtain ⟨⟨rfl, rfl⟩, _⟩ := h1
  exact h7 k hk
theorem Tz.at {w : World} {ao : Option Addr} {n cap : Nat} {xs : List ByteArray} (h : Tz w (.slice ao n cap) xs) {k : Nat} (hk : k < xs.length) : ∃ b off, ao = some ⟨b, off, none⟩ ∧ ∀ w', Below w.heap.size w w' → w'.cell? ⟨b, off + k, none⟩ = some (.string (xs.getD k ⟨#[]⟩)) := by
  obtain ⟨ao', cap', h1, _, _, _, h5⟩ := id h
  obtain ⟨b', off', rfl, h7⟩ := h5 (by intro h0; rw [h0] at hk; simp at hk)
  simp only [Value.slice.injEq] at h1
  obtain ⟨rfl, rfl, rfl⟩ := h1
  exact ⟨b', off', rfl, fun w' hb => (h.grow hb).cellAt hk⟩

theorem made_t (n : Nat) : (madeCells #[Value.string ⟨#[]⟩] n).toList = (List.replicate n (⟨#[]⟩ : ByteArray)).map Value.string := by
  rw [toList_madeCells_one]; simp
theorem map_set_str (xs : List ByteArray) (k : Nat) (z : ByteArray) : (xs.map Value.string).set k (.string z) = (xs.set k z).map Value.string := by
  rw [List.map_set]
theorem copy_step_t (zs : List ByteArray) (k : Nat) (hk : k < zs.length) :
    (zs.take k ++ List.replicate (zs.length - k) (⟨#[]⟩ : ByteArray)).set k (zs.getD k ⟨#[]⟩) = zs.take (k + 1) ++ List.replicate (zs.length - (k + 1)) (⟨#[]⟩ : ByteArray) := by
  apply List.ext_getElem?
  intro i
  by_cases h : i = k
  · subst h
    rw [List.getElem?_set_self (by simp; omega), List.getElem?_append_left (by simp; omega)]
    simp [List.getD, hk]
  · rw [List.getElem?_set_ne (by omega)]
    simp only [List.getElem?_append, List.length_take, List.getElem?_take, List.getElem?_replicate]
    grind

set_option maxHeartbeats 1000000 in
theorem implJoinTexts_any (l : List ByteArray) (v : Value) (w : World) (h : Tz w v l) (hz : l.length + szT l ≤ 33554432) :
    Calls Tryd.prog 29 #[v] w fun e w' => e = .returned (.string (jnT l l.length)) ∧ Below w.heap.size w w' := by
  have HH := Hid.mk h
  obtain ⟨ao, cap, rfl, hl1, hm, -, -⟩ := h
  unfold maxLen at hm
  have HS : Hid (∀ k, k ≤ l.length → (jnT l k).size ≤ 67108864) := fun k hk => by
    have h1 := jnT_size l k hk
    have h2 := szT_le l k
    omega
  have HA : Hid (∀ k, k < l.length → (l.getD k ⟨#[]⟩).size ≤ 33554432) := fun k hk => by have := szT_at l k hk; omega
  have B0 : Hid (Below w.heap.size w (w.alloc (.cells #[.pointer none, .slice none 0 0] 66))) := (Below.refl _ _).alloc (Nat.le_refl _) _
  have D0 := Hid.mk (Bd.fresh w)
  go_enter Tryd.func29, Tryd.ntmps29
  go_wp2
  go_loopw [8] (fun i wr => ∃ (k : Nat), k ≤ l.length ∧ i = .int .i64 k ∧ Hid (Bd wr w.heap.size w.heap.size (jnT l k)) ∧ Hid (Below w.heap.size w wr)) (fun i _ => l.length - (intOf i).toNat)
  case atStart => exact ⟨0, Nat.zero_le _, rfl, D0, B0⟩
  case round =>
    obtain ⟨k, hk, rfl, HD, HB⟩ := hrel
    clear D0 B0
    by_cases hkl : k < l.length
    · obtain ⟨b, off, rfl, hcell⟩ := HH.out.at hkl
      have c0 := hcell wr HB.out
      have hx := HA.out k hkl
      have hj := HS.out k hk
      have hst : jnT l (k + 1) = (if k = 0 then jnT l k else jnT l k ++ ⟨#[32]⟩) ++ l.getD k ⟨#[]⟩ := rfl
      generalize l.getD k ⟨#[]⟩ = x at *
      generalize jnT l k = a at *
      have HST := Hid.mk hst
      have hki : (k : Int) < (l.length : Int) := by omega
      clear hcell hst
      by_cases h0 : k = 0
      · have hkp : ¬ (0 : Int) < (k : Int) := by omega
        have H0 := Hid.mk h0
        clear h0
        have HW := Hid.mk (bdString_any w.heap.size w.heap.size a x wr HD.out (by omega) HB.out.size)
        go_wp2_with fail
        refine HW.out.mono ?_
        rintro e w2 ⟨rfl, hd2, hb2, -⟩
        have HD2 := Hid.mk hd2
        have HB2 := Hid.mk (HB.out.trans hb2)
        clear hd2 hb2 HW HD HB c0
        go_wp2
        go_roundw
        case rel => exact ⟨k + 1, by omega, by go_num, by rw [HST.out, if_pos H0.out]; exact HD2, HB2⟩
        case measure => simp [intOf]; omega
      · have hkp : (0 : Int) < (k : Int) := by omega
        have HW := Hid.mk (bdByte_any w.heap.size w.heap.size a 32 ⟨#[32]⟩ rfl wr HD.out (by omega) HB.out.size)
        go_wp2_with fail
        refine HW.out.mono ?_
        rintro e w2 ⟨rfl, hd2, hb2, -⟩
        have HB2 := Hid.mk (HB.out.trans hb2)
        have HW2 := Hid.mk (bdString_any w.heap.size w.heap.size (a ++ ⟨#[32]⟩) x w2 hd2 (by rw [ByteArray.size_append]; have : (⟨#[32]⟩ : ByteArray).size = 1 := rfl; omega) HB2.out.size)
        clear hd2 hb2 HW HD HB c0
        go_wp2_with fail
        refine HW2.out.mono ?_
        rintro e w3 ⟨rfl, hd3, hb3, -⟩
        have HD3 := Hid.mk hd3
        have HB3 := Hid.mk (HB2.out.trans hb3)
        clear hd3 hb3 HW2 HB2
        go_wp2
        go_roundw
        case rel => exact ⟨k + 1, by omega, by go_num, by rw [HST.out, if_neg h0]; exact HD3, HB3⟩
        case measure => simp [intOf]; omega
    · have e : k = l.length := by omega
      subst e
      have HT := Hid.mk (bdText_any w.heap.size w.heap.size _ wr HD.out HB.out.size)
      have hki : ¬ (l.length : Int) < (l.length : Int) := by omega
      go_wp2_with fail
      refine HT.out.mono ?_
      rintro e w2 ⟨rfl, hb2⟩
      have HB2 := Hid.mk (HB.out.trans hb2)
      clear hb2 HT HD HB
      go_wp2
      go_ret
      exact ⟨rfl, HB2.out⟩
end Go.Proofs.YtapcbblfcmdbnaaDoor

namespace Go.Proofs.YtapcbblfcmdbnaaDoor
open Go.RowKit
set_option maxRecDepth 8000

def tkTx (x : Tk) : ByteArray := tkT x.k x.n x.s
/-- The texts of tokens. -/
def tkTs (N : List Tk) : List ByteArray := N.map tkTx
theorem tkTs_len (N : List Tk) : (tkTs N).length = N.length := by simp [tkTs]
theorem tkTs_get (N : List Tk) (k : Nat) (h : k < N.length) : (tkTs N).getD k ⟨#[]⟩ = tkTx N[k] := by simp [tkTs, List.getD, h]
theorem tkT_size (k n : Int) (s : ByteArray) : (tkT k n s).size ≤ s.size + 21 := by
  have g2 : ∀ c, (⟨#[c]⟩ : ByteArray).size = 1 := fun c => rfl
  cases hb : tokB k n s with
  | false =>
    rw [tkT_no hb]
    have : (⟨#[]⟩ : ByteArray).size = 0 := rfl
    omega
  | true =>
    by_cases h1 : k = 1
    · subst h1
      rw [tkT_1 hb]
      have := tok_num hb
      have := numS_size n (by omega) (by omega)
      omega
    by_cases h3 : k = 3
    · subst h3
      rw [tkT_3 hb, ByteArray.size_append, ByteArray.size_append, g2]; omega
    by_cases h4 : k = 4
    · subst h4
      rw [tkT_4 hb, ByteArray.size_append, ByteArray.size_append, g2]; omega
    · rw [tkT_s hb h1 h3 h4]; omega
theorem tkTs_sz (N : List Tk) : szT (tkTs N) ≤ szTk N + 21 * N.length := by
  induction N with
  | nil => simp [tkTs, szT, szTk]
  | cons x r ih =>
    have := tkT_size x.k x.n x.s
    simp only [tkTs, szT, szTk, List.map_cons, List.sum_cons, List.length_cons, tkTx] at *
    omega

theorem jnT_step (l : List ByteArray) (k : Nat) : jnT l (k + 1) = (if k = 0 then jnT l k else jnT l k ++ ⟨#[32]⟩) ++ l.getD k ⟨#[]⟩ := rfl
set_option maxHeartbeats 2000000 in
theorem specJoinTokens_any (N : List Tk) (v : Value) (w : World) (h : Tl w N v) (hz : N.length + szTk N ≤ 1048576) :
    Calls Tryd.prog 32 #[v] w fun e w' => e = .returned (.string (jnT (tkTs N) N.length)) ∧ Below w.heap.size w w' := by
  have HS : Hid (∀ k, k ≤ N.length → (jnT (tkTs N) k).size ≤ 67108864) := fun k hk => by
    have h1 := jnT_size (tkTs N) k (by rw [tkTs_len]; exact hk)
    have h2 := szT_le (tkTs N) k
    have h3 := tkTs_sz N
    omega
  have HG := Hid.mk (tkTs_get N)
  obtain ⟨ao, cap, rfl, hl1, hm, -, hsz, hc⟩ := h
  unfold maxLen at hm
  have HC := Hid.mk hc
  have HZ := Hid.mk hsz
  clear hc hsz
  go_enter Tryd.func32, Tryd.ntmps32
  go_wp2
  go_loopw [3, 4] (fun s i wr => ∃ (k : Nat), k ≤ N.length ∧ i = .int .i64 k ∧ s = .string (jnT (tkTs N) k) ∧ Hid (Below w.heap.size w wr)) (fun _ i _ => N.length - (intOf i).toNat)
  case atStart => exact ⟨0, Nat.zero_le _, rfl, rfl, Below.refl _ _⟩
  case round =>
    obtain ⟨k, hk, rfl, rfl, HB⟩ := hrel
    by_cases hkl : k < N.length
    · obtain ⟨b, off, rfl, hcell⟩ := HC.out (by intro h0; rw [h0] at hkl; simp at hkl)
      have h4 := hcell k hkl
      have hbl := World.block_lt_of_cell? w _ h4.1
      obtain ⟨c0, c1, c2⟩ := h4.kept (w' := wr) (HB.out.block b hbl)
      have hj := HS.out k hk
      have HST : Hid (jnT (tkTs N) (k + 1) = (if k = 0 then jnT (tkTs N) k else jnT (tkTs N) k ++ ⟨#[32]⟩) ++ tkTx N[k]) := by
        show _ = _
        rw [jnT_step, HG.out k hkl]
      have hj1 := HS.out (k + 1) (by omega)
      have hx : (tkTx N[k]).size ≤ 67108864 := by
        rw [HST.out, ByteArray.size_append] at hj1
        omega
      have HX := Hid.mk (specTokenText_any N[k].k N[k].n N[k].s wr (HZ.out _ (List.getElem_mem hkl)))
      have htx : tkTx N[k] = tkT N[k].k N[k].n N[k].s := rfl
      rw [htx] at HST hx
      generalize tkT N[k].k N[k].n N[k].s = x at HX HST hx
      generalize N[k] = y at c0 c1 c2 HX
      generalize jnT (tkTs N) k = a at *
      have hki : (k : Int) < (N.length : Int) := by omega
      clear hcell h4 htx hj1
      by_cases h0 : k = 0
      · have hkp : ¬ (0 : Int) < (k : Int) := by omega
        have H0 := Hid.mk h0
        clear h0
        have hs1 : ¬ 9223372036854775807 < a.size + x.size := by omega
        go_wp2_with fail
        refine HX.out.mono ?_
        rintro e w2 ⟨rfl, hb2⟩
        have HB2 := Hid.mk (HB.out.trans (hb2.mono HB.out.size))
        clear hb2 HX HB c0 c1 c2
        go_wp2
        go_roundw
        case rel => exact ⟨k + 1, by omega, by go_num, by rw [HST.out, if_pos H0.out], HB2⟩
        case measure => simp [intOf]; omega
      · have hkp : (0 : Int) < (k : Int) := by omega
        have h1 : (⟨#[32]⟩ : ByteArray).size = 1 := rfl
        have hs0 : ¬ 9223372036854775807 < a.size + 1 := by omega
        have hs1 : ¬ 9223372036854775807 < a.size + 1 + x.size := by omega
        have hs2 : ¬ 9223372036854775807 < (a ++ ⟨#[32]⟩).size + x.size := by rw [ByteArray.size_append]; omega
        go_wp2_with fail
        refine HX.out.mono ?_
        rintro e w2 ⟨rfl, hb2⟩
        have HB2 := Hid.mk (HB.out.trans (hb2.mono HB.out.size))
        clear hb2 HX HB c0 c1 c2
        go_wp2
        go_roundw
        case rel => exact ⟨k + 1, by omega, by go_num, by rw [HST.out, if_neg h0], HB2⟩
        case measure => simp [intOf]; omega
    · have e : k = N.length := by omega
      subst e
      go_wp2
      go_ret
      exact ⟨rfl, HB.out⟩

set_option maxHeartbeats 2000000 in
theorem implJoinTokens_any (N : List Tk) (v : Value) (w : World) (h : Tl w N v) (hz : N.length + szTk N ≤ 1048576) (ht : Tab w) :
    Calls Tryd.prog 9 #[v] w fun e w' => e = .returned (.string (jnT (tkTs N) N.length)) ∧ Below w.heap.size w w' := by
  have HG := Hid.mk (tkTs_get N)
  have HJ : Hid (∀ w' v', Tz w' v' (tkTs N) → Calls Tryd.prog 29 #[v'] w' fun e w'' => e = .returned (.string (jnT (tkTs N) N.length)) ∧ Below w'.heap.size w' w'') := fun w' v' h => by
    have := implJoinTexts_any (tkTs N) v' w' h (by rw [tkTs_len]; have := tkTs_sz N; omega)
    rw [tkTs_len] at this
    exact this
  have HST := Hid.mk (copy_step_t (tkTs N))
  have HLN := Hid.mk (tkTs_len N)
  have HTB := Hid.mk (fun w' (hb : Below w.heap.size w w') => ht.grow hb)
  obtain ⟨ao, cap, rfl, hl1, hm, -, hsz, hc⟩ := h
  unfold maxLen at hm
  have HC := Hid.mk hc
  have HZ := Hid.mk hsz
  clear hc hsz ht
  obtain ⟨i0, hi, hz0, hz1, hz2⟩ := info_parts infoT
  generalize tkTs N = zs at *
  obtain ⟨n, hnn⟩ : ∃ n, N.length = n := ⟨_, rfl⟩
  have HNN := Hid.mk hnn
  rw [hnn] at hl1 hz HLN HJ ⊢
  clear hnn
  go_enter Tryd.func9, Tryd.ntmps9
  go_wp2_with (at_make; refine wpList_make_full _ rfl _ _ 46 rfl w.heap.size 9 i0 (.string ⟨#[]⟩) 1 Tryd.underlying46 hi hz0 hz1 _ _ _ _ n rfl rfl rfl rfl (by rw [hz2]; omega) (by unfold maxLen; omega) (by simp) ?_)
  intro w1 hown hgrow
  rw [made_t] at hown
  have hbel : Hid (Below w.heap.size w w1) := (Below.refl _ _).grown hgrow (Nat.le_refl _) (by simp)
  have H0 : Hid (w1.ownsRow w.heap.size 9 1 (.slice (some ⟨w.heap.size, 0, none⟩) n n) n ((zs.take 0 ++ List.replicate (n - 0) (⟨#[]⟩ : ByteArray)).map Value.string)) := by show World.ownsRow _ _ _ _ _ _ _; simpa using hown
  clear hgrow hown hi hz0 hz1 hz2
  go_wp2
  go_loopw [11] (fun i wr => ∃ k : Nat, k ≤ n ∧ i = .int .i64 k ∧ Hid (wr.ownsRow w.heap.size 9 1 (.slice (some ⟨w.heap.size, 0, none⟩) n n) n ((zs.take k ++ List.replicate (n - k) (⟨#[]⟩ : ByteArray)).map Value.string)) ∧ Hid (Below w.heap.size w wr)) (fun i _ => n - (intOf i).toNat)
  case atStart => exact ⟨0, Nat.zero_le _, rfl, H0, hbel⟩
  case round =>
    obtain ⟨k, hk, rfl, HO, HB⟩ := hrel
    clear H0 hbel
    by_cases hkl : k < n
    · have hkN : k < N.length := by rw [HNN.out]; exact hkl
      obtain ⟨b, off, rfl, hcell⟩ := HC.out (by intro h0; rw [h0] at hkN; simp at hkN)
      have h4 := hcell k hkN
      have hbl := World.block_lt_of_cell? w _ h4.1
      obtain ⟨c0, c1, c2⟩ := h4.kept (w' := wr) (HB.out.block b hbl)
      have BB : Hid (∀ o, Below wr.heap.size wr (wr.alloc o)) := fun o => (Below.refl _ _).alloc (Nat.le_refl _) _
      have HX : Hid (∀ o, Calls Tryd.prog 11 #[tkV N[k]] (wr.alloc o) fun e w' => e = .returned (.string (tkTx N[k])) ∧ Below (wr.alloc o).heap.size (wr.alloc o) w') := fun o => implTokenText_any _ _ _ _ (HZ.out _ (List.getElem_mem hkN)) (HTB.out _ (HB.out.trans ((BB.out o).mono HB.out.size)))
      have HST' := Hid.mk (HST.out k (by rw [HLN.out]; exact hkl))
      have hgk := HG.out k hkN
      rw [hgk, HLN.out] at HST'
      generalize tkTx N[k] = x at HX HST'
      generalize N[k] = y at c0 c1 c2 HX
      have hki : (k : Int) < (n : Int) := by omega
      clear hcell h4 hgk
      go_wp2_with fail
      refine (HX.out _).mono ?_
      rintro e w2 ⟨rfl, hb2⟩
      have hb02 := (BB.out _).trans (hb2.mono (BB.out _).size)
      have hO2 := World.ownsRow.kept (row := none) HO.out ⟨hb02.os, hb02.tape, hb02.output, hb02.size, fun k hk _ => hb02.block k hk⟩ (.inr (by simp [Value.ownBlock]))
      have HB2 := HB.out.trans (hb02.mono HB.out.size)
      have hfr := hO2.frozenAt k
      have hold := hO2.cellAt k (by omega)
      have HR : Hid ((w2.setCell ⟨w.heap.size, k, none⟩ (.string x)).ownsRow w.heap.size 9 1 (.slice (some ⟨w.heap.size, 0, none⟩) n n) n ((zs.take (k + 1) ++ List.replicate (n - (k + 1)) (⟨#[]⟩ : ByteArray)).map Value.string)) := by
        have := (hO2.stored k (.string x)).1
        rw [map_set_str, HST'.out] at this
        exact this
      have HBR : Hid (Below w.heap.size w (w2.setCell ⟨w.heap.size, k, none⟩ (.string x))) := HB2.setCell (Nat.le_refl _) _
      obtain ⟨o, ho⟩ : ∃ o, ((zs.take k ++ List.replicate (n - k) (⟨#[]⟩ : ByteArray)).map Value.string)[k]? = some (.string o) := by
        have : k < (zs.take k ++ List.replicate (n - k) (⟨#[]⟩ : ByteArray)).length := by simp [HLN.out]; omega
        exact ⟨_, by rw [List.getElem?_map, List.getElem?_eq_getElem this]; rfl⟩
      rw [ho] at hold
      clear hb2 hb02 HB2 hO2 HX BB HO HB ho HST' c0 c1 c2
      go_wp2
      go_roundw
      case rel => exact ⟨k + 1, by omega, by go_num, HR, HBR⟩
      case measure => simp [intOf]; omega
    · have e : k = n := by omega
      subst e
      have hT : Hid (Tz wr (.slice (some ⟨w.heap.size, 0, none⟩) k k) zs) := OwnT.iz (base := w.heap.size) (by
        unfold OwnT
        rw [HLN.out]
        have := HO.out
        simp only [Nat.sub_self, List.replicate_zero, List.append_nil] at this
        rw [List.take_of_length_le (by rw [HLN.out]; exact Nat.le_refl _)] at this
        exact this)
      have HJ' := Hid.mk (HJ.out _ _ hT.out)
      clear HJ HO hT HST HTB HC HZ HG
      go_wp2_with fail
      refine HJ'.out.mono ?_
      rintro e w2 ⟨rfl, hb2⟩
      have HB2 := Hid.mk (HB.out.trans (hb2.mono HB.out.size))
      clear hb2 HJ' HB
      go_wp2
      go_ret
      exact ⟨rfl, HB2.out⟩
end Go.Proofs.YtapcbblfcmdbnaaDoor
