/- How many nodes a part has: l5Size of the model. -/
import Derived.Test.YtapniafhcagogaaNfaLay
import Derived.Test.YtapniafhcagogaaRexTo
import Derived.Test.YtapniafhcagogaaRexBox
namespace Go.Proofs.Ytapniafhcagogaa
open Go.RowKit
set_option maxRecDepth 8000

mutual
/-- One or the other has at least one part. -/
def Tr.alt : Tr → Bool
  | .node k _ l => (k != 5 || !l.isEmpty) && altL l
def altL : List Tr → Bool
  | [] => true
  | t :: r => t.alt && altL r
end
theorem altL_mem : ∀ {l : List Tr}, altL l = true → ∀ x ∈ l, x.alt = true
  | [], _, x, h => by cases h
  | t :: r, h, x, hx => by
    rw [altL, Bool.and_eq_true] at h
    rcases List.mem_cons.1 hx with rfl | h'
    · exact h.1
    · exact altL_mem h.2 x h'
theorem alt_l {t : Tr} (h : t.alt = true) : altL t.l = true ∧ (t.k = 5 → t.l ≠ []) := by
  cases t with
  | node k s l =>
    rw [Tr.alt, Bool.and_eq_true] at h
    refine ⟨h.2, fun hk hl => ?_⟩
    simp only [Tr.k, Tr.l] at hk hl
    subst hk hl
    simp at h
theorem nszL_take : ∀ (l : List Tr) (k : Nat) (h : k < l.length), nszL (l.take (k + 1)) = nszL (l.take k) + l[k].nsz
  | t :: r, 0, _ => by simp [nszL]
  | t :: r, k + 1, h => by
    have := nszL_take r k (by simpa using h)
    simp only [List.take_succ_cons, nszL, List.getElem_cons_succ] at this ⊢
    omega
theorem nszL_le : ∀ (l : List Tr) (k : Nat), nszL (l.take k) ≤ nszL l
  | [], k => by simp [nszL]
  | t :: r, 0 => by simp [nszL]
  | t :: r, k + 1 => by
    have := nszL_le r k
    simp only [List.take_succ_cons, nszL]
    omega
theorem nszL_nsz (t : Tr) : nszL t.l ≤ t.nsz := by
  rw [nsz_eq]
  split
  · omega
  · split
    · omega
    · split <;> omega

def LsC (t : Tr) : Prop := ∀ (B : Nat → Prop) (v : Value) (w : World), Rl w B t.l v → t.s.size ≤ maxLen → t.alt = true → t.nsz ≤ 1000000 →
  Calls Try.prog 74 #[rx t.k t.s v] w fun e w' => e = .returned (.int .i64 ((t.nsz : Nat) : Int)) ∧ Below w.heap.size w w'

set_option maxHeartbeats 2000000 in
theorem l5Size_step (t : Tr) (ih : ∀ x ∈ t.l, LsC x) : LsC t := by
  intro B v w h hts halt hn
  have hal := alt_l halt
  have hnn := nszL_nsz t
  have HNS := Hid.mk (nsz_eq t)
  have HIH := Hid.mk ih
  have HH := Hid.mk h
  have HAL := Hid.mk (altL_mem hal.1)
  have HNE := Hid.mk hal.2
  obtain ⟨ao, cap, rfl, hl1, hl2, -⟩ := h.len
  unfold maxLen at hl2
  obtain ⟨N, hN⟩ : ∃ N, t.nsz = N := ⟨_, rfl⟩
  obtain ⟨tk, htk⟩ : ∃ tk, t.k = tk := ⟨_, rfl⟩
  obtain ⟨ts, hts'⟩ : ∃ ts, t.s = ts := ⟨_, rfl⟩
  obtain ⟨l, hl⟩ : ∃ l, t.l = l := ⟨_, rfl⟩
  rw [hN, htk, hl] at HNS
  rw [hN] at hn hnn
  rw [hl] at HIH HH HAL hl1 hnn
  rw [htk, hl] at HNE
  rw [htk, hts', hl, hN]
  have HTK := Hid.mk (nszL_take l)
  have HLE := Hid.mk (nszL_le l)
  have HALL : Hid (nszL (l.take l.length) = nszL l) := by show _ = _; rw [List.take_length]
  have H0 : Hid (nszL (l.take 0) = 0) := by show _ = _; simp [nszL]
  have X0 := Hid.mk (Bz3.new w (.int .i64 tk) (.string ts) (.slice ao l.length cap))
  have A0 : Hid (Below w.heap.size w (w.alloc (.cells #[.int .i64 tk, .string ts, .slice ao l.length cap] 26))) := (Below.refl _ _).alloc (Nat.le_refl _) _
  clear ih h hal halt hN htk hts' hl hts
  go_enter Try.func74, Try.ntmps74
  go_wp2
  go_loopw [3, 4] (fun q i wr => ∃ (k : Nat), k ≤ l.length ∧ i = .int .i64 k ∧ q = .int .i64 ((nszL (l.take k) : Nat) : Int) ∧ Hid (Bz3 wr w.heap.size (.int .i64 tk) (.string ts) (.slice ao l.length cap)) ∧ Hid (Below w.heap.size w wr)) (fun _ i _ => l.length - (intOf i).toNat)
  case atStart => exact ⟨0, Nat.zero_le _, rfl, by rw [H0.out]; rfl, X0, A0⟩
  case round =>
    obtain ⟨k, hk, rfl, rfl, HX, HB⟩ := hrel
    clear X0 A0 H0
    have x0 := HX.out.c0
    have x2 := HX.out.c2
    by_cases hkl : k < l.length
    · obtain ⟨b, off, V, rfl, hel⟩ := HH.out.elems (by intro hn; rw [hn] at hkl; simp at hkl)
      obtain ⟨h3, hsub, hss⟩ := hel k hkl
      obtain ⟨c0, c1, c2⟩ := h3.kept (w' := wr) (HB.out.block b (World.block_lt_of_cell? w _ h3.1))
      have hsz := HTK.out k hkl
      have hle := HLE.out (k + 1)
      have HC := Hid.mk (HIH.out l[k] (List.getElem_mem hkl) B (V k) wr (hsub.grow HB.out) hss (HAL.out _ (List.getElem_mem hkl)) (by omega))
      have HSZ := Hid.mk hsz
      generalize l[k] = x at c0 c1 c2 HC HSZ hsz
      generalize hT : nszL (l.take k) = T at hsz
      generalize hT1 : nszL (l.take (k + 1)) = T1 at hsz hle
      have HT1 := Hid.mk hT1
      have hi1 : (k : Int) < (l.length : Int) := by omega
      obtain ⟨xn, hxn⟩ : ∃ xn, x.nsz = xn := ⟨_, rfl⟩
      rw [hxn] at HC hsz
      clear hel h3 hsub hss hT hT1 hxn HSZ HIH HH HAL
      go_wp2_with fail
      refine HC.out.mono ?_
      rintro e w1 ⟨rfl, hb1⟩
      have HX1 := Hid.mk (HX.out.grow hb1)
      have HB1 := Hid.mk (HB.out.trans (hb1.mono HB.out.size))
      clear hb1 HC HX HB x0 x2 c0 c1 c2
      go_wp2
      go_roundw
      case rel => exact ⟨k + 1, by omega, by go_num, by rw [HT1.out, hsz]; congr 1, HX1, HB1⟩
      case measure => simp [intOf]; omega
    · have e : k = l.length := by omega
      subst e
      have hall := HALL.out
      have hns := HNS.out
      generalize hS : nszL (l.take l.length) = S at *
      rw [← hall] at hns hnn
      clear hS hall HTK HLE HALL HIH HH HAL HX
      by_cases h9 : tk = 9
      · rw [if_pos (.inl h9)] at hns
        subst h9
        subst hns
        go_wp2
        go_ret
        exact ⟨rfl, HB.out⟩
      have h9' : (tk == 9) = false := beq_eq_false_iff_ne.2 h9
      by_cases h4 : tk = 4
      · rw [if_pos (.inr h4)] at hns
        subst h4
        subst hns
        go_wp2
        go_ret
        exact ⟨rfl, HB.out⟩
      have h4' : (tk == 4) = false := beq_eq_false_iff_ne.2 h4
      rw [if_neg (by rintro (h | h) <;> contradiction)] at hns
      by_cases h5 : tk = 5
      · rw [if_pos h5] at hns
        have hpos : 0 < l.length := List.length_pos_iff.2 (HNE.out h5)
        have hnz : ((N : Nat) : Int) = (S : Int) + 2 * ((l.length : Int) - 1) := by omega
        subst h5
        obtain ⟨ln, hln⟩ : ∃ ln : Int, (l.length : Int) - 1 = ln := ⟨_, rfl⟩
        have hl0 : 0 ≤ ln := by omega
        have hl9 : ln ≤ 1000000 := by omega
        have HZ := Hid.mk hnz
        rw [hln] at HZ
        have HL := Hid.mk hln
        clear hns hnz HNE
        go_wp2
        go_ret
        refine ⟨?_, HB.out⟩
        rw [HZ.out]
        first | rfl | (rw [← HL.out]; rfl) | (simp; done) | (simp; omega)
      have h5' : (tk == 5) = false := beq_eq_false_iff_ne.2 h5
      rw [if_neg h5] at hns
      by_cases h6 : tk = 6
      · rw [if_pos h6] at hns
        subst h6
        subst hns
        go_wp2
        go_ret
        exact ⟨by simp, HB.out⟩
      have h6' : (tk == 6) = false := beq_eq_false_iff_ne.2 h6
      rw [if_neg h6] at hns
      subst hns
      go_wp2
      go_ret
      exact ⟨by simp, HB.out⟩
theorem l5Size_any : ∀ t : Tr, LsC t := Tr.ind (fun t ih => l5Size_step t ih)
end Go.Proofs.Ytapniafhcagogaa
