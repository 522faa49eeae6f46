/- Which regular expressions are right, as the document's model asks it. -/
import Derived.Test.YthifleacfhijnaaDoorRexDef
namespace Go.Proofs.YthifleacfhijnaaDoor
open Go.RowKit
set_option maxRecDepth 8000

theorem specRepeat_any (k : Int) (w : World) : Calls Tryd.prog 57 #[.int .i64 k] w fun e w' => e = .returned (.bool (repB k)) ∧ w' = w := by
  by_cases e1 : k = 6
  · subst e1
    go_enter Tryd.func57, Tryd.ntmps57
    go_wp2
    go_ret
    exact ⟨ret_b rfl, rfl⟩
  by_cases e2 : k = 7
  · subst e2
    go_enter Tryd.func57, Tryd.ntmps57
    go_wp2
    go_ret
    exact ⟨ret_b rfl, rfl⟩
  have H : Hid (repB k = (k == 8)) := by show _ = _; rw [repB, beq_eq_false_iff_ne.2 e1, beq_eq_false_iff_ne.2 e2]; rfl
  have b1 := beq_eq_false_iff_ne.2 e1
  have b2 := beq_eq_false_iff_ne.2 e2
  clear e1 e2
  go_enter Tryd.func57, Tryd.ntmps57
  go_wp2
  go_ret
  exact ⟨ret_b H.out.symm, rfl⟩

def PartsC (f : Nat) : Prop := ∀ (t : Tr) (B : Nat → Prop) (v : Value) (w : World), Rl w B t.l v →
  Calls Tryd.prog 46 #[rx t.k t.s v, .int .i64 (7 - (f : Int))] w fun e w' => e = .returned (.int .i64 (partsF f t)) ∧ Below w.heap.size w w'

theorem ret_j {a b : Int} (h : a = b) : Ending.returned (.int .i64 a) = .returned (.int .i64 b) := by rw [h]

theorem parts_zero : PartsC 0 := by
  intro t B v w h
  obtain ⟨ao, cap, rfl, hl1, hl2, hl3⟩ := h.len
  obtain ⟨k, hk⟩ : ∃ k, t.k = k := ⟨_, rfl⟩
  obtain ⟨s, hsn⟩ : ∃ s, t.s = s := ⟨_, rfl⟩
  have HR : Hid (((partsF 0 t : Nat) : Int) = 61) := rfl
  rw [hk, hsn]
  clear h
  go_enter Tryd.func46, Tryd.ntmps46
  go_wp2
  go_ret
  exact ⟨ret_j HR.out.symm, (Below.refl _ _).alloc (Nat.le_refl _) _⟩

set_option maxHeartbeats 1000000 in
theorem parts_succ (f : Nat) (hf : f ≤ 5) (ih : PartsC f) : PartsC (f + 1) := by
  intro t B v w h
  have HE : Hid (partsF (f + 1) t = t.l.foldl (partsG (partsF f)) 1) := rfl
  obtain ⟨R, hR⟩ : ∃ R, partsF (f + 1) t = R := ⟨_, rfl⟩
  obtain ⟨k, hk⟩ : ∃ k, t.k = k := ⟨_, rfl⟩
  obtain ⟨s, hsn⟩ : ∃ s, t.s = s := ⟨_, rfl⟩
  obtain ⟨l, hln⟩ : ∃ l, t.l = l := ⟨_, rfl⟩
  rw [hR, hln] at HE
  rw [hln] at h
  rw [hk, hsn, hR]
  clear hR hk hsn hln
  obtain ⟨ao, cap, rfl, hl1, hl2, hl3⟩ := h.len
  have hm : cap ≤ 9223372036854775807 := by unfold maxLen at hl2; omega
  have HH := Hid.mk h
  have HI := Hid.mk ih
  clear ih h hl2
  obtain ⟨d, hd⟩ : ∃ d : Int, 7 - ((f + 1 : Nat) : Int) = d := ⟨_, rfl⟩
  rw [hd]
  have hd6 : ¬ 6 < d := by omega
  have hd7 : d + 1 = 7 - (f : Int) := by omega
  have B0 : Below w.heap.size w (w.alloc (.cells #[.int .i64 k, .string s, .slice ao l.length cap] 26)) := (Below.refl _ _).alloc (Nat.le_refl _) _
  have B01 : Below (w.heap.size + 1) (w.alloc (.cells #[.int .i64 k, .string s, .slice ao l.length cap] 26)) (w.alloc (.cells #[.int .i64 k, .string s, .slice ao l.length cap] 26)) := Below.refl _ _
  go_enter Tryd.func46, Tryd.ntmps46
  go_wp2
  go_loopw [5, 6] (fun q i wr => ∃ (k1 m : Nat), k1 ≤ l.length ∧ i = .int .i64 k1 ∧ q = .int .i64 m ∧ m ≤ 1000 ∧ Hid (m = (l.take k1).foldl (partsG (partsF f)) 1) ∧ Below (w.heap.size + 1) (w.alloc (.cells #[.int .i64 k, .string s, .slice ao l.length cap] 26)) wr) (fun _ i _ => l.length - (intOf i).toNat)
  case atStart => exact ⟨0, 1, Nat.zero_le _, rfl, rfl, by omega, rfl, B01⟩
  case round =>
    obtain ⟨k1, m, hk, rfl, rfl, m1, Hm, hbel⟩ := hrel
    clear B01
    have hc1 := fun o => hbel.cell (p := ⟨w.heap.size, o, none⟩) (by simp)
    have hbw := B0.trans (hbel.mono (by omega))
    have hs1 := hbel.size
    simp at hs1
    by_cases hkl : k1 < l.length
    · have hi1 : (k1 : Int) < (l.length : Int) := by omega
      by_cases h60 : m ≤ 60
      · have h60' : (m : Int) ≤ 60 := by omega
        obtain ⟨b, off, V, rfl, hel⟩ := HH.out.elems (by intro hn; rw [hn] at hkl; simp at hkl)
        obtain ⟨h3, hsub, hss⟩ := hel k1 hkl
        have HT := Hid.mk (parts_take (f := f) l k1 hkl)
        obtain ⟨t, ht⟩ : ∃ t, l[k1] = t := ⟨_, rfl⟩
        rw [ht] at h3 hsub hss HT
        clear ht hel
        obtain ⟨c0, c1, c2⟩ := h3.kept (w' := wr) (hbw.block b (World.block_lt_of_cell? w _ h3.1))
        have HCall := Hid.mk (HI.out t B (V k1) wr (hsub.grow hbw))
        obtain ⟨bd0, bd1⟩ := parts_bd f t
        obtain ⟨av, cv, hv, -, -, -⟩ := hsub.len
        rw [hv] at c2 HCall
        obtain ⟨tk, htk⟩ : ∃ tk, t.k = tk := ⟨_, rfl⟩
        obtain ⟨ts, hts⟩ : ∃ ts, t.s = ts := ⟨_, rfl⟩
        rw [htk, hts] at HCall
        rw [htk] at c0
        rw [hts] at c1
        obtain ⟨q, hq⟩ : ∃ q, partsF f t = q := ⟨_, rfl⟩
        rw [hq] at bd0 bd1 HCall
        have HQ : Hid ((l.take (k1 + 1)).foldl (partsG (partsF f)) 1 = m + q) := by
          show _ = _
          rw [HT.out, ← Hm.out, partsG, if_pos h60, hq]
        clear hsub hss h3 hv HT Hm hq htk hts hbw
        go_wp2_with fail
        refine HCall.out.mono ?_
        rintro e w2 ⟨rfl, hb2⟩
        have B3 := hbel.trans (hb2.mono (by omega))
        clear hbel hb2 HCall hc1
        go_wp2
        go_roundw
        case rel => exact ⟨k1 + 1, m + q, by omega, by go_num, by go_num, by omega, HQ.out.symm, B3⟩
        case measure => simp [intOf]; omega
      · have h60' : ¬ (m : Int) ≤ 60 := by omega
        have HF : Hid ((R : Int) = m) := by
          show _ = _
          have e1 := Hm.out
          have := parts_cut (f := f) l k1 (by omega)
          rw [HE.out, this, ← e1]
        clear Hm HE
        go_wp2
        go_ret
        exact ⟨ret_j HF.out.symm, hbw⟩
    · have e : k1 = l.length := by omega
      subst e
      have HF : Hid ((R : Int) = m) := by show _ = _; rw [HE.out, Hm.out, List.take_length]
      clear Hm HE
      go_wp2
      go_ret
      exact ⟨ret_j HF.out.symm, hbw⟩
end Go.Proofs.YthifleacfhijnaaDoor
