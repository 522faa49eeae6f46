/- Marks that are held. -/
import Derived.Test.YtflfjklefdgniaaMarkTree
namespace Go.Proofs.Ytflfjklefdgniaa
open Go.RowKit
set_option maxRecDepth 8000

def HeS (l : List Tr) : Prop := ∀ (m : Nat) (B : Nat → Prop) (v : Value) (w : World), Rl w B (markedL l m) v → m + 2 * cntL l ≤ 1000000 →
  Calls Try.prog 39 #[v, .int .i64 (m : Int)] w fun e w' => e = .returned (.int .i64 ((m + 2 * cntL l : Nat) : Int)) ∧ Below w.heap.size w w'

set_option maxHeartbeats 1000000 in
theorem heldRexS_step (l : List Tr) (ih : ∀ x ∈ l, HeS x.l) : HeS l := by
  intro m B v w h hmc
  obtain ⟨ao, cap, rfl, hl1, hl2, hl3⟩ := h.len
  rw [markedL_length] at hl1 ⊢
  have hm : cap ≤ 9223372036854775807 := by unfold maxLen at hl2; omega
  have HI := Hid.mk ih
  have H1 := Hid.mk h
  clear ih h hl2
  go_enter Try.func39, Try.ntmps39
  go_wp2
  go_loopw [1, 5] (fun q i wr => ∃ (k : Nat), k ≤ l.length ∧ i = .int .i64 k ∧ q = .int .i64 ((m + 2 * cntL (l.take k) : Nat) : Int) ∧ Below w.heap.size w wr) (fun _ i _ => l.length - (intOf i).toNat)
  case atStart => exact ⟨0, Nat.zero_le _, rfl, by simp [cntL], Below.refl _ _⟩
  case round =>
    obtain ⟨k, hk, rfl, rfl, hbel⟩ := hrel
    by_cases hkl : k < l.length
    · obtain ⟨b, off, V, rfl, hel⟩ := H1.out.elems (by intro hn; have := congrArg List.length hn; rw [markedL_length] at this; simp at this; rw [this] at hkl; simp at hkl)
      obtain ⟨h3, hsub, hss⟩ := hel k (by rw [markedL_length]; exact hkl)
      have hsz : HeS l[k].l := HI.out _ (List.getElem_mem hkl)
      have hct := cntL_take l k hkl
      have hle := cntL_take_le l (k + 1)
      have hce := cnt_eq l[k]
      rw [markedL_get l m k hkl] at h3 hsub hss
      obtain ⟨t, ht⟩ : ∃ t, l[k] = t := ⟨_, rfl⟩
      rw [ht] at h3 hsub hsz hss hct hce
      rw [marked_k, marked_s] at h3
      rw [marked_l] at hsub
      obtain ⟨j, hj⟩ : ∃ j, m + 2 * cntL (l.take k) = j := ⟨_, rfl⟩
      rw [hj] at h3 hsub ⊢
      clear ht hel hss
      obtain ⟨c0, c1, c2⟩ := h3.kept (w' := wr) (hbel.block b (World.block_lt_of_cell? w _ h3.1))
      have hg := hsub.grow hbel
      have HT : ∀ w', Calls Try.prog 56 #[.int .i64 ((j : Int) + 1)] w' fun e w'' => e = .returned (.string (mkS (j + 1))) ∧ Below w'.heap.size w' w'' := fun w' => by
        have := markText_any (j + 1) w' (by omega)
        rw [show ((j + 1 : Nat) : Int) = (j : Int) + 1 by omega] at this
        exact this
      obtain ⟨M, hM⟩ : ∃ M, mkS (j + 1) = M := ⟨_, rfl⟩
      obtain ⟨j1, hj1⟩ : ∃ j1 : Int, (j : Int) + 1 = j1 := ⟨_, rfl⟩
      rw [hM] at c1
      rw [hM, hj1] at HT
      have cA := Hid.mk (fun d os => Calls.regrown_of (w := wr) (d := d) (os := os) (HT _))
      have hi1 : (k : Int) < (l.length : Int) := by omega
      have hkk : ((j : Int) != (j : Int)) = false := by simp
      have hss2 : (M.toList != M.toList) = false := by simp
      have a1 := cell_regrown c1
      have HG := Hid.mk hg
      have HS := Hid.mk hsz
      have HA := Hid.mk (⟨hct, hle, hce, hj, hmc⟩ : _ ∧ _ ∧ _ ∧ _ ∧ _)
      have hj1b : j1 ≤ 1000001 := by omega
      have hj1c : 0 ≤ j1 := by omega
      have HJ := Hid.mk hj1
      clear hg hsz hct hle hce hj hmc HT h3 hsub hM
      go_wp2_with fail
      clear hj1
      refine wp_region_quiet_below (by kernel_rfl) (by kernel_rfl) ?_
      quiet_step (fail)
      quiet_step (fail)
      quiet_step (fail)
      quiet_step (fail)
      quiet_step (fail)
      quiet_step (fail)
      quiet_step (exact cA.out _ _)
      quiet_step (fail)
      refine wpQuiet_nil ?_
      intro w6 hw'
      obtain ⟨⟨dq, osq⟩, hw''⟩ := hw'
      have hb6 : Below wr.heap.size wr w6 := by rw [hw'']; exact below_regrown _ _ _
      have B6 := hbel.trans (hb6.mono hbel.size)
      have e2 : w6.cell? ⟨b, off + k * 3 + 2, none⟩ = some (V k) := by rw [World.cell?_of_block (w := wr) (hb6.block b (World.block_lt_of_cell? wr _ c2))]; exact c2
      have HG6 := Hid.mk (HG.out.grow hb6)
      have hjb : j ≤ 1000000 := by obtain ⟨_, _, _, _, _⟩ := HA.out; omega
      have hC := HS.out (j + 2) B (V k) w6 HG6.out (by obtain ⟨_, _, _, _, _⟩ := HA.out; omega)
      rw [show ((j + 2 : Nat) : Int) = j1 + 1 by have := HJ.out; omega] at hC
      have HC := Hid.mk hC
      clear hw'' a1 cA hb6 c0 c1 c2 HG HG6 HS hC hbel
      go_wp2_with fail
      refine HC.out.mono ?_
      rintro e w7 ⟨rfl, hb7⟩
      have B7 := B6.trans (hb7.mono B6.size)
      have hnn : ¬ (((j + 2 + 2 * cntL t.l : Nat) : Int) < 0) := by omega
      clear HC hb7 B6 e2
      go_wp2
      go_roundw
      case rel => exact ⟨k + 1, by omega, by go_num, by obtain ⟨_, _, _, _, _⟩ := HA.out; congr 2; omega, B7⟩
      case measure => simp [intOf]; omega
    · have hke : k = l.length := by omega
      subst hke
      rw [List.take_length]
      go_wp2
      go_ret
      exact ⟨rfl, hbel⟩

theorem heldRexS_any (l : List Tr) : HeS l := (Tr.ind (P := fun t => HeS t.l) (fun t ih => heldRexS_step t.l ih) (.node 0 ⟨#[]⟩ l))

theorem heldRex_any (t : Tr) (k : Int) (s : ByteArray) (m : Nat) (B : Nat → Prop) (v : Value) (w : World) (h : Rl w B (markedL t.l m) v) (hm : m + 2 * cntL t.l ≤ 1000000) :
    Calls Try.prog 21 #[rx k s v, .int .i64 (m : Int)] w fun e w' => e = .returned (.int .i64 ((m + 2 * cntL t.l : Nat) : Int)) ∧ Below w.heap.size w w' := by
  have B0 : Below w.heap.size w (w.alloc (.cells #[.int .i64 k, .string s, v] 26)) := (Below.refl _ _).alloc (Nat.le_refl _) _
  have HC := Hid.mk (fun (w' : World) (hb : Below w.heap.size w w') => heldRexS_any t.l m B v w' (h.grow hb) hm)
  obtain ⟨n, hn⟩ : ∃ n, m + 2 * cntL t.l = n := ⟨_, rfl⟩
  rw [hn] at HC ⊢
  have hn0 : ¬ ((n : Int) < 0) := by omega
  clear h hm hn
  go_enter Try.func21, Try.ntmps21
  go_wp2_with fail
  refine (HC.out _ (by first | exact B0 | exact Below.refl _ _)).mono ?_
  rintro e w1 ⟨rfl, hb1⟩
  have B1 : Below w.heap.size w w1 := by first | exact B0.trans (hb1.mono B0.size) | exact hb1
  clear HC B0 hb1
  go_wp2
  go_ret
  exact ⟨rfl, B1⟩
end Go.Proofs.Ytflfjklefdgniaa
