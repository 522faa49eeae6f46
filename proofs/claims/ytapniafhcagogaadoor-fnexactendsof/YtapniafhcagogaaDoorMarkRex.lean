/- The laws' own marks, set in trees of regular expressions. -/
import Derived.Test.YtapniafhcagogaaDoorMarkSh
namespace Go.Proofs.YtapniafhcagogaaDoor
open Go.RowKit
set_option maxRecDepth 8000

def MkPost (l : List Tr) (m : Nat) (v : Value) (w w' : World) : Prop :=
  Ty w w' ∧ (∀ C, Sh w C l v → Turn C w w') ∧ (∀ C, Ow w C l v → Ow w' C (markedL l m) v)

def MkS (l : List Tr) : Prop := ∀ (m : Nat) (B : Nat → Prop) (v : Value) (w : World), Sh w B l v → m + 2 * cntL l ≤ 3000000 →
  Calls Tryd.prog 65 #[v, .int .i64 (m : Int)] w fun e w' => e = .returned (.int .i64 ((m + 2 * cntL l : Nat) : Int)) ∧ MkPost l m v w w'

/-- How far it has come: the first k are marked. -/
def MkUpto (l : List Tr) (m k : Nat) (v : Value) (w w' : World) : Prop :=
  Ty w w' ∧ (∀ C, Sh w C l v → Turn C w w') ∧ (∀ C, Ow w C l v → Ow w' C (markedL (l.take k) m ++ l.drop k) v)

theorem MkUpto.start (l : List Tr) (m : Nat) (v : Value) (w : World) : MkUpto l m 0 v w w :=
  ⟨Ty.refl _, fun C _ => Turn.refl C w, fun C h => by simpa [markedL] using h⟩

theorem MkUpto.done {l : List Tr} {m : Nat} {v : Value} {w w' : World} (h : MkUpto l m l.length v w w') : MkPost l m v w w' :=
  ⟨h.1, h.2.1, fun C hc => by simpa using h.2.2 C hc⟩

theorem MkUpto.step {l : List Tr} {m k b off cap : Nat} {w wr w2 w3 : World} {V : Value} {x0 : Int} {y0 : ByteArray} (hk : k < l.length) (h : MkUpto l m k (.slice (some ⟨b, off, none⟩) l.length cap) w wr)
    (hmc : m + 2 * cntL l ≤ 3000000)
    (h3 : At3 wr b (off + k * 3) x0 y0 V)
    (hb2 : Below (wr.setCell ⟨b, off + k * 3, none⟩ (.int .i64 ((m + 2 * cntL (l.take k) : Nat) : Int))).heap.size (wr.setCell ⟨b, off + k * 3, none⟩ (.int .i64 ((m + 2 * cntL (l.take k) : Nat) : Int))) w2)
    (h4 : MkPost l[k].l (m + 2 * cntL (l.take k) + 2) V (w2.setCell ⟨b, off + k * 3 + 1, none⟩ (.string (mkS (m + 2 * cntL (l.take k) + 1)))) w3) :
    MkUpto l m (k + 1) (.slice (some ⟨b, off, none⟩) l.length cap) w w3 := by
  obtain ⟨hT, hS, hO⟩ := h
  obtain ⟨c0, c1, c2⟩ := h3
  have hlt := World.block_lt_of_cell? wr _ c0
  have s1 : (wr.setCell ⟨b, off + k * 3, none⟩ (.int .i64 ((m + 2 * cntL (l.take k) : Nat) : Int))).heap.size = wr.heap.size := by simp [World.setCell]
  have t1 := Ty.setInt c0 ((m + 2 * cntL (l.take k) : Nat) : Int)
  have t2 := t1.trans (Ty.below hb2)
  obtain ⟨y1, c1'⟩ := t2.str _ _ c1
  have t3 := t2.trans (Ty.setStr c1' (mkS (m + 2 * cntL (l.take k) + 1)))
  have t4 := hT.trans (t3.trans h4.1)
  have hL : (markedL (l.take k) m ++ l.drop k).length = l.length := by simp [markedL_length]; omega
  have hLk : (markedL (l.take k) m ++ l.drop k)[k]'(by omega) = l[k] := by
    have h1 : (markedL (l.take k) m).length = k := by rw [markedL_length, List.length_take]; omega
    rw [List.getElem_append_right (by omega)]
    simp [h1]
  refine ⟨t4, fun C hC => ?_, fun C hC => ?_⟩
  · obtain ⟨b', off', V', he, hBb, -, hel⟩ := hC.elems (by intro h0; rw [h0] at hk; simp at hk)
    simp only [Option.some.injEq, Addr.mk.injEq, and_true] at he
    obtain ⟨rfl, rfl⟩ := he
    obtain ⟨⟨x, y, -, -, e2⟩, hsub⟩ := hel k hk
    have hV : V' k = V := by
      obtain ⟨ao, c, hv, -⟩ := hsub.len
      rw [hv] at e2 ⊢
      have := hT.slc _ _ _ _ e2
      rw [c2] at this
      exact (Option.some.inj this).symm
    rw [hV] at hsub
    exact (hS C hC).trans (((Turn.setCell wr hBb _).trans (Turn.below hb2)).trans ((Turn.setCell w2 hBb _).trans (h4.2.1 C ((hsub.ty hT).ty t3))))
  · have hOw := hO C hC
    rw [← hL] at hOw
    obtain ⟨rfl, Bk, u, hu, hsub, hng, hBC, hset⟩ := hOw.setAt k (by omega)
    rw [Nat.zero_add] at *
    rw [c2] at hu
    obtain rfl := Option.some.inj hu
    rw [hLk] at hsub
    have hsub2 : Ow (w2.setCell ⟨b, k * 3 + 1, none⟩ (.string (mkS (m + 2 * cntL (l.take k) + 1)))) Bk l[k].l V := by
      refine hsub.kept fun i hi hl => ?_
      have hne : i ≠ b := fun e => hng (e ▸ hi)
      rw [heap_setCell_other w2 ⟨b, k * 3 + 1, none⟩ i _ hne, hb2.block i (by omega), heap_setCell_other wr ⟨b, k * 3, none⟩ i _ hne]
    have := hset ((m + 2 * cntL (l.take k) : Nat) : Int) (mkS (m + 2 * cntL (l.take k) + 1)) (markedL l[k].l (m + 2 * cntL (l.take k) + 2)) w2 w3 (by
      have := mkS_size (m + 2 * cntL (l.take k) + 1)
      have := cntL_take_le l k
      unfold maxLen
      omega) hb2 (h4.2.1 Bk hsub2.sh) (h4.2.2 Bk hsub2)
    rw [marked_set l k m hk, hL] at this
    exact this

set_option maxHeartbeats 1000000 in
theorem markRexS_step (l : List Tr) (ih : ∀ x ∈ l, MkS x.l) : MkS l := by
  intro m B v w h hmc
  obtain ⟨ao, cap, rfl, hl1, hl2, hl3⟩ := h.len
  have hm : cap ≤ 9223372036854775807 := by unfold maxLen at hl2; omega
  have HI := Hid.mk ih
  have H1 := Hid.mk h
  have HU := Hid.mk (MkUpto.start l m (.slice ao l.length cap) w)
  have HM := Hid.mk hmc
  clear ih h hl2 hmc
  go_enter Tryd.func65, Tryd.ntmps65
  go_wp2
  go_loopw [1, 5] (fun q i wr => ∃ (k : Nat), k ≤ l.length ∧ i = .int .i64 k ∧ q = .int .i64 ((m + 2 * cntL (l.take k) : Nat) : Int) ∧ Hid (MkUpto l m k (.slice ao l.length cap) w wr)) (fun _ i _ => l.length - (intOf i).toNat)
  case atStart => exact ⟨0, Nat.zero_le _, rfl, by simp [cntL], HU⟩
  case round =>
    obtain ⟨k, hk, rfl, rfl, HUr⟩ := hrel
    by_cases hkl : k < l.length
    · obtain ⟨b, off, V, rfl, hBb, hfr, hel⟩ := (H1.out.ty HUr.out.1).elems (by intro hn; rw [hn] at hkl; simp at hkl)
      obtain ⟨⟨x0, y0, h3⟩, hsub⟩ := hel k hkl
      have hmk : MkS l[k].l := HI.out _ (List.getElem_mem hkl)
      have hct := cntL_take l k hkl
      have hle := cntL_take_le l (k + 1)
      have hce := cnt_eq l[k]
      have HST := Hid.mk (fun (w2 w3 : World) => MkUpto.step (w2 := w2) (w3 := w3) hkl HUr.out HM.out h3)
      obtain ⟨t, ht⟩ : ∃ t, l[k] = t := ⟨_, rfl⟩
      rw [ht] at hsub hmk hct hce HST
      obtain ⟨j, hj⟩ : ∃ j, m + 2 * cntL (l.take k) = j := ⟨_, rfl⟩
      rw [hj] at HST ⊢
      have hmc := HM.out
      have HA := Hid.mk (⟨hct, hle, hce, hj, hmc⟩ : _ ∧ _ ∧ _ ∧ _ ∧ _)
      obtain ⟨c0, c1, c2⟩ := h3
      have hbl := World.block_lt_of_cell? wr _ c0
      have f0 := hfr (off + k * 3)
      have f1 := hfr (off + k * 3 + 1)
      have hi1 : (k : Int) < (l.length : Int) := by omega
      have hjb : j ≤ 3000000 := by omega
      have HT : Hid (∀ w', Calls Tryd.prog 90 #[.int .i64 ((j : Int) + 1)] w' fun e w'' => e = .returned (.string (mkS (j + 1))) ∧ Below w'.heap.size w' w'') := fun w' => by
        have := markText_any (j + 1) w' (by omega)
        rw [show ((j + 1 : Nat) : Int) = (j : Int) + 1 by omega] at this
        exact this
      obtain ⟨M, hM⟩ : ∃ M, mkS (j + 1) = M := ⟨_, rfl⟩
      rw [hM] at HT HST
      have HS := Hid.mk hsub
      have HK := Hid.mk hmk
      clear ht hel hM hfr hsub hmk hct hle hce hj hmc HUr HU
      go_wp2_with fail
      refine (HT.out _).mono ?_
      rintro e w2 ⟨rfl, hb2⟩
      have g1 : w2.cell? ⟨b, off + k * 3 + 1, none⟩ = some (.string y0) := by
        rw [hb2.cell (p := ⟨b, off + k * 3 + 1, none⟩) (by simpa using hbl), World.cell?_setCell_other wr _ _ _ (by simp)]; exact c1
      have g2 : w2.cell? ⟨b, off + k * 3 + 2, none⟩ = some (V k) := by
        rw [hb2.cell (p := ⟨b, off + k * 3 + 2, none⟩) (by simpa using hbl), World.cell?_setCell_other wr _ _ _ (by simp)]; exact c2
      have e1 : w2.frozen? ⟨b, off + k * 3 + 1, none⟩ = false := by
        rw [hb2.frozen (p := ⟨b, off + k * 3 + 1, none⟩) (by simpa using hbl), World.frozen?_setCell]; exact f1
      have HS2 : Hid (Sh (w2.setCell ⟨b, off + k * 3 + 1, none⟩ (.string M)) B t.l (V k)) := ((HS.out.ty (Ty.setInt c0 _)).ty (Ty.below hb2)).ty (Ty.setStr g1 M)
      have HB2 := Hid.mk hb2
      have hC := HK.out (j + 2) B (V k) _ HS2.out (by obtain ⟨_, _, _, _, _⟩ := HA.out; omega)
      rw [show ((j + 2 : Nat) : Int) = (j : Int) + 1 + 1 by omega] at hC
      have HC := Hid.mk hC
      clear hC hb2 HS HK HT c0 c1 c2 f0 f1
      go_wp2_with fail
      refine HC.out.mono ?_
      rintro e w3 ⟨rfl, h4⟩
      have HN := Hid.mk (HST.out _ _ HB2.out h4)
      clear HC HB2 HST h4 g1 g2 e1 HS2
      go_wp2
      go_roundw
      case rel => exact ⟨k + 1, by omega, by go_num, by obtain ⟨_, _, _, _, _⟩ := HA.out; congr 2; omega, HN⟩
      case measure => simp [intOf]; omega
    · have hke : k = l.length := by omega
      subst hke
      rw [List.take_length]
      have HD := Hid.mk HUr.out.done
      clear HUr HU
      go_wp2
      go_ret
      exact ⟨rfl, HD.out⟩

theorem markRexS_any (l : List Tr) : MkS l := (Tr.ind (P := fun t => MkS t.l) (fun t ih => markRexS_step t.l ih) (.node 0 ⟨#[]⟩ l))

theorem markRex_any (t : Tr) (k : Int) (s : ByteArray) (m : Nat) (B : Nat → Prop) (v : Value) (w : World) (h : Sh w B t.l v) (hm : m + 2 * cntL t.l ≤ 3000000) :
    Calls Tryd.prog 34 #[rx k s v, .int .i64 (m : Int)] w fun e w' => e = .returned (.int .i64 ((m + 2 * cntL t.l : Nat) : Int)) ∧ ∃ w0, Below w.heap.size w w0 ∧ MkPost t.l m v w0 w' := by
  have B0 : Below w.heap.size w (w.alloc (.cells #[.int .i64 k, .string s, v] 26)) := (Below.refl _ _).alloc (Nat.le_refl _) _
  have HC := Hid.mk (fun (w' : World) (hb : Below w.heap.size w w') => markRexS_any t.l m B v w' (h.ty (Ty.below hb)) hm)
  obtain ⟨n, hn⟩ : ∃ n, m + 2 * cntL t.l = n := ⟨_, rfl⟩
  rw [hn] at HC ⊢
  obtain ⟨ao, cap, rfl, -⟩ := h.len
  clear h hm hn
  go_enter Tryd.func34, Tryd.ntmps34
  go_wp2_with fail
  refine (HC.out _ (by first | exact B0 | exact Below.refl _ _)).mono ?_
  rintro e w1 ⟨rfl, hb1⟩
  have HB : Hid (∃ w0, Below w.heap.size w w0 ∧ MkPost t.l m (.slice ao t.l.length cap) w0 w1) := ⟨_, by first | exact B0 | exact Below.refl _ _, hb1⟩
  clear HC B0 hb1
  go_wp2
  go_ret
  exact ⟨rfl, HB.out⟩
end Go.Proofs.YtapniafhcagogaaDoor
