/- RexOk, the program's: it goes through the parts and counts down. Whether an expression can match a text at all: the program's. -/
import Derived.Test.YtgigalcajgjpnaaGreatRexOkI
namespace Go.Proofs.YtgigalcajgjpnaaGreat
open Go.RowKit
set_option maxRecDepth 8000

def RoomC (f : Nat) : Prop := ∀ (t : Tr) (B : Nat → Prop) (v : Value) (w : World) (r : Int), Rl w B t.l v → t.s.size ≤ maxLen → 0 ≤ r → r ≤ 60 →
  Calls Tryz.prog 222 #[rx t.k t.s v, .int .i64 (f : Int), .int .i64 r, .func (.func 223) #[] #[], .func (.func 224) #[] #[]] w fun e w' => e = .returned (.int .i64 (roomF f t r)) ∧ Below w.heap.size w w'

theorem ret_i {a b : Int} (h : a = b) : Ending.returned (.int .i64 a) = .returned (.int .i64 b) := by rw [h]

theorem rexParts_any (k : Int) (s : ByteArray) (v : Value) (w : World) (hv : ∃ ao n cap, v = .slice ao n cap) :
    Calls Tryz.prog 224 #[rx k s v] w fun e w' => e = .returned v ∧ Below w.heap.size w w' := by
  obtain ⟨ao, n, cap, rfl⟩ := hv
  go_enter Tryz.func224, Tryz.ntmps224
  go_wp2
  go_ret
  exact ⟨rfl, (Below.refl _ _).alloc (Nat.le_refl _) _⟩

theorem room_zero : RoomC 0 := by
  intro t B v w r h hs h0 h1
  obtain ⟨ao, cap, rfl, hl1, hl2, hl3⟩ := h.len
  obtain ⟨k, hk⟩ : ∃ k, t.k = k := ⟨_, rfl⟩
  obtain ⟨s, hsn⟩ : ∃ s, t.s = s := ⟨_, rfl⟩
  have HR : Hid (roomF 0 t r = -1) := rfl
  rw [hk, hsn]
  clear h
  go_enter Tryz.func222, Tryz.ntmps222
  go_wp2
  go_ret
  exact ⟨ret_i HR.out.symm, (Below.refl _ _).alloc (Nat.le_refl _) _⟩

set_option maxHeartbeats 1000000 in
theorem room_succ (f : Nat) (hf : f ≤ 5) (ih : RoomC f) : RoomC (f + 1) := by
  intro t B v w r h hs h0 h1
  have HNB := Hid.mk (fun (w' : World) (hb : Below w.heap.size w w') => implNode_any t B v w' (h.grow hb) hs)
  have HE : Hid (roomF (f + 1) t r = if r = 0 ∨ nodeB t = false then -1 else t.l.foldl (roomG (roomF f)) (r - 1)) := rfl
  obtain ⟨R, hR⟩ : ∃ R, roomF (f + 1) t r = R := ⟨_, rfl⟩
  obtain ⟨nb, hnb⟩ : ∃ nb, nodeB t = nb := ⟨_, rfl⟩
  obtain ⟨k, hk⟩ : ∃ k, t.k = k := ⟨_, rfl⟩
  obtain ⟨s, hsn⟩ : ∃ s, t.s = s := ⟨_, rfl⟩
  obtain ⟨l, hln⟩ : ∃ l, t.l = l := ⟨_, rfl⟩
  rw [hk, hsn, hnb] at HNB
  rw [hR, hnb, hln] at HE
  rw [hln] at h
  rw [hk, hsn, hR]
  clear hR hnb hk hsn hln hs
  obtain ⟨ao, cap, rfl, hl1, hl2, hl3⟩ := h.len
  have hm : cap ≤ 9223372036854775807 := by unfold maxLen at hl2; omega
  have HH := Hid.mk h
  have HI := Hid.mk ih
  clear ih h hl2
  have B0 : Below w.heap.size w (w.alloc (.cells #[.int .i64 k, .string s, .slice ao l.length cap] 187)) := (Below.refl _ _).alloc (Nat.le_refl _) _
  obtain ⟨d, hd⟩ : ∃ d : Int, ((f + 1 : Nat) : Int) = d := ⟨_, rfl⟩
  rw [hd]
  have hd6 : (d == 0) = false := beq_eq_false_iff_ne.2 (by omega)
  have hd7 : d - 1 = (f : Int) := by omega
  have hd8 : 0 ≤ d := by omega
  have hd9 : d ≤ 6 := by omega
  have HPT := Hid.mk (fun w' => rexParts_any k s (.slice ao l.length cap) w' ⟨_, _, _, rfl⟩)
  by_cases hr0 : r = 0
  · subst hr0
    have HR : Hid (R = -1) := by show _ = _; rw [HE.out, if_pos (Or.inl rfl)]
    clear HE HNB HI HH
    go_enter Tryz.func222, Tryz.ntmps222
    go_wp2
    go_ret
    exact ⟨ret_i HR.out.symm, B0⟩
  have hrb : (r == 0) = false := beq_eq_false_iff_ne.2 hr0
  cases nb with
  | false =>
    have HR : Hid (R = -1) := by show _ = _; rw [HE.out, if_pos (Or.inr rfl)]
    clear HE HI HH
    go_enter Tryz.func222, Tryz.ntmps222
    go_wp2_with fail
    refine (HNB.out _ B0).mono ?_
    rintro e w1 ⟨rfl, hb1⟩
    have B1 := B0.trans (hb1.mono (by simp))
    clear B0 hb1 HNB
    go_wp2
    go_ret
    exact ⟨ret_i HR.out.symm, B1⟩
  | true =>
    have HR : Hid (R = l.foldl (roomG (roomF f)) (r - 1)) := by show _ = _; rw [HE.out, if_neg (by simpa using hr0)]
    clear HE
    go_enter Tryz.func222, Tryz.ntmps222
    go_wp2_with fail
    refine (HNB.out _ B0).mono ?_
    rintro e w1 ⟨rfl, hb1⟩
    have B1 := B0.trans (hb1.mono (by simp))
    have hc1 := fun o => hb1.cell (p := ⟨w.heap.size, o, none⟩) (by simp)
    have hs1 := hb1.size
    simp at hs1
    clear B0 hb1 HNB
    have hr1 : 0 ≤ r - 1 := by omega
    go_wp2_with fail
    refine (HPT.out _).mono ?_
    rintro e w2 ⟨rfl, hb2⟩
    have B2 := B1.trans (hb2.mono B1.size)
    clear B1 hb2 hc1 HPT
    go_wp2
    go_loopw [2, 31] (fun q i wr => ∃ (k : Nat) (m : Int), k ≤ l.length ∧ i = .int .i64 k ∧ q = .int .i64 m ∧ 0 ≤ m ∧ m ≤ 60 ∧ Hid (m = (l.take k).foldl (roomG (roomF f)) (r - 1)) ∧ Below w.heap.size w wr) (fun _ i _ => l.length - (intOf i).toNat)
    case atStart => exact ⟨0, r - 1, Nat.zero_le _, rfl, rfl, by omega, by omega, rfl, B2⟩
    case round =>
      obtain ⟨k, m, hk, rfl, rfl, m0, m1, Hm, hbel⟩ := hrel
      clear B2
      by_cases hkl : k < l.length
      · obtain ⟨b, off, V, rfl, hel⟩ := HH.out.elems (by intro hn; rw [hn] at hkl; simp at hkl)
        obtain ⟨h3, hsub, hss⟩ := hel k hkl
        have HT := Hid.mk (room_take (f := f) l k (r - 1) hkl)
        have HC := Hid.mk (room_cut (f := f) l (k + 1) (r - 1))
        obtain ⟨t, ht⟩ : ∃ t, l[k] = t := ⟨_, rfl⟩
        rw [ht] at h3 hsub hss HT
        clear ht hel
        obtain ⟨c0, c1, c2⟩ := h3.kept (w' := wr) (hbel.block b (World.block_lt_of_cell? w _ h3.1))
        have hs1 := hbel.size
        have HCall := Hid.mk (fun (w' : World) (hb : Below w.heap.size w w') => HI.out t B (V k) w' m (hsub.grow hb) hss m0 m1)
        obtain ⟨bd0, bd1⟩ := room_bd f t m m0
        obtain ⟨av, cv, hv, -, -, -⟩ := hsub.len
        rw [hv] at c2 HCall
        obtain ⟨tk, htk⟩ : ∃ tk, t.k = tk := ⟨_, rfl⟩
        obtain ⟨ts, hts⟩ : ∃ ts, t.s = ts := ⟨_, rfl⟩
        rw [htk, hts] at HCall
        rw [htk] at c0
        rw [hts] at c1
        obtain ⟨q, hq⟩ : ∃ q, roomF f t m = q := ⟨_, rfl⟩
        rw [hq] at bd0 bd1 HCall
        have HQ : Hid ((l.take (k + 1)).foldl (roomG (roomF f)) (r - 1) = q) := by
          show _ = _
          rw [HT.out, ← Hm.out, roomG, if_neg (by omega), hq]
        have hi1 : (k : Int) < (l.length : Int) := by omega
        have B2 := hbel.alloc hs1 (.cells #[.int .i64 tk, .string ts, .slice av t.l.length cv] 187)
        clear hsub hss h3 hv HT Hm hq htk hts hbel
        by_cases hq0 : q < 0
        · have HF : Hid (R = -1) := by show _ = _; rw [HR.out]; exact HC.out (by rw [HQ.out]; omega)
          clear HQ HC
          go_wp2_with fail
          refine (HCall.out _ B2).mono ?_
          rintro e w2 ⟨rfl, hb2⟩
          have B3 := B2.trans (hb2.mono (by simp; omega))
          clear B2 hb2 HCall
          go_wp2
          go_ret
          exact ⟨ret_i HF.out.symm, B3⟩
        · clear HC
          go_wp2_with fail
          refine (HCall.out _ B2).mono ?_
          rintro e w2 ⟨rfl, hb2⟩
          have B3 := B2.trans (hb2.mono (by simp; omega))
          clear B2 hb2 HCall
          go_wp2
          go_roundw
          case rel => exact ⟨k + 1, q, by omega, by go_num, rfl, by omega, by omega, HQ.out.symm, B3⟩
          case measure => simp [intOf]; omega
      · have e : k = l.length := by omega
        subst e
        have HF : Hid (R = m) := by show _ = _; rw [HR.out, Hm.out, List.take_length]
        clear Hm
        go_wp2
        go_ret
        exact ⟨ret_i HF.out.symm, hbel⟩

theorem implRexOk_any (t : Tr) (B : Nat → Prop) (v : Value) (w : World) (h : Rl w B t.l v) (hs : t.s.size ≤ maxLen) :
    Calls Tryz.prog 218 #[rx t.k t.s v] w fun e w' => e = .returned (.bool (okR t)) ∧ Below w.heap.size w w' := by
  have R6 : RoomC 6 := room_succ 5 (by omega) (room_succ 4 (by omega) (room_succ 3 (by omega) (room_succ 2 (by omega) (room_succ 1 (by omega) (room_succ 0 (by omega) room_zero)))))
  have HC := Hid.mk (fun (w' : World) (hb : Below w.heap.size w w') => R6 t B v w' 60 (h.grow hb) hs (by omega) (by omega))
  have HO := Hid.mk (okR_room t)
  obtain ⟨b, hb⟩ : ∃ b, okR t = b := ⟨_, rfl⟩
  obtain ⟨q, hq⟩ : ∃ q, roomF 6 t 60 = q := ⟨_, rfl⟩
  obtain ⟨k, hk⟩ : ∃ k, t.k = k := ⟨_, rfl⟩
  obtain ⟨s, hsn⟩ : ∃ s, t.s = s := ⟨_, rfl⟩
  rw [hk, hsn, hq] at HC
  rw [hb, hq] at HO
  rw [hk, hsn, hb]
  obtain ⟨ao, cap, rfl, hl1, hl2, hl3⟩ := h.len
  have B0 : Below w.heap.size w (w.alloc (.cells #[.int .i64 k, .string s, .slice ao t.l.length cap] 187)) := (Below.refl _ _).alloc (Nat.le_refl _) _
  clear h hk hsn hq hb R6 hl2
  go_enter Tryz.func218, Tryz.ntmps218
  go_wp2_with fail
  refine (HC.out _ B0).mono ?_
  rintro e w1 ⟨rfl, hb1⟩
  have B1 := B0.trans (hb1.mono (by simp))
  clear B0 hb1 HC
  go_wp2
  go_ret
  exact ⟨ret_b HO.out, B1⟩
end Go.Proofs.YtgigalcajgjpnaaGreat

namespace Go.Proofs.YtgigalcajgjpnaaGreat
open Go.RowKit
end Go.Proofs.YtgigalcajgjpnaaGreat
