/- The ends of a part without parts: the program's. -/
import Derived.Test.YtapniafhcagogaaGreatDoorPlOne
import Derived.Test.YtapniafhcagogaaGreatDoorPlOr
namespace Go.Proofs.YtapniafhcagogaaGreatDoor
open Go.RowKit
set_option maxRecDepth 8000

/-- Where a part without parts may end. -/
def mSing (s : ByteArray) (k : Int) (c : ByteArray) : Mat := fun i y => (decide (y = i + 1) && (decide (i < s.size) && tkI k c (ba s i))) || (decide (y = i) && noB s k i)

theorem addRow_any {w : World} {g n : Nat} {M : Mat} (h : Pq w g n M) {i a : Nat} (hi : i ≤ n) (ha : a ≤ 255) :
    Calls Tryz.prog 91 #[.pointer (some ⟨g, i * 4, none⟩), .int .i64 (a : Int)] w fun e w' => (∃ u, e = .returned u) ∧ Pq w' g n (updM M i a true) ∧ Below g w w' ∧ ∀ b, b ≠ g → w'.heap[b]? = w.heap[b]? := by
  refine (add_any g (i * 4) a (wd (M i) (a / 64)) ha (wd_lt _ _) w (h.cell hi (by omega)) (h.frozen _)).mono ?_
  rintro e w' ⟨hu, q, rfl⟩
  refine ⟨hu, ?_, ?_, fun b hb => heap_setCell_other w ⟨g, i * 4 + a / 64, none⟩ b _ hb⟩
  · exact h.add hi ha
  · exact ((Below.refl g w).setCell (p := ⟨g, i * 4 + a / 64, none⟩) (Nat.le_refl _) _).trans (Below.drewSelf _ _ _)

set_option maxHeartbeats 1000000 in
theorem endsOfSingle_any (t : Tr) (v : Value) (s : ByteArray) (hs : s.size ≤ 200) (w : World) :
    Calls Tryz.prog 65 #[rx t.k t.s v, .string s] w fun e w' => ∃ g, e = .returned (plS g s.size) ∧ w.heap.size ≤ g ∧ Pq w' g s.size (mSing s t.k t.s) ∧ Below w.heap.size w w' := by
  obtain ⟨ip, hip, hp0, hp1, hp2⟩ := info_parts infoPl
  have HTB := Hid.mk (fun (i : Nat) (hi : i ≤ s.size) (w' : World) => takesByte_any t v s i hi w')
  have HTN := Hid.mk (fun (i : Nat) (w' : World) => takesNothing_any t v s i w')
  obtain ⟨k, hk⟩ : ∃ k, t.k = k := ⟨_, rfl⟩
  obtain ⟨c, hc⟩ : ∃ c, t.s = c := ⟨_, rfl⟩
  rw [hk, hc] at HTB HTN
  rw [hk, hc]
  clear hk hc
  obtain ⟨m, hm⟩ : ∃ m, s.size + 1 = m := ⟨_, rfl⟩
  have hmi : (s.size : Int) + 1 = (m : Int) := by omega
  have HM := Hid.mk hm
  have hm2 : m ≤ 201 := by omega
  unfold plS
  rw [hm]
  clear hm
  go_enter Tryz.func65, Tryz.ntmps65
  go_wp2_with (at_make; refine wpList_make_full _ rfl _ _ 86 rfl 0 90 ip _ 4 Tryz.underlying86 hip hp0 hp1 _ _ _ _ m rfl rfl rfl rfl (by rw [hp2]; omega) (by unfold maxLen; omega) (Nat.zero_le _) ?_)
  intro w1 hown hgrow
  have HQ1 : Hid (Pq w1 (w.heap.size + 1) s.size (fun _ _ => false)) := by
    have h := own_full4 hown
    rw [← HM.out] at h
    show Pq _ _ _ _
    unfold Pq
    rw [h]
    have := made_pl s.size
    rw [← this]
    rfl
  have A0 : Below w.heap.size w (w.alloc (.cells #[.int .i64 k, .string c, v] 26)) := (Below.refl _ _).alloc (Nat.le_refl _) _
  have B1 : Hid (Below w.heap.size w w1) := A0.grown hgrow A0.size (by simp)
  have X1 : Hid (Bz3 w1 w.heap.size (.int .i64 k) (.string c) v) := (Bz3.new w _ _ _).row hgrow (by simp)
  clear hown hgrow A0
  go_wp2
  go_loopw [13] (fun q wr => ∃ (i : Nat), i ≤ m ∧ q = .int .i64 i ∧ Hid (Pq wr (w.heap.size + 1) s.size (fun x y => mSing s k c x y && decide (x < i))) ∧ Hid (Bz3 wr w.heap.size (.int .i64 k) (.string c) v) ∧ Hid (Below w.heap.size w wr)) (fun q _ => m - (intOf q).toNat)
  case atStart => exact ⟨0, Nat.zero_le _, rfl, HQ1.out.ext (fun x y _ _ => by simp), X1, B1⟩
  case round =>
    obtain ⟨i, hi, rfl, HQ, HX, HBr⟩ := hrel
    clear HQ1 X1 B1
    by_cases him : (i : Int) < (m : Int)
    · have hil : i ≤ s.size := by have := HM.out; omega
      have HTB' := Hid.mk (HTB.out i hil)
      have HTN' := Hid.mk (HTN.out i)
      obtain ⟨b1, h1⟩ : ∃ b, (decide (i < s.size) && tkI k c (ba s i)) = b := ⟨_, rfl⟩
      obtain ⟨b2, h2⟩ : ∃ b, noB s k i = b := ⟨_, rfl⟩
      rw [h1] at HTB'
      rw [h2] at HTN'
      have H1 := Hid.mk h1
      have H2 := Hid.mk h2
      clear h1 h2
      cases b1 with
      | true =>
        cases b2 with
        | true =>
          have x0 := HX.out.c0
          have x1 := HX.out.c1
          have x2 := HX.out.c2
          go_wp2_with fail
          refine (HTB'.out wr).mono ?_
          rintro e w2 ⟨rfl, hb2⟩
          have P2 := Hid.mk (HQ.out.grow hb2)
          have X2 := Hid.mk (HX.out.grow hb2)
          have B2 := Hid.mk (HBr.out.trans (hb2.mono HBr.out.size))
          clear x0 x1 x2 hb2 HQ HX HBr
          have HAD := Hid.mk (addRow_any P2.out (a := i + 1) hil (by omega))
          rw [show ((i + 1 : Nat) : Int) = (i : Int) + 1 by omega] at HAD
          go_wp2_with fail
          refine HAD.out.mono ?_
          rintro e w3 ⟨⟨u3, rfl⟩, hP3, hB3, ho3⟩
          have P3 := Hid.mk hP3
          have X3 := Hid.mk (X2.out.kept (ho3 _ (by omega)))
          have B3 := Hid.mk (B2.out.trans (hB3.mono (by omega)))
          clear HAD hP3 hB3 ho3 P2 X2 B2
          have x0 := X3.out.c0
          have x1 := X3.out.c1
          have x2 := X3.out.c2
          go_wp2_with fail
          refine (HTN'.out w3).mono ?_
          rintro e w4 ⟨rfl, hb4⟩
          have P4 := Hid.mk (P3.out.grow hb4)
          have X4 := Hid.mk (X3.out.grow hb4)
          have B4 := Hid.mk (B3.out.trans (hb4.mono B3.out.size))
          clear x0 x1 x2 hb4 P3 X3 B3
          have HAD := Hid.mk (addRow_any P4.out (a := i) hil (by omega))
          go_wp2_with fail
          refine HAD.out.mono ?_
          rintro e w5 ⟨⟨u5, rfl⟩, hP5, hB5, ho5⟩
          have P5 := Hid.mk hP5
          have X5 := Hid.mk (X4.out.kept (ho5 _ (by omega)))
          have B5 := Hid.mk (B4.out.trans (hB5.mono (by omega)))
          clear HAD hP5 hB5 ho5 P4 X4 B4
          have PN : Hid (Pq w5 (w.heap.size + 1) s.size (fun x y => mSing s k c x y && decide (x < i + 1))) := P5.out.ext (fun x y _ _ => by
            simp only [updM_at]
            by_cases hx : x = i
            · subst hx
              simp only [mSing, H1.out, H2.out, true_and, Nat.lt_irrefl, decide_false, Bool.and_false, decide_eq_true (Nat.lt_succ_self x), Bool.and_true]
              by_cases hy1 : y = x + 1
              · subst hy1; simp
              · by_cases hy2 : y = x
                · subst hy2; simp
                · simp [hy1, hy2]
            · simp only [hx, false_and, if_false]
              rw [show decide (x < i + 1) = decide (x < i) from decide_eq_decide.2 (by omega)])
          clear P5
          go_wp2
          go_roundw
          case rel => exact ⟨i + 1, by omega, by go_num, PN, X5, B5⟩
          case measure => simp [intOf]; omega
        | false =>
          have x0 := HX.out.c0
          have x1 := HX.out.c1
          have x2 := HX.out.c2
          go_wp2_with fail
          refine (HTB'.out wr).mono ?_
          rintro e w2 ⟨rfl, hb2⟩
          have P2 := Hid.mk (HQ.out.grow hb2)
          have X2 := Hid.mk (HX.out.grow hb2)
          have B2 := Hid.mk (HBr.out.trans (hb2.mono HBr.out.size))
          clear x0 x1 x2 hb2 HQ HX HBr
          have HAD := Hid.mk (addRow_any P2.out (a := i + 1) hil (by omega))
          rw [show ((i + 1 : Nat) : Int) = (i : Int) + 1 by omega] at HAD
          go_wp2_with fail
          refine HAD.out.mono ?_
          rintro e w3 ⟨⟨u3, rfl⟩, hP3, hB3, ho3⟩
          have P3 := Hid.mk hP3
          have X3 := Hid.mk (X2.out.kept (ho3 _ (by omega)))
          have B3 := Hid.mk (B2.out.trans (hB3.mono (by omega)))
          clear HAD hP3 hB3 ho3 P2 X2 B2
          have x0 := X3.out.c0
          have x1 := X3.out.c1
          have x2 := X3.out.c2
          go_wp2_with fail
          refine (HTN'.out w3).mono ?_
          rintro e w4 ⟨rfl, hb4⟩
          have P4 := Hid.mk (P3.out.grow hb4)
          have X4 := Hid.mk (X3.out.grow hb4)
          have B4 := Hid.mk (B3.out.trans (hb4.mono B3.out.size))
          clear x0 x1 x2 hb4 P3 X3 B3
          have PN : Hid (Pq w4 (w.heap.size + 1) s.size (fun x y => mSing s k c x y && decide (x < i + 1))) := P4.out.ext (fun x y _ _ => by
            simp only [updM_at]
            by_cases hx : x = i
            · subst hx
              simp only [mSing, H1.out, H2.out, true_and, Nat.lt_irrefl, decide_false, Bool.and_false, decide_eq_true (Nat.lt_succ_self x), Bool.and_true]
              by_cases hy1 : y = x + 1
              · subst hy1; simp
              · by_cases hy2 : y = x
                · subst hy2; simp
                · simp [hy1]
            · simp only [hx, false_and, if_false]
              rw [show decide (x < i + 1) = decide (x < i) from decide_eq_decide.2 (by omega)])
          clear P4
          go_wp2
          go_roundw
          case rel => exact ⟨i + 1, by omega, by go_num, PN, X4, B4⟩
          case measure => simp [intOf]; omega
      | false =>
        cases b2 with
        | true =>
          have x0 := HX.out.c0
          have x1 := HX.out.c1
          have x2 := HX.out.c2
          go_wp2_with fail
          refine (HTB'.out wr).mono ?_
          rintro e w2 ⟨rfl, hb2⟩
          have P2 := Hid.mk (HQ.out.grow hb2)
          have X2 := Hid.mk (HX.out.grow hb2)
          have B2 := Hid.mk (HBr.out.trans (hb2.mono HBr.out.size))
          clear x0 x1 x2 hb2 HQ HX HBr
          have x0 := X2.out.c0
          have x1 := X2.out.c1
          have x2 := X2.out.c2
          go_wp2_with fail
          refine (HTN'.out w2).mono ?_
          rintro e w4 ⟨rfl, hb4⟩
          have P4 := Hid.mk (P2.out.grow hb4)
          have X4 := Hid.mk (X2.out.grow hb4)
          have B4 := Hid.mk (B2.out.trans (hb4.mono B2.out.size))
          clear x0 x1 x2 hb4 P2 X2 B2
          have HAD := Hid.mk (addRow_any P4.out (a := i) hil (by omega))
          go_wp2_with fail
          refine HAD.out.mono ?_
          rintro e w5 ⟨⟨u5, rfl⟩, hP5, hB5, ho5⟩
          have P5 := Hid.mk hP5
          have X5 := Hid.mk (X4.out.kept (ho5 _ (by omega)))
          have B5 := Hid.mk (B4.out.trans (hB5.mono (by omega)))
          clear HAD hP5 hB5 ho5 P4 X4 B4
          have PN : Hid (Pq w5 (w.heap.size + 1) s.size (fun x y => mSing s k c x y && decide (x < i + 1))) := P5.out.ext (fun x y _ _ => by
            simp only [updM_at]
            by_cases hx : x = i
            · subst hx
              simp only [mSing, H1.out, H2.out, true_and, Nat.lt_irrefl, decide_false, Bool.and_false, decide_eq_true (Nat.lt_succ_self x), Bool.and_true]
              by_cases hy1 : y = x + 1
              · subst hy1; simp
              · by_cases hy2 : y = x
                · subst hy2; simp
                · simp [hy2]
            · simp only [hx, false_and, if_false]
              rw [show decide (x < i + 1) = decide (x < i) from decide_eq_decide.2 (by omega)])
          clear P5
          go_wp2
          go_roundw
          case rel => exact ⟨i + 1, by omega, by go_num, PN, X5, B5⟩
          case measure => simp [intOf]; omega
        | false =>
          have x0 := HX.out.c0
          have x1 := HX.out.c1
          have x2 := HX.out.c2
          go_wp2_with fail
          refine (HTB'.out wr).mono ?_
          rintro e w2 ⟨rfl, hb2⟩
          have P2 := Hid.mk (HQ.out.grow hb2)
          have X2 := Hid.mk (HX.out.grow hb2)
          have B2 := Hid.mk (HBr.out.trans (hb2.mono HBr.out.size))
          clear x0 x1 x2 hb2 HQ HX HBr
          have x0 := X2.out.c0
          have x1 := X2.out.c1
          have x2 := X2.out.c2
          go_wp2_with fail
          refine (HTN'.out w2).mono ?_
          rintro e w4 ⟨rfl, hb4⟩
          have P4 := Hid.mk (P2.out.grow hb4)
          have X4 := Hid.mk (X2.out.grow hb4)
          have B4 := Hid.mk (B2.out.trans (hb4.mono B2.out.size))
          clear x0 x1 x2 hb4 P2 X2 B2
          have PN : Hid (Pq w4 (w.heap.size + 1) s.size (fun x y => mSing s k c x y && decide (x < i + 1))) := P4.out.ext (fun x y _ _ => by
            by_cases hx : x = i
            · subst hx
              simp only [mSing, H1.out, H2.out, Nat.lt_irrefl, decide_false, Bool.and_false, decide_eq_true (Nat.lt_succ_self x), Bool.and_true]
              simp
            · rw [show decide (x < i + 1) = decide (x < i) from decide_eq_decide.2 (by omega)])
          clear P4
          go_wp2
          go_roundw
          case rel => exact ⟨i + 1, by omega, by go_num, PN, X4, B4⟩
          case measure => simp [intOf]; omega
    · have hie : i = m := by omega
      subst hie
      have HQn : Hid (Pq wr (w.heap.size + 1) s.size (mSing s k c)) := HQ.out.ext (fun x y hx _ => by rw [decide_eq_true (by have := HM.out; omega), Bool.and_true])
      clear HQ
      go_wp2
      go_ret
      exact ⟨_, rfl, by omega, HQn.out, HBr.out⟩
end Go.Proofs.YtapniafhcagogaaGreatDoor
