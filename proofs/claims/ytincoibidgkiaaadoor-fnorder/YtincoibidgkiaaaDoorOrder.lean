/- The law FnOrder walked: of two drawn values one is less, or they are the same. -/
import Derived.Test.YtincoibidgkiaaaDoorSame
import Derived.Test.YtincoibidgkiaaaDoorDrawPair
import Derived.Test.YtincoibidgkiaaaDoorWraps
namespace Go.Proofs.YtincoibidgkiaaaDoor
open Go.RowKit Go.Sort
set_option maxRecDepth 8000

theorem bl_tri : ∀ x y : List UInt8, (Op.bytesLess x y = true ∧ Op.bytesLess y x = false ∧ (x == y) = false) ∨ (Op.bytesLess x y = false ∧ Op.bytesLess y x = true ∧ (x == y) = false) ∨ (Op.bytesLess x y = false ∧ Op.bytesLess y x = false ∧ (x == y) = true)
  | [], [] => by simp [Op.bytesLess]
  | [], b :: y => by simp [Op.bytesLess]
  | a :: x, [] => by simp [Op.bytesLess]
  | a :: x, b :: y => by
    have ih := bl_tri x y
    by_cases h : a = b
    · subst h
      have hlt : ¬ a < a := by simp
      simp only [Op.bytesLess, hlt, decide_false, Bool.false_or, BEq.rfl, Bool.true_and]
      simpa using ih
    · have hne : (a == b) = false := by simpa using h
      have hne' : (b == a) = false := by simpa using fun e => h e.symm
      have hn : a.toNat ≠ b.toNat := fun e => h (UInt8.toNat_inj.1 e)
      simp only [Op.bytesLess, hne, hne', Bool.false_and, Bool.or_false]
      by_cases hl : a < b
      · have hg : ¬ b < a := by simp [UInt8.lt_iff_toNat_lt] at *; omega
        simp [hl, hg, h]
      · have hg : b < a := by simp [UInt8.lt_iff_toNat_lt] at *; omega
        simp [hl, hg, h]

theorem anyB_comm (k j : Int) : anyB j k = anyB k j := by unfold anyB; exact Bool.or_comm _ _

theorem order_tri (k n : Int) (s : ByteArray) (j m : Int) (u : ByteArray) :
    (lessB k n s j m u = true ∧ lessB j m u k n s = false ∧ sameB k n s j m u = false) ∨ (lessB k n s j m u = false ∧ lessB j m u k n s = true ∧ sameB k n s j m u = false) ∨ (lessB k n s j m u = false ∧ lessB j m u k n s = false ∧ sameB k n s j m u = true) := by
  cases h : anyB k j with
  | true =>
    have h' : anyB j k = true := (anyB_comm k j).trans h
    rw [lessB_true _ _ _ _ _ _ h, lessB_true _ _ _ _ _ _ h', sameB_true _ _ _ _ _ _ h]
    exact bl_tri _ _
  | false =>
    have h' : anyB j k = false := (anyB_comm k j).trans h
    rw [lessB_false _ _ _ _ _ _ h, lessB_false _ _ _ _ _ _ h', sameB_false _ _ _ _ _ _ h]
    rcases Int.lt_trichotomy n m with hl | hl | hl
    · exact Or.inl ⟨by simpa using hl, by simp; omega, by simp; omega⟩
    · exact Or.inr (Or.inr ⟨by simp; omega, by simp; omega, by simpa using hl⟩)
    · exact Or.inr (Or.inl ⟨by simp; omega, by simpa using hl, by simp; omega⟩)

theorem sameB_self (k n : Int) (s : ByteArray) : sameB k n s k n s = true := by unfold sameB; split <;> simp

/-- The contracts that the law leans on, at one pair, with their answers. -/
structure Ordered (k n : Int) (s : ByteArray) (j m : Int) (u : ByteArray) (x y z : Bool) : Prop where
  lab : ∀ w, Tab w → Calls Tryd.prog 20 #[vl k n s, vl j m u] w fun e w' => e = .returned (.bool x) ∧ Below w.heap.size w w'
  lba : ∀ w, Tab w → Calls Tryd.prog 20 #[vl j m u, vl k n s] w fun e w' => e = .returned (.bool y) ∧ Below w.heap.size w w'
  sab : ∀ w, Tab w → Calls Tryd.prog 21 #[vl k n s, vl j m u] w fun e w' => e = .returned (.bool z) ∧ Below w.heap.size w w'
  tab : ∀ w, Calls Tryd.prog 22 #[vl k n s, vl j m u] w fun e w' => e = .returned (.bool z) ∧ Below w.heap.size w w'
  saa : ∀ w, Tab w → Calls Tryd.prog 21 #[vl k n s, vl k n s] w fun e w' => e = .returned (.bool true) ∧ Below w.heap.size w w'
  how : (x = true ∧ y = false ∧ z = false) ∨ (x = false ∧ y = true ∧ z = false) ∨ (x = false ∧ y = false ∧ z = true)

theorem ordered (k n : Int) (s : ByteArray) (j m : Int) (u : ByteArray) (hf : Fair n s) (hg : Fair m u) : ∃ x y z, Ordered k n s j m u x y z := by
  have hn : Int64 n := ⟨hf.1, hf.2.1⟩
  have hm : Int64 m := ⟨hg.1, hg.2.1⟩
  have hs := hf.2.2
  have hu := hg.2.2
  refine ⟨lessB k n s j m u, lessB j m u k n s, sameB k n s j m u, ⟨fun w ht => implLessVal_any k n s j m u w hn hm (by omega) (by omega) ht, fun w ht => implLessVal_any j m u k n s w hm hn (by omega) (by omega) ht, fun w ht => implSameVal_any k n s j m u w hn hm (by omega) (by omega) ht, fun w => specSameVal_any k n s j m u w hn hm, fun w ht => ?_, order_tri k n s j m u⟩⟩
  have := implSameVal_any k n s k n s w hn hn (by omega) (by omega) ht
  rw [sameB_self] at this
  exact this

set_option maxHeartbeats 4000000 in
theorem fnOrder_small (v : Value) (zs : List Int) (w : World) (H : Hid (Bs w v zs)) (hlen : zs.length ≤ 1048576) (ht : Tab w) :
    Calls Tryd.prog 4 #[v] w fun e w' => e = .returned (.bool true) ∧ Below w.heap.size w w' := by
  have HT := Hid.mk ht
  clear ht
  have hd : decide ((1048576 : Int) < zs.length) = false := by simp; omega
  have HB := Hid.mk (big_any v zs w H.out)
  rw [hd] at HB
  clear hd
  go_enter Tryd.func4, Tryd.ntmps4
  go_wp2_with fail
  refine HB.out.mono ?_
  rintro e w1 ⟨rfl, hw⟩
  obtain rfl := hw.symm
  clear hw HB
  go_wp2_with fail
  refine (drawLessVal_any v zs w H.out hlen).mono ?_
  rintro e w2 ⟨k, n, s, j, m, u, rfl, hf1, hf2, hb⟩
  obtain ⟨x, y, z, HO⟩ := ordered k n s j m u hf1 hf2
  have O := Hid.mk HO
  clear HO hf1 hf2
  have s2 := hb.size
  have B2 : Hid (Below w.heap.size w (boxed (boxed w2 k n s 25) j m u 25)) := (hb.alloc s2 _).alloc (by simp; omega) _
  have HT2 := Hid.mk (HT.out.grow B2.out)
  clear hb HT
  rcases O.out.how with ⟨rfl, rfl, rfl⟩ | ⟨rfl, rfl, rfl⟩ | ⟨rfl, rfl, rfl⟩
  all_goals
      go_wp2_with fail
      refine (O.out.lab _ HT2.out).mono ?_
      rintro e w3 ⟨rfl, hb3⟩
      have C3 : Hid (Below (w2.heap.size + 2) (boxed (boxed w2 k n s 25) j m u 25) w3) := hb3.mono (by simp)
      have HT3 := Hid.mk (HT2.out.grow hb3)
      have s3 := hb3.size
      simp at s3
      have hA := fun o => C3.out.cell (p := ⟨w2.heap.size, o, none⟩) (by simp)
      have hB := fun o => C3.out.cell (p := ⟨w2.heap.size + 1, o, none⟩) (by simp)
      clear hb3 HT2
      go_wp2_with fail
      refine (O.out.lba _ HT3.out).mono ?_
      rintro e w4 ⟨rfl, hb4⟩
      have C4 : Hid (Below (w2.heap.size + 2) (boxed (boxed w2 k n s 25) j m u 25) w4) := C3.out.trans (hb4.mono (by omega))
      have HT4 := Hid.mk (HT3.out.grow hb4)
      have s4 := hb4.size
      clear hb4 HT3 hA hB C3
      have hA := fun o => C4.out.cell (p := ⟨w2.heap.size, o, none⟩) (by simp)
      have hB := fun o => C4.out.cell (p := ⟨w2.heap.size + 1, o, none⟩) (by simp)
      go_wp2_with fail
      refine (O.out.sab _ HT4.out).mono ?_
      rintro e w5 ⟨rfl, hb5⟩
      have C5 : Hid (Below (w2.heap.size + 2) (boxed (boxed w2 k n s 25) j m u 25) w5) := C4.out.trans (hb5.mono (by omega))
      have HT5 := Hid.mk (HT4.out.grow hb5)
      have s5 := hb5.size
      clear hb5 HT4 hA hB C4
      have hA := fun o => C5.out.cell (p := ⟨w2.heap.size, o, none⟩) (by simp)
      have hB := fun o => C5.out.cell (p := ⟨w2.heap.size + 1, o, none⟩) (by simp)
      have a0 := cell_regrown (w := w5) (a := ⟨w2.heap.size, 0, none⟩) (v := .int .i64 k) (by rw [hA]; simp)
      have a1 := cell_regrown (w := w5) (a := ⟨w2.heap.size, 1, none⟩) (v := .int .i64 n) (by rw [hA]; simp)
      have a2 := cell_regrown (w := w5) (a := ⟨w2.heap.size, 2, none⟩) (v := .string s) (by rw [hA]; simp)
      have b0 := cell_regrown (w := w5) (a := ⟨w2.heap.size + 1, 0, none⟩) (v := .int .i64 j) (by rw [hB]; simp)
      have b1 := cell_regrown (w := w5) (a := ⟨w2.heap.size + 1, 1, none⟩) (v := .int .i64 m) (by rw [hB]; simp)
      have b2 := cell_regrown (w := w5) (a := ⟨w2.heap.size + 1, 2, none⟩) (v := .string u) (by rw [hB]; simp)
      have cA := Hid.mk (fun d os => Calls.regrown_of (w := w5) (d := d) (os := os) (O.out.tab _))
      have cB := Hid.mk (fun d os => Calls.regrown_of (O.out.saa _ (HT5.out.grow (below_regrown w5 d os))))
      have cC := Hid.mk (fun d os => Calls.regrown_of (w := w5) (d := d) (os := os) (implTruth_any k n s _))
      have cD := Hid.mk (fun d os => Calls.regrown_of (w := w5) (d := d) (os := os) (specTruth_any k n s _))
      obtain ⟨t, hT⟩ : ∃ t, truB k n s = t := ⟨_, rfl⟩
      rw [hT] at cC cD
      have htt : (t == t) = true := by simp
      clear hA hB HT5 hT
      go_wp2_with fail
      refine wp_region_quiet_below (by kernel_rfl) (by kernel_rfl) ?_
      quiet_step (fail)
      quiet_step (fail)
      quiet_step (fail)
      quiet_step (fail)
      quiet_step (fail)
      quiet_step (fail)
      quiet_step (fail)
      quiet_step (fail)
      quiet_step (fail)
      quiet_step (fail)
      quiet_step (fail)
      quiet_step (fail)
      quiet_step (fail)
      quiet_step (fail)
      quiet_step (fail)
      quiet_step (fail)
      quiet_step (fail)
      quiet_step (exact cA.out _ _)
      quiet_step (fail)
      quiet_step (fail)
      quiet_step (fail)
      quiet_step (fail)
      quiet_step (fail)
      quiet_step (exact cB.out _ _)
      quiet_step (fail)
      quiet_step (fail)
      quiet_step (fail)
      quiet_step (exact cC.out _ _)
      quiet_step (fail)
      quiet_step (exact cD.out _ _)
      quiet_step (fail)
      quiet_step (fail)
      quiet_step (fail)
      refine wpQuiet_nil ?_
      intro w6 hw'
      obtain ⟨⟨dq, osq⟩, hw''⟩ := hw'
      have hb6 : Below w5.heap.size w5 w6 := by rw [hw'']; exact below_regrown _ _ _
      have B6 := B2.out.trans ((C5.out.trans (hb6.mono (by omega))).mono (by omega))
      clear hw'' a0 a1 a2 b0 b1 b2 cA cB cC cD hb6 C5
      go_wp2
      go_ret
      exact ⟨rfl, B6⟩

theorem fnOrder_walk (v : Value) (zs : List Int) (w : World) (h : Bs w v zs) (ht : Tab w) :
    Calls Tryd.prog 4 #[v] w fun e w' => e = .returned (.bool true) ∧ Below w.heap.size w w' := by
  by_cases hlen : zs.length ≤ 1048576
  · exact fnOrder_small v zs w h hlen ht
  · have hd : decide ((1048576 : Int) < zs.length) = true := by simp; omega
    have HB := Hid.mk (big_any v zs w h)
    rw [hd] at HB
    clear hd h
    go_enter Tryd.func4, Tryd.ntmps4
    go_wp2_with fail
    refine HB.out.mono ?_
    rintro e w1 ⟨rfl, hw⟩
    obtain rfl := hw.symm
    clear hw HB
    go_wp2
    go_ret
    exact ⟨rfl, Below.refl _ _⟩
end Go.Proofs.YtincoibidgkiaaaDoor
