/- Draws of texts: a text of chapter 4; texts of chapter 6. -/
import Derived.Test.YteomhjoodnjfbaaCurStr
import Derived.Test.YteomhjoodnjfbaaDraw
namespace Go.Proofs.Yteomhjoodnjfbaa
open Go.RowKit
set_option maxRecDepth 8000

theorem gyN {w w' : World} {R : Nat} (h : w.grownBy w' (some R)) (o : Obj) : w.grownBy (w'.alloc o) (some R) := grownBy_trans h (World.grownBy_alloc w' o _)
theorem one_size {y : ByteArray} (h : y ∈ ([⟨#[97]⟩, ⟨#[98]⟩, ⟨#[99]⟩, ⟨#[49]⟩, ⟨#[97]⟩, ⟨#[32]⟩] : List ByteArray)) : y.size = 1 := by
  have := (List.all_eq_true.1 (show ([⟨#[97]⟩, ⟨#[98]⟩, ⟨#[99]⟩, ⟨#[49]⟩, ⟨#[97]⟩, ⟨#[32]⟩] : List ByteArray).all (fun y => decide (y.size = 1)) = true by decide +kernel)) y h
  simpa using this

set_option maxHeartbeats 1000000 in
theorem l4Text_any (cb : Nat) (v : Value) (zs : List Int) (w : World) (h : Cur w cb v zs) :
    Calls Try.prog 81 #[.pointer (some ⟨cb, 0, none⟩)] w fun e w' => ∃ s : ByteArray, e = .returned (.string s) ∧ s.size ≤ 6 ∧ Cur w' cb v zs ∧ w.grownBy w' (some cb) := by
  have H := Hid.mk h
  clear h
  go_enter Try.func81, Try.ntmps81
  go_wp2_with fail
  refine (l1Below_any cb v zs 7 w H.out).mono ?_
  rintro e w1 ⟨x, rfl, hx0, hx7, -, hC1, hg1⟩
  have hx := hx7 (by omega)
  have HC1 := Hid.mk hC1
  have HG1 := Hid.mk hg1
  clear hC1 hg1 hx7 H
  go_wp2
  go_loopw [3, 4] (fun q i wr => ∃ (s : ByteArray) (k : Nat), q = .string s ∧ i = .int .i64 k ∧ s.size + k ≤ 6 ∧ Hid (Cur wr cb v zs) ∧ Hid (w.grownBy wr (some cb))) (fun _ i _ => (intOf i).toNat)
  case atStart => exact ⟨⟨#[]⟩, x.toNat, rfl, by rw [Int.toNat_of_nonneg hx0], by have : (⟨#[]⟩ : ByteArray).size = 0 := rfl; omega, HC1, HG1⟩
  case round =>
    obtain ⟨s, k, rfl, rfl, hsk, HC, HG⟩ := hrel
    clear HC1 HG1
    by_cases hk : (0 : Int) < (k : Int)
    · have e3 : ¬ 9223372036854775807 < s.size + 1 := by omega
      go_wp2_with fail
      have A0 : ∀ o, Below wr.heap.size wr (wr.alloc o) := fun o => (Below.refl _ _).alloc (Nat.le_refl _) _
      refine (l1Str_any cb wr.heap.size 6 v zs [⟨#[97]⟩, ⟨#[98]⟩, ⟨#[99]⟩, ⟨#[49]⟩, ⟨#[97]⟩, ⟨#[32]⟩] _ (HC.out.grow (A0 _)) rfl (by omega) (by omega) (heap_alloc_new wr _) (by have := HC.out.lt; omega)).mono ?_
      rintro e w2 ⟨y, rfl, hy, hC2, hg2⟩
      have hy1 := one_size hy
      have HC2 := Hid.mk hC2
      have HG2 := Hid.mk (grownBy_trans (gyN HG.out _) hg2)
      have e4 : ¬ 9223372036854775807 < s.size + y.size := by omega
      clear hC2 hg2 hy HC HG A0 e3
      go_wp2
      go_roundw
      case rel => exact ⟨s ++ y, k - 1, rfl, by go_num, by simp; omega, HC2, HG2⟩
      case measure => simp [intOf]; omega
    · go_wp2
      go_ret
      exact ⟨s, rfl, by omega, HC.out, HG.out⟩

theorem low_size {y : ByteArray} {L : List ByteArray} {n : Nat} (hL : L.all (fun y => decide (y.size ≤ n)) = true) (h : y ∈ L) : y.size ≤ n := by
  simpa using List.all_eq_true.1 hL y h

set_option maxHeartbeats 1000000 in
theorem drawUpperOf_any (v : Value) (zs : List Int) (w : World) (h : Bs w v zs) (hlen : zs.length ≤ 1048576) :
    Calls Try.prog 43 #[v] w fun e w' => ∃ s : ByteArray, e = .returned (.string s) ∧ s.size ≤ 16 ∧ Below w.heap.size w w' := by
  have H := Hid.mk h
  obtain ⟨_, ao, cap, rfl, -⟩ := h
  go_enter Try.func43, Try.ntmps43
  go_wp2_with fail
  refine (l1New_any _ zs w H.out hlen).mono ?_
  rintro e w1 ⟨rfl, hC1, hb1⟩
  have C1 := Hid.mk hC1
  have B1 := Hid.mk hb1
  clear hC1 hb1 H
  go_wp2_with fail
  refine (l4Text_any w.heap.size _ zs w1 C1.out).mono ?_
  rintro e w2 ⟨s, rfl, hs, hC2, hg2⟩
  have C2 := Hid.mk hC2
  have G2 := Hid.mk hg2
  have s2 := hC2.lt
  clear hC2 hg2 C1
  have A0 : ∀ o, Below w2.heap.size w2 (w2.alloc o) := fun o => (Below.refl _ _).alloc (Nat.le_refl _) _
  go_wp2_with fail
  refine (l1Str_any w.heap.size w2.heap.size 6 _ zs [⟨#[]⟩, ⟨#[90]⟩, ⟨#[127]⟩, ⟨#[122]⟩, ⟨#[96]⟩, ⟨#[123]⟩] _ (C2.out.grow (A0 _)) rfl (by omega) (by omega) (heap_alloc_new w2 _) (by omega)).mono ?_
  rintro e w3 ⟨y, rfl, hy, hC3, hg3⟩
  have hy1 : y.size ≤ 1 := low_size (by decide +kernel) hy
  have G3 := Hid.mk (grownBy_trans (gyN G2.out _) hg3)
  have e4 : ¬ 9223372036854775807 < s.size + y.size := by omega
  clear hC3 hg3 hy C2 G2 A0
  go_wp2
  go_ret
  refine ⟨s ++ y, rfl, by rw [ByteArray.size_append]; omega, ?_⟩
  have g := G3.out
  have b := B1.out
  have q : Below w.heap.size w1 w3 := ⟨g.os, g.tape, g.output, g.size, fun k hk => g.block k (Nat.lt_of_lt_of_le hk b.size) (fun e => by have := Option.some.inj e; omega)⟩
  exact b.trans q

set_option maxHeartbeats 1000000 in
theorem drawIndexOf_any (v : Value) (zs : List Int) (w : World) (h : Bs w v zs) (hlen : zs.length ≤ 1048576) :
    Calls Try.prog 35 #[v] w fun e w' => ∃ s t : ByteArray, e = .returned (.tuple #[.string s, .string t]) ∧ s.size ≤ 16 ∧ t.size ≤ 16 ∧ Below w.heap.size w w' := by
  have H := Hid.mk h
  obtain ⟨_, ao, cap, rfl, -⟩ := h
  go_enter Try.func35, Try.ntmps35
  go_wp2_with fail
  refine (l1New_any _ zs w H.out hlen).mono ?_
  rintro e w1 ⟨rfl, hC1, hb1⟩
  have C1 := Hid.mk hC1
  have B1 := Hid.mk hb1
  clear hC1 hb1 H
  go_wp2_with fail
  refine (l4Text_any w.heap.size _ zs w1 C1.out).mono ?_
  rintro e w2 ⟨s, rfl, hs, hC2, hg2⟩
  have C2 := Hid.mk hC2
  have G2 := Hid.mk hg2
  have s2 := hC2.lt
  clear hC2 hg2 C1
  have A0 : ∀ o, Below w2.heap.size w2 (w2.alloc o) := fun o => (Below.refl _ _).alloc (Nat.le_refl _) _
  go_wp2_with fail
  refine (l1Str_any w.heap.size w2.heap.size 6 _ zs [⟨#[]⟩, ⟨#[97]⟩, ⟨#[97, 98]⟩, ⟨#[98]⟩, ⟨#[99, 97]⟩, ⟨#[97, 98, 99, 97, 98, 99, 97, 98, 99]⟩] _ (C2.out.grow (A0 _)) rfl (by omega) (by omega) (heap_alloc_new w2 _) (by omega)).mono ?_
  rintro e w3 ⟨y, rfl, hy, hC3, hg3⟩
  have hy1 : y.size ≤ 9 := low_size (by decide +kernel) hy
  have G3 := Hid.mk (grownBy_trans (gyN G2.out _) hg3)
  clear hC3 hg3 hy C2 G2 A0
  go_wp2
  go_ret2
  refine ⟨s, y, rfl, by omega, by omega, ?_⟩
  have g := G3.out
  have b := B1.out
  have q : Below w.heap.size w1 w3 := ⟨g.os, g.tape, g.output, g.size, fun k hk => g.block k (Nat.lt_of_lt_of_le hk b.size) (fun e => by have := Option.some.inj e; omega)⟩
  exact b.trans q

set_option maxHeartbeats 1000000 in
theorem drawSubText_any (v : Value) (zs : List Int) (w : World) (h : Bs w v zs) (hlen : zs.length ≤ 1048576) :
    Calls Try.prog 39 #[v] w fun e w' => ∃ (s : ByteArray) (f n : Int), e = .returned (.tuple #[.string s, .int .i64 f, .int .i64 n]) ∧ s.size ≤ 16 ∧ Below w.heap.size w w' := by
  have H := Hid.mk h
  obtain ⟨_, ao, cap, rfl, -⟩ := h
  go_enter Try.func39, Try.ntmps39
  go_wp2_with fail
  refine (l1New_any _ zs w H.out hlen).mono ?_
  rintro e w1 ⟨rfl, hC1, hb1⟩
  have C1 := Hid.mk hC1
  have B1 := Hid.mk hb1
  clear hC1 hb1 H
  go_wp2_with fail
  refine (l4Text_any w.heap.size _ zs w1 C1.out).mono ?_
  rintro e w2 ⟨s, rfl, hs, hC2, hg2⟩
  have C2 := Hid.mk hC2
  have G2 := Hid.mk hg2
  clear hC2 hg2 C1
  go_wp2_with fail
  refine (l1Num_any w.heap.size _ zs w2 C2.out).mono ?_
  rintro e w3 ⟨x, rfl, hC3, hg3⟩
  have C3 := Hid.mk hC3
  have G3 := Hid.mk (grownBy_trans G2.out hg3)
  have s3 := hC3.lt
  clear hC3 hg3 C2 G2
  have A3 : ∀ o, Below w3.heap.size w3 (w3.alloc o) := fun o => (Below.refl _ _).alloc (Nat.le_refl _) _
  go_wp2_with fail
  refine (l1Int_any w.heap.size w3.heap.size 6 _ zs [1, 2, 0, -1, 7, x] _ (C3.out.grow (A3 _)) rfl (by omega) (by omega) (heap_alloc_new w3 _) (by omega)).mono ?_
  rintro e w4 ⟨f, rfl, -, hC4, hg4⟩
  have C4 := Hid.mk hC4
  have G4 := Hid.mk (grownBy_trans (gyN G3.out _) hg4)
  clear hC4 hg4 C3 G3 A3 s3
  go_wp2_with fail
  refine (l1Num_any w.heap.size _ zs w4 C4.out).mono ?_
  rintro e w5 ⟨y, rfl, hC5, hg5⟩
  have C5 := Hid.mk hC5
  have G5 := Hid.mk (grownBy_trans G4.out hg5)
  have s5 := hC5.lt
  clear hC5 hg5 C4 G4
  have A5 : ∀ o, Below w5.heap.size w5 (w5.alloc o) := fun o => (Below.refl _ _).alloc (Nat.le_refl _) _
  go_wp2_with fail
  refine (l1Int_any w.heap.size w5.heap.size 6 _ zs [1, 2, 0, -1, 9, y] _ (C5.out.grow (A5 _)) rfl (by omega) (by omega) (heap_alloc_new w5 _) (by omega)).mono ?_
  rintro e w6 ⟨n, rfl, -, hC6, hg6⟩
  have G6 := Hid.mk (grownBy_trans (gyN G5.out _) hg6)
  clear hC6 hg6 C5 G5 A5 s5
  go_wp2
  go_ret3
  refine ⟨s, f, n, rfl, by omega, ?_⟩
  have g := G6.out
  have b := B1.out
  have q : Below w.heap.size w1 w6 := ⟨g.os, g.tape, g.output, g.size, fun k hk => g.block k (Nat.lt_of_lt_of_le hk b.size) (fun e => by have := Option.some.inj e; omega)⟩
  exact b.trans q

set_option maxHeartbeats 1000000 in
theorem drawSplitText_any (v : Value) (zs : List Int) (w : World) (h : Bs w v zs) (hlen : zs.length ≤ 1048576) :
    Calls Try.prog 44 #[v] w fun e w' => ∃ s : ByteArray, e = .returned (.string s) ∧ s.size ≤ 16 ∧ Below w.heap.size w w' := by
  have H := Hid.mk h
  obtain ⟨_, ao, cap, rfl, -⟩ := h
  go_enter Try.func44, Try.ntmps44
  go_wp2_with fail
  refine (l1New_any _ zs w H.out hlen).mono ?_
  rintro e w1 ⟨rfl, hC1, hb1⟩
  have C1 := Hid.mk hC1
  have B1 := Hid.mk hb1
  clear hC1 hb1 H
  go_wp2_with fail
  refine (l1Below_any w.heap.size _ zs 8 w1 C1.out).mono ?_
  rintro e w2 ⟨x, rfl, hx0, hx8, -, hC2, hg2⟩
  have hx := hx8 (by omega)
  have C2 := Hid.mk hC2
  have G2 := Hid.mk hg2
  clear hC2 hg2 hx8 C1
  go_wp2
  go_loopw [4, 5] (fun q i wr => ∃ (s : ByteArray) (k : Nat), q = .string s ∧ i = .int .i64 k ∧ s.size + 2 * k ≤ 16 ∧ Hid (Cur wr w.heap.size (.slice ao zs.length cap) zs) ∧ Hid (w1.grownBy wr (some w.heap.size))) (fun _ i _ => (intOf i).toNat)
  case atStart => exact ⟨⟨#[]⟩, x.toNat, rfl, by rw [Int.toNat_of_nonneg hx0], by have : (⟨#[]⟩ : ByteArray).size = 0 := rfl; omega, C2, G2⟩
  case round =>
    obtain ⟨s, k, rfl, rfl, hsk, HC, HG⟩ := hrel
    clear C2 G2
    by_cases hk : (0 : Int) < (k : Int)
    · go_wp2_with fail
      have A0 : ∀ o, Below wr.heap.size wr (wr.alloc o) := fun o => (Below.refl _ _).alloc (Nat.le_refl _) _
      refine (l1Str_any w.heap.size wr.heap.size 6 _ zs [⟨#[97]⟩, ⟨#[98, 99]⟩, ⟨#[32]⟩, ⟨#[32, 32]⟩, ⟨#[9]⟩, ⟨#[49]⟩] _ (HC.out.grow (A0 _)) rfl (by omega) (by omega) (heap_alloc_new wr _) (by have := HC.out.lt; omega)).mono ?_
      rintro e w2 ⟨y, rfl, hy, hC2, hg2⟩
      have hy1 : y.size ≤ 2 := low_size (by decide +kernel) hy
      have HC2 := Hid.mk hC2
      have HG2 := Hid.mk (grownBy_trans (gyN HG.out _) hg2)
      have e4 : ¬ 9223372036854775807 < s.size + y.size := by omega
      clear hC2 hg2 hy HC HG A0
      go_wp2
      go_roundw
      case rel => exact ⟨s ++ y, k - 1, rfl, by go_num, by rw [ByteArray.size_append]; omega, HC2, HG2⟩
      case measure => simp [intOf]; omega
    · go_wp2
      go_ret
      refine ⟨s, rfl, by omega, ?_⟩
      have g := HG.out
      have b := B1.out
      have q : Below w.heap.size w1 wr := ⟨g.os, g.tape, g.output, g.size, fun k hk => g.block k (Nat.lt_of_lt_of_le hk b.size) (fun e => by have := Option.some.inj e; omega)⟩
      exact b.trans q
end Go.Proofs.Yteomhjoodnjfbaa
