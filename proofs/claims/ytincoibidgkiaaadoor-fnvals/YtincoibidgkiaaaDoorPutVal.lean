/- PutVal: the kind in groups of seven bits, and behind it the number or the text. The program's and the document's model's. -/
import Derived.Test.YtincoibidgkiaaaDoorVal
import Derived.Test.YtincoibidgkiaaaDoorImplPutText
import Derived.Test.YtincoibidgkiaaaDoorSpecPutText
import Derived.Test.YtincoibidgkiaaaDoorImplPutS
import Derived.Test.YtincoibidgkiaaaDoorSpecPutS
import Derived.Test.YtincoibidgkiaaaDoorNear
import Derived.Deep.RegionHeld3
namespace Go.Proofs.YtincoibidgkiaaaDoor
open Go.RowKit
set_option maxRecDepth 8000

/-- A value's bytes. -/
def vG (k n : Int) (s : ByteArray) : List Int :=
  Ma.UG (Ma.clamp k) ++ (if k = 1 then Ma.SG (Ma.wr n) else if k = 2 then Ma.UG (Ma.clamp (s.size : Int)) ++ txt s else [])

theorem vG1 (n : Int) (s : ByteArray) : vG 1 n s = Ma.UG (Ma.clamp 1) ++ Ma.SG (Ma.wr n) := by simp [vG]
theorem vG2 (n : Int) (s : ByteArray) : vG 2 n s = Ma.UG (Ma.clamp 2) ++ (Ma.UG (Ma.clamp (s.size : Int)) ++ txt s) := by simp [vG]
theorem vGx (k n : Int) (s : ByteArray) (h1 : k ≠ 1) (h2 : k ≠ 2) : vG k n s = Ma.UG (Ma.clamp k) := by simp [vG, h1, h2]

theorem vG_byte (k n : Int) (s : ByteArray) : byteList (vG k n s) := by
  unfold vG
  refine (UG_byte 5 _ (Ma.clamp_lo _)).append ?_
  split
  · exact SG_byte 5 _
  split
  · exact (UG_byte 5 _ (Ma.clamp_lo _)).append (txt_byte s)
  · intro z hz; simp at hz

theorem vG_length (k n : Int) (s : ByteArray) (hs : s.size ≤ 1048576) : (vG k n s).length ≤ 1048586 := by
  unfold vG
  have h1 := Ma.UG_length (Ma.clamp k)
  have h2 := Ma.UG_length (Ma.clamp (s.size : Int))
  have h3 := Ma.SG_length (Ma.wr n)
  rw [List.length_append]
  split
  · omega
  split
  · rw [List.length_append, txt_length]; omega
  · simp; omega

set_option maxHeartbeats 400000 in
theorem specPutVal_any (v : Value) (zs : List Int) (k n : Int) (s : ByteArray) (w : World) (h : Bs w v zs) (hlen : zs.length ≤ 4194304) (hs : s.size ≤ 1048576) :
    Calls Tryd.prog 40 #[v, vl k n s] w fun e w' => ∃ v', e = .returned v' ∧
      Own w' w.heap.size v' (zs ++ vG k n s) ∧ Below w.heap.size w w' := by
  have B0 : Below w.heap.size w (boxed w k n s 25) := (Below.refl _ _).alloc (Nat.le_refl _) _
  have H1 := Hid.mk (h.grow B0)
  have hu := Ma.UG_length (Ma.clamp k)
  have hbz := h.1
  have hz2 : byteList (zs ++ Ma.UG (Ma.clamp k)) := hbz.append (UG_byte 5 _ (Ma.clamp_lo _))
  clear h
  go_enter Tryd.func40, Tryd.ntmps40
  go_wp2_with fail
  refine (specPutU_any v zs k _ H1.out (by omega)).mono ?_
  rintro e w1 ⟨v1, rfl, hown, hbel⟩
  have B1 : Below (w.heap.size + 1) (boxed w k n s 25) w1 := hbel.mono (by simp)
  have s1 := B1.size
  simp at s1
  have hc := fun o => B1.cell (p := ⟨w.heap.size, o, none⟩) (by simp)
  have hown1 := hown.mono (b0 := w.heap.size) (by simp)
  clear hown hbel
  by_cases h1 : k = 1
  · subst h1
    have HV := Hid.mk (vG1 n s)
    go_wp2_with fail
    refine (specPutS_any v1 _ n w1 (hown1.bs hz2) (by rw [List.length_append]; omega)).mono ?_
    rintro e w2 ⟨v2, rfl, hown2, hbel2⟩
    have hown3 := (hown2.mono (b0 := w.heap.size) (by omega)).assoc
    rw [← HV.out] at hown3
    have B2 := B0.trans ((B1.trans (hbel2.mono (by omega))).mono (by omega))
    clear hown2 hbel2 hc hown1
    go_wp2
    go_ret
    exact ⟨v2, rfl, hown3, B2⟩
  by_cases h2 : k = 2
  · subst h2
    have HV := Hid.mk (vG2 n s)
    go_wp2_with fail
    refine (specPutText_any v1 _ s w1 (hown1.bs hz2) (by rw [List.length_append]; omega) hs).mono ?_
    rintro e w2 ⟨v2, rfl, hown2, hbel2⟩
    have hown3 := (hown2.mono (b0 := w.heap.size) (by omega)).assoc
    rw [← HV.out] at hown3
    have B2 := B0.trans ((B1.trans (hbel2.mono (by omega))).mono (by omega))
    clear hown2 hbel2 hc hown1
    go_wp2
    go_ret
    exact ⟨v2, rfl, hown3, B2⟩
  · have HV := Hid.mk (vGx k n s h1 h2)
    rw [← HV.out] at hown1
    have B2 := B0.trans (B1.mono (by omega))
    go_wp2
    go_ret
    exact ⟨v1, rfl, hown1, B2⟩

theorem isInt_int (v : Value) (w : World) : (Instr.typeAssert (.iface 59 v) 51 59 true).run Tryd.prog w = .ok (.tuple #[v, .bool true]) w := by kernel_rfl
theorem isInt_text (v : Value) (w : World) : (Instr.typeAssert (.iface 65 v) 51 59 true).run Tryd.prog w = .ok (.tuple #[vl 0 0 noTxt, .bool false]) w := by kernel_rfl
theorem isInt_none (v : Value) (w : World) : (Instr.typeAssert (.iface 71 v) 51 59 true).run Tryd.prog w = .ok (.tuple #[vl 0 0 noTxt, .bool false]) w := by kernel_rfl
theorem isInt_stray (v : Value) (w : World) : (Instr.typeAssert (.iface 72 v) 51 59 true).run Tryd.prog w = .ok (.tuple #[vl 0 0 noTxt, .bool false]) w := by kernel_rfl

/-- What valueOf answers of a value that is neither number nor text. -/
theorem valueOf_neither (k n : Int) (s : ByteArray) (w : World) (h1 : k ≠ 1) (h2 : k ≠ 2) :
    Calls Tryd.prog 33 #[vl k n s] w fun e w' => ∃ i, e = .returned i ∧ (∀ w, (Instr.typeAssert i 51 65 true).run Tryd.prog w = .ok (.tuple #[vl 0 0 noTxt, .bool false]) w) ∧
      (∀ w, (Instr.typeAssert i 51 59 true).run Tryd.prog w = .ok (.tuple #[vl 0 0 noTxt, .bool false]) w) ∧ w' = boxed w k n s 25 := by
  by_cases h0 : k = 0
  · subst h0
    exact (valueOf_none n s w).mono (by rintro e w' ⟨rfl, rfl⟩; exact ⟨_, rfl, isText_none _, isInt_none _, rfl⟩)
  · exact (valueOf_stray k n s w h0 h1 h2).mono (by rintro e w' ⟨rfl, rfl⟩; exact ⟨_, rfl, isText_stray _, isInt_stray _, rfl⟩)

set_option maxHeartbeats 400000 in
theorem appendVal_own (base : Nat) (v : Value) (xs : List Int) (k n : Int) (s : ByteArray) (w : World) (ho : Own w base v xs) (hbase : base ≤ w.heap.size) (hlen : xs.length ≤ 4194304) (hs : s.size ≤ 1048576) :
    Calls Tryd.prog 34 #[v, vl k n s] w fun e w' => ∃ v', e = .returned v' ∧
      Own w' base v' (xs ++ vG k n s) ∧ Below base w w' := by
  have B0 : Below base w (boxed w k n s 25) := (Below.refl _ _).alloc hbase _
  have B1 := B0.alloc (by simp; omega) (.cells #[.int .i64 k] 3)
  have ho1 := (ho.alloc (.cells #[.int .i64 k, .int .i64 n, .string s] 25)).alloc (.cells #[.int .i64 k] 3)
  have hu := Ma.UG_length (Ma.clamp k)
  have hvlt := fun k hk => (ho.lt k hk).2
  clear ho B0
  go_enter Tryd.func34, Tryd.ntmps34
  go_wp2_with fail
  refine (appendU_near base (w.heap.size + 1) v xs k _ ho1 (by simp; omega) (by omega) (by simp)).mono ?_
  rintro e w1 ⟨v1, rfl, hown, hnear⟩
  have B2 := B1.trans (hnear.below ho1 (by simp; omega))
  have s2 : base ≤ w1.heap.size := Nat.le_trans hbase B2.size
  have hblk := hnear.1.block w.heap.size (by simp; omega) (by intro e; have := hvlt _ e.symm; omega)
  have hc := fun o => World.cell?_of_block (a := ⟨w.heap.size, o, none⟩) hblk
  clear ho1 hnear B1 hvlt hblk
  by_cases h1 : k = 1
  · subst h1
    have HV := Hid.mk (vG1 n s)
    have ht := isInt_int (vl 1 n s)
    go_wp2_with fail
    refine (valueOf_int _ _ _).mono ?_
    rintro e w' ⟨rfl, rfl⟩
    have hown1 := ((hown.alloc (.cells #[.int .i64 1, .int .i64 n, .string s] 25)).alloc (.cells #[.int .i64 1, .int .i64 n, .string s] 59)).alloc (.cells #[.int .i64 n] 3)
    have B3 := ((B2.alloc s2 (.cells #[.int .i64 1, .int .i64 n, .string s] 25)).alloc (by simp; omega) (.cells #[.int .i64 1, .int .i64 n, .string s] 59)).alloc (by simp; omega) (.cells #[.int .i64 n] 3)
    clear hown B2 hc
    go_wp2_with fail
    have hsz : ((w1.alloc (.cells #[.int .i64 1, .int .i64 n, .string s] 25)).alloc (.cells #[.int .i64 1, .int .i64 n, .string s] 59)).heap.size = w1.heap.size + 1 + 1 := by simp
    have hcell := cell_num ((w1.alloc (.cells #[.int .i64 1, .int .i64 n, .string s] 25)).alloc (.cells #[.int .i64 1, .int .i64 n, .string s] 59)) n
    rw [hsz] at hcell
    clear hsz
    refine (appendS_one base (w1.heap.size + 1 + 1) v1 _ n _ hown1 (by simp; omega) (by rw [List.length_append]; omega) hcell).mono ?_
    rintro e w2 ⟨v2, rfl, hown2, hbel2⟩
    have hown3 := hown2.assoc
    rw [← HV.out] at hown3
    have B4 := B3.trans hbel2
    clear hown2 hbel2 hown1 B3
    go_wp2
    go_ret
    exact ⟨v2, rfl, hown3, B4⟩
  by_cases h2 : k = 2
  · subst h2
    have HV := Hid.mk (vG2 n s)
    have ht := isInt_text (vl 2 n s)
    have ht2 := isText_text (vl 2 n s)
    go_wp2_with fail
    refine (valueOf_text _ _ _).mono ?_
    rintro e w' ⟨rfl, rfl⟩
    have hown1 := (hown.alloc (.cells #[.int .i64 2, .int .i64 n, .string s] 25)).alloc (.cells #[.int .i64 2, .int .i64 n, .string s] 65)
    have B3 := (B2.alloc s2 (.cells #[.int .i64 2, .int .i64 n, .string s] 25)).alloc (by simp; omega) (.cells #[.int .i64 2, .int .i64 n, .string s] 65)
    clear hown B2 hc
    go_wp2_with fail
    refine (appendText_own base v1 _ s _ hown1 (by simp; omega) (by rw [List.length_append]; omega) hs).mono ?_
    rintro e w2 ⟨v2, rfl, hown2, hbel2⟩
    have hown3 := hown2.assoc
    rw [← HV.out] at hown3
    have B4 := B3.trans hbel2
    clear hown2 hbel2 hown1 B3
    go_wp2
    go_ret
    exact ⟨v2, rfl, hown3, B4⟩
  · have HV := Hid.mk (vGx k n s h1 h2)
    rw [← HV.out] at hown
    go_wp2_with fail
    refine (valueOf_neither _ _ _ _ h1 h2).mono ?_
    rintro e w' ⟨i, rfl, ht, ht2, rfl⟩
    have hown1 := hown.alloc (.cells #[.int .i64 k, .int .i64 n, .string s] 25)
    have B3 := B2.alloc s2 (.cells #[.int .i64 k, .int .i64 n, .string s] 25)
    clear hown B2 hc
    go_wp2
    go_ret
    exact ⟨v1, rfl, hown1, B3⟩

set_option maxHeartbeats 1000000 in
theorem implPutVal_any (v : Value) (zs : List Int) (k n : Int) (s : ByteArray) (w : World) (h : Bs w v zs) (hlen : zs.length ≤ 4194304) (hs : s.size ≤ 1048576) :
    Calls Tryd.prog 12 #[v, vl k n s] w fun e w' => ∃ v', e = .returned v' ∧
      Own w' w.heap.size v' (zs ++ vG k n s) ∧ Below w.heap.size w w' := by
  have B0 : Below w.heap.size w (boxed w k n s 25) := (Below.refl _ _).alloc (Nat.le_refl _) _
  have H1 := Hid.mk (h.grow B0)
  clear h
  go_enter Tryd.func12, Tryd.ntmps12
  go_wp2_with fail
  refine wp_region_held_drew (S := fun w' => Below (w.heap.size + 1) (boxed w k n s 25) w') (by kernel_rfl) (Below.drewSelf _ _ 1) (fun hS => ?_)
  refine wpAnyH_take (i := 0) (v := v) rfl (by kernel_rfl) (by kernel_rfl) (by kernel_rfl) (fun _ _ _ h => h) (Or.inl ⟨by kernel_rfl, fun w _ => by kernel_rfl⟩) hS ?_
  refine wpAnyH_take (i := 2) (v := vl k n s) rfl (by kernel_rfl) (by kernel_rfl) (by kernel_rfl) (fun _ _ _ h => h) (Or.inl ⟨by kernel_rfl, fun w' hw => ?_⟩) hS ?_
  · have hc := fun o => hw.cell (p := ⟨w.heap.size, o, none⟩) (by simp)
    simp only [Act.put, List.setIfInBounds_toArray]
    go_simp
  refine wpAnyH_ready (rs := [1]) (by kernel_rfl) (by simp) ?_
  refine AllReadyH.cons rfl (fun K hK => ?_) AllReadyH.nil
  rw [if_pos (by kernel_rfl)]
  simp only [Act.put, List.setIfInBounds_toArray]
  go_wp2_with fail
  refine (ownCopy_any v zs _ (H1.out.grow (Below.drewSelf _ _ 1)) (by omega)).mono ?_
  rintro e w1 ⟨v1, rfl, hown, hbel⟩
  have S1 : Below (w.heap.size + 1) (boxed w k n s 25) w1 := hS.trans (hbel.mono (by simp))
  refine hK _ _ S1 (fun _ => ?_)
  clear hK K
  have hown1 := hown.mono (b0 := w.heap.size + 1) (by simp)
  have s1 := S1.size
  simp at s1
  clear hown hbel hS
  refine wpAnyH_ready (rs := [3]) (by kernel_rfl) (by simp) ?_
  refine AllReadyH.cons rfl (fun K hK => ?_) AllReadyH.nil
  rw [if_pos (by kernel_rfl)]
  go_wp2_with fail
  refine (appendVal_own (w.heap.size + 1) v1 zs k n s w1 hown1 (by omega) hlen hs).mono ?_
  rintro e w2 ⟨v2, rfl, hown2, hbel2⟩
  have S2 := S1.trans hbel2
  have hown3 := hown2.mono (b0 := w.heap.size) (by omega)
  have B2 := B0.trans (S2.mono (by omega))
  refine hK _ _ S2 (fun _ => ?_)
  clear hK K hown1 hown2 hbel2 S1
  refine wpAnyH_take (i := 4) (v := v2) rfl (by kernel_rfl) (by kernel_rfl) (by kernel_rfl) (fun _ _ _ h => h) (Or.inl ⟨by kernel_rfl, fun w _ => by kernel_rfl⟩) S2 ?_
  refine wpAnyH_done (by kernel_rfl) ?_ _
  go_wp2
  go_ret
  exact ⟨v2, rfl, hown3, B2⟩
end Go.Proofs.YtincoibidgkiaaaDoor
