/- What the draws of chapter 2 hand over: some value: its number is one that an int holds, its text is short. Which one, no law asks. -/
import Derived.Test.YtincoibidgkiaaaDoorDraw
import Derived.Test.YtincoibidgkiaaaDoorVal
import Derived.Test.YtincoibidgkiaaaDoorAppStr
import Derived.Test.YtincoibidgkiaaaDoorReadT
namespace Go.Proofs.YtincoibidgkiaaaDoor
open Go.RowKit
set_option maxRecDepth 8000

/-- Blocks other than the cursor's stay. -/
theorem gcell {W w1 : World} {cb : Nat} (hg : W.grownBy w1 (some cb)) (b : Nat) (hb : b < W.heap.size) (hne : b ≠ cb) :
    (∀ o, w1.cell? ⟨b, o, none⟩ = W.cell? ⟨b, o, none⟩) ∧ (∀ o, w1.frozen? ⟨b, o, none⟩ = W.frozen? ⟨b, o, none⟩) :=
  ⟨fun o => World.cell?_of_block (a := ⟨b, o, none⟩) (hg.block b hb (fun e => hne (Option.some.inj e))), fun o => World.frozen?_of_block (a := ⟨b, o, none⟩) (hg.block b hb (fun e => hne (Option.some.inj e)))⟩

theorem below_set3 (W : World) (b B : Nat) (h : B ≤ b) (x y z : Value) : Below B W (((W.setCell ⟨b, 0, none⟩ x).setCell ⟨b, 1, none⟩ y).setCell ⟨b, 2, none⟩ z) :=
  (((Below.refl _ _).setCell h _).setCell h _).setCell h _

/-- A number that an int holds. -/
theorem l1Num_bd (cb : Nat) (v : Value) (zs : List Int) (w : World) (h : Cur w cb v zs) :
    Calls Tryd.prog 53 #[.pointer (some ⟨cb, 0, none⟩)] w fun e w' => ∃ x : Int, e = .returned (.int .i64 x) ∧ (-9223372036854775808 ≤ x ∧ x ≤ 9223372036854775807) ∧ Cur w' cb v zs ∧ w.grownBy w' (some cb) := by
  have H := Hid.mk h
  clear h
  go_enter Tryd.func53, Tryd.ntmps53
  go_wp2_with fail
  refine (l1Below_any cb v zs 100000 w H.out).mono ?_
  rintro e w1 ⟨y, rfl, hy0, hy1, -, hC, hg⟩
  have HY := Hid.mk (And.intro hy0 (hy1 (by omega)))
  have HC := Hid.mk hC
  have HG := Hid.mk hg
  clear hC hg hy0 hy1
  go_wp2_with fail
  refine (l1Int_any cb w1.heap.size 18 v zs [0, 1, -1, 63, 64, -64, -65, 127, 128, 300, 2147483647, -2147483648, 2147483648, -2147483649, 4294967296, 9223372036854775807, -9223372036854775808, y] _
    (HC.out.grow ((Below.refl _ _).alloc (Nat.le_refl _) _)) rfl (by omega) (by omega) (heap_alloc_new w1 _) (by have := HC.out.lt; omega)).mono ?_
  rintro e w2 ⟨x, rfl, hx, hC, hg⟩
  have HX : Hid (-9223372036854775808 ≤ x ∧ x ≤ 9223372036854775807) := by have := HY.out; simp at hx; show _ ∧ _; omega
  have HC2 := Hid.mk hC
  have HG2 := Hid.mk (grownBy_trans (grownBy_trans HG.out (World.grownBy_alloc w1 _ _)) hg)
  clear hC hg HC HG hx HY
  go_wp2
  go_ret
  exact ⟨x, rfl, HX.out, HC2.out, HG2.out⟩

/-- A list of texts in a block of its own. -/
def Strs (w : World) (lb : Nat) (xs : List ByteArray) : Prop := w.heap[lb]? = some (.cells (xs.map Value.string).toArray 9 (0, 0))

set_option maxHeartbeats 1000000 in
theorem l1Str_any (cb lb n : Nat) (v : Value) (zs : List Int) (xs : List ByteArray) (w : World) (h : Cur w cb v zs) (hn : n = xs.length) (hpos : 0 < n) (hbig : n ≤ 1000) (hx : Strs w lb xs) (hne : lb ≠ cb) :
    Calls Tryd.prog 67 #[.pointer (some ⟨cb, 0, none⟩), .slice (some ⟨lb, 0, none⟩) n n] w fun e w' => ∃ x : ByteArray, e = .returned (.string x) ∧ x ∈ xs ∧ Cur w' cb v zs ∧ w.grownBy w' (some cb) := by
  have H := Hid.mk h
  have HX := Hid.mk hx
  clear h hx
  have Hn := Hid.mk hn
  clear hn
  go_enter Tryd.func67, Tryd.ntmps67
  go_wp2_with fail
  refine (l1Below_any cb v zs (n : Int) w H.out).mono ?_
  rintro e w1 ⟨x, rfl, hx0, hx1, -, hC, hg⟩
  obtain ⟨p, rfl⟩ := Int.eq_ofNat_of_zero_le hx0
  have hp : p < n := by have := hx1 (by omega); omega
  have hbl : w1.heap[lb]? = w.heap[lb]? := hg.block lb (Array.getElem?_eq_some_iff.1 HX.out).1 (fun e => hne (Option.some.inj e))
  obtain ⟨y, Hy⟩ : ∃ y, Hid (xs[p]? = some y) := ⟨_, List.getElem?_eq_getElem (by have := Hn.out; omega)⟩
  have hcell : w1.cell? ⟨lb, p, none⟩ = some (.string y) := by
    have h1 := HX.out
    unfold Strs at h1
    rw [cell_of_row w1 lb p _ _ _ (hbl.trans h1)]
    simp [Hy.out]
  have hmem : y ∈ xs := List.mem_of_getElem? Hy.out
  have HC := Hid.mk hC
  have HG := Hid.mk hg
  have HM := Hid.mk hmem
  clear hC hg hx1 hbl hmem
  go_wp2
  go_ret
  exact ⟨y, rfl, HM.out, HC.out, HG.out⟩

theorem l1Once_any (cb : Nat) (v : Value) (zs : List Int) (n : Int) (w : World) (h : Cur w cb v zs) :
    Calls Tryd.prog 69 #[.pointer (some ⟨cb, 0, none⟩), .int .i64 n] w fun e w' => ∃ b : Bool, e = .returned (.bool b) ∧ Cur w' cb v zs ∧ w.grownBy w' (some cb) := by
  have H := Hid.mk h
  clear h
  go_enter Tryd.func69, Tryd.ntmps69
  go_wp2_with fail
  refine (l1Below_any cb v zs n w H.out).mono ?_
  rintro e w1 ⟨x, rfl, -, -, -, hC, hg⟩
  have HC := Hid.mk hC
  have HG := Hid.mk hg
  clear hC hg
  go_wp2
  go_ret
  exact ⟨_, rfl, HC.out, HG.out⟩

theorem l2Int_any (n : Int) (w : World) :
    Calls Tryd.prog 65 #[.int .i64 n] w fun e w' => e = .returned (vl 1 (Ma.wr n) noTxt) ∧ Below w.heap.size w w' := by
  go_enter Tryd.func65, Tryd.ntmps65
  go_wp2_with (go_at_call 32; refine (specWrap_any _ _).mono ?_; rintro e w' ⟨rfl, rfl⟩)
  exact bodyPost_ret (v := vl 1 (Ma.wr n) noTxt) (by simp [results, Tryd.results65, go_sem]) rfl ⟨rfl, (Below.refl _ _).alloc (Nat.le_refl _) _⟩

theorem l2Text_any (s : ByteArray) (w : World) :
    Calls Tryd.prog 66 #[.string s] w fun e w' => e = .returned (vl 2 0 s) ∧ Below w.heap.size w w' := by
  go_enter Tryd.func66, Tryd.ntmps66
  go_wp2
  exact bodyPost_ret (v := vl 2 0 s) (by simp [results, Tryd.results66, go_sem]) rfl ⟨rfl, (Below.refl _ _).alloc (Nat.le_refl _) _⟩

/-- A drawn value's bounds. -/
def Fair (n : Int) (s : ByteArray) : Prop := -9223372036854775808 ≤ n ∧ n ≤ 9223372036854775807 ∧ s.size ≤ 201

set_option maxHeartbeats 1000000 in
theorem l2Draw_any (cb : Nat) (v : Value) (zs : List Int) (w : World) (h : Cur w cb v zs) :
    Calls Tryd.prog 41 #[.pointer (some ⟨cb, 0, none⟩)] w fun e w' => ∃ k n s, e = .returned (vl k n s) ∧ Fair n s ∧ Cur w' cb v zs ∧ w.grownBy w' (some cb) := by
  have hcb := h.lt
  have HV := Hid.mk fun hz => h.1.lt hz
  have H := Hid.mk (h.grow ((Below.refl _ _).alloc (Nat.le_refl _) (.cells #[.int .i64 0, .int .i64 0, .string noTxt] 25)))
  have HG0 := Hid.mk (World.grownBy_alloc w (.cells #[.int .i64 0, .int .i64 0, .string noTxt] 25) (some cb))
  clear h
  go_enter Tryd.func41, Tryd.ntmps41
  go_wp2_with fail
  refine (l1Below_any cb v zs 5 _ H.out).mono ?_
  rintro e w1 ⟨x, rfl, hx0, hx1, -, hC, hg⟩
  have hx5 := hx1 (by omega)
  obtain ⟨hc, hf⟩ := gcell hg w.heap.size (by simp) (by omega)
  have HC := Hid.mk hC
  have HG := Hid.mk (grownBy_trans HG0.out hg)
  have HW := Hid.mk hg
  have s1 := HG.out.size
  have s1' := hg.size
  simp at s1'
  clear hC hg hx1 H HG0
  by_cases h0 : x = 0
  · subst h0
    go_wp2
    refine bodyPost_ret (v := vl 0 0 noTxt) (by simp [results, Tryd.results41, go_sem, hc]) rfl ⟨0, 0, noTxt, rfl, ⟨by omega, by omega, by decide⟩, ?_⟩
    have hend := below_set3 w1 w.heap.size w.heap.size (Nat.le_refl _) (.int .i64 0) (.int .i64 0) (.string noTxt)
    exact ⟨HC.out.below hend hcb HV.out, grownBy_below HG.out hend (Nat.le_refl _)⟩
  by_cases h12 : x = 1 ∨ x = 2
  · have BL : Below w1.heap.size w1 (w1.alloc (.cells #[.int .i64 0, .int .i64 1, .int .i64 2, .int .i64 3, .int .i64 (-1), .int .i64 7, .int .i64 10, .int .i64 2147483647, .int .i64 (-2147483648)] 3)) := (Below.refl _ _).alloc (Nat.le_refl _) _
    have HN := Hid.mk (l1Int_any cb w1.heap.size 9 v zs [0, 1, 2, 3, -1, 7, 10, 2147483647, -2147483648] _
      (HC.out.grow BL) rfl (by omega) (by omega) (heap_alloc_new w1 _) (by have := HC.out.lt; omega))
    have HGL := Hid.mk (grownBy_trans HG.out (World.grownBy_alloc w1 (.cells #[.int .i64 0, .int .i64 1, .int .i64 2, .int .i64 3, .int .i64 (-1), .int .i64 7, .int .i64 10, .int .i64 2147483647, .int .i64 (-2147483648)] 3) (some cb)))
    clear HC HG BL
    rcases h12 with rfl | rfl
    all_goals
      go_wp2_with fail
      refine HN.out.mono ?_
      rintro e w2 ⟨y, rfl, -, hC, hg⟩
      obtain ⟨hc2, hf2⟩ := gcell (grownBy_trans (grownBy_trans HW.out (World.grownBy_alloc w1 _ _)) hg) w.heap.size (by simp) (by omega)
      have s2 := hg.size
      simp at s2
      have HC2 := Hid.mk hC
      have HG2 := Hid.mk (grownBy_trans HGL.out hg)
      clear hC hg HN HGL HW hc hf
      go_wp2_with fail
      refine (l2Int_any y w2).mono ?_
      rintro e w3 ⟨rfl, hb3⟩
      have hc3 := fun o => hb3.cell (p := ⟨w.heap.size, o, none⟩) (by simp; omega)
      have hf3 := fun o => hb3.frozen (p := ⟨w.heap.size, o, none⟩) (by simp; omega)
      have hne3 : w1.heap.size ≠ w.heap.size := by omega
      have HC3 := Hid.mk (HC2.out.grow hb3)
      have HG3 := Hid.mk (grownBy_below HG2.out hb3 (by omega))
      clear hb3 HC2 HG2
      go_wp2
      refine bodyPost_ret (v := vl 1 (Ma.wr y) noTxt) (by simp [results, Tryd.results41, go_sem, hc3, hc2]) rfl ⟨1, Ma.wr y, noTxt, rfl, ⟨by have := Ma.wr_lo y; omega, by have := Ma.wr_hi y; omega, by decide⟩, ?_⟩
      have hend := below_set3 w3 w.heap.size w.heap.size (Nat.le_refl _) (.int .i64 1) (.int .i64 (Ma.wr y)) (.string noTxt)
      exact ⟨HC3.out.below hend hcb HV.out, grownBy_below HG3.out hend (Nat.le_refl _)⟩
  · have h1 : x ≠ 1 := fun e => h12 (Or.inl e)
    have h2 : x ≠ 2 := fun e => h12 (Or.inr e)
    have BL : Below w1.heap.size w1 (w1.alloc (.cells #[.string ⟨#[]⟩, .string ⟨#[97]⟩, .string ⟨#[97, 98]⟩, .string ⟨#[49, 50]⟩, .string ⟨#[45, 51, 120]⟩, .string ⟨#[48]⟩, .string ⟨#[119, 111, 114, 100]⟩, .string ⟨#[45]⟩, .string ⟨#[57, 57, 57, 57, 57, 57, 57, 57, 57, 57, 57]⟩] 9)) := (Below.refl _ _).alloc (Nat.le_refl _) _
    have HN := Hid.mk (l1Str_any cb w1.heap.size 9 v zs [⟨#[]⟩, ⟨#[97]⟩, ⟨#[97, 98]⟩, ⟨#[49, 50]⟩, ⟨#[45, 51, 120]⟩, ⟨#[48]⟩, ⟨#[119, 111, 114, 100]⟩, ⟨#[45]⟩, ⟨#[57, 57, 57, 57, 57, 57, 57, 57, 57, 57, 57]⟩] _
      (HC.out.grow BL) rfl (by omega) (by omega) (heap_alloc_new w1 _) (by have := HC.out.lt; omega))
    have HGL := Hid.mk (grownBy_trans HG.out (World.grownBy_alloc w1 (.cells #[.string ⟨#[]⟩, .string ⟨#[97]⟩, .string ⟨#[97, 98]⟩, .string ⟨#[49, 50]⟩, .string ⟨#[45, 51, 120]⟩, .string ⟨#[48]⟩, .string ⟨#[119, 111, 114, 100]⟩, .string ⟨#[45]⟩, .string ⟨#[57, 57, 57, 57, 57, 57, 57, 57, 57, 57, 57]⟩] 9) (some cb)))
    clear HC HG BL h12
    go_wp2_with fail
    refine HN.out.mono ?_
    rintro e w2 ⟨y, rfl, hy, hC, hg⟩
    have hys : y.size ≤ 201 := by
      have : ∀ z ∈ ([⟨#[]⟩, ⟨#[97]⟩, ⟨#[97, 98]⟩, ⟨#[49, 50]⟩, ⟨#[45, 51, 120]⟩, ⟨#[48]⟩, ⟨#[119, 111, 114, 100]⟩, ⟨#[45]⟩, ⟨#[57, 57, 57, 57, 57, 57, 57, 57, 57, 57, 57]⟩] : List ByteArray), z.size ≤ 201 := by decide
      exact this y hy
    obtain ⟨hc2, hf2⟩ := gcell (grownBy_trans (grownBy_trans HW.out (World.grownBy_alloc w1 _ _)) hg) w.heap.size (by simp) (by omega)
    have s2 := hg.size
    simp at s2
    have HC2 := Hid.mk hC
    have HG2 := Hid.mk (grownBy_trans HGL.out hg)
    clear hC hg HN HGL hy HW hc hf
    go_wp2_with fail
    refine (l2Text_any y w2).mono ?_
    rintro e w3 ⟨rfl, hb3⟩
    have hc3 := fun o => hb3.cell (p := ⟨w.heap.size, o, none⟩) (by simp; omega)
    have hf3 := fun o => hb3.frozen (p := ⟨w.heap.size, o, none⟩) (by simp; omega)
    have hne3 : w1.heap.size ≠ w.heap.size := by omega
    have HC3 := Hid.mk (HC2.out.grow hb3)
    have HG3 := Hid.mk (grownBy_below HG2.out hb3 (by omega))
    clear hb3 HC2 HG2
    go_wp2
    refine bodyPost_ret (v := vl 2 0 y) (by simp [results, Tryd.results41, go_sem, hc3, hc2]) rfl ⟨2, 0, y, rfl, ⟨by omega, by omega, hys⟩, ?_⟩
    have hend := below_set3 w3 w.heap.size w.heap.size (Nat.le_refl _) (.int .i64 2) (.int .i64 0) (.string y)
    exact ⟨HC3.out.below hend hcb HV.out, grownBy_below HG3.out hend (Nat.le_refl _)⟩
end Go.Proofs.YtincoibidgkiaaaDoor
