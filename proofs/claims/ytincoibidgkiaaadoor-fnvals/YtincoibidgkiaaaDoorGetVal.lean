/- GetVal: what is read as a value. The program's and the document's model's. -/
import Derived.Test.YtincoibidgkiaaaDoorVal
import Derived.Test.YtincoibidgkiaaaDoorImplGetText
import Derived.Test.YtincoibidgkiaaaDoorSpecGetText
import Derived.Test.YtincoibidgkiaaaDoorImplGetS
import Derived.Test.YtincoibidgkiaaaDoorSpecGetS
namespace Go.Proofs.YtincoibidgkiaaaDoor
open Go.RowKit
set_option maxRecDepth 8000

theorem gU_bad {zs : List Int} {a n x : Int} (h : gU zs a = (n, x, false)) : n = 0 ∧ x = 0 := by
  unfold gU gUat at h
  split at h
  · split at h
    · simp at h; omega
    · split at h
      · simp at h; omega
      · simp at h
  · simp at h; omega

def gVk (k : Int) (zs : List Int) (x : Int) : Int × ByteArray × Int × Bool :=
  if k = 1 then ((gS zs x).1, noTxt, (gS zs x).2) else if k = 2 then (0, (gT zs x).1, (gT zs x).2) else (0, noTxt, x, true)

/-- What is read as a value: kind, number, text, the place behind, whether. -/
def gV (zs : List Int) (a : Int) : Int × Int × ByteArray × Int × Bool :=
  if (gU zs a).2.2 = true ∧ (gVk (gU zs a).1 zs (gU zs a).2.1).2.2.2 = true ∧ okB (gU zs a).1 (gVk (gU zs a).1 zs (gU zs a).2.1).1 (gVk (gU zs a).1 zs (gU zs a).2.1).2.1 = true
  then ((gU zs a).1, (gVk (gU zs a).1 zs (gU zs a).2.1).1, (gVk (gU zs a).1 zs (gU zs a).2.1).2.1, (gVk (gU zs a).1 zs (gU zs a).2.1).2.2.1, true)
  else (0, 0, noTxt, 0, false)

def tripV (r : Int × Int × ByteArray × Int × Bool) : Value := .tuple #[vl r.1 r.2.1 r.2.2.1, .int .i64 r.2.2.2.1, .bool r.2.2.2.2]

theorem gV_no {zs : List Int} {a k x : Int} (h : gU zs a = (k, x, false)) : gV zs a = (0, 0, noTxt, 0, false) := by
  unfold gV; rw [h]; rw [if_neg (by simp)]
theorem gV_part {zs : List Int} {a k x n y : Int} {s : ByteArray} (h : gU zs a = (k, x, true)) (h2 : gVk k zs x = (n, s, y, false)) : gV zs a = (0, 0, noTxt, 0, false) := by
  unfold gV; rw [h]; simp only [h2]; rw [if_neg (by simp)]
theorem gV_wrong {zs : List Int} {a k x n y : Int} {s : ByteArray} {ok : Bool} (h : gU zs a = (k, x, true)) (h2 : gVk k zs x = (n, s, y, ok)) (h3 : okB k n s = false) : gV zs a = (0, 0, noTxt, 0, false) := by
  unfold gV; rw [h]; simp only [h2]; rw [if_neg (by simp [h3])]
theorem gV_yes {zs : List Int} {a k x n y : Int} {s : ByteArray} (h : gU zs a = (k, x, true)) (h2 : gVk k zs x = (n, s, y, true)) (h3 : okB k n s = true) : gV zs a = (k, n, s, y, true) := by
  unfold gV; rw [h]; simp only [h2]; rw [if_pos (by simp [h3])]

set_option maxHeartbeats 1000000 in
theorem implGetVal_any (v : Value) (zs : List Int) (a : Int) (w : World) (h : Bs w v zs) (hlen : zs.length ≤ 4194304) :
    Calls Tryd.prog 13 #[v, .int .i64 a] w fun e w' => e = .returned (tripV (gV zs a)) ∧ Below w.heap.size w w' := by
  obtain ⟨k, x, ok, Hr⟩ : ∃ n x ok, Hid (gU zs a = (n, x, ok)) := ⟨_, _, _, rfl⟩
  have B0 : Below w.heap.size w (boxed w 0 0 noTxt 25) := (Below.refl _ _).alloc (Nat.le_refl _) _
  have B2 : ∀ o, Below w.heap.size w ((boxed w 0 0 noTxt 25).alloc o) := fun o => B0.alloc (by simp) o
  have H1 := Hid.mk (h.grow B0)
  have H2 := Hid.mk (fun o => h.grow (B2 o))
  have HG : Hid (Calls Tryd.prog 36 #[v, .int .i64 a] (boxed w 0 0 noTxt 25) fun e w' => e = .returned (.tuple #[.int .i64 k, .int .i64 x, .bool ok]) ∧ w' = (boxed w 0 0 noTxt 25)) := by
    have := implGetU_any v zs a _ H1.out (by omega)
    rw [Hr.out] at this
    exact this
  clear h
  cases ok with
  | false =>
    have HV := Hid.mk (gV_no Hr.out)
    obtain ⟨rfl, rfl⟩ := gU_bad Hr.out
    go_enter Tryd.func13, Tryd.ntmps13
    go_wp2_with fail
    refine HG.out.mono ?_
    rintro e w1 ⟨rfl, hw⟩
    subst hw
    clear HG
    go_wp2
    exact bodyPost_ret (v := .tuple #[vl 0 0 noTxt, .int .i64 0, .bool false]) (by simp [results, Tryd.results13, go_sem]) rfl ⟨by rw [HV.out]; rfl, B2 _⟩
  | true =>
    by_cases h1 : k = 1
    · subst h1
      obtain ⟨n, y, ok2, Hs⟩ : ∃ n y ok, Hid (gS zs x = (n, y, ok)) := ⟨_, _, _, rfl⟩
      have HK : Hid (gVk 1 zs x = (n, noTxt, y, ok2)) := by show _ = _; unfold gVk; rw [if_pos rfl, Hs.out]
      have HGS : Hid (Calls Tryd.prog 37 #[v, .int .i64 x] ((boxed w 0 0 noTxt 25).alloc (.cells #[.int .i64 1, .int .i64 0, .string noTxt] 25)) fun e w' => e = .returned (.tuple #[.int .i64 n, .int .i64 y, .bool ok2]) ∧ Below ((boxed w 0 0 noTxt 25).alloc (.cells #[.int .i64 1, .int .i64 0, .string noTxt] 25)).heap.size ((boxed w 0 0 noTxt 25).alloc (.cells #[.int .i64 1, .int .i64 0, .string noTxt] 25)) w') := by
        have := implGetS_any v zs x _ (H2.out (.cells #[.int .i64 1, .int .i64 0, .string noTxt] 25)) (by omega)
        rw [Hs.out] at this
        first | exact this | exact this.mono (by rintro e w' ⟨rfl, rfl⟩; exact ⟨rfl, Below.refl _ _⟩)
      cases ok2 with
      | false =>
        have HV := Hid.mk (gV_part Hr.out HK.out)
        go_enter Tryd.func13, Tryd.ntmps13
        go_wp2_with fail
        refine HG.out.mono ?_
        rintro e w1 ⟨rfl, hw⟩
        subst hw
        clear HG
        go_wp2_with fail
        refine HGS.out.mono ?_
        rintro e w1 ⟨rfl, hb1⟩
        have s1 : w.heap.size + 2 ≤ w1.heap.size := by have := hb1.size; simp at this; omega
        have hcA := fun o => hb1.cell (p := ⟨w.heap.size, o, none⟩) (by simp; omega)
        have hcB := fun o => hb1.cell (p := ⟨w.heap.size + 1, o, none⟩) (by simp)
        have hfA := fun o => hb1.frozen (p := ⟨w.heap.size, o, none⟩) (by simp; omega)
        have hfB := fun o => hb1.frozen (p := ⟨w.heap.size + 1, o, none⟩) (by simp)
        have B1 := (B2 _).trans (hb1.mono (by simp; omega))
        clear hb1 HGS B2
        go_wp2
        refine bodyPost_ret (v := .tuple #[vl 0 0 noTxt, .int .i64 0, .bool false]) (by simp [results, Tryd.results13, go_sem, hcA]) rfl ⟨by rw [HV.out]; rfl, ?_⟩
        exact (((B1.setCell (by simp) _).setCell (by simp) _).setCell (by simp) _).setCell (by simp) _
      | true =>
        go_enter Tryd.func13, Tryd.ntmps13
        go_wp2_with fail
        refine HG.out.mono ?_
        rintro e w1 ⟨rfl, hw⟩
        subst hw
        clear HG
        go_wp2_with fail
        refine HGS.out.mono ?_
        rintro e w1 ⟨rfl, hb1⟩
        have s1 : w.heap.size + 2 ≤ w1.heap.size := by have := hb1.size; simp at this; omega
        have hcA := fun o => hb1.cell (p := ⟨w.heap.size, o, none⟩) (by simp; omega)
        have hcB := fun o => hb1.cell (p := ⟨w.heap.size + 1, o, none⟩) (by simp)
        have hfA := fun o => hb1.frozen (p := ⟨w.heap.size, o, none⟩) (by simp; omega)
        have hfB := fun o => hb1.frozen (p := ⟨w.heap.size + 1, o, none⟩) (by simp)
        have B1 := (B2 _).trans (hb1.mono (by simp; omega))
        clear hb1 HGS B2
        go_wp2_with fail
        refine (implValOk_any 1 n noTxt _).mono ?_
        rintro e w4 ⟨rfl, hb4⟩
        have hcA4 := fun o => hb4.cell (p := ⟨w.heap.size, o, none⟩) (by simp; omega)
        have hcB4 := fun o => hb4.cell (p := ⟨w.heap.size + 1, o, none⟩) (by simp; omega)
        have hfA4 := fun o => hb4.frozen (p := ⟨w.heap.size, o, none⟩) (by simp; omega)
        have B4 := (B1.setCell (p := ⟨w.heap.size + 1, 1, none⟩) (by simp) (.int .i64 n)).trans (hb4.mono (by simp; omega))
        clear hb4 B1
        cases hok : okB 1 n noTxt with
        | false =>
          have HV := Hid.mk (gV_wrong Hr.out HK.out hok)
          clear hok
          go_wp2
          refine bodyPost_ret (v := .tuple #[vl 0 0 noTxt, .int .i64 0, .bool false]) (by simp [results, Tryd.results13, go_sem, hcA4, hcA]) rfl ⟨by rw [HV.out]; rfl, ?_⟩
          exact ((B4.setCell (by simp) _).setCell (by simp) _).setCell (by simp) _
        | true =>
          have HV := Hid.mk (gV_yes Hr.out HK.out hok)
          clear hok
          go_wp2
          refine bodyPost_ret (v := .tuple #[vl 1 n noTxt, .int .i64 y, .bool true]) (by simp [results, Tryd.results13, go_sem, hcA4, hcA]) rfl ⟨by rw [HV.out]; rfl, ?_⟩
          exact ((B4.setCell (by simp) _).setCell (by simp) _).setCell (by simp) _
    by_cases h2 : k = 2
    · subst h2
      obtain ⟨s, y, ok2, Hs⟩ : ∃ n y ok, Hid (gT zs x = (n, y, ok)) := ⟨_, _, _, rfl⟩
      have HK : Hid (gVk 2 zs x = (0, s, y, ok2)) := by show _ = _; unfold gVk; rw [if_neg (by omega), if_pos rfl, Hs.out]
      have HGS : Hid (Calls Tryd.prog 38 #[v, .int .i64 x] ((boxed w 0 0 noTxt 25).alloc (.cells #[.int .i64 2, .int .i64 0, .string noTxt] 25)) fun e w' => e = .returned (.tuple #[.string s, .int .i64 y, .bool ok2]) ∧ Below ((boxed w 0 0 noTxt 25).alloc (.cells #[.int .i64 2, .int .i64 0, .string noTxt] 25)).heap.size ((boxed w 0 0 noTxt 25).alloc (.cells #[.int .i64 2, .int .i64 0, .string noTxt] 25)) w') := by
        have := implGetText_any v zs x _ (H2.out (.cells #[.int .i64 2, .int .i64 0, .string noTxt] 25)) (by omega)
        rw [Hs.out] at this
        first | exact this | exact this.mono (by rintro e w' ⟨rfl, rfl⟩; exact ⟨rfl, Below.refl _ _⟩)
      cases ok2 with
      | false =>
        have HV := Hid.mk (gV_part Hr.out HK.out)
        go_enter Tryd.func13, Tryd.ntmps13
        go_wp2_with fail
        refine HG.out.mono ?_
        rintro e w1 ⟨rfl, hw⟩
        subst hw
        clear HG
        go_wp2_with fail
        refine HGS.out.mono ?_
        rintro e w1 ⟨rfl, hb1⟩
        have s1 : w.heap.size + 2 ≤ w1.heap.size := by have := hb1.size; simp at this; omega
        have hcA := fun o => hb1.cell (p := ⟨w.heap.size, o, none⟩) (by simp; omega)
        have hcB := fun o => hb1.cell (p := ⟨w.heap.size + 1, o, none⟩) (by simp)
        have hfA := fun o => hb1.frozen (p := ⟨w.heap.size, o, none⟩) (by simp; omega)
        have hfB := fun o => hb1.frozen (p := ⟨w.heap.size + 1, o, none⟩) (by simp)
        have B1 := (B2 _).trans (hb1.mono (by simp; omega))
        clear hb1 HGS B2
        go_wp2
        refine bodyPost_ret (v := .tuple #[vl 0 0 noTxt, .int .i64 0, .bool false]) (by simp [results, Tryd.results13, go_sem, hcA]) rfl ⟨by rw [HV.out]; rfl, ?_⟩
        exact (((B1.setCell (by simp) _).setCell (by simp) _).setCell (by simp) _).setCell (by simp) _
      | true =>
        go_enter Tryd.func13, Tryd.ntmps13
        go_wp2_with fail
        refine HG.out.mono ?_
        rintro e w1 ⟨rfl, hw⟩
        subst hw
        clear HG
        go_wp2_with fail
        refine HGS.out.mono ?_
        rintro e w1 ⟨rfl, hb1⟩
        have s1 : w.heap.size + 2 ≤ w1.heap.size := by have := hb1.size; simp at this; omega
        have hcA := fun o => hb1.cell (p := ⟨w.heap.size, o, none⟩) (by simp; omega)
        have hcB := fun o => hb1.cell (p := ⟨w.heap.size + 1, o, none⟩) (by simp)
        have hfA := fun o => hb1.frozen (p := ⟨w.heap.size, o, none⟩) (by simp; omega)
        have hfB := fun o => hb1.frozen (p := ⟨w.heap.size + 1, o, none⟩) (by simp)
        have B1 := (B2 _).trans (hb1.mono (by simp; omega))
        clear hb1 HGS B2
        go_wp2_with fail
        refine (implValOk_any 2 0 s _).mono ?_
        rintro e w4 ⟨rfl, hb4⟩
        have hcA4 := fun o => hb4.cell (p := ⟨w.heap.size, o, none⟩) (by simp; omega)
        have hcB4 := fun o => hb4.cell (p := ⟨w.heap.size + 1, o, none⟩) (by simp; omega)
        have hfA4 := fun o => hb4.frozen (p := ⟨w.heap.size, o, none⟩) (by simp; omega)
        have B4 := (B1.setCell (p := ⟨w.heap.size + 1, 2, none⟩) (by simp) (.string s)).trans (hb4.mono (by simp; omega))
        clear hb4 B1
        cases hok : okB 2 0 s with
        | false =>
          have HV := Hid.mk (gV_wrong Hr.out HK.out hok)
          clear hok
          go_wp2
          refine bodyPost_ret (v := .tuple #[vl 0 0 noTxt, .int .i64 0, .bool false]) (by simp [results, Tryd.results13, go_sem, hcA4, hcA]) rfl ⟨by rw [HV.out]; rfl, ?_⟩
          exact ((B4.setCell (by simp) _).setCell (by simp) _).setCell (by simp) _
        | true =>
          have HV := Hid.mk (gV_yes Hr.out HK.out hok)
          clear hok
          go_wp2
          refine bodyPost_ret (v := .tuple #[vl 2 0 s, .int .i64 y, .bool true]) (by simp [results, Tryd.results13, go_sem, hcA4, hcA]) rfl ⟨by rw [HV.out]; rfl, ?_⟩
          exact ((B4.setCell (by simp) _).setCell (by simp) _).setCell (by simp) _
    · have HK : Hid (gVk k zs x = (0, noTxt, x, true)) := by show _ = _; unfold gVk; rw [if_neg h1, if_neg h2]
      go_enter Tryd.func13, Tryd.ntmps13
      go_wp2_with fail
      refine HG.out.mono ?_
      rintro e w1 ⟨rfl, hw⟩
      subst hw
      clear HG
      go_wp2_with fail
      refine (implValOk_any k 0 noTxt _).mono ?_
      rintro e w4 ⟨rfl, hb4⟩
      have hcA4 := fun o => hb4.cell (p := ⟨w.heap.size, o, none⟩) (by simp; omega)
      have hcB4 := fun o => hb4.cell (p := ⟨w.heap.size + 1, o, none⟩) (by simp)
      have hfA4 := fun o => hb4.frozen (p := ⟨w.heap.size, o, none⟩) (by simp; omega)
      have B4 := (B2 _).trans (hb4.mono (by simp; omega))
      clear hb4 B2
      cases hok : okB k 0 noTxt with
      | false =>
        have HV := Hid.mk (gV_wrong Hr.out HK.out hok)
        clear hok
        go_wp2
        refine bodyPost_ret (v := .tuple #[vl 0 0 noTxt, .int .i64 0, .bool false]) (by simp [results, Tryd.results13, go_sem, hcA4]) rfl ⟨by rw [HV.out]; rfl, ?_⟩
        exact ((B4.setCell (by simp) _).setCell (by simp) _).setCell (by simp) _
      | true =>
        have HV := Hid.mk (gV_yes Hr.out HK.out hok)
        clear hok
        go_wp2
        refine bodyPost_ret (v := .tuple #[vl k 0 noTxt, .int .i64 x, .bool true]) (by simp [results, Tryd.results13, go_sem, hcA4]) rfl ⟨by rw [HV.out]; rfl, ?_⟩
        exact ((B4.setCell (by simp) _).setCell (by simp) _).setCell (by simp) _
set_option maxHeartbeats 1000000 in
theorem specGetVal_any (v : Value) (zs : List Int) (a : Int) (w : World) (h : Bs w v zs) (hlen : zs.length ≤ 4194304) :
    Calls Tryd.prog 16 #[v, .int .i64 a] w fun e w' => e = .returned (tripV (gV zs a)) ∧ Below w.heap.size w w' := by
  obtain ⟨k, x, ok, Hr⟩ : ∃ n x ok, Hid (gU zs a = (n, x, ok)) := ⟨_, _, _, rfl⟩
  have B0 : Below w.heap.size w (boxed w 0 0 noTxt 25) := (Below.refl _ _).alloc (Nat.le_refl _) _
  have B2 : ∀ o, Below w.heap.size w ((boxed w 0 0 noTxt 25).alloc o) := fun o => B0.alloc (by simp) o
  have H1 := Hid.mk (h.grow B0)
  have H2 := Hid.mk (fun o => h.grow (B2 o))
  have HG : Hid (Calls Tryd.prog 45 #[v, .int .i64 a] (boxed w 0 0 noTxt 25) fun e w' => e = .returned (.tuple #[.int .i64 k, .int .i64 x, .bool ok]) ∧ w' = (boxed w 0 0 noTxt 25)) := by
    have := specGetU_any v zs a _ H1.out (by omega)
    rw [Hr.out] at this
    exact this
  clear h
  cases ok with
  | false =>
    have HV := Hid.mk (gV_no Hr.out)
    obtain ⟨rfl, rfl⟩ := gU_bad Hr.out
    go_enter Tryd.func16, Tryd.ntmps16
    go_wp2_with fail
    refine HG.out.mono ?_
    rintro e w1 ⟨rfl, hw⟩
    subst hw
    clear HG
    go_wp2
    exact bodyPost_ret (v := .tuple #[vl 0 0 noTxt, .int .i64 0, .bool false]) (by simp [results, Tryd.results16, go_sem]) rfl ⟨by rw [HV.out]; rfl, B2 _⟩
  | true =>
    by_cases h1 : k = 1
    · subst h1
      obtain ⟨n, y, ok2, Hs⟩ : ∃ n y ok, Hid (gS zs x = (n, y, ok)) := ⟨_, _, _, rfl⟩
      have HK : Hid (gVk 1 zs x = (n, noTxt, y, ok2)) := by show _ = _; unfold gVk; rw [if_pos rfl, Hs.out]
      have HGS : Hid (Calls Tryd.prog 46 #[v, .int .i64 x] ((boxed w 0 0 noTxt 25).alloc (.cells #[.int .i64 1, .int .i64 0, .string noTxt] 25)) fun e w' => e = .returned (.tuple #[.int .i64 n, .int .i64 y, .bool ok2]) ∧ Below ((boxed w 0 0 noTxt 25).alloc (.cells #[.int .i64 1, .int .i64 0, .string noTxt] 25)).heap.size ((boxed w 0 0 noTxt 25).alloc (.cells #[.int .i64 1, .int .i64 0, .string noTxt] 25)) w') := by
        have := specGetS_any v zs x _ (H2.out (.cells #[.int .i64 1, .int .i64 0, .string noTxt] 25)) (by omega)
        rw [Hs.out] at this
        first | exact this | exact this.mono (by rintro e w' ⟨rfl, rfl⟩; exact ⟨rfl, Below.refl _ _⟩)
      cases ok2 with
      | false =>
        have HV := Hid.mk (gV_part Hr.out HK.out)
        go_enter Tryd.func16, Tryd.ntmps16
        go_wp2_with fail
        refine HG.out.mono ?_
        rintro e w1 ⟨rfl, hw⟩
        subst hw
        clear HG
        go_wp2_with fail
        refine HGS.out.mono ?_
        rintro e w1 ⟨rfl, hb1⟩
        have s1 : w.heap.size + 2 ≤ w1.heap.size := by have := hb1.size; simp at this; omega
        have hcA := fun o => hb1.cell (p := ⟨w.heap.size, o, none⟩) (by simp; omega)
        have hcB := fun o => hb1.cell (p := ⟨w.heap.size + 1, o, none⟩) (by simp)
        have hfA := fun o => hb1.frozen (p := ⟨w.heap.size, o, none⟩) (by simp; omega)
        have hfB := fun o => hb1.frozen (p := ⟨w.heap.size + 1, o, none⟩) (by simp)
        have B1 := (B2 _).trans (hb1.mono (by simp; omega))
        clear hb1 HGS B2
        go_wp2
        refine bodyPost_ret (v := .tuple #[vl 0 0 noTxt, .int .i64 0, .bool false]) (by simp [results, Tryd.results16, go_sem, hcA]) rfl ⟨by rw [HV.out]; rfl, ?_⟩
        exact (((B1.setCell (by simp) _).setCell (by simp) _).setCell (by simp) _).setCell (by simp) _
      | true =>
        go_enter Tryd.func16, Tryd.ntmps16
        go_wp2_with fail
        refine HG.out.mono ?_
        rintro e w1 ⟨rfl, hw⟩
        subst hw
        clear HG
        go_wp2_with fail
        refine HGS.out.mono ?_
        rintro e w1 ⟨rfl, hb1⟩
        have s1 : w.heap.size + 2 ≤ w1.heap.size := by have := hb1.size; simp at this; omega
        have hcA := fun o => hb1.cell (p := ⟨w.heap.size, o, none⟩) (by simp; omega)
        have hcB := fun o => hb1.cell (p := ⟨w.heap.size + 1, o, none⟩) (by simp)
        have hfA := fun o => hb1.frozen (p := ⟨w.heap.size, o, none⟩) (by simp; omega)
        have hfB := fun o => hb1.frozen (p := ⟨w.heap.size + 1, o, none⟩) (by simp)
        have B1 := (B2 _).trans (hb1.mono (by simp; omega))
        clear hb1 HGS B2
        go_wp2_with fail
        refine (specValOk_any 1 n noTxt _).mono ?_
        rintro e w4 ⟨rfl, hb4⟩
        have hcA4 := fun o => hb4.cell (p := ⟨w.heap.size, o, none⟩) (by simp; omega)
        have hcB4 := fun o => hb4.cell (p := ⟨w.heap.size + 1, o, none⟩) (by simp; omega)
        have hfA4 := fun o => hb4.frozen (p := ⟨w.heap.size, o, none⟩) (by simp; omega)
        have B4 := (B1.setCell (p := ⟨w.heap.size + 1, 1, none⟩) (by simp) (.int .i64 n)).trans (hb4.mono (by simp; omega))
        clear hb4 B1
        cases hok : okB 1 n noTxt with
        | false =>
          have HV := Hid.mk (gV_wrong Hr.out HK.out hok)
          clear hok
          go_wp2
          refine bodyPost_ret (v := .tuple #[vl 0 0 noTxt, .int .i64 0, .bool false]) (by simp [results, Tryd.results16, go_sem, hcA4, hcA]) rfl ⟨by rw [HV.out]; rfl, ?_⟩
          exact ((B4.setCell (by simp) _).setCell (by simp) _).setCell (by simp) _
        | true =>
          have HV := Hid.mk (gV_yes Hr.out HK.out hok)
          clear hok
          go_wp2
          refine bodyPost_ret (v := .tuple #[vl 1 n noTxt, .int .i64 y, .bool true]) (by simp [results, Tryd.results16, go_sem, hcA4, hcA]) rfl ⟨by rw [HV.out]; rfl, ?_⟩
          exact ((B4.setCell (by simp) _).setCell (by simp) _).setCell (by simp) _
    by_cases h2 : k = 2
    · subst h2
      obtain ⟨s, y, ok2, Hs⟩ : ∃ n y ok, Hid (gT zs x = (n, y, ok)) := ⟨_, _, _, rfl⟩
      have HK : Hid (gVk 2 zs x = (0, s, y, ok2)) := by show _ = _; unfold gVk; rw [if_neg (by omega), if_pos rfl, Hs.out]
      have HGS : Hid (Calls Tryd.prog 47 #[v, .int .i64 x] ((boxed w 0 0 noTxt 25).alloc (.cells #[.int .i64 2, .int .i64 0, .string noTxt] 25)) fun e w' => e = .returned (.tuple #[.string s, .int .i64 y, .bool ok2]) ∧ Below ((boxed w 0 0 noTxt 25).alloc (.cells #[.int .i64 2, .int .i64 0, .string noTxt] 25)).heap.size ((boxed w 0 0 noTxt 25).alloc (.cells #[.int .i64 2, .int .i64 0, .string noTxt] 25)) w') := by
        have := specGetText_any v zs x _ (H2.out (.cells #[.int .i64 2, .int .i64 0, .string noTxt] 25)) (by omega)
        rw [Hs.out] at this
        first | exact this | exact this.mono (by rintro e w' ⟨rfl, rfl⟩; exact ⟨rfl, Below.refl _ _⟩)
      cases ok2 with
      | false =>
        have HV := Hid.mk (gV_part Hr.out HK.out)
        go_enter Tryd.func16, Tryd.ntmps16
        go_wp2_with fail
        refine HG.out.mono ?_
        rintro e w1 ⟨rfl, hw⟩
        subst hw
        clear HG
        go_wp2_with fail
        refine HGS.out.mono ?_
        rintro e w1 ⟨rfl, hb1⟩
        have s1 : w.heap.size + 2 ≤ w1.heap.size := by have := hb1.size; simp at this; omega
        have hcA := fun o => hb1.cell (p := ⟨w.heap.size, o, none⟩) (by simp; omega)
        have hcB := fun o => hb1.cell (p := ⟨w.heap.size + 1, o, none⟩) (by simp)
        have hfA := fun o => hb1.frozen (p := ⟨w.heap.size, o, none⟩) (by simp; omega)
        have hfB := fun o => hb1.frozen (p := ⟨w.heap.size + 1, o, none⟩) (by simp)
        have B1 := (B2 _).trans (hb1.mono (by simp; omega))
        clear hb1 HGS B2
        go_wp2
        refine bodyPost_ret (v := .tuple #[vl 0 0 noTxt, .int .i64 0, .bool false]) (by simp [results, Tryd.results16, go_sem, hcA]) rfl ⟨by rw [HV.out]; rfl, ?_⟩
        exact (((B1.setCell (by simp) _).setCell (by simp) _).setCell (by simp) _).setCell (by simp) _
      | true =>
        go_enter Tryd.func16, Tryd.ntmps16
        go_wp2_with fail
        refine HG.out.mono ?_
        rintro e w1 ⟨rfl, hw⟩
        subst hw
        clear HG
        go_wp2_with fail
        refine HGS.out.mono ?_
        rintro e w1 ⟨rfl, hb1⟩
        have s1 : w.heap.size + 2 ≤ w1.heap.size := by have := hb1.size; simp at this; omega
        have hcA := fun o => hb1.cell (p := ⟨w.heap.size, o, none⟩) (by simp; omega)
        have hcB := fun o => hb1.cell (p := ⟨w.heap.size + 1, o, none⟩) (by simp)
        have hfA := fun o => hb1.frozen (p := ⟨w.heap.size, o, none⟩) (by simp; omega)
        have hfB := fun o => hb1.frozen (p := ⟨w.heap.size + 1, o, none⟩) (by simp)
        have B1 := (B2 _).trans (hb1.mono (by simp; omega))
        clear hb1 HGS B2
        go_wp2_with fail
        refine (specValOk_any 2 0 s _).mono ?_
        rintro e w4 ⟨rfl, hb4⟩
        have hcA4 := fun o => hb4.cell (p := ⟨w.heap.size, o, none⟩) (by simp; omega)
        have hcB4 := fun o => hb4.cell (p := ⟨w.heap.size + 1, o, none⟩) (by simp; omega)
        have hfA4 := fun o => hb4.frozen (p := ⟨w.heap.size, o, none⟩) (by simp; omega)
        have B4 := (B1.setCell (p := ⟨w.heap.size + 1, 2, none⟩) (by simp) (.string s)).trans (hb4.mono (by simp; omega))
        clear hb4 B1
        cases hok : okB 2 0 s with
        | false =>
          have HV := Hid.mk (gV_wrong Hr.out HK.out hok)
          clear hok
          go_wp2
          refine bodyPost_ret (v := .tuple #[vl 0 0 noTxt, .int .i64 0, .bool false]) (by simp [results, Tryd.results16, go_sem, hcA4, hcA]) rfl ⟨by rw [HV.out]; rfl, ?_⟩
          exact ((B4.setCell (by simp) _).setCell (by simp) _).setCell (by simp) _
        | true =>
          have HV := Hid.mk (gV_yes Hr.out HK.out hok)
          clear hok
          go_wp2
          refine bodyPost_ret (v := .tuple #[vl 2 0 s, .int .i64 y, .bool true]) (by simp [results, Tryd.results16, go_sem, hcA4, hcA]) rfl ⟨by rw [HV.out]; rfl, ?_⟩
          exact ((B4.setCell (by simp) _).setCell (by simp) _).setCell (by simp) _
    · have HK : Hid (gVk k zs x = (0, noTxt, x, true)) := by show _ = _; unfold gVk; rw [if_neg h1, if_neg h2]
      go_enter Tryd.func16, Tryd.ntmps16
      go_wp2_with fail
      refine HG.out.mono ?_
      rintro e w1 ⟨rfl, hw⟩
      subst hw
      clear HG
      go_wp2_with fail
      refine (specValOk_any k 0 noTxt _).mono ?_
      rintro e w4 ⟨rfl, hb4⟩
      have hcA4 := fun o => hb4.cell (p := ⟨w.heap.size, o, none⟩) (by simp; omega)
      have hcB4 := fun o => hb4.cell (p := ⟨w.heap.size + 1, o, none⟩) (by simp)
      have hfA4 := fun o => hb4.frozen (p := ⟨w.heap.size, o, none⟩) (by simp; omega)
      have B4 := (B2 _).trans (hb4.mono (by simp; omega))
      clear hb4 B2
      cases hok : okB k 0 noTxt with
      | false =>
        have HV := Hid.mk (gV_wrong Hr.out HK.out hok)
        clear hok
        go_wp2
        refine bodyPost_ret (v := .tuple #[vl 0 0 noTxt, .int .i64 0, .bool false]) (by simp [results, Tryd.results16, go_sem, hcA4]) rfl ⟨by rw [HV.out]; rfl, ?_⟩
        exact ((B4.setCell (by simp) _).setCell (by simp) _).setCell (by simp) _
      | true =>
        have HV := Hid.mk (gV_yes Hr.out HK.out hok)
        clear hok
        go_wp2
        refine bodyPost_ret (v := .tuple #[vl k 0 noTxt, .int .i64 x, .bool true]) (by simp [results, Tryd.results16, go_sem, hcA4]) rfl ⟨by rw [HV.out]; rfl, ?_⟩
        exact ((B4.setCell (by simp) _).setCell (by simp) _).setCell (by simp) _
end Go.Proofs.YtincoibidgkiaaaDoor
