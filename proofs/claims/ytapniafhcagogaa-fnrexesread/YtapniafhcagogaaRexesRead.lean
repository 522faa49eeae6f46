/- The law FnRexesRead walked. -/
import Derived.Test.YtapniafhcagogaaDrawRexT
import Derived.Test.YtapniafhcagogaaRexParS
namespace Go.Proofs.Ytapniafhcagogaa
open Go.RowKit
set_option maxRecDepth 8000

set_option maxHeartbeats 1000000 in
theorem fnRexesRead_walk (v : Value) (zs : List Int) (w : World) (h : Bs w v zs) :
    Calls Try.prog 4 #[v] w fun e w' => e = .returned (.bool true) ∧ Below w.heap.size w w' := by
  have H := Hid.mk h
  clear h
  have HB := Hid.mk (big_any v zs w H.out)
  by_cases hlen : zs.length ≤ 1048576
  · have hd : decide ((1048576 : Int) < zs.length) = false := by simp; omega
    rw [hd] at HB
    clear hd
    go_enter Try.func4, Try.ntmps4
    go_wp2_with fail
    refine HB.out.mono ?_
    rintro e w1 ⟨rfl, hw⟩
    obtain rfl := hw.symm
    clear hw HB
    go_wp2_with fail
    refine (drawParseRex_any v zs w H.out hlen).mono ?_
    rintro e w1 ⟨s, rfl, hsz, hb1⟩
    have B1 := Hid.mk hb1
    clear hb1
    by_cases hex : ∃ t, IsTx s t
    · obtain ⟨t, ht⟩ := hex
      have HI := Hid.mk (fun w' => implParse_yes s t w' ht)
      have HS := Hid.mk (fun w' => specParse_yes s t w' ht)
      have HO := Hid.mk (fun (w' : World) (B : Nat → Prop) (u : Value) (h : Rl w' B t.l u) (hs : t.s.size ≤ maxLen) => implRexOk_any t B u w' h hs)
      have HT := Hid.mk (fun (w' : World) (B : Nat → Prop) (u : Value) (h : Rl w' B t.l u) (hs : t.s.size ≤ maxLen) => implRexText_any t B u w' h hs)
      rw [ht.1] at HO
      rw [ht.text] at HT
      obtain ⟨tk, htk⟩ : ∃ tk, t.k = tk := ⟨_, rfl⟩
      obtain ⟨ts, hts⟩ : ∃ ts, t.s = ts := ⟨_, rfl⟩
      obtain ⟨l, hl⟩ : ∃ l, t.l = l := ⟨_, rfl⟩
      rw [htk, hts, hl] at HI HS HO HT
      clear ht htk hts hl
      go_wp2_with fail
      refine (HI.out w1).mono ?_
      rintro e w2 ⟨u, rfl, how, hz, hb2⟩
      obtain ⟨au, cu, rfl⟩ := how.value
      have X2 := Hid.mk (Bx3.new w2 (.int .i64 tk) (.string ts) (.slice au l.length cu))
      have A0 : Below w2.heap.size w2 (w2.alloc (.cells #[.int .i64 tk, .string ts, .slice au l.length cu] 26)) := (Below.refl _ _).alloc (Nat.le_refl _) _
      have R2 := Hid.mk (how.rl.any.grow A0)
      have B2 := Hid.mk (B1.out.trans ((hb2.trans (A0.mono hb2.size)).mono B1.out.size))
      have HZ := Hid.mk hz
      clear how hb2 A0 B1 hz
      go_wp2_with fail
      generalize w2.alloc (.cells #[.int .i64 tk, .string ts, .slice au l.length cu] 26) = W2 at X2 R2 B2 ⊢
      generalize w2.heap.size = p0 at X2 ⊢
      clear w2
      refine (HS.out W2).mono ?_
      rintro e w3 ⟨u3, rfl, how3, -, hb3⟩
      obtain ⟨a3, c3, rfl⟩ := how3.value
      have A0 : Below w3.heap.size w3 (w3.alloc (.cells #[.int .i64 tk, .string ts, .slice a3 l.length c3] 26)) := (Below.refl _ _).alloc (Nat.le_refl _) _
      have A3 := hb3.trans (A0.mono hb3.size)
      have X3 := Hid.mk (X2.out.kept (A3.block _ X2.out.lt))
      have R3 := Hid.mk (R2.out.grow A3)
      have B3 := Hid.mk (B2.out.trans (A3.mono B2.out.size))
      have x0 := (X2.out.kept (hb3.block _ X2.out.lt)).c0
      have x1 := (X2.out.kept (hb3.block _ X2.out.lt)).c1
      have x2 := (X2.out.kept (hb3.block _ X2.out.lt)).c2
      have q3 : p0 < w3.heap.size := (X2.out.kept (hb3.block _ X2.out.lt)).lt
      have hss : (s.toList == s.toList) = true := by simp
      clear how3 hb3 A0 A3 X2 R2 B2
      go_wp2_with fail
      refine (HO.out _ _ _ R3.out HZ.out).mono ?_
      rintro e w4 ⟨rfl, hb4⟩
      have X4 := Hid.mk (X3.out.kept (hb4.block _ X3.out.lt))
      have R4 := Hid.mk (R3.out.grow hb4)
      have B4 := Hid.mk (B3.out.trans (hb4.mono B3.out.size))
      have y0 := X4.out.c0
      have y1 := X4.out.c1
      have y2 := X4.out.c2
      clear x0 x1 x2 q3 hb4 X3 R3 B3
      go_wp2_with fail
      refine (HT.out _ _ _ R4.out HZ.out).mono ?_
      rintro e w5 ⟨rfl, hb5⟩
      have B5 := B4.out.trans (hb5.mono B4.out.size)
      clear hb5 B4 y0 y1 y2 X4 R4
      go_wp2
      go_ret
      exact ⟨rfl, B5⟩
    · have hno : ∀ t, ¬ IsTx s t := fun t ht => hex ⟨t, ht⟩
      have HI := Hid.mk (fun w' => implParse_no s w' (by omega) hno)
      have HS := Hid.mk (fun w' => specParse_no s w' (by omega) hno)
      clear hno hex
      go_wp2_with fail
      refine (HI.out w1).mono ?_
      rintro e w2 ⟨rfl, hb2⟩
      have X2 := Hid.mk (Bx3.new w2 (.int .i64 0) (.string ⟨#[]⟩) (.slice none 0 0))
      have A0 : Below w2.heap.size w2 (w2.alloc (.cells #[.int .i64 0, .string ⟨#[]⟩, .slice none 0 0] 26)) := (Below.refl _ _).alloc (Nat.le_refl _) _
      have B2 := Hid.mk (B1.out.trans ((hb2.trans (A0.mono hb2.size)).mono B1.out.size))
      clear hb2 A0 B1
      go_wp2_with fail
      generalize w2.alloc (.cells #[.int .i64 0, .string ⟨#[]⟩, .slice none 0 0] 26) = W2 at X2 B2 ⊢
      generalize w2.heap.size = p0 at X2 ⊢
      clear w2
      refine (HS.out W2).mono ?_
      rintro e w3 ⟨rfl, hb3⟩
      have A0 : Below w3.heap.size w3 (w3.alloc (.cells #[.int .i64 0, .string ⟨#[]⟩, .slice none 0 0] 26)) := (Below.refl _ _).alloc (Nat.le_refl _) _
      have A3 := hb3.trans (A0.mono hb3.size)
      have B3 := Hid.mk (B2.out.trans (A3.mono B2.out.size))
      have x0 := (X2.out.kept (hb3.block _ X2.out.lt)).c0
      have x1 := (X2.out.kept (hb3.block _ X2.out.lt)).c1
      have x2 := (X2.out.kept (hb3.block _ X2.out.lt)).c2
      have q3 : p0 < w3.heap.size := (X2.out.kept (hb3.block _ X2.out.lt)).lt
      clear hb3 A0 A3 X2 B2
      go_wp2
      go_ret
      exact ⟨rfl, B3.out⟩
  · have hd : decide ((1048576 : Int) < zs.length) = true := by simp; omega
    rw [hd] at HB
    go_enter Try.func4, Try.ntmps4
    go_wp2_with fail
    refine HB.out.mono ?_
    rintro e w1 ⟨rfl, hw⟩
    obtain rfl := hw.symm
    clear hw HB
    go_wp2
    go_ret
    exact ⟨rfl, Below.refl _ _⟩
end Go.Proofs.Ytapniafhcagogaa
