/- The law FnReplaced walked: a drawn text in which nothing matches stays as it is; with itself in the place of what matches once, too; once is no more often than all. -/
import Derived.Test.YteomhjoodnjfbaaDoorRepI
import Derived.Test.YteomhjoodnjfbaaDoorRepM
import Derived.Test.YteomhjoodnjfbaaDoorDrawRep
import Derived.Deep.Strs
namespace Go.Proofs.YteomhjoodnjfbaaDoor
open Go.RowKit
set_option maxRecDepth 8000

set_option maxHeartbeats 4000000 in
theorem fnReplaced_walk (v : Value) (zs : List Int) (w : World) (h : Bs w v zs) (hT : TabB w) :
    Calls Tryd.prog 3 #[v] w fun e w' => e = .returned (.bool true) ∧ Below w.heap.size w w' := by
  have H := Hid.mk h
  clear h
  have HB := Hid.mk (big_any v zs w H.out)
  by_cases hlen : zs.length ≤ 1048576
  · have hd : decide ((1048576 : Int) < zs.length) = false := by simp; omega
    rw [hd] at HB
    clear hd
    go_enter Tryd.func3, Tryd.ntmps3
    go_wp2_with fail
    refine HB.out.mono ?_
    rintro e w1 ⟨rfl, hw⟩
    obtain rfl := hw.symm
    clear hw HB
    go_wp2_with fail
    refine (drawReplace_any v zs w H.out hlen).mono ?_
    rintro e w2 ⟨t, u, s, y, bl, rfl, hts, hs, hy, hr2, hb2⟩
    obtain ⟨au, cu, rfl, -⟩ := hr2.len
    have HI := Hid.mk (fun (z : ByteArray) (all : Bool) (hz : z.size ≤ 1048576) (w' : World) (B : Nat → Prop) (h' : Rl w' B t.l (.slice au t.l.length cu)) (hT' : TabB w') => implReplace_any t B _ s z all w' h' hts (by omega) hz hT')
    have HS := Hid.mk (fun (w' : World) (B : Nat → Prop) (h' : Rl w' B t.l (.slice au t.l.length cu)) => specReplace_any t B _ s y bl w' h' hts (by omega) (by omega))
    have HL := Hid.mk (fun (w' : World) (B : Nat → Prop) (h' : Rl w' B t.l (.slice au t.l.length cu)) (hT' : TabB w') => longest_any t B _ s w' h' hts hT')
    have HN := Hid.mk (fun (h : longE t s = none) => rep_none t s y bl h)
    have HO := Hid.mk (fun a e (h : longE t s = some (a, e)) => rep_once t s y a e (by omega) h)
    have HO2 := Hid.mk (fun a e (h : longE t s = some (a, e)) => rep_once t s (s.extract a e) a e (by rw [ByteArray.size_extract]; omega) h)
    have A3 : Below w2.heap.size w2 (w2.alloc (.cells #[.int .i64 t.k, .string t.s, .slice au t.l.length cu] 26)) := (Below.refl _ _).alloc (Nat.le_refl _) _
    have X3 := Hid.mk (Bz3.new w2 (.int .i64 t.k) (.string t.s) (.slice au t.l.length cu))
    have R3 := Hid.mk (hr2.grow A3)
    have B3 := Hid.mk (hb2.trans (A3.mono hb2.size))
    have T3 := Hid.mk (hT.grow B3.out)
    obtain ⟨tk, htk⟩ : ∃ tk, t.k = tk := ⟨_, rfl⟩
    obtain ⟨ts, hts'⟩ : ∃ ts, t.s = ts := ⟨_, rfl⟩
    obtain ⟨tl, htl⟩ : ∃ tl, t.l = tl := ⟨_, rfl⟩
    obtain ⟨LE, hLE⟩ : ∃ LE, longE t s = LE := ⟨_, rfl⟩
    obtain ⟨FR, hFR⟩ : ∃ FR, repR t s = FR := ⟨_, rfl⟩
    rw [htk, hts', htl, hFR] at HI HS
    rw [htk, hts', htl, hLE] at HL
    rw [hLE, hFR] at HN HO HO2
    rw [htk, hts', htl] at X3 R3 B3 T3 ⊢
    clear htk hts' htl hLE hFR hts hr2 hb2 A3 hT H
    go_wp2_with fail
    generalize w2.alloc (.cells #[.int .i64 tk, .string ts, .slice au tl.length cu] 26) = W3 at X3 R3 B3 T3 ⊢
    generalize w2.heap.size = bx at X3 ⊢
    refine (HI.out y bl (by omega) W3 _ R3.out T3.out).mono ?_
    rintro e w4 ⟨rfl, hb4⟩
    have X4 := Hid.mk (X3.out.grow hb4)
    have R4 := Hid.mk (R3.out.grow hb4)
    have B4 := Hid.mk (B3.out.trans (hb4.mono B3.out.size))
    have T4 := Hid.mk (T3.out.grow hb4)
    obtain ⟨x, hx⟩ : ∃ x, (FR y bl).1 = x := ⟨_, rfl⟩
    obtain ⟨n, hn⟩ : ∃ n, (FR y bl).2 = n := ⟨_, rfl⟩
    have HXN : Hid (FR y bl = (x, n)) := by show _ = _; rw [← hx, ← hn]
    have HS' := Hid.mk (HS.out w4 _ R4.out)
    rw [hx, hn] at HS' ⊢
    clear hb4 X3 R3 B3 T3 hx hn HS
    have x0 := X4.out.c0
    have x1 := X4.out.c1
    have x2 := X4.out.c2
    go_wp2_with fail
    refine HS'.out.mono ?_
    rintro e w5 ⟨rfl, hb5⟩
    have X5 := Hid.mk (X4.out.grow hb5)
    have R5 := Hid.mk (R4.out.grow hb5)
    have B5 := Hid.mk (B4.out.trans (hb5.mono B4.out.size))
    have T5 := Hid.mk (T4.out.grow hb5)
    clear hb5 X4 R4 B4 T4 x0 x1 x2 HS'
    have hxx : (x.toList != x.toList) = false := by simp
    have hnn : ((n : Int) != (n : Int)) = false := by simp
    have x0 := X5.out.c0
    have x1 := X5.out.c1
    have x2 := X5.out.c2
    go_wp2_with fail
    refine (HL.out w5 _ R5.out T5.out).mono ?_
    rintro e w6 ⟨rfl, hb6⟩
    have X6 := Hid.mk (X5.out.grow hb6)
    have R6 := Hid.mk (R5.out.grow hb6)
    have B6 := Hid.mk (B5.out.trans (hb6.mono B5.out.size))
    have T6 := Hid.mk (T5.out.grow hb6)
    clear hb6 X5 R5 B5 T5 x0 x1 x2 HL
    cases LE with
    | none =>
      have hF := HN.out rfl
      rw [HXN.out] at hF
      simp only [Prod.mk.injEq] at hF
      obtain ⟨rfl, rfl⟩ := hF
      have hss : (x.toList == x.toList) = true := by simp
      simp only [longV]
      clear HI HO HO2 HN HXN
      go_wp2
      go_ret
      exact ⟨rfl, B6.out⟩
    | some ae =>
      obtain ⟨a, e⟩ := ae
      obtain ⟨hae, hes, hF1, hF2⟩ := HO.out a e rfl
      obtain ⟨-, -, hF3, -⟩ := HO2.out a e rfl
      rw [rep_self s a e hae hes] at hF3
      have HI1 := Hid.mk (HI.out y false (by omega))
      have HI2 := Hid.mk (HI.out (s.extract a e) false (by rw [ByteArray.size_extract]; omega))
      have HI3 := Hid.mk (HI.out y true (by omega))
      rw [hF1] at HI1
      rw [hF3] at HI2
      obtain ⟨m3, hm3⟩ : ∃ m3, (FR y true).2 = m3 := ⟨_, rfl⟩
      obtain ⟨x3, hx3⟩ : ∃ x3, (FR y true).1 = x3 := ⟨_, rfl⟩
      rw [hm3, hx3] at HI3
      rw [hm3] at hF2
      clear HI HO HO2 HN HXN hF1 hF3 hm3 hx3
      have x0 := X6.out.c0
      have x1 := X6.out.c1
      have x2 := X6.out.c2
      simp only [longV]
      go_wp2_with fail
      refine (HI1.out w6 _ R6.out T6.out).mono ?_
      rintro e1 w7 ⟨rfl, hb7⟩
      have X7 := Hid.mk (X6.out.grow hb7)
      have R7 := Hid.mk (R6.out.grow hb7)
      have B7 := Hid.mk (B6.out.trans (hb7.mono B6.out.size))
      have T7 := Hid.mk (T6.out.grow hb7)
      clear hb7 X6 R6 B6 T6 x0 x1 x2 HI1
      have cA := Hid.mk (fun d os => Calls.regrown_of (w := w7) (d := d) (os := os) (HI2.out _ _ (R7.out.grow (below_regrown _ _ _)) (T7.out.grow (below_regrown _ _ _))))
      have a0 := cell_regrown X7.out.c0
      have a1 := cell_regrown X7.out.c1
      have a2 := cell_regrown X7.out.c2
      have hai : (a : Int) ≤ (e : Int) := by omega
      have hei : (e : Int) ≤ (s.size : Int) := by omega
      go_wp2_with fail
      refine wp_region_quiet_below (by kernel_rfl) (by kernel_rfl) ?_
      quiet_step (fail)
      quiet_step (fail)
      quiet_step (fail)
      quiet_step (fail)
      quiet_step (fail)
      quiet_step (fail)
      quiet_step (exact cA.out _ _)
      quiet_step (fail)
      quiet_step (fail)
      quiet_step (fail)
      quiet_step (fail)
      quiet_step (fail)
      refine wpQuiet_nil ?_
      intro w8 hw'
      obtain ⟨⟨dq, osq⟩, hw''⟩ := hw'
      have hb8 : Below w7.heap.size w7 w8 := by rw [hw'']; exact below_regrown _ _ _
      have X8 := Hid.mk (X7.out.grow hb8)
      have R8 := Hid.mk (R7.out.grow hb8)
      have B8 := Hid.mk (B7.out.trans (hb8.mono B7.out.size))
      have T8 := Hid.mk (T7.out.grow hb8)
      clear hw'' a0 a1 a2 cA hb8 X7 R7 B7 T7 HI2
      have x0 := X8.out.c0
      have x1 := X8.out.c1
      have x2 := X8.out.c2
      go_wp2_with fail
      refine (HI3.out w8 _ R8.out T8.out).mono ?_
      rintro e1 w9 ⟨rfl, hb9⟩
      have B9 := Hid.mk (B8.out.trans (hb9.mono B8.out.size))
      clear hb9 X8 R8 B8 T8 x0 x1 x2 HI3
      have z1 : ¬ 9223372036854775807 < (s.extract 0 a).size + y.size := by rw [ByteArray.size_extract]; omega
      have z2 : ¬ 9223372036854775807 < (s.extract 0 a ++ y).size + (s.extract e s.size).size := by rw [ByteArray.size_append, ByteArray.size_extract, ByteArray.size_extract]; omega
      have z3 := z1
      have z4 := z2
      rw [ByteArray.size_extract] at z3
      rw [ByteArray.size_append, ByteArray.size_extract, ByteArray.size_extract] at z4
      have hmi : (1 : Int) ≤ (m3 : Int) := by omega
      have has : (a : Int) ≤ (s.size : Int) := by omega
      have hss : (s.toList == s.toList) = true := by simp
      have hoo : ((s.extract 0 a ++ y ++ s.extract e s.size).toList == (s.extract 0 a ++ y ++ s.extract e s.size).toList) = true := by simp
      go_wp2
      go_quiet (fail)
      go_wp2
      go_ret
      exact ⟨rfl, B9.out.trans (Below.drewSelf _ _ _)⟩
  · have hd : decide ((1048576 : Int) < zs.length) = true := by simp; omega
    rw [hd] at HB
    clear hd H
    go_enter Tryd.func3, Tryd.ntmps3
    go_wp2_with fail
    refine HB.out.mono ?_
    rintro e w1 ⟨rfl, hw⟩
    obtain rfl := hw.symm
    clear hw HB
    go_wp2
    go_ret
    exact ⟨rfl, Below.refl _ _⟩
end Go.Proofs.YteomhjoodnjfbaaDoor
