/- ParseRex, the program's. -/
import Derived.Test.YtgigalcajgjpnaaGreatRexRdN
import Derived.Test.YtgigalcajgjpnaaGreatExactRexText
import Derived.Defers
import Derived.Recover
namespace Go.Proofs.YtgigalcajgjpnaaGreat
open Go.RowKit
set_option maxRecDepth 8000

/-- The text s is that of t, which is right. -/
def IsTx (s : ByteArray) (t : Tr) : Prop := okR t = true ∧ t.tl = txt s

theorem IsTx.size {s : ByteArray} {t : Tr} (h : IsTx s t) : s.size ≤ 779 := by
  obtain ⟨hd, hc, ho⟩ := (okR_iff t).1 h.1
  have := tl_len t ho
  rw [h.2, txt_length] at this
  omega
theorem IsTx.text {s : ByteArray} {t : Tr} (h : IsTx s t) : rexS t = s := by
  unfold rexS
  rw [if_pos h.1, h.2, strOf_txt]
theorem IsTx.read {s : ByteArray} {t : Tr} (h : IsTx s t) (n : Nat) (hn : 6 ≤ n) : rd n (txt s) = some (t, []) := by rw [← h.2]; exact rd_back n hn t h.1
theorem rd_nil (n : Nat) : rd n [] = none := by
  cases n with
  | zero => rfl
  | succ n => rfl
theorem not_text {s : ByteArray} (hno : ∀ t, ¬ IsTx s t) {n : Nat} {t : Tr} {q : List Int} (h : rd n (txt s) = some (t, q)) : rexS t ≠ s := by
  intro e
  unfold rexS at e
  split at e
  · rename_i ho
    refine hno t ⟨ho, ?_⟩
    rw [← e, txt_strOf (tl_byte t)]
  · have : txt s = [] := by rw [← e]; rfl
    rw [this, rd_nil] at h
    cases h

/-- The world with the result's box and the reader. -/
abbrev rdW (w : World) (s : ByteArray) : World := (w.alloc (.cells #[.int .i64 0, .string ⟨#[]⟩, .slice none 0 0] 187)).alloc (.cells #[.string s, .int .i64 0] 247)

theorem rdW_rds (w : World) (s : ByteArray) : Rds (rdW w s) (w.heap.size + 1) s 0 := by
  have := heap_alloc_new (w.alloc (.cells #[.int .i64 0, .string ⟨#[]⟩, .slice none 0 0] 187)) (.cells #[.string s, .int .i64 0] 247)
  rw [show (w.alloc (.cells #[.int .i64 0, .string ⟨#[]⟩, .slice none 0 0] 187)).heap.size = w.heap.size + 1 by simp] at this
  exact this
theorem rdW_bx (w : World) (s : ByteArray) : Bx3 (rdW w s) w.heap.size (.int .i64 0) (.string ⟨#[]⟩) (.slice none 0 0) := (Bx3.new w (.int .i64 0) (.string ⟨#[]⟩) (.slice none 0 0)).kept (((Below.refl _ _).alloc (Nat.le_refl _) _).block _ (Bx3.new w (.int .i64 0) (.string ⟨#[]⟩) (.slice none 0 0)).lt)
theorem rdW_below (w : World) (s : ByteArray) : Below w.heap.size w (rdW w s) := ((Below.refl _ _).alloc (Nat.le_refl _) _).alloc (by simp) _
theorem below_gb {w w' w'' : World} {R : Nat} (h : Below w.heap.size w w') (hg : w'.grownBy w'' (some R)) (hR : w.heap.size ≤ R) : Below w.heap.size w w'' := h.grown hg h.size (fun k hk => by simp at hk; omega)

set_option maxHeartbeats 1000000 in
theorem readRex_yes (s : ByteArray) (t : Tr) (w : World) (h : IsTx s t) :
    Calls Tryz.prog 212 #[.string s] w fun e w' => ∃ u, e = .returned (rx t.k t.s u) ∧ Ow w' (newFrom w.heap.size) t.l u ∧ t.s.size ≤ maxLen ∧ Below w.heap.size w w' := by
  have hz := h.size
  have HRd := Hid.mk (choices_any 1000 s (w.heap.size + 1) 0 (rdW w s) (rdW_rds w s) (Nat.zero_le _) (by omega) (by omega))
  have HQ := Hid.mk (h.read 1000 (by omega))
  have HTX := Hid.mk h.text
  have HB0 := Hid.mk (rdW_bx w s)
  have HBel := Hid.mk (rdW_below w s)
  have HIT := Hid.mk (fun (w' : World) (B : Nat → Prop) (u : Value) (h1 : Rl w' B t.l u) (h2 : t.s.size ≤ maxLen) => implRexText_any t B u w' h1 h2)
  have h780 : ¬ (780 : Int) < (s.size : Int) := by omega
  have hss : (s.toList != s.toList) = false := by simp
  clear h
  go_enter Tryz.func212, Tryz.ntmps212
  go_wp2_with fail
  refine HRd.out.mono ?_
  rintro e w1 ⟨hg1, hcase⟩
  rw [List.drop_zero, HQ.out] at hcase
  rcases hcase with ⟨hr0, _⟩ | ⟨t1, q, u, p1, hrd, rfl, hp1, hp2, hq, hr1, hsz, how⟩
  · cases hr0
  injection hrd with hrd
  injection hrd with ht1 hq1
  subst ht1
  obtain ⟨au, cu, rfl⟩ := how.value
  have hbw : Below w1.heap.size w1 (w1.alloc (.cells #[.int .i64 t.k, .string t.s, .slice au t.l.length cu] 187)) := (Below.refl _ _).alloc (Nat.le_refl _) _
  have hs1 : w.heap.size + 2 ≤ w1.heap.size := by have := hg1.size; simpa using this
  have HB1 := Hid.mk ((HB0.out.gb hg1 (by omega)).kept (hbw.block _ (HB0.out.gb hg1 (by omega)).lt))
  have HBel1 := Hid.mk ((below_gb HBel.out hg1 (by omega)).trans (hbw.mono (by omega)))
  have HX1 := Hid.mk (Bx3.new w1 (.int .i64 t.k) (.string t.s) (.slice au t.l.length cu))
  have HO1 := Hid.mk ((how.grow hbw).mono (C := newFrom (w.heap.size + 1)) (fun b hb => by unfold newFrom at *; simp at hb; omega))
  have HT := Hid.mk (HIT.out _ _ _ HO1.out.rl hsz)
  have HSZ := Hid.mk hsz
  rw [HTX.out] at HT
  obtain ⟨tk, htk⟩ : ∃ tk, t.k = tk := ⟨_, rfl⟩
  obtain ⟨ts, hts⟩ : ∃ ts, t.s = ts := ⟨_, rfl⟩
  rw [htk, hts] at HB1 HBel1 HX1 HO1 HT
  rw [htk, hts] at ⊢
  have HTK := Hid.mk htk
  have HTS := Hid.mk hts
  clear HRd HQ HB0 HBel HIT hg1 hq hr1 hsz how hbw htk hts hq1 HTX hp1 hp2
  go_wp2_with fail
  refine HT.out.mono ?_
  rintro e w3 ⟨rfl, hb3⟩
  have HB3 := Hid.mk (HB1.out.kept (hb3.block _ HB1.out.lt))
  have HX3 := Hid.mk (HX1.out.kept (hb3.block _ HX1.out.lt))
  have HO3 := Hid.mk (HO1.out.grow hb3)
  have HBel3 := Hid.mk (HBel1.out.trans (hb3.mono HBel1.out.size))
  have c0 := HB3.out.c0
  have c1 := HB3.out.c1
  have c2 := HB3.out.c2
  have f0 := HB3.out.fr
  have x0 := HX3.out.c0
  have x1 := HX3.out.c1
  have x2 := HX3.out.c2
  clear HT hb3 HB1 HX1 HO1 HBel1
  go_wp2
  have hput := HB3.out.put (.int .i64 tk) (.string ts) (.slice au t.l.length cu)
  have hop := HO3.out.set3 (b := w.heap.size) (by unfold newFrom; omega) (.int .i64 tk) (.string ts) (.slice au t.l.length cu)
  have hbp : Below w.heap.size w (set3 w3 w.heap.size (.int .i64 tk) (.string ts) (.slice au t.l.length cu)) := ((HBel3.out.setCell (Nat.le_refl _) _).setCell (Nat.le_refl _) _).setCell (Nat.le_refl _) _
  unfold set3 at hput hop hbp
  generalize ((w3.setCell ⟨w.heap.size, 0, none⟩ (.int .i64 tk)).setCell ⟨w.heap.size, 1, none⟩ (.string ts)).setCell ⟨w.heap.size, 2, none⟩ (.slice au t.l.length cu) = W at hput hop hbp ⊢
  have r0 := hput.c0
  have r1 := hput.c1
  have r2 := hput.c2
  refine bodyPost_ret (v := rx tk ts (.slice au t.l.length cu)) ?_ rfl ⟨_, by first | rfl | (rw [HTK.out, HTS.out]), hop.mono (fun b hb => by unfold newFrom at *; omega), by first | exact HSZ.out | (rw [← HTS.out]; exact HSZ.out), hbp⟩
  simp [results, Tryz.results212, go_sem, r0, r1, r2]

set_option maxHeartbeats 1000000 in
theorem readRex_no (s : ByteArray) (w : World) (hs : s.size ≤ 1048576) (hno : ∀ t, ¬ IsTx s t) :
    Calls Tryz.prog 212 #[.string s] w fun e w' => e = .panicked nope ∧ Below w.heap.size w w' := by
  by_cases h780 : (780 : Int) < (s.size : Int)
  · clear hno
    go_enter Tryz.func212, Tryz.ntmps212
    go_wp2
    exact ⟨rfl, rfl, (Below.refl _ _).alloc (Nat.le_refl _) _⟩
  have HRd := Hid.mk (choices_any 1000 s (w.heap.size + 1) 0 (rdW w s) (rdW_rds w s) (Nat.zero_le _) (by omega) (by omega))
  have HNO := Hid.mk (fun t q (h : rd 1000 (txt s) = some (t, q)) => not_text hno h)
  have HBel := Hid.mk (rdW_below w s)
  clear hno
  go_enter Tryz.func212, Tryz.ntmps212
  go_wp2_with fail
  refine HRd.out.mono ?_
  rintro e w1 ⟨hg1, ⟨hr0, rfl⟩ | ⟨t, q, u, p1, hrd, rfl, hp1, hp2, hq, hr1, hsz, how⟩⟩
  · exact ⟨rfl, rfl, below_gb HBel.out hg1 (by omega)⟩
  rw [List.drop_zero] at hrd
  have hneq := HNO.out _ _ hrd
  have hss : ((rexS t).toList == s.toList) = false := by
    rw [beq_eq_false_iff_ne]
    intro e
    apply hneq
    apply ByteArray.ext
    apply Array.toList_inj.1
    rw [← ByteArray.toList_eq, ← ByteArray.toList_eq]; exact e
  obtain ⟨au, cu, rfl⟩ := how.value
  have hbw : Below w1.heap.size w1 (w1.alloc (.cells #[.int .i64 t.k, .string t.s, .slice au t.l.length cu] 187)) := (Below.refl _ _).alloc (Nat.le_refl _) _
  have hs1 : w.heap.size + 2 ≤ w1.heap.size := by have := hg1.size; simpa using this
  have HBel1 := Hid.mk ((below_gb HBel.out hg1 (by omega)).trans (hbw.mono (by omega)))
  have HT := Hid.mk (implRexText_any t _ _ _ (how.grow hbw).rl hsz)
  obtain ⟨RT, hRT⟩ : ∃ RT, rexS t = RT := ⟨_, rfl⟩
  obtain ⟨tk, htk⟩ : ∃ tk, t.k = tk := ⟨_, rfl⟩
  obtain ⟨ts, hts⟩ : ∃ ts, t.s = ts := ⟨_, rfl⟩
  rw [hRT, htk, hts] at HT
  rw [hRT] at hss
  rw [htk, hts] at HBel1
  rw [htk, hts]
  clear HRd HNO HBel hg1 hrd hneq hq hr1 hsz how hbw hRT htk hts hp1 hp2
  go_wp2_with fail
  refine HT.out.mono ?_
  rintro e w3 ⟨rfl, hb3⟩
  have HBel3 := Hid.mk (HBel1.out.trans (hb3.mono HBel1.out.size))
  clear HT hb3 HBel1
  go_wp2
  exact ⟨rfl, rfl, HBel3.out⟩

theorem catch_panics (older : List PanicEntry) (v : Value) (T : TypeId) (w : World) :
    CallsD Tryz.prog 211 #[] (.panicking ({ v := .iface T v, recovered := false } :: older)) w fun e u' w' =>
      e = .returned (.tuple #[]) ∧ u' = .panicking ({ v := .iface T v, recovered := true } :: older) ∧ w' = w := by
  refine callsD_of_wpS Tryz.func211 rfl fun c₀ cs hu => ?_
  apply wpS_region
  simp [wpOpsS, go_sem, recoverD, hu, Tryz.ntmps211, bodyPostS, results, Tryz.results211]

theorem catch_idle (w : World) :
    CallsD Tryz.prog 211 #[] .returning w fun e u' w' => e = .returned (.tuple #[]) ∧ u' = .returning ∧ w' = w := by
  refine callsD_of_wpS Tryz.func211 rfl fun c₀ cs hu => ?_
  apply wpS_region
  simp [wpOpsS, go_sem, recoverD, hu, Tryz.ntmps211, bodyPostS, results, Tryz.results211]
  cases c₀
  simp_all

theorem implParse_no (s : ByteArray) (w : World) (hs : s.size ≤ 1048576) (hno : ∀ t, ¬ IsTx s t) :
    Calls Tryz.prog 210 #[.string s] w fun e w' => e = .returned (.tuple #[rx 0 ⟨#[]⟩ (.slice none 0 0), .bool false]) ∧ Below w.heap.size w w' := by
  have HC := Hid.mk (fun w' => readRex_no s w' hs hno)
  have HB := Hid.mk (Bx3.new w (.int .i64 0) (.string ⟨#[]⟩) (.slice none 0 0))
  have hbw : Below w.heap.size w (w.alloc (.cells #[.int .i64 0, .string ⟨#[]⟩, .slice none 0 0] 187)) := (Below.refl _ _).alloc (Nat.le_refl _) _
  clear hno
  go_enter_defers Tryz.func210, Tryz.ntmps210
  go_wp2_with fail
  refine (HC.out _).mono ?_
  rintro e w1 ⟨rfl, hb1⟩
  have hB1 := HB.out.kept (hb1.block _ HB.out.lt)
  have c0 := hB1.c0
  have c1 := hB1.c1
  have c2 := hB1.c2
  have HBel := Hid.mk (hbw.trans (hb1.mono (by simp)))
  refine leaves_cons (f := 211) (args := #[]) (by simp) (by simp [go_sem]) ?_
  refine (catch_panics [] _ _ _).mono ?_
  rintro e u' w'' ⟨rfl, rfl, rfl⟩
  simp [Leaves, settle, results, Tryz.results210, go_sem, c0, c1, c2]
  exact HBel.out

set_option maxHeartbeats 1000000 in
theorem implParse_yes (s : ByteArray) (t : Tr) (w : World) (h : IsTx s t) :
    Calls Tryz.prog 210 #[.string s] w fun e w' => ∃ u, e = .returned (.tuple #[rx t.k t.s u, .bool true]) ∧ Ow w' (newFrom w.heap.size) t.l u ∧ t.s.size ≤ maxLen ∧ Below w.heap.size w w' := by
  have HC := Hid.mk (fun w' => readRex_yes s t w' h)
  have HB := Hid.mk (Bx3.new w (.int .i64 0) (.string ⟨#[]⟩) (.slice none 0 0))
  have hbw : Below w.heap.size w (w.alloc (.cells #[.int .i64 0, .string ⟨#[]⟩, .slice none 0 0] 187)) := (Below.refl _ _).alloc (Nat.le_refl _) _
  obtain ⟨tk, htk⟩ : ∃ tk, t.k = tk := ⟨_, rfl⟩
  obtain ⟨ts, hts⟩ : ∃ ts, t.s = ts := ⟨_, rfl⟩
  rw [htk, hts] at HC
  rw [htk, hts]
  clear h htk hts
  go_enter_defers Tryz.func210, Tryz.ntmps210
  go_wp2_with fail
  refine (HC.out _).mono ?_
  rintro e w1 ⟨u, rfl, how, hsz, hb1⟩
  obtain ⟨au, cu, rfl⟩ := how.value
  have hB1 := HB.out.kept (hb1.block _ HB.out.lt)
  have HBel := Hid.mk (hbw.trans (hb1.mono (by simp)))
  have HO1 := Hid.mk (how.mono (C := newFrom (w.heap.size + 1)) (fun b hb => by unfold newFrom at *; simpa using hb))
  have HSZ := Hid.mk hsz
  have c0 := hB1.c0
  have c1 := hB1.c1
  have c2 := hB1.c2
  have f0 := hB1.fr
  have hlt1 := hB1.lt
  have HB1 := Hid.mk hB1
  clear HC HB hbw how hsz hb1 hB1
  go_wp2
  have hput0 := HB1.out.put (.int .i64 tk) (.string ts) (.slice au t.l.length cu)
  have hop0 := HO1.out.set3 (b := w.heap.size) (by unfold newFrom; omega) (.int .i64 tk) (.string ts) (.slice au t.l.length cu)
  have hbp0 : Below w.heap.size w (set3 w1 w.heap.size (.int .i64 tk) (.string ts) (.slice au t.l.length cu)) := ((HBel.out.setCell (Nat.le_refl _) _).setCell (Nat.le_refl _) _).setCell (Nat.le_refl _) _
  have hal : Below (set3 w1 w.heap.size (.int .i64 tk) (.string ts) (.slice au t.l.length cu)).heap.size (set3 w1 w.heap.size (.int .i64 tk) (.string ts) (.slice au t.l.length cu)) ((set3 w1 w.heap.size (.int .i64 tk) (.string ts) (.slice au t.l.length cu)).alloc (.cells #[.int .i64 tk, .string ts, .slice au t.l.length cu] 187)) := (Below.refl _ _).alloc (Nat.le_refl _) _
  have hput := hput0.kept (hal.block _ hput0.lt)
  have hop := hop0.grow hal
  have hbp := hbp0.trans (hal.mono (by rw [set3_size]; omega))
  unfold set3 at hput hop hbp
  generalize (((w1.setCell ⟨w.heap.size, 0, none⟩ (.int .i64 tk)).setCell ⟨w.heap.size, 1, none⟩ (.string ts)).setCell ⟨w.heap.size, 2, none⟩ (.slice au t.l.length cu)).alloc (.cells #[.int .i64 tk, .string ts, .slice au t.l.length cu] 187) = W at hput hop hbp ⊢
  have r0 := hput.c0
  have r1 := hput.c1
  have r2 := hput.c2
  refine leaves_cons (f := 211) (args := #[]) (by simp) (by simp [go_sem]) ?_
  refine (catch_idle _).mono ?_
  rintro e u' w'' ⟨rfl, rfl, rfl⟩
  refine ⟨.tuple #[rx tk ts (.slice au t.l.length cu), .bool true], ?_, _, rfl, hop.mono (fun b hb => by unfold newFrom at *; omega), HSZ.out, hbp⟩
  simp [results, Tryz.results210, go_sem, r0, r1, r2]
end Go.Proofs.YtgigalcajgjpnaaGreat
