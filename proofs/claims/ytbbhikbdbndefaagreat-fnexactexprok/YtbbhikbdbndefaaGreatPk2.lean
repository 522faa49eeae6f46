/- ParseRex, the model's. Which terms are right, but for their parts: the model's l8Here. Parts of a term, counted: the model's. How much room a term leaves: the program's roomLeft over terms, its ExprOk. Which terms are right: the model's l8Ok and ExprOk. The small functions of the laws over terms: how great one is, a copy of it, in new blocks. Whether two terms are the same, by the laws' own function: two that read the same tree are. A struct of four fields among the arguments, opened. The law FnExactExprOk walked: at every term the program's ExprOk answers what the document's model of it answers. -/
import Derived.Test.YtbbhikbdbndefaaGreatPk1
import Derived.Test.YtbbhikbdbndefaaGreatExNode
import Derived.Test.YtbbhikbdbndefaaGreatQuietS
import Derived.Test.YtbbhikbdbndefaaGreatTake
import Derived.Test.YtbbhikbdbndefaaGreatExOkM
import Derived.Test.YtbbhikbdbndefaaGreatPlCan
import Derived.Test.YtbbhikbdbndefaaGreatExTree
import Derived.Test.YtbbhikbdbndefaaGreatRexTo
import Derived.Lib.QuietBelow
import Derived.WalkKit
import Derived.ProofKit
import Derived.OpenShut
import Derived.ChangeOld
namespace Go.Proofs.YtbbhikbdbndefaaGreat
open Go.RowKit
set_option maxRecDepth 8000

theorem alt_any : ∀ n : Nat, n ≤ 8 → SpC 85 (rd (n + 1)) (8 - (n : Int)) := by
  intro n
  induction n with
  | zero =>
    intro _
    exact choicesSp_of 0 _ (by omega) (cat_of 0 _ (by omega) (item_of 0 _ (by omega) (atom_of 0 _ (by omega) (group_of 0 (by omega) (fun h => absurd h (by omega))))))
  | succ n ih =>
    intro hn
    have := ih (by omega)
    rw [show (8 : Int) - (n : Int) = 9 - ((n + 1 : Nat) : Int) by omega] at this
    exact choicesSp_of (n + 1) _ (by omega) (cat_of (n + 1) _ (by omega) (item_of (n + 1) _ (by omega) (atom_of (n + 1) _ (by omega) (group_of (n + 1) hn (fun _ => this)))))

/-- The world with the result's box and the model's reader. -/
abbrev spW (w : World) (s : ByteArray) : World := ((w.alloc (.cells #[.int .i64 0, .string ⟨#[]⟩, .slice none 0 0] 128)).alloc (.cells #[.string s, .int .i64 0, .bool false, .int .i64 0] 135))
theorem spW_sds (w : World) (s : ByteArray) : Sds (spW w s) (w.heap.size + 1) s 0 false 0 := by
  have := heap_alloc_new (w.alloc (.cells #[.int .i64 0, .string ⟨#[]⟩, .slice none 0 0] 128)) (.cells #[.string s, .int .i64 0, .bool false, .int .i64 0] 135)
  rw [show (w.alloc (.cells #[.int .i64 0, .string ⟨#[]⟩, .slice none 0 0] 128)).heap.size = w.heap.size + 1 by simp] at this
  exact this
theorem spW_bx (w : World) (s : ByteArray) : Bx3 (spW w s) w.heap.size (.int .i64 0) (.string ⟨#[]⟩) (.slice none 0 0) := (Bx3.new w (.int .i64 0) (.string ⟨#[]⟩) (.slice none 0 0)).kept (((Below.refl _ _).alloc (Nat.le_refl _) _).block _ (Bx3.new w (.int .i64 0) (.string ⟨#[]⟩) (.slice none 0 0)).lt)
theorem spW_below (w : World) (s : ByteArray) : Below w.heap.size w (spW w s) := ((Below.refl _ _).alloc (Nat.le_refl _) _).alloc (by simp) _

set_option maxHeartbeats 2000000 in
theorem specParse_yes (s : ByteArray) (t : Tr) (w : World) (h : IsTx s t) :
    Calls Tryz.prog 78 #[.string s] w fun e w' => ∃ u, e = .returned (.tuple #[rx t.k t.s u, .bool true]) ∧ Ow w' (newFrom w.heap.size) t.l u ∧ t.s.size ≤ maxLen ∧ Below w.heap.size w w' := by
  have hz := h.size
  have HRd := Hid.mk (alt_any 8 (by omega) s (w.heap.size + 1) 0 (spW w s) (spW_sds w s) (Nat.zero_le _) (by omega))
  have HQ := Hid.mk (h.read 9 (by omega))
  have HTX := Hid.mk h.text
  have HB0 := Hid.mk (spW_bx w s)
  have HBel := Hid.mk (spW_below w s)
  have HIT := Hid.mk (fun (w' : World) (B : Nat → Prop) (u : Value) (h1 : Rl w' B t.l u) (h2 : t.s.size ≤ maxLen) => specRexText_any t B u w' h1 h2)
  have h1000 : ¬ (1000 : Int) < (s.size : Int) := by omega
  have hss : (s.toList != s.toList) = false := by simp
  clear h
  go_enter Tryz.func78, Tryz.ntmps78
  go_wp2_with fail
  refine HRd.out.mono ?_
  rintro e w1 ⟨hg1, t1, u, p1, rfl, hsz, how, hp1, hp2, hcase⟩
  rw [List.drop_zero, HQ.out] at hcase
  rcases hcase with ⟨hr0, _⟩ | ⟨hrd, hpp, hsd⟩
  · cases hr0
  injection hrd with hrd
  injection hrd with ht1 hq1
  subst ht1
  have hpe : p1 = s.size := by
    have := congrArg List.length hq1
    rw [List.length_drop, txt_length] at this
    simp at this
    omega
  subst hpe
  obtain ⟨au, cu, rfl⟩ := how.value
  have hbw : Below w1.heap.size w1 (w1.alloc (.cells #[.int .i64 t.k, .string t.s, .slice au t.l.length cu] 128)) := (Below.refl _ _).alloc (Nat.le_refl _) _
  have hs1 : w.heap.size + 2 ≤ w1.heap.size := by have := hg1.size; simpa using this
  have HB1 := Hid.mk ((HB0.out.gb hg1 (by omega)).kept (hbw.block _ (HB0.out.gb hg1 (by omega)).lt))
  have HBel1 := Hid.mk ((below_gb HBel.out hg1 (by omega)).trans (hbw.mono (by omega)))
  have HX1 := Hid.mk (Bx3.new w1 (.int .i64 t.k) (.string t.s) (.slice au t.l.length cu))
  have HO1 := Hid.mk ((how.grow hbw).mono (C := newFrom (w.heap.size + 1)) (fun b hb => by unfold newFrom at *; simp at hb; omega))
  have HT := Hid.mk (HIT.out _ _ _ HO1.out.rl hsz)
  have HSZ := Hid.mk hsz
  rw [HTX.out] at HT
  have HS1 := Hid.mk (hsd.grow hbw)
  obtain ⟨tk, htk⟩ : ∃ tk, t.k = tk := ⟨_, rfl⟩
  obtain ⟨ts, hts⟩ : ∃ ts, t.s = ts := ⟨_, rfl⟩
  rw [htk, hts] at HB1 HBel1 HX1 HO1 HT HS1
  rw [htk, hts]
  have d1 := HS1.out.c1
  have d2 := HS1.out.c2
  have HTK := Hid.mk htk
  have HTS := Hid.mk hts
  clear HRd HQ HB0 HBel HIT hg1 hsd hsz how hbw htk hts hq1 HTX hp1 hp2 hpp
  go_wp2_with fail
  refine HT.out.mono ?_
  rintro e w3 ⟨rfl, hb3⟩
  have HB3 := Hid.mk (HB1.out.kept (hb3.block _ HB1.out.lt))
  have HX3 := Hid.mk (HX1.out.kept (hb3.block _ HX1.out.lt))
  have HO3 := Hid.mk (HO1.out.grow hb3)
  have HBel3 := Hid.mk (HBel1.out.trans (hb3.mono HBel1.out.size))
  have c0 := HB3.out.c0
  have c1 := HB3.out.c1
  have c2 := HB3.out.c2
  have f0 := HB3.out.fr
  have x0 := HX3.out.c0
  have x1 := HX3.out.c1
  have x2 := HX3.out.c2
  clear HT hb3 HB1 HX1 HO1 HBel1 HS1 d1 d2
  go_wp2
  have hput := HB3.out.put (.int .i64 tk) (.string ts) (.slice au t.l.length cu)
  have hop := HO3.out.set3 (b := w.heap.size) (by unfold newFrom; omega) (.int .i64 tk) (.string ts) (.slice au t.l.length cu)
  have hbp : Below w.heap.size w (set3 w3 w.heap.size (.int .i64 tk) (.string ts) (.slice au t.l.length cu)) := ((HBel3.out.setCell (Nat.le_refl _) _).setCell (Nat.le_refl _) _).setCell (Nat.le_refl _) _
  unfold set3 at hput hop hbp
  generalize ((w3.setCell ⟨w.heap.size, 0, none⟩ (.int .i64 tk)).setCell ⟨w.heap.size, 1, none⟩ (.string ts)).setCell ⟨w.heap.size, 2, none⟩ (.slice au t.l.length cu) = W at hput hop hbp ⊢
  have r0 := hput.c0
  have r1 := hput.c1
  have r2 := hput.c2
  refine bodyPost_ret (v := .tuple #[rx tk ts (.slice au t.l.length cu), .bool true]) ?_ rfl ⟨_, by first | rfl | (rw [HTK.out, HTS.out]), hop.mono (fun b hb => by unfold newFrom at *; omega), by first | exact HSZ.out | (rw [← HTS.out]; exact HSZ.out), hbp⟩
  simp [results, Tryz.results78, go_sem, r0, r1, r2]

set_option maxHeartbeats 2000000 in
theorem specParse_no (s : ByteArray) (w : World) (hs : s.size ≤ 1048576) (hno : ∀ t, ¬ IsTx s t) :
    Calls Tryz.prog 78 #[.string s] w fun e w' => e = .returned (.tuple #[rx 0 ⟨#[]⟩ (.slice none 0 0), .bool false]) ∧ Below w.heap.size w w' := by
  by_cases h1000 : (1000 : Int) < (s.size : Int)
  · clear hno
    go_enter Tryz.func78, Tryz.ntmps78
    go_wp2
    refine bodyPost_ret (v := .tuple #[rx 0 ⟨#[]⟩ (.slice none 0 0), .bool false]) ?_ rfl ⟨rfl, (Below.refl _ _).alloc (Nat.le_refl _) _⟩
    simp [results, Tryz.results78, go_sem]
  have HRd := Hid.mk (alt_any 8 (by omega) s (w.heap.size + 1) 0 (spW w s) (spW_sds w s) (Nat.zero_le _) hs)
  have HNO := Hid.mk (fun t q (h : rd 9 (txt s) = some (t, q)) => not_text hno h)
  have HB0 := Hid.mk (spW_bx w s)
  have HBel := Hid.mk (spW_below w s)
  clear hno
  go_enter Tryz.func78, Tryz.ntmps78
  go_wp2_with fail
  refine HRd.out.mono ?_
  rintro e w1 ⟨hg1, t, u, p1, rfl, hsz, how, hp1, hp2, hcase⟩
  rw [List.drop_zero] at hcase
  obtain ⟨au, cu, rfl⟩ := how.value
  have hbw : Below w1.heap.size w1 (w1.alloc (.cells #[.int .i64 t.k, .string t.s, .slice au t.l.length cu] 128)) := (Below.refl _ _).alloc (Nat.le_refl _) _
  have hs1 : w.heap.size + 2 ≤ w1.heap.size := by have := hg1.size; simpa using this
  have hB1 := HB0.out.gb hg1 (by omega)
  have HB1 := Hid.mk (hB1.kept (hbw.block _ hB1.lt))
  have HBel1 := Hid.mk ((below_gb HBel.out hg1 (by omega)).trans (hbw.mono (by omega)))
  have HT := Hid.mk (specRexText_any t _ _ _ (how.grow hbw).rl hsz)
  have HBw := Hid.mk hB1
  obtain ⟨RT, hRT⟩ : ∃ RT, rexS t = RT := ⟨_, rfl⟩
  obtain ⟨W1, hW1⟩ : ∃ W1, w1.alloc (.cells #[.int .i64 t.k, .string t.s, .slice au t.l.length cu] 128) = W1 := ⟨_, rfl⟩
  have hcase2 : (∃ d', Sds W1 (w.heap.size + 1) s p1 true d') ∨ (Sds W1 (w.heap.size + 1) s p1 false 0 ∧ RT ≠ s) := by
    rw [← hW1]
    rcases hcase with ⟨_, d', hsd, _, _⟩ | ⟨hrd, _, hsd⟩
    · exact Or.inl ⟨d', hsd.grow hbw⟩
    · exact Or.inr ⟨hsd.grow hbw, by rw [← hRT]; exact HNO.out _ _ hrd⟩
  obtain ⟨tk, htk⟩ : ∃ tk, t.k = tk := ⟨_, rfl⟩
  obtain ⟨ts, hts⟩ : ∃ ts, t.s = ts := ⟨_, rfl⟩
  rw [hRT, htk, hts] at HT
  rw [htk, hts] at HBel1 HB1 hW1
  rw [htk, hts]
  subst hW1
  clear HRd HNO HB0 HBel hg1 hcase hsz how hbw hRT htk hts hB1 HBw
  have c0 := HB1.out.c0
  have c1 := HB1.out.c1
  have c2 := HB1.out.c2
  have f0 := HB1.out.fr
  rcases hcase2 with ⟨d', hsd⟩ | ⟨hsd, hneq⟩
  · have d1 := hsd.c1
    have d2 := hsd.c2
    clear hsd HT
    go_wp2
    have hput := HB1.out.put (.int .i64 0) (.string ⟨#[]⟩) (.slice none 0 0)
    have hbp : Below w.heap.size w (set3 (w1.alloc (.cells #[.int .i64 tk, .string ts, .slice au t.l.length cu] 128)) w.heap.size (.int .i64 0) (.string ⟨#[]⟩) (.slice none 0 0)) := ((HBel1.out.setCell (Nat.le_refl _) _).setCell (Nat.le_refl _) _).setCell (Nat.le_refl _) _
    unfold set3 at hput hbp
    generalize (((w1.alloc (.cells #[.int .i64 tk, .string ts, .slice au t.l.length cu] 128)).setCell ⟨w.heap.size, 0, none⟩ (.int .i64 0)).setCell ⟨w.heap.size, 1, none⟩ (.string ⟨#[]⟩)).setCell ⟨w.heap.size, 2, none⟩ (.slice none 0 0) = WW at hput hbp ⊢
    have r0 := hput.c0
    have r1 := hput.c1
    have r2 := hput.c2
    refine bodyPost_ret (v := .tuple #[rx 0 ⟨#[]⟩ (.slice none 0 0), .bool false]) ?_ rfl ⟨rfl, hbp⟩
    simp [results, Tryz.results78, go_sem, r0, r1, r2]
  have d1 := hsd.c1
  have d2 := hsd.c2
  clear hsd
  have hss : (RT.toList == s.toList) = false := by
    rw [beq_eq_false_iff_ne]
    intro e
    apply hneq
    apply ByteArray.ext
    apply Array.toList_inj.1
    rw [← ByteArray.toList_eq, ← ByteArray.toList_eq]; exact e
  clear hneq
  by_cases hpe : p1 = s.size
  · subst hpe
    go_wp2_with fail
    refine HT.out.mono ?_
    rintro e w3 ⟨rfl, hb3⟩
    have HB3 := Hid.mk (HB1.out.kept (hb3.block _ HB1.out.lt))
    have HBel3 := Hid.mk (HBel1.out.trans (hb3.mono HBel1.out.size))
    have e0 := HB3.out.c0
    have e1 := HB3.out.c1
    have e2 := HB3.out.c2
    have g0 := HB3.out.fr
    clear HT hb3 HB1 HBel1 d1 d2 c0 c1 c2 f0
    go_wp2
    have hput := HB3.out.put (.int .i64 0) (.string ⟨#[]⟩) (.slice none 0 0)
    have hbp : Below w.heap.size w (set3 (w3) w.heap.size (.int .i64 0) (.string ⟨#[]⟩) (.slice none 0 0)) := ((HBel3.out.setCell (Nat.le_refl _) _).setCell (Nat.le_refl _) _).setCell (Nat.le_refl _) _
    unfold set3 at hput hbp
    generalize (((w3).setCell ⟨w.heap.size, 0, none⟩ (.int .i64 0)).setCell ⟨w.heap.size, 1, none⟩ (.string ⟨#[]⟩)).setCell ⟨w.heap.size, 2, none⟩ (.slice none 0 0) = WW at hput hbp ⊢
    have r0 := hput.c0
    have r1 := hput.c1
    have r2 := hput.c2
    refine bodyPost_ret (v := .tuple #[rx 0 ⟨#[]⟩ (.slice none 0 0), .bool false]) ?_ rfl ⟨rfl, hbp⟩
    simp [results, Tryz.results78, go_sem, r0, r1, r2]
  · have hpi : ((p1 : Int) == (s.size : Int)) = false := by rw [beq_eq_false_iff_ne]; omega
    have hpd : ¬ ((p1 : Int) = (s.size : Int)) := by omega
    clear HT hpe
    go_wp2
    have hput := HB1.out.put (.int .i64 0) (.string ⟨#[]⟩) (.slice none 0 0)
    have hbp : Below w.heap.size w (set3 (w1.alloc (.cells #[.int .i64 tk, .string ts, .slice au t.l.length cu] 128)) w.heap.size (.int .i64 0) (.string ⟨#[]⟩) (.slice none 0 0)) := ((HBel1.out.setCell (Nat.le_refl _) _).setCell (Nat.le_refl _) _).setCell (Nat.le_refl _) _
    unfold set3 at hput hbp
    generalize (((w1.alloc (.cells #[.int .i64 tk, .string ts, .slice au t.l.length cu] 128)).setCell ⟨w.heap.size, 0, none⟩ (.int .i64 0)).setCell ⟨w.heap.size, 1, none⟩ (.string ⟨#[]⟩)).setCell ⟨w.heap.size, 2, none⟩ (.slice none 0 0) = WW at hput hbp ⊢
    have r0 := hput.c0
    have r1 := hput.c1
    have r2 := hput.c2
    refine bodyPost_ret (v := .tuple #[rx 0 ⟨#[]⟩ (.slice none 0 0), .bool false]) ?_ rfl ⟨rfl, hbp⟩
    simp [results, Tryz.results78, go_sem, r0, r1, r2]
end Go.Proofs.YtbbhikbdbndefaaGreat

namespace Go.Proofs.YtbbhikbdbndefaaGreat
open Go.RowKit
set_option maxRecDepth 8000

set_option maxHeartbeats 1000000 in
theorem l8Rex_any (s : ByteArray) (w : World) (hs : s.size ≤ 1048576) : Calls Tryz.prog 70 #[.string s] w fun e w' => e = .returned (.bool (rtB s)) ∧ Below w.heap.size w w' := by
  by_cases h : ∃ t, IsTx s t
  · obtain ⟨t, ht⟩ := h
    have HP := Hid.mk (fun w => specParse_yes s t w ht)
    have HR : Hid (rtB s = decide (s.size ≤ 200)) := by
      show _ = _
      by_cases h2 : s.size ≤ 200
      · rw [rt_yes h2 ht, decide_eq_true h2]
      · rw [rt_long (by omega), decide_eq_false h2]
    clear ht
    obtain ⟨k, hk⟩ : ∃ k, t.k = k := ⟨_, rfl⟩
    obtain ⟨ts, hts⟩ : ∃ ts, t.s = ts := ⟨_, rfl⟩
    rw [hk, hts] at HP
    rw [HR.out]
    clear hk hts HR
    have hd : decide ((s.size : Int) ≤ 200) = decide (s.size ≤ 200) := decide_eq_decide.2 (by omega)
    rw [← hd]
    clear hd
    go_enter Tryz.func70, Tryz.ntmps70
    go_wp2_with fail
    refine (HP.out _).mono ?_
    rintro e w1 ⟨u, rfl, ho, -, hb1⟩
    obtain ⟨au, cu, rfl⟩ := ho.value
    have HB := Hid.mk (fun o => hb1.alloc hb1.size o)
    clear HP hb1 ho
    go_wp2
    go_ret
    exact ⟨rfl, HB.out _⟩
  · have hno : ∀ t, ¬ IsTx s t := fun t ht => h ⟨t, ht⟩
    have H := Hid.mk (rt_no hno)
    have HP := Hid.mk (fun w => specParse_no s w hs hno)
    clear h hno
    go_enter Tryz.func70, Tryz.ntmps70
    go_wp2_with fail
    refine (HP.out _).mono ?_
    rintro e w1 ⟨rfl, hb1⟩
    have HB := Hid.mk (fun o => hb1.alloc hb1.size o)
    clear HP hb1
    go_wp2
    go_ret
    exact ⟨ret_tb H.out.symm, HB.out _⟩

theorem nodeN_n {k n : Int} {s : ByteArray} {L : Nat} (hk : k ≠ 1) (hn : n ≠ 0) : nodeN k n s L = false := by
  unfold nodeN
  rw [if_neg hk, beq_false_of_ne hn]
  rfl
theorem nodeN_2 (s : ByteArray) (L : Nat) : nodeN 2 0 s L = (prB 39 s && ((L : Int) == 0)) := by
  unfold nodeN nodeK
  rw [show ((L : Int) == 0) = (L == 0) from len_beq L 0]
  simp (decide := true) only [if_false, if_true, beq_self_eq_true, Bool.true_and]
theorem nodeN_3 (s : ByteArray) (L : Nat) : nodeN 3 0 s L = (nmB s && ((L : Int) == 0)) := by
  unfold nodeN nodeK
  rw [show ((L : Int) == 0) = (L == 0) from len_beq L 0]
  simp (decide := true) only [if_false, if_true, beq_self_eq_true, Bool.true_and]
theorem nodeN_4 (s : ByteArray) (L : Nat) : nodeN 4 0 s L = (nmB s && ((L : Int) == 1)) := by
  unfold nodeN nodeK
  rw [show ((L : Int) == 1) = (L == 1) from len_beq L 1]
  simp (decide := true) only [if_false, if_true, beq_self_eq_true, Bool.true_and]
theorem nodeN_5 (s : ByteArray) (L : Nat) : nodeN 5 0 s L = (s.toList.isEmpty && ((L : Int) == 1)) := by
  unfold nodeN nodeK
  rw [show ((L : Int) == 1) = (L == 1) from len_beq L 1]
  simp (decide := true) only [if_false, if_true, beq_self_eq_true, Bool.true_and]
theorem nodeN_6 (s : ByteArray) (L : Nat) : nodeN 6 0 s L = (opB s && ((L : Int) == 2)) := by
  unfold nodeN nodeK
  rw [show ((L : Int) == 2) = (L == 2) from len_beq L 2]
  simp (decide := true) only [if_false, if_true, beq_self_eq_true, Bool.true_and]
theorem nodeN_7 (s : ByteArray) (L : Nat) : nodeN 7 0 s L = (s.toList.isEmpty && ((L : Int) == 1)) := by
  unfold nodeN nodeK
  rw [show ((L : Int) == 1) = (L == 1) from len_beq L 1]
  simp (decide := true) only [if_false, if_true, beq_self_eq_true, Bool.true_and]
theorem nodeN_8 (s : ByteArray) (L : Nat) : nodeN 8 0 s L = (s.toList.isEmpty && ((L : Int) == 1)) := by
  unfold nodeN nodeK
  rw [show ((L : Int) == 1) = (L == 1) from len_beq L 1]
  simp (decide := true) only [if_false, if_true, beq_self_eq_true, Bool.true_and]
theorem nodeN_9 (s : ByteArray) (L : Nat) : nodeN 9 0 s L = (nmB s && ((L : Int) == 1)) := by
  unfold nodeN nodeK
  rw [show ((L : Int) == 1) = (L == 1) from len_beq L 1]
  simp (decide := true) only [if_false, if_true, beq_self_eq_true, Bool.true_and]
theorem nodeN_10 (s : ByteArray) (L : Nat) : nodeN 10 0 s L = (rtB s && ((L : Int) == 1)) := by
  unfold nodeN nodeK
  rw [show ((L : Int) == 1) = (L == 1) from len_beq L 1]
  simp (decide := true) only [if_false, if_true, beq_self_eq_true, Bool.true_and]
theorem nodeN_11 (s : ByteArray) (L : Nat) : nodeN 11 0 s L = (nmB s && decide (L ≤ 4)) := by
  unfold nodeN nodeK
  simp (decide := true) only [if_false, if_true, beq_self_eq_true, Bool.true_and]
theorem nodeN_12 (s : ByteArray) (L : Nat) : nodeN 12 0 s L = (s.toList.isEmpty && ((L : Int) == 1)) := by
  unfold nodeN nodeK
  rw [show ((L : Int) == 1) = (L == 1) from len_beq L 1]
  simp (decide := true) only [if_false, if_true, beq_self_eq_true, Bool.true_and]
theorem nodeN_13 (s : ByteArray) (L : Nat) : nodeN 13 0 s L = (s.toList.isEmpty && ((L : Int) == 3)) := by
  unfold nodeN nodeK
  rw [show ((L : Int) == 3) = (L == 3) from len_beq L 3]
  simp (decide := true) only [if_false, if_true, beq_self_eq_true, Bool.true_and]
theorem nodeN_14 (s : ByteArray) (L : Nat) : nodeN 14 0 s L = (s.toList.isEmpty && ((L : Int) == 0)) := by
  unfold nodeN nodeK
  rw [show ((L : Int) == 0) = (L == 0) from len_beq L 0]
  simp (decide := true) only [if_false, if_true, beq_self_eq_true, Bool.true_and]
theorem nodeN_15 (s : ByteArray) (L : Nat) : nodeN 15 0 s L = (s.toList.isEmpty && ((L : Int) == 0)) := by
  unfold nodeN nodeK
  rw [show ((L : Int) == 0) = (L == 0) from len_beq L 0]
  simp (decide := true) only [if_false, if_true, beq_self_eq_true, Bool.true_and]
theorem nodeN_16 (s : ByteArray) (L : Nat) : nodeN 16 0 s L = (s.toList.isEmpty && ((L : Int) == 2)) := by
  unfold nodeN nodeK
  rw [show ((L : Int) == 2) = (L == 2) from len_beq L 2]
  simp (decide := true) only [if_false, if_true, beq_self_eq_true, Bool.true_and]
theorem nodeN_17 (s : ByteArray) (L : Nat) : nodeN 17 0 s L = (s.toList.isEmpty && ((L : Int) == 1)) := by
  unfold nodeN nodeK
  rw [show ((L : Int) == 1) = (L == 1) from len_beq L 1]
  simp (decide := true) only [if_false, if_true, beq_self_eq_true, Bool.true_and]
theorem nodeN_18 (s : ByteArray) (L : Nat) : nodeN 18 0 s L = (rtB s && ((L : Int) == 2)) := by
  unfold nodeN nodeK
  rw [show ((L : Int) == 2) = (L == 2) from len_beq L 2]
  simp (decide := true) only [if_false, if_true, beq_self_eq_true, Bool.true_and]

set_option maxHeartbeats 1000000 in
theorem here_2 (s : ByteArray) (ao : Option Addr) (L cap : Nat) (w : World) (hs : s.size ≤ maxLen) : Calls Tryz.prog 60 #[xx 2 0 s (.slice ao L cap)] w fun e w' => e = .returned (.bool (nodeN 2 0 s L)) ∧ Below w.heap.size w w' := by
  have A0 : Below w.heap.size w (w.alloc (.cells #[.int .i64 2, .int .i64 0, .string s, .slice ao L cap] 46)) := (Below.refl _ _).alloc (Nat.le_refl _) _
  have HC := Hid.mk (fun w => l7Print_any s 39 w hs)
  rw [nodeN_2]
  generalize prB 39 s = b at *
  clear hs
  cases b with
  | false =>
    go_enter Tryz.func60, Tryz.ntmps60
    go_wp2_with fail
    refine (HC.out _).mono ?_
    rintro e w1 ⟨rfl, hw1⟩
    subst hw1
    have B1 := A0
    clear A0 HC
    go_wp2
    go_ret
    exact ⟨rfl, B1⟩
  | true =>
    go_enter Tryz.func60, Tryz.ntmps60
    go_wp2_with fail
    refine (HC.out _).mono ?_
    rintro e w1 ⟨rfl, hw1⟩
    subst hw1
    have B1 := A0
    clear A0 HC
    go_wp2
    go_ret
    exact ⟨ret_tb (by simp), B1⟩

set_option maxHeartbeats 1000000 in
theorem here_3 (s : ByteArray) (ao : Option Addr) (L cap : Nat) (w : World) (hs : s.size ≤ maxLen) : Calls Tryz.prog 60 #[xx 3 0 s (.slice ao L cap)] w fun e w' => e = .returned (.bool (nodeN 3 0 s L)) ∧ Below w.heap.size w w' := by
  have A0 : Below w.heap.size w (w.alloc (.cells #[.int .i64 3, .int .i64 0, .string s, .slice ao L cap] 46)) := (Below.refl _ _).alloc (Nat.le_refl _) _
  have HC := Hid.mk (fun w => specNameOk_any s w hs)
  rw [nodeN_3]
  generalize nmB s = b at *
  clear hs
  cases b with
  | false =>
    go_enter Tryz.func60, Tryz.ntmps60
    go_wp2_with fail
    refine (HC.out _).mono ?_
    rintro e w1 ⟨rfl, hb1⟩
    have B1 := A0.trans (hb1.mono (by simp))
    have hc1 := fun o => hb1.cell (p := ⟨w.heap.size, o, none⟩) (by simp)
    clear A0 hb1 HC
    go_wp2
    go_ret
    exact ⟨rfl, B1⟩
  | true =>
    go_enter Tryz.func60, Tryz.ntmps60
    go_wp2_with fail
    refine (HC.out _).mono ?_
    rintro e w1 ⟨rfl, hb1⟩
    have B1 := A0.trans (hb1.mono (by simp))
    have hc1 := fun o => hb1.cell (p := ⟨w.heap.size, o, none⟩) (by simp)
    clear A0 hb1 HC
    go_wp2
    go_ret
    exact ⟨ret_tb (by simp), B1⟩

set_option maxHeartbeats 1000000 in
theorem here_4 (s : ByteArray) (ao : Option Addr) (L cap : Nat) (w : World) (hs : s.size ≤ maxLen) : Calls Tryz.prog 60 #[xx 4 0 s (.slice ao L cap)] w fun e w' => e = .returned (.bool (nodeN 4 0 s L)) ∧ Below w.heap.size w w' := by
  have A0 : Below w.heap.size w (w.alloc (.cells #[.int .i64 4, .int .i64 0, .string s, .slice ao L cap] 46)) := (Below.refl _ _).alloc (Nat.le_refl _) _
  have HC := Hid.mk (fun w => specNameOk_any s w hs)
  rw [nodeN_4]
  generalize nmB s = b at *
  clear hs
  cases b with
  | false =>
    go_enter Tryz.func60, Tryz.ntmps60
    go_wp2_with fail
    refine (HC.out _).mono ?_
    rintro e w1 ⟨rfl, hb1⟩
    have B1 := A0.trans (hb1.mono (by simp))
    have hc1 := fun o => hb1.cell (p := ⟨w.heap.size, o, none⟩) (by simp)
    clear A0 hb1 HC
    go_wp2
    go_ret
    exact ⟨rfl, B1⟩
  | true =>
    go_enter Tryz.func60, Tryz.ntmps60
    go_wp2_with fail
    refine (HC.out _).mono ?_
    rintro e w1 ⟨rfl, hb1⟩
    have B1 := A0.trans (hb1.mono (by simp))
    have hc1 := fun o => hb1.cell (p := ⟨w.heap.size, o, none⟩) (by simp)
    clear A0 hb1 HC
    go_wp2
    go_ret
    exact ⟨ret_tb (by simp), B1⟩

set_option maxHeartbeats 1000000 in
theorem here_5 (s : ByteArray) (ao : Option Addr) (L cap : Nat) (w : World) : Calls Tryz.prog 60 #[xx 5 0 s (.slice ao L cap)] w fun e w' => e = .returned (.bool (nodeN 5 0 s L)) ∧ Below w.heap.size w w' := by
  have A0 : Below w.heap.size w (w.alloc (.cells #[.int .i64 5, .int .i64 0, .string s, .slice ao L cap] 46)) := (Below.refl _ _).alloc (Nat.le_refl _) _
  rw [nodeN_5]
  cases h : s.toList.isEmpty with
  | false =>
    go_enter Tryz.func60, Tryz.ntmps60
    go_wp2
    go_ret
    exact ⟨rfl, A0⟩
  | true =>
    go_enter Tryz.func60, Tryz.ntmps60
    go_wp2
    go_ret
    exact ⟨ret_tb (by simp), A0⟩

set_option maxHeartbeats 1000000 in
theorem here_7 (s : ByteArray) (ao : Option Addr) (L cap : Nat) (w : World) : Calls Tryz.prog 60 #[xx 7 0 s (.slice ao L cap)] w fun e w' => e = .returned (.bool (nodeN 7 0 s L)) ∧ Below w.heap.size w w' := by
  have A0 : Below w.heap.size w (w.alloc (.cells #[.int .i64 7, .int .i64 0, .string s, .slice ao L cap] 46)) := (Below.refl _ _).alloc (Nat.le_refl _) _
  rw [nodeN_7]
  cases h : s.toList.isEmpty with
  | false =>
    go_enter Tryz.func60, Tryz.ntmps60
    go_wp2
    go_ret
    exact ⟨rfl, A0⟩
  | true =>
    go_enter Tryz.func60, Tryz.ntmps60
    go_wp2
    go_ret
    exact ⟨ret_tb (by simp), A0⟩

set_option maxHeartbeats 1000000 in
theorem here_8 (s : ByteArray) (ao : Option Addr) (L cap : Nat) (w : World) : Calls Tryz.prog 60 #[xx 8 0 s (.slice ao L cap)] w fun e w' => e = .returned (.bool (nodeN 8 0 s L)) ∧ Below w.heap.size w w' := by
  have A0 : Below w.heap.size w (w.alloc (.cells #[.int .i64 8, .int .i64 0, .string s, .slice ao L cap] 46)) := (Below.refl _ _).alloc (Nat.le_refl _) _
  rw [nodeN_8]
  cases h : s.toList.isEmpty with
  | false =>
    go_enter Tryz.func60, Tryz.ntmps60
    go_wp2
    go_ret
    exact ⟨rfl, A0⟩
  | true =>
    go_enter Tryz.func60, Tryz.ntmps60
    go_wp2
    go_ret
    exact ⟨ret_tb (by simp), A0⟩

set_option maxHeartbeats 1000000 in
theorem here_9 (s : ByteArray) (ao : Option Addr) (L cap : Nat) (w : World) (hs : s.size ≤ maxLen) : Calls Tryz.prog 60 #[xx 9 0 s (.slice ao L cap)] w fun e w' => e = .returned (.bool (nodeN 9 0 s L)) ∧ Below w.heap.size w w' := by
  have A0 : Below w.heap.size w (w.alloc (.cells #[.int .i64 9, .int .i64 0, .string s, .slice ao L cap] 46)) := (Below.refl _ _).alloc (Nat.le_refl _) _
  have HC := Hid.mk (fun w => specNameOk_any s w hs)
  rw [nodeN_9]
  generalize nmB s = b at *
  clear hs
  cases b with
  | false =>
    go_enter Tryz.func60, Tryz.ntmps60
    go_wp2_with fail
    refine (HC.out _).mono ?_
    rintro e w1 ⟨rfl, hb1⟩
    have B1 := A0.trans (hb1.mono (by simp))
    have hc1 := fun o => hb1.cell (p := ⟨w.heap.size, o, none⟩) (by simp)
    clear A0 hb1 HC
    go_wp2
    go_ret
    exact ⟨rfl, B1⟩
  | true =>
    go_enter Tryz.func60, Tryz.ntmps60
    go_wp2_with fail
    refine (HC.out _).mono ?_
    rintro e w1 ⟨rfl, hb1⟩
    have B1 := A0.trans (hb1.mono (by simp))
    have hc1 := fun o => hb1.cell (p := ⟨w.heap.size, o, none⟩) (by simp)
    clear A0 hb1 HC
    go_wp2
    go_ret
    exact ⟨ret_tb (by simp), B1⟩

set_option maxHeartbeats 1000000 in
theorem here_10 (s : ByteArray) (ao : Option Addr) (L cap : Nat) (w : World) (hs : s.size ≤ 1048576) : Calls Tryz.prog 60 #[xx 10 0 s (.slice ao L cap)] w fun e w' => e = .returned (.bool (nodeN 10 0 s L)) ∧ Below w.heap.size w w' := by
  have A0 : Below w.heap.size w (w.alloc (.cells #[.int .i64 10, .int .i64 0, .string s, .slice ao L cap] 46)) := (Below.refl _ _).alloc (Nat.le_refl _) _
  have HC := Hid.mk (fun w => l8Rex_any s w hs)
  rw [nodeN_10]
  generalize rtB s = b at *
  clear hs
  cases b with
  | false =>
    go_enter Tryz.func60, Tryz.ntmps60
    go_wp2_with fail
    refine (HC.out _).mono ?_
    rintro e w1 ⟨rfl, hb1⟩
    have B1 := A0.trans (hb1.mono (by simp))
    have hc1 := fun o => hb1.cell (p := ⟨w.heap.size, o, none⟩) (by simp)
    clear A0 hb1 HC
    go_wp2
    go_ret
    exact ⟨rfl, B1⟩
  | true =>
    go_enter Tryz.func60, Tryz.ntmps60
    go_wp2_with fail
    refine (HC.out _).mono ?_
    rintro e w1 ⟨rfl, hb1⟩
    have B1 := A0.trans (hb1.mono (by simp))
    have hc1 := fun o => hb1.cell (p := ⟨w.heap.size, o, none⟩) (by simp)
    clear A0 hb1 HC
    go_wp2
    go_ret
    exact ⟨ret_tb (by simp), B1⟩

set_option maxHeartbeats 1000000 in
theorem here_11 (s : ByteArray) (ao : Option Addr) (L cap : Nat) (w : World) (hs : s.size ≤ maxLen) : Calls Tryz.prog 60 #[xx 11 0 s (.slice ao L cap)] w fun e w' => e = .returned (.bool (nodeN 11 0 s L)) ∧ Below w.heap.size w w' := by
  have A0 : Below w.heap.size w (w.alloc (.cells #[.int .i64 11, .int .i64 0, .string s, .slice ao L cap] 46)) := (Below.refl _ _).alloc (Nat.le_refl _) _
  have HC := Hid.mk (fun w => specNameOk_any s w hs)
  rw [nodeN_11]
  generalize nmB s = b at *
  clear hs
  cases b with
  | false =>
    go_enter Tryz.func60, Tryz.ntmps60
    go_wp2_with fail
    refine (HC.out _).mono ?_
    rintro e w1 ⟨rfl, hb1⟩
    have B1 := A0.trans (hb1.mono (by simp))
    have hc1 := fun o => hb1.cell (p := ⟨w.heap.size, o, none⟩) (by simp)
    clear A0 hb1 HC
    go_wp2
    go_ret
    exact ⟨rfl, B1⟩
  | true =>
    by_cases h4 : L ≤ 4
    · have hi : (L : Int) ≤ 4 := by omega
      rw [decide_eq_true h4]
      clear h4
      go_enter Tryz.func60, Tryz.ntmps60
      go_wp2_with fail
      refine (HC.out _).mono ?_
      rintro e w1 ⟨rfl, hb1⟩
      have B1 := A0.trans (hb1.mono (by simp))
      have hc1 := fun o => hb1.cell (p := ⟨w.heap.size, o, none⟩) (by simp)
      clear A0 hb1 HC
      go_wp2
      go_ret
      exact ⟨rfl, B1⟩
    · have hi : ¬ (L : Int) ≤ 4 := by omega
      rw [decide_eq_false h4]
      clear h4
      go_enter Tryz.func60, Tryz.ntmps60
      go_wp2_with fail
      refine (HC.out _).mono ?_
      rintro e w1 ⟨rfl, hb1⟩
      have B1 := A0.trans (hb1.mono (by simp))
      have hc1 := fun o => hb1.cell (p := ⟨w.heap.size, o, none⟩) (by simp)
      clear A0 hb1 HC
      go_wp2
      go_ret
      exact ⟨ret_tb (by simp; omega), B1⟩

set_option maxHeartbeats 1000000 in
theorem here_12 (s : ByteArray) (ao : Option Addr) (L cap : Nat) (w : World) : Calls Tryz.prog 60 #[xx 12 0 s (.slice ao L cap)] w fun e w' => e = .returned (.bool (nodeN 12 0 s L)) ∧ Below w.heap.size w w' := by
  have A0 : Below w.heap.size w (w.alloc (.cells #[.int .i64 12, .int .i64 0, .string s, .slice ao L cap] 46)) := (Below.refl _ _).alloc (Nat.le_refl _) _
  rw [nodeN_12]
  cases h : s.toList.isEmpty with
  | false =>
    go_enter Tryz.func60, Tryz.ntmps60
    go_wp2
    go_ret
    exact ⟨rfl, A0⟩
  | true =>
    go_enter Tryz.func60, Tryz.ntmps60
    go_wp2
    go_ret
    exact ⟨ret_tb (by simp), A0⟩

set_option maxHeartbeats 1000000 in
theorem here_13 (s : ByteArray) (ao : Option Addr) (L cap : Nat) (w : World) : Calls Tryz.prog 60 #[xx 13 0 s (.slice ao L cap)] w fun e w' => e = .returned (.bool (nodeN 13 0 s L)) ∧ Below w.heap.size w w' := by
  have A0 : Below w.heap.size w (w.alloc (.cells #[.int .i64 13, .int .i64 0, .string s, .slice ao L cap] 46)) := (Below.refl _ _).alloc (Nat.le_refl _) _
  rw [nodeN_13]
  cases h : s.toList.isEmpty with
  | false =>
    go_enter Tryz.func60, Tryz.ntmps60
    go_wp2
    go_ret
    exact ⟨rfl, A0⟩
  | true =>
    go_enter Tryz.func60, Tryz.ntmps60
    go_wp2
    go_ret
    exact ⟨ret_tb (by simp), A0⟩

set_option maxHeartbeats 1000000 in
theorem here_14 (s : ByteArray) (ao : Option Addr) (L cap : Nat) (w : World) : Calls Tryz.prog 60 #[xx 14 0 s (.slice ao L cap)] w fun e w' => e = .returned (.bool (nodeN 14 0 s L)) ∧ Below w.heap.size w w' := by
  have A0 : Below w.heap.size w (w.alloc (.cells #[.int .i64 14, .int .i64 0, .string s, .slice ao L cap] 46)) := (Below.refl _ _).alloc (Nat.le_refl _) _
  rw [nodeN_14]
  cases h : s.toList.isEmpty with
  | false =>
    go_enter Tryz.func60, Tryz.ntmps60
    go_wp2
    go_ret
    exact ⟨rfl, A0⟩
  | true =>
    go_enter Tryz.func60, Tryz.ntmps60
    go_wp2
    go_ret
    exact ⟨ret_tb (by simp), A0⟩

set_option maxHeartbeats 1000000 in
theorem here_15 (s : ByteArray) (ao : Option Addr) (L cap : Nat) (w : World) : Calls Tryz.prog 60 #[xx 15 0 s (.slice ao L cap)] w fun e w' => e = .returned (.bool (nodeN 15 0 s L)) ∧ Below w.heap.size w w' := by
  have A0 : Below w.heap.size w (w.alloc (.cells #[.int .i64 15, .int .i64 0, .string s, .slice ao L cap] 46)) := (Below.refl _ _).alloc (Nat.le_refl _) _
  rw [nodeN_15]
  cases h : s.toList.isEmpty with
  | false =>
    go_enter Tryz.func60, Tryz.ntmps60
    go_wp2
    go_ret
    exact ⟨rfl, A0⟩
  | true =>
    go_enter Tryz.func60, Tryz.ntmps60
    go_wp2
    go_ret
    exact ⟨ret_tb (by simp), A0⟩

set_option maxHeartbeats 1000000 in
theorem here_16 (s : ByteArray) (ao : Option Addr) (L cap : Nat) (w : World) : Calls Tryz.prog 60 #[xx 16 0 s (.slice ao L cap)] w fun e w' => e = .returned (.bool (nodeN 16 0 s L)) ∧ Below w.heap.size w w' := by
  have A0 : Below w.heap.size w (w.alloc (.cells #[.int .i64 16, .int .i64 0, .string s, .slice ao L cap] 46)) := (Below.refl _ _).alloc (Nat.le_refl _) _
  rw [nodeN_16]
  cases h : s.toList.isEmpty with
  | false =>
    go_enter Tryz.func60, Tryz.ntmps60
    go_wp2
    go_ret
    exact ⟨rfl, A0⟩
  | true =>
    go_enter Tryz.func60, Tryz.ntmps60
    go_wp2
    go_ret
    exact ⟨ret_tb (by simp), A0⟩

set_option maxHeartbeats 1000000 in
theorem here_17 (s : ByteArray) (ao : Option Addr) (L cap : Nat) (w : World) : Calls Tryz.prog 60 #[xx 17 0 s (.slice ao L cap)] w fun e w' => e = .returned (.bool (nodeN 17 0 s L)) ∧ Below w.heap.size w w' := by
  have A0 : Below w.heap.size w (w.alloc (.cells #[.int .i64 17, .int .i64 0, .string s, .slice ao L cap] 46)) := (Below.refl _ _).alloc (Nat.le_refl _) _
  rw [nodeN_17]
  cases h : s.toList.isEmpty with
  | false =>
    go_enter Tryz.func60, Tryz.ntmps60
    go_wp2
    go_ret
    exact ⟨rfl, A0⟩
  | true =>
    go_enter Tryz.func60, Tryz.ntmps60
    go_wp2
    go_ret
    exact ⟨ret_tb (by simp), A0⟩

set_option maxHeartbeats 1000000 in
theorem here_18 (s : ByteArray) (ao : Option Addr) (L cap : Nat) (w : World) (hs : s.size ≤ 1048576) : Calls Tryz.prog 60 #[xx 18 0 s (.slice ao L cap)] w fun e w' => e = .returned (.bool (nodeN 18 0 s L)) ∧ Below w.heap.size w w' := by
  have A0 : Below w.heap.size w (w.alloc (.cells #[.int .i64 18, .int .i64 0, .string s, .slice ao L cap] 46)) := (Below.refl _ _).alloc (Nat.le_refl _) _
  have HC := Hid.mk (fun w => l8Rex_any s w hs)
  rw [nodeN_18]
  generalize rtB s = b at *
  clear hs
  cases b with
  | false =>
    go_enter Tryz.func60, Tryz.ntmps60
    go_wp2_with fail
    refine (HC.out _).mono ?_
    rintro e w1 ⟨rfl, hb1⟩
    have B1 := A0.trans (hb1.mono (by simp))
    have hc1 := fun o => hb1.cell (p := ⟨w.heap.size, o, none⟩) (by simp)
    clear A0 hb1 HC
    go_wp2
    go_ret
    exact ⟨rfl, B1⟩
  | true =>
    go_enter Tryz.func60, Tryz.ntmps60
    go_wp2_with fail
    refine (HC.out _).mono ?_
    rintro e w1 ⟨rfl, hb1⟩
    have B1 := A0.trans (hb1.mono (by simp))
    have hc1 := fun o => hb1.cell (p := ⟨w.heap.size, o, none⟩) (by simp)
    clear A0 hb1 HC
    go_wp2
    go_ret
    exact ⟨ret_tb (by simp), B1⟩

set_option maxHeartbeats 1000000 in
theorem here_6 (s : ByteArray) (ao : Option Addr) (L cap : Nat) (w : World) : Calls Tryz.prog 60 #[xx 6 0 s (.slice ao L cap)] w fun e w' => e = .returned (.bool (nodeN 6 0 s L)) ∧ Below w.heap.size w w' := by
  have A0 : Below w.heap.size w (w.alloc (.cells #[.int .i64 6, .int .i64 0, .string s, .slice ao L cap] 46)) := (Below.refl _ _).alloc (Nat.le_refl _) _
  have HO := Hid.mk (fun w => l8Ops_any w)
  have HH := Hid.mk (fun (w' : World) (lb : Nat) (h : Strs w' lb opsS) => l8Has_any opsS lb 14 s w' h rfl (by omega))
  rw [nodeN_6]
  rw [ops_has] at HH
  generalize opB s = b at *
  have c2 : (w.alloc (.cells #[.int .i64 6, .int .i64 0, .string s, .slice ao L cap] 46)).cell? ⟨w.heap.size, 2, none⟩ = some (.string s) := by
    have := heap_alloc_new w (.cells #[.int .i64 6, .int .i64 0, .string s, .slice ao L cap] 46)
    rw [cell_of_row _ w.heap.size 2 _ _ (0, 0) this]
    rfl
  cases b with
  | false =>
    go_enter Tryz.func60, Tryz.ntmps60
    go_wp2_with fail
    generalize w.alloc (.cells #[.int .i64 6, .int .i64 0, .string s, .slice ao L cap] 46) = W at A0 c2 ⊢
    have hlt : w.heap.size < W.heap.size := World.block_lt_of_cell? W _ c2
    have S0 : Below W.heap.size W W.drew := Below.drewSelf _ _ 1
    have HBW := Hid.mk (fun w' (h : Below W.heap.size W w') => A0.trans (h.mono A0.size))
    refine wp_region_held_drew (S := Below W.heap.size W) (by kernel_rfl) S0 (fun _ => ?_)
    refine takeHD (i := 1) (v := .pointer (some ⟨w.heap.size, 2, none⟩)) (some 62) rfl rfl (by kernel_rfl) (by kernel_rfl) (by kernel_rfl) (fun _ _ _ h => h) (Or.inl ⟨by kernel_rfl, fun w' hw => ?_⟩) S0 ?_
    · kernel_rfl
    simp only [Act.put, List.setIfInBounds_toArray]
    refine takeHD (i := 2) (v := .string s) (some 63) rfl rfl (by kernel_rfl) (by kernel_rfl) (by kernel_rfl) (fun _ _ _ h => h) (Or.inl ⟨by kernel_rfl, fun w' hw => ?_⟩) S0 ?_
    · have y : w'.cell? ⟨w.heap.size, 2, none⟩ = some (.string s) := by rw [hw.cell (p := ⟨w.heap.size, 2, none⟩) hlt]; exact c2
      go_simp
    simp only [Act.put, List.setIfInBounds_toArray]
    refine wpAnyH_ready (rs := [0]) (by kernel_rfl) (by simp) ?_
    refine AllReadyH.cons rfl (fun K hK => ?_) AllReadyH.nil
    rw [if_pos (by kernel_rfl)]
    go_wp2_with fail
    refine (HO.out _).mono ?_
    rintro e q1 ⟨rfl, hst, hbq1⟩
    have S1 : Below W.heap.size W q1 := S0.trans (hbq1.mono S0.size)
    refine hK.out _ _ S1 (fun _ => ?_)
    clear hK K hbq1
    refine wpAnyH_ready (rs := [3]) (by kernel_rfl) (by simp) ?_
    refine AllReadyH.cons rfl (fun K hK => ?_) AllReadyH.nil
    rw [if_pos (by kernel_rfl)]
    go_wp2_with fail
    refine (HH.out _ _ hst).mono ?_
    rintro e q2 ⟨rfl, hq2⟩
    subst hq2
    refine hK.out _ _ S1 (fun _ => ?_)
    clear hK K
    refine takeHD (i := 4) (v := .bool false) (some 65) rfl rfl (by kernel_rfl) (by kernel_rfl) (by kernel_rfl) (fun _ _ _ h => h) (Or.inl ⟨by kernel_rfl, fun w' hw => ?_⟩) S1 ?_
    · kernel_rfl
    simp only [Act.put, List.setIfInBounds_toArray]
    refine takeHD (i := 5) (v := undef) (some 66) rfl rfl (by kernel_rfl) (by kernel_rfl) (by kernel_rfl) (fun _ _ _ h => h) (Or.inr ⟨by kernel_rfl, rfl⟩) S1 ?_
    simp only [Act.put, List.setIfInBounds_toArray]
    refine takeHD (i := 6) (v := undef) (some 67) rfl rfl (by kernel_rfl) (by kernel_rfl) (by kernel_rfl) (fun _ _ _ h => h) (Or.inr ⟨by kernel_rfl, rfl⟩) S1 ?_
    simp only [Act.put, List.setIfInBounds_toArray]
    refine takeHD (i := 7) (v := .bool false) (some 68) rfl rfl (by kernel_rfl) (by kernel_rfl) (by kernel_rfl) (fun _ _ _ h => h) (Or.inl ⟨by kernel_rfl, fun w' hw => ?_⟩) S1 ?_
    · kernel_rfl
    simp only [Act.put, List.setIfInBounds_toArray]
    refine takeHD (i := 8) (v := .bool false) (some 2) rfl rfl (by kernel_rfl) (by kernel_rfl) (by kernel_rfl) (fun _ _ _ h => h) (Or.inl ⟨by kernel_rfl, fun w' hw => ?_⟩) S1 ?_
    · kernel_rfl
    simp only [Act.put, List.setIfInBounds_toArray]
    refine wpAnyH_done (by kernel_rfl) ?_ _
    have B9 := HBW.out _ S1
    go_wp2
    go_ret
    exact ⟨rfl, B9⟩
  | true =>
    go_enter Tryz.func60, Tryz.ntmps60
    go_wp2_with fail
    generalize w.alloc (.cells #[.int .i64 6, .int .i64 0, .string s, .slice ao L cap] 46) = W at A0 c2 ⊢
    have hlt : w.heap.size < W.heap.size := World.block_lt_of_cell? W _ c2
    have S0 : Below W.heap.size W W.drew := Below.drewSelf _ _ 1
    have HBW := Hid.mk (fun w' (h : Below W.heap.size W w') => A0.trans (h.mono A0.size))
    refine wp_region_held_drew (S := Below W.heap.size W) (by kernel_rfl) S0 (fun _ => ?_)
    refine takeHD (i := 1) (v := .pointer (some ⟨w.heap.size, 2, none⟩)) (some 62) rfl rfl (by kernel_rfl) (by kernel_rfl) (by kernel_rfl) (fun _ _ _ h => h) (Or.inl ⟨by kernel_rfl, fun w' hw => ?_⟩) S0 ?_
    · kernel_rfl
    simp only [Act.put, List.setIfInBounds_toArray]
    refine takeHD (i := 2) (v := .string s) (some 63) rfl rfl (by kernel_rfl) (by kernel_rfl) (by kernel_rfl) (fun _ _ _ h => h) (Or.inl ⟨by kernel_rfl, fun w' hw => ?_⟩) S0 ?_
    · have y : w'.cell? ⟨w.heap.size, 2, none⟩ = some (.string s) := by rw [hw.cell (p := ⟨w.heap.size, 2, none⟩) hlt]; exact c2
      go_simp
    simp only [Act.put, List.setIfInBounds_toArray]
    refine wpAnyH_ready (rs := [0]) (by kernel_rfl) (by simp) ?_
    refine AllReadyH.cons rfl (fun K hK => ?_) AllReadyH.nil
    rw [if_pos (by kernel_rfl)]
    go_wp2_with fail
    refine (HO.out _).mono ?_
    rintro e q1 ⟨rfl, hst, hbq1⟩
    have S1 : Below W.heap.size W q1 := S0.trans (hbq1.mono S0.size)
    refine hK.out _ _ S1 (fun _ => ?_)
    clear hK K hbq1
    refine wpAnyH_ready (rs := [3]) (by kernel_rfl) (by simp) ?_
    refine AllReadyH.cons rfl (fun K hK => ?_) AllReadyH.nil
    rw [if_pos (by kernel_rfl)]
    go_wp2_with fail
    refine (HH.out _ _ hst).mono ?_
    rintro e q2 ⟨rfl, hq2⟩
    subst hq2
    refine hK.out _ _ S1 (fun _ => ?_)
    clear hK K
    refine takeHD (i := 4) (v := .bool true) (some 65) rfl rfl (by kernel_rfl) (by kernel_rfl) (by kernel_rfl) (fun _ _ _ h => h) (Or.inl ⟨by kernel_rfl, fun w' hw => ?_⟩) S1 ?_
    · kernel_rfl
    simp only [Act.put, List.setIfInBounds_toArray]
    refine takeHD (i := 5) (v := .int .i64 (L : Int)) (some 66) rfl rfl (by kernel_rfl) (by kernel_rfl) (by kernel_rfl) (fun _ _ _ h => h) (Or.inl ⟨by kernel_rfl, fun w' hw => ?_⟩) S1 ?_
    · kernel_rfl
    simp only [Act.put, List.setIfInBounds_toArray]
    refine takeHD (i := 6) (v := .bool ((L : Int) == 2)) (some 67) rfl rfl (by kernel_rfl) (by kernel_rfl) (by kernel_rfl) (fun _ _ _ h => h) (Or.inl ⟨by kernel_rfl, fun w' hw => ?_⟩) S1 ?_
    · go_simp
    simp only [Act.put, List.setIfInBounds_toArray]
    refine takeHD (i := 7) (v := .bool ((L : Int) == 2)) (some 68) rfl rfl (by kernel_rfl) (by kernel_rfl) (by kernel_rfl) (fun _ _ _ h => h) (Or.inl ⟨by kernel_rfl, fun w' hw => ?_⟩) S1 ?_
    · kernel_rfl
    simp only [Act.put, List.setIfInBounds_toArray]
    refine takeHD (i := 8) (v := .bool ((L : Int) == 2)) (some 2) rfl rfl (by kernel_rfl) (by kernel_rfl) (by kernel_rfl) (fun _ _ _ h => h) (Or.inl ⟨by kernel_rfl, fun w' hw => ?_⟩) S1 ?_
    · kernel_rfl
    simp only [Act.put, List.setIfInBounds_toArray]
    refine wpAnyH_done (by kernel_rfl) ?_ _
    have B9 := HBW.out _ S1
    go_wp2
    go_ret
    exact ⟨ret_tb (by simp), B9⟩

set_option maxHeartbeats 1000000 in
theorem here_1 (n : Int) (s : ByteArray) (ao : Option Addr) (L cap : Nat) (w : World) : Calls Tryz.prog 60 #[xx 1 n s (.slice ao L cap)] w fun e w' => e = .returned (.bool (nodeN 1 n s L)) ∧ Below w.heap.size w w' := by
  have A0 : Below w.heap.size w (w.alloc (.cells #[.int .i64 1, .int .i64 n, .string s, .slice ao L cap] 46)) := (Below.refl _ _).alloc (Nat.le_refl _) _
  have HE : Hid (nodeN 1 n s L = (bwB 0 2147483647 n && (s.toList.isEmpty && ((L : Int) == 0)))) := by
    show _ = _
    unfold nodeN nodeK
    rw [if_pos rfl, if_pos rfl, show ((L : Int) == 0) = (L == 0) from len_beq L 0]
  rw [HE.out]
  have HB := Hid.mk (fun w => l1Bw_any n 0 2147483647 w)
  generalize bwB 0 2147483647 n = b at *
  clear HE
  cases b with
  | false =>
    go_enter Tryz.func60, Tryz.ntmps60
    go_wp2_with fail
    refine (HB.out _).mono ?_
    rintro e w1 ⟨rfl, hw1⟩
    subst hw1
    go_wp2
    go_ret
    exact ⟨rfl, A0⟩
  | true =>
    cases h : s.toList.isEmpty with
    | false =>
      go_enter Tryz.func60, Tryz.ntmps60
      go_wp2_with fail
      refine (HB.out _).mono ?_
      rintro e w1 ⟨rfl, hw1⟩
      subst hw1
      go_wp2
      go_ret
      exact ⟨rfl, A0⟩
    | true =>
      go_enter Tryz.func60, Tryz.ntmps60
      go_wp2_with fail
      refine (HB.out _).mono ?_
      rintro e w1 ⟨rfl, hw1⟩
      subst hw1
      go_wp2
      go_ret
      exact ⟨ret_tb (by simp), A0⟩

set_option maxHeartbeats 1000000 in
theorem here_n (k n : Int) (s : ByteArray) (ao : Option Addr) (L cap : Nat) (w : World) (h1 : (k != 1) = true) (hn : (n != 0) = true) : Calls Tryz.prog 60 #[xx k n s (.slice ao L cap)] w fun e w' => e = .returned (.bool (false)) ∧ Below w.heap.size w w' := by
  have A0 : Below w.heap.size w (w.alloc (.cells #[.int .i64 k, .int .i64 n, .string s, .slice ao L cap] 46)) := (Below.refl _ _).alloc (Nat.le_refl _) _
  go_enter Tryz.func60, Tryz.ntmps60
  go_wp2
  go_ret
  exact ⟨rfl, A0⟩

set_option maxHeartbeats 1000000 in
theorem here_x (k n : Int) (s : ByteArray) (ao : Option Addr) (L cap : Nat) (w : World) (h1 : (k != 1) = true) (e1 : (k == 1) = false) (e2 : (k == 2) = false) (e3 : (k == 3) = false) (e4 : (k == 4) = false) (e9 : (k == 9) = false) (e6 : (k == 6) = false) (e10 : (k == 10) = false) (e18 : (k == 18) = false) (e11 : (k == 11) = false) (e5 : (k == 5) = false) (e7 : (k == 7) = false) (e8 : (k == 8) = false) (e12 : (k == 12) = false) (e17 : (k == 17) = false) (e13 : (k == 13) = false) (e16 : (k == 16) = false) (e14 : (k == 14) = false) (e15 : (k == 15) = false) : Calls Tryz.prog 60 #[xx k n s (.slice ao L cap)] w fun e w' => e = .returned (.bool (false)) ∧ Below w.heap.size w w' := by
  have A0 : Below w.heap.size w (w.alloc (.cells #[.int .i64 k, .int .i64 n, .string s, .slice ao L cap] 46)) := (Below.refl _ _).alloc (Nat.le_refl _) _
  cases hn : (n != 0) with
  | true =>
    go_enter Tryz.func60, Tryz.ntmps60
    go_wp2
    go_ret
    exact ⟨rfl, A0⟩
  | false =>
    go_enter Tryz.func60, Tryz.ntmps60
    go_wp2
    go_ret
    exact ⟨rfl, A0⟩

theorem l8Here_any (k n : Int) (s : ByteArray) (ao : Option Addr) (L cap : Nat) (w : World) (hm : s.size ≤ 1048576) : Calls Tryz.prog 60 #[xx k n s (.slice ao L cap)] w fun e w' => e = .returned (.bool (nodeN k n s L)) ∧ Below w.heap.size w w' := by
  have hs : s.size ≤ maxLen := by unfold maxLen; omega
  by_cases h1 : k = 1
  · subst h1; exact here_1 n s ao L cap w
  by_cases hn : n = 0
  rotate_left
  · rw [nodeN_n h1 hn]
    exact here_n k n s ao L cap w (by simpa using h1) (by simpa using hn)
  subst hn
  by_cases h2 : k = 2
  · subst h2; exact here_2 s ao L cap w hs
  by_cases h3 : k = 3
  · subst h3; exact here_3 s ao L cap w hs
  by_cases h4 : k = 4
  · subst h4; exact here_4 s ao L cap w hs
  by_cases h9 : k = 9
  · subst h9; exact here_9 s ao L cap w hs
  by_cases h6 : k = 6
  · subst h6; exact here_6 s ao L cap w
  by_cases h10 : k = 10
  · subst h10; exact here_10 s ao L cap w hm
  by_cases h18 : k = 18
  · subst h18; exact here_18 s ao L cap w hm
  by_cases h11 : k = 11
  · subst h11; exact here_11 s ao L cap w hs
  by_cases h5 : k = 5
  · subst h5; exact here_5 s ao L cap w
  by_cases h7 : k = 7
  · subst h7; exact here_7 s ao L cap w
  by_cases h8 : k = 8
  · subst h8; exact here_8 s ao L cap w
  by_cases h12 : k = 12
  · subst h12; exact here_12 s ao L cap w
  by_cases h17 : k = 17
  · subst h17; exact here_17 s ao L cap w
  by_cases h13 : k = 13
  · subst h13; exact here_13 s ao L cap w
  by_cases h16 : k = 16
  · subst h16; exact here_16 s ao L cap w
  by_cases h14 : k = 14
  · subst h14; exact here_14 s ao L cap w
  by_cases h15 : k = 15
  · subst h15; exact here_15 s ao L cap w
  rw [ex_eqx 0 s L (by omega)]
  exact here_x k 0 s ao L cap w (by simpa using h1) (beq_false_of_ne h1) (beq_false_of_ne h2) (beq_false_of_ne h3) (beq_false_of_ne h4) (beq_false_of_ne h9) (beq_false_of_ne h6) (beq_false_of_ne h10) (beq_false_of_ne h18) (beq_false_of_ne h11) (beq_false_of_ne h5) (beq_false_of_ne h7) (beq_false_of_ne h8) (beq_false_of_ne h12) (beq_false_of_ne h17) (beq_false_of_ne h13) (beq_false_of_ne h16) (beq_false_of_ne h14) (beq_false_of_ne h15)
end Go.Proofs.YtbbhikbdbndefaaGreat

namespace Go.Proofs.YtbbhikbdbndefaaGreat
open Go.RowKit
set_option maxRecDepth 8000

def PartsX (f : Nat) : Prop := ∀ (t : Ex) (B : Nat → Prop) (v : Value) (w : World), El w B t.l v →
  Calls Tryz.prog 40 #[xx t.k t.n t.s v, .int .i64 (11 - (f : Int))] w fun e w' => e = .returned (.int .i64 (partsX f t)) ∧ Below w.heap.size w w'

theorem partsX_zero : PartsX 0 := by
  intro t B v w h
  obtain ⟨ao, cap, rfl, hl1, hl2, hl3⟩ := h.len
  obtain ⟨k, hk⟩ : ∃ k, t.k = k := ⟨_, rfl⟩
  obtain ⟨n, hnn⟩ : ∃ n, t.n = n := ⟨_, rfl⟩
  obtain ⟨s, hsn⟩ : ∃ s, t.s = s := ⟨_, rfl⟩
  have HR : Hid (((partsX 0 t : Nat) : Int) = 101) := rfl
  rw [hk, hnn, hsn]
  clear h
  go_enter Tryz.func40, Tryz.ntmps40
  go_wp2
  go_ret
  exact ⟨ret_j HR.out.symm, (Below.refl _ _).alloc (Nat.le_refl _) _⟩

set_option maxHeartbeats 1000000 in
theorem partsX_succ (f : Nat) (hf : f ≤ 9) (ih : PartsX f) : PartsX (f + 1) := by
  intro t B v w h
  have HE : Hid (partsX (f + 1) t = t.l.foldl (partsXG (partsX f)) 1) := rfl
  obtain ⟨R, hR⟩ : ∃ R, partsX (f + 1) t = R := ⟨_, rfl⟩
  obtain ⟨k, hk⟩ : ∃ k, t.k = k := ⟨_, rfl⟩
  obtain ⟨n, hnn⟩ : ∃ n, t.n = n := ⟨_, rfl⟩
  obtain ⟨s, hsn⟩ : ∃ s, t.s = s := ⟨_, rfl⟩
  obtain ⟨l, hln⟩ : ∃ l, t.l = l := ⟨_, rfl⟩
  rw [hR, hln] at HE
  rw [hln] at h
  rw [hk, hnn, hsn, hR]
  clear hR hk hnn hsn hln
  obtain ⟨ao, cap, rfl, hl1, hl2, hl3⟩ := h.len
  have hm : cap ≤ 9223372036854775807 := by unfold maxLen at hl2; omega
  have HH := Hid.mk h
  have HI := Hid.mk ih
  clear ih h hl2
  obtain ⟨d, hd⟩ : ∃ d : Int, 11 - ((f + 1 : Nat) : Int) = d := ⟨_, rfl⟩
  rw [hd]
  have hd6 : ¬ 10 < d := by omega
  have hd7 : d + 1 = 11 - (f : Int) := by omega
  have B0 : Below w.heap.size w (w.alloc (.cells #[.int .i64 k, .int .i64 n, .string s, .slice ao l.length cap] 46)) := (Below.refl _ _).alloc (Nat.le_refl _) _
  have B01 : Below (w.heap.size + 1) (w.alloc (.cells #[.int .i64 k, .int .i64 n, .string s, .slice ao l.length cap] 46)) (w.alloc (.cells #[.int .i64 k, .int .i64 n, .string s, .slice ao l.length cap] 46)) := Below.refl _ _
  go_enter Tryz.func40, Tryz.ntmps40
  go_wp2
  go_loopw [5, 6] (fun q i wr => ∃ (k1 m : Nat), k1 ≤ l.length ∧ i = .int .i64 k1 ∧ q = .int .i64 m ∧ m ≤ 2000 ∧ Hid (m = (l.take k1).foldl (partsXG (partsX f)) 1) ∧ Below (w.heap.size + 1) (w.alloc (.cells #[.int .i64 k, .int .i64 n, .string s, .slice ao l.length cap] 46)) wr) (fun _ i _ => l.length - (intOf i).toNat)
  case atStart => exact ⟨0, 1, Nat.zero_le _, rfl, rfl, by omega, rfl, B01⟩
  case round =>
    obtain ⟨k1, m, hk, rfl, rfl, m1, Hm, hbel⟩ := hrel
    clear B01
    have hc1 := fun o => hbel.cell (p := ⟨w.heap.size, o, none⟩) (by simp)
    have hbw := B0.trans (hbel.mono (by omega))
    have hs1 := hbel.size
    simp at hs1
    by_cases hkl : k1 < l.length
    · have hi1 : (k1 : Int) < (l.length : Int) := by omega
      by_cases h60 : m ≤ 100
      · have h60' : (m : Int) ≤ 100 := by omega
        obtain ⟨b, off, V, rfl, hel⟩ := HH.out.elems (by intro hn; rw [hn] at hkl; simp at hkl)
        obtain ⟨h3, hsub, hss⟩ := hel k1 hkl
        have HT := Hid.mk (partsX_take (f := f) l k1 hkl)
        obtain ⟨t, ht⟩ : ∃ t, l[k1] = t := ⟨_, rfl⟩
        rw [ht] at h3 hsub hss HT
        clear ht hel
        obtain ⟨c0, cn, c1, c2⟩ := h3.kept (w' := wr) (hbw.block b (World.block_lt_of_cell? w _ h3.1))
        have HCall := Hid.mk (HI.out t B (V k1) wr (hsub.grow hbw))
        obtain ⟨bd0, bd1⟩ := partsX_bd f t
        obtain ⟨av, cv, hv, -, -, -⟩ := hsub.len
        rw [hv] at c2 HCall
        obtain ⟨tk, htk⟩ : ∃ tk, t.k = tk := ⟨_, rfl⟩
        obtain ⟨tn, htn⟩ : ∃ tn, t.n = tn := ⟨_, rfl⟩
        obtain ⟨ts, hts⟩ : ∃ ts, t.s = ts := ⟨_, rfl⟩
        rw [htk, htn, hts] at HCall
        rw [htk] at c0
        rw [htn] at cn
        rw [hts] at c1
        obtain ⟨q, hq⟩ : ∃ q, partsX f t = q := ⟨_, rfl⟩
        rw [hq] at bd0 bd1 HCall
        have HQ : Hid ((l.take (k1 + 1)).foldl (partsXG (partsX f)) 1 = m + q) := by
          show _ = _
          rw [HT.out, ← Hm.out, partsXG, if_pos h60, hq]
        clear hsub hss h3 hv HT Hm hq htk htn hts hbw
        go_wp2_with fail
        refine HCall.out.mono ?_
        rintro e w2 ⟨rfl, hb2⟩
        have B3 := hbel.trans (hb2.mono (by omega))
        clear hbel hb2 HCall hc1
        go_wp2
        go_roundw
        case rel => exact ⟨k1 + 1, m + q, by omega, by go_num, by go_num, by omega, HQ.out.symm, B3⟩
        case measure => simp [intOf]; omega
      · have h60' : ¬ (m : Int) ≤ 100 := by omega
        have HF : Hid ((R : Int) = m) := by
          show _ = _
          have e1 := Hm.out
          have := partsX_cut (f := f) l k1 (by omega)
          rw [HE.out, this, ← e1]
        clear Hm HE
        go_wp2
        go_ret
        exact ⟨ret_j HF.out.symm, hbw⟩
    · have e : k1 = l.length := by omega
      subst e
      have HF : Hid ((R : Int) = m) := by show _ = _; rw [HE.out, Hm.out, List.take_length]
      clear Hm HE
      go_wp2
      go_ret
      exact ⟨ret_j HF.out.symm, hbw⟩
end Go.Proofs.YtbbhikbdbndefaaGreat

namespace Go.Proofs.YtbbhikbdbndefaaGreat
open Go.RowKit
set_option maxRecDepth 8000

/-- A term within a term. -/
inductive InX : Ex → Ex → Prop
  | self (t : Ex) : InX t t
  | sub {x y t : Ex} (h : y ∈ t.l) (hx : InX x y) : InX x t

def RoomX (f : Nat) : Prop := ∀ (t : Ex) (B : Nat → Prop) (v : Value) (w : World) (r : Int), El w B t.l v → (∀ x, InX x t → x.s.size ≤ 1048576) → 0 ≤ r → r ≤ 100 →
  Calls Tryz.prog 42 #[xx t.k t.n t.s v, .int .i64 (f : Int), .int .i64 r, .func (.func 43) #[] #[], .func (.func 44) #[] #[]] w fun e w' => e = .returned (.int .i64 (roomX f t r)) ∧ Below w.heap.size w w'

theorem exprParts_any (k n : Int) (s : ByteArray) (v : Value) (w : World) (hv : ∃ ao L cap, v = .slice ao L cap) :
    Calls Tryz.prog 44 #[xx k n s v] w fun e w' => e = .returned v ∧ Below w.heap.size w w' := by
  obtain ⟨ao, L, cap, rfl⟩ := hv
  go_enter Tryz.func44, Tryz.ntmps44
  go_wp2
  go_ret
  exact ⟨rfl, (Below.refl _ _).alloc (Nat.le_refl _) _⟩

theorem roomX_zero : RoomX 0 := by
  intro t B v w r h hs h0 h1
  obtain ⟨ao, cap, rfl, hl1, hl2, hl3⟩ := h.len
  obtain ⟨k, hk⟩ : ∃ k, t.k = k := ⟨_, rfl⟩
  obtain ⟨n, hnn⟩ : ∃ n, t.n = n := ⟨_, rfl⟩
  obtain ⟨s, hsn⟩ : ∃ s, t.s = s := ⟨_, rfl⟩
  have HR : Hid (roomX 0 t r = -1) := rfl
  rw [hk, hnn, hsn]
  clear h
  go_enter Tryz.func42, Tryz.ntmps42
  go_wp2
  go_ret
  exact ⟨ret_i HR.out.symm, (Below.refl _ _).alloc (Nat.le_refl _) _⟩

set_option maxHeartbeats 1000000 in
theorem roomX_succ (f : Nat) (hf : f ≤ 9) (ih : RoomX f) : RoomX (f + 1) := by
  intro t B v w r h hs h0 h1
  obtain ⟨ao0, cap0, hv0, -, -, -⟩ := h.len
  have HNB := Hid.mk (fun (w' : World) => exprNodeOk_any t.k t.n t.s ao0 t.l.length cap0 w' (hs t (.self t)))
  have HSUB := Hid.mk (fun i (hi : i < t.l.length) x hx => hs x (InX.sub (List.getElem_mem hi) hx))
  rw [← nodeX_eq, ← hv0] at HNB
  clear hv0
  have HE : Hid (roomX (f + 1) t r = if r = 0 ∨ nodeX t = false then -1 else t.l.foldl (roomXG (roomX f)) (r - 1)) := rfl
  obtain ⟨R, hR⟩ : ∃ R, roomX (f + 1) t r = R := ⟨_, rfl⟩
  obtain ⟨nb, hnb⟩ : ∃ nb, nodeX t = nb := ⟨_, rfl⟩
  obtain ⟨k, hk⟩ : ∃ k, t.k = k := ⟨_, rfl⟩
  obtain ⟨n, hnn⟩ : ∃ n, t.n = n := ⟨_, rfl⟩
  obtain ⟨s, hsn⟩ : ∃ s, t.s = s := ⟨_, rfl⟩
  obtain ⟨l, hln⟩ : ∃ l, t.l = l := ⟨_, rfl⟩
  rw [hk, hnn, hsn, hnb] at HNB
  rw [hR, hnb, hln] at HE
  rw [hln] at h HSUB
  rw [hk, hnn, hsn, hR]
  clear hR hnb hk hnn hsn hln hs
  obtain ⟨ao, cap, rfl, hl1, hl2, hl3⟩ := h.len
  have hm : cap ≤ 9223372036854775807 := by unfold maxLen at hl2; omega
  have HH := Hid.mk h
  have HI := Hid.mk ih
  clear ih h hl2
  have B0 : Below w.heap.size w (w.alloc (.cells #[.int .i64 k, .int .i64 n, .string s, .slice ao l.length cap] 46)) := (Below.refl _ _).alloc (Nat.le_refl _) _
  obtain ⟨d, hd⟩ : ∃ d : Int, ((f + 1 : Nat) : Int) = d := ⟨_, rfl⟩
  rw [hd]
  have hd6 : (d == 0) = false := beq_eq_false_iff_ne.2 (by omega)
  have hd7 : d - 1 = (f : Int) := by omega
  have hd8 : 0 ≤ d := by omega
  have hd9 : d ≤ 10 := by omega
  have HPT := Hid.mk (fun w' => exprParts_any k n s (.slice ao l.length cap) w' ⟨_, _, _, rfl⟩)
  by_cases hr0 : r = 0
  · subst hr0
    have HR : Hid (R = -1) := by show _ = _; rw [HE.out, if_pos (Or.inl rfl)]
    clear HE HNB HI HH
    go_enter Tryz.func42, Tryz.ntmps42
    go_wp2
    go_ret
    exact ⟨ret_i HR.out.symm, B0⟩
  have hrb : (r == 0) = false := beq_eq_false_iff_ne.2 hr0
  cases nb with
  | false =>
    have HR : Hid (R = -1) := by show _ = _; rw [HE.out, if_pos (Or.inr rfl)]
    clear HE HI HH
    go_enter Tryz.func42, Tryz.ntmps42
    go_wp2_with fail
    refine (HNB.out _).mono ?_
    rintro e w1 ⟨rfl, hb1⟩
    have B1 := B0.trans (hb1.mono (by simp))
    clear B0 hb1 HNB
    go_wp2
    go_ret
    exact ⟨ret_i HR.out.symm, B1⟩
  | true =>
    have HR : Hid (R = l.foldl (roomXG (roomX f)) (r - 1)) := by show _ = _; rw [HE.out, if_neg (by simpa using hr0)]
    clear HE
    go_enter Tryz.func42, Tryz.ntmps42
    go_wp2_with fail
    refine (HNB.out _).mono ?_
    rintro e w1 ⟨rfl, hb1⟩
    have B1 := B0.trans (hb1.mono (by simp))
    have hc1 := fun o => hb1.cell (p := ⟨w.heap.size, o, none⟩) (by simp)
    have hs1 := hb1.size
    simp at hs1
    clear B0 hb1 HNB
    have hr1 : 0 ≤ r - 1 := by omega
    go_wp2_with fail
    refine (HPT.out _).mono ?_
    rintro e w2 ⟨rfl, hb2⟩
    have B2 := B1.trans (hb2.mono B1.size)
    clear B1 hb2 hc1 HPT
    go_wp2
    go_loopw [2, 31] (fun q i wr => ∃ (k : Nat) (m : Int), k ≤ l.length ∧ i = .int .i64 k ∧ q = .int .i64 m ∧ 0 ≤ m ∧ m ≤ 100 ∧ Hid (m = (l.take k).foldl (roomXG (roomX f)) (r - 1)) ∧ Below w.heap.size w wr) (fun _ i _ => l.length - (intOf i).toNat)
    case atStart => exact ⟨0, r - 1, Nat.zero_le _, rfl, rfl, by omega, by omega, rfl, B2⟩
    case round =>
      obtain ⟨k, m, hk, rfl, rfl, m0, m1, Hm, hbel⟩ := hrel
      clear B2
      by_cases hkl : k < l.length
      · obtain ⟨b, off, V, rfl, hel⟩ := HH.out.elems (by intro hn; rw [hn] at hkl; simp at hkl)
        obtain ⟨h3, hsub, hss⟩ := hel k hkl
        have HT := Hid.mk (roomX_take (f := f) l k (r - 1) hkl)
        have HC := Hid.mk (roomX_cut (f := f) l (k + 1) (r - 1))
        have hall := HSUB.out k hkl
        obtain ⟨t, ht⟩ : ∃ t, l[k] = t := ⟨_, rfl⟩
        rw [ht] at h3 hsub hss HT hall
        clear ht hel
        obtain ⟨c0, cn, c1, c2⟩ := h3.kept (w' := wr) (hbel.block b (World.block_lt_of_cell? w _ h3.1))
        have hs1 := hbel.size
        have HCall := Hid.mk (fun (w' : World) (hb : Below w.heap.size w w') => HI.out t B (V k) w' m (hsub.grow hb) hall m0 m1)
        obtain ⟨bd0, bd1⟩ := roomX_bd f t m m0
        obtain ⟨av, cv, hv, -, -, -⟩ := hsub.len
        rw [hv] at c2 HCall
        obtain ⟨tk, htk⟩ : ∃ tk, t.k = tk := ⟨_, rfl⟩
        obtain ⟨tn, htn⟩ : ∃ tn, t.n = tn := ⟨_, rfl⟩
        obtain ⟨ts, hts⟩ : ∃ ts, t.s = ts := ⟨_, rfl⟩
        rw [htk, htn, hts] at HCall
        rw [htk] at c0
        rw [htn] at cn
        rw [hts] at c1
        obtain ⟨q, hq⟩ : ∃ q, roomX f t m = q := ⟨_, rfl⟩
        rw [hq] at bd0 bd1 HCall
        have HQ : Hid ((l.take (k + 1)).foldl (roomXG (roomX f)) (r - 1) = q) := by
          show _ = _
          rw [HT.out, ← Hm.out, roomXG, if_neg (by omega), hq]
        have hi1 : (k : Int) < (l.length : Int) := by omega
        have B2 := hbel.alloc hs1 (.cells #[.int .i64 tk, .int .i64 tn, .string ts, .slice av t.l.length cv] 46)
        clear hsub hss h3 hv HT Hm hq htk htn hts hbel hall
        by_cases hq0 : q < 0
        · have HF : Hid (R = -1) := by show _ = _; rw [HR.out]; exact HC.out (by rw [HQ.out]; omega)
          clear HQ HC
          go_wp2_with fail
          refine (HCall.out _ B2).mono ?_
          rintro e w2 ⟨rfl, hb2⟩
          have B3 := B2.trans (hb2.mono (by simp; omega))
          clear B2 hb2 HCall
          go_wp2
          go_ret
          exact ⟨ret_i HF.out.symm, B3⟩
        · clear HC
          go_wp2_with fail
          refine (HCall.out _ B2).mono ?_
          rintro e w2 ⟨rfl, hb2⟩
          have B3 := B2.trans (hb2.mono (by simp; omega))
          clear B2 hb2 HCall
          go_wp2
          go_roundw
          case rel => exact ⟨k + 1, q, by omega, by go_num, rfl, by omega, by omega, HQ.out.symm, B3⟩
          case measure => simp [intOf]; omega
      · have e : k = l.length := by omega
        subst e
        have HF : Hid (R = m) := by show _ = _; rw [HR.out, Hm.out, List.take_length]
        clear Hm
        go_wp2
        go_ret
        exact ⟨ret_i HF.out.symm, hbel⟩

theorem implExprOk_any (t : Ex) (B : Nat → Prop) (v : Value) (w : World) (h : El w B t.l v) (hs : ∀ x, InX x t → x.s.size ≤ 1048576) :
    Calls Tryz.prog 26 #[xx t.k t.n t.s v] w fun e w' => e = .returned (.bool (okE t)) ∧ Below w.heap.size w w' := by
  have R6 : RoomX 10 := roomX_succ 9 (by omega) (roomX_succ 8 (by omega) (roomX_succ 7 (by omega) (roomX_succ 6 (by omega) (roomX_succ 5 (by omega) (roomX_succ 4 (by omega) (roomX_succ 3 (by omega) (roomX_succ 2 (by omega) (roomX_succ 1 (by omega) (roomX_succ 0 (by omega) roomX_zero)))))))))
  have HC := Hid.mk (fun (w' : World) (hb : Below w.heap.size w w') => R6 t B v w' 100 (h.grow hb) hs (by omega) (by omega))
  have HO := Hid.mk (okE_room t)
  obtain ⟨b, hb⟩ : ∃ b, okE t = b := ⟨_, rfl⟩
  obtain ⟨q, hq⟩ : ∃ q, roomX 10 t 100 = q := ⟨_, rfl⟩
  obtain ⟨k, hk⟩ : ∃ k, t.k = k := ⟨_, rfl⟩
  obtain ⟨n, hnn⟩ : ∃ n, t.n = n := ⟨_, rfl⟩
  obtain ⟨s, hsn⟩ : ∃ s, t.s = s := ⟨_, rfl⟩
  rw [hk, hnn, hsn, hq] at HC
  rw [hb, hq] at HO
  rw [hk, hnn, hsn, hb]
  obtain ⟨ao, cap, rfl, hl1, hl2, hl3⟩ := h.len
  have B0 : Below w.heap.size w (w.alloc (.cells #[.int .i64 k, .int .i64 n, .string s, .slice ao t.l.length cap] 46)) := (Below.refl _ _).alloc (Nat.le_refl _) _
  clear h hk hnn hsn hq hb R6 hl2
  go_enter Tryz.func26, Tryz.ntmps26
  go_wp2_with fail
  refine (HC.out _ B0).mono ?_
  rintro e w1 ⟨rfl, hb1⟩
  have B1 := B0.trans (hb1.mono (by simp))
  clear B0 hb1 HC
  go_wp2
  go_ret
  exact ⟨ret_b HO.out, B1⟩
end Go.Proofs.YtbbhikbdbndefaaGreat

namespace Go.Proofs.YtbbhikbdbndefaaGreat
open Go.RowKit
set_option maxRecDepth 8000

theorem okXL_no {l : List Ex} {k : Nat} (h : k < l.length) (hk : l[k].okT = false) : okXL l = false := by
  cases hb : okXL l with
  | false => rfl
  | true => have := (okXL_iff l).1 hb _ (List.getElem_mem h); rw [hk] at this; cases this
theorem okXL_yes {l : List Ex} (h : ∀ j (hj : j < l.length), l[j].okT = true) : okXL l = true := by
  rw [okXL_iff]
  intro x hx
  obtain ⟨j, hj, rfl⟩ := List.getElem_of_mem hx
  exact h j hj
/-- No text within is too long. -/
def ShX (t : Ex) : Prop := ∀ x, InX x t → x.s.size ≤ 1048576
def OkX (t : Ex) : Prop := ∀ (B : Nat → Prop) (v : Value) (w : World), El w B t.l v → ShX t →
  Calls Tryz.prog 41 #[xx t.k t.n t.s v] w fun e w' => e = .returned (.bool t.okT) ∧ Below w.heap.size w w'

set_option maxHeartbeats 2000000 in
theorem okX_step (t : Ex) (ih : ∀ x ∈ t.l, OkX x) : OkX t := by
  intro B v w h hs
  have HT := Hid.mk (okX_eq t)
  have HI := Hid.mk ih
  have HSUB := Hid.mk (fun i (hi : i < t.l.length) x hx => hs x (InX.sub (List.getElem_mem hi) hx))
  obtain ⟨ao, cap, hv, hl1, hl2, hl3⟩ := h.len
  have HN := Hid.mk (fun w' => l8Here_any t.k t.n t.s ao t.l.length cap w' (hs t (.self t)))
  rw [← nodeX_eq] at HN
  subst hv
  obtain ⟨R, hR⟩ : ∃ R, t.okT = R := ⟨_, rfl⟩
  obtain ⟨nb, hnb⟩ : ∃ nb, nodeX t = nb := ⟨_, rfl⟩
  obtain ⟨k, hk⟩ : ∃ k, t.k = k := ⟨_, rfl⟩
  obtain ⟨n, hnn⟩ : ∃ n, t.n = n := ⟨_, rfl⟩
  obtain ⟨s, hsn⟩ : ∃ s, t.s = s := ⟨_, rfl⟩
  obtain ⟨l, hln⟩ : ∃ l, t.l = l := ⟨_, rfl⟩
  rw [hk, hnn, hsn, hln, hR]
  rw [hR, hnb, hln] at HT
  rw [hk, hnn, hsn, hln, hnb] at HN
  rw [hln] at HI h hl1 HSUB
  clear hk hnn hsn hln hnb hR ih hs
  have hm : cap ≤ 9223372036854775807 := by unfold maxLen at hl2; omega
  have HH := Hid.mk h
  clear h hl2
  have B0 : Below w.heap.size w (w.alloc (.cells #[.int .i64 k, .int .i64 n, .string s, .slice ao l.length cap] 46)) := (Below.refl _ _).alloc (Nat.le_refl _) _
  have B01 : Below (w.heap.size + 1) (w.alloc (.cells #[.int .i64 k, .int .i64 n, .string s, .slice ao l.length cap] 46)) (w.alloc (.cells #[.int .i64 k, .int .i64 n, .string s, .slice ao l.length cap] 46)) := Below.refl _ _
  go_enter Tryz.func41, Tryz.ntmps41
  go_wp2
  go_loopw [3] (fun i wr => ∃ (k1 : Nat), k1 ≤ l.length ∧ i = .int .i64 k1 ∧ Hid (∀ j (hj : j < l.length), j < k1 → l[j].okT = true) ∧ Below (w.heap.size + 1) (w.alloc (.cells #[.int .i64 k, .int .i64 n, .string s, .slice ao l.length cap] 46)) wr) (fun i _ => l.length - (intOf i).toNat)
  case atStart => exact ⟨0, Nat.zero_le _, rfl, fun j _ hj => absurd hj (Nat.not_lt_zero j), B01⟩
  case round =>
    obtain ⟨k1, hk, rfl, Ho, hbel⟩ := hrel
    clear B01
    have hc1 := fun o => hbel.cell (p := ⟨w.heap.size, o, none⟩) (by simp)
    have hbw := B0.trans (hbel.mono (by omega))
    have hs1 := hbel.size
    simp at hs1
    by_cases hkl : k1 < l.length
    · have hi1 : (k1 : Int) < (l.length : Int) := by omega
      obtain ⟨b, off, V, rfl, hel⟩ := HH.out.elems (by intro hn; rw [hn] at hkl; simp at hkl)
      obtain ⟨h3, hsub, hss⟩ := hel k1 hkl
      have hokc : OkX l[k1] := HI.out _ (List.getElem_mem hkl)
      have hall : ShX l[k1] := HSUB.out k1 hkl
      have HNO := Hid.mk (fun h => okXL_no (l := l) hkl h)
      have HO2 : Hid (l[k1].okT = true → ∀ j (hj : j < l.length), j < k1 + 1 → l[j].okT = true) := by
        intro hne j hj hj1
        by_cases hj2 : j < k1
        · exact Ho.out j hj hj2
        · obtain rfl : j = k1 := by omega
          exact hne
      obtain ⟨t', ht⟩ : ∃ t, l[k1] = t := ⟨_, rfl⟩
      rw [ht] at h3 hsub hss hokc HNO HO2 hall
      clear ht hel
      obtain ⟨c0, cn, c1, c2⟩ := h3.kept (w' := wr) (hbw.block b (World.block_lt_of_cell? w _ h3.1))
      have cA := Hid.mk (hokc B (V k1) wr (hsub.grow hbw) hall)
      obtain ⟨ok, hok⟩ : ∃ ok, t'.okT = ok := ⟨_, rfl⟩
      obtain ⟨tk, htk⟩ : ∃ tk, t'.k = tk := ⟨_, rfl⟩
      obtain ⟨tn, htn⟩ : ∃ tn, t'.n = tn := ⟨_, rfl⟩
      obtain ⟨ts, hts⟩ : ∃ ts, t'.s = ts := ⟨_, rfl⟩
      obtain ⟨av, cv, hv, -, -, -⟩ := hsub.len
      rw [hok, htk, htn, hts, hv] at cA
      rw [htk] at c0
      rw [htn] at cn
      rw [hts] at c1
      rw [hv] at c2
      rw [hok] at HNO HO2
      clear hsub hss h3 hokc hok htk htn hts hv hall hbw
      cases ok with
      | false =>
        have HR : Hid (false = R) := by show _ = _; rw [HT.out, HNO.out rfl]; rfl
        clear HNO HO2 HT HI HH HN
        go_wp2_with fail
        refine cA.out.mono ?_
        rintro e w2 ⟨rfl, hb2⟩
        have B3 := B0.trans ((hbel.trans (hb2.mono (by omega))).mono (by omega))
        clear hbel hb2 cA hc1
        go_wp2
        go_ret
        exact ⟨ret_tb HR.out, B3⟩
      | true =>
        have HO3 := Hid.mk (HO2.out rfl)
        clear HNO HO2
        go_wp2_with fail
        refine cA.out.mono ?_
        rintro e w2 ⟨rfl, hb2⟩
        have B3 := hbel.trans (hb2.mono (by omega))
        clear hbel hb2 cA hc1
        go_wp2
        go_roundw
        case rel => exact ⟨k1 + 1, by omega, by go_num, HO3, B3⟩
        case measure => simp [intOf]; omega
    · have e : k1 = l.length := by omega
      subst e
      have HE : Hid (nb = R) := by show _ = _; rw [HT.out, okXL_yes (fun j hj => Ho.out j hj hj)]; rfl
      clear Ho HT HI HH
      go_wp2_with fail
      refine (HN.out _).mono ?_
      rintro e w2 ⟨rfl, hb2⟩
      have B3 := hbw.trans (hb2.mono hbw.size)
      clear hbel hb2 HN hc1 hbw
      go_wp2
      go_ret
      exact ⟨ret_tb HE.out, B3⟩

theorem specOkX_any (t : Ex) : OkX t := Ex.ind (P := OkX) okX_step t

theorem specExprOk_any (t : Ex) (B : Nat → Prop) (v : Value) (w : World) (h : El w B t.l v) (hs : ShX t) :
    Calls Tryz.prog 25 #[xx t.k t.n t.s v] w fun e w' => e = .returned (.bool (okE t)) ∧ Below w.heap.size w w' := by
  have R6 : PartsX 10 := partsX_succ 9 (by omega) (partsX_succ 8 (by omega) (partsX_succ 7 (by omega) (partsX_succ 6 (by omega) (partsX_succ 5 (by omega) (partsX_succ 4 (by omega) (partsX_succ 3 (by omega) (partsX_succ 2 (by omega) (partsX_succ 1 (by omega) (partsX_succ 0 (by omega) partsX_zero)))))))))
  have HC := Hid.mk (fun (w' : World) (hb : Below w.heap.size w w') => R6 t B v w' (h.grow hb))
  have HK := Hid.mk (fun (w' : World) (hb : Below w.heap.size w w') => specOkX_any t B v w' (h.grow hb) hs)
  have HO : Hid (okE t = (decide (partsX 10 t ≤ 100) && t.okT)) := rfl
  obtain ⟨b, hb⟩ : ∃ b, okE t = b := ⟨_, rfl⟩
  obtain ⟨q, hq⟩ : ∃ q, partsX 10 t = q := ⟨_, rfl⟩
  obtain ⟨o, ho⟩ : ∃ o, t.okT = o := ⟨_, rfl⟩
  obtain ⟨k, hk⟩ : ∃ k, t.k = k := ⟨_, rfl⟩
  obtain ⟨n, hnn⟩ : ∃ n, t.n = n := ⟨_, rfl⟩
  obtain ⟨s, hsn⟩ : ∃ s, t.s = s := ⟨_, rfl⟩
  rw [hk, hnn, hsn, hq] at HC
  rw [hk, hnn, hsn, ho] at HK
  rw [hb, hq, ho] at HO
  rw [hk, hnn, hsn, hb]
  obtain ⟨ao, cap, rfl, hl1, hl2, hl3⟩ := h.len
  have B0 : Below w.heap.size w (w.alloc (.cells #[.int .i64 k, .int .i64 n, .string s, .slice ao t.l.length cap] 46)) := (Below.refl _ _).alloc (Nat.le_refl _) _
  clear h hk hnn hsn hq hb ho R6 hl2
  by_cases h60 : q ≤ 100
  · have h60' : (q : Int) ≤ 100 := by omega
    have HR : Hid (o = b) := by show _ = _; rw [HO.out, decide_eq_true h60]; rfl
    clear HO
    go_enter Tryz.func25, Tryz.ntmps25
    go_wp2_with fail
    refine (HC.out _ B0).mono ?_
    rintro e w1 ⟨rfl, hb1⟩
    have B1 := B0.trans (hb1.mono (by simp))
    have hc1 := fun o => hb1.cell (p := ⟨w.heap.size, o, none⟩) (by simp)
    have hs1 := hb1.size
    simp at hs1
    clear B0 hb1 HC
    go_wp2_with fail
    refine (HK.out _ B1).mono ?_
    rintro e w2 ⟨rfl, hb2⟩
    have B2 := B1.trans (hb2.mono (by omega))
    clear B1 hb2 HK hc1
    go_wp2
    go_ret
    exact ⟨ret_b HR.out, B2⟩
  · have h60' : ¬ (q : Int) ≤ 100 := by omega
    have HR : Hid (false = b) := by show _ = _; rw [HO.out, decide_eq_false h60]; rfl
    clear HO HK
    go_enter Tryz.func25, Tryz.ntmps25
    go_wp2_with fail
    refine (HC.out _ B0).mono ?_
    rintro e w1 ⟨rfl, hb1⟩
    have B1 := B0.trans (hb1.mono (by simp))
    clear B0 hb1 HC
    go_wp2
    go_ret
    exact ⟨ret_b HR.out, B1⟩

end Go.Proofs.YtbbhikbdbndefaaGreat

namespace Go.Proofs.YtbbhikbdbndefaaGreat
open Go.RowKit
set_option maxRecDepth 8000

mutual
def Ex.sz : Ex → Nat
  | .node _ _ s l => s.size + szx l
def szx : List Ex → Nat
  | [] => 0
  | t :: r => 1 + t.sz + szx r
end

theorem Ex.sz_eq (t : Ex) : t.sz = t.s.size + szx t.l := by cases t; rw [Ex.sz]; rfl
theorem szx_take (l : List Ex) (k : Nat) (h : k < l.length) : szx (l.take (k + 1)) = szx (l.take k) + 1 + l[k].sz := by
  induction l generalizing k with
  | nil => simp at h
  | cons t r ih =>
    cases k with
    | zero => simp [szx]
    | succ k =>
      have := ih k (by simpa using h)
      simp only [List.take_succ_cons, szx, List.getElem_cons_succ]
      omega
theorem szx_take_le (l : List Ex) (k : Nat) : szx (l.take k) ≤ szx l := by
  induction l generalizing k with
  | nil => simp
  | cons t r ih =>
    cases k with
    | zero => simp [szx]
    | succ k => have := ih k; simp only [List.take_succ_cons, szx]; omega
theorem szx_length (l : List Ex) : l.length ≤ szx l := by
  induction l with
  | nil => simp
  | cons t r ih => simp only [List.length_cons, szx]; omega
theorem szx_take_length (l : List Ex) (k : Nat) (h : k ≤ l.length) : szx (l.take k) + (l.length - k) ≤ szx l := by
  induction l generalizing k with
  | nil => simp
  | cons t r ih =>
    cases k with
    | zero => have := szx_length (t :: r); simpa [szx] using this
    | succ k => have := ih k (by simpa using h); simp only [List.take_succ_cons, szx, List.length_cons]; omega

def SzX (l : List Ex) : Prop := ∀ (B : Nat → Prop) (v : Value) (w : World) (left : Int), El w B l v → 0 ≤ left → left ≤ 1048576 →
  Calls Tryz.prog 27 #[v, .int .i64 left] w fun e w' => e = .returned (.int .i64 (leftOf left (szx l))) ∧ Below w.heap.size w w'

theorem szExpr_of (t : Ex) (ih : SzX t.l) (B : Nat → Prop) (v : Value) (w : World) (left : Int) (h : El w B t.l v) (hs : t.s.size ≤ maxLen) (h0 : 0 ≤ left) (h1 : left ≤ 1048576) :
    Calls Tryz.prog 20 #[xx t.k t.n t.s v, .int .i64 left] w fun e w' => e = .returned (.int .i64 (leftOf left t.sz)) ∧ Below w.heap.size w w' := by
  have HE := Hid.mk t.sz_eq
  obtain ⟨k, hk⟩ : ∃ k, t.k = k := ⟨_, rfl⟩
  obtain ⟨n, hnn⟩ : ∃ n, t.n = n := ⟨_, rfl⟩
  obtain ⟨s, hsn⟩ : ∃ s, t.s = s := ⟨_, rfl⟩
  obtain ⟨l, hln⟩ : ∃ l, t.l = l := ⟨_, rfl⟩
  obtain ⟨z, hz⟩ : ∃ z, t.sz = z := ⟨_, rfl⟩
  rw [hk, hnn, hsn, hz]
  rw [hsn] at hs HE
  rw [hln] at h ih HE
  rw [hz] at HE
  clear hk hnn hsn hln hz
  unfold maxLen at hs
  have B0 : Below w.heap.size w (w.alloc (.cells #[.int .i64 k, .int .i64 n, .string s, v] 42)) := (Below.refl _ _).alloc (Nat.le_refl _) _
  obtain ⟨ao, cap, rfl, hl1, hl2, hl3⟩ := h.len
  by_cases hlt : left < s.size
  · have hh : left - (s.size : Int) < 0 := by omega
    have HR : Hid (leftOf left z = -1) := by show _ = _; unfold leftOf; have := HE.out; rw [if_pos (by omega)]
    clear HE
    go_enter Tryz.func20, Tryz.ntmps20
    go_wp2
    go_ret
    exact ⟨ret_int' HR.out.symm, B0⟩
  · have hh : ¬ left - (s.size : Int) < 0 := by omega
    have hh1 : 0 ≤ left - (s.size : Int) := by omega
    have hh2 : left - (s.size : Int) ≤ 1048576 := by omega
    have h' := Hid.mk (h.grow B0)
    have HI := Hid.mk ih
    clear ih h
    obtain ⟨m, Hm⟩ : ∃ m, Hid (leftOf (left - (s.size : Int)) (szx l) = m) := ⟨_, rfl⟩
    have HR : Hid (m = leftOf left z) := by
      show _ = _
      rw [← Hm.out, HE.out]
      unfold leftOf
      split <;> split <;> omega
    clear HE
    by_cases hm : m < 0
    all_goals
      have hm' := hm
      go_enter Tryz.func20, Tryz.ntmps20
      go_wp2_with fail
      refine (HI.out _ _ _ _ h'.out hh1 hh2).mono ?_
      rintro e w1 ⟨rfl, hb1⟩
      rw [Hm.out]
      have B1 := B0.trans (hb1.mono (by simp))
      clear B0 hb1 HI h'
      go_wp2
      go_ret
      exact ⟨ret_int' (by first | exact HR.out | (have := HR.out; unfold leftOf at this ⊢; split at this <;> omega)), B1⟩

theorem szExprS_step (l : List Ex) (ih : ∀ x ∈ l, SzX x.l) : SzX l := by
  intro B v w left h h0 h1
  obtain ⟨ao, cap, rfl, hl1, hl2, hl3⟩ := h.len
  have hm : cap ≤ 9223372036854775807 := by unfold maxLen at hl2; omega
  have hlen := szx_length l
  by_cases hlt : left < l.length
  · have hh : left - (l.length : Int) < 0 := by omega
    have HR : Hid (leftOf left (szx l) = -1) := by show _ = _; unfold leftOf; rw [if_pos (by omega)]
    clear h ih hl2 hlen
    go_enter Tryz.func27, Tryz.ntmps27
    go_wp2
    go_ret
    exact ⟨ret_int' HR.out.symm, Below.refl _ _⟩
  · have hh : ¬ left - (l.length : Int) < 0 := by omega
    have HI := Hid.mk ih
    have HH := Hid.mk h
    have HL := Hid.mk hlen
    clear ih h hl2 hlen
    go_enter Tryz.func27, Tryz.ntmps27
    go_wp2
    go_loopw [1, 5] (fun q i wr => ∃ (k : Nat) (r : Int), k ≤ l.length ∧ i = .int .i64 k ∧ q = .int .i64 r ∧ 0 ≤ r ∧ r ≤ 1048576 ∧ Hid (r = left - (l.length : Int) - (szx (l.take k) : Int) + (k : Int)) ∧ Below w.heap.size w wr) (fun _ i _ => l.length - (intOf i).toNat)
    case atStart => exact ⟨0, left - (l.length : Int), Nat.zero_le _, rfl, rfl, by omega, by omega, by show _ = _; simp [szx], Below.refl _ _⟩
    case round =>
      obtain ⟨k, r, hk, rfl, rfl, r0, r1, Hr, hbel⟩ := hrel
      by_cases hkl : k < l.length
      · obtain ⟨b, off, V, rfl, hel⟩ := HH.out.elems (by intro hn; rw [hn] at hkl; simp at hkl)
        obtain ⟨h3, hsub, hss⟩ := hel k hkl
        have HE := Hid.mk (szx_take l k hkl)
        have HT := Hid.mk (szx_take_le l (k + 1))
        have HZ := Hid.mk (szx_take_length l (k + 1) hkl)
        have hsz : SzX l[k].l := HI.out _ (List.getElem_mem hkl)
        obtain ⟨t, ht⟩ : ∃ t, l[k] = t := ⟨_, rfl⟩
        rw [ht] at h3 hsub hss HE hsz
        clear ht hel
        obtain ⟨c0, cn, c1, c2⟩ := h3.kept (w' := wr) (hbel.block b (World.block_lt_of_cell? w _ h3.1))
        have HC := Hid.mk (szExpr_of t hsz B (V k) wr r (hsub.grow hbel) hss r0 r1)
        have hi1 : (k : Int) < (l.length : Int) := by omega
        obtain ⟨m, Hm⟩ : ∃ m, Hid (leftOf r t.sz = m) := ⟨_, rfl⟩
        rw [Hm.out] at HC
        clear hsub hss hsz h3
        by_cases hm : m < 0
        · have HR : Hid (leftOf left (szx l) = -1) := by
            show _ = _
            have e1 := Hm.out
            have e2 := Hr.out
            have e3 := HE.out
            have e5 := HZ.out
            unfold leftOf at e1 ⊢
            split at e1 <;> split <;> omega
          clear HE HT Hr Hm HZ
          go_wp2_with fail
          refine HC.out.mono ?_
          rintro e w1 ⟨rfl, hb1⟩
          have B1 := hbel.trans (hb1.mono hbel.size)
          clear hb1 HC
          go_wp2
          go_ret
          exact ⟨ret_int' HR.out.symm, B1⟩
        · have HR : Hid (m = left - (l.length : Int) - (szx (l.take (k + 1)) : Int) + ((k + 1 : Nat) : Int)) := by
            show _ = _
            have e1 := Hm.out
            have e2 := Hr.out
            have e3 := HE.out
            unfold leftOf at e1
            split at e1 <;> omega
          have hm1 : m ≤ 1048576 := by
            have e1 := Hm.out
            unfold leftOf at e1
            split at e1 <;> omega
          clear HE HT Hr Hm HZ
          go_wp2_with fail
          refine HC.out.mono ?_
          rintro e w1 ⟨rfl, hb1⟩
          have B1 := hbel.trans (hb1.mono hbel.size)
          clear hb1 HC
          go_wp2
          go_roundw
          case rel => exact ⟨k + 1, m, by omega, by go_num, rfl, by omega, hm1, HR, B1⟩
          case measure => simp [intOf]; omega
      · have e : k = l.length := by omega
        subst e
        have HR : Hid (r = leftOf left (szx l)) := by
          show _ = _
          have e2 := Hr.out
          rw [List.take_length] at e2
          unfold leftOf
          split <;> omega
        clear Hr
        go_wp2
        go_ret
        exact ⟨ret_int' HR.out, hbel⟩

theorem szExprS_any (l : List Ex) : SzX l := (Ex.ind (P := fun t => SzX t.l) (fun t ih => szExprS_step t.l ih) (.node 0 0 ⟨#[]⟩ l))

theorem szExpr_any (t : Ex) (B : Nat → Prop) (v : Value) (w : World) (left : Int) (h : El w B t.l v) (hs : t.s.size ≤ maxLen) (h0 : 0 ≤ left) (h1 : left ≤ 1048576) :
    Calls Tryz.prog 20 #[xx t.k t.n t.s v, .int .i64 left] w fun e w' => e = .returned (.int .i64 (leftOf left t.sz)) ∧ Below w.heap.size w w' :=
  szExpr_of t (szExprS_any t.l) B v w left h hs h0 h1
end Go.Proofs.YtbbhikbdbndefaaGreat

namespace Go.Proofs.YtbbhikbdbndefaaGreat
open Go.RowKit
set_option maxRecDepth 8000

theorem El.nfgrow {w w' : World} {n : Nat} {l : List Ex} {v : Value} (h : El w (nf w n) l v) (hk : Below w.heap.size w w') : El w' (nf w' n) l v :=
  (h.imp (C := nf w' n) fun b hb hlt => ⟨hb.1, fun o => by rw [hk.frozen (p := ⟨b, o, none⟩) hlt]; exact hb.2 o⟩).grow hk

theorem El.nfset {w : World} {n : Nat} {l : List Ex} {v : Value} (h : El w (nf w n) l v) {a : Addr} (ha : a.block < n) (u : Value) : El (w.setCell a u) (nf (w.setCell a u) n) l v :=
  (h.setCell (fun hb => by have := hb.1; omega) u).imp fun b hb _ => ⟨hb.1, fun o => by rw [World.frozen?_setCell]; exact hb.2 o⟩

def ToX (l : List Ex) : Prop := ∀ (B : Nat → Prop) (v : Value) (w : World), El w B l v → szx l ≤ 1048576 →
  Calls Tryz.prog 30 #[v] w fun e w' => ∃ u, e = .returned u ∧ El w' (nf w' w.heap.size) l u ∧ Below w.heap.size w w'

theorem toExpr_of (t : Ex) (ih : ToX t.l) (B : Nat → Prop) (v : Value) (w : World) (h : El w B t.l v) (hs : szx t.l ≤ 1048576) :
    Calls Tryz.prog 22 #[xx t.k t.n t.s v] w fun e w' => ∃ u, e = .returned (xx t.k t.n t.s u) ∧ El w' (nf w' (w.heap.size + 1)) t.l u ∧ Below w.heap.size w w' := by
  obtain ⟨k, hk⟩ : ∃ k, t.k = k := ⟨_, rfl⟩
  obtain ⟨n, hnn⟩ : ∃ n, t.n = n := ⟨_, rfl⟩
  obtain ⟨s, hsn⟩ : ∃ s, t.s = s := ⟨_, rfl⟩
  obtain ⟨l, hln⟩ : ∃ l, t.l = l := ⟨_, rfl⟩
  rw [hk, hnn, hsn]
  rw [hln] at h ih hs
  rw [hln]
  clear hk hnn hsn hln
  have HI := Hid.mk ih
  have H1 := Hid.mk (fun w' (hb : Below w.heap.size w w') => h.grow hb)
  obtain ⟨ao, cap, rfl, hl1, hl2, hl3⟩ := h.len
  clear ih h hl1 hl2 hl3
  go_enter Tryz.func22, Tryz.ntmps22
  go_wp2_with fail
  refine (HI.out _ _ _ (H1.out _ ?_) hs).mono ?_
  · exact ((((Below.refl _ _).alloc (Nat.le_refl _) _).alloc (by simp) _).alloc (by simp; omega) _)
  rintro e w1 ⟨u, rfl, hr, hb1⟩
  have hc1 := fun o => hb1.cell (p := ⟨w.heap.size + 1, o, none⟩) (by simp)
  have hc2 := fun o => hb1.cell (p := ⟨w.heap.size + 1 + 1, o, none⟩) (by simp)
  have hf1 := fun o => hb1.frozen (p := ⟨w.heap.size + 1, o, none⟩) (by simp)
  have hf2 := fun o => hb1.frozen (p := ⟨w.heap.size + 1 + 1, o, none⟩) (by simp)
  obtain ⟨au, cu, rfl, -, -, -⟩ := hr.len
  have HR := Hid.mk hr
  have HB := Hid.mk hb1
  clear hr hb1 H1 HI
  go_wp2
  have f0 : (((((w1.setCell ⟨w.heap.size + 1 + 1, 3, none⟩ (.slice au l.length cu)).setCell ⟨w.heap.size + 1, 0, none⟩ (.int .i64 k)).setCell ⟨w.heap.size + 1, 1, none⟩ (.int .i64 n)).setCell ⟨w.heap.size + 1, 2, none⟩ (.string s)).setCell ⟨w.heap.size + 1, 3, none⟩ (.slice au l.length cu)).cell? ⟨w.heap.size + 1, 0, none⟩ = some (.int .i64 k) := by go_simp
  have f1 : (((((w1.setCell ⟨w.heap.size + 1 + 1, 3, none⟩ (.slice au l.length cu)).setCell ⟨w.heap.size + 1, 0, none⟩ (.int .i64 k)).setCell ⟨w.heap.size + 1, 1, none⟩ (.int .i64 n)).setCell ⟨w.heap.size + 1, 2, none⟩ (.string s)).setCell ⟨w.heap.size + 1, 3, none⟩ (.slice au l.length cu)).cell? ⟨w.heap.size + 1, 1, none⟩ = some (.int .i64 n) := by go_simp
  have f2 : (((((w1.setCell ⟨w.heap.size + 1 + 1, 3, none⟩ (.slice au l.length cu)).setCell ⟨w.heap.size + 1, 0, none⟩ (.int .i64 k)).setCell ⟨w.heap.size + 1, 1, none⟩ (.int .i64 n)).setCell ⟨w.heap.size + 1, 2, none⟩ (.string s)).setCell ⟨w.heap.size + 1, 3, none⟩ (.slice au l.length cu)).cell? ⟨w.heap.size + 1, 2, none⟩ = some (.string s) := by go_simp
  have f3 : (((((w1.setCell ⟨w.heap.size + 1 + 1, 3, none⟩ (.slice au l.length cu)).setCell ⟨w.heap.size + 1, 0, none⟩ (.int .i64 k)).setCell ⟨w.heap.size + 1, 1, none⟩ (.int .i64 n)).setCell ⟨w.heap.size + 1, 2, none⟩ (.string s)).setCell ⟨w.heap.size + 1, 3, none⟩ (.slice au l.length cu)).cell? ⟨w.heap.size + 1, 3, none⟩ = some (.slice au l.length cu) := by go_simp
  refine bodyPost_ret (v := xx k n s (.slice au l.length cu)) ?_ rfl ⟨_, rfl, ?_, ?_⟩
  · generalize (((((w1.setCell ⟨w.heap.size + 1 + 1, 3, none⟩ (.slice au l.length cu)).setCell ⟨w.heap.size + 1, 0, none⟩ (.int .i64 k)).setCell ⟨w.heap.size + 1, 1, none⟩ (.int .i64 n)).setCell ⟨w.heap.size + 1, 2, none⟩ (.string s)).setCell ⟨w.heap.size + 1, 3, none⟩ (.slice au l.length cu)) = W at f0 f1 f2 f3
    simp [results, Tryz.results22, go_sem, f0, f1, f2, f3]
  · exact (((((HR.out.nfset (by simp) _).nfset (by simp) _).nfset (by simp) _).nfset (by simp) _).nfset (by simp) _).imp (fun b hb _ => ⟨by have := hb.1; simp at this; omega, hb.2⟩)
  · exact (((((((Below.refl _ _).alloc (Nat.le_refl _) _).alloc (by simp) _).alloc (by simp; omega) _).trans (HB.out.mono (by simp; omega))).setCell (by simp; omega) _).setCell (by simp) _).setCell (by simp) _ |>.setCell (by simp) _ |>.setCell (by simp) _

/-- The first k of a row of expressions are laid. -/
def FilX (wr : World) (g : Nat) (e : TypeId) (l : List Ex) (k : Nat) : Prop :=
  ∃ (xs : List Value) (V : Nat → Value), wr.ownsRow g e 4 (.slice (some ⟨g, 0, none⟩) l.length l.length) l.length xs ∧
    ∀ i (h : i < l.length), i < k → (xs[i * 4]? = some (.int .i64 l[i].k) ∧ xs[i * 4 + 1]? = some (.int .i64 l[i].n) ∧ xs[i * 4 + 2]? = some (.string l[i].s) ∧ xs[i * 4 + 3]? = some (V i)) ∧ El wr (nf wr (g + 1)) l[i].l (V i)

theorem FilX.grow {w w' : World} {g : Nat} {e : TypeId} {l : List Ex} {k : Nat} (h : FilX w g e l k) (hk : Below w.heap.size w w') : FilX w' g e l k := by
  obtain ⟨xs, V, ho, hr⟩ := h
  exact ⟨xs, V, own_grow ho hk, fun i h1 h2 => ⟨(hr i h1 h2).1, (hr i h1 h2).2.nfgrow hk⟩⟩

theorem FilX.step {w : World} {g : Nat} {e : TypeId} {l : List Ex} {k : Nat} (h : FilX w g e l k) (hk : k < l.length) {u : Value} (hu : El w (nf w (g + 1)) l[k].l u) :
    FilX ((((w.setCell ⟨g, k * 4, none⟩ (.int .i64 l[k].k)).setCell ⟨g, k * 4 + 1, none⟩ (.int .i64 l[k].n)).setCell ⟨g, k * 4 + 2, none⟩ (.string l[k].s)).setCell ⟨g, k * 4 + 3, none⟩ u) g e l (k + 1) := by
  obtain ⟨xs, V, ho, hr⟩ := h
  have o1 := (ho.stored (k * 4) (.int .i64 l[k].k)).1
  have o2 := (o1.stored (k * 4 + 1) (.int .i64 l[k].n)).1
  have o3 := (o2.stored (k * 4 + 2) (.string l[k].s)).1
  have o4 := (o3.stored (k * 4 + 3) u).1
  have hl : xs.length = l.length * 4 := ho.1
  refine ⟨_, fun i => if i = k then u else V i, o4, fun i hi hik => ?_⟩
  have hn : g < g + 1 := by omega
  by_cases he : i = k
  · subst he
    refine ⟨⟨?_, ?_, ?_, ?_⟩, ?_⟩
    · rw [List.getElem?_set_ne (by omega), List.getElem?_set_ne (by omega), List.getElem?_set_ne (by omega), List.getElem?_set_self (by omega)]
    · rw [List.getElem?_set_ne (by omega), List.getElem?_set_ne (by omega), List.getElem?_set_self (by simp; omega)]
    · rw [List.getElem?_set_ne (by omega), List.getElem?_set_self (by simp; omega)]
    · rw [List.getElem?_set_self (by simp; omega)]; show some u = some (if i = i then u else V i); rw [if_pos rfl]
    · show El _ _ _ (if i = i then u else V i)
      rw [if_pos rfl]
      exact (((hu.nfset hn _).nfset hn _).nfset hn _).nfset hn _
  · obtain ⟨⟨x0, xn, x1, x2⟩, x3⟩ := hr i hi (by omega)
    refine ⟨⟨?_, ?_, ?_, ?_⟩, ?_⟩
    · rw [List.getElem?_set_ne (by omega), List.getElem?_set_ne (by omega), List.getElem?_set_ne (by omega), List.getElem?_set_ne (by omega)]; exact x0
    · rw [List.getElem?_set_ne (by omega), List.getElem?_set_ne (by omega), List.getElem?_set_ne (by omega), List.getElem?_set_ne (by omega)]; exact xn
    · rw [List.getElem?_set_ne (by omega), List.getElem?_set_ne (by omega), List.getElem?_set_ne (by omega), List.getElem?_set_ne (by omega)]; exact x1
    · rw [List.getElem?_set_ne (by omega), List.getElem?_set_ne (by omega), List.getElem?_set_ne (by omega), List.getElem?_set_ne (by omega)]; show xs[i * 4 + 3]? = some (if i = k then u else V i); rw [if_neg he]; exact x2
    · show El _ _ _ (if i = k then u else V i)
      rw [if_neg he]
      exact (((x3.nfset hn _).nfset hn _).nfset hn _).nfset hn _

theorem FilX.rl {w : World} {g : Nat} {e : TypeId} {l : List Ex} (h : FilX w g e l l.length) (hm : l.length ≤ maxLen) (hs : ∀ i (h : i < l.length), l[i].s.size ≤ maxLen) :
    El w (nf w g) l (.slice (some ⟨g, 0, none⟩) l.length l.length) := by
  obtain ⟨xs, V, ho, hr⟩ := h
  by_cases hl : l = []
  · subst hl
    exact .empty _ _ (by simp) fun h => by cases h
  · refine .full l g 0 l.length V ⟨Nat.le_refl _, fun o => ho.frozenAt o⟩ hl (Nat.le_refl _) hm hs (fun i hi => ?_) fun i hi => (hr i hi hi).2.imp fun b hb _ => ⟨by have := hb.1; omega, hb.2⟩
    obtain ⟨⟨x0, xn, x1, x2⟩, _⟩ := hr i hi hi
    rw [Nat.zero_add]
    exact ⟨by rw [ho.cellAt _ (by omega), x0], by rw [ho.cellAt _ (by omega), xn], by rw [ho.cellAt _ (by omega), x1], by rw [ho.cellAt _ (by omega), x2]⟩

theorem infoExpr : (Tryz.prog.info? 46).map (fun i => (i.zero, i.size, i.bytes)) = some (some (xx 0 0 ⟨#[]⟩ (.slice none 0 0)), 4, 56) := by kernel_rfl

theorem szx_sub (l : List Ex) (k : Nat) (h : k < l.length) : szx l[k].l ≤ szx l := by
  have := szx_take l k h
  have := szx_take_le l (k + 1)
  have := l[k].sz_eq
  omega

theorem toExprS_step (l : List Ex) (ih : ∀ x ∈ l, ToX x.l) : ToX l := by
  intro B v w h hsz
  have hS : l ≠ [] → ∀ i (h : i < l.length), l[i].s.size ≤ maxLen := by
    intro hl i hi
    obtain ⟨ao, cap, rfl, -⟩ := h.len
    obtain ⟨_, _, _, _, hel⟩ := h.elems hl
    exact (hel i hi).2.2
  obtain ⟨ao, cap, rfl, hl1, hl2, hl3⟩ := h.len
  have hlen := szx_length l
  obtain ⟨i0, hi, hz0, hz1, hz2⟩ := info_parts infoExpr
  have HI := Hid.mk ih
  have HH := Hid.mk h
  have HS := Hid.mk hS
  have hln : l.length ≤ 1048576 := by omega
  clear ih h hl2 hS
  go_enter Tryz.func30, Tryz.ntmps30
  go_wp2_with (at_make; refine wpList_make_full _ rfl _ _ 28 rfl w.heap.size 46 i0 _ 4 Tryz.underlying28 hi hz0 hz1 _ _ _ _ l.length rfl rfl rfl rfl (by rw [hz2]; omega) (by unfold maxLen; omega) (by simp) ?_)
  intro w1 hown hgrow
  have hbel : Below w.heap.size w w1 := (Below.refl _ _).grown hgrow (Nat.le_refl _) (by simp)
  have hg1 : w.heap.size < w1.heap.size := (World.ownsRow.lt hown _ rfl).2
  have HF : FilX w1 w.heap.size 46 l 0 := ⟨_, fun _ => .bool true, hown, fun i _ h => absurd h (Nat.not_lt_zero i)⟩
  clear hgrow hown hi hz0 hz1 hz2
  go_wp2
  go_loopw [4] (fun i wr => ∃ (k : Nat), k ≤ l.length ∧ i = .int .i64 k ∧ Hid (FilX wr w.heap.size 46 l k) ∧ Below w.heap.size w wr ∧ w.heap.size < wr.heap.size) (fun i _ => l.length - (intOf i).toNat)
  case atStart => exact ⟨0, Nat.zero_le _, rfl, HF, hbel, hg1⟩
  case round =>
    obtain ⟨k, hk, rfl, HFr, hbelr, hgr⟩ := hrel
    clear HF hbel hg1
    by_cases hkl : k < l.length
    · obtain ⟨b, off, V, rfl, hel⟩ := HH.out.elems (by intro hn; rw [hn] at hkl; simp at hkl)
      obtain ⟨h3, hsub, hss⟩ := hel k hkl
      have hto : ToX l[k].l := HI.out _ (List.getElem_mem hkl)
      have hsk := szx_sub l k hkl
      have HST := Hid.mk (fun (w2 : World) (u : Value) (h1 : FilX w2 w.heap.size 46 l k) (h2 : El w2 (nf w2 (w.heap.size + 1)) l[k].l u) => h1.step hkl h2)
      obtain ⟨t, ht⟩ : ∃ t, l[k] = t := ⟨_, rfl⟩
      rw [ht] at h3 hsub hss hto hsk HST
      clear ht hel
      obtain ⟨c0, cn, c1, c2⟩ := h3.kept (w' := wr) (hbelr.block b (World.block_lt_of_cell? w _ h3.1))
      have HC := Hid.mk (toExpr_of t hto B (V k) wr (hsub.grow hbelr) (by omega))
      have hi1 : (k : Int) < (l.length : Int) := by omega
      clear hsub hss hto h3 HI HH
      go_wp2_with fail
      refine HC.out.mono ?_
      rintro e w2 ⟨u, rfl, hr, hb2⟩
      have HF2 := HFr.out.grow hb2
      have H3 := Hid.mk (HST.out w2 u HF2 (hr.imp fun b hb _ => ⟨by have := hb.1; omega, hb.2⟩))
      have B2 := hbelr.trans (hb2.mono hbelr.size)
      have hg2 : w.heap.size < w2.heap.size := Nat.lt_of_lt_of_le hgr hb2.size
      obtain ⟨xs, V', hown2, -⟩ := HF2
      have f0 := hown2.frozenAt (k * 4)
      have f1 := hown2.frozenAt (k * 4 + 1)
      have f2 := hown2.frozenAt (k * 4 + 2)
      have f3 := hown2.frozenAt (k * 4 + 3)
      have hxl : xs.length = l.length * 4 := hown2.1
      have o0 := hown2.cellAt (k * 4) (by omega)
      have o1 := hown2.cellAt (k * 4 + 1) (by omega)
      have o2 := hown2.cellAt (k * 4 + 2) (by omega)
      have o3 := hown2.cellAt (k * 4 + 3) (by omega)
      obtain ⟨y0, e0⟩ : ∃ y, xs[k * 4]? = some y := ⟨_, List.getElem?_eq_getElem (by omega)⟩
      obtain ⟨y1, e1⟩ : ∃ y, xs[k * 4 + 1]? = some y := ⟨_, List.getElem?_eq_getElem (by omega)⟩
      obtain ⟨y2, e2⟩ : ∃ y, xs[k * 4 + 2]? = some y := ⟨_, List.getElem?_eq_getElem (by omega)⟩
      obtain ⟨y3, e3⟩ : ∃ y, xs[k * 4 + 3]? = some y := ⟨_, List.getElem?_eq_getElem (by omega)⟩
      rw [e0] at o0
      rw [e1] at o1
      rw [e2] at o2
      rw [e3] at o3
      clear e0 e1 e2 e3
      obtain ⟨au, cu, rfl, -, -, -⟩ := hr.len
      have hk0 : 0 < l.length := by omega
      clear hown2 HFr HC HST hb2 hbelr hr c0 c1 c2 hxl
      go_wp2
      go_roundw
      case rel => exact ⟨k + 1, by omega, by go_num, H3, (((B2.setCell (Nat.le_refl _) _).setCell (Nat.le_refl _) _).setCell (Nat.le_refl _) _).setCell (Nat.le_refl _) _, by simpa using hg2⟩
      case measure => simp [intOf]; omega
    · have e : k = l.length := by omega
      subst e
      have HR := Hid.mk (fun hS => HFr.out.rl (by unfold maxLen; omega) hS)
      have HR2 : Hid (El wr (nf wr w.heap.size) l (.slice (some ⟨w.heap.size, 0, none⟩) l.length l.length)) := HR.out (by
        intro i hi
        exact HS.out (by intro hn; rw [hn] at hi; simp at hi) i hi)
      clear HR HFr HS HI HH
      go_wp2
      go_ret
      exact ⟨_, rfl, HR2.out, hbelr⟩

theorem toExprS_any (l : List Ex) : ToX l := (Ex.ind (P := fun t => ToX t.l) (fun t ih => toExprS_step t.l ih) (.node 0 0 ⟨#[]⟩ l))
theorem toExprF_any (t : Ex) (B : Nat → Prop) (v : Value) (w : World) (h : El w B t.l v) (hs : szx t.l ≤ 1048576) :
    Calls Tryz.prog 22 #[xx t.k t.n t.s v] w fun e w' => ∃ u, e = .returned (xx t.k t.n t.s u) ∧ El w' (nf w' (w.heap.size + 1)) t.l u ∧ Below w.heap.size w w' := toExpr_of t (toExprS_any t.l) B v w h hs
theorem toExpr_any (t : Ex) (B : Nat → Prop) (v : Value) (w : World) (h : El w B t.l v) (hs : szx t.l ≤ 1048576) :
    Calls Tryz.prog 22 #[xx t.k t.n t.s v] w fun e w' => ∃ u, e = .returned (xx t.k t.n t.s u) ∧ El w' (newFrom (w.heap.size + 1)) t.l u ∧ Below w.heap.size w w' := by
  refine (toExprF_any t B v w h hs).mono ?_
  rintro e w' ⟨u, rfl, hr, hb⟩
  exact ⟨u, rfl, hr.imp fun b hb _ => hb.1, hb⟩
end Go.Proofs.YtbbhikbdbndefaaGreat

namespace Go.Proofs.YtbbhikbdbndefaaGreat
open Go.RowKit
set_option maxRecDepth 8000

def EqX (l : List Ex) : Prop := ∀ (B C : Nat → Prop) (v u : Value) (w : World), El w B l v → El w C l u →
  Calls Tryz.prog 34 #[v, u] w fun e w' => e = .returned (.bool true) ∧ Below w.heap.size w w'

theorem eqExpr_of (t : Ex) (ih : EqX t.l) (B C : Nat → Prop) (v u : Value) (w : World) (h : El w B t.l v) (h' : El w C t.l u) :
    Calls Tryz.prog 24 #[xx t.k t.n t.s v, xx t.k t.n t.s u] w fun e w' => e = .returned (.bool true) ∧ Below w.heap.size w w' := by
  obtain ⟨k, hk⟩ : ∃ k, t.k = k := ⟨_, rfl⟩
  obtain ⟨n, hnn⟩ : ∃ n, t.n = n := ⟨_, rfl⟩
  obtain ⟨s, hsn⟩ : ∃ s, t.s = s := ⟨_, rfl⟩
  obtain ⟨l, hln⟩ : ∃ l, t.l = l := ⟨_, rfl⟩
  rw [hk, hnn, hsn]
  rw [hln] at h h' ih
  clear hk hnn hsn hln
  have B0 : Below w.heap.size w ((w.alloc (.cells #[.int .i64 k, .int .i64 n, .string s, v] 46)).alloc (.cells #[.int .i64 k, .int .i64 n, .string s, u] 46)) := ((Below.refl _ _).alloc (Nat.le_refl _) _).alloc (by simp) _
  have HI := Hid.mk ih
  have H1 := Hid.mk (h.grow B0)
  have H2 := Hid.mk (h'.grow B0)
  obtain ⟨ao, cap, rfl, hl1, hl2, hl3⟩ := h.len
  obtain ⟨ao', cap', rfl, hl1', hl2', hl3'⟩ := h'.len
  have hkk : (k != k) = false := by simp
  have hn2 : (n != n) = false := by simp
  have hss : (s.toList != s.toList) = false := by simp
  clear ih h h' hl1 hl2 hl3 hl1' hl2' hl3'
  go_enter Tryz.func24, Tryz.ntmps24
  go_wp2_with fail
  refine (HI.out _ _ _ _ _ H1.out H2.out).mono ?_
  rintro e w1 ⟨rfl, hb1⟩
  have B1 := B0.trans (hb1.mono (by simp; omega))
  clear B0 hb1 HI H1 H2
  go_wp2
  go_ret
  exact ⟨rfl, B1⟩

theorem eqExprS_step (l : List Ex) (ih : ∀ x ∈ l, EqX x.l) : EqX l := by
  intro B C v u w h h'
  obtain ⟨ao, cap, rfl, hl1, hl2, hl3⟩ := h.len
  obtain ⟨ao', cap', rfl, hl1', hl2', hl3'⟩ := h'.len
  have hm : cap ≤ 9223372036854775807 := by unfold maxLen at hl2; omega
  have HI := Hid.mk ih
  have H1 := Hid.mk h
  have H2 := Hid.mk h'
  clear ih h h' hl2 hl2'
  go_enter Tryz.func34, Tryz.ntmps34
  go_wp2
  go_loopw [5] (fun i wr => ∃ (k : Nat), k ≤ l.length ∧ i = .int .i64 k ∧ Below w.heap.size w wr) (fun i _ => l.length - (intOf i).toNat)
  case atStart => exact ⟨0, Nat.zero_le _, rfl, Below.refl _ _⟩
  case round =>
    obtain ⟨k, hk, rfl, hbel⟩ := hrel
    by_cases hkl : k < l.length
    · obtain ⟨b, off, V, rfl, hel⟩ := H1.out.elems (by intro hn; rw [hn] at hkl; simp at hkl)
      obtain ⟨b', off', V', rfl, hel'⟩ := H2.out.elems (by intro hn; rw [hn] at hkl; simp at hkl)
      obtain ⟨h3, hsub, hss⟩ := hel k hkl
      obtain ⟨h3', hsub', _⟩ := hel' k hkl
      have hsz : EqX l[k].l := HI.out _ (List.getElem_mem hkl)
      obtain ⟨t, ht⟩ : ∃ t, l[k] = t := ⟨_, rfl⟩
      rw [ht] at h3 hsub h3' hsub' hsz
      clear ht hel hel' hss
      obtain ⟨c0, cn, c1, c2⟩ := h3.kept (w' := wr) (hbel.block b (World.block_lt_of_cell? w _ h3.1))
      obtain ⟨d0, dn, d1, d2⟩ := h3'.kept (w' := wr) (hbel.block b' (World.block_lt_of_cell? w _ h3'.1))
      have a0 := cell_regrown c0
      have an := cell_regrown cn
      have a1 := cell_regrown c1
      have a2 := cell_regrown c2
      have b0 := cell_regrown d0
      have bn := cell_regrown dn
      have b1 := cell_regrown d1
      have b2 := cell_regrown d2
      have hg := hsub.grow hbel
      have hg' := hsub'.grow hbel
      have cA := Hid.mk (fun d os => Calls.regrown_of (w := wr) (d := d) (os := os) (eqExpr_of t hsz B C (V k) (V' k) _ (hg.grow (below_regrown wr d os)) (hg'.grow (below_regrown wr d os))))
      have hi1 : (k : Int) < (l.length : Int) := by omega
      clear hsub hsub' hsz h3 h3' c0 cn c1 c2 d0 dn d1 d2 hg hg'
      go_wp2_with fail
      refine wp_region_quiet_below (by kernel_rfl) (by kernel_rfl) ?_
      quiet_step (fail)
      quiet_step (fail)
      quiet_step (fail)
      quiet_step (fail)
      quiet_step (fail)
      quiet_step (fail)
      quiet_step (fail)
      quiet_step (fail)
      quiet_step (exact cA.out _ _)
      quiet_step (fail)
      refine wpQuiet_nil ?_
      intro w6 hw'
      obtain ⟨⟨dq, osq⟩, hw''⟩ := hw'
      have hb6 : Below wr.heap.size wr w6 := by rw [hw'']; exact below_regrown _ _ _
      have B6 := hbel.trans (hb6.mono hbel.size)
      clear hw'' a0 an a1 a2 b0 bn b1 b2 cA hb6
      go_wp2
      go_roundw
      case rel => exact ⟨k + 1, by omega, by go_num, B6⟩
      case measure => simp [intOf]; omega
    · go_wp2
      go_ret
      exact ⟨rfl, hbel⟩

theorem eqExprS_any (l : List Ex) : EqX l := (Ex.ind (P := fun t => EqX t.l) (fun t ih => eqExprS_step t.l ih) (.node 0 0 ⟨#[]⟩ l))
theorem eqExpr_any (t : Ex) (B C : Nat → Prop) (v u : Value) (w : World) (h : El w B t.l v) (h' : El w C t.l u) :
    Calls Tryz.prog 24 #[xx t.k t.n t.s v, xx t.k t.n t.s u] w fun e w' => e = .returned (.bool true) ∧ Below w.heap.size w w' := eqExpr_of t (eqExprS_any t.l) B C v u w h h'
end Go.Proofs.YtbbhikbdbndefaaGreat

namespace Go.Proofs.YtbbhikbdbndefaaGreat
open Go.ChangeShapes Go.WideShapes Go.ChangeAt Go.RowKit

section
variable {H : Type} {enc : TypeId × Value → H} {P : Program} {w : World} {held : Bool}
theorem open_agg4 {r : Reach} {b0 base : Nat} {spare : Nat → Bool} {t : TypeId} {f0 f1 f2 f3 : Field} {v : Value} {d : DataW H} {p : List MemPlace} (hs : P.underlying t = some (.struct #[f0, f1, f2, f3]))
    (o0 : f0.offset = 0) (o1 : f1.offset = 1) (o2 : f2.offset = 2) (o3 : f3.offset = 3) (k0 : P.cellsOf f0.type = 1) (k1 : P.cellsOf f1.type = 1) (k2 : P.cellsOf f2.type = 1) (k3 : P.cellsOf f3.type = 1) (hC : P.cellsOf t = 4)
    (hv : Value.okWide P w r b0 t v) (h : DataW.Trod enc P w base spare held t v d p) :
    ∃ (v0 v1 v2 v3 : Value) (y0 y1 y2 y3 : DataW H × List MemPlace) (n : Nat), v = .agg #[v0, v1, v2, v3] ∧ DataW.trod enc P w base spare held n f0.type [v0] = some y0 ∧ DataW.trod enc P w base spare held n f1.type [v1] = some y1 ∧ DataW.trod enc P w base spare held n f2.type [v2] = some y2 ∧ DataW.trod enc P w base spare held n f3.type [v3] = some y3 := by
  obtain ⟨cs, rfl, hsz⟩ := Go.WideShapes.okWide_struct hs hv
  obtain ⟨c0, c1, c2, c3, rfl⟩ : ∃ c0 c1 c2 c3, cs = #[c0, c1, c2, c3] := by
    obtain ⟨l⟩ := cs
    match l, hsz.trans hC with
    | [c0, c1, c2, c3], _ => exact ⟨c0, c1, c2, c3, rfl⟩
  obtain ⟨fuel, hf⟩ := h
  obtain ⟨xs, k, hk, hxy, _, hxl, hf⟩ := DataW.trod_struct hs hf
  have g0 := hf 0 f0 rfl
  have g1 := hf 1 f1 rfl
  have g2 := hf 2 f2 rfl
  have g3 := hf 3 f3 rfl
  simp [o0, o1, o2, o3, k0, k1, k2, k3, Value.cells] at g0 g1 g2 g3
  have hxl' : xs.length = 4 := by simpa using hxl
  rw [List.getElem?_eq_getElem (by omega)] at g0 g1 g2 g3
  exact ⟨c0, c1, c2, c3, _, _, _, _, _, rfl, g0, g1, g2, g3⟩
end
end Go.Proofs.YtbbhikbdbndefaaGreat

namespace Go.Proofs.YtbbhikbdbndefaaGreat
open Go.RowKit
set_option maxRecDepth 8000

theorem szx_mem {y : Ex} {l : List Ex} (h : y ∈ l) : y.sz ≤ szx l := by
  induction l with
  | nil => cases h
  | cons t r ih =>
    rw [szx]
    rcases List.mem_cons.1 h with rfl | h
    · omega
    · have := ih h; omega
theorem inX_sz {x t : Ex} (h : InX x t) : x.s.size ≤ t.sz := by
  induction h with
  | self => have := x.sz_eq; omega
  | @sub y t h hx ih =>
    have := szx_mem h
    have := t.sz_eq
    omega

set_option maxHeartbeats 1000000 in
theorem fnExactExprOk_walk (t : Ex) (v : Value) (w : World) (h : El w anyBlock t.l v) (hs : t.s.size ≤ maxLen) :
    Calls Tryz.prog 7 #[xx t.k t.n t.s v] w fun e w' => e = .returned (.bool true) ∧ Below w.heap.size w w' := by
  have HS := Hid.mk (fun (w' : World) (hb : Below w.heap.size w w') => szExpr_any t anyBlock v w' 1048576 (h.grow hb) hs (by omega) (by omega))
  have HT := Hid.mk (fun hz (w' : World) (hb : Below w.heap.size w w') => toExpr_any t anyBlock v w' (h.grow hb) hz)
  have HSO := Hid.mk (fun (hz : ShX t) (w' : World) (B : Nat → Prop) (u : Value) (h : El w' B t.l u) => specExprOk_any t B u w' h hz)
  have HIO := Hid.mk (fun (hz : ShX t) (w' : World) (B : Nat → Prop) (u : Value) (h : El w' B t.l u) => implExprOk_any t B u w' h hz)
  have HEQ := Hid.mk (fun (w' : World) (B C : Nat → Prop) (u u' : Value) (h : El w' B t.l u) (h' : El w' C t.l u') => eqExpr_any t B C u u' w' h h')
  have HZ2 : Hid (¬ leftOf 1048576 t.sz < 0 → ShX t) := by
    intro h x hx
    have := inX_sz hx
    unfold leftOf at h
    split at h <;> omega
  have HZ : Hid (¬ leftOf 1048576 t.sz < 0 → szx t.l ≤ 1048576) := by
    intro h
    have := t.sz_eq
    unfold leftOf at h
    split at h <;> omega
  obtain ⟨m, hm⟩ : ∃ m, leftOf 1048576 t.sz = m := ⟨_, rfl⟩
  obtain ⟨b, hb⟩ : ∃ b, okE t = b := ⟨_, rfl⟩
  obtain ⟨k, hk⟩ : ∃ k, t.k = k := ⟨_, rfl⟩
  obtain ⟨n, hnn⟩ : ∃ n, t.n = n := ⟨_, rfl⟩
  obtain ⟨s, hsn⟩ : ∃ s, t.s = s := ⟨_, rfl⟩
  obtain ⟨l, hln⟩ : ∃ l, t.l = l := ⟨_, rfl⟩
  rw [hk, hnn, hsn, hm] at HS
  rw [hk, hnn, hsn, hln] at HT
  rw [hk, hnn, hsn, hln, hb] at HSO HIO
  rw [hk, hnn, hsn, hln] at HEQ
  rw [hm, hln] at HZ
  rw [hm] at HZ2
  rw [hln] at h
  rw [hk, hnn, hsn]
  clear hm hb hk hsn hln hs
  obtain ⟨ao, cap, rfl, hl1, hl2, hl3⟩ := h.len
  have B0 : Below w.heap.size w (w.alloc (.cells #[.int .i64 k, .int .i64 n, .string s, .slice ao l.length cap] 42)) := (Below.refl _ _).alloc (Nat.le_refl _) _
  have hbb : (b != b) = false := by simp
  clear h hl1 hl2 hl3
  by_cases hm : m < 0
  · clear HT HSO HIO HEQ HZ HZ2
    go_enter Tryz.func7, Tryz.ntmps7
    go_wp2_with fail
    refine (HS.out _ B0).mono ?_
    rintro e w1 ⟨rfl, hb1⟩
    have B1 := B0.trans (hb1.mono (by simp))
    clear B0 hb1 HS
    go_wp2
    go_ret
    exact ⟨rfl, B1⟩
  · have HT' := Hid.mk (HT.out (HZ.out hm))
    have HSO := Hid.mk (HSO.out (HZ2.out hm))
    have HIO := Hid.mk (HIO.out (HZ2.out hm))
    clear HT HZ HZ2
    go_enter Tryz.func7, Tryz.ntmps7
    go_wp2_with fail
    refine (HS.out _ B0).mono ?_
    rintro e w1 ⟨rfl, hb1⟩
    have C1 : Hid (Below (w.heap.size + 1) (w.alloc (.cells #[.int .i64 k, .int .i64 n, .string s, .slice ao l.length cap] 42)) w1) := hb1.mono (by simp)
    have s1 := hb1.size
    simp at s1
    have hc1 := fun o => C1.out.cell (p := ⟨w.heap.size, o, none⟩) (by simp)
    clear hb1 HS
    go_wp2_with fail
    refine (HT'.out _ (B0.trans (C1.out.mono (by omega)))).mono ?_
    rintro e w2 ⟨u, rfl, hr2, hb2⟩
    have C2 : Hid (Below (w.heap.size + 1) (w.alloc (.cells #[.int .i64 k, .int .i64 n, .string s, .slice ao l.length cap] 42)) w2) := C1.out.trans (hb2.mono (by omega))
    have s2 : w.heap.size + 1 ≤ w2.heap.size := Nat.le_trans s1 hb2.size
    clear hb2 C1 hc1 s1
    go_wp2_with fail
    refine (HSO.out _ _ _ hr2).mono ?_
    rintro e w3 ⟨rfl, hb3⟩
    have C3 : Hid (Below (w.heap.size + 1) (w.alloc (.cells #[.int .i64 k, .int .i64 n, .string s, .slice ao l.length cap] 42)) w3) := C2.out.trans (hb3.mono (by omega))
    have s3 : w.heap.size + 1 ≤ w3.heap.size := Nat.le_trans s2 hb3.size
    have hc3 := fun o => C3.out.cell (p := ⟨w.heap.size, o, none⟩) (by simp)
    clear hb3 C2 s2 hr2 HSO
    go_wp2_with fail
    refine (HT'.out _ (B0.trans (C3.out.mono (by omega)))).mono ?_
    rintro e w4 ⟨u4, rfl, hr4, hb4⟩
    have C4 : Hid (Below (w.heap.size + 1) (w.alloc (.cells #[.int .i64 k, .int .i64 n, .string s, .slice ao l.length cap] 42)) w4) := C3.out.trans (hb4.mono (by omega))
    have s4 : w.heap.size + 1 ≤ w4.heap.size := Nat.le_trans s3 hb4.size
    obtain ⟨a4, c4, rfl, -, -, -⟩ := hr4.len
    have B5 : Below w4.heap.size w4 (w4.alloc (.cells #[.int .i64 k, .int .i64 n, .string s, .slice a4 l.length c4] 46)) := (Below.refl _ _).alloc (Nat.le_refl _) _
    have HR5 := Hid.mk (hr4.grow B5)
    clear hb4 C3 hc3 s3 hr4
    go_wp2_with fail
    refine (HIO.out _ _ _ HR5.out).mono ?_
    rintro e w6 ⟨rfl, hb6⟩
    have D6 : Hid (Below (w4.heap.size + 1) (w4.alloc (.cells #[.int .i64 k, .int .i64 n, .string s, .slice a4 l.length c4] 46)) w6) := hb6.mono (by simp)
    have HR6 := Hid.mk (HR5.out.grow hb6)
    have C6 : Hid (Below (w.heap.size + 1) (w.alloc (.cells #[.int .i64 k, .int .i64 n, .string s, .slice ao l.length cap] 42)) w6) := C4.out.trans ((B5.trans (hb6.mono (by simp))).mono (by omega))
    have s6 : w4.heap.size + 1 ≤ w6.heap.size := by have := hb6.size; simpa using this
    clear hb6 HR5 B5 C4 HIO
    have S0 : Hid (Below w6.heap.size w6 w6.drew) := Below.drewSelf _ _ 1
    have hxb : ∀ w', Below w6.heap.size w6 w' → ∀ o, w'.cell? ⟨w4.heap.size, o, none⟩ = (w4.alloc (.cells #[.int .i64 k, .int .i64 n, .string s, .slice a4 l.length c4] 46)).cell? ⟨w4.heap.size, o, none⟩ := by
      intro w' hb o
      rw [hb.cell (p := ⟨w4.heap.size, o, none⟩) (by simp; omega)]
      exact D6.out.cell (p := ⟨w4.heap.size, o, none⟩) (by simp)
    have hyb : ∀ w', Below w6.heap.size w6 w' → ∀ o, w'.cell? ⟨w.heap.size, o, none⟩ = (w.alloc (.cells #[.int .i64 k, .int .i64 n, .string s, .slice ao l.length cap] 42)).cell? ⟨w.heap.size, o, none⟩ := by
      intro w' hb o
      rw [hb.cell (p := ⟨w.heap.size, o, none⟩) (by simp; omega)]
      exact C6.out.cell (p := ⟨w.heap.size, o, none⟩) (by simp)
    have HX := Hid.mk hxb
    have HY := Hid.mk hyb
    clear hxb hyb
    go_wp2_with fail
    refine wp_region_held_drew (S := Below w6.heap.size w6) (by kernel_rfl) S0.out (fun _ => ?_)
    refine takeHD (i := 0) (v := xx k n s (.slice a4 l.length c4)) (some 22) rfl rfl (by kernel_rfl) (by kernel_rfl) (by kernel_rfl) (fun _ _ _ h => h) (Or.inl ⟨by kernel_rfl, fun w' hw => ?_⟩) S0.out ?_
    · have hx := HX.out w' hw
      go_simp
    simp only [Act.put, List.setIfInBounds_toArray]
    refine takeHD (i := 1) (v := xx k n s (.slice ao l.length cap)) (some 23) rfl rfl (by kernel_rfl) (by kernel_rfl) (by kernel_rfl) (fun _ _ _ h => h) (Or.inl ⟨by kernel_rfl, fun w' hw => ?_⟩) S0.out ?_
    · have hy := HY.out w' hw
      go_simp
    simp only [Act.put, List.setIfInBounds_toArray]
    refine wpAnyH_ready (rs := [2]) (by kernel_rfl) (by simp) ?_
    refine AllReadyH.cons rfl (fun K hK => ?_) AllReadyH.nil
    rw [if_pos (by kernel_rfl)]
    go_wp2_with fail
    refine (HT'.out _ (B0.trans ((C6.out.trans (S0.out.mono (by omega))).mono (by omega)))).mono ?_
    rintro e w7 ⟨u7, rfl, hr7, hb7⟩
    have S7 : Hid (Below w6.heap.size w6 w7) := S0.out.trans hb7
    refine hK.out _ _ S7.out (fun _ => ?_)
    clear hK K
    have HR7 := Hid.mk (HR6.out.grow S7.out)
    refine wpAnyH_ready (rs := [3]) (by kernel_rfl) (by simp) ?_
    refine AllReadyH.cons rfl (fun K hK => ?_) AllReadyH.nil
    rw [if_pos (by kernel_rfl)]
    go_wp2_with fail
    refine (HEQ.out _ _ _ _ _ HR7.out hr7).mono ?_
    rintro e w8 ⟨rfl, hb8⟩
    have S8 : Hid (Below w6.heap.size w6 w8) := S7.out.trans (hb8.mono S7.out.size)
    refine hK.out _ _ S8.out (fun _ => ?_)
    clear hK K hr7 hb7 hb8 S7 HR7 HR6
    refine wpAnyH_ready (rs := [4]) (by kernel_rfl) (by simp) ?_
    refine AllReadyH.cons rfl (fun K hK => ?_) AllReadyH.nil
    rw [if_pos (by kernel_rfl)]
    go_wp2_with fail
    refine hK.out _ _ S8.out (fun _ => ?_)
    clear hK K
    refine wpAnyH_done (by kernel_rfl) ?_ _
    go_wp2
    go_ret
    exact ⟨rfl, B0.trans ((C6.out.trans (S8.out.mono (by omega))).mono (by omega))⟩
end Go.Proofs.YtbbhikbdbndefaaGreat
