/- The model's reader: one behind the other. ParseRex, the model's. Which terms are right, but for their parts: the model's l8Here. Parts of a term, counted: the model's. -/
import Derived.Test.YtbbhikbdbndefaaGreatPk2
import Derived.Test.YtbbhikbdbndefaaGreatPk1
import Derived.Test.YtbbhikbdbndefaaGreatQuietS
import Derived.Test.YtbbhikbdbndefaaGreatTake
import Derived.Test.YtbbhikbdbndefaaGreatExOkM
namespace Go.Proofs.YtbbhikbdbndefaaGreat
open Go.RowKit
set_option maxRecDepth 8000

set_option maxHeartbeats 16000000 in
theorem cat_of (n : Nat) (d : Int) (hd9 : d ≤ 9) (hc : SpC 94 (rdItem (rd n)) d) : SpC 90 (rdCat (rd n)) d := by
  intro s R p w h hp hs
  obtain ⟨h0, hne, hb0, hg0⟩ := pre_boxS h
  have H0 := Hid.mk h0
  have HB0 := Hid.mk hb0
  have HG0 := Hid.mk hg0
  have hRl := h.lt
  have HC := Hid.mk hc
  clear h h0 hb0 hg0 hc
  go_enter Tryz.func90, Tryz.ntmps90
  go_wp2_with fail
  refine (HC.out s R p _ H0.out hp hs).mono ?_
  rintro e w1 ⟨hg1, t, u, p1, rfl, hsz, how, hp1, hp2, hcase⟩
  obtain ⟨au, cu, rfl⟩ := how.value
  have hbw : Below w1.heap.size w1 (w1.alloc (.cells #[.int .i64 t.k, .string t.s, .slice au t.l.length cu] 128)) := (Below.refl _ _).alloc (Nat.le_refl _) _
  have hs1 : w.heap.size + 1 ≤ w1.heap.size := by have := hg1.size; simpa using this
  have HB1 := Hid.mk ((HB0.out.gb hg1 hne).kept (hbw.block _ (HB0.out.gb hg1 hne).lt))
  have HG1 := Hid.mk (gb_below (gb_trans HG0.out hg1) hbw)
  have HO1 := Hid.mk (Ow.one (t := t) how hsz (C := newFrom (w.heap.size + 1)) (fun b hb _ => by unfold newFrom at *; simpa using hb) (by unfold newFrom; omega))
  obtain ⟨RR, hRR⟩ : ∃ RR, rdCat (rd n) ((txt s).drop p) = RR := ⟨_, rfl⟩
  obtain ⟨bad, d1, HS1, hcs⟩ : ∃ (bad : Bool) (d1 : Int), Hid (Sds (w1.alloc (.cells #[.int .i64 t.k, .string t.s, .slice au t.l.length cu] 128)) R s p1 bad d1) ∧
      Hid ((bad = true ∧ d ≤ d1 ∧ d1 ≤ 9 ∧ RR = none) ∨ (bad = false ∧ d1 = d ∧ p < p1 ∧ ∃ m, s.size - p1 ≤ m ∧ RR = (rdCatL (rd n) m [t] ((txt s).drop p1)).map fun p => (oneAll 4 p.1, p.2))) := by
    rcases hcase with ⟨hr0, d', hsd, e1, e2⟩ | ⟨hrd, hpp, hsd⟩
    · exact ⟨true, d', hsd.grow hbw, Or.inl ⟨rfl, e1, e2, by rw [← hRR, rdCat, hr0]⟩⟩
    · exact ⟨false, d, hsd.grow hbw, Or.inr ⟨rfl, rfl, hpp, _, drop_len s p1, by rw [← hRR, rdCat, hrd]⟩⟩
  have HRR := Hid.mk hRR
  obtain ⟨tk, htk⟩ : ∃ tk, t.k = tk := ⟨_, rfl⟩
  obtain ⟨ts, hts⟩ : ∃ ts, t.s = ts := ⟨_, rfl⟩
  rw [htk, hts] at HB1 HG1 HO1 HS1
  rw [htk, hts]
  clear hg1 hsz how hbw H0 HB0 HG0 hRR htk hts hcase
  go_wp2
  go_loopg [3] (if bad = true then 0 else s.size - p1 + 1) (fun k v wr => ∃ (acc : List Tr) (pc : Nat) (bad : Bool) (d1 : Int), acc ≠ [] ∧ p ≤ pc ∧ pc ≤ s.size ∧ (if bad = true then 0 else s.size - pc + 1) = k ∧ acc.length + (s.size - pc) ≤ 1048577 + (if bad = true then 1 else 0) ∧
      Hid ((bad = true ∧ d ≤ d1 ∧ d1 ≤ 9 ∧ RR = none) ∨ (bad = false ∧ d1 = d ∧ p < pc ∧ ∃ m, s.size - pc ≤ m ∧ RR = (rdCatL (rd n) m acc ((txt s).drop pc)).map fun p => (oneAll 4 p.1, p.2))) ∧
      Hid (w.grownBy wr (some R)) ∧ Hid (Sds wr R s pc bad d1) ∧ Hid (Bx3 wr w.heap.size (.int .i64 0) (.string ⟨#[]⟩) (.slice none 0 0)) ∧ Hid (Ow wr (newFrom (w.heap.size + 1)) acc v))
  case atStart => exact ⟨[t], p1, bad, d1, by simp, hp1, hp2, rfl, by rw [List.length_singleton]; omega, hcs, HG1, HS1, HB1, HO1⟩
  case round =>
    clear HG1 HS1 HB1 HO1 hcs
    obtain ⟨acc, pc, bad, d1, hacc, hpc, hpc2, hgk, hlen, hcs, hg, hsd, hb, ho⟩ := hrel
    obtain ⟨v, rfl⟩ : ∃ v, v = u3 := ⟨_, rfl⟩
    have hyy : bad = false → (!bad && goesOn ((txt s).drop pc)) = goesOn ((txt s).drop pc) := fun h => by rw [h]; simp
    cases hy : (!bad && goesOn ((txt s).drop pc)) with
    | false =>
      have HF : Hid ((bad = true ∧ d ≤ d1 ∧ d1 ≤ 9 ∧ RR = none) ∨ (bad = false ∧ d1 = d ∧ p < pc ∧ RR = some (oneAll 4 acc, (txt s).drop pc))) := by
        rcases hcs.out with h | ⟨hb, hd1, hpp, m, hm, he⟩
        · exact Or.inl h
        · exact Or.inr ⟨hb, hd1, hpp, by rw [he, rdCatL_stop (rd n) m acc s pc (by rw [← hyy hb]; exact hy)]; rfl⟩
      clear hcs HC
      by_cases hbt : bad = true
      · clear hy hyy
        have c0 := hsd.out.c0
        have c1 := hsd.out.c1
        have c2 := hsd.out.c2
        go_wp2_with fail
        refine wp_region_quiet_lit (by kernel_rfl) (by kernel_rfl) (Qt.out ?_)
        refine Qt.step (fun K hK => ?_)
        go_simp
        refine hK _ ?_
        clear hK K
        refine Qt.step (fun K hK => ?_)
        go_simp
        refine hK _ ?_
        clear hK K
        refine Qt.step (fun K hK => ?_)
        go_simp
        refine hK _ ?_
        clear hK K
        refine Qt.step (fun K hK => ?_)
        go_simp
        refine hK _ ?_
        clear hK K
        refine Qt.step (fun K hK => ?_)
        go_simp
        refine hK _ ?_
        clear hK K
        refine Qt.step (fun K hK => ?_)
        go_simp
        refine hK _ ?_
        clear hK K
        refine Qt.step (fun K hK => ?_)
        go_simp
        refine hK _ ?_
        clear hK K
        refine Qt.step (fun K hK => ?_)
        go_simp
        refine hK _ ?_
        clear hK K
        refine Qt.step (fun K hK => ?_)
        go_simp
        refine hK _ ?_
        clear hK K
        refine Qt.step (fun K hK => ?_)
        go_simp
        refine hK _ ?_
        clear hK K
        refine Qt.step (fun K hK => ?_)
        go_simp
        refine hK _ ?_
        clear hK K
        refine Qt.step (fun K hK => ?_)
        go_simp
        refine hK _ ?_
        clear hK K
        refine Qt.step (fun K hK => ?_)
        go_simp
        refine hK _ ?_
        clear hK K
        refine Qt.step (fun K hK => ?_)
        go_simp
        refine hK _ ?_
        clear hK K
        refine Qt.step (fun K hK => ?_)
        go_simp
        refine hK _ ?_
        clear hK K
        refine Qt.step (fun K hK => ?_)
        go_simp
        refine hK _ ?_
        clear hK K
        refine Qt.step (fun K hK => ?_)
        go_simp
        refine hK _ ?_
        clear hK K
        refine Qt.step (fun K hK => ?_)
        go_simp
        refine hK _ ?_
        clear hK K
        refine Qt.step (fun K hK => ?_)
        go_simp
        refine hK _ ?_
        clear hK K
        refine Qt.step (fun K hK => ?_)
        go_simp
        refine hK _ ?_
        clear hK K
        refine Qt.step (fun K hK => ?_)
        go_simp
        refine hK _ ?_
        clear hK K
        refine Qt.step (fun K hK => ?_)
        go_simp
        refine hK _ ?_
        clear hK K
        refine Qt.step (fun K hK => ?_)
        go_simp
        refine hK _ ?_
        clear hK K
        refine Qt.step (fun K hK => ?_)
        go_simp
        refine hK _ ?_
        clear hK K
        refine Qt.step (fun K hK => ?_)
        go_simp
        refine hK _ ?_
        clear hK K
        refine Qt.step (fun K hK => ?_)
        go_simp
        refine hK _ ?_
        clear hK K
        refine Qt.step (fun K hK => ?_)
        go_simp
        refine hK _ ?_
        clear hK K
        refine Qt.step (fun K hK => ?_)
        go_simp
        refine hK _ ?_
        clear hK K
        refine Qt.step (fun K hK => ?_)
        go_simp
        refine hK _ ?_
        clear hK K
        refine Qt.step (fun K hK => ?_)
        go_simp
        refine hK _ ?_
        clear hK K
        refine Qt.step (fun K hK => ?_)
        go_simp
        refine hK _ ?_
        clear hK K
        refine Qt.step (fun K hK => ?_)
        go_simp
        refine hK _ ?_
        clear hK K
        refine Qt.step (fun K hK => ?_)
        go_simp
        refine hK _ ?_
        clear hK K
        refine Qt.step (fun K hK => ?_)
        go_simp
        refine hK _ ?_
        clear hK K
        refine Qt.step (fun K hK => ?_)
        go_simp
        refine hK _ ?_
        clear hK K
        refine Qt.step (fun K hK => ?_)
        go_simp
        refine hK _ ?_
        clear hK K
        refine Qt.step (fun K hK => ?_)
        go_simp
        refine hK _ ?_
        clear hK K
        refine Qt.step (fun K hK => ?_)
        go_simp
        refine hK _ ?_
        clear hK K
        refine Qt.step (fun K hK => ?_)
        go_simp
        refine hK _ ?_
        clear hK K
        refine Qt.step (fun K hK => ?_)
        go_simp
        refine hK _ ?_
        clear hK K
        refine Qt.step (fun K hK => ?_)
        go_simp
        refine hK _ ?_
        clear hK K
        refine Qt.nil ?_
        intro _ hw'
        obtain ⟨nq1, hw''⟩ := hw'
        subst hw''
        have HS1 := hsd.out.drew nq1
        have HB1 := hb.out.gb (gb_drew _ R nq1) hne
        have HG1 := gb_trans hg.out (gb_drew _ R nq1)
        have HO1 := ho.out.gb (gb_drew wr R nq1) (by unfold newFrom; omega)
        have hz1 : (wr.drewN nq1).heap.size = wr.heap.size := rfl
        generalize (wr.drewN nq1) = w2 at HS1 HB1 HG1 HO1 hz1 ⊢
        have HS2 := Hid.mk HS1
        have HB2 := Hid.mk HB1
        have HG2 := Hid.mk HG1
        have HO2 := Hid.mk HO1
        clear HS1 HB1 HG1 HO1 c0 c1 c2
        clear hg hsd hb ho
        by_cases hl1 : acc.length = 1
        · obtain ⟨x, rfl⟩ := List.length_eq_one_iff.1 hl1
          obtain ⟨g2, cap2, V2, rfl, hat, hoV, hsV⟩ := ow_first HO2.out
          obtain ⟨y0, y1, y2⟩ := hat
          simp only [Nat.zero_add] at y1 y2
          obtain ⟨a4, c4, rfl⟩ := hoV.value
          have HO4 := Hid.mk hoV
          have HSZ := Hid.mk hsV
          have HF2 : Hid ((bad = true ∧ d ≤ d1 ∧ d1 ≤ 9 ∧ RR = none) ∨ (bad = false ∧ d1 = d ∧ p < pc ∧ RR = some (x, (txt s).drop pc))) := HF.out
          have h1b : ((([x] : List Tr).length : Int) == 1) = true := by simp
          obtain ⟨xk, hxk⟩ : ∃ xk, x.k = xk := ⟨_, rfl⟩
          obtain ⟨xs, hxs⟩ : ∃ xs, x.s = xs := ⟨_, rfl⟩
          rw [hxk] at y0
          rw [hxs] at y1
          clear HO2 hoV hsV HF hl1
          have c0 := HB2.out.c0
          have c1 := HB2.out.c1
          have c2 := HB2.out.c2
          have f0 := HB2.out.fr
          go_wp2
          have hput := HB2.out.put (.int .i64 xk) (.string xs) (.slice a4 x.l.length c4)
          have hgp := gb_set3 HG2.out (Nat.le_refl _) (.int .i64 xk) (.string xs) (.slice a4 x.l.length c4)
          have hrp := HS2.out.set3 (Ne.symm hne) (.int .i64 xk) (.string xs) (.slice a4 x.l.length c4)
          have hop := HO4.out.set3 (b := w.heap.size) (by unfold newFrom; omega) (.int .i64 xk) (.string xs) (.slice a4 x.l.length c4)
          unfold set3 at hput hgp hrp hop
          generalize ((w2.setCell ⟨w.heap.size, 0, none⟩ (.int .i64 xk)).setCell ⟨w.heap.size, 1, none⟩ (.string xs)).setCell ⟨w.heap.size, 2, none⟩ (.slice a4 x.l.length c4) = W at hput hgp hrp hop ⊢
          have r0 := hput.c0
          have r1 := hput.c1
          have r2 := hput.c2
          refine bodyPost_ret (v := .agg #[.int .i64 xk, .string xs, .slice a4 x.l.length c4]) ?_ rfl ⟨hgp, x, _, pc, by rw [hxk, hxs], HSZ.out, hop.mono (fun b hb => by unfold newFrom at *; omega), by omega, by omega, ?_⟩
          · simp [results, Tryz.results90, go_sem, r0, r1, r2]
          · rcases HF2.out with ⟨hb, e1, e2, he⟩ | ⟨hb, hd1, hpp, he⟩
            · exact Or.inl ⟨HRR.out.trans he, d1, by rw [hb] at hrp; exact hrp, e1, e2⟩
            · exact Or.inr ⟨HRR.out.trans he, hpp, by rw [hb, hd1] at hrp; exact hrp⟩
        · have HF2 : Hid ((bad = true ∧ d ≤ d1 ∧ d1 ≤ 9 ∧ RR = none) ∨ (bad = false ∧ d1 = d ∧ p < pc ∧ RR = some (.node 4 ⟨#[]⟩ acc, (txt s).drop pc))) := by
            have := HF.out
            rw [oneAll_many hl1 hacc] at this
            exact this
          obtain ⟨a4, c4, rfl⟩ := HO2.out.value
          have h1b : ((acc.length : Int) == 1) = false := beq_eq_false_iff_ne.2 (by omega)
          clear HF hl1
          have c0 := HB2.out.c0
          have c1 := HB2.out.c1
          have c2 := HB2.out.c2
          have f0 := HB2.out.fr
          go_wp2
          have hput := HB2.out.put (.int .i64 4) (.string ⟨#[]⟩) (.slice a4 acc.length c4)
          have hgp := gb_set3 HG2.out (Nat.le_refl _) (.int .i64 4) (.string ⟨#[]⟩) (.slice a4 acc.length c4)
          have hrp := HS2.out.set3 (Ne.symm hne) (.int .i64 4) (.string ⟨#[]⟩) (.slice a4 acc.length c4)
          have hop := HO2.out.set3 (b := w.heap.size) (by unfold newFrom; omega) (.int .i64 4) (.string ⟨#[]⟩) (.slice a4 acc.length c4)
          unfold set3 at hput hgp hrp hop
          generalize ((w2.setCell ⟨w.heap.size, 0, none⟩ (.int .i64 4)).setCell ⟨w.heap.size, 1, none⟩ (.string ⟨#[]⟩)).setCell ⟨w.heap.size, 2, none⟩ (.slice a4 acc.length c4) = W at hput hgp hrp hop ⊢
          have r0 := hput.c0
          have r1 := hput.c1
          have r2 := hput.c2
          refine bodyPost_ret (v := .agg #[.int .i64 4, .string ⟨#[]⟩, .slice a4 acc.length c4]) ?_ rfl ⟨hgp, .node 4 ⟨#[]⟩ acc, _, pc, rfl, (by show (⟨#[]⟩ : ByteArray).size ≤ maxLen; decide), hop.mono (fun b hb => by unfold newFrom at *; omega), by omega, by omega, ?_⟩
          · simp [results, Tryz.results90, go_sem, r0, r1, r2]
          · rcases HF2.out with ⟨hb, e1, e2, he⟩ | ⟨hb, hd1, hpp, he⟩
            · exact Or.inl ⟨HRR.out.trans he, d1, by rw [hb] at hrp; exact hrp, e1, e2⟩
            · exact Or.inr ⟨HRR.out.trans he, hpp, by rw [hb, hd1] at hrp; exact hrp⟩
      have hbf : bad = false := by simpa using hbt
      have hgo : goesOn ((txt s).drop pc) = false := by rw [← hyy hbf]; exact hy
      clear hbt hyy hy
      by_cases hend : pc = s.size
      · have hge : ¬ pc < s.size := by omega
        clear hend hgo
        have c0 := hsd.out.c0
        have c1 := hsd.out.c1
        have c2 := hsd.out.c2
        go_wp2_with fail
        refine wp_region_quiet_lit (by kernel_rfl) (by kernel_rfl) (Qt.out ?_)
        refine Qt.step (fun K hK => ?_)
        go_simp
        refine hK _ ?_
        clear hK K
        refine Qt.step (fun K hK => ?_)
        go_simp
        refine hK _ ?_
        clear hK K
        refine Qt.step (fun K hK => ?_)
        go_simp
        refine hK _ ?_
        clear hK K
        refine Qt.step (fun K hK => ?_)
        go_simp
        refine hK _ ?_
        clear hK K
        refine Qt.step (fun K hK => ?_)
        go_simp
        refine hK _ ?_
        clear hK K
        refine Qt.step (fun K hK => ?_)
        go_simp
        refine hK _ ?_
        clear hK K
        refine Qt.step (fun K hK => ?_)
        go_simp
        refine hK _ ?_
        clear hK K
        refine Qt.step (fun K hK => ?_)
        go_simp
        refine hK _ ?_
        clear hK K
        refine Qt.step (fun K hK => ?_)
        go_simp
        refine hK _ ?_
        clear hK K
        refine Qt.step (fun K hK => ?_)
        go_simp
        refine hK _ ?_
        clear hK K
        refine Qt.step (fun K hK => ?_)
        go_simp
        refine hK _ ?_
        clear hK K
        refine Qt.step (fun K hK => ?_)
        go_simp
        refine hK _ ?_
        clear hK K
        refine Qt.step (fun K hK => ?_)
        go_simp
        refine hK _ ?_
        clear hK K
        refine Qt.step (fun K hK => ?_)
        go_simp
        refine hK _ ?_
        clear hK K
        refine Qt.step (fun K hK => ?_)
        go_simp
        refine hK _ ?_
        clear hK K
        refine Qt.step (fun K hK => ?_)
        go_simp
        refine hK _ ?_
        clear hK K
        refine Qt.step (fun K hK => ?_)
        go_simp
        refine hK _ ?_
        clear hK K
        refine Qt.step (fun K hK => ?_)
        go_simp
        refine hK _ ?_
        clear hK K
        refine Qt.step (fun K hK => ?_)
        go_simp
        refine hK _ ?_
        clear hK K
        refine Qt.step (fun K hK => ?_)
        go_simp
        refine hK _ ?_
        clear hK K
        refine Qt.step (fun K hK => ?_)
        go_simp
        refine hK _ ?_
        clear hK K
        refine Qt.step (fun K hK => ?_)
        go_simp
        refine hK _ ?_
        clear hK K
        refine Qt.step (fun K hK => ?_)
        go_simp
        refine hK _ ?_
        clear hK K
        refine Qt.step (fun K hK => ?_)
        go_simp
        refine hK _ ?_
        clear hK K
        refine Qt.step (fun K hK => ?_)
        go_simp
        refine hK _ ?_
        clear hK K
        refine Qt.step (fun K hK => ?_)
        go_simp
        refine hK _ ?_
        clear hK K
        refine Qt.step (fun K hK => ?_)
        go_simp
        refine hK _ ?_
        clear hK K
        refine Qt.step (fun K hK => ?_)
        go_simp
        refine hK _ ?_
        clear hK K
        refine Qt.step (fun K hK => ?_)
        go_simp
        refine hK _ ?_
        clear hK K
        refine Qt.step (fun K hK => ?_)
        go_simp
        refine hK _ ?_
        clear hK K
        refine Qt.step (fun K hK => ?_)
        go_simp
        refine hK _ ?_
        clear hK K
        refine Qt.step (fun K hK => ?_)
        go_simp
        refine hK _ ?_
        clear hK K
        refine Qt.step (fun K hK => ?_)
        go_simp
        refine hK _ ?_
        clear hK K
        refine Qt.step (fun K hK => ?_)
        go_simp
        refine hK _ ?_
        clear hK K
        refine Qt.step (fun K hK => ?_)
        go_simp
        refine hK _ ?_
        clear hK K
        refine Qt.step (fun K hK => ?_)
        go_simp
        refine hK _ ?_
        clear hK K
        refine Qt.step (fun K hK => ?_)
        go_simp
        refine hK _ ?_
        clear hK K
        refine Qt.step (fun K hK => ?_)
        go_simp
        refine hK _ ?_
        clear hK K
        refine Qt.step (fun K hK => ?_)
        go_simp
        refine hK _ ?_
        clear hK K
        refine Qt.step (fun K hK => ?_)
        go_simp
        refine hK _ ?_
        clear hK K
        refine Qt.step (fun K hK => ?_)
        go_simp
        refine hK _ ?_
        clear hK K
        refine Qt.nil ?_
        intro _ hw'
        obtain ⟨nq1, hw''⟩ := hw'
        subst hw''
        have HS1 := hsd.out.drew nq1
        have HB1 := hb.out.gb (gb_drew _ R nq1) hne
        have HG1 := gb_trans hg.out (gb_drew _ R nq1)
        have HO1 := ho.out.gb (gb_drew wr R nq1) (by unfold newFrom; omega)
        have hz1 : (wr.drewN nq1).heap.size = wr.heap.size := rfl
        generalize (wr.drewN nq1) = w2 at HS1 HB1 HG1 HO1 hz1 ⊢
        have HS2 := Hid.mk HS1
        have HB2 := Hid.mk HB1
        have HG2 := Hid.mk HG1
        have HO2 := Hid.mk HO1
        clear HS1 HB1 HG1 HO1 c0 c1 c2
        clear hg hsd hb ho
        by_cases hl1 : acc.length = 1
        · obtain ⟨x, rfl⟩ := List.length_eq_one_iff.1 hl1
          obtain ⟨g2, cap2, V2, rfl, hat, hoV, hsV⟩ := ow_first HO2.out
          obtain ⟨y0, y1, y2⟩ := hat
          simp only [Nat.zero_add] at y1 y2
          obtain ⟨a4, c4, rfl⟩ := hoV.value
          have HO4 := Hid.mk hoV
          have HSZ := Hid.mk hsV
          have HF2 : Hid ((bad = true ∧ d ≤ d1 ∧ d1 ≤ 9 ∧ RR = none) ∨ (bad = false ∧ d1 = d ∧ p < pc ∧ RR = some (x, (txt s).drop pc))) := HF.out
          have h1b : ((([x] : List Tr).length : Int) == 1) = true := by simp
          obtain ⟨xk, hxk⟩ : ∃ xk, x.k = xk := ⟨_, rfl⟩
          obtain ⟨xs, hxs⟩ : ∃ xs, x.s = xs := ⟨_, rfl⟩
          rw [hxk] at y0
          rw [hxs] at y1
          clear HO2 hoV hsV HF hl1
          have c0 := HB2.out.c0
          have c1 := HB2.out.c1
          have c2 := HB2.out.c2
          have f0 := HB2.out.fr
          go_wp2
          have hput := HB2.out.put (.int .i64 xk) (.string xs) (.slice a4 x.l.length c4)
          have hgp := gb_set3 HG2.out (Nat.le_refl _) (.int .i64 xk) (.string xs) (.slice a4 x.l.length c4)
          have hrp := HS2.out.set3 (Ne.symm hne) (.int .i64 xk) (.string xs) (.slice a4 x.l.length c4)
          have hop := HO4.out.set3 (b := w.heap.size) (by unfold newFrom; omega) (.int .i64 xk) (.string xs) (.slice a4 x.l.length c4)
          unfold set3 at hput hgp hrp hop
          generalize ((w2.setCell ⟨w.heap.size, 0, none⟩ (.int .i64 xk)).setCell ⟨w.heap.size, 1, none⟩ (.string xs)).setCell ⟨w.heap.size, 2, none⟩ (.slice a4 x.l.length c4) = W at hput hgp hrp hop ⊢
          have r0 := hput.c0
          have r1 := hput.c1
          have r2 := hput.c2
          refine bodyPost_ret (v := .agg #[.int .i64 xk, .string xs, .slice a4 x.l.length c4]) ?_ rfl ⟨hgp, x, _, pc, by rw [hxk, hxs], HSZ.out, hop.mono (fun b hb => by unfold newFrom at *; omega), by omega, by omega, ?_⟩
          · simp [results, Tryz.results90, go_sem, r0, r1, r2]
          · rcases HF2.out with ⟨hb, e1, e2, he⟩ | ⟨hb, hd1, hpp, he⟩
            · exact Or.inl ⟨HRR.out.trans he, d1, by rw [hb] at hrp; exact hrp, e1, e2⟩
            · exact Or.inr ⟨HRR.out.trans he, hpp, by rw [hb, hd1] at hrp; exact hrp⟩
        · have HF2 : Hid ((bad = true ∧ d ≤ d1 ∧ d1 ≤ 9 ∧ RR = none) ∨ (bad = false ∧ d1 = d ∧ p < pc ∧ RR = some (.node 4 ⟨#[]⟩ acc, (txt s).drop pc))) := by
            have := HF.out
            rw [oneAll_many hl1 hacc] at this
            exact this
          obtain ⟨a4, c4, rfl⟩ := HO2.out.value
          have h1b : ((acc.length : Int) == 1) = false := beq_eq_false_iff_ne.2 (by omega)
          clear HF hl1
          have c0 := HB2.out.c0
          have c1 := HB2.out.c1
          have c2 := HB2.out.c2
          have f0 := HB2.out.fr
          go_wp2
          have hput := HB2.out.put (.int .i64 4) (.string ⟨#[]⟩) (.slice a4 acc.length c4)
          have hgp := gb_set3 HG2.out (Nat.le_refl _) (.int .i64 4) (.string ⟨#[]⟩) (.slice a4 acc.length c4)
          have hrp := HS2.out.set3 (Ne.symm hne) (.int .i64 4) (.string ⟨#[]⟩) (.slice a4 acc.length c4)
          have hop := HO2.out.set3 (b := w.heap.size) (by unfold newFrom; omega) (.int .i64 4) (.string ⟨#[]⟩) (.slice a4 acc.length c4)
          unfold set3 at hput hgp hrp hop
          generalize ((w2.setCell ⟨w.heap.size, 0, none⟩ (.int .i64 4)).setCell ⟨w.heap.size, 1, none⟩ (.string ⟨#[]⟩)).setCell ⟨w.heap.size, 2, none⟩ (.slice a4 acc.length c4) = W at hput hgp hrp hop ⊢
          have r0 := hput.c0
          have r1 := hput.c1
          have r2 := hput.c2
          refine bodyPost_ret (v := .agg #[.int .i64 4, .string ⟨#[]⟩, .slice a4 acc.length c4]) ?_ rfl ⟨hgp, .node 4 ⟨#[]⟩ acc, _, pc, rfl, (by show (⟨#[]⟩ : ByteArray).size ≤ maxLen; decide), hop.mono (fun b hb => by unfold newFrom at *; omega), by omega, by omega, ?_⟩
          · simp [results, Tryz.results90, go_sem, r0, r1, r2]
          · rcases HF2.out with ⟨hb, e1, e2, he⟩ | ⟨hb, hd1, hpp, he⟩
            · exact Or.inl ⟨HRR.out.trans he, d1, by rw [hb] at hrp; exact hrp, e1, e2⟩
            · exact Or.inr ⟨HRR.out.trans he, hpp, by rw [hb, hd1] at hrp; exact hrp⟩
      have hpl : pc < s.size := by omega
      have hpi : (pc : Int) < (s.size : Int) := by omega
      have hgb : ((((s[pc].toNat : Nat) : Int) != 124) && (((s[pc].toNat : Nat) : Int) != 41)) = false := by rw [← hgo, txt_head hpl]; rfl
      clear hgo hend
      cases h1 : (((s[pc].toNat : Nat) : Int) != 124) with
      | false =>
        clear hgb
        have c0 := hsd.out.c0
        have c1 := hsd.out.c1
        have c2 := hsd.out.c2
        go_wp2_with fail
        refine wp_region_quiet_lit (by kernel_rfl) (by kernel_rfl) (Qt.out ?_)
        refine Qt.step (fun K hK => ?_)
        go_simp
        refine hK _ ?_
        clear hK K
        refine Qt.step (fun K hK => ?_)
        go_simp
        refine hK _ ?_
        clear hK K
        refine Qt.step (fun K hK => ?_)
        go_simp
        refine hK _ ?_
        clear hK K
        refine Qt.step (fun K hK => ?_)
        go_simp
        refine hK _ ?_
        clear hK K
        refine Qt.step (fun K hK => ?_)
        go_simp
        refine hK _ ?_
        clear hK K
        refine Qt.step (fun K hK => ?_)
        go_simp
        refine hK _ ?_
        clear hK K
        refine Qt.step (fun K hK => ?_)
        go_simp
        refine hK _ ?_
        clear hK K
        refine Qt.step (fun K hK => ?_)
        go_simp
        refine hK _ ?_
        clear hK K
        refine Qt.step (fun K hK => ?_)
        go_simp
        refine hK _ ?_
        clear hK K
        refine Qt.step (fun K hK => ?_)
        go_simp
        refine hK _ ?_
        clear hK K
        refine Qt.step (fun K hK => ?_)
        go_simp
        refine hK _ ?_
        clear hK K
        refine Qt.step (fun K hK => ?_)
        go_simp
        refine hK _ ?_
        clear hK K
        refine Qt.step (fun K hK => ?_)
        go_simp
        refine hK _ ?_
        clear hK K
        refine Qt.step (fun K hK => ?_)
        go_simp
        refine hK _ ?_
        clear hK K
        refine Qt.step (fun K hK => ?_)
        go_simp
        refine hK _ ?_
        clear hK K
        refine Qt.step (fun K hK => ?_)
        go_simp
        refine hK _ ?_
        clear hK K
        refine Qt.step (fun K hK => ?_)
        go_simp
        refine hK _ ?_
        clear hK K
        refine Qt.step (fun K hK => ?_)
        go_simp
        refine hK _ ?_
        clear hK K
        refine Qt.step (fun K hK => ?_)
        go_simp
        refine hK _ ?_
        clear hK K
        refine Qt.step (fun K hK => ?_)
        go_simp
        refine hK _ ?_
        clear hK K
        refine Qt.step (fun K hK => ?_)
        go_simp
        refine hK _ ?_
        clear hK K
        refine Qt.step (fun K hK => ?_)
        go_simp
        refine hK _ ?_
        clear hK K
        refine Qt.step (fun K hK => ?_)
        go_simp
        refine hK _ ?_
        clear hK K
        refine Qt.step (fun K hK => ?_)
        go_simp
        refine hK _ ?_
        clear hK K
        refine Qt.step (fun K hK => ?_)
        go_simp
        refine hK _ ?_
        clear hK K
        refine Qt.step (fun K hK => ?_)
        go_simp
        refine hK _ ?_
        clear hK K
        refine Qt.step (fun K hK => ?_)
        go_simp
        refine hK _ ?_
        clear hK K
        refine Qt.step (fun K hK => ?_)
        go_simp
        refine hK _ ?_
        clear hK K
        refine Qt.step (fun K hK => ?_)
        go_simp
        refine hK _ ?_
        clear hK K
        refine Qt.step (fun K hK => ?_)
        go_simp
        refine hK _ ?_
        clear hK K
        refine Qt.step (fun K hK => ?_)
        go_simp
        refine hK _ ?_
        clear hK K
        refine Qt.step (fun K hK => ?_)
        go_simp
        refine hK _ ?_
        clear hK K
        refine Qt.step (fun K hK => ?_)
        go_simp
        refine hK _ ?_
        clear hK K
        refine Qt.step (fun K hK => ?_)
        go_simp
        refine hK _ ?_
        clear hK K
        refine Qt.step (fun K hK => ?_)
        go_simp
        refine hK _ ?_
        clear hK K
        refine Qt.step (fun K hK => ?_)
        go_simp
        refine hK _ ?_
        clear hK K
        refine Qt.step (fun K hK => ?_)
        go_simp
        refine hK _ ?_
        clear hK K
        refine Qt.step (fun K hK => ?_)
        go_simp
        refine hK _ ?_
        clear hK K
        refine Qt.step (fun K hK => ?_)
        go_simp
        refine hK _ ?_
        clear hK K
        refine Qt.step (fun K hK => ?_)
        go_simp
        refine hK _ ?_
        clear hK K
        refine Qt.step (fun K hK => ?_)
        go_simp
        refine hK _ ?_
        clear hK K
        refine Qt.nil ?_
        intro _ hw'
        obtain ⟨nq1, hw''⟩ := hw'
        subst hw''
        have HS1 := hsd.out.drew nq1
        have HB1 := hb.out.gb (gb_drew _ R nq1) hne
        have HG1 := gb_trans hg.out (gb_drew _ R nq1)
        have HO1 := ho.out.gb (gb_drew wr R nq1) (by unfold newFrom; omega)
        have hz1 : (wr.drewN nq1).heap.size = wr.heap.size := rfl
        generalize (wr.drewN nq1) = w2 at HS1 HB1 HG1 HO1 hz1 ⊢
        have HS2 := Hid.mk HS1
        have HB2 := Hid.mk HB1
        have HG2 := Hid.mk HG1
        have HO2 := Hid.mk HO1
        clear HS1 HB1 HG1 HO1 c0 c1 c2
        clear hg hsd hb ho
        by_cases hl1 : acc.length = 1
        · obtain ⟨x, rfl⟩ := List.length_eq_one_iff.1 hl1
          obtain ⟨g2, cap2, V2, rfl, hat, hoV, hsV⟩ := ow_first HO2.out
          obtain ⟨y0, y1, y2⟩ := hat
          simp only [Nat.zero_add] at y1 y2
          obtain ⟨a4, c4, rfl⟩ := hoV.value
          have HO4 := Hid.mk hoV
          have HSZ := Hid.mk hsV
          have HF2 : Hid ((bad = true ∧ d ≤ d1 ∧ d1 ≤ 9 ∧ RR = none) ∨ (bad = false ∧ d1 = d ∧ p < pc ∧ RR = some (x, (txt s).drop pc))) := HF.out
          have h1b : ((([x] : List Tr).length : Int) == 1) = true := by simp
          obtain ⟨xk, hxk⟩ : ∃ xk, x.k = xk := ⟨_, rfl⟩
          obtain ⟨xs, hxs⟩ : ∃ xs, x.s = xs := ⟨_, rfl⟩
          rw [hxk] at y0
          rw [hxs] at y1
          clear HO2 hoV hsV HF hl1
          have c0 := HB2.out.c0
          have c1 := HB2.out.c1
          have c2 := HB2.out.c2
          have f0 := HB2.out.fr
          go_wp2
          have hput := HB2.out.put (.int .i64 xk) (.string xs) (.slice a4 x.l.length c4)
          have hgp := gb_set3 HG2.out (Nat.le_refl _) (.int .i64 xk) (.string xs) (.slice a4 x.l.length c4)
          have hrp := HS2.out.set3 (Ne.symm hne) (.int .i64 xk) (.string xs) (.slice a4 x.l.length c4)
          have hop := HO4.out.set3 (b := w.heap.size) (by unfold newFrom; omega) (.int .i64 xk) (.string xs) (.slice a4 x.l.length c4)
          unfold set3 at hput hgp hrp hop
          generalize ((w2.setCell ⟨w.heap.size, 0, none⟩ (.int .i64 xk)).setCell ⟨w.heap.size, 1, none⟩ (.string xs)).setCell ⟨w.heap.size, 2, none⟩ (.slice a4 x.l.length c4) = W at hput hgp hrp hop ⊢
          have r0 := hput.c0
          have r1 := hput.c1
          have r2 := hput.c2
          refine bodyPost_ret (v := .agg #[.int .i64 xk, .string xs, .slice a4 x.l.length c4]) ?_ rfl ⟨hgp, x, _, pc, by rw [hxk, hxs], HSZ.out, hop.mono (fun b hb => by unfold newFrom at *; omega), by omega, by omega, ?_⟩
          · simp [results, Tryz.results90, go_sem, r0, r1, r2]
          · rcases HF2.out with ⟨hb, e1, e2, he⟩ | ⟨hb, hd1, hpp, he⟩
            · exact Or.inl ⟨HRR.out.trans he, d1, by rw [hb] at hrp; exact hrp, e1, e2⟩
            · exact Or.inr ⟨HRR.out.trans he, hpp, by rw [hb, hd1] at hrp; exact hrp⟩
        · have HF2 : Hid ((bad = true ∧ d ≤ d1 ∧ d1 ≤ 9 ∧ RR = none) ∨ (bad = false ∧ d1 = d ∧ p < pc ∧ RR = some (.node 4 ⟨#[]⟩ acc, (txt s).drop pc))) := by
            have := HF.out
            rw [oneAll_many hl1 hacc] at this
            exact this
          obtain ⟨a4, c4, rfl⟩ := HO2.out.value
          have h1b : ((acc.length : Int) == 1) = false := beq_eq_false_iff_ne.2 (by omega)
          clear HF hl1
          have c0 := HB2.out.c0
          have c1 := HB2.out.c1
          have c2 := HB2.out.c2
          have f0 := HB2.out.fr
          go_wp2
          have hput := HB2.out.put (.int .i64 4) (.string ⟨#[]⟩) (.slice a4 acc.length c4)
          have hgp := gb_set3 HG2.out (Nat.le_refl _) (.int .i64 4) (.string ⟨#[]⟩) (.slice a4 acc.length c4)
          have hrp := HS2.out.set3 (Ne.symm hne) (.int .i64 4) (.string ⟨#[]⟩) (.slice a4 acc.length c4)
          have hop := HO2.out.set3 (b := w.heap.size) (by unfold newFrom; omega) (.int .i64 4) (.string ⟨#[]⟩) (.slice a4 acc.length c4)
          unfold set3 at hput hgp hrp hop
          generalize ((w2.setCell ⟨w.heap.size, 0, none⟩ (.int .i64 4)).setCell ⟨w.heap.size, 1, none⟩ (.string ⟨#[]⟩)).setCell ⟨w.heap.size, 2, none⟩ (.slice a4 acc.length c4) = W at hput hgp hrp hop ⊢
          have r0 := hput.c0
          have r1 := hput.c1
          have r2 := hput.c2
          refine bodyPost_ret (v := .agg #[.int .i64 4, .string ⟨#[]⟩, .slice a4 acc.length c4]) ?_ rfl ⟨hgp, .node 4 ⟨#[]⟩ acc, _, pc, rfl, (by show (⟨#[]⟩ : ByteArray).size ≤ maxLen; decide), hop.mono (fun b hb => by unfold newFrom at *; omega), by omega, by omega, ?_⟩
          · simp [results, Tryz.results90, go_sem, r0, r1, r2]
          · rcases HF2.out with ⟨hb, e1, e2, he⟩ | ⟨hb, hd1, hpp, he⟩
            · exact Or.inl ⟨HRR.out.trans he, d1, by rw [hb] at hrp; exact hrp, e1, e2⟩
            · exact Or.inr ⟨HRR.out.trans he, hpp, by rw [hb, hd1] at hrp; exact hrp⟩
      | true =>
        have h2 : (((s[pc].toNat : Nat) : Int) != 41) = false := by rw [h1] at hgb; simpa using hgb
        clear hgb
        have c0 := hsd.out.c0
        have c1 := hsd.out.c1
        have c2 := hsd.out.c2
        go_wp2_with fail
        refine wp_region_quiet_lit (by kernel_rfl) (by kernel_rfl) (Qt.out ?_)
        refine Qt.step (fun K hK => ?_)
        go_simp
        refine hK _ ?_
        clear hK K
        refine Qt.step (fun K hK => ?_)
        go_simp
        refine hK _ ?_
        clear hK K
        refine Qt.step (fun K hK => ?_)
        go_simp
        refine hK _ ?_
        clear hK K
        refine Qt.step (fun K hK => ?_)
        go_simp
        refine hK _ ?_
        clear hK K
        refine Qt.step (fun K hK => ?_)
        go_simp
        refine hK _ ?_
        clear hK K
        refine Qt.step (fun K hK => ?_)
        go_simp
        refine hK _ ?_
        clear hK K
        refine Qt.step (fun K hK => ?_)
        go_simp
        refine hK _ ?_
        clear hK K
        refine Qt.step (fun K hK => ?_)
        go_simp
        refine hK _ ?_
        clear hK K
        refine Qt.step (fun K hK => ?_)
        go_simp
        refine hK _ ?_
        clear hK K
        refine Qt.step (fun K hK => ?_)
        go_simp
        refine hK _ ?_
        clear hK K
        refine Qt.step (fun K hK => ?_)
        go_simp
        refine hK _ ?_
        clear hK K
        refine Qt.step (fun K hK => ?_)
        go_simp
        refine hK _ ?_
        clear hK K
        refine Qt.step (fun K hK => ?_)
        go_simp
        refine hK _ ?_
        clear hK K
        refine Qt.step (fun K hK => ?_)
        go_simp
        refine hK _ ?_
        clear hK K
        refine Qt.step (fun K hK => ?_)
        go_simp
        refine hK _ ?_
        clear hK K
        refine Qt.step (fun K hK => ?_)
        go_simp
        refine hK _ ?_
        clear hK K
        refine Qt.step (fun K hK => ?_)
        go_simp
        refine hK _ ?_
        clear hK K
        refine Qt.step (fun K hK => ?_)
        go_simp
        refine hK _ ?_
        clear hK K
        refine Qt.step (fun K hK => ?_)
        go_simp
        refine hK _ ?_
        clear hK K
        refine Qt.step (fun K hK => ?_)
        go_simp
        refine hK _ ?_
        clear hK K
        refine Qt.step (fun K hK => ?_)
        go_simp
        refine hK _ ?_
        clear hK K
        refine Qt.step (fun K hK => ?_)
        go_simp
        refine hK _ ?_
        clear hK K
        refine Qt.step (fun K hK => ?_)
        go_simp
        refine hK _ ?_
        clear hK K
        refine Qt.step (fun K hK => ?_)
        go_simp
        refine hK _ ?_
        clear hK K
        refine Qt.step (fun K hK => ?_)
        go_simp
        refine hK _ ?_
        clear hK K
        refine Qt.step (fun K hK => ?_)
        go_simp
        refine hK _ ?_
        clear hK K
        refine Qt.step (fun K hK => ?_)
        go_simp
        refine hK _ ?_
        clear hK K
        refine Qt.step (fun K hK => ?_)
        go_simp
        refine hK _ ?_
        clear hK K
        refine Qt.step (fun K hK => ?_)
        go_simp
        refine hK _ ?_
        clear hK K
        refine Qt.step (fun K hK => ?_)
        go_simp
        refine hK _ ?_
        clear hK K
        refine Qt.step (fun K hK => ?_)
        go_simp
        refine hK _ ?_
        clear hK K
        refine Qt.step (fun K hK => ?_)
        go_simp
        refine hK _ ?_
        clear hK K
        refine Qt.step (fun K hK => ?_)
        go_simp
        refine hK _ ?_
        clear hK K
        refine Qt.step (fun K hK => ?_)
        go_simp
        refine hK _ ?_
        clear hK K
        refine Qt.step (fun K hK => ?_)
        go_simp
        refine hK _ ?_
        clear hK K
        refine Qt.step (fun K hK => ?_)
        go_simp
        refine hK _ ?_
        clear hK K
        refine Qt.step (fun K hK => ?_)
        go_simp
        refine hK _ ?_
        clear hK K
        refine Qt.step (fun K hK => ?_)
        go_simp
        refine hK _ ?_
        clear hK K
        refine Qt.step (fun K hK => ?_)
        go_simp
        refine hK _ ?_
        clear hK K
        refine Qt.step (fun K hK => ?_)
        go_simp
        refine hK _ ?_
        clear hK K
        refine Qt.step (fun K hK => ?_)
        go_simp
        refine hK _ ?_
        clear hK K
        refine Qt.nil ?_
        intro _ hw'
        obtain ⟨nq1, hw''⟩ := hw'
        subst hw''
        have HS1 := hsd.out.drew nq1
        have HB1 := hb.out.gb (gb_drew _ R nq1) hne
        have HG1 := gb_trans hg.out (gb_drew _ R nq1)
        have HO1 := ho.out.gb (gb_drew wr R nq1) (by unfold newFrom; omega)
        have hz1 : (wr.drewN nq1).heap.size = wr.heap.size := rfl
        generalize (wr.drewN nq1) = w2 at HS1 HB1 HG1 HO1 hz1 ⊢
        have HS2 := Hid.mk HS1
        have HB2 := Hid.mk HB1
        have HG2 := Hid.mk HG1
        have HO2 := Hid.mk HO1
        clear HS1 HB1 HG1 HO1 c0 c1 c2
        clear hg hsd hb ho
        by_cases hl1 : acc.length = 1
        · obtain ⟨x, rfl⟩ := List.length_eq_one_iff.1 hl1
          obtain ⟨g2, cap2, V2, rfl, hat, hoV, hsV⟩ := ow_first HO2.out
          obtain ⟨y0, y1, y2⟩ := hat
          simp only [Nat.zero_add] at y1 y2
          obtain ⟨a4, c4, rfl⟩ := hoV.value
          have HO4 := Hid.mk hoV
          have HSZ := Hid.mk hsV
          have HF2 : Hid ((bad = true ∧ d ≤ d1 ∧ d1 ≤ 9 ∧ RR = none) ∨ (bad = false ∧ d1 = d ∧ p < pc ∧ RR = some (x, (txt s).drop pc))) := HF.out
          have h1b : ((([x] : List Tr).length : Int) == 1) = true := by simp
          obtain ⟨xk, hxk⟩ : ∃ xk, x.k = xk := ⟨_, rfl⟩
          obtain ⟨xs, hxs⟩ : ∃ xs, x.s = xs := ⟨_, rfl⟩
          rw [hxk] at y0
          rw [hxs] at y1
          clear HO2 hoV hsV HF hl1
          have c0 := HB2.out.c0
          have c1 := HB2.out.c1
          have c2 := HB2.out.c2
          have f0 := HB2.out.fr
          go_wp2
          have hput := HB2.out.put (.int .i64 xk) (.string xs) (.slice a4 x.l.length c4)
          have hgp := gb_set3 HG2.out (Nat.le_refl _) (.int .i64 xk) (.string xs) (.slice a4 x.l.length c4)
          have hrp := HS2.out.set3 (Ne.symm hne) (.int .i64 xk) (.string xs) (.slice a4 x.l.length c4)
          have hop := HO4.out.set3 (b := w.heap.size) (by unfold newFrom; omega) (.int .i64 xk) (.string xs) (.slice a4 x.l.length c4)
          unfold set3 at hput hgp hrp hop
          generalize ((w2.setCell ⟨w.heap.size, 0, none⟩ (.int .i64 xk)).setCell ⟨w.heap.size, 1, none⟩ (.string xs)).setCell ⟨w.heap.size, 2, none⟩ (.slice a4 x.l.length c4) = W at hput hgp hrp hop ⊢
          have r0 := hput.c0
          have r1 := hput.c1
          have r2 := hput.c2
          refine bodyPost_ret (v := .agg #[.int .i64 xk, .string xs, .slice a4 x.l.length c4]) ?_ rfl ⟨hgp, x, _, pc, by rw [hxk, hxs], HSZ.out, hop.mono (fun b hb => by unfold newFrom at *; omega), by omega, by omega, ?_⟩
          · simp [results, Tryz.results90, go_sem, r0, r1, r2]
          · rcases HF2.out with ⟨hb, e1, e2, he⟩ | ⟨hb, hd1, hpp, he⟩
            · exact Or.inl ⟨HRR.out.trans he, d1, by rw [hb] at hrp; exact hrp, e1, e2⟩
            · exact Or.inr ⟨HRR.out.trans he, hpp, by rw [hb, hd1] at hrp; exact hrp⟩
        · have HF2 : Hid ((bad = true ∧ d ≤ d1 ∧ d1 ≤ 9 ∧ RR = none) ∨ (bad = false ∧ d1 = d ∧ p < pc ∧ RR = some (.node 4 ⟨#[]⟩ acc, (txt s).drop pc))) := by
            have := HF.out
            rw [oneAll_many hl1 hacc] at this
            exact this
          obtain ⟨a4, c4, rfl⟩ := HO2.out.value
          have h1b : ((acc.length : Int) == 1) = false := beq_eq_false_iff_ne.2 (by omega)
          clear HF hl1
          have c0 := HB2.out.c0
          have c1 := HB2.out.c1
          have c2 := HB2.out.c2
          have f0 := HB2.out.fr
          go_wp2
          have hput := HB2.out.put (.int .i64 4) (.string ⟨#[]⟩) (.slice a4 acc.length c4)
          have hgp := gb_set3 HG2.out (Nat.le_refl _) (.int .i64 4) (.string ⟨#[]⟩) (.slice a4 acc.length c4)
          have hrp := HS2.out.set3 (Ne.symm hne) (.int .i64 4) (.string ⟨#[]⟩) (.slice a4 acc.length c4)
          have hop := HO2.out.set3 (b := w.heap.size) (by unfold newFrom; omega) (.int .i64 4) (.string ⟨#[]⟩) (.slice a4 acc.length c4)
          unfold set3 at hput hgp hrp hop
          generalize ((w2.setCell ⟨w.heap.size, 0, none⟩ (.int .i64 4)).setCell ⟨w.heap.size, 1, none⟩ (.string ⟨#[]⟩)).setCell ⟨w.heap.size, 2, none⟩ (.slice a4 acc.length c4) = W at hput hgp hrp hop ⊢
          have r0 := hput.c0
          have r1 := hput.c1
          have r2 := hput.c2
          refine bodyPost_ret (v := .agg #[.int .i64 4, .string ⟨#[]⟩, .slice a4 acc.length c4]) ?_ rfl ⟨hgp, .node 4 ⟨#[]⟩ acc, _, pc, rfl, (by show (⟨#[]⟩ : ByteArray).size ≤ maxLen; decide), hop.mono (fun b hb => by unfold newFrom at *; omega), by omega, by omega, ?_⟩
          · simp [results, Tryz.results90, go_sem, r0, r1, r2]
          · rcases HF2.out with ⟨hb, e1, e2, he⟩ | ⟨hb, hd1, hpp, he⟩
            · exact Or.inl ⟨HRR.out.trans he, d1, by rw [hb] at hrp; exact hrp, e1, e2⟩
            · exact Or.inr ⟨HRR.out.trans he, hpp, by rw [hb, hd1] at hrp; exact hrp⟩
    | true =>
      have hbf : bad = false := by cases bad <;> simp_all
      subst hbf
      have hlen : acc.length + (s.size - pc) ≤ 1048577 := by simpa using hlen
      have hy' : goesOn ((txt s).drop pc) = true := by simpa using hy
      have hpl : pc < s.size := by
        apply Decidable.byContradiction
        intro hh
        rw [txt_end (by omega)] at hy'
        cases hy'
      have hpi : (pc : Int) < (s.size : Int) := by omega
      have hgb : ((((s[pc].toNat : Nat) : Int) != 124) && (((s[pc].toNat : Nat) : Int) != 41)) = true := by rw [← hy', txt_head hpl]; rfl
      have h1 : (((s[pc].toNat : Nat) : Int) != 124) = true := by rw [Bool.and_eq_true] at hgb; exact hgb.1
      have h2 : (((s[pc].toNat : Nat) : Int) != 41) = true := by rw [Bool.and_eq_true] at hgb; exact hgb.2
      obtain ⟨pq, hpqe⟩ : ∃ pq, pq = pc := ⟨_, rfl⟩
      have hpq : pq ≤ s.size := by omega
      have hsw : w.heap.size + 1 ≤ wr.heap.size := by have := hb.out.lt; omega
      have HYY := Hid.mk hy'
      clear hgb hy hyy hy'
      have c0 := hsd.out.c0
      have c1 := hsd.out.c1
      have c2 := hsd.out.c2
      go_wp2_with fail
      refine wp_region_quiet_lit (by kernel_rfl) (by kernel_rfl) (Qt.out ?_)
      refine Qt.step (fun K hK => ?_)
      go_simp
      refine hK _ ?_
      clear hK K
      refine Qt.step (fun K hK => ?_)
      go_simp
      refine hK _ ?_
      clear hK K
      refine Qt.step (fun K hK => ?_)
      go_simp
      refine hK _ ?_
      clear hK K
      refine Qt.step (fun K hK => ?_)
      go_simp
      refine hK _ ?_
      clear hK K
      refine Qt.step (fun K hK => ?_)
      go_simp
      refine hK _ ?_
      clear hK K
      refine Qt.step (fun K hK => ?_)
      go_simp
      refine hK _ ?_
      clear hK K
      refine Qt.step (fun K hK => ?_)
      go_simp
      refine hK _ ?_
      clear hK K
      refine Qt.step (fun K hK => ?_)
      go_simp
      refine hK _ ?_
      clear hK K
      refine Qt.step (fun K hK => ?_)
      go_simp
      refine hK _ ?_
      clear hK K
      refine Qt.step (fun K hK => ?_)
      go_simp
      refine hK _ ?_
      clear hK K
      refine Qt.step (fun K hK => ?_)
      go_simp
      refine hK _ ?_
      clear hK K
      refine Qt.step (fun K hK => ?_)
      go_simp
      refine hK _ ?_
      clear hK K
      refine Qt.step (fun K hK => ?_)
      go_simp
      refine hK _ ?_
      clear hK K
      refine Qt.step (fun K hK => ?_)
      go_simp
      refine hK _ ?_
      clear hK K
      refine Qt.step (fun K hK => ?_)
      go_simp
      refine hK _ ?_
      clear hK K
      refine Qt.step (fun K hK => ?_)
      go_simp
      refine hK _ ?_
      clear hK K
      refine Qt.step (fun K hK => ?_)
      go_simp
      refine hK _ ?_
      clear hK K
      refine Qt.step (fun K hK => ?_)
      go_simp
      refine hK _ ?_
      clear hK K
      refine Qt.step (fun K hK => ?_)
      go_simp
      refine hK _ ?_
      clear hK K
      refine Qt.step (fun K hK => ?_)
      go_simp
      refine hK _ ?_
      clear hK K
      refine Qt.step (fun K hK => ?_)
      go_simp
      refine hK _ ?_
      clear hK K
      refine Qt.step (fun K hK => ?_)
      go_simp
      refine hK _ ?_
      clear hK K
      refine Qt.step (fun K hK => ?_)
      go_simp
      refine hK _ ?_
      clear hK K
      refine Qt.step (fun K hK => ?_)
      go_simp
      refine hK _ ?_
      clear hK K
      refine Qt.step (fun K hK => ?_)
      go_simp
      refine hK _ ?_
      clear hK K
      refine Qt.step (fun K hK => ?_)
      go_simp
      refine hK _ ?_
      clear hK K
      refine Qt.step (fun K hK => ?_)
      go_simp
      refine hK _ ?_
      clear hK K
      refine Qt.step (fun K hK => ?_)
      go_simp
      refine hK _ ?_
      clear hK K
      refine Qt.step (fun K hK => ?_)
      go_simp
      refine hK _ ?_
      clear hK K
      refine Qt.step (fun K hK => ?_)
      go_simp
      refine hK _ ?_
      clear hK K
      refine Qt.step (fun K hK => ?_)
      go_simp
      refine hK _ ?_
      clear hK K
      refine Qt.step (fun K hK => ?_)
      go_simp
      refine hK _ ?_
      clear hK K
      refine Qt.step (fun K hK => ?_)
      go_simp
      refine hK _ ?_
      clear hK K
      refine Qt.step (fun K hK => ?_)
      go_simp
      refine hK _ ?_
      clear hK K
      refine Qt.step (fun K hK => ?_)
      go_simp
      refine hK _ ?_
      clear hK K
      refine Qt.step (fun K hK => ?_)
      go_simp
      refine hK _ ?_
      clear hK K
      refine Qt.step (fun K hK => ?_)
      go_simp
      refine hK _ ?_
      clear hK K
      refine Qt.step (fun K hK => ?_)
      go_simp
      refine hK _ ?_
      clear hK K
      refine Qt.step (fun K hK => ?_)
      go_simp
      refine hK _ ?_
      clear hK K
      refine Qt.step (fun K hK => ?_)
      go_simp
      refine hK _ ?_
      clear hK K
      refine Qt.step (fun K hK => ?_)
      go_simp
      refine hK _ ?_
      clear hK K
      refine Qt.nil ?_
      intro _ hw'
      obtain ⟨nq1, hw''⟩ := hw'
      subst hw''
      have HS1 := hsd.out.drew nq1
      have HB1 := hb.out.gb (gb_drew _ R nq1) hne
      have HG1 := gb_trans hg.out (gb_drew _ R nq1)
      have HO1 := ho.out.gb (gb_drew wr R nq1) (by unfold newFrom; omega)
      have hz1 : (wr.drewN nq1).heap.size = wr.heap.size := rfl
      generalize (wr.drewN nq1) = w2 at HS1 HB1 HG1 HO1 hz1 ⊢
      have HS2 := Hid.mk HS1
      have HB2 := Hid.mk HB1
      have HG2 := Hid.mk HG1
      have HO2 := Hid.mk HO1
      clear HS1 HB1 HG1 HO1 c0 c1 c2
      have hy' := HYY.out
      have hs2 : w.heap.size + 1 ≤ w2.heap.size := by omega
      have HS3 : Hid (Sds w2 R s pq false d1) := by rw [hpqe]; exact HS2.out
      clear HS2 HYY
      rcases hcs.out with ⟨hbt, _⟩ | ⟨_, hd1, hpp, m, hm, he⟩
      · cases hbt
      subst hd1
      obtain ⟨m', rfl⟩ : ∃ m', m = m' + 1 := ⟨m - 1, by omega⟩
      have HST0 : Hid (rdItem (rd n) ((txt s).drop pq) = none → RR = none) := by intro hh; rw [he, rdCatL, if_pos hy', ← hpqe, hh]; rfl
      have HST1 : Hid (∀ t2 q2, rdItem (rd n) ((txt s).drop pq) = some (t2, q2) → RR = (rdCatL (rd n) m' (acc ++ [t2]) q2).map fun p => (oneAll 4 p.1, p.2)) := by intro t2 q2 hh; rw [he, rdCatL, if_pos hy', ← hpqe, hh]
      go_wp2_with fail
      refine (HC.out s R pq _ HS3.out hpq hs).mono ?_
      rintro e w4 ⟨hg4, t2, u2, p2, rfl, hsz4, how4, hp3, hp4, hcase4⟩
      obtain ⟨a2, k2, rfl⟩ := how4.value
      have hs4 : w.heap.size + 1 ≤ w4.heap.size := by have := hg4.size; omega
      have hbw : Below w4.heap.size w4 (w4.alloc (.cells #[.int .i64 t2.k, .string t2.s, .slice a2 t2.l.length k2] 128)) := (Below.refl _ _).alloc (Nat.le_refl _) _
      have HB4 := Hid.mk ((HB2.out.gb hg4 hne).kept (hbw.block _ (HB2.out.gb hg4 hne).lt))
      have HG4 := Hid.mk (gb_below (gb_trans HG2.out hg4) hbw)
      have HOA := Hid.mk ((HO2.out.there.gb hg4 (fun hh => by have := hh.1; unfold newFrom at this; omega)).grow hbw)
      have HX4 := Hid.mk (Bx3.new w4 (.int .i64 t2.k) (.string t2.s) (.slice a2 t2.l.length k2))
      have HO4 := Hid.mk (how4.grow hbw)
      have HSZ4 := Hid.mk hsz4
      have Hlen : Hid (acc.length ≤ 1048576) := by show _ ≤ _; omega
      obtain ⟨bad2, d2, HS4, hcs2⟩ : ∃ (bad2 : Bool) (d2 : Int), Hid (Sds (w4.alloc (.cells #[.int .i64 t2.k, .string t2.s, .slice a2 t2.l.length k2] 128)) R s p2 bad2 d2) ∧
          Hid ((bad2 = true ∧ d1 ≤ d2 ∧ d2 ≤ 9 ∧ RR = none) ∨ (bad2 = false ∧ d2 = d1 ∧ pq < p2 ∧ RR = (rdCatL (rd n) m' (acc ++ [t2]) ((txt s).drop p2)).map fun p => (oneAll 4 p.1, p.2))) := by
        rcases hcase4 with ⟨hr0, d', hsd4, e1, e2⟩ | ⟨hrd, hpp4, hsd4⟩
        · exact ⟨true, d', hsd4.grow hbw, Or.inl ⟨rfl, e1, e2, HST0.out hr0⟩⟩
        · exact ⟨false, d1, hsd4.grow hbw, Or.inr ⟨rfl, rfl, hpp4, HST1.out _ _ hrd⟩⟩
      obtain ⟨tk2, htk2⟩ : ∃ tk, t2.k = tk := ⟨_, rfl⟩
      obtain ⟨ts2, hts2⟩ : ∃ ts, t2.s = ts := ⟨_, rfl⟩
      have HX5 : Hid (Bx3 (w4.alloc (.cells #[.int .i64 tk2, .string ts2, .slice a2 t2.l.length k2] 128)) w4.heap.size (.int .i64 t2.k) (.string t2.s) (.slice a2 t2.l.length k2)) := by
        rw [← htk2, ← hts2]; exact HX4.out
      rw [htk2, hts2] at HB4 HG4 HOA HO4 HS4
      rw [htk2, hts2]
      have Hsz2 : Hid (w2.heap.size ≤ w4.heap.size) := hg4.size
      have Hw2 : Hid (w.heap.size + 1 ≤ w2.heap.size) := hs2
      clear hg4 hsz4 how4 hbw hcs hg hsd hb ho HST0 HST1 HB2 HG2 HS3 HO2 HX4 htk2 hts2 hcase4 he
      go_wp2_with (at_builtin; refine wpList_append_ow rfl _ _ rfl (fun b => newFrom (w.heap.size + 1) b ∧ b < w2.heap.size) (newFrom w2.heap.size) (newFrom (w.heap.size + 1)) _ (.slice a2 t2.l.length k2) acc t2 w4.heap.size hacc rfl HOA.out rfl HX5.out HO4.out HSZ4.out (fun b hb hb2 => by unfold newFrom at *; omega) (fun b hb => hb.1) (fun b hb => by have := Hw2.out; unfold newFrom at *; omega) (by have := Hsz2.out; have := Hw2.out; unfold newFrom; simp; omega) Hlen.out ?_)
      intro v6 w6 g6 ho6 hB6 hB6b hgr6
      have HO6 := Hid.mk ho6
      have hg6 := hB6
      unfold newFrom at hg6
      have HB6 := Hid.mk (HB4.out.kept (hgr6.block _ HB4.out.lt (by simp; omega)))
      have HG6 : Hid (w.grownBy w6 (some R)) := ⟨hgr6.os.trans HG4.out.os, hgr6.tape.trans HG4.out.tape, hgr6.output.trans HG4.out.output, Nat.le_trans HG4.out.size hgr6.size, fun k hk hne => (hgr6.block k (Nat.lt_of_lt_of_le hk HG4.out.size) (by simp; omega)).trans (HG4.out.block k hk hne)⟩
      have HS6 := Hid.mk (HS4.out.kept (hgr6.block R HS4.out.lt (by simp; omega)))
      have hcs3 : Hid ((bad2 = true ∧ d1 ≤ d2 ∧ d2 ≤ 9 ∧ RR = none) ∨ (bad2 = false ∧ d2 = d1 ∧ p < p2 ∧ ∃ m, s.size - p2 ≤ m ∧ RR = (rdCatL (rd n) m (acc ++ [t2]) ((txt s).drop p2)).map fun p => (oneAll 4 p.1, p.2))) := by
        rcases hcs2.out with h | ⟨e1, e2, e3, e4⟩
        · exact Or.inl h
        · exact Or.inr ⟨e1, e2, by omega, m', by omega, e4⟩
      have hln2 : (acc ++ [t2]).length + (s.size - p2) ≤ 1048577 + (if bad2 = true then 1 else 0) := by
        rw [List.length_append, List.length_singleton]
        rcases hcs2.out with ⟨e1, _⟩ | ⟨e1, _, e3, _⟩
        · rw [if_pos e1]; omega
        · rw [if_neg (by rw [e1]; simp)]; omega
      have hms : (if bad2 = true then 0 else s.size - p2 + 1) < s.size - pc + 1 := by
        rcases hcs2.out with ⟨e1, _⟩ | ⟨e1, _, e3, _⟩
        · rw [if_pos e1]; omega
        · rw [if_neg (by rw [e1]; simp)]; omega
      clear ho6 hB6 hB6b hgr6 HB4 HG4 HS4 HOA HO4 HSZ4 HX5 hg6 Hlen Hsz2 Hw2 hcs2
      go_wp2
      go_roundg (if bad2 = true then 0 else s.size - p2 + 1)
      case measure => rw [← hgk]; simpa using hms
      case rel => exact ⟨acc ++ [t2], p2, bad2, d2, by simp, by omega, by omega, rfl, hln2, hcs3, HG6, HS6, HB6, HO6⟩
end Go.Proofs.YtbbhikbdbndefaaGreat

namespace Go.Proofs.YtbbhikbdbndefaaGreat
open Go.RowKit
set_option maxRecDepth 8000

theorem alt_any : ∀ n : Nat, n ≤ 8 → SpC 85 (rd (n + 1)) (8 - (n : Int)) := by
  intro n
  induction n with
  | zero =>
    intro _
    exact choicesSp_of 0 _ (by omega) (cat_of 0 _ (by omega) (item_of 0 _ (by omega) (atom_of 0 _ (by omega) (group_of 0 (by omega) (fun h => absurd h (by omega))))))
  | succ n ih =>
    intro hn
    have := ih (by omega)
    rw [show (8 : Int) - (n : Int) = 9 - ((n + 1 : Nat) : Int) by omega] at this
    exact choicesSp_of (n + 1) _ (by omega) (cat_of (n + 1) _ (by omega) (item_of (n + 1) _ (by omega) (atom_of (n + 1) _ (by omega) (group_of (n + 1) hn (fun _ => this)))))

/-- The world with the result's box and the model's reader. -/
abbrev spW (w : World) (s : ByteArray) : World := ((w.alloc (.cells #[.int .i64 0, .string ⟨#[]⟩, .slice none 0 0] 128)).alloc (.cells #[.string s, .int .i64 0, .bool false, .int .i64 0] 135))
theorem spW_sds (w : World) (s : ByteArray) : Sds (spW w s) (w.heap.size + 1) s 0 false 0 := by
  have := heap_alloc_new (w.alloc (.cells #[.int .i64 0, .string ⟨#[]⟩, .slice none 0 0] 128)) (.cells #[.string s, .int .i64 0, .bool false, .int .i64 0] 135)
  rw [show (w.alloc (.cells #[.int .i64 0, .string ⟨#[]⟩, .slice none 0 0] 128)).heap.size = w.heap.size + 1 by simp] at this
  exact this
theorem spW_bx (w : World) (s : ByteArray) : Bx3 (spW w s) w.heap.size (.int .i64 0) (.string ⟨#[]⟩) (.slice none 0 0) := (Bx3.new w (.int .i64 0) (.string ⟨#[]⟩) (.slice none 0 0)).kept (((Below.refl _ _).alloc (Nat.le_refl _) _).block _ (Bx3.new w (.int .i64 0) (.string ⟨#[]⟩) (.slice none 0 0)).lt)
theorem spW_below (w : World) (s : ByteArray) : Below w.heap.size w (spW w s) := ((Below.refl _ _).alloc (Nat.le_refl _) _).alloc (by simp) _

set_option maxHeartbeats 2000000 in
theorem specParse_yes (s : ByteArray) (t : Tr) (w : World) (h : IsTx s t) :
    Calls Tryz.prog 78 #[.string s] w fun e w' => ∃ u, e = .returned (.tuple #[rx t.k t.s u, .bool true]) ∧ Ow w' (newFrom w.heap.size) t.l u ∧ t.s.size ≤ maxLen ∧ Below w.heap.size w w' := by
  have hz := h.size
  have HRd := Hid.mk (alt_any 8 (by omega) s (w.heap.size + 1) 0 (spW w s) (spW_sds w s) (Nat.zero_le _) (by omega))
  have HQ := Hid.mk (h.read 9 (by omega))
  have HTX := Hid.mk h.text
  have HB0 := Hid.mk (spW_bx w s)
  have HBel := Hid.mk (spW_below w s)
  have HIT := Hid.mk (fun (w' : World) (B : Nat → Prop) (u : Value) (h1 : Rl w' B t.l u) (h2 : t.s.size ≤ maxLen) => specRexText_any t B u w' h1 h2)
  have h1000 : ¬ (1000 : Int) < (s.size : Int) := by omega
  have hss : (s.toList != s.toList) = false := by simp
  clear h
  go_enter Tryz.func78, Tryz.ntmps78
  go_wp2_with fail
  refine HRd.out.mono ?_
  rintro e w1 ⟨hg1, t1, u, p1, rfl, hsz, how, hp1, hp2, hcase⟩
  rw [List.drop_zero, HQ.out] at hcase
  rcases hcase with ⟨hr0, _⟩ | ⟨hrd, hpp, hsd⟩
  · cases hr0
  injection hrd with hrd
  injection hrd with ht1 hq1
  subst ht1
  have hpe : p1 = s.size := by
    have := congrArg List.length hq1
    rw [List.length_drop, txt_length] at this
    simp at this
    omega
  subst hpe
  obtain ⟨au, cu, rfl⟩ := how.value
  have hbw : Below w1.heap.size w1 (w1.alloc (.cells #[.int .i64 t.k, .string t.s, .slice au t.l.length cu] 128)) := (Below.refl _ _).alloc (Nat.le_refl _) _
  have hs1 : w.heap.size + 2 ≤ w1.heap.size := by have := hg1.size; simpa using this
  have HB1 := Hid.mk ((HB0.out.gb hg1 (by omega)).kept (hbw.block _ (HB0.out.gb hg1 (by omega)).lt))
  have HBel1 := Hid.mk ((below_gb HBel.out hg1 (by omega)).trans (hbw.mono (by omega)))
  have HX1 := Hid.mk (Bx3.new w1 (.int .i64 t.k) (.string t.s) (.slice au t.l.length cu))
  have HO1 := Hid.mk ((how.grow hbw).mono (C := newFrom (w.heap.size + 1)) (fun b hb => by unfold newFrom at *; simp at hb; omega))
  have HT := Hid.mk (HIT.out _ _ _ HO1.out.rl hsz)
  have HSZ := Hid.mk hsz
  rw [HTX.out] at HT
  have HS1 := Hid.mk (hsd.grow hbw)
  obtain ⟨tk, htk⟩ : ∃ tk, t.k = tk := ⟨_, rfl⟩
  obtain ⟨ts, hts⟩ : ∃ ts, t.s = ts := ⟨_, rfl⟩
  rw [htk, hts] at HB1 HBel1 HX1 HO1 HT HS1
  rw [htk, hts]
  have d1 := HS1.out.c1
  have d2 := HS1.out.c2
  have HTK := Hid.mk htk
  have HTS := Hid.mk hts
  clear HRd HQ HB0 HBel HIT hg1 hsd hsz how hbw htk hts hq1 HTX hp1 hp2 hpp
  go_wp2_with fail
  refine HT.out.mono ?_
  rintro e w3 ⟨rfl, hb3⟩
  have HB3 := Hid.mk (HB1.out.kept (hb3.block _ HB1.out.lt))
  have HX3 := Hid.mk (HX1.out.kept (hb3.block _ HX1.out.lt))
  have HO3 := Hid.mk (HO1.out.grow hb3)
  have HBel3 := Hid.mk (HBel1.out.trans (hb3.mono HBel1.out.size))
  have c0 := HB3.out.c0
  have c1 := HB3.out.c1
  have c2 := HB3.out.c2
  have f0 := HB3.out.fr
  have x0 := HX3.out.c0
  have x1 := HX3.out.c1
  have x2 := HX3.out.c2
  clear HT hb3 HB1 HX1 HO1 HBel1 HS1 d1 d2
  go_wp2
  have hput := HB3.out.put (.int .i64 tk) (.string ts) (.slice au t.l.length cu)
  have hop := HO3.out.set3 (b := w.heap.size) (by unfold newFrom; omega) (.int .i64 tk) (.string ts) (.slice au t.l.length cu)
  have hbp : Below w.heap.size w (set3 w3 w.heap.size (.int .i64 tk) (.string ts) (.slice au t.l.length cu)) := ((HBel3.out.setCell (Nat.le_refl _) _).setCell (Nat.le_refl _) _).setCell (Nat.le_refl _) _
  unfold set3 at hput hop hbp
  generalize ((w3.setCell ⟨w.heap.size, 0, none⟩ (.int .i64 tk)).setCell ⟨w.heap.size, 1, none⟩ (.string ts)).setCell ⟨w.heap.size, 2, none⟩ (.slice au t.l.length cu) = W at hput hop hbp ⊢
  have r0 := hput.c0
  have r1 := hput.c1
  have r2 := hput.c2
  refine bodyPost_ret (v := .tuple #[rx tk ts (.slice au t.l.length cu), .bool true]) ?_ rfl ⟨_, by first | rfl | (rw [HTK.out, HTS.out]), hop.mono (fun b hb => by unfold newFrom at *; omega), by first | exact HSZ.out | (rw [← HTS.out]; exact HSZ.out), hbp⟩
  simp [results, Tryz.results78, go_sem, r0, r1, r2]

set_option maxHeartbeats 2000000 in
theorem specParse_no (s : ByteArray) (w : World) (hs : s.size ≤ 1048576) (hno : ∀ t, ¬ IsTx s t) :
    Calls Tryz.prog 78 #[.string s] w fun e w' => e = .returned (.tuple #[rx 0 ⟨#[]⟩ (.slice none 0 0), .bool false]) ∧ Below w.heap.size w w' := by
  by_cases h1000 : (1000 : Int) < (s.size : Int)
  · clear hno
    go_enter Tryz.func78, Tryz.ntmps78
    go_wp2
    refine bodyPost_ret (v := .tuple #[rx 0 ⟨#[]⟩ (.slice none 0 0), .bool false]) ?_ rfl ⟨rfl, (Below.refl _ _).alloc (Nat.le_refl _) _⟩
    simp [results, Tryz.results78, go_sem]
  have HRd := Hid.mk (alt_any 8 (by omega) s (w.heap.size + 1) 0 (spW w s) (spW_sds w s) (Nat.zero_le _) hs)
  have HNO := Hid.mk (fun t q (h : rd 9 (txt s) = some (t, q)) => not_text hno h)
  have HB0 := Hid.mk (spW_bx w s)
  have HBel := Hid.mk (spW_below w s)
  clear hno
  go_enter Tryz.func78, Tryz.ntmps78
  go_wp2_with fail
  refine HRd.out.mono ?_
  rintro e w1 ⟨hg1, t, u, p1, rfl, hsz, how, hp1, hp2, hcase⟩
  rw [List.drop_zero] at hcase
  obtain ⟨au, cu, rfl⟩ := how.value
  have hbw : Below w1.heap.size w1 (w1.alloc (.cells #[.int .i64 t.k, .string t.s, .slice au t.l.length cu] 128)) := (Below.refl _ _).alloc (Nat.le_refl _) _
  have hs1 : w.heap.size + 2 ≤ w1.heap.size := by have := hg1.size; simpa using this
  have hB1 := HB0.out.gb hg1 (by omega)
  have HB1 := Hid.mk (hB1.kept (hbw.block _ hB1.lt))
  have HBel1 := Hid.mk ((below_gb HBel.out hg1 (by omega)).trans (hbw.mono (by omega)))
  have HT := Hid.mk (specRexText_any t _ _ _ (how.grow hbw).rl hsz)
  have HBw := Hid.mk hB1
  obtain ⟨RT, hRT⟩ : ∃ RT, rexS t = RT := ⟨_, rfl⟩
  obtain ⟨W1, hW1⟩ : ∃ W1, w1.alloc (.cells #[.int .i64 t.k, .string t.s, .slice au t.l.length cu] 128) = W1 := ⟨_, rfl⟩
  have hcase2 : (∃ d', Sds W1 (w.heap.size + 1) s p1 true d') ∨ (Sds W1 (w.heap.size + 1) s p1 false 0 ∧ RT ≠ s) := by
    rw [← hW1]
    rcases hcase with ⟨_, d', hsd, _, _⟩ | ⟨hrd, _, hsd⟩
    · exact Or.inl ⟨d', hsd.grow hbw⟩
    · exact Or.inr ⟨hsd.grow hbw, by rw [← hRT]; exact HNO.out _ _ hrd⟩
  obtain ⟨tk, htk⟩ : ∃ tk, t.k = tk := ⟨_, rfl⟩
  obtain ⟨ts, hts⟩ : ∃ ts, t.s = ts := ⟨_, rfl⟩
  rw [hRT, htk, hts] at HT
  rw [htk, hts] at HBel1 HB1 hW1
  rw [htk, hts]
  subst hW1
  clear HRd HNO HB0 HBel hg1 hcase hsz how hbw hRT htk hts hB1 HBw
  have c0 := HB1.out.c0
  have c1 := HB1.out.c1
  have c2 := HB1.out.c2
  have f0 := HB1.out.fr
  rcases hcase2 with ⟨d', hsd⟩ | ⟨hsd, hneq⟩
  · have d1 := hsd.c1
    have d2 := hsd.c2
    clear hsd HT
    go_wp2
    have hput := HB1.out.put (.int .i64 0) (.string ⟨#[]⟩) (.slice none 0 0)
    have hbp : Below w.heap.size w (set3 (w1.alloc (.cells #[.int .i64 tk, .string ts, .slice au t.l.length cu] 128)) w.heap.size (.int .i64 0) (.string ⟨#[]⟩) (.slice none 0 0)) := ((HBel1.out.setCell (Nat.le_refl _) _).setCell (Nat.le_refl _) _).setCell (Nat.le_refl _) _
    unfold set3 at hput hbp
    generalize (((w1.alloc (.cells #[.int .i64 tk, .string ts, .slice au t.l.length cu] 128)).setCell ⟨w.heap.size, 0, none⟩ (.int .i64 0)).setCell ⟨w.heap.size, 1, none⟩ (.string ⟨#[]⟩)).setCell ⟨w.heap.size, 2, none⟩ (.slice none 0 0) = WW at hput hbp ⊢
    have r0 := hput.c0
    have r1 := hput.c1
    have r2 := hput.c2
    refine bodyPost_ret (v := .tuple #[rx 0 ⟨#[]⟩ (.slice none 0 0), .bool false]) ?_ rfl ⟨rfl, hbp⟩
    simp [results, Tryz.results78, go_sem, r0, r1, r2]
  have d1 := hsd.c1
  have d2 := hsd.c2
  clear hsd
  have hss : (RT.toList == s.toList) = false := by
    rw [beq_eq_false_iff_ne]
    intro e
    apply hneq
    apply ByteArray.ext
    apply Array.toList_inj.1
    rw [← ByteArray.toList_eq, ← ByteArray.toList_eq]; exact e
  clear hneq
  by_cases hpe : p1 = s.size
  · subst hpe
    go_wp2_with fail
    refine HT.out.mono ?_
    rintro e w3 ⟨rfl, hb3⟩
    have HB3 := Hid.mk (HB1.out.kept (hb3.block _ HB1.out.lt))
    have HBel3 := Hid.mk (HBel1.out.trans (hb3.mono HBel1.out.size))
    have e0 := HB3.out.c0
    have e1 := HB3.out.c1
    have e2 := HB3.out.c2
    have g0 := HB3.out.fr
    clear HT hb3 HB1 HBel1 d1 d2 c0 c1 c2 f0
    go_wp2
    have hput := HB3.out.put (.int .i64 0) (.string ⟨#[]⟩) (.slice none 0 0)
    have hbp : Below w.heap.size w (set3 (w3) w.heap.size (.int .i64 0) (.string ⟨#[]⟩) (.slice none 0 0)) := ((HBel3.out.setCell (Nat.le_refl _) _).setCell (Nat.le_refl _) _).setCell (Nat.le_refl _) _
    unfold set3 at hput hbp
    generalize (((w3).setCell ⟨w.heap.size, 0, none⟩ (.int .i64 0)).setCell ⟨w.heap.size, 1, none⟩ (.string ⟨#[]⟩)).setCell ⟨w.heap.size, 2, none⟩ (.slice none 0 0) = WW at hput hbp ⊢
    have r0 := hput.c0
    have r1 := hput.c1
    have r2 := hput.c2
    refine bodyPost_ret (v := .tuple #[rx 0 ⟨#[]⟩ (.slice none 0 0), .bool false]) ?_ rfl ⟨rfl, hbp⟩
    simp [results, Tryz.results78, go_sem, r0, r1, r2]
  · have hpi : ((p1 : Int) == (s.size : Int)) = false := by rw [beq_eq_false_iff_ne]; omega
    have hpd : ¬ ((p1 : Int) = (s.size : Int)) := by omega
    clear HT hpe
    go_wp2
    have hput := HB1.out.put (.int .i64 0) (.string ⟨#[]⟩) (.slice none 0 0)
    have hbp : Below w.heap.size w (set3 (w1.alloc (.cells #[.int .i64 tk, .string ts, .slice au t.l.length cu] 128)) w.heap.size (.int .i64 0) (.string ⟨#[]⟩) (.slice none 0 0)) := ((HBel1.out.setCell (Nat.le_refl _) _).setCell (Nat.le_refl _) _).setCell (Nat.le_refl _) _
    unfold set3 at hput hbp
    generalize (((w1.alloc (.cells #[.int .i64 tk, .string ts, .slice au t.l.length cu] 128)).setCell ⟨w.heap.size, 0, none⟩ (.int .i64 0)).setCell ⟨w.heap.size, 1, none⟩ (.string ⟨#[]⟩)).setCell ⟨w.heap.size, 2, none⟩ (.slice none 0 0) = WW at hput hbp ⊢
    have r0 := hput.c0
    have r1 := hput.c1
    have r2 := hput.c2
    refine bodyPost_ret (v := .tuple #[rx 0 ⟨#[]⟩ (.slice none 0 0), .bool false]) ?_ rfl ⟨rfl, hbp⟩
    simp [results, Tryz.results78, go_sem, r0, r1, r2]
end Go.Proofs.YtbbhikbdbndefaaGreat

namespace Go.Proofs.YtbbhikbdbndefaaGreat
open Go.RowKit
set_option maxRecDepth 8000

set_option maxHeartbeats 1000000 in
theorem l8Rex_any (s : ByteArray) (w : World) (hs : s.size ≤ 1048576) : Calls Tryz.prog 70 #[.string s] w fun e w' => e = .returned (.bool (rtB s)) ∧ Below w.heap.size w w' := by
  by_cases h : ∃ t, IsTx s t
  · obtain ⟨t, ht⟩ := h
    have HP := Hid.mk (fun w => specParse_yes s t w ht)
    have HR : Hid (rtB s = decide (s.size ≤ 200)) := by
      show _ = _
      by_cases h2 : s.size ≤ 200
      · rw [rt_yes h2 ht, decide_eq_true h2]
      · rw [rt_long (by omega), decide_eq_false h2]
    clear ht
    obtain ⟨k, hk⟩ : ∃ k, t.k = k := ⟨_, rfl⟩
    obtain ⟨ts, hts⟩ : ∃ ts, t.s = ts := ⟨_, rfl⟩
    rw [hk, hts] at HP
    rw [HR.out]
    clear hk hts HR
    have hd : decide ((s.size : Int) ≤ 200) = decide (s.size ≤ 200) := decide_eq_decide.2 (by omega)
    rw [← hd]
    clear hd
    go_enter Tryz.func70, Tryz.ntmps70
    go_wp2_with fail
    refine (HP.out _).mono ?_
    rintro e w1 ⟨u, rfl, ho, -, hb1⟩
    obtain ⟨au, cu, rfl⟩ := ho.value
    have HB := Hid.mk (fun o => hb1.alloc hb1.size o)
    clear HP hb1 ho
    go_wp2
    go_ret
    exact ⟨rfl, HB.out _⟩
  · have hno : ∀ t, ¬ IsTx s t := fun t ht => h ⟨t, ht⟩
    have H := Hid.mk (rt_no hno)
    have HP := Hid.mk (fun w => specParse_no s w hs hno)
    clear h hno
    go_enter Tryz.func70, Tryz.ntmps70
    go_wp2_with fail
    refine (HP.out _).mono ?_
    rintro e w1 ⟨rfl, hb1⟩
    have HB := Hid.mk (fun o => hb1.alloc hb1.size o)
    clear HP hb1
    go_wp2
    go_ret
    exact ⟨ret_tb H.out.symm, HB.out _⟩

theorem nodeN_n {k n : Int} {s : ByteArray} {L : Nat} (hk : k ≠ 1) (hn : n ≠ 0) : nodeN k n s L = false := by
  unfold nodeN
  rw [if_neg hk, beq_false_of_ne hn]
  rfl
theorem nodeN_2 (s : ByteArray) (L : Nat) : nodeN 2 0 s L = (prB 39 s && ((L : Int) == 0)) := by
  unfold nodeN nodeK
  rw [show ((L : Int) == 0) = (L == 0) from len_beq L 0]
  simp (decide := true) only [if_false, if_true, beq_self_eq_true, Bool.true_and]
theorem nodeN_3 (s : ByteArray) (L : Nat) : nodeN 3 0 s L = (nmB s && ((L : Int) == 0)) := by
  unfold nodeN nodeK
  rw [show ((L : Int) == 0) = (L == 0) from len_beq L 0]
  simp (decide := true) only [if_false, if_true, beq_self_eq_true, Bool.true_and]
theorem nodeN_4 (s : ByteArray) (L : Nat) : nodeN 4 0 s L = (nmB s && ((L : Int) == 1)) := by
  unfold nodeN nodeK
  rw [show ((L : Int) == 1) = (L == 1) from len_beq L 1]
  simp (decide := true) only [if_false, if_true, beq_self_eq_true, Bool.true_and]
theorem nodeN_5 (s : ByteArray) (L : Nat) : nodeN 5 0 s L = (s.toList.isEmpty && ((L : Int) == 1)) := by
  unfold nodeN nodeK
  rw [show ((L : Int) == 1) = (L == 1) from len_beq L 1]
  simp (decide := true) only [if_false, if_true, beq_self_eq_true, Bool.true_and]
theorem nodeN_6 (s : ByteArray) (L : Nat) : nodeN 6 0 s L = (opB s && ((L : Int) == 2)) := by
  unfold nodeN nodeK
  rw [show ((L : Int) == 2) = (L == 2) from len_beq L 2]
  simp (decide := true) only [if_false, if_true, beq_self_eq_true, Bool.true_and]
theorem nodeN_7 (s : ByteArray) (L : Nat) : nodeN 7 0 s L = (s.toList.isEmpty && ((L : Int) == 1)) := by
  unfold nodeN nodeK
  rw [show ((L : Int) == 1) = (L == 1) from len_beq L 1]
  simp (decide := true) only [if_false, if_true, beq_self_eq_true, Bool.true_and]
theorem nodeN_8 (s : ByteArray) (L : Nat) : nodeN 8 0 s L = (s.toList.isEmpty && ((L : Int) == 1)) := by
  unfold nodeN nodeK
  rw [show ((L : Int) == 1) = (L == 1) from len_beq L 1]
  simp (decide := true) only [if_false, if_true, beq_self_eq_true, Bool.true_and]
theorem nodeN_9 (s : ByteArray) (L : Nat) : nodeN 9 0 s L = (nmB s && ((L : Int) == 1)) := by
  unfold nodeN nodeK
  rw [show ((L : Int) == 1) = (L == 1) from len_beq L 1]
  simp (decide := true) only [if_false, if_true, beq_self_eq_true, Bool.true_and]
theorem nodeN_10 (s : ByteArray) (L : Nat) : nodeN 10 0 s L = (rtB s && ((L : Int) == 1)) := by
  unfold nodeN nodeK
  rw [show ((L : Int) == 1) = (L == 1) from len_beq L 1]
  simp (decide := true) only [if_false, if_true, beq_self_eq_true, Bool.true_and]
theorem nodeN_11 (s : ByteArray) (L : Nat) : nodeN 11 0 s L = (nmB s && decide (L ≤ 4)) := by
  unfold nodeN nodeK
  simp (decide := true) only [if_false, if_true, beq_self_eq_true, Bool.true_and]
theorem nodeN_12 (s : ByteArray) (L : Nat) : nodeN 12 0 s L = (s.toList.isEmpty && ((L : Int) == 1)) := by
  unfold nodeN nodeK
  rw [show ((L : Int) == 1) = (L == 1) from len_beq L 1]
  simp (decide := true) only [if_false, if_true, beq_self_eq_true, Bool.true_and]
theorem nodeN_13 (s : ByteArray) (L : Nat) : nodeN 13 0 s L = (s.toList.isEmpty && ((L : Int) == 3)) := by
  unfold nodeN nodeK
  rw [show ((L : Int) == 3) = (L == 3) from len_beq L 3]
  simp (decide := true) only [if_false, if_true, beq_self_eq_true, Bool.true_and]
theorem nodeN_14 (s : ByteArray) (L : Nat) : nodeN 14 0 s L = (s.toList.isEmpty && ((L : Int) == 0)) := by
  unfold nodeN nodeK
  rw [show ((L : Int) == 0) = (L == 0) from len_beq L 0]
  simp (decide := true) only [if_false, if_true, beq_self_eq_true, Bool.true_and]
theorem nodeN_15 (s : ByteArray) (L : Nat) : nodeN 15 0 s L = (s.toList.isEmpty && ((L : Int) == 0)) := by
  unfold nodeN nodeK
  rw [show ((L : Int) == 0) = (L == 0) from len_beq L 0]
  simp (decide := true) only [if_false, if_true, beq_self_eq_true, Bool.true_and]
theorem nodeN_16 (s : ByteArray) (L : Nat) : nodeN 16 0 s L = (s.toList.isEmpty && ((L : Int) == 2)) := by
  unfold nodeN nodeK
  rw [show ((L : Int) == 2) = (L == 2) from len_beq L 2]
  simp (decide := true) only [if_false, if_true, beq_self_eq_true, Bool.true_and]
theorem nodeN_17 (s : ByteArray) (L : Nat) : nodeN 17 0 s L = (s.toList.isEmpty && ((L : Int) == 1)) := by
  unfold nodeN nodeK
  rw [show ((L : Int) == 1) = (L == 1) from len_beq L 1]
  simp (decide := true) only [if_false, if_true, beq_self_eq_true, Bool.true_and]
theorem nodeN_18 (s : ByteArray) (L : Nat) : nodeN 18 0 s L = (rtB s && ((L : Int) == 2)) := by
  unfold nodeN nodeK
  rw [show ((L : Int) == 2) = (L == 2) from len_beq L 2]
  simp (decide := true) only [if_false, if_true, beq_self_eq_true, Bool.true_and]

set_option maxHeartbeats 1000000 in
theorem here_2 (s : ByteArray) (ao : Option Addr) (L cap : Nat) (w : World) (hs : s.size ≤ maxLen) : Calls Tryz.prog 60 #[xx 2 0 s (.slice ao L cap)] w fun e w' => e = .returned (.bool (nodeN 2 0 s L)) ∧ Below w.heap.size w w' := by
  have A0 : Below w.heap.size w (w.alloc (.cells #[.int .i64 2, .int .i64 0, .string s, .slice ao L cap] 46)) := (Below.refl _ _).alloc (Nat.le_refl _) _
  have HC := Hid.mk (fun w => l7Print_any s 39 w hs)
  rw [nodeN_2]
  generalize prB 39 s = b at *
  clear hs
  cases b with
  | false =>
    go_enter Tryz.func60, Tryz.ntmps60
    go_wp2_with fail
    refine (HC.out _).mono ?_
    rintro e w1 ⟨rfl, hw1⟩
    subst hw1
    have B1 := A0
    clear A0 HC
    go_wp2
    go_ret
    exact ⟨rfl, B1⟩
  | true =>
    go_enter Tryz.func60, Tryz.ntmps60
    go_wp2_with fail
    refine (HC.out _).mono ?_
    rintro e w1 ⟨rfl, hw1⟩
    subst hw1
    have B1 := A0
    clear A0 HC
    go_wp2
    go_ret
    exact ⟨ret_tb (by simp), B1⟩

set_option maxHeartbeats 1000000 in
theorem here_3 (s : ByteArray) (ao : Option Addr) (L cap : Nat) (w : World) (hs : s.size ≤ maxLen) : Calls Tryz.prog 60 #[xx 3 0 s (.slice ao L cap)] w fun e w' => e = .returned (.bool (nodeN 3 0 s L)) ∧ Below w.heap.size w w' := by
  have A0 : Below w.heap.size w (w.alloc (.cells #[.int .i64 3, .int .i64 0, .string s, .slice ao L cap] 46)) := (Below.refl _ _).alloc (Nat.le_refl _) _
  have HC := Hid.mk (fun w => specNameOk_any s w hs)
  rw [nodeN_3]
  generalize nmB s = b at *
  clear hs
  cases b with
  | false =>
    go_enter Tryz.func60, Tryz.ntmps60
    go_wp2_with fail
    refine (HC.out _).mono ?_
    rintro e w1 ⟨rfl, hb1⟩
    have B1 := A0.trans (hb1.mono (by simp))
    have hc1 := fun o => hb1.cell (p := ⟨w.heap.size, o, none⟩) (by simp)
    clear A0 hb1 HC
    go_wp2
    go_ret
    exact ⟨rfl, B1⟩
  | true =>
    go_enter Tryz.func60, Tryz.ntmps60
    go_wp2_with fail
    refine (HC.out _).mono ?_
    rintro e w1 ⟨rfl, hb1⟩
    have B1 := A0.trans (hb1.mono (by simp))
    have hc1 := fun o => hb1.cell (p := ⟨w.heap.size, o, none⟩) (by simp)
    clear A0 hb1 HC
    go_wp2
    go_ret
    exact ⟨ret_tb (by simp), B1⟩

set_option maxHeartbeats 1000000 in
theorem here_4 (s : ByteArray) (ao : Option Addr) (L cap : Nat) (w : World) (hs : s.size ≤ maxLen) : Calls Tryz.prog 60 #[xx 4 0 s (.slice ao L cap)] w fun e w' => e = .returned (.bool (nodeN 4 0 s L)) ∧ Below w.heap.size w w' := by
  have A0 : Below w.heap.size w (w.alloc (.cells #[.int .i64 4, .int .i64 0, .string s, .slice ao L cap] 46)) := (Below.refl _ _).alloc (Nat.le_refl _) _
  have HC := Hid.mk (fun w => specNameOk_any s w hs)
  rw [nodeN_4]
  generalize nmB s = b at *
  clear hs
  cases b with
  | false =>
    go_enter Tryz.func60, Tryz.ntmps60
    go_wp2_with fail
    refine (HC.out _).mono ?_
    rintro e w1 ⟨rfl, hb1⟩
    have B1 := A0.trans (hb1.mono (by simp))
    have hc1 := fun o => hb1.cell (p := ⟨w.heap.size, o, none⟩) (by simp)
    clear A0 hb1 HC
    go_wp2
    go_ret
    exact ⟨rfl, B1⟩
  | true =>
    go_enter Tryz.func60, Tryz.ntmps60
    go_wp2_with fail
    refine (HC.out _).mono ?_
    rintro e w1 ⟨rfl, hb1⟩
    have B1 := A0.trans (hb1.mono (by simp))
    have hc1 := fun o => hb1.cell (p := ⟨w.heap.size, o, none⟩) (by simp)
    clear A0 hb1 HC
    go_wp2
    go_ret
    exact ⟨ret_tb (by simp), B1⟩

set_option maxHeartbeats 1000000 in
theorem here_5 (s : ByteArray) (ao : Option Addr) (L cap : Nat) (w : World) : Calls Tryz.prog 60 #[xx 5 0 s (.slice ao L cap)] w fun e w' => e = .returned (.bool (nodeN 5 0 s L)) ∧ Below w.heap.size w w' := by
  have A0 : Below w.heap.size w (w.alloc (.cells #[.int .i64 5, .int .i64 0, .string s, .slice ao L cap] 46)) := (Below.refl _ _).alloc (Nat.le_refl _) _
  rw [nodeN_5]
  cases h : s.toList.isEmpty with
  | false =>
    go_enter Tryz.func60, Tryz.ntmps60
    go_wp2
    go_ret
    exact ⟨rfl, A0⟩
  | true =>
    go_enter Tryz.func60, Tryz.ntmps60
    go_wp2
    go_ret
    exact ⟨ret_tb (by simp), A0⟩

set_option maxHeartbeats 1000000 in
theorem here_7 (s : ByteArray) (ao : Option Addr) (L cap : Nat) (w : World) : Calls Tryz.prog 60 #[xx 7 0 s (.slice ao L cap)] w fun e w' => e = .returned (.bool (nodeN 7 0 s L)) ∧ Below w.heap.size w w' := by
  have A0 : Below w.heap.size w (w.alloc (.cells #[.int .i64 7, .int .i64 0, .string s, .slice ao L cap] 46)) := (Below.refl _ _).alloc (Nat.le_refl _) _
  rw [nodeN_7]
  cases h : s.toList.isEmpty with
  | false =>
    go_enter Tryz.func60, Tryz.ntmps60
    go_wp2
    go_ret
    exact ⟨rfl, A0⟩
  | true =>
    go_enter Tryz.func60, Tryz.ntmps60
    go_wp2
    go_ret
    exact ⟨ret_tb (by simp), A0⟩

set_option maxHeartbeats 1000000 in
theorem here_8 (s : ByteArray) (ao : Option Addr) (L cap : Nat) (w : World) : Calls Tryz.prog 60 #[xx 8 0 s (.slice ao L cap)] w fun e w' => e = .returned (.bool (nodeN 8 0 s L)) ∧ Below w.heap.size w w' := by
  have A0 : Below w.heap.size w (w.alloc (.cells #[.int .i64 8, .int .i64 0, .string s, .slice ao L cap] 46)) := (Below.refl _ _).alloc (Nat.le_refl _) _
  rw [nodeN_8]
  cases h : s.toList.isEmpty with
  | false =>
    go_enter Tryz.func60, Tryz.ntmps60
    go_wp2
    go_ret
    exact ⟨rfl, A0⟩
  | true =>
    go_enter Tryz.func60, Tryz.ntmps60
    go_wp2
    go_ret
    exact ⟨ret_tb (by simp), A0⟩

set_option maxHeartbeats 1000000 in
theorem here_9 (s : ByteArray) (ao : Option Addr) (L cap : Nat) (w : World) (hs : s.size ≤ maxLen) : Calls Tryz.prog 60 #[xx 9 0 s (.slice ao L cap)] w fun e w' => e = .returned (.bool (nodeN 9 0 s L)) ∧ Below w.heap.size w w' := by
  have A0 : Below w.heap.size w (w.alloc (.cells #[.int .i64 9, .int .i64 0, .string s, .slice ao L cap] 46)) := (Below.refl _ _).alloc (Nat.le_refl _) _
  have HC := Hid.mk (fun w => specNameOk_any s w hs)
  rw [nodeN_9]
  generalize nmB s = b at *
  clear hs
  cases b with
  | false =>
    go_enter Tryz.func60, Tryz.ntmps60
    go_wp2_with fail
    refine (HC.out _).mono ?_
    rintro e w1 ⟨rfl, hb1⟩
    have B1 := A0.trans (hb1.mono (by simp))
    have hc1 := fun o => hb1.cell (p := ⟨w.heap.size, o, none⟩) (by simp)
    clear A0 hb1 HC
    go_wp2
    go_ret
    exact ⟨rfl, B1⟩
  | true =>
    go_enter Tryz.func60, Tryz.ntmps60
    go_wp2_with fail
    refine (HC.out _).mono ?_
    rintro e w1 ⟨rfl, hb1⟩
    have B1 := A0.trans (hb1.mono (by simp))
    have hc1 := fun o => hb1.cell (p := ⟨w.heap.size, o, none⟩) (by simp)
    clear A0 hb1 HC
    go_wp2
    go_ret
    exact ⟨ret_tb (by simp), B1⟩

set_option maxHeartbeats 1000000 in
theorem here_10 (s : ByteArray) (ao : Option Addr) (L cap : Nat) (w : World) (hs : s.size ≤ 1048576) : Calls Tryz.prog 60 #[xx 10 0 s (.slice ao L cap)] w fun e w' => e = .returned (.bool (nodeN 10 0 s L)) ∧ Below w.heap.size w w' := by
  have A0 : Below w.heap.size w (w.alloc (.cells #[.int .i64 10, .int .i64 0, .string s, .slice ao L cap] 46)) := (Below.refl _ _).alloc (Nat.le_refl _) _
  have HC := Hid.mk (fun w => l8Rex_any s w hs)
  rw [nodeN_10]
  generalize rtB s = b at *
  clear hs
  cases b with
  | false =>
    go_enter Tryz.func60, Tryz.ntmps60
    go_wp2_with fail
    refine (HC.out _).mono ?_
    rintro e w1 ⟨rfl, hb1⟩
    have B1 := A0.trans (hb1.mono (by simp))
    have hc1 := fun o => hb1.cell (p := ⟨w.heap.size, o, none⟩) (by simp)
    clear A0 hb1 HC
    go_wp2
    go_ret
    exact ⟨rfl, B1⟩
  | true =>
    go_enter Tryz.func60, Tryz.ntmps60
    go_wp2_with fail
    refine (HC.out _).mono ?_
    rintro e w1 ⟨rfl, hb1⟩
    have B1 := A0.trans (hb1.mono (by simp))
    have hc1 := fun o => hb1.cell (p := ⟨w.heap.size, o, none⟩) (by simp)
    clear A0 hb1 HC
    go_wp2
    go_ret
    exact ⟨ret_tb (by simp), B1⟩

set_option maxHeartbeats 1000000 in
theorem here_11 (s : ByteArray) (ao : Option Addr) (L cap : Nat) (w : World) (hs : s.size ≤ maxLen) : Calls Tryz.prog 60 #[xx 11 0 s (.slice ao L cap)] w fun e w' => e = .returned (.bool (nodeN 11 0 s L)) ∧ Below w.heap.size w w' := by
  have A0 : Below w.heap.size w (w.alloc (.cells #[.int .i64 11, .int .i64 0, .string s, .slice ao L cap] 46)) := (Below.refl _ _).alloc (Nat.le_refl _) _
  have HC := Hid.mk (fun w => specNameOk_any s w hs)
  rw [nodeN_11]
  generalize nmB s = b at *
  clear hs
  cases b with
  | false =>
    go_enter Tryz.func60, Tryz.ntmps60
    go_wp2_with fail
    refine (HC.out _).mono ?_
    rintro e w1 ⟨rfl, hb1⟩
    have B1 := A0.trans (hb1.mono (by simp))
    have hc1 := fun o => hb1.cell (p := ⟨w.heap.size, o, none⟩) (by simp)
    clear A0 hb1 HC
    go_wp2
    go_ret
    exact ⟨rfl, B1⟩
  | true =>
    by_cases h4 : L ≤ 4
    · have hi : (L : Int) ≤ 4 := by omega
      rw [decide_eq_true h4]
      clear h4
      go_enter Tryz.func60, Tryz.ntmps60
      go_wp2_with fail
      refine (HC.out _).mono ?_
      rintro e w1 ⟨rfl, hb1⟩
      have B1 := A0.trans (hb1.mono (by simp))
      have hc1 := fun o => hb1.cell (p := ⟨w.heap.size, o, none⟩) (by simp)
      clear A0 hb1 HC
      go_wp2
      go_ret
      exact ⟨rfl, B1⟩
    · have hi : ¬ (L : Int) ≤ 4 := by omega
      rw [decide_eq_false h4]
      clear h4
      go_enter Tryz.func60, Tryz.ntmps60
      go_wp2_with fail
      refine (HC.out _).mono ?_
      rintro e w1 ⟨rfl, hb1⟩
      have B1 := A0.trans (hb1.mono (by simp))
      have hc1 := fun o => hb1.cell (p := ⟨w.heap.size, o, none⟩) (by simp)
      clear A0 hb1 HC
      go_wp2
      go_ret
      exact ⟨ret_tb (by simp; omega), B1⟩

set_option maxHeartbeats 1000000 in
theorem here_12 (s : ByteArray) (ao : Option Addr) (L cap : Nat) (w : World) : Calls Tryz.prog 60 #[xx 12 0 s (.slice ao L cap)] w fun e w' => e = .returned (.bool (nodeN 12 0 s L)) ∧ Below w.heap.size w w' := by
  have A0 : Below w.heap.size w (w.alloc (.cells #[.int .i64 12, .int .i64 0, .string s, .slice ao L cap] 46)) := (Below.refl _ _).alloc (Nat.le_refl _) _
  rw [nodeN_12]
  cases h : s.toList.isEmpty with
  | false =>
    go_enter Tryz.func60, Tryz.ntmps60
    go_wp2
    go_ret
    exact ⟨rfl, A0⟩
  | true =>
    go_enter Tryz.func60, Tryz.ntmps60
    go_wp2
    go_ret
    exact ⟨ret_tb (by simp), A0⟩

set_option maxHeartbeats 1000000 in
theorem here_13 (s : ByteArray) (ao : Option Addr) (L cap : Nat) (w : World) : Calls Tryz.prog 60 #[xx 13 0 s (.slice ao L cap)] w fun e w' => e = .returned (.bool (nodeN 13 0 s L)) ∧ Below w.heap.size w w' := by
  have A0 : Below w.heap.size w (w.alloc (.cells #[.int .i64 13, .int .i64 0, .string s, .slice ao L cap] 46)) := (Below.refl _ _).alloc (Nat.le_refl _) _
  rw [nodeN_13]
  cases h : s.toList.isEmpty with
  | false =>
    go_enter Tryz.func60, Tryz.ntmps60
    go_wp2
    go_ret
    exact ⟨rfl, A0⟩
  | true =>
    go_enter Tryz.func60, Tryz.ntmps60
    go_wp2
    go_ret
    exact ⟨ret_tb (by simp), A0⟩

set_option maxHeartbeats 1000000 in
theorem here_14 (s : ByteArray) (ao : Option Addr) (L cap : Nat) (w : World) : Calls Tryz.prog 60 #[xx 14 0 s (.slice ao L cap)] w fun e w' => e = .returned (.bool (nodeN 14 0 s L)) ∧ Below w.heap.size w w' := by
  have A0 : Below w.heap.size w (w.alloc (.cells #[.int .i64 14, .int .i64 0, .string s, .slice ao L cap] 46)) := (Below.refl _ _).alloc (Nat.le_refl _) _
  rw [nodeN_14]
  cases h : s.toList.isEmpty with
  | false =>
    go_enter Tryz.func60, Tryz.ntmps60
    go_wp2
    go_ret
    exact ⟨rfl, A0⟩
  | true =>
    go_enter Tryz.func60, Tryz.ntmps60
    go_wp2
    go_ret
    exact ⟨ret_tb (by simp), A0⟩

set_option maxHeartbeats 1000000 in
theorem here_15 (s : ByteArray) (ao : Option Addr) (L cap : Nat) (w : World) : Calls Tryz.prog 60 #[xx 15 0 s (.slice ao L cap)] w fun e w' => e = .returned (.bool (nodeN 15 0 s L)) ∧ Below w.heap.size w w' := by
  have A0 : Below w.heap.size w (w.alloc (.cells #[.int .i64 15, .int .i64 0, .string s, .slice ao L cap] 46)) := (Below.refl _ _).alloc (Nat.le_refl _) _
  rw [nodeN_15]
  cases h : s.toList.isEmpty with
  | false =>
    go_enter Tryz.func60, Tryz.ntmps60
    go_wp2
    go_ret
    exact ⟨rfl, A0⟩
  | true =>
    go_enter Tryz.func60, Tryz.ntmps60
    go_wp2
    go_ret
    exact ⟨ret_tb (by simp), A0⟩

set_option maxHeartbeats 1000000 in
theorem here_16 (s : ByteArray) (ao : Option Addr) (L cap : Nat) (w : World) : Calls Tryz.prog 60 #[xx 16 0 s (.slice ao L cap)] w fun e w' => e = .returned (.bool (nodeN 16 0 s L)) ∧ Below w.heap.size w w' := by
  have A0 : Below w.heap.size w (w.alloc (.cells #[.int .i64 16, .int .i64 0, .string s, .slice ao L cap] 46)) := (Below.refl _ _).alloc (Nat.le_refl _) _
  rw [nodeN_16]
  cases h : s.toList.isEmpty with
  | false =>
    go_enter Tryz.func60, Tryz.ntmps60
    go_wp2
    go_ret
    exact ⟨rfl, A0⟩
  | true =>
    go_enter Tryz.func60, Tryz.ntmps60
    go_wp2
    go_ret
    exact ⟨ret_tb (by simp), A0⟩

set_option maxHeartbeats 1000000 in
theorem here_17 (s : ByteArray) (ao : Option Addr) (L cap : Nat) (w : World) : Calls Tryz.prog 60 #[xx 17 0 s (.slice ao L cap)] w fun e w' => e = .returned (.bool (nodeN 17 0 s L)) ∧ Below w.heap.size w w' := by
  have A0 : Below w.heap.size w (w.alloc (.cells #[.int .i64 17, .int .i64 0, .string s, .slice ao L cap] 46)) := (Below.refl _ _).alloc (Nat.le_refl _) _
  rw [nodeN_17]
  cases h : s.toList.isEmpty with
  | false =>
    go_enter Tryz.func60, Tryz.ntmps60
    go_wp2
    go_ret
    exact ⟨rfl, A0⟩
  | true =>
    go_enter Tryz.func60, Tryz.ntmps60
    go_wp2
    go_ret
    exact ⟨ret_tb (by simp), A0⟩

set_option maxHeartbeats 1000000 in
theorem here_18 (s : ByteArray) (ao : Option Addr) (L cap : Nat) (w : World) (hs : s.size ≤ 1048576) : Calls Tryz.prog 60 #[xx 18 0 s (.slice ao L cap)] w fun e w' => e = .returned (.bool (nodeN 18 0 s L)) ∧ Below w.heap.size w w' := by
  have A0 : Below w.heap.size w (w.alloc (.cells #[.int .i64 18, .int .i64 0, .string s, .slice ao L cap] 46)) := (Below.refl _ _).alloc (Nat.le_refl _) _
  have HC := Hid.mk (fun w => l8Rex_any s w hs)
  rw [nodeN_18]
  generalize rtB s = b at *
  clear hs
  cases b with
  | false =>
    go_enter Tryz.func60, Tryz.ntmps60
    go_wp2_with fail
    refine (HC.out _).mono ?_
    rintro e w1 ⟨rfl, hb1⟩
    have B1 := A0.trans (hb1.mono (by simp))
    have hc1 := fun o => hb1.cell (p := ⟨w.heap.size, o, none⟩) (by simp)
    clear A0 hb1 HC
    go_wp2
    go_ret
    exact ⟨rfl, B1⟩
  | true =>
    go_enter Tryz.func60, Tryz.ntmps60
    go_wp2_with fail
    refine (HC.out _).mono ?_
    rintro e w1 ⟨rfl, hb1⟩
    have B1 := A0.trans (hb1.mono (by simp))
    have hc1 := fun o => hb1.cell (p := ⟨w.heap.size, o, none⟩) (by simp)
    clear A0 hb1 HC
    go_wp2
    go_ret
    exact ⟨ret_tb (by simp), B1⟩

set_option maxHeartbeats 1000000 in
theorem here_6 (s : ByteArray) (ao : Option Addr) (L cap : Nat) (w : World) : Calls Tryz.prog 60 #[xx 6 0 s (.slice ao L cap)] w fun e w' => e = .returned (.bool (nodeN 6 0 s L)) ∧ Below w.heap.size w w' := by
  have A0 : Below w.heap.size w (w.alloc (.cells #[.int .i64 6, .int .i64 0, .string s, .slice ao L cap] 46)) := (Below.refl _ _).alloc (Nat.le_refl _) _
  have HO := Hid.mk (fun w => l8Ops_any w)
  have HH := Hid.mk (fun (w' : World) (lb : Nat) (h : Strs w' lb opsS) => l8Has_any opsS lb 14 s w' h rfl (by omega))
  rw [nodeN_6]
  rw [ops_has] at HH
  generalize opB s = b at *
  have c2 : (w.alloc (.cells #[.int .i64 6, .int .i64 0, .string s, .slice ao L cap] 46)).cell? ⟨w.heap.size, 2, none⟩ = some (.string s) := by
    have := heap_alloc_new w (.cells #[.int .i64 6, .int .i64 0, .string s, .slice ao L cap] 46)
    rw [cell_of_row _ w.heap.size 2 _ _ (0, 0) this]
    rfl
  cases b with
  | false =>
    go_enter Tryz.func60, Tryz.ntmps60
    go_wp2_with fail
    generalize w.alloc (.cells #[.int .i64 6, .int .i64 0, .string s, .slice ao L cap] 46) = W at A0 c2 ⊢
    have hlt : w.heap.size < W.heap.size := World.block_lt_of_cell? W _ c2
    have S0 : Below W.heap.size W W.drew := Below.drewSelf _ _ 1
    have HBW := Hid.mk (fun w' (h : Below W.heap.size W w') => A0.trans (h.mono A0.size))
    refine wp_region_held_drew (S := Below W.heap.size W) (by kernel_rfl) S0 (fun _ => ?_)
    refine takeHD (i := 1) (v := .pointer (some ⟨w.heap.size, 2, none⟩)) (some 62) rfl rfl (by kernel_rfl) (by kernel_rfl) (by kernel_rfl) (fun _ _ _ h => h) (Or.inl ⟨by kernel_rfl, fun w' hw => ?_⟩) S0 ?_
    · kernel_rfl
    simp only [Act.put, List.setIfInBounds_toArray]
    refine takeHD (i := 2) (v := .string s) (some 63) rfl rfl (by kernel_rfl) (by kernel_rfl) (by kernel_rfl) (fun _ _ _ h => h) (Or.inl ⟨by kernel_rfl, fun w' hw => ?_⟩) S0 ?_
    · have y : w'.cell? ⟨w.heap.size, 2, none⟩ = some (.string s) := by rw [hw.cell (p := ⟨w.heap.size, 2, none⟩) hlt]; exact c2
      go_simp
    simp only [Act.put, List.setIfInBounds_toArray]
    refine wpAnyH_ready (rs := [0]) (by kernel_rfl) (by simp) ?_
    refine AllReadyH.cons rfl (fun K hK => ?_) AllReadyH.nil
    rw [if_pos (by kernel_rfl)]
    go_wp2_with fail
    refine (HO.out _).mono ?_
    rintro e q1 ⟨rfl, hst, hbq1⟩
    have S1 : Below W.heap.size W q1 := S0.trans (hbq1.mono S0.size)
    refine hK.out _ _ S1 (fun _ => ?_)
    clear hK K hbq1
    refine wpAnyH_ready (rs := [3]) (by kernel_rfl) (by simp) ?_
    refine AllReadyH.cons rfl (fun K hK => ?_) AllReadyH.nil
    rw [if_pos (by kernel_rfl)]
    go_wp2_with fail
    refine (HH.out _ _ hst).mono ?_
    rintro e q2 ⟨rfl, hq2⟩
    subst hq2
    refine hK.out _ _ S1 (fun _ => ?_)
    clear hK K
    refine takeHD (i := 4) (v := .bool false) (some 65) rfl rfl (by kernel_rfl) (by kernel_rfl) (by kernel_rfl) (fun _ _ _ h => h) (Or.inl ⟨by kernel_rfl, fun w' hw => ?_⟩) S1 ?_
    · kernel_rfl
    simp only [Act.put, List.setIfInBounds_toArray]
    refine takeHD (i := 5) (v := undef) (some 66) rfl rfl (by kernel_rfl) (by kernel_rfl) (by kernel_rfl) (fun _ _ _ h => h) (Or.inr ⟨by kernel_rfl, rfl⟩) S1 ?_
    simp only [Act.put, List.setIfInBounds_toArray]
    refine takeHD (i := 6) (v := undef) (some 67) rfl rfl (by kernel_rfl) (by kernel_rfl) (by kernel_rfl) (fun _ _ _ h => h) (Or.inr ⟨by kernel_rfl, rfl⟩) S1 ?_
    simp only [Act.put, List.setIfInBounds_toArray]
    refine takeHD (i := 7) (v := .bool false) (some 68) rfl rfl (by kernel_rfl) (by kernel_rfl) (by kernel_rfl) (fun _ _ _ h => h) (Or.inl ⟨by kernel_rfl, fun w' hw => ?_⟩) S1 ?_
    · kernel_rfl
    simp only [Act.put, List.setIfInBounds_toArray]
    refine takeHD (i := 8) (v := .bool false) (some 2) rfl rfl (by kernel_rfl) (by kernel_rfl) (by kernel_rfl) (fun _ _ _ h => h) (Or.inl ⟨by kernel_rfl, fun w' hw => ?_⟩) S1 ?_
    · kernel_rfl
    simp only [Act.put, List.setIfInBounds_toArray]
    refine wpAnyH_done (by kernel_rfl) ?_ _
    have B9 := HBW.out _ S1
    go_wp2
    go_ret
    exact ⟨rfl, B9⟩
  | true =>
    go_enter Tryz.func60, Tryz.ntmps60
    go_wp2_with fail
    generalize w.alloc (.cells #[.int .i64 6, .int .i64 0, .string s, .slice ao L cap] 46) = W at A0 c2 ⊢
    have hlt : w.heap.size < W.heap.size := World.block_lt_of_cell? W _ c2
    have S0 : Below W.heap.size W W.drew := Below.drewSelf _ _ 1
    have HBW := Hid.mk (fun w' (h : Below W.heap.size W w') => A0.trans (h.mono A0.size))
    refine wp_region_held_drew (S := Below W.heap.size W) (by kernel_rfl) S0 (fun _ => ?_)
    refine takeHD (i := 1) (v := .pointer (some ⟨w.heap.size, 2, none⟩)) (some 62) rfl rfl (by kernel_rfl) (by kernel_rfl) (by kernel_rfl) (fun _ _ _ h => h) (Or.inl ⟨by kernel_rfl, fun w' hw => ?_⟩) S0 ?_
    · kernel_rfl
    simp only [Act.put, List.setIfInBounds_toArray]
    refine takeHD (i := 2) (v := .string s) (some 63) rfl rfl (by kernel_rfl) (by kernel_rfl) (by kernel_rfl) (fun _ _ _ h => h) (Or.inl ⟨by kernel_rfl, fun w' hw => ?_⟩) S0 ?_
    · have y : w'.cell? ⟨w.heap.size, 2, none⟩ = some (.string s) := by rw [hw.cell (p := ⟨w.heap.size, 2, none⟩) hlt]; exact c2
      go_simp
    simp only [Act.put, List.setIfInBounds_toArray]
    refine wpAnyH_ready (rs := [0]) (by kernel_rfl) (by simp) ?_
    refine AllReadyH.cons rfl (fun K hK => ?_) AllReadyH.nil
    rw [if_pos (by kernel_rfl)]
    go_wp2_with fail
    refine (HO.out _).mono ?_
    rintro e q1 ⟨rfl, hst, hbq1⟩
    have S1 : Below W.heap.size W q1 := S0.trans (hbq1.mono S0.size)
    refine hK.out _ _ S1 (fun _ => ?_)
    clear hK K hbq1
    refine wpAnyH_ready (rs := [3]) (by kernel_rfl) (by simp) ?_
    refine AllReadyH.cons rfl (fun K hK => ?_) AllReadyH.nil
    rw [if_pos (by kernel_rfl)]
    go_wp2_with fail
    refine (HH.out _ _ hst).mono ?_
    rintro e q2 ⟨rfl, hq2⟩
    subst hq2
    refine hK.out _ _ S1 (fun _ => ?_)
    clear hK K
    refine takeHD (i := 4) (v := .bool true) (some 65) rfl rfl (by kernel_rfl) (by kernel_rfl) (by kernel_rfl) (fun _ _ _ h => h) (Or.inl ⟨by kernel_rfl, fun w' hw => ?_⟩) S1 ?_
    · kernel_rfl
    simp only [Act.put, List.setIfInBounds_toArray]
    refine takeHD (i := 5) (v := .int .i64 (L : Int)) (some 66) rfl rfl (by kernel_rfl) (by kernel_rfl) (by kernel_rfl) (fun _ _ _ h => h) (Or.inl ⟨by kernel_rfl, fun w' hw => ?_⟩) S1 ?_
    · kernel_rfl
    simp only [Act.put, List.setIfInBounds_toArray]
    refine takeHD (i := 6) (v := .bool ((L : Int) == 2)) (some 67) rfl rfl (by kernel_rfl) (by kernel_rfl) (by kernel_rfl) (fun _ _ _ h => h) (Or.inl ⟨by kernel_rfl, fun w' hw => ?_⟩) S1 ?_
    · go_simp
    simp only [Act.put, List.setIfInBounds_toArray]
    refine takeHD (i := 7) (v := .bool ((L : Int) == 2)) (some 68) rfl rfl (by kernel_rfl) (by kernel_rfl) (by kernel_rfl) (fun _ _ _ h => h) (Or.inl ⟨by kernel_rfl, fun w' hw => ?_⟩) S1 ?_
    · kernel_rfl
    simp only [Act.put, List.setIfInBounds_toArray]
    refine takeHD (i := 8) (v := .bool ((L : Int) == 2)) (some 2) rfl rfl (by kernel_rfl) (by kernel_rfl) (by kernel_rfl) (fun _ _ _ h => h) (Or.inl ⟨by kernel_rfl, fun w' hw => ?_⟩) S1 ?_
    · kernel_rfl
    simp only [Act.put, List.setIfInBounds_toArray]
    refine wpAnyH_done (by kernel_rfl) ?_ _
    have B9 := HBW.out _ S1
    go_wp2
    go_ret
    exact ⟨ret_tb (by simp), B9⟩

set_option maxHeartbeats 1000000 in
theorem here_1 (n : Int) (s : ByteArray) (ao : Option Addr) (L cap : Nat) (w : World) : Calls Tryz.prog 60 #[xx 1 n s (.slice ao L cap)] w fun e w' => e = .returned (.bool (nodeN 1 n s L)) ∧ Below w.heap.size w w' := by
  have A0 : Below w.heap.size w (w.alloc (.cells #[.int .i64 1, .int .i64 n, .string s, .slice ao L cap] 46)) := (Below.refl _ _).alloc (Nat.le_refl _) _
  have HE : Hid (nodeN 1 n s L = (bwB 0 2147483647 n && (s.toList.isEmpty && ((L : Int) == 0)))) := by
    show _ = _
    unfold nodeN nodeK
    rw [if_pos rfl, if_pos rfl, show ((L : Int) == 0) = (L == 0) from len_beq L 0]
  rw [HE.out]
  have HB := Hid.mk (fun w => l1Bw_any n 0 2147483647 w)
  generalize bwB 0 2147483647 n = b at *
  clear HE
  cases b with
  | false =>
    go_enter Tryz.func60, Tryz.ntmps60
    go_wp2_with fail
    refine (HB.out _).mono ?_
    rintro e w1 ⟨rfl, hw1⟩
    subst hw1
    go_wp2
    go_ret
    exact ⟨rfl, A0⟩
  | true =>
    cases h : s.toList.isEmpty with
    | false =>
      go_enter Tryz.func60, Tryz.ntmps60
      go_wp2_with fail
      refine (HB.out _).mono ?_
      rintro e w1 ⟨rfl, hw1⟩
      subst hw1
      go_wp2
      go_ret
      exact ⟨rfl, A0⟩
    | true =>
      go_enter Tryz.func60, Tryz.ntmps60
      go_wp2_with fail
      refine (HB.out _).mono ?_
      rintro e w1 ⟨rfl, hw1⟩
      subst hw1
      go_wp2
      go_ret
      exact ⟨ret_tb (by simp), A0⟩

set_option maxHeartbeats 1000000 in
theorem here_n (k n : Int) (s : ByteArray) (ao : Option Addr) (L cap : Nat) (w : World) (h1 : (k != 1) = true) (hn : (n != 0) = true) : Calls Tryz.prog 60 #[xx k n s (.slice ao L cap)] w fun e w' => e = .returned (.bool (false)) ∧ Below w.heap.size w w' := by
  have A0 : Below w.heap.size w (w.alloc (.cells #[.int .i64 k, .int .i64 n, .string s, .slice ao L cap] 46)) := (Below.refl _ _).alloc (Nat.le_refl _) _
  go_enter Tryz.func60, Tryz.ntmps60
  go_wp2
  go_ret
  exact ⟨rfl, A0⟩

set_option maxHeartbeats 1000000 in
theorem here_x (k n : Int) (s : ByteArray) (ao : Option Addr) (L cap : Nat) (w : World) (h1 : (k != 1) = true) (e1 : (k == 1) = false) (e2 : (k == 2) = false) (e3 : (k == 3) = false) (e4 : (k == 4) = false) (e9 : (k == 9) = false) (e6 : (k == 6) = false) (e10 : (k == 10) = false) (e18 : (k == 18) = false) (e11 : (k == 11) = false) (e5 : (k == 5) = false) (e7 : (k == 7) = false) (e8 : (k == 8) = false) (e12 : (k == 12) = false) (e17 : (k == 17) = false) (e13 : (k == 13) = false) (e16 : (k == 16) = false) (e14 : (k == 14) = false) (e15 : (k == 15) = false) : Calls Tryz.prog 60 #[xx k n s (.slice ao L cap)] w fun e w' => e = .returned (.bool (false)) ∧ Below w.heap.size w w' := by
  have A0 : Below w.heap.size w (w.alloc (.cells #[.int .i64 k, .int .i64 n, .string s, .slice ao L cap] 46)) := (Below.refl _ _).alloc (Nat.le_refl _) _
  cases hn : (n != 0) with
  | true =>
    go_enter Tryz.func60, Tryz.ntmps60
    go_wp2
    go_ret
    exact ⟨rfl, A0⟩
  | false =>
    go_enter Tryz.func60, Tryz.ntmps60
    go_wp2
    go_ret
    exact ⟨rfl, A0⟩

theorem l8Here_any (k n : Int) (s : ByteArray) (ao : Option Addr) (L cap : Nat) (w : World) (hm : s.size ≤ 1048576) : Calls Tryz.prog 60 #[xx k n s (.slice ao L cap)] w fun e w' => e = .returned (.bool (nodeN k n s L)) ∧ Below w.heap.size w w' := by
  have hs : s.size ≤ maxLen := by unfold maxLen; omega
  by_cases h1 : k = 1
  · subst h1; exact here_1 n s ao L cap w
  by_cases hn : n = 0
  rotate_left
  · rw [nodeN_n h1 hn]
    exact here_n k n s ao L cap w (by simpa using h1) (by simpa using hn)
  subst hn
  by_cases h2 : k = 2
  · subst h2; exact here_2 s ao L cap w hs
  by_cases h3 : k = 3
  · subst h3; exact here_3 s ao L cap w hs
  by_cases h4 : k = 4
  · subst h4; exact here_4 s ao L cap w hs
  by_cases h9 : k = 9
  · subst h9; exact here_9 s ao L cap w hs
  by_cases h6 : k = 6
  · subst h6; exact here_6 s ao L cap w
  by_cases h10 : k = 10
  · subst h10; exact here_10 s ao L cap w hm
  by_cases h18 : k = 18
  · subst h18; exact here_18 s ao L cap w hm
  by_cases h11 : k = 11
  · subst h11; exact here_11 s ao L cap w hs
  by_cases h5 : k = 5
  · subst h5; exact here_5 s ao L cap w
  by_cases h7 : k = 7
  · subst h7; exact here_7 s ao L cap w
  by_cases h8 : k = 8
  · subst h8; exact here_8 s ao L cap w
  by_cases h12 : k = 12
  · subst h12; exact here_12 s ao L cap w
  by_cases h17 : k = 17
  · subst h17; exact here_17 s ao L cap w
  by_cases h13 : k = 13
  · subst h13; exact here_13 s ao L cap w
  by_cases h16 : k = 16
  · subst h16; exact here_16 s ao L cap w
  by_cases h14 : k = 14
  · subst h14; exact here_14 s ao L cap w
  by_cases h15 : k = 15
  · subst h15; exact here_15 s ao L cap w
  rw [ex_eqx 0 s L (by omega)]
  exact here_x k 0 s ao L cap w (by simpa using h1) (beq_false_of_ne h1) (beq_false_of_ne h2) (beq_false_of_ne h3) (beq_false_of_ne h4) (beq_false_of_ne h9) (beq_false_of_ne h6) (beq_false_of_ne h10) (beq_false_of_ne h18) (beq_false_of_ne h11) (beq_false_of_ne h5) (beq_false_of_ne h7) (beq_false_of_ne h8) (beq_false_of_ne h12) (beq_false_of_ne h17) (beq_false_of_ne h13) (beq_false_of_ne h16) (beq_false_of_ne h14) (beq_false_of_ne h15)
end Go.Proofs.YtbbhikbdbndefaaGreat

namespace Go.Proofs.YtbbhikbdbndefaaGreat
open Go.RowKit
set_option maxRecDepth 8000

def PartsX (f : Nat) : Prop := ∀ (t : Ex) (B : Nat → Prop) (v : Value) (w : World), El w B t.l v →
  Calls Tryz.prog 40 #[xx t.k t.n t.s v, .int .i64 (11 - (f : Int))] w fun e w' => e = .returned (.int .i64 (partsX f t)) ∧ Below w.heap.size w w'

theorem partsX_zero : PartsX 0 := by
  intro t B v w h
  obtain ⟨ao, cap, rfl, hl1, hl2, hl3⟩ := h.len
  obtain ⟨k, hk⟩ : ∃ k, t.k = k := ⟨_, rfl⟩
  obtain ⟨n, hnn⟩ : ∃ n, t.n = n := ⟨_, rfl⟩
  obtain ⟨s, hsn⟩ : ∃ s, t.s = s := ⟨_, rfl⟩
  have HR : Hid (((partsX 0 t : Nat) : Int) = 101) := rfl
  rw [hk, hnn, hsn]
  clear h
  go_enter Tryz.func40, Tryz.ntmps40
  go_wp2
  go_ret
  exact ⟨ret_j HR.out.symm, (Below.refl _ _).alloc (Nat.le_refl _) _⟩

set_option maxHeartbeats 1000000 in
theorem partsX_succ (f : Nat) (hf : f ≤ 9) (ih : PartsX f) : PartsX (f + 1) := by
  intro t B v w h
  have HE : Hid (partsX (f + 1) t = t.l.foldl (partsXG (partsX f)) 1) := rfl
  obtain ⟨R, hR⟩ : ∃ R, partsX (f + 1) t = R := ⟨_, rfl⟩
  obtain ⟨k, hk⟩ : ∃ k, t.k = k := ⟨_, rfl⟩
  obtain ⟨n, hnn⟩ : ∃ n, t.n = n := ⟨_, rfl⟩
  obtain ⟨s, hsn⟩ : ∃ s, t.s = s := ⟨_, rfl⟩
  obtain ⟨l, hln⟩ : ∃ l, t.l = l := ⟨_, rfl⟩
  rw [hR, hln] at HE
  rw [hln] at h
  rw [hk, hnn, hsn, hR]
  clear hR hk hnn hsn hln
  obtain ⟨ao, cap, rfl, hl1, hl2, hl3⟩ := h.len
  have hm : cap ≤ 9223372036854775807 := by unfold maxLen at hl2; omega
  have HH := Hid.mk h
  have HI := Hid.mk ih
  clear ih h hl2
  obtain ⟨d, hd⟩ : ∃ d : Int, 11 - ((f + 1 : Nat) : Int) = d := ⟨_, rfl⟩
  rw [hd]
  have hd6 : ¬ 10 < d := by omega
  have hd7 : d + 1 = 11 - (f : Int) := by omega
  have B0 : Below w.heap.size w (w.alloc (.cells #[.int .i64 k, .int .i64 n, .string s, .slice ao l.length cap] 46)) := (Below.refl _ _).alloc (Nat.le_refl _) _
  have B01 : Below (w.heap.size + 1) (w.alloc (.cells #[.int .i64 k, .int .i64 n, .string s, .slice ao l.length cap] 46)) (w.alloc (.cells #[.int .i64 k, .int .i64 n, .string s, .slice ao l.length cap] 46)) := Below.refl _ _
  go_enter Tryz.func40, Tryz.ntmps40
  go_wp2
  go_loopw [5, 6] (fun q i wr => ∃ (k1 m : Nat), k1 ≤ l.length ∧ i = .int .i64 k1 ∧ q = .int .i64 m ∧ m ≤ 2000 ∧ Hid (m = (l.take k1).foldl (partsXG (partsX f)) 1) ∧ Below (w.heap.size + 1) (w.alloc (.cells #[.int .i64 k, .int .i64 n, .string s, .slice ao l.length cap] 46)) wr) (fun _ i _ => l.length - (intOf i).toNat)
  case atStart => exact ⟨0, 1, Nat.zero_le _, rfl, rfl, by omega, rfl, B01⟩
  case round =>
    obtain ⟨k1, m, hk, rfl, rfl, m1, Hm, hbel⟩ := hrel
    clear B01
    have hc1 := fun o => hbel.cell (p := ⟨w.heap.size, o, none⟩) (by simp)
    have hbw := B0.trans (hbel.mono (by omega))
    have hs1 := hbel.size
    simp at hs1
    by_cases hkl : k1 < l.length
    · have hi1 : (k1 : Int) < (l.length : Int) := by omega
      by_cases h60 : m ≤ 100
      · have h60' : (m : Int) ≤ 100 := by omega
        obtain ⟨b, off, V, rfl, hel⟩ := HH.out.elems (by intro hn; rw [hn] at hkl; simp at hkl)
        obtain ⟨h3, hsub, hss⟩ := hel k1 hkl
        have HT := Hid.mk (partsX_take (f := f) l k1 hkl)
        obtain ⟨t, ht⟩ : ∃ t, l[k1] = t := ⟨_, rfl⟩
        rw [ht] at h3 hsub hss HT
        clear ht hel
        obtain ⟨c0, cn, c1, c2⟩ := h3.kept (w' := wr) (hbw.block b (World.block_lt_of_cell? w _ h3.1))
        have HCall := Hid.mk (HI.out t B (V k1) wr (hsub.grow hbw))
        obtain ⟨bd0, bd1⟩ := partsX_bd f t
        obtain ⟨av, cv, hv, -, -, -⟩ := hsub.len
        rw [hv] at c2 HCall
        obtain ⟨tk, htk⟩ : ∃ tk, t.k = tk := ⟨_, rfl⟩
        obtain ⟨tn, htn⟩ : ∃ tn, t.n = tn := ⟨_, rfl⟩
        obtain ⟨ts, hts⟩ : ∃ ts, t.s = ts := ⟨_, rfl⟩
        rw [htk, htn, hts] at HCall
        rw [htk] at c0
        rw [htn] at cn
        rw [hts] at c1
        obtain ⟨q, hq⟩ : ∃ q, partsX f t = q := ⟨_, rfl⟩
        rw [hq] at bd0 bd1 HCall
        have HQ : Hid ((l.take (k1 + 1)).foldl (partsXG (partsX f)) 1 = m + q) := by
          show _ = _
          rw [HT.out, ← Hm.out, partsXG, if_pos h60, hq]
        clear hsub hss h3 hv HT Hm hq htk htn hts hbw
        go_wp2_with fail
        refine HCall.out.mono ?_
        rintro e w2 ⟨rfl, hb2⟩
        have B3 := hbel.trans (hb2.mono (by omega))
        clear hbel hb2 HCall hc1
        go_wp2
        go_roundw
        case rel => exact ⟨k1 + 1, m + q, by omega, by go_num, by go_num, by omega, HQ.out.symm, B3⟩
        case measure => simp [intOf]; omega
      · have h60' : ¬ (m : Int) ≤ 100 := by omega
        have HF : Hid ((R : Int) = m) := by
          show _ = _
          have e1 := Hm.out
          have := partsX_cut (f := f) l k1 (by omega)
          rw [HE.out, this, ← e1]
        clear Hm HE
        go_wp2
        go_ret
        exact ⟨ret_j HF.out.symm, hbw⟩
    · have e : k1 = l.length := by omega
      subst e
      have HF : Hid ((R : Int) = m) := by show _ = _; rw [HE.out, Hm.out, List.take_length]
      clear Hm HE
      go_wp2
      go_ret
      exact ⟨ret_j HF.out.symm, hbw⟩
end Go.Proofs.YtbbhikbdbndefaaGreat
