/- The model's reader: one behind the other, one or the other. The model's reader: one behind the other. ParseRex, the model's. Which terms are right, but for their parts: the model's l8Here. Parts of a term, counted: the model's. A term within a term. How much room a term leaves: the program's roomLeft over terms, its ExprOk. Which terms are right: the model's l8Ok and ExprOk. Which statements are right: the model's l9Count, l9Ok, l9Block, StmtOk. Statements, counted: the model's l9Count; its StmtOk. The text of a mark: an m, and a number's digits. Slices of texts: read, owned, the same, appended, copied, marked, held. Rules, functions and programs: what slices of them read. -/
import Derived.Test.YtgigalcajgjpnaaGreatPk1
import Derived.Test.YtgigalcajgjpnaaGreatQuietS
import Derived.Test.YtgigalcajgjpnaaGreatTake
import Derived.Test.YtgigalcajgjpnaaGreatExOkM
import Derived.Test.YtgigalcajgjpnaaGreatExTree
import Derived.Test.YtgigalcajgjpnaaGreatPlCan
import Derived.Test.YtgigalcajgjpnaaGreatStHereS
import Derived.Test.YtgigalcajgjpnaaGreatLeaf
import Derived.Test.YtgigalcajgjpnaaGreatStrOf
import Derived.Test.YtgigalcajgjpnaaGreatApp
import Derived.Laws.AppendOwnNone
import Derived.Test.YtgigalcajgjpnaaGreatStTree
import Derived.SliceStrings
namespace Go.Proofs.YtgigalcajgjpnaaGreat
open Go.RowKit
set_option maxRecDepth 8000

theorem atom_of (n : Nat) (d : Int) (hd : d ≤ 9) (hcg : SpC 142 (rdGroup (rd n)) d) : SpC 137 (rdAtom (rd n)) d := by
  intro s R p w h hp hs
  by_cases he : s.size ≤ p
  · exact atom_end n d hd s R p w h hp he
  have hlt : p < s.size := by omega
  obtain ⟨c, hc⟩ : ∃ c, ((s[p].toNat : Nat) : Int) = c := ⟨_, rfl⟩
  by_cases h3 : c = 46 ∨ c = 94 ∨ c = 36
  · exact atom_leafs n d s R p w h hlt hs c hc h3
  by_cases h40 : c = 40
  · exact atom_group n d hd s R p w h hlt hs c hc h40 hcg
  by_cases h91 : c = 91
  · exact atom_set n d hd s R p w h hlt hs (by rw [hc, h91])
  cases hrb : rb c with
  | true => exact atom_byte n d hd s R p w h hlt hs c hc (by omega) (by omega) (by omega) h40 h91 hrb
  | false => exact atom_bad n d hd s R p w h hlt hs c hc (by omega) (by omega) (by omega) h40 h91 hrb

theorem ow_first {w : World} {B : Nat → Prop} {x : Tr} {v : Value} (h : Ow w B [x] v) :
    ∃ g cap V, v = .slice (some ⟨g, 0, none⟩) 1 cap ∧ At3 w g 0 x.k x.s V ∧ Ow w B x.l V ∧ x.s.size ≤ maxLen := by
  cases h with
  | full _ l g cap xs V Bi hl hg hown hs hx hB hd hsub =>
    obtain ⟨x0, x1, x2⟩ := hx 0 (by simp)
    refine ⟨g, cap, V 0, rfl, ?_, (hsub 0 (by simp)).mono fun b hb => (hB 0 b hb).1, hs 0 (by simp)⟩
    exact ⟨by have := hown.cellAt 0 (by simp); rw [this]; simpa using x0, by have := hown.cellAt 1 (by simp); rw [this]; simpa using x1, by have := hown.cellAt 2 (by simp); rw [this]; simpa using x2⟩

theorem drop_len (s : ByteArray) (p : Nat) : s.size - p ≤ ((txt s).drop p).length := by rw [List.length_drop, txt_length]; exact Nat.le_refl _

theorem oneAll_many {k : Int} {l : List Tr} (h1 : l.length ≠ 1) (hl : l ≠ []) : oneAll k l = .node k ⟨#[]⟩ l := by
  match l, h1, hl with
  | [], _, hl => exact absurd rfl hl
  | [x], h1, _ => exact absurd rfl h1
  | x :: y :: r, _, _ => rfl

set_option maxHeartbeats 16000000 in
theorem choicesSp_of (n : Nat) (d : Int) (hd9 : d ≤ 9) (hc : SpC 128 (rdCat (rd n)) d) : SpC 126 (rdAlt (rd n)) d := by
  intro s R p w h hp hs
  obtain ⟨h0, hne, hb0, hg0⟩ := pre_boxS h
  have H0 := Hid.mk h0
  have HB0 := Hid.mk hb0
  have HG0 := Hid.mk hg0
  have hRl := h.lt
  have HC := Hid.mk hc
  clear h h0 hb0 hg0 hc
  go_enter Tryz.func126, Tryz.ntmps126
  go_wp2_with fail
  refine (HC.out s R p _ H0.out hp hs).mono ?_
  rintro e w1 ⟨hg1, t, u, p1, rfl, hsz, how, hp1, hp2, hcase⟩
  obtain ⟨au, cu, rfl⟩ := how.value
  have hbw : Below w1.heap.size w1 (w1.alloc (.cells #[.int .i64 t.k, .string t.s, .slice au t.l.length cu] 187)) := (Below.refl _ _).alloc (Nat.le_refl _) _
  have hs1 : w.heap.size + 1 ≤ w1.heap.size := by have := hg1.size; simpa using this
  have HB1 := Hid.mk ((HB0.out.gb hg1 hne).kept (hbw.block _ (HB0.out.gb hg1 hne).lt))
  have HG1 := Hid.mk (gb_below (gb_trans HG0.out hg1) hbw)
  have HO1 := Hid.mk (Ow.one (t := t) how hsz (C := newFrom (w.heap.size + 1)) (fun b hb _ => by unfold newFrom at *; simpa using hb) (by unfold newFrom; omega))
  obtain ⟨RR, hRR⟩ : ∃ RR, rdAlt (rd n) ((txt s).drop p) = RR := ⟨_, rfl⟩
  obtain ⟨bad, d1, HS1, hcs⟩ : ∃ (bad : Bool) (d1 : Int), Hid (Sds (w1.alloc (.cells #[.int .i64 t.k, .string t.s, .slice au t.l.length cu] 187)) R s p1 bad d1) ∧
      Hid ((bad = true ∧ d ≤ d1 ∧ d1 ≤ 9 ∧ RR = none) ∨ (bad = false ∧ d1 = d ∧ p < p1 ∧ ∃ m, s.size - p1 ≤ m ∧ RR = (rdAltL (rd n) m [t] ((txt s).drop p1)).map fun p => (oneAll 5 p.1, p.2))) := by
    rcases hcase with ⟨hr0, d', hsd, e1, e2⟩ | ⟨hrd, hpp, hsd⟩
    · exact ⟨true, d', hsd.grow hbw, Or.inl ⟨rfl, e1, e2, by rw [← hRR, rdAlt, hr0]⟩⟩
    · exact ⟨false, d, hsd.grow hbw, Or.inr ⟨rfl, rfl, hpp, _, drop_len s p1, by rw [← hRR, rdAlt, hrd]⟩⟩
  have HRR := Hid.mk hRR
  obtain ⟨tk, htk⟩ : ∃ tk, t.k = tk := ⟨_, rfl⟩
  obtain ⟨ts, hts⟩ : ∃ ts, t.s = ts := ⟨_, rfl⟩
  rw [htk, hts] at HB1 HG1 HO1 HS1
  rw [htk, hts]
  clear hg1 hsz how hbw H0 HB0 HG0 hRR htk hts hcase
  go_wp2
  go_loopg [3] (if bad = true then 0 else s.size - p1 + 1) (fun k v wr => ∃ (acc : List Tr) (pc : Nat) (bad : Bool) (d1 : Int), acc ≠ [] ∧ p ≤ pc ∧ pc ≤ s.size ∧ (if bad = true then 0 else s.size - pc + 1) = k ∧ acc.length + (s.size - pc) ≤ 1048577 ∧
      Hid ((bad = true ∧ d ≤ d1 ∧ d1 ≤ 9 ∧ RR = none) ∨ (bad = false ∧ d1 = d ∧ p < pc ∧ ∃ m, s.size - pc ≤ m ∧ RR = (rdAltL (rd n) m acc ((txt s).drop pc)).map fun p => (oneAll 5 p.1, p.2))) ∧
      Hid (w.grownBy wr (some R)) ∧ Hid (Sds wr R s pc bad d1) ∧ Hid (Bx3 wr w.heap.size (.int .i64 0) (.string ⟨#[]⟩) (.slice none 0 0)) ∧ Hid (Ow wr (newFrom (w.heap.size + 1)) acc v))
  case atStart => exact ⟨[t], p1, bad, d1, by simp, hp1, hp2, rfl, by simp; omega, hcs, HG1, HS1, HB1, HO1⟩
  case round =>
    clear HG1 HS1 HB1 HO1 hcs
    obtain ⟨acc, pc, bad, d1, hacc, hpc, hpc2, hgk, hlen, hcs, hg, hsd, hb, ho⟩ := hrel
    obtain ⟨v, rfl⟩ : ∃ v, v = u3 := ⟨_, rfl⟩
    cases hy : (!bad && nextIs s pc 124) with
    | false =>
      have HT := Hid.mk (l3Is_any s R pc bad d1 124 wr hsd.out hpc2 hs false hy)
      go_wp2_with fail
      refine HT.out.mono ?_
      rintro e w2 ⟨rfl, hg2, hr2, hz2⟩
      have HB2 := Hid.mk (hb.out.gb hg2 hne)
      have HG2 := Hid.mk (gb_trans hg.out hg2)
      have HS2 : Hid (Sds w2 R s pc bad d1) := hr2
      have HO2 := Hid.mk (ho.out.gb hg2 (by unfold newFrom; omega))
      clear HT hg2 hr2 hz2
      have HF : Hid ((bad = true ∧ d ≤ d1 ∧ d1 ≤ 9 ∧ RR = none) ∨ (bad = false ∧ d1 = d ∧ p < pc ∧ RR = some (oneAll 5 acc, (txt s).drop pc))) := by
        rcases hcs.out with h | ⟨hb, hd1, hpp, m, hm, he⟩
        · exact Or.inl h
        · exact Or.inr ⟨hb, hd1, hpp, by rw [he, rdAltL_stop (rd n) m acc s pc (by rw [hb] at hy; simpa using hy)]; rfl⟩
      clear hcs hg hsd hb ho HC
      by_cases hl1 : acc.length = 1
      · obtain ⟨x, rfl⟩ := List.length_eq_one_iff.1 hl1
        obtain ⟨g2, cap2, V2, rfl, hat, hoV, hsV⟩ := ow_first HO2.out
        obtain ⟨y0, y1, y2⟩ := hat
        simp only [Nat.zero_add] at y1 y2
        obtain ⟨a4, c4, rfl⟩ := hoV.value
        have HO4 := Hid.mk hoV
        have HSZ := Hid.mk hsV
        have HF2 : Hid ((bad = true ∧ d ≤ d1 ∧ d1 ≤ 9 ∧ RR = none) ∨ (bad = false ∧ d1 = d ∧ p < pc ∧ RR = some (x, (txt s).drop pc))) := HF.out
        have h1b : ((([x] : List Tr).length : Int) == 1) = true := by simp
        obtain ⟨xk, hxk⟩ : ∃ xk, x.k = xk := ⟨_, rfl⟩
        obtain ⟨xs, hxs⟩ : ∃ xs, x.s = xs := ⟨_, rfl⟩
        rw [hxk] at y0
        rw [hxs] at y1
        clear HO2 hoV hsV HF hl1
        have c0 := HB2.out.c0
        have c1 := HB2.out.c1
        have c2 := HB2.out.c2
        have f0 := HB2.out.fr
        go_wp2
        have hput := HB2.out.put (.int .i64 xk) (.string xs) (.slice a4 x.l.length c4)
        have hgp := gb_set3 HG2.out (Nat.le_refl _) (.int .i64 xk) (.string xs) (.slice a4 x.l.length c4)
        have hrp := HS2.out.set3 (Ne.symm hne) (.int .i64 xk) (.string xs) (.slice a4 x.l.length c4)
        have hop := HO4.out.set3 (b := w.heap.size) (by unfold newFrom; omega) (.int .i64 xk) (.string xs) (.slice a4 x.l.length c4)
        unfold set3 at hput hgp hrp hop
        generalize ((w2.setCell ⟨w.heap.size, 0, none⟩ (.int .i64 xk)).setCell ⟨w.heap.size, 1, none⟩ (.string xs)).setCell ⟨w.heap.size, 2, none⟩ (.slice a4 x.l.length c4) = W at hput hgp hrp hop ⊢
        have r0 := hput.c0
        have r1 := hput.c1
        have r2 := hput.c2
        refine bodyPost_ret (v := .agg #[.int .i64 xk, .string xs, .slice a4 x.l.length c4]) ?_ rfl ⟨hgp, x, _, pc, by rw [hxk, hxs], HSZ.out, hop.mono (fun b hb => by unfold newFrom at *; omega), by omega, by omega, ?_⟩
        · simp [results, Tryz.results126, go_sem, r0, r1, r2]
        · rcases HF2.out with ⟨hb, e1, e2, he⟩ | ⟨hb, hd1, hpp, he⟩
          · exact Or.inl ⟨HRR.out.trans he, d1, by rw [hb] at hrp; exact hrp, e1, e2⟩
          · exact Or.inr ⟨HRR.out.trans he, hpp, by rw [hb, hd1] at hrp; exact hrp⟩
      · have HF2 : Hid ((bad = true ∧ d ≤ d1 ∧ d1 ≤ 9 ∧ RR = none) ∨ (bad = false ∧ d1 = d ∧ p < pc ∧ RR = some (.node 5 ⟨#[]⟩ acc, (txt s).drop pc))) := by
          have := HF.out
          rw [oneAll_many hl1 hacc] at this
          exact this
        obtain ⟨a4, c4, rfl⟩ := HO2.out.value
        have h1b : ((acc.length : Int) == 1) = false := beq_eq_false_iff_ne.2 (by omega)
        clear HF hl1
        have c0 := HB2.out.c0
        have c1 := HB2.out.c1
        have c2 := HB2.out.c2
        have f0 := HB2.out.fr
        go_wp2
        have hput := HB2.out.put (.int .i64 5) (.string ⟨#[]⟩) (.slice a4 acc.length c4)
        have hgp := gb_set3 HG2.out (Nat.le_refl _) (.int .i64 5) (.string ⟨#[]⟩) (.slice a4 acc.length c4)
        have hrp := HS2.out.set3 (Ne.symm hne) (.int .i64 5) (.string ⟨#[]⟩) (.slice a4 acc.length c4)
        have hop := HO2.out.set3 (b := w.heap.size) (by unfold newFrom; omega) (.int .i64 5) (.string ⟨#[]⟩) (.slice a4 acc.length c4)
        unfold set3 at hput hgp hrp hop
        generalize ((w2.setCell ⟨w.heap.size, 0, none⟩ (.int .i64 5)).setCell ⟨w.heap.size, 1, none⟩ (.string ⟨#[]⟩)).setCell ⟨w.heap.size, 2, none⟩ (.slice a4 acc.length c4) = W at hput hgp hrp hop ⊢
        have r0 := hput.c0
        have r1 := hput.c1
        have r2 := hput.c2
        refine bodyPost_ret (v := .agg #[.int .i64 5, .string ⟨#[]⟩, .slice a4 acc.length c4]) ?_ rfl ⟨hgp, .node 5 ⟨#[]⟩ acc, _, pc, rfl, (by show (⟨#[]⟩ : ByteArray).size ≤ maxLen; decide), hop.mono (fun b hb => by unfold newFrom at *; omega), by omega, by omega, ?_⟩
        · simp [results, Tryz.results126, go_sem, r0, r1, r2]
        · rcases HF2.out with ⟨hb, e1, e2, he⟩ | ⟨hb, hd1, hpp, he⟩
          · exact Or.inl ⟨HRR.out.trans he, d1, by rw [hb] at hrp; exact hrp, e1, e2⟩
          · exact Or.inr ⟨HRR.out.trans he, hpp, by rw [hb, hd1] at hrp; exact hrp⟩
    | true =>
      have hbf : bad = false := by cases bad <;> simp_all
      subst hbf
      have hy' : nextIs s pc 124 = true := by simpa using hy
      have hlt1 := nextIs_lt hy'
      have HT := Hid.mk (l3Is_any s R pc false d1 124 wr hsd.out hpc2 hs true hy)
      obtain ⟨pq, hpqe⟩ : ∃ pq, pq = pc + 1 := ⟨_, rfl⟩
      have hpq : pq ≤ s.size := by omega
      have hsw : w.heap.size + 1 ≤ wr.heap.size := by have := hb.out.lt; omega
      go_wp2_with fail
      refine HT.out.mono ?_
      rintro e w2 ⟨rfl, hg2, hr2, hz2⟩
      have HB2 := Hid.mk (hb.out.gb hg2 hne)
      have HG2 := Hid.mk (gb_trans hg.out hg2)
      have HS2 : Hid (Sds w2 R s pq false d1) := by rw [hpqe]; exact hr2
      have HO2 := Hid.mk (ho.out.gb hg2 (by unfold newFrom; omega))
      have hs2 : w.heap.size + 1 ≤ w2.heap.size := by omega
      clear HT hg2 hr2 hz2
      rcases hcs.out with ⟨hbt, _⟩ | ⟨_, hd1, hpp, m, hm, he⟩
      · cases hbt
      subst hd1
      obtain ⟨m', rfl⟩ : ∃ m', m = m' + 1 := ⟨m - 1, by omega⟩
      have HST0 : Hid (rdCat (rd n) ((txt s).drop pq) = none → RR = none) := by intro hh; rw [he, rdAltL, if_pos (head_is.1 hy'), tail_is, ← hpqe, hh]; rfl
      have HST1 : Hid (∀ t2 q2, rdCat (rd n) ((txt s).drop pq) = some (t2, q2) → RR = (rdAltL (rd n) m' (acc ++ [t2]) q2).map fun p => (oneAll 5 p.1, p.2)) := by intro t2 q2 hh; rw [he, rdAltL, if_pos (head_is.1 hy'), tail_is, ← hpqe, hh]
      go_wp2_with fail
      refine (HC.out s R pq _ HS2.out hpq hs).mono ?_
      rintro e w4 ⟨hg4, t2, u2, p2, rfl, hsz4, how4, hp3, hp4, hcase4⟩
      obtain ⟨a2, k2, rfl⟩ := how4.value
      have hs4 : w.heap.size + 1 ≤ w4.heap.size := by have := hg4.size; omega
      have hbw : Below w4.heap.size w4 (w4.alloc (.cells #[.int .i64 t2.k, .string t2.s, .slice a2 t2.l.length k2] 187)) := (Below.refl _ _).alloc (Nat.le_refl _) _
      have HB4 := Hid.mk ((HB2.out.gb hg4 hne).kept (hbw.block _ (HB2.out.gb hg4 hne).lt))
      have HG4 := Hid.mk (gb_below (gb_trans HG2.out hg4) hbw)
      have HOA := Hid.mk ((HO2.out.there.gb hg4 (fun hh => by have := hh.1; unfold newFrom at this; omega)).grow hbw)
      have HX4 := Hid.mk (Bx3.new w4 (.int .i64 t2.k) (.string t2.s) (.slice a2 t2.l.length k2))
      have HO4 := Hid.mk (how4.grow hbw)
      have HSZ4 := Hid.mk hsz4
      have Hlen : Hid (acc.length ≤ 1048576) := by show _ ≤ _; omega
      obtain ⟨bad2, d2, HS4, hcs2⟩ : ∃ (bad2 : Bool) (d2 : Int), Hid (Sds (w4.alloc (.cells #[.int .i64 t2.k, .string t2.s, .slice a2 t2.l.length k2] 187)) R s p2 bad2 d2) ∧
          Hid ((bad2 = true ∧ d1 ≤ d2 ∧ d2 ≤ 9 ∧ RR = none) ∨ (bad2 = false ∧ d2 = d1 ∧ pq < p2 ∧ RR = (rdAltL (rd n) m' (acc ++ [t2]) ((txt s).drop p2)).map fun p => (oneAll 5 p.1, p.2))) := by
        rcases hcase4 with ⟨hr0, d', hsd4, e1, e2⟩ | ⟨hrd, hpp4, hsd4⟩
        · exact ⟨true, d', hsd4.grow hbw, Or.inl ⟨rfl, e1, e2, HST0.out hr0⟩⟩
        · exact ⟨false, d1, hsd4.grow hbw, Or.inr ⟨rfl, rfl, hpp4, HST1.out _ _ hrd⟩⟩
      obtain ⟨tk2, htk2⟩ : ∃ tk, t2.k = tk := ⟨_, rfl⟩
      obtain ⟨ts2, hts2⟩ : ∃ ts, t2.s = ts := ⟨_, rfl⟩
      have HX5 : Hid (Bx3 (w4.alloc (.cells #[.int .i64 tk2, .string ts2, .slice a2 t2.l.length k2] 187)) w4.heap.size (.int .i64 t2.k) (.string t2.s) (.slice a2 t2.l.length k2)) := by
        rw [← htk2, ← hts2]; exact HX4.out
      rw [htk2, hts2] at HB4 HG4 HOA HO4 HS4
      rw [htk2, hts2]
      have Hsz2 : Hid (w2.heap.size ≤ w4.heap.size) := hg4.size
      have Hw2 : Hid (w.heap.size + 1 ≤ w2.heap.size) := hs2
      clear hg4 hsz4 how4 hbw hcs hg hsd hb ho HST0 HST1 HB2 HG2 HS2 HO2 HX4 htk2 hts2 hcase4 he
      go_wp2_with (at_builtin; refine wpList_append_ow rfl _ _ rfl (fun b => newFrom (w.heap.size + 1) b ∧ b < w2.heap.size) (newFrom w2.heap.size) (newFrom (w.heap.size + 1)) _ (.slice a2 t2.l.length k2) acc t2 w4.heap.size hacc rfl HOA.out rfl HX5.out HO4.out HSZ4.out (fun b hb hb2 => by unfold newFrom at *; omega) (fun b hb => hb.1) (fun b hb => by have := Hw2.out; unfold newFrom at *; omega) (by have := Hsz2.out; have := Hw2.out; unfold newFrom; simp; omega) Hlen.out ?_)
      intro v6 w6 g6 ho6 hB6 hB6b hgr6
      have HO6 := Hid.mk ho6
      have hg6 := hB6
      unfold newFrom at hg6
      have HB6 := Hid.mk (HB4.out.kept (hgr6.block _ HB4.out.lt (by simp; omega)))
      have HG6 : Hid (w.grownBy w6 (some R)) := ⟨hgr6.os.trans HG4.out.os, hgr6.tape.trans HG4.out.tape, hgr6.output.trans HG4.out.output, Nat.le_trans HG4.out.size hgr6.size, fun k hk hne => (hgr6.block k (Nat.lt_of_lt_of_le hk HG4.out.size) (by simp; omega)).trans (HG4.out.block k hk hne)⟩
      have HS6 := Hid.mk (HS4.out.kept (hgr6.block R HS4.out.lt (by simp; omega)))
      have hcs3 : Hid ((bad2 = true ∧ d1 ≤ d2 ∧ d2 ≤ 9 ∧ RR = none) ∨ (bad2 = false ∧ d2 = d1 ∧ p < p2 ∧ ∃ m, s.size - p2 ≤ m ∧ RR = (rdAltL (rd n) m (acc ++ [t2]) ((txt s).drop p2)).map fun p => (oneAll 5 p.1, p.2))) := by
        rcases hcs2.out with h | ⟨e1, e2, e3, e4⟩
        · exact Or.inl h
        · exact Or.inr ⟨e1, e2, by omega, m', by omega, e4⟩
      have hms : (if bad2 = true then 0 else s.size - p2 + 1) < s.size - pc + 1 := by
        rcases hcs2.out with ⟨e1, _⟩ | ⟨e1, _, e3, _⟩
        · rw [if_pos e1]; omega
        · rw [if_neg (by rw [e1]; simp)]; omega
      clear ho6 hB6 hB6b hgr6 HB4 HG4 HS4 HOA HO4 HSZ4 HX5 hg6 Hlen Hsz2 Hw2 hcs2
      go_wp2
      go_roundg (if bad2 = true then 0 else s.size - p2 + 1)
      case measure => rw [← hgk]; simpa using hms
      case rel => exact ⟨acc ++ [t2], p2, bad2, d2, by simp, by omega, by omega, rfl, by simp; omega, hcs3, HG6, HS6, HB6, HO6⟩
end Go.Proofs.YtgigalcajgjpnaaGreat

namespace Go.Proofs.YtgigalcajgjpnaaGreat
open Go.RowKit
set_option maxRecDepth 8000

set_option maxHeartbeats 16000000 in
theorem cat_of (n : Nat) (d : Int) (hd9 : d ≤ 9) (hc : SpC 132 (rdItem (rd n)) d) : SpC 128 (rdCat (rd n)) d := by
  intro s R p w h hp hs
  obtain ⟨h0, hne, hb0, hg0⟩ := pre_boxS h
  have H0 := Hid.mk h0
  have HB0 := Hid.mk hb0
  have HG0 := Hid.mk hg0
  have hRl := h.lt
  have HC := Hid.mk hc
  clear h h0 hb0 hg0 hc
  go_enter Tryz.func128, Tryz.ntmps128
  go_wp2_with fail
  refine (HC.out s R p _ H0.out hp hs).mono ?_
  rintro e w1 ⟨hg1, t, u, p1, rfl, hsz, how, hp1, hp2, hcase⟩
  obtain ⟨au, cu, rfl⟩ := how.value
  have hbw : Below w1.heap.size w1 (w1.alloc (.cells #[.int .i64 t.k, .string t.s, .slice au t.l.length cu] 187)) := (Below.refl _ _).alloc (Nat.le_refl _) _
  have hs1 : w.heap.size + 1 ≤ w1.heap.size := by have := hg1.size; simpa using this
  have HB1 := Hid.mk ((HB0.out.gb hg1 hne).kept (hbw.block _ (HB0.out.gb hg1 hne).lt))
  have HG1 := Hid.mk (gb_below (gb_trans HG0.out hg1) hbw)
  have HO1 := Hid.mk (Ow.one (t := t) how hsz (C := newFrom (w.heap.size + 1)) (fun b hb _ => by unfold newFrom at *; simpa using hb) (by unfold newFrom; omega))
  obtain ⟨RR, hRR⟩ : ∃ RR, rdCat (rd n) ((txt s).drop p) = RR := ⟨_, rfl⟩
  obtain ⟨bad, d1, HS1, hcs⟩ : ∃ (bad : Bool) (d1 : Int), Hid (Sds (w1.alloc (.cells #[.int .i64 t.k, .string t.s, .slice au t.l.length cu] 187)) R s p1 bad d1) ∧
      Hid ((bad = true ∧ d ≤ d1 ∧ d1 ≤ 9 ∧ RR = none) ∨ (bad = false ∧ d1 = d ∧ p < p1 ∧ ∃ m, s.size - p1 ≤ m ∧ RR = (rdCatL (rd n) m [t] ((txt s).drop p1)).map fun p => (oneAll 4 p.1, p.2))) := by
    rcases hcase with ⟨hr0, d', hsd, e1, e2⟩ | ⟨hrd, hpp, hsd⟩
    · exact ⟨true, d', hsd.grow hbw, Or.inl ⟨rfl, e1, e2, by rw [← hRR, rdCat, hr0]⟩⟩
    · exact ⟨false, d, hsd.grow hbw, Or.inr ⟨rfl, rfl, hpp, _, drop_len s p1, by rw [← hRR, rdCat, hrd]⟩⟩
  have HRR := Hid.mk hRR
  obtain ⟨tk, htk⟩ : ∃ tk, t.k = tk := ⟨_, rfl⟩
  obtain ⟨ts, hts⟩ : ∃ ts, t.s = ts := ⟨_, rfl⟩
  rw [htk, hts] at HB1 HG1 HO1 HS1
  rw [htk, hts]
  clear hg1 hsz how hbw H0 HB0 HG0 hRR htk hts hcase
  go_wp2
  go_loopg [3] (if bad = true then 0 else s.size - p1 + 1) (fun k v wr => ∃ (acc : List Tr) (pc : Nat) (bad : Bool) (d1 : Int), acc ≠ [] ∧ p ≤ pc ∧ pc ≤ s.size ∧ (if bad = true then 0 else s.size - pc + 1) = k ∧ acc.length + (s.size - pc) ≤ 1048577 + (if bad = true then 1 else 0) ∧
      Hid ((bad = true ∧ d ≤ d1 ∧ d1 ≤ 9 ∧ RR = none) ∨ (bad = false ∧ d1 = d ∧ p < pc ∧ ∃ m, s.size - pc ≤ m ∧ RR = (rdCatL (rd n) m acc ((txt s).drop pc)).map fun p => (oneAll 4 p.1, p.2))) ∧
      Hid (w.grownBy wr (some R)) ∧ Hid (Sds wr R s pc bad d1) ∧ Hid (Bx3 wr w.heap.size (.int .i64 0) (.string ⟨#[]⟩) (.slice none 0 0)) ∧ Hid (Ow wr (newFrom (w.heap.size + 1)) acc v))
  case atStart => exact ⟨[t], p1, bad, d1, by simp, hp1, hp2, rfl, by rw [List.length_singleton]; omega, hcs, HG1, HS1, HB1, HO1⟩
  case round =>
    clear HG1 HS1 HB1 HO1 hcs
    obtain ⟨acc, pc, bad, d1, hacc, hpc, hpc2, hgk, hlen, hcs, hg, hsd, hb, ho⟩ := hrel
    obtain ⟨v, rfl⟩ : ∃ v, v = u3 := ⟨_, rfl⟩
    have hyy : bad = false → (!bad && goesOn ((txt s).drop pc)) = goesOn ((txt s).drop pc) := fun h => by rw [h]; simp
    cases hy : (!bad && goesOn ((txt s).drop pc)) with
    | false =>
      have HF : Hid ((bad = true ∧ d ≤ d1 ∧ d1 ≤ 9 ∧ RR = none) ∨ (bad = false ∧ d1 = d ∧ p < pc ∧ RR = some (oneAll 4 acc, (txt s).drop pc))) := by
        rcases hcs.out with h | ⟨hb, hd1, hpp, m, hm, he⟩
        · exact Or.inl h
        · exact Or.inr ⟨hb, hd1, hpp, by rw [he, rdCatL_stop (rd n) m acc s pc (by rw [← hyy hb]; exact hy)]; rfl⟩
      clear hcs HC
      by_cases hbt : bad = true
      · clear hy hyy
        have c0 := hsd.out.c0
        have c1 := hsd.out.c1
        have c2 := hsd.out.c2
        go_wp2_with fail
        refine wp_region_quiet_lit (by kernel_rfl) (by kernel_rfl) (Qt.out ?_)
        refine Qt.step (fun K hK => ?_)
        go_simp
        refine hK _ ?_
        clear hK K
        refine Qt.step (fun K hK => ?_)
        go_simp
        refine hK _ ?_
        clear hK K
        refine Qt.step (fun K hK => ?_)
        go_simp
        refine hK _ ?_
        clear hK K
        refine Qt.step (fun K hK => ?_)
        go_simp
        refine hK _ ?_
        clear hK K
        refine Qt.step (fun K hK => ?_)
        go_simp
        refine hK _ ?_
        clear hK K
        refine Qt.step (fun K hK => ?_)
        go_simp
        refine hK _ ?_
        clear hK K
        refine Qt.step (fun K hK => ?_)
        go_simp
        refine hK _ ?_
        clear hK K
        refine Qt.step (fun K hK => ?_)
        go_simp
        refine hK _ ?_
        clear hK K
        refine Qt.step (fun K hK => ?_)
        go_simp
        refine hK _ ?_
        clear hK K
        refine Qt.step (fun K hK => ?_)
        go_simp
        refine hK _ ?_
        clear hK K
        refine Qt.step (fun K hK => ?_)
        go_simp
        refine hK _ ?_
        clear hK K
        refine Qt.step (fun K hK => ?_)
        go_simp
        refine hK _ ?_
        clear hK K
        refine Qt.step (fun K hK => ?_)
        go_simp
        refine hK _ ?_
        clear hK K
        refine Qt.step (fun K hK => ?_)
        go_simp
        refine hK _ ?_
        clear hK K
        refine Qt.step (fun K hK => ?_)
        go_simp
        refine hK _ ?_
        clear hK K
        refine Qt.step (fun K hK => ?_)
        go_simp
        refine hK _ ?_
        clear hK K
        refine Qt.step (fun K hK => ?_)
        go_simp
        refine hK _ ?_
        clear hK K
        refine Qt.step (fun K hK => ?_)
        go_simp
        refine hK _ ?_
        clear hK K
        refine Qt.step (fun K hK => ?_)
        go_simp
        refine hK _ ?_
        clear hK K
        refine Qt.step (fun K hK => ?_)
        go_simp
        refine hK _ ?_
        clear hK K
        refine Qt.step (fun K hK => ?_)
        go_simp
        refine hK _ ?_
        clear hK K
        refine Qt.step (fun K hK => ?_)
        go_simp
        refine hK _ ?_
        clear hK K
        refine Qt.step (fun K hK => ?_)
        go_simp
        refine hK _ ?_
        clear hK K
        refine Qt.step (fun K hK => ?_)
        go_simp
        refine hK _ ?_
        clear hK K
        refine Qt.step (fun K hK => ?_)
        go_simp
        refine hK _ ?_
        clear hK K
        refine Qt.step (fun K hK => ?_)
        go_simp
        refine hK _ ?_
        clear hK K
        refine Qt.step (fun K hK => ?_)
        go_simp
        refine hK _ ?_
        clear hK K
        refine Qt.step (fun K hK => ?_)
        go_simp
        refine hK _ ?_
        clear hK K
        refine Qt.step (fun K hK => ?_)
        go_simp
        refine hK _ ?_
        clear hK K
        refine Qt.step (fun K hK => ?_)
        go_simp
        refine hK _ ?_
        clear hK K
        refine Qt.step (fun K hK => ?_)
        go_simp
        refine hK _ ?_
        clear hK K
        refine Qt.step (fun K hK => ?_)
        go_simp
        refine hK _ ?_
        clear hK K
        refine Qt.step (fun K hK => ?_)
        go_simp
        refine hK _ ?_
        clear hK K
        refine Qt.step (fun K hK => ?_)
        go_simp
        refine hK _ ?_
        clear hK K
        refine Qt.step (fun K hK => ?_)
        go_simp
        refine hK _ ?_
        clear hK K
        refine Qt.step (fun K hK => ?_)
        go_simp
        refine hK _ ?_
        clear hK K
        refine Qt.step (fun K hK => ?_)
        go_simp
        refine hK _ ?_
        clear hK K
        refine Qt.step (fun K hK => ?_)
        go_simp
        refine hK _ ?_
        clear hK K
        refine Qt.step (fun K hK => ?_)
        go_simp
        refine hK _ ?_
        clear hK K
        refine Qt.step (fun K hK => ?_)
        go_simp
        refine hK _ ?_
        clear hK K
        refine Qt.step (fun K hK => ?_)
        go_simp
        refine hK _ ?_
        clear hK K
        refine Qt.nil ?_
        intro _ hw'
        obtain ⟨nq1, hw''⟩ := hw'
        subst hw''
        have HS1 := hsd.out.drew nq1
        have HB1 := hb.out.gb (gb_drew _ R nq1) hne
        have HG1 := gb_trans hg.out (gb_drew _ R nq1)
        have HO1 := ho.out.gb (gb_drew wr R nq1) (by unfold newFrom; omega)
        have hz1 : (wr.drewN nq1).heap.size = wr.heap.size := rfl
        generalize (wr.drewN nq1) = w2 at HS1 HB1 HG1 HO1 hz1 ⊢
        have HS2 := Hid.mk HS1
        have HB2 := Hid.mk HB1
        have HG2 := Hid.mk HG1
        have HO2 := Hid.mk HO1
        clear HS1 HB1 HG1 HO1 c0 c1 c2
        clear hg hsd hb ho
        by_cases hl1 : acc.length = 1
        · obtain ⟨x, rfl⟩ := List.length_eq_one_iff.1 hl1
          obtain ⟨g2, cap2, V2, rfl, hat, hoV, hsV⟩ := ow_first HO2.out
          obtain ⟨y0, y1, y2⟩ := hat
          simp only [Nat.zero_add] at y1 y2
          obtain ⟨a4, c4, rfl⟩ := hoV.value
          have HO4 := Hid.mk hoV
          have HSZ := Hid.mk hsV
          have HF2 : Hid ((bad = true ∧ d ≤ d1 ∧ d1 ≤ 9 ∧ RR = none) ∨ (bad = false ∧ d1 = d ∧ p < pc ∧ RR = some (x, (txt s).drop pc))) := HF.out
          have h1b : ((([x] : List Tr).length : Int) == 1) = true := by simp
          obtain ⟨xk, hxk⟩ : ∃ xk, x.k = xk := ⟨_, rfl⟩
          obtain ⟨xs, hxs⟩ : ∃ xs, x.s = xs := ⟨_, rfl⟩
          rw [hxk] at y0
          rw [hxs] at y1
          clear HO2 hoV hsV HF hl1
          have c0 := HB2.out.c0
          have c1 := HB2.out.c1
          have c2 := HB2.out.c2
          have f0 := HB2.out.fr
          go_wp2
          have hput := HB2.out.put (.int .i64 xk) (.string xs) (.slice a4 x.l.length c4)
          have hgp := gb_set3 HG2.out (Nat.le_refl _) (.int .i64 xk) (.string xs) (.slice a4 x.l.length c4)
          have hrp := HS2.out.set3 (Ne.symm hne) (.int .i64 xk) (.string xs) (.slice a4 x.l.length c4)
          have hop := HO4.out.set3 (b := w.heap.size) (by unfold newFrom; omega) (.int .i64 xk) (.string xs) (.slice a4 x.l.length c4)
          unfold set3 at hput hgp hrp hop
          generalize ((w2.setCell ⟨w.heap.size, 0, none⟩ (.int .i64 xk)).setCell ⟨w.heap.size, 1, none⟩ (.string xs)).setCell ⟨w.heap.size, 2, none⟩ (.slice a4 x.l.length c4) = W at hput hgp hrp hop ⊢
          have r0 := hput.c0
          have r1 := hput.c1
          have r2 := hput.c2
          refine bodyPost_ret (v := .agg #[.int .i64 xk, .string xs, .slice a4 x.l.length c4]) ?_ rfl ⟨hgp, x, _, pc, by rw [hxk, hxs], HSZ.out, hop.mono (fun b hb => by unfold newFrom at *; omega), by omega, by omega, ?_⟩
          · simp [results, Tryz.results128, go_sem, r0, r1, r2]
          · rcases HF2.out with ⟨hb, e1, e2, he⟩ | ⟨hb, hd1, hpp, he⟩
            · exact Or.inl ⟨HRR.out.trans he, d1, by rw [hb] at hrp; exact hrp, e1, e2⟩
            · exact Or.inr ⟨HRR.out.trans he, hpp, by rw [hb, hd1] at hrp; exact hrp⟩
        · have HF2 : Hid ((bad = true ∧ d ≤ d1 ∧ d1 ≤ 9 ∧ RR = none) ∨ (bad = false ∧ d1 = d ∧ p < pc ∧ RR = some (.node 4 ⟨#[]⟩ acc, (txt s).drop pc))) := by
            have := HF.out
            rw [oneAll_many hl1 hacc] at this
            exact this
          obtain ⟨a4, c4, rfl⟩ := HO2.out.value
          have h1b : ((acc.length : Int) == 1) = false := beq_eq_false_iff_ne.2 (by omega)
          clear HF hl1
          have c0 := HB2.out.c0
          have c1 := HB2.out.c1
          have c2 := HB2.out.c2
          have f0 := HB2.out.fr
          go_wp2
          have hput := HB2.out.put (.int .i64 4) (.string ⟨#[]⟩) (.slice a4 acc.length c4)
          have hgp := gb_set3 HG2.out (Nat.le_refl _) (.int .i64 4) (.string ⟨#[]⟩) (.slice a4 acc.length c4)
          have hrp := HS2.out.set3 (Ne.symm hne) (.int .i64 4) (.string ⟨#[]⟩) (.slice a4 acc.length c4)
          have hop := HO2.out.set3 (b := w.heap.size) (by unfold newFrom; omega) (.int .i64 4) (.string ⟨#[]⟩) (.slice a4 acc.length c4)
          unfold set3 at hput hgp hrp hop
          generalize ((w2.setCell ⟨w.heap.size, 0, none⟩ (.int .i64 4)).setCell ⟨w.heap.size, 1, none⟩ (.string ⟨#[]⟩)).setCell ⟨w.heap.size, 2, none⟩ (.slice a4 acc.length c4) = W at hput hgp hrp hop ⊢
          have r0 := hput.c0
          have r1 := hput.c1
          have r2 := hput.c2
          refine bodyPost_ret (v := .agg #[.int .i64 4, .string ⟨#[]⟩, .slice a4 acc.length c4]) ?_ rfl ⟨hgp, .node 4 ⟨#[]⟩ acc, _, pc, rfl, (by show (⟨#[]⟩ : ByteArray).size ≤ maxLen; decide), hop.mono (fun b hb => by unfold newFrom at *; omega), by omega, by omega, ?_⟩
          · simp [results, Tryz.results128, go_sem, r0, r1, r2]
          · rcases HF2.out with ⟨hb, e1, e2, he⟩ | ⟨hb, hd1, hpp, he⟩
            · exact Or.inl ⟨HRR.out.trans he, d1, by rw [hb] at hrp; exact hrp, e1, e2⟩
            · exact Or.inr ⟨HRR.out.trans he, hpp, by rw [hb, hd1] at hrp; exact hrp⟩
      have hbf : bad = false := by simpa using hbt
      have hgo : goesOn ((txt s).drop pc) = false := by rw [← hyy hbf]; exact hy
      clear hbt hyy hy
      by_cases hend : pc = s.size
      · have hge : ¬ pc < s.size := by omega
        clear hend hgo
        have c0 := hsd.out.c0
        have c1 := hsd.out.c1
        have c2 := hsd.out.c2
        go_wp2_with fail
        refine wp_region_quiet_lit (by kernel_rfl) (by kernel_rfl) (Qt.out ?_)
        refine Qt.step (fun K hK => ?_)
        go_simp
        refine hK _ ?_
        clear hK K
        refine Qt.step (fun K hK => ?_)
        go_simp
        refine hK _ ?_
        clear hK K
        refine Qt.step (fun K hK => ?_)
        go_simp
        refine hK _ ?_
        clear hK K
        refine Qt.step (fun K hK => ?_)
        go_simp
        refine hK _ ?_
        clear hK K
        refine Qt.step (fun K hK => ?_)
        go_simp
        refine hK _ ?_
        clear hK K
        refine Qt.step (fun K hK => ?_)
        go_simp
        refine hK _ ?_
        clear hK K
        refine Qt.step (fun K hK => ?_)
        go_simp
        refine hK _ ?_
        clear hK K
        refine Qt.step (fun K hK => ?_)
        go_simp
        refine hK _ ?_
        clear hK K
        refine Qt.step (fun K hK => ?_)
        go_simp
        refine hK _ ?_
        clear hK K
        refine Qt.step (fun K hK => ?_)
        go_simp
        refine hK _ ?_
        clear hK K
        refine Qt.step (fun K hK => ?_)
        go_simp
        refine hK _ ?_
        clear hK K
        refine Qt.step (fun K hK => ?_)
        go_simp
        refine hK _ ?_
        clear hK K
        refine Qt.step (fun K hK => ?_)
        go_simp
        refine hK _ ?_
        clear hK K
        refine Qt.step (fun K hK => ?_)
        go_simp
        refine hK _ ?_
        clear hK K
        refine Qt.step (fun K hK => ?_)
        go_simp
        refine hK _ ?_
        clear hK K
        refine Qt.step (fun K hK => ?_)
        go_simp
        refine hK _ ?_
        clear hK K
        refine Qt.step (fun K hK => ?_)
        go_simp
        refine hK _ ?_
        clear hK K
        refine Qt.step (fun K hK => ?_)
        go_simp
        refine hK _ ?_
        clear hK K
        refine Qt.step (fun K hK => ?_)
        go_simp
        refine hK _ ?_
        clear hK K
        refine Qt.step (fun K hK => ?_)
        go_simp
        refine hK _ ?_
        clear hK K
        refine Qt.step (fun K hK => ?_)
        go_simp
        refine hK _ ?_
        clear hK K
        refine Qt.step (fun K hK => ?_)
        go_simp
        refine hK _ ?_
        clear hK K
        refine Qt.step (fun K hK => ?_)
        go_simp
        refine hK _ ?_
        clear hK K
        refine Qt.step (fun K hK => ?_)
        go_simp
        refine hK _ ?_
        clear hK K
        refine Qt.step (fun K hK => ?_)
        go_simp
        refine hK _ ?_
        clear hK K
        refine Qt.step (fun K hK => ?_)
        go_simp
        refine hK _ ?_
        clear hK K
        refine Qt.step (fun K hK => ?_)
        go_simp
        refine hK _ ?_
        clear hK K
        refine Qt.step (fun K hK => ?_)
        go_simp
        refine hK _ ?_
        clear hK K
        refine Qt.step (fun K hK => ?_)
        go_simp
        refine hK _ ?_
        clear hK K
        refine Qt.step (fun K hK => ?_)
        go_simp
        refine hK _ ?_
        clear hK K
        refine Qt.step (fun K hK => ?_)
        go_simp
        refine hK _ ?_
        clear hK K
        refine Qt.step (fun K hK => ?_)
        go_simp
        refine hK _ ?_
        clear hK K
        refine Qt.step (fun K hK => ?_)
        go_simp
        refine hK _ ?_
        clear hK K
        refine Qt.step (fun K hK => ?_)
        go_simp
        refine hK _ ?_
        clear hK K
        refine Qt.step (fun K hK => ?_)
        go_simp
        refine hK _ ?_
        clear hK K
        refine Qt.step (fun K hK => ?_)
        go_simp
        refine hK _ ?_
        clear hK K
        refine Qt.step (fun K hK => ?_)
        go_simp
        refine hK _ ?_
        clear hK K
        refine Qt.step (fun K hK => ?_)
        go_simp
        refine hK _ ?_
        clear hK K
        refine Qt.step (fun K hK => ?_)
        go_simp
        refine hK _ ?_
        clear hK K
        refine Qt.step (fun K hK => ?_)
        go_simp
        refine hK _ ?_
        clear hK K
        refine Qt.step (fun K hK => ?_)
        go_simp
        refine hK _ ?_
        clear hK K
        refine Qt.nil ?_
        intro _ hw'
        obtain ⟨nq1, hw''⟩ := hw'
        subst hw''
        have HS1 := hsd.out.drew nq1
        have HB1 := hb.out.gb (gb_drew _ R nq1) hne
        have HG1 := gb_trans hg.out (gb_drew _ R nq1)
        have HO1 := ho.out.gb (gb_drew wr R nq1) (by unfold newFrom; omega)
        have hz1 : (wr.drewN nq1).heap.size = wr.heap.size := rfl
        generalize (wr.drewN nq1) = w2 at HS1 HB1 HG1 HO1 hz1 ⊢
        have HS2 := Hid.mk HS1
        have HB2 := Hid.mk HB1
        have HG2 := Hid.mk HG1
        have HO2 := Hid.mk HO1
        clear HS1 HB1 HG1 HO1 c0 c1 c2
        clear hg hsd hb ho
        by_cases hl1 : acc.length = 1
        · obtain ⟨x, rfl⟩ := List.length_eq_one_iff.1 hl1
          obtain ⟨g2, cap2, V2, rfl, hat, hoV, hsV⟩ := ow_first HO2.out
          obtain ⟨y0, y1, y2⟩ := hat
          simp only [Nat.zero_add] at y1 y2
          obtain ⟨a4, c4, rfl⟩ := hoV.value
          have HO4 := Hid.mk hoV
          have HSZ := Hid.mk hsV
          have HF2 : Hid ((bad = true ∧ d ≤ d1 ∧ d1 ≤ 9 ∧ RR = none) ∨ (bad = false ∧ d1 = d ∧ p < pc ∧ RR = some (x, (txt s).drop pc))) := HF.out
          have h1b : ((([x] : List Tr).length : Int) == 1) = true := by simp
          obtain ⟨xk, hxk⟩ : ∃ xk, x.k = xk := ⟨_, rfl⟩
          obtain ⟨xs, hxs⟩ : ∃ xs, x.s = xs := ⟨_, rfl⟩
          rw [hxk] at y0
          rw [hxs] at y1
          clear HO2 hoV hsV HF hl1
          have c0 := HB2.out.c0
          have c1 := HB2.out.c1
          have c2 := HB2.out.c2
          have f0 := HB2.out.fr
          go_wp2
          have hput := HB2.out.put (.int .i64 xk) (.string xs) (.slice a4 x.l.length c4)
          have hgp := gb_set3 HG2.out (Nat.le_refl _) (.int .i64 xk) (.string xs) (.slice a4 x.l.length c4)
          have hrp := HS2.out.set3 (Ne.symm hne) (.int .i64 xk) (.string xs) (.slice a4 x.l.length c4)
          have hop := HO4.out.set3 (b := w.heap.size) (by unfold newFrom; omega) (.int .i64 xk) (.string xs) (.slice a4 x.l.length c4)
          unfold set3 at hput hgp hrp hop
          generalize ((w2.setCell ⟨w.heap.size, 0, none⟩ (.int .i64 xk)).setCell ⟨w.heap.size, 1, none⟩ (.string xs)).setCell ⟨w.heap.size, 2, none⟩ (.slice a4 x.l.length c4) = W at hput hgp hrp hop ⊢
          have r0 := hput.c0
          have r1 := hput.c1
          have r2 := hput.c2
          refine bodyPost_ret (v := .agg #[.int .i64 xk, .string xs, .slice a4 x.l.length c4]) ?_ rfl ⟨hgp, x, _, pc, by rw [hxk, hxs], HSZ.out, hop.mono (fun b hb => by unfold newFrom at *; omega), by omega, by omega, ?_⟩
          · simp [results, Tryz.results128, go_sem, r0, r1, r2]
          · rcases HF2.out with ⟨hb, e1, e2, he⟩ | ⟨hb, hd1, hpp, he⟩
            · exact Or.inl ⟨HRR.out.trans he, d1, by rw [hb] at hrp; exact hrp, e1, e2⟩
            · exact Or.inr ⟨HRR.out.trans he, hpp, by rw [hb, hd1] at hrp; exact hrp⟩
        · have HF2 : Hid ((bad = true ∧ d ≤ d1 ∧ d1 ≤ 9 ∧ RR = none) ∨ (bad = false ∧ d1 = d ∧ p < pc ∧ RR = some (.node 4 ⟨#[]⟩ acc, (txt s).drop pc))) := by
            have := HF.out
            rw [oneAll_many hl1 hacc] at this
            exact this
          obtain ⟨a4, c4, rfl⟩ := HO2.out.value
          have h1b : ((acc.length : Int) == 1) = false := beq_eq_false_iff_ne.2 (by omega)
          clear HF hl1
          have c0 := HB2.out.c0
          have c1 := HB2.out.c1
          have c2 := HB2.out.c2
          have f0 := HB2.out.fr
          go_wp2
          have hput := HB2.out.put (.int .i64 4) (.string ⟨#[]⟩) (.slice a4 acc.length c4)
          have hgp := gb_set3 HG2.out (Nat.le_refl _) (.int .i64 4) (.string ⟨#[]⟩) (.slice a4 acc.length c4)
          have hrp := HS2.out.set3 (Ne.symm hne) (.int .i64 4) (.string ⟨#[]⟩) (.slice a4 acc.length c4)
          have hop := HO2.out.set3 (b := w.heap.size) (by unfold newFrom; omega) (.int .i64 4) (.string ⟨#[]⟩) (.slice a4 acc.length c4)
          unfold set3 at hput hgp hrp hop
          generalize ((w2.setCell ⟨w.heap.size, 0, none⟩ (.int .i64 4)).setCell ⟨w.heap.size, 1, none⟩ (.string ⟨#[]⟩)).setCell ⟨w.heap.size, 2, none⟩ (.slice a4 acc.length c4) = W at hput hgp hrp hop ⊢
          have r0 := hput.c0
          have r1 := hput.c1
          have r2 := hput.c2
          refine bodyPost_ret (v := .agg #[.int .i64 4, .string ⟨#[]⟩, .slice a4 acc.length c4]) ?_ rfl ⟨hgp, .node 4 ⟨#[]⟩ acc, _, pc, rfl, (by show (⟨#[]⟩ : ByteArray).size ≤ maxLen; decide), hop.mono (fun b hb => by unfold newFrom at *; omega), by omega, by omega, ?_⟩
          · simp [results, Tryz.results128, go_sem, r0, r1, r2]
          · rcases HF2.out with ⟨hb, e1, e2, he⟩ | ⟨hb, hd1, hpp, he⟩
            · exact Or.inl ⟨HRR.out.trans he, d1, by rw [hb] at hrp; exact hrp, e1, e2⟩
            · exact Or.inr ⟨HRR.out.trans he, hpp, by rw [hb, hd1] at hrp; exact hrp⟩
      have hpl : pc < s.size := by omega
      have hpi : (pc : Int) < (s.size : Int) := by omega
      have hgb : ((((s[pc].toNat : Nat) : Int) != 124) && (((s[pc].toNat : Nat) : Int) != 41)) = false := by rw [← hgo, txt_head hpl]; rfl
      clear hgo hend
      cases h1 : (((s[pc].toNat : Nat) : Int) != 124) with
      | false =>
        clear hgb
        have c0 := hsd.out.c0
        have c1 := hsd.out.c1
        have c2 := hsd.out.c2
        go_wp2_with fail
        refine wp_region_quiet_lit (by kernel_rfl) (by kernel_rfl) (Qt.out ?_)
        refine Qt.step (fun K hK => ?_)
        go_simp
        refine hK _ ?_
        clear hK K
        refine Qt.step (fun K hK => ?_)
        go_simp
        refine hK _ ?_
        clear hK K
        refine Qt.step (fun K hK => ?_)
        go_simp
        refine hK _ ?_
        clear hK K
        refine Qt.step (fun K hK => ?_)
        go_simp
        refine hK _ ?_
        clear hK K
        refine Qt.step (fun K hK => ?_)
        go_simp
        refine hK _ ?_
        clear hK K
        refine Qt.step (fun K hK => ?_)
        go_simp
        refine hK _ ?_
        clear hK K
        refine Qt.step (fun K hK => ?_)
        go_simp
        refine hK _ ?_
        clear hK K
        refine Qt.step (fun K hK => ?_)
        go_simp
        refine hK _ ?_
        clear hK K
        refine Qt.step (fun K hK => ?_)
        go_simp
        refine hK _ ?_
        clear hK K
        refine Qt.step (fun K hK => ?_)
        go_simp
        refine hK _ ?_
        clear hK K
        refine Qt.step (fun K hK => ?_)
        go_simp
        refine hK _ ?_
        clear hK K
        refine Qt.step (fun K hK => ?_)
        go_simp
        refine hK _ ?_
        clear hK K
        refine Qt.step (fun K hK => ?_)
        go_simp
        refine hK _ ?_
        clear hK K
        refine Qt.step (fun K hK => ?_)
        go_simp
        refine hK _ ?_
        clear hK K
        refine Qt.step (fun K hK => ?_)
        go_simp
        refine hK _ ?_
        clear hK K
        refine Qt.step (fun K hK => ?_)
        go_simp
        refine hK _ ?_
        clear hK K
        refine Qt.step (fun K hK => ?_)
        go_simp
        refine hK _ ?_
        clear hK K
        refine Qt.step (fun K hK => ?_)
        go_simp
        refine hK _ ?_
        clear hK K
        refine Qt.step (fun K hK => ?_)
        go_simp
        refine hK _ ?_
        clear hK K
        refine Qt.step (fun K hK => ?_)
        go_simp
        refine hK _ ?_
        clear hK K
        refine Qt.step (fun K hK => ?_)
        go_simp
        refine hK _ ?_
        clear hK K
        refine Qt.step (fun K hK => ?_)
        go_simp
        refine hK _ ?_
        clear hK K
        refine Qt.step (fun K hK => ?_)
        go_simp
        refine hK _ ?_
        clear hK K
        refine Qt.step (fun K hK => ?_)
        go_simp
        refine hK _ ?_
        clear hK K
        refine Qt.step (fun K hK => ?_)
        go_simp
        refine hK _ ?_
        clear hK K
        refine Qt.step (fun K hK => ?_)
        go_simp
        refine hK _ ?_
        clear hK K
        refine Qt.step (fun K hK => ?_)
        go_simp
        refine hK _ ?_
        clear hK K
        refine Qt.step (fun K hK => ?_)
        go_simp
        refine hK _ ?_
        clear hK K
        refine Qt.step (fun K hK => ?_)
        go_simp
        refine hK _ ?_
        clear hK K
        refine Qt.step (fun K hK => ?_)
        go_simp
        refine hK _ ?_
        clear hK K
        refine Qt.step (fun K hK => ?_)
        go_simp
        refine hK _ ?_
        clear hK K
        refine Qt.step (fun K hK => ?_)
        go_simp
        refine hK _ ?_
        clear hK K
        refine Qt.step (fun K hK => ?_)
        go_simp
        refine hK _ ?_
        clear hK K
        refine Qt.step (fun K hK => ?_)
        go_simp
        refine hK _ ?_
        clear hK K
        refine Qt.step (fun K hK => ?_)
        go_simp
        refine hK _ ?_
        clear hK K
        refine Qt.step (fun K hK => ?_)
        go_simp
        refine hK _ ?_
        clear hK K
        refine Qt.step (fun K hK => ?_)
        go_simp
        refine hK _ ?_
        clear hK K
        refine Qt.step (fun K hK => ?_)
        go_simp
        refine hK _ ?_
        clear hK K
        refine Qt.step (fun K hK => ?_)
        go_simp
        refine hK _ ?_
        clear hK K
        refine Qt.step (fun K hK => ?_)
        go_simp
        refine hK _ ?_
        clear hK K
        refine Qt.step (fun K hK => ?_)
        go_simp
        refine hK _ ?_
        clear hK K
        refine Qt.nil ?_
        intro _ hw'
        obtain ⟨nq1, hw''⟩ := hw'
        subst hw''
        have HS1 := hsd.out.drew nq1
        have HB1 := hb.out.gb (gb_drew _ R nq1) hne
        have HG1 := gb_trans hg.out (gb_drew _ R nq1)
        have HO1 := ho.out.gb (gb_drew wr R nq1) (by unfold newFrom; omega)
        have hz1 : (wr.drewN nq1).heap.size = wr.heap.size := rfl
        generalize (wr.drewN nq1) = w2 at HS1 HB1 HG1 HO1 hz1 ⊢
        have HS2 := Hid.mk HS1
        have HB2 := Hid.mk HB1
        have HG2 := Hid.mk HG1
        have HO2 := Hid.mk HO1
        clear HS1 HB1 HG1 HO1 c0 c1 c2
        clear hg hsd hb ho
        by_cases hl1 : acc.length = 1
        · obtain ⟨x, rfl⟩ := List.length_eq_one_iff.1 hl1
          obtain ⟨g2, cap2, V2, rfl, hat, hoV, hsV⟩ := ow_first HO2.out
          obtain ⟨y0, y1, y2⟩ := hat
          simp only [Nat.zero_add] at y1 y2
          obtain ⟨a4, c4, rfl⟩ := hoV.value
          have HO4 := Hid.mk hoV
          have HSZ := Hid.mk hsV
          have HF2 : Hid ((bad = true ∧ d ≤ d1 ∧ d1 ≤ 9 ∧ RR = none) ∨ (bad = false ∧ d1 = d ∧ p < pc ∧ RR = some (x, (txt s).drop pc))) := HF.out
          have h1b : ((([x] : List Tr).length : Int) == 1) = true := by simp
          obtain ⟨xk, hxk⟩ : ∃ xk, x.k = xk := ⟨_, rfl⟩
          obtain ⟨xs, hxs⟩ : ∃ xs, x.s = xs := ⟨_, rfl⟩
          rw [hxk] at y0
          rw [hxs] at y1
          clear HO2 hoV hsV HF hl1
          have c0 := HB2.out.c0
          have c1 := HB2.out.c1
          have c2 := HB2.out.c2
          have f0 := HB2.out.fr
          go_wp2
          have hput := HB2.out.put (.int .i64 xk) (.string xs) (.slice a4 x.l.length c4)
          have hgp := gb_set3 HG2.out (Nat.le_refl _) (.int .i64 xk) (.string xs) (.slice a4 x.l.length c4)
          have hrp := HS2.out.set3 (Ne.symm hne) (.int .i64 xk) (.string xs) (.slice a4 x.l.length c4)
          have hop := HO4.out.set3 (b := w.heap.size) (by unfold newFrom; omega) (.int .i64 xk) (.string xs) (.slice a4 x.l.length c4)
          unfold set3 at hput hgp hrp hop
          generalize ((w2.setCell ⟨w.heap.size, 0, none⟩ (.int .i64 xk)).setCell ⟨w.heap.size, 1, none⟩ (.string xs)).setCell ⟨w.heap.size, 2, none⟩ (.slice a4 x.l.length c4) = W at hput hgp hrp hop ⊢
          have r0 := hput.c0
          have r1 := hput.c1
          have r2 := hput.c2
          refine bodyPost_ret (v := .agg #[.int .i64 xk, .string xs, .slice a4 x.l.length c4]) ?_ rfl ⟨hgp, x, _, pc, by rw [hxk, hxs], HSZ.out, hop.mono (fun b hb => by unfold newFrom at *; omega), by omega, by omega, ?_⟩
          · simp [results, Tryz.results128, go_sem, r0, r1, r2]
          · rcases HF2.out with ⟨hb, e1, e2, he⟩ | ⟨hb, hd1, hpp, he⟩
            · exact Or.inl ⟨HRR.out.trans he, d1, by rw [hb] at hrp; exact hrp, e1, e2⟩
            · exact Or.inr ⟨HRR.out.trans he, hpp, by rw [hb, hd1] at hrp; exact hrp⟩
        · have HF2 : Hid ((bad = true ∧ d ≤ d1 ∧ d1 ≤ 9 ∧ RR = none) ∨ (bad = false ∧ d1 = d ∧ p < pc ∧ RR = some (.node 4 ⟨#[]⟩ acc, (txt s).drop pc))) := by
            have := HF.out
            rw [oneAll_many hl1 hacc] at this
            exact this
          obtain ⟨a4, c4, rfl⟩ := HO2.out.value
          have h1b : ((acc.length : Int) == 1) = false := beq_eq_false_iff_ne.2 (by omega)
          clear HF hl1
          have c0 := HB2.out.c0
          have c1 := HB2.out.c1
          have c2 := HB2.out.c2
          have f0 := HB2.out.fr
          go_wp2
          have hput := HB2.out.put (.int .i64 4) (.string ⟨#[]⟩) (.slice a4 acc.length c4)
          have hgp := gb_set3 HG2.out (Nat.le_refl _) (.int .i64 4) (.string ⟨#[]⟩) (.slice a4 acc.length c4)
          have hrp := HS2.out.set3 (Ne.symm hne) (.int .i64 4) (.string ⟨#[]⟩) (.slice a4 acc.length c4)
          have hop := HO2.out.set3 (b := w.heap.size) (by unfold newFrom; omega) (.int .i64 4) (.string ⟨#[]⟩) (.slice a4 acc.length c4)
          unfold set3 at hput hgp hrp hop
          generalize ((w2.setCell ⟨w.heap.size, 0, none⟩ (.int .i64 4)).setCell ⟨w.heap.size, 1, none⟩ (.string ⟨#[]⟩)).setCell ⟨w.heap.size, 2, none⟩ (.slice a4 acc.length c4) = W at hput hgp hrp hop ⊢
          have r0 := hput.c0
          have r1 := hput.c1
          have r2 := hput.c2
          refine bodyPost_ret (v := .agg #[.int .i64 4, .string ⟨#[]⟩, .slice a4 acc.length c4]) ?_ rfl ⟨hgp, .node 4 ⟨#[]⟩ acc, _, pc, rfl, (by show (⟨#[]⟩ : ByteArray).size ≤ maxLen; decide), hop.mono (fun b hb => by unfold newFrom at *; omega), by omega, by omega, ?_⟩
          · simp [results, Tryz.results128, go_sem, r0, r1, r2]
          · rcases HF2.out with ⟨hb, e1, e2, he⟩ | ⟨hb, hd1, hpp, he⟩
            · exact Or.inl ⟨HRR.out.trans he, d1, by rw [hb] at hrp; exact hrp, e1, e2⟩
            · exact Or.inr ⟨HRR.out.trans he, hpp, by rw [hb, hd1] at hrp; exact hrp⟩
      | true =>
        have h2 : (((s[pc].toNat : Nat) : Int) != 41) = false := by rw [h1] at hgb; simpa using hgb
        clear hgb
        have c0 := hsd.out.c0
        have c1 := hsd.out.c1
        have c2 := hsd.out.c2
        go_wp2_with fail
        refine wp_region_quiet_lit (by kernel_rfl) (by kernel_rfl) (Qt.out ?_)
        refine Qt.step (fun K hK => ?_)
        go_simp
        refine hK _ ?_
        clear hK K
        refine Qt.step (fun K hK => ?_)
        go_simp
        refine hK _ ?_
        clear hK K
        refine Qt.step (fun K hK => ?_)
        go_simp
        refine hK _ ?_
        clear hK K
        refine Qt.step (fun K hK => ?_)
        go_simp
        refine hK _ ?_
        clear hK K
        refine Qt.step (fun K hK => ?_)
        go_simp
        refine hK _ ?_
        clear hK K
        refine Qt.step (fun K hK => ?_)
        go_simp
        refine hK _ ?_
        clear hK K
        refine Qt.step (fun K hK => ?_)
        go_simp
        refine hK _ ?_
        clear hK K
        refine Qt.step (fun K hK => ?_)
        go_simp
        refine hK _ ?_
        clear hK K
        refine Qt.step (fun K hK => ?_)
        go_simp
        refine hK _ ?_
        clear hK K
        refine Qt.step (fun K hK => ?_)
        go_simp
        refine hK _ ?_
        clear hK K
        refine Qt.step (fun K hK => ?_)
        go_simp
        refine hK _ ?_
        clear hK K
        refine Qt.step (fun K hK => ?_)
        go_simp
        refine hK _ ?_
        clear hK K
        refine Qt.step (fun K hK => ?_)
        go_simp
        refine hK _ ?_
        clear hK K
        refine Qt.step (fun K hK => ?_)
        go_simp
        refine hK _ ?_
        clear hK K
        refine Qt.step (fun K hK => ?_)
        go_simp
        refine hK _ ?_
        clear hK K
        refine Qt.step (fun K hK => ?_)
        go_simp
        refine hK _ ?_
        clear hK K
        refine Qt.step (fun K hK => ?_)
        go_simp
        refine hK _ ?_
        clear hK K
        refine Qt.step (fun K hK => ?_)
        go_simp
        refine hK _ ?_
        clear hK K
        refine Qt.step (fun K hK => ?_)
        go_simp
        refine hK _ ?_
        clear hK K
        refine Qt.step (fun K hK => ?_)
        go_simp
        refine hK _ ?_
        clear hK K
        refine Qt.step (fun K hK => ?_)
        go_simp
        refine hK _ ?_
        clear hK K
        refine Qt.step (fun K hK => ?_)
        go_simp
        refine hK _ ?_
        clear hK K
        refine Qt.step (fun K hK => ?_)
        go_simp
        refine hK _ ?_
        clear hK K
        refine Qt.step (fun K hK => ?_)
        go_simp
        refine hK _ ?_
        clear hK K
        refine Qt.step (fun K hK => ?_)
        go_simp
        refine hK _ ?_
        clear hK K
        refine Qt.step (fun K hK => ?_)
        go_simp
        refine hK _ ?_
        clear hK K
        refine Qt.step (fun K hK => ?_)
        go_simp
        refine hK _ ?_
        clear hK K
        refine Qt.step (fun K hK => ?_)
        go_simp
        refine hK _ ?_
        clear hK K
        refine Qt.step (fun K hK => ?_)
        go_simp
        refine hK _ ?_
        clear hK K
        refine Qt.step (fun K hK => ?_)
        go_simp
        refine hK _ ?_
        clear hK K
        refine Qt.step (fun K hK => ?_)
        go_simp
        refine hK _ ?_
        clear hK K
        refine Qt.step (fun K hK => ?_)
        go_simp
        refine hK _ ?_
        clear hK K
        refine Qt.step (fun K hK => ?_)
        go_simp
        refine hK _ ?_
        clear hK K
        refine Qt.step (fun K hK => ?_)
        go_simp
        refine hK _ ?_
        clear hK K
        refine Qt.step (fun K hK => ?_)
        go_simp
        refine hK _ ?_
        clear hK K
        refine Qt.step (fun K hK => ?_)
        go_simp
        refine hK _ ?_
        clear hK K
        refine Qt.step (fun K hK => ?_)
        go_simp
        refine hK _ ?_
        clear hK K
        refine Qt.step (fun K hK => ?_)
        go_simp
        refine hK _ ?_
        clear hK K
        refine Qt.step (fun K hK => ?_)
        go_simp
        refine hK _ ?_
        clear hK K
        refine Qt.step (fun K hK => ?_)
        go_simp
        refine hK _ ?_
        clear hK K
        refine Qt.step (fun K hK => ?_)
        go_simp
        refine hK _ ?_
        clear hK K
        refine Qt.nil ?_
        intro _ hw'
        obtain ⟨nq1, hw''⟩ := hw'
        subst hw''
        have HS1 := hsd.out.drew nq1
        have HB1 := hb.out.gb (gb_drew _ R nq1) hne
        have HG1 := gb_trans hg.out (gb_drew _ R nq1)
        have HO1 := ho.out.gb (gb_drew wr R nq1) (by unfold newFrom; omega)
        have hz1 : (wr.drewN nq1).heap.size = wr.heap.size := rfl
        generalize (wr.drewN nq1) = w2 at HS1 HB1 HG1 HO1 hz1 ⊢
        have HS2 := Hid.mk HS1
        have HB2 := Hid.mk HB1
        have HG2 := Hid.mk HG1
        have HO2 := Hid.mk HO1
        clear HS1 HB1 HG1 HO1 c0 c1 c2
        clear hg hsd hb ho
        by_cases hl1 : acc.length = 1
        · obtain ⟨x, rfl⟩ := List.length_eq_one_iff.1 hl1
          obtain ⟨g2, cap2, V2, rfl, hat, hoV, hsV⟩ := ow_first HO2.out
          obtain ⟨y0, y1, y2⟩ := hat
          simp only [Nat.zero_add] at y1 y2
          obtain ⟨a4, c4, rfl⟩ := hoV.value
          have HO4 := Hid.mk hoV
          have HSZ := Hid.mk hsV
          have HF2 : Hid ((bad = true ∧ d ≤ d1 ∧ d1 ≤ 9 ∧ RR = none) ∨ (bad = false ∧ d1 = d ∧ p < pc ∧ RR = some (x, (txt s).drop pc))) := HF.out
          have h1b : ((([x] : List Tr).length : Int) == 1) = true := by simp
          obtain ⟨xk, hxk⟩ : ∃ xk, x.k = xk := ⟨_, rfl⟩
          obtain ⟨xs, hxs⟩ : ∃ xs, x.s = xs := ⟨_, rfl⟩
          rw [hxk] at y0
          rw [hxs] at y1
          clear HO2 hoV hsV HF hl1
          have c0 := HB2.out.c0
          have c1 := HB2.out.c1
          have c2 := HB2.out.c2
          have f0 := HB2.out.fr
          go_wp2
          have hput := HB2.out.put (.int .i64 xk) (.string xs) (.slice a4 x.l.length c4)
          have hgp := gb_set3 HG2.out (Nat.le_refl _) (.int .i64 xk) (.string xs) (.slice a4 x.l.length c4)
          have hrp := HS2.out.set3 (Ne.symm hne) (.int .i64 xk) (.string xs) (.slice a4 x.l.length c4)
          have hop := HO4.out.set3 (b := w.heap.size) (by unfold newFrom; omega) (.int .i64 xk) (.string xs) (.slice a4 x.l.length c4)
          unfold set3 at hput hgp hrp hop
          generalize ((w2.setCell ⟨w.heap.size, 0, none⟩ (.int .i64 xk)).setCell ⟨w.heap.size, 1, none⟩ (.string xs)).setCell ⟨w.heap.size, 2, none⟩ (.slice a4 x.l.length c4) = W at hput hgp hrp hop ⊢
          have r0 := hput.c0
          have r1 := hput.c1
          have r2 := hput.c2
          refine bodyPost_ret (v := .agg #[.int .i64 xk, .string xs, .slice a4 x.l.length c4]) ?_ rfl ⟨hgp, x, _, pc, by rw [hxk, hxs], HSZ.out, hop.mono (fun b hb => by unfold newFrom at *; omega), by omega, by omega, ?_⟩
          · simp [results, Tryz.results128, go_sem, r0, r1, r2]
          · rcases HF2.out with ⟨hb, e1, e2, he⟩ | ⟨hb, hd1, hpp, he⟩
            · exact Or.inl ⟨HRR.out.trans he, d1, by rw [hb] at hrp; exact hrp, e1, e2⟩
            · exact Or.inr ⟨HRR.out.trans he, hpp, by rw [hb, hd1] at hrp; exact hrp⟩
        · have HF2 : Hid ((bad = true ∧ d ≤ d1 ∧ d1 ≤ 9 ∧ RR = none) ∨ (bad = false ∧ d1 = d ∧ p < pc ∧ RR = some (.node 4 ⟨#[]⟩ acc, (txt s).drop pc))) := by
            have := HF.out
            rw [oneAll_many hl1 hacc] at this
            exact this
          obtain ⟨a4, c4, rfl⟩ := HO2.out.value
          have h1b : ((acc.length : Int) == 1) = false := beq_eq_false_iff_ne.2 (by omega)
          clear HF hl1
          have c0 := HB2.out.c0
          have c1 := HB2.out.c1
          have c2 := HB2.out.c2
          have f0 := HB2.out.fr
          go_wp2
          have hput := HB2.out.put (.int .i64 4) (.string ⟨#[]⟩) (.slice a4 acc.length c4)
          have hgp := gb_set3 HG2.out (Nat.le_refl _) (.int .i64 4) (.string ⟨#[]⟩) (.slice a4 acc.length c4)
          have hrp := HS2.out.set3 (Ne.symm hne) (.int .i64 4) (.string ⟨#[]⟩) (.slice a4 acc.length c4)
          have hop := HO2.out.set3 (b := w.heap.size) (by unfold newFrom; omega) (.int .i64 4) (.string ⟨#[]⟩) (.slice a4 acc.length c4)
          unfold set3 at hput hgp hrp hop
          generalize ((w2.setCell ⟨w.heap.size, 0, none⟩ (.int .i64 4)).setCell ⟨w.heap.size, 1, none⟩ (.string ⟨#[]⟩)).setCell ⟨w.heap.size, 2, none⟩ (.slice a4 acc.length c4) = W at hput hgp hrp hop ⊢
          have r0 := hput.c0
          have r1 := hput.c1
          have r2 := hput.c2
          refine bodyPost_ret (v := .agg #[.int .i64 4, .string ⟨#[]⟩, .slice a4 acc.length c4]) ?_ rfl ⟨hgp, .node 4 ⟨#[]⟩ acc, _, pc, rfl, (by show (⟨#[]⟩ : ByteArray).size ≤ maxLen; decide), hop.mono (fun b hb => by unfold newFrom at *; omega), by omega, by omega, ?_⟩
          · simp [results, Tryz.results128, go_sem, r0, r1, r2]
          · rcases HF2.out with ⟨hb, e1, e2, he⟩ | ⟨hb, hd1, hpp, he⟩
            · exact Or.inl ⟨HRR.out.trans he, d1, by rw [hb] at hrp; exact hrp, e1, e2⟩
            · exact Or.inr ⟨HRR.out.trans he, hpp, by rw [hb, hd1] at hrp; exact hrp⟩
    | true =>
      have hbf : bad = false := by cases bad <;> simp_all
      subst hbf
      have hlen : acc.length + (s.size - pc) ≤ 1048577 := by simpa using hlen
      have hy' : goesOn ((txt s).drop pc) = true := by simpa using hy
      have hpl : pc < s.size := by
        apply Decidable.byContradiction
        intro hh
        rw [txt_end (by omega)] at hy'
        cases hy'
      have hpi : (pc : Int) < (s.size : Int) := by omega
      have hgb : ((((s[pc].toNat : Nat) : Int) != 124) && (((s[pc].toNat : Nat) : Int) != 41)) = true := by rw [← hy', txt_head hpl]; rfl
      have h1 : (((s[pc].toNat : Nat) : Int) != 124) = true := by rw [Bool.and_eq_true] at hgb; exact hgb.1
      have h2 : (((s[pc].toNat : Nat) : Int) != 41) = true := by rw [Bool.and_eq_true] at hgb; exact hgb.2
      obtain ⟨pq, hpqe⟩ : ∃ pq, pq = pc := ⟨_, rfl⟩
      have hpq : pq ≤ s.size := by omega
      have hsw : w.heap.size + 1 ≤ wr.heap.size := by have := hb.out.lt; omega
      have HYY := Hid.mk hy'
      clear hgb hy hyy hy'
      have c0 := hsd.out.c0
      have c1 := hsd.out.c1
      have c2 := hsd.out.c2
      go_wp2_with fail
      refine wp_region_quiet_lit (by kernel_rfl) (by kernel_rfl) (Qt.out ?_)
      refine Qt.step (fun K hK => ?_)
      go_simp
      refine hK _ ?_
      clear hK K
      refine Qt.step (fun K hK => ?_)
      go_simp
      refine hK _ ?_
      clear hK K
      refine Qt.step (fun K hK => ?_)
      go_simp
      refine hK _ ?_
      clear hK K
      refine Qt.step (fun K hK => ?_)
      go_simp
      refine hK _ ?_
      clear hK K
      refine Qt.step (fun K hK => ?_)
      go_simp
      refine hK _ ?_
      clear hK K
      refine Qt.step (fun K hK => ?_)
      go_simp
      refine hK _ ?_
      clear hK K
      refine Qt.step (fun K hK => ?_)
      go_simp
      refine hK _ ?_
      clear hK K
      refine Qt.step (fun K hK => ?_)
      go_simp
      refine hK _ ?_
      clear hK K
      refine Qt.step (fun K hK => ?_)
      go_simp
      refine hK _ ?_
      clear hK K
      refine Qt.step (fun K hK => ?_)
      go_simp
      refine hK _ ?_
      clear hK K
      refine Qt.step (fun K hK => ?_)
      go_simp
      refine hK _ ?_
      clear hK K
      refine Qt.step (fun K hK => ?_)
      go_simp
      refine hK _ ?_
      clear hK K
      refine Qt.step (fun K hK => ?_)
      go_simp
      refine hK _ ?_
      clear hK K
      refine Qt.step (fun K hK => ?_)
      go_simp
      refine hK _ ?_
      clear hK K
      refine Qt.step (fun K hK => ?_)
      go_simp
      refine hK _ ?_
      clear hK K
      refine Qt.step (fun K hK => ?_)
      go_simp
      refine hK _ ?_
      clear hK K
      refine Qt.step (fun K hK => ?_)
      go_simp
      refine hK _ ?_
      clear hK K
      refine Qt.step (fun K hK => ?_)
      go_simp
      refine hK _ ?_
      clear hK K
      refine Qt.step (fun K hK => ?_)
      go_simp
      refine hK _ ?_
      clear hK K
      refine Qt.step (fun K hK => ?_)
      go_simp
      refine hK _ ?_
      clear hK K
      refine Qt.step (fun K hK => ?_)
      go_simp
      refine hK _ ?_
      clear hK K
      refine Qt.step (fun K hK => ?_)
      go_simp
      refine hK _ ?_
      clear hK K
      refine Qt.step (fun K hK => ?_)
      go_simp
      refine hK _ ?_
      clear hK K
      refine Qt.step (fun K hK => ?_)
      go_simp
      refine hK _ ?_
      clear hK K
      refine Qt.step (fun K hK => ?_)
      go_simp
      refine hK _ ?_
      clear hK K
      refine Qt.step (fun K hK => ?_)
      go_simp
      refine hK _ ?_
      clear hK K
      refine Qt.step (fun K hK => ?_)
      go_simp
      refine hK _ ?_
      clear hK K
      refine Qt.step (fun K hK => ?_)
      go_simp
      refine hK _ ?_
      clear hK K
      refine Qt.step (fun K hK => ?_)
      go_simp
      refine hK _ ?_
      clear hK K
      refine Qt.step (fun K hK => ?_)
      go_simp
      refine hK _ ?_
      clear hK K
      refine Qt.step (fun K hK => ?_)
      go_simp
      refine hK _ ?_
      clear hK K
      refine Qt.step (fun K hK => ?_)
      go_simp
      refine hK _ ?_
      clear hK K
      refine Qt.step (fun K hK => ?_)
      go_simp
      refine hK _ ?_
      clear hK K
      refine Qt.step (fun K hK => ?_)
      go_simp
      refine hK _ ?_
      clear hK K
      refine Qt.step (fun K hK => ?_)
      go_simp
      refine hK _ ?_
      clear hK K
      refine Qt.step (fun K hK => ?_)
      go_simp
      refine hK _ ?_
      clear hK K
      refine Qt.step (fun K hK => ?_)
      go_simp
      refine hK _ ?_
      clear hK K
      refine Qt.step (fun K hK => ?_)
      go_simp
      refine hK _ ?_
      clear hK K
      refine Qt.step (fun K hK => ?_)
      go_simp
      refine hK _ ?_
      clear hK K
      refine Qt.step (fun K hK => ?_)
      go_simp
      refine hK _ ?_
      clear hK K
      refine Qt.step (fun K hK => ?_)
      go_simp
      refine hK _ ?_
      clear hK K
      refine Qt.nil ?_
      intro _ hw'
      obtain ⟨nq1, hw''⟩ := hw'
      subst hw''
      have HS1 := hsd.out.drew nq1
      have HB1 := hb.out.gb (gb_drew _ R nq1) hne
      have HG1 := gb_trans hg.out (gb_drew _ R nq1)
      have HO1 := ho.out.gb (gb_drew wr R nq1) (by unfold newFrom; omega)
      have hz1 : (wr.drewN nq1).heap.size = wr.heap.size := rfl
      generalize (wr.drewN nq1) = w2 at HS1 HB1 HG1 HO1 hz1 ⊢
      have HS2 := Hid.mk HS1
      have HB2 := Hid.mk HB1
      have HG2 := Hid.mk HG1
      have HO2 := Hid.mk HO1
      clear HS1 HB1 HG1 HO1 c0 c1 c2
      have hy' := HYY.out
      have hs2 : w.heap.size + 1 ≤ w2.heap.size := by omega
      have HS3 : Hid (Sds w2 R s pq false d1) := by rw [hpqe]; exact HS2.out
      clear HS2 HYY
      rcases hcs.out with ⟨hbt, _⟩ | ⟨_, hd1, hpp, m, hm, he⟩
      · cases hbt
      subst hd1
      obtain ⟨m', rfl⟩ : ∃ m', m = m' + 1 := ⟨m - 1, by omega⟩
      have HST0 : Hid (rdItem (rd n) ((txt s).drop pq) = none → RR = none) := by intro hh; rw [he, rdCatL, if_pos hy', ← hpqe, hh]; rfl
      have HST1 : Hid (∀ t2 q2, rdItem (rd n) ((txt s).drop pq) = some (t2, q2) → RR = (rdCatL (rd n) m' (acc ++ [t2]) q2).map fun p => (oneAll 4 p.1, p.2)) := by intro t2 q2 hh; rw [he, rdCatL, if_pos hy', ← hpqe, hh]
      go_wp2_with fail
      refine (HC.out s R pq _ HS3.out hpq hs).mono ?_
      rintro e w4 ⟨hg4, t2, u2, p2, rfl, hsz4, how4, hp3, hp4, hcase4⟩
      obtain ⟨a2, k2, rfl⟩ := how4.value
      have hs4 : w.heap.size + 1 ≤ w4.heap.size := by have := hg4.size; omega
      have hbw : Below w4.heap.size w4 (w4.alloc (.cells #[.int .i64 t2.k, .string t2.s, .slice a2 t2.l.length k2] 187)) := (Below.refl _ _).alloc (Nat.le_refl _) _
      have HB4 := Hid.mk ((HB2.out.gb hg4 hne).kept (hbw.block _ (HB2.out.gb hg4 hne).lt))
      have HG4 := Hid.mk (gb_below (gb_trans HG2.out hg4) hbw)
      have HOA := Hid.mk ((HO2.out.there.gb hg4 (fun hh => by have := hh.1; unfold newFrom at this; omega)).grow hbw)
      have HX4 := Hid.mk (Bx3.new w4 (.int .i64 t2.k) (.string t2.s) (.slice a2 t2.l.length k2))
      have HO4 := Hid.mk (how4.grow hbw)
      have HSZ4 := Hid.mk hsz4
      have Hlen : Hid (acc.length ≤ 1048576) := by show _ ≤ _; omega
      obtain ⟨bad2, d2, HS4, hcs2⟩ : ∃ (bad2 : Bool) (d2 : Int), Hid (Sds (w4.alloc (.cells #[.int .i64 t2.k, .string t2.s, .slice a2 t2.l.length k2] 187)) R s p2 bad2 d2) ∧
          Hid ((bad2 = true ∧ d1 ≤ d2 ∧ d2 ≤ 9 ∧ RR = none) ∨ (bad2 = false ∧ d2 = d1 ∧ pq < p2 ∧ RR = (rdCatL (rd n) m' (acc ++ [t2]) ((txt s).drop p2)).map fun p => (oneAll 4 p.1, p.2))) := by
        rcases hcase4 with ⟨hr0, d', hsd4, e1, e2⟩ | ⟨hrd, hpp4, hsd4⟩
        · exact ⟨true, d', hsd4.grow hbw, Or.inl ⟨rfl, e1, e2, HST0.out hr0⟩⟩
        · exact ⟨false, d1, hsd4.grow hbw, Or.inr ⟨rfl, rfl, hpp4, HST1.out _ _ hrd⟩⟩
      obtain ⟨tk2, htk2⟩ : ∃ tk, t2.k = tk := ⟨_, rfl⟩
      obtain ⟨ts2, hts2⟩ : ∃ ts, t2.s = ts := ⟨_, rfl⟩
      have HX5 : Hid (Bx3 (w4.alloc (.cells #[.int .i64 tk2, .string ts2, .slice a2 t2.l.length k2] 187)) w4.heap.size (.int .i64 t2.k) (.string t2.s) (.slice a2 t2.l.length k2)) := by
        rw [← htk2, ← hts2]; exact HX4.out
      rw [htk2, hts2] at HB4 HG4 HOA HO4 HS4
      rw [htk2, hts2]
      have Hsz2 : Hid (w2.heap.size ≤ w4.heap.size) := hg4.size
      have Hw2 : Hid (w.heap.size + 1 ≤ w2.heap.size) := hs2
      clear hg4 hsz4 how4 hbw hcs hg hsd hb ho HST0 HST1 HB2 HG2 HS3 HO2 HX4 htk2 hts2 hcase4 he
      go_wp2_with (at_builtin; refine wpList_append_ow rfl _ _ rfl (fun b => newFrom (w.heap.size + 1) b ∧ b < w2.heap.size) (newFrom w2.heap.size) (newFrom (w.heap.size + 1)) _ (.slice a2 t2.l.length k2) acc t2 w4.heap.size hacc rfl HOA.out rfl HX5.out HO4.out HSZ4.out (fun b hb hb2 => by unfold newFrom at *; omega) (fun b hb => hb.1) (fun b hb => by have := Hw2.out; unfold newFrom at *; omega) (by have := Hsz2.out; have := Hw2.out; unfold newFrom; simp; omega) Hlen.out ?_)
      intro v6 w6 g6 ho6 hB6 hB6b hgr6
      have HO6 := Hid.mk ho6
      have hg6 := hB6
      unfold newFrom at hg6
      have HB6 := Hid.mk (HB4.out.kept (hgr6.block _ HB4.out.lt (by simp; omega)))
      have HG6 : Hid (w.grownBy w6 (some R)) := ⟨hgr6.os.trans HG4.out.os, hgr6.tape.trans HG4.out.tape, hgr6.output.trans HG4.out.output, Nat.le_trans HG4.out.size hgr6.size, fun k hk hne => (hgr6.block k (Nat.lt_of_lt_of_le hk HG4.out.size) (by simp; omega)).trans (HG4.out.block k hk hne)⟩
      have HS6 := Hid.mk (HS4.out.kept (hgr6.block R HS4.out.lt (by simp; omega)))
      have hcs3 : Hid ((bad2 = true ∧ d1 ≤ d2 ∧ d2 ≤ 9 ∧ RR = none) ∨ (bad2 = false ∧ d2 = d1 ∧ p < p2 ∧ ∃ m, s.size - p2 ≤ m ∧ RR = (rdCatL (rd n) m (acc ++ [t2]) ((txt s).drop p2)).map fun p => (oneAll 4 p.1, p.2))) := by
        rcases hcs2.out with h | ⟨e1, e2, e3, e4⟩
        · exact Or.inl h
        · exact Or.inr ⟨e1, e2, by omega, m', by omega, e4⟩
      have hln2 : (acc ++ [t2]).length + (s.size - p2) ≤ 1048577 + (if bad2 = true then 1 else 0) := by
        rw [List.length_append, List.length_singleton]
        rcases hcs2.out with ⟨e1, _⟩ | ⟨e1, _, e3, _⟩
        · rw [if_pos e1]; omega
        · rw [if_neg (by rw [e1]; simp)]; omega
      have hms : (if bad2 = true then 0 else s.size - p2 + 1) < s.size - pc + 1 := by
        rcases hcs2.out with ⟨e1, _⟩ | ⟨e1, _, e3, _⟩
        · rw [if_pos e1]; omega
        · rw [if_neg (by rw [e1]; simp)]; omega
      clear ho6 hB6 hB6b hgr6 HB4 HG4 HS4 HOA HO4 HSZ4 HX5 hg6 Hlen Hsz2 Hw2 hcs2
      go_wp2
      go_roundg (if bad2 = true then 0 else s.size - p2 + 1)
      case measure => rw [← hgk]; simpa using hms
      case rel => exact ⟨acc ++ [t2], p2, bad2, d2, by simp, by omega, by omega, rfl, hln2, hcs3, HG6, HS6, HB6, HO6⟩
end Go.Proofs.YtgigalcajgjpnaaGreat

namespace Go.Proofs.YtgigalcajgjpnaaGreat
open Go.RowKit
set_option maxRecDepth 8000

theorem alt_any : ∀ n : Nat, n ≤ 8 → SpC 126 (rd (n + 1)) (8 - (n : Int)) := by
  intro n
  induction n with
  | zero =>
    intro _
    exact choicesSp_of 0 _ (by omega) (cat_of 0 _ (by omega) (item_of 0 _ (by omega) (atom_of 0 _ (by omega) (group_of 0 (by omega) (fun h => absurd h (by omega))))))
  | succ n ih =>
    intro hn
    have := ih (by omega)
    rw [show (8 : Int) - (n : Int) = 9 - ((n + 1 : Nat) : Int) by omega] at this
    exact choicesSp_of (n + 1) _ (by omega) (cat_of (n + 1) _ (by omega) (item_of (n + 1) _ (by omega) (atom_of (n + 1) _ (by omega) (group_of (n + 1) hn (fun _ => this)))))

/-- The world with the result's box and the model's reader. -/
abbrev spW (w : World) (s : ByteArray) : World := ((w.alloc (.cells #[.int .i64 0, .string ⟨#[]⟩, .slice none 0 0] 187)).alloc (.cells #[.string s, .int .i64 0, .bool false, .int .i64 0] 198))
theorem spW_sds (w : World) (s : ByteArray) : Sds (spW w s) (w.heap.size + 1) s 0 false 0 := by
  have := heap_alloc_new (w.alloc (.cells #[.int .i64 0, .string ⟨#[]⟩, .slice none 0 0] 187)) (.cells #[.string s, .int .i64 0, .bool false, .int .i64 0] 198)
  rw [show (w.alloc (.cells #[.int .i64 0, .string ⟨#[]⟩, .slice none 0 0] 187)).heap.size = w.heap.size + 1 by simp] at this
  exact this
theorem spW_bx (w : World) (s : ByteArray) : Bx3 (spW w s) w.heap.size (.int .i64 0) (.string ⟨#[]⟩) (.slice none 0 0) := (Bx3.new w (.int .i64 0) (.string ⟨#[]⟩) (.slice none 0 0)).kept (((Below.refl _ _).alloc (Nat.le_refl _) _).block _ (Bx3.new w (.int .i64 0) (.string ⟨#[]⟩) (.slice none 0 0)).lt)
theorem spW_below (w : World) (s : ByteArray) : Below w.heap.size w (spW w s) := ((Below.refl _ _).alloc (Nat.le_refl _) _).alloc (by simp) _

set_option maxHeartbeats 2000000 in
theorem specParse_yes (s : ByteArray) (t : Tr) (w : World) (h : IsTx s t) :
    Calls Tryz.prog 123 #[.string s] w fun e w' => ∃ u, e = .returned (.tuple #[rx t.k t.s u, .bool true]) ∧ Ow w' (newFrom w.heap.size) t.l u ∧ t.s.size ≤ maxLen ∧ Below w.heap.size w w' := by
  have hz := h.size
  have HRd := Hid.mk (alt_any 8 (by omega) s (w.heap.size + 1) 0 (spW w s) (spW_sds w s) (Nat.zero_le _) (by omega))
  have HQ := Hid.mk (h.read 9 (by omega))
  have HTX := Hid.mk h.text
  have HB0 := Hid.mk (spW_bx w s)
  have HBel := Hid.mk (spW_below w s)
  have HIT := Hid.mk (fun (w' : World) (B : Nat → Prop) (u : Value) (h1 : Rl w' B t.l u) (h2 : t.s.size ≤ maxLen) => specRexText_any t B u w' h1 h2)
  have h1000 : ¬ (1000 : Int) < (s.size : Int) := by omega
  have hss : (s.toList != s.toList) = false := by simp
  clear h
  go_enter Tryz.func123, Tryz.ntmps123
  go_wp2_with fail
  refine HRd.out.mono ?_
  rintro e w1 ⟨hg1, t1, u, p1, rfl, hsz, how, hp1, hp2, hcase⟩
  rw [List.drop_zero, HQ.out] at hcase
  rcases hcase with ⟨hr0, _⟩ | ⟨hrd, hpp, hsd⟩
  · cases hr0
  injection hrd with hrd
  injection hrd with ht1 hq1
  subst ht1
  have hpe : p1 = s.size := by
    have := congrArg List.length hq1
    rw [List.length_drop, txt_length] at this
    simp at this
    omega
  subst hpe
  obtain ⟨au, cu, rfl⟩ := how.value
  have hbw : Below w1.heap.size w1 (w1.alloc (.cells #[.int .i64 t.k, .string t.s, .slice au t.l.length cu] 187)) := (Below.refl _ _).alloc (Nat.le_refl _) _
  have hs1 : w.heap.size + 2 ≤ w1.heap.size := by have := hg1.size; simpa using this
  have HB1 := Hid.mk ((HB0.out.gb hg1 (by omega)).kept (hbw.block _ (HB0.out.gb hg1 (by omega)).lt))
  have HBel1 := Hid.mk ((below_gb HBel.out hg1 (by omega)).trans (hbw.mono (by omega)))
  have HX1 := Hid.mk (Bx3.new w1 (.int .i64 t.k) (.string t.s) (.slice au t.l.length cu))
  have HO1 := Hid.mk ((how.grow hbw).mono (C := newFrom (w.heap.size + 1)) (fun b hb => by unfold newFrom at *; simp at hb; omega))
  have HT := Hid.mk (HIT.out _ _ _ HO1.out.rl hsz)
  have HSZ := Hid.mk hsz
  rw [HTX.out] at HT
  have HS1 := Hid.mk (hsd.grow hbw)
  obtain ⟨tk, htk⟩ : ∃ tk, t.k = tk := ⟨_, rfl⟩
  obtain ⟨ts, hts⟩ : ∃ ts, t.s = ts := ⟨_, rfl⟩
  rw [htk, hts] at HB1 HBel1 HX1 HO1 HT HS1
  rw [htk, hts]
  have d1 := HS1.out.c1
  have d2 := HS1.out.c2
  have HTK := Hid.mk htk
  have HTS := Hid.mk hts
  clear HRd HQ HB0 HBel HIT hg1 hsd hsz how hbw htk hts hq1 HTX hp1 hp2 hpp
  go_wp2_with fail
  refine HT.out.mono ?_
  rintro e w3 ⟨rfl, hb3⟩
  have HB3 := Hid.mk (HB1.out.kept (hb3.block _ HB1.out.lt))
  have HX3 := Hid.mk (HX1.out.kept (hb3.block _ HX1.out.lt))
  have HO3 := Hid.mk (HO1.out.grow hb3)
  have HBel3 := Hid.mk (HBel1.out.trans (hb3.mono HBel1.out.size))
  have c0 := HB3.out.c0
  have c1 := HB3.out.c1
  have c2 := HB3.out.c2
  have f0 := HB3.out.fr
  have x0 := HX3.out.c0
  have x1 := HX3.out.c1
  have x2 := HX3.out.c2
  clear HT hb3 HB1 HX1 HO1 HBel1 HS1 d1 d2
  go_wp2
  have hput := HB3.out.put (.int .i64 tk) (.string ts) (.slice au t.l.length cu)
  have hop := HO3.out.set3 (b := w.heap.size) (by unfold newFrom; omega) (.int .i64 tk) (.string ts) (.slice au t.l.length cu)
  have hbp : Below w.heap.size w (set3 w3 w.heap.size (.int .i64 tk) (.string ts) (.slice au t.l.length cu)) := ((HBel3.out.setCell (Nat.le_refl _) _).setCell (Nat.le_refl _) _).setCell (Nat.le_refl _) _
  unfold set3 at hput hop hbp
  generalize ((w3.setCell ⟨w.heap.size, 0, none⟩ (.int .i64 tk)).setCell ⟨w.heap.size, 1, none⟩ (.string ts)).setCell ⟨w.heap.size, 2, none⟩ (.slice au t.l.length cu) = W at hput hop hbp ⊢
  have r0 := hput.c0
  have r1 := hput.c1
  have r2 := hput.c2
  refine bodyPost_ret (v := .tuple #[rx tk ts (.slice au t.l.length cu), .bool true]) ?_ rfl ⟨_, by first | rfl | (rw [HTK.out, HTS.out]), hop.mono (fun b hb => by unfold newFrom at *; omega), by first | exact HSZ.out | (rw [← HTS.out]; exact HSZ.out), hbp⟩
  simp [results, Tryz.results123, go_sem, r0, r1, r2]

set_option maxHeartbeats 2000000 in
theorem specParse_no (s : ByteArray) (w : World) (hs : s.size ≤ 1048576) (hno : ∀ t, ¬ IsTx s t) :
    Calls Tryz.prog 123 #[.string s] w fun e w' => e = .returned (.tuple #[rx 0 ⟨#[]⟩ (.slice none 0 0), .bool false]) ∧ Below w.heap.size w w' := by
  by_cases h1000 : (1000 : Int) < (s.size : Int)
  · clear hno
    go_enter Tryz.func123, Tryz.ntmps123
    go_wp2
    refine bodyPost_ret (v := .tuple #[rx 0 ⟨#[]⟩ (.slice none 0 0), .bool false]) ?_ rfl ⟨rfl, (Below.refl _ _).alloc (Nat.le_refl _) _⟩
    simp [results, Tryz.results123, go_sem]
  have HRd := Hid.mk (alt_any 8 (by omega) s (w.heap.size + 1) 0 (spW w s) (spW_sds w s) (Nat.zero_le _) hs)
  have HNO := Hid.mk (fun t q (h : rd 9 (txt s) = some (t, q)) => not_text hno h)
  have HB0 := Hid.mk (spW_bx w s)
  have HBel := Hid.mk (spW_below w s)
  clear hno
  go_enter Tryz.func123, Tryz.ntmps123
  go_wp2_with fail
  refine HRd.out.mono ?_
  rintro e w1 ⟨hg1, t, u, p1, rfl, hsz, how, hp1, hp2, hcase⟩
  rw [List.drop_zero] at hcase
  obtain ⟨au, cu, rfl⟩ := how.value
  have hbw : Below w1.heap.size w1 (w1.alloc (.cells #[.int .i64 t.k, .string t.s, .slice au t.l.length cu] 187)) := (Below.refl _ _).alloc (Nat.le_refl _) _
  have hs1 : w.heap.size + 2 ≤ w1.heap.size := by have := hg1.size; simpa using this
  have hB1 := HB0.out.gb hg1 (by omega)
  have HB1 := Hid.mk (hB1.kept (hbw.block _ hB1.lt))
  have HBel1 := Hid.mk ((below_gb HBel.out hg1 (by omega)).trans (hbw.mono (by omega)))
  have HT := Hid.mk (specRexText_any t _ _ _ (how.grow hbw).rl hsz)
  have HBw := Hid.mk hB1
  obtain ⟨RT, hRT⟩ : ∃ RT, rexS t = RT := ⟨_, rfl⟩
  obtain ⟨W1, hW1⟩ : ∃ W1, w1.alloc (.cells #[.int .i64 t.k, .string t.s, .slice au t.l.length cu] 187) = W1 := ⟨_, rfl⟩
  have hcase2 : (∃ d', Sds W1 (w.heap.size + 1) s p1 true d') ∨ (Sds W1 (w.heap.size + 1) s p1 false 0 ∧ RT ≠ s) := by
    rw [← hW1]
    rcases hcase with ⟨_, d', hsd, _, _⟩ | ⟨hrd, _, hsd⟩
    · exact Or.inl ⟨d', hsd.grow hbw⟩
    · exact Or.inr ⟨hsd.grow hbw, by rw [← hRT]; exact HNO.out _ _ hrd⟩
  obtain ⟨tk, htk⟩ : ∃ tk, t.k = tk := ⟨_, rfl⟩
  obtain ⟨ts, hts⟩ : ∃ ts, t.s = ts := ⟨_, rfl⟩
  rw [hRT, htk, hts] at HT
  rw [htk, hts] at HBel1 HB1 hW1
  rw [htk, hts]
  subst hW1
  clear HRd HNO HB0 HBel hg1 hcase hsz how hbw hRT htk hts hB1 HBw
  have c0 := HB1.out.c0
  have c1 := HB1.out.c1
  have c2 := HB1.out.c2
  have f0 := HB1.out.fr
  rcases hcase2 with ⟨d', hsd⟩ | ⟨hsd, hneq⟩
  · have d1 := hsd.c1
    have d2 := hsd.c2
    clear hsd HT
    go_wp2
    have hput := HB1.out.put (.int .i64 0) (.string ⟨#[]⟩) (.slice none 0 0)
    have hbp : Below w.heap.size w (set3 (w1.alloc (.cells #[.int .i64 tk, .string ts, .slice au t.l.length cu] 187)) w.heap.size (.int .i64 0) (.string ⟨#[]⟩) (.slice none 0 0)) := ((HBel1.out.setCell (Nat.le_refl _) _).setCell (Nat.le_refl _) _).setCell (Nat.le_refl _) _
    unfold set3 at hput hbp
    generalize (((w1.alloc (.cells #[.int .i64 tk, .string ts, .slice au t.l.length cu] 187)).setCell ⟨w.heap.size, 0, none⟩ (.int .i64 0)).setCell ⟨w.heap.size, 1, none⟩ (.string ⟨#[]⟩)).setCell ⟨w.heap.size, 2, none⟩ (.slice none 0 0) = WW at hput hbp ⊢
    have r0 := hput.c0
    have r1 := hput.c1
    have r2 := hput.c2
    refine bodyPost_ret (v := .tuple #[rx 0 ⟨#[]⟩ (.slice none 0 0), .bool false]) ?_ rfl ⟨rfl, hbp⟩
    simp [results, Tryz.results123, go_sem, r0, r1, r2]
  have d1 := hsd.c1
  have d2 := hsd.c2
  clear hsd
  have hss : (RT.toList == s.toList) = false := by
    rw [beq_eq_false_iff_ne]
    intro e
    apply hneq
    apply ByteArray.ext
    apply Array.toList_inj.1
    rw [← ByteArray.toList_eq, ← ByteArray.toList_eq]; exact e
  clear hneq
  by_cases hpe : p1 = s.size
  · subst hpe
    go_wp2_with fail
    refine HT.out.mono ?_
    rintro e w3 ⟨rfl, hb3⟩
    have HB3 := Hid.mk (HB1.out.kept (hb3.block _ HB1.out.lt))
    have HBel3 := Hid.mk (HBel1.out.trans (hb3.mono HBel1.out.size))
    have e0 := HB3.out.c0
    have e1 := HB3.out.c1
    have e2 := HB3.out.c2
    have g0 := HB3.out.fr
    clear HT hb3 HB1 HBel1 d1 d2 c0 c1 c2 f0
    go_wp2
    have hput := HB3.out.put (.int .i64 0) (.string ⟨#[]⟩) (.slice none 0 0)
    have hbp : Below w.heap.size w (set3 (w3) w.heap.size (.int .i64 0) (.string ⟨#[]⟩) (.slice none 0 0)) := ((HBel3.out.setCell (Nat.le_refl _) _).setCell (Nat.le_refl _) _).setCell (Nat.le_refl _) _
    unfold set3 at hput hbp
    generalize (((w3).setCell ⟨w.heap.size, 0, none⟩ (.int .i64 0)).setCell ⟨w.heap.size, 1, none⟩ (.string ⟨#[]⟩)).setCell ⟨w.heap.size, 2, none⟩ (.slice none 0 0) = WW at hput hbp ⊢
    have r0 := hput.c0
    have r1 := hput.c1
    have r2 := hput.c2
    refine bodyPost_ret (v := .tuple #[rx 0 ⟨#[]⟩ (.slice none 0 0), .bool false]) ?_ rfl ⟨rfl, hbp⟩
    simp [results, Tryz.results123, go_sem, r0, r1, r2]
  · have hpi : ((p1 : Int) == (s.size : Int)) = false := by rw [beq_eq_false_iff_ne]; omega
    have hpd : ¬ ((p1 : Int) = (s.size : Int)) := by omega
    clear HT hpe
    go_wp2
    have hput := HB1.out.put (.int .i64 0) (.string ⟨#[]⟩) (.slice none 0 0)
    have hbp : Below w.heap.size w (set3 (w1.alloc (.cells #[.int .i64 tk, .string ts, .slice au t.l.length cu] 187)) w.heap.size (.int .i64 0) (.string ⟨#[]⟩) (.slice none 0 0)) := ((HBel1.out.setCell (Nat.le_refl _) _).setCell (Nat.le_refl _) _).setCell (Nat.le_refl _) _
    unfold set3 at hput hbp
    generalize (((w1.alloc (.cells #[.int .i64 tk, .string ts, .slice au t.l.length cu] 187)).setCell ⟨w.heap.size, 0, none⟩ (.int .i64 0)).setCell ⟨w.heap.size, 1, none⟩ (.string ⟨#[]⟩)).setCell ⟨w.heap.size, 2, none⟩ (.slice none 0 0) = WW at hput hbp ⊢
    have r0 := hput.c0
    have r1 := hput.c1
    have r2 := hput.c2
    refine bodyPost_ret (v := .tuple #[rx 0 ⟨#[]⟩ (.slice none 0 0), .bool false]) ?_ rfl ⟨rfl, hbp⟩
    simp [results, Tryz.results123, go_sem, r0, r1, r2]
end Go.Proofs.YtgigalcajgjpnaaGreat

namespace Go.Proofs.YtgigalcajgjpnaaGreat
open Go.RowKit
set_option maxRecDepth 8000

set_option maxHeartbeats 1000000 in
theorem l8Rex_any (s : ByteArray) (w : World) (hs : s.size ≤ 1048576) : Calls Tryz.prog 112 #[.string s] w fun e w' => e = .returned (.bool (rtB s)) ∧ Below w.heap.size w w' := by
  by_cases h : ∃ t, IsTx s t
  · obtain ⟨t, ht⟩ := h
    have HP := Hid.mk (fun w => specParse_yes s t w ht)
    have HR : Hid (rtB s = decide (s.size ≤ 200)) := by
      show _ = _
      by_cases h2 : s.size ≤ 200
      · rw [rt_yes h2 ht, decide_eq_true h2]
      · rw [rt_long (by omega), decide_eq_false h2]
    clear ht
    obtain ⟨k, hk⟩ : ∃ k, t.k = k := ⟨_, rfl⟩
    obtain ⟨ts, hts⟩ : ∃ ts, t.s = ts := ⟨_, rfl⟩
    rw [hk, hts] at HP
    rw [HR.out]
    clear hk hts HR
    have hd : decide ((s.size : Int) ≤ 200) = decide (s.size ≤ 200) := decide_eq_decide.2 (by omega)
    rw [← hd]
    clear hd
    go_enter Tryz.func112, Tryz.ntmps112
    go_wp2_with fail
    refine (HP.out _).mono ?_
    rintro e w1 ⟨u, rfl, ho, -, hb1⟩
    obtain ⟨au, cu, rfl⟩ := ho.value
    have HB := Hid.mk (fun o => hb1.alloc hb1.size o)
    clear HP hb1 ho
    go_wp2
    go_ret
    exact ⟨rfl, HB.out _⟩
  · have hno : ∀ t, ¬ IsTx s t := fun t ht => h ⟨t, ht⟩
    have H := Hid.mk (rt_no hno)
    have HP := Hid.mk (fun w => specParse_no s w hs hno)
    clear h hno
    go_enter Tryz.func112, Tryz.ntmps112
    go_wp2_with fail
    refine (HP.out _).mono ?_
    rintro e w1 ⟨rfl, hb1⟩
    have HB := Hid.mk (fun o => hb1.alloc hb1.size o)
    clear HP hb1
    go_wp2
    go_ret
    exact ⟨ret_tb H.out.symm, HB.out _⟩

theorem nodeN_n {k n : Int} {s : ByteArray} {L : Nat} (hk : k ≠ 1) (hn : n ≠ 0) : nodeN k n s L = false := by
  unfold nodeN
  rw [if_neg hk, beq_false_of_ne hn]
  rfl
theorem nodeN_2 (s : ByteArray) (L : Nat) : nodeN 2 0 s L = (prB 39 s && ((L : Int) == 0)) := by
  unfold nodeN nodeK
  rw [show ((L : Int) == 0) = (L == 0) from len_beq L 0]
  simp (decide := true) only [if_false, if_true, beq_self_eq_true, Bool.true_and]
theorem nodeN_3 (s : ByteArray) (L : Nat) : nodeN 3 0 s L = (nmB s && ((L : Int) == 0)) := by
  unfold nodeN nodeK
  rw [show ((L : Int) == 0) = (L == 0) from len_beq L 0]
  simp (decide := true) only [if_false, if_true, beq_self_eq_true, Bool.true_and]
theorem nodeN_4 (s : ByteArray) (L : Nat) : nodeN 4 0 s L = (nmB s && ((L : Int) == 1)) := by
  unfold nodeN nodeK
  rw [show ((L : Int) == 1) = (L == 1) from len_beq L 1]
  simp (decide := true) only [if_false, if_true, beq_self_eq_true, Bool.true_and]
theorem nodeN_5 (s : ByteArray) (L : Nat) : nodeN 5 0 s L = (s.toList.isEmpty && ((L : Int) == 1)) := by
  unfold nodeN nodeK
  rw [show ((L : Int) == 1) = (L == 1) from len_beq L 1]
  simp (decide := true) only [if_false, if_true, beq_self_eq_true, Bool.true_and]
theorem nodeN_6 (s : ByteArray) (L : Nat) : nodeN 6 0 s L = (opB s && ((L : Int) == 2)) := by
  unfold nodeN nodeK
  rw [show ((L : Int) == 2) = (L == 2) from len_beq L 2]
  simp (decide := true) only [if_false, if_true, beq_self_eq_true, Bool.true_and]
theorem nodeN_7 (s : ByteArray) (L : Nat) : nodeN 7 0 s L = (s.toList.isEmpty && ((L : Int) == 1)) := by
  unfold nodeN nodeK
  rw [show ((L : Int) == 1) = (L == 1) from len_beq L 1]
  simp (decide := true) only [if_false, if_true, beq_self_eq_true, Bool.true_and]
theorem nodeN_8 (s : ByteArray) (L : Nat) : nodeN 8 0 s L = (s.toList.isEmpty && ((L : Int) == 1)) := by
  unfold nodeN nodeK
  rw [show ((L : Int) == 1) = (L == 1) from len_beq L 1]
  simp (decide := true) only [if_false, if_true, beq_self_eq_true, Bool.true_and]
theorem nodeN_9 (s : ByteArray) (L : Nat) : nodeN 9 0 s L = (nmB s && ((L : Int) == 1)) := by
  unfold nodeN nodeK
  rw [show ((L : Int) == 1) = (L == 1) from len_beq L 1]
  simp (decide := true) only [if_false, if_true, beq_self_eq_true, Bool.true_and]
theorem nodeN_10 (s : ByteArray) (L : Nat) : nodeN 10 0 s L = (rtB s && ((L : Int) == 1)) := by
  unfold nodeN nodeK
  rw [show ((L : Int) == 1) = (L == 1) from len_beq L 1]
  simp (decide := true) only [if_false, if_true, beq_self_eq_true, Bool.true_and]
theorem nodeN_11 (s : ByteArray) (L : Nat) : nodeN 11 0 s L = (nmB s && decide (L ≤ 4)) := by
  unfold nodeN nodeK
  simp (decide := true) only [if_false, if_true, beq_self_eq_true, Bool.true_and]
theorem nodeN_12 (s : ByteArray) (L : Nat) : nodeN 12 0 s L = (s.toList.isEmpty && ((L : Int) == 1)) := by
  unfold nodeN nodeK
  rw [show ((L : Int) == 1) = (L == 1) from len_beq L 1]
  simp (decide := true) only [if_false, if_true, beq_self_eq_true, Bool.true_and]
theorem nodeN_13 (s : ByteArray) (L : Nat) : nodeN 13 0 s L = (s.toList.isEmpty && ((L : Int) == 3)) := by
  unfold nodeN nodeK
  rw [show ((L : Int) == 3) = (L == 3) from len_beq L 3]
  simp (decide := true) only [if_false, if_true, beq_self_eq_true, Bool.true_and]
theorem nodeN_14 (s : ByteArray) (L : Nat) : nodeN 14 0 s L = (s.toList.isEmpty && ((L : Int) == 0)) := by
  unfold nodeN nodeK
  rw [show ((L : Int) == 0) = (L == 0) from len_beq L 0]
  simp (decide := true) only [if_false, if_true, beq_self_eq_true, Bool.true_and]
theorem nodeN_15 (s : ByteArray) (L : Nat) : nodeN 15 0 s L = (s.toList.isEmpty && ((L : Int) == 0)) := by
  unfold nodeN nodeK
  rw [show ((L : Int) == 0) = (L == 0) from len_beq L 0]
  simp (decide := true) only [if_false, if_true, beq_self_eq_true, Bool.true_and]
theorem nodeN_16 (s : ByteArray) (L : Nat) : nodeN 16 0 s L = (s.toList.isEmpty && ((L : Int) == 2)) := by
  unfold nodeN nodeK
  rw [show ((L : Int) == 2) = (L == 2) from len_beq L 2]
  simp (decide := true) only [if_false, if_true, beq_self_eq_true, Bool.true_and]
theorem nodeN_17 (s : ByteArray) (L : Nat) : nodeN 17 0 s L = (s.toList.isEmpty && ((L : Int) == 1)) := by
  unfold nodeN nodeK
  rw [show ((L : Int) == 1) = (L == 1) from len_beq L 1]
  simp (decide := true) only [if_false, if_true, beq_self_eq_true, Bool.true_and]
theorem nodeN_18 (s : ByteArray) (L : Nat) : nodeN 18 0 s L = (rtB s && ((L : Int) == 2)) := by
  unfold nodeN nodeK
  rw [show ((L : Int) == 2) = (L == 2) from len_beq L 2]
  simp (decide := true) only [if_false, if_true, beq_self_eq_true, Bool.true_and]

set_option maxHeartbeats 1000000 in
theorem here_2 (s : ByteArray) (ao : Option Addr) (L cap : Nat) (w : World) (hs : s.size ≤ maxLen) : Calls Tryz.prog 93 #[xx 2 0 s (.slice ao L cap)] w fun e w' => e = .returned (.bool (nodeN 2 0 s L)) ∧ Below w.heap.size w w' := by
  have A0 : Below w.heap.size w (w.alloc (.cells #[.int .i64 2, .int .i64 0, .string s, .slice ao L cap] 41)) := (Below.refl _ _).alloc (Nat.le_refl _) _
  have HC := Hid.mk (fun w => l7Print_any s 39 w hs)
  rw [nodeN_2]
  generalize prB 39 s = b at *
  clear hs
  cases b with
  | false =>
    go_enter Tryz.func93, Tryz.ntmps93
    go_wp2_with fail
    refine (HC.out _).mono ?_
    rintro e w1 ⟨rfl, hw1⟩
    subst hw1
    have B1 := A0
    clear A0 HC
    go_wp2
    go_ret
    exact ⟨rfl, B1⟩
  | true =>
    go_enter Tryz.func93, Tryz.ntmps93
    go_wp2_with fail
    refine (HC.out _).mono ?_
    rintro e w1 ⟨rfl, hw1⟩
    subst hw1
    have B1 := A0
    clear A0 HC
    go_wp2
    go_ret
    exact ⟨ret_tb (by simp), B1⟩

set_option maxHeartbeats 1000000 in
theorem here_3 (s : ByteArray) (ao : Option Addr) (L cap : Nat) (w : World) (hs : s.size ≤ maxLen) : Calls Tryz.prog 93 #[xx 3 0 s (.slice ao L cap)] w fun e w' => e = .returned (.bool (nodeN 3 0 s L)) ∧ Below w.heap.size w w' := by
  have A0 : Below w.heap.size w (w.alloc (.cells #[.int .i64 3, .int .i64 0, .string s, .slice ao L cap] 41)) := (Below.refl _ _).alloc (Nat.le_refl _) _
  have HC := Hid.mk (fun w => specNameOk_any s w hs)
  rw [nodeN_3]
  generalize nmB s = b at *
  clear hs
  cases b with
  | false =>
    go_enter Tryz.func93, Tryz.ntmps93
    go_wp2_with fail
    refine (HC.out _).mono ?_
    rintro e w1 ⟨rfl, hb1⟩
    have B1 := A0.trans (hb1.mono (by simp))
    have hc1 := fun o => hb1.cell (p := ⟨w.heap.size, o, none⟩) (by simp)
    clear A0 hb1 HC
    go_wp2
    go_ret
    exact ⟨rfl, B1⟩
  | true =>
    go_enter Tryz.func93, Tryz.ntmps93
    go_wp2_with fail
    refine (HC.out _).mono ?_
    rintro e w1 ⟨rfl, hb1⟩
    have B1 := A0.trans (hb1.mono (by simp))
    have hc1 := fun o => hb1.cell (p := ⟨w.heap.size, o, none⟩) (by simp)
    clear A0 hb1 HC
    go_wp2
    go_ret
    exact ⟨ret_tb (by simp), B1⟩

set_option maxHeartbeats 1000000 in
theorem here_4 (s : ByteArray) (ao : Option Addr) (L cap : Nat) (w : World) (hs : s.size ≤ maxLen) : Calls Tryz.prog 93 #[xx 4 0 s (.slice ao L cap)] w fun e w' => e = .returned (.bool (nodeN 4 0 s L)) ∧ Below w.heap.size w w' := by
  have A0 : Below w.heap.size w (w.alloc (.cells #[.int .i64 4, .int .i64 0, .string s, .slice ao L cap] 41)) := (Below.refl _ _).alloc (Nat.le_refl _) _
  have HC := Hid.mk (fun w => specNameOk_any s w hs)
  rw [nodeN_4]
  generalize nmB s = b at *
  clear hs
  cases b with
  | false =>
    go_enter Tryz.func93, Tryz.ntmps93
    go_wp2_with fail
    refine (HC.out _).mono ?_
    rintro e w1 ⟨rfl, hb1⟩
    have B1 := A0.trans (hb1.mono (by simp))
    have hc1 := fun o => hb1.cell (p := ⟨w.heap.size, o, none⟩) (by simp)
    clear A0 hb1 HC
    go_wp2
    go_ret
    exact ⟨rfl, B1⟩
  | true =>
    go_enter Tryz.func93, Tryz.ntmps93
    go_wp2_with fail
    refine (HC.out _).mono ?_
    rintro e w1 ⟨rfl, hb1⟩
    have B1 := A0.trans (hb1.mono (by simp))
    have hc1 := fun o => hb1.cell (p := ⟨w.heap.size, o, none⟩) (by simp)
    clear A0 hb1 HC
    go_wp2
    go_ret
    exact ⟨ret_tb (by simp), B1⟩

set_option maxHeartbeats 1000000 in
theorem here_5 (s : ByteArray) (ao : Option Addr) (L cap : Nat) (w : World) : Calls Tryz.prog 93 #[xx 5 0 s (.slice ao L cap)] w fun e w' => e = .returned (.bool (nodeN 5 0 s L)) ∧ Below w.heap.size w w' := by
  have A0 : Below w.heap.size w (w.alloc (.cells #[.int .i64 5, .int .i64 0, .string s, .slice ao L cap] 41)) := (Below.refl _ _).alloc (Nat.le_refl _) _
  rw [nodeN_5]
  cases h : s.toList.isEmpty with
  | false =>
    go_enter Tryz.func93, Tryz.ntmps93
    go_wp2
    go_ret
    exact ⟨rfl, A0⟩
  | true =>
    go_enter Tryz.func93, Tryz.ntmps93
    go_wp2
    go_ret
    exact ⟨ret_tb (by simp), A0⟩

set_option maxHeartbeats 1000000 in
theorem here_7 (s : ByteArray) (ao : Option Addr) (L cap : Nat) (w : World) : Calls Tryz.prog 93 #[xx 7 0 s (.slice ao L cap)] w fun e w' => e = .returned (.bool (nodeN 7 0 s L)) ∧ Below w.heap.size w w' := by
  have A0 : Below w.heap.size w (w.alloc (.cells #[.int .i64 7, .int .i64 0, .string s, .slice ao L cap] 41)) := (Below.refl _ _).alloc (Nat.le_refl _) _
  rw [nodeN_7]
  cases h : s.toList.isEmpty with
  | false =>
    go_enter Tryz.func93, Tryz.ntmps93
    go_wp2
    go_ret
    exact ⟨rfl, A0⟩
  | true =>
    go_enter Tryz.func93, Tryz.ntmps93
    go_wp2
    go_ret
    exact ⟨ret_tb (by simp), A0⟩

set_option maxHeartbeats 1000000 in
theorem here_8 (s : ByteArray) (ao : Option Addr) (L cap : Nat) (w : World) : Calls Tryz.prog 93 #[xx 8 0 s (.slice ao L cap)] w fun e w' => e = .returned (.bool (nodeN 8 0 s L)) ∧ Below w.heap.size w w' := by
  have A0 : Below w.heap.size w (w.alloc (.cells #[.int .i64 8, .int .i64 0, .string s, .slice ao L cap] 41)) := (Below.refl _ _).alloc (Nat.le_refl _) _
  rw [nodeN_8]
  cases h : s.toList.isEmpty with
  | false =>
    go_enter Tryz.func93, Tryz.ntmps93
    go_wp2
    go_ret
    exact ⟨rfl, A0⟩
  | true =>
    go_enter Tryz.func93, Tryz.ntmps93
    go_wp2
    go_ret
    exact ⟨ret_tb (by simp), A0⟩

set_option maxHeartbeats 1000000 in
theorem here_9 (s : ByteArray) (ao : Option Addr) (L cap : Nat) (w : World) (hs : s.size ≤ maxLen) : Calls Tryz.prog 93 #[xx 9 0 s (.slice ao L cap)] w fun e w' => e = .returned (.bool (nodeN 9 0 s L)) ∧ Below w.heap.size w w' := by
  have A0 : Below w.heap.size w (w.alloc (.cells #[.int .i64 9, .int .i64 0, .string s, .slice ao L cap] 41)) := (Below.refl _ _).alloc (Nat.le_refl _) _
  have HC := Hid.mk (fun w => specNameOk_any s w hs)
  rw [nodeN_9]
  generalize nmB s = b at *
  clear hs
  cases b with
  | false =>
    go_enter Tryz.func93, Tryz.ntmps93
    go_wp2_with fail
    refine (HC.out _).mono ?_
    rintro e w1 ⟨rfl, hb1⟩
    have B1 := A0.trans (hb1.mono (by simp))
    have hc1 := fun o => hb1.cell (p := ⟨w.heap.size, o, none⟩) (by simp)
    clear A0 hb1 HC
    go_wp2
    go_ret
    exact ⟨rfl, B1⟩
  | true =>
    go_enter Tryz.func93, Tryz.ntmps93
    go_wp2_with fail
    refine (HC.out _).mono ?_
    rintro e w1 ⟨rfl, hb1⟩
    have B1 := A0.trans (hb1.mono (by simp))
    have hc1 := fun o => hb1.cell (p := ⟨w.heap.size, o, none⟩) (by simp)
    clear A0 hb1 HC
    go_wp2
    go_ret
    exact ⟨ret_tb (by simp), B1⟩

set_option maxHeartbeats 1000000 in
theorem here_10 (s : ByteArray) (ao : Option Addr) (L cap : Nat) (w : World) (hs : s.size ≤ 1048576) : Calls Tryz.prog 93 #[xx 10 0 s (.slice ao L cap)] w fun e w' => e = .returned (.bool (nodeN 10 0 s L)) ∧ Below w.heap.size w w' := by
  have A0 : Below w.heap.size w (w.alloc (.cells #[.int .i64 10, .int .i64 0, .string s, .slice ao L cap] 41)) := (Below.refl _ _).alloc (Nat.le_refl _) _
  have HC := Hid.mk (fun w => l8Rex_any s w hs)
  rw [nodeN_10]
  generalize rtB s = b at *
  clear hs
  cases b with
  | false =>
    go_enter Tryz.func93, Tryz.ntmps93
    go_wp2_with fail
    refine (HC.out _).mono ?_
    rintro e w1 ⟨rfl, hb1⟩
    have B1 := A0.trans (hb1.mono (by simp))
    have hc1 := fun o => hb1.cell (p := ⟨w.heap.size, o, none⟩) (by simp)
    clear A0 hb1 HC
    go_wp2
    go_ret
    exact ⟨rfl, B1⟩
  | true =>
    go_enter Tryz.func93, Tryz.ntmps93
    go_wp2_with fail
    refine (HC.out _).mono ?_
    rintro e w1 ⟨rfl, hb1⟩
    have B1 := A0.trans (hb1.mono (by simp))
    have hc1 := fun o => hb1.cell (p := ⟨w.heap.size, o, none⟩) (by simp)
    clear A0 hb1 HC
    go_wp2
    go_ret
    exact ⟨ret_tb (by simp), B1⟩

set_option maxHeartbeats 1000000 in
theorem here_11 (s : ByteArray) (ao : Option Addr) (L cap : Nat) (w : World) (hs : s.size ≤ maxLen) : Calls Tryz.prog 93 #[xx 11 0 s (.slice ao L cap)] w fun e w' => e = .returned (.bool (nodeN 11 0 s L)) ∧ Below w.heap.size w w' := by
  have A0 : Below w.heap.size w (w.alloc (.cells #[.int .i64 11, .int .i64 0, .string s, .slice ao L cap] 41)) := (Below.refl _ _).alloc (Nat.le_refl _) _
  have HC := Hid.mk (fun w => specNameOk_any s w hs)
  rw [nodeN_11]
  generalize nmB s = b at *
  clear hs
  cases b with
  | false =>
    go_enter Tryz.func93, Tryz.ntmps93
    go_wp2_with fail
    refine (HC.out _).mono ?_
    rintro e w1 ⟨rfl, hb1⟩
    have B1 := A0.trans (hb1.mono (by simp))
    have hc1 := fun o => hb1.cell (p := ⟨w.heap.size, o, none⟩) (by simp)
    clear A0 hb1 HC
    go_wp2
    go_ret
    exact ⟨rfl, B1⟩
  | true =>
    by_cases h4 : L ≤ 4
    · have hi : (L : Int) ≤ 4 := by omega
      rw [decide_eq_true h4]
      clear h4
      go_enter Tryz.func93, Tryz.ntmps93
      go_wp2_with fail
      refine (HC.out _).mono ?_
      rintro e w1 ⟨rfl, hb1⟩
      have B1 := A0.trans (hb1.mono (by simp))
      have hc1 := fun o => hb1.cell (p := ⟨w.heap.size, o, none⟩) (by simp)
      clear A0 hb1 HC
      go_wp2
      go_ret
      exact ⟨rfl, B1⟩
    · have hi : ¬ (L : Int) ≤ 4 := by omega
      rw [decide_eq_false h4]
      clear h4
      go_enter Tryz.func93, Tryz.ntmps93
      go_wp2_with fail
      refine (HC.out _).mono ?_
      rintro e w1 ⟨rfl, hb1⟩
      have B1 := A0.trans (hb1.mono (by simp))
      have hc1 := fun o => hb1.cell (p := ⟨w.heap.size, o, none⟩) (by simp)
      clear A0 hb1 HC
      go_wp2
      go_ret
      exact ⟨ret_tb (by simp; omega), B1⟩

set_option maxHeartbeats 1000000 in
theorem here_12 (s : ByteArray) (ao : Option Addr) (L cap : Nat) (w : World) : Calls Tryz.prog 93 #[xx 12 0 s (.slice ao L cap)] w fun e w' => e = .returned (.bool (nodeN 12 0 s L)) ∧ Below w.heap.size w w' := by
  have A0 : Below w.heap.size w (w.alloc (.cells #[.int .i64 12, .int .i64 0, .string s, .slice ao L cap] 41)) := (Below.refl _ _).alloc (Nat.le_refl _) _
  rw [nodeN_12]
  cases h : s.toList.isEmpty with
  | false =>
    go_enter Tryz.func93, Tryz.ntmps93
    go_wp2
    go_ret
    exact ⟨rfl, A0⟩
  | true =>
    go_enter Tryz.func93, Tryz.ntmps93
    go_wp2
    go_ret
    exact ⟨ret_tb (by simp), A0⟩

set_option maxHeartbeats 1000000 in
theorem here_13 (s : ByteArray) (ao : Option Addr) (L cap : Nat) (w : World) : Calls Tryz.prog 93 #[xx 13 0 s (.slice ao L cap)] w fun e w' => e = .returned (.bool (nodeN 13 0 s L)) ∧ Below w.heap.size w w' := by
  have A0 : Below w.heap.size w (w.alloc (.cells #[.int .i64 13, .int .i64 0, .string s, .slice ao L cap] 41)) := (Below.refl _ _).alloc (Nat.le_refl _) _
  rw [nodeN_13]
  cases h : s.toList.isEmpty with
  | false =>
    go_enter Tryz.func93, Tryz.ntmps93
    go_wp2
    go_ret
    exact ⟨rfl, A0⟩
  | true =>
    go_enter Tryz.func93, Tryz.ntmps93
    go_wp2
    go_ret
    exact ⟨ret_tb (by simp), A0⟩

set_option maxHeartbeats 1000000 in
theorem here_14 (s : ByteArray) (ao : Option Addr) (L cap : Nat) (w : World) : Calls Tryz.prog 93 #[xx 14 0 s (.slice ao L cap)] w fun e w' => e = .returned (.bool (nodeN 14 0 s L)) ∧ Below w.heap.size w w' := by
  have A0 : Below w.heap.size w (w.alloc (.cells #[.int .i64 14, .int .i64 0, .string s, .slice ao L cap] 41)) := (Below.refl _ _).alloc (Nat.le_refl _) _
  rw [nodeN_14]
  cases h : s.toList.isEmpty with
  | false =>
    go_enter Tryz.func93, Tryz.ntmps93
    go_wp2
    go_ret
    exact ⟨rfl, A0⟩
  | true =>
    go_enter Tryz.func93, Tryz.ntmps93
    go_wp2
    go_ret
    exact ⟨ret_tb (by simp), A0⟩

set_option maxHeartbeats 1000000 in
theorem here_15 (s : ByteArray) (ao : Option Addr) (L cap : Nat) (w : World) : Calls Tryz.prog 93 #[xx 15 0 s (.slice ao L cap)] w fun e w' => e = .returned (.bool (nodeN 15 0 s L)) ∧ Below w.heap.size w w' := by
  have A0 : Below w.heap.size w (w.alloc (.cells #[.int .i64 15, .int .i64 0, .string s, .slice ao L cap] 41)) := (Below.refl _ _).alloc (Nat.le_refl _) _
  rw [nodeN_15]
  cases h : s.toList.isEmpty with
  | false =>
    go_enter Tryz.func93, Tryz.ntmps93
    go_wp2
    go_ret
    exact ⟨rfl, A0⟩
  | true =>
    go_enter Tryz.func93, Tryz.ntmps93
    go_wp2
    go_ret
    exact ⟨ret_tb (by simp), A0⟩

set_option maxHeartbeats 1000000 in
theorem here_16 (s : ByteArray) (ao : Option Addr) (L cap : Nat) (w : World) : Calls Tryz.prog 93 #[xx 16 0 s (.slice ao L cap)] w fun e w' => e = .returned (.bool (nodeN 16 0 s L)) ∧ Below w.heap.size w w' := by
  have A0 : Below w.heap.size w (w.alloc (.cells #[.int .i64 16, .int .i64 0, .string s, .slice ao L cap] 41)) := (Below.refl _ _).alloc (Nat.le_refl _) _
  rw [nodeN_16]
  cases h : s.toList.isEmpty with
  | false =>
    go_enter Tryz.func93, Tryz.ntmps93
    go_wp2
    go_ret
    exact ⟨rfl, A0⟩
  | true =>
    go_enter Tryz.func93, Tryz.ntmps93
    go_wp2
    go_ret
    exact ⟨ret_tb (by simp), A0⟩

set_option maxHeartbeats 1000000 in
theorem here_17 (s : ByteArray) (ao : Option Addr) (L cap : Nat) (w : World) : Calls Tryz.prog 93 #[xx 17 0 s (.slice ao L cap)] w fun e w' => e = .returned (.bool (nodeN 17 0 s L)) ∧ Below w.heap.size w w' := by
  have A0 : Below w.heap.size w (w.alloc (.cells #[.int .i64 17, .int .i64 0, .string s, .slice ao L cap] 41)) := (Below.refl _ _).alloc (Nat.le_refl _) _
  rw [nodeN_17]
  cases h : s.toList.isEmpty with
  | false =>
    go_enter Tryz.func93, Tryz.ntmps93
    go_wp2
    go_ret
    exact ⟨rfl, A0⟩
  | true =>
    go_enter Tryz.func93, Tryz.ntmps93
    go_wp2
    go_ret
    exact ⟨ret_tb (by simp), A0⟩

set_option maxHeartbeats 1000000 in
theorem here_18 (s : ByteArray) (ao : Option Addr) (L cap : Nat) (w : World) (hs : s.size ≤ 1048576) : Calls Tryz.prog 93 #[xx 18 0 s (.slice ao L cap)] w fun e w' => e = .returned (.bool (nodeN 18 0 s L)) ∧ Below w.heap.size w w' := by
  have A0 : Below w.heap.size w (w.alloc (.cells #[.int .i64 18, .int .i64 0, .string s, .slice ao L cap] 41)) := (Below.refl _ _).alloc (Nat.le_refl _) _
  have HC := Hid.mk (fun w => l8Rex_any s w hs)
  rw [nodeN_18]
  generalize rtB s = b at *
  clear hs
  cases b with
  | false =>
    go_enter Tryz.func93, Tryz.ntmps93
    go_wp2_with fail
    refine (HC.out _).mono ?_
    rintro e w1 ⟨rfl, hb1⟩
    have B1 := A0.trans (hb1.mono (by simp))
    have hc1 := fun o => hb1.cell (p := ⟨w.heap.size, o, none⟩) (by simp)
    clear A0 hb1 HC
    go_wp2
    go_ret
    exact ⟨rfl, B1⟩
  | true =>
    go_enter Tryz.func93, Tryz.ntmps93
    go_wp2_with fail
    refine (HC.out _).mono ?_
    rintro e w1 ⟨rfl, hb1⟩
    have B1 := A0.trans (hb1.mono (by simp))
    have hc1 := fun o => hb1.cell (p := ⟨w.heap.size, o, none⟩) (by simp)
    clear A0 hb1 HC
    go_wp2
    go_ret
    exact ⟨ret_tb (by simp), B1⟩

set_option maxHeartbeats 1000000 in
theorem here_6 (s : ByteArray) (ao : Option Addr) (L cap : Nat) (w : World) : Calls Tryz.prog 93 #[xx 6 0 s (.slice ao L cap)] w fun e w' => e = .returned (.bool (nodeN 6 0 s L)) ∧ Below w.heap.size w w' := by
  have A0 : Below w.heap.size w (w.alloc (.cells #[.int .i64 6, .int .i64 0, .string s, .slice ao L cap] 41)) := (Below.refl _ _).alloc (Nat.le_refl _) _
  have HO := Hid.mk (fun w => l8Ops_any w)
  have HH := Hid.mk (fun (w' : World) (lb : Nat) (h : Strs w' lb opsS) => l8Has_any opsS lb 14 s w' h rfl (by omega))
  rw [nodeN_6]
  rw [ops_has] at HH
  generalize opB s = b at *
  have c2 : (w.alloc (.cells #[.int .i64 6, .int .i64 0, .string s, .slice ao L cap] 41)).cell? ⟨w.heap.size, 2, none⟩ = some (.string s) := by
    have := heap_alloc_new w (.cells #[.int .i64 6, .int .i64 0, .string s, .slice ao L cap] 41)
    rw [cell_of_row _ w.heap.size 2 _ _ (0, 0) this]
    rfl
  cases b with
  | false =>
    go_enter Tryz.func93, Tryz.ntmps93
    go_wp2_with fail
    generalize w.alloc (.cells #[.int .i64 6, .int .i64 0, .string s, .slice ao L cap] 41) = W at A0 c2 ⊢
    have hlt : w.heap.size < W.heap.size := World.block_lt_of_cell? W _ c2
    have S0 : Below W.heap.size W W.drew := Below.drewSelf _ _ 1
    have HBW := Hid.mk (fun w' (h : Below W.heap.size W w') => A0.trans (h.mono A0.size))
    refine wp_region_held_drew (S := Below W.heap.size W) (by kernel_rfl) S0 (fun _ => ?_)
    refine takeHD (i := 1) (v := .pointer (some ⟨w.heap.size, 2, none⟩)) (some 62) rfl rfl (by kernel_rfl) (by kernel_rfl) (by kernel_rfl) (fun _ _ _ h => h) (Or.inl ⟨by kernel_rfl, fun w' hw => ?_⟩) S0 ?_
    · kernel_rfl
    simp only [Act.put, List.setIfInBounds_toArray]
    refine takeHD (i := 2) (v := .string s) (some 63) rfl rfl (by kernel_rfl) (by kernel_rfl) (by kernel_rfl) (fun _ _ _ h => h) (Or.inl ⟨by kernel_rfl, fun w' hw => ?_⟩) S0 ?_
    · have y : w'.cell? ⟨w.heap.size, 2, none⟩ = some (.string s) := by rw [hw.cell (p := ⟨w.heap.size, 2, none⟩) hlt]; exact c2
      go_simp
    simp only [Act.put, List.setIfInBounds_toArray]
    refine wpAnyH_ready (rs := [0]) (by kernel_rfl) (by simp) ?_
    refine AllReadyH.cons rfl (fun K hK => ?_) AllReadyH.nil
    rw [if_pos (by kernel_rfl)]
    go_wp2_with fail
    refine (HO.out _).mono ?_
    rintro e q1 ⟨rfl, hst, hbq1⟩
    have S1 : Below W.heap.size W q1 := S0.trans (hbq1.mono S0.size)
    refine hK.out _ _ S1 (fun _ => ?_)
    clear hK K hbq1
    refine wpAnyH_ready (rs := [3]) (by kernel_rfl) (by simp) ?_
    refine AllReadyH.cons rfl (fun K hK => ?_) AllReadyH.nil
    rw [if_pos (by kernel_rfl)]
    go_wp2_with fail
    refine (HH.out _ _ hst).mono ?_
    rintro e q2 ⟨rfl, hq2⟩
    subst hq2
    refine hK.out _ _ S1 (fun _ => ?_)
    clear hK K
    refine takeHD (i := 4) (v := .bool false) (some 65) rfl rfl (by kernel_rfl) (by kernel_rfl) (by kernel_rfl) (fun _ _ _ h => h) (Or.inl ⟨by kernel_rfl, fun w' hw => ?_⟩) S1 ?_
    · kernel_rfl
    simp only [Act.put, List.setIfInBounds_toArray]
    refine takeHD (i := 5) (v := undef) (some 66) rfl rfl (by kernel_rfl) (by kernel_rfl) (by kernel_rfl) (fun _ _ _ h => h) (Or.inr ⟨by kernel_rfl, rfl⟩) S1 ?_
    simp only [Act.put, List.setIfInBounds_toArray]
    refine takeHD (i := 6) (v := undef) (some 67) rfl rfl (by kernel_rfl) (by kernel_rfl) (by kernel_rfl) (fun _ _ _ h => h) (Or.inr ⟨by kernel_rfl, rfl⟩) S1 ?_
    simp only [Act.put, List.setIfInBounds_toArray]
    refine takeHD (i := 7) (v := .bool false) (some 68) rfl rfl (by kernel_rfl) (by kernel_rfl) (by kernel_rfl) (fun _ _ _ h => h) (Or.inl ⟨by kernel_rfl, fun w' hw => ?_⟩) S1 ?_
    · kernel_rfl
    simp only [Act.put, List.setIfInBounds_toArray]
    refine takeHD (i := 8) (v := .bool false) (some 2) rfl rfl (by kernel_rfl) (by kernel_rfl) (by kernel_rfl) (fun _ _ _ h => h) (Or.inl ⟨by kernel_rfl, fun w' hw => ?_⟩) S1 ?_
    · kernel_rfl
    simp only [Act.put, List.setIfInBounds_toArray]
    refine wpAnyH_done (by kernel_rfl) ?_ _
    have B9 := HBW.out _ S1
    go_wp2
    go_ret
    exact ⟨rfl, B9⟩
  | true =>
    go_enter Tryz.func93, Tryz.ntmps93
    go_wp2_with fail
    generalize w.alloc (.cells #[.int .i64 6, .int .i64 0, .string s, .slice ao L cap] 41) = W at A0 c2 ⊢
    have hlt : w.heap.size < W.heap.size := World.block_lt_of_cell? W _ c2
    have S0 : Below W.heap.size W W.drew := Below.drewSelf _ _ 1
    have HBW := Hid.mk (fun w' (h : Below W.heap.size W w') => A0.trans (h.mono A0.size))
    refine wp_region_held_drew (S := Below W.heap.size W) (by kernel_rfl) S0 (fun _ => ?_)
    refine takeHD (i := 1) (v := .pointer (some ⟨w.heap.size, 2, none⟩)) (some 62) rfl rfl (by kernel_rfl) (by kernel_rfl) (by kernel_rfl) (fun _ _ _ h => h) (Or.inl ⟨by kernel_rfl, fun w' hw => ?_⟩) S0 ?_
    · kernel_rfl
    simp only [Act.put, List.setIfInBounds_toArray]
    refine takeHD (i := 2) (v := .string s) (some 63) rfl rfl (by kernel_rfl) (by kernel_rfl) (by kernel_rfl) (fun _ _ _ h => h) (Or.inl ⟨by kernel_rfl, fun w' hw => ?_⟩) S0 ?_
    · have y : w'.cell? ⟨w.heap.size, 2, none⟩ = some (.string s) := by rw [hw.cell (p := ⟨w.heap.size, 2, none⟩) hlt]; exact c2
      go_simp
    simp only [Act.put, List.setIfInBounds_toArray]
    refine wpAnyH_ready (rs := [0]) (by kernel_rfl) (by simp) ?_
    refine AllReadyH.cons rfl (fun K hK => ?_) AllReadyH.nil
    rw [if_pos (by kernel_rfl)]
    go_wp2_with fail
    refine (HO.out _).mono ?_
    rintro e q1 ⟨rfl, hst, hbq1⟩
    have S1 : Below W.heap.size W q1 := S0.trans (hbq1.mono S0.size)
    refine hK.out _ _ S1 (fun _ => ?_)
    clear hK K hbq1
    refine wpAnyH_ready (rs := [3]) (by kernel_rfl) (by simp) ?_
    refine AllReadyH.cons rfl (fun K hK => ?_) AllReadyH.nil
    rw [if_pos (by kernel_rfl)]
    go_wp2_with fail
    refine (HH.out _ _ hst).mono ?_
    rintro e q2 ⟨rfl, hq2⟩
    subst hq2
    refine hK.out _ _ S1 (fun _ => ?_)
    clear hK K
    refine takeHD (i := 4) (v := .bool true) (some 65) rfl rfl (by kernel_rfl) (by kernel_rfl) (by kernel_rfl) (fun _ _ _ h => h) (Or.inl ⟨by kernel_rfl, fun w' hw => ?_⟩) S1 ?_
    · kernel_rfl
    simp only [Act.put, List.setIfInBounds_toArray]
    refine takeHD (i := 5) (v := .int .i64 (L : Int)) (some 66) rfl rfl (by kernel_rfl) (by kernel_rfl) (by kernel_rfl) (fun _ _ _ h => h) (Or.inl ⟨by kernel_rfl, fun w' hw => ?_⟩) S1 ?_
    · kernel_rfl
    simp only [Act.put, List.setIfInBounds_toArray]
    refine takeHD (i := 6) (v := .bool ((L : Int) == 2)) (some 67) rfl rfl (by kernel_rfl) (by kernel_rfl) (by kernel_rfl) (fun _ _ _ h => h) (Or.inl ⟨by kernel_rfl, fun w' hw => ?_⟩) S1 ?_
    · go_simp
    simp only [Act.put, List.setIfInBounds_toArray]
    refine takeHD (i := 7) (v := .bool ((L : Int) == 2)) (some 68) rfl rfl (by kernel_rfl) (by kernel_rfl) (by kernel_rfl) (fun _ _ _ h => h) (Or.inl ⟨by kernel_rfl, fun w' hw => ?_⟩) S1 ?_
    · kernel_rfl
    simp only [Act.put, List.setIfInBounds_toArray]
    refine takeHD (i := 8) (v := .bool ((L : Int) == 2)) (some 2) rfl rfl (by kernel_rfl) (by kernel_rfl) (by kernel_rfl) (fun _ _ _ h => h) (Or.inl ⟨by kernel_rfl, fun w' hw => ?_⟩) S1 ?_
    · kernel_rfl
    simp only [Act.put, List.setIfInBounds_toArray]
    refine wpAnyH_done (by kernel_rfl) ?_ _
    have B9 := HBW.out _ S1
    go_wp2
    go_ret
    exact ⟨ret_tb (by simp), B9⟩

set_option maxHeartbeats 1000000 in
theorem here_1 (n : Int) (s : ByteArray) (ao : Option Addr) (L cap : Nat) (w : World) : Calls Tryz.prog 93 #[xx 1 n s (.slice ao L cap)] w fun e w' => e = .returned (.bool (nodeN 1 n s L)) ∧ Below w.heap.size w w' := by
  have A0 : Below w.heap.size w (w.alloc (.cells #[.int .i64 1, .int .i64 n, .string s, .slice ao L cap] 41)) := (Below.refl _ _).alloc (Nat.le_refl _) _
  have HE : Hid (nodeN 1 n s L = (bwB 0 2147483647 n && (s.toList.isEmpty && ((L : Int) == 0)))) := by
    show _ = _
    unfold nodeN nodeK
    rw [if_pos rfl, if_pos rfl, show ((L : Int) == 0) = (L == 0) from len_beq L 0]
  rw [HE.out]
  have HB := Hid.mk (fun w => l1Bw_any n 0 2147483647 w)
  generalize bwB 0 2147483647 n = b at *
  clear HE
  cases b with
  | false =>
    go_enter Tryz.func93, Tryz.ntmps93
    go_wp2_with fail
    refine (HB.out _).mono ?_
    rintro e w1 ⟨rfl, hw1⟩
    subst hw1
    go_wp2
    go_ret
    exact ⟨rfl, A0⟩
  | true =>
    cases h : s.toList.isEmpty with
    | false =>
      go_enter Tryz.func93, Tryz.ntmps93
      go_wp2_with fail
      refine (HB.out _).mono ?_
      rintro e w1 ⟨rfl, hw1⟩
      subst hw1
      go_wp2
      go_ret
      exact ⟨rfl, A0⟩
    | true =>
      go_enter Tryz.func93, Tryz.ntmps93
      go_wp2_with fail
      refine (HB.out _).mono ?_
      rintro e w1 ⟨rfl, hw1⟩
      subst hw1
      go_wp2
      go_ret
      exact ⟨ret_tb (by simp), A0⟩

set_option maxHeartbeats 1000000 in
theorem here_n (k n : Int) (s : ByteArray) (ao : Option Addr) (L cap : Nat) (w : World) (h1 : (k != 1) = true) (hn : (n != 0) = true) : Calls Tryz.prog 93 #[xx k n s (.slice ao L cap)] w fun e w' => e = .returned (.bool (false)) ∧ Below w.heap.size w w' := by
  have A0 : Below w.heap.size w (w.alloc (.cells #[.int .i64 k, .int .i64 n, .string s, .slice ao L cap] 41)) := (Below.refl _ _).alloc (Nat.le_refl _) _
  go_enter Tryz.func93, Tryz.ntmps93
  go_wp2
  go_ret
  exact ⟨rfl, A0⟩

set_option maxHeartbeats 1000000 in
theorem here_x (k n : Int) (s : ByteArray) (ao : Option Addr) (L cap : Nat) (w : World) (h1 : (k != 1) = true) (e1 : (k == 1) = false) (e2 : (k == 2) = false) (e3 : (k == 3) = false) (e4 : (k == 4) = false) (e9 : (k == 9) = false) (e6 : (k == 6) = false) (e10 : (k == 10) = false) (e18 : (k == 18) = false) (e11 : (k == 11) = false) (e5 : (k == 5) = false) (e7 : (k == 7) = false) (e8 : (k == 8) = false) (e12 : (k == 12) = false) (e17 : (k == 17) = false) (e13 : (k == 13) = false) (e16 : (k == 16) = false) (e14 : (k == 14) = false) (e15 : (k == 15) = false) : Calls Tryz.prog 93 #[xx k n s (.slice ao L cap)] w fun e w' => e = .returned (.bool (false)) ∧ Below w.heap.size w w' := by
  have A0 : Below w.heap.size w (w.alloc (.cells #[.int .i64 k, .int .i64 n, .string s, .slice ao L cap] 41)) := (Below.refl _ _).alloc (Nat.le_refl _) _
  cases hn : (n != 0) with
  | true =>
    go_enter Tryz.func93, Tryz.ntmps93
    go_wp2
    go_ret
    exact ⟨rfl, A0⟩
  | false =>
    go_enter Tryz.func93, Tryz.ntmps93
    go_wp2
    go_ret
    exact ⟨rfl, A0⟩

theorem l8Here_any (k n : Int) (s : ByteArray) (ao : Option Addr) (L cap : Nat) (w : World) (hm : s.size ≤ 1048576) : Calls Tryz.prog 93 #[xx k n s (.slice ao L cap)] w fun e w' => e = .returned (.bool (nodeN k n s L)) ∧ Below w.heap.size w w' := by
  have hs : s.size ≤ maxLen := by unfold maxLen; omega
  by_cases h1 : k = 1
  · subst h1; exact here_1 n s ao L cap w
  by_cases hn : n = 0
  rotate_left
  · rw [nodeN_n h1 hn]
    exact here_n k n s ao L cap w (by simpa using h1) (by simpa using hn)
  subst hn
  by_cases h2 : k = 2
  · subst h2; exact here_2 s ao L cap w hs
  by_cases h3 : k = 3
  · subst h3; exact here_3 s ao L cap w hs
  by_cases h4 : k = 4
  · subst h4; exact here_4 s ao L cap w hs
  by_cases h9 : k = 9
  · subst h9; exact here_9 s ao L cap w hs
  by_cases h6 : k = 6
  · subst h6; exact here_6 s ao L cap w
  by_cases h10 : k = 10
  · subst h10; exact here_10 s ao L cap w hm
  by_cases h18 : k = 18
  · subst h18; exact here_18 s ao L cap w hm
  by_cases h11 : k = 11
  · subst h11; exact here_11 s ao L cap w hs
  by_cases h5 : k = 5
  · subst h5; exact here_5 s ao L cap w
  by_cases h7 : k = 7
  · subst h7; exact here_7 s ao L cap w
  by_cases h8 : k = 8
  · subst h8; exact here_8 s ao L cap w
  by_cases h12 : k = 12
  · subst h12; exact here_12 s ao L cap w
  by_cases h17 : k = 17
  · subst h17; exact here_17 s ao L cap w
  by_cases h13 : k = 13
  · subst h13; exact here_13 s ao L cap w
  by_cases h16 : k = 16
  · subst h16; exact here_16 s ao L cap w
  by_cases h14 : k = 14
  · subst h14; exact here_14 s ao L cap w
  by_cases h15 : k = 15
  · subst h15; exact here_15 s ao L cap w
  rw [ex_eqx 0 s L (by omega)]
  exact here_x k 0 s ao L cap w (by simpa using h1) (beq_false_of_ne h1) (beq_false_of_ne h2) (beq_false_of_ne h3) (beq_false_of_ne h4) (beq_false_of_ne h9) (beq_false_of_ne h6) (beq_false_of_ne h10) (beq_false_of_ne h18) (beq_false_of_ne h11) (beq_false_of_ne h5) (beq_false_of_ne h7) (beq_false_of_ne h8) (beq_false_of_ne h12) (beq_false_of_ne h17) (beq_false_of_ne h13) (beq_false_of_ne h16) (beq_false_of_ne h14) (beq_false_of_ne h15)
end Go.Proofs.YtgigalcajgjpnaaGreat

namespace Go.Proofs.YtgigalcajgjpnaaGreat
open Go.RowKit
set_option maxRecDepth 8000

def PartsX (f : Nat) : Prop := ∀ (t : Ex) (B : Nat → Prop) (v : Value) (w : World), El w B t.l v →
  Calls Tryz.prog 61 #[xx t.k t.n t.s v, .int .i64 (11 - (f : Int))] w fun e w' => e = .returned (.int .i64 (partsX f t)) ∧ Below w.heap.size w w'

theorem partsX_zero : PartsX 0 := by
  intro t B v w h
  obtain ⟨ao, cap, rfl, hl1, hl2, hl3⟩ := h.len
  obtain ⟨k, hk⟩ : ∃ k, t.k = k := ⟨_, rfl⟩
  obtain ⟨n, hnn⟩ : ∃ n, t.n = n := ⟨_, rfl⟩
  obtain ⟨s, hsn⟩ : ∃ s, t.s = s := ⟨_, rfl⟩
  have HR : Hid (((partsX 0 t : Nat) : Int) = 101) := rfl
  rw [hk, hnn, hsn]
  clear h
  go_enter Tryz.func61, Tryz.ntmps61
  go_wp2
  go_ret
  exact ⟨ret_j HR.out.symm, (Below.refl _ _).alloc (Nat.le_refl _) _⟩

set_option maxHeartbeats 1000000 in
theorem partsX_succ (f : Nat) (hf : f ≤ 9) (ih : PartsX f) : PartsX (f + 1) := by
  intro t B v w h
  have HE : Hid (partsX (f + 1) t = t.l.foldl (partsXG (partsX f)) 1) := rfl
  obtain ⟨R, hR⟩ : ∃ R, partsX (f + 1) t = R := ⟨_, rfl⟩
  obtain ⟨k, hk⟩ : ∃ k, t.k = k := ⟨_, rfl⟩
  obtain ⟨n, hnn⟩ : ∃ n, t.n = n := ⟨_, rfl⟩
  obtain ⟨s, hsn⟩ : ∃ s, t.s = s := ⟨_, rfl⟩
  obtain ⟨l, hln⟩ : ∃ l, t.l = l := ⟨_, rfl⟩
  rw [hR, hln] at HE
  rw [hln] at h
  rw [hk, hnn, hsn, hR]
  clear hR hk hnn hsn hln
  obtain ⟨ao, cap, rfl, hl1, hl2, hl3⟩ := h.len
  have hm : cap ≤ 9223372036854775807 := by unfold maxLen at hl2; omega
  have HH := Hid.mk h
  have HI := Hid.mk ih
  clear ih h hl2
  obtain ⟨d, hd⟩ : ∃ d : Int, 11 - ((f + 1 : Nat) : Int) = d := ⟨_, rfl⟩
  rw [hd]
  have hd6 : ¬ 10 < d := by omega
  have hd7 : d + 1 = 11 - (f : Int) := by omega
  have B0 : Below w.heap.size w (w.alloc (.cells #[.int .i64 k, .int .i64 n, .string s, .slice ao l.length cap] 41)) := (Below.refl _ _).alloc (Nat.le_refl _) _
  have B01 : Below (w.heap.size + 1) (w.alloc (.cells #[.int .i64 k, .int .i64 n, .string s, .slice ao l.length cap] 41)) (w.alloc (.cells #[.int .i64 k, .int .i64 n, .string s, .slice ao l.length cap] 41)) := Below.refl _ _
  go_enter Tryz.func61, Tryz.ntmps61
  go_wp2
  go_loopw [5, 6] (fun q i wr => ∃ (k1 m : Nat), k1 ≤ l.length ∧ i = .int .i64 k1 ∧ q = .int .i64 m ∧ m ≤ 2000 ∧ Hid (m = (l.take k1).foldl (partsXG (partsX f)) 1) ∧ Below (w.heap.size + 1) (w.alloc (.cells #[.int .i64 k, .int .i64 n, .string s, .slice ao l.length cap] 41)) wr) (fun _ i _ => l.length - (intOf i).toNat)
  case atStart => exact ⟨0, 1, Nat.zero_le _, rfl, rfl, by omega, rfl, B01⟩
  case round =>
    obtain ⟨k1, m, hk, rfl, rfl, m1, Hm, hbel⟩ := hrel
    clear B01
    have hc1 := fun o => hbel.cell (p := ⟨w.heap.size, o, none⟩) (by simp)
    have hbw := B0.trans (hbel.mono (by omega))
    have hs1 := hbel.size
    simp at hs1
    by_cases hkl : k1 < l.length
    · have hi1 : (k1 : Int) < (l.length : Int) := by omega
      by_cases h60 : m ≤ 100
      · have h60' : (m : Int) ≤ 100 := by omega
        obtain ⟨b, off, V, rfl, hel⟩ := HH.out.elems (by intro hn; rw [hn] at hkl; simp at hkl)
        obtain ⟨h3, hsub, hss⟩ := hel k1 hkl
        have HT := Hid.mk (partsX_take (f := f) l k1 hkl)
        obtain ⟨t, ht⟩ : ∃ t, l[k1] = t := ⟨_, rfl⟩
        rw [ht] at h3 hsub hss HT
        clear ht hel
        obtain ⟨c0, cn, c1, c2⟩ := h3.kept (w' := wr) (hbw.block b (World.block_lt_of_cell? w _ h3.1))
        have HCall := Hid.mk (HI.out t B (V k1) wr (hsub.grow hbw))
        obtain ⟨bd0, bd1⟩ := partsX_bd f t
        obtain ⟨av, cv, hv, -, -, -⟩ := hsub.len
        rw [hv] at c2 HCall
        obtain ⟨tk, htk⟩ : ∃ tk, t.k = tk := ⟨_, rfl⟩
        obtain ⟨tn, htn⟩ : ∃ tn, t.n = tn := ⟨_, rfl⟩
        obtain ⟨ts, hts⟩ : ∃ ts, t.s = ts := ⟨_, rfl⟩
        rw [htk, htn, hts] at HCall
        rw [htk] at c0
        rw [htn] at cn
        rw [hts] at c1
        obtain ⟨q, hq⟩ : ∃ q, partsX f t = q := ⟨_, rfl⟩
        rw [hq] at bd0 bd1 HCall
        have HQ : Hid ((l.take (k1 + 1)).foldl (partsXG (partsX f)) 1 = m + q) := by
          show _ = _
          rw [HT.out, ← Hm.out, partsXG, if_pos h60, hq]
        clear hsub hss h3 hv HT Hm hq htk htn hts hbw
        go_wp2_with fail
        refine HCall.out.mono ?_
        rintro e w2 ⟨rfl, hb2⟩
        have B3 := hbel.trans (hb2.mono (by omega))
        clear hbel hb2 HCall hc1
        go_wp2
        go_roundw
        case rel => exact ⟨k1 + 1, m + q, by omega, by go_num, by go_num, by omega, HQ.out.symm, B3⟩
        case measure => simp [intOf]; omega
      · have h60' : ¬ (m : Int) ≤ 100 := by omega
        have HF : Hid ((R : Int) = m) := by
          show _ = _
          have e1 := Hm.out
          have := partsX_cut (f := f) l k1 (by omega)
          rw [HE.out, this, ← e1]
        clear Hm HE
        go_wp2
        go_ret
        exact ⟨ret_j HF.out.symm, hbw⟩
    · have e : k1 = l.length := by omega
      subst e
      have HF : Hid ((R : Int) = m) := by show _ = _; rw [HE.out, Hm.out, List.take_length]
      clear Hm HE
      go_wp2
      go_ret
      exact ⟨ret_j HF.out.symm, hbw⟩
end Go.Proofs.YtgigalcajgjpnaaGreat

namespace Go.Proofs.YtgigalcajgjpnaaGreat

/-- A term within a term. -/
inductive InX : Ex → Ex → Prop
  | self (t : Ex) : InX t t
  | sub {x y t : Ex} (h : y ∈ t.l) (hx : InX x y) : InX x t
end Go.Proofs.YtgigalcajgjpnaaGreat

namespace Go.Proofs.YtgigalcajgjpnaaGreat
open Go.RowKit
set_option maxRecDepth 8000

def RoomX (f : Nat) : Prop := ∀ (t : Ex) (B : Nat → Prop) (v : Value) (w : World) (r : Int), El w B t.l v → (∀ x, InX x t → x.s.size ≤ 1048576) → 0 ≤ r → r ≤ 100 →
  Calls Tryz.prog 74 #[xx t.k t.n t.s v, .int .i64 (f : Int), .int .i64 r, .func (.func 75) #[] #[], .func (.func 76) #[] #[]] w fun e w' => e = .returned (.int .i64 (roomX f t r)) ∧ Below w.heap.size w w'

theorem exprParts_any (k n : Int) (s : ByteArray) (v : Value) (w : World) (hv : ∃ ao L cap, v = .slice ao L cap) :
    Calls Tryz.prog 76 #[xx k n s v] w fun e w' => e = .returned v ∧ Below w.heap.size w w' := by
  obtain ⟨ao, L, cap, rfl⟩ := hv
  go_enter Tryz.func76, Tryz.ntmps76
  go_wp2
  go_ret
  exact ⟨rfl, (Below.refl _ _).alloc (Nat.le_refl _) _⟩

theorem roomX_zero : RoomX 0 := by
  intro t B v w r h hs h0 h1
  obtain ⟨ao, cap, rfl, hl1, hl2, hl3⟩ := h.len
  obtain ⟨k, hk⟩ : ∃ k, t.k = k := ⟨_, rfl⟩
  obtain ⟨n, hnn⟩ : ∃ n, t.n = n := ⟨_, rfl⟩
  obtain ⟨s, hsn⟩ : ∃ s, t.s = s := ⟨_, rfl⟩
  have HR : Hid (roomX 0 t r = -1) := rfl
  rw [hk, hnn, hsn]
  clear h
  go_enter Tryz.func74, Tryz.ntmps74
  go_wp2
  go_ret
  exact ⟨ret_i HR.out.symm, (Below.refl _ _).alloc (Nat.le_refl _) _⟩

set_option maxHeartbeats 1000000 in
theorem roomX_succ (f : Nat) (hf : f ≤ 9) (ih : RoomX f) : RoomX (f + 1) := by
  intro t B v w r h hs h0 h1
  obtain ⟨ao0, cap0, hv0, -, -, -⟩ := h.len
  have HNB := Hid.mk (fun (w' : World) => exprNodeOk_any t.k t.n t.s ao0 t.l.length cap0 w' (hs t (.self t)))
  have HSUB := Hid.mk (fun i (hi : i < t.l.length) x hx => hs x (InX.sub (List.getElem_mem hi) hx))
  rw [← nodeX_eq, ← hv0] at HNB
  clear hv0
  have HE : Hid (roomX (f + 1) t r = if r = 0 ∨ nodeX t = false then -1 else t.l.foldl (roomXG (roomX f)) (r - 1)) := rfl
  obtain ⟨R, hR⟩ : ∃ R, roomX (f + 1) t r = R := ⟨_, rfl⟩
  obtain ⟨nb, hnb⟩ : ∃ nb, nodeX t = nb := ⟨_, rfl⟩
  obtain ⟨k, hk⟩ : ∃ k, t.k = k := ⟨_, rfl⟩
  obtain ⟨n, hnn⟩ : ∃ n, t.n = n := ⟨_, rfl⟩
  obtain ⟨s, hsn⟩ : ∃ s, t.s = s := ⟨_, rfl⟩
  obtain ⟨l, hln⟩ : ∃ l, t.l = l := ⟨_, rfl⟩
  rw [hk, hnn, hsn, hnb] at HNB
  rw [hR, hnb, hln] at HE
  rw [hln] at h HSUB
  rw [hk, hnn, hsn, hR]
  clear hR hnb hk hnn hsn hln hs
  obtain ⟨ao, cap, rfl, hl1, hl2, hl3⟩ := h.len
  have hm : cap ≤ 9223372036854775807 := by unfold maxLen at hl2; omega
  have HH := Hid.mk h
  have HI := Hid.mk ih
  clear ih h hl2
  have B0 : Below w.heap.size w (w.alloc (.cells #[.int .i64 k, .int .i64 n, .string s, .slice ao l.length cap] 41)) := (Below.refl _ _).alloc (Nat.le_refl _) _
  obtain ⟨d, hd⟩ : ∃ d : Int, ((f + 1 : Nat) : Int) = d := ⟨_, rfl⟩
  rw [hd]
  have hd6 : (d == 0) = false := beq_eq_false_iff_ne.2 (by omega)
  have hd7 : d - 1 = (f : Int) := by omega
  have hd8 : 0 ≤ d := by omega
  have hd9 : d ≤ 10 := by omega
  have HPT := Hid.mk (fun w' => exprParts_any k n s (.slice ao l.length cap) w' ⟨_, _, _, rfl⟩)
  by_cases hr0 : r = 0
  · subst hr0
    have HR : Hid (R = -1) := by show _ = _; rw [HE.out, if_pos (Or.inl rfl)]
    clear HE HNB HI HH
    go_enter Tryz.func74, Tryz.ntmps74
    go_wp2
    go_ret
    exact ⟨ret_i HR.out.symm, B0⟩
  have hrb : (r == 0) = false := beq_eq_false_iff_ne.2 hr0
  cases nb with
  | false =>
    have HR : Hid (R = -1) := by show _ = _; rw [HE.out, if_pos (Or.inr rfl)]
    clear HE HI HH
    go_enter Tryz.func74, Tryz.ntmps74
    go_wp2_with fail
    refine (HNB.out _).mono ?_
    rintro e w1 ⟨rfl, hb1⟩
    have B1 := B0.trans (hb1.mono (by simp))
    clear B0 hb1 HNB
    go_wp2
    go_ret
    exact ⟨ret_i HR.out.symm, B1⟩
  | true =>
    have HR : Hid (R = l.foldl (roomXG (roomX f)) (r - 1)) := by show _ = _; rw [HE.out, if_neg (by simpa using hr0)]
    clear HE
    go_enter Tryz.func74, Tryz.ntmps74
    go_wp2_with fail
    refine (HNB.out _).mono ?_
    rintro e w1 ⟨rfl, hb1⟩
    have B1 := B0.trans (hb1.mono (by simp))
    have hc1 := fun o => hb1.cell (p := ⟨w.heap.size, o, none⟩) (by simp)
    have hs1 := hb1.size
    simp at hs1
    clear B0 hb1 HNB
    have hr1 : 0 ≤ r - 1 := by omega
    go_wp2_with fail
    refine (HPT.out _).mono ?_
    rintro e w2 ⟨rfl, hb2⟩
    have B2 := B1.trans (hb2.mono B1.size)
    clear B1 hb2 hc1 HPT
    go_wp2
    go_loopw [2, 31] (fun q i wr => ∃ (k : Nat) (m : Int), k ≤ l.length ∧ i = .int .i64 k ∧ q = .int .i64 m ∧ 0 ≤ m ∧ m ≤ 100 ∧ Hid (m = (l.take k).foldl (roomXG (roomX f)) (r - 1)) ∧ Below w.heap.size w wr) (fun _ i _ => l.length - (intOf i).toNat)
    case atStart => exact ⟨0, r - 1, Nat.zero_le _, rfl, rfl, by omega, by omega, rfl, B2⟩
    case round =>
      obtain ⟨k, m, hk, rfl, rfl, m0, m1, Hm, hbel⟩ := hrel
      clear B2
      by_cases hkl : k < l.length
      · obtain ⟨b, off, V, rfl, hel⟩ := HH.out.elems (by intro hn; rw [hn] at hkl; simp at hkl)
        obtain ⟨h3, hsub, hss⟩ := hel k hkl
        have HT := Hid.mk (roomX_take (f := f) l k (r - 1) hkl)
        have HC := Hid.mk (roomX_cut (f := f) l (k + 1) (r - 1))
        have hall := HSUB.out k hkl
        obtain ⟨t, ht⟩ : ∃ t, l[k] = t := ⟨_, rfl⟩
        rw [ht] at h3 hsub hss HT hall
        clear ht hel
        obtain ⟨c0, cn, c1, c2⟩ := h3.kept (w' := wr) (hbel.block b (World.block_lt_of_cell? w _ h3.1))
        have hs1 := hbel.size
        have HCall := Hid.mk (fun (w' : World) (hb : Below w.heap.size w w') => HI.out t B (V k) w' m (hsub.grow hb) hall m0 m1)
        obtain ⟨bd0, bd1⟩ := roomX_bd f t m m0
        obtain ⟨av, cv, hv, -, -, -⟩ := hsub.len
        rw [hv] at c2 HCall
        obtain ⟨tk, htk⟩ : ∃ tk, t.k = tk := ⟨_, rfl⟩
        obtain ⟨tn, htn⟩ : ∃ tn, t.n = tn := ⟨_, rfl⟩
        obtain ⟨ts, hts⟩ : ∃ ts, t.s = ts := ⟨_, rfl⟩
        rw [htk, htn, hts] at HCall
        rw [htk] at c0
        rw [htn] at cn
        rw [hts] at c1
        obtain ⟨q, hq⟩ : ∃ q, roomX f t m = q := ⟨_, rfl⟩
        rw [hq] at bd0 bd1 HCall
        have HQ : Hid ((l.take (k + 1)).foldl (roomXG (roomX f)) (r - 1) = q) := by
          show _ = _
          rw [HT.out, ← Hm.out, roomXG, if_neg (by omega), hq]
        have hi1 : (k : Int) < (l.length : Int) := by omega
        have B2 := hbel.alloc hs1 (.cells #[.int .i64 tk, .int .i64 tn, .string ts, .slice av t.l.length cv] 41)
        clear hsub hss h3 hv HT Hm hq htk htn hts hbel hall
        by_cases hq0 : q < 0
        · have HF : Hid (R = -1) := by show _ = _; rw [HR.out]; exact HC.out (by rw [HQ.out]; omega)
          clear HQ HC
          go_wp2_with fail
          refine (HCall.out _ B2).mono ?_
          rintro e w2 ⟨rfl, hb2⟩
          have B3 := B2.trans (hb2.mono (by simp; omega))
          clear B2 hb2 HCall
          go_wp2
          go_ret
          exact ⟨ret_i HF.out.symm, B3⟩
        · clear HC
          go_wp2_with fail
          refine (HCall.out _ B2).mono ?_
          rintro e w2 ⟨rfl, hb2⟩
          have B3 := B2.trans (hb2.mono (by simp; omega))
          clear B2 hb2 HCall
          go_wp2
          go_roundw
          case rel => exact ⟨k + 1, q, by omega, by go_num, rfl, by omega, by omega, HQ.out.symm, B3⟩
          case measure => simp [intOf]; omega
      · have e : k = l.length := by omega
        subst e
        have HF : Hid (R = m) := by show _ = _; rw [HR.out, Hm.out, List.take_length]
        clear Hm
        go_wp2
        go_ret
        exact ⟨ret_i HF.out.symm, hbel⟩

theorem implExprOk_any (t : Ex) (B : Nat → Prop) (v : Value) (w : World) (h : El w B t.l v) (hs : ∀ x, InX x t → x.s.size ≤ 1048576) :
    Calls Tryz.prog 45 #[xx t.k t.n t.s v] w fun e w' => e = .returned (.bool (okE t)) ∧ Below w.heap.size w w' := by
  have R6 : RoomX 10 := roomX_succ 9 (by omega) (roomX_succ 8 (by omega) (roomX_succ 7 (by omega) (roomX_succ 6 (by omega) (roomX_succ 5 (by omega) (roomX_succ 4 (by omega) (roomX_succ 3 (by omega) (roomX_succ 2 (by omega) (roomX_succ 1 (by omega) (roomX_succ 0 (by omega) roomX_zero)))))))))
  have HC := Hid.mk (fun (w' : World) (hb : Below w.heap.size w w') => R6 t B v w' 100 (h.grow hb) hs (by omega) (by omega))
  have HO := Hid.mk (okE_room t)
  obtain ⟨b, hb⟩ : ∃ b, okE t = b := ⟨_, rfl⟩
  obtain ⟨q, hq⟩ : ∃ q, roomX 10 t 100 = q := ⟨_, rfl⟩
  obtain ⟨k, hk⟩ : ∃ k, t.k = k := ⟨_, rfl⟩
  obtain ⟨n, hnn⟩ : ∃ n, t.n = n := ⟨_, rfl⟩
  obtain ⟨s, hsn⟩ : ∃ s, t.s = s := ⟨_, rfl⟩
  rw [hk, hnn, hsn, hq] at HC
  rw [hb, hq] at HO
  rw [hk, hnn, hsn, hb]
  obtain ⟨ao, cap, rfl, hl1, hl2, hl3⟩ := h.len
  have B0 : Below w.heap.size w (w.alloc (.cells #[.int .i64 k, .int .i64 n, .string s, .slice ao t.l.length cap] 41)) := (Below.refl _ _).alloc (Nat.le_refl _) _
  clear h hk hnn hsn hq hb R6 hl2
  go_enter Tryz.func45, Tryz.ntmps45
  go_wp2_with fail
  refine (HC.out _ B0).mono ?_
  rintro e w1 ⟨rfl, hb1⟩
  have B1 := B0.trans (hb1.mono (by simp))
  clear B0 hb1 HC
  go_wp2
  go_ret
  exact ⟨ret_b HO.out, B1⟩
end Go.Proofs.YtgigalcajgjpnaaGreat

namespace Go.Proofs.YtgigalcajgjpnaaGreat
open Go.RowKit
set_option maxRecDepth 8000

theorem okXL_no {l : List Ex} {k : Nat} (h : k < l.length) (hk : l[k].okT = false) : okXL l = false := by
  cases hb : okXL l with
  | false => rfl
  | true => have := (okXL_iff l).1 hb _ (List.getElem_mem h); rw [hk] at this; cases this
theorem okXL_yes {l : List Ex} (h : ∀ j (hj : j < l.length), l[j].okT = true) : okXL l = true := by
  rw [okXL_iff]
  intro x hx
  obtain ⟨j, hj, rfl⟩ := List.getElem_of_mem hx
  exact h j hj
/-- No text within is too long. -/
def ShX (t : Ex) : Prop := ∀ x, InX x t → x.s.size ≤ 1048576
def OkX (t : Ex) : Prop := ∀ (B : Nat → Prop) (v : Value) (w : World), El w B t.l v → ShX t →
  Calls Tryz.prog 62 #[xx t.k t.n t.s v] w fun e w' => e = .returned (.bool t.okT) ∧ Below w.heap.size w w'

set_option maxHeartbeats 2000000 in
theorem okX_step (t : Ex) (ih : ∀ x ∈ t.l, OkX x) : OkX t := by
  intro B v w h hs
  have HT := Hid.mk (okX_eq t)
  have HI := Hid.mk ih
  have HSUB := Hid.mk (fun i (hi : i < t.l.length) x hx => hs x (InX.sub (List.getElem_mem hi) hx))
  obtain ⟨ao, cap, hv, hl1, hl2, hl3⟩ := h.len
  have HN := Hid.mk (fun w' => l8Here_any t.k t.n t.s ao t.l.length cap w' (hs t (.self t)))
  rw [← nodeX_eq] at HN
  subst hv
  obtain ⟨R, hR⟩ : ∃ R, t.okT = R := ⟨_, rfl⟩
  obtain ⟨nb, hnb⟩ : ∃ nb, nodeX t = nb := ⟨_, rfl⟩
  obtain ⟨k, hk⟩ : ∃ k, t.k = k := ⟨_, rfl⟩
  obtain ⟨n, hnn⟩ : ∃ n, t.n = n := ⟨_, rfl⟩
  obtain ⟨s, hsn⟩ : ∃ s, t.s = s := ⟨_, rfl⟩
  obtain ⟨l, hln⟩ : ∃ l, t.l = l := ⟨_, rfl⟩
  rw [hk, hnn, hsn, hln, hR]
  rw [hR, hnb, hln] at HT
  rw [hk, hnn, hsn, hln, hnb] at HN
  rw [hln] at HI h hl1 HSUB
  clear hk hnn hsn hln hnb hR ih hs
  have hm : cap ≤ 9223372036854775807 := by unfold maxLen at hl2; omega
  have HH := Hid.mk h
  clear h hl2
  have B0 : Below w.heap.size w (w.alloc (.cells #[.int .i64 k, .int .i64 n, .string s, .slice ao l.length cap] 41)) := (Below.refl _ _).alloc (Nat.le_refl _) _
  have B01 : Below (w.heap.size + 1) (w.alloc (.cells #[.int .i64 k, .int .i64 n, .string s, .slice ao l.length cap] 41)) (w.alloc (.cells #[.int .i64 k, .int .i64 n, .string s, .slice ao l.length cap] 41)) := Below.refl _ _
  go_enter Tryz.func62, Tryz.ntmps62
  go_wp2
  go_loopw [3] (fun i wr => ∃ (k1 : Nat), k1 ≤ l.length ∧ i = .int .i64 k1 ∧ Hid (∀ j (hj : j < l.length), j < k1 → l[j].okT = true) ∧ Below (w.heap.size + 1) (w.alloc (.cells #[.int .i64 k, .int .i64 n, .string s, .slice ao l.length cap] 41)) wr) (fun i _ => l.length - (intOf i).toNat)
  case atStart => exact ⟨0, Nat.zero_le _, rfl, fun j _ hj => absurd hj (Nat.not_lt_zero j), B01⟩
  case round =>
    obtain ⟨k1, hk, rfl, Ho, hbel⟩ := hrel
    clear B01
    have hc1 := fun o => hbel.cell (p := ⟨w.heap.size, o, none⟩) (by simp)
    have hbw := B0.trans (hbel.mono (by omega))
    have hs1 := hbel.size
    simp at hs1
    by_cases hkl : k1 < l.length
    · have hi1 : (k1 : Int) < (l.length : Int) := by omega
      obtain ⟨b, off, V, rfl, hel⟩ := HH.out.elems (by intro hn; rw [hn] at hkl; simp at hkl)
      obtain ⟨h3, hsub, hss⟩ := hel k1 hkl
      have hokc : OkX l[k1] := HI.out _ (List.getElem_mem hkl)
      have hall : ShX l[k1] := HSUB.out k1 hkl
      have HNO := Hid.mk (fun h => okXL_no (l := l) hkl h)
      have HO2 : Hid (l[k1].okT = true → ∀ j (hj : j < l.length), j < k1 + 1 → l[j].okT = true) := by
        intro hne j hj hj1
        by_cases hj2 : j < k1
        · exact Ho.out j hj hj2
        · obtain rfl : j = k1 := by omega
          exact hne
      obtain ⟨t', ht⟩ : ∃ t, l[k1] = t := ⟨_, rfl⟩
      rw [ht] at h3 hsub hss hokc HNO HO2 hall
      clear ht hel
      obtain ⟨c0, cn, c1, c2⟩ := h3.kept (w' := wr) (hbw.block b (World.block_lt_of_cell? w _ h3.1))
      have cA := Hid.mk (hokc B (V k1) wr (hsub.grow hbw) hall)
      obtain ⟨ok, hok⟩ : ∃ ok, t'.okT = ok := ⟨_, rfl⟩
      obtain ⟨tk, htk⟩ : ∃ tk, t'.k = tk := ⟨_, rfl⟩
      obtain ⟨tn, htn⟩ : ∃ tn, t'.n = tn := ⟨_, rfl⟩
      obtain ⟨ts, hts⟩ : ∃ ts, t'.s = ts := ⟨_, rfl⟩
      obtain ⟨av, cv, hv, -, -, -⟩ := hsub.len
      rw [hok, htk, htn, hts, hv] at cA
      rw [htk] at c0
      rw [htn] at cn
      rw [hts] at c1
      rw [hv] at c2
      rw [hok] at HNO HO2
      clear hsub hss h3 hokc hok htk htn hts hv hall hbw
      cases ok with
      | false =>
        have HR : Hid (false = R) := by show _ = _; rw [HT.out, HNO.out rfl]; rfl
        clear HNO HO2 HT HI HH HN
        go_wp2_with fail
        refine cA.out.mono ?_
        rintro e w2 ⟨rfl, hb2⟩
        have B3 := B0.trans ((hbel.trans (hb2.mono (by omega))).mono (by omega))
        clear hbel hb2 cA hc1
        go_wp2
        go_ret
        exact ⟨ret_tb HR.out, B3⟩
      | true =>
        have HO3 := Hid.mk (HO2.out rfl)
        clear HNO HO2
        go_wp2_with fail
        refine cA.out.mono ?_
        rintro e w2 ⟨rfl, hb2⟩
        have B3 := hbel.trans (hb2.mono (by omega))
        clear hbel hb2 cA hc1
        go_wp2
        go_roundw
        case rel => exact ⟨k1 + 1, by omega, by go_num, HO3, B3⟩
        case measure => simp [intOf]; omega
    · have e : k1 = l.length := by omega
      subst e
      have HE : Hid (nb = R) := by show _ = _; rw [HT.out, okXL_yes (fun j hj => Ho.out j hj hj)]; rfl
      clear Ho HT HI HH
      go_wp2_with fail
      refine (HN.out _).mono ?_
      rintro e w2 ⟨rfl, hb2⟩
      have B3 := hbw.trans (hb2.mono hbw.size)
      clear hbel hb2 HN hc1 hbw
      go_wp2
      go_ret
      exact ⟨ret_tb HE.out, B3⟩

theorem specOkX_any (t : Ex) : OkX t := Ex.ind (P := OkX) okX_step t

theorem specExprOk_any (t : Ex) (B : Nat → Prop) (v : Value) (w : World) (h : El w B t.l v) (hs : ShX t) :
    Calls Tryz.prog 36 #[xx t.k t.n t.s v] w fun e w' => e = .returned (.bool (okE t)) ∧ Below w.heap.size w w' := by
  have R6 : PartsX 10 := partsX_succ 9 (by omega) (partsX_succ 8 (by omega) (partsX_succ 7 (by omega) (partsX_succ 6 (by omega) (partsX_succ 5 (by omega) (partsX_succ 4 (by omega) (partsX_succ 3 (by omega) (partsX_succ 2 (by omega) (partsX_succ 1 (by omega) (partsX_succ 0 (by omega) partsX_zero)))))))))
  have HC := Hid.mk (fun (w' : World) (hb : Below w.heap.size w w') => R6 t B v w' (h.grow hb))
  have HK := Hid.mk (fun (w' : World) (hb : Below w.heap.size w w') => specOkX_any t B v w' (h.grow hb) hs)
  have HO : Hid (okE t = (decide (partsX 10 t ≤ 100) && t.okT)) := rfl
  obtain ⟨b, hb⟩ : ∃ b, okE t = b := ⟨_, rfl⟩
  obtain ⟨q, hq⟩ : ∃ q, partsX 10 t = q := ⟨_, rfl⟩
  obtain ⟨o, ho⟩ : ∃ o, t.okT = o := ⟨_, rfl⟩
  obtain ⟨k, hk⟩ : ∃ k, t.k = k := ⟨_, rfl⟩
  obtain ⟨n, hnn⟩ : ∃ n, t.n = n := ⟨_, rfl⟩
  obtain ⟨s, hsn⟩ : ∃ s, t.s = s := ⟨_, rfl⟩
  rw [hk, hnn, hsn, hq] at HC
  rw [hk, hnn, hsn, ho] at HK
  rw [hb, hq, ho] at HO
  rw [hk, hnn, hsn, hb]
  obtain ⟨ao, cap, rfl, hl1, hl2, hl3⟩ := h.len
  have B0 : Below w.heap.size w (w.alloc (.cells #[.int .i64 k, .int .i64 n, .string s, .slice ao t.l.length cap] 41)) := (Below.refl _ _).alloc (Nat.le_refl _) _
  clear h hk hnn hsn hq hb ho R6 hl2
  by_cases h60 : q ≤ 100
  · have h60' : (q : Int) ≤ 100 := by omega
    have HR : Hid (o = b) := by show _ = _; rw [HO.out, decide_eq_true h60]; rfl
    clear HO
    go_enter Tryz.func36, Tryz.ntmps36
    go_wp2_with fail
    refine (HC.out _ B0).mono ?_
    rintro e w1 ⟨rfl, hb1⟩
    have B1 := B0.trans (hb1.mono (by simp))
    have hc1 := fun o => hb1.cell (p := ⟨w.heap.size, o, none⟩) (by simp)
    have hs1 := hb1.size
    simp at hs1
    clear B0 hb1 HC
    go_wp2_with fail
    refine (HK.out _ B1).mono ?_
    rintro e w2 ⟨rfl, hb2⟩
    have B2 := B1.trans (hb2.mono (by omega))
    clear B1 hb2 HK hc1
    go_wp2
    go_ret
    exact ⟨ret_b HR.out, B2⟩
  · have h60' : ¬ (q : Int) ≤ 100 := by omega
    have HR : Hid (false = b) := by show _ = _; rw [HO.out, decide_eq_false h60]; rfl
    clear HO HK
    go_enter Tryz.func36, Tryz.ntmps36
    go_wp2_with fail
    refine (HC.out _ B0).mono ?_
    rintro e w1 ⟨rfl, hb1⟩
    have B1 := B0.trans (hb1.mono (by simp))
    clear B0 hb1 HC
    go_wp2
    go_ret
    exact ⟨ret_b HR.out, B1⟩

end Go.Proofs.YtgigalcajgjpnaaGreat

namespace Go.Proofs.YtgigalcajgjpnaaGreat
open Go.RowKit
set_option maxRecDepth 8000

/-- A statement within a statement. -/
inductive InY : St → St → Prop
  | self (t : St) : InY t t
  | sa {x y t : St} (h : y ∈ t.a) (hx : InY x y) : InY x t
  | sb {x y t : St} (h : y ∈ t.b) (hx : InY x y) : InY x t

/-- No text within is too long. -/
def ShY (t : St) : Prop := ∀ y, InY y t → y.s.size ≤ 1048576 ∧ y.t.size ≤ 1048576 ∧ ∀ e ∈ y.x, ShX e

def OkYL (l : List St) : Prop := ∀ (B : Nat → Prop) (v : Value) (w : World), Sl w B l v → (∀ y ∈ l, ShY y) →
  Calls Tryz.prog 95 #[v] w fun e w' => e = .returned (.bool (okSL l)) ∧ Below w.heap.size w w'

def OkY (t : St) : Prop := ∀ (B : Nat → Prop) (vx va vb : Value) (w : World), El w B t.x vx → Sl w B t.a va → Sl w B t.b vb → ShY t →
  Calls Tryz.prog 67 #[st t.k t.s t.t vx va vb] w fun e w' => e = .returned (.bool t.okT) ∧ Below w.heap.size w w'

theorem okSL_no {l : List St} {k : Nat} (h : k < l.length) (hk : l[k].okT = false) : okSL l = false := by
  cases hb : okSL l with
  | false => rfl
  | true => have := (okSL_iff l).1 hb _ (List.getElem_mem h); rw [hk] at this; cases this
theorem okSL_yes {l : List St} (h : ∀ j (hj : j < l.length), l[j].okT = true) : okSL l = true := by
  rw [okSL_iff]
  intro x hx
  obtain ⟨j, hj, rfl⟩ := List.getElem_of_mem hx
  exact h j hj
theorem allE_no {l : List Ex} {k : Nat} (h : k < l.length) (hk : okE l[k] = false) : l.all okE = false := by
  cases hb : l.all okE with
  | false => rfl
  | true => have := List.all_eq_true.1 hb _ (List.getElem_mem h); rw [hk] at this; cases this
theorem allE_yes {l : List Ex} (h : ∀ j (hj : j < l.length), okE l[j] = true) : l.all okE = true := by
  rw [List.all_eq_true]
  intro x hx
  obtain ⟨j, hj, rfl⟩ := List.getElem_of_mem hx
  exact h j hj

set_option maxHeartbeats 2000000 in
theorem okYL_step (l : List St) (ih : ∀ x ∈ l, OkY x) : OkYL l := by
  intro B v w h hs
  obtain ⟨R, hR⟩ : ∃ R, okSL l = R := ⟨_, rfl⟩
  rw [hR]
  have HR0 : Hid (okSL l = R) := hR
  clear hR
  obtain ⟨ao, cap, rfl, hl1, hl2, hl3⟩ := h.len
  have hm : cap ≤ 9223372036854775807 := by unfold maxLen at hl2; omega
  have HI := Hid.mk ih
  have HH := Hid.mk h
  have HS := Hid.mk hs
  clear ih h hs hl2
  go_enter Tryz.func95, Tryz.ntmps95
  go_wp2
  go_loopw [3] (fun i wr => ∃ (k1 : Nat), k1 ≤ l.length ∧ i = .int .i64 k1 ∧ Hid (∀ j (hj : j < l.length), j < k1 → l[j].okT = true) ∧ Below w.heap.size w wr) (fun i _ => l.length - (intOf i).toNat)
  case atStart => exact ⟨0, Nat.zero_le _, rfl, fun j _ hj => absurd hj (Nat.not_lt_zero j), Below.refl _ _⟩
  case round =>
    obtain ⟨k1, hk, rfl, Ho, hbel⟩ := hrel
    by_cases hkl : k1 < l.length
    · have hi1 : (k1 : Int) < (l.length : Int) := by omega
      obtain ⟨b, off, X, Y, Z, rfl, hel⟩ := HH.out.elems (by intro hn; rw [hn] at hkl; simp at hkl)
      obtain ⟨h3, hx, ha, hz, -, -⟩ := hel k1 hkl
      have hokc : OkY l[k1] := HI.out _ (List.getElem_mem hkl)
      have hall : ShY l[k1] := HS.out _ (List.getElem_mem hkl)
      have HNO := Hid.mk (fun h => okSL_no (l := l) hkl h)
      have HO2 : Hid (l[k1].okT = true → ∀ j (hj : j < l.length), j < k1 + 1 → l[j].okT = true) := by
        intro hne j hj hj1
        by_cases hj2 : j < k1
        · exact Ho.out j hj hj2
        · obtain rfl : j = k1 := by omega
          exact hne
      obtain ⟨t', ht⟩ : ∃ t, l[k1] = t := ⟨_, rfl⟩
      rw [ht] at h3 hx ha hz hokc HNO HO2 hall
      clear ht hel
      obtain ⟨c0, c1, c2, c3, c4, c5⟩ := h3.kept (w' := wr) (hbel.block b (World.block_lt_of_cell? w _ h3.1))
      have cA := Hid.mk (hokc B (X k1) (Y k1) (Z k1) wr (hx.grow hbel) (ha.grow hbel) (hz.grow hbel) hall)
      obtain ⟨ok, hok⟩ : ∃ ok, t'.okT = ok := ⟨_, rfl⟩
      obtain ⟨tk, htk⟩ : ∃ tk, t'.k = tk := ⟨_, rfl⟩
      obtain ⟨ts, hts⟩ : ∃ ts, t'.s = ts := ⟨_, rfl⟩
      obtain ⟨tt, htt⟩ : ∃ tt, t'.t = tt := ⟨_, rfl⟩
      obtain ⟨xo, xc, hxv, -, -, -⟩ := hx.len
      obtain ⟨yo, yc, hyv, -, -, -⟩ := ha.len
      obtain ⟨zo, zc, hzv, -, -, -⟩ := hz.len
      rw [hok, htk, hts, htt, hxv, hyv, hzv] at cA
      rw [htk] at c0
      rw [hts] at c1
      rw [htt] at c2
      rw [hxv] at c3
      rw [hyv] at c4
      rw [hzv] at c5
      rw [hok] at HNO HO2
      clear hx ha hz h3 hokc hok htk hts htt hxv hyv hzv hall
      cases ok with
      | false =>
        have HR : Hid (false = R) := by show _ = _; rw [← HR0.out, HNO.out rfl]
        clear HNO HO2 HR0 HI HH HS
        go_wp2_with fail
        refine cA.out.mono ?_
        rintro e w2 ⟨rfl, hb2⟩
        have B3 := hbel.trans (hb2.mono hbel.size)
        clear hbel hb2 cA
        go_wp2
        go_ret
        exact ⟨ret_tb HR.out, B3⟩
      | true =>
        have HO3 := Hid.mk (HO2.out rfl)
        clear HNO HO2
        go_wp2_with fail
        refine cA.out.mono ?_
        rintro e w2 ⟨rfl, hb2⟩
        have B3 := hbel.trans (hb2.mono hbel.size)
        clear hbel hb2 cA
        go_wp2
        go_roundw
        case rel => exact ⟨k1 + 1, by omega, by go_num, HO3, B3⟩
        case measure => simp [intOf]; omega
    · have e : k1 = l.length := by omega
      subst e
      have HE : Hid (true = R) := by show _ = _; rw [← HR0.out, okSL_yes (fun j hj => Ho.out j hj hj)]
      clear Ho HR0 HI HH HS
      go_wp2
      go_ret
      exact ⟨ret_tb HE.out, hbel⟩

set_option maxHeartbeats 2000000 in
theorem okY_step (t : St) (iha : OkYL t.a) (ihb : OkYL t.b) : OkY t := by
  intro B vx va vb w hx ha hb hs
  have HT := Hid.mk (okT_eq2 t)
  have HX := Hid.mk (fun e (he : e ∈ t.x) => (hs t (.self t)).2.2 e he)
  have HA := Hid.mk (fun (w' : World) (hw : Below w.heap.size w w') => iha B va w' (ha.grow hw) (fun y hy z hz => hs z (.sa hy hz)))
  have HB := Hid.mk (fun (w' : World) (hw : Below w.heap.size w w') => ihb B vb w' (hb.grow hw) (fun y hy z hz => hs z (.sb hy hz)))
  obtain ⟨xo, xc, hxv, hl1, hl2, hl3⟩ := hx.len
  obtain ⟨yo, yc, hyv, -, -, -⟩ := ha.len
  obtain ⟨zo, zc, hzv, -, -, -⟩ := hb.len
  subst hxv hyv hzv
  have h1 := (hs t (.self t)).1
  have h2 := (hs t (.self t)).2.1
  have HN := Hid.mk (fun (w' : World) (hw : Below w.heap.size w w') => l9Here_any t B xo xc yo yc zo zc w' (hx.grow hw) (by unfold maxLen; omega) (by unfold maxLen; omega))
  clear iha ihb hs h1 h2 ha hb
  have hnode : Hid (nodeS t = (t.x.all okE && (hereK t.k t.s t.t t.x.length t.a.length t.b.length && callB t.k t.x))) := rfl
  rw [hnode.out] at HT
  clear hnode
  obtain ⟨R, hR⟩ : ∃ R, t.okT = R := ⟨_, rfl⟩
  obtain ⟨nb, hnb⟩ : ∃ nb, (hereK t.k t.s t.t t.x.length t.a.length t.b.length && callB t.k t.x) = nb := ⟨_, rfl⟩
  rw [hnb] at HN HT
  rw [hR] at HT
  rw [hR]
  clear hnb hR
  obtain ⟨k, hk⟩ : ∃ k, t.k = k := ⟨_, rfl⟩
  obtain ⟨s, hsn⟩ : ∃ s, t.s = s := ⟨_, rfl⟩
  obtain ⟨u, hun⟩ : ∃ u, t.t = u := ⟨_, rfl⟩
  obtain ⟨l, hln⟩ : ∃ l, t.x = l := ⟨_, rfl⟩
  obtain ⟨a, han⟩ : ∃ a, t.a = a := ⟨_, rfl⟩
  obtain ⟨b, hbn⟩ : ∃ b, t.b = b := ⟨_, rfl⟩
  rw [hk, hsn, hun, hln, han, hbn] at HN
  rw [hk, hsn, hun, hln, han, hbn]
  rw [hln, han, hbn] at HT
  rw [han] at HA
  rw [hbn] at HB
  rw [hln] at HX hx hl1
  clear hk hsn hun hln han hbn
  have hm : xc ≤ 9223372036854775807 := by unfold maxLen at hl2; omega
  have HH := Hid.mk hx
  clear hx hl2
  have B0 : Below w.heap.size w (w.alloc (.cells #[.int .i64 k, .string s, .string u, .slice xo l.length xc, .slice yo a.length yc, .slice zo b.length zc] 80)) := (Below.refl _ _).alloc (Nat.le_refl _) _
  have B01 : Below (w.heap.size + 1) (w.alloc (.cells #[.int .i64 k, .string s, .string u, .slice xo l.length xc, .slice yo a.length yc, .slice zo b.length zc] 80)) (w.alloc (.cells #[.int .i64 k, .string s, .string u, .slice xo l.length xc, .slice yo a.length yc, .slice zo b.length zc] 80)) := Below.refl _ _
  go_enter Tryz.func67, Tryz.ntmps67
  go_wp2
  go_loopw [3] (fun i wr => ∃ (k1 : Nat), k1 ≤ l.length ∧ i = .int .i64 k1 ∧ Hid (∀ j (hj : j < l.length), j < k1 → okE l[j] = true) ∧ Below (w.heap.size + 1) (w.alloc (.cells #[.int .i64 k, .string s, .string u, .slice xo l.length xc, .slice yo a.length yc, .slice zo b.length zc] 80)) wr) (fun i _ => l.length - (intOf i).toNat)
  case atStart => exact ⟨0, Nat.zero_le _, rfl, fun j _ hj => absurd hj (Nat.not_lt_zero j), B01⟩
  case round =>
    obtain ⟨k1, hk, rfl, Ho, hbel⟩ := hrel
    clear B01
    have hc1 := fun o => hbel.cell (p := ⟨w.heap.size, o, none⟩) (by simp)
    have hbw := B0.trans (hbel.mono (by omega))
    have hs1 := hbel.size
    simp at hs1
    by_cases hkl : k1 < l.length
    · have hi1 : (k1 : Int) < (l.length : Int) := by omega
      obtain ⟨bb, off, V, rfl, hel⟩ := HH.out.elems (by intro hn; rw [hn] at hkl; simp at hkl)
      obtain ⟨h3, hsub, hss⟩ := hel k1 hkl
      have hall : ShX l[k1] := HX.out _ (List.getElem_mem hkl)
      have HNO := Hid.mk (fun h => allE_no (l := l) hkl h)
      have HO2 : Hid (okE l[k1] = true → ∀ j (hj : j < l.length), j < k1 + 1 → okE l[j] = true) := by
        intro hne j hj hj1
        by_cases hj2 : j < k1
        · exact Ho.out j hj hj2
        · obtain rfl : j = k1 := by omega
          exact hne
      obtain ⟨t', ht⟩ : ∃ t, l[k1] = t := ⟨_, rfl⟩
      rw [ht] at h3 hsub hss HNO HO2 hall
      clear ht hel
      obtain ⟨c0, cn, c1, c2⟩ := h3.kept (w' := wr) (hbw.block bb (World.block_lt_of_cell? w _ h3.1))
      have cA := Hid.mk (specExprOk_any t' B (V k1) wr (hsub.grow hbw) hall)
      obtain ⟨ok, hok⟩ : ∃ ok, okE t' = ok := ⟨_, rfl⟩
      obtain ⟨tk, htk⟩ : ∃ tk, t'.k = tk := ⟨_, rfl⟩
      obtain ⟨tn, htn⟩ : ∃ tn, t'.n = tn := ⟨_, rfl⟩
      obtain ⟨ts, hts⟩ : ∃ ts, t'.s = ts := ⟨_, rfl⟩
      obtain ⟨av, cv, hv, -, -, -⟩ := hsub.len
      rw [hok, htk, htn, hts, hv] at cA
      rw [htk] at c0
      rw [htn] at cn
      rw [hts] at c1
      rw [hv] at c2
      rw [hok] at HNO HO2
      clear hsub hss h3 hok htk htn hts hv hall hbw
      cases ok with
      | false =>
        have HR : Hid (false = R) := by show _ = _; rw [HT.out, HNO.out rfl]; simp
        clear HNO HO2 HT HX HH HN HA HB
        go_wp2_with fail
        refine cA.out.mono ?_
        rintro e w2 ⟨rfl, hb2⟩
        have B3 := B0.trans ((hbel.trans (hb2.mono (by omega))).mono (by omega))
        clear hbel hb2 cA hc1
        go_wp2
        go_ret
        exact ⟨ret_tb HR.out, B3⟩
      | true =>
        have HO3 := Hid.mk (HO2.out rfl)
        clear HNO HO2
        go_wp2_with fail
        refine cA.out.mono ?_
        rintro e w2 ⟨rfl, hb2⟩
        have B3 := hbel.trans (hb2.mono (by omega))
        clear hbel hb2 cA hc1
        go_wp2
        go_roundw
        case rel => exact ⟨k1 + 1, by omega, by go_num, HO3, B3⟩
        case measure => simp [intOf]; omega
    · have e : k1 = l.length := by omega
      subst e
      have HE : Hid (R = (nb && okSL a && okSL b)) := by
        show _ = _
        rw [HT.out, allE_yes (fun j hj => Ho.out j hj hj)]
        cases nb <;> cases okSL a <;> cases okSL b <;> rfl
      obtain ⟨oa, hoa⟩ : ∃ o, okSL a = o := ⟨_, rfl⟩
      obtain ⟨ob, hob⟩ : ∃ o, okSL b = o := ⟨_, rfl⟩
      rw [hoa, hob] at HE
      rw [hoa] at HA
      rw [hob] at HB
      clear Ho HT HX HH hoa hob hbel
      cases nb with
      | false =>
        go_wp2_with fail
        refine (HN.out _ hbw).mono ?_
        rintro e w2 ⟨rfl, hb2⟩
        have B3 := hbw.trans (hb2.mono hbw.size)
        clear hb2 HN hc1 hbw HA HB
        go_wp2
        go_ret
        exact ⟨ret_tb (by rw [HE.out]; rfl), B3⟩
      | true =>
        cases oa with
        | false =>
          go_wp2_with fail
          refine (HN.out _ hbw).mono ?_
          rintro e w2 ⟨rfl, hb2⟩
          have B3 := hbw.trans (hb2.mono hbw.size)
          have hc2 := fun o => hb2.cell (p := ⟨w.heap.size, o, none⟩) (by show w.heap.size < _; omega)
          clear hb2 HN
          go_wp2_with fail
          refine (HA.out _ B3).mono ?_
          rintro e w3 ⟨rfl, hb3⟩
          have B4 := B3.trans (hb3.mono B3.size)
          clear hb3 HA HB hc1 hc2 hbw B3
          go_wp2
          go_ret
          exact ⟨ret_tb (by rw [HE.out]; rfl), B4⟩
        | true =>
          have s1 : w.heap.size < wr.heap.size := by omega
          go_wp2_with fail
          refine (HN.out _ hbw).mono ?_
          rintro e w2 ⟨rfl, hb2⟩
          have B3 := hbw.trans (hb2.mono hbw.size)
          have hc2 := fun o => hb2.cell (p := ⟨w.heap.size, o, none⟩) (by show w.heap.size < _; omega)
          have s2 : w.heap.size < w2.heap.size := Nat.lt_of_lt_of_le s1 hb2.size
          clear hb2 HN
          go_wp2_with fail
          refine (HA.out _ B3).mono ?_
          rintro e w3 ⟨rfl, hb3⟩
          have B4 := B3.trans (hb3.mono B3.size)
          have hc3 := fun o => hb3.cell (p := ⟨w.heap.size, o, none⟩) s2
          clear hb3 HA hbw B3
          go_wp2_with fail
          refine (HB.out _ B4).mono ?_
          rintro e w4 ⟨rfl, hb4⟩
          have B5 := B4.trans (hb4.mono B4.size)
          clear hb4 HB hc1 hc2 hc3 B4
          go_wp2
          go_ret
          exact ⟨ret_tb (by rw [HE.out]; cases ob <;> rfl), B5⟩

theorem okY_any (t : St) : OkY t := by
  refine St.ind (P := OkY) (fun t iha ihb => ?_) t
  exact okY_step t (okYL_step t.a iha) (okYL_step t.b ihb)
end Go.Proofs.YtgigalcajgjpnaaGreat

namespace Go.Proofs.YtgigalcajgjpnaaGreat
open Go.RowKit
set_option maxRecDepth 8000

def PartsY (f : Nat) : Prop := ∀ (t : St) (B : Nat → Prop) (vx va vb : Value) (w : World), El w B t.x vx → Sl w B t.a va → Sl w B t.b vb →
  Calls Tryz.prog 66 #[st t.k t.s t.t vx va vb, .int .i64 (6 - (f : Int))] w fun e w' => e = .returned (.int .i64 (partsS f t)) ∧ Below w.heap.size w w'

theorem partsY_zero : PartsY 0 := by
  intro t B vx va vb w hx ha hb
  obtain ⟨xo, xc, rfl, -, -, -⟩ := hx.len
  obtain ⟨yo, yc, rfl, -, -, -⟩ := ha.len
  obtain ⟨zo, zc, rfl, -, -, -⟩ := hb.len
  obtain ⟨k, hk⟩ : ∃ k, t.k = k := ⟨_, rfl⟩
  obtain ⟨s, hsn⟩ : ∃ s, t.s = s := ⟨_, rfl⟩
  obtain ⟨u, hun⟩ : ∃ u, t.t = u := ⟨_, rfl⟩
  have HR : Hid (((partsS 0 t : Nat) : Int) = 61) := rfl
  rw [hk, hsn, hun]
  clear hx ha hb
  go_enter Tryz.func66, Tryz.ntmps66
  go_wp2
  go_ret
  exact ⟨ret_j HR.out.symm, (Below.refl _ _).alloc (Nat.le_refl _) _⟩

theorem partsSL_bd (f : Nat) (l : List St) : ∀ n, n ≤ 121 + 60 * f → l.foldl (partsSG (partsS f)) n ≤ 121 + 60 * f := by
  induction l with
  | nil => intro n h; exact h
  | cons x r ih =>
    intro n h
    rw [List.foldl_cons]
    apply ih
    have := (partsS_bd f x).2
    unfold partsSG
    split <;> omega
theorem partsSL_le (f : Nat) (l : List St) : ∀ n, n ≤ l.foldl (partsSG (partsS f)) n := by
  induction l with
  | nil => intro n; exact Nat.le_refl _
  | cons x r ih =>
    intro n
    rw [List.foldl_cons]
    refine Nat.le_trans ?_ (ih _)
    unfold partsSG
    split <;> omega
theorem partsSL_take {f : Nat} (l : List St) (k n : Nat) (h : k < l.length) : (l.take (k + 1)).foldl (partsSG (partsS f)) n = partsSG (partsS f) ((l.take k).foldl (partsSG (partsS f)) n) l[k] := by
  rw [List.take_succ_eq_append_getElem h, List.foldl_append]; rfl
theorem partsSL_cut {f : Nat} (l : List St) (k n : Nat) (h : 60 < (l.take k).foldl (partsSG (partsS f)) n) : l.foldl (partsSG (partsS f)) n = (l.take k).foldl (partsSG (partsS f)) n := by
  conv => lhs; rw [← List.take_append_drop k l]
  rw [List.foldl_append]
  exact partsS_stop _ _ h

/-- GEN -/
theorem gen_parts : True := trivial

set_option maxHeartbeats 2000000 in
theorem partsY_succ (f : Nat) (hf : f ≤ 4) (ih : PartsY f) : PartsY (f + 1) := by
  intro t B vx va vb w hx ha hb
  have HE : Hid (partsS (f + 1) t = t.b.foldl (partsSG (partsS f)) (t.a.foldl (partsSG (partsS f)) 1)) := by show _ = _; rw [partsS, St.ab, List.foldl_append]
  obtain ⟨xo, xc, rfl, -, -, -⟩ := hx.len
  obtain ⟨yo, yc, rfl, hl1, hl2, -⟩ := ha.len
  obtain ⟨zo, zc, rfl, hm1, hm2, -⟩ := hb.len
  obtain ⟨R, hR⟩ : ∃ R, partsS (f + 1) t = R := ⟨_, rfl⟩
  obtain ⟨k, hk⟩ : ∃ k, t.k = k := ⟨_, rfl⟩
  obtain ⟨s, hsn⟩ : ∃ s, t.s = s := ⟨_, rfl⟩
  obtain ⟨u, hun⟩ : ∃ u, t.t = u := ⟨_, rfl⟩
  obtain ⟨x, hxn⟩ : ∃ x, t.x = x := ⟨_, rfl⟩
  obtain ⟨a, han⟩ : ∃ a, t.a = a := ⟨_, rfl⟩
  obtain ⟨b, hbn⟩ : ∃ b, t.b = b := ⟨_, rfl⟩
  rw [hR, han, hbn] at HE
  rw [hk, hsn, hun, hxn, han, hbn, hR]
  rw [han] at ha hl1
  rw [hbn] at hb hm1
  clear hR hk hsn hun hxn han hbn hx
  have hm : yc ≤ 9223372036854775807 := by unfold maxLen at hl2; omega
  have hn : zc ≤ 9223372036854775807 := by unfold maxLen at hm2; omega
  have HHA := Hid.mk ha
  have HHB := Hid.mk hb
  have HI := Hid.mk ih
  clear ih ha hb hl2 hm2
  obtain ⟨d, hd⟩ : ∃ d : Int, 6 - ((f + 1 : Nat) : Int) = d := ⟨_, rfl⟩
  rw [hd]
  have hd6 : ¬ 5 < d := by omega
  have hd7 : d + 1 = 6 - (f : Int) := by omega
  have B0 : Below w.heap.size w (w.alloc (.cells #[.int .i64 k, .string s, .string u, .slice xo x.length xc, .slice yo a.length yc, .slice zo b.length zc] 80)) := (Below.refl _ _).alloc (Nat.le_refl _) _
  have B01 : Below (w.heap.size + 1) (w.alloc (.cells #[.int .i64 k, .string s, .string u, .slice xo x.length xc, .slice yo a.length yc, .slice zo b.length zc] 80)) (w.alloc (.cells #[.int .i64 k, .string s, .string u, .slice xo x.length xc, .slice yo a.length yc, .slice zo b.length zc] 80)) := Below.refl _ _
  obtain ⟨M, hM⟩ : ∃ M, a.foldl (partsSG (partsS f)) 1 = M := ⟨_, rfl⟩
  have hM1 : M ≤ 2000 := by rw [← hM]; have := partsSL_bd f a 1 (by omega); omega
  rw [hM] at HE
  go_enter Tryz.func66, Tryz.ntmps66
  go_wp2
  go_loopw [5, 6] (fun q i wr => ∃ (k1 m : Nat), k1 ≤ a.length ∧ i = .int .i64 k1 ∧ q = .int .i64 m ∧ m ≤ 2000 ∧ Hid (m = (a.take k1).foldl (partsSG (partsS f)) 1) ∧ Below (w.heap.size + 1) (w.alloc (.cells #[.int .i64 k, .string s, .string u, .slice xo x.length xc, .slice yo a.length yc, .slice zo b.length zc] 80)) wr) (fun _ i _ => a.length - (intOf i).toNat)
  case atStart => exact ⟨0, 1, Nat.zero_le _, rfl, rfl, by omega, rfl, B01⟩
  case round =>
    obtain ⟨k1, m, hk, rfl, rfl, m1, Hm, hbel⟩ := hrel
    have hc1 := fun o => hbel.cell (p := ⟨w.heap.size, o, none⟩) (by simp)
    have hbw := B0.trans (hbel.mono (by omega))
    have hs1 := hbel.size
    simp at hs1
    by_cases hkl : k1 < a.length
    · have hi1 : (k1 : Int) < (a.length : Int) := by omega
      by_cases h60 : m ≤ 60
      · have h60' : (m : Int) ≤ 60 := by omega
        obtain ⟨bb, off, X, Y, Z, rfl, hel⟩ := HHA.out.elems (by intro hn; rw [hn] at hkl; simp at hkl)
        obtain ⟨h3, hx, ha, hz, -, -⟩ := hel k1 hkl
        have HT := Hid.mk (partsSL_take (f := f) a k1 1 hkl)
        obtain ⟨t, ht⟩ : ∃ t, a[k1] = t := ⟨_, rfl⟩
        rw [ht] at h3 hx ha hz HT
        clear ht hel
        obtain ⟨c0, c1, c2, c3, c4, c5⟩ := h3.kept (w' := wr) (hbw.block bb (World.block_lt_of_cell? w _ h3.1))
        have HCall := Hid.mk (HI.out t B (X k1) (Y k1) (Z k1) wr (hx.grow hbw) (ha.grow hbw) (hz.grow hbw))
        obtain ⟨bd0, bd1⟩ := partsS_bd f t
        obtain ⟨xo', xc', hxv, -, -, -⟩ := hx.len
        obtain ⟨yo', yc', hyv, -, -, -⟩ := ha.len
        obtain ⟨zo', zc', hzv, -, -, -⟩ := hz.len
        rw [hxv] at c3 HCall
        rw [hyv] at c4 HCall
        rw [hzv] at c5 HCall
        obtain ⟨tk, htk⟩ : ∃ tk, t.k = tk := ⟨_, rfl⟩
        obtain ⟨ts, hts⟩ : ∃ ts, t.s = ts := ⟨_, rfl⟩
        obtain ⟨tu, htu⟩ : ∃ tu, t.t = tu := ⟨_, rfl⟩
        rw [htk, hts, htu] at HCall
        rw [htk] at c0
        rw [hts] at c1
        rw [htu] at c2
        obtain ⟨q, hq⟩ : ∃ q, partsS f t = q := ⟨_, rfl⟩
        rw [hq] at bd0 bd1 HCall
        have HQ : Hid ((a.take (k1 + 1)).foldl (partsSG (partsS f)) 1 = m + q) := by
          show _ = _
          rw [HT.out, ← Hm.out, partsSG, if_pos h60, hq]
        clear hx ha hz h3 hxv hyv hzv HT Hm hq htk hts htu hbw
        go_wp2_with fail
        refine HCall.out.mono ?_
        rintro e w2 ⟨rfl, hb2⟩
        have B3 := hbel.trans (hb2.mono (by omega))
        clear hbel hb2 HCall hc1
        go_wp2
        go_roundw
        case rel => exact ⟨k1 + 1, m + q, by omega, by go_num, by go_num, by omega, HQ.out.symm, B3⟩
        case measure => simp [intOf]; omega
      · have h60' : ¬ (m : Int) ≤ 60 := by omega
        have HF : Hid (a.foldl (partsSG (partsS f)) 1 = m) := by
          show _ = _
          have e1 := Hm.out
          rw [partsSL_cut (f := f) a k1 1 (by omega), ← e1]
        clear Hm
        have hMm : M = m := by rw [← HF.out, ← hM]
        clear hM HHA HF
        subst hMm
        clear B01 hkl
        go_wp2
        go_loopw [5, 7] (fun q i wr => ∃ (k1 m : Nat), k1 ≤ b.length ∧ i = .int .i64 k1 ∧ q = .int .i64 m ∧ m ≤ 2000 ∧ Hid (m = (b.take k1).foldl (partsSG (partsS f)) M) ∧ Below (w.heap.size + 1) (w.alloc (.cells #[.int .i64 k, .string s, .string u, .slice xo x.length xc, .slice yo a.length yc, .slice zo b.length zc] 80)) wr) (fun _ i _ => b.length - (intOf i).toNat)
        case atStart => exact ⟨0, M, Nat.zero_le _, rfl, rfl, by omega, rfl, hbel⟩
        case round =>
          obtain ⟨k1, m, hk, rfl, rfl, m1, Hm, hbel⟩ := hrel
          have hc1 := fun o => hbel.cell (p := ⟨w.heap.size, o, none⟩) (by simp)
          have hbw := B0.trans (hbel.mono (by omega))
          have hs1 := hbel.size
          simp at hs1
          by_cases hkl : k1 < b.length
          · have hi1 : (k1 : Int) < (b.length : Int) := by omega
            by_cases h60 : m ≤ 60
            · have h60' : (m : Int) ≤ 60 := by omega
              obtain ⟨bb, off, X, Y, Z, rfl, hel⟩ := HHB.out.elems (by intro hn; rw [hn] at hkl; simp at hkl)
              obtain ⟨h3, hx, ha, hz, -, -⟩ := hel k1 hkl
              have HT := Hid.mk (partsSL_take (f := f) b k1 M hkl)
              obtain ⟨t, ht⟩ : ∃ t, b[k1] = t := ⟨_, rfl⟩
              rw [ht] at h3 hx ha hz HT
              clear ht hel
              obtain ⟨c0, c1, c2, c3, c4, c5⟩ := h3.kept (w' := wr) (hbw.block bb (World.block_lt_of_cell? w _ h3.1))
              have HCall := Hid.mk (HI.out t B (X k1) (Y k1) (Z k1) wr (hx.grow hbw) (ha.grow hbw) (hz.grow hbw))
              obtain ⟨bd0, bd1⟩ := partsS_bd f t
              obtain ⟨xo', xc', hxv, -, -, -⟩ := hx.len
              obtain ⟨yo', yc', hyv, -, -, -⟩ := ha.len
              obtain ⟨zo', zc', hzv, -, -, -⟩ := hz.len
              rw [hxv] at c3 HCall
              rw [hyv] at c4 HCall
              rw [hzv] at c5 HCall
              obtain ⟨tk, htk⟩ : ∃ tk, t.k = tk := ⟨_, rfl⟩
              obtain ⟨ts, hts⟩ : ∃ ts, t.s = ts := ⟨_, rfl⟩
              obtain ⟨tu, htu⟩ : ∃ tu, t.t = tu := ⟨_, rfl⟩
              rw [htk, hts, htu] at HCall
              rw [htk] at c0
              rw [hts] at c1
              rw [htu] at c2
              obtain ⟨q, hq⟩ : ∃ q, partsS f t = q := ⟨_, rfl⟩
              rw [hq] at bd0 bd1 HCall
              have HQ : Hid ((b.take (k1 + 1)).foldl (partsSG (partsS f)) M = m + q) := by
                show _ = _
                rw [HT.out, ← Hm.out, partsSG, if_pos h60, hq]
              clear hx ha hz h3 hxv hyv hzv HT Hm hq htk hts htu hbw
              go_wp2_with fail
              refine HCall.out.mono ?_
              rintro e w2 ⟨rfl, hb2⟩
              have B3 := hbel.trans (hb2.mono (by omega))
              clear hbel hb2 HCall hc1
              go_wp2
              go_roundw
              case rel => exact ⟨k1 + 1, m + q, by omega, by go_num, by go_num, by omega, HQ.out.symm, B3⟩
              case measure => simp [intOf]; omega
            · have h60' : ¬ (m : Int) ≤ 60 := by omega
              have HF : Hid (b.foldl (partsSG (partsS f)) M = m) := by
                show _ = _
                have e1 := Hm.out
                rw [partsSL_cut (f := f) b k1 M (by omega), ← e1]
              clear Hm
              have HG : Hid ((R : Int) = m) := by show _ = _; rw [HE.out, HF.out]
              clear HF HE
              go_wp2
              go_ret
              exact ⟨ret_j HG.out.symm, hbw⟩
          · have e : k1 = b.length := by omega
            subst e
            have HF : Hid (b.foldl (partsSG (partsS f)) M = m) := by show _ = _; rw [Hm.out, List.take_length]
            clear Hm
            have HG : Hid ((R : Int) = m) := by show _ = _; rw [HE.out, HF.out]
            clear HF HE
            go_wp2
            go_ret
            exact ⟨ret_j HG.out.symm, hbw⟩
    · have e : k1 = a.length := by omega
      subst e
      have HF : Hid (a.foldl (partsSG (partsS f)) 1 = m) := by show _ = _; rw [Hm.out, List.take_length]
      clear Hm
      have hMm : M = m := by rw [← HF.out, ← hM]
      clear hM HHA HF
      subst hMm
      clear B01 hkl
      go_wp2
      go_loopw [5, 7] (fun q i wr => ∃ (k1 m : Nat), k1 ≤ b.length ∧ i = .int .i64 k1 ∧ q = .int .i64 m ∧ m ≤ 2000 ∧ Hid (m = (b.take k1).foldl (partsSG (partsS f)) M) ∧ Below (w.heap.size + 1) (w.alloc (.cells #[.int .i64 k, .string s, .string u, .slice xo x.length xc, .slice yo a.length yc, .slice zo b.length zc] 80)) wr) (fun _ i _ => b.length - (intOf i).toNat)
      case atStart => exact ⟨0, M, Nat.zero_le _, rfl, rfl, by omega, rfl, hbel⟩
      case round =>
        obtain ⟨k1, m, hk, rfl, rfl, m1, Hm, hbel⟩ := hrel
        have hc1 := fun o => hbel.cell (p := ⟨w.heap.size, o, none⟩) (by simp)
        have hbw := B0.trans (hbel.mono (by omega))
        have hs1 := hbel.size
        simp at hs1
        by_cases hkl : k1 < b.length
        · have hi1 : (k1 : Int) < (b.length : Int) := by omega
          by_cases h60 : m ≤ 60
          · have h60' : (m : Int) ≤ 60 := by omega
            obtain ⟨bb, off, X, Y, Z, rfl, hel⟩ := HHB.out.elems (by intro hn; rw [hn] at hkl; simp at hkl)
            obtain ⟨h3, hx, ha, hz, -, -⟩ := hel k1 hkl
            have HT := Hid.mk (partsSL_take (f := f) b k1 M hkl)
            obtain ⟨t, ht⟩ : ∃ t, b[k1] = t := ⟨_, rfl⟩
            rw [ht] at h3 hx ha hz HT
            clear ht hel
            obtain ⟨c0, c1, c2, c3, c4, c5⟩ := h3.kept (w' := wr) (hbw.block bb (World.block_lt_of_cell? w _ h3.1))
            have HCall := Hid.mk (HI.out t B (X k1) (Y k1) (Z k1) wr (hx.grow hbw) (ha.grow hbw) (hz.grow hbw))
            obtain ⟨bd0, bd1⟩ := partsS_bd f t
            obtain ⟨xo', xc', hxv, -, -, -⟩ := hx.len
            obtain ⟨yo', yc', hyv, -, -, -⟩ := ha.len
            obtain ⟨zo', zc', hzv, -, -, -⟩ := hz.len
            rw [hxv] at c3 HCall
            rw [hyv] at c4 HCall
            rw [hzv] at c5 HCall
            obtain ⟨tk, htk⟩ : ∃ tk, t.k = tk := ⟨_, rfl⟩
            obtain ⟨ts, hts⟩ : ∃ ts, t.s = ts := ⟨_, rfl⟩
            obtain ⟨tu, htu⟩ : ∃ tu, t.t = tu := ⟨_, rfl⟩
            rw [htk, hts, htu] at HCall
            rw [htk] at c0
            rw [hts] at c1
            rw [htu] at c2
            obtain ⟨q, hq⟩ : ∃ q, partsS f t = q := ⟨_, rfl⟩
            rw [hq] at bd0 bd1 HCall
            have HQ : Hid ((b.take (k1 + 1)).foldl (partsSG (partsS f)) M = m + q) := by
              show _ = _
              rw [HT.out, ← Hm.out, partsSG, if_pos h60, hq]
            clear hx ha hz h3 hxv hyv hzv HT Hm hq htk hts htu hbw
            go_wp2_with fail
            refine HCall.out.mono ?_
            rintro e w2 ⟨rfl, hb2⟩
            have B3 := hbel.trans (hb2.mono (by omega))
            clear hbel hb2 HCall hc1
            go_wp2
            go_roundw
            case rel => exact ⟨k1 + 1, m + q, by omega, by go_num, by go_num, by omega, HQ.out.symm, B3⟩
            case measure => simp [intOf]; omega
          · have h60' : ¬ (m : Int) ≤ 60 := by omega
            have HF : Hid (b.foldl (partsSG (partsS f)) M = m) := by
              show _ = _
              have e1 := Hm.out
              rw [partsSL_cut (f := f) b k1 M (by omega), ← e1]
            clear Hm
            have HG : Hid ((R : Int) = m) := by show _ = _; rw [HE.out, HF.out]
            clear HF HE
            go_wp2
            go_ret
            exact ⟨ret_j HG.out.symm, hbw⟩
        · have e : k1 = b.length := by omega
          subst e
          have HF : Hid (b.foldl (partsSG (partsS f)) M = m) := by show _ = _; rw [Hm.out, List.take_length]
          clear Hm
          have HG : Hid ((R : Int) = m) := by show _ = _; rw [HE.out, HF.out]
          clear HF HE
          go_wp2
          go_ret
          exact ⟨ret_j HG.out.symm, hbw⟩

theorem partsY_five : PartsY 5 := partsY_succ 4 (by omega) (partsY_succ 3 (by omega) (partsY_succ 2 (by omega) (partsY_succ 1 (by omega) (partsY_succ 0 (by omega) partsY_zero))))

theorem specStmtOk_any (t : St) (B : Nat → Prop) (vx va vb : Value) (w : World) (hx : El w B t.x vx) (ha : Sl w B t.a va) (hb : Sl w B t.b vb) (hs : ShY t) :
    Calls Tryz.prog 40 #[st t.k t.s t.t vx va vb] w fun e w' => e = .returned (.bool (okS t)) ∧ Below w.heap.size w w' := by
  have HC := Hid.mk (fun (w' : World) (hw : Below w.heap.size w w') => partsY_five t B vx va vb w' (hx.grow hw) (ha.grow hw) (hb.grow hw))
  have HK := Hid.mk (fun (w' : World) (hw : Below w.heap.size w w') => okY_any t B vx va vb w' (hx.grow hw) (ha.grow hw) (hb.grow hw) hs)
  have HO : Hid (okS t = (decide (partsS 5 t ≤ 60) && t.okT)) := rfl
  obtain ⟨xo, xc, rfl, -, -, -⟩ := hx.len
  obtain ⟨yo, yc, rfl, -, -, -⟩ := ha.len
  obtain ⟨zo, zc, rfl, -, -, -⟩ := hb.len
  obtain ⟨r, hr⟩ : ∃ b, okS t = b := ⟨_, rfl⟩
  obtain ⟨q, hq⟩ : ∃ q, partsS 5 t = q := ⟨_, rfl⟩
  obtain ⟨o, ho⟩ : ∃ o, t.okT = o := ⟨_, rfl⟩
  obtain ⟨k, hk⟩ : ∃ k, t.k = k := ⟨_, rfl⟩
  obtain ⟨s, hsn⟩ : ∃ s, t.s = s := ⟨_, rfl⟩
  obtain ⟨u, hun⟩ : ∃ u, t.t = u := ⟨_, rfl⟩
  obtain ⟨x, hxn⟩ : ∃ x, t.x = x := ⟨_, rfl⟩
  obtain ⟨a, han⟩ : ∃ a, t.a = a := ⟨_, rfl⟩
  obtain ⟨b, hbn⟩ : ∃ b, t.b = b := ⟨_, rfl⟩
  rw [hk, hsn, hun, hxn, han, hbn, hq] at HC
  rw [hk, hsn, hun, hxn, han, hbn, ho] at HK
  rw [hr, hq, ho] at HO
  rw [hk, hsn, hun, hxn, han, hbn, hr]
  have B0 : Below w.heap.size w (w.alloc (.cells #[.int .i64 k, .string s, .string u, .slice xo x.length xc, .slice yo a.length yc, .slice zo b.length zc] 80)) := (Below.refl _ _).alloc (Nat.le_refl _) _
  clear hx ha hb hs hk hsn hun hxn han hbn hr hq ho
  by_cases h60 : q ≤ 60
  · have h60' : (q : Int) ≤ 60 := by omega
    have HR : Hid (o = r) := by show _ = _; rw [HO.out, decide_eq_true h60]; rfl
    clear HO
    go_enter Tryz.func40, Tryz.ntmps40
    go_wp2_with fail
    refine (HC.out _ B0).mono ?_
    rintro e w1 ⟨rfl, hb1⟩
    have B1 := B0.trans (hb1.mono (by simp))
    have hc1 := fun o => hb1.cell (p := ⟨w.heap.size, o, none⟩) (by simp)
    have hs1 := hb1.size
    simp at hs1
    clear B0 hb1 HC
    go_wp2_with fail
    refine (HK.out _ B1).mono ?_
    rintro e w2 ⟨rfl, hb2⟩
    have B2 := B1.trans (hb2.mono (by omega))
    clear B1 hb2 HK hc1
    go_wp2
    go_ret
    exact ⟨ret_b HR.out, B2⟩
  · have h60' : ¬ (q : Int) ≤ 60 := by omega
    have HR : Hid (false = r) := by show _ = _; rw [HO.out, decide_eq_false h60]; rfl
    clear HO HK
    go_enter Tryz.func40, Tryz.ntmps40
    go_wp2_with fail
    refine (HC.out _ B0).mono ?_
    rintro e w1 ⟨rfl, hb1⟩
    have B1 := B0.trans (hb1.mono (by simp))
    clear B0 hb1 HC
    go_wp2
    go_ret
    exact ⟨ret_b HR.out, B1⟩
end Go.Proofs.YtgigalcajgjpnaaGreat

namespace Go.Proofs.YtgigalcajgjpnaaGreat
open Go.RowKit
set_option maxRecDepth 8000

/-- A number's digits ahead of o. -/
def mDig (n : Nat) (o : ByteArray) : ByteArray := if _h : n = 0 then o else mDig (n / 10) (strOf [48 + (n : Int) % 10] ++ o)
termination_by n
theorem mDig_zero (o : ByteArray) : mDig 0 o = o := by rw [mDig]; simp
theorem mDig_step (n : Nat) (h : 0 < n) (o : ByteArray) : mDig n o = mDig (n / 10) (strOf [48 + (n : Int) % 10] ++ o) := by rw [mDig]; simp [show n ≠ 0 by omega]

/-- What markText answers. -/
def mkS (n : Nat) : ByteArray := if n = 0 then ⟨#[109, 48]⟩ else ⟨#[109]⟩ ++ mDig n ⟨#[]⟩

theorem run_byteM (c : Int) (h0 : 0 ≤ c) (h1 : c ≤ 255) (w : World) :
    (convert 62 9 (.slice (some ⟨w.heap.size, 0, none⟩) 1 1)).run Tryz.prog (w.alloc (.cells #[.int .u8 c] 5)) = .ok (.string (strOf [c])) (w.alloc (.cells #[.int .u8 c] 5)) := run_strOf (Bs.one w c h0 h1) rfl

end Go.Proofs.YtgigalcajgjpnaaGreat

namespace Go.Proofs.YtgigalcajgjpnaaGreat
open Go.RowKit
set_option maxRecDepth 8000

/-- A slice that reads these texts. -/
def Tz (w : World) (v : Value) (xs : List ByteArray) : Prop := ∃ ao cap, v = .slice ao xs.length cap ∧ xs.length ≤ cap ∧ cap ≤ maxLen ∧ (ao = none → cap = 0) ∧ (xs ≠ [] → ∃ b off, ao = some ⟨b, off, none⟩ ∧ ∀ k, k < xs.length → w.cell? ⟨b, off + k, none⟩ = some (.string (xs.getD k ⟨#[]⟩)))
/-- A slice of the call's own with these texts. -/
def OwnT (w : World) (base : Nat) (v : Value) (xs : List ByteArray) : Prop := w.ownsRow base 9 1 v xs.length (xs.map (Value.string))

theorem Tz.grow {w w' : World} {v : Value} {xs : List ByteArray} (h : Tz w v xs) (hb : Below w.heap.size w w') : Tz w' v xs := by
  obtain ⟨ao, cap, h1, h2, h3, h4, h5⟩ := h
  refine ⟨ao, cap, h1, h2, h3, h4, fun hn => ?_⟩
  obtain ⟨b, off, h6, h7⟩ := h5 hn
  have h0 : 0 < xs.length := List.length_pos_iff.2 hn
  have hbl : b < w.heap.size := World.block_lt_of_cell? w _ (h7 0 h0)
  exact ⟨b, off, h6, fun k hk => by rw [hb.cell (p := ⟨b, off + k, none⟩) hbl]; exact h7 k hk⟩
theorem OwnT.iz {w : World} {base : Nat} {v : Value} {xs : List ByteArray} (h : OwnT w base v xs) : Tz w v xs := by
  rcases h.2 with ⟨h1, h2⟩ | ⟨g, cap, cur, rfl, hb, hg, hn, hm, hs, ht⟩
  · obtain rfl : xs = [] := List.length_eq_zero_iff.1 h2
    exact ⟨none, 0, h1, Nat.le_refl _, by simp, fun _ => rfl, fun h => absurd rfl h⟩
  · refine ⟨some ⟨g, 0, none⟩, cap, rfl, hn, hm, (fun h => by cases h), fun _ => ⟨g, 0, rfl, fun k hk => ?_⟩⟩
    have := h.cellAt k (by omega)
    rw [Nat.zero_add, this]
    simp [hk]
theorem OwnT.mono {w : World} {base base' : Nat} {v : Value} {xs : List ByteArray} (h : OwnT w base v xs) (hle : base' ≤ base) : OwnT w base' v xs := by
  refine ⟨h.1, ?_⟩
  rcases h.2 with h' | ⟨g, cap, cur, e, hb, rest⟩
  · exact Or.inl h'
  · exact Or.inr ⟨g, cap, cur, e, Nat.le_trans hle hb, rest⟩
theorem OwnT.grow {w w' : World} {base : Nat} {v : Value} {xs : List ByteArray} (h : OwnT w base v xs) (hb : Below w.heap.size w w') : OwnT w' base v xs :=
  World.ownsRow.kept (row := none) h ⟨hb.os, hb.tape, hb.output, hb.size, fun k hk _ => hb.block k hk⟩ (by
    rcases h.2 with ⟨rfl, _⟩ | ⟨g, cap, cur, rfl, _⟩
    · exact .inl rfl
    · exact .inr (by simp [Value.ownBlock]))

theorem infoT : (Tryz.prog.info? 9).map (fun i => (i.zero, i.size, i.bytes)) = some (some (.string ⟨#[]⟩), 1, 16) := by kernel_rfl
theorem wpList_append_t {w0 w : World} {ops : Array Oper} {rest : List Oper} {o : Oper} {a : Act} {Q : Exit → Act → World → Prop} (hgd : o.guard = none) (s x : Operand)
    (ho : o.op = .call { callee := .builtin .append, args := #[s, x], argTypes := #[45, 45] })
    (base : Nat) (v u : Value) (xs zs : List ByteArray) (hs : a.eval s = v) (hown : OwnT w base v xs) (hx : a.eval x = u) (hu : Tz w u zs)
    (hbel : Below base w0 w) (hbase : base ≤ w.heap.size) (hlen : xs.length + zs.length ≤ 1073741824)
    (h : ∀ v' w', OwnT w' base v' (xs ++ zs) → Below base w0 w' → base ≤ w'.heap.size → w.heap.size ≤ w'.heap.size → (∀ b, b < w.heap.size → some b ≠ v.ownBlock → w'.heap[b]? = w.heap[b]?) → wpList Tryz.prog ops Q rest (a.put o.dst v') w') :
    wpList Tryz.prog ops Q (o :: rest) a w := by
  obtain ⟨i0, hi, hz0, hz1, hz2⟩ := info_parts infoT
  obtain ⟨ao, cap, rfl, hl, hm, hn, hc⟩ := hu
  cases ao with
  | none =>
    have hcap := hn rfl
    have hz : zs.length = 0 := by omega
    have hz' : zs = [] := List.eq_nil_of_length_eq_zero hz
    subst hz'
    subst hcap
    refine wpList_append_own_none hgd s x 45 ho base 9 i0 1 Tryz.underlying45 hi v xs.length (xs.map (Value.string)) hs hown hx ?_
    have := h v w (by rw [List.append_nil]; exact hown) hbel hbase (Nat.le_refl _) (fun _ _ _ => rfl)
    exact this
  | some ad =>
    refine wpList_append_own w hgd s x 45 ho base 9 i0 (.string ⟨#[]⟩) 1 16 Tryz.underlying45 hi hz0 hz1 hz2 rfl (by decide) v xs.length (xs.map (Value.string)) hs hown ad zs.length cap (zs.map (Value.string)) hx
      (by simp) ?_ (by simp [Value.oneCell']) (by unfold maxLen; omega) (by omega) hbase ?_
    · intro j q hq
      have hj : j < zs.length := by have := (List.getElem?_eq_some_iff.1 hq).1; simpa using this
      obtain ⟨b, off, e, hcell⟩ := hc (by intro h0; rw [h0] at hj; simp at hj)
      obtain rfl := Option.some.inj e
      rw [Addr.add_lit, hcell j hj]
      simpa [hj] using hq
    · intro v' w' hown' hgr hx'
      refine h v' w' ?_ (hbel.grown hgr hbase fun k hk => (World.ownsRow.lt hown k hk).1) (Nat.le_trans hbase hgr.size) hgr.size (fun b hb hne => ?_)
      · unfold OwnT
        rw [List.map_append, List.length_append]
        exact hown'
      · obtain ⟨_, _, _, _, hk⟩ := hgr
        exact hk b hb hne

set_option maxHeartbeats 1000000 in
theorem eqStringS_same (v v' : Value) (zs : List ByteArray) (w : World) (h : Tz w v zs) (h' : Tz w v' zs) :
    Calls Tryz.prog 82 #[v, v'] w fun e w' => e = .returned (.bool true) ∧ ∃ n, w' = w.drewN n := by
  obtain ⟨ao, cap, rfl, hl, hm, hn, hc⟩ := h
  obtain ⟨ao2, cap2, rfl, hl2, hm2, hn2, hc2⟩ := h'
  unfold maxLen at hm hm2
  have hnn : ((zs.length : Int) != (zs.length : Int)) = false := by simp
  go_enter Tryz.func82, Tryz.ntmps82
  go_wp2
  go_loopw [5] (fun i wr => ∃ k : Nat, k ≤ zs.length ∧ i = .int .i64 k ∧ ∃ n, wr = w.drewN n) (fun i _ => zs.length - (intOf i).toNat)
  case atStart => exact ⟨0, Nat.zero_le _, rfl, 0, rfl⟩
  case round =>
    obtain ⟨k, hk, rfl, n, rfl⟩ := hrel
    by_cases hlt : k < zs.length
    · obtain ⟨b, off, rfl, hcell⟩ := hc (by intro h0; rw [h0] at hlt; simp at hlt)
      obtain ⟨b2, off2, rfl, hcell2⟩ := hc2 (by intro h0; rw [h0] at hlt; simp at hlt)
      obtain ⟨c, Hc⟩ : ∃ c, Hid (zs.getD k ⟨#[]⟩ = c) := ⟨_, rfl⟩
      have h1 : w.cell? ⟨b, off + k, none⟩ = some (.string c) := by rw [← Hc.out]; exact hcell k hlt
      have h2 : w.cell? ⟨b2, off2 + k, none⟩ = some (.string c) := by rw [← Hc.out]; exact hcell2 k hlt
      have h4 : (c.toList != c.toList) = false := by simp
      have hi1 : (k : Int) < (zs.length : Int) := by omega
      clear hc hc2 hcell hcell2
      go_wp2
      go_quiet (fail)
      go_wp2
      go_roundw
      case rel => exact ⟨k + 1, by omega, by go_num, _, rfl⟩
      case measure => simp [intOf]; omega
    · go_wp2
      go_ret
      exact ⟨rfl, n, rfl⟩
end Go.Proofs.YtgigalcajgjpnaaGreat

namespace Go.Proofs.YtgigalcajgjpnaaGreat
open Go.RowKit

structure Ru where
  k : Int
  p : Ex
  a : List St
structure Fu where
  n : ByteArray
  ps : List ByteArray
  a : List St
structure Pg where
  r : List Ru
  f : List Fu
instance : Inhabited Ru := ⟨⟨0, default, []⟩⟩
instance : Inhabited Fu := ⟨⟨⟨#[]⟩, [], []⟩⟩

/-- A slice that reads these texts, its block in B. -/
def Tb (w : World) (B : Nat → Prop) (v : Value) (xs : List ByteArray) : Prop := ∃ ao cap, v = .slice ao xs.length cap ∧ xs.length ≤ cap ∧ cap ≤ maxLen ∧ (ao = none → cap = 0) ∧ (∀ s ∈ xs, s.size ≤ maxLen) ∧ (xs ≠ [] → ∃ b off, ao = some ⟨b, off, none⟩ ∧ B b ∧ ∀ k, k < xs.length → w.cell? ⟨b, off + k, none⟩ = some (.string (xs.getD k ⟨#[]⟩)))
theorem Tb.tz {w : World} {B : Nat → Prop} {v : Value} {xs : List ByteArray} (h : Tb w B v xs) : Tz w v xs := by
  obtain ⟨ao, cap, h1, h2, h3, h4, -, h5⟩ := h
  exact ⟨ao, cap, h1, h2, h3, h4, fun hn => by obtain ⟨b, off, e, -, hc⟩ := h5 hn; exact ⟨b, off, e, hc⟩⟩
theorem Tb.kept {w w' : World} {B : Nat → Prop} {v : Value} {xs : List ByteArray} (h : Tb w B v xs) (hk : ∀ b, B b → b < w.heap.size → w'.heap[b]? = w.heap[b]?) : Tb w' B v xs := by
  obtain ⟨ao, cap, h1, h2, h3, h4, h5, h6⟩ := h
  refine ⟨ao, cap, h1, h2, h3, h4, h5, fun hn => ?_⟩
  obtain ⟨b, off, e, hb, hc⟩ := h6 hn
  have h0 : 0 < xs.length := List.length_pos_iff.2 hn
  have hlt := World.block_lt_of_cell? w _ (hc 0 h0)
  exact ⟨b, off, e, hb, fun k hkl => by rw [World.cell?_of_block (w := w) (hk b hb hlt)]; exact hc k hkl⟩
theorem Tb.grow {w w' : World} {B : Nat → Prop} {v : Value} {xs : List ByteArray} (h : Tb w B v xs) (hk : Below w.heap.size w w') : Tb w' B v xs := h.kept fun b _ hb => hk.block b hb
theorem Tb.imp {w : World} {B C : Nat → Prop} {v : Value} {xs : List ByteArray} (h : Tb w B v xs) (hk : ∀ b, B b → b < w.heap.size → C b) : Tb w C v xs := by
  obtain ⟨ao, cap, h1, h2, h3, h4, h5, h6⟩ := h
  refine ⟨ao, cap, h1, h2, h3, h4, h5, fun hn => ?_⟩
  obtain ⟨b, off, e, hb, hc⟩ := h6 hn
  exact ⟨b, off, e, hk b hb (World.block_lt_of_cell? w _ (hc 0 (List.length_pos_iff.2 hn))), hc⟩
theorem Tb.setCell {w : World} {B : Nat → Prop} {v : Value} {xs : List ByteArray} (h : Tb w B v xs) {a : Addr} (ha : ¬ B a.block) (u : Value) : Tb (w.setCell a u) B v xs :=
  h.kept fun b hb _ => heap_setCell_other w a b u fun e => ha (e ▸ hb)
theorem Tb.any {w : World} {B : Nat → Prop} {v : Value} {xs : List ByteArray} (h : Tb w B v xs) : Tb w anyBlock v xs := h.imp fun _ _ _ => trivial
theorem Tb.zero (w : World) (B : Nat → Prop) : Tb w B (.slice none 0 0) [] := ⟨none, 0, rfl, Nat.le_refl _, by simp, fun _ => rfl, by simp, fun h => absurd rfl h⟩

/-- The six cells of a rule, the three of a function. -/
def Ru6 (w : World) (b o : Nat) (r : Ru) (x y : Value) : Prop :=
  w.cell? ⟨b, o, none⟩ = some (.int .i64 r.k) ∧ w.cell? ⟨b, o + 1, none⟩ = some (.int .i64 r.p.k) ∧ w.cell? ⟨b, o + 2, none⟩ = some (.int .i64 r.p.n) ∧ w.cell? ⟨b, o + 3, none⟩ = some (.string r.p.s) ∧ w.cell? ⟨b, o + 4, none⟩ = some x ∧ w.cell? ⟨b, o + 5, none⟩ = some y
def Fu3 (w : World) (b o : Nat) (f : Fu) (x y : Value) : Prop :=
  w.cell? ⟨b, o, none⟩ = some (.string f.n) ∧ w.cell? ⟨b, o + 1, none⟩ = some x ∧ w.cell? ⟨b, o + 2, none⟩ = some y

/-- A rule, a function, a program as the program has it. -/
abbrev ruV (r : Ru) (x y : Value) : Value := .agg #[.int .i64 r.k, .int .i64 r.p.k, .int .i64 r.p.n, .string r.p.s, x, y]
abbrev fuV (f : Fu) (x y : Value) : Value := .agg #[.string f.n, x, y]
abbrev pgV (x y : Value) : Value := .agg #[x, y]

def Ul (w : World) (B : Nat → Prop) (l : List Ru) (v : Value) : Prop := ∃ ao cap, v = .slice ao l.length cap ∧ l.length ≤ cap ∧ cap ≤ maxLen ∧ (ao = none → cap = 0) ∧
  (l ≠ [] → ∃ (b off : Nat) (X Y : Nat → Value), ao = some ⟨b, off, none⟩ ∧ B b ∧ ∀ i (h : i < l.length), Ru6 w b (off + i * 6) l[i] (X i) (Y i) ∧ El w B l[i].p.l (X i) ∧ Sl w B l[i].a (Y i) ∧ l[i].p.s.size ≤ maxLen)
def Fl (w : World) (B : Nat → Prop) (l : List Fu) (v : Value) : Prop := ∃ ao cap, v = .slice ao l.length cap ∧ l.length ≤ cap ∧ cap ≤ maxLen ∧ (ao = none → cap = 0) ∧
  (l ≠ [] → ∃ (b off : Nat) (X Y : Nat → Value), ao = some ⟨b, off, none⟩ ∧ B b ∧ ∀ i (h : i < l.length), Fu3 w b (off + i * 3) l[i] (X i) (Y i) ∧ Tb w B (X i) l[i].ps ∧ Sl w B l[i].a (Y i) ∧ l[i].n.size ≤ maxLen)

theorem Ru6.kept {w w' : World} {b o : Nat} {r : Ru} {x y : Value} (h : Ru6 w b o r x y) (hh : w'.heap[b]? = w.heap[b]?) : Ru6 w' b o r x y := by
  obtain ⟨h0, h1, h2, h3, h4, h5⟩ := h
  exact ⟨by rw [World.cell?_of_block (w := w) hh]; exact h0, by rw [World.cell?_of_block (w := w) hh]; exact h1, by rw [World.cell?_of_block (w := w) hh]; exact h2, by rw [World.cell?_of_block (w := w) hh]; exact h3, by rw [World.cell?_of_block (w := w) hh]; exact h4, by rw [World.cell?_of_block (w := w) hh]; exact h5⟩
theorem Fu3.kept {w w' : World} {b o : Nat} {f : Fu} {x y : Value} (h : Fu3 w b o f x y) (hh : w'.heap[b]? = w.heap[b]?) : Fu3 w' b o f x y := by
  obtain ⟨h0, h1, h2⟩ := h
  exact ⟨by rw [World.cell?_of_block (w := w) hh]; exact h0, by rw [World.cell?_of_block (w := w) hh]; exact h1, by rw [World.cell?_of_block (w := w) hh]; exact h2⟩

theorem Ul.kept {w w' : World} {B : Nat → Prop} {l : List Ru} {v : Value} (h : Ul w B l v) (hk : ∀ b, B b → b < w.heap.size → w'.heap[b]? = w.heap[b]?) : Ul w' B l v := by
  obtain ⟨ao, cap, h1, h2, h3, h4, h5⟩ := h
  refine ⟨ao, cap, h1, h2, h3, h4, fun hn => ?_⟩
  obtain ⟨b, off, X, Y, e, hb, hc⟩ := h5 hn
  have hlt := World.block_lt_of_cell? w _ (hc 0 (List.length_pos_iff.2 hn)).1.1
  exact ⟨b, off, X, Y, e, hb, fun i hi => ⟨(hc i hi).1.kept (hk b hb hlt), (hc i hi).2.1.kept hk, (hc i hi).2.2.1.kept hk, (hc i hi).2.2.2⟩⟩
theorem Fl.kept {w w' : World} {B : Nat → Prop} {l : List Fu} {v : Value} (h : Fl w B l v) (hk : ∀ b, B b → b < w.heap.size → w'.heap[b]? = w.heap[b]?) : Fl w' B l v := by
  obtain ⟨ao, cap, h1, h2, h3, h4, h5⟩ := h
  refine ⟨ao, cap, h1, h2, h3, h4, fun hn => ?_⟩
  obtain ⟨b, off, X, Y, e, hb, hc⟩ := h5 hn
  have hlt := World.block_lt_of_cell? w _ (hc 0 (List.length_pos_iff.2 hn)).1.1
  exact ⟨b, off, X, Y, e, hb, fun i hi => ⟨(hc i hi).1.kept (hk b hb hlt), (hc i hi).2.1.kept hk, (hc i hi).2.2.1.kept hk, (hc i hi).2.2.2⟩⟩
theorem Ul.grow {w w' : World} {B : Nat → Prop} {l : List Ru} {v : Value} (h : Ul w B l v) (hk : Below w.heap.size w w') : Ul w' B l v := h.kept fun b _ hb => hk.block b hb
theorem Fl.grow {w w' : World} {B : Nat → Prop} {l : List Fu} {v : Value} (h : Fl w B l v) (hk : Below w.heap.size w w') : Fl w' B l v := h.kept fun b _ hb => hk.block b hb
theorem Ul.imp {w : World} {B C : Nat → Prop} {l : List Ru} {v : Value} (h : Ul w B l v) (hk : ∀ b, B b → b < w.heap.size → C b) : Ul w C l v := by
  obtain ⟨ao, cap, h1, h2, h3, h4, h5⟩ := h
  refine ⟨ao, cap, h1, h2, h3, h4, fun hn => ?_⟩
  obtain ⟨b, off, X, Y, e, hb, hc⟩ := h5 hn
  have hlt := World.block_lt_of_cell? w _ (hc 0 (List.length_pos_iff.2 hn)).1.1
  exact ⟨b, off, X, Y, e, hk b hb hlt, fun i hi => ⟨(hc i hi).1, (hc i hi).2.1.imp hk, (hc i hi).2.2.1.imp hk, (hc i hi).2.2.2⟩⟩
theorem Fl.imp {w : World} {B C : Nat → Prop} {l : List Fu} {v : Value} (h : Fl w B l v) (hk : ∀ b, B b → b < w.heap.size → C b) : Fl w C l v := by
  obtain ⟨ao, cap, h1, h2, h3, h4, h5⟩ := h
  refine ⟨ao, cap, h1, h2, h3, h4, fun hn => ?_⟩
  obtain ⟨b, off, X, Y, e, hb, hc⟩ := h5 hn
  have hlt := World.block_lt_of_cell? w _ (hc 0 (List.length_pos_iff.2 hn)).1.1
  exact ⟨b, off, X, Y, e, hk b hb hlt, fun i hi => ⟨(hc i hi).1, (hc i hi).2.1.imp hk, (hc i hi).2.2.1.imp hk, (hc i hi).2.2.2⟩⟩
theorem Ul.setCell {w : World} {B : Nat → Prop} {l : List Ru} {v : Value} (h : Ul w B l v) {a : Addr} (ha : ¬ B a.block) (u : Value) : Ul (w.setCell a u) B l v :=
  h.kept fun b hb _ => heap_setCell_other w a b u fun e => ha (e ▸ hb)
theorem Fl.setCell {w : World} {B : Nat → Prop} {l : List Fu} {v : Value} (h : Fl w B l v) {a : Addr} (ha : ¬ B a.block) (u : Value) : Fl (w.setCell a u) B l v :=
  h.kept fun b hb _ => heap_setCell_other w a b u fun e => ha (e ▸ hb)
theorem Ul.any {w : World} {B : Nat → Prop} {l : List Ru} {v : Value} (h : Ul w B l v) : Ul w anyBlock l v := h.imp fun _ _ _ => trivial
theorem Fl.any {w : World} {B : Nat → Prop} {l : List Fu} {v : Value} (h : Fl w B l v) : Fl w anyBlock l v := h.imp fun _ _ _ => trivial
theorem Ul.len {w : World} {B : Nat → Prop} {l : List Ru} {v : Value} (h : Ul w B l v) : ∃ ao cap, v = .slice ao l.length cap ∧ l.length ≤ cap ∧ cap ≤ maxLen ∧ (ao = none → cap = 0) := by
  obtain ⟨ao, cap, h1, h2, h3, h4, -⟩ := h; exact ⟨ao, cap, h1, h2, h3, h4⟩
theorem Fl.len {w : World} {B : Nat → Prop} {l : List Fu} {v : Value} (h : Fl w B l v) : ∃ ao cap, v = .slice ao l.length cap ∧ l.length ≤ cap ∧ cap ≤ maxLen ∧ (ao = none → cap = 0) := by
  obtain ⟨ao, cap, h1, h2, h3, h4, -⟩ := h; exact ⟨ao, cap, h1, h2, h3, h4⟩
theorem Tb.len {w : World} {B : Nat → Prop} {v : Value} {xs : List ByteArray} (h : Tb w B v xs) : ∃ ao cap, v = .slice ao xs.length cap ∧ xs.length ≤ cap ∧ cap ≤ maxLen ∧ (ao = none → cap = 0) := by
  obtain ⟨ao, cap, h1, h2, h3, h4, -⟩ := h; exact ⟨ao, cap, h1, h2, h3, h4⟩
theorem Ul.elems {w : World} {B : Nat → Prop} {l : List Ru} {ao : Option Addr} {n cap : Nat} (h : Ul w B l (.slice ao n cap)) (hl : l ≠ []) :
    ∃ (b off : Nat) (X Y : Nat → Value), ao = some ⟨b, off, none⟩ ∧ ∀ i (h : i < l.length), Ru6 w b (off + i * 6) l[i] (X i) (Y i) ∧ El w B l[i].p.l (X i) ∧ Sl w B l[i].a (Y i) ∧ l[i].p.s.size ≤ maxLen := by
  obtain ⟨_, _, e, -, -, -, h5⟩ := h
  cases e
  obtain ⟨b, off, X, Y, e, -, hc⟩ := h5 hl
  exact ⟨b, off, X, Y, e, hc⟩
theorem Fl.elems {w : World} {B : Nat → Prop} {l : List Fu} {ao : Option Addr} {n cap : Nat} (h : Fl w B l (.slice ao n cap)) (hl : l ≠ []) :
    ∃ (b off : Nat) (X Y : Nat → Value), ao = some ⟨b, off, none⟩ ∧ ∀ i (h : i < l.length), Fu3 w b (off + i * 3) l[i] (X i) (Y i) ∧ Tb w B (X i) l[i].ps ∧ Sl w B l[i].a (Y i) ∧ l[i].n.size ≤ maxLen := by
  obtain ⟨_, _, e, -, -, -, h5⟩ := h
  cases e
  obtain ⟨b, off, X, Y, e, -, hc⟩ := h5 hl
  exact ⟨b, off, X, Y, e, hc⟩
theorem Ul.zero (w : World) (B : Nat → Prop) : Ul w B [] (.slice none 0 0) := ⟨none, 0, rfl, Nat.le_refl _, by simp, fun _ => rfl, fun h => absurd rfl h⟩
theorem Fl.zero (w : World) (B : Nat → Prop) : Fl w B [] (.slice none 0 0) := ⟨none, 0, rfl, Nat.le_refl _, by simp, fun _ => rfl, fun h => absurd rfl h⟩
end Go.Proofs.YtgigalcajgjpnaaGreat
