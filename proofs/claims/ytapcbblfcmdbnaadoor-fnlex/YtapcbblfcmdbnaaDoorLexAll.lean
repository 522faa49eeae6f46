/- A text as its tokens: the model's Lex. -/
import Derived.Test.YtapcbblfcmdbnaaDoorLexOne
import Derived.Test.YtapcbblfcmdbnaaDoorAppTok
namespace Go.Proofs.YtapcbblfcmdbnaaDoor
open Go.RowKit
set_option maxRecDepth 8000

def tiB (t : Tk) : Bool := t.k == 5 && t.s.toList == [126]
/-- Whether the last token is a sign ~. -/
def tiL (L : List Tk) : Bool := match L.getLast? with | some t => tiB t | none => false
theorem tiL_snoc (L : List Tk) (t : Tk) : tiL (L ++ [t]) = tiB t := by simp [tiL]
def tkOkB (t : Tk) : Bool := tokB t.k t.n t.s
/-- The tokens from a place on, behind these; or nothing, and the place where there is none. -/
def lexF (s : ByteArray) : Nat → Nat → List Tk → List Tk × Int
  | 0, _, _ => ([], 0)
  | f + 1, p, L => if p < s.size then (if tkOkB (oneT s p (tiL L)).1 = true ∧ L.length ≠ 2000 then lexF s f (pas s (oneT s p (tiL L)).2) (L ++ [(oneT s p (tiL L)).1]) else ([], (p : Int))) else (L, -1)
def lexT (s : ByteArray) : List Tk × Int := lexF s (s.size + 1) (pas s 0) []
theorem qtT_gt (s : ByteArray) (p : Nat) (k : Int) (hp : p < s.size) : p < (qtT s p k).2 ∧ (qtT s p k).2 ≤ s.size := by
  have h1 := tw_ge (neB (bt s p)) s (p + 1)
  have h2 := tw_le (neB (bt s p)) s (p + 1) (by omega)
  unfold qtT
  split
  · simp only; omega
  · simp only; omega
theorem oneT_gt (s : ByteArray) (p : Nat) (rex : Bool) (hp : p < s.size) : p < (oneT s p rex).2 ∧ (oneT s p rex).2 ≤ s.size := by
  have a1 := tw_le (runB false) s p (by omega)
  have a2 := tw_le (runB true) s p (by omega)
  unfold oneT
  split
  · rename_i h
    have := tw_pos (q := runB false) hp (by simp [runB, h])
    simp only
    omega
  split
  · rename_i h
    have := tw_pos (q := runB true) hp (by simp [runB, h])
    simp only
    omega
  split
  · exact qtT_gt s p 3 hp
  split
  · exact qtT_gt s p 4 hp
  split
  · rename_i h
    simp only
    omega
  · simp only
    omega
theorem pas_bd (s : ByteArray) (p : Nat) (hp : p ≤ s.size) : p ≤ pas s p ∧ pas s p ≤ s.size := pas_le s _ p rfl hp

theorem ext_sz (s : ByteArray) (a b : Nat) : (s.extract a b).size ≤ s.size := by rw [ByteArray.size_extract]; omega
theorem oneT_sz (s : ByteArray) (p : Nat) (rex : Bool) : (oneT s p rex).1.s.size ≤ s.size := by
  have e : (⟨#[]⟩ : ByteArray).size = 0 := rfl
  have hq : ∀ k, (qtT s p k).1.s.size ≤ s.size := fun k => by
    unfold qtT
    split
    · simp only [e]; omega
    · exact ext_sz _ _ _
  unfold oneT
  split
  · simp only [e]; omega
  split
  · exact ext_sz _ _ _
  split
  · exact hq 3
  split
  · exact hq 4
  split
  · exact ext_sz _ _ _
  · exact ext_sz _ _ _
theorem OwnK.lenV {w : World} {base : Nat} {v : Value} {L : List Tk} (h : OwnK w base v L) : ∃ ao cap, v = .slice ao L.length cap ∧ L.length ≤ cap := by
  rcases h.2 with ⟨e, h0⟩ | ⟨g, cap, cur, e, -, -, hle, -⟩
  · exact ⟨none, 0, by rw [e, h0], by omega⟩
  · exact ⟨_, cap, e, hle⟩
theorem lexF_end {s : ByteArray} {f p : Nat} {L : List Tk} (h : ¬ p < s.size) : lexF s (f + 1) p L = (L, -1) := by rw [lexF, if_neg h]
theorem lexF_bad {s : ByteArray} {f p : Nat} {L : List Tk} (h : p < s.size) (hb : ¬ (tkOkB (oneT s p (tiL L)).1 = true ∧ L.length ≠ 2000)) : lexF s (f + 1) p L = ([], (p : Int)) := by rw [lexF, if_pos h, if_neg hb]
theorem lexF_on {s : ByteArray} {f p : Nat} {L : List Tk} (h : p < s.size) (hb : tkOkB (oneT s p (tiL L)).1 = true ∧ L.length ≠ 2000) : lexF s (f + 1) p L = lexF s f (pas s (oneT s p (tiL L)).2) (L ++ [(oneT s p (tiL L)).1]) := by rw [lexF, if_pos h, if_pos hb]

set_option maxHeartbeats 4000000 in
theorem specLex_any (s : ByteArray) (w : World) (hs : s.size ≤ 1048576) :
    Calls Tryd.prog 14 #[.string s] w fun e w' => ∃ u, e = .returned (.tuple #[u, .int .i64 (lexT s).2]) ∧ OwnK w' w.heap.size u (lexT s).1 ∧ Below w.heap.size w w' := by
  have hsm : s.size ≤ maxLen := by unfold maxLen; omega
  have HP := Hid.mk (fun p hp w => l7Pass_any s p w hsm hp)
  have HO := Hid.mk (fun p b hp w => l7One_any s p b w hsm hp)
  have HPB := Hid.mk (pas_bd s)
  have HOG := Hid.mk (oneT_gt s)
  obtain ⟨RES, hRES⟩ : ∃ RES, lexT s = RES := ⟨_, rfl⟩
  have HR0 : Hid (lexF s (s.size + 1) (pas s 0) [] = RES) := hRES
  rw [hRES]
  clear hRES
  have HP0 := Hid.mk (HP.out 0 (Nat.zero_le _))
  obtain ⟨p0, hp0⟩ : ∃ p0, pas s 0 = p0 := ⟨_, rfl⟩
  have hb0 := HPB.out 0 (Nat.zero_le _)
  rw [hp0] at HP0 HR0 hb0
  clear hp0
  have A0 : Hid (Below w.heap.size w (w.alloc (.cells #[] 31))) := (Below.refl _ _).alloc (Nat.le_refl _) _
  have O0 : Hid (OwnK (w.alloc (.cells #[] 31)) w.heap.size (.slice (some ⟨w.heap.size, 0, none⟩) 0 0) []) := World.ownsRow_lit w #[] 0 (Nat.le_refl _) (by decide) rfl
  go_enter Tryd.func14, Tryd.ntmps14
  go_wp2_with fail
  refine (HP0.out _).mono ?_
  rintro e w' ⟨rfl, rfl⟩
  clear HP0
  go_wp2_with fail
  go_loopw [4, 5, 6] (fun o r i wr => ∃ (k f : Nat) (L : List Tk) (oa : Option Addr) (oc : Nat), i = .int .i64 k ∧ k ≤ s.size ∧ s.size - k < f ∧ o = .slice oa L.length oc ∧ r = .bool (tiL L) ∧ L.length ≤ 2000 ∧ L.length ≤ oc ∧ Hid (OwnK wr w.heap.size (.slice oa L.length oc) L) ∧ Hid (lexF s f k L = RES) ∧ Hid (Below w.heap.size w wr)) (fun _ _ i _ => s.size - (intOf i).toNat)
  case atStart => exact ⟨p0, s.size + 1, [], _, _, rfl, hb0.2, by omega, rfl, rfl, Nat.zero_le _, Nat.zero_le _, O0, HR0, A0⟩
  case round =>
    obtain ⟨k, f, L, oa, oc, rfl, hk, hf, rfl, rfl, hL, hLc, HOw, HX, HB⟩ := hrel
    clear HR0 O0 A0 hb0
    obtain ⟨f, rfl⟩ : ∃ f', f = f' + 1 := ⟨f - 1, by omega⟩
    by_cases hlt : k < s.size
    · have hki : (k : Int) < (s.size : Int) := by omega
      have hog := HOG.out k (tiL L) hlt
      have hsz := oneT_sz s k (tiL L)
      have HO1 := Hid.mk (HO.out k (tiL L) hlt)
      have HBAD : Hid (¬ (tkOkB (oneT s k (tiL L)).1 = true ∧ L.length ≠ 2000) → RES = ([], (k : Int))) := fun h => HX.out.symm.trans (lexF_bad hlt h)
      have HON : Hid (tkOkB (oneT s k (tiL L)).1 = true ∧ L.length ≠ 2000 → lexF s f (pas s (oneT s k (tiL L)).2) (L ++ [(oneT s k (tiL L)).1]) = RES) := fun h => (lexF_on hlt h).symm.trans HX.out
      have HPQ := Hid.mk (HP.out (oneT s k (tiL L)).2 hog.2)
      have hpq := HPB.out (oneT s k (tiL L)).2 hog.2
      have HTL := Hid.mk (tiL_snoc L (oneT s k (tiL L)).1)
      generalize tiL L = rx at *
      generalize oneT s k rx = y at *
      obtain ⟨⟨yk, yn, ys⟩, q⟩ := y
      simp only at hog hsz HO1 HBAD HON HPQ hpq HTL
      generalize pas s q = pq at *
      have HTO := Hid.mk (fun w => specTokenOk_any yk yn ys w (by unfold maxLen; omega))
      have htk : tkOkB ⟨yk, yn, ys⟩ = tokB yk yn ys := rfl
      rw [htk] at HBAD HON
      generalize tokB yk yn ys = tb at *
      clear HX htk
      go_wp2_with fail
      refine (HO1.out _).mono ?_
      rintro e w2 ⟨rfl, hb2⟩
      have HB2 := Hid.mk (HB.out.trans (hb2.mono HB.out.size))
      have HO2 := Hid.mk (HOw.out.grow hb2)
      have HOlt : Hid (∀ g, (Value.slice oa L.length oc).ownBlock = some g → g < w2.heap.size) := fun g hg => (World.ownsRow.lt HO2.out g hg).2
      clear hb2 HO1 HB HOw
      have A3 : Hid (Below w2.heap.size w2 (w2.alloc (.cells #[.int .i64 yk, .int .i64 yn, .string ys] 31))) := (Below.refl _ _).alloc (Nat.le_refl _) _
      go_wp2_with fail
      refine (HTO.out _).mono ?_
      rintro e w3 ⟨rfl, hb3⟩
      have hb23 := A3.out.trans (hb3.mono A3.out.size)
      have HB3 := Hid.mk (HB2.out.trans (hb23.mono HB2.out.size))
      have HO3 := Hid.mk (HO2.out.grow hb23)
      have hc3 := fun o => hb3.cell (p := ⟨w2.heap.size, o, none⟩) (by simp)
      have hsz3 := HB3.out.size
      have HBX : Hid (w2.heap.size < w3.heap.size) := by have := hb3.size; simp at this; exact this
      clear hb3 hb23 A3 HB2 HO2
      cases tb with
      | false =>
        have HRR := Hid.mk (HBAD.out (by simp))
        have O4 : Hid (OwnK (w3.alloc (.cells #[] 31)) w.heap.size (.slice (some ⟨w3.heap.size, 0, none⟩) 0 0) []) := World.ownsRow_lit w3 #[] 0 hsz3 (by decide) rfl
        have B4 : Hid (Below w.heap.size w (w3.alloc (.cells #[] 31))) := HB3.out.alloc hsz3 _
        clear HBAD HON HPQ HTL HB3 HO3
        go_wp2
        refine bodyPost_ret (v := .tuple #[.slice (some ⟨w3.heap.size, 0, none⟩) 0 0, .int .i64 (k : Int)]) (by simp [results, Tryd.results14, go_sem]) rfl ⟨_, by rw [HRR.out], by rw [HRR.out]; exact O4.out, B4.out⟩
      | true =>
        by_cases h2000 : L.length = 2000
        · have HRR := Hid.mk (HBAD.out (by rintro ⟨_, h⟩; exact h h2000))
          have h2i : ((L.length : Int) == 2000) = true := by simp; omega
          have O4 : Hid (OwnK (w3.alloc (.cells #[] 31)) w.heap.size (.slice (some ⟨w3.heap.size, 0, none⟩) 0 0) []) := World.ownsRow_lit w3 #[] 0 hsz3 (by decide) rfl
          have B4 : Hid (Below w.heap.size w (w3.alloc (.cells #[] 31))) := HB3.out.alloc hsz3 _
          clear HBAD HON HPQ HTL HB3 HO3
          go_wp2
          refine bodyPost_ret (v := .tuple #[.slice (some ⟨w3.heap.size, 0, none⟩) 0 0, .int .i64 (k : Int)]) (by simp [results, Tryd.results14, go_sem]) rfl ⟨_, by rw [HRR.out], by rw [HRR.out]; exact O4.out, B4.out⟩
        · have HRR := Hid.mk (HON.out ⟨rfl, h2000⟩)
          have h2i : ((L.length : Int) == 2000) = false := by simp; omega
          have HN1 : Hid ((w3.alloc (.cells #[.int .i64 yk, .int .i64 yn, .string ys] 31)).heap[w3.heap.size]? = some (.cells #[.int .i64 yk, .int .i64 yn, .string ys] 31 (0, 0))) := heap_alloc_new _ _
          have BA : Hid (Below w.heap.size w (w3.alloc (.cells #[.int .i64 yk, .int .i64 yn, .string ys] 31))) := HB3.out.alloc hsz3 _
          have HO4 := Hid.mk (HO3.out.grow ((Below.refl w3.heap.size w3).alloc (Nat.le_refl _) (.cells #[.int .i64 yk, .int .i64 yn, .string ys] 31)))
          clear HBAD HON HB3 HO3
          go_wp2_with (at_builtin; refine wpList_append_k (w0 := w) rfl _ _ rfl w.heap.size _ L ⟨yk, yn, ys⟩ rfl HO4.out _ rfl HN1.out BA.out (by simp; omega) (by omega) ?_)
          intro v5 w5 hown5 hbel5 hq5 hn5
          have hw23 : w2.heap.size < w3.heap.size := HBX.out
          have hblk : w5.heap[w2.heap.size]? = w3.heap[w2.heap.size]? := (hn5.1.block w2.heap.size (by simp; omega) (fun e => Nat.lt_irrefl _ (HOlt.out _ e.symm))).trans (((Below.refl w3.heap.size w3).alloc (Nat.le_refl _) (.cells #[.int .i64 yk, .int .i64 yn, .string ys] 31)).block _ hw23)
          have k0 : w5.cell? ⟨w2.heap.size, 0, none⟩ = some (.int .i64 yk) := by rw [World.cell?_of_block (w := w3) hblk, hc3 0]; simp
          have k2 : w5.cell? ⟨w2.heap.size, 2, none⟩ = some (.string ys) := by rw [World.cell?_of_block (w := w3) hblk, hc3 2]; simp
          obtain ⟨va, vc, hv5, hvc⟩ := hown5.lenV
          subst hv5
          have HOF := Hid.mk hown5
          have HBF := Hid.mk hbel5
          have hlen5 : (L ++ [(⟨yk, yn, ys⟩ : Tk)]).length = L.length + 1 := by simp
          rw [hlen5] at hvc HOF ⊢
          clear hown5 hbel5 hq5 hn5 HN1 BA HO4 hc3 hblk
          by_cases h5 : yk = 5
          · subst h5
            cases h126 : (ys.toList == [126]) with
            | true =>
              have HTT : Hid (tiL (L ++ [(⟨5, yn, ys⟩ : Tk)]) = true) := by show _ = _; rw [HTL.out]; simp only [tiB, h126]; rfl
              go_wp2_with fail
              refine (HPQ.out _).mono ?_
              rintro e w6 ⟨rfl, rfl⟩
              go_wp2
              go_roundw
              case rel => exact ⟨pq, f, L ++ [⟨5, yn, ys⟩], va, vc, rfl, hpq.2, by omega, by rw [hlen5], by rw [HTT.out], by rw [hlen5]; omega, by rw [hlen5]; exact hvc, by rw [hlen5]; exact HOF, HRR, HBF⟩
              case measure => simp [intOf]; omega
            | false =>
              have HTT : Hid (tiL (L ++ [(⟨5, yn, ys⟩ : Tk)]) = false) := by show _ = _; rw [HTL.out]; simp only [tiB, h126]; rfl
              go_wp2_with fail
              refine (HPQ.out _).mono ?_
              rintro e w6 ⟨rfl, rfl⟩
              go_wp2
              go_roundw
              case rel => exact ⟨pq, f, L ++ [⟨5, yn, ys⟩], va, vc, rfl, hpq.2, by omega, by rw [hlen5], by rw [HTT.out], by rw [hlen5]; omega, by rw [hlen5]; exact hvc, by rw [hlen5]; exact HOF, HRR, HBF⟩
              case measure => simp [intOf]; omega
          · have e5 : (yk == 5) = false := beq_false_of_ne h5
            have HTT : Hid (tiL (L ++ [(⟨yk, yn, ys⟩ : Tk)]) = false) := by show _ = _; rw [HTL.out]; simp only [tiB, e5]; rfl
            clear h5
            go_wp2_with fail
            refine (HPQ.out _).mono ?_
            rintro e w6 ⟨rfl, rfl⟩
            go_wp2
            go_roundw
            case rel => exact ⟨pq, f, L ++ [⟨yk, yn, ys⟩], va, vc, rfl, hpq.2, by omega, by rw [hlen5], by rw [HTT.out], by rw [hlen5]; omega, by rw [hlen5]; exact hvc, by rw [hlen5]; exact HOF, HRR, HBF⟩
            case measure => simp [intOf]; omega
    · have hki : ¬ (k : Int) < (s.size : Int) := by omega
      have HRR : Hid (RES = (L, -1)) := HX.out.symm.trans (lexF_end hlt)
      clear HX HP HO HPB HOG
      go_wp2
      refine bodyPost_ret (v := .tuple #[.slice oa L.length oc, .int .i64 (-1)]) (by simp [results, Tryd.results14, go_sem]) rfl ⟨_, by rw [HRR.out], by rw [HRR.out]; exact HOw.out, HB.out⟩
end Go.Proofs.YtapcbblfcmdbnaaDoor
