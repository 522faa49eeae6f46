/- One token read: the model's l7Quoted, l7One. -/
import Derived.Test.YtapcbblfcmdbnaaDoorLexSpec
namespace Go.Proofs.YtapcbblfcmdbnaaDoor
open Go.RowKit
set_option maxRecDepth 8000

/-- What stands up to the next such byte. -/
def qtT (s : ByteArray) (p : Nat) (k : Int) : Tk × Nat := if tw (neB (bt s p)) s (p + 1) = s.size then (⟨0, 0, ⟨#[]⟩⟩, s.size) else (⟨k, 0, s.extract (p + 1) (tw (neB (bt s p)) s (p + 1))⟩, tw (neB (bt s p)) s (p + 1) + 1)
/-- One token at a place, and the place behind it. -/
def oneT (s : ByteArray) (p : Nat) (rex : Bool) : Tk × Nat :=
  if dgB (bt s p) = true then (⟨1, niB (s.extract p (tw (runB false) s p)), ⟨#[]⟩⟩, tw (runB false) s p)
  else if smB (bt s p) = true then (⟨2, 0, s.extract p (tw (runB true) s p)⟩, tw (runB true) s p)
  else if bt s p = 39 then qtT s p 3
  else if bt s p = 47 ∧ rex = true then qtT s p 4
  else if p + 1 < s.size ∧ mkB (s.extract p (p + 2)) = true then (⟨5, 0, s.extract p (p + 2)⟩, p + 2)
  else (⟨5, 0, s.extract p (p + 1)⟩, p + 1)

set_option maxHeartbeats 1000000 in
theorem l7Quoted_any (s : ByteArray) (p : Nat) (k : Int) (w : World) (hs : s.size ≤ maxLen) (hp : p < s.size) :
    Calls Tryd.prog 62 #[.string s, .int .i64 (p : Int), .int .i64 k] w fun e w' => e = .returned (.tuple #[tkV (qtT s p k).1, .int .i64 (((qtT s p k).2 : Nat) : Int)]) ∧ Below w.heap.size w w' := by
  have HU : Hid (∀ w, Calls Tryd.prog 57 #[.string s, .int .i64 ((p : Int) + 1), .int .u8 (bt s p)] w fun e w' => e = .returned (.int .i64 ((tw (neB (bt s p)) s (p + 1) : Nat) : Int)) ∧ w' = w) := fun w => l7Until_any s (p + 1) (bt s p) w hs (by omega)
  unfold maxLen at hs
  have hbt : ((s[p].toNat : Nat) : Int) = bt s p := byte_txt s p hp
  have hle := tw_le (neB (bt s p)) s (p + 1) (by omega)
  have hge := tw_ge (neB (bt s p)) s (p + 1)
  have HQ : Hid (qtT s p k = if tw (neB (bt s p)) s (p + 1) = s.size then (⟨0, 0, ⟨#[]⟩⟩, s.size) else (⟨k, 0, s.extract (p + 1) (tw (neB (bt s p)) s (p + 1))⟩, tw (neB (bt s p)) s (p + 1) + 1)) := rfl
  generalize tw (neB (bt s p)) s (p + 1) = q at *
  generalize bt s p = c at *
  have hpi : (p : Int) < (s.size : Int) := by omega
  have A0 : Hid (∀ o, Below w.heap.size w (w.alloc o)) := fun o => (Below.refl _ _).alloc (Nat.le_refl _) _
  by_cases he : q = s.size
  · rw [if_pos he] at HQ
    rw [HQ.out]
    have he' : ((q : Int) == (s.size : Int)) = true := by simp; omega
    subst he
    go_enter Tryd.func62, Tryd.ntmps62
    go_wp2_with fail
    refine (HU.out _).mono ?_
    rintro e w' ⟨rfl, rfl⟩
    go_wp2
    exact bodyPost_ret (v := .tuple #[.agg #[.int .i64 0, .int .i64 0, .string ⟨#[]⟩], .int .i64 (s.size : Int)]) (by simp [results, Tryd.results62, go_sem]) rfl ⟨rfl, A0.out _⟩
  · rw [if_neg he] at HQ
    rw [HQ.out]
    have he' : ((q : Int) == (s.size : Int)) = false := by simp; omega
    have hsl : ∀ w, (Instr.slice 9 (.string s) (some (.int .i64 ((p : Int) + 1))) (some (.int .i64 (q : Int))) none).run Tryd.prog w = .ok (.string (s.extract (p + 1) q)) w := fun w => by
      have := run_slice_string (P := Tryd.prog) w 9 s .i64 .i64 ((p : Int) + 1) (q : Int) Tryd.underlying9 (by omega) (by omega) (by omega)
      rw [this]; rfl
    go_enter Tryd.func62, Tryd.ntmps62
    go_wp2_with fail
    refine (HU.out _).mono ?_
    rintro e w' ⟨rfl, rfl⟩
    go_wp2
    exact bodyPost_ret (v := .tuple #[.agg #[.int .i64 k, .int .i64 0, .string (s.extract (p + 1) q)], .int .i64 ((q : Int) + 1)]) (by simp [results, Tryd.results62, go_sem]) rfl ⟨rfl, A0.out _⟩

theorem mem_tw {q : Int → Bool} : ∀ {l : List Int} {x : Int}, x ∈ l.takeWhile q → q x = true
  | [], _, h => by cases h
  | y :: r, x, h => by
    rw [List.takeWhile_cons] at h
    split at h
    · rename_i hy
      rcases List.mem_cons.1 h with rfl | h
      · exact hy
      · exact mem_tw h
    · cases h
theorem tw_all {q : Int → Bool} {s : ByteArray} {p j : Nat} (hj : p + j < tw q s p) : q (bt s (p + j)) = true := by
  unfold tw at hj
  have hlt : j < (((txt s).drop p).takeWhile q).length := by omega
  have hm := mem_tw (q := q) (List.getElem_mem hlt)
  have hpre := List.takeWhile_prefix q (l := (txt s).drop p)
  have e : (((txt s).drop p).takeWhile q)[j] = bt s (p + j) := by
    have h2 : j < ((txt s).drop p).length := Nat.lt_of_lt_of_le hlt hpre.length_le
    have h3 : (((txt s).drop p).takeWhile q)[j] = ((txt s).drop p)[j] := hpre.getElem hlt
    rw [h3, List.getElem_drop]
    have h4 : p + j < (txt s).length := by rw [List.length_drop] at h2; omega
    unfold bt
    rw [List.getD, List.getElem?_eq_getElem h4]
    rfl
  rw [e] at hm
  exact hm
theorem bt_extract {s : ByteArray} {a b j : Nat} (hb : b ≤ s.size) (hj : a + j < b) : bt (s.extract a b) j = bt s (a + j) := by
  have h1 : j < (s.extract a b).size := by rw [ByteArray.size_extract]; omega
  have e1 := byte_txt (s.extract a b) j h1
  have e2 := byte_txt s (a + j) (by omega)
  unfold bt
  rw [← e1, ← e2, ByteArray.getElem_extract]

theorem tw_pos {q : Int → Bool} {s : ByteArray} {p : Nat} (h : p < s.size) (hq : q (bt s p) = true) : p + 1 ≤ tw q s p := by
  rw [tw_step h hq]
  exact tw_ge _ _ _
theorem digits_run (s : ByteArray) (p : Nat) (hp : p ≤ s.size) : ∀ j, j < (s.extract p (tw (runB false) s p)).size → dgB (bt (s.extract p (tw (runB false) s p)) j) = true := by
  intro j hj
  have hle := tw_le (runB false) s p hp
  rw [ByteArray.size_extract] at hj
  have hj' : p + j < tw (runB false) s p := by omega
  rw [bt_extract hle hj']
  have := tw_all hj'
  simpa [runB] using this

set_option maxHeartbeats 2000000 in
theorem l7One_any (s : ByteArray) (p : Nat) (rex : Bool) (w : World) (hs : s.size ≤ maxLen) (hp : p < s.size) :
    Calls Tryd.prog 37 #[.string s, .int .i64 (p : Int), .bool rex] w fun e w' => e = .returned (.tuple #[tkV (oneT s p rex).1, .int .i64 (((oneT s p rex).2 : Nat) : Int)]) ∧ Below w.heap.size w w' := by
  have hbt : ((s[p].toNat : Nat) : Int) = bt s p := byte_txt s p hp
  obtain ⟨hr0, hr1⟩ : 0 ≤ bt s p ∧ bt s p ≤ 255 := byte_range s p hp
  have HD := Hid.mk (fun w => l2Dig_any (bt s p) w hr0 hr1)
  have HSm := Hid.mk (fun w => l7Small_any (bt s p) w hr0 hr1)
  have HRun := Hid.mk (fun b w => l7Run_any s p b w hs (by omega))
  have HQt := Hid.mk (fun k w => l7Quoted_any s p k w hs hp)
  have HMk := Hid.mk (fun x w => l7Mark_any x w)
  have HI := Hid.mk (fun w => l7Int_any (s.extract p (tw (runB false) s p)) w (by unfold maxLen at *; rw [ByteArray.size_extract]; omega) (digits_run s p (by omega)))
  have A0 : Hid (∀ o, Below w.heap.size w (w.alloc o)) := fun o => (Below.refl _ _).alloc (Nat.le_refl _) _
  have HO : Hid (∀ r, oneT s p rex = r → oneT s p rex = r) := fun _ h => h
  have h1' := tw_le (runB false) s p (by omega)
  have h2' := tw_le (runB true) s p (by omega)
  have h1'' := tw_ge (runB false) s p
  have h2'' := tw_ge (runB true) s p
  unfold maxLen at hs
  have hpi : (p : Int) < (s.size : Int) := by omega
  cases hd : dgB (bt s p) with
  | true =>
    have HE : Hid (oneT s p rex = (⟨1, niB (s.extract p (tw (runB false) s p)), ⟨#[]⟩⟩, tw (runB false) s p)) := by show _ = _; unfold oneT; rw [if_pos hd]
    rw [HE.out]
    rw [hd] at HD
    have HR1 := Hid.mk (HRun.out false)
    generalize tw (runB false) s p = q at *
    have hsl : ∀ w, (Instr.slice 9 (.string s) (some (.int .i64 (p : Int))) (some (.int .i64 (q : Int))) none).run Tryd.prog w = .ok (.string (s.extract p q)) w := fun w => by
      have := run_slice_string (P := Tryd.prog) w 9 s .i64 .i64 (p : Int) (q : Int) Tryd.underlying9 (by omega) (by omega) (by omega)
      rw [this]; rfl
    generalize s.extract p q = x at *
    generalize niB x = n at *
    generalize bt s p = c at *
    clear HRun HQt HMk HSm HE HO hd
    go_enter Tryd.func37, Tryd.ntmps37
    go_wp2_with fail
    refine (HD.out _).mono ?_
    rintro e w' ⟨rfl, rfl⟩
    go_wp2_with fail
    refine (HR1.out _).mono ?_
    rintro e w' ⟨rfl, rfl⟩
    go_wp2_with fail
    refine (HI.out _).mono ?_
    rintro e w' ⟨rfl, rfl⟩
    go_wp2
    exact bodyPost_ret (v := .tuple #[.agg #[.int .i64 1, .int .i64 n, .string ⟨#[]⟩], .int .i64 (q : Int)]) (by simp [results, Tryd.results37, go_sem]) rfl ⟨rfl, A0.out _⟩
  | false =>
    rw [hd] at HD
    cases hsm : smB (bt s p) with
    | true =>
      have HE : Hid (oneT s p rex = (⟨2, 0, s.extract p (tw (runB true) s p)⟩, tw (runB true) s p)) := by show _ = _; unfold oneT; rw [if_neg (by rw [hd]; simp), if_pos hsm]
      rw [HE.out]
      rw [hsm] at HSm
      have HR1 := Hid.mk (HRun.out true)
      generalize tw (runB true) s p = q at *
      have hsl : ∀ w, (Instr.slice 9 (.string s) (some (.int .i64 (p : Int))) (some (.int .i64 (q : Int))) none).run Tryd.prog w = .ok (.string (s.extract p q)) w := fun w => by
        have := run_slice_string (P := Tryd.prog) w 9 s .i64 .i64 (p : Int) (q : Int) Tryd.underlying9 (by omega) (by omega) (by omega)
        rw [this]; rfl
      generalize s.extract p q = x at *
      generalize bt s p = c at *
      clear HRun HQt HMk HI HE HO hd hsm
      go_enter Tryd.func37, Tryd.ntmps37
      go_wp2_with fail
      refine (HD.out _).mono ?_
      rintro e w' ⟨rfl, rfl⟩
      go_wp2_with fail
      refine (HSm.out _).mono ?_
      rintro e w' ⟨rfl, rfl⟩
      go_wp2_with fail
      refine (HR1.out _).mono ?_
      rintro e w' ⟨rfl, rfl⟩
      go_wp2
      exact bodyPost_ret (v := .tuple #[.agg #[.int .i64 2, .int .i64 0, .string x], .int .i64 (q : Int)]) (by simp [results, Tryd.results37, go_sem]) rfl ⟨rfl, A0.out _⟩
    | false =>
    rw [hsm] at HSm
    by_cases h39 : bt s p = 39
    · have HE : Hid (oneT s p rex = qtT s p 3) := by show _ = _; unfold oneT; rw [if_neg (by rw [hd]; simp), if_neg (by rw [hsm]; simp), if_pos h39]
      rw [HE.out]
      have HQ3 := Hid.mk (HQt.out 3)
      generalize qtT s p 3 = r at *
      obtain ⟨⟨rk, rn, rs⟩, rq⟩ := r
      simp only at HQ3 ⊢
      generalize bt s p = c at *
      subst h39
      clear HRun HQt HMk HI HE HO hd hsm
      go_enter Tryd.func37, Tryd.ntmps37
      go_wp2_with fail
      refine (HD.out _).mono ?_
      rintro e w' ⟨rfl, rfl⟩
      go_wp2_with fail
      refine (HSm.out _).mono ?_
      rintro e w' ⟨rfl, rfl⟩
      go_wp2_with fail
      refine (HQ3.out _).mono ?_
      rintro e w2 ⟨rfl, hb2⟩
      have hbb := (A0.out _).trans (hb2.mono (A0.out _).size)
      have hc := fun o => hb2.cell (p := ⟨w.heap.size, o, none⟩) (by simp)
      have hf := fun o => hb2.frozen (p := ⟨w.heap.size, o, none⟩) (by simp)
      have HBB := Hid.mk hbb
      clear hb2 HQ3 hbb
      go_wp2
      refine bodyPost_ret (v := .tuple #[.agg #[.int .i64 rk, .int .i64 rn, .string rs], .int .i64 (rq : Int)]) ?_ rfl ⟨rfl, ((HBB.out.setCell (Nat.le_refl _) _).setCell (Nat.le_refl _) _).setCell (Nat.le_refl _) _⟩
      simp [results, Tryd.results37, go_sem, hc]
    by_cases h47 : bt s p = 47 ∧ rex = true
    · have HE : Hid (oneT s p rex = qtT s p 4) := by show _ = _; unfold oneT; rw [if_neg (by rw [hd]; simp), if_neg (by rw [hsm]; simp), if_neg h39, if_pos h47]
      rw [HE.out]
      have HQ3 := Hid.mk (HQt.out 4)
      generalize qtT s p 4 = r at *
      obtain ⟨⟨rk, rn, rs⟩, rq⟩ := r
      simp only at HQ3 ⊢
      generalize bt s p = c at *
      obtain ⟨h47, hrex⟩ := h47
      subst h47 hrex
      clear HRun HQt HMk HI HE HO hd hsm
      go_enter Tryd.func37, Tryd.ntmps37
      go_wp2_with fail
      refine (HD.out _).mono ?_
      rintro e w' ⟨rfl, rfl⟩
      go_wp2_with fail
      refine (HSm.out _).mono ?_
      rintro e w' ⟨rfl, rfl⟩
      go_wp2_with fail
      refine (HQ3.out _).mono ?_
      rintro e w2 ⟨rfl, hb2⟩
      have hbb := (A0.out _).trans (hb2.mono (A0.out _).size)
      have hc := fun o => hb2.cell (p := ⟨w.heap.size, o, none⟩) (by simp)
      have hf := fun o => hb2.frozen (p := ⟨w.heap.size, o, none⟩) (by simp)
      have HBB := Hid.mk hbb
      clear hb2 HQ3 hbb
      go_wp2
      refine bodyPost_ret (v := .tuple #[.agg #[.int .i64 rk, .int .i64 rn, .string rs], .int .i64 (rq : Int)]) ?_ rfl ⟨rfl, ((HBB.out.setCell (Nat.le_refl _) _).setCell (Nat.le_refl _) _).setCell (Nat.le_refl _) _⟩
      simp [results, Tryd.results37, go_sem, hc]
    · by_cases hp1 : p + 1 < s.size
      · have hp1' : (p : Int) + 1 < (s.size : Int) := by omega
        have hsl : ∀ w, (Instr.slice 9 (.string s) (some (.int .i64 (p : Int))) (some (.int .i64 ((p : Int) + 2))) none).run Tryd.prog w = .ok (.string (s.extract p (p + 2))) w := fun w => by
          have := run_slice_string (P := Tryd.prog) w 9 s .i64 .i64 (p : Int) ((p : Int) + 2) Tryd.underlying9 (by omega) (by omega) (by omega)
          rw [this]; rfl
        have hsl1 : ∀ w, (Instr.slice 9 (.string s) (some (.int .i64 (p : Int))) (some (.int .i64 ((p : Int) + 1))) none).run Tryd.prog w = .ok (.string (s.extract p (p + 1))) w := fun w => by
          have := run_slice_string (P := Tryd.prog) w 9 s .i64 .i64 (p : Int) ((p : Int) + 1) Tryd.underlying9 (by omega) (by omega) (by omega)
          rw [this]; rfl
        have HM := Hid.mk (HMk.out (s.extract p (p + 2)))
        have HE1 : Hid (mkB (s.extract p (p + 2)) = true → oneT s p rex = (⟨5, 0, s.extract p (p + 2)⟩, p + 2)) := fun hm => by unfold oneT; rw [if_neg (by rw [hd]; simp), if_neg (by rw [hsm]; simp), if_neg h39, if_neg h47, if_pos ⟨hp1, hm⟩]
        have HE2 : Hid (mkB (s.extract p (p + 2)) = false → oneT s p rex = (⟨5, 0, s.extract p (p + 1)⟩, p + 1)) := fun hm => by unfold oneT; rw [if_neg (by rw [hd]; simp), if_neg (by rw [hsm]; simp), if_neg h39, if_neg h47, if_neg (fun h => by rw [hm] at h; exact absurd h.2 (by simp))]
        have e39 : (bt s p == 39) = false := beq_false_of_ne h39
        generalize s.extract p (p + 2) = x2 at *
        generalize s.extract p (p + 1) = x1 at *
        generalize mkB x2 = mb at *
        generalize oneT s p rex = O at *
        generalize bt s p = c at *
        clear HRun HQt HMk HI HO hd hsm h39
        cases mb with
        | true =>
          obtain rfl := HE1.out rfl
          clear HE1 HE2
          by_cases h7 : c = 47
          · have hrx : rex = false := by cases rex with
              | false => rfl
              | true => exact absurd ⟨h7, rfl⟩ h47
            subst h7 hrx
            clear h47
            go_enter Tryd.func37, Tryd.ntmps37
            go_wp2_with fail
            refine (HD.out _).mono ?_
            rintro e w' ⟨rfl, rfl⟩
            go_wp2_with fail
            refine (HSm.out _).mono ?_
            rintro e w' ⟨rfl, rfl⟩
            go_wp2_with fail
            refine (HM.out _).mono ?_
            rintro e w' ⟨rfl, rfl⟩
            go_wp2
            exact bodyPost_ret (v := .tuple #[.agg #[.int .i64 5, .int .i64 0, .string x2], .int .i64 ((p : Int) + 2)]) (by simp [results, Tryd.results37, go_sem]) rfl ⟨rfl, A0.out _⟩
          · have e47 : (c == 47) = false := beq_false_of_ne h7
            clear h47 h7
            go_enter Tryd.func37, Tryd.ntmps37
            go_wp2_with fail
            refine (HD.out _).mono ?_
            rintro e w' ⟨rfl, rfl⟩
            go_wp2_with fail
            refine (HSm.out _).mono ?_
            rintro e w' ⟨rfl, rfl⟩
            go_wp2_with fail
            refine (HM.out _).mono ?_
            rintro e w' ⟨rfl, rfl⟩
            go_wp2
            exact bodyPost_ret (v := .tuple #[.agg #[.int .i64 5, .int .i64 0, .string x2], .int .i64 ((p : Int) + 2)]) (by simp [results, Tryd.results37, go_sem]) rfl ⟨rfl, A0.out _⟩
        | false =>
          obtain rfl := HE2.out rfl
          clear HE1 HE2
          by_cases h7 : c = 47
          · have hrx : rex = false := by cases rex with
              | false => rfl
              | true => exact absurd ⟨h7, rfl⟩ h47
            subst h7 hrx
            clear h47
            go_enter Tryd.func37, Tryd.ntmps37
            go_wp2_with fail
            refine (HD.out _).mono ?_
            rintro e w' ⟨rfl, rfl⟩
            go_wp2_with fail
            refine (HSm.out _).mono ?_
            rintro e w' ⟨rfl, rfl⟩
            go_wp2_with fail
            refine (HM.out _).mono ?_
            rintro e w' ⟨rfl, rfl⟩
            go_wp2
            exact bodyPost_ret (v := .tuple #[.agg #[.int .i64 5, .int .i64 0, .string x1], .int .i64 ((p : Int) + 1)]) (by simp [results, Tryd.results37, go_sem]) rfl ⟨rfl, A0.out _⟩
          · have e47 : (c == 47) = false := beq_false_of_ne h7
            clear h47 h7
            go_enter Tryd.func37, Tryd.ntmps37
            go_wp2_with fail
            refine (HD.out _).mono ?_
            rintro e w' ⟨rfl, rfl⟩
            go_wp2_with fail
            refine (HSm.out _).mono ?_
            rintro e w' ⟨rfl, rfl⟩
            go_wp2_with fail
            refine (HM.out _).mono ?_
            rintro e w' ⟨rfl, rfl⟩
            go_wp2
            exact bodyPost_ret (v := .tuple #[.agg #[.int .i64 5, .int .i64 0, .string x1], .int .i64 ((p : Int) + 1)]) (by simp [results, Tryd.results37, go_sem]) rfl ⟨rfl, A0.out _⟩
      · have hp1' : ¬ (p : Int) + 1 < (s.size : Int) := by omega
        have hsl : ∀ w, (Instr.slice 9 (.string s) (some (.int .i64 (p : Int))) (some (.int .i64 ((p : Int) + 1))) none).run Tryd.prog w = .ok (.string (s.extract p (p + 1))) w := fun w => by
          have := run_slice_string (P := Tryd.prog) w 9 s .i64 .i64 (p : Int) ((p : Int) + 1) Tryd.underlying9 (by omega) (by omega) (by omega)
          rw [this]; rfl
        have HE2 : Hid (oneT s p rex = (⟨5, 0, s.extract p (p + 1)⟩, p + 1)) := by show _ = _; unfold oneT; rw [if_neg (by rw [hd]; simp), if_neg (by rw [hsm]; simp), if_neg h39, if_neg h47, if_neg (fun h => hp1 h.1)]
        have e39 : (bt s p == 39) = false := beq_false_of_ne h39
        generalize s.extract p (p + 1) = x1 at *
        generalize oneT s p rex = O at *
        generalize bt s p = c at *
        obtain rfl := HE2.out
        clear HRun HQt HMk HI HO hd hsm h39 HE2
        by_cases h7 : c = 47
        · have hrx : rex = false := by cases rex with
            | false => rfl
            | true => exact absurd ⟨h7, rfl⟩ h47
          subst h7 hrx
          clear h47
          go_enter Tryd.func37, Tryd.ntmps37
          go_wp2_with fail
          refine (HD.out _).mono ?_
          rintro e w' ⟨rfl, rfl⟩
          go_wp2_with fail
          refine (HSm.out _).mono ?_
          rintro e w' ⟨rfl, rfl⟩
          go_wp2
          exact bodyPost_ret (v := .tuple #[.agg #[.int .i64 5, .int .i64 0, .string x1], .int .i64 ((p : Int) + 1)]) (by simp [results, Tryd.results37, go_sem]) rfl ⟨rfl, A0.out _⟩
        · have e47 : (c == 47) = false := beq_false_of_ne h7
          clear h47 h7
          go_enter Tryd.func37, Tryd.ntmps37
          go_wp2_with fail
          refine (HD.out _).mono ?_
          rintro e w' ⟨rfl, rfl⟩
          go_wp2_with fail
          refine (HSm.out _).mono ?_
          rintro e w' ⟨rfl, rfl⟩
          go_wp2
          exact bodyPost_ret (v := .tuple #[.agg #[.int .i64 5, .int .i64 0, .string x1], .int .i64 ((p : Int) + 1)]) (by simp [results, Tryd.results37, go_sem]) rfl ⟨rfl, A0.out _⟩
end Go.Proofs.YtapcbblfcmdbnaaDoor
