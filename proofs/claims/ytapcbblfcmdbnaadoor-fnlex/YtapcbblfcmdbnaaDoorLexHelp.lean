/- What the program's Lex leans on: whether a sign ~ stands ahead, the kind of what comes next, a mark's size. -/
import Derived.Test.YtapcbblfcmdbnaaDoorLexAll
import Derived.Laws.StructEq
namespace Go.Proofs.YtapcbblfcmdbnaaDoor
open Go.RowKit
set_option maxRecDepth 8000

set_option maxHeartbeats 1000000 in
theorem markSize_any (s : ByteArray) (w : World) (hs : s.size ≤ maxLen) :
    Calls Tryd.prog 27 #[.string s] w fun e w' => e = .returned (.int .i64 (if 2 ≤ s.size ∧ mkB (s.extract 0 2) = true then 2 else 1)) ∧ w' = w := by
  unfold maxLen at hs
  have HM := Hid.mk (isMark_any (s.extract 0 2))
  by_cases h2 : 2 ≤ s.size
  · have h2i : (2 : Int) ≤ (s.size : Int) := by omega
    cases hm : mkB (s.extract 0 2) with
    | true =>
      rw [hm] at HM
      rw [if_pos ⟨h2, rfl⟩]
      clear hm
      go_enter Tryd.func27, Tryd.ntmps27
      go_wp2_with fail
      refine (HM.out _).mono ?_
      rintro e w' ⟨rfl, rfl⟩
      go_wp2
      go_ret
      exact ⟨rfl, rfl⟩
    | false =>
      rw [hm] at HM
      rw [if_neg (fun h => by exact absurd h.2 (by simp))]
      clear hm
      go_enter Tryd.func27, Tryd.ntmps27
      go_wp2_with fail
      refine (HM.out _).mono ?_
      rintro e w' ⟨rfl, rfl⟩
      go_wp2
      go_ret
      exact ⟨rfl, rfl⟩
  · rw [if_neg (fun h => h2 h.1)]
    have h2i : ¬ (2 : Int) ≤ (s.size : Int) := by omega
    go_enter Tryd.func27, Tryd.ntmps27
    go_wp2
    go_ret
    exact ⟨rfl, rfl⟩

theorem tiL_at {L : List Tk} (h : 0 < L.length) : tiL L = tiB (L[L.length - 1]'(by omega)) := by
  unfold tiL
  rw [List.getLast?_eq_getElem?, List.getElem?_eq_getElem (by omega)]
theorem tok5 {t : Tk} (h : tkOkB t = true) (h5 : t.k = 5) : t.n = 0 := by
  unfold tkOkB tokB at h
  rw [if_neg (by omega), Bool.and_eq_true] at h
  simpa using h.1

set_option maxHeartbeats 1000000 in
theorem endsInTilde_any (L : List Tk) (v : Value) (w : World) (h : Tl w L v) (hok : ∀ t ∈ L, tkOkB t = true) :
    Calls Tryd.prog 46 #[v] w fun e w' => e = .returned (.bool (tiL L)) ∧ w' = w := by
  obtain ⟨ao, cap, rfl, hl1, hm, -, -, hc⟩ := h
  unfold maxLen at hm
  by_cases h0 : L = []
  · subst h0
    clear hok
    go_enter Tryd.func46, Tryd.ntmps46
    go_wp2
    go_ret
    exact ⟨rfl, rfl⟩
  · obtain ⟨b, off, rfl, hcell⟩ := hc h0
    have hlen : 0 < L.length := List.length_pos_iff.2 h0
    have hti := tiL_at hlen
    have hlt1 : L.length - 1 < L.length := by omega
    have h5 : L[L.length - 1].k = 5 → L[L.length - 1].n = 0 := fun h => tok5 (hok _ (List.getElem_mem hlt1)) h
    obtain ⟨c0, c1, c2⟩ := hcell (L.length - 1) (by omega)
    generalize L[L.length - 1] = y at c0 c1 c2 hti h5
    obtain ⟨yk, yn, ys⟩ := y
    simp only at c0 c1 c2 h5
    rw [hti]
    obtain ⟨n, hn⟩ : ∃ n, L.length = n + 1 := ⟨L.length - 1, by omega⟩
    rw [hn] at hl1 ⊢
    rw [hn, Nat.add_sub_cancel] at c0 c1 c2
    clear hcell hc hti hok h0 hlen hn
    by_cases hk : yk = 5
    · have hn0 := h5 hk
      subst hk hn0
      clear h5
      cases h126 : (ys.toList == [126]) with
      | true =>
        have HT : Hid (tiB ⟨5, 0, ys⟩ = true) := by show _ = _; simp only [tiB, h126]; rfl
        go_enter Tryd.func46, Tryd.ntmps46
        go_wp2
        go_ret
        exact ⟨ret_tb HT.out.symm, rfl⟩
      | false =>
        have HT : Hid (tiB ⟨5, 0, ys⟩ = false) := by show _ = _; simp only [tiB, h126]; rfl
        go_enter Tryd.func46, Tryd.ntmps46
        go_wp2
        go_ret
        exact ⟨ret_tb HT.out.symm, rfl⟩
    · have e5 : (yk == 5) = false := beq_false_of_ne hk
      have HT : Hid (tiB ⟨yk, yn, ys⟩ = false) := by show _ = _; simp only [tiB, e5]; rfl
      clear h5
      go_enter Tryd.func46, Tryd.ntmps46
      go_wp2
      go_ret
      exact ⟨ret_tb HT.out.symm, rfl⟩

/-- The kind of what begins with a byte. -/
def kdT (c : Int) (rex : Bool) : Int := if dgB c = true then 1 else if smB c = true then 2 else if c = 39 then 3 else if c = 47 ∧ rex = true then 4 else 5
set_option maxHeartbeats 1000000 in
theorem kindOfNext_any (c : Int) (L : List Tk) (v : Value) (w : World) (h : Tl w L v) (hok : ∀ t ∈ L, tkOkB t = true) :
    Calls Tryd.prog 23 #[.int .u8 c, v] w fun e w' => e = .returned (.int .i64 (kdT c (tiL L))) ∧ w' = w := by
  have HD := Hid.mk (isDigit_any c)
  have HS := Hid.mk (isSmall_any c)
  have HE := Hid.mk (fun w' (hw : w' = w) => by subst hw; exact endsInTilde_any L v _ h hok)
  obtain ⟨ao, cap, rfl, -⟩ := h
  generalize tiL L = rex at *
  clear hok
  cases hd : dgB c with
  | true =>
    have HK : Hid (kdT c rex = 1) := by show _ = _; unfold kdT; rw [if_pos hd]
    rw [hd] at HD
    clear hd HS HE
    go_enter Tryd.func23, Tryd.ntmps23
    go_wp2_with fail
    refine (HD.out _).mono ?_
    rintro e w' ⟨rfl, rfl⟩
    go_wp2
    go_ret
    exact ⟨by rw [HK.out]; rfl, rfl⟩
  | false =>
    rw [hd] at HD
    cases hs : smB c with
    | true =>
      have HK : Hid (kdT c rex = 2) := by show _ = _; unfold kdT; rw [if_neg (by rw [hd]; simp), if_pos hs]
      rw [hs] at HS
      clear hd hs HE
      go_enter Tryd.func23, Tryd.ntmps23
      go_wp2_with fail
      refine (HD.out _).mono ?_
      rintro e w' ⟨rfl, rfl⟩
      go_wp2_with fail
      refine (HS.out _).mono ?_
      rintro e w' ⟨rfl, rfl⟩
      go_wp2
      go_ret
      exact ⟨by rw [HK.out]; rfl, rfl⟩
    | false =>
      rw [hs] at HS
      by_cases h39 : c = 39
      · have HK : Hid (kdT c rex = 3) := by show _ = _; unfold kdT; rw [if_neg (by rw [hd]; simp), if_neg (by rw [hs]; simp), if_pos h39]
        subst h39
        clear hd hs HE
        go_enter Tryd.func23, Tryd.ntmps23
        go_wp2_with fail
        refine (HD.out _).mono ?_
        rintro e w' ⟨rfl, rfl⟩
        go_wp2_with fail
        refine (HS.out _).mono ?_
        rintro e w' ⟨rfl, rfl⟩
        go_wp2
        go_ret
        exact ⟨by rw [HK.out]; rfl, rfl⟩
      · have e39 : (c == 39) = false := beq_false_of_ne h39
        by_cases h47 : c = 47
        · have HK : Hid (kdT c rex = if rex = true then 4 else 5) := by
            show _ = _
            unfold kdT
            rw [if_neg (by rw [hd]; simp), if_neg (by rw [hs]; simp), if_neg h39]
            cases rex <;> simp [h47]
          subst h47
          clear hd hs h39 e39
          cases rex with
          | true =>
            go_enter Tryd.func23, Tryd.ntmps23
            go_wp2_with fail
            refine (HD.out _).mono ?_
            rintro e w' ⟨rfl, hw1⟩
            subst hw1
            go_wp2_with fail
            refine (HS.out _).mono ?_
            rintro e w'' ⟨rfl, hw2⟩
            subst hw2
            go_wp2_with fail
            refine (HE.out _ rfl).mono ?_
            rintro e w3 ⟨rfl, hw3⟩
            subst hw3
            go_wp2
            go_ret
            exact ⟨by rw [HK.out]; rfl, rfl⟩
          | false =>
            go_enter Tryd.func23, Tryd.ntmps23
            go_wp2_with fail
            refine (HD.out _).mono ?_
            rintro e w' ⟨rfl, hw1⟩
            subst hw1
            go_wp2_with fail
            refine (HS.out _).mono ?_
            rintro e w'' ⟨rfl, hw2⟩
            subst hw2
            go_wp2_with fail
            refine (HE.out _ rfl).mono ?_
            rintro e w3 ⟨rfl, hw3⟩
            subst hw3
            go_wp2
            go_ret
            exact ⟨by rw [HK.out]; rfl, rfl⟩
        · have e47 : (c == 47) = false := beq_false_of_ne h47
          have HK : Hid (kdT c rex = 5) := by show _ = _; unfold kdT; rw [if_neg (by rw [hd]; simp), if_neg (by rw [hs]; simp), if_neg h39, if_neg (fun h => h47 h.1)]
          clear hd hs HE h39 h47
          go_enter Tryd.func23, Tryd.ntmps23
          go_wp2_with fail
          refine (HD.out _).mono ?_
          rintro e w' ⟨rfl, rfl⟩
          go_wp2_with fail
          refine (HS.out _).mono ?_
          rintro e w' ⟨rfl, rfl⟩
          go_wp2
          go_ret
          exact ⟨by rw [HK.out]; rfl, rfl⟩
end Go.Proofs.YtapcbblfcmdbnaaDoor
