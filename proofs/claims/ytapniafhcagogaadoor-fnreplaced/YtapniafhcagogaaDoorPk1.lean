/- What matches replaced: Replace of the model. -/
import Derived.Test.YtapniafhcagogaaDoorSpecEnds
import Derived.Test.YtapniafhcagogaaDoorMatFold
import Derived.Test.YtapniafhcagogaaDoorRexBox
import Derived.WalkSpells
namespace Go.Proofs.YtapniafhcagogaaDoor
open Go.RowKit
set_option maxRecDepth 8000

/-- From the place p on: what is written behind x, and how often. -/
def rp (s z : ByteArray) (all : Bool) (M : Mat) (p : Nat) (x : ByteArray) (c : Nat) : ByteArray × Nat :=
  if _h : s.size < p then (x, c) else
  if (all || c == 0) = true then
    match (rowL s.size (M p)).getLast? with
    | some e => if _h2 : p < e then rp s z all M e (x ++ z) (c + 1) else rp s z all M (p + 1) (x ++ z ++ s.extract p (p + 1)) (c + 1)
    | none => rp s z all M (p + 1) (x ++ s.extract p (p + 1)) c
  else rp s z all M (p + 1) (x ++ s.extract p (p + 1)) c
termination_by s.size + 1 - p
theorem rp_end (s z : ByteArray) (all : Bool) (M : Mat) (p : Nat) (x : ByteArray) (c : Nat) (h : s.size < p) : rp s z all M p x c = (x, c) := by rw [rp, dif_pos h]
theorem rp_far (s z : ByteArray) (all : Bool) (M : Mat) (p : Nat) (x : ByteArray) (c e : Nat) (h : p ≤ s.size) (hc : (all || c == 0) = true) (he : (rowL s.size (M p)).getLast? = some e) (hp : p < e) : rp s z all M p x c = rp s z all M e (x ++ z) (c + 1) := by
  rw [rp, dif_neg (by omega), if_pos hc, he]
  simp only
  rw [dif_pos hp]
theorem rp_here (s z : ByteArray) (all : Bool) (M : Mat) (p : Nat) (x : ByteArray) (c e : Nat) (h : p ≤ s.size) (hc : (all || c == 0) = true) (he : (rowL s.size (M p)).getLast? = some e) (hp : ¬ p < e) : rp s z all M p x c = rp s z all M (p + 1) (x ++ z ++ s.extract p (p + 1)) (c + 1) := by
  rw [rp, dif_neg (by omega), if_pos hc, he]
  simp only
  rw [dif_neg hp]
theorem rp_none (s z : ByteArray) (all : Bool) (M : Mat) (p : Nat) (x : ByteArray) (c : Nat) (h : p ≤ s.size) (he : (rowL s.size (M p)).getLast? = none) : rp s z all M p x c = rp s z all M (p + 1) (x ++ s.extract p (p + 1)) c := by
  rw [rp, dif_neg (by omega), he]
  simp
theorem rp_not (s z : ByteArray) (all : Bool) (M : Mat) (p : Nat) (x : ByteArray) (c : Nat) (h : p ≤ s.size) (hc : (all || c == 0) = false) : rp s z all M p x c = rp s z all M (p + 1) (x ++ s.extract p (p + 1)) c := by
  rw [rp, dif_neg (by omega), if_neg (by rw [hc]; simp)]
/-- What Replace answers. -/
def repR (t : Tr) (s z : ByteArray) (all : Bool) : ByteArray × Nat := if okR t = true ∧ s.size ≤ 200 ∧ z.size ≤ 200 then rp s z all (t.endM s) 0 ⟨#[]⟩ 0 else (s, 0)
theorem ext_end (s : ByteArray) : s.extract s.size (s.size + 1) = ⟨#[]⟩ := by
  apply ByteArray.ext
  rw [ByteArray.data_extract]
  apply Array.ext'
  rw [Array.toList_extract, List.extract_eq_take_drop, List.drop_eq_nil_of_le (by rw [Array.length_toList]; exact Nat.le_refl _)]
  simp
theorem app_nil (x : ByteArray) : x ++ (⟨#[]⟩ : ByteArray) = x := by
  apply ByteArray.ext
  simp [ByteArray.data_append]
theorem one_le (s : ByteArray) (p : Nat) : (s.extract p (p + 1)).size ≤ 1 := by rw [ByteArray.size_extract]; omega
theorem last_bounds {n : Nat} {M : Mat} (hU : UpM n M) {p e : Nat} (hp : p ≤ n) (h : (rowL n (M p)).getLast? = some e) : p ≤ e ∧ e ≤ n := by
  have hm : e ∈ rowL n (M p) := List.mem_of_getLast? h
  unfold rowL at hm
  exact hU p e hp (List.mem_filter.1 hm).2

set_option maxHeartbeats 4000000 in
theorem specReplace_any (t : Tr) (B : Nat → Prop) (v : Value) (s z : ByteArray) (all : Bool) (w : World) (h : Rl w B t.l v) (hts : t.s.size ≤ maxLen) (hs : s.size ≤ 1048576) (hz : z.size ≤ 1048576) :
    Calls Tryd.prog 29 #[rx t.k t.s v, .string s, .string z, .bool all] w fun e w' => e = .returned (.tuple #[.string (repR t s z all).1, .int .i64 (((repR t s z all).2 : Nat) : Int)]) ∧ Below w.heap.size w w' := by
  have HRO := Hid.mk (fun (w' : World) (hb : Below w.heap.size w w') => specRexOk_any t B v w' (h.grow hb) hts)
  have HAL := Hid.mk (fun (h1 : s.size ≤ 200) (h2 : okR t = true) (w' : World) (hb : Below w.heap.size w w') => l4All_any s h1 t B v w' (h.grow hb) hts (okR_okT h2))
  have HE : Hid (repR t s z all = if okR t = true ∧ s.size ≤ 200 ∧ z.size ≤ 200 then rp s z all (t.endM s) 0 ⟨#[]⟩ 0 else (s, 0)) := rfl
  have HU := Hid.mk (UpM.tree s t)
  obtain ⟨ao, cap, rfl, -⟩ := h.len
  obtain ⟨F, hF⟩ : ∃ F, repR t s z all = F := ⟨_, rfl⟩
  obtain ⟨M, hM⟩ : ∃ M, t.endM s = M := ⟨_, rfl⟩
  obtain ⟨ok, hok⟩ : ∃ ok, okR t = ok := ⟨_, rfl⟩
  obtain ⟨tk, htk⟩ : ∃ tk, t.k = tk := ⟨_, rfl⟩
  obtain ⟨ts, hts'⟩ : ∃ ts, t.s = ts := ⟨_, rfl⟩
  obtain ⟨l, hl⟩ : ∃ l, t.l = l := ⟨_, rfl⟩
  rw [htk, hts', hl, hok] at HRO
  rw [htk, hts', hl, hok, hM] at HAL
  rw [hF, hok, hM] at HE
  rw [hM] at HU
  rw [htk, hts', hl, hF]
  clear h hts htk hts' hl hok hF hM
  have A0 : Below w.heap.size w (w.alloc (.cells #[.int .i64 tk, .string ts, .slice ao l.length cap] 26)) := (Below.refl _ _).alloc (Nat.le_refl _) _
  have X0 := Hid.mk (Bz3.new w (.int .i64 tk) (.string ts) (.slice ao l.length cap))
  cases ok with
  | false =>
    have hEE : F = (s, 0) := by rw [HE.out, if_neg (by simp)]
    subst hEE
    clear HE
    go_enter Tryd.func29, Tryd.ntmps29
    go_wp2_with fail
    refine (HRO.out _ A0).mono ?_
    rintro e w1 ⟨rfl, hb1⟩
    have B1 := Hid.mk (A0.trans (hb1.mono (by simp)))
    clear hb1 HRO HAL
    go_wp2
    go_ret2
    exact ⟨rfl, B1.out⟩
  | true =>
    by_cases hsz : s.size ≤ 200
    · have hs0 : ¬ (200 : Int) < (s.size : Int) := by omega
      by_cases hzz : z.size ≤ 200
      · have hz0 : ¬ (200 : Int) < (z.size : Int) := by omega
        have HF : Hid (rp s z all M 0 ⟨#[]⟩ 0 = F) := by show _ = _; rw [HE.out, if_pos ⟨rfl, hsz, hzz⟩]
        have HAL' := Hid.mk (HAL.out hsz rfl)
        clear HAL HE
        go_enter Tryd.func29, Tryd.ntmps29
        go_wp2_with fail
        refine (HRO.out _ A0).mono ?_
        rintro e w1 ⟨rfl, hb1⟩
        have B1 := Hid.mk (A0.trans (hb1.mono (by simp)))
        have X1 := X0.out.grow hb1
        have x0 := X1.c0
        have x1 := X1.c1
        have x2 := X1.c2
        clear hb1 HRO X1
        go_wp2_with fail
        refine (HAL'.out _ B1.out).mono ?_
        rintro e w2 ⟨v2, rfl, ⟨g, cg, R, rfl, hc1, hc2, hap, hq⟩, hb2⟩
        have B2 := Hid.mk (B1.out.trans (hb2.mono B1.out.size))
        have HQ := Hid.mk hq
        have hcm : cg ≤ 9223372036854775807 := by unfold maxLen at hc2; omega
        clear hb2 hap hq hc1 hc2 B1 HAL' x0 x1 x2 X0 A0
        go_wp2
        go_loopw [10, 11, 12] (fun o c a wr => ∃ (x : ByteArray) (k p : Nat), o = .string x ∧ c = .int .i64 k ∧ a = .int .i64 p ∧ p ≤ s.size + 1 ∧ x.size ≤ 201 * p ∧ k ≤ p ∧ Hid (rp s z all M p x k = F) ∧ Hid (Below w2.heap.size w2 wr)) (fun _ _ a _ => s.size + 1 - (intOf a).toNat)
        case atStart => exact ⟨⟨#[]⟩, 0, 0, rfl, rfl, rfl, by omega, Nat.le_refl _, Nat.le_refl _, HF, Below.refl _ _⟩
        case round =>
          obtain ⟨x, k, p, rfl, rfl, rfl, hp, hx, hk, HR, HB⟩ := hrel
          clear HF
          by_cases hpn : p ≤ s.size
          · have hpi : (p : Int) ≤ (s.size : Int) := by omega
            have hpj : (p : Int) < (s.size : Int) + 1 := by omega
            have HAB := Hid.mk (HB.out.alloc HB.out.size (.cells #[] 3))
            have hz1 : ¬ 9223372036854775807 < x.size + z.size := by omega
            have h1 := one_le s p
            have hx1 : ¬ 9223372036854775807 < x.size + (s.extract p (p + 1)).size := by omega
            have hx2 : ¬ 9223372036854775807 < (x ++ z).size + (s.extract p (p + 1)).size := by rw [ByteArray.size_append]; omega
            have hx3 : ¬ 9223372036854775807 < x.size + z.size + (s.extract p (p + 1)).size := by omega
            rw [ByteArray.size_extract] at hx1 hx2 hx3
            cases all with
            | true =>
              have hcd : (true || k == 0) = true := by rfl
              have hin := HQ.out.inner p hpn
              have hgl : g < w2.heap.size := World.block_lt_of_cell? w2 _ (HQ.out.outer p hpn)
              have hRl : R p < w2.heap.size := (Array.getElem?_eq_some_iff.1 hin).1
              have hwl := HB.out.size
              have o1 : (wr.alloc (.cells #[] 3)).cell? ⟨g, p, none⟩ = some (.slice (some ⟨R p, 0, none⟩) (s.size + 1) (s.size + 1)) := by rw [HAB.out.cell (p := ⟨g, p, none⟩) hgl]; exact HQ.out.outer p hpn
              have hgne : g ≠ wr.heap.size := by omega
              have HROW := Hid.mk (l4Row_any s.size hsz (M p) (R p) (wr.alloc (.cells #[] 3)) ((HAB.out.block _ hRl).trans hin))
              clear hin hgl hRl
              go_wp2_with fail
              refine HROW.out.mono ?_
              rintro e w3 ⟨v3, rfl, ho3, hb3⟩
              have B3 := Hid.mk (HAB.out.trans (hb3.mono (by simp; omega)))
              clear hb3 HROW o1 hgne hwl HAB
              cases hlast : (rowL s.size (M p)).getLast? with
              | none =>
                have hnil : rowL s.size (M p) = [] := List.getLast?_eq_none_iff.1 hlast
                rw [hnil] at ho3
                have hv3 : ∃ a3 c3, v3 = .slice a3 0 c3 := by
                  rcases ho3.2 with ⟨rfl, _⟩ | ⟨g3, cap3, cur, rfl, _⟩
                  · exact ⟨_, _, rfl⟩
                  · exact ⟨_, _, rfl⟩
                obtain ⟨a3, c3, rfl⟩ := hv3
                have HRn := Hid.mk ((rp_none s z true M p x k hpn hlast).symm.trans HR.out)
                clear hlast hnil ho3 HR HB hcd
                by_cases hlt : p < s.size
                · have hpk : (p : Int) < (s.size : Int) := by omega
                  go_wp2
                  go_roundw
                  case rel => exact ⟨x ++ s.extract p (p + 1), k, p + 1, rfl, by go_num, by go_num, by omega, by rw [ByteArray.size_append]; omega, by omega, HRn, B3⟩
                  case measure => simp [intOf]; omega
                · have hpk : ¬ (p : Int) < (s.size : Int) := by omega
                  have e0 : s.extract p (p + 1) = ⟨#[]⟩ := by rw [show p = s.size by omega]; exact ext_end s
                  rw [e0, app_nil] at HRn
                  clear e0 h1 hx1 hx2 hx3
                  go_wp2
                  go_roundw
                  case rel => exact ⟨x, k, p + 1, rfl, by go_num, by go_num, by omega, by omega, by omega, HRn, B3⟩
                  case measure => simp [intOf]; omega
              | some e =>
                have hbd := last_bounds HU.out hpn hlast
                obtain ⟨ln, hln⟩ : ∃ ln, (rowL s.size (M p)).length = ln + 1 := by
                  cases hq : rowL s.size (M p) with
                  | nil => rw [hq] at hlast; cases hlast
                  | cons y r => exact ⟨r.length, rfl⟩
                have hget : (rowL s.size (M p))[ln]? = some e := by rw [List.getLast?_eq_getElem?, hln] at hlast; exact hlast
                have hv3 : ∃ g3 c3, v3 = .slice (some ⟨g3, 0, none⟩) (ln + 1) c3 ∧ ln + 1 ≤ c3 ∧ c3 ≤ 9223372036854775807 ∧ w3.cell? ⟨g3, ln, none⟩ = some (.int .i64 (e : Int)) := by
                  rcases ho3.2 with ⟨_, h0⟩ | ⟨g3, cap3, cur, rfl, hb, hg, hnc, hcm3, hcs, htk⟩
                  · rw [hln] at h0; omega
                  · have hc := ho3.cellAt ln (by rw [hln]; omega)
                    rw [List.getElem?_map, hget] at hc
                    rw [hln] at hnc ⊢
                    unfold maxLen at hcm3
                    exact ⟨g3, cap3, rfl, hnc, by omega, hc⟩
                obtain ⟨g3, c3, rfl, hc31, hc32, hcell3⟩ := hv3
                by_cases hpe : p < e
                · have hpei : (p : Int) < (e : Int) := by omega
                  have HRn := Hid.mk ((rp_far s z true M p x k e hpn hcd hlast hpe).symm.trans HR.out)
                  clear hlast ho3 HR HB hcd hget hln h1 hx1 hx2 hx3
                  go_wp2
                  go_roundw
                  case rel => exact ⟨x ++ z, k + 1, e, rfl, by go_num, rfl, by omega, by rw [ByteArray.size_append]; omega, by omega, HRn, B3⟩
                  case measure => simp [intOf]; omega
                · have hpei : ¬ (p : Int) < (e : Int) := by omega
                  have HRn := Hid.mk ((rp_here s z true M p x k e hpn hcd hlast hpe).symm.trans HR.out)
                  clear hlast ho3 HR HB hcd hget hln
                  by_cases hlt : p < s.size
                  · have hpk : (p : Int) < (s.size : Int) := by omega
                    go_wp2
                    go_roundw
                    case rel => exact ⟨x ++ z ++ s.extract p (p + 1), k + 1, p + 1, rfl, by go_num, by go_num, by omega, by rw [ByteArray.size_append, ByteArray.size_append]; omega, by omega, HRn, B3⟩
                    case measure => simp [intOf]; omega
                  · have hpk : ¬ (p : Int) < (s.size : Int) := by omega
                    have e0 : s.extract p (p + 1) = ⟨#[]⟩ := by rw [show p = s.size by omega]; exact ext_end s
                    rw [e0, app_nil] at HRn
                    clear e0 h1 hx1 hx2 hx3
                    go_wp2
                    go_roundw
                    case rel => exact ⟨x ++ z, k + 1, p + 1, rfl, by go_num, by go_num, by omega, by rw [ByteArray.size_append]; omega, by omega, HRn, B3⟩
                    case measure => simp [intOf]; omega
            | false =>
              by_cases hk0 : k = 0
              · skip
                have hcd : (false || k == 0) = true := by simp [hk0]
                have hkq : ((k : Int) == 0) = true := by simp [hk0]
                have HK0 := Hid.mk hk0
                clear hk0
                have hin := HQ.out.inner p hpn
                have hgl : g < w2.heap.size := World.block_lt_of_cell? w2 _ (HQ.out.outer p hpn)
                have hRl : R p < w2.heap.size := (Array.getElem?_eq_some_iff.1 hin).1
                have hwl := HB.out.size
                have o1 : (wr.alloc (.cells #[] 3)).cell? ⟨g, p, none⟩ = some (.slice (some ⟨R p, 0, none⟩) (s.size + 1) (s.size + 1)) := by rw [HAB.out.cell (p := ⟨g, p, none⟩) hgl]; exact HQ.out.outer p hpn
                have hgne : g ≠ wr.heap.size := by omega
                have HROW := Hid.mk (l4Row_any s.size hsz (M p) (R p) (wr.alloc (.cells #[] 3)) ((HAB.out.block _ hRl).trans hin))
                clear hin hgl hRl
                go_wp2_with fail
                refine HROW.out.mono ?_
                rintro e w3 ⟨v3, rfl, ho3, hb3⟩
                have B3 := Hid.mk (HAB.out.trans (hb3.mono (by simp; omega)))
                clear hb3 HROW o1 hgne hwl HAB
                cases hlast : (rowL s.size (M p)).getLast? with
                | none =>
                  have hnil : rowL s.size (M p) = [] := List.getLast?_eq_none_iff.1 hlast
                  rw [hnil] at ho3
                  have hv3 : ∃ a3 c3, v3 = .slice a3 0 c3 := by
                    rcases ho3.2 with ⟨rfl, _⟩ | ⟨g3, cap3, cur, rfl, _⟩
                    · exact ⟨_, _, rfl⟩
                    · exact ⟨_, _, rfl⟩
                  obtain ⟨a3, c3, rfl⟩ := hv3
                  have HRn := Hid.mk ((rp_none s z false M p x k hpn hlast).symm.trans HR.out)
                  clear hlast hnil ho3 HR HB hcd
                  by_cases hlt : p < s.size
                  · have hpk : (p : Int) < (s.size : Int) := by omega
                    go_wp2
                    go_roundw
                    case rel => exact ⟨x ++ s.extract p (p + 1), k, p + 1, rfl, by go_num, by go_num, by omega, by rw [ByteArray.size_append]; omega, by omega, HRn, B3⟩
                    case measure => simp [intOf]; omega
                  · have hpk : ¬ (p : Int) < (s.size : Int) := by omega
                    have e0 : s.extract p (p + 1) = ⟨#[]⟩ := by rw [show p = s.size by omega]; exact ext_end s
                    rw [e0, app_nil] at HRn
                    clear e0 h1 hx1 hx2 hx3
                    go_wp2
                    go_roundw
                    case rel => exact ⟨x, k, p + 1, rfl, by go_num, by go_num, by omega, by omega, by omega, HRn, B3⟩
                    case measure => simp [intOf]; omega
                | some e =>
                  have hbd := last_bounds HU.out hpn hlast
                  obtain ⟨ln, hln⟩ : ∃ ln, (rowL s.size (M p)).length = ln + 1 := by
                    cases hq : rowL s.size (M p) with
                    | nil => rw [hq] at hlast; cases hlast
                    | cons y r => exact ⟨r.length, rfl⟩
                  have hget : (rowL s.size (M p))[ln]? = some e := by rw [List.getLast?_eq_getElem?, hln] at hlast; exact hlast
                  have hv3 : ∃ g3 c3, v3 = .slice (some ⟨g3, 0, none⟩) (ln + 1) c3 ∧ ln + 1 ≤ c3 ∧ c3 ≤ 9223372036854775807 ∧ w3.cell? ⟨g3, ln, none⟩ = some (.int .i64 (e : Int)) := by
                    rcases ho3.2 with ⟨_, h0⟩ | ⟨g3, cap3, cur, rfl, hb, hg, hnc, hcm3, hcs, htk⟩
                    · rw [hln] at h0; omega
                    · have hc := ho3.cellAt ln (by rw [hln]; omega)
                      rw [List.getElem?_map, hget] at hc
                      rw [hln] at hnc ⊢
                      unfold maxLen at hcm3
                      exact ⟨g3, cap3, rfl, hnc, by omega, hc⟩
                  obtain ⟨g3, c3, rfl, hc31, hc32, hcell3⟩ := hv3
                  by_cases hpe : p < e
                  · have hpei : (p : Int) < (e : Int) := by omega
                    have HRn := Hid.mk ((rp_far s z false M p x k e hpn hcd hlast hpe).symm.trans HR.out)
                    clear hlast ho3 HR HB hcd hget hln h1 hx1 hx2 hx3
                    go_wp2
                    go_roundw
                    case rel => exact ⟨x ++ z, k + 1, e, rfl, by go_num, rfl, by omega, by rw [ByteArray.size_append]; omega, by omega, HRn, B3⟩
                    case measure => simp [intOf]; omega
                  · have hpei : ¬ (p : Int) < (e : Int) := by omega
                    have HRn := Hid.mk ((rp_here s z false M p x k e hpn hcd hlast hpe).symm.trans HR.out)
                    clear hlast ho3 HR HB hcd hget hln
                    by_cases hlt : p < s.size
                    · have hpk : (p : Int) < (s.size : Int) := by omega
                      go_wp2
                      go_roundw
                      case rel => exact ⟨x ++ z ++ s.extract p (p + 1), k + 1, p + 1, rfl, by go_num, by go_num, by omega, by rw [ByteArray.size_append, ByteArray.size_append]; omega, by omega, HRn, B3⟩
                      case measure => simp [intOf]; omega
                    · have hpk : ¬ (p : Int) < (s.size : Int) := by omega
                      have e0 : s.extract p (p + 1) = ⟨#[]⟩ := by rw [show p = s.size by omega]; exact ext_end s
                      rw [e0, app_nil] at HRn
                      clear e0 h1 hx1 hx2 hx3
                      go_wp2
                      go_roundw
                      case rel => exact ⟨x ++ z, k + 1, p + 1, rfl, by go_num, by go_num, by omega, by rw [ByteArray.size_append]; omega, by omega, HRn, B3⟩
                      case measure => simp [intOf]; omega
              · have hkq : ((k : Int) == 0) = false := by rw [beq_eq_false_iff_ne]; omega
                have hcd : (false || k == 0) = false := by simp [hk0]
                have HRn := Hid.mk ((rp_not s z false M p x k hpn hcd).symm.trans HR.out)
                clear hcd HR
                by_cases hlt : p < s.size
                · have hpk : (p : Int) < (s.size : Int) := by omega
                  go_wp2
                  go_roundw
                  case rel => exact ⟨x ++ s.extract p (p + 1), k, p + 1, rfl, by go_num, by go_num, by omega, by rw [ByteArray.size_append]; omega, by omega, HRn, HAB⟩
                  case measure => simp [intOf]; omega
                · have hpk : ¬ (p : Int) < (s.size : Int) := by omega
                  have e0 : s.extract p (p + 1) = ⟨#[]⟩ := by rw [show p = s.size by omega]; exact ext_end s
                  rw [e0, app_nil] at HRn
                  clear e0 h1 hx1 hx2 hx3
                  go_wp2
                  go_roundw
                  case rel => exact ⟨x, k, p + 1, rfl, by go_num, by go_num, by omega, by omega, by omega, HRn, HAB⟩
                  case measure => simp [intOf]; omega
          · obtain rfl : p = s.size + 1 := by omega
            have hpi : ¬ ((s.size : Int) + 1 ≤ (s.size : Int)) := by omega
            have hE := HR.out
            rw [rp_end s z all M _ x k (by omega)] at hE
            subst hE
            go_wp2
            go_ret2
            exact ⟨rfl, B2.out.trans (HB.out.mono B2.out.size)⟩
      · have hz0 : (200 : Int) < (z.size : Int) := by omega
        have hEE : F = (s, 0) := by rw [HE.out, if_neg (fun h => hzz h.2.2)]
        subst hEE
        clear HE
        go_enter Tryd.func29, Tryd.ntmps29
        go_wp2_with fail
        refine (HRO.out _ A0).mono ?_
        rintro e w1 ⟨rfl, hb1⟩
        have B1 := Hid.mk (A0.trans (hb1.mono (by simp)))
        clear hb1 HRO HAL
        go_wp2
        go_ret2
        exact ⟨rfl, B1.out⟩
    · have hs0 : (200 : Int) < (s.size : Int) := by omega
      have hEE : F = (s, 0) := by rw [HE.out, if_neg (fun h => hsz h.2.1)]
      subst hEE
      clear HE
      go_enter Tryd.func29, Tryd.ntmps29
      go_wp2_with fail
      refine (HRO.out _ A0).mono ?_
      rintro e w1 ⟨rfl, hb1⟩
      have B1 := Hid.mk (A0.trans (hb1.mono (by simp)))
      clear hb1 HRO HAL
      go_wp2
      go_ret2
      exact ⟨rfl, B1.out⟩
end Go.Proofs.YtapniafhcagogaaDoor
