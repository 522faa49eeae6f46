/- What matches replaced: Replace of the program. -/
import Derived.Test.YtapniafhcagogaaDoorPlLong
import Derived.Test.YtapniafhcagogaaDoorBld
import Derived.Test.YtapniafhcagogaaDoorTxtClone
import Derived.Test.YtapniafhcagogaaDoorRepS
namespace Go.Proofs.YtapniafhcagogaaDoor
open Go.RowKit
set_option maxRecDepth 8000

theorem Bd.grow {w w' : World} {B b : Nat} {x : ByteArray} (h : Bd w B b x) (hk : Below w.heap.size w w') : Bd w' B b x := by
  have key : ∀ p, Lib.BuilderAt 88 5 B b p (Lib.strCells x) w → Lib.BuilderAt 88 5 B b p (Lib.strCells x) w' := by
    rintro p ⟨hB, v, hb, hown, hne⟩
    refine ⟨hB, v, (hk.block b (Array.getElem?_eq_some_iff.1 hb).1).trans hb, World.ownsRow.kept (row := none) hown ⟨hk.os, hk.tape, hk.output, hk.size, fun k hk' _ => hk.block k hk'⟩ ?_, hne⟩
    rcases hown.2 with ⟨rfl, _⟩ | ⟨g, cap, cur, rfl, _⟩
    · exact .inl rfl
    · exact .inr (by simp [Value.ownBlock])
  rcases h with h | h
  · exact .inl (key _ h)
  · exact .inr (key _ h)
theorem kept_cells {w w' : World} {b g : Nat} {cs : Array Value} {fz : Nat × Nat} (hk : Lib.OthersKept 5 (some b) w w') (hg : w.heap[g]? = some (.cells cs 68 fz)) (hne : g ≠ b) : w'.heap[g]? = some (.cells cs 68 fz) :=
  hk g _ hg (fun e => hne (Option.some.inj e)) (fun c f e => absurd (Obj.cells.inj e).2.1 (by decide))
theorem ext_same (s : ByteArray) : s.extract s.size s.size = ⟨#[]⟩ := by
  apply ByteArray.ext
  rw [ByteArray.data_extract]
  apply Array.ext'
  rw [Array.toList_extract, List.extract_eq_take_drop, Nat.sub_self]
  rfl

set_option maxHeartbeats 6000000 in
theorem implReplace_any (t : Tr) (B : Nat → Prop) (v : Value) (s z : ByteArray) (all : Bool) (w : World) (h : Rl w B t.l v) (hts : t.s.size ≤ maxLen) (hs : s.size ≤ 1048576) (hz : z.size ≤ 1048576) (hT : TabB w) :
    Calls Tryd.prog 28 #[rx t.k t.s v, .string s, .string z, .bool all] w fun e w' => e = .returned (.tuple #[.string (repR t s z all).1, .int .i64 (((repR t s z all).2 : Nat) : Int)]) ∧ Below w.heap.size w w' := by
  have HCM := Hid.mk (fun (w' : World) (hb : Below w.heap.size w w') => canMatch_any t B v s w' (h.grow hb) hts)
  have HEE := Hid.mk (fun (h1 : s.size ≤ 200) (h2 : okR t = true) (w' : World) (hb : Below w.heap.size w w') => endsEverywhere_any s h1 t B v w' (h.grow hb) hts (okR_okT h2) (hT.grow hb))
  have HCL := Hid.mk (fun w' => clone_any s w' hs)
  have HE : Hid (repR t s z all = if okR t = true ∧ s.size ≤ 200 ∧ z.size ≤ 200 then rp s z all (t.endM s) 0 ⟨#[]⟩ 0 else (s, 0)) := rfl
  have HU := Hid.mk (UpM.tree s t)
  have HTB := Hid.mk hT
  obtain ⟨ao, cap, rfl, -⟩ := h.len
  obtain ⟨F, hF⟩ : ∃ F, repR t s z all = F := ⟨_, rfl⟩
  obtain ⟨M, hM⟩ : ∃ M, t.endM s = M := ⟨_, rfl⟩
  obtain ⟨ok, hok⟩ : ∃ ok, okR t = ok := ⟨_, rfl⟩
  obtain ⟨tk, htk⟩ : ∃ tk, t.k = tk := ⟨_, rfl⟩
  obtain ⟨ts, hts'⟩ : ∃ ts, t.s = ts := ⟨_, rfl⟩
  obtain ⟨tl, htl⟩ : ∃ tl, t.l.length = tl := ⟨_, rfl⟩
  rw [htk, hts', htl, hok] at HCM
  rw [htk, hts', htl, hok, hM] at HEE
  rw [hF, hok, hM] at HE
  rw [hM] at HU
  rw [htk, hts', htl, hF]
  clear h hts htk hts' htl hok hF hM hT
  have A0 : Below w.heap.size w (w.alloc (.cells #[.int .i64 tk, .string ts, .slice ao tl cap] 26)) := (Below.refl _ _).alloc (Nat.le_refl _) _
  have X0 := Hid.mk (Bz3.new w (.int .i64 tk) (.string ts) (.slice ao tl cap))
  by_cases hgo : (decide (s.size ≤ 200) && ok) = true
  · rw [hgo] at HCM
    rw [Bool.and_eq_true, decide_eq_true_eq] at hgo
    obtain ⟨hsz, rfl⟩ := hgo
    by_cases hzz : z.size ≤ 200
    · have hz0 : ¬ (200 : Int) < (z.size : Int) := by omega
      have HF : Hid (rp s z all M 0 ⟨#[]⟩ 0 = F) := by show _ = _; rw [HE.out, if_pos ⟨rfl, hsz, hzz⟩]
      have HEE' := Hid.mk (HEE.out hsz rfl)
      clear HEE HE HCL
      go_enter Tryd.func28, Tryd.ntmps28
      go_wp2_with fail
      refine (HCM.out _ A0).mono ?_
      rintro e w1 ⟨rfl, hb1⟩
      have B1 := Hid.mk (A0.trans (hb1.mono (by simp)))
      have X1 := Hid.mk (X0.out.grow hb1)
      have hw1 : w.heap.size < w1.heap.size := X1.out.lt
      clear hb1 HCM X0 A0
      have A2 : Below w1.heap.size w1 (w1.alloc (.cells #[.pointer none, .slice none 0 0] 88)) := (Below.refl _ _).alloc (Nat.le_refl _) _
      have D2 := Hid.mk (Bd.fresh w1)
      have X2 := X1.out.grow A2
      have x0 := X2.c0
      have x1 := X2.c1
      have x2 := X2.c2
      have B2 := Hid.mk (B1.out.trans (A2.mono B1.out.size))
      have C2 := Hid.mk A2
      have S2 : (w1.alloc (.cells #[.pointer none, .slice none 0 0] 88)).heap.size = w1.heap.size + 1 := by simp
      have y0 := X1.out.c0
      have y1 := X1.out.c1
      have y2 := X1.out.c2
      clear A2 X2 X1
      unfold plS at HEE'
      go_wp2_with fail
      refine (HEE'.out _ B2.out).mono ?_
      rintro e w3 ⟨g, rfl, hg, hq3, hb3⟩
      have D3 := Hid.mk (D2.out.grow hb3)
      have B3 := Hid.mk (B2.out.trans (hb3.mono B2.out.size))
      have C3 := Hid.mk (C2.out.trans (hb3.mono (by simp)))
      have Q3 := Hid.mk hq3
      rw [S2] at hg
      generalize hbb : w1.heap.size = b at *
      clear hb3 hq3 D2 B2 C2 S2 HEE' x0 x1 x2 y0 y1 y2
      obtain ⟨m, hm⟩ : ∃ m, s.size + 1 = m := ⟨_, rfl⟩
      have HM := Hid.mk hm
      rw [hm]
      clear hm
      go_wp2
      go_loopw [11, 12, 30] (fun c nx i wr => ∃ (x : ByteArray) (k q p : Nat), c = .int .i64 k ∧ nx = .int .i64 q ∧ i = .int .i64 p ∧ p ≤ m ∧ q < m ∧ x.size ≤ 201 * max p q ∧ k ≤ max p q ∧ Hid (rp s z all M (max p q) x k = F) ∧ Hid (Bd wr b b x) ∧ Hid (Pq wr g s.size M) ∧ Hid (Below b w1 wr)) (fun _ _ i _ => m - (intOf i).toNat)
      case atStart => exact ⟨⟨#[]⟩, 0, 0, 0, rfl, rfl, rfl, by omega, by have := HM.out; omega, Nat.le_refl _, Nat.le_refl _, HF, D3, Q3, C3⟩
      case round =>
        obtain ⟨x, k, q, p, rfl, rfl, rfl, hp, hqm, hx, hk, HR, HD, HQ, HB⟩ := hrel
        clear HF D3 Q3 C3 B3
        by_cases him : (p : Int) < (m : Int)
        · have hpn : p ≤ s.size := by have := HM.out; omega
          have a0 := HQ.out.cell hpn (show 0 < 4 by omega)
          have a1 := HQ.out.cell hpn (show 1 < 4 by omega)
          have a2 := HQ.out.cell hpn (show 2 < 4 by omega)
          have a3 := HQ.out.cell hpn (show 3 < 4 by omega)
          rw [Nat.add_zero] at a0
          have heq := eq_places (wd (M p) 0 : Int) (wd (M p) 1 : Int) (wd (M p) 2 : Int) (wd (M p) 3 : Int)
          have hbw := HB.out.size
          have hgq := HQ.out.lt
          have hbl : b < wr.heap.size := by omega
          have HAB : ∀ o, Below wr.heap.size wr (wr.alloc o) := fun o => (Below.refl _ _).alloc (Nat.le_refl _) _
          have HDg := Hid.mk (fun o => HD.out.grow (HAB o))
          have HQg := Hid.mk (fun o => HQ.out.grow (HAB o))
          have HBg := Hid.mk (fun o => HB.out.trans ((HAB o).mono (by omega)))
          have hrow := rowL_upto HU.out (by omega) hpn
          clear HAB HD HQ HB
          by_cases hpq : p < q
          · have hpqi : (p : Int) < (q : Int) := by omega
            have HRn : Hid (rp s z all M (max (p + 1) q) x k = F) := by rw [show max (p + 1) q = max p q by omega]; exact HR
            go_wp2
            go_roundw
            case rel => exact ⟨x, k, q, p + 1, rfl, rfl, by go_num, by omega, hqm, by omega, by omega, HRn, HDg.out _, HQg.out _, HBg.out _⟩
            case measure => simp [intOf]; omega
          · have hpqi : ¬ (p : Int) < (q : Int) := by omega
            have hqp : (q : Int) ≤ (p : Int) := by omega
            rw [show max p q = p by omega] at HR hx hk
            cases hne : neB M p with
            | false =>
              obtain ⟨z0, z1, z2, z3⟩ := neB_false.1 hne
              have hlast : (rowL s.size (M p)).getLast? = none := by
                unfold neB at hne
                rw [hrow] at hne
                rw [List.getLast?_eq_none_iff]
                simpa using hne
              rw [z0, z1, z2, z3] at heq
              simp only [Int.natCast_zero, beq_self_eq_true, Bool.and_self] at heq
              have HRn := Hid.mk ((rp_none s z all M p x k hpn hlast).symm.trans HR.out)
              rw [z0] at a0
              rw [z1] at a1
              rw [z2] at a2
              rw [z3] at a3
              clear hne z0 z1 z2 z3 hlast HR hrow
              have HW := Hid.mk (fun (o : Obj) (y : ByteArray) (hy : y.size ≤ 1) => bdString_any b b (x) y (wr.alloc o) (HDg.out o) (by omega) (by have := (HBg.out o).size; omega))
              have h1s := one_le s p
              by_cases hlt : p < s.size
              · have hmin : min ((p : Int) + 1) (s.size : Int) = (p : Int) + 1 := by omega
                have hpk : (p : Int) + 1 ≤ (s.size : Int) := by omega
                go_wp2_with fail
                refine (HW.out _ (s.extract p (p + 1)) h1s).mono ?_
                rintro e4 w9 ⟨rfl, hd9, hb9, hk9⟩
                have HD9 := Hid.mk hd9
                have HQ9 : Hid (Pq w9 g s.size M) := kept_cells hk9 (HQg.out _) (by omega)
                have HB9 := Hid.mk ((HBg.out _).trans hb9)
                clear hd9 hb9 hk9 HW
                go_wp2
                go_roundw
                case rel => exact ⟨x ++ s.extract p (p + 1), k, q, p + 1, by go_num, rfl, by go_num, by omega, by omega, by rw [show max (p + 1) q = p + 1 by omega, ByteArray.size_append]; omega, by rw [show max (p + 1) q = p + 1 by omega]; omega, by rw [show max (p + 1) q = p + 1 by omega]; exact HRn, HD9, HQ9, HB9⟩
                case measure => simp [intOf]; omega
              · have hmin : min ((p : Int) + 1) (s.size : Int) = (s.size : Int) := by omega
                have hpk : (p : Int) ≤ (s.size : Int) := by omega
                have E0 : Hid (s.extract p s.size = s.extract p (p + 1)) := by show _ = _; rw [show p = s.size by omega, ext_same, ext_end]
                go_wp2_with fail
                refine (HW.out _ (s.extract p s.size) (by rw [E0.out]; exact h1s)).mono ?_
                rintro e4 w9 ⟨rfl, hd9, hb9, hk9⟩
                rw [E0.out] at hd9
                have HD9 := Hid.mk hd9
                have HQ9 : Hid (Pq w9 g s.size M) := kept_cells hk9 (HQg.out _) (by omega)
                have HB9 := Hid.mk ((HBg.out _).trans hb9)
                clear hd9 hb9 hk9 HW
                go_wp2
                go_roundw
                case rel => exact ⟨x ++ s.extract p (p + 1), k, q, p + 1, by go_num, rfl, by go_num, by omega, by omega, by rw [show max (p + 1) q = p + 1 by omega, ByteArray.size_append]; omega, by rw [show max (p + 1) q = p + 1 by omega]; omega, by rw [show max (p + 1) q = p + 1 by omega]; exact HRn, HD9, HQ9, HB9⟩
                case measure => simp [intOf]; omega
            | true =>
              have hz4 : ((wd (M p) 0 : Int) == 0 && (wd (M p) 1 : Int) == 0 && (wd (M p) 2 : Int) == 0 && (wd (M p) 3 : Int) == 0) = false := by
                rw [Bool.eq_false_iff]
                intro h
                simp only [Bool.and_eq_true, beq_iff_eq] at h
                rw [neB_false.2 ⟨by omega, by omega, by omega, by omega⟩] at hne
                cases hne
              rw [hz4] at heq
              obtain ⟨en, hlast⟩ : ∃ en, (rowL s.size (M p)).getLast? = some en := by
                cases hq : (rowL s.size (M p)).getLast? with
                | some en => exact ⟨en, rfl⟩
                | none =>
                  rw [List.getLast?_eq_none_iff] at hq
                  unfold neB at hne
                  rw [hrow, hq] at hne
                  cases hne
              have hbd := last_bounds HU.out hpn hlast
              clear hz4 hne
              cases all with
              | true =>
                have hcd : (true || k == 0) = true := by rfl
                have HXa := Hid.mk (heap_alloc_new wr (.cells #[.int .u64 (wd (M p) 0 : Int), .int .u64 (wd (M p) 1 : Int), .int .u64 (wd (M p) 2 : Int), .int .u64 (wd (M p) 3 : Int)] 68))
                have HZ := Hid.mk (bdString_any b b x z (wr.alloc (.cells #[.int .u64 (wd (M p) 0 : Int), .int .u64 (wd (M p) 1 : Int), .int .u64 (wd (M p) 2 : Int), .int .u64 (wd (M p) 3 : Int)] 68)) (HDg.out _) (by omega) (by have := (HBg.out (.cells #[.int .u64 (wd (M p) 0 : Int), .int .u64 (wd (M p) 1 : Int), .int .u64 (wd (M p) 2 : Int), .int .u64 (wd (M p) 3 : Int)] 68)).size; omega))
                go_wp2_with fail
                refine HZ.out.mono ?_
                rintro e4 w4 ⟨rfl, hd4, hb4, hk4⟩
                have HD4 := Hid.mk hd4
                have HQ4 : Hid (Pq w4 g s.size M) := kept_cells hk4 (HQg.out _) (by omega)
                have HB4 := Hid.mk ((HBg.out _).trans hb4)
                have hX4 := kept_cells hk4 HXa.out (by omega)
                have d0 : w4.cell? ⟨wr.heap.size, 0, none⟩ = some (.int .u64 (wd (M p) 0 : Int)) := by rw [cell_of_row w4 _ 0 _ _ (0, 0) hX4]; rfl
                have d1 : w4.cell? ⟨wr.heap.size, 1, none⟩ = some (.int .u64 (wd (M p) 1 : Int)) := by rw [cell_of_row w4 _ 1 _ _ (0, 0) hX4]; rfl
                have d2 : w4.cell? ⟨wr.heap.size, 2, none⟩ = some (.int .u64 (wd (M p) 2 : Int)) := by rw [cell_of_row w4 _ 2 _ _ (0, 0) hX4]; rfl
                have d3 : w4.cell? ⟨wr.heap.size, 3, none⟩ = some (.int .u64 (wd (M p) 3 : Int)) := by rw [cell_of_row w4 _ 3 _ _ (0, 0) hX4]; rfl
                have HLA := Hid.mk (last_any (M p) w4 (HTB.out.grow (B1.out.trans (HB4.out.mono (by omega)))))
                rw [hrow, hlast] at HLA
                simp only [Option.getD_some] at HLA
                clear hd4 hb4 hk4 hX4 HZ HDg HQg HBg HXa a0 a1 a2 a3 heq
                go_wp2_with fail
                refine HLA.out.mono ?_
                rintro e5 w5 ⟨rfl, hb5⟩
                have HD5 := Hid.mk (HD4.out.grow hb5)
                have HQ5 := Hid.mk (HQ4.out.grow hb5)
                have HB5 := Hid.mk (HB4.out.trans (hb5.mono (by have := HB4.out.size; omega)))
                clear hb5 HLA HD4 HQ4 HB4 d0 d1 d2 d3 hrow
                by_cases hpe : p < en
                · have hpei : ¬ (en : Int) ≤ (p : Int) := by omega
                  have HRn := Hid.mk ((rp_far s z true M p x k en hpn hcd hlast hpe).symm.trans HR.out)
                  clear hlast HR hcd
                  go_wp2
                  go_roundw
                  case rel => exact ⟨x ++ z, k + 1, en, p + 1, by go_num, rfl, by go_num, by omega, by have := HM.out; omega, by rw [show max (p + 1) en = en by omega, ByteArray.size_append]; omega, by rw [show max (p + 1) en = en by omega]; omega, by rw [show max (p + 1) en = en by omega]; exact HRn, HD5, HQ5, HB5⟩
                  case measure => simp [intOf]; omega
                · have hpei : (en : Int) ≤ (p : Int) := by omega
                  have HRn := Hid.mk ((rp_here s z true M p x k en hpn hcd hlast hpe).symm.trans HR.out)
                  have henm : en < m := by have := HM.out; omega
                  clear hlast HR hcd
                  have HW := Hid.mk (fun (y : ByteArray) (hy : y.size ≤ 1) => bdString_any b b (x ++ z) y w5 HD5.out (by rw [ByteArray.size_append]; omega) (by have := HB5.out.size; omega))
                  have h1s := one_le s p
                  by_cases hlt : p < s.size
                  · have hmin : min ((p : Int) + 1) (s.size : Int) = (p : Int) + 1 := by omega
                    have hpk : (p : Int) + 1 ≤ (s.size : Int) := by omega
                    go_wp2_with fail
                    refine (HW.out (s.extract p (p + 1)) h1s).mono ?_
                    rintro e4 w9 ⟨rfl, hd9, hb9, hk9⟩
                    have HD9 := Hid.mk hd9
                    have HQ9 : Hid (Pq w9 g s.size M) := kept_cells hk9 HQ5.out (by omega)
                    have HB9 := Hid.mk (HB5.out.trans hb9)
                    clear hd9 hb9 hk9 HW
                    go_wp2
                    go_roundw
                    case rel => exact ⟨x ++ z ++ s.extract p (p + 1), k + 1, en, p + 1, by go_num, rfl, by go_num, by omega, by omega, by rw [show max (p + 1) en = p + 1 by omega, ByteArray.size_append, ByteArray.size_append]; omega, by rw [show max (p + 1) en = p + 1 by omega]; omega, by rw [show max (p + 1) en = p + 1 by omega]; exact HRn, HD9, HQ9, HB9⟩
                    case measure => simp [intOf]; omega
                  · have hmin : min ((p : Int) + 1) (s.size : Int) = (s.size : Int) := by omega
                    have hpk : (p : Int) ≤ (s.size : Int) := by omega
                    have E0 : Hid (s.extract p s.size = s.extract p (p + 1)) := by show _ = _; rw [show p = s.size by omega, ext_same, ext_end]
                    go_wp2_with fail
                    refine (HW.out (s.extract p s.size) (by rw [E0.out]; exact h1s)).mono ?_
                    rintro e4 w9 ⟨rfl, hd9, hb9, hk9⟩
                    rw [E0.out] at hd9
                    have HD9 := Hid.mk hd9
                    have HQ9 : Hid (Pq w9 g s.size M) := kept_cells hk9 HQ5.out (by omega)
                    have HB9 := Hid.mk (HB5.out.trans hb9)
                    clear hd9 hb9 hk9 HW
                    go_wp2
                    go_roundw
                    case rel => exact ⟨x ++ z ++ s.extract p (p + 1), k + 1, en, p + 1, by go_num, rfl, by go_num, by omega, by omega, by rw [show max (p + 1) en = p + 1 by omega, ByteArray.size_append, ByteArray.size_append]; omega, by rw [show max (p + 1) en = p + 1 by omega]; omega, by rw [show max (p + 1) en = p + 1 by omega]; exact HRn, HD9, HQ9, HB9⟩
                    case measure => simp [intOf]; omega
              | false =>
                by_cases hk0 : k = 0
                · skip
                  have hcd : (false || k == 0) = true := by simp [hk0]
                  have hkq : ((k : Int) == 0) = true := by simp [hk0]
                  clear hk0
                  have HXa := Hid.mk (heap_alloc_new wr (.cells #[.int .u64 (wd (M p) 0 : Int), .int .u64 (wd (M p) 1 : Int), .int .u64 (wd (M p) 2 : Int), .int .u64 (wd (M p) 3 : Int)] 68))
                  have HZ := Hid.mk (bdString_any b b x z (wr.alloc (.cells #[.int .u64 (wd (M p) 0 : Int), .int .u64 (wd (M p) 1 : Int), .int .u64 (wd (M p) 2 : Int), .int .u64 (wd (M p) 3 : Int)] 68)) (HDg.out _) (by omega) (by have := (HBg.out (.cells #[.int .u64 (wd (M p) 0 : Int), .int .u64 (wd (M p) 1 : Int), .int .u64 (wd (M p) 2 : Int), .int .u64 (wd (M p) 3 : Int)] 68)).size; omega))
                  go_wp2_with fail
                  refine HZ.out.mono ?_
                  rintro e4 w4 ⟨rfl, hd4, hb4, hk4⟩
                  have HD4 := Hid.mk hd4
                  have HQ4 : Hid (Pq w4 g s.size M) := kept_cells hk4 (HQg.out _) (by omega)
                  have HB4 := Hid.mk ((HBg.out _).trans hb4)
                  have hX4 := kept_cells hk4 HXa.out (by omega)
                  have d0 : w4.cell? ⟨wr.heap.size, 0, none⟩ = some (.int .u64 (wd (M p) 0 : Int)) := by rw [cell_of_row w4 _ 0 _ _ (0, 0) hX4]; rfl
                  have d1 : w4.cell? ⟨wr.heap.size, 1, none⟩ = some (.int .u64 (wd (M p) 1 : Int)) := by rw [cell_of_row w4 _ 1 _ _ (0, 0) hX4]; rfl
                  have d2 : w4.cell? ⟨wr.heap.size, 2, none⟩ = some (.int .u64 (wd (M p) 2 : Int)) := by rw [cell_of_row w4 _ 2 _ _ (0, 0) hX4]; rfl
                  have d3 : w4.cell? ⟨wr.heap.size, 3, none⟩ = some (.int .u64 (wd (M p) 3 : Int)) := by rw [cell_of_row w4 _ 3 _ _ (0, 0) hX4]; rfl
                  have HLA := Hid.mk (last_any (M p) w4 (HTB.out.grow (B1.out.trans (HB4.out.mono (by omega)))))
                  rw [hrow, hlast] at HLA
                  simp only [Option.getD_some] at HLA
                  clear hd4 hb4 hk4 hX4 HZ HDg HQg HBg HXa a0 a1 a2 a3 heq
                  go_wp2_with fail
                  refine HLA.out.mono ?_
                  rintro e5 w5 ⟨rfl, hb5⟩
                  have HD5 := Hid.mk (HD4.out.grow hb5)
                  have HQ5 := Hid.mk (HQ4.out.grow hb5)
                  have HB5 := Hid.mk (HB4.out.trans (hb5.mono (by have := HB4.out.size; omega)))
                  clear hb5 HLA HD4 HQ4 HB4 d0 d1 d2 d3 hrow
                  by_cases hpe : p < en
                  · have hpei : ¬ (en : Int) ≤ (p : Int) := by omega
                    have HRn := Hid.mk ((rp_far s z false M p x k en hpn hcd hlast hpe).symm.trans HR.out)
                    clear hlast HR hcd
                    go_wp2
                    go_roundw
                    case rel => exact ⟨x ++ z, k + 1, en, p + 1, by go_num, rfl, by go_num, by omega, by have := HM.out; omega, by rw [show max (p + 1) en = en by omega, ByteArray.size_append]; omega, by rw [show max (p + 1) en = en by omega]; omega, by rw [show max (p + 1) en = en by omega]; exact HRn, HD5, HQ5, HB5⟩
                    case measure => simp [intOf]; omega
                  · have hpei : (en : Int) ≤ (p : Int) := by omega
                    have HRn := Hid.mk ((rp_here s z false M p x k en hpn hcd hlast hpe).symm.trans HR.out)
                    have henm : en < m := by have := HM.out; omega
                    clear hlast HR hcd
                    have HW := Hid.mk (fun (y : ByteArray) (hy : y.size ≤ 1) => bdString_any b b (x ++ z) y w5 HD5.out (by rw [ByteArray.size_append]; omega) (by have := HB5.out.size; omega))
                    have h1s := one_le s p
                    by_cases hlt : p < s.size
                    · have hmin : min ((p : Int) + 1) (s.size : Int) = (p : Int) + 1 := by omega
                      have hpk : (p : Int) + 1 ≤ (s.size : Int) := by omega
                      go_wp2_with fail
                      refine (HW.out (s.extract p (p + 1)) h1s).mono ?_
                      rintro e4 w9 ⟨rfl, hd9, hb9, hk9⟩
                      have HD9 := Hid.mk hd9
                      have HQ9 : Hid (Pq w9 g s.size M) := kept_cells hk9 HQ5.out (by omega)
                      have HB9 := Hid.mk (HB5.out.trans hb9)
                      clear hd9 hb9 hk9 HW
                      go_wp2
                      go_roundw
                      case rel => exact ⟨x ++ z ++ s.extract p (p + 1), k + 1, en, p + 1, by go_num, rfl, by go_num, by omega, by omega, by rw [show max (p + 1) en = p + 1 by omega, ByteArray.size_append, ByteArray.size_append]; omega, by rw [show max (p + 1) en = p + 1 by omega]; omega, by rw [show max (p + 1) en = p + 1 by omega]; exact HRn, HD9, HQ9, HB9⟩
                      case measure => simp [intOf]; omega
                    · have hmin : min ((p : Int) + 1) (s.size : Int) = (s.size : Int) := by omega
                      have hpk : (p : Int) ≤ (s.size : Int) := by omega
                      have E0 : Hid (s.extract p s.size = s.extract p (p + 1)) := by show _ = _; rw [show p = s.size by omega, ext_same, ext_end]
                      go_wp2_with fail
                      refine (HW.out (s.extract p s.size) (by rw [E0.out]; exact h1s)).mono ?_
                      rintro e4 w9 ⟨rfl, hd9, hb9, hk9⟩
                      rw [E0.out] at hd9
                      have HD9 := Hid.mk hd9
                      have HQ9 : Hid (Pq w9 g s.size M) := kept_cells hk9 HQ5.out (by omega)
                      have HB9 := Hid.mk (HB5.out.trans hb9)
                      clear hd9 hb9 hk9 HW
                      go_wp2
                      go_roundw
                      case rel => exact ⟨x ++ z ++ s.extract p (p + 1), k + 1, en, p + 1, by go_num, rfl, by go_num, by omega, by omega, by rw [show max (p + 1) en = p + 1 by omega, ByteArray.size_append, ByteArray.size_append]; omega, by rw [show max (p + 1) en = p + 1 by omega]; omega, by rw [show max (p + 1) en = p + 1 by omega]; exact HRn, HD9, HQ9, HB9⟩
                      case measure => simp [intOf]; omega
                · have hkq : ((k : Int) == 0) = false := by rw [beq_eq_false_iff_ne]; omega
                  have hcd : (false || k == 0) = false := by simp [hk0]
                  have HRn := Hid.mk ((rp_not s z false M p x k hpn hcd).symm.trans HR.out)
                  clear hcd HR hlast hrow
                  have HW := Hid.mk (fun (o : Obj) (y : ByteArray) (hy : y.size ≤ 1) => bdString_any b b (x) y (wr.alloc o) (HDg.out o) (by omega) (by have := (HBg.out o).size; omega))
                  have h1s := one_le s p
                  by_cases hlt : p < s.size
                  · have hmin : min ((p : Int) + 1) (s.size : Int) = (p : Int) + 1 := by omega
                    have hpk : (p : Int) + 1 ≤ (s.size : Int) := by omega
                    go_wp2_with fail
                    refine (HW.out _ (s.extract p (p + 1)) h1s).mono ?_
                    rintro e4 w9 ⟨rfl, hd9, hb9, hk9⟩
                    have HD9 := Hid.mk hd9
                    have HQ9 : Hid (Pq w9 g s.size M) := kept_cells hk9 (HQg.out _) (by omega)
                    have HB9 := Hid.mk ((HBg.out _).trans hb9)
                    clear hd9 hb9 hk9 HW
                    go_wp2
                    go_roundw
                    case rel => exact ⟨x ++ s.extract p (p + 1), k, q, p + 1, by go_num, rfl, by go_num, by omega, by omega, by rw [show max (p + 1) q = p + 1 by omega, ByteArray.size_append]; omega, by rw [show max (p + 1) q = p + 1 by omega]; omega, by rw [show max (p + 1) q = p + 1 by omega]; exact HRn, HD9, HQ9, HB9⟩
                    case measure => simp [intOf]; omega
                  · have hmin : min ((p : Int) + 1) (s.size : Int) = (s.size : Int) := by omega
                    have hpk : (p : Int) ≤ (s.size : Int) := by omega
                    have E0 : Hid (s.extract p s.size = s.extract p (p + 1)) := by show _ = _; rw [show p = s.size by omega, ext_same, ext_end]
                    go_wp2_with fail
                    refine (HW.out _ (s.extract p s.size) (by rw [E0.out]; exact h1s)).mono ?_
                    rintro e4 w9 ⟨rfl, hd9, hb9, hk9⟩
                    rw [E0.out] at hd9
                    have HD9 := Hid.mk hd9
                    have HQ9 : Hid (Pq w9 g s.size M) := kept_cells hk9 (HQg.out _) (by omega)
                    have HB9 := Hid.mk ((HBg.out _).trans hb9)
                    clear hd9 hb9 hk9 HW
                    go_wp2
                    go_roundw
                    case rel => exact ⟨x ++ s.extract p (p + 1), k, q, p + 1, by go_num, rfl, by go_num, by omega, by omega, by rw [show max (p + 1) q = p + 1 by omega, ByteArray.size_append]; omega, by rw [show max (p + 1) q = p + 1 by omega]; omega, by rw [show max (p + 1) q = p + 1 by omega]; exact HRn, HD9, HQ9, HB9⟩
                    case measure => simp [intOf]; omega
        · obtain rfl : p = m := by omega
          have hE := HR.out
          rw [rp_end s z all M _ x k (by have := HM.out; omega)] at hE
          subst hE
          have HT := Hid.mk (bdText_any b b x wr HD.out (by have := HB.out.size; omega))
          have HBw : Hid (Below w.heap.size w wr) := B1.out.trans (HB.out.mono (by omega))
          clear HD HQ HR
          go_wp2_with fail
          refine HT.out.mono ?_
          rintro e w4 ⟨rfl, hb4⟩
          have HB4 := Hid.mk (HBw.out.trans (hb4.mono (by omega)))
          clear hb4 HT
          go_wp2
          go_ret2
          exact ⟨rfl, HB4.out⟩
    · have hz0 : (200 : Int) < (z.size : Int) := by omega
      have hEE : F = (s, 0) := by rw [HE.out, if_neg (fun h => hzz h.2.2)]
      subst hEE
      clear HE HEE
      go_enter Tryd.func28, Tryd.ntmps28
      go_wp2_with fail
      refine (HCM.out _ A0).mono ?_
      rintro e w1 ⟨rfl, hb1⟩
      have B1 := Hid.mk (A0.trans (hb1.mono (by simp)))
      clear hb1 HCM
      go_wp2_with fail
      refine (HCL.out _).mono ?_
      rintro e w2 ⟨rfl, hb2⟩
      have B2 := Hid.mk (B1.out.trans (hb2.mono B1.out.size))
      clear hb2 HCL
      go_wp2
      go_ret2
      exact ⟨rfl, B2.out⟩
  · have hgo' : (decide (s.size ≤ 200) && ok) = false := by simpa using hgo
    rw [hgo'] at HCM
    have hEE : F = (s, 0) := by
      rw [HE.out, if_neg]
      rintro ⟨h1, h2, _⟩
      apply hgo
      rw [h1, decide_eq_true h2]
      rfl
    subst hEE
    clear HE HEE hgo hgo'
    go_enter Tryd.func28, Tryd.ntmps28
    go_wp2_with fail
    refine (HCM.out _ A0).mono ?_
    rintro e w1 ⟨rfl, hb1⟩
    have B1 := Hid.mk (A0.trans (hb1.mono (by simp)))
    clear hb1 HCM
    go_wp2_with fail
    refine (HCL.out _).mono ?_
    rintro e w2 ⟨rfl, hb2⟩
    have B2 := Hid.mk (B1.out.trans (hb2.mono B1.out.size))
    clear hb2 HCL
    go_wp2
    go_ret2
    exact ⟨rfl, B2.out⟩
end Go.Proofs.YtapniafhcagogaaDoor
