/- The law FnLexed walked: tokens that are joined come back. The law FnLex walked: of a drawn text all tokens are right, and are read again of their own text. -/
import Derived.Test.YtapcbblfcmdbnaaDoorPk2
import Derived.Test.YtapcbblfcmdbnaaDoorPk3
import Derived.Test.YtapcbblfcmdbnaaDoorPk1
import Derived.Laws.StructEq
namespace Go.Proofs.YtapcbblfcmdbnaaDoor
open Go.RowKit
set_option maxRecDepth 8000

theorem low_of {a b c : World} {cb : Nat} (hb : Below a.heap.size a b) (hg : b.grownBy c (some cb)) (hc : a.heap.size ≤ cb) : Below a.heap.size a c :=
  hb.trans ⟨hg.os, hg.tape, hg.output, hg.size, fun k hk => hg.block k (Nat.lt_of_lt_of_le hk hb.size) (fun e => by have := Option.some.inj e; omega)⟩

set_option maxHeartbeats 1000000 in
theorem drawJoinTokens_any (v : Value) (zs : List Int) (w : World) (h : Bs w v zs) (hlen : zs.length ≤ 1048576) :
    Calls Tryd.prog 7 #[v] w fun e w' => ∃ (u : Value) (L : List Tk), e = .returned u ∧ OwnK w' w.heap.size u L ∧ FitT L ∧ L.length ≤ 20 ∧ Below w.heap.size w w' := by
  have H := Hid.mk h
  obtain ⟨_, ao, cap, rfl, -⟩ := h
  go_enter Tryd.func7, Tryd.ntmps7
  go_wp2_with fail
  refine (l1New_any _ zs w H.out hlen).mono ?_
  rintro e w1 ⟨rfl, hC1, hb1⟩
  have C1 := Hid.mk hC1
  have B1 := Hid.mk hb1
  clear hC1 hb1 H
  go_wp2_with fail
  refine (l7Tokens_any w.heap.size _ zs 10 w1 C1.out (by omega)).mono ?_
  rintro e w2 ⟨u, L, rfl, hO, hF, hl, -, hg2⟩
  obtain ⟨va, vc, hv, -⟩ := hO.lenV
  subst hv
  have B2 := Hid.mk (low_of B1.out hg2 (Nat.le_refl _))
  have O2 := Hid.mk (hO.mono B1.out.size)
  have F2 := Hid.mk hF
  clear hO hF hg2 C1 B1
  go_wp2
  go_ret
  exact ⟨_, L, rfl, O2.out, F2.out, by omega, B2.out⟩

set_option maxHeartbeats 1000000 in
theorem sameTok_any (N : List Tk) (v u : Value) (w : World) (h : Tl w N v) (h' : Tl w N u) :
    Calls Tryd.prog 12 #[v, u] w fun e w' => e = .returned (.bool true) ∧ Below w.heap.size w w' := by
  obtain ⟨ao, cap, rfl, hl, hm, -, -, hc⟩ := h
  obtain ⟨ao', cap', rfl, hl', hm', -, -, hc'⟩ := h'
  unfold maxLen at hm hm'
  have HC := Hid.mk hc
  have HC' := Hid.mk hc'
  clear hc hc'
  have hll : ((N.length : Int) != (N.length : Int)) = false := by simp
  go_enter Tryd.func12, Tryd.ntmps12
  go_wp2
  go_loopw [5] (fun i wr => ∃ (k : Nat), k ≤ N.length ∧ i = .int .i64 k ∧ Hid (Below w.heap.size w wr)) (fun i _ => N.length - (intOf i).toNat)
  case atStart => exact ⟨0, Nat.zero_le _, rfl, Below.refl _ _⟩
  case round =>
    obtain ⟨k, hk, rfl, HB⟩ := hrel
    by_cases hkl : k < N.length
    · obtain ⟨b, off, rfl, hcell⟩ := HC.out (by intro h0; rw [h0] at hkl; simp at hkl)
      obtain ⟨b', off', rfl, hcell'⟩ := HC'.out (by intro h0; rw [h0] at hkl; simp at hkl)
      have h4 := hcell k hkl
      have h4' := hcell' k hkl
      obtain ⟨c0, c1, c2⟩ := h4.kept (w' := wr) (HB.out.block b (World.block_lt_of_cell? w _ h4.1))
      obtain ⟨d0, d1, d2⟩ := h4'.kept (w' := wr) (HB.out.block b' (World.block_lt_of_cell? w _ h4'.1))
      generalize N[k] = x at c0 c1 c2 d0 d1 d2
      obtain ⟨xk, xn, xs⟩ := x
      simp only at c0 c1 c2 d0 d1 d2
      have a0 := cell_regrown c0
      have a1 := cell_regrown c1
      have a2 := cell_regrown c2
      have b0 := cell_regrown d0
      have b1 := cell_regrown d1
      have b2 := cell_regrown d2
      have hki : (k : Int) < (N.length : Int) := by omega
      have g1 : (xk == xk) = true := by simp
      have g2 : (xn == xn) = true := by simp
      have g3 : (xs.toList == xs.toList) = true := by simp
      clear hcell h4 hcell' h4' c0 c1 c2 d0 d1 d2
      go_wp2_with fail
      refine wp_region_quiet_below (by kernel_rfl) (by kernel_rfl) ?_
      quiet_step (fail)
      quiet_step (fail)
      quiet_step (fail)
      quiet_step (fail)
      quiet_step (fail)
      quiet_step (fail)
      quiet_step (fail)
      quiet_step (fail)
      quiet_step (fail)
      refine wpQuiet_nil ?_
      intro w6 hw'
      obtain ⟨⟨dq, osq⟩, hw''⟩ := hw'
      have hb6 : Below wr.heap.size wr w6 := by rw [hw'']; exact below_regrown _ _ _
      have HB2 := Hid.mk (HB.out.trans (hb6.mono HB.out.size))
      clear hw'' a0 a1 a2 b0 b1 b2 hb6 HB
      go_wp2
      go_roundw
      case rel => exact ⟨k + 1, by omega, by go_num, HB2⟩
      case measure => simp [intOf]; omega
    · go_wp2
      go_ret
      exact ⟨rfl, HB.out⟩

theorem szTk_le (L : List Tk) (m : Nat) (h : ∀ t ∈ L, t.s.size ≤ m) : szTk L ≤ m * L.length := by
  unfold szTk
  induction L with
  | nil => simp
  | cons t r ih =>
    have h1 := h t (List.mem_cons_self ..)
    have h2 := ih (fun x hx => h x (List.mem_cons_of_mem _ hx))
    simp only [List.map_cons, List.sum_cons, List.length_cons, Nat.mul_add, Nat.mul_one]
    omega
theorem join_sz (L : List Tk) (m : Nat) (h : ∀ t ∈ L, t.s.size ≤ m) : (jnT (tkTs L) L.length).size ≤ (m + 22) * L.length := by
  have h1 := jnT_size (tkTs L) L.length (by rw [tkTs_len]; exact Nat.le_refl _)
  have h2 := tkTs_sz L
  have h3 := szTk_le L m h
  have h4 : (tkTs L).take L.length = tkTs L := List.take_of_length_le (by rw [tkTs_len]; exact Nat.le_refl _)
  rw [h4] at h1
  have h5 : (m + 22) * L.length = m * L.length + 22 * L.length := Nat.add_mul ..
  omega

set_option maxHeartbeats 2000000 in
theorem fnLexed_walk (v : Value) (zs : List Int) (w : World) (h : Bs w v zs) (ht : Tab w) (he : ErrR w) :
    Calls Tryd.prog 3 #[v] w fun e w' => e = .returned (.bool true) ∧ Below w.heap.size w w' := by
  have HG := Hid.mk (big_any v zs w h)
  have HTB := Hid.mk (fun W (hb : Below w.heap.size w W) => ht.grow hb)
  have HER := Hid.mk (fun W (hb : Below w.heap.size w W) => he.grow hb)
  by_cases hlen : zs.length ≤ 1048576
  rotate_left
  · have hb : decide ((1048576 : Int) < zs.length) = true := by simp; omega
    rw [hb] at HG
    obtain ⟨_, ao, cap, rfl, -⟩ := h
    clear hb ht he HTB HER hlen
    go_enter Tryd.func3, Tryd.ntmps3
    go_wp2_with fail
    refine HG.out.mono ?_
    rintro e w' ⟨rfl, hw⟩
    obtain rfl := hw.symm
    go_wp2
    go_ret
    exact ⟨rfl, Below.refl _ _⟩
  have hb : decide ((1048576 : Int) < zs.length) = false := by simp; omega
  rw [hb] at HG
  have HD := Hid.mk (drawJoinTokens_any v zs w h hlen)
  obtain ⟨_, ao, cap, rfl, -⟩ := h
  clear hb ht he hlen
  go_enter Tryd.func3, Tryd.ntmps3
  go_wp2_with fail
  refine HG.out.mono ?_
  rintro e w' ⟨rfl, hw⟩
  obtain rfl := hw.symm
  clear hw HG
  go_wp2_with fail
  refine HD.out.mono ?_
  rintro e w1 ⟨u1, L, rfl, hO1, hF, hL, hb1⟩
  have hsz : ∀ t ∈ L, t.s.size ≤ maxLen := fun t ht => Nat.le_trans (hF.2.1 t ht) (by unfold maxLen; omega)
  have T1 := Hid.mk (hO1.tl hsz)
  have hjs := join_sz L 8 hF.2.1
  have hts := szTk_le L 8 hF.2.1
  have HBK := Hid.mk (lex_back L hF.1 (by omega) (fun t ht => tkTx_pos (by obtain ⟨i, hi, rfl⟩ := List.getElem_of_mem ht; exact (hF.1 i hi).1)))
  have HOK : Hid (∀ i (hi : i < L.length), tokB L[i].k L[i].n L[i].s = true ∧ 1 ≤ (tkT L[i].k L[i].n L[i].s).size ∧ L[i].s.size ≤ maxLen) := fun i hi => ⟨(hF.1 i hi).1, tkTx_pos (hF.1 i hi).1, hsz _ (List.getElem_mem hi)⟩
  have HSZ := Hid.mk hsz
  have B1 := Hid.mk hb1
  obtain ⟨va, vc, hv, hvc⟩ := hO1.lenV
  subst hv
  have HJ := Hid.mk (fun (w' : World) (h : Tl w' L (.slice va L.length vc)) (ht : Tab w') => implJoinTokens_any L _ w' h (by omega) ht)
  have HL := Hid.mk (fun (w' : World) (ht : Tab w') (he : ErrR w') => implLex_any (jnT (tkTs L) L.length) w' (by omega) ht he)
  rw [HBK.out] at HL
  generalize jnT (tkTs L) L.length = S at *
  have hvcm : vc ≤ 9223372036854775807 := by
    obtain ⟨_, cap', e, _, hm, _⟩ := T1.out
    have := (Value.slice.inj e).2.2
    unfold maxLen at hm
    omega
  clear hO1 hb1 hF hsz hjs hts HD HBK
  go_wp2_with fail
  refine (HJ.out _ T1.out (HTB.out _ B1.out)).mono ?_
  rintro e w2 ⟨rfl, hb2⟩
  have B2 := Hid.mk (B1.out.trans (hb2.mono B1.out.size))
  have T2 := Hid.mk (T1.out.grow hb2)
  clear hb2 B1 T1 HJ
  go_wp2_with fail
  refine (HL.out _ (HTB.out _ B2.out) (HER.out _ B2.out)).mono ?_
  rintro e w3 ⟨u3, rfl, hO3, hb3⟩
  have X3 := Hid.mk (hO3.tl HSZ.out)
  have B3 := Hid.mk (B2.out.trans (hb3.mono B2.out.size))
  have T3 := Hid.mk (T2.out.grow hb3)
  obtain ⟨va3, vc3, hv3, -⟩ := hO3.lenV
  subst hv3
  have W3 : Hid (Below w3.heap.size w3 w3) := Below.refl _ _
  clear hb3 hO3 B2 T2 HL
  go_wp2
  go_loopw [6] (fun i wr => ∃ (k : Nat), k ≤ L.length ∧ i = .int .i64 k ∧ Hid (Below w3.heap.size w3 wr)) (fun i _ => L.length - (intOf i).toNat)
  case atStart => exact ⟨0, Nat.zero_le _, rfl, W3⟩
  case round =>
    obtain ⟨k, hk, rfl, HB⟩ := hrel
    clear W3
    by_cases hkl : k < L.length
    · obtain ⟨ao, cp, he, -, -, -, -, hc⟩ := T3.out
      obtain ⟨b, off, hao, hcell⟩ := hc (by intro h0; rw [h0] at hkl; simp at hkl)
      obtain rfl : va = some ⟨b, off, none⟩ := (Value.slice.inj he).1.trans hao
      have h4 := hcell k hkl
      obtain ⟨k1, k2, k3⟩ := HOK.out k hkl
      obtain ⟨c0, c1, c2⟩ := h4.kept (w' := wr) (HB.out.block b (World.block_lt_of_cell? w3 _ h4.1))
      generalize L[k] = x at c0 c1 c2 k1 k2 k3
      obtain ⟨xk, xn, xs⟩ := x
      simp only at c0 c1 c2 k1 k2 k3
      have HTO := Hid.mk (implTokenOk_any xk xn xs wr k3)
      have HTT := Hid.mk (fun w' ht => implTokenText_any xk xn xs w' k3 ht)
      rw [k1] at HTO
      have hne : (tkT xk xn xs).toList.isEmpty = false := by
        rcases sEmp (tkT xk xn xs) with ⟨-, h0⟩ | ⟨h0, -⟩
        · omega
        · exact h0
      generalize tkT xk xn xs = tx at HTT hne k2
      have hki : (k : Int) < (L.length : Int) := by omega
      have hbl := World.block_lt_of_cell? wr _ c0
      clear h4 hcell he hc k1 k2 k3
      go_wp2_with fail
      refine HTO.out.mono ?_
      rintro e w4 ⟨rfl, hb4⟩
      have e0 := (hb4.cell (p := ⟨b, off + k * 3, none⟩) hbl).trans c0
      have e1 := (hb4.cell (p := ⟨b, off + k * 3 + 1, none⟩) hbl).trans c1
      have e2 := (hb4.cell (p := ⟨b, off + k * 3 + 2, none⟩) hbl).trans c2
      have HB4 := Hid.mk (HB.out.trans (hb4.mono HB.out.size))
      have HTB4 := Hid.mk (HTB.out _ (B3.out.trans (HB4.out.mono B3.out.size)))
      clear hb4 HTO HB c0 c1 c2
      go_wp2_with fail
      refine (HTT.out _ HTB4.out).mono ?_
      rintro e w5 ⟨rfl, hb5⟩
      have HB5 := Hid.mk (HB4.out.trans (hb5.mono HB4.out.size))
      clear hb5 HTT HB4 HTB4 e0 e1 e2
      go_wp2
      go_roundw
      case rel => exact ⟨k + 1, by omega, by go_num, HB5⟩
      case measure => simp [intOf]; omega
    · have HS := Hid.mk (sameTok_any L _ _ wr (X3.out.grow HB.out) (T3.out.grow HB.out))
      have BB := Hid.mk (B3.out.trans (HB.out.mono B3.out.size))
      have hki : ¬ (k : Int) < (L.length : Int) := by omega
      clear HB X3 T3 B3
      go_wp2_with fail
      refine HS.out.mono ?_
      rintro e w6 ⟨rfl, hb6⟩
      have BC := Hid.mk (BB.out.trans (hb6.mono BB.out.size))
      clear hb6 HS BB
      go_wp2
      go_ret
      exact ⟨rfl, BC.out⟩
end Go.Proofs.YtapcbblfcmdbnaaDoor

namespace Go.Proofs.YtapcbblfcmdbnaaDoor
open Go.RowKit
set_option maxRecDepth 8000

theorem lowSz {y : ByteArray} {L : List ByteArray} {n : Nat} (hL : L.all (fun y => decide (y.size ≤ n)) = true) (h : y ∈ L) : y.size ≤ n := by
  simpa using List.all_eq_true.1 hL y h
theorem lexF_place (s : ByteArray) : ∀ (f p : Nat) (L : List Tk), p ≤ s.size → s.size < f + p → ((lexF s f p L).2 = -1 ∨ ((lexF s f p L).1 = [] ∧ 0 ≤ (lexF s f p L).2 ∧ (lexF s f p L).2 < s.size))
  | 0, p, L, hp, hf => by omega
  | f + 1, p, L, hp, hf => by
    unfold lexF
    split
    · rename_i h
      split
      · obtain ⟨h1, h2⟩ := oneT_gt s p (tiL L) h
        obtain ⟨h3, h4⟩ := pas_bd s _ h2
        exact lexF_place s f _ _ h4 (by omega)
      · exact .inr ⟨rfl, by simp, by simp; omega⟩
    · exact .inl rfl
theorem lexT_place (s : ByteArray) : (lexT s).2 = -1 ∨ ((lexT s).1 = [] ∧ 0 ≤ (lexT s).2 ∧ (lexT s).2 < s.size) := by
  obtain ⟨-, h2⟩ := pas_bd s 0 (Nat.zero_le _)
  exact lexF_place s _ _ [] h2 (by omega)

set_option maxHeartbeats 2000000 in
theorem drawLex_any (v : Value) (zs : List Int) (w : World) (h : Bs w v zs) (hlen : zs.length ≤ 1048576) :
    Calls Tryd.prog 13 #[v] w fun e w' => ∃ s : ByteArray, e = .returned (.string s) ∧ s.size ≤ 3000 ∧ Below w.heap.size w w' := by
  have H := Hid.mk h
  obtain ⟨_, ao, cap, rfl, -⟩ := h
  go_enter Tryd.func13, Tryd.ntmps13
  go_wp2_with fail
  refine (l1New_any _ zs w H.out hlen).mono ?_
  rintro e w1 ⟨rfl, hC1, hb1⟩
  have C1 := Hid.mk hC1
  have B1 := Hid.mk hb1
  clear hC1 hb1 H
  go_wp2_with fail
  refine (l7Tokens_any w.heap.size _ zs 8 w1 C1.out (by omega)).mono ?_
  rintro e w2 ⟨u, L, rfl, hO, hF, hl, hC2, hg2⟩
  obtain ⟨va, vc, hv, -⟩ := hO.lenV
  subst hv
  have hs1 := join_sz L 8 hF.2.1
  have hs2 := szTk_le L 8 hF.2.1
  have HJ := Hid.mk (specJoinTokens_any L _ w2 (hO.tl (fun t ht => Nat.le_trans (hF.2.1 t ht) (by unfold maxLen; omega))) (by omega))
  have C2 := Hid.mk hC2
  have B2 := Hid.mk (low_of B1.out hg2 (Nat.le_refl _))
  generalize jnT (tkTs L) L.length = S at *
  have hS : S.size ≤ 480 := by omega
  clear hO hF hg2 hC2 C1 B1 hs1 hs2
  go_wp2_with fail
  refine HJ.out.mono ?_
  rintro e w3 ⟨rfl, hb3⟩
  have C3 := Hid.mk (C2.out.grow hb3)
  have B3 := Hid.mk (B2.out.trans (hb3.mono B2.out.size))
  clear hb3 C2 B2 HJ
  go_wp2_with fail
  refine (l1Below_any _ _ zs 4 _ C3.out).mono ?_
  rintro e w4 ⟨x, rfl, hx0, hx4, -, hC4, hg4⟩
  have hx := hx4 (by omega)
  have C4 := Hid.mk hC4
  have B4 := Hid.mk (low_of B3.out hg4 (Nat.le_refl _))
  have hcl := hC4.lt
  clear hC4 hg4 hx4 C3 B3
  have A4 : ∀ o, Below w4.heap.size w4 (w4.alloc o) := fun o => (Below.refl _ _).alloc (Nat.le_refl _) _
  by_cases h0 : x = 0
  · subst h0
    go_wp2_with fail
    refine (l1Str_any w.heap.size w4.heap.size 17 _ zs [⟨#[32, 48, 49]⟩, ⟨#[255]⟩, ⟨#[32, 39, 97]⟩, ⟨#[32, 65]⟩, ⟨#[32, 35, 32, 101, 110, 100, 10, 32, 120]⟩, ⟨#[35]⟩, ⟨#[126, 47, 97]⟩, ⟨#[126, 47, 97, 47]⟩, ⟨#[32, 50, 49, 52, 55, 52, 56, 51, 54, 52, 56]⟩, ⟨#[32, 57, 57, 57, 57, 57, 57, 57, 57, 57, 57, 57]⟩, ⟨#[97, 38, 98]⟩, ⟨#[120, 57]⟩, ⟨#[32, 110, 105, 110, 101, 98, 121, 116, 101, 115]⟩, ⟨#[9, 13, 10]⟩, ⟨#[33, 61, 61]⟩, ⟨#[49, 97]⟩, ⟨#[39, 39]⟩] _ (C4.out.grow (A4 _)) rfl (by omega) (by omega) (heap_alloc_new w4 _) (by omega)).mono ?_
    rintro e w5 ⟨y, rfl, hy, hC5, hg5⟩
    have hy1 : y.size ≤ 12 := lowSz (by decide +kernel) hy
    have B5 := Hid.mk (low_of (B4.out.trans ((A4 _).mono B4.out.size)) hg5 (Nat.le_refl _))
    have C5 := Hid.mk hC5
    have e4 : ¬ 9223372036854775807 < S.size + y.size := by omega
    have hz5 : (S ++ y).size ≤ 500 := by rw [ByteArray.size_append]; omega
    clear hC5 hg5 hy C4 B4 A4
    go_wp2_with fail
    refine (l1Once_any _ _ zs 300 _ C5.out).mono ?_
    rintro e w6 ⟨b, rfl, hC6, hg6⟩
    have C6 := Hid.mk hC6
    have B6 := Hid.mk (low_of B5.out hg6 (Nat.le_refl _))
    clear hC6 hg6 C5 B5
    cases b with
    | false =>
      go_wp2
      go_ret
      exact ⟨_, rfl, Nat.le_trans hz5 (by omega), B6.out⟩
    | true =>
      go_wp2
      go_loopw [4, 5] (fun q i wr => ∃ (y : ByteArray) (k : Nat), q = .string y ∧ i = .int .i64 (k : Int) ∧ y.size ≤ k ∧ k ≤ 2001 ∧ Hid (Cur wr w.heap.size (.slice ao zs.length cap) zs) ∧ Hid (Below w.heap.size w wr)) (fun _ i _ => 2002 - (intOf i).toNat)
      case atStart => exact ⟨⟨#[]⟩, 0, rfl, rfl, Nat.le_refl _, by omega, C6, B6⟩
      case round =>
        obtain ⟨y, k, rfl, rfl, hy, hk, HC, HB⟩ := hrel
        clear C6 B6
        go_wp2_with fail
        refine (l1Below_any _ _ zs 2 _ HC.out).mono ?_
        rintro e w7 ⟨x7, rfl, hx70, hx72, -, hC7, hg7⟩
        have hx7 := hx72 (by omega)
        have C7 := Hid.mk hC7
        have B7 := Hid.mk (low_of HB.out hg7 (Nat.le_refl _))
        clear hC7 hg7 hx72 HC HB
        by_cases hlt : (k : Int) < 2000 + x7
        · have e7 : ¬ 9223372036854775807 < y.size + 1 := by omega
          go_wp2
          go_roundw
          case rel => exact ⟨y ++ ⟨#[59]⟩, k + 1, rfl, by go_num, by rw [ByteArray.size_append]; have e : (ByteArray.mk #[59]).size = 1 := rfl; omega, by omega, C7, B7⟩
          case measure => simp [intOf]; omega
        · go_wp2
          go_ret
          exact ⟨y, rfl, by omega, B7.out⟩
  · have e0 : (x == 0) = false := beq_false_of_ne h0
    by_cases h1 : x = 1
    · subst h1
      go_wp2_with fail
      refine (l1Str_any w.heap.size w4.heap.size 4 _ zs [⟨#[123, 112, 114, 105, 110, 116, 32, 36, 49, 59, 125]⟩, ⟨#[97, 35, 32, 98, 10, 99]⟩, ⟨#[49, 47, 50]⟩, ⟨#[40, 120, 32, 126, 32, 47, 98, 47, 41]⟩] _ (C4.out.grow (A4 _)) rfl (by omega) (by omega) (heap_alloc_new w4 _) (by omega)).mono ?_
      rintro e w5 ⟨S5, rfl, hy, hC5, hg5⟩
      have hz5 : S5.size ≤ 500 := Nat.le_trans (lowSz (n := 12) (by decide +kernel) hy) (by omega)
      have B5 := Hid.mk (low_of (B4.out.trans ((A4 _).mono B4.out.size)) hg5 (Nat.le_refl _))
      have C5 := Hid.mk hC5
      clear hC5 hg5 hy C4 B4 A4 h0
      go_wp2_with fail
      refine (l1Once_any _ _ zs 300 _ C5.out).mono ?_
      rintro e w6 ⟨b, rfl, hC6, hg6⟩
      have C6 := Hid.mk hC6
      have B6 := Hid.mk (low_of B5.out hg6 (Nat.le_refl _))
      clear hC6 hg6 C5 B5
      cases b with
      | false =>
        go_wp2
        go_ret
        exact ⟨_, rfl, Nat.le_trans hz5 (by omega), B6.out⟩
      | true =>
        go_wp2
        go_loopw [4, 5] (fun q i wr => ∃ (y : ByteArray) (k : Nat), q = .string y ∧ i = .int .i64 (k : Int) ∧ y.size ≤ k ∧ k ≤ 2001 ∧ Hid (Cur wr w.heap.size (.slice ao zs.length cap) zs) ∧ Hid (Below w.heap.size w wr)) (fun _ i _ => 2002 - (intOf i).toNat)
        case atStart => exact ⟨⟨#[]⟩, 0, rfl, rfl, Nat.le_refl _, by omega, C6, B6⟩
        case round =>
          obtain ⟨y, k, rfl, rfl, hy, hk, HC, HB⟩ := hrel
          clear C6 B6
          go_wp2_with fail
          refine (l1Below_any _ _ zs 2 _ HC.out).mono ?_
          rintro e w7 ⟨x7, rfl, hx70, hx72, -, hC7, hg7⟩
          have hx7 := hx72 (by omega)
          have C7 := Hid.mk hC7
          have B7 := Hid.mk (low_of HB.out hg7 (Nat.le_refl _))
          clear hC7 hg7 hx72 HC HB
          by_cases hlt : (k : Int) < 2000 + x7
          · have e7 : ¬ 9223372036854775807 < y.size + 1 := by omega
            go_wp2
            go_roundw
            case rel => exact ⟨y ++ ⟨#[59]⟩, k + 1, rfl, by go_num, by rw [ByteArray.size_append]; have e : (ByteArray.mk #[59]).size = 1 := rfl; omega, by omega, C7, B7⟩
            case measure => simp [intOf]; omega
          · go_wp2
            go_ret
            exact ⟨y, rfl, by omega, B7.out⟩
    · have e1 : (x == 1) = false := beq_false_of_ne h1
      have C5 := C4
      have B5 := B4
      have hz5 : S.size ≤ 500 := by omega
      obtain ⟨S5, hS5⟩ : ∃ S5, S = S5 := ⟨_, rfl⟩
      rw [hS5] at hz5 ⊢
      clear h0 h1 hS5 C4 B4 A4
      go_wp2_with fail
      refine (l1Once_any _ _ zs 300 _ C5.out).mono ?_
      rintro e w6 ⟨b, rfl, hC6, hg6⟩
      have C6 := Hid.mk hC6
      have B6 := Hid.mk (low_of B5.out hg6 (Nat.le_refl _))
      clear hC6 hg6 C5 B5
      cases b with
      | false =>
        go_wp2
        go_ret
        exact ⟨_, rfl, Nat.le_trans hz5 (by omega), B6.out⟩
      | true =>
        go_wp2
        go_loopw [4, 5] (fun q i wr => ∃ (y : ByteArray) (k : Nat), q = .string y ∧ i = .int .i64 (k : Int) ∧ y.size ≤ k ∧ k ≤ 2001 ∧ Hid (Cur wr w.heap.size (.slice ao zs.length cap) zs) ∧ Hid (Below w.heap.size w wr)) (fun _ i _ => 2002 - (intOf i).toNat)
        case atStart => exact ⟨⟨#[]⟩, 0, rfl, rfl, Nat.le_refl _, by omega, C6, B6⟩
        case round =>
          obtain ⟨y, k, rfl, rfl, hy, hk, HC, HB⟩ := hrel
          clear C6 B6
          go_wp2_with fail
          refine (l1Below_any _ _ zs 2 _ HC.out).mono ?_
          rintro e w7 ⟨x7, rfl, hx70, hx72, -, hC7, hg7⟩
          have hx7 := hx72 (by omega)
          have C7 := Hid.mk hC7
          have B7 := Hid.mk (low_of HB.out hg7 (Nat.le_refl _))
          clear hC7 hg7 hx72 HC HB
          by_cases hlt : (k : Int) < 2000 + x7
          · have e7 : ¬ 9223372036854775807 < y.size + 1 := by omega
            go_wp2
            go_roundw
            case rel => exact ⟨y ++ ⟨#[59]⟩, k + 1, rfl, by go_num, by rw [ByteArray.size_append]; have e : (ByteArray.mk #[59]).size = 1 := rfl; omega, by omega, C7, B7⟩
            case measure => simp [intOf]; omega
          · go_wp2
            go_ret
            exact ⟨y, rfl, by omega, B7.out⟩

set_option maxHeartbeats 2000000 in
theorem l7Bent_any (cb : Nat) (v : Value) (zs : List Int) (w : World) (h : Cur w cb v zs) :
    Calls Tryd.prog 39 #[.pointer (some ⟨cb, 0, none⟩)] w fun e w' => ∃ t : Tk, e = .returned (tkV t) ∧ t.s.size ≤ 8 ∧ w.grownBy w' (some cb) := by
  have A0 : Below w.heap.size w (w.alloc (.cells #[.int .i64 0, .int .i64 0, .string ⟨#[]⟩] 31)) := (Below.refl _ _).alloc (Nat.le_refl _) _
  have hlt := h.lt
  have C0 := Hid.mk (h.grow A0)
  have G0 := Hid.mk (World.grownBy_alloc w (.cells #[.int .i64 0, .int .i64 0, .string ⟨#[]⟩] 31) (some cb))
  clear h A0
  go_enter Tryd.func39, Tryd.ntmps39
  go_wp2_with fail
  refine (l7Token_any cb v zs _ C0.out).mono ?_
  rintro e w1 ⟨⟨tk, tn, ts⟩, rfl, hd, hC1, hg1⟩
  have hts : ts.size ≤ 8 := by unfold drB at hd; simp only [Bool.and_eq_true, decide_eq_true_eq] at hd; exact hd.2
  have hs1 := hg1.size
  simp at hs1
  have X1 := Hid.mk (BxK.kept (w := w.alloc (.cells #[.int .i64 0, .int .i64 0, .string ⟨#[]⟩] 31)) (heap_alloc_new w _) (hg1.block w.heap.size (by simp) (fun e => by have := Option.some.inj e; omega)))
  have AA : Below w1.heap.size w1 (w1.alloc (.cells #[.int .i64 tk, .int .i64 tn, .string ts] 31)) := (Below.refl _ _).alloc (Nat.le_refl _) _
  have C2 := Hid.mk (hC1.grow AA)
  have G2 := Hid.mk (gyNew (grownBy_trans G0.out hg1) (.cells #[.int .i64 tk, .int .i64 tn, .string ts] 31))
  have X2 := Hid.mk (X1.out.kept (AA.block w.heap.size hs1))
  have Y2 : Hid (BxK (w1.alloc (.cells #[.int .i64 tk, .int .i64 tn, .string ts] 31)) w1.heap.size tk tn ts) := heap_alloc_new w1 _
  clear hC1 hg1 hd C0 G0 X1 AA
  go_wp2_with fail
  refine (l1Below_any cb v zs 5 _ C2.out).mono ?_
  rintro e w3 ⟨x, rfl, hx0, hx5, -, hC3, hg3⟩
  have hx := hx5 (by omega)
  have C3 := Hid.mk hC3
  have hcl := C2.out.lt
  have X3 := Hid.mk (X2.out.kept (hg3.block w.heap.size X2.out.lt (fun e => by have := Option.some.inj e; omega)))
  have Y3 := Hid.mk (Y2.out.kept (hg3.block w1.heap.size Y2.out.lt (fun e => by have := Option.some.inj e; omega)))
  have G3 := Hid.mk (grownBy_trans G2.out hg3)
  obtain ⟨g, hg⟩ : ∃ g, w1.heap.size = g := ⟨_, rfl⟩
  have hgw : w.heap.size < g := by omega
  rw [hg] at Y3 ⊢
  clear hC3 hg3 hx5 C2 G2 X2 Y2 hg
  by_cases h0 : x = 0
  · subst h0
    have A3 : ∀ o, Below w3.heap.size w3 (w3.alloc o) := fun o => (Below.refl _ _).alloc (Nat.le_refl _) _
    have hcl3 := C3.out.lt
    have hxl := X3.out.lt
    have hyl := Y3.out.lt
    go_wp2_with fail
    refine (l1Int_any cb w3.heap.size 3 v zs [-1, 2147483648, 3] _ (C3.out.grow (A3 _)) rfl (by omega) (by omega) (heap_alloc_new w3 _) (by omega)).mono ?_
    rintro e w4 ⟨y, rfl, -, -, hg4⟩
    have hz : ts.size ≤ 8 := hts
    have X4 := Hid.mk (X3.out.kept ((hg4.block w.heap.size (by simp; omega) (fun e => by have := Option.some.inj e; omega)).trans ((A3 _).block w.heap.size hxl)))
    have Y4 := Hid.mk (Y3.out.kept ((hg4.block g (by simp; omega) (fun e => by have := Option.some.inj e; omega)).trans ((A3 _).block g hyl)))
    have G4 := Hid.mk (grownBy_trans (gyNew G3.out _) hg4)
    have y0 := Y4.out.c0
    have y1 := Y4.out.c1
    have y2 := Y4.out.c2
    have yf0 := Y4.out.fr 0
    have yf1 := Y4.out.fr 1
    have yf2 := Y4.out.fr 2
    have x0 := X4.out.c0
    have x1 := X4.out.c1
    have x2 := X4.out.c2
    have xf0 := X4.out.fr 0
    have xf1 := X4.out.fr 1
    have xf2 := X4.out.fr 2
    clear hg4 G3 C3 X3 Y3 A3
    go_wp2
    have q : Below w.heap.size w4 ((((w4.setCell ⟨g, 1, none⟩ (.int .i64 y)).setCell ⟨w.heap.size, 0, none⟩ (.int .i64 tk)).setCell ⟨w.heap.size, 1, none⟩ (.int .i64 y)).setCell ⟨w.heap.size, 2, none⟩ (.string ts)) := ((((Below.refl w.heap.size w4).setCell (p := ⟨g, 1, none⟩) (Nat.le_of_lt hgw) _).setCell (p := ⟨w.heap.size, 0, none⟩) (Nat.le_refl w.heap.size) _).setCell (p := ⟨w.heap.size, 1, none⟩) (Nat.le_refl w.heap.size) _).setCell (p := ⟨w.heap.size, 2, none⟩) (Nat.le_refl w.heap.size) _
    refine bodyPost_ret (v := tkV ⟨tk, y, ts⟩) (by simp [results, Tryd.results39, go_sem, x0, x1, x2]) rfl ⟨⟨tk, y, ts⟩, rfl, hz, grownBy_below G4.out q (Nat.le_refl _)⟩
  by_cases h1 : x = 1
  · subst h1
    have A3 : ∀ o, Below w3.heap.size w3 (w3.alloc o) := fun o => (Below.refl _ _).alloc (Nat.le_refl _) _
    have hcl3 := C3.out.lt
    have hxl := X3.out.lt
    have hyl := Y3.out.lt
    go_wp2_with fail
    refine (l1Str_any cb w3.heap.size 7 v zs [⟨#[]⟩, ⟨#[97]⟩, ⟨#[65]⟩, ⟨#[61, 61, 61]⟩, ⟨#[97, 39, 98]⟩, ⟨#[97, 47, 98]⟩, ⟨#[38]⟩] _ (C3.out.grow (A3 _)) rfl (by omega) (by omega) (heap_alloc_new w3 _) (by omega)).mono ?_
    rintro e w4 ⟨y, rfl, hy, -, hg4⟩
    have hz : y.size ≤ 8 := lowSz (by decide +kernel) hy
    have X4 := Hid.mk (X3.out.kept ((hg4.block w.heap.size (by simp; omega) (fun e => by have := Option.some.inj e; omega)).trans ((A3 _).block w.heap.size hxl)))
    have Y4 := Hid.mk (Y3.out.kept ((hg4.block g (by simp; omega) (fun e => by have := Option.some.inj e; omega)).trans ((A3 _).block g hyl)))
    have G4 := Hid.mk (grownBy_trans (gyNew G3.out _) hg4)
    have y0 := Y4.out.c0
    have y1 := Y4.out.c1
    have y2 := Y4.out.c2
    have yf0 := Y4.out.fr 0
    have yf1 := Y4.out.fr 1
    have yf2 := Y4.out.fr 2
    have x0 := X4.out.c0
    have x1 := X4.out.c1
    have x2 := X4.out.c2
    have xf0 := X4.out.fr 0
    have xf1 := X4.out.fr 1
    have xf2 := X4.out.fr 2
    clear hg4 G3 C3 X3 Y3 A3
    go_wp2
    have q : Below w.heap.size w4 ((((w4.setCell ⟨g, 2, none⟩ (.string y)).setCell ⟨w.heap.size, 0, none⟩ (.int .i64 tk)).setCell ⟨w.heap.size, 1, none⟩ (.int .i64 tn)).setCell ⟨w.heap.size, 2, none⟩ (.string y)) := ((((Below.refl w.heap.size w4).setCell (p := ⟨g, 2, none⟩) (Nat.le_of_lt hgw) _).setCell (p := ⟨w.heap.size, 0, none⟩) (Nat.le_refl w.heap.size) _).setCell (p := ⟨w.heap.size, 1, none⟩) (Nat.le_refl w.heap.size) _).setCell (p := ⟨w.heap.size, 2, none⟩) (Nat.le_refl w.heap.size) _
    refine bodyPost_ret (v := tkV ⟨tk, tn, y⟩) (by simp [results, Tryd.results39, go_sem, x0, x1, x2]) rfl ⟨⟨tk, tn, y⟩, rfl, hz, grownBy_below G4.out q (Nat.le_refl _)⟩
  by_cases h2 : x = 2
  · subst h2
    have A3 : ∀ o, Below w3.heap.size w3 (w3.alloc o) := fun o => (Below.refl _ _).alloc (Nat.le_refl _) _
    have hcl3 := C3.out.lt
    have hxl := X3.out.lt
    have hyl := Y3.out.lt
    go_wp2_with fail
    refine (l1Below_any cb v zs 7 _ C3.out).mono ?_
    rintro e w4 ⟨y, rfl, -, -, -, -, hg4⟩
    have hz : ts.size ≤ 8 := hts
    have X4 := Hid.mk (X3.out.kept (hg4.block w.heap.size hxl (fun e => by have := Option.some.inj e; omega)))
    have Y4 := Hid.mk (Y3.out.kept (hg4.block g hyl (fun e => by have := Option.some.inj e; omega)))
    have G4 := Hid.mk (grownBy_trans G3.out hg4)
    have y0 := Y4.out.c0
    have y1 := Y4.out.c1
    have y2 := Y4.out.c2
    have yf0 := Y4.out.fr 0
    have yf1 := Y4.out.fr 1
    have yf2 := Y4.out.fr 2
    have x0 := X4.out.c0
    have x1 := X4.out.c1
    have x2 := X4.out.c2
    have xf0 := X4.out.fr 0
    have xf1 := X4.out.fr 1
    have xf2 := X4.out.fr 2
    clear hg4 G3 C3 X3 Y3 A3
    go_wp2
    have q : Below w.heap.size w4 ((((w4.setCell ⟨g, 0, none⟩ (.int .i64 y)).setCell ⟨w.heap.size, 0, none⟩ (.int .i64 y)).setCell ⟨w.heap.size, 1, none⟩ (.int .i64 tn)).setCell ⟨w.heap.size, 2, none⟩ (.string ts)) := ((((Below.refl w.heap.size w4).setCell (p := ⟨g, 0, none⟩) (Nat.le_of_lt hgw) _).setCell (p := ⟨w.heap.size, 0, none⟩) (Nat.le_refl w.heap.size) _).setCell (p := ⟨w.heap.size, 1, none⟩) (Nat.le_refl w.heap.size) _).setCell (p := ⟨w.heap.size, 2, none⟩) (Nat.le_refl w.heap.size) _
    refine bodyPost_ret (v := tkV ⟨y, tn, ts⟩) (by simp [results, Tryd.results39, go_sem, x0, x1, x2]) rfl ⟨⟨y, tn, ts⟩, rfl, hz, grownBy_below G4.out q (Nat.le_refl _)⟩
  · have e0 : (x == 0) = false := beq_false_of_ne h0
    have e1 : (x == 1) = false := beq_false_of_ne h1
    have e2 : (x == 2) = false := beq_false_of_ne h2
    have hz := hts
    have y0 := Y3.out.c0
    have y1 := Y3.out.c1
    have y2 := Y3.out.c2
    have yf0 := Y3.out.fr 0
    have yf1 := Y3.out.fr 1
    have yf2 := Y3.out.fr 2
    have x0 := X3.out.c0
    have x1 := X3.out.c1
    have x2 := X3.out.c2
    have xf0 := X3.out.fr 0
    have xf1 := X3.out.fr 1
    have xf2 := X3.out.fr 2
    clear h0 h1 h2 C3 X3 Y3
    go_wp2
    have q : Below w.heap.size w3 (((w3.setCell ⟨w.heap.size, 0, none⟩ (.int .i64 tk)).setCell ⟨w.heap.size, 1, none⟩ (.int .i64 tn)).setCell ⟨w.heap.size, 2, none⟩ (.string ts)) := (((Below.refl w.heap.size w3).setCell (p := ⟨w.heap.size, 0, none⟩) (Nat.le_refl w.heap.size) _).setCell (p := ⟨w.heap.size, 1, none⟩) (Nat.le_refl w.heap.size) _).setCell (p := ⟨w.heap.size, 2, none⟩) (Nat.le_refl w.heap.size) _
    refine bodyPost_ret (v := tkV ⟨tk, tn, ts⟩) (by simp [results, Tryd.results39, go_sem, x0, x1, x2]) rfl ⟨⟨tk, tn, ts⟩, rfl, hz, grownBy_below G3.out q (Nat.le_refl _)⟩

set_option maxHeartbeats 1000000 in
theorem drawTokenText_any (v : Value) (zs : List Int) (w : World) (h : Bs w v zs) (hlen : zs.length ≤ 1048576) :
    Calls Tryd.prog 15 #[v] w fun e w' => ∃ t : Tk, e = .returned (tkV t) ∧ t.s.size ≤ 8 ∧ Below w.heap.size w w' := by
  have A0 : Below w.heap.size w (w.alloc (.cells #[.int .i64 0, .int .i64 0, .string ⟨#[]⟩] 31)) := (Below.refl _ _).alloc (Nat.le_refl _) _
  have H := Hid.mk (fun (w' : World) (hb : Below w.heap.size w w') => (Bs.grow h hb))
  have X0 : Hid (BxK (w.alloc (.cells #[.int .i64 0, .int .i64 0, .string ⟨#[]⟩] 31)) w.heap.size 0 0 ⟨#[]⟩) := heap_alloc_new w _
  obtain ⟨_, ao, cap, rfl, -⟩ := h
  go_enter Tryd.func15, Tryd.ntmps15
  go_wp2_with fail
  refine (l1New_any _ zs _ (H.out _ A0) hlen).mono ?_
  rintro e w1 ⟨rfl, hC1, hb1⟩
  have hcb : (w.alloc (.cells #[.int .i64 0, .int .i64 0, .string ⟨#[]⟩] 31)).heap.size = w.heap.size + 1 := by simp
  rw [hcb] at hC1 hb1 ⊢
  have C1 := Hid.mk hC1
  have X1 := Hid.mk (X0.out.kept (hb1.block w.heap.size (by omega)))
  have B1 := Hid.mk (A0.trans (hb1.mono (by omega)))
  have hs1 := hC1.lt
  clear hC1 hb1 H A0 X0 hcb
  go_wp2_with fail
  refine (l7Bent_any _ _ zs _ C1.out).mono ?_
  rintro e w2 ⟨⟨tk, tn, ts⟩, rfl, hz, hg2⟩
  have X2 := Hid.mk (X1.out.kept (hg2.block w.heap.size (by omega) (fun e => by have := Option.some.inj e; omega)))
  have B2 := Hid.mk (low_of B1.out hg2 (Nat.le_succ _))
  have x0 := X2.out.c0
  have x1 := X2.out.c1
  have x2 := X2.out.c2
  have xf0 := X2.out.fr 0
  have xf1 := X2.out.fr 1
  have xf2 := X2.out.fr 2
  clear hg2 C1 X1 B1
  go_wp2
  refine bodyPost_ret (v := tkV ⟨tk, tn, ts⟩) (by simp [results, Tryd.results15, go_sem, x0, x1, x2]) rfl ⟨⟨tk, tn, ts⟩, rfl, hz, ?_⟩
  exact ((B2.out.setCell (p := ⟨w.heap.size, 0, none⟩) (Nat.le_refl w.heap.size) _).setCell (p := ⟨w.heap.size, 1, none⟩) (Nat.le_refl w.heap.size) _).setCell (p := ⟨w.heap.size, 2, none⟩) (Nat.le_refl w.heap.size) _

set_option maxHeartbeats 4000000 in
theorem fnLex_walk (v : Value) (zs : List Int) (w : World) (h : Bs w v zs) (ht : Tab w) (he : ErrR w) :
    Calls Tryd.prog 4 #[v] w fun e w' => e = .returned (.bool true) ∧ Below w.heap.size w w' := by
  have HG := Hid.mk (big_any v zs w h)
  have HTB := Hid.mk (fun W (hb : Below w.heap.size w W) => ht.grow hb)
  have HER := Hid.mk (fun W (hb : Below w.heap.size w W) => he.grow hb)
  by_cases hlen : zs.length ≤ 1048576
  rotate_left
  · have hb : decide ((1048576 : Int) < zs.length) = true := by simp; omega
    rw [hb] at HG
    obtain ⟨_, ao, cap, rfl, -⟩ := h
    clear hb ht he HTB HER hlen
    go_enter Tryd.func4, Tryd.ntmps4
    go_wp2_with fail
    refine HG.out.mono ?_
    rintro e w' ⟨rfl, hw⟩
    obtain rfl := hw.symm
    go_wp2
    go_ret
    exact ⟨rfl, Below.refl _ _⟩
  have hb : decide ((1048576 : Int) < zs.length) = false := by simp; omega
  rw [hb] at HG
  have HD := Hid.mk (drawLex_any v zs w h hlen)
  have HT := Hid.mk (fun (w' : World) (hb : Below w.heap.size w w') => drawTokenText_any v zs w' (Bs.grow h hb) hlen)
  obtain ⟨_, ao, cap, rfl, -⟩ := h
  clear hb ht he hlen
  go_enter Tryd.func4, Tryd.ntmps4
  go_wp2_with fail
  refine HG.out.mono ?_
  rintro e w' ⟨rfl, hw⟩
  obtain rfl := hw.symm
  clear hw HG
  go_wp2_with fail
  refine HD.out.mono ?_
  rintro e w1 ⟨s, rfl, hs, hb1⟩
  have B1 := Hid.mk hb1
  have HSL := Hid.mk (fun w' => specLex_any s w' (by omega))
  have HIL := Hid.mk (fun w' ht he => implLex_any s w' (by omega) ht he)
  obtain ⟨hln, hall⟩ := lexT_ok s
  have hfit := lexT_fit s
  have hpl := lexT_place s
  generalize lexT s = R at *
  obtain ⟨L, pl⟩ := R
  simp only at HSL HIL hln hall hfit hpl
  have hall2 : ∀ t ∈ L, t.s.size ≤ 200 := fun t ht => tok_short (hall t ht).1
  have HSZ : Hid (∀ t ∈ L, t.s.size ≤ maxLen) := fun t ht => Nat.le_trans (hall2 t ht) (by unfold maxLen; omega)
  have hjs := join_sz L 200 hall2
  have hts := szTk_le L 200 hall2
  have HBK := Hid.mk (lex_back L hfit hln (fun t ht => tkTx_pos (hall t ht).1))
  have HOK : Hid (∀ i (hi : i < L.length), tokB L[i].k L[i].n L[i].s = true ∧ L[i].s.size ≤ maxLen) := fun i hi => ⟨(hall _ (List.getElem_mem hi)).1, HSZ.out _ (List.getElem_mem hi)⟩
  have HJ := Hid.mk (fun (w' : World) (u : Value) (h : Tl w' L u) (ht : Tab w') => implJoinTokens_any L u w' h (by omega) ht)
  have HL2 := Hid.mk (fun (w' : World) (ht : Tab w') (he : ErrR w') => implLex_any (jnT (tkTs L) L.length) w' (by omega) ht he)
  rw [HBK.out] at HL2
  generalize jnT (tkTs L) L.length = S at *
  have HSM := Hid.mk (fun (w' : World) (u u' : Value) (h : Tl w' L u) (h' : Tl w' L u') => sameTok_any L u u' w' h h')
  have hpp : (pl != pl) = false := by simp
  have HPL := Hid.mk hpl
  clear hb1 hall hall2 hfit hpl hjs hts HBK HD
  go_wp2_with fail
  refine (HIL.out _ (HTB.out _ B1.out) (HER.out _ B1.out)).mono ?_
  rintro e w2 ⟨u2, rfl, hO2, hb2⟩
  have X2 := Hid.mk (hO2.tl HSZ.out)
  have B2 := Hid.mk (B1.out.trans (hb2.mono B1.out.size))
  obtain ⟨a2, c2, hv2, -⟩ := hO2.lenV
  subst hv2
  clear hb2 hO2 B1 HIL
  go_wp2_with fail
  refine (HSL.out _).mono ?_
  rintro e w3 ⟨u3, rfl, hO3, hb3⟩
  have Y3 := Hid.mk (hO3.tl HSZ.out)
  have X3 := Hid.mk (X2.out.grow hb3)
  have B3 := Hid.mk (B2.out.trans (hb3.mono B2.out.size))
  obtain ⟨a3, c3, hv3, -⟩ := hO3.lenV
  subst hv3
  clear hb3 hO3 X2 B2 HSL
  have hc2m : c2 ≤ 9223372036854775807 := by
    obtain ⟨_, cap', e, _, hm, _⟩ := X3.out
    have := (Value.slice.inj e).2.2
    unfold maxLen at hm
    omega
  -- whether the place is one
  rcases HPL.out with hpm | ⟨hLn, hp0, hps⟩
  · subst hpm
    go_wp2_with fail
    refine (HSM.out _ _ _ X3.out Y3.out).mono ?_
    rintro e w4 ⟨rfl, hb4⟩
    have X4 := Hid.mk (X3.out.grow hb4)
    have B4 := Hid.mk (B3.out.trans (hb4.mono B3.out.size))
    have W4 : Hid (Below w4.heap.size w4 w4) := Below.refl _ _
    clear hb4 X3 Y3 B3
    go_wp2
    go_loopw [8] (fun i wr => ∃ (k : Nat), k ≤ L.length ∧ i = .int .i64 k ∧ Hid (Below w4.heap.size w4 wr)) (fun i _ => L.length - (intOf i).toNat)
    case atStart => exact ⟨0, Nat.zero_le _, rfl, W4⟩
    case round =>
      obtain ⟨k, hk, rfl, HB⟩ := hrel
      clear W4
      by_cases hkl : k < L.length
      · obtain ⟨ao2, cp, he, -, -, -, -, hc⟩ := X4.out
        obtain ⟨b, off, hao, hcell⟩ := hc (by intro h0; rw [h0] at hkl; simp at hkl)
        obtain rfl : a2 = some ⟨b, off, none⟩ := (Value.slice.inj he).1.trans hao
        have h4 := hcell k hkl
        obtain ⟨k1, k3⟩ := HOK.out k hkl
        obtain ⟨c0, c1, cc2⟩ := h4.kept (w' := wr) (HB.out.block b (World.block_lt_of_cell? w4 _ h4.1))
        generalize L[k] = x at c0 c1 cc2 k1 k3
        obtain ⟨xk, xn, xs⟩ := x
        simp only at c0 c1 cc2 k1 k3
        have HTO := Hid.mk (implTokenOk_any xk xn xs wr k3)
        rw [k1] at HTO
        have hki : (k : Int) < (L.length : Int) := by omega
        clear h4 hcell he hc k1 k3
        go_wp2_with fail
        refine HTO.out.mono ?_
        rintro e w5 ⟨rfl, hb5⟩
        have HB5 := Hid.mk (HB.out.trans (hb5.mono HB.out.size))
        clear hb5 HTO HB c0 c1 cc2
        go_wp2
        go_roundw
        case rel => exact ⟨k + 1, by omega, by go_num, HB5⟩
        case measure => simp [intOf]; omega
      · have hki : ¬ (k : Int) < (L.length : Int) := by omega
        have X5 := Hid.mk (X4.out.grow HB.out)
        have B5 := Hid.mk (B4.out.trans (HB.out.mono B4.out.size))
        clear HB X4 B4
        go_wp2_with fail
        refine (HJ.out _ _ X5.out (HTB.out _ B5.out)).mono ?_
        rintro e w6 ⟨rfl, hb6⟩
        have X6 := Hid.mk (X5.out.grow hb6)
        have B6 := Hid.mk (B5.out.trans (hb6.mono B5.out.size))
        clear hb6 X5 B5 HJ
        go_wp2_with fail
        refine (HL2.out _ (HTB.out _ B6.out) (HER.out _ B6.out)).mono ?_
        rintro e w7 ⟨u7, rfl, hO7, hb7⟩
        have Z7 := Hid.mk (hO7.tl HSZ.out)
        have X7 := Hid.mk (X6.out.grow hb7)
        have B7 := Hid.mk (B6.out.trans (hb7.mono B6.out.size))
        obtain ⟨a7, c7, hv7, -⟩ := hO7.lenV
        subst hv7
        clear hb7 hO7 X6 B6 HL2
        go_wp2_with fail
        refine (HT.out _ B7.out).mono ?_
        rintro e w8 ⟨⟨tk, tn, ts⟩, rfl, hz, hb8⟩
        have AA : Below w8.heap.size w8 (w8.alloc (.cells #[.int .i64 tk, .int .i64 tn, .string ts] 31)) := (Below.refl _ _).alloc (Nat.le_refl _) _
        have hb9 := hb8.trans (AA.mono hb8.size)
        have Z9 := Hid.mk (Z7.out.grow hb9)
        have X9 := Hid.mk (X7.out.grow hb9)
        have B9 := Hid.mk (B7.out.trans (hb9.mono B7.out.size))
        have Q9 : Hid (BxK (w8.alloc (.cells #[.int .i64 tk, .int .i64 tn, .string ts] 31)) w8.heap.size tk tn ts) := heap_alloc_new w8 _
        have hzm : ts.size ≤ maxLen := Nat.le_trans hz (by unfold maxLen; omega)
        clear hb8 hb9 AA Z7 X7 B7 HT hz
        go_wp2_with fail
        generalize w8.alloc (.cells #[.int .i64 tk, .int .i64 tn, .string ts] 31) = W at Z9 X9 B9 Q9 ⊢
        generalize w8.heap.size = g at Q9 ⊢
        have HTX := Hid.mk (HTB.out _ B9.out)
        have cS := Hid.mk (fun d os => Calls.regrown_of (w := W) (d := d) (os := os) (HSM.out _ _ _ (Z9.out.grow (below_regrown W d os)) (X9.out.grow (below_regrown W d os))))
        have cI := Hid.mk (fun d os => Calls.regrown_of (w := W) (d := d) (os := os) (implTokenText_any tk tn ts _ hzm (HTX.out.grow (below_regrown W d os))))
        have cM := Hid.mk (fun d os => Calls.regrown_of (w := W) (d := d) (os := os) (specTokenText_any tk tn ts _ hzm))
        generalize tkT tk tn ts = tx at cI cM
        have htt : (tx.toList == tx.toList) = true := by simp
        have q0 := cell_regrown Q9.out.c0
        have q1 := cell_regrown Q9.out.c1
        have q2 := cell_regrown Q9.out.c2
        clear Q9 HTX Z9 X9
        refine wp_region_quiet_below (by kernel_rfl) (by kernel_rfl) ?_
        quiet_step (fail)
        quiet_step (fail)
        quiet_step (fail)
        quiet_step (fail)
        quiet_step (fail)
        quiet_step (exact cS.out _ _)
        quiet_step (fail)
        quiet_step (fail)
        quiet_step (fail)
        quiet_step (fail)
        quiet_step (fail)
        quiet_step (fail)
        quiet_step (fail)
        quiet_step (fail)
        quiet_step (fail)
        quiet_step (fail)
        quiet_step (fail)
        quiet_step (fail)
        quiet_step (exact cI.out _ _)
        quiet_step (fail)
        quiet_step (exact cM.out _ _)
        quiet_step (fail)
        quiet_step (fail)
        quiet_step (fail)
        refine wpQuiet_nil ?_
        intro w9 hw'
        obtain ⟨⟨dq, osq⟩, hw''⟩ := hw'
        have hb6 : Below W.heap.size W w9 := by rw [hw'']; exact below_regrown _ _ _
        have BF := Hid.mk (B9.out.trans (hb6.mono B9.out.size))
        clear hw'' hb6 q0 q1 q2 cS cI cM
        go_wp2
        go_ret
        exact ⟨rfl, BF.out⟩
  · have hm1 : (pl == -1) = false := beq_false_of_ne (by omega)
    have hm2 : ¬ (s.size : Int) ≤ pl := by omega
    have hl0 : ((L.length : Int) == 0) = true := by rw [hLn]; rfl
    clear hLn
    go_wp2_with fail
    refine (HSM.out _ _ _ X3.out Y3.out).mono ?_
    rintro e w4 ⟨rfl, hb4⟩
    have X4 := Hid.mk (X3.out.grow hb4)
    have B4 := Hid.mk (B3.out.trans (hb4.mono B3.out.size))
    have W4 : Hid (Below w4.heap.size w4 w4) := Below.refl _ _
    clear hb4 X3 Y3 B3
    go_wp2
    go_loopw [8] (fun i wr => ∃ (k : Nat), k ≤ L.length ∧ i = .int .i64 k ∧ Hid (Below w4.heap.size w4 wr)) (fun i _ => L.length - (intOf i).toNat)
    case atStart => exact ⟨0, Nat.zero_le _, rfl, W4⟩
    case round =>
      obtain ⟨k, hk, rfl, HB⟩ := hrel
      clear W4
      by_cases hkl : k < L.length
      · obtain ⟨ao2, cp, he, -, -, -, -, hc⟩ := X4.out
        obtain ⟨b, off, hao, hcell⟩ := hc (by intro h0; rw [h0] at hkl; simp at hkl)
        obtain rfl : a2 = some ⟨b, off, none⟩ := (Value.slice.inj he).1.trans hao
        have h4 := hcell k hkl
        obtain ⟨k1, k3⟩ := HOK.out k hkl
        obtain ⟨c0, c1, cc2⟩ := h4.kept (w' := wr) (HB.out.block b (World.block_lt_of_cell? w4 _ h4.1))
        generalize L[k] = x at c0 c1 cc2 k1 k3
        obtain ⟨xk, xn, xs⟩ := x
        simp only at c0 c1 cc2 k1 k3
        have HTO := Hid.mk (implTokenOk_any xk xn xs wr k3)
        rw [k1] at HTO
        have hki : (k : Int) < (L.length : Int) := by omega
        clear h4 hcell he hc k1 k3
        go_wp2_with fail
        refine HTO.out.mono ?_
        rintro e w5 ⟨rfl, hb5⟩
        have HB5 := Hid.mk (HB.out.trans (hb5.mono HB.out.size))
        clear hb5 HTO HB c0 c1 cc2
        go_wp2
        go_roundw
        case rel => exact ⟨k + 1, by omega, by go_num, HB5⟩
        case measure => simp [intOf]; omega
      · have hki : ¬ (k : Int) < (L.length : Int) := by omega
        have X5 := Hid.mk (X4.out.grow HB.out)
        have B5 := Hid.mk (B4.out.trans (HB.out.mono B4.out.size))
        clear HB X4 B4
        go_wp2_with fail
        refine (HJ.out _ _ X5.out (HTB.out _ B5.out)).mono ?_
        rintro e w6 ⟨rfl, hb6⟩
        have X6 := Hid.mk (X5.out.grow hb6)
        have B6 := Hid.mk (B5.out.trans (hb6.mono B5.out.size))
        clear hb6 X5 B5 HJ
        go_wp2_with fail
        refine (HL2.out _ (HTB.out _ B6.out) (HER.out _ B6.out)).mono ?_
        rintro e w7 ⟨u7, rfl, hO7, hb7⟩
        have Z7 := Hid.mk (hO7.tl HSZ.out)
        have X7 := Hid.mk (X6.out.grow hb7)
        have B7 := Hid.mk (B6.out.trans (hb7.mono B6.out.size))
        obtain ⟨a7, c7, hv7, -⟩ := hO7.lenV
        subst hv7
        clear hb7 hO7 X6 B6 HL2
        go_wp2_with fail
        refine (HT.out _ B7.out).mono ?_
        rintro e w8 ⟨⟨tk, tn, ts⟩, rfl, hz, hb8⟩
        have AA : Below w8.heap.size w8 (w8.alloc (.cells #[.int .i64 tk, .int .i64 tn, .string ts] 31)) := (Below.refl _ _).alloc (Nat.le_refl _) _
        have hb9 := hb8.trans (AA.mono hb8.size)
        have Z9 := Hid.mk (Z7.out.grow hb9)
        have X9 := Hid.mk (X7.out.grow hb9)
        have B9 := Hid.mk (B7.out.trans (hb9.mono B7.out.size))
        have Q9 : Hid (BxK (w8.alloc (.cells #[.int .i64 tk, .int .i64 tn, .string ts] 31)) w8.heap.size tk tn ts) := heap_alloc_new w8 _
        have hzm : ts.size ≤ maxLen := Nat.le_trans hz (by unfold maxLen; omega)
        clear hb8 hb9 AA Z7 X7 B7 HT hz
        go_wp2_with fail
        generalize w8.alloc (.cells #[.int .i64 tk, .int .i64 tn, .string ts] 31) = W at Z9 X9 B9 Q9 ⊢
        generalize w8.heap.size = g at Q9 ⊢
        have HTX := Hid.mk (HTB.out _ B9.out)
        have cS := Hid.mk (fun d os => Calls.regrown_of (w := W) (d := d) (os := os) (HSM.out _ _ _ (Z9.out.grow (below_regrown W d os)) (X9.out.grow (below_regrown W d os))))
        have cI := Hid.mk (fun d os => Calls.regrown_of (w := W) (d := d) (os := os) (implTokenText_any tk tn ts _ hzm (HTX.out.grow (below_regrown W d os))))
        have cM := Hid.mk (fun d os => Calls.regrown_of (w := W) (d := d) (os := os) (specTokenText_any tk tn ts _ hzm))
        generalize tkT tk tn ts = tx at cI cM
        have htt : (tx.toList == tx.toList) = true := by simp
        have q0 := cell_regrown Q9.out.c0
        have q1 := cell_regrown Q9.out.c1
        have q2 := cell_regrown Q9.out.c2
        clear Q9 HTX Z9 X9
        refine wp_region_quiet_below (by kernel_rfl) (by kernel_rfl) ?_
        quiet_step (fail)
        quiet_step (fail)
        quiet_step (fail)
        quiet_step (fail)
        quiet_step (fail)
        quiet_step (exact cS.out _ _)
        quiet_step (fail)
        quiet_step (fail)
        quiet_step (fail)
        quiet_step (fail)
        quiet_step (fail)
        quiet_step (fail)
        quiet_step (fail)
        quiet_step (fail)
        quiet_step (fail)
        quiet_step (fail)
        quiet_step (fail)
        quiet_step (fail)
        quiet_step (exact cI.out _ _)
        quiet_step (fail)
        quiet_step (exact cM.out _ _)
        quiet_step (fail)
        quiet_step (fail)
        quiet_step (fail)
        refine wpQuiet_nil ?_
        intro w9 hw'
        obtain ⟨⟨dq, osq⟩, hw''⟩ := hw'
        have hb6 : Below W.heap.size W w9 := by rw [hw'']; exact below_regrown _ _ _
        have BF := Hid.mk (B9.out.trans (hb6.mono B9.out.size))
        clear hw'' hb6 q0 q1 q2 cS cI cM
        go_wp2
        go_ret
        exact ⟨rfl, BF.out⟩
end Go.Proofs.YtapcbblfcmdbnaaDoor
