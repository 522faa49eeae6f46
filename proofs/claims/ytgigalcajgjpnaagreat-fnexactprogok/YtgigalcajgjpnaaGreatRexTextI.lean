/- RexText, the program's: bytes appended. -/
import Derived.Test.YtgigalcajgjpnaaGreatRexTxt
import Derived.Test.YtgigalcajgjpnaaGreatPlCan
import Derived.Test.YtgigalcajgjpnaaGreatRexNear
import Derived.Test.YtgigalcajgjpnaaGreatTake
namespace Go.Proofs.YtgigalcajgjpnaaGreat
open Go.RowKit
set_option maxRecDepth 8000

def AppC (t : Tr) : Prop := t.okT = true → t.cnt ≤ 60 → ∀ (base : Nat) (B : Nat → Prop) (b lv : Value) (xs : List Int) (w : World), Own w base b xs → base ≤ w.heap.size → xs.length + t.tl.length ≤ 100000 → Rl w B t.l lv →
  (∀ k, B k → k < w.heap.size ∧ b.ownBlock ≠ some k) →
  Calls Tryz.prog 219 #[b, rx t.k t.s lv] w fun e w' => ∃ b', e = .returned b' ∧ Own w' base b' (xs ++ t.tl) ∧ Nigh w b w' b'

/-- What is read stays as it is while bytes are appended elsewhere. -/
theorem Nigh.rl {w0 w : World} {v0 v : Value} {B : Nat → Prop} {l : List Tr} {u : Value} (h : Nigh w0 v0 w v) (hr : Rl w0 B l u) (hB : ∀ k, B k → k < w0.heap.size ∧ v0.ownBlock ≠ some k) :
    Rl w B l u ∧ ∀ k, B k → k < w.heap.size ∧ v.ownBlock ≠ some k := by
  refine ⟨hr.kept fun b hb _ => h.block (hB b hb).1 (hB b hb).2, fun k hk => ?_⟩
  obtain ⟨h1, h2⟩ := hB k hk
  refine ⟨Nat.lt_of_lt_of_le h1 h.size, fun e => ?_⟩
  rcases h.2 with hv | hv
  · rw [hv] at e; exact h2 e
  · have := hv k e; omega

theorem Nigh.keep {w0 w : World} {v0 v : Value} (h : Nigh w0 v0 w v) {c : Nat} (hne : v0.ownBlock ≠ some c) (hc : c < w0.heap.size) : v.ownBlock ≠ some c := by
  intro e
  rcases h.2 with hv | hv
  · rw [hv] at e; exact hne e
  · have := hv c e; omega

set_option maxHeartbeats 2000000 in
theorem within_of (t : Tr) (ih : AppC t) (hok : t.okT = true) (hcn : t.cnt ≤ 60) (br : Bool) (base : Nat) (B : Nat → Prop) (b lv : Value) (xs : List Int) (w : World) (ho : Own w base b xs) (hbase0 : base ≤ w.heap.size)
    (hlen0 : xs.length + (t.tl.length + 2) ≤ 100000 ∨ br = false ∧ xs.length + t.tl.length ≤ 100000) (h : Rl w B t.l lv) (hB : ∀ k, B k → k < w.heap.size ∧ b.ownBlock ≠ some k) :
    Calls Tryz.prog 225 #[b, rx t.k t.s lv, .bool br] w fun e w' => ∃ b', e = .returned b' ∧ Own w' base b' (xs ++ (if br = true then 40 :: (t.tl ++ [41]) else t.tl)) ∧ Nigh w b w' b' := by
  obtain ⟨ao, cap, rfl, hl1, hl2, hl3⟩ := h.len
  have N0 := (Nigh.refl w b).alloc (.cells #[.int .i64 t.k, .string t.s, .slice ao t.l.length cap] 187)
  have O0 := ho.alloc (.cells #[.int .i64 t.k, .string t.s, .slice ao t.l.length cap] 187)
  obtain ⟨R0, B1⟩ := N0.rl h hB
  have hbw : base ≤ (w.alloc (.cells #[.int .i64 t.k, .string t.s, .slice ao t.l.length cap] 187)).heap.size := Nat.le_trans hbase0 N0.size
  have hne : b.ownBlock ≠ some w.heap.size := fun e => by have := (ho.lt _ e).2; omega
  cases br with
  | false =>
    have HC := Hid.mk (ih hok hcn base B b _ xs _ O0 hbw (by omega) R0 B1)
    have HN0 := Hid.mk N0
    obtain ⟨T, hT⟩ : ∃ T, t.tl = T := ⟨_, rfl⟩
    obtain ⟨k, hk⟩ : ∃ k, t.k = k := ⟨_, rfl⟩
    obtain ⟨s, hsn⟩ : ∃ s, t.s = s := ⟨_, rfl⟩
    rw [hk, hsn, hT] at HC
    rw [hk, hsn] at HN0
    rw [hk, hsn, hT]
    clear N0 O0 R0 B1 hbw hB h ih hok hcn ho hlen0 hk hsn hT hl1 hl2 hl3
    go_enter Tryz.func225, Tryz.ntmps225
    go_wp2_with fail
    refine HC.out.mono ?_
    rintro e w1 ⟨b1, rfl, hown, hn⟩
    have HN := Hid.mk (HN0.out.trans hn)
    have HO := Hid.mk hown
    clear HC hn hown HN0
    go_wp2
    go_ret
    exact ⟨_, rfl, HO.out, HN.out⟩
  | true =>
    have hlen := Hid.mk (show xs.length + (t.tl.length + 2) ≤ 100000 by rcases hlen0 with h | h; exact h; cases h.1)
    have HC : Hid (∀ (W : World) (v : Value), Own W base v (xs ++ [40]) → Nigh (w.alloc (.cells #[.int .i64 t.k, .string t.s, .slice ao t.l.length cap] 187)) b W v →
        Calls Tryz.prog 219 #[v, rx t.k t.s (.slice ao t.l.length cap)] W fun e w' => ∃ b', e = .returned b' ∧ Own w' base b' (xs ++ [40] ++ t.tl) ∧ Nigh W v w' b') := by
      intro W v hW hN
      obtain ⟨R1, B2⟩ := hN.rl R0 B1
      exact ih hok hcn base B v _ (xs ++ [40]) W hW (Nat.le_trans hbw hN.size) (by have := hlen.out; simp; omega) R1 B2
    have SN : Hid (∀ (W : World) (v : Value), Nigh (w.alloc (.cells #[.int .i64 t.k, .string t.s, .slice ao t.l.length cap] 187)) b W v →
        ∀ o, W.cell? ⟨w.heap.size, o, none⟩ = (w.alloc (.cells #[.int .i64 t.k, .string t.s, .slice ao t.l.length cap] 187)).cell? ⟨w.heap.size, o, none⟩) := by
      intro W v hN o
      exact hN.cell (p := ⟨w.heap.size, o, none⟩) (by simp) hne
    have HE : Hid (∀ (W : World) (v : Value), Own W base v (xs ++ [40] ++ t.tl ++ [41]) → Own W base v (xs ++ (40 :: (t.tl ++ [41])))) := by
      intro W v h; simpa using h
    have HN : Hid (∀ (W : World) (v : Value), Nigh (w.alloc (.cells #[.int .i64 t.k, .string t.s, .slice ao t.l.length cap] 187)) b W v → Nigh w b W v) := fun W v h => N0.trans h
    obtain ⟨T, hT⟩ : ∃ T, t.tl = T := ⟨_, rfl⟩
    obtain ⟨k, hk⟩ : ∃ k, t.k = k := ⟨_, rfl⟩
    obtain ⟨s, hsn⟩ : ∃ s, t.s = s := ⟨_, rfl⟩
    have hbase := Hid.mk hbw
    rw [hk, hsn] at hbase SN HN O0
    rw [hk, hsn, hT] at HC
    rw [hT] at hlen HE
    rw [hk, hsn, hT]
    clear N0 R0 B1 hB h ih hok hcn ho hlen0 hbw hk hsn hT hl1 hl2 hl3
    have ho1 : Own (w.alloc (.cells #[.int .i64 k, .string s, .slice ao t.l.length cap] 187)).drew base b xs := World.ownsRow.drew O0
    have hn1 : Nigh (w.alloc (.cells #[.int .i64 k, .string s, .slice ao t.l.length cap] 187)) b (w.alloc (.cells #[.int .i64 k, .string s, .slice ao t.l.length cap] 187)).drew b := (Nigh.refl _ b).grow (Below.drewSelf _ _ 1)
    go_enter Tryz.func225, Tryz.ntmps225
    go_wp2_with fail
    refine wp_region_held_drew (S := fun W => ∀ o, W.cell? ⟨w.heap.size, o, none⟩ = (w.alloc (.cells #[.int .i64 k, .string s, .slice ao t.l.length cap] 187)).cell? ⟨w.heap.size, o, none⟩) (by kernel_rfl) (SN.out _ _ hn1) (fun _ => ?_)
    refine takeHD (i := 0) (v := b) (some 12) rfl rfl (by kernel_rfl) (by kernel_rfl) (by kernel_rfl) (fun _ _ _ h => h) (Or.inl ⟨by kernel_rfl, fun w' _ => by kernel_rfl⟩) (SN.out _ _ hn1) ?_
    simp only [Act.put, List.setIfInBounds_toArray]
    refine takeHD (i := 3) (v := rx k s (.slice ao t.l.length cap)) (some 15) rfl rfl (by kernel_rfl) (by kernel_rfl) (by kernel_rfl) (fun _ _ _ h => h) (Or.inl ⟨by kernel_rfl, fun w' hx => ?_⟩) (SN.out _ _ hn1) ?_
    · go_simp
    simp only [Act.put, List.setIfInBounds_toArray]
    generalize hW : ((w.alloc (.cells #[.int .i64 k, .string s, .slice ao t.l.length cap] 187))).drew = W0 at *
    refine wpAnyH_ready (rs := [1, 5]) (by kernel_rfl) (by simp) ?_
    refine AllReadyH.cons rfl (fun K hK => ?_) (AllReadyH.cons rfl (fun K hK => ?_) AllReadyH.nil)
    · rw [if_pos (by kernel_rfl)]
      have hb4 : Below W0.heap.size W0 (W0.alloc (.cells #[.int .u8 40] 5)) := (Below.refl _ _).alloc (Nat.le_refl _) _
      have ho2 := ho1.alloc (.cells #[.int .u8 40] 5)
      have hn3 := hn1.alloc (.cells #[.int .u8 40] 5)
      have hs5 := Bs.one W0 40 (by omega) (by omega)
      have hl6 : Hid (base ≤ (W0.alloc (.cells #[.int .u8 40] 5)).heap.size) := by show _ ≤ _; simp; have := hn1.size; have := hbase.out; omega
      go_wp2_with fail
      refine hK.out _ _ (SN.out _ _ hn3) (fun _ => ?_)
      clear hK K
      generalize hW : (W0.alloc (.cells #[.int .u8 40] 5)) = W1 at *
      clear hW hb4 ho1 hn1
      refine wpAnyH_ready (rs := [2, 5]) (by kernel_rfl) (by simp) ?_
      refine AllReadyH.cons rfl (fun K hK => ?_) (AllReadyH.cons rfl (fun K hK => ?_) AllReadyH.nil)
      · rw [if_pos (by kernel_rfl)]
        refine oper_append_nigh _ _ rfl base b b _ xs [40] rfl ho2 rfl hs5 (by simp) hn3 (by have := hn3.size; have := hbase.out; omega) (by simp; have := hlen.out; omega) ?_
        intro v8 W9 ho10 hn11 hm12 hz13
        refine hK.out _ _ (SN.out _ _ hn11) (fun _ => ?_)
        clear hK K
        simp only [Act.put, List.setIfInBounds_toArray]
        clear ho2 hn3 hm12
        refine wpAnyH_ready (rs := [4, 5]) (by kernel_rfl) (by simp) ?_
        refine AllReadyH.cons rfl (fun K hK => ?_) (AllReadyH.cons rfl (fun K hK => ?_) AllReadyH.nil)
        · rw [if_pos (by kernel_rfl)]
          go_wp2_with fail
          refine (HC.out _ _ ho10 hn11).mono ?_
          rintro e W15 ⟨v14, rfl, ho16, hm18⟩
          have hn17 := hn11.trans hm18
          refine hK.out _ _ (SN.out _ _ hn17) (fun _ => ?_)
          clear hK K
          clear ho10 hn11 hm18
          refine wpAnyH_ready (rs := [5]) (by kernel_rfl) (by simp) ?_
          refine AllReadyH.cons rfl (fun K hK => ?_) AllReadyH.nil
          rw [if_pos (by kernel_rfl)]
          have hb22 : Below W15.heap.size W15 (W15.alloc (.cells #[.int .u8 41] 5)) := (Below.refl _ _).alloc (Nat.le_refl _) _
          have ho20 := ho16.alloc (.cells #[.int .u8 41] 5)
          have hn21 := hn17.alloc (.cells #[.int .u8 41] 5)
          have hs23 := Bs.one W15 41 (by omega) (by omega)
          have hl24 : Hid (base ≤ (W15.alloc (.cells #[.int .u8 41] 5)).heap.size) := by show _ ≤ _; simp; have := hn17.size; have := hbase.out; omega
          have hx25 : v14.ownBlock ≠ some W15.heap.size := fun e => by have := (ho16.lt _ e).2; omega
          go_wp2_with fail
          refine hK.out _ _ (SN.out _ _ hn21) (fun _ => ?_)
          clear hK K
          generalize hW : (W15.alloc (.cells #[.int .u8 41] 5)) = W19 at *
          clear hW hb22 ho16 hn17
          refine wpAnyH_ready (rs := [6]) (by kernel_rfl) (by simp) ?_
          refine AllReadyH.cons rfl (fun K hK => ?_) AllReadyH.nil
          rw [if_pos (by kernel_rfl)]
          refine oper_append_nigh _ _ rfl base b v14 _ (xs ++ [40] ++ T) [41] rfl ho20 rfl hs23 (by simp) hn21 (by have := hn21.size; have := hbase.out; omega) (by simp; have := hlen.out; omega) ?_
          intro v27 W28 ho29 hn30 hm31 hz32
          refine hK.out _ _ (SN.out _ _ hn30) (fun _ => ?_)
          clear hK K
          simp only [Act.put, List.setIfInBounds_toArray]
          clear ho20 hn21 hm31
          refine wpAnyH_ready (rs := [7]) (by kernel_rfl) (by simp) ?_
          refine AllReadyH.cons rfl (fun K hK => ?_) AllReadyH.nil
          rw [if_pos (by kernel_rfl)]
          go_wp2_with fail
          refine hK.out _ _ (SN.out _ _ hn30) (fun _ => ?_)
          clear hK K
          refine wpAnyH_done (by kernel_rfl) ?_ _
          go_wp2
          go_ret
          exact ⟨_, rfl, HE.out _ _ ho29, HN.out _ _ hn30⟩
        · rw [if_pos (by kernel_rfl)]
          have hb36 : Below W9.heap.size W9 (W9.alloc (.cells #[.int .u8 41] 5)) := (Below.refl _ _).alloc (Nat.le_refl _) _
          have ho34 := ho10.alloc (.cells #[.int .u8 41] 5)
          have hn35 := hn11.alloc (.cells #[.int .u8 41] 5)
          have hs37 := Bs.one W9 41 (by omega) (by omega)
          have hl38 : Hid (base ≤ (W9.alloc (.cells #[.int .u8 41] 5)).heap.size) := by show _ ≤ _; simp; have := hn11.size; have := hbase.out; omega
          have hx39 : v8.ownBlock ≠ some W9.heap.size := fun e => by have := (ho10.lt _ e).2; omega
          go_wp2_with fail
          refine hK.out _ _ (SN.out _ _ hn35) (fun _ => ?_)
          clear hK K
          generalize hW : (W9.alloc (.cells #[.int .u8 41] 5)) = W33 at *
          clear hW hb36 ho10 hn11
          refine wpAnyH_ready (rs := [4]) (by kernel_rfl) (by simp) ?_
          refine AllReadyH.cons rfl (fun K hK => ?_) AllReadyH.nil
          rw [if_pos (by kernel_rfl)]
          go_wp2_with fail
          refine (HC.out _ _ ho34 hn35).mono ?_
          rintro e W42 ⟨v41, rfl, ho43, hm45⟩
          have hn44 := hn35.trans hm45
          refine hK.out _ _ (SN.out _ _ hn44) (fun _ => ?_)
          clear hK K
          have hs46 := hm45.bs hs37 (by simp) (by intro k hk; simp [Value.ownBlock] at hk; subst hk; exact hx39)
          have hx47 := Nigh.keep hm45 hx39 (by have := hs37.lt (by simp) _ rfl; exact this)
          clear ho34 hn35 hm45
          refine wpAnyH_ready (rs := [6]) (by kernel_rfl) (by simp) ?_
          refine AllReadyH.cons rfl (fun K hK => ?_) AllReadyH.nil
          rw [if_pos (by kernel_rfl)]
          refine oper_append_nigh _ _ rfl base b v41 _ (xs ++ [40] ++ T) [41] rfl ho43 rfl hs46 (by simp) hn44 (by have := hn44.size; have := hbase.out; omega) (by simp; have := hlen.out; omega) ?_
          intro v48 W49 ho50 hn51 hm52 hz53
          refine hK.out _ _ (SN.out _ _ hn51) (fun _ => ?_)
          clear hK K
          simp only [Act.put, List.setIfInBounds_toArray]
          clear ho43 hn44 hm52
          refine wpAnyH_ready (rs := [7]) (by kernel_rfl) (by simp) ?_
          refine AllReadyH.cons rfl (fun K hK => ?_) AllReadyH.nil
          rw [if_pos (by kernel_rfl)]
          go_wp2_with fail
          refine hK.out _ _ (SN.out _ _ hn51) (fun _ => ?_)
          clear hK K
          refine wpAnyH_done (by kernel_rfl) ?_ _
          go_wp2
          go_ret
          exact ⟨_, rfl, HE.out _ _ ho50, HN.out _ _ hn51⟩
      · rw [if_pos (by kernel_rfl)]
        have hb57 : Below W1.heap.size W1 (W1.alloc (.cells #[.int .u8 41] 5)) := (Below.refl _ _).alloc (Nat.le_refl _) _
        have ho55 := ho2.alloc (.cells #[.int .u8 41] 5)
        have hn56 := hn3.alloc (.cells #[.int .u8 41] 5)
        have hs58 := Bs.one W1 41 (by omega) (by omega)
        have hl59 : Hid (base ≤ (W1.alloc (.cells #[.int .u8 41] 5)).heap.size) := by show _ ≤ _; simp; have := hn3.size; have := hbase.out; omega
        have hs60 := hs5.grow hb57
        have hx61 : b.ownBlock ≠ some W1.heap.size := fun e => by have := (ho2.lt _ e).2; omega
        go_wp2_with fail
        refine hK.out _ _ (SN.out _ _ hn56) (fun _ => ?_)
        clear hK K
        generalize hW : (W1.alloc (.cells #[.int .u8 41] 5)) = W54 at *
        clear hW hb57 ho2 hn3
        refine wpAnyH_ready (rs := [2]) (by kernel_rfl) (by simp) ?_
        refine AllReadyH.cons rfl (fun K hK => ?_) AllReadyH.nil
        rw [if_pos (by kernel_rfl)]
        refine oper_append_nigh _ _ rfl base b b _ xs [40] rfl ho55 rfl hs60 (by simp) hn56 (by have := hn56.size; have := hbase.out; omega) (by simp; have := hlen.out; omega) ?_
        intro v63 W64 ho65 hn66 hm67 hz68
        refine hK.out _ _ (SN.out _ _ hn66) (fun _ => ?_)
        clear hK K
        simp only [Act.put, List.setIfInBounds_toArray]
        have hs69 := hm67.bs hs58 (by simp) (by intro k hk; simp [Value.ownBlock] at hk; subst hk; exact hx61)
        have hx70 := Nigh.keep hm67 hx61 (by have := hs58.lt (by simp) _ rfl; exact this)
        clear ho55 hn56 hm67
        refine wpAnyH_ready (rs := [4]) (by kernel_rfl) (by simp) ?_
        refine AllReadyH.cons rfl (fun K hK => ?_) AllReadyH.nil
        rw [if_pos (by kernel_rfl)]
        go_wp2_with fail
        refine (HC.out _ _ ho65 hn66).mono ?_
        rintro e W72 ⟨v71, rfl, ho73, hm75⟩
        have hn74 := hn66.trans hm75
        refine hK.out _ _ (SN.out _ _ hn74) (fun _ => ?_)
        clear hK K
        have hs76 := hm75.bs hs69 (by simp) (by intro k hk; simp [Value.ownBlock] at hk; subst hk; exact hx70)
        have hx77 := Nigh.keep hm75 hx70 (by have := hs69.lt (by simp) _ rfl; exact this)
        clear ho65 hn66 hm75
        refine wpAnyH_ready (rs := [6]) (by kernel_rfl) (by simp) ?_
        refine AllReadyH.cons rfl (fun K hK => ?_) AllReadyH.nil
        rw [if_pos (by kernel_rfl)]
        refine oper_append_nigh _ _ rfl base b v71 _ (xs ++ [40] ++ T) [41] rfl ho73 rfl hs76 (by simp) hn74 (by have := hn74.size; have := hbase.out; omega) (by simp; have := hlen.out; omega) ?_
        intro v78 W79 ho80 hn81 hm82 hz83
        refine hK.out _ _ (SN.out _ _ hn81) (fun _ => ?_)
        clear hK K
        simp only [Act.put, List.setIfInBounds_toArray]
        clear ho73 hn74 hm82
        refine wpAnyH_ready (rs := [7]) (by kernel_rfl) (by simp) ?_
        refine AllReadyH.cons rfl (fun K hK => ?_) AllReadyH.nil
        rw [if_pos (by kernel_rfl)]
        go_wp2_with fail
        refine hK.out _ _ (SN.out _ _ hn81) (fun _ => ?_)
        clear hK K
        refine wpAnyH_done (by kernel_rfl) ?_ _
        go_wp2
        go_ret
        exact ⟨_, rfl, HE.out _ _ ho80, HN.out _ _ hn81⟩
    · rw [if_pos (by kernel_rfl)]
      have hb87 : Below W0.heap.size W0 (W0.alloc (.cells #[.int .u8 41] 5)) := (Below.refl _ _).alloc (Nat.le_refl _) _
      have ho85 := ho1.alloc (.cells #[.int .u8 41] 5)
      have hn86 := hn1.alloc (.cells #[.int .u8 41] 5)
      have hs88 := Bs.one W0 41 (by omega) (by omega)
      have hl89 : Hid (base ≤ (W0.alloc (.cells #[.int .u8 41] 5)).heap.size) := by show _ ≤ _; simp; have := hn1.size; have := hbase.out; omega
      have hx90 : b.ownBlock ≠ some W0.heap.size := fun e => by have := (ho1.lt _ e).2; omega
      go_wp2_with fail
      refine hK.out _ _ (SN.out _ _ hn86) (fun _ => ?_)
      clear hK K
      generalize hW : (W0.alloc (.cells #[.int .u8 41] 5)) = W84 at *
      clear hW hb87 ho1 hn1
      refine wpAnyH_ready (rs := [1]) (by kernel_rfl) (by simp) ?_
      refine AllReadyH.cons rfl (fun K hK => ?_) AllReadyH.nil
      rw [if_pos (by kernel_rfl)]
      have hb95 : Below W84.heap.size W84 (W84.alloc (.cells #[.int .u8 40] 5)) := (Below.refl _ _).alloc (Nat.le_refl _) _
      have ho93 := ho85.alloc (.cells #[.int .u8 40] 5)
      have hn94 := hn86.alloc (.cells #[.int .u8 40] 5)
      have hs96 := Bs.one W84 40 (by omega) (by omega)
      have hl97 : Hid (base ≤ (W84.alloc (.cells #[.int .u8 40] 5)).heap.size) := by show _ ≤ _; simp; have := hn86.size; have := hbase.out; omega
      have hs98 := hs88.grow hb95
      go_wp2_with fail
      refine hK.out _ _ (SN.out _ _ hn94) (fun _ => ?_)
      clear hK K
      generalize hW : (W84.alloc (.cells #[.int .u8 40] 5)) = W92 at *
      clear hW hb95 ho85 hn86
      refine wpAnyH_ready (rs := [2]) (by kernel_rfl) (by simp) ?_
      refine AllReadyH.cons rfl (fun K hK => ?_) AllReadyH.nil
      rw [if_pos (by kernel_rfl)]
      refine oper_append_nigh _ _ rfl base b b _ xs [40] rfl ho93 rfl hs96 (by simp) hn94 (by have := hn94.size; have := hbase.out; omega) (by simp; have := hlen.out; omega) ?_
      intro v100 W101 ho102 hn103 hm104 hz105
      refine hK.out _ _ (SN.out _ _ hn103) (fun _ => ?_)
      clear hK K
      simp only [Act.put, List.setIfInBounds_toArray]
      have hs106 := hm104.bs hs98 (by simp) (by intro k hk; simp [Value.ownBlock] at hk; subst hk; exact hx90)
      have hx107 := Nigh.keep hm104 hx90 (by have := hs98.lt (by simp) _ rfl; exact this)
      clear ho93 hn94 hm104
      refine wpAnyH_ready (rs := [4]) (by kernel_rfl) (by simp) ?_
      refine AllReadyH.cons rfl (fun K hK => ?_) AllReadyH.nil
      rw [if_pos (by kernel_rfl)]
      go_wp2_with fail
      refine (HC.out _ _ ho102 hn103).mono ?_
      rintro e W109 ⟨v108, rfl, ho110, hm112⟩
      have hn111 := hn103.trans hm112
      refine hK.out _ _ (SN.out _ _ hn111) (fun _ => ?_)
      clear hK K
      have hs113 := hm112.bs hs106 (by simp) (by intro k hk; simp [Value.ownBlock] at hk; subst hk; exact hx107)
      have hx114 := Nigh.keep hm112 hx107 (by have := hs106.lt (by simp) _ rfl; exact this)
      clear ho102 hn103 hm112
      refine wpAnyH_ready (rs := [6]) (by kernel_rfl) (by simp) ?_
      refine AllReadyH.cons rfl (fun K hK => ?_) AllReadyH.nil
      rw [if_pos (by kernel_rfl)]
      refine oper_append_nigh _ _ rfl base b v108 _ (xs ++ [40] ++ T) [41] rfl ho110 rfl hs113 (by simp) hn111 (by have := hn111.size; have := hbase.out; omega) (by simp; have := hlen.out; omega) ?_
      intro v115 W116 ho117 hn118 hm119 hz120
      refine hK.out _ _ (SN.out _ _ hn118) (fun _ => ?_)
      clear hK K
      simp only [Act.put, List.setIfInBounds_toArray]
      clear ho110 hn111 hm119
      refine wpAnyH_ready (rs := [7]) (by kernel_rfl) (by simp) ?_
      refine AllReadyH.cons rfl (fun K hK => ?_) AllReadyH.nil
      rw [if_pos (by kernel_rfl)]
      go_wp2_with fail
      refine hK.out _ _ (SN.out _ _ hn118) (fun _ => ?_)
      clear hK K
      refine wpAnyH_done (by kernel_rfl) ?_ _
      go_wp2
      go_ret
      exact ⟨_, rfl, HE.out _ _ ho117, HN.out _ _ hn118⟩
end Go.Proofs.YtgigalcajgjpnaaGreat
