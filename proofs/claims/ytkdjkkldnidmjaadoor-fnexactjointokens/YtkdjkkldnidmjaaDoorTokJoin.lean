/- Tokens joined: JoinTokens, of the program and of the model. -/
import Derived.Test.YtkdjkkldnidmjaaDoorTokTxt
import Derived.Test.YtkdjkkldnidmjaaDoorTokTo
import Derived.Test.YtkdjkkldnidmjaaDoorJoinTxt
namespace Go.Proofs.YtkdjkkldnidmjaaDoor
open Go.RowKit
set_option maxRecDepth 8000

def tkTx (x : Tk) : ByteArray := tkT x.k x.n x.s
/-- The texts of tokens. -/
def tkTs (N : List Tk) : List ByteArray := N.map tkTx
theorem tkTs_len (N : List Tk) : (tkTs N).length = N.length := by simp [tkTs]
theorem tkTs_get (N : List Tk) (k : Nat) (h : k < N.length) : (tkTs N).getD k ⟨#[]⟩ = tkTx N[k] := by simp [tkTs, List.getD, h]
theorem tkT_size (k n : Int) (s : ByteArray) : (tkT k n s).size ≤ s.size + 21 := by
  have g2 : ∀ c, (⟨#[c]⟩ : ByteArray).size = 1 := fun c => rfl
  cases hb : tokB k n s with
  | false =>
    rw [tkT_no hb]
    have : (⟨#[]⟩ : ByteArray).size = 0 := rfl
    omega
  | true =>
    by_cases h1 : k = 1
    · subst h1
      rw [tkT_1 hb]
      have := tok_num hb
      have := numS_size n (by omega) (by omega)
      omega
    by_cases h3 : k = 3
    · subst h3
      rw [tkT_3 hb, ByteArray.size_append, ByteArray.size_append, g2]; omega
    by_cases h4 : k = 4
    · subst h4
      rw [tkT_4 hb, ByteArray.size_append, ByteArray.size_append, g2]; omega
    · rw [tkT_s hb h1 h3 h4]; omega
theorem tkTs_sz (N : List Tk) : szT (tkTs N) ≤ szTk N + 21 * N.length := by
  induction N with
  | nil => simp [tkTs, szT, szTk]
  | cons x r ih =>
    have := tkT_size x.k x.n x.s
    simp only [tkTs, szT, szTk, List.map_cons, List.sum_cons, List.length_cons, tkTx] at *
    omega

theorem jnT_step (l : List ByteArray) (k : Nat) : jnT l (k + 1) = (if k = 0 then jnT l k else jnT l k ++ ⟨#[32]⟩) ++ l.getD k ⟨#[]⟩ := rfl
set_option maxHeartbeats 2000000 in
theorem specJoinTokens_any (N : List Tk) (v : Value) (w : World) (h : Tl w N v) (hz : N.length + szTk N ≤ 1048576) :
    Calls Tryd.prog 25 #[v] w fun e w' => e = .returned (.string (jnT (tkTs N) N.length)) ∧ Below w.heap.size w w' := by
  have HS : Hid (∀ k, k ≤ N.length → (jnT (tkTs N) k).size ≤ 67108864) := fun k hk => by
    have h1 := jnT_size (tkTs N) k (by rw [tkTs_len]; exact hk)
    have h2 := szT_le (tkTs N) k
    have h3 := tkTs_sz N
    omega
  have HG := Hid.mk (tkTs_get N)
  obtain ⟨ao, cap, rfl, hl1, hm, -, hsz, hc⟩ := h
  unfold maxLen at hm
  have HC := Hid.mk hc
  have HZ := Hid.mk hsz
  clear hc hsz
  go_enter Tryd.func25, Tryd.ntmps25
  go_wp2
  go_loopw [3, 4] (fun s i wr => ∃ (k : Nat), k ≤ N.length ∧ i = .int .i64 k ∧ s = .string (jnT (tkTs N) k) ∧ Hid (Below w.heap.size w wr)) (fun _ i _ => N.length - (intOf i).toNat)
  case atStart => exact ⟨0, Nat.zero_le _, rfl, rfl, Below.refl _ _⟩
  case round =>
    obtain ⟨k, hk, rfl, rfl, HB⟩ := hrel
    by_cases hkl : k < N.length
    · obtain ⟨b, off, rfl, hcell⟩ := HC.out (by intro h0; rw [h0] at hkl; simp at hkl)
      have h4 := hcell k hkl
      have hbl := World.block_lt_of_cell? w _ h4.1
      obtain ⟨c0, c1, c2⟩ := h4.kept (w' := wr) (HB.out.block b hbl)
      have hj := HS.out k hk
      have HST : Hid (jnT (tkTs N) (k + 1) = (if k = 0 then jnT (tkTs N) k else jnT (tkTs N) k ++ ⟨#[32]⟩) ++ tkTx N[k]) := by
        show _ = _
        rw [jnT_step, HG.out k hkl]
      have hj1 := HS.out (k + 1) (by omega)
      have hx : (tkTx N[k]).size ≤ 67108864 := by
        rw [HST.out, ByteArray.size_append] at hj1
        omega
      have HX := Hid.mk (specTokenText_any N[k].k N[k].n N[k].s wr (HZ.out _ (List.getElem_mem hkl)))
      have htx : tkTx N[k] = tkT N[k].k N[k].n N[k].s := rfl
      rw [htx] at HST hx
      generalize tkT N[k].k N[k].n N[k].s = x at HX HST hx
      generalize N[k] = y at c0 c1 c2 HX
      generalize jnT (tkTs N) k = a at *
      have hki : (k : Int) < (N.length : Int) := by omega
      clear hcell h4 htx hj1
      by_cases h0 : k = 0
      · have hkp : ¬ (0 : Int) < (k : Int) := by omega
        have H0 := Hid.mk h0
        clear h0
        have hs1 : ¬ 9223372036854775807 < a.size + x.size := by omega
        go_wp2_with fail
        refine HX.out.mono ?_
        rintro e w2 ⟨rfl, hb2⟩
        have HB2 := Hid.mk (HB.out.trans (hb2.mono HB.out.size))
        clear hb2 HX HB c0 c1 c2
        go_wp2
        go_roundw
        case rel => exact ⟨k + 1, by omega, by go_num, by rw [HST.out, if_pos H0.out], HB2⟩
        case measure => simp [intOf]; omega
      · have hkp : (0 : Int) < (k : Int) := by omega
        have h1 : (⟨#[32]⟩ : ByteArray).size = 1 := rfl
        have hs0 : ¬ 9223372036854775807 < a.size + 1 := by omega
        have hs1 : ¬ 9223372036854775807 < a.size + 1 + x.size := by omega
        have hs2 : ¬ 9223372036854775807 < (a ++ ⟨#[32]⟩).size + x.size := by rw [ByteArray.size_append]; omega
        go_wp2_with fail
        refine HX.out.mono ?_
        rintro e w2 ⟨rfl, hb2⟩
        have HB2 := Hid.mk (HB.out.trans (hb2.mono HB.out.size))
        clear hb2 HX HB c0 c1 c2
        go_wp2
        go_roundw
        case rel => exact ⟨k + 1, by omega, by go_num, by rw [HST.out, if_neg h0], HB2⟩
        case measure => simp [intOf]; omega
    · have e : k = N.length := by omega
      subst e
      go_wp2
      go_ret
      exact ⟨rfl, HB.out⟩

set_option maxHeartbeats 2000000 in
theorem implJoinTokens_any (N : List Tk) (v : Value) (w : World) (h : Tl w N v) (hz : N.length + szTk N ≤ 1048576) (ht : Tab w) :
    Calls Tryd.prog 11 #[v] w fun e w' => e = .returned (.string (jnT (tkTs N) N.length)) ∧ Below w.heap.size w w' := by
  have HG := Hid.mk (tkTs_get N)
  have HJ : Hid (∀ w' v', Tz w' v' (tkTs N) → Calls Tryd.prog 36 #[v'] w' fun e w'' => e = .returned (.string (jnT (tkTs N) N.length)) ∧ Below w'.heap.size w' w'') := fun w' v' h => by
    have := implJoinTexts_any (tkTs N) v' w' h (by rw [tkTs_len]; have := tkTs_sz N; omega)
    rw [tkTs_len] at this
    exact this
  have HST := Hid.mk (copy_step_t (tkTs N))
  have HLN := Hid.mk (tkTs_len N)
  have HTB := Hid.mk (fun w' (hb : Below w.heap.size w w') => ht.grow hb)
  obtain ⟨ao, cap, rfl, hl1, hm, -, hsz, hc⟩ := h
  unfold maxLen at hm
  have HC := Hid.mk hc
  have HZ := Hid.mk hsz
  clear hc hsz ht
  obtain ⟨i0, hi, hz0, hz1, hz2⟩ := info_parts infoT
  generalize tkTs N = zs at *
  obtain ⟨n, hnn⟩ : ∃ n, N.length = n := ⟨_, rfl⟩
  have HNN := Hid.mk hnn
  rw [hnn] at hl1 hz HLN HJ ⊢
  clear hnn
  go_enter Tryd.func11, Tryd.ntmps11
  go_wp2_with (at_make; refine wpList_make_full _ rfl _ _ 54 rfl w.heap.size 9 i0 (.string ⟨#[]⟩) 1 Tryd.underlying54 hi hz0 hz1 _ _ _ _ n rfl rfl rfl rfl (by rw [hz2]; omega) (by unfold maxLen; omega) (by simp) ?_)
  intro w1 hown hgrow
  rw [made_t] at hown
  have hbel : Hid (Below w.heap.size w w1) := (Below.refl _ _).grown hgrow (Nat.le_refl _) (by simp)
  have H0 : Hid (w1.ownsRow w.heap.size 9 1 (.slice (some ⟨w.heap.size, 0, none⟩) n n) n ((zs.take 0 ++ List.replicate (n - 0) (⟨#[]⟩ : ByteArray)).map Value.string)) := by show World.ownsRow _ _ _ _ _ _ _; simpa using hown
  clear hgrow hown hi hz0 hz1 hz2
  go_wp2
  go_loopw [11] (fun i wr => ∃ k : Nat, k ≤ n ∧ i = .int .i64 k ∧ Hid (wr.ownsRow w.heap.size 9 1 (.slice (some ⟨w.heap.size, 0, none⟩) n n) n ((zs.take k ++ List.replicate (n - k) (⟨#[]⟩ : ByteArray)).map Value.string)) ∧ Hid (Below w.heap.size w wr)) (fun i _ => n - (intOf i).toNat)
  case atStart => exact ⟨0, Nat.zero_le _, rfl, H0, hbel⟩
  case round =>
    obtain ⟨k, hk, rfl, HO, HB⟩ := hrel
    clear H0 hbel
    by_cases hkl : k < n
    · have hkN : k < N.length := by rw [HNN.out]; exact hkl
      obtain ⟨b, off, rfl, hcell⟩ := HC.out (by intro h0; rw [h0] at hkN; simp at hkN)
      have h4 := hcell k hkN
      have hbl := World.block_lt_of_cell? w _ h4.1
      obtain ⟨c0, c1, c2⟩ := h4.kept (w' := wr) (HB.out.block b hbl)
      have BB : Hid (∀ o, Below wr.heap.size wr (wr.alloc o)) := fun o => (Below.refl _ _).alloc (Nat.le_refl _) _
      have HX : Hid (∀ o, Calls Tryd.prog 13 #[tkV N[k]] (wr.alloc o) fun e w' => e = .returned (.string (tkTx N[k])) ∧ Below (wr.alloc o).heap.size (wr.alloc o) w') := fun o => implTokenText_any _ _ _ _ (HZ.out _ (List.getElem_mem hkN)) (HTB.out _ (HB.out.trans ((BB.out o).mono HB.out.size)))
      have HST' := Hid.mk (HST.out k (by rw [HLN.out]; exact hkl))
      have hgk := HG.out k hkN
      rw [hgk, HLN.out] at HST'
      generalize tkTx N[k] = x at HX HST'
      generalize N[k] = y at c0 c1 c2 HX
      have hki : (k : Int) < (n : Int) := by omega
      clear hcell h4 hgk
      go_wp2_with fail
      refine (HX.out _).mono ?_
      rintro e w2 ⟨rfl, hb2⟩
      have hb02 := (BB.out _).trans (hb2.mono (BB.out _).size)
      have hO2 := World.ownsRow.kept (row := none) HO.out ⟨hb02.os, hb02.tape, hb02.output, hb02.size, fun k hk _ => hb02.block k hk⟩ (.inr (by simp [Value.ownBlock]))
      have HB2 := HB.out.trans (hb02.mono HB.out.size)
      have hfr := hO2.frozenAt k
      have hold := hO2.cellAt k (by omega)
      have HR : Hid ((w2.setCell ⟨w.heap.size, k, none⟩ (.string x)).ownsRow w.heap.size 9 1 (.slice (some ⟨w.heap.size, 0, none⟩) n n) n ((zs.take (k + 1) ++ List.replicate (n - (k + 1)) (⟨#[]⟩ : ByteArray)).map Value.string)) := by
        have := (hO2.stored k (.string x)).1
        rw [map_set_str, HST'.out] at this
        exact this
      have HBR : Hid (Below w.heap.size w (w2.setCell ⟨w.heap.size, k, none⟩ (.string x))) := HB2.setCell (Nat.le_refl _) _
      obtain ⟨o, ho⟩ : ∃ o, ((zs.take k ++ List.replicate (n - k) (⟨#[]⟩ : ByteArray)).map Value.string)[k]? = some (.string o) := by
        have : k < (zs.take k ++ List.replicate (n - k) (⟨#[]⟩ : ByteArray)).length := by simp [HLN.out]; omega
        exact ⟨_, by rw [List.getElem?_map, List.getElem?_eq_getElem this]; rfl⟩
      rw [ho] at hold
      clear hb2 hb02 HB2 hO2 HX BB HO HB ho HST' c0 c1 c2
      go_wp2
      go_roundw
      case rel => exact ⟨k + 1, by omega, by go_num, HR, HBR⟩
      case measure => simp [intOf]; omega
    · have e : k = n := by omega
      subst e
      have hT : Hid (Tz wr (.slice (some ⟨w.heap.size, 0, none⟩) k k) zs) := OwnT.iz (base := w.heap.size) (by
        unfold OwnT
        rw [HLN.out]
        have := HO.out
        simp only [Nat.sub_self, List.replicate_zero, List.append_nil] at this
        rw [List.take_of_length_le (by rw [HLN.out]; exact Nat.le_refl _)] at this
        exact this)
      have HJ' := Hid.mk (HJ.out _ _ hT.out)
      clear HJ HO hT HST HTB HC HZ HG
      go_wp2_with fail
      refine HJ'.out.mono ?_
      rintro e w2 ⟨rfl, hb2⟩
      have HB2 := Hid.mk (HB.out.trans (hb2.mono HB.out.size))
      clear hb2 HJ' HB
      go_wp2
      go_ret
      exact ⟨rfl, HB2.out⟩
end Go.Proofs.YtkdjkkldnidmjaaDoor
