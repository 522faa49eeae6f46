/- The program's layPart: one behind the other, and as often as may be. -/
import Derived.Test.YtapniafhcagogaaArrF
import Derived.Test.YtapniafhcagogaaLayG
namespace Go.Proofs.Ytapniafhcagogaa
open Go.RowKit
set_option maxRecDepth 8000

set_option maxHeartbeats 2000000 in
theorem arrPart_6 (t : Tr) (hk : t.k = 6) (ih : ∀ x ∈ t.l, ApC x) : ApC t := by
  intro B v g N w hA h hB hok hn
  have hlay := lay_eq t N.length
  rw [if_neg (by omega), if_neg (by omega), if_neg (by omega), if_neg (by omega), if_neg (by omega), if_pos hk] at hlay
  have hnsz := nsz_eq t
  rw [if_neg (by omega), if_neg (by omega), if_pos hk] at hnsz
  obtain ⟨x, hx⟩ := okT_one hok (.inl hk)
  have hokx := okT_kids hok x (by rw [hx]; exact List.mem_singleton.2 rfl)
  have hihx := ih x (by rw [hx]; exact List.mem_singleton.2 rfl)
  have hnx : nszL [x] = x.nsz := by rw [nszL, nszL]; rfl
  rw [hx, layL_one, hnx] at hlay
  rw [hx, hnx] at hnsz
  rw [hlay]
  obtain ⟨ao, cap, rfl, hl1, hl2, -⟩ := h.len
  unfold maxLen at hl2
  have X0 := Hid.mk (Bz3.new w (.int .i64 t.k) (.string t.s) (.slice ao t.l.length cap))
  have A0 : Hid (Below w.heap.size w (w.alloc (.cells #[.int .i64 t.k, .string t.s, .slice ao t.l.length cap] 26))) := (Below.refl _ _).alloc (Nat.le_refl _) _
  have H0 := Hid.mk (hA.grow A0.out)
  have HR := Hid.mk (h.grow A0.out)
  have hlen1 : t.l.length = 1 := by rw [hx]; rfl
  rw [hk] at X0 A0 H0 HR ⊢
  rw [hlen1] at X0 A0 H0 HR hl1 ⊢
  rw [hx] at HR
  generalize t.s = ts at *
  have x0 := X0.out.c0
  obtain ⟨b, off, V, rfl, hel⟩ := HR.out.elems (by simp)
  obtain ⟨⟨c0, c1, c2⟩, hsub, hss⟩ := hel 0 (by simp)
  simp only [List.getElem_cons_zero, Nat.zero_mul, Nat.add_zero] at c0 c1 c2 hsub hss
  have HCX := Hid.mk (arrStar_any x B (V 0) g N _ H0.out hsub hB hokx (by omega) hihx)
  have x2 := X0.out.c2
  clear hel hsub hss HR hlay hA h hk hok hx hlen1 hihx hokx ih hnsz H0
  go_enter Try.func49, Try.ntmps49
  go_wp2_with fail
  refine HCX.out.mono ?_
  rintro e w1 ⟨⟨q, rfl⟩, h1, m1⟩
  have H1 := Hid.mk h1
  have M1 := Hid.mk ((Mkd.below A0.out).trans m1)
  clear h1 m1 HCX A0 X0 x0 x2 c0 c1 c2
  go_wp2
  refine bodyPost_end (v := .tuple #[]) (by simp [results, Try.results49, go_sem]) rfl ⟨⟨_, rfl⟩, H1.out, M1.out⟩

set_option maxHeartbeats 2000000 in
theorem arrPart_4 (t : Tr) (hk : t.k = 4) (ih : ∀ x ∈ t.l, ApC x) : ApC t := by
  intro B v g N w hA h hB hok hn
  have hlay := lay_eq t N.length
  rw [if_neg (by omega), if_neg (by omega), if_neg (by omega), if_pos hk] at hlay
  have hnsz := nsz_eq t
  rw [if_pos (.inr hk)] at hnsz
  rw [hlay]
  have h8 := okT_two hok (.inl hk)
  have HOX := Hid.mk (okT_kids hok)
  have HIX := Hid.mk ih
  obtain ⟨ao, cap, rfl, hl1, hl2, -⟩ := h.len
  unfold maxLen at hl2
  have X0 := Hid.mk (Bz3.new w (.int .i64 t.k) (.string t.s) (.slice ao t.l.length cap))
  have A0 : Hid (Below w.heap.size w (w.alloc (.cells #[.int .i64 t.k, .string t.s, .slice ao t.l.length cap] 26))) := (Below.refl _ _).alloc (Nat.le_refl _) _
  have H0 := Hid.mk (hA.grow A0.out)
  have HR := Hid.mk h
  have hgw := hA.lt
  rw [hnsz] at hn
  rw [hk] at X0 A0 H0 ⊢
  generalize t.s = ts at *
  generalize t.l = l at *
  have x0 := X0.out.c0
  have x2 := X0.out.c2
  have HLE := Hid.mk (nszL_le l)
  have HTK := Hid.mk (nszL_take l)
  have HLT := Hid.mk (layL_take l)
  have HLL : Hid (∀ k p, (layL (l.take k) p).length = nszL (l.take k)) := fun k p => layL_len _ (fun x hx => lay_len x (HOX.out x (List.mem_of_mem_take hx))) p
  have HALL : Hid (layL (l.take l.length) N.length = layL l N.length) := by show _ = _; rw [List.take_length]
  have HZ : Hid (N ++ layL (l.take 0) N.length = N) := by show _ = _; rw [List.take_zero, layL, List.append_nil]
  clear hlay hA h hk hok ih hnsz
  go_enter Try.func49, Try.ntmps49
  go_wp2_with fail
  go_loopw [32] (fun i wr => ∃ (k : Nat) (M : List Nd), k ≤ l.length ∧ i = .int .i64 k ∧ Hid (M = N ++ layL (l.take k) N.length) ∧ Hid (AB wr g M) ∧ Hid (Mkd g w wr)) (fun i _ => l.length - (intOf i).toNat)
  case atStart => exact ⟨0, N, Nat.zero_le _, rfl, HZ.out.symm, H0.out, Mkd.below A0.out⟩
  case round =>
    obtain ⟨k, M, hkl0, rfl, HM, HA, HB⟩ := hrel
    clear x0 x2 X0 A0 HZ H0
    by_cases hkl : k < l.length
    · have RR := Hid.mk (HB.out.tree hB HR.out)
      obtain ⟨b, off, V, rfl, hel⟩ := RR.out.elems (by intro hn; rw [hn] at hkl; simp at hkl)
      obtain ⟨⟨c0, c1, c2⟩, hsub, hss⟩ := hel k hkl
      have hle := HLE.out (k + 1)
      have htk := HTK.out k hkl
      have hml : M.length = N.length + nszL (l.take k) := by rw [HM.out, List.length_append, HLL.out]
      have BB : Hid (∀ o, Below wr.heap.size wr (wr.alloc o)) := fun o => (Below.refl _ _).alloc (Nat.le_refl _) _
      have HCX : Hid (∀ o, Calls Try.prog 49 #[.pointer (some ⟨g, 0, none⟩), rx l[k].k l[k].s (V k)] (wr.alloc o) fun e w' => (∃ x, e = .returned x) ∧ AB w' g (M ++ l[k].lay M.length) ∧ Mkd g (wr.alloc o) w') := fun o => HIX.out l[k] (List.getElem_mem hkl) B (V k) g M _ (HA.out.grow (BB.out o)) (hsub.grow (BB.out o)) hB (HOX.out _ (List.getElem_mem hkl)) (by omega)
      have HNX : Hid (M ++ l[k].lay M.length = N ++ layL (l.take (k + 1)) N.length) := by
        show _ = _
        rw [HLT.out k hkl N.length, ← List.append_assoc, ← HM.out, hml]
      obtain ⟨va, vc, hv, -⟩ := hsub.len
      rw [hv] at c2 HCX
      clear hv
      generalize l[k].l.length = vn at c2 HCX
      generalize l[k] = x at c0 c1 c2 HCX HNX
      have hi1 : (k : Int) < (l.length : Int) := by omega
      clear hel hsub hss hle htk hml RR HIX HOX HLE HTK HLT HLL HM HA HR
      go_wp2_with fail
      refine (HCX.out _).mono ?_
      rintro e w4 ⟨⟨q, rfl⟩, h4, m4⟩
      have HA4 := Hid.mk h4
      have HB4 := Hid.mk (HB.out.trans ((Mkd.below (BB.out _)).trans m4))
      generalize hP : M ++ x.lay M.length = P at *
      clear hP h4 m4 HCX HB c0 c1 c2 BB
      go_wp2
      go_roundw
      case rel => exact ⟨k + 1, P, by omega, by go_num, HNX, HA4, HB4⟩
      case measure => simp [intOf]; omega
    · have e : k = l.length := by omega
      subst e
      have HA9 : Hid (AB wr g (N ++ layL l N.length)) := by
        show AB _ _ _
        rw [← HALL.out, ← HM.out]
        exact HA.out
      clear HA HM HALL HIX HOX HLE HTK HLT HLL HR
      go_wp2
      refine bodyPost_end (v := .tuple #[]) (by simp [results, Try.results49, go_sem]) rfl ⟨⟨_, rfl⟩, HA9.out, HB.out⟩
end Go.Proofs.Ytapniafhcagogaa
