/- The program's layPart: the parts of one part. -/
import Derived.Test.YtapniafhcagogaaArrPart
import Derived.Test.YtapniafhcagogaaLayF
namespace Go.Proofs.Ytapniafhcagogaa
open Go.RowKit
set_option maxRecDepth 8000

theorem Mkd.tree {g : Nat} {w w' : World} (h : Mkd g w w') {B : Nat → Prop} (hB : ¬ B g) {l : List Tr} {v : Value} (hr : Rl w B l v) : Rl w' B l v := by
  refine hr.kept fun b hb hlt => h.block b hlt ?_
  rintro rfl
  exact hB hb
theorem Mkd.box {g : Nat} {w w' : World} (h : Mkd g w w') {b : Nat} {x y z : Value} (hb : Bz3 w b x y z) (hne : b ≠ g) : Bz3 w' b x y z := hb.kept (h.block b hb.lt hne)
theorem set_mid {N Y : List Nd} {x y : Nd} : (N ++ x :: Y).set N.length y = N ++ y :: Y := by
  rw [List.set_append_right _ _ (Nat.le_refl _), Nat.sub_self]
  rfl
theorem get_mid {N Y : List Nd} {x : Nd} (h : N.length < (N ++ x :: Y).length) : (N ++ x :: Y)[N.length] = x := by simp

theorem AB.setAB {w : World} {g : Nat} {M : List Nd} {y : Nd} (h : AB w g (M ++ [y])) {i : Nat} (hi : M.length = i) (a b : Int) : AB ((w.setCell ⟨g, i * 4 + 2, none⟩ (.int .i64 a)).setCell ⟨g, i * 4 + 3, none⟩ (.int .i64 b)) g (M ++ [{ y with a := a, b := b }]) := by
  subst hi
  have hlt : M.length < (M ++ [y]).length := by simp
  have h1 := h.setA (i := M.length) hlt a
  rw [get_last hlt, set_last] at h1
  have hlt2 : M.length < (M ++ [{ y with a := a }]).length := by simp
  have h2 := h1.setB (i := M.length) hlt2 b
  rw [get_last hlt2, set_last] at h2
  exact h2
theorem AB.lastC {w : World} {g : Nat} {M : List Nd} {y : Nd} (h : AB w g (M ++ [y])) {i : Nat} (hi : M.length = i) : At4 w g (i * 4) y := by
  subst hi
  have hlt : M.length < (M ++ [y]).length := by simp
  have := h.at4 (i := M.length) hlt
  rwa [get_last hlt] at this
theorem AB.cntL {w : World} {g : Nat} {M : List Nd} {y : Nd} (h : AB w g (M ++ [y])) {i : Nat} (hi : M.length = i) : w.cell? ⟨g, 1200, none⟩ = some (.int .i64 ((i : Int) + 1)) := by
  have := h.cnt
  rw [List.length_append, hi] at this
  exact this

set_option maxHeartbeats 2000000 in
theorem arrPart_8 (t : Tr) (hk : t.k = 8) (ih : ∀ x ∈ t.l, ApC x) : ApC t := by
  intro B v g N w hA h hB hok hn
  have hlay := lay_eq t N.length
  rw [if_neg (by omega), if_neg (by omega), if_neg (by omega), if_neg (by omega), if_neg (by omega), if_neg (by omega), if_neg (by omega), if_pos hk] at hlay
  have hnsz := nsz_eq t
  rw [if_neg (by omega), if_neg (by omega), if_neg (by omega)] at hnsz
  rw [← hnsz] at hlay
  obtain ⟨x, hx⟩ := okT_one hok (.inr (.inr hk))
  have hokx := okT_kids hok x (by rw [hx]; exact List.mem_singleton.2 rfl)
  have hihx := ih x (by rw [hx]; exact List.mem_singleton.2 rfl)
  have hnx : x.nsz + 1 = t.nsz := by rw [hnsz, hx, nszL, nszL]
  rw [hx, layL_one] at hlay
  rw [hlay]
  have HLX := Hid.mk (lay_len x hokx (N.length + 1))
  obtain ⟨ao, cap, rfl, hl1, hl2, -⟩ := h.len
  unfold maxLen at hl2
  have X0 := Hid.mk (Bz3.new w (.int .i64 t.k) (.string t.s) (.slice ao t.l.length cap))
  have A0 : Hid (Below w.heap.size w (w.alloc (.cells #[.int .i64 t.k, .string t.s, .slice ao t.l.length cap] 26))) := (Below.refl _ _).alloc (Nat.le_refl _) _
  have HF := Hid.mk (arrFork_any N g _ (hA.grow A0.out) (by omega))
  have HR := Hid.mk (h.grow A0.out)
  have hgw := hA.lt
  have hlen1 : t.l.length = 1 := by rw [hx]; rfl
  rw [hk] at X0 A0 HF HR ⊢
  rw [hlen1] at X0 A0 HF HR hl1 ⊢
  rw [hx] at HR
  generalize t.s = ts at *
  generalize hnt : t.nsz = T at *
  have HIX := Hid.mk hihx
  have HOX := Hid.mk hokx
  clear hlay hA h hk hok hx hlen1 hihx hokx ih hnsz hnt
  have x0 := X0.out.c0
  go_enter Try.func49, Try.ntmps49
  go_wp2_with fail
  refine HF.out.mono ?_
  rintro e w1 ⟨rfl, h1, m1⟩
  have X1 := Hid.mk (m1.box X0.out (by omega))
  have R1 := Hid.mk (m1.tree hB HR.out)
  have M1 := Hid.mk ((Mkd.below A0.out).trans m1)
  have H1 := Hid.mk h1
  clear h1 m1 HF A0 X0 x0 HR
  obtain ⟨b, off, V, rfl, hel⟩ := R1.out.elems (by simp)
  obtain ⟨⟨c0, c1, c2⟩, hsub, hss⟩ := hel 0 (by simp)
  simp only [List.getElem_cons_zero, Nat.zero_mul, Nat.add_zero] at c0 c1 c2 hsub hss
  have HCX := Hid.mk (HIX.out B (V 0) g _ w1 H1.out hsub hB HOX.out (by simp; omega))
  have z2 := X1.out.c2
  clear hel hsub hss HIX HOX
  go_wp2_with fail
  refine HCX.out.mono ?_
  rintro e w2 ⟨⟨q, rfl⟩, h2, m2⟩
  have hl2' : (N ++ [(⟨4, ⟨#[]⟩, (N.length : Int) + 1, 0⟩ : Nd)]).length = N.length + 1 := by simp
  rw [hl2', List.append_assoc, List.singleton_append] at h2
  have hlt2 : N.length < (N ++ (⟨4, ⟨#[]⟩, (N.length : Int) + 1, 0⟩ : Nd) :: x.lay (N.length + 1)).length := by simp
  have hc2 := h2.cnt
  have hll : (N ++ (⟨4, ⟨#[]⟩, (N.length : Int) + 1, 0⟩ : Nd) :: x.lay (N.length + 1)).length = N.length + T := by simp [HLX.out]; omega
  rw [hll] at hc2
  obtain ⟨d0, d1, d2, d3⟩ := h2.at4 (i := N.length) hlt2
  have f3 := h2.fr (N.length * 4 + 3)
  have HS : Hid (AB (w2.setCell ⟨g, N.length * 4 + 3, none⟩ (.int .i64 ((N.length + T : Nat) : Int))) g (N ++ split (N.length + 1) (N.length + T) :: x.lay (N.length + 1))) := by
    have := h2.setB (i := N.length) hlt2 ((N.length + T : Nat) : Int)
    rw [get_mid hlt2, set_mid] at this
    exact this
  have M2 := Hid.mk ((M1.out.trans m2).set (o := N.length * 4 + 3) (.int .i64 ((N.length + T : Nat) : Int)))
  rw [get_mid hlt2] at d0 d1 d2 d3
  clear h2 m2 HCX M1 H1 X1 R1 hll hl2' z2 c0 c1 c2 d0 d1 d2 hlt2 HLX
  go_wp2
  refine bodyPost_end (v := .tuple #[]) (by simp [results, Try.results49, go_sem]) rfl ⟨⟨_, rfl⟩, HS.out, M2.out⟩

set_option maxHeartbeats 2000000 in
theorem arrPart_7 (t : Tr) (hk : t.k = 7) (ih : ∀ x ∈ t.l, ApC x) : ApC t := by
  intro B v g N w hA h hB hok hn
  have hlay := lay_eq t N.length
  rw [if_neg (by omega), if_neg (by omega), if_neg (by omega), if_neg (by omega), if_neg (by omega), if_neg (by omega), if_pos hk] at hlay
  have hnsz := nsz_eq t
  rw [if_neg (by omega), if_neg (by omega), if_neg (by omega)] at hnsz
  rw [← hnsz] at hlay
  obtain ⟨x, hx⟩ := okT_one hok (.inr (.inl hk))
  have hokx := okT_kids hok x (by rw [hx]; exact List.mem_singleton.2 rfl)
  have hihx := ih x (by rw [hx]; exact List.mem_singleton.2 rfl)
  have hnx : x.nsz + 1 = t.nsz := by rw [hnsz, hx, nszL, nszL]
  rw [hx, layL_one] at hlay
  rw [hlay]
  have HLX := Hid.mk (lay_len x hokx N.length)
  obtain ⟨ao, cap, rfl, hl1, hl2, -⟩ := h.len
  unfold maxLen at hl2
  have X0 := Hid.mk (Bz3.new w (.int .i64 t.k) (.string t.s) (.slice ao t.l.length cap))
  have A0 : Hid (Below w.heap.size w (w.alloc (.cells #[.int .i64 t.k, .string t.s, .slice ao t.l.length cap] 26))) := (Below.refl _ _).alloc (Nat.le_refl _) _
  have H0 := Hid.mk (hA.grow A0.out)
  have HR := Hid.mk (h.grow A0.out)
  have hgw := hA.lt
  have hlen1 : t.l.length = 1 := by rw [hx]; rfl
  rw [hk] at X0 A0 H0 HR ⊢
  rw [hlen1] at X0 A0 H0 HR hl1 ⊢
  rw [hx] at HR
  generalize t.s = ts at *
  generalize hnt : t.nsz = T at *
  have HIX := Hid.mk hihx
  have HOX := Hid.mk hokx
  clear hlay hA h hk hok hx hlen1 hihx hokx ih hnsz hnt
  have x0 := X0.out.c0
  have cn := H0.out.cnt
  obtain ⟨b, off, V, rfl, hel⟩ := HR.out.elems (by simp)
  obtain ⟨⟨c0, c1, c2⟩, hsub, hss⟩ := hel 0 (by simp)
  simp only [List.getElem_cons_zero, Nat.zero_mul, Nat.add_zero] at c0 c1 c2 hsub hss
  have HCX := Hid.mk (HIX.out B (V 0) g _ _ H0.out hsub hB HOX.out (by omega))
  have x2 := X0.out.c2
  clear hel hsub hss HIX HOX HR
  go_enter Try.func49, Try.ntmps49
  go_wp2_with fail
  refine HCX.out.mono ?_
  rintro e w1 ⟨⟨q, rfl⟩, h1, m1⟩
  have M1 := Hid.mk ((Mkd.below A0.out).trans m1)
  have hl3 : (N ++ x.lay N.length).length = N.length + x.nsz := by rw [List.length_append, HLX.out]
  have HL := Hid.mk (arrLay_any _ g 4 w1 h1 (by rw [hl3]; omega))
  rw [hl3] at HL
  clear h1 m1 HCX A0 X0 x0 x2 c0 c1 c2 cn H0
  go_wp2_with fail
  refine HL.out.mono ?_
  rintro e w2 ⟨rfl, h2, m2⟩
  have i2 : N.length + x.nsz + 1 = N.length + T := by omega
  have cn := h2.cntL hl3
  rw [show ((N.length + x.nsz : Nat) : Int) + 1 = ((N.length + T : Nat) : Int) by omega] at cn
  obtain ⟨d0, d1, d2, d3⟩ := h2.lastC hl3
  have f2 := h2.fr ((N.length + x.nsz) * 4 + 2)
  have f3 := h2.fr ((N.length + x.nsz) * 4 + 3)
  have HS := Hid.mk (h2.setAB hl3 (N.length : Int) ((N.length + T : Nat) : Int))
  rw [List.append_assoc] at HS
  have M3 := Hid.mk (((M1.out.trans m2).set (o := (N.length + x.nsz) * 4 + 2) (.int .i64 (N.length : Int))).set (o := (N.length + x.nsz) * 4 + 3) (.int .i64 ((N.length + T : Nat) : Int)))
  simp only at d0 d1 d2 d3
  clear HL M1 m2 h2 hl3 HLX
  go_wp2
  refine bodyPost_end (v := .tuple #[]) (by simp [results, Try.results49, go_sem]) rfl ⟨⟨_, rfl⟩, HS.out, M3.out⟩

set_option maxHeartbeats 2000000 in
theorem arrStar_any (x : Tr) (B : Nat → Prop) (v : Value) (g : Nat) (N : List Nd) (w : World) (hA : AB w g N) (h : Rl w B x.l v) (hB : ¬ B g) (hok : x.okT = true) (hn : N.length + x.nsz + 2 ≤ 299) (ih : ApC x) :
    Calls Try.prog 78 #[.pointer (some ⟨g, 0, none⟩), rx x.k x.s v] w fun e w' => (∃ x, e = .returned x) ∧ AB w' g (N ++ split (N.length + 1) (N.length + (x.nsz + 2)) :: (x.lay (N.length + 1) ++ [split N.length N.length])) ∧ Mkd g w w' := by
  have HLX := Hid.mk (lay_len x hok (N.length + 1))
  obtain ⟨ao, cap, rfl, hl1, hl2, -⟩ := h.len
  have X0 := Hid.mk (Bz3.new w (.int .i64 x.k) (.string x.s) (.slice ao x.l.length cap))
  have A0 : Hid (Below w.heap.size w (w.alloc (.cells #[.int .i64 x.k, .string x.s, .slice ao x.l.length cap] 26))) := (Below.refl _ _).alloc (Nat.le_refl _) _
  have hA0 := hA.grow A0.out
  have hgw := hA.lt
  have cn := hA0.cnt
  have HF := Hid.mk (arrFork_any N g _ hA0 (by omega))
  have HR := Hid.mk (h.grow A0.out)
  have HIX := Hid.mk ih
  have HOX := Hid.mk hok
  have x0 := X0.out.c0
  clear hA hA0 h ih hok hl2
  go_enter Try.func78, Try.ntmps78
  go_wp2_with fail
  refine HF.out.mono ?_
  rintro e w1 ⟨rfl, h1, m1⟩
  have R1 := Hid.mk (m1.tree hB HR.out)
  have X1 := Hid.mk (m1.box X0.out (by omega))
  have M1 := Hid.mk ((Mkd.below A0.out).trans m1)
  have HCX := Hid.mk (HIX.out B _ g _ w1 h1 R1.out hB HOX.out (by simp; omega))
  have y0 := X1.out.c0
  have y1 := X1.out.c1
  have y2 := X1.out.c2
  clear h1 m1 HF HR HIX HOX cn x0 X0 A0
  go_wp2_with fail
  refine HCX.out.mono ?_
  rintro e w2 ⟨⟨q, rfl⟩, h2, m2⟩
  have M2 := Hid.mk (M1.out.trans m2)
  have hl2' : (N ++ [(⟨4, ⟨#[]⟩, (N.length : Int) + 1, 0⟩ : Nd)]).length = N.length + 1 := by simp
  rw [hl2', List.append_assoc, List.singleton_append] at h2
  generalize hF : (⟨4, ⟨#[]⟩, (N.length : Int) + 1, 0⟩ : Nd) = F at h2
  have HFF := Hid.mk hF
  have hl3 : (N ++ F :: x.lay (N.length + 1)).length = N.length + 1 + x.nsz := by simp [HLX.out]; omega
  have HL := Hid.mk (arrLay_any _ g 4 w2 h2 (by rw [hl3]; omega))
  rw [hl3] at HL
  clear h2 m2 HCX M1 hF hl2' R1 X1 y0 y1 y2
  go_wp2_with fail
  refine HL.out.mono ?_
  rintro e w3 ⟨rfl, h3, m3⟩
  obtain ⟨d0, d1, d2, d3⟩ := h3.lastC hl3
  have f2 := h3.fr ((N.length + 1 + x.nsz) * 4 + 2)
  have f3 := h3.fr ((N.length + 1 + x.nsz) * 4 + 3)
  have h4 := h3.setAB hl3 (N.length : Int) (N.length : Int)
  have M4 := Hid.mk (((M2.out.trans m3).set (o := (N.length + 1 + x.nsz) * 4 + 2) (.int .i64 (N.length : Int))).set (o := (N.length + 1 + x.nsz) * 4 + 3) (.int .i64 (N.length : Int)))
  simp only at d0 d1 d2 d3
  have cn := h4.cntL hl3
  rw [show ((N.length + 1 + x.nsz : Nat) : Int) + 1 = ((N.length + (x.nsz + 2) : Nat) : Int) by omega] at cn
  rw [List.append_assoc, List.cons_append] at h4
  have hlt4 : N.length < (N ++ F :: (x.lay (N.length + 1) ++ [(⟨4, ⟨#[]⟩, (N.length : Int), (N.length : Int)⟩ : Nd)])).length := by simp
  obtain ⟨e0, e1, e2, e3⟩ := h4.at4 (i := N.length) hlt4
  have f4 := h4.fr (N.length * 4 + 3)
  have h5 := h4.setB (i := N.length) hlt4 ((N.length + (x.nsz + 2) : Nat) : Int)
  rw [get_mid hlt4, set_mid, ← HFF.out] at h5
  rw [get_mid hlt4, ← HFF.out] at e0 e1 e2 e3
  have HS := Hid.mk h5
  have M5 := Hid.mk (M4.out.set (o := N.length * 4 + 3) (.int .i64 ((N.length + (x.nsz + 2) : Nat) : Int)))
  simp only at e0 e1 e2 e3
  clear h3 h4 h5 m3 HL M2 M4 HFF hlt4 hl3 HLX
  go_wp2
  refine bodyPost_end (v := .tuple #[]) (by simp [results, Try.results78, go_sem]) rfl ⟨⟨_, rfl⟩, HS.out, M5.out⟩
end Go.Proofs.Ytapniafhcagogaa
