/- A drawn expression that is right, and a text. -/
import Derived.Test.YthifleacfhijnaaDoorDrawEnds
namespace Go.Proofs.YthifleacfhijnaaDoor
open Go.RowKit
set_option maxRecDepth 8000

/-- A drawn expression is right. -/
theorem Dn.okT : ∀ {d : Nat} {t : Tr}, Dn d t → t.okT = true := by
  intro d
  induction d with
  | zero =>
    intro t h
    obtain ⟨h1, h2⟩ := h
    rw [okT_eq, h1]
    cases t with
    | node k s l => simp only [Tr.l] at h1; subst h1; rw [okL, Bool.true_and]; exact h2.1
  | succ d ih =>
    intro t h
    rcases h with ⟨h1, h2⟩ | ⟨h1, _, _, h4⟩
    · rw [okT_eq, h1]
      cases t with
      | node k s l => simp only [Tr.l] at h1; subst h1; rw [okL, Bool.true_and]; exact h2.1
    · rw [okT_eq, h1, Bool.and_true, okL_iff]
      exact fun x hx => ih (h4 x hx)
theorem cntL_le (l : List Tr) (m : Nat) (h : ∀ x ∈ l, x.cnt ≤ m) : cntL l ≤ l.length * m := by
  induction l with
  | nil => simp [cntL]
  | cons x r ih =>
    have h1 := h x (List.mem_cons_self ..)
    have h2 := ih (fun y hy => h y (List.mem_cons_of_mem _ hy))
    rw [cntL, List.length_cons, Nat.add_mul, Nat.one_mul]
    omega
theorem Dn.cnt : ∀ {d : Nat} {t : Tr}, Dn d t → d ≤ 3 → t.cnt ≤ [1, 4, 13, 40].getD d 0 := by
  intro d
  induction d with
  | zero =>
    intro t h _
    rw [cnt_eq, h.1]
    simp [cntL]
  | succ d ih =>
    intro t h hd
    have hpos : 1 ≤ [1, 4, 13, 40].getD (d + 1) 0 := by
      rcases (show d = 0 ∨ d = 1 ∨ d = 2 by omega) with rfl | rfl | rfl <;> decide
    rcases h with ⟨h1, h2⟩ | ⟨_, _, h3, h4⟩
    · rw [cnt_eq, h1]
      simp only [cntL]
      omega
    · have h5 := cntL_le t.l ([1, 4, 13, 40].getD d 0) (fun x hx => ih (h4 x hx) (by omega))
      rw [cnt_eq]
      have h6 : t.l.length * [1, 4, 13, 40].getD d 0 ≤ 3 * [1, 4, 13, 40].getD d 0 := Nat.mul_le_mul_right _ h3
      have h7 : 1 + 3 * [1, 4, 13, 40].getD d 0 = [1, 4, 13, 40].getD (d + 1) 0 := by
        rcases (show d = 0 ∨ d = 1 ∨ d = 2 by omega) with rfl | rfl | rfl <;> decide
      omega
theorem Dn.dp : ∀ {d : Nat} {t : Tr}, Dn d t → ∀ f, d < f → dpF f t = true := by
  intro d
  induction d with
  | zero =>
    intro t h f hf
    obtain ⟨f, rfl⟩ : ∃ f', f = f' + 1 := ⟨f - 1, by omega⟩
    rw [dpF, h.1]
    rfl
  | succ d ih =>
    intro t h f hf
    obtain ⟨f, rfl⟩ : ∃ f', f = f' + 1 := ⟨f - 1, by omega⟩
    rcases h with ⟨h1, h2⟩ | ⟨_, _, h3, h4⟩
    · rw [dpF, h1]; rfl
    · rw [dpF, List.all_eq_true]
      exact fun x hx => ih (h4 x hx) f (by omega)
theorem Dn.okR {t : Tr} (h : Dn 3 t) : okR t = true := by
  have h1 := h.cnt (Nat.le_refl 3)
  have h2 := h.dp 6 (by omega)
  have h3 := ((parts_spec 6 t).1).2 ⟨h2, by simp at h1; omega⟩
  unfold Proofs.YthifleacfhijnaaDoor.okR
  rw [decide_eq_true h3, h.okT]
  rfl

set_option maxHeartbeats 2000000 in
theorem drawRex_any (v : Value) (zs : List Int) (w : World) (h : Bs w v zs) (hlen : zs.length ≤ 1048576) :
    Calls Tryd.prog 15 #[v] w fun e w' => ∃ (t : Tr) (u : Value) (s : ByteArray), e = .returned (.tuple #[rx t.k t.s u, .string s]) ∧ Dn 3 t ∧ s.size ≤ 6 ∧ Rl w' (newFrom w.heap.size) t.l u ∧ Below w.heap.size w w' := by
  have H := Hid.mk (h.grow ((Below.refl w.heap.size w).alloc (Nat.le_refl _) (.cells #[.int .i64 0, .string ⟨#[]⟩, .slice none 0 0] 26)))
  have Z0 := Hid.mk (Bz3.new w (.int .i64 0) (.string ⟨#[]⟩) (.slice none 0 0))
  have A0 : Hid (Below w.heap.size w (w.alloc (.cells #[.int .i64 0, .string ⟨#[]⟩, .slice none 0 0] 26))) := (Below.refl _ _).alloc (Nat.le_refl _) _
  have S0 : (w.alloc (.cells #[.int .i64 0, .string ⟨#[]⟩, .slice none 0 0] 26)).heap.size = w.heap.size + 1 := by simp
  clear h
  go_enter Tryd.func15, Tryd.ntmps15
  go_wp2_with fail
  generalize w.alloc (.cells #[.int .i64 0, .string ⟨#[]⟩, .slice none 0 0] 26) = W0 at H Z0 A0 S0 ⊢
  refine (l1New_any v zs W0 H.out hlen).mono ?_
  rintro e w1 ⟨rfl, hC1, hb1⟩
  have C1 := Hid.mk hC1
  have Z1 := Hid.mk (Z0.out.grow hb1)
  have B1 := Hid.mk (A0.out.trans (hb1.mono (by omega)))
  rw [S0] at C1 ⊢
  clear hC1 hb1 H Z0 A0 S0
  go_wp2_with fail
  refine (l3Draw_any 3 (by omega) (w.heap.size + 1) v zs w1 C1.out).mono ?_
  rintro e w2 ⟨t, u, rfl, hdn, how, hC2, hg2⟩
  obtain ⟨au, cu, rfl, -⟩ := how.rl.len
  obtain ⟨tk, htk⟩ : ∃ tk, t.k = tk := ⟨_, rfl⟩
  obtain ⟨ts, hts'⟩ : ∃ ts, t.s = ts := ⟨_, rfl⟩
  have s12 := hg2.size
  have hc1 := C1.out.lt
  have C2 := Hid.mk hC2
  have Z2 := Hid.mk (Z1.out.by hg2 (by omega))
  have R2 := Hid.mk (how.rl.imp (C := fun b => w.heap.size + 2 ≤ b ∧ b < w2.heap.size) (fun b hb hlt => ⟨by unfold newFrom at hb; omega, hlt⟩))
  have B2 : Hid (Below w.heap.size w w2) := B1.out.grown hg2 B1.out.size (fun k e => by simp at e; omega)
  have HDN := Hid.mk hdn
  rw [htk, hts']
  have HTK := Hid.mk htk
  have HTS := Hid.mk hts'
  clear hdn how hC2 hg2 htk hts' C1 Z1 B1
  go_wp2_with fail
  refine (l4Text_any (w.heap.size + 1) v zs w2 C2.out).mono ?_
  rintro e w3 ⟨s, rfl, hs6, hC3, hg3⟩
  have Z3 := Hid.mk (Z2.out.by hg3 (by omega))
  have R3 := Hid.mk (R2.out.kept (w' := w3) (fun b hb hlt => hg3.block b hlt (by simp; omega)))
  have B3 : Hid (Below w.heap.size w w3) := B2.out.grown hg3 B2.out.size (fun k e => by simp at e; omega)
  clear hC3 hg3 C2 Z2 R2 B2
  have z0 := Z3.out.c0
  have z1 := Z3.out.c1
  have z2 := Z3.out.c2
  have zf := Z3.out.fr
  have Y4 := Z3.out.put (.int .i64 tk) (.string ts) (.slice au t.l.length cu)
  have R4 := Hid.mk (R3.out.kept (w' := sz3 w3 w.heap.size (.int .i64 tk) (.string ts) (.slice au t.l.length cu)) (fun b hb _ => sz3_other _ _ _ _ _ _ (by omega)))
  have B4 : Hid (Below w.heap.size w (sz3 w3 w.heap.size (.int .i64 tk) (.string ts) (.slice au t.l.length cu))) := ⟨B3.out.os, B3.out.tape, B3.out.output, by rw [sz3_size]; exact B3.out.size, fun b hb => (sz3_other _ _ _ _ _ _ (by omega)).trans (B3.out.block b hb)⟩
  clear R3 B3 Z3
  have HY4 := Hid.mk Y4
  clear Y4
  generalize hll : t.l.length = ll at *
  go_wp2_with fail
  have q0 := HY4.out.c0
  have q1 := HY4.out.c1
  have q2 := HY4.out.c2
  refine bodyPost_ret (v := .tuple #[rx tk ts (.slice au ll cu), .string s]) (by simp [results, Tryd.results15, go_sem, q0, q1, q2]) rfl ⟨t, .slice au ll cu, s, by rw [HTK.out, HTS.out], HDN.out, hs6, R4.out.imp (fun b hb _ => by unfold newFrom; omega), B4.out⟩

set_option maxHeartbeats 2000000 in
theorem drawMatches_any (v : Value) (zs : List Int) (w : World) (h : Bs w v zs) (hlen : zs.length ≤ 1048576) :
    Calls Tryd.prog 16 #[v] w fun e w' => ∃ (t : Tr) (u : Value) (s : ByteArray), e = .returned (.tuple #[rx t.k t.s u, .string s]) ∧ Dn 3 t ∧ s.size ≤ 6 ∧ Rl w' (newFrom w.heap.size) t.l u ∧ Below w.heap.size w w' := by
  have H := Hid.mk (h.grow ((Below.refl w.heap.size w).alloc (Nat.le_refl _) (.cells #[.int .i64 0, .string ⟨#[]⟩, .slice none 0 0] 26)))
  have Z0 := Hid.mk (Bz3.new w (.int .i64 0) (.string ⟨#[]⟩) (.slice none 0 0))
  have A0 : Hid (Below w.heap.size w (w.alloc (.cells #[.int .i64 0, .string ⟨#[]⟩, .slice none 0 0] 26))) := (Below.refl _ _).alloc (Nat.le_refl _) _
  have S0 : (w.alloc (.cells #[.int .i64 0, .string ⟨#[]⟩, .slice none 0 0] 26)).heap.size = w.heap.size + 1 := by simp
  clear h
  go_enter Tryd.func16, Tryd.ntmps16
  go_wp2_with fail
  generalize w.alloc (.cells #[.int .i64 0, .string ⟨#[]⟩, .slice none 0 0] 26) = W0 at H Z0 A0 S0 ⊢
  refine (l1New_any v zs W0 H.out hlen).mono ?_
  rintro e w1 ⟨rfl, hC1, hb1⟩
  have C1 := Hid.mk hC1
  have Z1 := Hid.mk (Z0.out.grow hb1)
  have B1 := Hid.mk (A0.out.trans (hb1.mono (by omega)))
  rw [S0] at C1 ⊢
  clear hC1 hb1 H Z0 A0 S0
  go_wp2_with fail
  refine (l3Draw_any 3 (by omega) (w.heap.size + 1) v zs w1 C1.out).mono ?_
  rintro e w2 ⟨t, u, rfl, hdn, how, hC2, hg2⟩
  obtain ⟨au, cu, rfl, -⟩ := how.rl.len
  obtain ⟨tk, htk⟩ : ∃ tk, t.k = tk := ⟨_, rfl⟩
  obtain ⟨ts, hts'⟩ : ∃ ts, t.s = ts := ⟨_, rfl⟩
  have s12 := hg2.size
  have hc1 := C1.out.lt
  have C2 := Hid.mk hC2
  have Z2 := Hid.mk (Z1.out.by hg2 (by omega))
  have R2 := Hid.mk (how.rl.imp (C := fun b => w.heap.size + 2 ≤ b ∧ b < w2.heap.size) (fun b hb hlt => ⟨by unfold newFrom at hb; omega, hlt⟩))
  have B2 : Hid (Below w.heap.size w w2) := B1.out.grown hg2 B1.out.size (fun k e => by simp at e; omega)
  have HDN := Hid.mk hdn
  rw [htk, hts']
  have HTK := Hid.mk htk
  have HTS := Hid.mk hts'
  clear hdn how hC2 hg2 htk hts' C1 Z1 B1
  go_wp2_with fail
  refine (l4Text_any (w.heap.size + 1) v zs w2 C2.out).mono ?_
  rintro e w3 ⟨s, rfl, hs6, hC3, hg3⟩
  have Z3 := Hid.mk (Z2.out.by hg3 (by omega))
  have R3 := Hid.mk (R2.out.kept (w' := w3) (fun b hb hlt => hg3.block b hlt (by simp; omega)))
  have B3 : Hid (Below w.heap.size w w3) := B2.out.grown hg3 B2.out.size (fun k e => by simp at e; omega)
  clear hC3 hg3 C2 Z2 R2 B2
  have z0 := Z3.out.c0
  have z1 := Z3.out.c1
  have z2 := Z3.out.c2
  have zf := Z3.out.fr
  have Y4 := Z3.out.put (.int .i64 tk) (.string ts) (.slice au t.l.length cu)
  have R4 := Hid.mk (R3.out.kept (w' := sz3 w3 w.heap.size (.int .i64 tk) (.string ts) (.slice au t.l.length cu)) (fun b hb _ => sz3_other _ _ _ _ _ _ (by omega)))
  have B4 : Hid (Below w.heap.size w (sz3 w3 w.heap.size (.int .i64 tk) (.string ts) (.slice au t.l.length cu))) := ⟨B3.out.os, B3.out.tape, B3.out.output, by rw [sz3_size]; exact B3.out.size, fun b hb => (sz3_other _ _ _ _ _ _ (by omega)).trans (B3.out.block b hb)⟩
  clear R3 B3 Z3
  have HY4 := Hid.mk Y4
  clear Y4
  generalize hll : t.l.length = ll at *
  go_wp2_with fail
  have q0 := HY4.out.c0
  have q1 := HY4.out.c1
  have q2 := HY4.out.c2
  refine bodyPost_ret (v := .tuple #[rx tk ts (.slice au ll cu), .string s]) (by simp [results, Tryd.results16, go_sem, q0, q1, q2]) rfl ⟨t, .slice au ll cu, s, by rw [HTK.out, HTS.out], HDN.out, hs6, R4.out.imp (fun b hb _ => by unfold newFrom; omega), B4.out⟩
end Go.Proofs.YthifleacfhijnaaDoor
