/- How great rules, functions and programs are: the laws' own functions. -/
import Derived.Test.YtgigalcajgjpnaaPgTree
import Derived.Test.YtgigalcajgjpnaaStTo
namespace Go.Proofs.Ytgigalcajgjpnaa
open Go.RowKit
set_option maxRecDepth 8000

/-- How great a list is whose parts are that great, each counted besides. -/
def gsz {α : Type} (g : α → Nat) : List α → Nat
  | [] => 0
  | t :: r => 1 + g t + gsz g r
theorem gsz_take {α : Type} (g : α → Nat) (l : List α) (k : Nat) (h : k < l.length) : gsz g (l.take (k + 1)) = gsz g (l.take k) + 1 + g l[k] := by
  induction l generalizing k with
  | nil => simp at h
  | cons t r ih =>
    cases k with
    | zero => simp [gsz]
    | succ k =>
      have := ih k (by simpa using h)
      simp only [List.take_succ_cons, gsz, List.getElem_cons_succ]
      omega
theorem gsz_length {α : Type} (g : α → Nat) (l : List α) : l.length ≤ gsz g l := by
  induction l with
  | nil => simp
  | cons t r ih => simp only [List.length_cons, gsz]; omega
theorem gsz_take_length {α : Type} (g : α → Nat) (l : List α) (k : Nat) (h : k ≤ l.length) : gsz g (l.take k) + (l.length - k) ≤ gsz g l := by
  induction l generalizing k with
  | nil => simp
  | cons t r ih =>
    cases k with
    | zero => have := gsz_length g (t :: r); simpa [gsz] using this
    | succ k => have := ih k (by simpa using h); simp only [List.take_succ_cons, gsz, List.length_cons]; omega
theorem gsz_mem {α : Type} (g : α → Nat) {y : α} {l : List α} (h : y ∈ l) : g y + 1 ≤ gsz g l := by
  induction l with
  | nil => cases h
  | cons t r ih =>
    rw [gsz]
    rcases List.mem_cons.1 h with rfl | h
    · omega
    · have := ih h; omega

def Ru.sz (r : Ru) : Nat := r.p.sz + szy r.a
def Fu.sz (f : Fu) : Nat := f.n.size + gsz ByteArray.size f.ps + szy f.a
def Pg.sz (p : Pg) : Nat := gsz Ru.sz p.r + gsz Fu.sz p.f

set_option maxHeartbeats 1000000 in
theorem szTexts_any (l : List ByteArray) (B : Nat → Prop) (v : Value) (w : World) (left : Int) (h : Tb w B v l) (h0 : 0 ≤ left) (h1 : left ≤ 1048576) :
    Calls Try.prog 78 #[v, .int .i64 left] w fun e w' => e = .returned (.int .i64 (leftOf left (gsz ByteArray.size l))) ∧ Below w.heap.size w w' := by
  obtain ⟨ao, cap, rfl, hl1, hl2, hl3, hsz, hc⟩ := h
  have hm : cap ≤ 9223372036854775807 := by unfold maxLen at hl2; omega
  have hlen := gsz_length ByteArray.size l
  by_cases hlt : left < l.length
  · have hh : left - (l.length : Int) < 0 := by omega
    have HR : Hid (leftOf left (gsz ByteArray.size l) = -1) := by show _ = _; unfold leftOf; rw [if_pos (by omega)]
    clear hc hsz hl2 hlen
    go_enter Try.func78, Try.ntmps78
    go_wp2
    go_ret
    exact ⟨ret_int' HR.out.symm, Below.refl _ _⟩
  · have hh : ¬ left - (l.length : Int) < 0 := by omega
    have HC := Hid.mk hc
    have HSZ := Hid.mk hsz
    have HL := Hid.mk hlen
    clear hc hsz hl2 hlen
    go_enter Try.func78, Try.ntmps78
    go_wp2
    go_loopw [1, 5] (fun q i wr => ∃ (k : Nat) (r : Int), k ≤ l.length ∧ i = .int .i64 k ∧ q = .int .i64 r ∧ 0 ≤ r ∧ r ≤ 1048576 ∧ Hid (r = left - (l.length : Int) - (gsz ByteArray.size (l.take k) : Int) + (k : Int)) ∧ Below w.heap.size w wr) (fun _ i _ => l.length - (intOf i).toNat)
    case atStart => exact ⟨0, left - (l.length : Int), Nat.zero_le _, rfl, rfl, by omega, by omega, by show _ = _; simp [gsz], Below.refl _ _⟩
    case round =>
      obtain ⟨k, r, hk, rfl, rfl, r0, r1, Hr, hbel⟩ := hrel
      by_cases hkl : k < l.length
      · obtain ⟨b, off, rfl, -, hel⟩ := HC.out (by intro hn; rw [hn] at hkl; simp at hkl)
        have hcell := hel k hkl
        have hgd : l.getD k ⟨#[]⟩ = l[k] := by simp [hkl]
        rw [hgd] at hcell
        have hss := HSZ.out _ (List.getElem_mem hkl)
        have HE := Hid.mk (gsz_take ByteArray.size l k hkl)
        have HZ := Hid.mk (gsz_take_length ByteArray.size l (k + 1) hkl)
        obtain ⟨t, ht⟩ : ∃ t, l[k] = t := ⟨_, rfl⟩
        rw [ht] at hcell hss HE
        clear ht hel hgd
        have c0 : wr.cell? ⟨b, off + k, none⟩ = some (.string t) := by rw [hbel.cell (p := ⟨b, off + k, none⟩) (World.block_lt_of_cell? w _ hcell)]; exact hcell
        have hi1 : (k : Int) < (l.length : Int) := by omega
        have ht1 : t.size ≤ 9223372036854775807 := by unfold maxLen at hss; omega
        clear hss hcell
        by_cases hm : r - (t.size : Int) < 0
        · have HR : Hid (leftOf left (gsz ByteArray.size l) = -1) := by
            show _ = _
            have e2 := Hr.out
            have e3 := HE.out
            have e5 := HZ.out
            unfold leftOf
            split <;> omega
          clear HE Hr HZ
          go_wp2
          go_ret
          exact ⟨ret_int' HR.out.symm, hbel⟩
        · have HR : Hid (r - (t.size : Int) = left - (l.length : Int) - (gsz ByteArray.size (l.take (k + 1)) : Int) + ((k + 1 : Nat) : Int)) := by
            show _ = _
            have e2 := Hr.out
            have e3 := HE.out
            omega
          clear HE Hr HZ
          go_wp2
          go_roundw
          case rel => exact ⟨k + 1, r - (t.size : Int), by omega, by go_num, rfl, by omega, by omega, HR, hbel⟩
          case measure => simp [intOf]; omega
      · have e : k = l.length := by omega
        subst e
        have HR : Hid (r = leftOf left (gsz ByteArray.size l)) := by
          show _ = _
          have e2 := Hr.out
          rw [List.take_length] at e2
          unfold leftOf
          split <;> omega
        clear Hr
        go_wp2
        go_ret
        exact ⟨ret_int' HR.out, hbel⟩

set_option maxHeartbeats 1000000 in
theorem szRule_any (t : Ru) (B : Nat → Prop) (x y : Value) (w : World) (left : Int) (hx : El w B t.p.l x) (hy : Sl w B t.a y) (hs : t.p.s.size ≤ maxLen) (h0 : 0 ≤ left) (h1 : left ≤ 1048576) :
    Calls Try.prog 65 #[ruV t x y, .int .i64 left] w fun e w' => e = .returned (.int .i64 (leftOf left t.sz)) ∧ Below w.heap.size w w' := by
  have HE : Hid (t.sz = t.p.sz + szy t.a) := rfl
  obtain ⟨xo, xc, rfl, -, -, -⟩ := hx.len
  obtain ⟨yo, yc, rfl, -, -, -⟩ := hy.len
  have B0 : Below w.heap.size w (w.alloc (.cells #[.int .i64 t.k, .int .i64 t.p.k, .int .i64 t.p.n, .string t.p.s, .slice xo t.p.l.length xc, .slice yo t.a.length yc] 116)) := (Below.refl _ _).alloc (Nat.le_refl _) _
  obtain ⟨m1, Hm1⟩ : ∃ m, Hid (leftOf (left) (t.p.sz) = m) := ⟨_, rfl⟩
  obtain ⟨m2, Hm2⟩ : ∃ m, Hid (leftOf m1 (szy t.a) = m) := ⟨_, rfl⟩
  have HX := Hid.mk (fun (w' : World) (hw : Below w.heap.size w w') => szExpr_any t.p B _ w' left (hx.grow hw) hs h0 h1)
  have HY := Hid.mk (fun (w' : World) (hw : Below w.heap.size w w') (c0 : 0 ≤ m1) (c1 : m1 ≤ 1048576) => szStmtS_any t.a B _ w' m1 (hy.grow hw) c0 c1)
  rw [Hm1.out] at HX
  rw [Hm2.out] at HY
  obtain ⟨z, hz⟩ : ∃ z, t.sz = z := ⟨_, rfl⟩
  rw [hz] at HE ⊢
  clear hx hy hz
  go_enter Try.func65, Try.ntmps65
  go_wp2_with fail
  refine (HX.out _ B0).mono ?_
  rintro e w1 ⟨rfl, hb1⟩
  have B1 := B0.trans (hb1.mono (by simp))
  have hc1 := fun o => hb1.cell (p := ⟨w.heap.size, o, none⟩) (by simp)
  clear B0 hb1 HX
  by_cases hm1 : m1 < 0
  · have HR : Hid (leftOf left z = -1) := by
      show _ = _
      have e1 := Hm1.out
      have e2 := HE.out
      unfold leftOf at e1 ⊢
      split at e1 <;> split <;> omega
    clear HE Hm1 Hm2 HY
    go_wp2
    go_ret
    exact ⟨ret_int' HR.out.symm, B1⟩
  have c0 : 0 ≤ m1 := by omega
  have c1 : m1 ≤ 1048576 := by have e1 := Hm1.out; unfold leftOf at e1; split at e1 <;> omega
  go_wp2_with fail
  refine (HY.out _ B1 c0 c1).mono ?_
  rintro e w2 ⟨rfl, hb2⟩
  have B2 := B1.trans (hb2.mono B1.size)
  clear B1 hb2 HY hc1
  have HR : Hid ((m2 < 0 → leftOf left z = -1) ∧ (¬ m2 < 0 → leftOf left z = m2)) := by
    show _ ∧ _
    have e1 := Hm1.out
    have e2 := HE.out
    have e4 := Hm2.out
    unfold leftOf at e1 e4 ⊢
    split at e1 <;> split at e4 <;> split <;> constructor <;> omega
  clear HE Hm1 Hm2
  by_cases hm2 : m2 < 0
  · go_wp2
    go_ret
    exact ⟨ret_int' (HR.out.1 hm2).symm, B2⟩
  · go_wp2
    go_ret
    exact ⟨ret_int' (HR.out.2 hm2).symm, B2⟩

set_option maxHeartbeats 1000000 in
theorem szFn_any (t : Fu) (B : Nat → Prop) (x y : Value) (w : World) (left : Int) (hx : Tb w B x t.ps) (hy : Sl w B t.a y) (hs : t.n.size ≤ maxLen) (h0 : 0 ≤ left) (h1 : left ≤ 1048576) :
    Calls Try.prog 66 #[fuV t x y, .int .i64 left] w fun e w' => e = .returned (.int .i64 (leftOf left t.sz)) ∧ Below w.heap.size w w' := by
  have HE : Hid (t.sz = t.n.size + gsz ByteArray.size t.ps + szy t.a) := rfl
  obtain ⟨xo, xc, rfl, -, -, -⟩ := hx.len
  obtain ⟨yo, yc, rfl, -, -, -⟩ := hy.len
  have B0 : Below w.heap.size w (w.alloc (.cells #[.string t.n, .slice xo t.ps.length xc, .slice yo t.a.length yc] 119)) := (Below.refl _ _).alloc (Nat.le_refl _) _
  unfold maxLen at hs
  by_cases hlt : left < t.n.size
  · have hh : left - (t.n.size : Int) < 0 := by omega
    have HR : Hid (leftOf left t.sz = -1) := by show _ = _; unfold leftOf; have := HE.out; rw [if_pos (by omega)]
    clear HE hx hy
    go_enter Try.func66, Try.ntmps66
    go_wp2
    go_ret
    exact ⟨ret_int' HR.out.symm, B0⟩
  have hh : ¬ left - (t.n.size : Int) < 0 := by omega
  obtain ⟨m1, Hm1⟩ : ∃ m, Hid (leftOf (left - (t.n.size : Int)) (gsz ByteArray.size t.ps) = m) := ⟨_, rfl⟩
  obtain ⟨m2, Hm2⟩ : ∃ m, Hid (leftOf m1 (szy t.a) = m) := ⟨_, rfl⟩
  have HX := Hid.mk (fun (w' : World) (hw : Below w.heap.size w w') => szTexts_any t.ps B _ w' (left - (t.n.size : Int)) (hx.grow hw) (by omega) (by omega))
  have HY := Hid.mk (fun (w' : World) (hw : Below w.heap.size w w') (c0 : 0 ≤ m1) (c1 : m1 ≤ 1048576) => szStmtS_any t.a B _ w' m1 (hy.grow hw) c0 c1)
  rw [Hm1.out] at HX
  rw [Hm2.out] at HY
  obtain ⟨z, hz⟩ : ∃ z, t.sz = z := ⟨_, rfl⟩
  rw [hz] at HE ⊢
  clear hx hy hz
  go_enter Try.func66, Try.ntmps66
  go_wp2_with fail
  refine (HX.out _ B0).mono ?_
  rintro e w1 ⟨rfl, hb1⟩
  have B1 := B0.trans (hb1.mono (by simp))
  have hc1 := fun o => hb1.cell (p := ⟨w.heap.size, o, none⟩) (by simp)
  clear B0 hb1 HX
  by_cases hm1 : m1 < 0
  · have HR : Hid (leftOf left z = -1) := by
      show _ = _
      have e1 := Hm1.out
      have e2 := HE.out
      unfold leftOf at e1 ⊢
      split at e1 <;> split <;> omega
    clear HE Hm1 Hm2 HY
    go_wp2
    go_ret
    exact ⟨ret_int' HR.out.symm, B1⟩
  have c0 : 0 ≤ m1 := by omega
  have c1 : m1 ≤ 1048576 := by have e1 := Hm1.out; unfold leftOf at e1; split at e1 <;> omega
  go_wp2_with fail
  refine (HY.out _ B1 c0 c1).mono ?_
  rintro e w2 ⟨rfl, hb2⟩
  have B2 := B1.trans (hb2.mono B1.size)
  clear B1 hb2 HY hc1
  have HR : Hid ((m2 < 0 → leftOf left z = -1) ∧ (¬ m2 < 0 → leftOf left z = m2)) := by
    show _ ∧ _
    have e1 := Hm1.out
    have e2 := HE.out
    have e4 := Hm2.out
    unfold leftOf at e1 e4 ⊢
    split at e1 <;> split at e4 <;> split <;> constructor <;> omega
  clear HE Hm1 Hm2
  by_cases hm2 : m2 < 0
  · go_wp2
    go_ret
    exact ⟨ret_int' (HR.out.1 hm2).symm, B2⟩
  · go_wp2
    go_ret
    exact ⟨ret_int' (HR.out.2 hm2).symm, B2⟩

set_option maxHeartbeats 1000000 in
theorem szRuleS_any (l : List Ru) (B : Nat → Prop) (v : Value) (w : World) (left : Int) (h : Ul w B l v) (h0 : 0 ≤ left) (h1 : left ≤ 1048576) :
    Calls Try.prog 40 #[v, .int .i64 left] w fun e w' => e = .returned (.int .i64 (leftOf left (gsz Ru.sz l))) ∧ Below w.heap.size w w' := by
  obtain ⟨ao, cap, rfl, hl1, hl2, hl3⟩ := h.len
  have hm : cap ≤ 9223372036854775807 := by unfold maxLen at hl2; omega
  have hlen := gsz_length Ru.sz l
  by_cases hlt : left < l.length
  · have hh : left - (l.length : Int) < 0 := by omega
    have HR : Hid (leftOf left (gsz Ru.sz l) = -1) := by show _ = _; unfold leftOf; rw [if_pos (by omega)]
    clear h hl2 hlen
    go_enter Try.func40, Try.ntmps40
    go_wp2
    go_ret
    exact ⟨ret_int' HR.out.symm, Below.refl _ _⟩
  · have hh : ¬ left - (l.length : Int) < 0 := by omega
    have HH := Hid.mk h
    have HL := Hid.mk hlen
    clear h hl2 hlen
    go_enter Try.func40, Try.ntmps40
    go_wp2
    go_loopw [1, 5] (fun q i wr => ∃ (k : Nat) (r : Int), k ≤ l.length ∧ i = .int .i64 k ∧ q = .int .i64 r ∧ 0 ≤ r ∧ r ≤ 1048576 ∧ Hid (r = left - (l.length : Int) - (gsz Ru.sz (l.take k) : Int) + (k : Int)) ∧ Below w.heap.size w wr) (fun _ i _ => l.length - (intOf i).toNat)
    case atStart => exact ⟨0, left - (l.length : Int), Nat.zero_le _, rfl, rfl, by omega, by omega, by show _ = _; simp [gsz], Below.refl _ _⟩
    case round =>
      obtain ⟨k, r, hk, rfl, rfl, r0, r1, Hr, hbel⟩ := hrel
      by_cases hkl : k < l.length
      · obtain ⟨b, off, X, Y, rfl, hel⟩ := HH.out.elems (by intro hn; rw [hn] at hkl; simp at hkl)
        obtain ⟨h3, hx, hy, hss⟩ := hel k hkl
        have HE := Hid.mk (gsz_take Ru.sz l k hkl)
        have HZ := Hid.mk (gsz_take_length Ru.sz l (k + 1) hkl)
        obtain ⟨t, ht⟩ : ∃ t, l[k] = t := ⟨_, rfl⟩
        rw [ht] at h3 hx hy hss HE
        clear ht hel
        obtain ⟨c0, c1, c2, c3, c4, c5⟩ := h3.kept (w' := wr) (hbel.block b (World.block_lt_of_cell? w _ h3.1))
        have HC := Hid.mk (szRule_any t B (X k) (Y k) wr r (hx.grow hbel) (hy.grow hbel) hss r0 r1)
        have hi1 : (k : Int) < (l.length : Int) := by omega
        obtain ⟨m, Hm⟩ : ∃ m, Hid (leftOf r t.sz = m) := ⟨_, rfl⟩
        rw [Hm.out] at HC
        clear hx hy hss h3
        by_cases hm : m < 0
        · have HR : Hid (leftOf left (gsz Ru.sz l) = -1) := by
            show _ = _
            have e1 := Hm.out
            have e2 := Hr.out
            have e3 := HE.out
            have e5 := HZ.out
            unfold leftOf at e1 ⊢
            split at e1 <;> split <;> omega
          clear HE Hr Hm HZ
          go_wp2_with fail
          refine HC.out.mono ?_
          rintro e w1 ⟨rfl, hb1⟩
          have B1 := hbel.trans (hb1.mono hbel.size)
          clear hb1 HC
          go_wp2
          go_ret
          exact ⟨ret_int' HR.out.symm, B1⟩
        · have HR : Hid (m = left - (l.length : Int) - (gsz Ru.sz (l.take (k + 1)) : Int) + ((k + 1 : Nat) : Int)) := by
            show _ = _
            have e1 := Hm.out
            have e2 := Hr.out
            have e3 := HE.out
            unfold leftOf at e1
            split at e1 <;> omega
          have hm1 : m ≤ 1048576 := by
            have e1 := Hm.out
            unfold leftOf at e1
            split at e1 <;> omega
          clear HE Hr Hm HZ
          go_wp2_with fail
          refine HC.out.mono ?_
          rintro e w1 ⟨rfl, hb1⟩
          have B1 := hbel.trans (hb1.mono hbel.size)
          clear hb1 HC
          go_wp2
          go_roundw
          case rel => exact ⟨k + 1, m, by omega, by go_num, rfl, by omega, hm1, HR, B1⟩
          case measure => simp [intOf]; omega
      · have e : k = l.length := by omega
        subst e
        have HR : Hid (r = leftOf left (gsz Ru.sz l)) := by
          show _ = _
          have e2 := Hr.out
          rw [List.take_length] at e2
          unfold leftOf
          split <;> omega
        clear Hr
        go_wp2
        go_ret
        exact ⟨ret_int' HR.out, hbel⟩

set_option maxHeartbeats 1000000 in
theorem szFnS_any (l : List Fu) (B : Nat → Prop) (v : Value) (w : World) (left : Int) (h : Fl w B l v) (h0 : 0 ≤ left) (h1 : left ≤ 1048576) :
    Calls Try.prog 41 #[v, .int .i64 left] w fun e w' => e = .returned (.int .i64 (leftOf left (gsz Fu.sz l))) ∧ Below w.heap.size w w' := by
  obtain ⟨ao, cap, rfl, hl1, hl2, hl3⟩ := h.len
  have hm : cap ≤ 9223372036854775807 := by unfold maxLen at hl2; omega
  have hlen := gsz_length Fu.sz l
  by_cases hlt : left < l.length
  · have hh : left - (l.length : Int) < 0 := by omega
    have HR : Hid (leftOf left (gsz Fu.sz l) = -1) := by show _ = _; unfold leftOf; rw [if_pos (by omega)]
    clear h hl2 hlen
    go_enter Try.func41, Try.ntmps41
    go_wp2
    go_ret
    exact ⟨ret_int' HR.out.symm, Below.refl _ _⟩
  · have hh : ¬ left - (l.length : Int) < 0 := by omega
    have HH := Hid.mk h
    have HL := Hid.mk hlen
    clear h hl2 hlen
    go_enter Try.func41, Try.ntmps41
    go_wp2
    go_loopw [1, 5] (fun q i wr => ∃ (k : Nat) (r : Int), k ≤ l.length ∧ i = .int .i64 k ∧ q = .int .i64 r ∧ 0 ≤ r ∧ r ≤ 1048576 ∧ Hid (r = left - (l.length : Int) - (gsz Fu.sz (l.take k) : Int) + (k : Int)) ∧ Below w.heap.size w wr) (fun _ i _ => l.length - (intOf i).toNat)
    case atStart => exact ⟨0, left - (l.length : Int), Nat.zero_le _, rfl, rfl, by omega, by omega, by show _ = _; simp [gsz], Below.refl _ _⟩
    case round =>
      obtain ⟨k, r, hk, rfl, rfl, r0, r1, Hr, hbel⟩ := hrel
      by_cases hkl : k < l.length
      · obtain ⟨b, off, X, Y, rfl, hel⟩ := HH.out.elems (by intro hn; rw [hn] at hkl; simp at hkl)
        obtain ⟨h3, hx, hy, hss⟩ := hel k hkl
        have HE := Hid.mk (gsz_take Fu.sz l k hkl)
        have HZ := Hid.mk (gsz_take_length Fu.sz l (k + 1) hkl)
        obtain ⟨t, ht⟩ : ∃ t, l[k] = t := ⟨_, rfl⟩
        rw [ht] at h3 hx hy hss HE
        clear ht hel
        obtain ⟨c0, c1, c2⟩ := h3.kept (w' := wr) (hbel.block b (World.block_lt_of_cell? w _ h3.1))
        have HC := Hid.mk (szFn_any t B (X k) (Y k) wr r (hx.grow hbel) (hy.grow hbel) hss r0 r1)
        have hi1 : (k : Int) < (l.length : Int) := by omega
        obtain ⟨m, Hm⟩ : ∃ m, Hid (leftOf r t.sz = m) := ⟨_, rfl⟩
        rw [Hm.out] at HC
        clear hx hy hss h3
        by_cases hm : m < 0
        · have HR : Hid (leftOf left (gsz Fu.sz l) = -1) := by
            show _ = _
            have e1 := Hm.out
            have e2 := Hr.out
            have e3 := HE.out
            have e5 := HZ.out
            unfold leftOf at e1 ⊢
            split at e1 <;> split <;> omega
          clear HE Hr Hm HZ
          go_wp2_with fail
          refine HC.out.mono ?_
          rintro e w1 ⟨rfl, hb1⟩
          have B1 := hbel.trans (hb1.mono hbel.size)
          clear hb1 HC
          go_wp2
          go_ret
          exact ⟨ret_int' HR.out.symm, B1⟩
        · have HR : Hid (m = left - (l.length : Int) - (gsz Fu.sz (l.take (k + 1)) : Int) + ((k + 1 : Nat) : Int)) := by
            show _ = _
            have e1 := Hm.out
            have e2 := Hr.out
            have e3 := HE.out
            unfold leftOf at e1
            split at e1 <;> omega
          have hm1 : m ≤ 1048576 := by
            have e1 := Hm.out
            unfold leftOf at e1
            split at e1 <;> omega
          clear HE Hr Hm HZ
          go_wp2_with fail
          refine HC.out.mono ?_
          rintro e w1 ⟨rfl, hb1⟩
          have B1 := hbel.trans (hb1.mono hbel.size)
          clear hb1 HC
          go_wp2
          go_roundw
          case rel => exact ⟨k + 1, m, by omega, by go_num, rfl, by omega, hm1, HR, B1⟩
          case measure => simp [intOf]; omega
      · have e : k = l.length := by omega
        subst e
        have HR : Hid (r = leftOf left (gsz Fu.sz l)) := by
          show _ = _
          have e2 := Hr.out
          rw [List.take_length] at e2
          unfold leftOf
          split <;> omega
        clear Hr
        go_wp2
        go_ret
        exact ⟨ret_int' HR.out, hbel⟩

set_option maxHeartbeats 1000000 in
theorem szProg_any (t : Pg) (B : Nat → Prop) (x y : Value) (w : World) (left : Int) (hx : Ul w B t.r x) (hy : Fl w B t.f y) (h0 : 0 ≤ left) (h1 : left ≤ 1048576) :
    Calls Try.prog 17 #[pgV x y, .int .i64 left] w fun e w' => e = .returned (.int .i64 (leftOf left t.sz)) ∧ Below w.heap.size w w' := by
  have HE : Hid (t.sz = gsz Ru.sz t.r + gsz Fu.sz t.f) := rfl
  obtain ⟨xo, xc, rfl, -, -, -⟩ := hx.len
  obtain ⟨yo, yc, rfl, -, -, -⟩ := hy.len
  have B0 : Below w.heap.size w (w.alloc (.cells #[.slice xo t.r.length xc, .slice yo t.f.length yc] 46)) := (Below.refl _ _).alloc (Nat.le_refl _) _
  obtain ⟨m1, Hm1⟩ : ∃ m, Hid (leftOf (left) (gsz Ru.sz t.r) = m) := ⟨_, rfl⟩
  obtain ⟨m2, Hm2⟩ : ∃ m, Hid (leftOf m1 (gsz Fu.sz t.f) = m) := ⟨_, rfl⟩
  have HX := Hid.mk (fun (w' : World) (hw : Below w.heap.size w w') => szRuleS_any t.r B _ w' left (hx.grow hw) h0 h1)
  have HY := Hid.mk (fun (w' : World) (hw : Below w.heap.size w w') (c0 : 0 ≤ m1) (c1 : m1 ≤ 1048576) => szFnS_any t.f B _ w' m1 (hy.grow hw) c0 c1)
  rw [Hm1.out] at HX
  rw [Hm2.out] at HY
  obtain ⟨z, hz⟩ : ∃ z, t.sz = z := ⟨_, rfl⟩
  rw [hz] at HE ⊢
  clear hx hy hz
  go_enter Try.func17, Try.ntmps17
  go_wp2_with fail
  refine (HX.out _ B0).mono ?_
  rintro e w1 ⟨rfl, hb1⟩
  have B1 := B0.trans (hb1.mono (by simp))
  have hc1 := fun o => hb1.cell (p := ⟨w.heap.size, o, none⟩) (by simp)
  clear B0 hb1 HX
  by_cases hm1 : m1 < 0
  · have HR : Hid (leftOf left z = -1) := by
      show _ = _
      have e1 := Hm1.out
      have e2 := HE.out
      unfold leftOf at e1 ⊢
      split at e1 <;> split <;> omega
    clear HE Hm1 Hm2 HY
    go_wp2
    go_ret
    exact ⟨ret_int' HR.out.symm, B1⟩
  have c0 : 0 ≤ m1 := by omega
  have c1 : m1 ≤ 1048576 := by have e1 := Hm1.out; unfold leftOf at e1; split at e1 <;> omega
  go_wp2_with fail
  refine (HY.out _ B1 c0 c1).mono ?_
  rintro e w2 ⟨rfl, hb2⟩
  have B2 := B1.trans (hb2.mono B1.size)
  clear B1 hb2 HY hc1
  have HR : Hid ((m2 < 0 → leftOf left z = -1) ∧ (¬ m2 < 0 → leftOf left z = m2)) := by
    show _ ∧ _
    have e1 := Hm1.out
    have e2 := HE.out
    have e4 := Hm2.out
    unfold leftOf at e1 e4 ⊢
    split at e1 <;> split at e4 <;> split <;> constructor <;> omega
  clear HE Hm1 Hm2
  by_cases hm2 : m2 < 0
  · go_wp2
    go_ret
    exact ⟨ret_int' (HR.out.1 hm2).symm, B2⟩
  · go_wp2
    go_ret
    exact ⟨ret_int' (HR.out.2 hm2).symm, B2⟩

end Go.Proofs.Ytgigalcajgjpnaa
