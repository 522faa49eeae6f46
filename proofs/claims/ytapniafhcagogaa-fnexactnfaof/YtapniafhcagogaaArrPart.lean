/- The program's layPart: the contract; the parts of one node, and of none. -/
import Derived.Test.YtapniafhcagogaaArrOne
import Derived.Test.YtapniafhcagogaaNfaLen
import Derived.Test.YtapniafhcagogaaRexBox
namespace Go.Proofs.Ytapniafhcagogaa
open Go.RowKit
set_option maxRecDepth 8000

/-- A part is laid behind the nodes of an array. -/
def ApC (t : Tr) : Prop := ∀ (B : Nat → Prop) (v : Value) (g : Nat) (N : List Nd) (w : World), AB w g N → Rl w B t.l v → ¬ B g → t.okT = true → N.length + t.nsz ≤ 299 →
  Calls Try.prog 49 #[.pointer (some ⟨g, 0, none⟩), rx t.k t.s v] w fun e w' => (∃ x, e = .returned x) ∧ AB w' g (N ++ t.lay N.length) ∧ Mkd g w w'

theorem setB_size {s : ByteArray} {n : Nat} (h : setB s n = true) : s.size ≤ n := by
  unfold setB at h
  simp only [Bool.and_eq_true, decide_eq_true_eq] at h
  exact h.1.2
theorem okT_size {t : Tr} (h : t.okT = true) (hk : t.k = 1 ∨ t.k = 3) : t.s.size ≤ 1048576 := by
  rw [okT_eq, Bool.and_eq_true] at h
  have h2 := h.2
  unfold nodeB at h2
  rcases hk with hk | hk
  · rw [if_pos hk, Bool.and_eq_true] at h2
    exact Nat.le_trans (setB_size h2.1) (by decide)
  · rw [if_neg (by omega), if_pos hk, Bool.and_eq_true] at h2
    exact Nat.le_trans (setB_size h2.1) (by decide)

set_option maxHeartbeats 2000000 in
theorem arrPart_1 (t : Tr) (hk : t.k = 1) : ApC t := by
  intro B v g N w hA h hB hok hn
  have hlay := lay_eq t N.length
  rw [if_pos hk] at hlay
  have hnsz := nsz_eq t
  rw [if_neg (by omega), if_neg (by omega), if_neg (by omega)] at hnsz
  rw [hlay]
  obtain ⟨ao, cap, rfl, hl1, hl2, -⟩ := h.len
  have X0 := Hid.mk (Bz3.new w (.int .i64 t.k) (.string t.s) (.slice ao t.l.length cap))
  have A0 : Hid (Below w.heap.size w (w.alloc (.cells #[.int .i64 t.k, .string t.s, .slice ao t.l.length cap] 26))) := (Below.refl _ _).alloc (Nat.le_refl _) _
  have HC := Hid.mk (arrSingle_any N g 1 t.s _ (hA.grow A0.out) (by omega) (okT_size hok (.inl hk)))
  rw [hk] at X0 A0 HC ⊢
  generalize t.s = ts at *
  generalize t.l.length = tl at *
  clear hlay hA h hk hok hl2 hnsz
  have x0 := X0.out.c0
  have x1 := X0.out.c1
  go_enter Try.func49, Try.ntmps49
  go_wp2_with fail
  refine HC.out.mono ?_
  rintro e w1 ⟨⟨x, rfl⟩, h1, m1⟩
  have H1 := Hid.mk h1
  have M1 := Hid.mk ((Mkd.below A0.out).trans m1)
  clear h1 m1 HC A0 X0 x0 x1
  go_wp2
  refine bodyPost_end (v := .tuple #[]) (by simp [results, Try.results49, go_sem]) rfl ⟨⟨_, rfl⟩, H1.out, M1.out⟩

set_option maxHeartbeats 2000000 in
theorem arrPart_2 (t : Tr) (hk : t.k = 2) : ApC t := by
  intro B v g N w hA h hB hok hn
  have hlay := lay_eq t N.length
  rw [if_neg (by omega), if_pos hk] at hlay
  have hnsz := nsz_eq t
  rw [if_neg (by omega), if_neg (by omega), if_neg (by omega)] at hnsz
  rw [hlay]
  obtain ⟨ao, cap, rfl, hl1, hl2, -⟩ := h.len
  have X0 := Hid.mk (Bz3.new w (.int .i64 t.k) (.string t.s) (.slice ao t.l.length cap))
  have A0 : Hid (Below w.heap.size w (w.alloc (.cells #[.int .i64 t.k, .string t.s, .slice ao t.l.length cap] 26))) := (Below.refl _ _).alloc (Nat.le_refl _) _
  have HC := Hid.mk (arrSingle_any N g 2 ⟨#[]⟩ _ (hA.grow A0.out) (by omega) (by decide))
  rw [hk] at X0 A0 HC ⊢
  generalize t.s = ts at *
  generalize t.l.length = tl at *
  clear hlay hA h hk hok hl2 hnsz
  have x0 := X0.out.c0
  have x1 := X0.out.c1
  go_enter Try.func49, Try.ntmps49
  go_wp2_with fail
  refine HC.out.mono ?_
  rintro e w1 ⟨⟨x, rfl⟩, h1, m1⟩
  have H1 := Hid.mk h1
  have M1 := Hid.mk ((Mkd.below A0.out).trans m1)
  clear h1 m1 HC A0 X0 x0 x1
  go_wp2
  refine bodyPost_end (v := .tuple #[]) (by simp [results, Try.results49, go_sem]) rfl ⟨⟨_, rfl⟩, H1.out, M1.out⟩

set_option maxHeartbeats 2000000 in
theorem arrPart_3 (t : Tr) (hk : t.k = 3) : ApC t := by
  intro B v g N w hA h hB hok hn
  have hlay := lay_eq t N.length
  rw [if_neg (by omega), if_neg (by omega), if_pos hk] at hlay
  have hnsz := nsz_eq t
  rw [if_neg (by omega), if_neg (by omega), if_neg (by omega)] at hnsz
  rw [hlay]
  obtain ⟨ao, cap, rfl, hl1, hl2, -⟩ := h.len
  have X0 := Hid.mk (Bz3.new w (.int .i64 t.k) (.string t.s) (.slice ao t.l.length cap))
  have A0 : Hid (Below w.heap.size w (w.alloc (.cells #[.int .i64 t.k, .string t.s, .slice ao t.l.length cap] 26))) := (Below.refl _ _).alloc (Nat.le_refl _) _
  have HC := Hid.mk (arrSingle_any N g 3 t.s _ (hA.grow A0.out) (by omega) (okT_size hok (.inr hk)))
  rw [hk] at X0 A0 HC ⊢
  generalize t.s = ts at *
  generalize t.l.length = tl at *
  clear hlay hA h hk hok hl2 hnsz
  have x0 := X0.out.c0
  have x1 := X0.out.c1
  go_enter Try.func49, Try.ntmps49
  go_wp2_with fail
  refine HC.out.mono ?_
  rintro e w1 ⟨⟨x, rfl⟩, h1, m1⟩
  have H1 := Hid.mk h1
  have M1 := Hid.mk ((Mkd.below A0.out).trans m1)
  clear h1 m1 HC A0 X0 x0 x1
  go_wp2
  refine bodyPost_end (v := .tuple #[]) (by simp [results, Try.results49, go_sem]) rfl ⟨⟨_, rfl⟩, H1.out, M1.out⟩

set_option maxHeartbeats 2000000 in
theorem arrPart_10 (t : Tr) (hk : t.k = 10) : ApC t := by
  intro B v g N w hA h hB hok hn
  have hlay := lay_eq t N.length
  rw [if_neg (by omega), if_neg (by omega), if_neg (by omega), if_neg (by omega), if_neg (by omega), if_neg (by omega), if_neg (by omega), if_neg (by omega), if_pos hk] at hlay
  have hnsz := nsz_eq t
  rw [if_neg (by omega), if_neg (by omega), if_neg (by omega)] at hnsz
  rw [hlay]
  obtain ⟨ao, cap, rfl, hl1, hl2, -⟩ := h.len
  have X0 := Hid.mk (Bz3.new w (.int .i64 t.k) (.string t.s) (.slice ao t.l.length cap))
  have A0 : Hid (Below w.heap.size w (w.alloc (.cells #[.int .i64 t.k, .string t.s, .slice ao t.l.length cap] 26))) := (Below.refl _ _).alloc (Nat.le_refl _) _
  have HC := Hid.mk (arrSingle_any N g 5 ⟨#[]⟩ _ (hA.grow A0.out) (by omega) (by decide))
  rw [hk] at X0 A0 HC ⊢
  generalize t.s = ts at *
  generalize t.l.length = tl at *
  clear hlay hA h hk hok hl2 hnsz
  have x0 := X0.out.c0
  have x1 := X0.out.c1
  go_enter Try.func49, Try.ntmps49
  go_wp2_with fail
  refine HC.out.mono ?_
  rintro e w1 ⟨⟨x, rfl⟩, h1, m1⟩
  have H1 := Hid.mk h1
  have M1 := Hid.mk ((Mkd.below A0.out).trans m1)
  clear h1 m1 HC A0 X0 x0 x1
  go_wp2
  refine bodyPost_end (v := .tuple #[]) (by simp [results, Try.results49, go_sem]) rfl ⟨⟨_, rfl⟩, H1.out, M1.out⟩

set_option maxHeartbeats 2000000 in
theorem arrPart_11 (t : Tr) (hk : t.k = 11) : ApC t := by
  intro B v g N w hA h hB hok hn
  have hlay := lay_eq t N.length
  rw [if_neg (by omega), if_neg (by omega), if_neg (by omega), if_neg (by omega), if_neg (by omega), if_neg (by omega), if_neg (by omega), if_neg (by omega), if_neg (by omega), if_pos hk] at hlay
  have hnsz := nsz_eq t
  rw [if_neg (by omega), if_neg (by omega), if_neg (by omega)] at hnsz
  rw [hlay]
  obtain ⟨ao, cap, rfl, hl1, hl2, -⟩ := h.len
  have X0 := Hid.mk (Bz3.new w (.int .i64 t.k) (.string t.s) (.slice ao t.l.length cap))
  have A0 : Hid (Below w.heap.size w (w.alloc (.cells #[.int .i64 t.k, .string t.s, .slice ao t.l.length cap] 26))) := (Below.refl _ _).alloc (Nat.le_refl _) _
  have HC := Hid.mk (arrSingle_any N g 6 ⟨#[]⟩ _ (hA.grow A0.out) (by omega) (by decide))
  rw [hk] at X0 A0 HC ⊢
  generalize t.s = ts at *
  generalize t.l.length = tl at *
  clear hlay hA h hk hok hl2 hnsz
  have x0 := X0.out.c0
  have x1 := X0.out.c1
  go_enter Try.func49, Try.ntmps49
  go_wp2_with fail
  refine HC.out.mono ?_
  rintro e w1 ⟨⟨x, rfl⟩, h1, m1⟩
  have H1 := Hid.mk h1
  have M1 := Hid.mk ((Mkd.below A0.out).trans m1)
  clear h1 m1 HC A0 X0 x0 x1
  go_wp2
  refine bodyPost_end (v := .tuple #[]) (by simp [results, Try.results49, go_sem]) rfl ⟨⟨_, rfl⟩, H1.out, M1.out⟩

set_option maxHeartbeats 2000000 in
theorem arrPart_9 (t : Tr) (hk : t.k = 9) : ApC t := by
  intro B v g N w hA h hB hok hn
  have hlay := lay_eq t N.length
  rw [if_neg (by omega), if_neg (by omega), if_neg (by omega), if_neg (by omega), if_neg (by omega), if_neg (by omega), if_neg (by omega), if_neg (by omega), if_neg (by omega), if_neg (by omega)] at hlay
  rw [hlay, List.append_nil]
  obtain ⟨ao, cap, rfl, hl1, hl2, -⟩ := h.len
  have A0 : Hid (∀ o, Below w.heap.size w (w.alloc o)) := fun o => (Below.refl _ _).alloc (Nat.le_refl _) _
  have HA := Hid.mk hA
  rw [hk]
  generalize t.s = ts at *
  generalize t.l.length = tl at *
  clear hlay hA h hk hok hl2
  go_enter Try.func49, Try.ntmps49
  go_wp2
  refine bodyPost_end (v := .tuple #[]) (by simp [results, Try.results49, go_sem]) rfl ⟨⟨_, rfl⟩, HA.out.grow (A0.out _), Mkd.below (A0.out _)⟩
end Go.Proofs.Ytapniafhcagogaa
