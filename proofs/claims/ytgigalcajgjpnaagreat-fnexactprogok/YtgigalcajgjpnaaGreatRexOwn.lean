/- Regular expressions that own their memory: no two of their lists share a block. -/
import Derived.Test.YtgigalcajgjpnaaGreatRexTo
import Derived.Maps.AppendAt
namespace Go.Proofs.YtgigalcajgjpnaaGreat
open Go.RowKit

inductive Ow (w : World) : (Nat → Prop) → List Tr → Value → Prop
  | none (B : Nat → Prop) : Ow w B [] (.slice Option.none 0 0)
  | full (B : Nat → Prop) (l : List Tr) (g cap : Nat) (xs : List Value) (V : Nat → Value) (Bi : Nat → Nat → Prop) (hl : l ≠ []) (hg : B g)
      (hown : w.ownsRow 0 187 3 (.slice (some ⟨g, 0, Option.none⟩) l.length cap) l.length xs)
      (hs : ∀ i (h : i < l.length), l[i].s.size ≤ maxLen)
      (hx : ∀ i (h : i < l.length), xs[i * 3]? = some (.int .i64 l[i].k) ∧ xs[i * 3 + 1]? = some (.string l[i].s) ∧ xs[i * 3 + 2]? = some (V i))
      (hB : ∀ i b, Bi i b → B b ∧ b ≠ g) (hd : ∀ i j b, i ≠ j → Bi i b → ¬ Bi j b)
      (hsub : ∀ i (h : i < l.length), Ow w (Bi i) l[i].l (V i)) : Ow w B l (.slice (some ⟨g, 0, Option.none⟩) l.length cap)

theorem Ow.mono {w : World} {B C : Nat → Prop} {l : List Tr} {v : Value} (h : Ow w B l v) (hk : ∀ b, B b → C b) : Ow w C l v := by
  cases h with
  | none => exact .none _
  | full _ l g cap xs V Bi hl hg hown hs hx hB hd hsub => exact .full C l g cap xs V Bi hl (hk g hg) hown hs hx (fun i b hb => ⟨hk b (hB i b hb).1, (hB i b hb).2⟩) hd hsub

theorem own_lt {w : World} {g cap n : Nat} {e : TypeId} {c : Nat} {xs : List Value} (h : w.ownsRow 0 e c (.slice (some ⟨g, 0, none⟩) n cap) n xs) : g < w.heap.size := (World.ownsRow.lt h g rfl).2

/-- Its blocks are there. -/
theorem Ow.there {w : World} {B : Nat → Prop} {l : List Tr} {v : Value} (h : Ow w B l v) : Ow w (fun b => B b ∧ b < w.heap.size) l v := by
  induction h with
  | none => exact .none _
  | full B l g cap xs V Bi hl hg hown hs hx hB hd hsub ih =>
    exact .full _ l g cap xs V (fun i b => Bi i b ∧ b < w.heap.size) hl ⟨hg, own_lt hown⟩ hown hs hx (fun i b hb => ⟨⟨(hB i b hb.1).1, hb.2⟩, (hB i b hb.1).2⟩)
      (fun i j b hij h1 h2 => hd i j b hij h1.1 h2.1) ih

theorem own_kept {w w' : World} {g cap n : Nat} {e : TypeId} {c : Nat} {xs : List Value} (h : w.ownsRow 0 e c (.slice (some ⟨g, 0, none⟩) n cap) n xs) (hh : w'.heap[g]? = w.heap[g]?) : w'.ownsRow 0 e c (.slice (some ⟨g, 0, none⟩) n cap) n xs := by
  refine ⟨h.1, ?_⟩
  rcases h.2 with ⟨h', _⟩ | ⟨g', cap', cur, h', hb, hg, rest⟩
  · simp at h'
  · simp only [Value.slice.injEq, Option.some.injEq, Addr.mk.injEq, and_true, true_and] at h'
    obtain ⟨rfl, rfl⟩ := h'
    exact Or.inr ⟨g, cap, cur, rfl, hb, by rw [hh]; exact hg, rest⟩

theorem Ow.kept {w w' : World} {B : Nat → Prop} {l : List Tr} {v : Value} (h : Ow w B l v) (hk : ∀ b, B b → b < w.heap.size → w'.heap[b]? = w.heap[b]?) : Ow w' B l v := by
  induction h with
  | none => exact .none _
  | full B l g cap xs V Bi hl hg hown hs hx hB hd hsub ih =>
    exact .full B l g cap xs V Bi hl hg (own_kept hown (hk g hg (own_lt hown))) hs hx hB hd (fun i h => ih i h fun b hb hlt => hk b (hB i b hb).1 hlt)

theorem Ow.grow {w w' : World} {B : Nat → Prop} {l : List Tr} {v : Value} (h : Ow w B l v) (hk : Below w.heap.size w w') : Ow w' B l v := h.kept fun b _ hb => hk.block b hb

theorem Ow.rl {w : World} {B : Nat → Prop} {l : List Tr} {v : Value} (h : Ow w B l v) : Rl w B l v := by
  induction h with
  | none => exact Rl.zero _ _
  | full B l g cap xs V Bi hl hg hown hs hx hB hd hsub ih =>
    have hcm : l.length ≤ cap ∧ cap ≤ maxLen := by
      rcases hown.2 with ⟨h', _⟩ | ⟨g', cap', cur, h', hb, hg, hn, hm, _⟩
      · simp at h'
      · simp only [Value.slice.injEq, Option.some.injEq, Addr.mk.injEq, and_true, true_and] at h'
        obtain ⟨rfl, rfl⟩ := h'
        exact ⟨hn, hm⟩
    refine .full l g 0 cap V hg hl hcm.1 hcm.2 hs (fun i hi => ?_) fun i hi => (ih i hi).imp fun b hb _ => (hB i b hb).1
    obtain ⟨x0, x1, x2⟩ := hx i hi
    rw [Nat.zero_add]
    exact ⟨by rw [hown.cellAt _ (by omega), x0], by rw [hown.cellAt _ (by omega), x1], by rw [hown.cellAt _ (by omega), x2]⟩

/-- One element in a new block. -/
theorem Ow.one {w : World} {B C : Nat → Prop} {t : Tr} {u : Value} (h : Ow w B t.l u) (hs : t.s.size ≤ maxLen) (hB : ∀ b, B b → b < w.heap.size → C b) (hC : C w.heap.size) :
    Ow (w.alloc (.cells #[.int .i64 t.k, .string t.s, u] 187)) C [t] (.slice (some ⟨w.heap.size, 0, Option.none⟩) 1 1) := by
  have hb : Below w.heap.size w (w.alloc (.cells #[.int .i64 t.k, .string t.s, u] 187)) := (Below.refl _ _).alloc (Nat.le_refl _) _
  have hown := World.ownsRow_lit (base := 0) (e := 187) (size := 3) w #[.int .i64 t.k, .string t.s, u] 1 (Nat.zero_le _) (by decide) rfl
  refine Ow.full C [t] w.heap.size 1 _ (fun _ => u) (fun i b => i = 0 ∧ B b ∧ b < w.heap.size) (by simp) hC hown (fun i hi => ?_) (fun i hi => ?_) (fun i b hb => ⟨hB b hb.2.1 hb.2.2, by omega⟩) (fun i j b hij h1 h2 => by omega) fun i hi => ?_
  · obtain rfl : i = 0 := by simpa using hi
    exact hs
  · obtain rfl : i = 0 := by simpa using hi
    exact ⟨rfl, rfl, rfl⟩
  · obtain rfl : i = 0 := by simpa using hi
    exact (h.there.grow hb).mono fun b hb => ⟨rfl, hb⟩

/-- One element more. -/
theorem Ow.snoc {w w' : World} {B D C : Nat → Prop} {l : List Tr} {t : Tr} {g : Nat} {u v' : Value} {xs : List Value} {V : Nat → Value} {Bi : Nat → Nat → Prop}
    (hg : B g)
    (hs : ∀ i (h : i < l.length), l[i].s.size ≤ maxLen) (hst : t.s.size ≤ maxLen)
    (hxl : xs.length = l.length * 3)
    (hx : ∀ i (h : i < l.length), xs[i * 3]? = some (.int .i64 l[i].k) ∧ xs[i * 3 + 1]? = some (.string l[i].s) ∧ xs[i * 3 + 2]? = some (V i))
    (hB : ∀ i b, Bi i b → B b ∧ b ≠ g) (hd : ∀ i j b, i ≠ j → Bi i b → ¬ Bi j b) (hsub : ∀ i (h : i < l.length), Ow w (Bi i) l[i].l (V i))
    (ht : Ow w D t.l u) (hBD : ∀ b, D b → ¬ B b)
    (hown : w'.ownsRow 0 187 3 v' (l.length + 1) (xs ++ [.int .i64 t.k, .string t.s, u])) (hgr : w.grownBy w' (some g)) (hv : v'.ownBlock = some g ∨ v'.ownBlock = some w.heap.size)
    (hCB : ∀ b, B b → C b) (hCD : ∀ b, D b → C b) (hCn : C w.heap.size) : Ow w' C (l ++ [t]) v' := by
  obtain ⟨g', cap', rfl⟩ : ∃ g' cap', v' = .slice (some ⟨g', 0, Option.none⟩) (l ++ [t]).length cap' := by
    rcases hown.2 with ⟨_, h0⟩ | ⟨g', cap', cur, h', _⟩
    · omega
    · exact ⟨g', cap', by rw [h']; simp⟩
  have hg' : g' = g ∨ g' = w.heap.size := by simpa [Value.ownBlock] using hv
  have hll : (l ++ [t]).length = l.length + 1 := by simp
  have hgl := own_lt (n := l.length + 1) (by rw [hll] at hown; exact hown)
  have hkp : ∀ b, b < w.heap.size → b ≠ g → w'.heap[b]? = w.heap[b]? := fun b hb hne => hgr.block b hb (by simpa using hne)
  refine Ow.full C (l ++ [t]) g' cap' _ (fun i => if i < l.length then V i else u) (fun i b => (i < l.length ∧ Bi i b ∨ i = l.length ∧ D b) ∧ b < w.heap.size) (by simp) ?_ (by rw [hll] at hown ⊢; exact hown) ?_ ?_ ?_ ?_ ?_
  · rcases hg' with rfl | rfl
    · exact hCB _ hg
    · exact hCn
  · intro i hi
    by_cases h1 : i < l.length
    · rw [List.getElem_append_left h1]; exact hs i h1
    · obtain rfl : i = l.length := by simp at hi; omega
      rw [List.getElem_append_right (Nat.le_refl _)]; simpa using hst
  · intro i hi
    by_cases h1 : i < l.length
    · obtain ⟨x0, x1, x2⟩ := hx i h1
      rw [List.getElem_append_left h1, List.getElem?_append_left (by omega), List.getElem?_append_left (by omega), List.getElem?_append_left (by omega)]
      exact ⟨x0, x1, by rw [x2]; show _ = some (if i < l.length then V i else u); rw [if_pos h1]⟩
    · obtain rfl : i = l.length := by simp at hi; omega
      rw [List.getElem_append_right (Nat.le_refl _), List.getElem?_append_right (by omega), List.getElem?_append_right (by omega), List.getElem?_append_right (by omega), hxl]
      have e0 : l.length * 3 - l.length * 3 = 0 := by omega
      have e1 : l.length * 3 + 1 - l.length * 3 = 1 := by omega
      have e2 : l.length * 3 + 2 - l.length * 3 = 2 := by omega
      rw [e0, e1, e2]
      refine ⟨by simp, by simp, ?_⟩
      show some u = some (if l.length < l.length then V l.length else u)
      rw [if_neg (by omega)]
  · rintro i b ⟨h1 | h1, hb⟩
    · obtain ⟨q1, q2⟩ := hB i b h1.2
      exact ⟨hCB b q1, by rcases hg' with rfl | rfl; exact q2; omega⟩
    · refine ⟨hCD b h1.2, ?_⟩
      rcases hg' with rfl | rfl
      · rintro rfl; exact hBD _ h1.2 hg
      · omega
  · rintro i j b hij ⟨h1 | h1, hb⟩ ⟨h2 | h2, _⟩
    · exact hd i j b hij h1.2 h2.2
    · exact hBD b h2.2 (hB i b h1.2).1
    · exact hBD b h1.2 (hB j b h2.2).1
    · omega
  · intro i hi
    by_cases h1 : i < l.length
    · rw [List.getElem_append_left h1]
      show Ow w' _ l[i].l (if i < l.length then V i else u)
      rw [if_pos h1]
      refine ((hsub i h1).there.kept fun b hb hlt => hkp b hlt (hB i b hb.1).2).mono fun b hb => ⟨Or.inl ⟨h1, hb.1⟩, hb.2⟩
    · obtain rfl : i = l.length := by simp at hi; omega
      rw [List.getElem_append_right (Nat.le_refl _)]
      show Ow w' _ _ (if l.length < l.length then V l.length else u)
      rw [if_neg (by omega)]
      simp only [Nat.sub_self, List.getElem_cons_zero]
      refine (ht.there.kept fun b hb hlt => hkp b hlt (by rintro rfl; exact hBD _ hb.1 hg)).mono fun b hb => ⟨Or.inr ⟨trivial, hb.1⟩, hb.2⟩

theorem Ow.value {w : World} {B : Nat → Prop} {l : List Tr} {v : Value} (h : Ow w B l v) : ∃ ao cap, v = .slice ao l.length cap := by
  obtain ⟨ao, cap, h, _⟩ := h.rl.len
  exact ⟨ao, cap, h⟩
end Go.Proofs.YtgigalcajgjpnaaGreat
