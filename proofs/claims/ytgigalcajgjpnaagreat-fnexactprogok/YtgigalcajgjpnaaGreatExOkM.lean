/- Which terms are right: as functions on trees. The program's way of counting and the model's way come to the same. -/
import Derived.Test.YtgigalcajgjpnaaGreatExTree
import Derived.Test.YtgigalcajgjpnaaGreatExName
import Derived.Test.YtgigalcajgjpnaaGreatTokOk
import Derived.Test.YtgigalcajgjpnaaGreatRexParI
namespace Go.Proofs.YtgigalcajgjpnaaGreat
open Go.RowKit
set_option maxRecDepth 8000

open Classical in
/-- A text of a regular expression, not too long. -/
noncomputable def rtB (s : ByteArray) : Bool := decide (s.size ≤ 200 ∧ ∃ t, IsTx s t)
/-- A term is right, but for its parts. -/
noncomputable def nodeK (k : Int) (s : ByteArray) (n : Nat) : Bool :=
  if k = 1 then s.toList.isEmpty && n == 0
  else if k = 2 then prB 39 s && n == 0
  else if k = 3 then nmB s && n == 0
  else if k = 4 ∨ k = 9 then nmB s && n == 1
  else if k = 6 then opB s && n == 2
  else if k = 10 then rtB s && n == 1
  else if k = 18 then rtB s && n == 2
  else if k = 11 then nmB s && decide (n ≤ 4)
  else if k = 5 ∨ k = 7 ∨ k = 8 ∨ k = 12 ∨ k = 17 then s.toList.isEmpty && n == 1
  else if k = 13 then s.toList.isEmpty && n == 3
  else if k = 16 then s.toList.isEmpty && n == 2
  else if k = 14 ∨ k = 15 then s.toList.isEmpty && n == 0
  else false
noncomputable def nodeX (t : Ex) : Bool := (if t.k = 1 then bwB 0 2147483647 t.n else t.n == 0) && nodeK t.k t.s t.l.length

mutual
noncomputable def Ex.okT : Ex → Bool
  | .node k n s l => okXL l && nodeX (.node k n s l)
noncomputable def okXL : List Ex → Bool
  | [] => true
  | t :: r => t.okT && okXL r
end
mutual
def Ex.cnt : Ex → Nat
  | .node _ _ _ l => 1 + cntXL l
def cntXL : List Ex → Nat
  | [] => 0
  | t :: r => t.cnt + cntXL r
end

theorem okX_eq (t : Ex) : t.okT = (okXL t.l && nodeX t) := by cases t; rw [Ex.okT]; rfl
theorem cntX_eq (t : Ex) : t.cnt = 1 + cntXL t.l := by cases t; rw [Ex.cnt]; rfl
theorem cntX_pos (t : Ex) : 1 ≤ t.cnt := by rw [cntX_eq]; omega
theorem okXL_iff (l : List Ex) : okXL l = true ↔ ∀ x ∈ l, x.okT = true := by
  induction l with
  | nil => simp [okXL]
  | cons t r ih => simp [okXL, ih]

def dpX : Nat → Ex → Bool
  | 0, _ => false
  | f + 1, t => t.l.all (dpX f)

def partsXG (g : Ex → Nat) (n : Nat) (x : Ex) : Nat := if n ≤ 100 then n + g x else n
def partsX : Nat → Ex → Nat
  | 0, _ => 101
  | f + 1, t => t.l.foldl (partsXG (partsX f)) 1

def roomXG (g : Ex → Int → Int) (q : Int) (x : Ex) : Int := if q < 0 then -1 else g x q
noncomputable def roomX : Nat → Ex → Int → Int
  | 0, _, _ => -1
  | f + 1, t, r => if r = 0 ∨ nodeX t = false then -1 else t.l.foldl (roomXG (roomX f)) (r - 1)

theorem partsX_fold {f : Nat} (ih : ∀ t, (partsX f t ≤ 100 ↔ dpX f t = true ∧ t.cnt ≤ 100) ∧ (partsX f t ≤ 100 → partsX f t = t.cnt)) (l : List Ex) :
    ∀ n, (l.foldl (partsXG (partsX f)) n ≤ 100 ↔ n ≤ 100 ∧ l.all (dpX f) = true ∧ n + cntXL l ≤ 100) ∧ (l.foldl (partsXG (partsX f)) n ≤ 100 → l.foldl (partsXG (partsX f)) n = n + cntXL l) := by
  induction l with
  | nil => intro n; simp [cntXL]
  | cons t r ihl =>
    intro n
    rw [List.foldl_cons, List.all_cons, cntXL]
    obtain ⟨h1, h2⟩ := ihl (partsXG (partsX f) n t)
    obtain ⟨i1, i2⟩ := ih t
    by_cases hn : n ≤ 100
    · have hg : partsXG (partsX f) n t = n + partsX f t := by rw [partsXG, if_pos hn]
      rw [hg] at h1 h2 ⊢
      by_cases hp : partsX f t ≤ 100
      · have e := i2 hp
        obtain ⟨d, c⟩ := i1.1 hp
        rw [e] at h1 h2 ⊢
        constructor
        · rw [h1, d, Bool.true_and]
          exact ⟨fun h => ⟨hn, h.2.1, by omega⟩, fun h => ⟨by omega, h.2.1, by omega⟩⟩
        · intro h; rw [h2 h]; omega
      · have hnd : ¬ (dpX f t = true ∧ t.cnt ≤ 100) := fun h => hp (i1.2 h)
        constructor
        · rw [h1]
          constructor
          · intro h; omega
          · intro h
            exfalso
            apply hnd
            have hd : dpX f t = true := by have := h.2.1; simp only [Bool.and_eq_true] at this; exact this.1
            exact ⟨hd, by omega⟩
        · intro h; have := h1.1 h; omega
    · have hg : partsXG (partsX f) n t = n := by rw [partsXG, if_neg hn]
      rw [hg] at h1 h2 ⊢
      constructor
      · rw [h1]
        constructor
        · intro h; omega
        · intro h; omega
      · intro h; have := h1.1 h; omega

theorem partsX_spec (f : Nat) : ∀ t, (partsX f t ≤ 100 ↔ dpX f t = true ∧ t.cnt ≤ 100) ∧ (partsX f t ≤ 100 → partsX f t = t.cnt) := by
  induction f with
  | zero => intro t; simp [partsX, dpX]
  | succ f ih =>
    intro t
    obtain ⟨h1, h2⟩ := partsX_fold ih t.l 1
    rw [partsX, dpX, cntX_eq]
    constructor
    · rw [h1]
      constructor
      · intro h; exact ⟨h.2.1, h.2.2⟩
      · intro h; exact ⟨by omega, h.1, h.2⟩
    · exact h2

theorem roomX_fold {f : Nat} (ih : ∀ t r, 0 ≤ r → roomX f t r = if dpX f t = true ∧ t.okT = true ∧ (t.cnt : Int) ≤ r then r - t.cnt else -1) (l : List Ex) :
    ∀ q : Int, -1 ≤ q → l.foldl (roomXG (roomX f)) q = if 0 ≤ q ∧ l.all (dpX f) = true ∧ okXL l = true ∧ (cntXL l : Int) ≤ q then q - cntXL l else -1 := by
  induction l with
  | nil => intro q hq; simp [cntXL, okXL]; omega
  | cons t r ihl =>
    intro q hq
    rw [List.foldl_cons, List.all_cons, cntXL, okXL]
    by_cases h0 : q < 0
    · have hg : roomXG (roomX f) q t = -1 := by rw [roomXG, if_pos h0]
      rw [hg, ihl (-1) (by omega), if_neg (by omega), if_neg (by omega)]
    · have hg : roomXG (roomX f) q t = roomX f t q := by rw [roomXG, if_neg h0]
      rw [hg, ih t q (by omega)]
      by_cases hc : dpX f t = true ∧ t.okT = true ∧ (t.cnt : Int) ≤ q
      · rw [if_pos hc, ihl _ (by omega)]
        obtain ⟨d, o, c⟩ := hc
        simp only [d, o, Bool.true_and]
        split <;> split <;> (try omega)
        · rename_i a b; exact absurd ⟨by omega, a.2.1, a.2.2.1, by omega⟩ b
        · rename_i a b; exact absurd ⟨by omega, b.2.1, b.2.2.1, by omega⟩ a
      · rw [if_neg hc, ihl (-1) (by omega), if_neg (by omega), if_neg]
        intro h
        apply hc
        have hd := h.2.1
        have ho := h.2.2.1
        simp only [Bool.and_eq_true] at hd ho
        exact ⟨hd.1, ho.1, by omega⟩

theorem roomX_spec (f : Nat) : ∀ t r, 0 ≤ r → roomX f t r = if dpX f t = true ∧ t.okT = true ∧ (t.cnt : Int) ≤ r then r - t.cnt else -1 := by
  induction f with
  | zero => intro t r _; simp [roomX, dpX]
  | succ f ih =>
    intro t r hr
    rw [roomX, dpX, cntX_eq, okX_eq]
    by_cases h0 : r = 0 ∨ nodeX t = false
    · rw [if_pos h0, if_neg]
      rintro ⟨_, h2, h3⟩
      rcases h0 with h0 | h0
      · omega
      · rw [h0] at h2; simp at h2
    · rw [if_neg h0, roomX_fold ih t.l (r - 1) (by omega)]
      have hnb : nodeX t = true := by
        cases hb : nodeX t with
        | true => rfl
        | false => exact absurd (Or.inr hb) h0
      rw [hnb, Bool.and_true]
      split <;> split <;> (try omega)
      · rename_i a b; exact absurd ⟨a.2.1, a.2.2.1, by omega⟩ b
      · rename_i a b; exact absurd ⟨by omega, b.1, b.2.1, by omega⟩ a

/-- A term that is right. -/
noncomputable def okE (t : Ex) : Bool := decide (partsX 10 t ≤ 100) && t.okT

theorem okE_room (t : Ex) : decide (0 ≤ roomX 10 t 100) = okE t := by
  obtain ⟨h1, _⟩ := partsX_spec 10 t
  rw [okE, roomX_spec 10 t 100 (by omega)]
  by_cases h : dpX 10 t = true ∧ t.okT = true ∧ (t.cnt : Int) ≤ 100
  · rw [if_pos h, decide_eq_true (h1.2 ⟨h.1, by omega⟩), h.2.1, decide_eq_true (by omega)]; rfl
  · rw [if_neg h]
    by_cases hp : partsX 10 t ≤ 100
    · have := h1.1 hp
      have ho : t.okT = false := by
        cases hb : t.okT with
        | true => exact absurd ⟨this.1, hb, by omega⟩ h
        | false => rfl
      rw [ho]; simp
    · rw [decide_eq_false hp]; simp

theorem partsX_bd (f : Nat) : ∀ t, 1 ≤ partsX f t ∧ partsX f t ≤ 101 + 100 * f := by
  induction f with
  | zero => intro t; simp [partsX]
  | succ f ih =>
    intro t
    have h : ∀ (l : List Ex) (n : Nat), 1 ≤ n → n ≤ 201 + 100 * f → 1 ≤ l.foldl (partsXG (partsX f)) n ∧ l.foldl (partsXG (partsX f)) n ≤ 201 + 100 * f := by
      intro l
      induction l with
      | nil => intro n h0 h1; exact ⟨h0, h1⟩
      | cons x r ihl =>
        intro n h0 h1
        rw [List.foldl_cons]
        apply ihl
        · unfold partsXG; split <;> omega
        · have := (ih x).2
          unfold partsXG; split <;> omega
    have := h t.l 1 (by omega) (by omega)
    rw [partsX]
    omega

theorem partsX_take {f : Nat} (l : List Ex) (k : Nat) (h : k < l.length) : (l.take (k + 1)).foldl (partsXG (partsX f)) 1 = partsXG (partsX f) ((l.take k).foldl (partsXG (partsX f)) 1) l[k] := by
  rw [List.take_succ_eq_append_getElem h, List.foldl_append]; rfl
theorem partsX_stop {f : Nat} (l : List Ex) : ∀ n, 100 < n → l.foldl (partsXG (partsX f)) n = n := by
  induction l with
  | nil => intro n _; rfl
  | cons x r ih => intro n h; rw [List.foldl_cons, partsXG, if_neg (by omega)]; exact ih n h
theorem partsX_cut {f : Nat} (l : List Ex) (k : Nat) (h : 100 < (l.take k).foldl (partsXG (partsX f)) 1) : l.foldl (partsXG (partsX f)) 1 = (l.take k).foldl (partsXG (partsX f)) 1 := by
  conv => lhs; rw [← List.take_append_drop k l]
  rw [List.foldl_append]
  exact partsX_stop _ _ h
theorem roomX_take {f : Nat} (l : List Ex) (k : Nat) (r : Int) (h : k < l.length) : (l.take (k + 1)).foldl (roomXG (roomX f)) r = roomXG (roomX f) ((l.take k).foldl (roomXG (roomX f)) r) l[k] := by
  rw [List.take_succ_eq_append_getElem h, List.foldl_append]; rfl
theorem roomX_stop {f : Nat} (l : List Ex) : l.foldl (roomXG (roomX f)) (-1) = -1 := by
  induction l with
  | nil => rfl
  | cons x r ih => rw [List.foldl_cons, roomXG, if_pos (by omega)]; exact ih
theorem roomX_cut {f : Nat} (l : List Ex) (k : Nat) (r : Int) (h : (l.take k).foldl (roomXG (roomX f)) r = -1) : l.foldl (roomXG (roomX f)) r = -1 := by
  conv => lhs; rw [← List.take_append_drop k l]
  rw [List.foldl_append, h]
  exact roomX_stop _
theorem roomX_bd (f : Nat) (t : Ex) (r : Int) (h : 0 ≤ r) : -1 ≤ roomX f t r ∧ roomX f t r ≤ r := by
  rw [roomX_spec f t r h]
  have := cntX_pos t
  split <;> omega
end Go.Proofs.YtgigalcajgjpnaaGreat
