/- Which statements are right: as functions on trees. The program's way of counting and the model's way come to the same. -/
import Derived.Test.YtgigalcajgjpnaaGreatStTree
import Derived.Test.YtgigalcajgjpnaaGreatExOkM
namespace Go.Proofs.YtgigalcajgjpnaaGreat
open Go.RowKit
set_option maxRecDepth 8000

/-- All within, A ahead of B. -/
def St.ab (t : St) : List St := t.a ++ t.b

/-- What a kind asks, but for its terms. -/
def hereK (k : Int) (s t : ByteArray) (nx na nb : Nat) : Bool :=
  if k = 1 then s.toList.isEmpty && t.toList.isEmpty && decide (1 ≤ nx) && decide (nx ≤ 5) && na == 0 && nb == 0
  else if k = 2 ∨ k = 11 then nmB s && t.toList.isEmpty && nx == 1 && na == 0 && nb == 0
  else if k = 3 then nmB s && t.toList.isEmpty && nx == 2 && na == 0 && nb == 0
  else if k = 4 then s.toList.isEmpty && t.toList.isEmpty && nx == 2 && na == 0 && nb == 0
  else if k = 5 then s.toList.isEmpty && t.toList.isEmpty && nx == 1
  else if k = 6 then s.toList.isEmpty && t.toList.isEmpty && nx == 1 && nb == 0
  else if k = 7 then nmB s && nmB t && nx == 0 && nb == 0
  else if k = 8 then s.toList.isEmpty && t.toList.isEmpty && nx == 0 && na == 0 && nb == 0
  else if k = 9 ∨ k = 10 ∨ k = 12 then s.toList.isEmpty && t.toList.isEmpty && nx == 1 && na == 0 && nb == 0
  else false

/-- A call's term is one. -/
def callB (k : Int) (x : List Ex) : Bool := k != 12 || x.all fun e => e.k == 11
/-- A statement is right, but for those within. -/
noncomputable def nodeS (t : St) : Bool := t.x.all okE && (hereK t.k t.s t.t t.x.length t.a.length t.b.length && callB t.k t.x)
/-- The program asks besides how many are within. -/
noncomputable def nodeP (t : St) : Bool := nodeS t && (decide (t.a.length < 60) && decide (t.b.length < 60))

mutual
noncomputable def St.okT : St → Bool
  | .node k s t x a b => (okSL a && okSL b) && nodeS (.node k s t x a b)
noncomputable def okSL : List St → Bool
  | [] => true
  | t :: r => t.okT && okSL r
end
mutual
noncomputable def St.okP : St → Bool
  | .node k s t x a b => (okPL a && okPL b) && nodeP (.node k s t x a b)
noncomputable def okPL : List St → Bool
  | [] => true
  | t :: r => t.okP && okPL r
end
mutual
def St.cnt : St → Nat
  | .node _ _ _ _ a b => 1 + (cntSL a + cntSL b)
def cntSL : List St → Nat
  | [] => 0
  | t :: r => t.cnt + cntSL r
end

theorem okSL_app (a b : List St) : okSL (a ++ b) = (okSL a && okSL b) := by
  induction a with
  | nil => simp [okSL]
  | cons t r ih => simp [okSL, ih, Bool.and_assoc]
theorem okPL_app (a b : List St) : okPL (a ++ b) = (okPL a && okPL b) := by
  induction a with
  | nil => simp [okPL]
  | cons t r ih => simp [okPL, ih, Bool.and_assoc]
theorem cntSL_app (a b : List St) : cntSL (a ++ b) = cntSL a + cntSL b := by
  induction a with
  | nil => simp [cntSL]
  | cons t r ih => simp [cntSL, ih]; omega
theorem okT_eq2 (t : St) : t.okT = ((okSL t.a && okSL t.b) && nodeS t) := by cases t; rw [St.okT]; rfl
theorem okP_eq2 (t : St) : t.okP = ((okPL t.a && okPL t.b) && nodeP t) := by cases t; rw [St.okP]; rfl
theorem okP_eq (t : St) : t.okP = (okPL t.ab && nodeP t) := by rw [okP_eq2, St.ab, okPL_app]
theorem okS_eq (t : St) : t.okT = (okSL t.ab && nodeS t) := by rw [okT_eq2, St.ab, okSL_app]
theorem cntS_eq (t : St) : t.cnt = 1 + cntSL t.ab := by rw [St.ab, cntSL_app]; cases t; rw [St.cnt]; rfl
theorem cntS_pos (t : St) : 1 ≤ t.cnt := by rw [cntS_eq]; omega
theorem okSL_iff (l : List St) : okSL l = true ↔ ∀ x ∈ l, x.okT = true := by
  induction l with
  | nil => simp [okSL]
  | cons t r ih => simp [okSL, ih]
theorem cntSL_len (l : List St) : l.length ≤ cntSL l := by
  induction l with
  | nil => simp
  | cons t r ih => have := cntS_pos t; simp only [List.length_cons, cntSL]; omega
theorem cntSL_mem {y : St} {l : List St} (h : y ∈ l) : y.cnt ≤ cntSL l := by
  induction l with
  | nil => cases h
  | cons t r ih =>
    rw [cntSL]
    rcases List.mem_cons.1 h with rfl | h
    · omega
    · have := ih h; omega

theorem okPL_okSL {l : List St} (ih : ∀ y ∈ l, y.okP = y.okT) : okPL l = okSL l := by
  induction l with
  | nil => rfl
  | cons t r ihl => rw [okPL, okSL, ih t (by simp), ihl fun y hy => ih y (by simp [hy])]

/-- With 60 at most the two ways ask the same. -/
theorem okP_okT (t : St) : t.cnt ≤ 60 → t.okP = t.okT := by
  refine St.ind (P := fun t => t.cnt ≤ 60 → t.okP = t.okT) (fun t iha ihb => ?_) t
  intro h
  rw [cntS_eq, St.ab, cntSL_app] at h
  have ha := cntSL_len t.a
  have hb := cntSL_len t.b
  rw [okP_eq2, okT_eq2, okPL_okSL fun y hy => iha y hy (by have := cntSL_mem hy; omega), okPL_okSL fun y hy => ihb y hy (by have := cntSL_mem hy; omega)]
  rw [nodeP, decide_eq_true (by omega), decide_eq_true (by omega)]
  simp

def dpS : Nat → St → Bool
  | 0, _ => false
  | f + 1, t => t.ab.all (dpS f)

def partsSG (g : St → Nat) (n : Nat) (x : St) : Nat := if n ≤ 60 then n + g x else n
def partsS : Nat → St → Nat
  | 0, _ => 61
  | f + 1, t => t.ab.foldl (partsSG (partsS f)) 1

def roomSG (g : St → Int → Int) (q : Int) (x : St) : Int := if q < 0 then -1 else g x q
noncomputable def roomS : Nat → St → Int → Int
  | 0, _, _ => -1
  | f + 1, t, r => if r = 0 ∨ nodeP t = false then -1 else t.ab.foldl (roomSG (roomS f)) (r - 1)

theorem partsS_fold {f : Nat} (ih : ∀ t, (partsS f t ≤ 60 ↔ dpS f t = true ∧ t.cnt ≤ 60) ∧ (partsS f t ≤ 60 → partsS f t = t.cnt)) (l : List St) :
    ∀ n, (l.foldl (partsSG (partsS f)) n ≤ 60 ↔ n ≤ 60 ∧ l.all (dpS f) = true ∧ n + cntSL l ≤ 60) ∧ (l.foldl (partsSG (partsS f)) n ≤ 60 → l.foldl (partsSG (partsS f)) n = n + cntSL l) := by
  induction l with
  | nil => intro n; simp [cntSL]
  | cons t r ihl =>
    intro n
    rw [List.foldl_cons, List.all_cons, cntSL]
    obtain ⟨h1, h2⟩ := ihl (partsSG (partsS f) n t)
    obtain ⟨i1, i2⟩ := ih t
    by_cases hn : n ≤ 60
    · have hg : partsSG (partsS f) n t = n + partsS f t := by rw [partsSG, if_pos hn]
      rw [hg] at h1 h2 ⊢
      by_cases hp : partsS f t ≤ 60
      · have e := i2 hp
        obtain ⟨d, c⟩ := i1.1 hp
        rw [e] at h1 h2 ⊢
        constructor
        · rw [h1, d, Bool.true_and]
          exact ⟨fun h => ⟨hn, h.2.1, by omega⟩, fun h => ⟨by omega, h.2.1, by omega⟩⟩
        · intro h; rw [h2 h]; omega
      · have hnd : ¬ (dpS f t = true ∧ t.cnt ≤ 60) := fun h => hp (i1.2 h)
        constructor
        · rw [h1]
          constructor
          · intro h; omega
          · intro h
            exfalso
            apply hnd
            have hd : dpS f t = true := by have := h.2.1; simp only [Bool.and_eq_true] at this; exact this.1
            exact ⟨hd, by omega⟩
        · intro h; have := h1.1 h; omega
    · have hg : partsSG (partsS f) n t = n := by rw [partsSG, if_neg hn]
      rw [hg] at h1 h2 ⊢
      constructor
      · rw [h1]
        constructor
        · intro h; omega
        · intro h; omega
      · intro h; have := h1.1 h; omega

theorem partsS_spec (f : Nat) : ∀ t, (partsS f t ≤ 60 ↔ dpS f t = true ∧ t.cnt ≤ 60) ∧ (partsS f t ≤ 60 → partsS f t = t.cnt) := by
  induction f with
  | zero => intro t; simp [partsS, dpS]
  | succ f ih =>
    intro t
    obtain ⟨h1, h2⟩ := partsS_fold ih t.ab 1
    rw [partsS, dpS, cntS_eq]
    constructor
    · rw [h1]
      constructor
      · intro h; exact ⟨h.2.1, h.2.2⟩
      · intro h; exact ⟨by omega, h.1, h.2⟩
    · exact h2

theorem roomS_fold {f : Nat} (ih : ∀ t r, 0 ≤ r → roomS f t r = if dpS f t = true ∧ t.okP = true ∧ (t.cnt : Int) ≤ r then r - t.cnt else -1) (l : List St) :
    ∀ q : Int, -1 ≤ q → l.foldl (roomSG (roomS f)) q = if 0 ≤ q ∧ l.all (dpS f) = true ∧ okPL l = true ∧ (cntSL l : Int) ≤ q then q - cntSL l else -1 := by
  induction l with
  | nil => intro q hq; simp [cntSL, okPL]; omega
  | cons t r ihl =>
    intro q hq
    rw [List.foldl_cons, List.all_cons, cntSL, okPL]
    by_cases h0 : q < 0
    · have hg : roomSG (roomS f) q t = -1 := by rw [roomSG, if_pos h0]
      rw [hg, ihl (-1) (by omega), if_neg (by omega), if_neg (by omega)]
    · have hg : roomSG (roomS f) q t = roomS f t q := by rw [roomSG, if_neg h0]
      rw [hg, ih t q (by omega)]
      by_cases hc : dpS f t = true ∧ t.okP = true ∧ (t.cnt : Int) ≤ q
      · rw [if_pos hc, ihl _ (by omega)]
        obtain ⟨d, o, c⟩ := hc
        simp only [d, o, Bool.true_and]
        split <;> split <;> (try omega)
        · rename_i a b; exact absurd ⟨by omega, a.2.1, a.2.2.1, by omega⟩ b
        · rename_i a b; exact absurd ⟨by omega, b.2.1, b.2.2.1, by omega⟩ a
      · rw [if_neg hc, ihl (-1) (by omega), if_neg (by omega), if_neg]
        intro h
        apply hc
        have hd := h.2.1
        have ho := h.2.2.1
        simp only [Bool.and_eq_true] at hd ho
        exact ⟨hd.1, ho.1, by omega⟩

theorem roomS_spec (f : Nat) : ∀ t r, 0 ≤ r → roomS f t r = if dpS f t = true ∧ t.okP = true ∧ (t.cnt : Int) ≤ r then r - t.cnt else -1 := by
  induction f with
  | zero => intro t r _; simp [roomS, dpS]
  | succ f ih =>
    intro t r hr
    rw [roomS, dpS, cntS_eq, okP_eq]
    by_cases h0 : r = 0 ∨ nodeP t = false
    · rw [if_pos h0, if_neg]
      rintro ⟨_, h2, h3⟩
      rcases h0 with h0 | h0
      · omega
      · rw [h0] at h2; simp at h2
    · rw [if_neg h0, roomS_fold ih t.ab (r - 1) (by omega)]
      have hnb : nodeP t = true := by
        cases hb : nodeP t with
        | true => rfl
        | false => exact absurd (Or.inr hb) h0
      rw [hnb, Bool.and_true]
      split <;> split <;> (try omega)
      · rename_i a b; exact absurd ⟨a.2.1, a.2.2.1, by omega⟩ b
      · rename_i a b; exact absurd ⟨by omega, b.1, b.2.1, by omega⟩ a

/-- A statement that is right. -/
noncomputable def okS (t : St) : Bool := decide (partsS 5 t ≤ 60) && t.okT

theorem okS_room (t : St) : decide (0 ≤ roomS 5 t 60) = okS t := by
  obtain ⟨h1, _⟩ := partsS_spec 5 t
  rw [okS, roomS_spec 5 t 60 (by omega)]
  by_cases h : dpS 5 t = true ∧ t.okP = true ∧ (t.cnt : Int) ≤ 60
  · rw [if_pos h, decide_eq_true (h1.2 ⟨h.1, by omega⟩), ← okP_okT t (by omega), h.2.1, decide_eq_true (by omega)]; rfl
  · rw [if_neg h]
    by_cases hp : partsS 5 t ≤ 60
    · have := h1.1 hp
      have ho : t.okT = false := by
        cases hb : t.okT with
        | true => exact absurd ⟨this.1, by rw [okP_okT t this.2]; exact hb, by omega⟩ h
        | false => rfl
      rw [ho]; simp
    · rw [decide_eq_false hp]; simp

theorem partsS_bd (f : Nat) : ∀ t, 1 ≤ partsS f t ∧ partsS f t ≤ 61 + 60 * f := by
  induction f with
  | zero => intro t; simp [partsS]
  | succ f ih =>
    intro t
    have h : ∀ (l : List St) (n : Nat), 1 ≤ n → n ≤ 121 + 60 * f → 1 ≤ l.foldl (partsSG (partsS f)) n ∧ l.foldl (partsSG (partsS f)) n ≤ 121 + 60 * f := by
      intro l
      induction l with
      | nil => intro n h0 h1; exact ⟨h0, h1⟩
      | cons x r ihl =>
        intro n h0 h1
        rw [List.foldl_cons]
        apply ihl
        · unfold partsSG; split <;> omega
        · have := (ih x).2
          unfold partsSG; split <;> omega
    have := h t.ab 1 (by omega) (by omega)
    rw [partsS]
    omega

theorem partsS_take {f : Nat} (l : List St) (k : Nat) (h : k < l.length) : (l.take (k + 1)).foldl (partsSG (partsS f)) 1 = partsSG (partsS f) ((l.take k).foldl (partsSG (partsS f)) 1) l[k] := by
  rw [List.take_succ_eq_append_getElem h, List.foldl_append]; rfl
theorem partsS_stop {f : Nat} (l : List St) : ∀ n, 60 < n → l.foldl (partsSG (partsS f)) n = n := by
  induction l with
  | nil => intro n _; rfl
  | cons x r ih => intro n h; rw [List.foldl_cons, partsSG, if_neg (by omega)]; exact ih n h
theorem partsS_cut {f : Nat} (l : List St) (k : Nat) (h : 60 < (l.take k).foldl (partsSG (partsS f)) 1) : l.foldl (partsSG (partsS f)) 1 = (l.take k).foldl (partsSG (partsS f)) 1 := by
  conv => lhs; rw [← List.take_append_drop k l]
  rw [List.foldl_append]
  exact partsS_stop _ _ h
theorem roomS_take {f : Nat} (l : List St) (k : Nat) (r : Int) (h : k < l.length) : (l.take (k + 1)).foldl (roomSG (roomS f)) r = roomSG (roomS f) ((l.take k).foldl (roomSG (roomS f)) r) l[k] := by
  rw [List.take_succ_eq_append_getElem h, List.foldl_append]; rfl
theorem roomS_stop {f : Nat} (l : List St) : l.foldl (roomSG (roomS f)) (-1) = -1 := by
  induction l with
  | nil => rfl
  | cons x r ih => rw [List.foldl_cons, roomSG, if_pos (by omega)]; exact ih
theorem roomS_cut {f : Nat} (l : List St) (k : Nat) (r : Int) (h : (l.take k).foldl (roomSG (roomS f)) r = -1) : l.foldl (roomSG (roomS f)) r = -1 := by
  conv => lhs; rw [← List.take_append_drop k l]
  rw [List.foldl_append, h]
  exact roomS_stop _
theorem roomS_bd (f : Nat) (t : St) (r : Int) (h : 0 ≤ r) : -1 ≤ roomS f t r ∧ roomS f t r ≤ r := by
  rw [roomS_spec f t r h]
  have := cntS_pos t
  split <;> omega
end Go.Proofs.YtgigalcajgjpnaaGreat
