/- Which regular expressions are right: as functions on trees. The program's way of counting and the model's way come to the same. -/
import Derived.Test.YthifleacfhijnaaDoorRexSet
namespace Go.Proofs.YthifleacfhijnaaDoor
open Go.RowKit

def repB (k : Int) : Bool := k == 6 || k == 7 || k == 8
def kinds (l : List Tr) (k : Int) : Bool := l.any fun t => t.k == k
def headK : List Tr → Int
  | [] => 0
  | t :: _ => t.k

def nodeB (t : Tr) : Bool :=
  if t.k = 1 then setB t.s 1 && decide (t.l.length = 0)
  else if t.k = 3 then setB t.s 10 && decide (t.l.length = 0)
  else if t.k = 2 ∨ t.k = 9 ∨ t.k = 10 ∨ t.k = 11 then t.s.toList.isEmpty && decide (t.l.length = 0)
  else if t.k = 4 ∨ t.k = 5 then t.s.toList.isEmpty && decide (2 ≤ t.l.length) && decide (t.l.length ≤ 8) && !kinds t.l t.k
  else if t.k = 6 ∨ t.k = 7 ∨ t.k = 8 then t.s.toList.isEmpty && decide (t.l.length = 1) && !repB (headK t.l)
  else false

mutual
def Tr.okT : Tr → Bool
  | .node k s l => okL l && nodeB (.node k s l)
def okL : List Tr → Bool
  | [] => true
  | t :: r => t.okT && okL r
end
mutual
def Tr.cnt : Tr → Nat
  | .node _ _ l => 1 + cntL l
def cntL : List Tr → Nat
  | [] => 0
  | t :: r => t.cnt + cntL r
end

theorem okT_eq (t : Tr) : t.okT = (okL t.l && nodeB t) := by cases t; rw [Tr.okT]; rfl
theorem cnt_eq (t : Tr) : t.cnt = 1 + cntL t.l := by cases t; rw [Tr.cnt]; rfl
theorem cnt_pos (t : Tr) : 1 ≤ t.cnt := by rw [cnt_eq]; omega
theorem okL_iff (l : List Tr) : okL l = true ↔ ∀ x ∈ l, x.okT = true := by
  induction l with
  | nil => simp [okL]
  | cons t r ih => simp [okL, ih]

def dpF : Nat → Tr → Bool
  | 0, _ => false
  | f + 1, t => t.l.all (dpF f)

def partsG (g : Tr → Nat) (n : Nat) (x : Tr) : Nat := if n ≤ 60 then n + g x else n
def partsF : Nat → Tr → Nat
  | 0, _ => 61
  | f + 1, t => t.l.foldl (partsG (partsF f)) 1

def roomG (g : Tr → Int → Int) (q : Int) (x : Tr) : Int := if q < 0 then -1 else g x q
def roomF : Nat → Tr → Int → Int
  | 0, _, _ => -1
  | f + 1, t, r => if r = 0 ∨ nodeB t = false then -1 else t.l.foldl (roomG (roomF f)) (r - 1)

theorem parts_fold {f : Nat} (ih : ∀ t, (partsF f t ≤ 60 ↔ dpF f t = true ∧ t.cnt ≤ 60) ∧ (partsF f t ≤ 60 → partsF f t = t.cnt)) (l : List Tr) :
    ∀ n, (l.foldl (partsG (partsF f)) n ≤ 60 ↔ n ≤ 60 ∧ l.all (dpF f) = true ∧ n + cntL l ≤ 60) ∧ (l.foldl (partsG (partsF f)) n ≤ 60 → l.foldl (partsG (partsF f)) n = n + cntL l) := by
  induction l with
  | nil => intro n; simp [cntL]
  | cons t r ihl =>
    intro n
    rw [List.foldl_cons, List.all_cons, cntL]
    obtain ⟨h1, h2⟩ := ihl (partsG (partsF f) n t)
    obtain ⟨i1, i2⟩ := ih t
    by_cases hn : n ≤ 60
    · have hg : partsG (partsF f) n t = n + partsF f t := by rw [partsG, if_pos hn]
      rw [hg] at h1 h2 ⊢
      by_cases hp : partsF f t ≤ 60
      · have e := i2 hp
        obtain ⟨d, c⟩ := i1.1 hp
        rw [e] at h1 h2 ⊢
        constructor
        · rw [h1, d, Bool.true_and]
          exact ⟨fun h => ⟨hn, h.2.1, by omega⟩, fun h => ⟨by omega, h.2.1, by omega⟩⟩
        · intro h; rw [h2 h]; omega
      · have hnd : ¬ (dpF f t = true ∧ t.cnt ≤ 60) := fun h => hp (i1.2 h)
        constructor
        · rw [h1]
          constructor
          · intro h; omega
          · intro h
            exfalso
            apply hnd
            have hd : dpF f t = true := by have := h.2.1; simp only [Bool.and_eq_true] at this; exact this.1
            exact ⟨hd, by omega⟩
        · intro h; have := h1.1 h; omega
    · have hg : partsG (partsF f) n t = n := by rw [partsG, if_neg hn]
      rw [hg] at h1 h2 ⊢
      constructor
      · rw [h1]
        constructor
        · intro h; omega
        · intro h; omega
      · intro h; have := h1.1 h; omega

theorem parts_spec (f : Nat) : ∀ t, (partsF f t ≤ 60 ↔ dpF f t = true ∧ t.cnt ≤ 60) ∧ (partsF f t ≤ 60 → partsF f t = t.cnt) := by
  induction f with
  | zero => intro t; simp [partsF, dpF]
  | succ f ih =>
    intro t
    obtain ⟨h1, h2⟩ := parts_fold ih t.l 1
    rw [partsF, dpF, cnt_eq]
    constructor
    · rw [h1]
      constructor
      · intro h; exact ⟨h.2.1, h.2.2⟩
      · intro h; exact ⟨by omega, h.1, h.2⟩
    · exact h2

theorem room_fold {f : Nat} (ih : ∀ t r, 0 ≤ r → roomF f t r = if dpF f t = true ∧ t.okT = true ∧ (t.cnt : Int) ≤ r then r - t.cnt else -1) (l : List Tr) :
    ∀ q : Int, -1 ≤ q → l.foldl (roomG (roomF f)) q = if 0 ≤ q ∧ l.all (dpF f) = true ∧ okL l = true ∧ (cntL l : Int) ≤ q then q - cntL l else -1 := by
  induction l with
  | nil => intro q hq; simp [cntL, okL]; omega
  | cons t r ihl =>
    intro q hq
    rw [List.foldl_cons, List.all_cons, cntL, okL]
    by_cases h0 : q < 0
    · have hg : roomG (roomF f) q t = -1 := by rw [roomG, if_pos h0]
      rw [hg, ihl (-1) (by omega), if_neg (by omega), if_neg (by omega)]
    · have hg : roomG (roomF f) q t = roomF f t q := by rw [roomG, if_neg h0]
      rw [hg, ih t q (by omega)]
      by_cases hc : dpF f t = true ∧ t.okT = true ∧ (t.cnt : Int) ≤ q
      · rw [if_pos hc, ihl _ (by omega)]
        obtain ⟨d, o, c⟩ := hc
        simp only [d, o, Bool.true_and]
        split <;> split <;> (try omega)
        · rename_i a b; exact absurd ⟨by omega, a.2.1, a.2.2.1, by omega⟩ b
        · rename_i a b; exact absurd ⟨by omega, b.2.1, b.2.2.1, by omega⟩ a
      · rw [if_neg hc, ihl (-1) (by omega), if_neg (by omega), if_neg]
        intro h
        apply hc
        have hd := h.2.1
        have ho := h.2.2.1
        simp only [Bool.and_eq_true] at hd ho
        exact ⟨hd.1, ho.1, by omega⟩

theorem room_spec (f : Nat) : ∀ t r, 0 ≤ r → roomF f t r = if dpF f t = true ∧ t.okT = true ∧ (t.cnt : Int) ≤ r then r - t.cnt else -1 := by
  induction f with
  | zero => intro t r _; simp [roomF, dpF]
  | succ f ih =>
    intro t r hr
    rw [roomF, dpF, cnt_eq, okT_eq]
    by_cases h0 : r = 0 ∨ nodeB t = false
    · rw [if_pos h0, if_neg]
      rintro ⟨_, h2, h3⟩
      rcases h0 with h0 | h0
      · omega
      · rw [h0] at h2; simp at h2
    · rw [if_neg h0, room_fold ih t.l (r - 1) (by omega)]
      have hnb : nodeB t = true := by
        cases hb : nodeB t with
        | true => rfl
        | false => exact absurd (Or.inr hb) h0
      rw [hnb, Bool.and_true]
      split <;> split <;> (try omega)
      · rename_i a b; exact absurd ⟨a.2.1, a.2.2.1, by omega⟩ b
      · rename_i a b; exact absurd ⟨by omega, b.1, b.2.1, by omega⟩ a

/-- A regular expression that is right. -/
def okR (t : Tr) : Bool := decide (partsF 6 t ≤ 60) && t.okT

theorem okR_room (t : Tr) : decide (0 ≤ roomF 6 t 60) = okR t := by
  obtain ⟨h1, _⟩ := parts_spec 6 t
  rw [okR, room_spec 6 t 60 (by omega)]
  by_cases h : dpF 6 t = true ∧ t.okT = true ∧ (t.cnt : Int) ≤ 60
  · rw [if_pos h, decide_eq_true (h1.2 ⟨h.1, by omega⟩), h.2.1, decide_eq_true (by omega)]; rfl
  · rw [if_neg h]
    by_cases hp : partsF 6 t ≤ 60
    · have := h1.1 hp
      have ho : t.okT = false := by
        cases hb : t.okT with
        | true => exact absurd ⟨this.1, hb, by omega⟩ h
        | false => rfl
      rw [ho]; simp
    · rw [decide_eq_false hp]; simp

theorem parts_bd (f : Nat) : ∀ t, 1 ≤ partsF f t ∧ partsF f t ≤ 61 + 60 * f := by
  induction f with
  | zero => intro t; simp [partsF]
  | succ f ih =>
    intro t
    have h : ∀ (l : List Tr) (n : Nat), 1 ≤ n → n ≤ 121 + 60 * f → 1 ≤ l.foldl (partsG (partsF f)) n ∧ l.foldl (partsG (partsF f)) n ≤ 121 + 60 * f := by
      intro l
      induction l with
      | nil => intro n h0 h1; exact ⟨h0, h1⟩
      | cons x r ihl =>
        intro n h0 h1
        rw [List.foldl_cons]
        apply ihl
        · unfold partsG; split <;> omega
        · have := (ih x).2
          unfold partsG; split <;> omega
    have := h t.l 1 (by omega) (by omega)
    rw [partsF]
    omega

theorem parts_take {f : Nat} (l : List Tr) (k : Nat) (h : k < l.length) : (l.take (k + 1)).foldl (partsG (partsF f)) 1 = partsG (partsF f) ((l.take k).foldl (partsG (partsF f)) 1) l[k] := by
  rw [List.take_succ_eq_append_getElem h, List.foldl_append]; rfl
theorem parts_stop {f : Nat} (l : List Tr) : ∀ n, 60 < n → l.foldl (partsG (partsF f)) n = n := by
  induction l with
  | nil => intro n _; rfl
  | cons x r ih => intro n h; rw [List.foldl_cons, partsG, if_neg (by omega)]; exact ih n h
theorem parts_cut {f : Nat} (l : List Tr) (k : Nat) (h : 60 < (l.take k).foldl (partsG (partsF f)) 1) : l.foldl (partsG (partsF f)) 1 = (l.take k).foldl (partsG (partsF f)) 1 := by
  conv => lhs; rw [← List.take_append_drop k l]
  rw [List.foldl_append]
  exact parts_stop _ _ h
theorem room_take {f : Nat} (l : List Tr) (k : Nat) (r : Int) (h : k < l.length) : (l.take (k + 1)).foldl (roomG (roomF f)) r = roomG (roomF f) ((l.take k).foldl (roomG (roomF f)) r) l[k] := by
  rw [List.take_succ_eq_append_getElem h, List.foldl_append]; rfl
theorem room_stop {f : Nat} (l : List Tr) : l.foldl (roomG (roomF f)) (-1) = -1 := by
  induction l with
  | nil => rfl
  | cons x r ih => rw [List.foldl_cons, roomG, if_pos (by omega)]; exact ih
theorem room_cut {f : Nat} (l : List Tr) (k : Nat) (r : Int) (h : (l.take k).foldl (roomG (roomF f)) r = -1) : l.foldl (roomG (roomF f)) r = -1 := by
  conv => lhs; rw [← List.take_append_drop k l]
  rw [List.foldl_append, h]
  exact room_stop _
theorem room_bd (f : Nat) (t : Tr) (r : Int) (h : 0 ≤ r) : -1 ≤ roomF f t r ∧ roomF f t r ≤ r := by
  rw [room_spec f t r h]
  have := cnt_pos t
  split <;> omega
end Go.Proofs.YthifleacfhijnaaDoor
