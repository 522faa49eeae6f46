/- The text of a regular expression, as a function on trees. -/
import Derived.Test.YtgigalcajgjpnaaGreatRexOkI
import Derived.Test.YtgigalcajgjpnaaGreatRexOkT
import Derived.Test.YtgigalcajgjpnaaGreatStrOf
namespace Go.Proofs.YtgigalcajgjpnaaGreat
open Go.RowKit

theorem strOf_txt (s : ByteArray) : strOf (txt s) = s := by
  apply ByteArray.ext
  unfold strOf txt
  apply Array.toList_inj.1
  simp only [List.map_map]
  conv => rhs; rw [← List.map_id s.data.toList]
  apply List.map_congr_left
  intro b _
  simp
theorem txt_strOf {l : List Int} (h : byteList l) : txt (strOf l) = l := by
  unfold strOf txt
  simp only [List.map_map]
  conv => rhs; rw [← List.map_id l]
  apply List.map_congr_left
  intro z hz
  have := h z hz
  simpa using u8_back z this.1 this.2
theorem strOf_append (a b : List Int) : strOf a ++ strOf b = strOf (a ++ b) := by
  apply ByteArray.ext
  rw [ByteArray.data_append]
  simp [strOf]

/-- The mark of a repeat. -/
def markOf (k : Int) : Int := if k = 6 then 42 else if k = 7 then 43 else 63

mutual
def Tr.tl : Tr → List Int
  | .node k s l => if k = 1 then txt s else if k = 2 then [46] else if k = 3 then 91 :: (txt s ++ [93]) else if k = 4 then tlC l else if k = 5 then tlA true l
    else if k = 6 ∨ k = 7 ∨ k = 8 then tlO l ++ [markOf k] else if k = 10 then [94] else if k = 11 then [36] else [40, 41]
def tlC : List Tr → List Int
  | [] => []
  | t :: r => (if t.k = 5 then 40 :: (t.tl ++ [41]) else t.tl) ++ tlC r
def tlA (first : Bool) : List Tr → List Int
  | [] => []
  | t :: r => (if first = true then [] else [124]) ++ (t.tl ++ tlA false r)
def tlO : List Tr → List Int
  | [] => []
  | t :: _ => if t.k = 4 ∨ t.k = 5 then 40 :: (t.tl ++ [41]) else t.tl
end

def pcC (t : Tr) : List Int := if t.k = 5 then 40 :: (t.tl ++ [41]) else t.tl
def pcO (t : Tr) : List Int := if t.k = 4 ∨ t.k = 5 then 40 :: (t.tl ++ [41]) else t.tl

theorem tl_eq (t : Tr) : t.tl = if t.k = 1 then txt t.s else if t.k = 2 then [46] else if t.k = 3 then 91 :: (txt t.s ++ [93]) else if t.k = 4 then tlC t.l else if t.k = 5 then tlA true t.l
    else if t.k = 6 ∨ t.k = 7 ∨ t.k = 8 then tlO t.l ++ [markOf t.k] else if t.k = 10 then [94] else if t.k = 11 then [36] else [40, 41] := by
  cases t; rw [Tr.tl]; rfl
theorem tlC_cons (t : Tr) (r : List Tr) : tlC (t :: r) = pcC t ++ tlC r := by rw [tlC]; rfl
theorem tlO_cons (t : Tr) (r : List Tr) : tlO (t :: r) = pcO t := by rw [tlO]; rfl

theorem tl1 {t : Tr} (h : t.k = 1) : t.tl = txt t.s := by rw [tl_eq, if_pos h]
theorem tl2 {t : Tr} (h : t.k = 2) : t.tl = [46] := by rw [tl_eq, if_neg (by omega), if_pos h]
theorem tl3 {t : Tr} (h : t.k = 3) : t.tl = 91 :: (txt t.s ++ [93]) := by rw [tl_eq, if_neg (by omega), if_neg (by omega), if_pos h]
theorem tl4 {t : Tr} (h : t.k = 4) : t.tl = tlC t.l := by rw [tl_eq, if_neg (by omega), if_neg (by omega), if_neg (by omega), if_pos h]
theorem tl5 {t : Tr} (h : t.k = 5) : t.tl = tlA true t.l := by rw [tl_eq, if_neg (by omega), if_neg (by omega), if_neg (by omega), if_neg (by omega), if_pos h]
theorem tl6 {t : Tr} (h : t.k = 6 ∨ t.k = 7 ∨ t.k = 8) : t.tl = tlO t.l ++ [markOf t.k] := by
  rw [tl_eq, if_neg (by omega), if_neg (by omega), if_neg (by omega), if_neg (by omega), if_neg (by omega), if_pos h]
theorem tl9 {t : Tr} (h : t.k = 9) : t.tl = [40, 41] := by
  rw [tl_eq, if_neg (by omega), if_neg (by omega), if_neg (by omega), if_neg (by omega), if_neg (by omega), if_neg (by omega), if_neg (by omega), if_neg (by omega)]
theorem tl10 {t : Tr} (h : t.k = 10) : t.tl = [94] := by
  rw [tl_eq, if_neg (by omega), if_neg (by omega), if_neg (by omega), if_neg (by omega), if_neg (by omega), if_neg (by omega), if_pos h]
theorem tl11 {t : Tr} (h : t.k = 11) : t.tl = [36] := by
  rw [tl_eq, if_neg (by omega), if_neg (by omega), if_neg (by omega), if_neg (by omega), if_neg (by omega), if_neg (by omega), if_neg (by omega), if_pos h]

/-- Parts with something between, those of the kind 5 within brackets. -/
def jnL (bs : List Int) : Bool → List Tr → List Int
  | _, [] => []
  | f, t :: r => (if f = true then [] else bs) ++ (pcC t ++ jnL bs false r)

theorem jnL_C (f : Bool) (l : List Tr) : jnL [] f l = tlC l := by
  induction l generalizing f with
  | nil => rw [jnL, tlC]
  | cons t r ih => rw [jnL, tlC_cons, ih]; simp
theorem jnL_A (f : Bool) (l : List Tr) (h : kinds l 5 = false) : jnL [124] f l = tlA f l := by
  induction l generalizing f with
  | nil => rw [jnL, tlA]
  | cons t r ih =>
    unfold kinds at h ih
    rw [List.any_cons, Bool.or_eq_false_iff] at h
    have h5 : ¬ t.k = 5 := by have := h.1; simpa using this
    rw [jnL, tlA, ih false h.2, pcC, if_neg h5]
theorem jnL_snoc (bs : List Int) (f : Bool) (l : List Tr) (t : Tr) : jnL bs f (l ++ [t]) = jnL bs f l ++ ((if (f && l.isEmpty) = true then [] else bs) ++ pcC t) := by
  induction l generalizing f with
  | nil => simp [jnL]
  | cons x r ih => rw [List.cons_append, jnL, ih, jnL]; simp
theorem jnL_take (bs : List Int) (l : List Tr) (k : Nat) (h : k < l.length) :
    jnL bs true (l.take (k + 1)) = jnL bs true (l.take k) ++ ((if k = 0 then [] else bs) ++ pcC l[k]) := by
  rw [List.take_succ_eq_append_getElem h, jnL_snoc]
  congr 2
  by_cases hk : k = 0
  · subst hk; simp
  · rw [if_neg hk, if_neg]
    have : (l.take k) ≠ [] := by intro e; have := congrArg List.length e; rw [List.length_take, List.length_nil] at this; omega
    simp [this]

theorem tlC_byte (l : List Tr) (h : ∀ x ∈ l, byteList x.tl) : byteList (tlC l) := by
  induction l with
  | nil => rw [tlC]; intro z hz; simp at hz
  | cons t r ih =>
    rw [tlC_cons]
    refine byteList.append ?_ (ih fun x hx => h x (List.mem_cons_of_mem _ hx))
    have ht := h t (by simp)
    unfold pcC
    split
    · intro z hz
      rcases List.mem_cons.1 hz with rfl | hz
      · omega
      · rcases List.mem_append.1 hz with hz | hz
        · exact ht z hz
        · simp at hz; omega
    · exact ht
theorem tlA_byte (l : List Tr) (f : Bool) (h : ∀ x ∈ l, byteList x.tl) : byteList (tlA f l) := by
  induction l generalizing f with
  | nil => rw [tlA]; intro z hz; simp at hz
  | cons t r ih =>
    rw [tlA]
    refine byteList.append ?_ (byteList.append (h t (by simp)) (ih false fun x hx => h x (List.mem_cons_of_mem _ hx)))
    split <;> (intro z hz; simp at hz; try omega)
theorem tl_byte : ∀ t : Tr, byteList t.tl := by
  apply Tr.ind
  intro t ih
  have one : ∀ c : Int, 0 ≤ c → c ≤ 255 → byteList [c] := by intro c h0 h1 z hz; simp at hz; omega
  rw [tl_eq]
  split
  · exact txt_byte _
  split
  · exact one _ (by omega) (by omega)
  split
  · intro z hz
    rcases List.mem_cons.1 hz with rfl | hz
    · omega
    · exact (txt_byte t.s).append (one 93 (by omega) (by omega)) z hz
  split
  · exact tlC_byte _ ih
  split
  · exact tlA_byte _ _ ih
  split
  · refine byteList.append ?_ ?_
    · match hl : t.l with
      | [] => rw [tlO]; intro z hz; simp at hz
      | x :: r =>
        have hx := ih x (by rw [hl]; simp)
        rw [tlO_cons, pcO]
        split
        · intro z hz
          rcases List.mem_cons.1 hz with rfl | hz
          · omega
          · exact hx.append (one 41 (by omega) (by omega)) z hz
        · exact hx
    · intro z hz
      simp [markOf] at hz
      split at hz
      · omega
      split at hz <;> omega
  split
  · exact one _ (by omega) (by omega)
  split
  · exact one _ (by omega) (by omega)
  · intro z hz; simp at hz; omega

theorem tlC_len (l : List Tr) (h : ∀ x ∈ l, x.tl.length + 1 ≤ 13 * x.cnt) : (tlC l).length ≤ 13 * cntL l + l.length := by
  induction l with
  | nil => simp [tlC]
  | cons t r ih =>
    have := ih fun x hx => h x (List.mem_cons_of_mem _ hx)
    have ht := h t (by simp)
    rw [tlC_cons, cntL, List.length_append, List.length_cons]
    have : (pcC t).length ≤ t.tl.length + 2 := by unfold pcC; split <;> simp
    omega
theorem tlA_len (l : List Tr) (f : Bool) (h : ∀ x ∈ l, x.tl.length + 1 ≤ 13 * x.cnt) : (tlA f l).length ≤ 13 * cntL l := by
  induction l generalizing f with
  | nil => simp [tlA]
  | cons t r ih =>
    have := ih false fun x hx => h x (List.mem_cons_of_mem _ hx)
    have ht := h t (by simp)
    rw [tlA, cntL, List.length_append, List.length_append]
    have : (if f = true then ([] : List Int) else [124]).length ≤ 1 := by split <;> simp
    omega

/-- A right one's text is short. -/
theorem tl_len : ∀ t : Tr, t.okT = true → t.tl.length + 1 ≤ 13 * t.cnt := by
  apply Tr.ind
  intro t ih ho
  rw [okT_eq, Bool.and_eq_true] at ho
  have hc := (okL_iff t.l).1 ho.1
  have ih' : ∀ x ∈ t.l, x.tl.length + 1 ≤ 13 * x.cnt := fun x hx => ih x hx (hc x hx)
  have hn := ho.2
  rw [cnt_eq]
  rw [tl_eq]
  split
  · rename_i h
    rw [nodeB1 h] at hn
    simp [setB] at hn
    rw [txt_length]; omega
  split
  · simp; omega
  split
  · rename_i h
    rw [nodeB3 h] at hn
    simp [setB] at hn
    simp [txt_length]; omega
  split
  · rename_i h
    rw [nodeB4 (Or.inl h)] at hn
    simp at hn
    have := tlC_len t.l ih'
    omega
  split
  · have := tlA_len t.l true ih'
    omega
  split
  · rename_i h
    rw [nodeB6 h] at hn
    simp at hn
    obtain ⟨x, hx⟩ := List.length_eq_one_iff.1 hn.1.2
    have := ih' x (by rw [hx]; simp)
    rw [hx, tlO_cons, cntL, cntL, List.length_append]
    have : (pcO x).length ≤ x.tl.length + 2 := by unfold pcO; split <;> simp
    simp
    omega
  split
  · simp; omega
  split
  · simp; omega
  · simp; omega

theorem okR_iff (t : Tr) : okR t = true ↔ dpF 6 t = true ∧ t.cnt ≤ 60 ∧ t.okT = true := by
  unfold okR
  rw [Bool.and_eq_true, decide_eq_true_iff, (parts_spec 6 t).1]
  constructor
  · rintro ⟨⟨a, b⟩, c⟩; exact ⟨a, b, c⟩
  · rintro ⟨a, b, c⟩; exact ⟨⟨a, b⟩, c⟩

/-- What RexText answers. -/
def rexS (t : Tr) : ByteArray := if okR t = true then strOf t.tl else ⟨#[]⟩

theorem cntL_mem {l : List Tr} {x : Tr} (h : x ∈ l) : x.cnt ≤ cntL l := by
  induction l with
  | nil => simp at h
  | cons t r ih =>
    rw [cntL]
    rcases List.mem_cons.1 h with rfl | h
    · omega
    · have := ih h; omega
theorem part_ok {t x : Tr} (h : t.okT = true) (hc : t.cnt ≤ 60) (hx : x ∈ t.l) : x.okT = true ∧ x.cnt ≤ 60 := by
  rw [okT_eq, Bool.and_eq_true] at h
  refine ⟨(okL_iff t.l).1 h.1 x hx, ?_⟩
  have := cntL_mem hx
  rw [cnt_eq] at hc
  omega
theorem jnL_app (bs : List Int) (f : Bool) (a b : List Tr) : (jnL bs f a).length ≤ (jnL bs f (a ++ b)).length := by
  induction a generalizing f with
  | nil => rw [jnL]; simp
  | cons t r ih =>
    have := ih false
    rw [List.cons_append, jnL, jnL]
    simp only [List.length_append]
    omega
theorem jnL_le (bs : List Int) (l : List Tr) (k : Nat) : (jnL bs true (l.take k)).length ≤ (jnL bs true l).length := by
  have := jnL_app bs true (l.take k) (l.drop k)
  rwa [List.take_append_drop] at this
end Go.Proofs.YtgigalcajgjpnaaGreat
