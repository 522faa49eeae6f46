/- What the law FnRexLaws turns on: plain mathematics. -/
import Derived.Test.YthifleacfhijnaaDoorLawLong
import Derived.Test.YthifleacfhijnaaDoorDrawRexs
namespace Go.Proofs.YthifleacfhijnaaDoor

def oneT : Tr := .node 1 ⟨#[97]⟩ []
def starT : Tr := .node 6 ⟨#[]⟩ [oneT]
def altT : Tr := .node 5 ⟨#[]⟩ [oneT, starT]
def plusT : Tr := .node 7 ⟨#[]⟩ [oneT]

theorem okR_star : okR starT = true := by decide +kernel
theorem okR_alt : okR altT = true := by decide +kernel
theorem okR_plus : okR plusT = true := by decide +kernel

theorem endM_star (s : ByteArray) : starT.endM s = mMany s.size (oneT.endM s) := by rw [endM_eq]; rfl
theorem endM_plus (s : ByteArray) : plusT.endM s = mThen s.size (oneT.endM s) (mMany s.size (oneT.endM s)) := by rw [endM_eq]; rfl
theorem endM_alt (s : ByteArray) : altT.endM s = mAdd (mAdd mNone (oneT.endM s)) (starT.endM s) := by rw [endM_eq]; rfl
theorem endM_two (s : ByteArray) (r q : Tr) : (Tr.node 5 ⟨#[]⟩ [r, q]).endM s = mAdd (mAdd mNone (r.endM s)) (q.endM s) := by rw [endM_eq]; rfl

theorem rowL_congr {n : Nat} {f g : Nat → Bool} (h : ∀ j, j ≤ n → f j = g j) : rowL n f = rowL n g := by
  unfold rowL
  apply List.filter_congr
  intro j hj
  exact h j (by have := List.mem_range.1 hj; omega)
theorem rowL_cons {n i : Nat} {f g : Nat → Bool} (hi : i ≤ n) (hg : ∀ j, g j = true → i < j) (hf : ∀ j, j ≤ n → f j = (j == i || g j)) : rowL n f = i :: rowL n g := by
  unfold rowL
  have e : List.range (n + 1) = List.range i ++ i :: List.range' (i + 1) (n - i) := by
    rw [List.range_eq_range', List.range_eq_range']
    have h1 := List.range'_append (s := 0) (m := i) (n := n - i + 1) (step := 1)
    simp only [Nat.one_mul, Nat.zero_add] at h1
    rw [show n + 1 = i + (n - i + 1) by omega, ← h1, List.range'_succ]
  have e1 : (List.range i).filter f = [] := by
    rw [List.filter_eq_nil_iff]
    intro j hj
    have hj' := List.mem_range.1 hj
    rw [hf j (by omega)]
    simp only [Bool.or_eq_true, beq_iff_eq]
    rintro (h | h)
    · omega
    · have := hg j h; omega
  have e2 : (List.range i).filter g = [] := by
    rw [List.filter_eq_nil_iff]
    intro j hj h
    have hj' := List.mem_range.1 hj
    have := hg j h
    omega
  have e3 : (List.range' (i + 1) (n - i)).filter f = (List.range' (i + 1) (n - i)).filter g := by
    apply List.filter_congr
    intro j hj
    have hj' := List.mem_range'_1.1 hj
    rw [hf j (by omega)]
    have : (j == i) = false := by simp; omega
    rw [this, Bool.false_or]
  have h4 : f i = true := by rw [hf i hi]; simp
  have h5 : g i = false := by
    cases h : g i with
    | false => rfl
    | true => have := hg i h; omega
  rw [e, List.filter_append, List.filter_append, e1, e2, List.nil_append, List.nil_append, List.filter_cons, List.filter_cons, h4, h5, e3]
  rfl

theorem one_step {s : ByteArray} {i j : Nat} (h : oneT.endM s i j = true) : j = i + 1 ∧ i < s.size := by
  rw [endM_eq] at h
  have h' : mOne s 1 ⟨#[97]⟩ i j = true := h
  simp only [mOne, Bool.and_eq_true, decide_eq_true_iff] at h'
  omega
theorem alt_star (s : ByteArray) (i : Nat) (hi : i ≤ s.size) : rowL s.size (altT.endM s i) = rowL s.size (starT.endM s i) := by
  apply rowL_congr
  intro j hj
  rw [endM_alt, endM_star, Bool.eq_iff_iff]
  simp only [mAdd, mNone, Bool.false_or, Bool.or_eq_true, Bool.and_eq_true, decide_eq_true_iff]
  constructor
  · rintro (⟨h1, h2⟩ | ⟨_, h⟩)
    · have := one_step h2
      exact (mMany_iff hj).2 (.inr ⟨j, hj, by omega, Nat.le_refl _, h2, (mMany_iff hj).2 (.inl rfl)⟩)
    · exact h
  · intro h
    exact .inr ⟨(UpM.many s.size _ i j hi h).1, h⟩
theorem star_plus (s : ByteArray) (i : Nat) (hi : i ≤ s.size) : rowL s.size (starT.endM s i) = i :: rowL s.size (plusT.endM s i) := by
  refine rowL_cons hi (fun j h => ?_) (fun j hj => ?_)
  · rw [endM_plus] at h
    obtain ⟨m, h1, h2, h3, h4, _⟩ := mThen_iff.1 h
    have := one_step h4
    omega
  · rw [endM_plus, endM_star, Bool.eq_iff_iff, mMany_iff hj, Bool.or_eq_true, beq_iff_eq, mThen_iff]
    constructor
    · rintro (h | ⟨m, h1, h2, h3, h4, h5⟩)
      · exact .inl h.symm
      · exact .inr ⟨m, h1, by omega, h3, h4, h5⟩
    · rintro (h | ⟨m, h1, h2, h3, h4, h5⟩)
      · exact .inl h.symm
      · have := one_step h4
        exact .inr ⟨m, h1, by omega, h3, h4, h5⟩

theorem map_contains (xs : List Nat) (k : Nat) : (xs.map fun (n : Nat) => (n : Int)).contains (k : Int) = xs.contains k := by
  rw [Bool.eq_iff_iff, List.contains_iff_mem, List.contains_iff_mem, List.mem_map]
  constructor
  · rintro ⟨x, hx, h⟩
    have : x = k := by omega
    subst this; exact hx
  · intro h; exact ⟨k, h, rfl⟩
theorem rowL_contains {n k : Nat} (f : Nat → Bool) (hk : k ≤ n) : (rowL n f).contains k = f k := by
  rw [Bool.eq_iff_iff, List.contains_iff_mem]
  unfold rowL
  rw [List.mem_filter, List.mem_range]
  exact ⟨fun h => h.2, fun h => ⟨by omega, h⟩⟩
theorem both_ends {s : ByteArray} {r q : Tr} (hr : okR r = true) (hq : okR q = true) (hb : okR (.node 5 ⟨#[]⟩ [r, q]) = true) (hs : s.size ≤ 200) {i k : Nat} (hi : i ≤ s.size) (hk : k ≤ s.size) :
    ((endsL (.node 5 ⟨#[]⟩ [r, q]) s (i : Int)).map fun (n : Nat) => (n : Int)).contains (k : Int) = (((endsL r s (i : Int)).map fun (n : Nat) => (n : Int)).contains (k : Int) || ((endsL q s (i : Int)).map fun (n : Nat) => (n : Int)).contains (k : Int)) := by
  rw [map_contains, map_contains, map_contains, endsL_row ⟨hb, hs⟩ hi, endsL_row ⟨hr, hs⟩ hi, endsL_row ⟨hq, hs⟩ hi, rowL_contains _ hk, rowL_contains _ hk, rowL_contains _ hk, endM_two, Bool.eq_iff_iff]
  simp only [mAdd, mNone, Bool.false_or, Bool.or_eq_true, Bool.and_eq_true, decide_eq_true_iff]
  constructor
  · rintro (⟨_, h⟩ | ⟨_, h⟩); exact .inl h; exact .inr h
  · rintro (h | h)
    · exact .inl ⟨(UpM.tree s r i k hi h).1, h⟩
    · exact .inr ⟨(UpM.tree s q i k hi h).1, h⟩
theorem three_ends {s : ByteArray} (hs : s.size ≤ 200) {i : Nat} (hi : i ≤ s.size) : endsL altT s (i : Int) = endsL starT s (i : Int) ∧ (endsL starT s (i : Int)).length = (endsL plusT s (i : Int)).length + 1 ∧ (endsL starT s (i : Int)).contains i = true := by
  rw [endsL_row ⟨okR_alt, hs⟩ hi, endsL_row ⟨okR_star, hs⟩ hi, endsL_row ⟨okR_plus, hs⟩ hi]
  refine ⟨alt_star s i hi, ?_, ?_⟩
  · rw [star_plus s i hi, List.length_cons]
  · rw [star_plus s i hi]; simp
end Go.Proofs.YthifleacfhijnaaDoor
