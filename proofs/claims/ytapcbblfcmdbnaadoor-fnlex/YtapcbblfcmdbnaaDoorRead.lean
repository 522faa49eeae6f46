/- Plain facts on reading numbers in groups of seven bits out of a list of bytes. -/
import Derived.Test.YtapcbblfcmdbnaaDoorSpecPutS
namespace Go.Proofs.YtapcbblfcmdbnaaDoor
open Go.RowKit

/-- The first k groups joined. -/
def jn (l : List Int) : Nat → Int
  | 0 => 0
  | k + 1 => jn l k + l.getD k 0 % 128 * 128 ^ k

theorem jn_bd (l : List Int) (k : Nat) : 0 ≤ jn l k ∧ jn l k < 128 ^ k := by
  induction k with
  | zero => simp [jn]
  | succ k ih =>
    have h1 : 0 ≤ l.getD k 0 % 128 ∧ l.getD k 0 % 128 ≤ 127 := by omega
    have hp : (0 : Int) < 128 ^ k := Int.pow_pos (by omega)
    have h2 : 0 ≤ l.getD k 0 % 128 * 128 ^ k := Int.mul_nonneg h1.1 (by omega)
    have h3 : l.getD k 0 % 128 * 128 ^ k ≤ 127 * 128 ^ k := Int.mul_le_mul_of_nonneg_right h1.2 (by omega)
    simp only [jn]
    rw [Int.pow_succ]
    omega

theorem two_pow7 (k : Nat) : (2 : Int) ^ (7 * k) = 128 ^ k := by
  rw [Int.pow_mul]; rfl

theorem or_comm64 (x y : Int) : bits .or .i64 x y = bits .or .i64 y x := by simp only [bits, BitVec.or_comm]

theorem pow128_le (k : Nat) (hk : k ≤ 4) : (128 : Int) ^ k ≤ 268435456 := by
  match k, hk with
  | 0, _ => decide
  | 1, _ => decide
  | 2, _ => decide
  | 3, _ => decide
  | 4, _ => decide

/-- One group more, as both programs join it. -/
theorem jn_step (l : List Int) (k : Nat) (hk : k ≤ 4) (c : Int) (hc : l.getD k 0 = c) : bits .or .i64 (jn l k) (wrap64 (c % 128 * 2 ^ (7 * k))) = jn l (k + 1) := by
  subst hc
  have hb := jn_bd l k
  have hp : (0 : Int) < 128 ^ k := Int.pow_pos (by omega)
  have hp4 := pow128_le k hk
  have h1 : 0 ≤ l.getD k 0 % 128 ∧ l.getD k 0 % 128 ≤ 127 := by omega
  have h2 : 0 ≤ l.getD k 0 % 128 * 128 ^ k := Int.mul_nonneg h1.1 (by omega)
  have h3 : l.getD k 0 % 128 * 128 ^ k ≤ 127 * 128 ^ k := Int.mul_le_mul_of_nonneg_right h1.2 (by omega)
  have hw : wrap64 (l.getD k 0 % 128 * 2 ^ (7 * k)) = l.getD k 0 % 128 * 2 ^ (7 * k) := by
    rw [two_pow7]
    generalize l.getD k 0 % 128 * 128 ^ k = q at *
    unfold wrap64
    omega
  rw [hw, or_comm64, bits_join .i64 63 (by decide) (fun n a b => by rw [IntKind.wrap_i64]; omega) (7 * k) _ _ (by rw [two_pow7]; exact h2) (by rw [Int.mul_emod_left]) ?_ hb.1 (by rw [two_pow7]; exact hb.2) ?_]
  · rw [two_pow7]
    simp only [jn]
    omega
  · rw [two_pow7]
    generalize l.getD k 0 % 128 * 128 ^ k = q at *
    omega
  · omega

theorem jn_take (l : List Int) (m k : Nat) (h : k ≤ m) : jn (l.take m) k = jn l k := by
  induction k with
  | zero => rfl
  | succ k ih =>
    simp only [jn]
    rw [ih (by omega)]
    have : (l.take m).getD k 0 = l.getD k 0 := by simp [List.getD, show k < m by omega]
    rw [this]

/-- How many groups stand at the head of a list: 0 where none is there whole within five. -/
def cg : Nat → List Int → Nat
  | 0, _ => 0
  | _ + 1, [] => 0
  | f + 1, c :: r => if c < 128 then 1 else if cg f r = 0 then 0 else cg f r + 1

theorem cg_full (f : Nat) (l : List Int) (k : Nat) (hk : k < f) (hl : k < l.length) (h1 : ∀ i, i < k → 128 ≤ l.getD i 0) (h2 : l.getD k 0 < 128) : cg f l = k + 1 := by
  induction f generalizing l k with
  | zero => omega
  | succ f ih =>
    cases l with
    | nil => simp at hl
    | cons c r =>
      unfold cg
      cases k with
      | zero => simp at h2; rw [if_pos h2]
      | succ k =>
        have h0 := h1 0 (by omega)
        simp at h0
        have := ih r k (by omega) (by simpa using hl) (fun i hi => by simpa using h1 (i + 1) (by omega)) (by simpa using h2)
        rw [if_neg (by omega), this, if_neg (by omega)]

theorem cg_none (f : Nat) (l : List Int) (h1 : ∀ i, i < f → i < l.length → 128 ≤ l.getD i 0) : cg f l = 0 := by
  induction f generalizing l with
  | zero => rfl
  | succ f ih =>
    cases l with
    | nil => rfl
    | cons c r =>
      unfold cg
      have h0 := h1 0 (by omega) (by simp)
      simp at h0
      have := ih r (fun i hi hl => by simpa using h1 (i + 1) (by omega) (by simpa using hl))
      rw [if_neg (by omega), this, if_pos rfl]

/-- Either no number is there whole, or one of k + 1 groups. -/
theorem groups_cases (f : Nat) (l : List Int) : (∀ i, i < f → i < l.length → 128 ≤ l.getD i 0) ∨ ∃ k, k < f ∧ k < l.length ∧ (∀ i, i < k → 128 ≤ l.getD i 0) ∧ l.getD k 0 < 128 := by
  induction f with
  | zero => left; intro i hi; omega
  | succ f ih =>
    rcases ih with h | ⟨k, hk, hl, h1, h2⟩
    · by_cases hf : f < l.length
      · by_cases hc : l.getD f 0 < 128
        · right; exact ⟨f, by omega, hf, fun i hi => h i hi (by omega), hc⟩
        · left; intro i hi hl
          by_cases e : i = f
          · subst e; omega
          · exact h i (by omega) hl
      · left; intro i hi hl
        exact h i (by omega) hl
    · right; exact ⟨k, by omega, hl, h1, h2⟩

/-- What GetU answers of the list from the place on, and of the place. -/
def gUat (l : List Int) (a : Int) : Int × Int × Bool :=
  if cg 5 l = 0 then (0, 0, false)
  else if (1 < cg 5 l ∧ l.getD (cg 5 l - 1) 0 = 0) ∨ 2147483647 < jn l (cg 5 l) then (0, 0, false)
  else (jn l (cg 5 l), a + cg 5 l, true)

def gU (zs : List Int) (a : Int) : Int × Int × Bool :=
  if 0 ≤ a ∧ a < zs.length then gUat (zs.drop a.toNat) a else (0, 0, false)

theorem gUat_none {l : List Int} {a : Int} (h : cg 5 l = 0) : gUat l a = (0, 0, false) := by
  unfold gUat; rw [if_pos h]
theorem gUat_zero {l : List Int} {a c : Int} {k : Nat} (h : cg 5 l = k + 1) (hc : l.getD k 0 = c) (hk : 0 < k) (h0 : c = 0) : gUat l a = (0, 0, false) := by
  unfold gUat
  rw [h, if_neg (by omega), if_pos (Or.inl ⟨by omega, by rw [show k + 1 - 1 = k by omega, hc, h0]⟩)]
theorem gUat_big {l : List Int} {a : Int} {k : Nat} (h : cg 5 l = k + 1) (hj : 2147483647 < jn l (k + 1)) : gUat l a = (0, 0, false) := by
  unfold gUat
  rw [h, if_neg (by omega), if_pos (Or.inr hj)]
theorem gUat_yes {l : List Int} {a c : Int} {k : Nat} (h : cg 5 l = k + 1) (hc : l.getD k 0 = c) (hk : k = 0 ∨ c ≠ 0) (hj : jn l (k + 1) ≤ 2147483647) : gUat l a = (jn l (k + 1), a + k + 1, true) := by
  unfold gUat
  rw [h, if_neg (by omega), if_neg ?_]
  · simp only [Prod.mk.injEq, and_true, true_and]; omega
  · rintro (⟨h1, h2⟩ | h1)
    · rw [show k + 1 - 1 = k by omega, hc] at h2
      omega
    · omega

theorem gU_out {zs : List Int} {a : Int} (h : a < 0 ∨ zs.length ≤ a) : gU zs a = (0, 0, false) := by
  unfold gU; rw [if_neg (by omega)]
theorem gU_in {zs : List Int} {p : Nat} (h : p < zs.length) : gU zs p = gUat (zs.drop p) p := by
  unfold gU; rw [if_pos ⟨by omega, by omega⟩]; simp

/-- Three results as the programs hand them back. -/
def trip (r : Int × Int × Bool) : Value := .tuple #[.int .i64 r.1, .int .i64 r.2.1, .bool r.2.2]

end Go.Proofs.YtapcbblfcmdbnaaDoor
