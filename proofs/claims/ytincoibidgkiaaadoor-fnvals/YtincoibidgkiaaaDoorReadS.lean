/- Plain facts on reading numbers with a sign. -/
import Derived.Test.YtincoibidgkiaaaDoorRead
namespace Go.Proofs.YtincoibidgkiaaaDoor
open Go.RowKit

/-- The number of k + 1 groups with its sign: c the last of them. -/
def sgn (l : List Int) (k : Nat) : Int := if 63 < l.getD k 0 then jn l (k + 1) - 128 ^ (k + 1) else jn l (k + 1)

def gSat (l : List Int) (a : Int) : Int × Int × Bool :=
  if cg 5 l = 0 then (0, 0, false)
  else if Ma.wr (sgn l (cg 5 l - 1)) ≠ sgn l (cg 5 l - 1) ∨ (Ma.SG (sgn l (cg 5 l - 1))).length ≠ cg 5 l then (0, 0, false)
  else (sgn l (cg 5 l - 1), a + cg 5 l, true)

def gS (zs : List Int) (a : Int) : Int × Int × Bool :=
  if 0 ≤ a ∧ a < zs.length then gSat (zs.drop a.toNat) a else (0, 0, false)

theorem gSat_none {l : List Int} {a : Int} (h : cg 5 l = 0) : gSat l a = (0, 0, false) := by
  unfold gSat; rw [if_pos h]
theorem gSat_big {l : List Int} {a M : Int} {k : Nat} (h : cg 5 l = k + 1) (hM : sgn l k = M) (hw : Ma.wr M ≠ M) : gSat l a = (0, 0, false) := by
  unfold gSat
  rw [h, if_neg (by omega), show k + 1 - 1 = k by omega, hM, if_pos (Or.inl hw)]
theorem gSat_long {l : List Int} {a M : Int} {k : Nat} (h : cg 5 l = k + 1) (hM : sgn l k = M) (hw : (Ma.SG M).length ≠ k + 1) : gSat l a = (0, 0, false) := by
  unfold gSat
  rw [h, if_neg (by omega), show k + 1 - 1 = k by omega, hM, if_pos (Or.inr hw)]
theorem gSat_yes {l : List Int} {a M : Int} {k : Nat} (h : cg 5 l = k + 1) (hM : sgn l k = M) (hw : Ma.wr M = M) (hl : (Ma.SG M).length = k + 1) : gSat l a = (M, a + k + 1, true) := by
  unfold gSat
  rw [h, if_neg (by omega), show k + 1 - 1 = k by omega, hM, if_neg (by rintro (h1 | h1) <;> omega)]
  simp only [Prod.mk.injEq, and_true, true_and]; omega

theorem gS_out {zs : List Int} {a : Int} (h : a < 0 ∨ zs.length ≤ a) : gS zs a = (0, 0, false) := by
  unfold gS; rw [if_neg (by omega)]
theorem gS_in {zs : List Int} {p : Nat} (h : p < zs.length) : gS zs p = gSat (zs.drop p) p := by
  unfold gS; rw [if_pos ⟨by omega, by omega⟩]; simp

/-- A number that fits into k + 1 groups has no more of them. -/
theorem sG_le (f k : Nat) (m : Int) (h0 : -64 * 128 ^ k ≤ m) (h1 : m < 64 * 128 ^ k) (hk : k < f) : (Ma.sG f m).length ≤ k + 1 := by
  induction f generalizing k m with
  | zero => omega
  | succ f ih =>
    unfold Ma.sG
    split
    · cases k with
      | zero => simp at h0 h1; omega
      | succ k =>
        rw [Int.pow_succ] at h0 h1
        have := ih k (m / 128) (by omega) (by omega) (by omega)
        simp; omega
    · simp

theorem sgn_fits (l : List Int) (k : Nat) (h0 : 0 ≤ l.getD k 0) (h1 : l.getD k 0 < 128) : -64 * 128 ^ k ≤ sgn l k ∧ sgn l k < 64 * 128 ^ k := by
  have hb := jn_bd l k
  have hp : (0 : Int) < 128 ^ k := Int.pow_pos (by omega)
  have hj : jn l (k + 1) = jn l k + l.getD k 0 * 128 ^ k := by
    simp only [jn]
    rw [Int.emod_eq_of_lt h0 h1]
  unfold sgn
  rw [hj, Int.pow_succ]
  generalize l.getD k 0 = c at *
  generalize (128 : Int) ^ k = P at *
  generalize jn l k = J at *
  split
  · rename_i h
    have h2 : 64 * P ≤ c * P := Int.mul_le_mul_of_nonneg_right (by omega) (by omega)
    have h3 : c * P ≤ 127 * P := Int.mul_le_mul_of_nonneg_right (by omega) (by omega)
    omega
  · rename_i h
    have h2 : 0 ≤ c * P := Int.mul_nonneg h0 (by omega)
    have h3 : c * P ≤ 63 * P := Int.mul_le_mul_of_nonneg_right (by omega) (by omega)
    omega

theorem sgn_len (l : List Int) (k : Nat) (hk : k < 5) (h0 : 0 ≤ l.getD k 0) (h1 : l.getD k 0 < 128) : (Ma.SG (sgn l k)).length ≤ k + 1 :=
  sG_le 5 k _ (sgn_fits l k h0 h1).1 (sgn_fits l k h0 h1).2 hk

theorem and64_u8 (c : Int) (h0 : 0 ≤ c) (h1 : c < 128) : bits .and .u8 c 64 = if 63 < c then 64 else 0 := by
  have all : ∀ i : Fin 128, bits .and .u8 (i.val : Int) 64 = if 63 < (i.val : Int) then 64 else 0 := by decide +kernel
  have := all ⟨c.toNat, by omega⟩
  simp only [Int.toNat_of_nonneg h0] at this
  exact this

theorem Own.shape {w : World} {base : Nat} {v : Value} {xs : List Int} (h : Own w base v xs) : ∃ ao cap, v = .slice ao xs.length cap := by
  rcases h.2 with ⟨rfl, h0⟩ | ⟨g, cap, cur, rfl, _⟩
  · exact ⟨none, 0, by rw [h0]⟩
  · exact ⟨_, cap, rfl⟩

theorem sgn_bd (l : List Int) (k : Nat) (hk : k < 5) : -34359738368 ≤ sgn l k ∧ sgn l k < 34359738368 := by
  have hb := jn_bd l (k + 1)
  have hp : (128 : Int) ^ (k + 1) ≤ 34359738368 := by
    have := pow128_le k (by omega)
    rw [Int.pow_succ]; omega
  have hp0 : (0 : Int) < 128 ^ (k + 1) := Int.pow_pos (by omega)
  unfold sgn
  split <;> omega

theorem two_pow77 (k : Nat) : (2 : Int) ^ (7 * k + 7) = 128 ^ (k + 1) := by
  rw [show 7 * k + 7 = 7 * (k + 1) by omega, two_pow7]

theorem sgn_hi (l : List Int) (k : Nat) (hk : k < 5) (c J : Int) (hc : l.getD k 0 = c) (hJ : jn l (k + 1) = J) (h : 63 < c) : wrap64 (J - wrap64 (2 ^ (7 * k + 7))) = sgn l k := by
  have hb := jn_bd l (k + 1)
  have hp : (128 : Int) ^ (k + 1) ≤ 34359738368 := by
    have := pow128_le k (by omega)
    rw [Int.pow_succ]; omega
  have hp0 : (0 : Int) < 128 ^ (k + 1) := Int.pow_pos (by omega)
  unfold sgn
  rw [hc, if_pos h, hJ, two_pow77]
  rw [hJ] at hb
  generalize (128 : Int) ^ (k + 1) = P at *
  unfold wrap64
  omega

theorem sgn_lo (l : List Int) (k : Nat) (c J : Int) (hc : l.getD k 0 = c) (hJ : jn l (k + 1) = J) (h : ¬ 63 < c) : J = sgn l k := by
  unfold sgn
  rw [hc, if_neg h, hJ]

theorem Bs.empty (w : World) (a : Addr) (cap : Nat) (hc : cap ≤ maxLen) : Bs w (.slice (some a) 0 cap) [] :=
  ⟨by intro z hz; simp at hz, some a, cap, rfl, Nat.zero_le _, hc, fun h => by simp at h, fun h => absurd rfl h⟩

end Go.Proofs.YtincoibidgkiaaaDoor
