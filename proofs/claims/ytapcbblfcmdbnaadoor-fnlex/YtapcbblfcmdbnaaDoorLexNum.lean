/- Numbers in texts: what strconv.Atoi reads of digits, and when strconv.Itoa gives the same digits back. -/
import Derived.Test.YtapcbblfcmdbnaaDoorTextOf
import Derived.Lib.AtoiAllCases
namespace Go.Proofs.YtapcbblfcmdbnaaDoor
set_option maxRecDepth 8000

def dgU (c : UInt8) : Prop := 48 ≤ c.toNat ∧ c.toNat ≤ 57
/-- The number that digits spell behind a number. -/
def fv (acc : Nat) (l : List UInt8) : Nat := l.foldl (fun a c => a * 10 + (c.toNat - 48)) acc
theorem fv_cons (acc : Nat) (c : UInt8) (r : List UInt8) : fv acc (c :: r) = fv (acc * 10 + (c.toNat - 48)) r := by unfold fv; rw [List.foldl_cons]
theorem fv_snoc (acc : Nat) (l : List UInt8) (c : UInt8) : fv acc (l ++ [c]) = fv acc l * 10 + (c.toNat - 48) := by simp [fv]
theorem fv_ge : ∀ (l : List UInt8) (acc : Nat), acc ≤ fv acc l
  | [], acc => Nat.le_refl _
  | c :: r, acc => by
    rw [fv_cons]
    have := fv_ge r (acc * 10 + (c.toNat - 48))
    omega
theorem parse_digits : ∀ (l : List UInt8) (acc : Nat), (∀ c ∈ l, dgU c) → Lib.parseUint10 acc l = .ok (fv acc l) ∨ (Lib.parseUint10 acc l = .range ∧ 18446744073709551616 ≤ fv acc l)
  | [], acc, _ => .inl rfl
  | c :: r, acc, h => by
    have hc := h c (List.mem_cons_self ..)
    have hr := fun x hx => h x (List.mem_cons_of_mem _ hx)
    have hg := fv_ge r (acc * 10 + (c.toNat - 48))
    unfold dgU at hc
    rw [Lib.parseUint10, if_pos hc, fv_cons]
    by_cases h1 : 1844674407370955162 ≤ acc
    · rw [if_pos h1]; exact .inr ⟨rfl, by omega⟩
    · rw [if_neg h1]
      by_cases h2 : 18446744073709551616 ≤ acc * 10 + (c.toNat - 48)
      · rw [if_pos h2]; exact .inr ⟨rfl, by omega⟩
      · rw [if_neg h2]; exact parse_digits r _ hr
theorem atoi_digits {l : List UInt8} (hn : l ≠ []) (h : ∀ c ∈ l, dgU c) : Lib.atoiAll l = .ok ((fv 0 l : Nat) : Int) ∨ (Lib.atoiAll l = .range ∧ 9223372036854775808 ≤ fv 0 l) := by
  obtain ⟨c, r, rfl⟩ : ∃ c r, l = c :: r := by
    cases l with
    | nil => exact absurd rfl hn
    | cons c r => exact ⟨c, r, rfl⟩
  have hc := h c (List.mem_cons_self ..)
  unfold dgU at hc
  rw [Lib.atoiAll_plain c r (by omega) (by omega)]
  have e : Lib.parseMag (c :: r) = Lib.parseUint10 0 (c :: r) := by unfold Lib.parseMag; rw [if_neg (by simp)]
  rw [e]
  rcases parse_digits (c :: r) 0 h with h1 | ⟨h1, h2⟩
  · rw [h1]
    unfold Lib.signless
    simp only
    split
    · rename_i hb; exact .inr ⟨rfl, hb⟩
    · exact .inl rfl
  · rw [h1]
    exact .inr ⟨rfl, by omega⟩
theorem fv_pos {c : UInt8} {r : List UInt8} (hc : dgU c) (h : c.toNat ≠ 48) : 10 ^ r.length ≤ fv 0 (c :: r) := by
  unfold dgU at hc
  rw [fv_cons]
  have key : ∀ (r : List UInt8) (acc : Nat), 1 ≤ acc → 10 ^ r.length ≤ fv acc r := by
    intro r
    induction r with
    | nil => intro acc h; simpa [fv] using h
    | cons x r ih =>
      intro acc h
      rw [fv_cons, List.length_cons]
      have key2 : ∀ (r : List UInt8) (a : Nat), a * 10 ^ r.length ≤ fv a r := by
        intro r
        induction r with
        | nil => intro a; simp [fv]
        | cons y r ih =>
          intro a
          rw [fv_cons, List.length_cons, Nat.pow_succ]
          have := ih (a * 10 + (y.toNat - 48))
          have h2 : a * 10 * 10 ^ r.length ≤ (a * 10 + (y.toNat - 48)) * 10 ^ r.length := Nat.mul_le_mul_right _ (by omega)
          calc a * (10 ^ r.length * 10) = a * 10 * 10 ^ r.length := by rw [Nat.mul_comm (10 ^ r.length) 10, Nat.mul_assoc]
            _ ≤ _ := Nat.le_trans h2 this
      have := key2 r (acc * 10 + (x.toNat - 48))
      have h3 : 10 * 10 ^ r.length ≤ (acc * 10 + (x.toNat - 48)) * 10 ^ r.length := Nat.mul_le_mul_right _ (by omega)
      rw [Nat.pow_succ, Nat.mul_comm]
      exact Nat.le_trans h3 this
  exact key r _ (by omega)
theorem fv_lt : ∀ (l : List UInt8), (∀ c ∈ l, dgU c) → fv 0 l < 10 ^ l.length := by
  have key : ∀ (l : List UInt8) (acc m : Nat), acc < m → (∀ c ∈ l, dgU c) → fv acc l < m * 10 ^ l.length := by
    intro l
    induction l with
    | nil => intro acc m h _; simpa [fv] using h
    | cons c r ih =>
      intro acc m h hd
      have hc := hd c (List.mem_cons_self ..)
      unfold dgU at hc
      rw [fv_cons, List.length_cons, Nat.pow_succ, Nat.mul_comm (10 ^ r.length) 10, ← Nat.mul_assoc]
      exact ih _ (m * 10) (by omega) (fun x hx => hd x (List.mem_cons_of_mem _ hx))
  intro l h
  have := key l 0 1 (by omega) h
  simpa using this
theorem u8_dig {c : UInt8} (h : dgU c) : UInt8.ofNat (48 + (c.toNat - 48)) = c := by
  unfold dgU at h
  rw [show 48 + (c.toNat - 48) = c.toNat by omega]
  exact UInt8.ofNat_toNat
/-- Digits without needless noughts come back. -/
theorem digits_back {c : UInt8} (hc : dgU c) (h0 : c.toNat ≠ 48) : ∀ n (r : List UInt8), r.length = n → (∀ x ∈ r, dgU x) → Lib.decDigits (fv 0 (c :: r)) = c :: r := by
  intro n
  induction n with
  | zero =>
    intro r hr _
    obtain rfl := List.eq_nil_of_length_eq_zero hr
    have hc' := hc
    unfold dgU at hc'
    have e : fv 0 [c] = c.toNat - 48 := by simp [fv]
    rw [e, Lib.decDigits_one (by omega), u8_dig hc]
  | succ n ih =>
    intro r hr hd
    obtain ⟨r', d, rfl⟩ : ∃ r' d, r = r' ++ [d] := by
      refine ⟨r.dropLast, r.getLast (by intro e; rw [e] at hr; simp at hr), ?_⟩
      exact (List.dropLast_concat_getLast _).symm
    have hr' : r'.length = n := by simpa using hr
    have hdd := hd d (by simp)
    have hd' := hdd
    unfold dgU at hd'
    have e : fv 0 (c :: (r' ++ [d])) = fv 0 (c :: r') * 10 + (d.toNat - 48) := fv_snoc 0 (c :: r') d
    have hp : 1 ≤ fv 0 (c :: r') := Nat.le_trans (Nat.one_le_pow _ _ (by omega)) (fv_pos hc h0)
    rw [e, decDigits_step _ (by omega)]
    have e1 : (fv 0 (c :: r') * 10 + (d.toNat - 48)) / 10 = fv 0 (c :: r') := by omega
    have e2 : (fv 0 (c :: r') * 10 + (d.toNat - 48)) % 10 = d.toNat - 48 := by omega
    rw [e1, e2, ih r' hr' (fun x hx => hd x (by simp [hx])), u8_dig hdd]
    rfl
/-- No number's digits begin with a nought but 0's. -/
theorem digits_head : ∀ n u, u = n → ∀ r, Lib.decDigits u = 48 :: r → r = [] := by
  intro n
  induction n using Nat.strongRecOn with
  | _ n ih =>
    rintro u rfl r h
    by_cases h1 : u < 10
    · rw [Lib.decDigits_one h1] at h
      injection h with _ h
      exact h.symm
    · exfalso
      rw [decDigits_step u (by omega)] at h
      cases hd : Lib.decDigits (u / 10) with
      | nil =>
        by_cases h2 : u / 10 < 10
        · rw [Lib.decDigits_one h2] at hd; cases hd
        · rw [decDigits_step _ (by omega)] at hd; simp at hd
      | cons x y =>
        rw [hd] at h
        injection h with hx _
        subst hx
        have := ih (u / 10) (by omega) (u / 10) rfl y hd
        subst this
        by_cases h2 : u / 10 < 10
        · rw [Lib.decDigits_one h2] at hd
          injection hd with hd _
          have := congrArg UInt8.toNat hd
          have e : (48 : UInt8).toNat = 48 := rfl
          rw [e, UInt8.toNat_ofNat_of_lt' (by show _ < 256; omega)] at this
          omega
        · rw [decDigits_step _ (by omega)] at hd
          have hl := congrArg List.length hd
          cases hdd : Lib.decDigits (u / 10 / 10) with
          | nil =>
            by_cases h3 : u / 10 / 10 < 10
            · rw [Lib.decDigits_one h3] at hdd; cases hdd
            · rw [decDigits_step _ (by omega)] at hdd; simp at hdd
          | cons a b => rw [hdd] at hl; simp at hl
end Go.Proofs.YtapcbblfcmdbnaaDoor
