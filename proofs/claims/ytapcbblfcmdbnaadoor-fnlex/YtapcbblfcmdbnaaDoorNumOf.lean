/- The number of a text: the digits behind a sign or none, each: ten times what was, and it, wrapped. The program's NumOf and the document's model's. -/
import Derived.Test.YtapcbblfcmdbnaaDoorVal
import Derived.Test.YtapcbblfcmdbnaaDoorAppStr
namespace Go.Proofs.YtapcbblfcmdbnaaDoor
open Go.RowKit
set_option maxRecDepth 8000

/-- The digits at the front of bytes, behind a number. -/
def dn : Int → List Int → Int
  | n, [] => n
  | n, c :: r => if 48 ≤ c ∧ c ≤ 57 then dn (Ma.wr (10 * n + (c - 48))) r else n

/-- Whether bytes begin with a minus. -/
def minusB (l : List Int) : Bool := l.head? == some 45

def numT (l : List Int) : Int := if minusB l = true then Ma.wr (-(dn 0 (l.drop 1))) else dn 0 l

def numV (k n : Int) (s : ByteArray) : Int := if k = 2 then numT (txt s) else n

theorem txt_drop (s : ByteArray) (k : Nat) (h : k < s.size) : (txt s).drop k = (s[k].toNat : Int) :: (txt s).drop (k + 1) := by
  have hl : k < (txt s).length := by rw [txt_length]; exact h
  rw [List.drop_eq_getElem_cons hl]
  congr 1
  simp [txt]
  rfl

theorem dn_more (s : ByteArray) (k : Nat) (n : Int) (h : k < s.size) (h0 : 48 ≤ (s[k].toNat : Int)) (h1 : (s[k].toNat : Int) ≤ 57) :
    dn n ((txt s).drop k) = dn (Ma.wr (10 * n + ((s[k].toNat : Int) - 48))) ((txt s).drop (k + 1)) := by
  rw [txt_drop s k h, dn, if_pos ⟨h0, h1⟩]

theorem dn_stop (s : ByteArray) (k : Nat) (n : Int) (h : k < s.size) (h0 : ¬ (48 ≤ (s[k].toNat : Int) ∧ (s[k].toNat : Int) ≤ 57)) : dn n ((txt s).drop k) = n := by
  rw [txt_drop s k h, dn, if_neg h0]

theorem dn_end (s : ByteArray) (k : Nat) (n : Int) (h : s.size ≤ k) : dn n ((txt s).drop k) = n := by
  rw [List.drop_eq_nil_of_le (by rw [txt_length]; exact h), dn]

theorem minus_yes (s : ByteArray) (h : 0 < s.size) (h1 : (s[0].toNat : Int) = 45) : numT (txt s) = Ma.wr (-(dn 0 ((txt s).drop 1))) := by
  have := txt_drop s 0 h
  rw [List.drop_zero] at this
  unfold numT minusB
  rw [if_pos]
  rw [this]; simp [h1]

theorem minus_no (s : ByteArray) (h : 0 < s.size) (h1 : (s[0].toNat : Int) ≠ 45) : numT (txt s) = dn 0 (txt s) := by
  have := txt_drop s 0 h
  rw [List.drop_zero] at this
  unfold numT minusB
  rw [if_neg]
  rw [this]; simpa using h1

theorem minus_nil (s : ByteArray) (h : s.size = 0) : numT (txt s) = dn 0 (txt s) := by
  have : txt s = [] := List.eq_nil_of_length_eq_zero (by rw [txt_length]; exact h)
  rw [this]; rfl

theorem txt_tail (s : ByteArray) : txt (s.extract 1 s.size) = (txt s).drop 1 := by
  unfold txt
  rw [← List.map_drop]
  congr 1
  rw [ByteArray.data_extract]
  simp
  exact List.take_of_length_le (by rw [List.length_tail, Array.length_toList]; exact Nat.le_refl _)

theorem tail_size (s : ByteArray) : (s.extract 1 s.size).size ≤ s.size := by
  rw [ByteArray.size_extract]; omega

theorem neg_small (m : Int) (h0 : -2147483648 ≤ m) (h1 : m ≤ 2147483647) : -9223372036854775808 ≤ -m ∧ -m ≤ 9223372036854775807 := by omega

/-- The rest of a walk at the loop's end. -/
theorem dn_hold {s : ByteArray} {k : Nat} {n : Int} (h : dn n ((txt s).drop k) = dn 0 (txt s)) (h1 : dn n ((txt s).drop k) = n) : n = dn 0 (txt s) := by rw [← h, h1]

theorem l1In_any (x lo hi : Int) (w : World) :
    Calls Tryd.prog 64 #[.int .i64 x, .int .i64 lo, .int .i64 hi] w fun e w' => e = .returned (.bool (decide (lo ≤ x) && decide (x ≤ hi))) ∧ w' = w := by
  by_cases h : lo ≤ x
  · go_enter Tryd.func64, Tryd.ntmps64
    go_wp2
    go_ret
    exact ⟨ret_bool (by simp [h]), rfl⟩
  · go_enter Tryd.func64, Tryd.ntmps64
    go_wp2
    go_ret
    exact ⟨ret_bool (by rw [decide_eq_false (p := lo ≤ x) (by omega)]; rfl), rfl⟩

theorem l2Digit_yes (x : Int) (w : World) (h0 : 48 ≤ x) (h1 : x ≤ 57) :
    Calls Tryd.prog 58 #[.int .u8 x] w fun e w' => e = .returned (.bool true) ∧ w' = w := by
  have hd : (decide (48 ≤ x) && decide (x ≤ 57)) = true := by simp [h0, h1]
  go_enter Tryd.func58, Tryd.ntmps58
  go_wp2_with (go_at_call 64; refine (l1In_any _ _ _ _).mono ?_; rintro e w' ⟨rfl, rfl⟩)
  go_ret
  exact ⟨rfl, rfl⟩

theorem l2Digit_no (x : Int) (w : World) (h : ¬ (48 ≤ x ∧ x ≤ 57)) (h0 : 0 ≤ x) (h1 : x ≤ 255) :
    Calls Tryd.prog 58 #[.int .u8 x] w fun e w' => e = .returned (.bool false) ∧ w' = w := by
  have hd : (decide (48 ≤ x) && decide (x ≤ 57)) = false := by simp; omega
  go_enter Tryd.func58, Tryd.ntmps58
  go_wp2_with (go_at_call 64; refine (l1In_any _ _ _ _).mono ?_; rintro e w' ⟨rfl, rfl⟩)
  go_ret
  exact ⟨rfl, rfl⟩

theorem u8_bd (x : UInt8) : (0 : Int) ≤ (x.toNat : Int) ∧ (x.toNat : Int) ≤ 255 := by have := x.toNat_lt; omega

end Go.Proofs.YtapcbblfcmdbnaaDoor
