/- The number of a text: the digits behind a sign or none, each: ten times what was, and it, wrapped. The program's NumOf and the document's model's. -/
import Derived.Test.YtincoibidgkiaaaDoorVal
import Derived.Test.YtincoibidgkiaaaDoorAppStr
namespace Go.Proofs.YtincoibidgkiaaaDoor
open Go.RowKit
set_option maxRecDepth 8000

/-- The digits at the front of bytes, behind a number. -/
def dn : Int → List Int → Int
  | n, [] => n
  | n, c :: r => if 48 ≤ c ∧ c ≤ 57 then dn (Ma.wr (10 * n + (c - 48))) r else n

/-- Whether bytes begin with a minus. -/
def minusB (l : List Int) : Bool := l.head? == some 45

def numT (l : List Int) : Int := if minusB l = true then Ma.wr (-(dn 0 (l.drop 1))) else dn 0 l

def numV (k n : Int) (s : ByteArray) : Int := if k = 2 then numT (txt s) else n

theorem txt_drop (s : ByteArray) (k : Nat) (h : k < s.size) : (txt s).drop k = (s[k].toNat : Int) :: (txt s).drop (k + 1) := by
  have hl : k < (txt s).length := by rw [txt_length]; exact h
  rw [List.drop_eq_getElem_cons hl]
  congr 1
  simp [txt]
  rfl

theorem dn_more (s : ByteArray) (k : Nat) (n : Int) (h : k < s.size) (h0 : 48 ≤ (s[k].toNat : Int)) (h1 : (s[k].toNat : Int) ≤ 57) :
    dn n ((txt s).drop k) = dn (Ma.wr (10 * n + ((s[k].toNat : Int) - 48))) ((txt s).drop (k + 1)) := by
  rw [txt_drop s k h, dn, if_pos ⟨h0, h1⟩]

theorem dn_stop (s : ByteArray) (k : Nat) (n : Int) (h : k < s.size) (h0 : ¬ (48 ≤ (s[k].toNat : Int) ∧ (s[k].toNat : Int) ≤ 57)) : dn n ((txt s).drop k) = n := by
  rw [txt_drop s k h, dn, if_neg h0]

theorem dn_end (s : ByteArray) (k : Nat) (n : Int) (h : s.size ≤ k) : dn n ((txt s).drop k) = n := by
  rw [List.drop_eq_nil_of_le (by rw [txt_length]; exact h), dn]

theorem minus_yes (s : ByteArray) (h : 0 < s.size) (h1 : (s[0].toNat : Int) = 45) : numT (txt s) = Ma.wr (-(dn 0 ((txt s).drop 1))) := by
  have := txt_drop s 0 h
  rw [List.drop_zero] at this
  unfold numT minusB
  rw [if_pos]
  rw [this]; simp [h1]

theorem minus_no (s : ByteArray) (h : 0 < s.size) (h1 : (s[0].toNat : Int) ≠ 45) : numT (txt s) = dn 0 (txt s) := by
  have := txt_drop s 0 h
  rw [List.drop_zero] at this
  unfold numT minusB
  rw [if_neg]
  rw [this]; simpa using h1

theorem minus_nil (s : ByteArray) (h : s.size = 0) : numT (txt s) = dn 0 (txt s) := by
  have : txt s = [] := List.eq_nil_of_length_eq_zero (by rw [txt_length]; exact h)
  rw [this]; rfl

theorem txt_tail (s : ByteArray) : txt (s.extract 1 s.size) = (txt s).drop 1 := by
  unfold txt
  rw [← List.map_drop]
  congr 1
  rw [ByteArray.data_extract]
  simp
  exact List.take_of_length_le (by rw [List.length_tail, Array.length_toList]; exact Nat.le_refl _)

theorem tail_size (s : ByteArray) : (s.extract 1 s.size).size ≤ s.size := by
  rw [ByteArray.size_extract]; omega

theorem neg_small (m : Int) (h0 : -2147483648 ≤ m) (h1 : m ≤ 2147483647) : -9223372036854775808 ≤ -m ∧ -m ≤ 9223372036854775807 := by omega

/-- The rest of a walk at the loop's end. -/
theorem dn_hold {s : ByteArray} {k : Nat} {n : Int} (h : dn n ((txt s).drop k) = dn 0 (txt s)) (h1 : dn n ((txt s).drop k) = n) : n = dn 0 (txt s) := by rw [← h, h1]

set_option maxHeartbeats 1000000 in
theorem leadingNumber_any (s : ByteArray) (w : World) (hs : s.size ≤ 1048576) :
    Calls Tryd.prog 48 #[.string s] w fun e w' => e = .returned (.int .i64 (numT (txt s))) ∧ w' = w := by
  by_cases hmm : ∃ h : 0 < s.size, (s[0].toNat : Int) = 45
  · obtain ⟨hp, hm⟩ := hmm
    have HR := Hid.mk (minus_yes s hp hm)
    have hts := tail_size s
    have HT := Hid.mk (txt_tail s)
    obtain ⟨t, ht⟩ : ∃ t, s.extract 1 s.size = t := ⟨_, rfl⟩
    rw [ht] at HT hts
    rw [← HT.out] at HR
    go_enter Tryd.func48, Tryd.ntmps48
    go_wp2
    clear ht HT hm
    go_loop [4, 5] (fun q i => ∃ (j : Nat) (m : Int), j ≤ t.size ∧ i = .int .i64 j ∧ q = .int .i64 m ∧ -2147483648 ≤ m ∧ m ≤ 2147483647 ∧ Hid (dn m ((txt t).drop j) = dn 0 (txt t))) (fun _ i => t.size - (intOf i).toNat)
    case atStart => exact ⟨0, 0, Nat.zero_le _, rfl, rfl, by omega, by omega, rfl⟩
    case round =>
      obtain ⟨j, m, hj, rfl, rfl, hm0, hm1, hd⟩ := hrel
      by_cases hlt : j < t.size
      · by_cases h48 : 48 ≤ (t[j].toNat : Int)
        · by_cases h57 : (t[j].toNat : Int) ≤ 57
          · have hd' := Hid.mk ((dn_more t j m hlt h48 h57).symm.trans hd.out)
            clear hd
            go_wp2_with (go_at_call 59; refine (implWrap_any _ _).mono ?_; rintro e w' ⟨rfl, rfl⟩)
            go_round
            case rel => exact ⟨j + 1, _, by omega, by go_num, rfl, Ma.wr_lo _, Ma.wr_hi _, hd'⟩
            case measure => simp [intOf]; omega
          · have HM := Hid.mk (dn_hold hd.out (dn_stop t j m hlt (by omega)))
            clear hd
            go_wp2_with (go_at_call 59; refine (implWrap_any _ _).mono ?_; rintro e w' ⟨rfl, rfl⟩)
            go_ret
            exact ⟨ret_int (by rw [HR.out, ← HM.out]), rfl⟩
        · have HM := Hid.mk (dn_hold hd.out (dn_stop t j m hlt (by omega)))
          clear hd
          go_wp2_with (go_at_call 59; refine (implWrap_any _ _).mono ?_; rintro e w' ⟨rfl, rfl⟩)
          go_ret
          exact ⟨ret_int (by rw [HR.out, ← HM.out]), rfl⟩
      · have HM := Hid.mk (dn_hold hd.out (dn_end t j m (by omega)))
        clear hd
        go_wp2_with (go_at_call 59; refine (implWrap_any _ _).mono ?_; rintro e w' ⟨rfl, rfl⟩)
        go_ret
        exact ⟨ret_int (by rw [HR.out, ← HM.out]), rfl⟩
  · have HR : Hid (numT (txt s) = dn 0 (txt s)) := by
      by_cases h0 : s.size = 0
      · exact minus_nil s h0
      · exact minus_no s (by omega) (fun h => hmm ⟨by omega, h⟩)
    by_cases h0 : 0 < s.size
    · have hm : (((s[0].toNat : Nat) : Int) == 45) = false := by simpa using fun h => hmm ⟨h0, h⟩
      clear hmm
      go_enter Tryd.func48, Tryd.ntmps48
      go_wp2
      clear hm
      go_loop [4, 5] (fun q i => ∃ (j : Nat) (m : Int), j ≤ s.size ∧ i = .int .i64 j ∧ q = .int .i64 m ∧ -2147483648 ≤ m ∧ m ≤ 2147483647 ∧ Hid (dn m ((txt s).drop j) = dn 0 (txt s))) (fun _ i => s.size - (intOf i).toNat)
      case atStart => exact ⟨0, 0, Nat.zero_le _, rfl, rfl, by omega, by omega, rfl⟩
      case round =>
        obtain ⟨j, m, hj, rfl, rfl, hm0, hm1, hd⟩ := hrel
        by_cases hlt : j < s.size
        · by_cases h48 : 48 ≤ (s[j].toNat : Int)
          · by_cases h57 : (s[j].toNat : Int) ≤ 57
            · have hd' := Hid.mk ((dn_more s j m hlt h48 h57).symm.trans hd.out)
              clear hd
              go_wp2_with (go_at_call 59; refine (implWrap_any _ _).mono ?_; rintro e w' ⟨rfl, rfl⟩)
              go_round
              case rel => exact ⟨j + 1, _, by omega, by go_num, rfl, Ma.wr_lo _, Ma.wr_hi _, hd'⟩
              case measure => simp [intOf]; omega
            · have HM := Hid.mk (dn_hold hd.out (dn_stop s j m hlt (by omega)))
              clear hd
              go_wp2
              go_ret
              exact ⟨ret_int (by rw [HR.out, ← HM.out]), rfl⟩
          · have HM := Hid.mk (dn_hold hd.out (dn_stop s j m hlt (by omega)))
            clear hd
            go_wp2
            go_ret
            exact ⟨ret_int (by rw [HR.out, ← HM.out]), rfl⟩
        · have HM := Hid.mk (dn_hold hd.out (dn_end s j m (by omega)))
          clear hd
          go_wp2
          go_ret
          exact ⟨ret_int (by rw [HR.out, ← HM.out]), rfl⟩
    · have h1 : (s.size : Int) = 0 := by omega
      have HE := Hid.mk (dn_end s 0 0 (by omega))
      clear hmm
      go_enter Tryd.func48, Tryd.ntmps48
      go_wp2
      go_loop [4, 5] (fun q i => i = .int .i64 0 ∧ q = .int .i64 0) (fun _ _ => 0)
      case atStart => exact ⟨rfl, rfl⟩
      case round =>
        obtain ⟨rfl, rfl⟩ := hrel
        go_wp2
        go_ret
        exact ⟨ret_int (by have := HE.out; rw [List.drop_zero] at this; rw [HR.out, this]), rfl⟩

theorem implNumOf_any (k n : Int) (s : ByteArray) (w : World) (hs : s.size ≤ 1048576) :
    Calls Tryd.prog 18 #[vl k n s] w fun e w' => e = .returned (.int .i64 (numV k n s)) ∧ Below w.heap.size w w' := by
  by_cases h2 : k = 2
  · subst h2
    have H : Hid (numV 2 n s = numT (txt s)) := by show _ = _; simp [numV]
    have ht := isText_text (vl 2 n s)
    go_enter Tryd.func18, Tryd.ntmps18
    go_wp2_with (first | (go_at_call 33; refine (valueOf_text _ _ _).mono ?_; rintro e w' ⟨rfl, rfl⟩) | (go_at_call 48; refine (leadingNumber_any _ _ hs).mono ?_; rintro e w' ⟨rfl, rfl⟩))
    go_ret
    exact ⟨ret_int (by rw [H.out]), (((Below.refl _ _).alloc (Nat.le_refl _) _).alloc (by simp) _).alloc (by simp; omega) _⟩
  · have H : Hid (numV k n s = n) := by show _ = _; simp [numV, h2]
    go_enter Tryd.func18, Tryd.ntmps18
    go_wp2_with (go_at_call 33; refine (valueOf_other _ _ _ _ h2).mono ?_; rintro e w' ⟨i, rfl, ht, rfl⟩)
    go_ret
    exact ⟨ret_int (by rw [H.out]), ((Below.refl _ _).alloc (Nat.le_refl _) _).alloc (by simp) _⟩

theorem u8_bd (x : UInt8) : (0 : Int) ≤ (x.toNat : Int) ∧ (x.toNat : Int) ≤ 255 := by have := x.toNat_lt; omega

end Go.Proofs.YtincoibidgkiaaaDoor
