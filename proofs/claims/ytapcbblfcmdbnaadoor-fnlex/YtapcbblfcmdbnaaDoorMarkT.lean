/- The text of a mark: an m, and a number's digits. -/
import Derived.Test.YtapcbblfcmdbnaaDoorLeaf
import Derived.Test.YtapcbblfcmdbnaaDoorStrOf
import Derived.Test.YtapcbblfcmdbnaaDoorApp
namespace Go.Proofs.YtapcbblfcmdbnaaDoor
open Go.RowKit
set_option maxRecDepth 8000

/-- A number's digits ahead of o. -/
def mDig (n : Nat) (o : ByteArray) : ByteArray := if _h : n = 0 then o else mDig (n / 10) (strOf [48 + (n : Int) % 10] ++ o)
termination_by n
theorem mDig_zero (o : ByteArray) : mDig 0 o = o := by rw [mDig]; simp
theorem mDig_step (n : Nat) (h : 0 < n) (o : ByteArray) : mDig n o = mDig (n / 10) (strOf [48 + (n : Int) % 10] ++ o) := by rw [mDig]; simp [show n ≠ 0 by omega]

/-- What markText answers. -/
def mkS (n : Nat) : ByteArray := if n = 0 then ⟨#[109, 48]⟩ else ⟨#[109]⟩ ++ mDig n ⟨#[]⟩

theorem run_byteM (c : Int) (h0 : 0 ≤ c) (h1 : c ≤ 255) (w : World) :
    (convert 22 9 (.slice (some ⟨w.heap.size, 0, none⟩) 1 1)).run Tryd.prog (w.alloc (.cells #[.int .u8 c] 5)) = .ok (.string (strOf [c])) (w.alloc (.cells #[.int .u8 c] 5)) := run_strOf (Bs.one w c h0 h1) rfl

set_option maxHeartbeats 1000000 in
theorem markText_any (k : Nat) (w : World) (hk : k ≤ 1073741824) :
    Calls Tryd.prog 42 #[.int .i64 (k : Int)] w fun e w' => e = .returned (.string (mkS k)) ∧ Below w.heap.size w w' := by
  by_cases h0 : k = 0
  · subst h0
    go_enter Tryd.func42, Tryd.ntmps42
    go_wp2
    go_ret
    exact ⟨rfl, Below.refl _ _⟩
  have hpos : ¬ ((k : Int) ≤ 0) := by omega
  go_enter Tryd.func42, Tryd.ntmps42
  go_wp2
  go_loopw [0, 3] (fun q o wr => ∃ (j : Nat) (x : ByteArray), j ≤ k ∧ q = .int .i64 (j : Int) ∧ o = .string x ∧ mDig j x = mDig k ⟨#[]⟩ ∧ x.size + j ≤ k ∧ Below w.heap.size w wr) (fun q _ _ => (intOf q).toNat)
  case atStart => exact ⟨k, ⟨#[]⟩, Nat.le_refl _, rfl, rfl, rfl, Nat.le_of_eq (Nat.zero_add k), Below.refl _ _⟩
  case round =>
    obtain ⟨j, x, hj, rfl, rfl, hd, hx, hb⟩ := hrel
    by_cases hj0 : j = 0
    · subst hj0
      have HD := Hid.mk hd
      have hsz : ¬ 9223372036854775807 < 1 + x.size := by omega
      clear hd
      go_wp2
      go_ret
      refine ⟨?_, hb⟩
      have := HD.out
      rw [mDig_zero] at this
      rw [this, mkS, if_neg h0]
      rfl
    · have hjp : (0 : Int) < (j : Int) := by omega
      have hcv := run_byteM (48 + (j : Int) % 10) (by omega) (by omega) wr
      have hm : (j : Int).tmod 10 = (j : Int) % 10 := by rw [Int.tmod_eq_emod_of_nonneg (by omega)]
      have hq : (j : Int).tdiv 10 = (j : Int) / 10 := by rw [Int.tdiv_eq_ediv_of_nonneg (by omega)]
      have hwr : IntKind.u8.wrap (48 + (j : Int) % 10) = 48 + (j : Int) % 10 := by rw [wrap_u8_int]; omega
      have hz1 : (strOf [48 + (j : Int) % 10]).size = 1 := strOf_size _
      have hsz : ¬ 9223372036854775807 < (strOf [48 + (j : Int) % 10]).size + x.size := by omega
      have HD := Hid.mk hd
      clear hd
      go_wp2
      go_roundw
      case rel =>
        refine ⟨j / 10, strOf [48 + (j : Int) % 10] ++ x, by omega, by go_num, rfl, ?_, ?_, hb.alloc hb.size _⟩
        · rw [← mDig_step j (by omega)]; exact HD.out
        · rw [ByteArray.size_append, hz1]; omega
      case measure => simp [intOf]; omega
end Go.Proofs.YtapcbblfcmdbnaaDoor
