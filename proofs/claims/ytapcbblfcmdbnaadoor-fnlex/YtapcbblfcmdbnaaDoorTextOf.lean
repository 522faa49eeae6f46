/- The text of a value: a number's digits, else the text. The program's TextOf (by strconv.Itoa's contract of the kit's shelf) and the document's model's. -/
import Derived.Test.YtapcbblfcmdbnaaDoorShelf
import Derived.Test.YtapcbblfcmdbnaaDoorVal
import Derived.Test.YtapcbblfcmdbnaaDoorAppStr
import Derived.Test.YtapcbblfcmdbnaaDoorReadT
import Derived.Lib.AppendIntMem
import Derived.Lib.ItoaLen
import Derived.Deep.RegionWith
namespace Go.Proofs.YtapcbblfcmdbnaaDoor
open Go.RowKit
set_option maxRecDepth 8000

/-- A number's text. -/
def numS (n : Int) : ByteArray := ⟨(Lib.itoa n).toArray⟩

/-- One digit as a text. -/
def digC (c : Int) : ByteArray := ⟨#[UInt8.ofNat c.toNat]⟩

theorem numS_pos1 (n : Int) (h0 : 0 ≤ n) (h1 : n < 10) : numS n = digC (48 + n) := by
  unfold numS digC Lib.itoa
  rw [if_neg (by omega), Lib.decDigits_one (by omega), show 48 + n.toNat = (48 + n).toNat by omega]

theorem numS_neg1 (n : Int) (h0 : n < 0) (h1 : -9 ≤ n) : numS n = ⟨#[45]⟩ ++ digC (48 - n) := by
  unfold numS digC Lib.itoa
  rw [if_pos (by omega), Lib.decDigits_one (by omega), show 48 + n.natAbs = (48 - n).toNat by omega]
  apply ByteArray.ext
  rw [ByteArray.data_append]
  simp

theorem decDigits_step (u : Nat) (h : 10 ≤ u) : Lib.decDigits u = Lib.decDigits (u / 10) ++ [UInt8.ofNat (48 + u % 10)] := by
  rw [Lib.decDigits, dif_neg (by omega)]

theorem numS_pos (n : Int) (h : 10 ≤ n) : numS n = numS (n / 10) ++ digC (48 + n % 10) := by
  unfold numS digC Lib.itoa
  rw [if_neg (by omega), if_neg (by omega), decDigits_step _ (by omega)]
  apply ByteArray.ext
  rw [ByteArray.data_append]
  have e1 : n.toNat / 10 = (n / 10).toNat := by omega
  have e2 : 48 + n.toNat % 10 = (48 + n % 10).toNat := by omega
  rw [e1, e2]
  simp

theorem numS_neg (n : Int) (h : n < -9) : numS n = (⟨#[45]⟩ ++ numS (-(n.tdiv 10))) ++ digC (48 - n.tmod 10) := by
  have hd : n.tdiv 10 = -((-n) / 10) := by
    rw [show n = -(-n) by omega, Int.neg_tdiv, Int.tdiv_eq_ediv_of_nonneg (by omega)]; simp
  have hm : n.tmod 10 = -((-n) % 10) := by
    rw [show n = -(-n) by omega, Int.neg_tmod, Int.tmod_eq_emod_of_nonneg (by omega)]; simp
  rw [hd, hm]
  unfold numS digC Lib.itoa
  rw [if_pos (by omega), if_neg (by omega), decDigits_step _ (by omega)]
  apply ByteArray.ext
  rw [ByteArray.data_append, ByteArray.data_append]
  have e1 : n.natAbs / 10 = (-(-(-n / 10))).toNat := by omega
  have e2 : 48 + n.natAbs % 10 = (48 - -(-n % 10)).toNat := by omega
  rw [e1, e2]
  simp

/-- A byte in a block as a text. -/
theorem run_one (c : Int) (h0 : 0 ≤ c) (h1 : c ≤ 255) (b : Nat) (w : World) (h : w.cell? ⟨b, 0, none⟩ = some (.int .u8 c)) :
    (convert 22 9 (.slice (some ⟨b, 0, none⟩) 1 1)).run Tryd.prog w = .ok (.string (digC c)) w := by
  have hb : Bs w (.slice (some ⟨b, 0, none⟩) 1 1) [c] := by
    refine ⟨by intro z hz; simp at hz; omega, _, 1, rfl, by simp, by decide, fun h => by simp at h, fun _ => ⟨_, 0, rfl, fun i hi => ?_⟩⟩
    obtain rfl : i = 0 := by simpa using hi
    simpa using h
  exact run_strOf hb rfl

theorem ret_str {a b : ByteArray} (h : a = b) : Ending.returned (.string a) = .returned (.string b) := by rw [h]

theorem wrapI (x : Int) (h0 : -9223372036854775808 ≤ x) (h1 : x ≤ 9223372036854775807) : IntKind.i64.wrap x = x := by rw [IntKind.wrap_i64]; omega
theorem wrapB (x : Int) (h0 : 0 ≤ x) (h1 : x ≤ 255) : IntKind.u8.wrap x = x := by rw [IntKind.wrap_u8]; omega

theorem numS_size (n : Int) (h0 : -9223372036854775808 ≤ n) (h1 : n ≤ 9223372036854775807) : (numS n).size ≤ 21 := by
  have := Lib.itoa_length_le n h0 h1
  unfold numS
  show (Lib.itoa n).toArray.size ≤ 21
  simpa using this
theorem digC_size (c : Int) : (digC c).size ≤ 1 := Nat.le_refl 1

theorem tdiv_bd (n : Int) (h : n < -9) (h0 : -9223372036854775808 ≤ n) : -922337203685477580 ≤ n.tdiv 10 ∧ n.tdiv 10 ≤ -1 ∧ (-(n.tdiv 10)).natAbs < n.natAbs ∧ -9 ≤ n.tmod 10 ∧ n.tmod 10 ≤ 0 := by
  have hd : n.tdiv 10 = -((-n) / 10) := by
    rw [show n = -(-n) by omega, Int.neg_tdiv, Int.tdiv_eq_ediv_of_nonneg (by omega)]; simp
  have hm : n.tmod 10 = -((-n) % 10) := by
    rw [show n = -(-n) by omega, Int.neg_tmod, Int.tmod_eq_emod_of_nonneg (by omega)]; simp
  rw [hd, hm]
  omega

set_option maxHeartbeats 1000000 in
theorem l2Num_neg (n : Int) (w : World) (hn9 : n < -9) (h0 : -9223372036854775808 ≤ n) (hi : ∀ w, Calls Tryd.prog 40 #[.int .i64 (-(n.tdiv 10))] w fun e w' => e = .returned (.string (numS (-(n.tdiv 10)))) ∧ Below w.heap.size w w') :
    Calls Tryd.prog 40 #[.int .i64 n] w fun e w' => e = .returned (.string (numS n)) ∧ Below w.heap.size w w' := by
      have HN := Hid.mk (numS_neg n hn9)
      have HI := Hid.mk hi
      obtain ⟨q0, q1, -, q2, q3⟩ := tdiv_bd n hn9 h0
      have hz1 := numS_size (-(n.tdiv 10)) (by omega) (by omega)
      have hz2 := digC_size (48 - n.tmod 10)
      have hcv := run_one (48 - n.tmod 10) (by omega) (by omega)
      clear hi
      go_enter Tryd.func40, Tryd.ntmps40
      go_wp2
      refine wp_region_any (by kernel_rfl) ?_
      refine wpAny_take (i := 0) (v := .int .i64 n) rfl (by kernel_rfl) (by kernel_rfl) (by kernel_rfl) (fun _ _ _ h => h) (Or.inl ⟨by kernel_rfl, fun w => by kernel_rfl⟩) ?_
      refine wpAny_take (i := 1) (v := .int .i64 (n.tdiv 10)) rfl (by kernel_rfl) (by kernel_rfl) (by kernel_rfl) (fun _ _ _ h => h) (Or.inl ⟨by kernel_rfl, fun w => ?_⟩) ?_
      · try simp only [Act.put, List.setIfInBounds_toArray]
        go_simp
        exact wrapI _ (by omega) (by omega)
      refine wpAny_take (i := 2) (v := .int .i64 (-(n.tdiv 10))) rfl (by kernel_rfl) (by kernel_rfl) (by kernel_rfl) (fun _ _ _ h => h) (Or.inl ⟨by kernel_rfl, fun w => ?_⟩) ?_
      · try simp only [Act.put, List.setIfInBounds_toArray]
        go_simp
        exact wrapI _ (by omega) (by omega)
      refine wpAny_take (i := 5) (v := .int .i64 n) rfl (by kernel_rfl) (by kernel_rfl) (by kernel_rfl) (fun _ _ _ h => h) (Or.inl ⟨by kernel_rfl, fun w => by kernel_rfl⟩) ?_
      refine wpAny_take (i := 6) (v := .int .i64 (n.tmod 10)) rfl (by kernel_rfl) (by kernel_rfl) (by kernel_rfl) (fun _ _ _ h => h) (Or.inl ⟨by kernel_rfl, fun w => ?_⟩) ?_
      · try simp only [Act.put, List.setIfInBounds_toArray]
        go_simp
      refine wpAny_take (i := 7) (v := .int .i64 (48 - n.tmod 10)) rfl (by kernel_rfl) (by kernel_rfl) (by kernel_rfl) (fun _ _ _ h => h) (Or.inl ⟨by kernel_rfl, fun w => ?_⟩) ?_
      · try simp only [Act.put, List.setIfInBounds_toArray]
        go_simp
        exact wrapI _ (by omega) (by omega)
      refine wpAny_take (i := 8) (v := .int .u8 (48 - n.tmod 10)) rfl (by kernel_rfl) (by kernel_rfl) (by kernel_rfl) (fun _ _ _ h => h) (Or.inl ⟨by kernel_rfl, fun w => ?_⟩) ?_
      · try simp only [Act.put, List.setIfInBounds_toArray]
        go_simp
        exact wrapB _ (by omega) (by omega)
      refine wpAny_ready (rs := [3, 9]) (by kernel_rfl) (by simp) ?_
      refine AllReady.cons rfl (fun K hK => ?_) (AllReady.cons rfl (fun K hK => ?_) AllReady.nil)
      · rw [if_pos (by kernel_rfl)]
        try simp only [Act.put, List.setIfInBounds_toArray]
        go_wp2_with fail
        refine (HI.out _).mono ?_
        rintro e w1 ⟨rfl, hb⟩
        have hsz := hb.size
        refine hK _ _ ?_
        clear hK K
        refine wpAny_take (i := 4) (v := (.string (⟨#[45]⟩ ++ numS (-(n.tdiv 10))))) rfl (by kernel_rfl) (by kernel_rfl) (by kernel_rfl) (fun _ _ _ h => h) (Or.inl ⟨by kernel_rfl, fun w => ?_⟩) ?_
        · try simp only [Act.put, List.setIfInBounds_toArray]
          go_simp
          all_goals (omega)
        refine wpAny_ready (rs := [9]) (by kernel_rfl) (by simp) ?_
        refine AllReady.cons rfl (fun K hK => ?_) AllReady.nil
        rw [if_pos (by kernel_rfl)]
        try simp only [Act.put, List.setIfInBounds_toArray]
        go_wp2_with fail
        refine wpAny_ready (rs := [10]) (by kernel_rfl) (by simp) ?_
        refine AllReady.cons rfl (fun K hK => ?_) AllReady.nil
        rw [if_pos (by kernel_rfl)]
        try simp only [Act.put, List.setIfInBounds_toArray]
        go_wp2_with fail
        refine wpAny_take (i := 11) (v := (.string (⟨#[45]⟩ ++ numS (-(n.tdiv 10)) ++ digC (48 - n.tmod 10)))) rfl (by kernel_rfl) (by kernel_rfl) (by kernel_rfl) (fun _ _ _ h => h) (Or.inl ⟨by kernel_rfl, fun w => ?_⟩) ?_
        · try simp only [Act.put, List.setIfInBounds_toArray]
          go_simp
          all_goals (omega)
        refine wpAny_take (i := 12) (v := (.string (⟨#[45]⟩ ++ numS (-(n.tdiv 10)) ++ digC (48 - n.tmod 10)))) rfl (by kernel_rfl) (by kernel_rfl) (by kernel_rfl) (fun _ _ _ h => h) (Or.inl ⟨by kernel_rfl, fun w => by kernel_rfl⟩) ?_
        refine wpAny_done (by kernel_rfl) ?_ _
        go_wp2
        go_ret
        exact ⟨ret_str (by rw [HN.out]), ((Below.drewSelf _ _ 1).trans hb).alloc (show w.heap.size ≤ w1.heap.size from hsz) _⟩
      · rw [if_pos (by kernel_rfl)]
        try simp only [Act.put, List.setIfInBounds_toArray]
        go_wp2_with fail
        refine wpAny_ready (rs := [3, 10]) (by kernel_rfl) (by simp) ?_
        refine AllReady.cons rfl (fun K hK => ?_) (AllReady.cons rfl (fun K hK => ?_) AllReady.nil)
        · rw [if_pos (by kernel_rfl)]
          try simp only [Act.put, List.setIfInBounds_toArray]
          go_wp2_with fail
          refine (HI.out _).mono ?_
          rintro e w1 ⟨rfl, hb⟩
          have hsz := hb.size
          have hc0 := hb.cell (p := ⟨w.heap.size, 0, none⟩) (by simp)
          refine hK _ _ ?_
          clear hK K
          refine wpAny_take (i := 4) (v := (.string (⟨#[45]⟩ ++ numS (-(n.tdiv 10))))) rfl (by kernel_rfl) (by kernel_rfl) (by kernel_rfl) (fun _ _ _ h => h) (Or.inl ⟨by kernel_rfl, fun w => ?_⟩) ?_
          · try simp only [Act.put, List.setIfInBounds_toArray]
            go_simp
            all_goals (omega)
          refine wpAny_ready (rs := [10]) (by kernel_rfl) (by simp) ?_
          refine AllReady.cons rfl (fun K hK => ?_) AllReady.nil
          rw [if_pos (by kernel_rfl)]
          try simp only [Act.put, List.setIfInBounds_toArray]
          go_wp2_with fail
          clear hc0
          refine wpAny_take (i := 11) (v := (.string (⟨#[45]⟩ ++ numS (-(n.tdiv 10)) ++ digC (48 - n.tmod 10)))) rfl (by kernel_rfl) (by kernel_rfl) (by kernel_rfl) (fun _ _ _ h => h) (Or.inl ⟨by kernel_rfl, fun w => ?_⟩) ?_
          · try simp only [Act.put, List.setIfInBounds_toArray]
            go_simp
            all_goals (omega)
          refine wpAny_take (i := 12) (v := (.string (⟨#[45]⟩ ++ numS (-(n.tdiv 10)) ++ digC (48 - n.tmod 10)))) rfl (by kernel_rfl) (by kernel_rfl) (by kernel_rfl) (fun _ _ _ h => h) (Or.inl ⟨by kernel_rfl, fun w => by kernel_rfl⟩) ?_
          refine wpAny_done (by kernel_rfl) ?_ _
          go_wp2
          go_ret
          exact ⟨ret_str (by rw [HN.out]), ((Below.drewSelf _ _ 1).alloc (by simp) _).trans (hb.mono (by simp))⟩
        · rw [if_pos (by kernel_rfl)]
          try simp only [Act.put, List.setIfInBounds_toArray]
          go_wp2_with fail
          refine wpAny_ready (rs := [3]) (by kernel_rfl) (by simp) ?_
          refine AllReady.cons rfl (fun K hK => ?_) AllReady.nil
          rw [if_pos (by kernel_rfl)]
          try simp only [Act.put, List.setIfInBounds_toArray]
          go_wp2_with fail
          refine (HI.out _).mono ?_
          rintro e w1 ⟨rfl, hb⟩
          have hsz := hb.size
          refine hK _ _ ?_
          clear hK K
          refine wpAny_take (i := 4) (v := (.string (⟨#[45]⟩ ++ numS (-(n.tdiv 10))))) rfl (by kernel_rfl) (by kernel_rfl) (by kernel_rfl) (fun _ _ _ h => h) (Or.inl ⟨by kernel_rfl, fun w => ?_⟩) ?_
          · try simp only [Act.put, List.setIfInBounds_toArray]
            go_simp
            all_goals (omega)
          refine wpAny_take (i := 11) (v := (.string (⟨#[45]⟩ ++ numS (-(n.tdiv 10)) ++ digC (48 - n.tmod 10)))) rfl (by kernel_rfl) (by kernel_rfl) (by kernel_rfl) (fun _ _ _ h => h) (Or.inl ⟨by kernel_rfl, fun w => ?_⟩) ?_
          · try simp only [Act.put, List.setIfInBounds_toArray]
            go_simp
            all_goals (omega)
          refine wpAny_take (i := 12) (v := (.string (⟨#[45]⟩ ++ numS (-(n.tdiv 10)) ++ digC (48 - n.tmod 10)))) rfl (by kernel_rfl) (by kernel_rfl) (by kernel_rfl) (fun _ _ _ h => h) (Or.inl ⟨by kernel_rfl, fun w => by kernel_rfl⟩) ?_
          refine wpAny_done (by kernel_rfl) ?_ _
          go_wp2
          go_ret
          exact ⟨ret_str (by rw [HN.out]), ((Below.drewSelf _ _ 1).alloc (by simp) _).trans (hb.mono (by simp))⟩

set_option maxHeartbeats 1000000 in
theorem l2Num_pos (n : Int) (w : World) (hn : 10 ≤ n) (h1 : n ≤ 9223372036854775807) (hi : ∀ w, Calls Tryd.prog 40 #[.int .i64 (n / 10)] w fun e w' => e = .returned (.string (numS (n / 10))) ∧ Below w.heap.size w w') :
    Calls Tryd.prog 40 #[.int .i64 n] w fun e w' => e = .returned (.string (numS n)) ∧ Below w.heap.size w w' := by
      have HN := Hid.mk (numS_pos n hn)
      have HI := Hid.mk hi
      have hq : n.tdiv 10 = n / 10 := Int.tdiv_eq_ediv_of_nonneg (by omega)
      have hr : n.tmod 10 = n % 10 := Int.tmod_eq_emod_of_nonneg (by omega)
      have hz1 := numS_size (n / 10) (by omega) (by omega)
      have hz2 := digC_size (48 + n % 10)
      have hm0 : 0 ≤ n % 10 := by omega
      have hm1 : n % 10 < 10 := by omega
      have hcv := run_one (48 + n % 10) (by omega) (by omega)
      clear hi
      go_enter Tryd.func40, Tryd.ntmps40
      go_wp2
      refine wp_region_any (by kernel_rfl) ?_
      refine wpAny_take (i := 0) (v := .int .i64 n) rfl (by kernel_rfl) (by kernel_rfl) (by kernel_rfl) (fun _ _ _ h => h) (Or.inl ⟨by kernel_rfl, fun w => by kernel_rfl⟩) ?_
      refine wpAny_take (i := 1) (v := .int .i64 (n / 10)) rfl (by kernel_rfl) (by kernel_rfl) (by kernel_rfl) (fun _ _ _ h => h) (Or.inl ⟨by kernel_rfl, fun w => ?_⟩) ?_
      · try simp only [Act.put, List.setIfInBounds_toArray]
        go_simp
        exact wrapI _ (by omega) (by omega)
      refine wpAny_take (i := 3) (v := .int .i64 n) rfl (by kernel_rfl) (by kernel_rfl) (by kernel_rfl) (fun _ _ _ h => h) (Or.inl ⟨by kernel_rfl, fun w => by kernel_rfl⟩) ?_
      refine wpAny_take (i := 4) (v := .int .i64 (n % 10)) rfl (by kernel_rfl) (by kernel_rfl) (by kernel_rfl) (fun _ _ _ h => h) (Or.inl ⟨by kernel_rfl, fun w => ?_⟩) ?_
      · try simp only [Act.put, List.setIfInBounds_toArray]
        go_simp
      refine wpAny_take (i := 5) (v := .int .i64 (48 + n % 10)) rfl (by kernel_rfl) (by kernel_rfl) (by kernel_rfl) (fun _ _ _ h => h) (Or.inl ⟨by kernel_rfl, fun w => ?_⟩) ?_
      · try simp only [Act.put, List.setIfInBounds_toArray]
        go_simp
        exact wrapI _ (by omega) (by omega)
      refine wpAny_take (i := 6) (v := .int .u8 (48 + n % 10)) rfl (by kernel_rfl) (by kernel_rfl) (by kernel_rfl) (fun _ _ _ h => h) (Or.inl ⟨by kernel_rfl, fun w => ?_⟩) ?_
      · try simp only [Act.put, List.setIfInBounds_toArray]
        go_simp
        exact wrapB _ (by omega) (by omega)
      refine wpAny_ready (rs := [2, 7]) (by kernel_rfl) (by simp) ?_
      refine AllReady.cons rfl (fun K hK => ?_) (AllReady.cons rfl (fun K hK => ?_) AllReady.nil)
      · rw [if_pos (by kernel_rfl)]
        try simp only [Act.put, List.setIfInBounds_toArray]
        go_wp2_with fail
        refine (HI.out _).mono ?_
        rintro e w1 ⟨rfl, hb⟩
        have hsz := hb.size
        refine hK _ _ ?_
        clear hK K
        refine wpAny_ready (rs := [7]) (by kernel_rfl) (by simp) ?_
        refine AllReady.cons rfl (fun K hK => ?_) AllReady.nil
        rw [if_pos (by kernel_rfl)]
        try simp only [Act.put, List.setIfInBounds_toArray]
        go_wp2_with fail
        refine wpAny_ready (rs := [8]) (by kernel_rfl) (by simp) ?_
        refine AllReady.cons rfl (fun K hK => ?_) AllReady.nil
        rw [if_pos (by kernel_rfl)]
        try simp only [Act.put, List.setIfInBounds_toArray]
        go_wp2_with fail
        refine wpAny_take (i := 9) (v := (.string (numS (n / 10) ++ digC (48 + n % 10)))) rfl (by kernel_rfl) (by kernel_rfl) (by kernel_rfl) (fun _ _ _ h => h) (Or.inl ⟨by kernel_rfl, fun w => ?_⟩) ?_
        · try simp only [Act.put, List.setIfInBounds_toArray]
          go_simp
          all_goals (omega)
        refine wpAny_take (i := 10) (v := (.string (numS (n / 10) ++ digC (48 + n % 10)))) rfl (by kernel_rfl) (by kernel_rfl) (by kernel_rfl) (fun _ _ _ h => h) (Or.inl ⟨by kernel_rfl, fun w => by kernel_rfl⟩) ?_
        refine wpAny_done (by kernel_rfl) ?_ _
        go_wp2
        go_ret
        exact ⟨ret_str (by rw [HN.out]), ((Below.drewSelf _ _ 1).trans hb).alloc (show w.heap.size ≤ w1.heap.size from hsz) _⟩
      · rw [if_pos (by kernel_rfl)]
        try simp only [Act.put, List.setIfInBounds_toArray]
        go_wp2_with fail
        refine wpAny_ready (rs := [2, 8]) (by kernel_rfl) (by simp) ?_
        refine AllReady.cons rfl (fun K hK => ?_) (AllReady.cons rfl (fun K hK => ?_) AllReady.nil)
        · rw [if_pos (by kernel_rfl)]
          try simp only [Act.put, List.setIfInBounds_toArray]
          go_wp2_with fail
          refine (HI.out _).mono ?_
          rintro e w1 ⟨rfl, hb⟩
          have hsz := hb.size
          have hc0 := hb.cell (p := ⟨w.heap.size, 0, none⟩) (by simp)
          refine hK _ _ ?_
          clear hK K
          refine wpAny_ready (rs := [8]) (by kernel_rfl) (by simp) ?_
          refine AllReady.cons rfl (fun K hK => ?_) AllReady.nil
          rw [if_pos (by kernel_rfl)]
          try simp only [Act.put, List.setIfInBounds_toArray]
          go_wp2_with fail
          clear hc0
          refine wpAny_take (i := 9) (v := (.string (numS (n / 10) ++ digC (48 + n % 10)))) rfl (by kernel_rfl) (by kernel_rfl) (by kernel_rfl) (fun _ _ _ h => h) (Or.inl ⟨by kernel_rfl, fun w => ?_⟩) ?_
          · try simp only [Act.put, List.setIfInBounds_toArray]
            go_simp
            all_goals (omega)
          refine wpAny_take (i := 10) (v := (.string (numS (n / 10) ++ digC (48 + n % 10)))) rfl (by kernel_rfl) (by kernel_rfl) (by kernel_rfl) (fun _ _ _ h => h) (Or.inl ⟨by kernel_rfl, fun w => by kernel_rfl⟩) ?_
          refine wpAny_done (by kernel_rfl) ?_ _
          go_wp2
          go_ret
          exact ⟨ret_str (by rw [HN.out]), ((Below.drewSelf _ _ 1).alloc (by simp) _).trans (hb.mono (by simp))⟩
        · rw [if_pos (by kernel_rfl)]
          try simp only [Act.put, List.setIfInBounds_toArray]
          go_wp2_with fail
          refine wpAny_ready (rs := [2]) (by kernel_rfl) (by simp) ?_
          refine AllReady.cons rfl (fun K hK => ?_) AllReady.nil
          rw [if_pos (by kernel_rfl)]
          try simp only [Act.put, List.setIfInBounds_toArray]
          go_wp2_with fail
          refine (HI.out _).mono ?_
          rintro e w1 ⟨rfl, hb⟩
          have hsz := hb.size
          refine hK _ _ ?_
          clear hK K
          refine wpAny_take (i := 9) (v := (.string (numS (n / 10) ++ digC (48 + n % 10)))) rfl (by kernel_rfl) (by kernel_rfl) (by kernel_rfl) (fun _ _ _ h => h) (Or.inl ⟨by kernel_rfl, fun w => ?_⟩) ?_
          · try simp only [Act.put, List.setIfInBounds_toArray]
            go_simp
            all_goals (omega)
          refine wpAny_take (i := 10) (v := (.string (numS (n / 10) ++ digC (48 + n % 10)))) rfl (by kernel_rfl) (by kernel_rfl) (by kernel_rfl) (fun _ _ _ h => h) (Or.inl ⟨by kernel_rfl, fun w => by kernel_rfl⟩) ?_
          refine wpAny_done (by kernel_rfl) ?_ _
          go_wp2
          go_ret
          exact ⟨ret_str (by rw [HN.out]), ((Below.drewSelf _ _ 1).alloc (by simp) _).trans (hb.mono (by simp))⟩

theorem l2Num_ind (u : Nat) : ∀ (n : Int) (w : World), n.natAbs = u → -9223372036854775808 ≤ n → n ≤ 9223372036854775807 →
    Calls Tryd.prog 40 #[.int .i64 n] w fun e w' => e = .returned (.string (numS n)) ∧ Below w.heap.size w w' := by
  induction u using Nat.strongRecOn with
  | ind u ih =>
    intro n w hu h0 h1
    by_cases hn9 : n < -9
    · have hb := tdiv_bd n hn9 h0
      exact l2Num_neg n w hn9 h0 fun w => ih (-(n.tdiv 10)).natAbs (by omega) _ w rfl (by omega) (by omega)
    by_cases hn : n < 0
    · have HN := Hid.mk (numS_neg1 n hn (by omega))
      have hcv := run_one (48 - n) (by omega) (by omega)
      clear ih
      go_enter Tryd.func40, Tryd.ntmps40
      go_wp2
      go_ret
      exact ⟨ret_str (by rw [HN.out]), (Below.refl _ _).alloc (Nat.le_refl _) _⟩
    by_cases hn10 : n < 10
    · have HN := Hid.mk (numS_pos1 n (by omega) hn10)
      have hcv := run_one (48 + n) (by omega) (by omega)
      clear ih
      go_enter Tryd.func40, Tryd.ntmps40
      go_wp2
      go_ret
      exact ⟨ret_str (by rw [HN.out]), (Below.refl _ _).alloc (Nat.le_refl _) _⟩
    · exact l2Num_pos n w (by omega) h1 fun w => ih (n / 10).natAbs (by omega) _ w rfl (by omega) (by omega)
end Go.Proofs.YtapcbblfcmdbnaaDoor
