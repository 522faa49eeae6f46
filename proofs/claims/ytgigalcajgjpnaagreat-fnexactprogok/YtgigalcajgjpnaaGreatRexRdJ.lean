/- The program's reader: a set. -/
import Derived.Test.YtgigalcajgjpnaaGreatRexRdI
namespace Go.Proofs.YtgigalcajgjpnaaGreat
open Go.RowKit
set_option maxRecDepth 8000

theorem txt_extract (s : ByteArray) (p : Nat) (hp : p ≤ s.size) : txt (s.extract p s.size) = (txt s).drop p := by
  rw [extract_txt s p s.size hp (Nat.le_refl _), txt_strOf]
  · rw [List.take_of_length_le]
    rw [List.length_drop, txt_length]; omega
  · exact ((txt_byte s).drop p).take _

theorem setIdx (s : ByteArray) (p : Nat) (hp : p ≤ s.size) (w : World) :
    Calls Tryz.prog 235 #[.string (s.extract p s.size), .int .u8 93] w fun e w' => e = .returned (.int .i64 (if (((txt s).drop p).takeWhile ne93).length < ((txt s).drop p).length then ((((txt s).drop p).takeWhile ne93).length : Int) else -1)) ∧ w' = w := by
  have := indexByte_any (s.extract p s.size) 93 w
  have e := index_txt (s.extract p s.size)
  rw [txt_extract s p hp] at e
  rw [show (93 : Int).toNat.toUInt8 = 93 from rfl, e] at this
  exact this

set_option maxHeartbeats 1000000 in
theorem setBytes_dies (s : ByteArray) (R p : Nat) (w : World) (h : Rds w R s p) (hp : p ≤ s.size) (_hs : s.size ≤ 1048576) (hno : ¬ (((txt s).drop p).takeWhile ne93).length < ((txt s).drop p).length) :
    Calls Tryz.prog 231 #[.pointer (some ⟨R, 0, none⟩)] w fun e w' => e = .panicked nope ∧ w.grownBy w' (some R) := by
  have c0 := h.c0
  have c1 := h.c1
  have HI := Hid.mk (fun w => setIdx s p hp w)
  rw [if_neg hno] at HI
  have hpi : (p : Int) ≤ (s.size : Int) := by omega
  clear h hno
  go_enter Tryz.func231, Tryz.ntmps231
  go_wp2_with fail
  go_quiet ((go_at_call 235; exact Calls.quiet_of_same (HI.out _)))
  go_wp2
  exact ⟨rfl, rfl, gb_drew _ _ _⟩

set_option maxHeartbeats 2000000 in
theorem setBytes_any (s : ByteArray) (R p n : Nat) (w : World) (h : Rds w R s p) (hp : p ≤ s.size) (hs : s.size ≤ 1048576) (hn : (((txt s).drop p).takeWhile ne93).length = n) (hlt : n < ((txt s).drop p).length) :
    Calls Tryz.prog 231 #[.pointer (some ⟨R, 0, none⟩)] w fun e w' => e = .returned (.string (strOf (((txt s).drop p).takeWhile ne93))) ∧ w.grownBy w' (some R) ∧ Rds w' R s (p + n + 1) := by
  have c0 := h.c0
  have c1 := h.c1
  have hl : p + n < s.size := by rw [List.length_drop, txt_length] at hlt; omega
  have HI := Hid.mk (fun w => setIdx s p hp w)
  rw [hn, if_pos hlt] at HI
  have HX : Hid (s.extract p (p + n) = strOf (((txt s).drop p).takeWhile ne93)) := by
    show _ = _
    rw [extract_txt s p (p + n) (by omega) (by omega)]
    congr 1
    rw [show p + n - p = n by omega, ← hn]
    have := List.takeWhile_prefix (p := ne93) (l := (txt s).drop p)
    exact (List.prefix_iff_eq_take.1 this).symm
  have HC := Hid.mk (fun (w' : World) => clone_any (s.extract p (p + n)) w' (by rw [HX.out, strOf_size, hn]; omega))
  have HH := Hid.mk h
  have hpi : (p : Int) ≤ (s.size : Int) := by omega
  clear h hn hlt
  go_enter Tryz.func231, Tryz.ntmps231
  go_wp2_with fail
  go_quiet ((go_at_call 235; exact Calls.quiet_of_same (HI.out _)))
  clear HI
  go_wp2_with fail
  have hrd := HH.out.drew nq
  have hgb := gb_drew w R nq
  generalize w.drewN nq = W1 at hrd hgb ⊢
  have a0 := cell_regrown hrd.c0
  have a1 := cell_regrown hrd.c1
  have cA := Hid.mk (fun d os => Calls.regrown_of (w := W1) (d := d) (os := os) (HC.out _))
  have Hrd := Hid.mk hrd
  have Hgb := Hid.mk hgb
  have hpn : IntKind.i64.wrap ((p : Int) + (n : Int)) = (p : Int) + (n : Int) := by rw [IntKind.wrap_i64]; omega
  have hsl : ∀ w, (Instr.slice 9 (.string s) (some (.int .i64 (p : Int))) (some (.int .i64 ((p : Int) + (n : Int)))) none).run Tryz.prog w = .ok (.string (s.extract p (p + n))) w := fun w => by
    have := run_slice_string (P := Tryz.prog) w 9 s .i64 .i64 (p : Int) ((p : Int) + (n : Int)) Tryz.underlying9 (by omega) (by omega) (by omega)
    rw [this]; rfl
  clear hrd hgb c0 c1 HC HH
  refine wp_region_quiet_below (by kernel_rfl) (by kernel_rfl) ?_
  quiet_step (fail)
  quiet_step (fail)
  quiet_step (fail)
  quiet_step (fail)
  quiet_step (fail)
  quiet_step (fail)
  quiet_step (fail)
  quiet_step (fail)
  quiet_step (fail)
  quiet_step (fail)
  quiet_step (fail)
  quiet_step (fail)
  quiet_step (fail)
  quiet_step (fail)
  quiet_step (fail)
  quiet_step (exact cA.out _ _)
  quiet_step (fail)
  refine wpQuiet_nil ?_
  intro w6 hw'
  obtain ⟨⟨dq, osq⟩, hw''⟩ := hw'
  have hb6 : Below W1.heap.size W1 w6 := by rw [hw'']; exact below_regrown _ _ _
  have Hr6 := Hid.mk (Hrd.out.grow hb6)
  have Hg6 := Hid.mk (gb_below Hgb.out hb6)
  clear hw'' a0 a1 cA hb6 Hrd Hgb hsl hpn
  have c0 := Hr6.out.c0
  have c1 := Hr6.out.c1
  have f1 := Hr6.out.fr 1
  go_wp2
  go_ret
  refine ⟨ret_str' HX.out, gb_put Hg6.out _ _, ?_⟩
  have := Hr6.out.put (p + n + 1)
  rw [show ((p + n + 1 : Nat) : Int) = (p : Int) + ((n : Int) + 1) by omega] at this
  exact this
end Go.Proofs.YtgigalcajgjpnaaGreat
