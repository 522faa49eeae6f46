/- The draws of bytes that may be read as a number, and of a text. -/
import Derived.Test.YtincoibidgkiaaaBend
import Derived.Test.YtincoibidgkiaaaReadT
import Derived.Test.YtincoibidgkiaaaReadS
import Derived.Deep.RegionWith
namespace Go.Proofs.Ytincoibidgkiaaa
open Go.RowKit

set_option maxHeartbeats 1000000 in
theorem drawGetU_any (v : Value) (zs : List Int) (w : World) (h : Bs w v zs) (hlen : zs.length ≤ 1048576) :
    Calls Try.prog 27 #[v] w fun e w' => ∃ b ys x, e = .returned (.tuple #[b, .int .i64 x]) ∧ Own w' w.heap.size b ys ∧ byteList ys ∧ ys.length ≤ 100 ∧ Below w.heap.size w w' := by
  have H := Hid.mk h
  clear h
  go_enter Try.func27, Try.ntmps27
  go_wp2_with fail
  refine (l1New_any v zs w H.out hlen).mono ?_
  rintro e w1 ⟨rfl, hC, hb⟩
  have HC := Hid.mk (hC.grow ((Below.refl _ _).alloc (Nat.le_refl _) (.cells #[] 5)))
  have hlt := hC.lt
  have HV := Hid.mk (fun hz => hC.1.lt hz)
  have HL := Hid.mk (hb.alloc hb.size (.cells #[] 5))
  clear hC hb
  go_wp2_with fail
  refine (l1Num_any _ v zs _ HC.out).mono ?_
  rintro e w2 ⟨n, rfl, hC, hg⟩
  have HC2 := Hid.mk hC
  have HL2 := Hid.mk (HL.out.trans (Below.ofGrown hg HC.out.lt))
  have hs12 : w1.heap.size ≤ w2.heap.size := Nat.le_trans (by simp) hg.size
  clear hC hg HC HL
  go_wp2_with fail
  refine (specPutU_any _ [] n w2 (Bs.empty _ _ _ (by decide)) (by simp)).mono ?_
  rintro e w3 ⟨b, rfl, hown, hb3⟩
  have HC3 := Hid.mk (HC2.out.grow hb3)
  have HL3 := Hid.mk (HL2.out.trans (hb3.mono HL2.out.size))
  have hs23 := hb3.size
  rw [List.nil_append] at hown
  have hU := UG_byte 5 (Ma.clamp n) (Ma.clamp_lo n)
  have hU5 := Ma.UG_length (Ma.clamp n)
  have hpos : 0 < (Ma.UG (Ma.clamp n)).length := by
    unfold Ma.UG Ma.uG
    split <;> simp
  have HO := Hid.mk hown
  clear hown hb3 HC2 HL2
  go_wp2_with fail
  refine (l1Bend_any w.heap.size w2.heap.size v b zs (Ma.UG (Ma.clamp n)) w3 HC3.out (fun hz k hk => by have := HV.out hz k hk; omega) (by omega) hs23 HO.out hU hpos (by omega)).mono ?_
  rintro e w4 ⟨b4, ys, rfl, hown, hby, hyl, hC, hb4⟩
  have HC4 := Hid.mk hC
  have HL4 := Hid.mk (HL3.out.trans hb4)
  have HO4 := Hid.mk hown
  clear hC hb4 hown HC3 HL3 HO hU
  go_wp2_with fail
  refine (l1At_any w.heap.size v b4 zs ys w4 HC4.out (HO4.out.bs hby) (by omega)).mono ?_
  rintro e w5 ⟨x, rfl, hC, hg⟩
  have HL5 := Hid.mk (HL4.out.trans (Below.ofGrown hg HC4.out.lt))
  have HO5 := Hid.mk ((HO4.out.other hg (fun k hk e => by have h1 := (HO4.out.lt k hk).1; have h2 := Option.some.inj e; omega)).mono (base' := w.heap.size) (by omega))
  clear hC hg HC4 HL4 HO4
  go_wp2
  go_ret2
  exact ⟨b4, ys, x, rfl, HO5.out, hby, by omega, HL5.out⟩

set_option maxHeartbeats 1000000 in
theorem drawGetS_any (v : Value) (zs : List Int) (w : World) (h : Bs w v zs) (hlen : zs.length ≤ 1048576) :
    Calls Try.prog 29 #[v] w fun e w' => ∃ b ys x, e = .returned (.tuple #[b, .int .i64 x]) ∧ Own w' w.heap.size b ys ∧ byteList ys ∧ ys.length ≤ 100 ∧ Below w.heap.size w w' := by
  have H := Hid.mk h
  clear h
  go_enter Try.func29, Try.ntmps29
  go_wp2_with fail
  refine (l1New_any v zs w H.out hlen).mono ?_
  rintro e w1 ⟨rfl, hC, hb⟩
  have HC := Hid.mk (hC.grow ((Below.refl _ _).alloc (Nat.le_refl _) (.cells #[] 5)))
  have hlt := hC.lt
  have HV := Hid.mk (fun hz => hC.1.lt hz)
  have HL := Hid.mk (hb.alloc hb.size (.cells #[] 5))
  clear hC hb
  go_wp2_with fail
  refine (l1Num_any _ v zs _ HC.out).mono ?_
  rintro e w2 ⟨n, rfl, hC, hg⟩
  have HC2 := Hid.mk hC
  have HL2 := Hid.mk (HL.out.trans (Below.ofGrown hg HC.out.lt))
  have hs12 : w1.heap.size ≤ w2.heap.size := Nat.le_trans (by simp) hg.size
  clear hC hg HC HL
  go_wp2_with fail
  refine (specPutS_any _ [] n w2 (Bs.empty _ _ _ (by decide)) (by simp)).mono ?_
  rintro e w3 ⟨b, rfl, hown, hb3⟩
  have HC3 := Hid.mk (HC2.out.grow hb3)
  have HL3 := Hid.mk (HL2.out.trans (hb3.mono HL2.out.size))
  have hs23 := hb3.size
  rw [List.nil_append] at hown
  have hU := SG_byte 5 (Ma.wr n)
  have hU5 := Ma.SG_length (Ma.wr n)
  have hpos : 0 < (Ma.SG (Ma.wr n)).length := by
    unfold Ma.SG Ma.sG
    split <;> simp
  have HO := Hid.mk hown
  clear hown hb3 HC2 HL2
  go_wp2_with fail
  refine (l1Bend_any w.heap.size w2.heap.size v b zs (Ma.SG (Ma.wr n)) w3 HC3.out (fun hz k hk => by have := HV.out hz k hk; omega) (by omega) hs23 HO.out hU hpos (by omega)).mono ?_
  rintro e w4 ⟨b4, ys, rfl, hown, hby, hyl, hC, hb4⟩
  have HC4 := Hid.mk hC
  have HL4 := Hid.mk (HL3.out.trans hb4)
  have HO4 := Hid.mk hown
  clear hC hb4 hown HC3 HL3 HO hU
  go_wp2_with fail
  refine (l1At_any w.heap.size v b4 zs ys w4 HC4.out (HO4.out.bs hby) (by omega)).mono ?_
  rintro e w5 ⟨x, rfl, hC, hg⟩
  have HL5 := Hid.mk (HL4.out.trans (Below.ofGrown hg HC4.out.lt))
  have HO5 := Hid.mk ((HO4.out.other hg (fun k hk e => by have h1 := (HO4.out.lt k hk).1; have h2 := Option.some.inj e; omega)).mono (base' := w.heap.size) (by omega))
  clear hC hg HC4 HL4 HO4
  go_wp2
  go_ret2
  exact ⟨b4, ys, x, rfl, HO5.out, hby, by omega, HL5.out⟩

set_option maxHeartbeats 2000000 in
theorem drawPutText_any (v : Value) (zs : List Int) (w : World) (h : Bs w v zs) (hlen : zs.length ≤ 1048576) :
    Calls Try.prog 31 #[v] w fun e w' => ∃ b ys s, e = .returned (.tuple #[b, .string s]) ∧ Own w' w.heap.size b ys ∧ byteList ys ∧ ys.length ≤ 1000 ∧ s.size ≤ 1000 ∧ Below w.heap.size w w' := by
  have H := Hid.mk h
  clear h
  go_enter Try.func31, Try.ntmps31
  go_wp2_with fail
  refine (l1New_any v zs w H.out hlen).mono ?_
  rintro e w1 ⟨rfl, hC, hb⟩
  have hlt := hC.lt
  have HC := Hid.mk hC
  have HL := Hid.mk hb
  clear hC hb
  have tok1 : True := trivial
  go_wp2_with fail
  go_region_with (first
    | (go_at_call 58; have _t := tok1; refine (l1Some_any w.heap.size v zs _ ?_).mono ?_; exact HC.out; rintro e w2 ⟨v2, ys2, rfl, hown2, hby2, hl2, hC2, hg2⟩; clear tok1)
    | (go_at_call 58; refine (l1Some_any w.heap.size v zs _ ?_).mono ?_; assumption; rintro e w3 ⟨v3, ys3, rfl, hown3, hby3, hl3, hC3, hg3⟩; obtain ⟨ao3, cap3, hv3⟩ := hown3.shape; subst hv3; have hcv := run_strOf_any (hown3.bs hby3)))
  all_goals
    have hL2 : Below w.heap.size w w2 := HL.out.trans (Below.ofGrown (w := w1) ⟨hg2.os, hg2.tape, hg2.output, hg2.size, hg2.block⟩ hlt)
    have hL3 : Below w.heap.size w w3 := hL2.trans (Below.ofGrown hg3 hC2.lt)
    have hO2 : Own w2 w1.heap.size v2 ys2 := hown2
    have hO3 := (hO2.other hg3 (fun k hk e => by have h1 := (hO2.lt k hk).1; have h2 := Option.some.inj e; omega)).mono (base' := w.heap.size) (by omega)
    have hss : (strOf ys3).size ≤ 1000 := by rw [strOf_size]; exact hl3
    have HE := Hid.mk (And.intro hO3 (And.intro hss hL3))
    clear hcv hown3 hown2 hO2 hO3 hL2 hL3 hg2 hg3 hC2 hC3 hss HC HL
    go_wp2
    go_ret2
    exact ⟨v2, ys2, strOf ys3, rfl, HE.out.1, hby2, hl2, HE.out.2.1, HE.out.2.2⟩
end Go.Proofs.Ytincoibidgkiaaa
