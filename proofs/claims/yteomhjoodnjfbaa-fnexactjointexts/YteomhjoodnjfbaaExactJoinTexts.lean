/- The law FnExactJoinTexts walked: at all texts the program's JoinTexts answers what the document's model of it answers. -/
import Derived.Test.YteomhjoodnjfbaaJoinTxt
namespace Go.Proofs.Yteomhjoodnjfbaa
open Go.RowKit
set_option maxRecDepth 8000

/-- The frame's word for a slice of texts that came in. -/
theorem Tz.of_row {w : World} {a : Option Addr} {len cap : Nat} {zs : List ByteArray}
    (h : (a = none ∧ len = 0 ∧ cap = 0 ∧ zs = []) ∨
      ∃ x, a = some x ∧ len ≤ cap ∧ cap ≤ maxLen ∧ zs.length = cap ∧ (∀ i, i < zs.length → w.cell? (x.add i) = some (.string (zs.getD i ByteArray.empty))) ∧ ∀ s ∈ zs, s.size ≤ maxLen) :
    Tz w (.slice a len cap) (zs.take len) ∧ ∀ s ∈ zs.take len, s.size ≤ maxLen := by
  rcases h with ⟨rfl, rfl, rfl, rfl⟩ | ⟨x, rfl, hl, hm, hz, hcell, hwf⟩
  · exact ⟨⟨none, 0, by simp, by simp, by simp, fun _ => rfl, fun h => by simp at h⟩, fun s hs => by simp at hs⟩
  · have hlen : (zs.take len).length = len := by simp; omega
    refine ⟨⟨some x, cap, by rw [hlen], by omega, hm, fun h => by simp at h, fun hne => ?_⟩, fun s hs => hwf s (List.mem_of_mem_take hs)⟩
    have hpos : 0 < len := by
      rcases Nat.eq_zero_or_pos len with h0 | h0
      · subst h0; simp at hne
      · exact h0
    obtain ⟨b, off, spot⟩ := x
    have hc := hcell 0 (by omega)
    have hspot : spot = none := by simpa [Addr.add] using World.cell?_spot hc
    subst hspot
    refine ⟨b, off, rfl, fun i hi => ?_⟩
    have := hcell i (by omega)
    rw [hlen] at hi
    rw [Addr.add_lit] at this
    rw [this]
    have hi2 : i < zs.length := by omega
    simp [List.getD, hi, hi2]

set_option maxHeartbeats 2000000 in
theorem fnExactJoinTexts_walk (l : List ByteArray) (v : Value) (w : World) (h : Tz w v l) (hl : ∀ x ∈ l, x.size ≤ maxLen) :
    Calls Try.prog 14 #[v] w fun e w' => e = .returned (.bool true) ∧ Below w.heap.size w w' := by
  have HS := Hid.mk (szStringS_any l v w h hl)
  have HT := Hid.mk (fun hz (w' : World) (hb : Below w.heap.size w w') => toStringS_any v l w' (h.grow hb) hz)
  have HSO := Hid.mk (fun (hz : l.length + szT l ≤ 1048576) (w' : World) (u : Value) (h : Tz w' u l) => specJoinTexts_any l u w' h hz)
  have HIO := Hid.mk (fun (hz : l.length + szT l ≤ 1048576) (w' : World) (u : Value) (h : Tz w' u l) => implJoinTexts_any l u w' h hz)
  have HEQ := Hid.mk (fun (w' : World) (u u' : Value) (h : Tz w' u l) (h' : Tz w' u' l) => eqStringS_same u u' l w' h h')
  obtain ⟨ao, cap, rfl, hl1, hm, -, -⟩ := h
  unfold maxLen at hm
  clear hl
  go_enter Try.func14, Try.ntmps14
  go_wp2_with fail
  refine HS.out.mono ?_
  rintro e w1 ⟨m, rfl, hm1, hw1⟩
  obtain rfl := hw1.symm
  have HM := Hid.mk hm1
  clear hm1 hw1 HS
  by_cases hmn : m < 0
  · clear HT HSO HIO HEQ HM
    go_wp2
    go_ret
    exact ⟨rfl, Below.refl _ _⟩
  have hz := HM.out (by omega)
  have HT' := Hid.mk (HT.out (by omega))
  have HSO' := Hid.mk (HSO.out hz)
  have HIO' := Hid.mk (HIO.out hz)
  generalize jn l l.length = x at HSO' HIO'
  have h4 : (x.toList != x.toList) = false := by simp
  clear HT HSO HIO HM hz
  go_wp2_with fail
  refine (HT'.out _ (Below.refl _ _)).mono ?_
  rintro e w2 ⟨u2, rfl, ho2, hb2⟩
  have B2 := Hid.mk hb2
  have T2 := Hid.mk ho2.iz
  obtain ⟨a2, c2, hv2, -⟩ := ho2.iz
  subst hv2
  clear hb2 ho2
  go_wp2_with fail
  refine (HSO'.out _ _ T2.out).mono ?_
  rintro e w3 ⟨rfl, hw3⟩
  obtain rfl := hw3.symm
  clear hw3 T2 HSO'
  go_wp2_with fail
  refine (HT'.out _ B2.out).mono ?_
  rintro e w4 ⟨u4, rfl, ho4, hb4⟩
  have B4 := Hid.mk (B2.out.trans (hb4.mono B2.out.size))
  have T4 := Hid.mk ho4.iz
  obtain ⟨a4, c4, hv4, -⟩ := ho4.iz
  subst hv4
  clear hb4 ho4 B2
  go_wp2_with fail
  refine (HIO'.out _ _ T4.out).mono ?_
  rintro e w5 ⟨rfl, hb5⟩
  have B5 := Hid.mk (B4.out.trans (hb5.mono B4.out.size))
  have T5 := Hid.mk (T4.out.grow hb5)
  clear hb5 T4 B4 HIO'
  go_wp2_with fail
  refine (HT'.out _ B5.out).mono ?_
  rintro e w6 ⟨u6, rfl, ho6, hb6⟩
  have B6 := Hid.mk (B5.out.trans (hb6.mono B5.out.size))
  have HE := Hid.mk (HEQ.out _ _ _ (T5.out.grow hb6) ho6.iz)
  obtain ⟨a6, c6, hv6, -⟩ := ho6.iz
  subst hv6
  clear hb6 ho6 B5 T5 HEQ
  go_wp2_with fail
  refine HE.out.mono ?_
  rintro e w7 ⟨rfl, n7, hw7⟩
  have D7 : Below w6.heap.size w6 w7 := by rw [hw7]; exact Below.drewSelf _ _ _
  have B7 := Hid.mk (B6.out.trans (D7.mono B6.out.size))
  clear hw7 D7 HE B6
  go_wp2
  go_ret
  exact ⟨rfl, B7.out⟩
end Go.Proofs.Yteomhjoodnjfbaa
