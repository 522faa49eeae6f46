/- Bytes and a drawn value; bytes that may be read as a value. -/
import Derived.Test.YtincoibidgkiaaaDoorDrawPair
import Derived.Test.YtincoibidgkiaaaDoorBend
import Derived.Test.YtincoibidgkiaaaDoorPutVal
import Derived.Test.YtincoibidgkiaaaDoorBack
namespace Go.Proofs.YtincoibidgkiaaaDoor
open Go.RowKit
set_option maxRecDepth 8000

set_option maxHeartbeats 1000000 in
theorem drawPutVal_any (v : Value) (zs : List Int) (w : World) (h : Bs w v zs) (hlen : zs.length ≤ 1048576) :
    Calls Tryd.prog 9 #[v] w fun e w' => ∃ b ys k n s, e = .returned (.tuple #[b, vl k n s]) ∧ Own w' w.heap.size b ys ∧ byteList ys ∧ ys.length ≤ 1000 ∧ Fair n s ∧ Below w.heap.size w w' := by
  have BW : Below w.heap.size w (zeroBox w) := (Below.refl _ _).alloc (Nat.le_refl _) _
  have eW : (zeroBox w).heap.size = w.heap.size + 1 := by simp
  have HN := Hid.mk (l1New_any v zs (zeroBox w) (h.grow BW) hlen)
  rw [eW] at HN
  clear h eW
  go_enter Tryd.func9, Tryd.ntmps9
  go_wp2_with fail
  refine HN.out.mono ?_
  rintro e w1 ⟨rfl, hC, hb⟩
  have HC := Hid.mk hC
  have D1 := Hid.mk hb
  have s1 := hC.lt
  clear hC hb HN
  go_wp2_with fail
  refine (l1Some_any (w.heap.size + 1) v zs w1 HC.out).mono ?_
  rintro e w2 ⟨b, ys, rfl, hown, hby, hyl, hC, hg⟩
  have s2 := hg.size
  have HC2 := Hid.mk hC
  have HO2 := Hid.mk hown
  have D2 : Hid (Below (w.heap.size + 1) (zeroBox w) w2) := D1.out.grown hg (by omega) (fun j hj => by simp at hj; omega)
  clear hC hg HC D1 hown
  go_wp2_with fail
  refine (l2Any_any (w.heap.size + 1) v zs w2 HC2.out).mono ?_
  rintro e w3 ⟨k, n, s, rfl, hfair, hC, hg⟩
  have HF := Hid.mk hfair
  have D3 : Hid (Below (w.heap.size + 1) (zeroBox w) w3) := D2.out.grown hg (by omega) (fun j hj => by simp at hj; omega)
  have HO3 : Hid (Own w3 (w.heap.size + 1) b ys) := (HO2.out.other hg (fun k hk e => by have h1 := (HO2.out.lt k hk).1; have h2 := Option.some.inj e; omega)).mono (by omega)
  have hcA := fun o => D3.out.cell (p := ⟨w.heap.size, o, none⟩) (by simp)
  have hfA := fun o => D3.out.frozen (p := ⟨w.heap.size, o, none⟩) (by simp)
  have HE := Hid.mk (below_set3 w3 w.heap.size w.heap.size (Nat.le_refl _) (.int .i64 k) (.int .i64 n) (.string s))
  have HOE : Hid (Own (((w3.setCell ⟨w.heap.size, 0, none⟩ (.int .i64 k)).setCell ⟨w.heap.size, 1, none⟩ (.int .i64 n)).setCell ⟨w.heap.size, 2, none⟩ (.string s)) w.heap.size b ys) := by
    have g1 := grownBy_setCell w3 w.heap.size 0 (.int .i64 k)
    have g2 := grownBy_setCell (w3.setCell ⟨w.heap.size, 0, none⟩ (.int .i64 k)) w.heap.size 1 (.int .i64 n)
    have g3 := grownBy_setCell ((w3.setCell ⟨w.heap.size, 0, none⟩ (.int .i64 k)).setCell ⟨w.heap.size, 1, none⟩ (.int .i64 n)) w.heap.size 2 (.string s)
    exact (HO3.out.other (grownBy_trans (grownBy_trans g1 g2) g3) (fun k hk e => by have h1 := (HO3.out.lt k hk).1; have h2 := Option.some.inj e; omega)).mono (by omega)
  clear hC hg HC2 D2 HO2 hfair HO3
  go_wp2
  refine bodyPost_ret (v := .tuple #[b, vl k n s]) (by simp [results, Tryd.results9, go_sem, hcA]) rfl ⟨b, ys, k, n, s, rfl, HOE.out, hby, hyl, HF.out, ?_⟩
  exact (BW.trans (D3.out.mono (by omega))).trans HE.out

theorem vG_short (k n : Int) (s : ByteArray) : 0 < (vG k n s).length ∧ (vG k n s).length ≤ s.size + 10 := by
  unfold vG
  have h1 := Ma.UG_length (Ma.clamp k)
  have h2 := Ma.UG_length (Ma.clamp (s.size : Int))
  have h3 := Ma.SG_length (Ma.wr n)
  have hp : 0 < (Ma.UG (Ma.clamp k)).length := by
    unfold Ma.UG Ma.uG
    split <;> simp
  rw [List.length_append]
  split
  · omega
  split
  · rw [List.length_append, txt_length]; omega
  · simp; omega

set_option maxHeartbeats 2000000 in
theorem drawGetVal_any (v : Value) (zs : List Int) (w : World) (h : Bs w v zs) (hlen : zs.length ≤ 1048576) :
    Calls Tryd.prog 15 #[v] w fun e w' => ∃ b ys x, e = .returned (.tuple #[b, .int .i64 x]) ∧ Bs w' b ys ∧ ys.length ≤ 1000 ∧ Below w.heap.size w w' := by
  have H := Hid.mk h
  clear h
  go_enter Tryd.func15, Tryd.ntmps15
  go_wp2_with fail
  refine (l1New_any v zs w H.out hlen).mono ?_
  rintro e w1 ⟨rfl, hC, hb⟩
  have HC := Hid.mk (hC.grow ((Below.refl _ _).alloc (Nat.le_refl _) (.cells #[] 5)))
  have hlt := hC.lt
  have HV := Hid.mk (fun hz => hC.1.lt hz)
  have HL := Hid.mk (hb.alloc hb.size (.cells #[] 5))
  clear hC hb
  go_wp2_with fail
  refine (l2Draw_any _ v zs _ HC.out).mono ?_
  rintro e w2 ⟨k, n, s, rfl, hfair, hC, hg⟩
  have HC2 := Hid.mk hC
  have HL2 := Hid.mk (HL.out.trans (Below.ofGrown hg HC.out.lt))
  have hs12 : w1.heap.size ≤ w2.heap.size := Nat.le_trans (by simp) hg.size
  have hsz := hfair.2.2
  clear hC hg HC HL hfair
  go_wp2_with fail
  refine (specPutVal_any _ [] k n s w2 (Bs.empty _ _ _ (by decide)) (by simp) (by omega)).mono ?_
  rintro e w3 ⟨b, rfl, hown, hb3⟩
  have HC3 := Hid.mk (HC2.out.grow hb3)
  have HL3 := Hid.mk (HL2.out.trans (hb3.mono HL2.out.size))
  have hs23 := hb3.size
  rw [List.nil_append] at hown
  have hU := vG_byte k n s
  obtain ⟨hpos, hUl⟩ := vG_short k n s
  obtain ⟨xs, hxs⟩ : ∃ xs, vG k n s = xs := ⟨_, rfl⟩
  rw [hxs] at hown hU hpos hUl
  have HO := Hid.mk hown
  clear hb3 HC2 HL2 hxs
  obtain ⟨g, cap, rfl, hgB, hcap, hcm⟩ : ∃ g cap, b = .slice (some ⟨g, 0, none⟩) xs.length cap ∧ w2.heap.size ≤ g ∧ xs.length ≤ cap ∧ cap ≤ maxLen := by
    rcases hown.2 with ⟨_, h0⟩ | ⟨g, cap, cur, h1, h2, h3, h4, h5, _⟩
    · omega
    · exact ⟨g, cap, h1, h2, h4, h5⟩
  unfold maxLen at hcm
  clear hown
  go_wp2_with fail
  refine (l1Below_any w.heap.size v zs 4 w3 HC3.out).mono ?_
  rintro e w4 ⟨y, rfl, hy0, hy4, -, hC, hg⟩
  have hs34 := hg.size
  have HC4 := Hid.mk hC
  have HL4 := Hid.mk (HL3.out.trans (Below.ofGrown hg HC3.out.lt))
  have HO4 := Hid.mk (HO.out.other hg (fun k hk e => by have h1 := (HO.out.lt k hk).1; have h2 := Option.some.inj e; omega))
  clear hC hg HC3 HL3 HO hy4
  by_cases hya : y = 0
  · subst hya
    go_wp2_with fail
    refine (l1Below_any w.heap.size v zs (xs.length : Int) w4 HC4.out).mono ?_
    rintro e w5 ⟨p, rfl, hp0, hp1, -, hC, hg⟩
    obtain ⟨p, rfl⟩ := Int.eq_ofNat_of_zero_le hp0
    have hp : p < xs.length := by have := hp1 (by omega); omega
    have hs45 := hg.size
    have HC5 := Hid.mk hC
    have HO5 := Hid.mk (HO4.out.other hg (fun k hk e => by have h1 := (HO4.out.lt k hk).1; have h2 := Option.some.inj e; omega))
    have HL5 := Hid.mk (HL4.out.trans (Below.ofGrown hg HC4.out.lt))
    clear hC hg hp1 HC4 HO4 HL4
    go_wp2_with fail
    refine (l1Int_any w.heap.size w5.heap.size 6 v zs [0, 1, 2, 3, 64, 128] _
      (HC5.out.grow ((Below.refl _ _).alloc (Nat.le_refl _) _)) rfl (by omega) (by omega) (heap_alloc_new w5 _) (by have := HC5.out.lt; omega)).mono ?_
    rintro e w6 ⟨x, rfl, hx, hC, hg⟩
    have hx2 : 0 ≤ x ∧ x ≤ 255 := by simp at hx; omega
    obtain ⟨hx0, hx1⟩ := hx2
    have HC6 := Hid.mk hC
    have hO6 := ((HO5.out.alloc (.cells #[.int .i64 0, .int .i64 1, .int .i64 2, .int .i64 3, .int .i64 64, .int .i64 128] 3)).other hg (fun k hk e => by have h1 := (HO5.out.lt k hk).1; have h2 := Option.some.inj e; omega))
    have HL6 := Hid.mk ((HL5.out.alloc (by have := HL5.out.size; omega) (.cells #[.int .i64 0, .int .i64 1, .int .i64 2, .int .i64 3, .int .i64 64, .int .i64 128] 3)).trans (Below.ofGrown hg (by have := HC5.out.lt; simp; omega)))
    have hfr := World.ownsRow.frozenAt hO6 p
    have hold := World.ownsRow.cellAt hO6 p (by omega)
    rw [U8_get _ p hp] at hold
    have hst := World.ownsRow.stored hO6 p (.int .u8 x)
    rw [U8_set] at hst
    have hE1 : Own (w6.setCell ⟨g, p, none⟩ (.int .u8 x)) w2.heap.size (.slice (some ⟨g, 0, none⟩) xs.length cap) (xs.set p x) := by
      unfold Own; rw [List.length_set]; exact hst.1
    have hBe : Below w2.heap.size w6 (w6.setCell ⟨g, p, none⟩ (.int .u8 x)) := (Below.refl _ _).setCell hgB _
    have hE2 := HC6.out.below hBe (by omega) (fun hz k hk => by have := HV.out hz k hk; omega)
    have hE3 := HL6.out.trans (hBe.mono (by omega))
    have hby2 := hU.set p x hx0 hx1
    have HE := Hid.mk (And.intro hE1 (And.intro hE2 hE3))
    have hlb : (xs.set p x).length = xs.length := List.length_set
    have HBs := Hid.mk (hE1.bs hby2)
    clear hE1 hE2 hE3 hst hO6 hC hg hx HC5 HO5 HL5 HC6 HL6 hBe
    go_wp2_with fail
    refine (l1At_any w.heap.size v _ zs (xs.set p x) _ HE.out.2.1 HBs.out (by omega)).mono ?_
    rintro e w7 ⟨z, rfl, hC, hg⟩
    have HL7 := Hid.mk (HE.out.2.2.trans (Below.ofGrown hg HE.out.2.1.lt))
    have HB7 := Hid.mk ((HE.out.1.other hg (fun k hk e => by have h1 := (HE.out.1.lt k hk).1; have h2 := Option.some.inj e; omega)).bs hby2)
    clear hC hg HE HBs
    go_wp2
    go_ret2
    exact ⟨_, xs.set p x, z, rfl, HB7.out, by omega, HL7.out⟩
  by_cases hyb : y = 1
  · subst hyb
    go_wp2_with fail
    refine (l1Below_any w.heap.size v zs (xs.length : Int) w4 HC4.out).mono ?_
    rintro e w5 ⟨p, rfl, hp0, hp1, -, hC, hg⟩
    obtain ⟨p, rfl⟩ := Int.eq_ofNat_of_zero_le hp0
    have hp : p < xs.length := by have := hp1 (by omega); omega
    have hs45 := hg.size
    have HC5 := Hid.mk hC
    have HO5 := Hid.mk (HO4.out.other hg (fun k hk e => by have h1 := (HO4.out.lt k hk).1; have h2 := Option.some.inj e; omega))
    have HL5 := Hid.mk (HL4.out.trans (Below.ofGrown hg HC4.out.lt))
    have HP := Hid.mk ((HO5.out.bs hU).prefix (m := p) (by omega) (by unfold maxLen; omega) hcap)
    have hpc : p ≤ cap := by omega
    clear hC hg hp1 HC4 HO4 HL4
    go_wp2_with fail
    refine (l1At_any w.heap.size v _ zs (xs.take p) _ HC5.out HP.out (by simp; omega)).mono ?_
    rintro e w7 ⟨z, rfl, hC, hg⟩
    have HL7 := Hid.mk (HL5.out.trans (Below.ofGrown hg HC5.out.lt))
    have HB7 := Hid.mk (((HO5.out.other hg (fun k hk e => by have h1 := (HO5.out.lt k hk).1; have h2 := Option.some.inj e; omega)).bs hU).prefix (m := p) (by omega) (by unfold maxLen; omega) hcap)
    clear hC hg HC5 HO5 HL5 HP
    go_wp2
    go_ret2
    exact ⟨_, xs.take p, z, rfl, HB7.out, by simp; omega, HL7.out⟩
  · go_wp2_with fail
    refine (l1At_any w.heap.size v _ zs xs w4 HC4.out (HO4.out.bs hU) (by omega)).mono ?_
    rintro e w5 ⟨x, rfl, hC, hg⟩
    have HL5 := Hid.mk (HL4.out.trans (Below.ofGrown hg HC4.out.lt))
    have HB5 := Hid.mk ((HO4.out.other hg (fun k hk e => by have h1 := (HO4.out.lt k hk).1; have h2 := Option.some.inj e; omega)).bs hU)
    clear hC hg HC4 HL4 HO4
    go_wp2
    go_ret2
    exact ⟨_, xs, x, rfl, HB5.out, by omega, HL5.out⟩
end Go.Proofs.YtincoibidgkiaaaDoor
