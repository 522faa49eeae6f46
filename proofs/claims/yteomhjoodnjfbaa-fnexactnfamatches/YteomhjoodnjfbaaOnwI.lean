/- Onward of the program, at places of a machine: sorted, each once. -/
import Derived.Test.YteomhjoodnjfbaaShelf
import Derived.Test.YteomhjoodnjfbaaOnwS
import Derived.Lib.RowBridge
namespace Go.Proofs.Yteomhjoodnjfbaa
open Go.RowKit
set_option maxRecDepth 8000

theorem heap_putRow (w : World) (q g : Nat) (ys : List Int) (cur : Array Value) (hg : w.heap[g]? = some (.cells cur 3 (0, 0))) :
    (Go.Sort.putRow (Value.int .i64) (Go.Sort.ahead w q) g 0 ys.toArray).heap[g]? = some (.cells (Go.Sort.putCells (Value.int .i64) 0 ys.toArray cur) 3 (0, 0)) := by
  have hg' : (Go.Sort.ahead w q).heap[g]? = some (.cells cur 3 (0, 0)) := hg
  unfold Go.Sort.putRow Go.Sort.mapBlock
  simp only [Array.getElem?_modify, if_true, hg', Option.map_some, Go.Sort.onCells]
theorem heap_putRow_other (w : World) (q g b : Nat) (ys : List Int) (h : b ≠ g) :
    (Go.Sort.putRow (Value.int .i64) (Go.Sort.ahead w q) g 0 ys.toArray).heap[b]? = w.heap[b]? := by
  unfold Go.Sort.putRow Go.Sort.mapBlock
  simp only [Array.getElem?_modify, if_neg (Ne.symm h)]
  rfl
theorem size_putRow (w : World) (q g : Nat) (ys : List Int) : (Go.Sort.putRow (Value.int .i64) (Go.Sort.ahead w q) g 0 ys.toArray).heap.size = w.heap.size := by
  unfold Go.Sort.putRow Go.Sort.mapBlock
  simp only [Array.size_modify]
  rfl
/-- A row of the call's own, laid anew. -/
theorem OwnZ.putRow {w : World} {base g cap : Nat} {zs ys : List Int} (h : OwnZ w base (.slice (some ⟨g, 0, none⟩) zs.length cap) zs) (hl : ys.length = zs.length) (q m : Nat) (hm : m ≤ ys.length) :
    OwnZ (Go.Sort.putRow (Value.int .i64) (Go.Sort.ahead w q) g 0 ys.toArray) base (.slice (some ⟨g, 0, none⟩) m cap) (ys.take m) := by
  rcases h.2 with ⟨h1, _⟩ | ⟨g', cap', cur, h1, hb, hg, hn, hc, hs, ht⟩
  · simp at h1
  · simp only [Value.slice.injEq, Option.some.injEq, Addr.mk.injEq, and_true, true_and] at h1
    obtain ⟨rfl, rfl⟩ := h1
    have hml : (ys.take m).length = m := by rw [List.length_take]; omega
    refine ⟨by rw [List.length_map, Nat.mul_one], .inr ⟨g, cap, _, by rw [hml], hb, heap_putRow w q g ys cur hg, by omega, hc, by unfold Go.Sort.putCells; rw [Array.size_mapIdx]; exact hs, ?_⟩⟩
    rw [hml, Nat.mul_one]
    apply List.ext_getElem?
    intro k
    by_cases hk : k < m
    · have hky : k < ys.length := by omega
      have hkc : k < cur.size := by rw [hs]; omega
      rw [List.getElem?_take_of_lt hk, List.getElem?_map, List.getElem?_take_of_lt hk, List.getElem?_eq_getElem hky]
      unfold Go.Sort.putCells
      rw [Array.getElem?_toList, Array.getElem?_mapIdx, Array.getElem?_eq_getElem hkc]
      simp [hky]
    · rw [List.getElem?_eq_none (by rw [List.length_take]; omega), List.getElem?_eq_none (by rw [List.length_map, hml]; omega)]
theorem OwnZ.holds {w : World} {base g cap : Nat} {zs : List Int} (h : OwnZ w base (.slice (some ⟨g, 0, none⟩) zs.length cap) zs) : Go.Sort.Holds (Value.int .i64) w g 0 zs.toArray := by
  intro j hj
  have hj' : j < zs.length := by simpa using hj
  refine ⟨?_, by rw [Nat.zero_add]; exact h.fr j⟩
  rw [Nat.zero_add, h.cell (j := j) (List.getElem?_eq_getElem hj')]
  simp [hj']
theorem mem_compactUpTo (d : Array Int) (x : Int) : ∀ m, x ∈ Lib.compactUpTo d m ↔ ∃ j, j < m ∧ d[j]! = x
  | 0 => by simp [Lib.compactUpTo]
  | m + 1 => by
    rw [Lib.compactUpTo_succ, List.mem_append, mem_compactUpTo d x m]
    constructor
    · rintro (⟨j, hj, e⟩ | h)
      · exact ⟨j, by omega, e⟩
      · split at h
        · exact ⟨m, by omega, (List.mem_singleton.1 h).symm⟩
        · cases h
    · rintro ⟨j, hj, e⟩
      by_cases hjm : j < m
      · exact .inl ⟨j, hjm, e⟩
      · obtain rfl : j = m := by omega
        by_cases hk : Lib.keeps d j = true
        · right; rw [if_pos hk, e]; exact List.mem_singleton.2 rfl
        · left
          unfold Lib.keeps at hk
          simp only [decide_eq_true_eq, not_or, Classical.not_not] at hk
          exact ⟨j - 1, by omega, by rw [← hk.2]; exact e⟩
theorem mem_compact (zs : List Int) (x : Int) : x ∈ Lib.compact zs ↔ x ∈ zs := by
  unfold Lib.compact
  rw [mem_compactUpTo]
  constructor
  · rintro ⟨j, hj, e⟩
    rw [← e]
    have : zs.toArray[j]! = zs[j] := by simp [hj]
    rw [this]
    exact List.getElem_mem hj
  · intro h
    obtain ⟨j, hj, e⟩ := List.getElem_of_mem h
    exact ⟨j, hj, by simp [hj, e]⟩

theorem sortZ_any (base g cap : Nat) (zs : List Int) (w : World) (h : OwnZ w base (.slice (some ⟨g, 0, none⟩) zs.length cap) zs) (hl : zs.length ≤ 1000) :
    Calls Try.prog 104 #[.slice (some ⟨g, 0, none⟩) zs.length cap] w fun e w' => e = .returned (.tuple #[]) ∧ ∃ ys, OwnZ w' base (.slice (some ⟨g, 0, none⟩) zs.length cap) ys ∧ ys.length = zs.length ∧ (∀ j, j ∈ ys ↔ j ∈ zs) ∧ w.grownBy w' (some g) := by
  have hgl : g < w.heap.size := (World.ownsRow.lt h g rfl).2
  refine (Try.slices_Sort_int g 0 cap zs w h.holds hgl (by omega)).mono ?_
  rintro e w' ⟨rfl, n, os, rfl⟩
  obtain ⟨ys, hys⟩ : ∃ ys, zs.mergeSort (fun x y => decide (x ≤ y)) = ys := ⟨_, rfl⟩
  have hlen : ys.length = zs.length := by rw [← hys]; exact List.length_mergeSort ..
  have hmem : ∀ j, j ∈ ys ↔ j ∈ zs := fun j => by rw [← hys]; exact List.mem_mergeSort
  rw [hys]
  have ho := h.putRow hlen n ys.length (Nat.le_refl _)
  rw [List.take_length, hlen] at ho
  have G : ∀ W : World, Below W.heap.size W (Go.Sort.grow W os) := fun W => ⟨rfl, rfl, rfl, by simp [Go.Sort.grow], fun b hb => by simp [Go.Sort.grow, Array.getElem?_append, hb]⟩
  refine ⟨rfl, ys, ho.grow (G _), hlen, hmem, ⟨rfl, rfl, rfl, ?_, fun b hb hne => ?_⟩⟩
  · have := (G (Go.Sort.putRow (Value.int .i64) (Go.Sort.ahead w n) g 0 ys.toArray)).size
    rw [size_putRow] at this
    exact this
  · rw [(G _).block b (by rw [size_putRow]; exact hb), heap_putRow_other w n g b ys (fun e => hne (by rw [e]))]
theorem compactZ_any (base g cap : Nat) (zs : List Int) (w : World) (h : OwnZ w base (.slice (some ⟨g, 0, none⟩) zs.length cap) zs) (hl : zs.length ≤ 1000) :
    Calls Try.prog 105 #[.slice (some ⟨g, 0, none⟩) zs.length cap] w fun e w' => ∃ ys, e = .returned (.slice (some ⟨g, 0, none⟩) ys.length cap) ∧ OwnZ w' base (.slice (some ⟨g, 0, none⟩) ys.length cap) ys ∧ ys.length ≤ zs.length ∧ (∀ j, j ∈ ys ↔ j ∈ zs) ∧ w.grownBy w' (some g) := by
  have hcap : zs.length ≤ cap := by
    rcases h.2 with ⟨h1, _⟩ | ⟨g', cap', cur, h1, hb, hg, hn, _⟩
    · simp at h1
    · simp only [Value.slice.injEq, Option.some.injEq, Addr.mk.injEq, and_true, true_and] at h1
      omega
  refine (Try.slices_Compact_int g 0 cap zs w h.holds (by omega) hcap).mono ?_
  rintro e w' ⟨rfl, q, rfl⟩
  have hle := Lib.compact_length_le zs
  have ho := h.putRow (ys := Lib.compact zs ++ List.replicate (zs.length - (Lib.compact zs).length) 0) (by simp; omega) q (Lib.compact zs).length (by simp)
  rw [List.take_left] at ho
  refine ⟨Lib.compact zs, rfl, ho, hle, mem_compact zs, ⟨rfl, rfl, rfl, by rw [size_putRow]; exact Nat.le_refl _, fun b hb hne => heap_putRow_other w q g b _ (fun e => hne (by rw [e]))⟩⟩

theorem izOne (w : World) (a : Int) : Iz (w.alloc (.cells #[.int .i64 a] 3)) (.slice (some ⟨w.heap.size, 0, none⟩) 1 1) [a] := by
  refine ⟨_, 1, rfl, by simp, by decide, fun h => by simp at h, fun _ => ⟨_, 0, rfl, fun i hi => ?_⟩⟩
  obtain rfl : i = 0 := by simpa using hi
  simp
theorem okNfa_nd {N : List Nd} (h : okNfa N = true) {m : Nat} (hm : m < N.length) : okNd N[m] N.length = true := by
  unfold okNfa at h
  simp only [Bool.and_eq_true] at h
  exact List.all_eq_true.1 h.2 _ (List.getElem_mem hm)

set_option maxHeartbeats 1000000 in
theorem implOnward_any (N : List Nd) (hok : okNfa N = true) (B : Nat → Prop) (v u : Value) (l : List Int) (c : Int) (w : World) (h : Nl w B N v) (hl : Iz w u l) (hin : inN N.length l) (hll : l.length ≤ 300) (hc0 : 0 ≤ c) (hc1 : c ≤ 255) :
    Calls Try.prog 68 #[.agg #[v], u, .int .u8 c] w fun e w' => ∃ x ys, e = .returned x ∧ OwnZ w' w.heap.size x ys ∧ (∀ j, j ∈ ys ↔ onK N l c l.length j) ∧ ys.length ≤ 300 ∧ Below w.heap.size w w' := by
  obtain ⟨ao, cap, rfl, hl1, hm1, -, hsz1, hcN⟩ := id h
  obtain ⟨lo, lc, rfl, hl2, hm2, -, hcL⟩ := id hl
  unfold maxLen at hm1 hm2
  have HC1 := Hid.mk hcN
  have HC2 := Hid.mk hcL
  have HIn := Hid.mk hin
  have HSZ := Hid.mk hsz1
  have HOK := Hid.mk hok
  have A0 : Hid (Below w.heap.size w (w.alloc (.cells #[.slice ao N.length cap] 30))) := (Below.refl _ _).alloc (Nat.le_refl _) _
  have A1 : Hid (Below (w.heap.size + 1) (w.alloc (.cells #[.slice ao N.length cap] 30)) ((w.alloc (.cells #[.slice ao N.length cap] 30)).alloc (.cells #[] 3))) := (Below.refl _ _).alloc (by simp) _
  have O0 : Hid (OwnZ ((w.alloc (.cells #[.slice ao N.length cap] 30)).alloc (.cells #[] 3)) (w.heap.size + 1) (.slice (some ⟨w.heap.size + 1, 0, none⟩) 0 0) []) := by
    have h0 : OwnZ ((w.alloc (.cells #[.slice ao N.length cap] 30)).alloc (.cells #[] 3)) (w.heap.size + 1) (.slice (some ⟨(w.alloc (.cells #[.slice ao N.length cap] 30)).heap.size, 0, none⟩) 0 0) [] := World.ownsRow_lit (w.alloc (.cells #[.slice ao N.length cap] 30)) #[] 0 (by simp) (by decide) rfl
    show OwnZ _ _ _ _
    simpa using h0
  clear h hl hin hcN hcL hsz1 hok
  go_enter Try.func68, Try.ntmps68
  go_wp2
  go_loopw [7, 13] (fun q i wr => ∃ (k g cp : Nat) (ys : List Int), k ≤ l.length ∧ i = .int .i64 k ∧ q = .slice (some ⟨g, 0, none⟩) ys.length cp ∧ ys.length ≤ k ∧ Hid (OwnZ wr (w.heap.size + 1) (.slice (some ⟨g, 0, none⟩) ys.length cp) ys) ∧ Hid (∀ j, j ∈ ys ↔ onK N l c k j) ∧ Hid (Below (w.heap.size + 1) (w.alloc (.cells #[.slice ao N.length cap] 30)) wr)) (fun _ i _ => l.length - (intOf i).toNat)
  case atStart => exact ⟨0, _, _, [], Nat.zero_le _, rfl, rfl, Nat.le_refl _, O0, (OnS.zero N l c).2.1, A1⟩
  case round =>
    obtain ⟨k, g, cp, ys, hk, rfl, rfl, hyl, HY, HP, HB⟩ := hrel
    clear A1 O0
    have BW := Hid.mk (A0.out.trans (HB.out.mono (by omega)))
    have hsz : w.heap.size + 1 ≤ wr.heap.size := by have := HB.out.size; simpa using this
    by_cases hkl : k < l.length
    · obtain ⟨b2, off2, rfl, hcell2⟩ := HC2.out (by intro h0; rw [h0] at hkl; simp at hkl)
      have hcc0 := HIn.out l[k] (List.getElem_mem hkl)
      obtain ⟨m, hm⟩ : ∃ m : Nat, l[k] = (m : Int) := ⟨l[k].toNat, by omega⟩
      have hmN : m < N.length := by omega
      obtain ⟨b, off, rfl, _, hcell⟩ := HC1.out (by intro h0; rw [h0] at hmN; simp at hmN)
      have d0 : wr.cell? ⟨w.heap.size, 0, none⟩ = some (.slice (some ⟨b, off, none⟩) N.length cap) := by rw [HB.out.cell (p := ⟨w.heap.size, 0, none⟩) (by simp)]; simp
      have d1 : wr.cell? ⟨b2, off2 + k, none⟩ = some (.int .i64 (m : Int)) := by
        rw [BW.out.cell (p := ⟨b2, off2 + k, none⟩) (World.block_lt_of_cell? w _ (hcell2 k hkl)), hcell2 k hkl, ← hm]
        simp [List.getD, hkl]
      have d2 := (hcell m hmN).kept (w' := wr) (BW.out.block b (World.block_lt_of_cell? w _ (hcell m hmN).1))
      have HTK := Hid.mk (nodeTakes_any N[m] N.length b (off + m * 4) c wr d2 (okNfa_nd HOK.out hmN) (HSZ.out N[m] (List.getElem_mem hmN)) hc0 hc1)
      have HIS := Hid.mk (isNode_any (m : Int) N.length wr)
      rw [show plB (m : Int) N.length = true by simp [plB]; omega] at HIS
      have eM : ndAt N (l[k]).toNat = N[m] := by rw [hm, Int.toNat_natCast, ndAt_eq hmN]
      have HYES : Hid (tkB N[m] c = true → ∀ j, j ∈ ys ++ [N[m].a] ↔ onK N l c (k + 1) j) := by
        intro ht j
        rw [onK_yes hkl (by rw [eM]; exact ht), List.mem_append, HP.out, List.mem_singleton, eM]
      have HNO : Hid (tkB N[m] c = false → ∀ j, j ∈ ys ↔ onK N l c (k + 1) j) := by
        intro ht j
        rw [onK_no hkl (by rw [eM]; exact ht), HP.out]
      have e2 := d2.2.2.1
      generalize tkB N[m] c = tb at HTK HYES HNO
      generalize N[m].a = xa at e2 HYES
      have hkb : (k : Int) < (l.length : Int) := by omega
      have hcb : (m : Int) < (N.length : Int) := by omega
      clear hcell hcell2 hm hcc0 HC1 HC2 HP d2 eM
      go_wp2_with fail
      refine HIS.out.mono ?_
      rintro e w1 ⟨rfl, hw1⟩
      obtain rfl := hw1.symm
      clear hw1 HIS
      go_wp2_with fail
      refine HTK.out.mono ?_
      rintro e w2 ⟨rfl, hw2⟩
      obtain rfl := hw2.symm
      clear hw2 HTK
      cases tb with
      | true =>
        have h1 := izOne wr xa
        have ho1 := HY.out.grow ((Below.refl _ _).alloc (Nat.le_refl _) (.cells #[.int .i64 xa] 3))
        have hb1 := HB.out.alloc (by simpa using hsz) (.cells #[.int .i64 xa] 3)
        go_wp2_with (at_builtin; refine wpList_append_z rfl _ _ rfl (w.heap.size + 1) _ _ ys [xa] rfl ho1 rfl h1 hb1 (by simp; omega) (by simp; omega) ?_)
        intro v3 w3 hown3 hbel3 hq1 hq2 hq3
        obtain ⟨g3, c3, hv3, -, -⟩ := hown3.form (by simp)
        have HY3 := Hid.mk hown3
        have HB3 := Hid.mk hbel3
        have HP3 := Hid.mk (HYES.out (by simp))
        subst hv3
        clear h1 ho1 hb1 hown3 hbel3 hq1 hq2 hq3 HY HB HYES HNO d0 d1 e2 BW
        go_wp2
        go_roundw
        case rel => exact ⟨k + 1, g3, c3, ys ++ [xa], by omega, by go_num, rfl, by simp; omega, HY3, HP3, HB3⟩
        case measure => simp [intOf]; omega
      | false =>
        have HP3 := Hid.mk (HNO.out (by simp))
        clear HYES HNO
        go_wp2
        go_roundw
        case rel => exact ⟨k + 1, g, cp, ys, by omega, by go_num, rfl, by omega, HY, HP3, HB⟩
        case measure => simp [intOf]; omega
    · have e : k = l.length := by omega
      subst e
      have hgb : w.heap.size + 1 ≤ g := (World.ownsRow.lt HY.out g rfl).1
      have HSO := Hid.mk (sortZ_any (w.heap.size + 1) g cp ys wr HY.out (by omega))
      clear HC1 HC2
      go_wp2_with fail
      refine HSO.out.mono ?_
      rintro e w1 ⟨rfl, y1, ho1, hl1', hm1', hg1⟩
      have HL1 := Hid.mk hl1'
      rw [← hl1'] at ho1
      have HCO := Hid.mk (compactZ_any (w.heap.size + 1) g cp y1 w1 ho1 (by omega))
      rw [hl1'] at HCO
      have B1 : Hid (Below w.heap.size w w1) := BW.out.grown hg1 BW.out.size (fun k e => by simp at e; omega)
      have HM1 := Hid.mk hm1'
      clear ho1 hg1 HSO hm1' hl1'
      go_wp2_with fail
      refine HCO.out.mono ?_
      rintro e w2 ⟨y2, rfl, ho2, hl2', hm2', hg2⟩
      have B2 : Hid (Below w.heap.size w w2) := B1.out.grown hg2 B1.out.size (fun k e => by simp at e; omega)
      have HM2 := Hid.mk hm2'
      have HO2 := Hid.mk (ho2.mono (base' := w.heap.size) (by omega))
      clear ho2 hg2 HCO hm2'
      go_wp2
      go_ret
      exact ⟨_, y2, rfl, HO2.out, fun j => by rw [HM2.out, HM1.out, HP.out], by have := HL1.out; omega, B2.out⟩
end Go.Proofs.Yteomhjoodnjfbaa
