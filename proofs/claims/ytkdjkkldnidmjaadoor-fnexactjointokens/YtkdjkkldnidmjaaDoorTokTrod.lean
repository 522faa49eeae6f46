/- What is read as data reads as tokens. -/
import Derived.Test.YtkdjkkldnidmjaaDoorTokLeaf
import Derived.Lib.SmallJoins
namespace Go.Proofs.YtkdjkkldnidmjaaDoor
open Go.RowKit
set_option maxRecDepth 8000

theorem cell_of_cells3k {w : World} {a : Addr} {cs : List Value} (h : w.cells? 0 a 3 = some cs) : ∃ v0 v1 v2, cs = [v0, v1, v2] ∧ w.cell? (a.add 0) = some v0 ∧ w.cell? (a.add 1) = some v1 ∧ w.cell? (a.add 2) = some v2 := by
  obtain ⟨_, hlen, hcell⟩ := World.cells?_some h
  match cs, hlen with
  | [v0, v1, v2], _ => exact ⟨v0, v1, v2, rfl, by simpa using hcell 0 (by simp), by simpa using hcell 1 (by simp), by simpa using hcell 2 (by simp)⟩

section
variable {H : Type} {enc : TypeId × Value → H} {P : Program} {w : World} {sp : Nat → Bool} {held : Bool}

theorem Tl.of_trod {t e ti ts : TypeId} {f0 f1 f2 : Field} (ht : P.underlying t = some (.slice e)) (he : P.underlying e = some (.struct #[f0, f1, f2]))
    (ce : P.cellsOf e = 3) (o0 : f0.offset = 0) (o1 : f1.offset = 1) (o2 : f2.offset = 2) (t0 : f0.type = ti) (t1 : f1.type = ti) (t2 : f2.type = ts)
    (c0 : P.cellsOf ti = 1) (c1 : P.cellsOf ts = 1) (hi : P.underlying ti = some (.int .i64)) (hst : P.underlying ts = some .string)
    {fuel : Nat} {cs : List Value} {x : DataW H × List MemPlace} (h : DataW.trod enc P w 0 sp held fuel t cs = some x) : ∃ v N, cs = [v] ∧ Tl w N v := by
  rcases DataW.trod_slice ht h with ⟨rfl, _⟩ | ⟨a, len, cap, elems, rest, n, hn, rfl, rfl, hb, hl, hm, hlen, hel, hsp, hns⟩
  · exact ⟨_, [], rfl, none, 0, rfl, Nat.le_refl _, Nat.zero_le _, fun _ => rfl, (fun x h => by cases h), fun h => absurd rfl h⟩
  · subst hn
    have each : ∀ i, i < len → ∃ q : Tk, q.s.size ≤ maxLen ∧ w.cell? (a.add (i * 3)) = some (.int .i64 q.k) ∧ w.cell? (a.add (i * 3 + 1)) = some (.int .i64 q.n) ∧ w.cell? (a.add (i * 3 + 2)) = some (.string q.s) := by
      intro i hi'
      have := hel i hi'
      rw [ce, List.getElem?_eq_getElem (by omega)] at this
      obtain ⟨cs', h1, h2⟩ := Option.bind_eq_some_iff.1 this
      obtain ⟨v0, v1, v2, rfl, e0, e1, e2⟩ := cell_of_cells3k h1
      obtain ⟨xs, k, hk, hxy, _, hxl, hf⟩ := DataW.trod_struct he h2
      subst hk
      have g0 := hf 0 f0 rfl
      have g1 := hf 1 f1 rfl
      have g2 := hf 2 f2 rfl
      simp [o0, o1, o2, t0, t1, t2, c0, c1] at g0 g1 g2
      have hxl' : xs.length = 3 := by simpa using hxl
      rw [List.getElem?_eq_getElem (by omega)] at g0 g1 g2
      obtain ⟨k0, hk0, _, _⟩ := DataW.trod_int hi g0
      obtain ⟨n0, hn0, _, _⟩ := DataW.trod_int hi g1
      obtain ⟨s0, hs0, _, hsz⟩ := DataW.trod_string hst g2
      simp at hk0 hs0 hn0
      subst hk0 hs0 hn0
      rw [Go.Deep.add_add] at e0 e1 e2
      exact ⟨⟨k0, n0, s0⟩, hsz, by simpa using e0, by simpa using e1, by simpa using e2⟩
    obtain ⟨q, hq⟩ := Go.Deep.choose_lt each
    have hll : ((List.range len).map q).length = len := by simp
    refine ⟨_, (List.range len).map q, rfl, some a, cap, by rw [hll], by rw [hll]; exact hl, hm, (fun h => by cases h), ?_, fun hne => ?_⟩
    · intro x hx
      obtain ⟨i, hi', rfl⟩ := List.mem_map.1 hx
      exact (hq i (List.mem_range.1 hi')).1
    · have h0 : 0 < len := by rw [← hll]; exact List.length_pos_iff.2 hne
      obtain ⟨b, off, spot⟩ := a
      have hspot : spot = none := by simpa [Addr.add] using World.cell?_spot (hq 0 h0).2.1
      subst hspot
      refine ⟨b, off, rfl, fun i hi' => ?_⟩
      obtain ⟨_, x0, x1, x2⟩ := hq i (by rw [hll] at hi'; exact hi')
      simp only [Addr.add_lit] at x0 x1 x2
      simp only [List.getElem_map, List.getElem_range]
      exact ⟨x0, x1, x2⟩
end
end Go.Proofs.YtkdjkkldnidmjaaDoor
