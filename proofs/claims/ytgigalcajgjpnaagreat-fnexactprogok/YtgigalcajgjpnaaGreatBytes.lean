/- A slice of bytes and what it reads: 'Bs w v zs': the value v is a slice whose bytes in the world w are the numbers zs. -/
import Derived.Test.YtgigalcajgjpnaaGreatWrap
import Derived.Deep.QuietTactic
import Derived.BigQuiet
namespace Go.Proofs.YtgigalcajgjpnaaGreat
open Go.RowKit

theorem Hid.mk {p : Prop} (h : p) : Hid p := h

def byteList (zs : List Int) : Prop := ∀ z ∈ zs, 0 ≤ z ∧ z ≤ 255

def Bs (w : World) (v : Value) (zs : List Int) : Prop :=
  byteList zs ∧ ∃ ao cap, v = .slice ao zs.length cap ∧ zs.length ≤ cap ∧ cap ≤ maxLen ∧ (ao = none → cap = 0) ∧
    (zs ≠ [] → ∃ b off, ao = some ⟨b, off, none⟩ ∧ ∀ i, i < zs.length → w.cell? ⟨b, off + i, none⟩ = some (.int .u8 (zs.getD i 0)))

/-- The cells of a list of bytes. -/
def U8 (zs : List Int) : List Value := zs.map (Value.int .u8)

theorem U8_length (zs : List Int) : (U8 zs).length = zs.length := by simp [U8]
theorem U8_append (xs ys : List Int) : U8 (xs ++ ys) = U8 xs ++ U8 ys := by simp [U8]
theorem U8_get (zs : List Int) (i : Nat) (h : i < zs.length) : (U8 zs)[i]? = some (.int .u8 (zs.getD i 0)) := by
  simp [U8, List.getD, h]

theorem byteList_of_wf {zs : List Int} (h : ∀ n ∈ zs, (Lit.int .u8 n).wf = true) : byteList zs := by
  intro z hz
  exact bounds_u8 (h z hz)

theorem byteList.take {zs : List Int} (h : byteList zs) (n : Nat) : byteList (zs.take n) := fun z hz => h z (List.mem_of_mem_take hz)
theorem byteList.drop {zs : List Int} (h : byteList zs) (n : Nat) : byteList (zs.drop n) := fun z hz => h z (List.mem_of_mem_drop hz)
theorem byteList.append {xs ys : List Int} (h : byteList xs) (k : byteList ys) : byteList (xs ++ ys) := by
  intro z hz
  rcases List.mem_append.1 hz with h1 | h1
  · exact h z h1
  · exact k z h1
theorem byteList.getD {zs : List Int} (h : byteList zs) (i : Nat) : 0 ≤ zs.getD i 0 ∧ zs.getD i 0 ≤ 255 := by
  by_cases hi : i < zs.length
  · have : zs.getD i 0 = zs[i] := by simp [List.getD, hi]
    rw [this]; exact h _ (List.getElem_mem hi)
  · have : zs.getD i 0 = 0 := by simp [List.getD, hi]
    omega

/-- The frame's word for a slice of bytes that came in. -/
theorem Bs.of_row {w : World} {a : Option Addr} {len cap : Nat} {zs : List Int}
    (h : (a = none ∧ len = 0 ∧ cap = 0 ∧ zs = []) ∨
      ∃ x, a = some x ∧ len ≤ cap ∧ cap ≤ maxLen ∧ zs.length = cap ∧ (∀ i, i < zs.length → w.cell? (x.add i) = some (.int .u8 (zs.getD i 0))) ∧ ∀ n ∈ zs, (Lit.int .u8 n).wf = true) :
    Bs w (.slice a len cap) (zs.take len) ∧ (zs.take len).length = len := by
  rcases h with ⟨rfl, rfl, rfl, rfl⟩ | ⟨x, rfl, hl, hm, hz, hcell, hwf⟩
  · exact ⟨⟨by intro z hz; simp at hz, none, 0, by simp, by simp, by simp, fun _ => rfl, fun h => by simp at h⟩, rfl⟩
  · have hlen : (zs.take len).length = len := by simp; omega
    refine ⟨⟨(byteList_of_wf hwf).take len, some x, cap, by rw [hlen], by omega, hm, fun h => by simp at h, fun hne => ?_⟩, hlen⟩
    have hpos : 0 < len := by
      rcases Nat.eq_zero_or_pos len with h0 | h0
      · subst h0; simp at hne
      · exact h0
    obtain ⟨b, off, spot⟩ := x
    have hc := hcell 0 (by omega)
    have hspot : spot = none := by simpa [Addr.add] using World.cell?_spot hc
    subst hspot
    refine ⟨b, off, rfl, fun i hi => ?_⟩
    have := hcell i (by omega)
    rw [hlen] at hi
    rw [Addr.add_lit] at this
    rw [this]
    simp [List.getD, hi]

/-- What is owned from a block on is such a slice. -/
theorem Bs.of_owns {w : World} {base : Nat} {v : Value} {n : Nat} {zs : List Int} (h : w.ownsRow base 5 1 v n (U8 zs)) (hb : byteList zs) : Bs w v zs := by
  have hn : zs.length = n := by have := h.1; simpa [U8] using this
  subst hn
  rcases h.2 with ⟨rfl, h0⟩ | ⟨g, cap, cur, rfl, hb', hg, hnc, hcm, hcs, htake⟩
  · exact ⟨hb, none, 0, by rw [h0], by omega, by simp, fun _ => rfl, fun hne => absurd (List.eq_nil_of_length_eq_zero h0) hne⟩
  · refine ⟨hb, _, _, rfl, hnc, hcm, fun h => by simp at h, fun _ => ⟨g, 0, rfl, fun i hi => ?_⟩⟩
    have := World.ownsRow.cellAt h i (by simpa using hi)
    rw [Nat.zero_add, this, U8_get zs i hi]

/-- The slice v owns the bytes xs, in a block from 'base' on. -/
def Own (w : World) (base : Nat) (v : Value) (xs : List Int) : Prop := w.ownsRow base 5 1 v xs.length (U8 xs)

theorem Own.bs {w : World} {base : Nat} {v : Value} {xs : List Int} (h : Own w base v xs) (hb : byteList xs) : Bs w v xs := Bs.of_owns h hb
theorem Own.alloc {w : World} {base : Nat} {v : Value} {xs : List Int} (h : Own w base v xs) (o : Obj) : Own (w.alloc o) base v xs := World.ownsRow.alloc h o
theorem Own.assoc {w : World} {base : Nat} {v : Value} {xs ys zs : List Int} (h : Own w base v (xs ++ ys ++ zs)) : Own w base v (xs ++ (ys ++ zs)) := by rwa [List.append_assoc] at h

/-- The block of a slice that is not empty. -/
theorem Bs.kept {w w' : World} {v : Value} {zs : List Int} (h : Bs w v zs) (hk : ∀ k, v.ownBlock = some k → w'.heap[k]? = w.heap[k]?) : Bs w' v zs := by
  obtain ⟨hb, ao, cap, rfl, hl, hm, hn, hc⟩ := h
  refine ⟨hb, ao, cap, rfl, hl, hm, hn, fun hne => ?_⟩
  obtain ⟨b, off, rfl, hcell⟩ := hc hne
  refine ⟨b, off, rfl, fun i hi => ?_⟩
  rw [World.cell?_of_block (w := w) (hk b rfl)]
  exact hcell i hi

theorem Bs.below {w w' : World} {v : Value} {zs : List Int} {B : Nat} (h : Bs w v zs) (hk : Below B w w') (hlt : ∀ k, v.ownBlock = some k → k < B) : Bs w' v zs :=
  h.kept fun k hv => hk.block k (hlt k hv)

/-- A slice that reads something lies in a block that is there. -/
theorem Bs.lt {w : World} {v : Value} {zs : List Int} (h : Bs w v zs) (hne : zs ≠ []) : ∀ k, v.ownBlock = some k → k < w.heap.size := by
  obtain ⟨hb, ao, cap, rfl, hl, hm, hn, hc⟩ := h
  obtain ⟨b, off, rfl, hcell⟩ := hc hne
  intro k hk
  simp [Value.ownBlock] at hk
  subst hk
  exact World.block_lt_of_cell? w _ (hcell 0 (by cases zs <;> simp_all))

/-- What lay there when the world was w reads the same behind whatever only adds blocks. -/
theorem Bs.grow {w w' : World} {v : Value} {zs : List Int} (h : Bs w v zs) (hk : Below w.heap.size w w') : Bs w' v zs := by
  by_cases hne : zs = []
  · obtain ⟨hb, ao, cap, rfl, hl, hm, hn, hc⟩ := h
    exact ⟨hb, ao, cap, rfl, hl, hm, hn, fun h => absurd hne h⟩
  · exact h.below hk (h.lt hne)

/-- A slice that lies elsewhere reads the same behind a write into one row. -/
theorem Bs.other {w w' : World} {v : Value} {zs : List Int} {row : Option Nat} (h : Bs w v zs) (hg : w.grownBy w' row) (hne : ∀ k, v.ownBlock = some k → some k ≠ row) : Bs w' v zs := by
  by_cases hz : zs = []
  · obtain ⟨hb, ao, cap, rfl, hl, hm, hn, hc⟩ := h
    exact ⟨hb, ao, cap, rfl, hl, hm, hn, fun h => absurd hz h⟩
  · exact h.kept fun k hk => hg.block k (h.lt hz k hk) (hne k hk)

theorem Own.grow {w w' : World} {base : Nat} {v : Value} {xs : List Int} (h : Own w base v xs) (hk : Below w.heap.size w w') : Own w' base v xs :=
  World.ownsRow.kept (row := none) h ⟨hk.os, hk.tape, hk.output, hk.size, fun k h1 _ => hk.block k h1⟩ (by cases hv : v.ownBlock <;> simp)

theorem Own.other {w w' : World} {base : Nat} {v : Value} {xs : List Int} {row : Option Nat} (h : Own w base v xs) (hg : w.grownBy w' row) (hne : ∀ k, v.ownBlock = some k → some k ≠ row) : Own w' base v xs :=
  World.ownsRow.kept h hg (by
    cases hv : v.ownBlock with
    | none => exact Or.inl rfl
    | some k => exact Or.inr (hne k hv))

theorem Own.lt {w : World} {base : Nat} {v : Value} {xs : List Int} (h : Own w base v xs) : ∀ k, v.ownBlock = some k → base ≤ k ∧ k < w.heap.size := World.ownsRow.lt h

theorem Below.drewSelf (B : Nat) (w : World) (n : Nat) : Below B w (w.drewN n) := ⟨rfl, rfl, rfl, Nat.le_refl _, fun _ _ => rfl⟩

/-- A byte's cell. -/
theorem Bs.cellAt {w : World} {b off n cap : Nat} {zs : List Int} (h : Bs w (.slice (some ⟨b, off, none⟩) n cap) zs) {k : Nat} (hk : k < zs.length) :
    w.cell? ⟨b, off + k, none⟩ = some (.int .u8 (zs.getD k 0)) := by
  obtain ⟨hb, ao, cap, e, hl, hm, hn, hc⟩ := h
  simp only [Value.slice.injEq] at e
  obtain ⟨rfl, -, -⟩ := e
  obtain ⟨b', off', e, hc⟩ := hc (by intro h0; rw [h0] at hk; simp at hk)
  simp only [Option.some.injEq, Addr.mk.injEq, and_true] at e
  obtain ⟨rfl, rfl⟩ := e
  exact hc k hk

/-- The value of a slice that reads something. -/
theorem Bs.addr {w : World} {v : Value} {zs : List Int} (h : Bs w v zs) (hne : 0 < zs.length) :
    ∃ b off cap, v = .slice (some ⟨b, off, none⟩) zs.length cap ∧ zs.length ≤ cap ∧ cap ≤ maxLen := by
  obtain ⟨hb, ao, cap, rfl, hl, hm, hn, hc⟩ := h
  obtain ⟨b, off, rfl, _⟩ := hc (by intro h0; rw [h0] at hne; simp at hne)
  exact ⟨b, off, cap, rfl, hl, hm⟩

/-- A part of a slice. -/
theorem Bs.part {w : World} {b off n cap p m : Nat} {zs : List Int} (h : Bs w (.slice (some ⟨b, off, none⟩) n cap) zs) (hm : p + m ≤ zs.length) (hp : n ≤ cap) (hc : cap ≤ maxLen) (hn : n = zs.length) :
    Bs w (.slice (some ⟨b, off + p, none⟩) m (cap - p)) ((zs.drop p).take m) := by
  have hl : ((zs.drop p).take m).length = m := by simp; omega
  refine ⟨(h.1.drop p).take m, _, cap - p, by rw [hl], by rw [hl]; omega, by omega, fun h => by simp at h, fun _ => ⟨b, off + p, rfl, fun i hi => ?_⟩⟩
  rw [hl] at hi
  rw [Nat.add_assoc, h.cellAt (by omega)]
  simp [List.getD, hi]

theorem Bs.nil (w : World) : Bs w (.slice none 0 0) [] := ⟨by intro z hz; simp at hz, none, 0, rfl, by simp, by simp, fun _ => rfl, fun h => absurd rfl h⟩

end Go.Proofs.YtgigalcajgjpnaaGreat
