/- Nodes marked by the laws: nothing but their own block turns. Slices of numbers whose block stays as it was. The machine of an expression: NfaOf of the model. The machine of an expression is right, and matches just what the expression does. The program's array of nodes: where they lie, and what lays one. The program's array of nodes: a node that goes on behind itself, and a fork. -/
import Derived.Test.YtkdjkkldnidmjaaGreatDoorNodeTo
import Derived.Test.YtkdjkkldnidmjaaGreatDoorMarkT
import Derived.Test.YtkdjkkldnidmjaaGreatDoorPk1
import Derived.Test.YtkdjkkldnidmjaaGreatDoorPk3
import Derived.Test.YtkdjkkldnidmjaaGreatDoorTake
import Derived.Test.YtkdjkkldnidmjaaGreatDoorNfaSound
import Derived.Test.YtkdjkkldnidmjaaGreatDoorPk2
import Derived.Test.YtkdjkkldnidmjaaGreatDoorNfaLay
import Derived.Test.YtkdjkkldnidmjaaGreatDoorTxtClone
namespace Go.Proofs.YtkdjkkldnidmjaaGreatDoor
open Go.RowKit
set_option maxRecDepth 8000

theorem ndCells_k : ∀ (L : List Nd) (i : Nat) (x : Int) (h : i < L.length), (ndCells L).set (i * 4) (.int .i64 x) = ndCells (L.set i { L[i] with k := x })
  | y :: r, 0, x, _ => rfl
  | y :: r, i + 1, x, h => by
    have ih := ndCells_k r i x (by simpa using h)
    rw [show (i + 1) * 4 = i * 4 + 4 by omega]
    simp only [ndCells, List.set_cons_succ, List.getElem_cons_succ]
    rw [ih]
theorem ndCells_s : ∀ (L : List Nd) (i : Nat) (x : ByteArray) (h : i < L.length), (ndCells L).set (i * 4 + 1) (.string x) = ndCells (L.set i { L[i] with s := x })
  | y :: r, 0, x, _ => rfl
  | y :: r, i + 1, x, h => by
    have ih := ndCells_s r i x (by simpa using h)
    rw [show (i + 1) * 4 + 1 = i * 4 + 1 + 4 by omega]
    simp only [ndCells, List.set_cons_succ, List.getElem_cons_succ]
    rw [ih]
theorem ndCells_a : ∀ (L : List Nd) (i : Nat) (x : Int) (h : i < L.length), (ndCells L).set (i * 4 + 2) (.int .i64 x) = ndCells (L.set i { L[i] with a := x })
  | y :: r, 0, x, _ => rfl
  | y :: r, i + 1, x, h => by
    have ih := ndCells_a r i x (by simpa using h)
    rw [show (i + 1) * 4 + 2 = i * 4 + 2 + 4 by omega]
    simp only [ndCells, List.set_cons_succ, List.getElem_cons_succ]
    rw [ih]
theorem ndCells_b : ∀ (L : List Nd) (i : Nat) (x : Int) (h : i < L.length), (ndCells L).set (i * 4 + 3) (.int .i64 x) = ndCells (L.set i { L[i] with b := x })
  | y :: r, 0, x, _ => rfl
  | y :: r, i + 1, x, h => by
    have ih := ndCells_b r i x (by simpa using h)
    rw [show (i + 1) * 4 + 3 = i * 4 + 3 + 4 by omega]
    simp only [ndCells, List.set_cons_succ, List.getElem_cons_succ]
    rw [ih]
/-- A block of that many nodes, whatever they are. -/
def NBn (w : World) (g n : Nat) : Prop := ∃ M, NB w g M ∧ M.length = n
theorem NBn.kept {w w' : World} {g n : Nat} (h : NBn w g n) (hh : w'.heap[g]? = w.heap[g]?) : NBn w' g n := by
  obtain ⟨M, h1, h2⟩ := h
  exact ⟨M, h1.kept hh, h2⟩
theorem NBn.at4 {w : World} {g n : Nat} (h : NBn w g n) {i : Nat} (hi : i < n) : ∃ x : Nd, At4 w g (i * 4) x := by
  obtain ⟨M, h1, rfl⟩ := h
  exact ⟨_, h1.at4 hi⟩
theorem NBn.fr {w : World} {g n : Nat} (h : NBn w g n) (o : Nat) : w.frozen? ⟨g, o, none⟩ = false := by
  obtain ⟨M, h1, rfl⟩ := h
  exact h1.fr o
theorem NBn.stK {w : World} {g n i : Nat} (h : NBn w g n) (hi : i < n) (x : Int) : NBn (w.setCell ⟨g, i * 4, none⟩ (.int .i64 x)) g n := by
  obtain ⟨M, h1, rfl⟩ := h
  refine ⟨M.set i { M[i] with k := x }, ?_, by simp⟩
  unfold NB
  rw [heap_setCell_same w g (i * 4) _ _ _ h1, ← ndCells_k M i x hi]
  simp only [List.setIfInBounds_toArray]
theorem NBn.stS {w : World} {g n i : Nat} (h : NBn w g n) (hi : i < n) (x : ByteArray) : NBn (w.setCell ⟨g, i * 4 + 1, none⟩ (.string x)) g n := by
  obtain ⟨M, h1, rfl⟩ := h
  refine ⟨M.set i { M[i] with s := x }, ?_, by simp⟩
  unfold NB
  rw [heap_setCell_same w g (i * 4 + 1) _ _ _ h1, ← ndCells_s M i x hi]
  simp only [List.setIfInBounds_toArray]
theorem NBn.stA {w : World} {g n i : Nat} (h : NBn w g n) (hi : i < n) (x : Int) : NBn (w.setCell ⟨g, i * 4 + 2, none⟩ (.int .i64 x)) g n := by
  obtain ⟨M, h1, rfl⟩ := h
  refine ⟨M.set i { M[i] with a := x }, ?_, by simp⟩
  unfold NB
  rw [heap_setCell_same w g (i * 4 + 2) _ _ _ h1, ← ndCells_a M i x hi]
  simp only [List.setIfInBounds_toArray]
theorem NBn.stB {w : World} {g n i : Nat} (h : NBn w g n) (hi : i < n) (x : Int) : NBn (w.setCell ⟨g, i * 4 + 3, none⟩ (.int .i64 x)) g n := by
  obtain ⟨M, h1, rfl⟩ := h
  refine ⟨M.set i { M[i] with b := x }, ?_, by simp⟩
  unfold NB
  rw [heap_setCell_same w g (i * 4 + 3) _ _ _ h1, ← ndCells_b M i x hi]
  simp only [List.setIfInBounds_toArray]
theorem NBn.lt {w : World} {g n : Nat} (h : NBn w g n) : g < w.heap.size := by
  obtain ⟨M, h1, rfl⟩ := h
  exact h1.lt

/-- What marks leave: all but the block g is as it was. -/
structure Mkd (g : Nat) (w w' : World) : Prop where
  os : w'.os = w.os
  tape : w'.tape = w.tape
  output : w'.output = w.output
  size : w.heap.size ≤ w'.heap.size
  block : ∀ b, b < w.heap.size → b ≠ g → w'.heap[b]? = w.heap[b]?
theorem Mkd.refl (g : Nat) (w : World) : Mkd g w w := ⟨rfl, rfl, rfl, Nat.le_refl _, fun _ _ _ => rfl⟩
theorem Mkd.trans {g : Nat} {a b c : World} (h : Mkd g a b) (k : Mkd g b c) : Mkd g a c :=
  ⟨k.os.trans h.os, k.tape.trans h.tape, k.output.trans h.output, Nat.le_trans h.size k.size, fun x hx hn => (k.block x (Nat.lt_of_lt_of_le hx h.size) hn).trans (h.block x hx hn)⟩
theorem Mkd.below {g : Nat} {a b : World} (h : Below a.heap.size a b) : Mkd g a b := ⟨h.os, h.tape, h.output, h.size, fun x hx _ => h.block x hx⟩
theorem Mkd.set {g o : Nat} {a b : World} (h : Mkd g a b) (v : Value) : Mkd g a (b.setCell ⟨g, o, none⟩ v) := by
  have q : Below g b (b.setCell ⟨g, o, none⟩ v) := (Below.refl g b).setCell (p := ⟨g, o, none⟩) (Nat.le_refl g) v
  exact ⟨q.os.trans h.os, q.tape.trans h.tape, q.output.trans h.output, Nat.le_trans h.size q.size, fun x hx hn => by rw [heap_setCell_other _ ⟨g, o, none⟩ x _ hn]; exact h.block x hx hn⟩
theorem Mkd.low {g n : Nat} {a b : World} (h : Mkd g a b) (hn : n ≤ g) (hs : n ≤ a.heap.size) : Below n a b := ⟨h.os, h.tape, h.output, h.size, fun x hx => h.block x (by omega) (by omega)⟩

end Go.Proofs.YtkdjkkldnidmjaaGreatDoor

namespace Go.Proofs.YtkdjkkldnidmjaaGreatDoor
open Go.RowKit

/-- A slice that reads these numbers, its block (where there are any) below N. -/
def IzN (w : World) (N : Nat) (v : Value) (xs : List Int) : Prop := Iz w v xs ∧ (xs ≠ [] → ∀ b off len cap, v = .slice (some ⟨b, off, none⟩) len cap → b < N)
theorem IzN.of {w : World} {v : Value} {xs : List Int} (h : Iz w v xs) : IzN w w.heap.size v xs := by
  refine ⟨h, fun hn b off len cap e => ?_⟩
  obtain ⟨ao, cap', rfl, _, _, _, h5⟩ := h
  obtain ⟨b', off', rfl, h7⟩ := h5 hn
  simp only [Value.slice.injEq, Option.some.injEq, Addr.mk.injEq, and_true] at e
  obtain ⟨⟨rfl, rfl⟩, _⟩ := e
  exact World.block_lt_of_cell? w _ (h7 0 (List.length_pos_iff.2 hn))
theorem IzN.keep {w w' : World} {N : Nat} {v : Value} {xs : List Int} (h : IzN w N v xs) (hk : ∀ b, b < N → w'.heap[b]? = w.heap[b]?) : IzN w' N v xs := by
  obtain ⟨⟨ao, cap, h1, h2, h3, h4, h5⟩, h6⟩ := h
  refine ⟨⟨ao, cap, h1, h2, h3, h4, fun hn => ?_⟩, h6⟩
  obtain ⟨b, off, rfl, h7⟩ := h5 hn
  refine ⟨b, off, rfl, fun k hk' => ?_⟩
  rw [World.cell?_of_block (w := w) (hk b (h6 hn _ _ _ _ h1))]
  exact h7 k hk'
/-- Where it lies. -/
theorem OwnZ.lies {w : World} {base : Nat} {v : Value} {xs : List Int} (h : OwnZ w base v xs) : ∀ g, v.ownBlock = some g → base ≤ g ∧ g < w.heap.size := by
  intro g hg
  rcases h.2 with ⟨rfl, _⟩ | ⟨g', cap, cur, rfl, hb, hgb, _⟩
  · simp [Value.ownBlock] at hg
  · obtain rfl : g' = g := by simpa [Value.ownBlock] using hg
    exact ⟨hb, (Array.getElem?_eq_some_iff.1 hgb).1⟩
theorem OwnZ.keep {w w' : World} {base : Nat} {v : Value} {xs : List Int} (h : OwnZ w base v xs) (hk : ∀ g, base ≤ g → g < w.heap.size → w'.heap[g]? = w.heap[g]?) : OwnZ w' base v xs := by
  rcases h.2 with ⟨rfl, h0⟩ | ⟨g, cap, cur, rfl, hb, hg, rest⟩
  · exact ⟨h.1, .inl ⟨rfl, h0⟩⟩
  · exact ⟨h.1, .inr ⟨g, cap, cur, rfl, hb, (hk g hb (Array.getElem?_eq_some_iff.1 hg).1).trans hg, rest⟩⟩
/-- A box with one value. -/
def Bx1 (w : World) (b : Nat) (t : TypeId) (x : Value) : Prop := w.heap[b]? = some (.cells #[x] t (0, 0))
theorem Bx1.c0 {w : World} {b : Nat} {t : TypeId} {x : Value} (h : Bx1 w b t x) : w.cell? ⟨b, 0, none⟩ = some x := by rw [cell_of_row w b 0 _ _ (0, 0) h]; rfl
theorem Bx1.lt {w : World} {b : Nat} {t : TypeId} {x : Value} (h : Bx1 w b t x) : b < w.heap.size := by unfold Bx1 at h; exact (Array.getElem?_eq_some_iff.1 h).1
theorem Bx1.new (w : World) (t : TypeId) (x : Value) : Bx1 (w.alloc (.cells #[x] t)) w.heap.size t x := heap_alloc_new w _
theorem Bx1.kept {w w' : World} {b : Nat} {t : TypeId} {x : Value} (h : Bx1 w b t x) (hh : w'.heap[b]? = w.heap[b]?) : Bx1 w' b t x := by unfold Bx1; rw [hh]; exact h
theorem Bx1.grow {w w' : World} {b : Nat} {t : TypeId} {x : Value} (h : Bx1 w b t x) (hk : Below w.heap.size w w') : Bx1 w' b t x := h.kept (hk.block b h.lt)
end Go.Proofs.YtkdjkkldnidmjaaGreatDoor

namespace Go.Proofs.YtkdjkkldnidmjaaGreatDoor
open Go.RowKit
set_option maxRecDepth 8000

def doneN : Nd := ⟨7, noS, 0, 0⟩
/-- The nodes of an expression's machine. -/
def nfN (t : Tr) : List Nd := if okR t = true then t.lay 0 ++ [doneN] else []
theorem nsz_cnt (t : Tr) : t.nsz + 2 ≤ 4 * t.cnt := by
  refine Tr.ind (P := fun t => t.nsz + 2 ≤ 4 * t.cnt) ?_ t
  intro t ih
  have hl : nszL t.l + 2 * t.l.length ≤ 4 * cntL t.l := by
    revert ih
    generalize t.l = l
    intro ih
    induction l with
    | nil => simp [nszL, cntL]
    | cons x r ihr =>
      have h1 := ih x (List.mem_cons_self ..)
      have h2 := ihr fun y hy => ih y (List.mem_cons_of_mem _ hy)
      simp only [nszL, cntL, List.length_cons]
      omega
  rw [cnt_eq, nsz_eq]
  split
  · omega
  · split
    · omega
    · split
      · omega
      · omega
theorem okR_tree {t : Tr} (h : okR t = true) : t.okT = true := by
  unfold okR at h
  rw [Bool.and_eq_true] at h
  exact h.2
theorem okR_nsz {t : Tr} (h : okR t = true) : t.nsz ≤ 238 := by
  unfold okR at h
  rw [Bool.and_eq_true] at h
  have h1 := ((parts_spec 6 t).1.1 (by simpa using h.1)).2
  have h2 := nsz_cnt t
  omega

theorem OwnN.nil (w : World) (base : Nat) : OwnN w base (.slice none 0 0) [] := ⟨rfl, .inl ⟨rfl, rfl⟩⟩

theorem Below.nign {w w1 w2 : World} {base : Nat} {o o' : Value} {L : List Nd} (h : Below base w w1) (ho : OwnN w1 base o L) (k : Nign w1 w2 o o') (hb : base ≤ w1.heap.size) : Below base w w2 :=
  h.grown k.1 hb fun g hg => (World.ownsRow.lt ho g hg).1

theorem OwnN.setLow {w : World} {base : Nat} {v : Value} {L : List Nd} (h : OwnN w base v L) {a : Addr} (ha : a.block < base) (x : Value) : OwnN (w.setCell a x) base v L := by
  refine ⟨h.1, ?_⟩
  rcases h.2 with h' | ⟨g, cap, cur, e, hb, hg, rest⟩
  · exact Or.inl h'
  · exact Or.inr ⟨g, cap, cur, e, hb, by rw [heap_setCell_other _ a g _ (by omega)]; exact hg, rest⟩
theorem Bx1.put {w : World} {b : Nat} {t : TypeId} {x : Value} (h : Bx1 w b t x) (y : Value) : Bx1 (w.setCell ⟨b, 0, none⟩ y) b t y := by
  unfold Bx1
  rw [heap_setCell_same w b 0 _ _ y h]
  rfl

set_option maxHeartbeats 2000000 in
theorem specNfaOf_any (t : Tr) (B : Nat → Prop) (v : Value) (w : World) (h : Rl w B t.l v) (hs : t.s.size ≤ maxLen) :
    Calls Tryz.prog 11 #[rx t.k t.s v] w fun e w' => ∃ u, e = .returned (.agg #[u]) ∧ OwnN w' w.heap.size u (nfN t) ∧ Below w.heap.size w w' := by
  have HC := Hid.mk (fun (w' : World) (hb : Below w.heap.size w w') => specRexOk_any t B v w' (h.grow hb) hs)
  have HL : Hid (∀ (w1 : World), Below w.heap.size w w1 → ∀ (w' : World) (o : Value), Below w1.heap.size w1 w' → OwnN w' w1.heap.size o [] → okR t = true → Calls Tryz.prog 26 #[o, rx t.k t.s v] w' fun e w'' => ∃ o', e = .returned o' ∧ OwnN w'' w1.heap.size o' (t.lay 0) ∧ Nign w' w'' o o') := fun w1 h1 w' o hb ho hk => by
    have h2 := okR_nsz hk
    have hb2 := h1.trans (hb.mono h1.size)
    exact l5Lay_any t (fun b => b < w.heap.size) v o w1.heap.size [] w' (((h.imp (C := fun b => b < w.heap.size) fun _ _ hb => hb)).kept fun b hb' _ => hb2.block b hb') (fun b h => by have := h1.size; omega) hb.size ho hs (okR_tree hk) (by simp; omega)
  have HE : Hid (okR t = true → nfN t = t.lay 0 ++ [doneN]) := fun h => by unfold nfN; rw [if_pos h]
  have HE2 : Hid (okR t = false → nfN t = []) := fun h => by unfold nfN; rw [h]; rfl
  have HN : Hid (okR t = true → (t.lay 0).length ≤ 238) := fun h => by rw [lay_len t (okR_tree h)]; exact okR_nsz h
  generalize nfN t = R at *
  generalize t.lay 0 = Y at *
  obtain ⟨o, ho⟩ : ∃ o, okR t = o := ⟨_, rfl⟩
  obtain ⟨k, hk⟩ : ∃ k, t.k = k := ⟨_, rfl⟩
  obtain ⟨s, hsn⟩ : ∃ s, t.s = s := ⟨_, rfl⟩
  rw [hk, hsn, ho] at HC HL
  rw [ho] at HE HE2 HN
  rw [hk, hsn]
  obtain ⟨ao, cap, rfl, hl1, hl2, hl3⟩ := h.len
  generalize t.l.length = tl at *
  have X0 := Hid.mk ((Bz3.new w (.int .i64 k) (.string s) (.slice ao tl cap)).grow ((Below.refl (w.alloc (.cells #[.int .i64 k, .string s, .slice ao tl cap] 26)).heap.size _).alloc (Nat.le_refl _) (.cells #[.slice none 0 0] 31)))
  have Y0 := Hid.mk (Bx1.new (w.alloc (.cells #[.int .i64 k, .string s, .slice ao tl cap] 26)) 31 (.slice none 0 0))
  rw [World.size_alloc] at Y0
  have B0 : Below w.heap.size w ((w.alloc (.cells #[.int .i64 k, .string s, .slice ao tl cap] 26)).alloc (.cells #[.slice none 0 0] 31)) := ((Below.refl _ _).alloc (Nat.le_refl _) _).alloc (by simp) _
  clear h hk hsn ho hl2 hs
  cases o with
  | false =>
    have HR := Hid.mk (HE2.out rfl)
    clear HL HE HN HE2
    go_enter Tryz.func11, Tryz.ntmps11
    go_wp2_with fail
    refine (HC.out _ B0).mono ?_
    rintro e w1 ⟨rfl, hb1⟩
    have B1 := B0.trans (hb1.mono (by simp; omega))
    have Y1 := Hid.mk (Y0.out.grow hb1)
    have y1 := Y1.out.c0
    have f1 := frozen_of_row w1 _ 0 _ _ Y1.out
    have hlt1 := Y1.out.lt
    clear B0 hb1 HC X0 Y0
    go_wp2
    refine bodyPost_ret (v := .agg #[.slice none 0 0]) ?_ rfl ⟨_, rfl, ?_, ?_⟩
    · have z1 := (Y1.out.put (.slice none 0 0)).c0
      simp [results, Tryz.results11, go_sem, z1]
    · rw [HR.out]; exact OwnN.nil _ _
    · exact B1.setCell (by simp) _
  | true =>
    have HR := Hid.mk (HE.out rfl)
    have hlen := HN.out rfl
    clear HE HN HE2
    go_enter Tryz.func11, Tryz.ntmps11
    go_wp2_with fail
    refine (HC.out _ B0).mono ?_
    rintro e w1 ⟨rfl, hb1⟩
    have B1 := B0.trans (hb1.mono (by simp; omega))
    have X1 := Hid.mk (X0.out.grow hb1)
    have hbh := Hid.mk hb1
    have hs1 := B1.size
    clear B0 hb1 HC X0
    have Y1 := Hid.mk (Y0.out.grow hbh.out)
    have HL := Hid.mk (HL.out w1 B1)
    clear Y0 hbh
    have b2 : Hid (Below w1.heap.size w1 (w1.alloc (.cells #[] 43))) := (Below.refl _ _).alloc (Nat.le_refl _) _
    have O2 : Hid (OwnN (w1.alloc (.cells #[] 43)) w1.heap.size (.slice (some ⟨w1.heap.size, 0, none⟩) 0 0) []) := World.ownsRow_lit w1 #[] 0 (Nat.le_refl _) (by decide) rfl
    have X2 := Hid.mk (X1.out.grow b2.out)
    have x0 := X2.out.c0
    have x1 := X2.out.c1
    have x2 := X2.out.c2
    have hx := X1.out.lt
    have HL2 := Hid.mk (HL.out _ _ b2.out O2.out trivial)
    clear HL
    go_wp2_with fail
    refine HL2.out.mono ?_
    rintro e w3 ⟨o3, rfl, ho3, hn3⟩
    have b3 := Hid.mk (Below.nign b2.out O2.out hn3 (by simp))
    have hs3 := b3.out.size
    have O3 := Hid.mk ho3
    obtain ⟨oa, oc, hov, hoc⟩ := ho3.lenV
    subst hov
    clear HL2 ho3 hn3 b2 O2 x0 x1 x2 X1 X2
    generalize hY : Y.length = yl at *
    have HY := Hid.mk hY
    clear hY
    have HN1 : Hid ((w3.alloc (.cells #[.int .i64 7, .string ⟨#[]⟩, .int .i64 0, .int .i64 0] 43)).heap[w3.heap.size]? = some (.cells #[.int .i64 7, .string ⟨#[]⟩, .int .i64 0, .int .i64 0] 43 (0, 0))) := heap_alloc_new _ _
    have BA : Hid (Below w1.heap.size w1 (w3.alloc (.cells #[.int .i64 7, .string ⟨#[]⟩, .int .i64 0, .int .i64 0] 43))) := b3.out.alloc hs3 _
    have HO1 := Hid.mk (O3.out.grow ((Below.refl w3.heap.size w3).alloc (Nat.le_refl _) (.cells #[.int .i64 7, .string ⟨#[]⟩, .int .i64 0, .int .i64 0] 43)))
    go_wp2_with (at_builtin; refine wpList_append_n (w0 := w1) rfl _ _ rfl w1.heap.size _ Y doneN rfl HO1.out _ rfl HN1.out BA.out (by simp; omega) (by rw [HY.out]; omega) ?_)
    intro v4 w4 hown4 hbel4 hq hn4
    have O4 := Hid.mk hown4
    have Y4 := Hid.mk (Y1.out.grow hbel4)
    have Q4 := Hid.mk hbel4
    have y4 := Y4.out.c0
    have f4 := frozen_of_row w4 _ 0 _ _ Y4.out
    obtain ⟨va, vc, hv4, -⟩ := hown4.lenV
    subst hv4
    have hb1 := Y1.out.lt
    clear hown4 hbel4 hq hn4 HN1 BA HO1 O3 b3 Y1
    go_wp2
    have z1 := (Y4.out.put (.slice va (Y ++ [doneN]).length vc)).c0
    refine bodyPost_ret (v := .agg #[.slice va (Y ++ [doneN]).length vc]) ?_ rfl ⟨_, rfl, ?_, ?_⟩
    · simp [results, Tryz.results11, go_sem]
      simp at z1
      simp [z1, go_sem]
    · rw [HR.out]; exact (OwnN.setLow O4.out hb1 _).mono (by omega)
    · exact (B1.trans (Q4.out.mono (by omega))).setCell (by simp) _
end Go.Proofs.YtkdjkkldnidmjaaGreatDoor

namespace Go.Proofs.YtkdjkkldnidmjaaGreatDoor
open Go.RowKit
set_option maxRecDepth 8000

theorem mem_mkL {M : Nat → Bool} {n : Nat} {z : Int} : z ∈ mkL M n ↔ ∃ j, j < n ∧ M j = true ∧ z = (j : Int) := by
  unfold mkL
  rw [List.mem_map]
  constructor
  · rintro ⟨j, hj, rfl⟩
    rw [List.mem_filter, List.mem_range] at hj
    exact ⟨j, hj.1, hj.2, rfl⟩
  · rintro ⟨j, h1, h2, rfl⟩
    exact ⟨j, List.mem_filter.2 ⟨List.mem_range.2 h1, h2⟩, rfl⟩
theorem mem_rchL {N : List Nd} {b e : Bool} {S : Nat → Prop} {j : Nat} : (j : Int) ∈ rchL N b e S ↔ j < N.length ∧ Rch N b e S j := by
  unfold rchL
  rw [mem_mkL]
  constructor
  · rintro ⟨q, h1, h2, h3⟩
    obtain rfl : j = q := by omega
    exact ⟨h1, by simpa using h2⟩
  · rintro ⟨h1, h2⟩
    exact ⟨j, h1, by simpa using h2, rfl⟩
theorem mem_runL {N : List Nd} {s : ByteArray} {i j : Nat} : (j : Int) ∈ runL N s i ↔ j < N.length ∧ Rch N ((i : Int) == 0) ((i : Int) == (s.size : Int)) (seedS N (goOn N s (runL N s) i)) j := by
  rw [runL_eq]
  exact mem_rchL
theorem run_zero {N : List Nd} {s : ByteArray} (hN : 0 < N.length) (i : Nat) : ((0 : Nat) : Int) ∈ runL N s i := mem_runL.2 ⟨hN, .start ⟨.inr rfl, hN⟩⟩
theorem ep_fol {N : List Nd} {s : ByteArray} {i p q : Nat} (h : Ep N (i = 0) (i = s.size) p q) : (q : Int) ∈ fol ((i : Int) == 0) ((i : Int) == (s.size : Int)) (ndAt N p) := by
  obtain ⟨x, hx, h⟩ := h
  have e : ndAt N p = x := by simp [ndAt, List.getD, hx]
  rw [e]
  unfold fol
  rcases h with ⟨h1, h2⟩ | ⟨h1, h2, h3⟩ | ⟨h1, h2, h3⟩
  · rw [if_pos h1]
    rcases h2 with h2 | h2 <;> simp [h2]
  · rw [if_neg (by omega), if_pos (.inl ⟨h1, by simp [h2]⟩)]
    simp [h3]
  · rw [if_neg (by omega), if_pos (.inr ⟨h1, by simp [h2]⟩)]
    simp [h3]
theorem fol_ep {N : List Nd} {s : ByteArray} {i p q : Nat} (hp : p < N.length) (h : (q : Int) ∈ fol ((i : Int) == 0) ((i : Int) == (s.size : Int)) (ndAt N p)) : Ep N (i = 0) (i = s.size) p q := by
  rw [ndAt_eq hp] at h
  refine ⟨N[p], List.getElem?_eq_getElem hp, ?_⟩
  unfold fol at h
  split at h
  · rename_i h4
    refine .inl ⟨h4, ?_⟩
    simp at h
    rcases h with h | h
    · exact .inl h.symm
    · exact .inr h.symm
  · split at h
    · rename_i h5
      simp at h
      rcases h5 with ⟨h5, h6⟩ | ⟨h5, h6⟩
      · exact .inr (.inl ⟨h5, by simp at h6; omega, h.symm⟩)
      · exact .inr (.inr ⟨h5, by simp at h6; omega, h.symm⟩)
    · cases h
theorem tk_eq (x : Nd) (c : Int) : tkNd x c = tkN x c := by
  unfold tkNd tkN tkI hasB
  rw [any_txt, List.any_beq']
theorem run_byte {N : List Nd} {s : ByteArray} {i p q : Nat} (h : (p : Int) ∈ runL N s i) {x : Nd} (hx : N[p]? = some x) (ht : tkN x (ba s i) = true) (hq : x.a = q) (hqN : q < N.length) : (q : Int) ∈ runL N s (i + 1) := by
  refine mem_runL.2 ⟨hqN, .start ⟨.inl ?_, hqN⟩⟩
  obtain ⟨m, hm, he⟩ := List.getElem_of_mem h
  have e : ndAt N ((runL N s i)[m]).toNat = x := by rw [he]; simp [ndAt, List.getD, hx]
  exact ⟨m, hm, hm, by rw [e, tk_eq]; exact ht, by rw [e]; exact hq⟩
/-- Where a path leads is reached. -/
theorem run_path {N : List Nd} {s : ByteArray} (hok : okNfa N = true) {i p j q : Nat} (hp : Pa N s i p j q) : (p : Int) ∈ runL N s i → (q : Int) ∈ runL N s j := by
  induction hp with
  | refl i p => exact id
  | @step i p j q j' q' hs _ ih =>
    intro h
    apply ih
    have hpN := (mem_runL.1 h).1
    rcases hs with ⟨rfl, he⟩ | ⟨rfl, hi, x, hx, ht, hq⟩
    · have hf := ep_fol he
      have := fol_in hok hpN hf
      exact mem_runL.2 ⟨by omega, .step (mem_runL.1 h).2 hf⟩
    · have hxx : N[p] = x := by rw [List.getElem?_eq_getElem hpN] at hx; exact Option.some.inj hx
      have hn := okNfa_node hok hpN
      rw [hxx] at hn
      have hqN : q < N.length := by
        have hk : x.k = 1 ∨ x.k = 2 ∨ x.k = 3 := by
          unfold tkN tkI at ht
          rw [Bool.or_eq_true, Bool.and_eq_true, Bool.or_eq_true] at ht
          rcases ht with h | ⟨h | h, _⟩
          · exact .inr (.inl (by simpa using h))
          · exact .inl (by simpa using h)
          · exact .inr (.inr (by simpa using h))
        unfold okNd at hn
        have hpl : plB x.a N.length = true := by
          rcases hk with hk | hk | hk
          · rw [if_pos hk] at hn; simp only [Bool.and_eq_true] at hn; exact hn.1.2
          · rw [if_neg (by omega), if_neg (by omega), if_pos (.inl hk)] at hn; simp only [Bool.and_eq_true] at hn; exact hn.1.2
          · rw [if_neg (by omega), if_pos hk] at hn; simp only [Bool.and_eq_true] at hn; exact hn.1.2
        unfold plB at hpl
        simp at hpl
        omega
      exact run_byte h hx ht hq hqN
/-- What is reached a path leads to. -/
theorem path_run {N : List Nd} {s : ByteArray} : ∀ i, i ≤ s.size → ∀ q : Nat, (q : Int) ∈ runL N s i → ∃ i0, i0 ≤ i ∧ Pa N s i0 0 i q := by
  intro i
  induction i with
  | zero =>
    intro _ q h
    have hr := (mem_runL.1 h).2
    have key : ∀ {j}, Rch N (((0 : Nat) : Int) == 0) (((0 : Nat) : Int) == (s.size : Int)) (seedS N (goOn N s (runL N s) 0)) j → j < N.length → ∃ i0, i0 ≤ 0 ∧ Pa N s i0 0 0 j := by
      intro j hr
      induction hr with
      | start hs =>
        intro _
        rcases hs.1 with hs | rfl
        · exact hs.elim
        · exact ⟨0, Nat.le_refl _, .refl _ _⟩
      | @step p q hp hf ih =>
        intro _
        have hpN : p < N.length := by
          rcases Nat.lt_or_ge p N.length with h | h
          · exact h
          · exfalso
            have e : ndAt N p = default := by simp [ndAt, List.getD, h]
            rw [e] at hf
            unfold fol at hf
            rw [if_neg (by decide), if_neg (by rintro (⟨h, _⟩ | ⟨h, _⟩) <;> exact absurd h (by decide))] at hf
            cases hf
        obtain ⟨i0, h0, hpa⟩ := ih hpN
        exact ⟨i0, h0, hpa.trans (Pa.one (.inl ⟨rfl, fol_ep hpN hf⟩))⟩
    exact key hr (mem_runL.1 h).1
  | succ i ih =>
    intro hi q h
    have hr := (mem_runL.1 h).2
    have key : ∀ {j}, Rch N (((i + 1 : Nat) : Int) == 0) (((i + 1 : Nat) : Int) == (s.size : Int)) (seedS N (goOn N s (runL N s) (i + 1))) j → j < N.length → ∃ i0, i0 ≤ i + 1 ∧ Pa N s i0 0 (i + 1) j := by
      intro j hr
      induction hr with
      | @start j hs =>
        intro _
        rcases hs.1 with hs | rfl
        · obtain ⟨m, _, hm, ht, ha⟩ := hs
          have hin := runL_in N s i _ (List.getElem_mem hm)
          obtain ⟨p, hp⟩ : ∃ p : Nat, (runL N s i)[m] = (p : Int) := ⟨((runL N s i)[m]).toNat, by omega⟩
          have hmem : (p : Int) ∈ runL N s i := by rw [← hp]; exact List.getElem_mem hm
          obtain ⟨i0, h0, hpa⟩ := ih (by omega) p hmem
          have hpN : p < N.length := (mem_runL.1 hmem).1
          rw [hp, Int.toNat_natCast, ndAt_eq hpN] at ht ha
          refine ⟨i0, by omega, hpa.trans (Pa.one (.inr ⟨rfl, by omega, N[p], List.getElem?_eq_getElem hpN, ?_, ha⟩))⟩
          rw [← tk_eq]
          exact ht
        · exact ⟨i + 1, Nat.le_refl _, .refl _ _⟩
      | @step p q hp hf ih2 =>
        intro _
        have hpN : p < N.length := by
          rcases Nat.lt_or_ge p N.length with h | h
          · exact h
          · exfalso
            have e : ndAt N p = default := by simp [ndAt, List.getD, h]
            rw [e] at hf
            unfold fol at hf
            rw [if_neg (by decide), if_neg (by rintro (⟨h, _⟩ | ⟨h, _⟩) <;> exact absurd h (by decide))] at hf
            cases hf
        obtain ⟨i0, h0, hpa⟩ := ih2 hpN
        exact ⟨i0, h0, hpa.trans (Pa.one (.inl ⟨rfl, fol_ep hpN hf⟩))⟩
    exact key hr (mem_runL.1 h).1

/-- A node of a machine of n, not the last one. -/
def Gd (n : Nat) (x : Nd) : Prop := okNd x n = true ∧ x.k ≠ 7
theorem gd_split {n a b : Nat} (ha : a < n) (hb : b < n) : Gd n (split a b) := by
  refine ⟨?_, by show (4 : Int) ≠ 7; decide⟩
  have e : (noS : ByteArray).size = 0 := rfl
  simp [okNd, split, plB, e]
  omega
theorem gd_none {n a : Nat} (k : Int) (hk : k = 2 ∨ k = 5 ∨ k = 6) (ha : a < n) : Gd n ⟨k, noS, (a : Nat), 0⟩ := by
  have e : (noS : ByteArray).size = 0 := rfl
  refine ⟨?_, by show k ≠ 7; omega⟩
  unfold okNd
  rw [if_neg (by show k ≠ 1; omega), if_neg (by show k ≠ 3; omega), if_pos hk]
  simp [plB, e]
  omega
theorem lay_good (n : Nat) (t : Tr) : t.okT = true → ∀ p, p + t.nsz < n → ∀ x ∈ t.lay p, Gd n x := by
  refine Tr.ind (P := fun t => t.okT = true → ∀ p, p + t.nsz < n → ∀ x ∈ t.lay p, Gd n x) ?_ t
  intro t ih hok p hp x hx
  have hk := okT_kids hok
  have hL : ∀ (l : List Tr), (∀ y ∈ l, y ∈ t.l) → ∀ p, p + nszL l < n → ∀ x ∈ layL l p, Gd n x := by
    intro l
    induction l with
    | nil => intro _ p _ x hx; rw [layL] at hx; cases hx
    | cons y r ihr =>
      intro hm p hp x hx
      rw [nszL] at hp
      rw [layL, List.mem_append] at hx
      rcases hx with hx | hx
      · exact ih y (hm y (List.mem_cons_self ..)) (hk y (hm y (List.mem_cons_self ..))) p (by omega) x hx
      · exact ihr (fun z hz => hm z (List.mem_cons_of_mem _ hz)) _ (by omega) x hx
  have hA : ∀ (l : List Tr), (∀ y ∈ l, y ∈ t.l) → ∀ p q, p + (nszL l + 2 * (l.length - 1)) ≤ q → q < n → ∀ x ∈ layA l p q, Gd n x := by
    intro l
    induction l with
    | nil => intro _ p q _ _ x hx; rw [layA] at hx; cases hx
    | cons y r ihr =>
      intro hm p q hpq hq x hx
      have hy := ih y (hm y (List.mem_cons_self ..)) (hk y (hm y (List.mem_cons_self ..)))
      rw [nszL, List.length_cons] at hpq
      rw [layA] at hx
      split at hx
      · exact hy p (by omega) x hx
      · rename_i hr
        have hr1 : 1 ≤ r.length := by
          cases r with
          | nil => simp at hr
          | cons _ _ => simp
        rw [List.mem_cons, List.mem_append, List.mem_cons] at hx
        rcases hx with rfl | hx | rfl | hx
        · exact gd_split (by omega) (by omega)
        · exact hy _ (by omega) x hx
        · exact gd_split hq hq
        · exact ihr (fun z hz => hm z (List.mem_cons_of_mem _ hz)) _ _ (by omega) hq x hx
  have hnsz := nsz_eq t
  rw [lay_eq] at hx
  have hnode : t.k = 1 ∨ t.k = 3 → 1 ≤ t.s.size ∧ (t.k = 1 → t.s.size = 1) := by
    intro h
    rw [okT_eq, Bool.and_eq_true] at hok
    have h2 := hok.2
    unfold nodeB at h2
    rcases h with h | h
    · rw [if_pos h] at h2
      unfold setB at h2
      simp only [Bool.and_eq_true, decide_eq_true_eq] at h2
      omega
    · rw [if_neg (by omega), if_pos h] at h2
      unfold setB at h2
      simp only [Bool.and_eq_true, decide_eq_true_eq] at h2
      omega
  split at hx
  · rename_i h1
    obtain rfl := List.mem_singleton.1 hx
    rw [if_neg (by omega), if_neg (by omega), if_neg (by omega)] at hnsz
    have := (hnode (.inl h1)).2 h1
    refine ⟨?_, by show (1 : Int) ≠ 7; decide⟩
    simp [okNd, plB, this]
    omega
  split at hx
  · rename_i h2
    obtain rfl := List.mem_singleton.1 hx
    rw [if_neg (by omega), if_neg (by omega), if_neg (by omega)] at hnsz
    exact gd_none 2 (.inl rfl) (by omega)
  split at hx
  · rename_i h3
    obtain rfl := List.mem_singleton.1 hx
    rw [if_neg (by omega), if_neg (by omega), if_neg (by omega)] at hnsz
    have := (hnode (.inr h3)).1
    refine ⟨?_, by show (3 : Int) ≠ 7; decide⟩
    have hz : (t.s.size != 0) = true := by rw [bne_iff_ne]; omega
    have hpl : plB ((p + 1 : Nat) : Int) n = true := by unfold plB; simp; omega
    show ((t.s.size != 0) && plB ((p + 1 : Nat) : Int) n && decide ((0 : Int) = 0)) = true
    rw [hz, hpl]
    rfl
  split at hx
  · rename_i h4
    rw [if_pos (.inr h4)] at hnsz
    exact hL t.l (fun _ h => h) p (by omega) x hx
  split at hx
  · rename_i h5
    rw [if_neg (by omega), if_pos h5] at hnsz
    exact hA t.l (fun _ h => h) p _ (Nat.le_refl _) (by omega) x hx
  split at hx
  · rename_i h6
    rw [if_neg (by omega), if_neg (by omega), if_pos h6] at hnsz
    rw [List.mem_cons, List.mem_append, List.mem_singleton] at hx
    rcases hx with rfl | hx | rfl
    · exact gd_split (by omega) (by omega)
    · exact hL t.l (fun _ h => h) _ (by omega) x hx
    · exact gd_split (by omega) (by omega)
  split at hx
  · rename_i h7
    rw [if_neg (by omega), if_neg (by omega), if_neg (by omega)] at hnsz
    rw [List.mem_append, List.mem_singleton] at hx
    rcases hx with hx | rfl
    · exact hL t.l (fun _ h => h) _ (by omega) x hx
    · exact gd_split (by omega) (by omega)
  split at hx
  · rename_i h8
    rw [if_neg (by omega), if_neg (by omega), if_neg (by omega)] at hnsz
    rw [List.mem_cons] at hx
    rcases hx with rfl | hx
    · exact gd_split (by omega) (by omega)
    · exact hL t.l (fun _ h => h) _ (by omega) x hx
  split at hx
  · rename_i h10
    obtain rfl := List.mem_singleton.1 hx
    rw [if_neg (by omega), if_neg (by omega), if_neg (by omega)] at hnsz
    exact gd_none 5 (.inr (.inl rfl)) (by omega)
  split at hx
  · rename_i h11
    obtain rfl := List.mem_singleton.1 hx
    rw [if_neg (by omega), if_neg (by omega), if_neg (by omega)] at hnsz
    exact gd_none 6 (.inr (.inr rfl)) (by omega)
  · cases hx

theorem nfN_eq {t : Tr} (h : okR t = true) : nfN t = nfaL t := by unfold nfN; rw [if_pos h]; rfl
theorem nfN_ok {t : Tr} (h : okR t = true) : okNfa (nfN t) = true := by
  have hok := okR_tree h
  have hl := nfaL_len hok
  have hn := okR_nsz h
  rw [nfN_eq h]
  unfold okNfa
  have h1 : decide (1 ≤ (nfaL t).length) = true := by rw [hl]; simp
  have h2 : decide ((nfaL t).length ≤ 300) = true := by rw [hl]; simp; omega
  have h3 : ((nfaL t).getLast?.map Nd.k) = some 7 := by unfold nfaL; simp
  rw [h1, h2, decide_eq_true h3]
  simp only [Bool.true_and, List.all_eq_true]
  intro x hx
  rw [hl]
  unfold nfaL at hx
  rw [List.mem_append, List.mem_singleton] at hx
  rcases hx with hx | rfl
  · exact (lay_good _ t hok 0 (by omega) x hx).1
  · rfl
/-- It is over just at the last node. -/
theorem nfN_done {t : Tr} (h : okR t = true) (s : ByteArray) (i : Nat) : dnB (nfN t) (runL (nfN t) s i) = true ↔ ((t.nsz : Nat) : Int) ∈ runL (nfN t) s i := by
  have hok := okR_tree h
  have hl := nfaL_len hok
  rw [nfN_eq h]
  unfold dnB
  rw [List.any_eq_true]
  constructor
  · rintro ⟨z, hz, hk⟩
    have hin := runL_in (nfaL t) s i z hz
    obtain ⟨q, rfl⟩ : ∃ q : Nat, z = (q : Int) := ⟨z.toNat, by omega⟩
    rw [hl] at hin
    by_cases hq : q = t.nsz
    · rw [← hq]; exact hz
    · exfalso
      have hlt : q < (t.lay 0).length := by rw [lay_len t hok]; omega
      have e : (nfaL t).getD (q : Int).toNat default = (t.lay 0)[q] := by
        rw [Int.toNat_natCast]
        unfold nfaL
        rw [List.getD, List.getElem?_append_left hlt, List.getElem?_eq_getElem hlt]
        rfl
      rw [e] at hk
      exact (lay_good (t.nsz + 1) t hok 0 (by omega) _ (List.getElem_mem hlt)).2 (by simpa using hk)
  · intro hz
    refine ⟨_, hz, ?_⟩
    rw [Int.toNat_natCast, List.getD, nfaL_last hok]
    rfl
/-- The machine matches just where the expression ends somewhere. -/
theorem nfN_match {t : Tr} (h : okR t = true) (s : ByteArray) : mtB (nfN t) s = true ↔ ∃ i j, i ≤ j ∧ j ≤ s.size ∧ t.endM s i j = true := by
  have hok := okR_tree h
  have hl := nfaL_len hok
  have ho := nfN_ok h
  have e := nfN_eq h
  constructor
  · intro hm
    unfold mtB at hm
    rw [ho, Bool.true_and, List.any_eq_true] at hm
    obtain ⟨j, hj, hd⟩ := hm
    have hj' := List.mem_range.1 hj
    have := (nfN_done h s j).1 hd
    rw [e] at this
    obtain ⟨i, hi, hp⟩ := path_run j (by omega) t.nsz this
    exact ⟨i, j, hi, by omega, (nfa_paths hok s i j (by omega)).1 hp⟩
  · rintro ⟨i, j, hi, hj, hE⟩
    have hp := (nfa_paths hok s i j (by omega)).2 hE
    refine mtB_yes ho hj ((nfN_done h s j).2 ?_)
    rw [e]
    exact run_path (by rw [← e]; exact ho) hp (run_zero (by rw [hl]; omega) i)
end Go.Proofs.YtkdjkkldnidmjaaGreatDoor

namespace Go.Proofs.YtkdjkkldnidmjaaGreatDoor
open Go.RowKit
set_option maxRecDepth 8000

/-- The nodes, and the room behind them. -/
def padN (N : List Nd) : List Nd := N ++ List.replicate (300 - N.length) nd0
theorem padN_len {N : List Nd} (h : N.length ≤ 300) : (padN N).length = 300 := by simp [padN]; omega
/-- The cells of the array. -/
def arC (N : List Nd) : List Value := ndCells (padN N) ++ [.int .i64 (N.length : Int)]
/-- The block g is an array with these nodes. -/
def AB (w : World) (g : Nat) (N : List Nd) : Prop := w.heap[g]? = some (.cells (arC N).toArray 46 (0, 0)) ∧ N.length ≤ 300
theorem AB.lt {w : World} {g : Nat} {N : List Nd} (h : AB w g N) : g < w.heap.size := (Array.getElem?_eq_some_iff.1 h.1).1
theorem AB.kept {w w' : World} {g : Nat} {N : List Nd} (h : AB w g N) (hh : w'.heap[g]? = w.heap[g]?) : AB w' g N := ⟨by rw [hh]; exact h.1, h.2⟩
theorem AB.grow {w w' : World} {g : Nat} {N : List Nd} (h : AB w g N) (hb : Below w.heap.size w w') : AB w' g N := h.kept (hb.block g h.lt)
theorem AB.cnt {w : World} {g : Nat} {N : List Nd} (h : AB w g N) : w.cell? ⟨g, 1200, none⟩ = some (.int .i64 (N.length : Int)) := by
  rw [cell_of_row w g _ _ _ (0, 0) h.1, List.getElem?_toArray]
  unfold arC
  rw [List.getElem?_append_right (by rw [ndCells_len, padN_len h.2]; omega), ndCells_len, padN_len h.2]
  rfl
theorem AB.fr {w : World} {g : Nat} {N : List Nd} (h : AB w g N) (o : Nat) : w.frozen? ⟨g, o, none⟩ = false := frozen_of_row w g o _ _ h.1
theorem pad_set {N : List Nd} {i : Nat} (h : i < N.length) (x : Nd) : (padN N).set i x = padN (N.set i x) := by
  unfold padN
  rw [List.set_append_left _ _ h, List.length_set]
theorem pad_get {N : List Nd} {i : Nat} (h : i < N.length) (h' : i < (padN N).length) : (padN N)[i] = N[i] := by
  rw [List.getElem_of_eq (show padN N = N ++ List.replicate (300 - N.length) nd0 from rfl) h', List.getElem_append_left h]
theorem pad_next {N : List Nd} (h : N.length < 300) (x : Nd) : (padN N).set N.length x = padN (N ++ [x]) := by
  unfold padN
  rw [List.set_append_right _ _ (Nat.le_refl _), Nat.sub_self, List.length_append, List.length_singleton, show 300 - N.length = 300 - (N.length + 1) + 1 by omega, List.replicate_succ, List.set_cons_zero, List.append_assoc]
  rfl
theorem pad_room {N : List Nd} (h' : N.length < (padN N).length) : (padN N)[N.length] = nd0 := by
  rw [List.getElem_of_eq (show padN N = N ++ List.replicate (300 - N.length) nd0 from rfl) h', List.getElem_append_right (Nat.le_refl _), List.getElem_replicate]
theorem AB.at4p {w : World} {g : Nat} {N : List Nd} (h : AB w g N) {i : Nat} (hi : i < (padN N).length) : At4 w g (i * 4) (padN N)[i] := by
  obtain ⟨h0, h1, h2, h3⟩ := ndCells_get (padN N) i hi
  have hc := ndCells_len (padN N)
  have e : ∀ o, o < (ndCells (padN N)).length → (arC N)[o]? = (ndCells (padN N))[o]? := fun o ho => List.getElem?_append_left ho
  refine ⟨?_, ?_, ?_, ?_⟩ <;> rw [cell_of_row w g _ _ _ (0, 0) h.1, List.getElem?_toArray, e _ (by rw [hc]; omega)]
  · exact h0
  · exact h1
  · exact h2
  · exact h3
theorem AB.at4 {w : World} {g : Nat} {N : List Nd} (h : AB w g N) {i : Nat} (hi : i < N.length) : At4 w g (i * 4) N[i] := by
  have := h.at4p (i := i) (by rw [padN_len h.2]; have := h.2; omega)
  rwa [pad_get hi] at this
theorem AB.room {w : World} {g : Nat} {N : List Nd} (h : AB w g N) (hN : N.length < 300) : At4 w g (N.length * 4) nd0 := by
  have := h.at4p (i := N.length) (by rw [padN_len h.2]; exact hN)
  rwa [pad_room] at this
theorem arC_set {N : List Nd} (h : N.length ≤ 300) (o : Nat) (ho : o < 1200) (v : Value) : (arC N).set o v = (ndCells (padN N)).set o v ++ [.int .i64 (N.length : Int)] := by
  unfold arC
  rw [List.set_append_left _ _ (by rw [ndCells_len, padN_len h]; omega)]
theorem AB.setA {w : World} {g : Nat} {N : List Nd} (h : AB w g N) {i : Nat} (hi : i < N.length) (x : Int) : AB (w.setCell ⟨g, i * 4 + 2, none⟩ (.int .i64 x)) g (N.set i { N[i] with a := x }) := by
  have h3 := h.2
  have hl := padN_len h.2
  refine ⟨?_, by simpa using h.2⟩
  rw [heap_setCell_same w g (i * 4 + 2) _ _ _ h.1, List.setIfInBounds_toArray, arC_set h.2 _ (by omega), ndCells_a (padN N) i x (by omega), pad_get hi, pad_set hi]
  unfold arC
  rw [List.length_set]
theorem AB.setB {w : World} {g : Nat} {N : List Nd} (h : AB w g N) {i : Nat} (hi : i < N.length) (x : Int) : AB (w.setCell ⟨g, i * 4 + 3, none⟩ (.int .i64 x)) g (N.set i { N[i] with b := x }) := by
  have h3 := h.2
  have hl := padN_len h.2
  refine ⟨?_, by simpa using h.2⟩
  rw [heap_setCell_same w g (i * 4 + 3) _ _ _ h.1, List.setIfInBounds_toArray, arC_set h.2 _ (by omega), ndCells_b (padN N) i x (by omega), pad_get hi, pad_set hi]
  unfold arC
  rw [List.length_set]
theorem AB.setS {w : World} {g : Nat} {N : List Nd} (h : AB w g N) {i : Nat} (hi : i < N.length) (x : ByteArray) : AB (w.setCell ⟨g, i * 4 + 1, none⟩ (.string x)) g (N.set i { N[i] with s := x }) := by
  have h3 := h.2
  have hl := padN_len h.2
  refine ⟨?_, by simpa using h.2⟩
  rw [heap_setCell_same w g (i * 4 + 1) _ _ _ h.1, List.setIfInBounds_toArray, arC_set h.2 _ (by omega), ndCells_s (padN N) i x (by omega), pad_get hi, pad_set hi]
  unfold arC
  rw [List.length_set]
theorem AB.next {w : World} {g : Nat} {N : List Nd} (h : AB w g N) (hN : N.length < 300) (k : Int) : AB ((w.setCell ⟨g, N.length * 4, none⟩ (.int .i64 k)).setCell ⟨g, 1200, none⟩ (.int .i64 ((N.length : Int) + 1))) g (N ++ [⟨k, ⟨#[]⟩, 0, 0⟩]) := by
  have hl := padN_len h.2
  refine ⟨?_, by simp; omega⟩
  have h1 := heap_setCell_same w g (N.length * 4) _ _ (.int .i64 k) h.1
  rw [heap_setCell_same _ g 1200 _ _ (.int .i64 ((N.length : Int) + 1)) h1, List.setIfInBounds_toArray, List.setIfInBounds_toArray, arC_set h.2 _ (by omega), ndCells_k (padN N) N.length k (by omega), pad_room, pad_next hN]
  have hc : (ndCells (padN (N ++ [⟨k, ⟨#[]⟩, 0, 0⟩]))).length = 1200 := by rw [ndCells_len, padN_len (by simp; omega)]
  unfold arC
  rw [List.set_append_right _ _ (by show (ndCells (padN (N ++ [⟨k, ⟨#[]⟩, 0, 0⟩]))).length ≤ 1200; rw [hc]; exact Nat.le_refl _)]
  show some (Obj.cells (ndCells (padN (N ++ [⟨k, ⟨#[]⟩, 0, 0⟩])) ++ [Value.int IntKind.i64 (N.length : Int)].set (1200 - (ndCells (padN (N ++ [⟨k, ⟨#[]⟩, 0, 0⟩]))).length) _).toArray _ _) = _
  rw [hc]
  simp

set_option maxHeartbeats 1000000 in
theorem arrLay_any (N : List Nd) (g : Nat) (k : Int) (w : World) (h : AB w g N) (hN : N.length < 300) :
    Calls Tryz.prog 17 #[.pointer (some ⟨g, 0, none⟩), .int .i64 k] w fun e w' => e = .returned (.pointer (some ⟨g, N.length * 4, none⟩)) ∧ AB w' g (N ++ [⟨k, ⟨#[]⟩, 0, 0⟩]) ∧ Mkd g w w' := by
  have c := h.cnt
  obtain ⟨c0, -, -, -⟩ := h.room hN
  have f0 := h.fr (N.length * 4)
  have f1 := h.fr 1200
  have HA := Hid.mk h
  clear h
  go_enter Tryz.func17, Tryz.ntmps17
  go_wp2
  go_quiet (fail)
  go_wp2
  go_ret
  exact ⟨rfl, (HA.out.grow (Below.drewSelf _ _ _)).next hN k, (((Mkd.below (Below.drewSelf _ _ _)).set _).set _)⟩
end Go.Proofs.YtkdjkkldnidmjaaGreatDoor

namespace Go.Proofs.YtkdjkkldnidmjaaGreatDoor
open Go.RowKit
set_option maxRecDepth 8000

theorem set_last {N : List Nd} {x y : Nd} : (N ++ [x]).set N.length y = N ++ [y] := by
  rw [List.set_append_right _ _ (Nat.le_refl _), Nat.sub_self]
  rfl
theorem get_last {N : List Nd} {x : Nd} (h : N.length < (N ++ [x]).length) : (N ++ [x])[N.length] = x := by simp

set_option maxHeartbeats 1000000 in
theorem arrFork_any (N : List Nd) (g : Nat) (w : World) (h : AB w g N) (hN : N.length < 300) :
    Calls Tryz.prog 37 #[.pointer (some ⟨g, 0, none⟩)] w fun e w' => e = .returned (.pointer (some ⟨g, N.length * 4, none⟩)) ∧ AB w' g (N ++ [⟨4, ⟨#[]⟩, (N.length : Int) + 1, 0⟩]) ∧ Mkd g w w' := by
  have HL := Hid.mk (arrLay_any N g 4 w h hN)
  clear h
  go_enter Tryz.func37, Tryz.ntmps37
  go_wp2_with fail
  refine HL.out.mono ?_
  rintro e w1 ⟨rfl, h1, m1⟩
  have c := h1.cnt
  have hl : (N ++ [(⟨4, ⟨#[]⟩, 0, 0⟩ : Nd)]).length = N.length + 1 := by simp
  rw [hl] at c
  have hlt : N.length < (N ++ [(⟨4, ⟨#[]⟩, 0, 0⟩ : Nd)]).length := by rw [hl]; omega
  obtain ⟨c0, c1, c2, c3⟩ := h1.at4 (i := N.length) hlt
  rw [get_last hlt] at c0 c1 c2 c3
  have f2 := h1.fr (N.length * 4 + 2)
  have HS : Hid (AB (w1.setCell ⟨g, N.length * 4 + 2, none⟩ (.int .i64 ((N.length : Int) + 1))) g (N ++ [⟨4, ⟨#[]⟩, (N.length : Int) + 1, 0⟩])) := by
    have := h1.setA (i := N.length) hlt ((N.length : Int) + 1)
    rw [get_last hlt, set_last] at this
    exact this
  have HM := Hid.mk (m1.set (o := N.length * 4 + 2) (.int .i64 ((N.length : Int) + 1)))
  clear h1 m1 HL c0 c1 c3 hl hlt
  go_wp2
  go_ret
  exact ⟨rfl, HS.out, HM.out⟩

set_option maxHeartbeats 1000000 in
theorem arrSingle_any (N : List Nd) (g : Nat) (k : Int) (s : ByteArray) (w : World) (h : AB w g N) (hN : N.length < 300) (hs : s.size ≤ 1048576) :
    Calls Tryz.prog 34 #[.pointer (some ⟨g, 0, none⟩), .int .i64 k, .string s] w fun e w' => (∃ x, e = .returned x) ∧ AB w' g (N ++ [⟨k, s, (N.length : Int) + 1, 0⟩]) ∧ Mkd g w w' := by
  have HL := Hid.mk (arrLay_any N g k w h hN)
  clear h
  go_enter Tryz.func34, Tryz.ntmps34
  go_wp2_with fail
  refine HL.out.mono ?_
  rintro e w1 ⟨rfl, h1, m1⟩
  clear HL
  have hlen : (N ++ [(⟨k, ⟨#[]⟩, 0, 0⟩ : Nd)]).length = N.length + 1 := by simp
  have hlt : N.length < (N ++ [(⟨k, ⟨#[]⟩, 0, 0⟩ : Nd)]).length := by rw [hlen]; omega
  have cn := h1.cnt
  rw [hlen] at cn
  have cn' : w1.drew.cell? ⟨g, 1200, none⟩ = some (.int .i64 ((N.length : Int) + 1)) := by simpa using cn
  have HS : Hid (∀ w', AB w' g (N ++ [⟨k, ⟨#[]⟩, 0, 0⟩]) → AB (w'.setCell ⟨g, N.length * 4 + 1, none⟩ (.string s)) g (N ++ [⟨k, s, 0, 0⟩])) := fun w' h => by
    have := h.setS (i := N.length) hlt s
    rw [get_last hlt, set_last] at this
    exact this
  have hlen2 : (N ++ [(⟨k, s, 0, 0⟩ : Nd)]).length = N.length + 1 := by simp
  have hlt2 : N.length < (N ++ [(⟨k, s, 0, 0⟩ : Nd)]).length := by rw [hlen2]; omega
  have HA : Hid (∀ w', AB w' g (N ++ [⟨k, s, 0, 0⟩]) → AB (w'.setCell ⟨g, N.length * 4 + 2, none⟩ (.int .i64 ((N.length : Int) + 1))) g (N ++ [⟨k, s, (N.length : Int) + 1, 0⟩])) := fun w' h => by
    have := h.setA (i := N.length) hlt2 ((N.length : Int) + 1)
    rw [get_last hlt2, set_last] at this
    exact this
  have h1d := h1.grow (Below.drewSelf w1.heap.size w1 1)
  have hc := clone_any s w1.drew hs
  obtain ⟨S, hS⟩ : ∃ S : World → Prop, ∀ w', S w' ↔ (Mkd g w1 w' ∧ w'.cell? ⟨g, 1200, none⟩ = some (.int .i64 ((N.length : Int) + 1))) := ⟨_, fun _ => Iff.rfl⟩
  have S0 : S w1.drew := (hS _).2 ⟨Mkd.below (Below.drewSelf _ _ 1), cn'⟩
  go_wp2_with fail
  refine wp_region_held_drew (S := S) (by kernel_rfl) S0 (fun _ => ?_)
  refine takeHD (i := 0) (v := .pointer (some ⟨g, N.length * 4, none⟩)) (some 10) rfl rfl (by kernel_rfl) (by kernel_rfl) (by kernel_rfl) (fun _ _ _ h => h) (Or.inl ⟨by kernel_rfl, fun w' hw => ?_⟩) S0 ?_
  · kernel_rfl
  simp only [Act.put, List.setIfInBounds_toArray]
  refine takeHD (i := 1) (v := .pointer (some ⟨g, N.length * 4, none⟩)) (some 11) rfl rfl (by kernel_rfl) (by kernel_rfl) (by kernel_rfl) (fun _ _ _ h => h) (Or.inl ⟨by kernel_rfl, fun w' hw => ?_⟩) S0 ?_
  · kernel_rfl
  simp only [Act.put, List.setIfInBounds_toArray]
  refine takeHD (i := 2) (v := .string s) (some 12) rfl rfl (by kernel_rfl) (by kernel_rfl) (by kernel_rfl) (fun _ _ _ h => h) (Or.inl ⟨by kernel_rfl, fun w' hw => ?_⟩) S0 ?_
  · kernel_rfl
  simp only [Act.put, List.setIfInBounds_toArray]
  refine takeHD (i := 4) (v := .pointer (some ⟨g, 0, none⟩)) (some 14) rfl rfl (by kernel_rfl) (by kernel_rfl) (by kernel_rfl) (fun _ _ _ h => h) (Or.inl ⟨by kernel_rfl, fun w' hw => ?_⟩) S0 ?_
  · kernel_rfl
  simp only [Act.put, List.setIfInBounds_toArray]
  refine takeHD (i := 5) (v := .pointer (some ⟨g, 0, none⟩)) (some 15) rfl rfl (by kernel_rfl) (by kernel_rfl) (by kernel_rfl) (fun _ _ _ h => h) (Or.inl ⟨by kernel_rfl, fun w' hw => ?_⟩) S0 ?_
  · kernel_rfl
  simp only [Act.put, List.setIfInBounds_toArray]
  refine takeHD (i := 6) (v := .pointer (some ⟨g, 1200, none⟩)) (some 16) rfl rfl (by kernel_rfl) (by kernel_rfl) (by kernel_rfl) (fun _ _ _ h => h) (Or.inl ⟨by kernel_rfl, fun w' hw => ?_⟩) S0 ?_
  · kernel_rfl
  simp only [Act.put, List.setIfInBounds_toArray]
  refine takeHD (i := 7) (v := .int .i64 ((N.length : Int) + 1)) (some 17) rfl rfl (by kernel_rfl) (by kernel_rfl) (by kernel_rfl) (fun _ _ _ h => h) (Or.inl ⟨by kernel_rfl, fun w' hw => ?_⟩) S0 ?_
  · have y := ((hS _).1 hw).2; go_simp
  simp only [Act.put, List.setIfInBounds_toArray]
  refine wpAnyH_ready (rs := [3]) (by kernel_rfl) (by simp) ?_
  refine AllReadyH.cons rfl (fun K hK => ?_) AllReadyH.nil
  rw [if_pos (by kernel_rfl)]
  go_wp2_with fail
  refine hc.mono ?_
  rintro e w2 ⟨rfl, hb2⟩
  have h2 := h1d.grow hb2
  have S2 : S w2 := (hS _).2 ⟨(Mkd.below (Below.drewSelf _ _ 1)).trans (Mkd.below hb2), by rw [hb2.cell (p := ⟨g, 1200, none⟩) h1d.lt]; exact cn'⟩
  refine hK.out _ _ S2 (fun _ => ?_)
  clear hK K
  refine takeHD (i := 8) (v := .pointer (some ⟨g, N.length * 4, none⟩)) (some 18) rfl rfl (by kernel_rfl) (by kernel_rfl) (by kernel_rfl) (fun _ _ _ h => h) (Or.inl ⟨by kernel_rfl, fun w' hw => ?_⟩) S2 ?_
  · kernel_rfl
  simp only [Act.put, List.setIfInBounds_toArray]
  refine takeHD (i := 9) (v := .pointer (some ⟨g, N.length * 4 + 1, none⟩)) (some 19) rfl rfl (by kernel_rfl) (by kernel_rfl) (by kernel_rfl) (fun _ _ _ h => h) (Or.inl ⟨by kernel_rfl, fun w' hw => ?_⟩) S2 ?_
  · kernel_rfl
  simp only [Act.put, List.setIfInBounds_toArray]
  obtain ⟨e0, e1, e2, e3⟩ := h2.at4 (i := N.length) hlt
  have f1 := h2.fr (N.length * 4 + 1)
  refine wpAnyH_ready (rs := [10]) (by kernel_rfl) (by simp) ?_
  refine AllReadyH.cons rfl (fun K hK => ?_) AllReadyH.nil
  rw [if_pos (by kernel_rfl)]
  go_wp2_with fail
  have h3 := HS.out _ h2
  have S3 : S (w2.setCell ⟨g, N.length * 4 + 1, none⟩ (.string s)) := (hS _).2 ⟨((hS _).1 S2).1.set _, by rw [h3.cnt, hlen2]; rfl⟩
  refine hK.out _ _ S3 (fun _ => ?_)
  clear hK K
  refine takeHD (i := 11) (v := .pointer (some ⟨g, N.length * 4, none⟩)) (some 20) rfl rfl (by kernel_rfl) (by kernel_rfl) (by kernel_rfl) (fun _ _ _ h => h) (Or.inl ⟨by kernel_rfl, fun w' hw => ?_⟩) S3 ?_
  · kernel_rfl
  simp only [Act.put, List.setIfInBounds_toArray]
  refine takeHD (i := 12) (v := .pointer (some ⟨g, N.length * 4 + 2, none⟩)) (some 21) rfl rfl (by kernel_rfl) (by kernel_rfl) (by kernel_rfl) (fun _ _ _ h => h) (Or.inl ⟨by kernel_rfl, fun w' hw => ?_⟩) S3 ?_
  · kernel_rfl
  simp only [Act.put, List.setIfInBounds_toArray]
  obtain ⟨g0, g1, g2, g3⟩ := h3.at4 (i := N.length) hlt2
  have f2 := h3.fr (N.length * 4 + 2)
  refine wpAnyH_ready (rs := [13]) (by kernel_rfl) (by simp) ?_
  refine AllReadyH.cons rfl (fun K hK => ?_) AllReadyH.nil
  rw [if_pos (by kernel_rfl)]
  go_wp2_with fail
  have h4 := HA.out _ h3
  have M4 := ((hS _).1 S3).1.set (o := N.length * 4 + 2) (.int .i64 ((N.length : Int) + 1))
  have S4 : S ((w2.setCell ⟨g, N.length * 4 + 1, none⟩ (.string s)).setCell ⟨g, N.length * 4 + 2, none⟩ (.int .i64 ((N.length : Int) + 1))) := (hS _).2 ⟨M4, by rw [h4.cnt]; simp⟩
  refine hK.out _ _ S4 (fun _ => ?_)
  clear hK K
  refine wpAnyH_done (by kernel_rfl) ?_ _
  go_wp2
  refine bodyPost_end (v := .tuple #[]) (by simp [results, Tryz.results34, go_sem]) rfl ⟨⟨_, rfl⟩, h4, m1.trans M4⟩
end Go.Proofs.YtkdjkkldnidmjaaGreatDoor
