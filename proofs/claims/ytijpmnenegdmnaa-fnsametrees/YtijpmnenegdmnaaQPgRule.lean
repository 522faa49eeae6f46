/- Two rules held against each other: what is put by for later, and whether their kinds are the same. -/
import Derived.Test.YtijpmnenegdmnaaQSameYI
import Derived.Test.YtijpmnenegdmnaaQPgTree
namespace Go.Proofs.Ytijpmnenegdmnaa
open Go.RowKit
set_option maxRecDepth 8000
set_option linter.unusedSimpArgs false

/-- What waits while rules and functions are gone through: rows of pairs in two boxes; D0: where the arguments lie. -/
def PgS (D0 : Nat → Prop) (base bb tb : Nat) (BT : List (Prr St)) (TT : List (Prr Ex)) (wr : World) : Prop :=
  ∃ (vb tv : Value) (D : Nat → Prop), DkS wr D ∧ (∀ b, D0 b → D b) ∧ (∀ b, D b → b ≠ bb ∧ b ≠ tb ∧ some b ≠ vb.ownBlock ∧ some b ≠ tv.ownBlock) ∧
    wr.heap[bb]? = some (.cells #[vb] 56 (0, 0)) ∧ wr.heap[tb]? = some (.cells #[tv] 52 (0, 0)) ∧ OwnRY wr base vb BT ∧ OwnRX wr base tv TT ∧
    (some bb ≠ vb.ownBlock ∧ some bb ≠ tv.ownBlock ∧ some tb ≠ vb.ownBlock ∧ some tb ≠ tv.ownBlock ∧ bb ≠ tb) ∧ (∀ g, vb.ownBlock = some g → tv.ownBlock ≠ some g) ∧
    (∀ q ∈ BT, Sl wr D q.a q.u ∧ Sl wr D q.b q.v) ∧ (∀ q ∈ TT, El wr D q.a q.u ∧ El wr D q.b q.v) ∧ base ≤ bb ∧ base ≤ tb

theorem PgS.grow {D0 : Nat → Prop} {base bb tb : Nat} {BT : List (Prr St)} {TT : List (Prr Ex)} {w w' : World} (h : PgS D0 base bb tb BT TT w) (hb : Below w.heap.size w w') : PgS D0 base bb tb BT TT w' := by
  obtain ⟨vb, tv, D, h1, h2, h3, h4, h5, h6, h7, h8, h9, h10, h11, h12, h13⟩ := h
  exact ⟨vb, tv, D, h1.kept fun b hd => hb.block b (h1.lt hd), h2, h3, (hb.block bb (Array.getElem?_eq_some_iff.1 h4).1).trans h4, (hb.block tb (Array.getElem?_eq_some_iff.1 h5).1).trans h5, h6.kept fun k hk => hb.block k (h6.lt hk).2, h7.kept fun k hk => hb.block k (h7.lt hk).2, h8, h9,
    fun q hq => ⟨(h10 q hq).1.grow hb, (h10 q hq).2.grow hb⟩, fun q hq => ⟨(h11 q hq).1.grow hb, (h11 q hq).2.grow hb⟩, h12, h13⟩

set_option maxHeartbeats 8000000 in
theorem sameRule_any (D0 : Nat → Prop) (base bb tb : Nat) (BT : List (Prr St)) (TT : List (Prr Ex)) (w : World) (hS : PgS D0 base bb tb BT TT w) (x y : Ru) (xpo xao ypo yao : Option Addr) (xpc xac ypc yac : Nat)
    (hxp : El w D0 x.p.l (.slice xpo x.p.l.length xpc)) (hxa : Sl w D0 x.a (.slice xao x.a.length xac)) (hyp : El w D0 y.p.l (.slice ypo y.p.l.length ypc)) (hya : Sl w D0 y.a (.slice yao y.a.length yac))
    (hxs : x.p.s.size ≤ maxLen) (hys : y.p.s.size ≤ maxLen) (hlb : BT.length + 1 ≤ 2199023255552) (hlt : TT.length + 1 ≤ 2199023255552) :
    Calls Try.prog 23 #[ruV x (.slice xpo x.p.l.length xpc) (.slice xao x.a.length xac), ruV y (.slice ypo y.p.l.length ypc) (.slice yao y.a.length yac), .pointer (some ⟨bb, 0, none⟩), .pointer (some ⟨tb, 0, none⟩)] w fun e w' =>
      e = .returned (.bool (x.k == y.k)) ∧ Below base w w' ∧ (∀ b, D0 b → w'.heap[b]? = w.heap[b]?) ∧ ∃ u v, PgS D0 base bb tb (BT ++ [⟨x.a, y.a, .slice xao x.a.length xac, .slice yao y.a.length yac⟩]) (TT ++ [⟨[x.p], [y.p], u, v⟩]) w' := by
  obtain ⟨vb, tv, D, hD, hD0, hDn, hbb, htb, hob, hot, hne, hvt, hBT, hTT, hb1, hb2⟩ := hS
  obtain ⟨n1, n2, n3, n4, n5⟩ := hne
  obtain ⟨vbo, vbc, evb⟩ := hob.len
  obtain ⟨tvo, tvc, etv⟩ := hot.len
  have hbl : bb < w.heap.size := (Array.getElem?_eq_some_iff.1 hbb).1
  have htl : tb < w.heap.size := (Array.getElem?_eq_some_iff.1 htb).1
  obtain ⟨A1, A2, A3, hbA, hsA⟩ := three_alloc w w.heap.size rfl (.cells #[.int .i64 x.k, .int .i64 x.p.k, .int .i64 x.p.n, .string x.p.s, .slice xpo x.p.l.length xpc, .slice xao x.a.length xac] 59)
    (.cells #[.int .i64 y.k, .int .i64 y.p.k, .int .i64 y.p.n, .string y.p.s, .slice ypo y.p.l.length ypc, .slice yao y.a.length yac] 59) (.cells #[.slice xao x.a.length xac, .slice yao y.a.length yac] 55)
  have HOB : Hid (OwnRY (((w.alloc (.cells #[.int .i64 x.k, .int .i64 x.p.k, .int .i64 x.p.n, .string x.p.s, .slice xpo x.p.l.length xpc, .slice xao x.a.length xac] 59)).alloc (.cells #[.int .i64 y.k, .int .i64 y.p.k, .int .i64 y.p.n, .string y.p.s, .slice ypo y.p.l.length ypc, .slice yao y.a.length yac] 59)).alloc (.cells #[.slice xao x.a.length xac, .slice yao y.a.length yac] 55)) base vb BT) := hob.kept fun k hk => hbA.block k (hob.lt hk).2
  have HONB : Hid (∀ q ∈ ([⟨x.a, y.a, .slice xao x.a.length xac, .slice yao y.a.length yac⟩] : List (Prr St)), q.u.oneCell' = true ∧ q.v.oneCell' = true) := by
    intro q hq
    obtain rfl : q = _ := by simpa using hq
    exact ⟨rfl, rfl⟩
  have HA3 := Hid.mk A3
  have HSA := Hid.mk hsA
  have HLB := Hid.mk hlb
  have hbs : base ≤ w.heap.size := by omega
  have cb0 : ((w.alloc (.cells #[.int .i64 x.k, .int .i64 x.p.k, .int .i64 x.p.n, .string x.p.s, .slice xpo x.p.l.length xpc, .slice xao x.a.length xac] 59)).alloc (.cells #[.int .i64 y.k, .int .i64 y.p.k, .int .i64 y.p.n, .string y.p.s, .slice ypo y.p.l.length ypc, .slice yao y.a.length yac] 59)).cell? ⟨bb, 0, none⟩ = some vb := by
    rw [cell_of_row _ bb 0 _ _ (0, 0) (((((Below.refl w.heap.size w).alloc (Nat.le_refl _) (.cells #[.int .i64 x.k, .int .i64 x.p.k, .int .i64 x.p.n, .string x.p.s, .slice xpo x.p.l.length xpc, .slice xao x.a.length xac] 59)).alloc (by simp) (.cells #[.int .i64 y.k, .int .i64 y.p.k, .int .i64 y.p.n, .string y.p.s, .slice ypo y.p.l.length ypc, .slice yao y.a.length yac] 59)).block bb hbl).trans hbb)]
    rfl
  have HST := Hid.mk (And.intro hbb (And.intro htb (And.intro hob (And.intro hot (And.intro n1 (And.intro n2 (And.intro n3 (And.intro n4 n5))))))))
  have HRD := Hid.mk (And.intro hD (And.intro hD0 (And.intro hDn (And.intro hvt (And.intro hBT hTT)))))
  have HAR := Hid.mk (And.intro hxp (And.intro hxa (And.intro hyp (And.intro hya (And.intro hxs hys)))))
  have HA1 := Hid.mk A1
  have HA2 := Hid.mk A2
  have HBA := Hid.mk hbA
  have HLT := Hid.mk hlt
  have EVB := Hid.mk evb
  have ETV := Hid.mk etv
  clear A1 A2 A3 hbA hsA hbb htb hob hot n1 n2 n3 n4 n5 hD hD0 hDn hvt hBT hTT hxp hxa hyp hya hxs hys hlb hlt evb etv
  have l0 : w.heap.size < w.heap.size + 1 := by omega
  have b0 : bb ≠ w.heap.size := by omega
  have b1 : bb ≠ w.heap.size + 1 := by omega
  have b2 : bb < w.heap.size + 1 := by omega
  go_enter Try.func23, Try.ntmps23
  go_wp2_with (at_builtin; refine wpList_append_rY rfl _ _ rfl base vb BT [⟨x.a, y.a, .slice xao x.a.length xac, .slice yao y.a.length yac⟩] rfl HOB.out (w.heap.size + 1 + 1) 1 rfl HA3.out HONB.out (by rw [HSA.out]; omega) HLB.out ?_; intro tw w4 ho4 hg4 hv4; refine Hid.out ?_)
  obtain ⟨bo4, bc4, e4⟩ := ho4.len
  obtain ⟨n4, hn4⟩ : ∃ n, (BT ++ ([⟨x.a, y.a, .slice xao x.a.length xac, .slice yao y.a.length yac⟩] : List (Prr St))).length = n := ⟨_, rfl⟩
  rw [hn4] at e4
  clear hn4
  subst e4
  obtain ⟨hbb, htb, hob, hot, n1, n2, n3, n4', n5⟩ := HST.out
  obtain ⟨hD, hD0, hDn, hvt, hBT, hTT⟩ := HRD.out
  obtain ⟨hxp, hxa, hyp, hya, hxs, hys⟩ := HAR.out
  have hs4 : w.heap.size + 1 + 1 + 1 ≤ w4.heap.size := by have := hg4.size; rw [HSA.out] at this; exact this
  have k4 : ∀ b, b < w.heap.size + 1 + 1 + 1 → some b ≠ vb.ownBlock → w4.heap[b]? = (((w.alloc (.cells #[.int .i64 x.k, .int .i64 x.p.k, .int .i64 x.p.n, .string x.p.s, .slice xpo x.p.l.length xpc, .slice xao x.a.length xac] 59)).alloc (.cells #[.int .i64 y.k, .int .i64 y.p.k, .int .i64 y.p.n, .string y.p.s, .slice ypo y.p.l.length ypc, .slice yao y.a.length yac] 59)).alloc (.cells #[.slice xao x.a.length xac, .slice yao y.a.length yac] 55)).heap[b]? := fun b h1 h2 => hg4.block b (by rw [HSA.out]; exact h1) h2
  have hob' := hob
  have hvn : ∀ b, w.heap.size ≤ b → some b ≠ vb.ownBlock := fun b h1 e => by have := (hob'.lt e.symm).2; omega
  have hcx : ∀ o, w4.cell? ⟨w.heap.size, o, none⟩ = #[Value.int .i64 x.k, .int .i64 x.p.k, .int .i64 x.p.n, .string x.p.s, .slice xpo x.p.l.length xpc, .slice xao x.a.length xac][o]? := fun o => cell_of_row w4 _ o _ _ (0, 0) ((k4 _ (by omega) (hvn _ (Nat.le_refl _))).trans HA1.out)
  have hcy : ∀ o, w4.cell? ⟨w.heap.size + 1, o, none⟩ = #[Value.int .i64 y.k, .int .i64 y.p.k, .int .i64 y.p.n, .string y.p.s, .slice ypo y.p.l.length ypc, .slice yao y.a.length yac][o]? := fun o => cell_of_row w4 _ o _ _ (0, 0) ((k4 _ (by omega) (hvn _ (by omega))).trans HA2.out)
  have hb4 : w4.heap[bb]? = some (.cells #[vb] 56 (0, 0)) := (k4 bb (by omega) n1).trans ((HBA.out.block bb hbl).trans hbb)
  have ht4 : w4.heap[tb]? = some (.cells #[tv] 52 (0, 0)) := (k4 tb (by omega) n3).trans ((HBA.out.block tb htl).trans htb)
  have cb4 : w4.cell? ⟨bb, 0, none⟩ = some vb := by rw [cell_of_row w4 bb 0 _ _ (0, 0) hb4]; rfl
  have ct4 : w4.cell? ⟨tb, 0, none⟩ = some tv := by rw [cell_of_row w4 tb 0 _ _ (0, 0) ht4]; rfl
  have fb4 : ∀ o, w4.frozen? ⟨bb, o, none⟩ = false := fun o => by simp [World.frozen?, hb4]
  have ft4 : ∀ o, w4.frozen? ⟨tb, o, none⟩ = false := fun o => by simp [World.frozen?, ht4]
  -- behind the first store
  have z5 : (w4.setCell ⟨bb, 0, none⟩ (.slice bo4 n4 bc4)).heap.size = w4.heap.size := by simp
  obtain ⟨T1, T2, T3, hbT, hsT⟩ := three_alloc (w4.setCell ⟨bb, 0, none⟩ (.slice bo4 n4 bc4)) w4.heap.size z5 (.cells #[.int .i64 x.p.k, .int .i64 x.p.n, .string x.p.s, .slice xpo x.p.l.length xpc] 26) (.cells #[.int .i64 y.p.k, .int .i64 y.p.n, .string y.p.s, .slice ypo y.p.l.length ypc] 26) (.cells #[.slice (some ⟨w4.heap.size, 0, none⟩) 1 1, .slice (some ⟨w4.heap.size + 1, 0, none⟩) 1 1] 51)
  have k5 : ∀ b, b < w.heap.size → b ≠ bb → some b ≠ vb.ownBlock → (w4.setCell ⟨bb, 0, none⟩ (.slice bo4 n4 bc4)).heap[b]? = w.heap[b]? := fun b h1 h2 h3 => (heap_setCell_other w4 _ _ _ h2).trans ((k4 b (by omega) h3).trans (HBA.out.block b h1))
  have hot5 : OwnRX (w4.setCell ⟨bb, 0, none⟩ (.slice bo4 n4 bc4)) base tv TT := hot.kept fun k hk => k5 k (hot.lt hk).2 (by rintro rfl; exact n2 hk.symm) (fun e => hvt k e.symm hk)
  have hot8 : OwnRX ((((w4.setCell ⟨bb, 0, none⟩ (.slice bo4 n4 bc4)).alloc (.cells #[.int .i64 x.p.k, .int .i64 x.p.n, .string x.p.s, .slice xpo x.p.l.length xpc] 26)).alloc (.cells #[.int .i64 y.p.k, .int .i64 y.p.n, .string y.p.s, .slice ypo y.p.l.length ypc] 26)).alloc (.cells #[.slice (some ⟨w4.heap.size, 0, none⟩) 1 1, .slice (some ⟨w4.heap.size + 1, 0, none⟩) 1 1] 51)) base tv TT := hot5.kept fun k hk => hbT.block k (by have := (hot.lt hk).2; omega)
  have HOT8 := Hid.mk hot8
  have HT3 := Hid.mk T3
  have HONT : Hid (∀ q ∈ ([⟨[x.p], [y.p], .slice (some ⟨w4.heap.size, 0, none⟩) 1 1, .slice (some ⟨w4.heap.size + 1, 0, none⟩) 1 1⟩] : List (Prr Ex)), q.u.oneCell' = true ∧ q.v.oneCell' = true) := by
    intro q hq
    obtain rfl : q = _ := by simpa using hq
    exact ⟨rfl, rfl⟩
  have HST8 := Hid.mk hsT
  have c1 : w.heap.size ≠ bb := by omega
  have c2 : w.heap.size + 1 ≠ bb := by omega
  have c3 : tb ≠ bb := Ne.symm n5
  have c4 : bb ≠ tb := n5
  have l1 : w.heap.size < w4.heap.size := by omega
  have l2 : w.heap.size + 1 < w4.heap.size := by omega
  have l3 : tb < w4.heap.size := by omega
  have l4 : bb < w4.heap.size := by omega
  have m1 : w.heap.size ≠ w4.heap.size := by omega
  have m2 : w.heap.size + 1 ≠ w4.heap.size := by omega
  have m3 : tb ≠ w4.heap.size := by omega
  have HV4 := Hid.mk hv4
  have HO4 := Hid.mk ho4
  have HK4 := Hid.mk k4
  have HK5 := Hid.mk k5
  have HB4 := Hid.mk hb4
  have HT4 := Hid.mk ht4
  have HG4 := Hid.mk hg4
  have HT1 := Hid.mk T1
  have HT2 := Hid.mk T2
  have HBT := Hid.mk hbT
  clear hv4 ho4 k4 k5 hb4 ht4 hg4 T1 T2 T3 hbT hsT hot5 hot8 hob hob' hot hbb htb hD hD0 hDn hvt hBT hTT hxp hxa hyp hya hxs hys hvn n1 n2 n3 n4' n5 z5
  refine Hid.mk ?_
  go_wp2_with (at_builtin; refine wpList_append_rX rfl _ _ rfl base tv TT [⟨[x.p], [y.p], .slice (some ⟨w4.heap.size, 0, none⟩) 1 1, .slice (some ⟨w4.heap.size + 1, 0, none⟩) 1 1⟩] rfl HOT8.out (w4.heap.size + 1 + 1) 1 rfl HT3.out HONT.out (by rw [HST8.out]; omega) HLT.out ?_; intro ux w9 ho9 hg9 hv9; refine Hid.out ?_)
  obtain ⟨uo, uc, e9⟩ := ho9.len
  obtain ⟨n9, hn9⟩ : ∃ n, (TT ++ ([⟨[x.p], [y.p], .slice (some ⟨w4.heap.size, 0, none⟩) 1 1, .slice (some ⟨w4.heap.size + 1, 0, none⟩) 1 1⟩] : List (Prr Ex))).length = n := ⟨_, rfl⟩
  rw [hn9] at e9
  clear hn9
  subst e9
  obtain ⟨hbb, htb, hob, hot, n1, n2, n3, n4', n5⟩ := HST.out
  obtain ⟨hD, hD0, hDn, hvt, hBT, hTT⟩ := HRD.out
  obtain ⟨hxp, hxa, hyp, hya, hxs, hys⟩ := HAR.out
  have hto : ∀ b, w.heap.size ≤ b → some b ≠ tv.ownBlock := fun b h1 e => by have := (hot.lt e.symm).2; omega
  have hvo : ∀ b, w.heap.size ≤ b → some b ≠ vb.ownBlock := fun b h1 e => by have := (hob.lt e.symm).2; omega
  have hs9 : w4.heap.size + 1 + 1 + 1 ≤ w9.heap.size := by have := hg9.size; rw [HST8.out] at this; exact this
  have k9 : ∀ b, b < w4.heap.size + 1 + 1 + 1 → some b ≠ tv.ownBlock → w9.heap[b]? = ((((w4.setCell ⟨bb, 0, none⟩ (.slice bo4 n4 bc4)).alloc (.cells #[.int .i64 x.p.k, .int .i64 x.p.n, .string x.p.s, .slice xpo x.p.l.length xpc] 26)).alloc (.cells #[.int .i64 y.p.k, .int .i64 y.p.n, .string y.p.s, .slice ypo y.p.l.length ypc] 26)).alloc (.cells #[.slice (some ⟨w4.heap.size, 0, none⟩) 1 1, .slice (some ⟨w4.heap.size + 1, 0, none⟩) 1 1] 51)).heap[b]? := fun b h1 h2 => hg9.block b (by rw [HST8.out]; exact h1) h2
  have k95 : ∀ b, b < w4.heap.size → b ≠ bb → some b ≠ tv.ownBlock → w9.heap[b]? = w4.heap[b]? := fun b h1 h2 h3 => (k9 b (by omega) h3).trans ((HBT.out.block b h1).trans (heap_setCell_other w4 _ _ _ h2))
  have hx9 : ∀ o, w9.cell? ⟨w.heap.size, o, none⟩ = w4.cell? ⟨w.heap.size, o, none⟩ := fun o => World.cell?_of_block (a := ⟨w.heap.size, o, none⟩) (k95 w.heap.size l1 c1 (hto w.heap.size (Nat.le_refl _)))
  have hy9 : ∀ o, w9.cell? ⟨w.heap.size + 1, o, none⟩ = w4.cell? ⟨w.heap.size + 1, o, none⟩ := fun o => World.cell?_of_block (a := ⟨w.heap.size + 1, o, none⟩) (k95 (w.heap.size + 1) l2 c2 (hto (w.heap.size + 1) (by omega)))
  have hcx9 := fun o => (hx9 o).trans (hcx o)
  have hcy9 := fun o => (hy9 o).trans (hcy o)
  have ht9 : w9.heap[tb]? = some (.cells #[tv] 52 (0, 0)) := (k95 tb l3 c3 n4').trans HT4.out
  have hb9 : w9.heap[bb]? = some (.cells #[.slice bo4 n4 bc4] 56 (0, 0)) := (k9 bb (by omega) n2).trans ((HBT.out.block bb l4).trans (one_setCell HB4.out))
  have ct9 : w9.cell? ⟨tb, 0, none⟩ = some tv := by rw [cell_of_row w9 tb 0 _ _ (0, 0) ht9]; rfl
  have ft9 : ∀ o, w9.frozen? ⟨tb, o, none⟩ = false := fun o => by simp [World.frozen?, ht9]
  have d1 : w.heap.size ≠ tb := by omega
  have d2 : w.heap.size + 1 ≠ tb := by omega
  -- what lies there at the end
  have kA : ∀ b, b < w.heap.size → b ≠ bb → b ≠ tb → some b ≠ vb.ownBlock → some b ≠ tv.ownBlock → (w9.setCell ⟨tb, 0, none⟩ (.slice uo n9 uc)).heap[b]? = w.heap[b]? := fun b h1 h2 h3 h4 h5 => (heap_setCell_other w9 _ _ _ h3).trans ((k9 b (by omega) h5).trans ((HBT.out.block b (by omega)).trans (HK5.out b h1 h2 h4)))
  have hg4v : ∀ g, (Value.slice bo4 n4 bc4).ownBlock = some g → g ≠ bb ∧ g ≠ tb ∧ some g ≠ tv.ownBlock ∧ g < w4.heap.size ∧ (vb.ownBlock = some g ∨ w.heap.size ≤ g) := by
    intro g hg
    have hg2 := (HO4.out.lt hg).2
    rcases HV4.out with h | h
    · rw [hg] at h
      exact ⟨by rintro rfl; exact n1 h, by rintro rfl; exact n3 h, fun e => hvt g h.symm e.symm, hg2, .inl h.symm⟩
    · rw [hg, HSA.out] at h
      have h' : g = w.heap.size + 1 + 1 + 1 := by simpa using h
      exact ⟨by omega, by omega, hto g (by omega), hg2, .inr (by omega)⟩
  have hg9v : ∀ g, (Value.slice uo n9 uc).ownBlock = some g → g ≠ bb ∧ g ≠ tb ∧ (tv.ownBlock = some g ∨ w4.heap.size + 1 + 1 + 1 ≤ g) := by
    intro g hg
    rcases hv9 with h | h
    · rw [hg] at h
      exact ⟨by rintro rfl; exact n2 h, by rintro rfl; exact n4' h, .inl h.symm⟩
    · rw [hg, HST8.out] at h
      have h' : g = w4.heap.size + 1 + 1 + 1 := by simpa using h
      exact ⟨by omega, by omega, .inr (by omega)⟩
  have hobA : OwnRY (w9.setCell ⟨tb, 0, none⟩ (.slice uo n9 uc)) base (.slice bo4 n4 bc4) (BT ++ [⟨x.a, y.a, .slice xao x.a.length xac, .slice yao y.a.length yac⟩]) := HO4.out.kept fun g hg => (heap_setCell_other w9 _ _ _ (hg4v g hg).2.1).trans (k95 g (hg4v g hg).2.2.2.1 (hg4v g hg).1 (hg4v g hg).2.2.1)
  have hotA : OwnRX (w9.setCell ⟨tb, 0, none⟩ (.slice uo n9 uc)) base (.slice uo n9 uc) (TT ++ [⟨[x.p], [y.p], .slice (some ⟨w4.heap.size, 0, none⟩) 1 1, .slice (some ⟨w4.heap.size + 1, 0, none⟩) 1 1⟩]) := ho9.kept fun g hg => heap_setCell_other w9 _ _ _ (hg9v g hg).2.1
  have hT1 : (w9.setCell ⟨tb, 0, none⟩ (.slice uo n9 uc)).heap[w4.heap.size]? = some (.cells #[.int .i64 x.p.k, .int .i64 x.p.n, .string x.p.s, .slice xpo x.p.l.length xpc] 26 (0, 0)) := (heap_setCell_other w9 _ _ _ (Ne.symm m3)).trans ((k9 _ (by omega) (hto _ (by omega))).trans HT1.out)
  have hT2 : (w9.setCell ⟨tb, 0, none⟩ (.slice uo n9 uc)).heap[w4.heap.size + 1]? = some (.cells #[.int .i64 y.p.k, .int .i64 y.p.n, .string y.p.s, .slice ypo y.p.l.length ypc] 26 (0, 0)) := (heap_setCell_other w9 _ _ _ (by show w4.heap.size + 1 ≠ tb; omega)).trans ((k9 _ (by omega) (hto _ (by omega))).trans HT2.out)
  have hkD : ∀ b, D b → (w9.setCell ⟨tb, 0, none⟩ (.slice uo n9 uc)).heap[b]? = w.heap[b]? := fun b hb => kA b (hD.lt hb) (hDn b hb).1 (hDn b hb).2.1 (hDn b hb).2.2.1 (hDn b hb).2.2.2
  have hDA : DkS (w9.setCell ⟨tb, 0, none⟩ (.slice uo n9 uc)) (fun b => D b ∨ b = w4.heap.size ∨ b = w4.heap.size + 1) := by
    intro b hb
    rcases hb with hb | rfl | rfl
    · exact (hD.kept hkD) b hb
    · exact ⟨⟨_, _, _, hT1⟩, fun o => by simp [World.frozen?, hT1]⟩
    · exact ⟨⟨_, _, _, hT2⟩, fun o => by simp [World.frozen?, hT2]⟩
  have hS0 : ∀ {l : List St} {v : Value}, Sl w D0 l v → Sl (w9.setCell ⟨tb, 0, none⟩ (.slice uo n9 uc)) (fun b => D b ∨ b = w4.heap.size ∨ b = w4.heap.size + 1) l v := fun h => (h.kept fun b hb _ => hkD b (hD0 b hb)).imp fun b hb _ => .inl (hD0 b hb)
  have hE0 : ∀ {l : List Ex} {v : Value}, El w D0 l v → El (w9.setCell ⟨tb, 0, none⟩ (.slice uo n9 uc)) (fun b => D b ∨ b = w4.heap.size ∨ b = w4.heap.size + 1) l v := fun h => (h.kept fun b hb _ => hkD b (hD0 b hb)).imp fun b hb _ => .inl (hD0 b hb)
  have hPS : PgS D0 base bb tb (BT ++ [⟨x.a, y.a, .slice xao x.a.length xac, .slice yao y.a.length yac⟩]) (TT ++ [⟨[x.p], [y.p], .slice (some ⟨w4.heap.size, 0, none⟩) 1 1, .slice (some ⟨w4.heap.size + 1, 0, none⟩) 1 1⟩]) (w9.setCell ⟨tb, 0, none⟩ (.slice uo n9 uc)) := by
    refine ⟨.slice bo4 n4 bc4, .slice uo n9 uc, _, hDA, fun b hb => .inl (hD0 b hb), fun b hb => ?_, (heap_setCell_other w9 _ _ _ n5).trans hb9, one_setCell ht9, hobA, hotA, ⟨fun e => (hg4v bb e.symm).1 rfl, fun e => (hg9v bb e.symm).1 rfl, fun e => (hg4v tb e.symm).2.1 rfl, fun e => (hg9v tb e.symm).2.1 rfl, n5⟩, fun g hg e => ?_, ?_, ?_, hb1, hb2⟩
    · rcases hb with hb | hb
      · have hlt := hD.lt hb
        obtain ⟨q1, q2, q3, q4⟩ := hDn b hb
        refine ⟨q1, q2, fun e => ?_, fun e => ?_⟩
        · rcases (hg4v b e.symm).2.2.2.2 with h | h
          · exact q3 h.symm
          · omega
        · rcases (hg9v b e.symm).2.2 with h | h
          · exact q4 h.symm
          · omega
      · have hb' : w4.heap.size ≤ b ∧ b ≤ w4.heap.size + 1 := by omega
        refine ⟨by omega, by omega, fun e => ?_, fun e => ?_⟩
        · have := (hg4v b e.symm).2.2.2.1
          omega
        · rcases (hg9v b e.symm).2.2 with h | h
          · exact hto b (by omega) h.symm
          · omega
    · obtain ⟨-, -, q3, q4, -⟩ := hg4v g hg
      rcases (hg9v g e).2.2 with h | h
      · exact q3 h.symm
      · omega
    · intro q hq
      rcases List.mem_append.1 hq with hq | hq
      · exact ⟨((hBT q hq).1.kept fun b hb _ => hkD b hb).imp fun b hb _ => .inl hb, ((hBT q hq).2.kept fun b hb _ => hkD b hb).imp fun b hb _ => .inl hb⟩
      · obtain rfl : q = _ := by simpa using hq
        exact ⟨hS0 hxa, hS0 hya⟩
    · intro q hq
      rcases List.mem_append.1 hq with hq | hq
      · exact ⟨((hTT q hq).1.kept fun b hb _ => hkD b hb).imp fun b hb _ => .inl hb, ((hTT q hq).2.kept fun b hb _ => hkD b hb).imp fun b hb _ => .inl hb⟩
      · obtain rfl : q = _ := by simpa using hq
        exact ⟨El.alone hT1 (.inr (.inl rfl)) hxs (hE0 hxp), El.alone hT2 (.inr (.inr rfl)) hys (hE0 hyp)⟩
  have hBA : Below base w (w9.setCell ⟨tb, 0, none⟩ (.slice uo n9 uc)) := by
    have q1 : Below base w w4 := (HBA.out.mono hbs).grown HG4.out (by rw [HSA.out]; omega) (fun k hk => (hob.lt hk).1)
    have q2 : Below base w (w4.setCell ⟨bb, 0, none⟩ (.slice bo4 n4 bc4)) := q1.setCell (p := ⟨bb, 0, none⟩) hb1 _
    have q3 : Below base w ((((w4.setCell ⟨bb, 0, none⟩ (.slice bo4 n4 bc4)).alloc (.cells #[.int .i64 x.p.k, .int .i64 x.p.n, .string x.p.s, .slice xpo x.p.l.length xpc] 26)).alloc (.cells #[.int .i64 y.p.k, .int .i64 y.p.n, .string y.p.s, .slice ypo y.p.l.length ypc] 26)).alloc (.cells #[.slice (some ⟨w4.heap.size, 0, none⟩) 1 1, .slice (some ⟨w4.heap.size + 1, 0, none⟩) 1 1] 51)) := q2.trans (HBT.out.mono (by omega))
    exact (q3.grown hg9 (by rw [HST8.out]; omega) (fun k hk => (hot.lt hk).1)).setCell (p := ⟨tb, 0, none⟩) hb2 _
  have HEND := Hid.mk (And.intro hBA (And.intro (fun b (hb : D0 b) => hkD b (hD0 b hb)) hPS))
  have HTL9 : w.heap.size < w9.heap.size := by omega
  clear hBA hPS hE0 hS0 hDA hkD hT1 hT2 hotA hobA hg9v hg4v kA hb9 ht9 hx9 hy9 k95 k9 hto hvo hbb htb hob hot n1 n2 n3 n4' n5 hD hD0 hDn hvt hBT hTT hxp hxa hyp hya hxs hys hcx hcy ho9 hg9 hv9 cb4 ct4 fb4 ft4 HV4 HO4 HK4 HK5 HB4 HT4 HG4 HT1 HT2 HBT HT3 HONT HST8 HOT8 HST HRD HAR
  refine Hid.mk ?_
  go_wp2
  go_ret
  exact ⟨rfl, HEND.out.1, HEND.out.2.1, _, _, HEND.out.2.2⟩
end Go.Proofs.Ytijpmnenegdmnaa
