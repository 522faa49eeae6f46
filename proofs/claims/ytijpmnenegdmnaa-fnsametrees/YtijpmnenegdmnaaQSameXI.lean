/- Two terms: the program's sameExprs and SameExpr say whether they are the same. -/
import Derived.Test.YtijpmnenegdmnaaQListsX
import Derived.Test.YtijpmnenegdmnaaQExSame
import Derived.Test.YtijpmnenegdmnaaQUfU
namespace Go.Proofs.Ytijpmnenegdmnaa
open Go.RowKit
set_option maxRecDepth 8000

theorem sameExprs_any (W0 : List (Prr Ex)) (v : Value) (w : World) (base : Nat) (D : Nat → Prop) (hown : OwnRX w base v W0) (hD : DkS w D) (hDv : ∀ b, D b → some b ≠ v.ownBlock) (hW : ∀ q ∈ W0, El w D q.a q.u ∧ El w D q.b q.v)
    (hsz : mx W0 ≤ 1099511627776) (hbase : base ≤ w.heap.size) :
    Calls Try.prog 20 #[v] w fun e w' => ∃ r, e = .returned (.bool r) ∧ (r = true ↔ Sme W0) ∧ Below base w w' := by
  have HS := Hid.mk (sameListsX_any W0 v w base D hown hD hDv hW hsz hbase)
  clear hown hD hDv hW hsz
  go_enter Try.func20, Try.ntmps20
  go_wp2_with fail
  refine HS.out.mono ?_
  rintro e w' ⟨r, rfl, hr, hb⟩
  have HR := Hid.mk hr
  clear hr
  go_wp2
  go_ret
  exact ⟨r, rfl, HR.out, hb⟩

/-- Blocks of cells below n, none of them frozen. -/
def DD (w : World) (n : Nat) (b : Nat) : Prop := b < n ∧ (∃ c e f, w.heap[b]? = some (.cells c e f)) ∧ uf w b
theorem DD.dks (w : World) (n : Nat) : DkS w (DD w n) := fun _ h => h.2
theorem El.toD {w w' : World} {l : List Ex} {v : Value} (h : El w (uf w) l v) (hb : Below w.heap.size w w') {n : Nat} (hn : w.heap.size ≤ n) : El w' (DD w' n) l v := by
  have h1 : El w (fun b => b < w.heap.size ∧ uf w b ∧ ∃ c e f, w.heap[b]? = some (.cells c e f)) l v := h.cells.imp fun b hb hlt => ⟨hlt, hb.1, hb.2⟩
  refine (h1.grow hb).imp fun b hq _ => ?_
  obtain ⟨hlt, hf, c, e, f, hc⟩ := hq
  have hh := hb.block b hlt
  exact ⟨by omega, ⟨c, e, f, hh.trans hc⟩, fun o => by rw [World.frozen?_of_block (w := w) (a := ⟨b, o, none⟩) hh]; exact hf o⟩
theorem DD.new {w : World} {g n : Nat} {c : Array Value} {e : TypeId} (hg : w.heap[g]? = some (.cells c e (0, 0))) (hn : g < n) : DD w n g :=
  ⟨hn, ⟨_, _, _, hg⟩, fun o => by simp [World.frozen?, hg]⟩
/-- A term in a list of its own. -/
theorem El.alone {w : World} {D : Nat → Prop} {a : Ex} {x : Value} {g : Nat} (hg : w.heap[g]? = some (.cells #[.int .i64 a.k, .int .i64 a.n, .string a.s, x] 26 (0, 0))) (hD : D g) (hs : a.s.size ≤ maxLen) (hx : El w D a.l x) : El w D [a] (.slice (some ⟨g, 0, none⟩) 1 1) := by
  have := El.full (w := w) (B := D) [a] g 0 1 (fun _ => x) hD (by simp) (by simp) (by unfold maxLen; omega) (fun i h => by
      have h0 : i = 0 := by simpa using h
      subst h0
      exact hs)
    (fun i h => by
      have h0 : i = 0 := by simpa using h
      subst h0
      exact ⟨by rw [cell_of_row w _ _ _ _ (0, 0) hg]; rfl, by rw [cell_of_row w _ _ _ _ (0, 0) hg]; rfl, by rw [cell_of_row w _ _ _ _ (0, 0) hg]; rfl, by rw [cell_of_row w _ _ _ _ (0, 0) hg]; rfl⟩)
    (fun i h => by
      have h0 : i = 0 := by simpa using h
      subst h0
      exact hx)
  exact this

set_option maxHeartbeats 2000000 in
theorem implSameExpr_any (a b : Ex) (x y : Value) (w : World) (hx : El w (uf w) a.l x) (hy : El w (uf w) b.l y) (hsa : a.s.size ≤ maxLen) (hsb : b.s.size ≤ maxLen) (hz : b.sz ≤ 68719476736) :
    Calls Try.prog 8 #[xx a.k a.n a.s x, xx b.k b.n b.s y] w fun e w' => e = .returned (.bool (sameX a b)) ∧ Below w.heap.size w w' := by
  obtain ⟨xo, xc, rfl, -⟩ := hx.len
  obtain ⟨yo, yc, rfl, -⟩ := hy.len
  have B2 : Below w.heap.size w ((w.alloc (.cells #[.int .i64 a.k, .int .i64 a.n, .string a.s, .slice xo a.l.length xc] 26)).alloc (.cells #[.int .i64 b.k, .int .i64 b.n, .string b.s, .slice yo b.l.length yc] 26)) := ((Below.refl _ _).alloc (Nat.le_refl _) _).alloc (by simp) _
  have S2 : ((w.alloc (.cells #[.int .i64 a.k, .int .i64 a.n, .string a.s, .slice xo a.l.length xc] 26)).alloc (.cells #[.int .i64 b.k, .int .i64 b.n, .string b.s, .slice yo b.l.length yc] 26)).heap.size = w.heap.size + 2 := by simp
  have HB2 := Hid.mk B2
  have HS2 := Hid.mk S2
  have HX := Hid.mk hx
  have HY := Hid.mk hy
  have HA := Hid.mk hsa
  have HB := Hid.mk hsb
  have HZ := Hid.mk hz
  clear B2 S2 hx hy hsa hsb hz
  go_enter Try.func8, Try.ntmps8
  go_wp2_with fail
  generalize (w.alloc (.cells #[.int .i64 a.k, .int .i64 a.n, .string a.s, .slice xo a.l.length xc] 26)).alloc (.cells #[.int .i64 b.k, .int .i64 b.n, .string b.s, .slice yo b.l.length yc] 26) = W2 at *
  obtain ⟨hA, hB, hP, hb5, hs5⟩ := three_alloc W2 (w.heap.size + 1 + 1) HS2.out (.cells #[.int .i64 a.k, .int .i64 a.n, .string a.s, .slice xo a.l.length xc] 26) (.cells #[.int .i64 b.k, .int .i64 b.n, .string b.s, .slice yo b.l.length yc] 26)
    (.cells #[.slice (some ⟨w.heap.size + 1 + 1, 0, none⟩) 1 1, .slice (some ⟨w.heap.size + 1 + 1 + 1, 0, none⟩) 1 1] 51)
  generalize ((W2.alloc (.cells #[.int .i64 a.k, .int .i64 a.n, .string a.s, .slice xo a.l.length xc] 26)).alloc (.cells #[.int .i64 b.k, .int .i64 b.n, .string b.s, .slice yo b.l.length yc] 26)).alloc
    (.cells #[.slice (some ⟨w.heap.size + 1 + 1, 0, none⟩) 1 1, .slice (some ⟨w.heap.size + 1 + 1 + 1, 0, none⟩) 1 1] 51) = W5 at *
  have hbw : Below w.heap.size w W5 := HB2.out.trans (hb5.mono (by omega))
  have hxD := HX.out.toD hbw (n := w.heap.size + 1 + 1 + 1 + 1) (by omega)
  have hyD := HY.out.toD hbw (n := w.heap.size + 1 + 1 + 1 + 1) (by omega)
  have hqa := El.alone (x := .slice xo a.l.length xc) hA (DD.new (n := w.heap.size + 1 + 1 + 1 + 1) hA (by omega)) HA.out hxD
  have hqb := El.alone (x := .slice yo b.l.length yc) hB (DD.new (n := w.heap.size + 1 + 1 + 1 + 1) hB (by omega)) HB.out hyD
  have hown : OwnRX W5 (w.heap.size + 1 + 1 + 1 + 1) (.slice (some ⟨w.heap.size + 1 + 1 + 1 + 1, 0, none⟩) 1 1) [⟨[a], [b], .slice (some ⟨w.heap.size + 1 + 1, 0, none⟩) 1 1, .slice (some ⟨w.heap.size + 1 + 1 + 1, 0, none⟩) 1 1⟩] :=
    ⟨rfl, .inr ⟨_, 1, _, rfl, Nat.le_refl _, hP, Nat.le_refl _, by unfold maxLen; omega, rfl, rfl⟩⟩
  refine (sameExprs_any [⟨[a], [b], .slice (some ⟨w.heap.size + 1 + 1, 0, none⟩) 1 1, .slice (some ⟨w.heap.size + 1 + 1 + 1, 0, none⟩) 1 1⟩] _ W5 (w.heap.size + 1 + 1 + 1 + 1) (DD W5 (w.heap.size + 1 + 1 + 1 + 1)) hown (DD.dks _ _) (fun b hb => ?_) (fun q hq => ?_) ?_ (by omega)).mono ?_
  · intro e
    simp [Value.ownBlock] at e
    have := hb.1
    omega
  · obtain rfl : q = _ := by simpa using hq
    exact ⟨hqa, hqb⟩
  · have hz0 := HZ.out
    simp only [mx, szx]
    omega
  rintro e w' ⟨r, rfl, hr, hb⟩
  have HR : Hid (r = sameX a b) := by
    refine Hid.mk ?_
    have : Sme [(⟨[a], [b], .slice (some ⟨w.heap.size + 1 + 1, 0, none⟩) 1 1, .slice (some ⟨w.heap.size + 1 + 1 + 1, 0, none⟩) 1 1⟩ : Prr Ex)] ↔ a = b := by rw [Sme.one]; simp
    rw [this, ← sameX_iff] at hr
    cases r <;> cases hq : sameX a b <;> simp_all
  clear hr hown hqa hqb hxD hyD hA hB hP hb5
  go_wp2
  go_ret
  have hr' := HR.out
  subst hr'
  exact ⟨rfl, hbw.trans (hb.mono (by omega))⟩
end Go.Proofs.Ytijpmnenegdmnaa
