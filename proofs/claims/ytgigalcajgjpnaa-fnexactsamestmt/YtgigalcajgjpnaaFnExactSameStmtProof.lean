/- At every two statements SameStmt answers as its model does, and writes into neither; no condition. -/
import Derived.Test.YtgigalcajgjpnaaRows
import Derived.Test.YtgigalcajgjpnaaExactSameStmt
import Derived.WalkKit
import Derived.ProofKit
import Derived.OpenShut
import Derived.ShutString
import Derived.ChangeOld
import Derived.Below
import Derived.Lib.SmallJoins
namespace Go.Proofs.Ytgigalcajgjpnaa.fnExactSameStmt
open Go.ChangeShapes Go.WideShapes Go.ChangeAt Go.RowKit
open Go.ChangeMaps (open_string shut_string)
set_option linter.unusedVariables false

theorem own : ownKnob Try.prog.godebug = none := by kernel_rfl
theorem laidOut : laidOutB Try.prog = true := by kernel_rfl

def IsRow (k : IntKind) (w : World) (a : Option Addr) (len cap : Nat) (zs : List Int) : Prop :=
  (a = none ∧ len = 0 ∧ cap = 0 ∧ zs = []) ∨
  ∃ x, a = some x ∧ len ≤ cap ∧ cap ≤ maxLen ∧ zs.length = cap ∧ (∀ i, i < zs.length → w.cell? (x.add i) = some (.int k (zs.getD i 0))) ∧ ∀ n ∈ zs, (Lit.int k n).wf = true

theorem walk (g0 : Int) (s0 t0 : ByteArray) (vx0 va0 vb0 : Value) (lx0 : List Ex) (la0 lb0 : List St) (g1 : Int) (s1 t1 : ByteArray) (vx1 va1 vb1 : Value) (lx1 : List Ex) (la1 lb1 : List St) (w : World) (w0 : s0.size ≤ maxLen ∧ t0.size ≤ maxLen ∧ El w anyBlock lx0 vx0 ∧ Sl w anyBlock la0 va0 ∧ Sl w anyBlock lb0 vb0) (w1 : s1.size ≤ maxLen ∧ t1.size ≤ maxLen ∧ El w anyBlock lx1 vx1 ∧ Sl w anyBlock la1 va1 ∧ Sl w anyBlock lb1 vb1) :
    Calls Try.prog 6 #[st g0 s0 t0 vx0 va0 vb0, st g1 s1 t1 vx1 va1 vb1] w fun e w' => e = .returned (.bool true) ∧ Below w.heap.size w w' := by
  exact fnExactSameStmt_walk (.node g0 s0 t0 lx0 la0 lb0) (.node g1 s1 t1 lx1 la1 lb1) vx0 va0 vb0 vx1 va1 vb1 w w0.2.2.1 w0.2.2.2.1 w0.2.2.2.2 w1.2.2.1 w1.2.2.2.1 w1.2.2.2.2 w0.1 w0.2.1 w1.1 w1.2.1

set_option maxRecDepth 100000 in
theorem lifted (os : Os) (started : os.Started) (H : Type) (enc : TypeId × Value → H) :
    ReturnsInHanded {} Try.checked os 6 .any (Rows.fnExactSameStmtSpec.pre6 enc Try.prog Try.f6 Rows.fnExactSameStmtRow.domain false) (Rows.fnExactSameStmtSpec.post enc Try.prog Try.f6 false true false false) := by
  refine returnsInHanded_of_change (C := Try.checked) own started (by kernel_rfl) Try.func6
    (ChangeSpec.witness6 (enc := enc) (C := Try.checked) false ⟨#[], #[.agg #[.int .i64 0, .string ByteArray.empty, .string ByteArray.empty, .slice none 0 0, .slice none 0 0, .slice none 0 0], .agg #[.int .i64 0, .string ByteArray.empty, .string ByteArray.empty, .slice none 0 0, .slice none 0 0, .slice none 0 0]], []⟩ 8 (by kernel_rfl) (by kernel_rfl) (by kernel_rfl) (by kernel_rfl)) ?_
  intro W base args ds gs before hval0 hW hcnd _
  have hval : ∀ (j : Nat) t v, Try.f6.params[j]? = some t → args[j]? = some v → Value.okWide Try.prog W .any base t v := hval0
  have hW' := hW
  obtain ⟨p, q, hA0, hV, rfl, hfz, hnd⟩ := hW
  have hA : DataW.TrodAll enc Try.prog W 0 (fun _ => true) true Try.f6.params.toList args.toList ds p := hA0
  rw [Try.params6] at hA hval
  obtain ⟨v0, vs0, d0, ds0, p0, q0, hargs, rfl, rfl, h0, r0⟩ := trodAll_cons hA
  obtain ⟨v1, vs1, d1, ds1, p1, q1, rfl, rfl, rfl, h1, r1⟩ := trodAll_cons r0
  obtain ⟨rfl, rfl, rfl⟩ := trodAll_nil r1
  obtain rfl : args = #[v0, v1] := by cases args; simp_all
  obtain ⟨rfl, rfl⟩ := trodVars_none hV
  have k0 := h0
  have lt0 : ∀ x ∈ p0, x.block < W.heap.size := by obtain ⟨m, hm⟩ := k0; exact DataW.trod_lt m _ _ _ hm
  obtain ⟨c00, c01, c02, c03, c04, c05, y00, y01, y02, y03, y04, y05, m0, rfl, hy00, hy01, hy02, hy03, hy04, hy05⟩ := open_agg6 (P := Try.prog) Try.underlying58 rfl rfl rfl rfl rfl rfl (by kernel_rfl) (by kernel_rfl) (by kernel_rfl) (by kernel_rfl) (by kernel_rfl) (by kernel_rfl) (by kernel_rfl) (hval 0 58 v0 rfl rfl) h0
  obtain ⟨g0, e0, -, -⟩ := DataW.trod_int Try.underlying3 hy00
  obtain ⟨s0, e1, -, ws0⟩ := DataW.trod_string Try.underlying9 hy01
  obtain ⟨t0, e2, -, wt0⟩ := DataW.trod_string Try.underlying9 hy02
  obtain ⟨vx0, lx0, e3, hlx0⟩ := El.of_trod (P := Try.prog) Try.underlying50 Try.underlying52 (by kernel_rfl) rfl rfl rfl rfl rfl rfl rfl rfl (by kernel_rfl) (by kernel_rfl) (by kernel_rfl) Try.underlying3 Try.underlying9 _ _ _ hy03
  obtain ⟨va0, la0, e4, hla0⟩ := Sl.of_trod (P := Try.prog) Try.underlying56 Try.underlying58 (by kernel_rfl) rfl rfl rfl rfl rfl rfl rfl rfl rfl rfl rfl rfl (by kernel_rfl) (by kernel_rfl) (by kernel_rfl) (by kernel_rfl) Try.underlying3 Try.underlying9 (El.of_trod (P := Try.prog) Try.underlying50 Try.underlying52 (by kernel_rfl) rfl rfl rfl rfl rfl rfl rfl rfl (by kernel_rfl) (by kernel_rfl) (by kernel_rfl) Try.underlying3 Try.underlying9) _ _ _ hy04
  obtain ⟨vb0, lb0, e5, hlb0⟩ := Sl.of_trod (P := Try.prog) Try.underlying56 Try.underlying58 (by kernel_rfl) rfl rfl rfl rfl rfl rfl rfl rfl rfl rfl rfl rfl (by kernel_rfl) (by kernel_rfl) (by kernel_rfl) (by kernel_rfl) Try.underlying3 Try.underlying9 (El.of_trod (P := Try.prog) Try.underlying50 Try.underlying52 (by kernel_rfl) rfl rfl rfl rfl rfl rfl rfl rfl (by kernel_rfl) (by kernel_rfl) (by kernel_rfl) Try.underlying3 Try.underlying9) _ _ _ hy05
  simp at e0 e1 e2 e3 e4 e5
  have e3' := e3.symm
  have e4' := e4.symm
  have e5' := e5.symm
  clear e3 e4 e5
  subst e0 e1 e2 e3' e4' e5'
  have w0 : s0.size ≤ maxLen ∧ t0.size ≤ maxLen ∧ El W anyBlock lx0 vx0 ∧ Sl W anyBlock la0 va0 ∧ Sl W anyBlock lb0 vb0 := ⟨ws0, wt0, hlx0, hla0, hlb0⟩
  have k1 := h1
  have lt1 : ∀ x ∈ p1, x.block < W.heap.size := by obtain ⟨m, hm⟩ := k1; exact DataW.trod_lt m _ _ _ hm
  obtain ⟨c10, c11, c12, c13, c14, c15, y10, y11, y12, y13, y14, y15, m1, rfl, hy10, hy11, hy12, hy13, hy14, hy15⟩ := open_agg6 (P := Try.prog) Try.underlying58 rfl rfl rfl rfl rfl rfl (by kernel_rfl) (by kernel_rfl) (by kernel_rfl) (by kernel_rfl) (by kernel_rfl) (by kernel_rfl) (by kernel_rfl) (hval 1 58 v1 rfl rfl) h1
  obtain ⟨g1, e0, -, -⟩ := DataW.trod_int Try.underlying3 hy10
  obtain ⟨s1, e1, -, ws1⟩ := DataW.trod_string Try.underlying9 hy11
  obtain ⟨t1, e2, -, wt1⟩ := DataW.trod_string Try.underlying9 hy12
  obtain ⟨vx1, lx1, e3, hlx1⟩ := El.of_trod (P := Try.prog) Try.underlying50 Try.underlying52 (by kernel_rfl) rfl rfl rfl rfl rfl rfl rfl rfl (by kernel_rfl) (by kernel_rfl) (by kernel_rfl) Try.underlying3 Try.underlying9 _ _ _ hy13
  obtain ⟨va1, la1, e4, hla1⟩ := Sl.of_trod (P := Try.prog) Try.underlying56 Try.underlying58 (by kernel_rfl) rfl rfl rfl rfl rfl rfl rfl rfl rfl rfl rfl rfl (by kernel_rfl) (by kernel_rfl) (by kernel_rfl) (by kernel_rfl) Try.underlying3 Try.underlying9 (El.of_trod (P := Try.prog) Try.underlying50 Try.underlying52 (by kernel_rfl) rfl rfl rfl rfl rfl rfl rfl rfl (by kernel_rfl) (by kernel_rfl) (by kernel_rfl) Try.underlying3 Try.underlying9) _ _ _ hy14
  obtain ⟨vb1, lb1, e5, hlb1⟩ := Sl.of_trod (P := Try.prog) Try.underlying56 Try.underlying58 (by kernel_rfl) rfl rfl rfl rfl rfl rfl rfl rfl rfl rfl rfl rfl (by kernel_rfl) (by kernel_rfl) (by kernel_rfl) (by kernel_rfl) Try.underlying3 Try.underlying9 (El.of_trod (P := Try.prog) Try.underlying50 Try.underlying52 (by kernel_rfl) rfl rfl rfl rfl rfl rfl rfl rfl (by kernel_rfl) (by kernel_rfl) (by kernel_rfl) Try.underlying3 Try.underlying9) _ _ _ hy15
  simp at e0 e1 e2 e3 e4 e5
  have e3' := e3.symm
  have e4' := e4.symm
  have e5' := e5.symm
  clear e3 e4 e5
  subst e0 e1 e2 e3' e4' e5'
  have w1 : s1.size ≤ maxLen ∧ t1.size ≤ maxLen ∧ El W anyBlock lx1 vx1 ∧ Sl W anyBlock la1 va1 ∧ Sl W anyBlock lb1 vb1 := ⟨ws1, wt1, hlx1, hla1, hlb1⟩
  clear hA0 hval0
  refine (walk g0 s0 t0 vx0 va0 vb0 lx0 la0 lb0 g1 s1 t1 vx1 va1 vb1 lx1 la1 lb1 W w0 w1).mono fun e W' ⟨he, bel⟩ => ?_
  subst he
  exact ⟨_, rfl, _, _, _, [], _, [], hW', trodAll_mk1 (shut_bool Try.underlying4 _), (trodAll_cons_mk (Below.trod laidOut (by kernel_rfl) (of_decide_eq_true (by kernel_rfl)) k0 bel lt0) (trodAll_cons_mk (Below.trod laidOut (by kernel_rfl) (of_decide_eq_true (by kernel_rfl)) k1 bel lt1) trodAll_mk0)), rfl, bel.frame _, fun h => by cases h⟩

theorem over : Rows.fnExactSameStmtRow.holds Try.pinned (OpenSpec.ofChange Rows.fnExactSameStmtSpec) :=
  OpenClaim.holds_of_wide 6 Try.f6 rfl rfl rfl rfl rfl rfl rfl ⟨rfl, rfl, rfl, rfl, rfl⟩ rfl rfl rfl rfl rfl (by kernel_rfl) Try.func6 (by kernel_rfl)
    (of_decide_eq_true (by kernel_rfl)) (by unfold Func.isWrapper; first | (rw [if_pos (by decide +kernel)]; kernel_rfl) | (rw [if_neg (by decide +kernel)]; exact ⟨rfl, rfl⟩))
    (fun os started H enc _ => lifted os started H enc)

end Go.Proofs.Ytgigalcajgjpnaa.fnExactSameStmt
namespace Go.Proofs.Ytgigalcajgjpnaa
theorem fnExactSameStmt_proved : Rows.FnExactSameStmtSaid := fnExactSameStmt.over
#print axioms fnExactSameStmt_proved
end Go.Proofs.Ytgigalcajgjpnaa
