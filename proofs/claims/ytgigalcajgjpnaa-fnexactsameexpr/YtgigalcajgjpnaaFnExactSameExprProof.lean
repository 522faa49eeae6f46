/- At every two terms SameExpr answers as its model does, and writes into neither; no condition. -/
import Derived.Test.YtgigalcajgjpnaaRows
import Derived.Test.YtgigalcajgjpnaaExactSameExpr
import Derived.WalkKit
import Derived.ProofKit
import Derived.OpenShut
import Derived.ShutString
import Derived.ChangeOld
import Derived.Below
import Derived.Lib.SmallJoins
namespace Go.Proofs.Ytgigalcajgjpnaa.fnExactSameExpr
open Go.ChangeShapes Go.WideShapes Go.ChangeAt Go.RowKit
open Go.ChangeMaps (open_string shut_string)
set_option linter.unusedVariables false

theorem own : ownKnob Try.prog.godebug = none := by kernel_rfl
theorem laidOut : laidOutB Try.prog = true := by kernel_rfl

def IsRow (k : IntKind) (w : World) (a : Option Addr) (len cap : Nat) (zs : List Int) : Prop :=
  (a = none ∧ len = 0 ∧ cap = 0 ∧ zs = []) ∨
  ∃ x, a = some x ∧ len ≤ cap ∧ cap ≤ maxLen ∧ zs.length = cap ∧ (∀ i, i < zs.length → w.cell? (x.add i) = some (.int k (zs.getD i 0))) ∧ ∀ n ∈ zs, (Lit.int k n).wf = true

theorem walk (g0 q0 : Int) (s0 : ByteArray) (u0 : Value) (l0 : List Ex) (g1 q1 : Int) (s1 : ByteArray) (u1 : Value) (l1 : List Ex) (w : World) (w0 : s0.size ≤ maxLen ∧ El w anyBlock l0 u0) (w1 : s1.size ≤ maxLen ∧ El w anyBlock l1 u1) :
    Calls Try.prog 5 #[xx g0 q0 s0 u0, xx g1 q1 s1 u1] w fun e w' => e = .returned (.bool true) ∧ Below w.heap.size w w' := by
  exact fnExactSameExpr_walk (.node g0 q0 s0 l0) (.node g1 q1 s1 l1) u0 u1 w w0.2 w1.2 w0.1 w1.1

set_option maxRecDepth 100000 in
theorem lifted (os : Os) (started : os.Started) (H : Type) (enc : TypeId × Value → H) :
    ReturnsInHanded {} Try.checked os 5 .any (Rows.fnExactSameExprSpec.pre6 enc Try.prog Try.f5 Rows.fnExactSameExprRow.domain false) (Rows.fnExactSameExprSpec.post enc Try.prog Try.f5 false true false false) := by
  refine returnsInHanded_of_change (C := Try.checked) own started (by kernel_rfl) Try.func5
    (ChangeSpec.witness6 (enc := enc) (C := Try.checked) false ⟨#[], #[.agg #[.int .i64 0, .int .i64 0, .string ByteArray.empty, .slice none 0 0], .agg #[.int .i64 0, .int .i64 0, .string ByteArray.empty, .slice none 0 0]], []⟩ 8 (by kernel_rfl) (by kernel_rfl) (by kernel_rfl) (by kernel_rfl)) ?_
  intro W base args ds gs before hval0 hW hcnd _
  have hval : ∀ (j : Nat) t v, Try.f5.params[j]? = some t → args[j]? = some v → Value.okWide Try.prog W .any base t v := hval0
  have hW' := hW
  obtain ⟨p, q, hA0, hV, rfl, hfz, hnd⟩ := hW
  have hA : DataW.TrodAll enc Try.prog W 0 (fun _ => true) true Try.f5.params.toList args.toList ds p := hA0
  rw [Try.params5] at hA hval
  obtain ⟨v0, vs0, d0, ds0, p0, q0, hargs, rfl, rfl, h0, r0⟩ := trodAll_cons hA
  obtain ⟨v1, vs1, d1, ds1, p1, q1, rfl, rfl, rfl, h1, r1⟩ := trodAll_cons r0
  obtain ⟨rfl, rfl, rfl⟩ := trodAll_nil r1
  obtain rfl : args = #[v0, v1] := by cases args; simp_all
  obtain ⟨rfl, rfl⟩ := trodVars_none hV
  have k0 := h0
  have lt0 : ∀ x ∈ p0, x.block < W.heap.size := by obtain ⟨m, hm⟩ := k0; exact DataW.trod_lt m _ _ _ hm
  obtain ⟨c00, c0q, c01, c02, y00, y0q, y01, y02, m0, rfl, hy00, hy0q, hy01, hy02⟩ := open_agg4 (P := Try.prog) Try.underlying52 rfl rfl rfl rfl (by kernel_rfl) (by kernel_rfl) (by kernel_rfl) (by kernel_rfl) (by kernel_rfl) (hval 0 52 v0 rfl rfl) h0
  obtain ⟨g0, e0, -, -⟩ := DataW.trod_int Try.underlying3 hy00
  obtain ⟨q0, eq, -, -⟩ := DataW.trod_int Try.underlying3 hy0q
  obtain ⟨s0, e1, -, ws0⟩ := DataW.trod_string Try.underlying9 hy01
  obtain ⟨u0, l0, e2, hl0⟩ := El.of_trod (P := Try.prog) Try.underlying50 Try.underlying52 (by kernel_rfl) rfl rfl rfl rfl rfl rfl rfl rfl (by kernel_rfl) (by kernel_rfl) (by kernel_rfl) Try.underlying3 Try.underlying9 _ _ _ hy02
  simp at e0 eq e1 e2
  have e3 := e2.symm
  subst e0 eq e1 e3
  have w0 : s0.size ≤ maxLen ∧ El W anyBlock l0 u0 := ⟨ws0, hl0⟩
  have k1 := h1
  have lt1 : ∀ x ∈ p1, x.block < W.heap.size := by obtain ⟨m, hm⟩ := k1; exact DataW.trod_lt m _ _ _ hm
  obtain ⟨c10, c1q, c11, c12, y10, y1q, y11, y12, m1, rfl, hy10, hy1q, hy11, hy12⟩ := open_agg4 (P := Try.prog) Try.underlying52 rfl rfl rfl rfl (by kernel_rfl) (by kernel_rfl) (by kernel_rfl) (by kernel_rfl) (by kernel_rfl) (hval 1 52 v1 rfl rfl) h1
  obtain ⟨g1, e0, -, -⟩ := DataW.trod_int Try.underlying3 hy10
  obtain ⟨q1, eq, -, -⟩ := DataW.trod_int Try.underlying3 hy1q
  obtain ⟨s1, e1, -, ws1⟩ := DataW.trod_string Try.underlying9 hy11
  obtain ⟨u1, l1, e2, hl1⟩ := El.of_trod (P := Try.prog) Try.underlying50 Try.underlying52 (by kernel_rfl) rfl rfl rfl rfl rfl rfl rfl rfl (by kernel_rfl) (by kernel_rfl) (by kernel_rfl) Try.underlying3 Try.underlying9 _ _ _ hy12
  simp at e0 eq e1 e2
  have e3 := e2.symm
  subst e0 eq e1 e3
  have w1 : s1.size ≤ maxLen ∧ El W anyBlock l1 u1 := ⟨ws1, hl1⟩
  clear hA0 hval0
  refine (walk g0 q0 s0 u0 l0 g1 q1 s1 u1 l1 W w0 w1).mono fun e W' ⟨he, bel⟩ => ?_
  subst he
  exact ⟨_, rfl, _, _, _, [], _, [], hW', trodAll_mk1 (shut_bool Try.underlying4 _), (trodAll_cons_mk (Below.trod laidOut (by kernel_rfl) (of_decide_eq_true (by kernel_rfl)) k0 bel lt0) (trodAll_cons_mk (Below.trod laidOut (by kernel_rfl) (of_decide_eq_true (by kernel_rfl)) k1 bel lt1) trodAll_mk0)), rfl, bel.frame _, fun h => by cases h⟩

theorem over : Rows.fnExactSameExprRow.holds Try.pinned (OpenSpec.ofChange Rows.fnExactSameExprSpec) :=
  OpenClaim.holds_of_wide 5 Try.f5 rfl rfl rfl rfl rfl rfl rfl ⟨rfl, rfl, rfl, rfl, rfl⟩ rfl rfl rfl rfl rfl (by kernel_rfl) Try.func5 (by kernel_rfl)
    (of_decide_eq_true (by kernel_rfl)) (by unfold Func.isWrapper; first | (rw [if_pos (by decide +kernel)]; kernel_rfl) | (rw [if_neg (by decide +kernel)]; exact ⟨rfl, rfl⟩))
    (fun os started H enc _ => lifted os started H enc)

end Go.Proofs.Ytgigalcajgjpnaa.fnExactSameExpr
namespace Go.Proofs.Ytgigalcajgjpnaa
theorem fnExactSameExpr_proved : Rows.FnExactSameExprSaid := fnExactSameExpr.over
#print axioms fnExactSameExpr_proved
end Go.Proofs.Ytgigalcajgjpnaa
