/- At every two programs SameProg answers as its model does, and writes into neither; no condition. -/
import Derived.Test.YtgigalcajgjpnaaRows
import Derived.Test.YtgigalcajgjpnaaExactSameProg
import Derived.WalkKit
import Derived.ProofKit
import Derived.OpenShut
import Derived.ShutString
import Derived.ChangeOld
import Derived.Below
import Derived.Lib.SmallJoins
namespace Go.Proofs.Ytgigalcajgjpnaa.fnExactSameProg
open Go.ChangeShapes Go.WideShapes Go.ChangeAt Go.RowKit
open Go.ChangeMaps (open_string shut_string)
set_option linter.unusedVariables false

theorem own : ownKnob Try.prog.godebug = none := by kernel_rfl
theorem laidOut : laidOutB Try.prog = true := by kernel_rfl

def IsRow (k : IntKind) (w : World) (a : Option Addr) (len cap : Nat) (zs : List Int) : Prop :=
  (a = none ∧ len = 0 ∧ cap = 0 ∧ zs = []) ∨
  ∃ x, a = some x ∧ len ≤ cap ∧ cap ≤ maxLen ∧ zs.length = cap ∧ (∀ i, i < zs.length → w.cell? (x.add i) = some (.int k (zs.getD i 0))) ∧ ∀ n ∈ zs, (Lit.int k n).wf = true

theorem walk (vx0 vy0 : Value) (lr0 : List Ru) (lf0 : List Fu) (vx1 vy1 : Value) (lr1 : List Ru) (lf1 : List Fu) (w : World) (w0 : Ul w anyBlock lr0 vx0 ∧ Fl w anyBlock lf0 vy0) (w1 : Ul w anyBlock lr1 vx1 ∧ Fl w anyBlock lf1 vy1) :
    Calls Try.prog 4 #[pgV vx0 vy0, pgV vx1 vy1] w fun e w' => e = .returned (.bool true) ∧ Below w.heap.size w w' := by
  exact fnExactSameProg_walk ⟨lr0, lf0⟩ ⟨lr1, lf1⟩ vx0 vy0 vx1 vy1 w w0.1 w0.2 w1.1 w1.2

set_option maxRecDepth 100000 in
theorem lifted (os : Os) (started : os.Started) (H : Type) (enc : TypeId × Value → H) :
    ReturnsInHanded {} Try.checked os 4 .any (Rows.fnExactSameProgSpec.pre6 enc Try.prog Try.f4 Rows.fnExactSameProgRow.domain false) (Rows.fnExactSameProgSpec.post enc Try.prog Try.f4 false true false false) := by
  refine returnsInHanded_of_change (C := Try.checked) own started (by kernel_rfl) Try.func4
    (ChangeSpec.witness6 (enc := enc) (C := Try.checked) false ⟨#[], #[.agg #[.slice none 0 0, .slice none 0 0], .agg #[.slice none 0 0, .slice none 0 0]], []⟩ 8 (by kernel_rfl) (by kernel_rfl) (by kernel_rfl) (by kernel_rfl)) ?_
  intro W base args ds gs before hval0 hW hcnd _
  have hval : ∀ (j : Nat) t v, Try.f4.params[j]? = some t → args[j]? = some v → Value.okWide Try.prog W .any base t v := hval0
  have hW' := hW
  obtain ⟨p, q, hA0, hV, rfl, hfz, hnd⟩ := hW
  have hA : DataW.TrodAll enc Try.prog W 0 (fun _ => true) true Try.f4.params.toList args.toList ds p := hA0
  rw [Try.params4] at hA hval
  obtain ⟨v0, vs0, d0, ds0, p0, q0, hargs, rfl, rfl, h0, r0⟩ := trodAll_cons hA
  obtain ⟨v1, vs1, d1, ds1, p1, q1, rfl, rfl, rfl, h1, r1⟩ := trodAll_cons r0
  obtain ⟨rfl, rfl, rfl⟩ := trodAll_nil r1
  obtain rfl : args = #[v0, v1] := by cases args; simp_all
  obtain ⟨rfl, rfl⟩ := trodVars_none hV
  have k0 := h0
  have lt0 : ∀ x ∈ p0, x.block < W.heap.size := by obtain ⟨m, hm⟩ := k0; exact DataW.trod_lt m _ _ _ hm
  obtain ⟨c00, c01, y00, y01, m0, rfl, hy00, hy01⟩ := open_agg2 (P := Try.prog) Try.underlying46 rfl rfl (by kernel_rfl) (by kernel_rfl) (by kernel_rfl) (hval 0 46 v0 rfl rfl) h0
  obtain ⟨vx0, lr0, e0, hlx0⟩ := Ul.of_trod (P := Try.prog) Try.underlying43 Try.underlying116 (by kernel_rfl) rfl rfl rfl rfl rfl rfl (by kernel_rfl) (by kernel_rfl) (by kernel_rfl) Try.underlying3 (Ex.of_struct (P := Try.prog) Try.underlying52 rfl rfl rfl rfl rfl rfl rfl rfl (by kernel_rfl) (by kernel_rfl) (by kernel_rfl) Try.underlying3 Try.underlying9 (El.of_trod (P := Try.prog) Try.underlying50 Try.underlying52 (by kernel_rfl) rfl rfl rfl rfl rfl rfl rfl rfl (by kernel_rfl) (by kernel_rfl) (by kernel_rfl) Try.underlying3 Try.underlying9)) (Sl.of_trod (P := Try.prog) Try.underlying56 Try.underlying58 (by kernel_rfl) rfl rfl rfl rfl rfl rfl rfl rfl rfl rfl rfl rfl (by kernel_rfl) (by kernel_rfl) (by kernel_rfl) (by kernel_rfl) Try.underlying3 Try.underlying9 (El.of_trod (P := Try.prog) Try.underlying50 Try.underlying52 (by kernel_rfl) rfl rfl rfl rfl rfl rfl rfl rfl (by kernel_rfl) (by kernel_rfl) (by kernel_rfl) Try.underlying3 Try.underlying9)) _ _ _ hy00
  obtain ⟨vy0, lf0, e1, hly0⟩ := Fl.of_trod (P := Try.prog) Try.underlying44 Try.underlying119 (by kernel_rfl) rfl rfl rfl rfl rfl rfl (by kernel_rfl) (by kernel_rfl) (by kernel_rfl) Try.underlying9 (Tb.of_trod (P := Try.prog) Try.underlying80 Try.underlying9 (by kernel_rfl)) (Sl.of_trod (P := Try.prog) Try.underlying56 Try.underlying58 (by kernel_rfl) rfl rfl rfl rfl rfl rfl rfl rfl rfl rfl rfl rfl (by kernel_rfl) (by kernel_rfl) (by kernel_rfl) (by kernel_rfl) Try.underlying3 Try.underlying9 (El.of_trod (P := Try.prog) Try.underlying50 Try.underlying52 (by kernel_rfl) rfl rfl rfl rfl rfl rfl rfl rfl (by kernel_rfl) (by kernel_rfl) (by kernel_rfl) Try.underlying3 Try.underlying9)) _ _ _ hy01
  simp at e0 e1
  have e0' := e0.symm
  have e1' := e1.symm
  clear e0 e1
  subst e0' e1'
  have w0 : Ul W anyBlock lr0 vx0 ∧ Fl W anyBlock lf0 vy0 := ⟨hlx0, hly0⟩
  have k1 := h1
  have lt1 : ∀ x ∈ p1, x.block < W.heap.size := by obtain ⟨m, hm⟩ := k1; exact DataW.trod_lt m _ _ _ hm
  obtain ⟨c10, c11, y10, y11, m1, rfl, hy10, hy11⟩ := open_agg2 (P := Try.prog) Try.underlying46 rfl rfl (by kernel_rfl) (by kernel_rfl) (by kernel_rfl) (hval 1 46 v1 rfl rfl) h1
  obtain ⟨vx1, lr1, e0, hlx1⟩ := Ul.of_trod (P := Try.prog) Try.underlying43 Try.underlying116 (by kernel_rfl) rfl rfl rfl rfl rfl rfl (by kernel_rfl) (by kernel_rfl) (by kernel_rfl) Try.underlying3 (Ex.of_struct (P := Try.prog) Try.underlying52 rfl rfl rfl rfl rfl rfl rfl rfl (by kernel_rfl) (by kernel_rfl) (by kernel_rfl) Try.underlying3 Try.underlying9 (El.of_trod (P := Try.prog) Try.underlying50 Try.underlying52 (by kernel_rfl) rfl rfl rfl rfl rfl rfl rfl rfl (by kernel_rfl) (by kernel_rfl) (by kernel_rfl) Try.underlying3 Try.underlying9)) (Sl.of_trod (P := Try.prog) Try.underlying56 Try.underlying58 (by kernel_rfl) rfl rfl rfl rfl rfl rfl rfl rfl rfl rfl rfl rfl (by kernel_rfl) (by kernel_rfl) (by kernel_rfl) (by kernel_rfl) Try.underlying3 Try.underlying9 (El.of_trod (P := Try.prog) Try.underlying50 Try.underlying52 (by kernel_rfl) rfl rfl rfl rfl rfl rfl rfl rfl (by kernel_rfl) (by kernel_rfl) (by kernel_rfl) Try.underlying3 Try.underlying9)) _ _ _ hy10
  obtain ⟨vy1, lf1, e1, hly1⟩ := Fl.of_trod (P := Try.prog) Try.underlying44 Try.underlying119 (by kernel_rfl) rfl rfl rfl rfl rfl rfl (by kernel_rfl) (by kernel_rfl) (by kernel_rfl) Try.underlying9 (Tb.of_trod (P := Try.prog) Try.underlying80 Try.underlying9 (by kernel_rfl)) (Sl.of_trod (P := Try.prog) Try.underlying56 Try.underlying58 (by kernel_rfl) rfl rfl rfl rfl rfl rfl rfl rfl rfl rfl rfl rfl (by kernel_rfl) (by kernel_rfl) (by kernel_rfl) (by kernel_rfl) Try.underlying3 Try.underlying9 (El.of_trod (P := Try.prog) Try.underlying50 Try.underlying52 (by kernel_rfl) rfl rfl rfl rfl rfl rfl rfl rfl (by kernel_rfl) (by kernel_rfl) (by kernel_rfl) Try.underlying3 Try.underlying9)) _ _ _ hy11
  simp at e0 e1
  have e0' := e0.symm
  have e1' := e1.symm
  clear e0 e1
  subst e0' e1'
  have w1 : Ul W anyBlock lr1 vx1 ∧ Fl W anyBlock lf1 vy1 := ⟨hlx1, hly1⟩
  clear hA0 hval0
  refine (walk vx0 vy0 lr0 lf0 vx1 vy1 lr1 lf1 W w0 w1).mono fun e W' ⟨he, bel⟩ => ?_
  subst he
  exact ⟨_, rfl, _, _, _, [], _, [], hW', trodAll_mk1 (shut_bool Try.underlying4 _), (trodAll_cons_mk (Below.trod laidOut (by kernel_rfl) (of_decide_eq_true (by kernel_rfl)) k0 bel lt0) (trodAll_cons_mk (Below.trod laidOut (by kernel_rfl) (of_decide_eq_true (by kernel_rfl)) k1 bel lt1) trodAll_mk0)), rfl, bel.frame _, fun h => by cases h⟩

theorem over : Rows.fnExactSameProgRow.holds Try.pinned (OpenSpec.ofChange Rows.fnExactSameProgSpec) :=
  OpenClaim.holds_of_wide 4 Try.f4 rfl rfl rfl rfl rfl rfl rfl ⟨rfl, rfl, rfl, rfl, rfl⟩ rfl rfl rfl rfl rfl (by kernel_rfl) Try.func4 (by kernel_rfl)
    (of_decide_eq_true (by kernel_rfl)) (by unfold Func.isWrapper; first | (rw [if_pos (by decide +kernel)]; kernel_rfl) | (rw [if_neg (by decide +kernel)]; exact ⟨rfl, rfl⟩))
    (fun os started H enc _ => lifted os started H enc)

end Go.Proofs.Ytgigalcajgjpnaa.fnExactSameProg
namespace Go.Proofs.Ytgigalcajgjpnaa
theorem fnExactSameProg_proved : Rows.FnExactSameProgSaid := fnExactSameProg.over
#print axioms fnExactSameProg_proved
end Go.Proofs.Ytgigalcajgjpnaa
