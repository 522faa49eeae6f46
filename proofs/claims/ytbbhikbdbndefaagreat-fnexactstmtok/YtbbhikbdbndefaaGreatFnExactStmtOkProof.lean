/- At every statement, StmtOk of the program answers as the document model of it does; it writes into no argument; no condition. -/
import Derived.Test.YtbbhikbdbndefaaGreatRows
import Derived.Test.YtbbhikbdbndefaaGreatPk5
import Derived.WalkKit
import Derived.ProofKit
import Derived.OpenShut
import Derived.ShutString
import Derived.ChangeOld
import Derived.Below
import Derived.Lib.SmallJoins
namespace Go.Proofs.YtbbhikbdbndefaaGreat.fnExactStmtOk
open Go.ChangeShapes Go.WideShapes Go.ChangeAt Go.RowKit
open Go.ChangeMaps (open_string shut_string)
set_option linter.unusedVariables false

theorem own : ownKnob Tryz.prog.godebug = none := by kernel_rfl
theorem laidOut : laidOutB Tryz.prog = true := by kernel_rfl

def IsRow (k : IntKind) (w : World) (a : Option Addr) (len cap : Nat) (zs : List Int) : Prop :=
  (a = none ∧ len = 0 ∧ cap = 0 ∧ zs = []) ∨
  ∃ x, a = some x ∧ len ≤ cap ∧ cap ≤ maxLen ∧ zs.length = cap ∧ (∀ i, i < zs.length → w.cell? (x.add i) = some (.int k (zs.getD i 0))) ∧ ∀ n ∈ zs, (Lit.int k n).wf = true

theorem walk (g0 : Int) (s0 t0 : ByteArray) (vx0 va0 vb0 : Value) (lx0 : List Ex) (la0 lb0 : List St) (w : World) (w0 : s0.size ≤ maxLen ∧ t0.size ≤ maxLen ∧ El w anyBlock lx0 vx0 ∧ Sl w anyBlock la0 va0 ∧ Sl w anyBlock lb0 vb0) :
    Calls Tryz.prog 3 #[st g0 s0 t0 vx0 va0 vb0] w fun e w' => e = .returned (.bool true) ∧ Below w.heap.size w w' := by
  exact fnExactStmtOk_walk (.node g0 s0 t0 lx0 la0 lb0) vx0 va0 vb0 w w0.2.2.1 w0.2.2.2.1 w0.2.2.2.2 w0.1 w0.2.1

set_option maxRecDepth 100000 in
theorem lifted (os : Os) (started : os.Started) (H : Type) (enc : TypeId × Value → H) :
    ReturnsInHanded {} Tryz.checked os 3 .any (Rows.fnExactStmtOkSpec.pre6 enc Tryz.prog Tryz.f3 Rows.fnExactStmtOkRow.domain false) (Rows.fnExactStmtOkSpec.post enc Tryz.prog Tryz.f3 false true false false) := by
  refine returnsInHanded_of_change (C := Tryz.checked) own started (by kernel_rfl) Tryz.func3
    (ChangeSpec.witness6 (enc := enc) (C := Tryz.checked) false ⟨#[], #[.agg #[.int .i64 0, .string ByteArray.empty, .string ByteArray.empty, .slice none 0 0, .slice none 0 0, .slice none 0 0]], []⟩ 8 (by kernel_rfl) (by kernel_rfl) (by kernel_rfl) (by kernel_rfl)) ?_
  intro W base args ds gs before hval0 hW hcnd _
  have hval : ∀ (j : Nat) t v, Tryz.f3.params[j]? = some t → args[j]? = some v → Value.okWide Tryz.prog W .any base t v := hval0
  have hW' := hW
  obtain ⟨p, q, hA0, hV, rfl, hfz, hnd⟩ := hW
  have hA : DataW.TrodAll enc Tryz.prog W 0 (fun _ => true) true Tryz.f3.params.toList args.toList ds p := hA0
  rw [Tryz.params3] at hA hval
  obtain ⟨v0, vs0, d0, ds0, p0, q0, hargs, rfl, rfl, h0, r0⟩ := trodAll_cons hA
  obtain ⟨rfl, rfl, rfl⟩ := trodAll_nil r0
  obtain rfl : args = #[v0] := by cases args; simp_all
  obtain ⟨rfl, rfl⟩ := trodVars_none hV
  have k0 := h0
  have lt0 : ∀ x ∈ p0, x.block < W.heap.size := by obtain ⟨m, hm⟩ := k0; exact DataW.trod_lt m _ _ _ hm
  obtain ⟨c00, c01, c02, c03, c04, c05, y00, y01, y02, y03, y04, y05, m0, rfl, hy00, hy01, hy02, hy03, hy04, hy05⟩ := open_agg6 (P := Tryz.prog) Tryz.underlying25 rfl rfl rfl rfl rfl rfl (by kernel_rfl) (by kernel_rfl) (by kernel_rfl) (by kernel_rfl) (by kernel_rfl) (by kernel_rfl) (by kernel_rfl) (hval 0 25 v0 rfl rfl) h0
  obtain ⟨g0, e0, -, -⟩ := DataW.trod_int Tryz.underlying3 hy00
  obtain ⟨s0, e1, -, ws0⟩ := DataW.trod_string Tryz.underlying9 hy01
  obtain ⟨t0, e2, -, wt0⟩ := DataW.trod_string Tryz.underlying9 hy02
  obtain ⟨vx0, lx0, e3, hlx0⟩ := El.of_trod (P := Tryz.prog) Tryz.underlying22 Tryz.underlying42 (by kernel_rfl) rfl rfl rfl rfl rfl rfl rfl rfl (by kernel_rfl) (by kernel_rfl) (by kernel_rfl) Tryz.underlying3 Tryz.underlying9 _ _ _ hy03
  obtain ⟨va0, la0, e4, hla0⟩ := Sl.of_trod (P := Tryz.prog) Tryz.underlying23 Tryz.underlying25 (by kernel_rfl) rfl rfl rfl rfl rfl rfl rfl rfl rfl rfl rfl rfl (by kernel_rfl) (by kernel_rfl) (by kernel_rfl) (by kernel_rfl) Tryz.underlying3 Tryz.underlying9 (El.of_trod (P := Tryz.prog) Tryz.underlying22 Tryz.underlying42 (by kernel_rfl) rfl rfl rfl rfl rfl rfl rfl rfl (by kernel_rfl) (by kernel_rfl) (by kernel_rfl) Tryz.underlying3 Tryz.underlying9) _ _ _ hy04
  obtain ⟨vb0, lb0, e5, hlb0⟩ := Sl.of_trod (P := Tryz.prog) Tryz.underlying23 Tryz.underlying25 (by kernel_rfl) rfl rfl rfl rfl rfl rfl rfl rfl rfl rfl rfl rfl (by kernel_rfl) (by kernel_rfl) (by kernel_rfl) (by kernel_rfl) Tryz.underlying3 Tryz.underlying9 (El.of_trod (P := Tryz.prog) Tryz.underlying22 Tryz.underlying42 (by kernel_rfl) rfl rfl rfl rfl rfl rfl rfl rfl (by kernel_rfl) (by kernel_rfl) (by kernel_rfl) Tryz.underlying3 Tryz.underlying9) _ _ _ hy05
  simp at e0 e1 e2 e3 e4 e5
  have e3' := e3.symm
  have e4' := e4.symm
  have e5' := e5.symm
  clear e3 e4 e5
  subst e0 e1 e2 e3' e4' e5'
  have w0 : s0.size ≤ maxLen ∧ t0.size ≤ maxLen ∧ El W anyBlock lx0 vx0 ∧ Sl W anyBlock la0 va0 ∧ Sl W anyBlock lb0 vb0 := ⟨ws0, wt0, hlx0, hla0, hlb0⟩
  clear hA0 hval0
  refine (walk g0 s0 t0 vx0 va0 vb0 lx0 la0 lb0 W w0).mono fun e W' ⟨he, bel⟩ => ?_
  subst he
  exact ⟨_, rfl, _, _, _, [], _, [], hW', trodAll_mk1 (shut_bool Tryz.underlying4 _), (trodAll_cons_mk (Below.trod laidOut (by kernel_rfl) (of_decide_eq_true (by kernel_rfl)) k0 bel lt0) trodAll_mk0), rfl, bel.frame _, fun h => by cases h⟩

theorem over : Rows.fnExactStmtOkRow.holds Tryz.pinned (OpenSpec.ofChange Rows.fnExactStmtOkSpec) :=
  OpenClaim.holds_of_wide 3 Tryz.f3 rfl rfl rfl rfl rfl rfl rfl ⟨rfl, rfl, rfl, rfl, rfl⟩ rfl rfl rfl rfl rfl (by kernel_rfl) Tryz.func3 (by kernel_rfl)
    (of_decide_eq_true (by kernel_rfl)) (by unfold Func.isWrapper; first | (rw [if_pos (by decide +kernel)]; kernel_rfl) | (rw [if_neg (by decide +kernel)]; exact ⟨rfl, rfl⟩))
    (fun os started H enc _ => lifted os started H enc)

end Go.Proofs.YtbbhikbdbndefaaGreat.fnExactStmtOk
namespace Go.Proofs.YtbbhikbdbndefaaGreat
theorem fnExactStmtOk_proved : Rows.FnExactStmtOkSaid := fnExactStmtOk.over
#print axioms fnExactStmtOk_proved
end Go.Proofs.YtbbhikbdbndefaaGreat
