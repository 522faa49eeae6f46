/-
  NARROWER THAN 'FOR EVERY INPUT', by the rows' own cells (each row's printed sentence says how): FnExactSameProg: loops · FnExactSameExpr: loops · FnExactSameStmt: loops.
  DERIVED. THE GIVEN ROWS OF THIS SEAT. 4 by the template 'for every input the law returns true; each argument reads behind the call as it read before'; 0 by the template 'total and deterministic' (their statements: YtgigalcajgjpnaaTotals.lean).
  GIVEN WITH THE SEED: the statements are not yours to turn. If you find one false, say at which input.
  Laid BY PROGRAM, IN A SANDBOX (cutbox-rows.mjs): the forced cells as the released guide's own fill.sh prints them over the translation 519d4d1b729b2fda… (all of the seat's roots in one cut). By AI agents, Wed Nov 11 2026. No macro, syntax, notation, axiom, sorry.
-/
import Derived.Test.YtgigalcajgjpnaaChecked
import GoSem.Claim
import GoSem.ClaimJoined
import GoSem.ClaimMapViews
import Derived.JoinedTies
import Derived.KernelRfl
namespace Go.Proofs.Ytgigalcajgjpnaa
/- THE CELL 'sum', in the pinned program and in every row, IS THE sha256 OF THE DUMP (.gsa) THAT YtgigalcajgjpnaaProg.lean LOADS. Nothing in Lean hashes anything: it is a label: what it is worth is what the hold of that sum in a sandbox is worth. -/
noncomputable def Try.pinned : Pinned := { name := "ytgigalcajgjpnaa", sum := "519d4d1b729b2fdaed2eb568348a09d5a6270192872743c6939e92066cf31b51", checked := Try.checked }
namespace Rows
def none {H : Type} : Left H := { results := [], args := [] }

/-- 'laws.FnSameTrees': WHATEVER THE INPUT: true; the input reads as it did. -/
def fnSameTreesSpec : ChangeSpec := { name := "fnSameTrees", fn := fun _ => fun
  | [d] => { results := [.lit (.bool true)], args := [d] }
  | _ => none }
def fnSameTreesRow : OpenClaim := { program := "ytgigalcajgjpnaa", sum := "519d4d1b729b2fdaed2eb568348a09d5a6270192872743c6939e92066cf31b51", func := "loop.example/g00288/laws.FnSameTrees", spec := "fnSameTrees", unfollowed := true, recurses := true, plainKeys := false, apart := false }
def FnSameTreesSaid : Prop := fnSameTreesRow.holds Try.pinned (OpenSpec.ofChange fnSameTreesSpec)

/-- ITS FALSE NEIGHBOUR: 'it returns false'. Refute it at one input. -/
def fnSameTreesWrong : ChangeSpec := { name := "fnSameTrees", fn := fun _ => fun
  | [d] => { results := [.lit (.bool false)], args := [d] }
  | _ => none }
def FnSameTreesWrongFalsely : Prop := fnSameTreesRow.holds Try.pinned (OpenSpec.ofChange fnSameTreesWrong)

/-- 'laws.FnExactSameProg': WHATEVER THE INPUT: true; the input reads as it did. -/
def fnExactSameProgSpec : ChangeSpec := { name := "fnExactSameProg", fn := fun _ => fun
  | [d1, d2] => { results := [.lit (.bool true)], args := [d1, d2] }
  | _ => none }
def fnExactSameProgRow : OpenClaim := { program := "ytgigalcajgjpnaa", sum := "519d4d1b729b2fdaed2eb568348a09d5a6270192872743c6939e92066cf31b51", func := "loop.example/g00288/laws.FnExactSameProg", spec := "fnExactSameProg", unfollowed := true, recurses := true, loops := true, plainKeys := false, apart := false }
def FnExactSameProgSaid : Prop := fnExactSameProgRow.holds Try.pinned (OpenSpec.ofChange fnExactSameProgSpec)

/-- ITS FALSE NEIGHBOUR: 'it returns false'. Refute it at one input. -/
def fnExactSameProgWrong : ChangeSpec := { name := "fnExactSameProg", fn := fun _ => fun
  | [d1, d2] => { results := [.lit (.bool false)], args := [d1, d2] }
  | _ => none }
def FnExactSameProgWrongFalsely : Prop := fnExactSameProgRow.holds Try.pinned (OpenSpec.ofChange fnExactSameProgWrong)

/-- 'laws.FnExactSameExpr': WHATEVER THE INPUT: true; the input reads as it did. -/
def fnExactSameExprSpec : ChangeSpec := { name := "fnExactSameExpr", fn := fun _ => fun
  | [d1, d2] => { results := [.lit (.bool true)], args := [d1, d2] }
  | _ => none }
def fnExactSameExprRow : OpenClaim := { program := "ytgigalcajgjpnaa", sum := "519d4d1b729b2fdaed2eb568348a09d5a6270192872743c6939e92066cf31b51", func := "loop.example/g00288/laws.FnExactSameExpr", spec := "fnExactSameExpr", unfollowed := true, recurses := true, loops := true, plainKeys := false, apart := false }
def FnExactSameExprSaid : Prop := fnExactSameExprRow.holds Try.pinned (OpenSpec.ofChange fnExactSameExprSpec)

/-- ITS FALSE NEIGHBOUR: 'it returns false'. Refute it at one input. -/
def fnExactSameExprWrong : ChangeSpec := { name := "fnExactSameExpr", fn := fun _ => fun
  | [d1, d2] => { results := [.lit (.bool false)], args := [d1, d2] }
  | _ => none }
def FnExactSameExprWrongFalsely : Prop := fnExactSameExprRow.holds Try.pinned (OpenSpec.ofChange fnExactSameExprWrong)

/-- 'laws.FnExactSameStmt': WHATEVER THE INPUT: true; the input reads as it did. -/
def fnExactSameStmtSpec : ChangeSpec := { name := "fnExactSameStmt", fn := fun _ => fun
  | [d1, d2] => { results := [.lit (.bool true)], args := [d1, d2] }
  | _ => none }
def fnExactSameStmtRow : OpenClaim := { program := "ytgigalcajgjpnaa", sum := "519d4d1b729b2fdaed2eb568348a09d5a6270192872743c6939e92066cf31b51", func := "loop.example/g00288/laws.FnExactSameStmt", spec := "fnExactSameStmt", unfollowed := true, recurses := true, loops := true, plainKeys := false, apart := false }
def FnExactSameStmtSaid : Prop := fnExactSameStmtRow.holds Try.pinned (OpenSpec.ofChange fnExactSameStmtSpec)

/-- ITS FALSE NEIGHBOUR: 'it returns false'. Refute it at one input. -/
def fnExactSameStmtWrong : ChangeSpec := { name := "fnExactSameStmt", fn := fun _ => fun
  | [d1, d2] => { results := [.lit (.bool false)], args := [d1, d2] }
  | _ => none }
def FnExactSameStmtWrongFalsely : Prop := fnExactSameStmtRow.holds Try.pinned (OpenSpec.ofChange fnExactSameStmtWrong)

/- THE SECOND FORM. 'bulk': how many values and letters a reading holds, each counted each time it is reached (what is shared counts as often as it is met; a slice's spare places count too). A statement '..UptoSaid' is the law's where the arguments, and the package variables that the reading takes, are together of bulk at most 1048576: NARROWER than '..Said'. Prove '..Said' where nothing that the law and all that it calls make is longer than what came in: it says more and counts as full. Else prove '..UptoSaid'. A law counts once. -/
mutual
def uptoBulk {H : Type} : DataW H → Nat
  | .lit (.string bytes) => bytes.length + 1
  | .lit _ => 1
  | .nil => 1
  | .ptr d => uptoBulk d + 1
  | .slice elems spare => uptoBulkAll elems + uptoBulkAll spare + 1
  | .agg parts => uptoBulkAll parts + 1
  | .iface _ d => uptoBulk d + 1
  | .map entries => uptoBulkEntries entries + 1
  | .held _ => 1
def uptoBulkAll {H : Type} : List (DataW H) → Nat
  | [] => 0
  | d :: r => uptoBulk d + uptoBulkAll r
def uptoBulkEntries {H : Type} : List (Lit × DataW H) → Nat
  | [] => 0
  | x :: r => uptoBulkEntry x + uptoBulkEntries r
def uptoBulkEntry {H : Type} : Lit × DataW H → Nat
  | (.string bytes, d) => bytes.length + uptoBulk d + 1
  | (_, d) => uptoBulk d + 1
 end
def uptoSmall : (H : Type) → List (DataW H) → Bool := fun _ ds => decide (uptoBulkAll ds ≤ 1048576)
def OpenSpec.upto (s : _root_.Go.ChangeSpec) : _root_.Go.OpenSpec := { _root_.Go.OpenSpec.ofChange s with cond := some uptoSmall }

/-- 'laws.FnSameTrees', WHERE WHAT IT READS IS OF BULK AT MOST 1048576: true; the input reads as it did. -/
def fnSameTreesUptoRow : OpenClaim := { program := "ytgigalcajgjpnaa", sum := "519d4d1b729b2fdaed2eb568348a09d5a6270192872743c6939e92066cf31b51", func := "loop.example/g00288/laws.FnSameTrees", spec := "fnSameTrees", unfollowed := true, recurses := true, plainKeys := false, apart := false, narrowed := true }
def FnSameTreesUptoSaid : Prop := fnSameTreesUptoRow.holds Try.pinned (OpenSpec.upto fnSameTreesSpec)

/-- 'laws.FnExactSameProg', WHERE WHAT IT READS IS OF BULK AT MOST 1048576: true; the input reads as it did. -/
def fnExactSameProgUptoRow : OpenClaim := { program := "ytgigalcajgjpnaa", sum := "519d4d1b729b2fdaed2eb568348a09d5a6270192872743c6939e92066cf31b51", func := "loop.example/g00288/laws.FnExactSameProg", spec := "fnExactSameProg", unfollowed := true, recurses := true, loops := true, plainKeys := false, apart := false, narrowed := true }
def FnExactSameProgUptoSaid : Prop := fnExactSameProgUptoRow.holds Try.pinned (OpenSpec.upto fnExactSameProgSpec)

/-- 'laws.FnExactSameExpr', WHERE WHAT IT READS IS OF BULK AT MOST 1048576: true; the input reads as it did. -/
def fnExactSameExprUptoRow : OpenClaim := { program := "ytgigalcajgjpnaa", sum := "519d4d1b729b2fdaed2eb568348a09d5a6270192872743c6939e92066cf31b51", func := "loop.example/g00288/laws.FnExactSameExpr", spec := "fnExactSameExpr", unfollowed := true, recurses := true, loops := true, plainKeys := false, apart := false, narrowed := true }
def FnExactSameExprUptoSaid : Prop := fnExactSameExprUptoRow.holds Try.pinned (OpenSpec.upto fnExactSameExprSpec)

/-- 'laws.FnExactSameStmt', WHERE WHAT IT READS IS OF BULK AT MOST 1048576: true; the input reads as it did. -/
def fnExactSameStmtUptoRow : OpenClaim := { program := "ytgigalcajgjpnaa", sum := "519d4d1b729b2fdaed2eb568348a09d5a6270192872743c6939e92066cf31b51", func := "loop.example/g00288/laws.FnExactSameStmt", spec := "fnExactSameStmt", unfollowed := true, recurses := true, loops := true, plainKeys := false, apart := false, narrowed := true }
def FnExactSameStmtUptoSaid : Prop := fnExactSameStmtUptoRow.holds Try.pinned (OpenSpec.upto fnExactSameStmtSpec)

end Rows
end Go.Proofs.Ytgigalcajgjpnaa
