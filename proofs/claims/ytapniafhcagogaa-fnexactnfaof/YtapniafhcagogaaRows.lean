/-
  NARROWER THAN 'FOR EVERY INPUT', by the rows' own cells (each row's printed sentence says how): FnExactRexOk: loops · FnExactRexText: loops · FnExactNfaOf: loops.
  DERIVED. THE GIVEN ROWS OF THIS SEAT. 6 by the template 'for every input the law returns true; each argument reads behind the call as it read before'; 0 by the template 'total and deterministic' (their statements: YtapniafhcagogaaTotals.lean).
  GIVEN WITH THE SEED: the statements are not yours to turn. If you find one false, say at which input.
  Laid BY PROGRAM, IN A SANDBOX (cutbox-rows.mjs): the forced cells as the released guide's own fill.sh prints them over the translation a28494ac156c669d… (all of the seat's roots in one cut). By AI agents, Wed Nov 11 2026. No macro, syntax, notation, axiom, sorry.
-/
import Derived.Test.YtapniafhcagogaaChecked
import GoSem.Claim
import GoSem.ClaimJoined
import GoSem.ClaimMapViews
import Derived.JoinedTies
import Derived.KernelRfl
namespace Go.Proofs.Ytapniafhcagogaa
/- THE CELL 'sum', in the pinned program and in every row, IS THE sha256 OF THE DUMP (.gsa) THAT YtapniafhcagogaaProg.lean LOADS. Nothing in Lean hashes anything: it is a label: what it is worth is what the hold of that sum in a sandbox is worth. -/
noncomputable def Try.pinned : Pinned := { name := "ytapniafhcagogaa", sum := "a28494ac156c669d6703e6596c19916ff8aec9b94d381e94e6da118dac26f1a5", checked := Try.checked }
namespace Rows
def none {H : Type} : Left H := { results := [], args := [] }

/-- 'laws.FnRexes': WHATEVER THE INPUT: true; the input reads as it did. -/
def fnRexesSpec : ChangeSpec := { name := "fnRexes", fn := fun _ => fun
  | [d] => { results := [.lit (.bool true)], args := [d] }
  | _ => none }
def fnRexesRow : OpenClaim := { program := "ytapniafhcagogaa", sum := "a28494ac156c669d6703e6596c19916ff8aec9b94d381e94e6da118dac26f1a5", func := "loop.example/g00288/laws.FnRexes", spec := "fnRexes", inPlace := ["internal/bytealg.IndexByteString"], unfollowed := true, recurses := true, apart := false }
def FnRexesSaid : Prop := fnRexesRow.holds Try.pinned (OpenSpec.ofChange fnRexesSpec)

/-- ITS FALSE NEIGHBOUR: 'it returns false'. Refute it at one input. -/
def fnRexesWrong : ChangeSpec := { name := "fnRexes", fn := fun _ => fun
  | [d] => { results := [.lit (.bool false)], args := [d] }
  | _ => none }
def FnRexesWrongFalsely : Prop := fnRexesRow.holds Try.pinned (OpenSpec.ofChange fnRexesWrong)

/-- 'laws.FnRexesRead': WHATEVER THE INPUT: true; the input reads as it did. -/
def fnRexesReadSpec : ChangeSpec := { name := "fnRexesRead", fn := fun _ => fun
  | [d] => { results := [.lit (.bool true)], args := [d] }
  | _ => none }
def fnRexesReadRow : OpenClaim := { program := "ytapniafhcagogaa", sum := "a28494ac156c669d6703e6596c19916ff8aec9b94d381e94e6da118dac26f1a5", func := "loop.example/g00288/laws.FnRexesRead", spec := "fnRexesRead", inPlace := ["internal/bytealg.IndexByteString"], unfollowed := true, recurses := true, apart := false }
def FnRexesReadSaid : Prop := fnRexesReadRow.holds Try.pinned (OpenSpec.ofChange fnRexesReadSpec)

/-- ITS FALSE NEIGHBOUR: 'it returns false'. Refute it at one input. -/
def fnRexesReadWrong : ChangeSpec := { name := "fnRexesRead", fn := fun _ => fun
  | [d] => { results := [.lit (.bool false)], args := [d] }
  | _ => none }
def FnRexesReadWrongFalsely : Prop := fnRexesReadRow.holds Try.pinned (OpenSpec.ofChange fnRexesReadWrong)

/-- 'laws.FnExactRexOk': WHATEVER THE INPUT: true; the input reads as it did. -/
def fnExactRexOkSpec : ChangeSpec := { name := "fnExactRexOk", fn := fun _ => fun
  | [d] => { results := [.lit (.bool true)], args := [d] }
  | _ => none }
def fnExactRexOkRow : OpenClaim := { program := "ytapniafhcagogaa", sum := "a28494ac156c669d6703e6596c19916ff8aec9b94d381e94e6da118dac26f1a5", func := "loop.example/g00288/laws.FnExactRexOk", spec := "fnExactRexOk", unfollowed := true, recurses := true, loops := true, apart := false }
def FnExactRexOkSaid : Prop := fnExactRexOkRow.holds Try.pinned (OpenSpec.ofChange fnExactRexOkSpec)

/-- ITS FALSE NEIGHBOUR: 'it returns false'. Refute it at one input. -/
def fnExactRexOkWrong : ChangeSpec := { name := "fnExactRexOk", fn := fun _ => fun
  | [d] => { results := [.lit (.bool false)], args := [d] }
  | _ => none }
def FnExactRexOkWrongFalsely : Prop := fnExactRexOkRow.holds Try.pinned (OpenSpec.ofChange fnExactRexOkWrong)

/-- 'laws.FnExactRexText': WHATEVER THE INPUT: true; the input reads as it did. -/
def fnExactRexTextSpec : ChangeSpec := { name := "fnExactRexText", fn := fun _ => fun
  | [d] => { results := [.lit (.bool true)], args := [d] }
  | _ => none }
def fnExactRexTextRow : OpenClaim := { program := "ytapniafhcagogaa", sum := "a28494ac156c669d6703e6596c19916ff8aec9b94d381e94e6da118dac26f1a5", func := "loop.example/g00288/laws.FnExactRexText", spec := "fnExactRexText", unfollowed := true, recurses := true, loops := true, apart := false }
def FnExactRexTextSaid : Prop := fnExactRexTextRow.holds Try.pinned (OpenSpec.ofChange fnExactRexTextSpec)

/-- ITS FALSE NEIGHBOUR: 'it returns false'. Refute it at one input. -/
def fnExactRexTextWrong : ChangeSpec := { name := "fnExactRexText", fn := fun _ => fun
  | [d] => { results := [.lit (.bool false)], args := [d] }
  | _ => none }
def FnExactRexTextWrongFalsely : Prop := fnExactRexTextRow.holds Try.pinned (OpenSpec.ofChange fnExactRexTextWrong)

/-- 'laws.FnExactParseRex': WHATEVER THE INPUT: true; the input reads as it did. -/
def fnExactParseRexSpec : ChangeSpec := { name := "fnExactParseRex", fn := fun _ => fun
  | [d] => { results := [.lit (.bool true)], args := [d] }
  | _ => none }
def fnExactParseRexRow : OpenClaim := { program := "ytapniafhcagogaa", sum := "a28494ac156c669d6703e6596c19916ff8aec9b94d381e94e6da118dac26f1a5", func := "loop.example/g00288/laws.FnExactParseRex", spec := "fnExactParseRex", inPlace := ["internal/bytealg.IndexByteString"], unfollowed := true, recurses := true, apart := false }
def FnExactParseRexSaid : Prop := fnExactParseRexRow.holds Try.pinned (OpenSpec.ofChange fnExactParseRexSpec)

/-- ITS FALSE NEIGHBOUR: 'it returns false'. Refute it at one input. -/
def fnExactParseRexWrong : ChangeSpec := { name := "fnExactParseRex", fn := fun _ => fun
  | [d] => { results := [.lit (.bool false)], args := [d] }
  | _ => none }
def FnExactParseRexWrongFalsely : Prop := fnExactParseRexRow.holds Try.pinned (OpenSpec.ofChange fnExactParseRexWrong)

/-- 'laws.FnExactNfaOf': WHATEVER THE INPUT: true; the input reads as it did. -/
def fnExactNfaOfSpec : ChangeSpec := { name := "fnExactNfaOf", fn := fun _ => fun
  | [d] => { results := [.lit (.bool true)], args := [d] }
  | _ => none }
def fnExactNfaOfRow : OpenClaim := { program := "ytapniafhcagogaa", sum := "a28494ac156c669d6703e6596c19916ff8aec9b94d381e94e6da118dac26f1a5", func := "loop.example/g00288/laws.FnExactNfaOf", spec := "fnExactNfaOf", unfollowed := true, recurses := true, loops := true, apart := false }
def FnExactNfaOfSaid : Prop := fnExactNfaOfRow.holds Try.pinned (OpenSpec.ofChange fnExactNfaOfSpec)

/-- ITS FALSE NEIGHBOUR: 'it returns false'. Refute it at one input. -/
def fnExactNfaOfWrong : ChangeSpec := { name := "fnExactNfaOf", fn := fun _ => fun
  | [d] => { results := [.lit (.bool false)], args := [d] }
  | _ => none }
def FnExactNfaOfWrongFalsely : Prop := fnExactNfaOfRow.holds Try.pinned (OpenSpec.ofChange fnExactNfaOfWrong)

/- THE SECOND FORM. 'bulk': how many values and letters a reading holds, each counted each time it is reached (what is shared counts as often as it is met; a slice's spare places count too). A statement '..UptoSaid' is the law's where the arguments, and the package variables that the reading takes, are together of bulk at most 1048576: NARROWER than '..Said'. Prove '..Said' where nothing that the law and all that it calls make is longer than what came in: it says more and counts as full. Else prove '..UptoSaid'. A law counts once. -/
mutual
def uptoBulk {H : Type} : DataW H → Nat
  | .lit (.string bytes) => bytes.length + 1
  | .lit _ => 1
  | .nil => 1
  | .ptr d => uptoBulk d + 1
  | .slice elems spare => uptoBulkAll elems + uptoBulkAll spare + 1
  | .agg parts => uptoBulkAll parts + 1
  | .iface _ d => uptoBulk d + 1
  | .map entries => uptoBulkEntries entries + 1
  | .held _ => 1
def uptoBulkAll {H : Type} : List (DataW H) → Nat
  | [] => 0
  | d :: r => uptoBulk d + uptoBulkAll r
def uptoBulkEntries {H : Type} : List (Lit × DataW H) → Nat
  | [] => 0
  | x :: r => uptoBulkEntry x + uptoBulkEntries r
def uptoBulkEntry {H : Type} : Lit × DataW H → Nat
  | (.string bytes, d) => bytes.length + uptoBulk d + 1
  | (_, d) => uptoBulk d + 1
 end
def uptoSmall : (H : Type) → List (DataW H) → Bool := fun _ ds => decide (uptoBulkAll ds ≤ 1048576)
def OpenSpec.upto (s : _root_.Go.ChangeSpec) : _root_.Go.OpenSpec := { _root_.Go.OpenSpec.ofChange s with cond := some uptoSmall }

/-- 'laws.FnRexes', WHERE WHAT IT READS IS OF BULK AT MOST 1048576: true; the input reads as it did. -/
def fnRexesUptoRow : OpenClaim := { program := "ytapniafhcagogaa", sum := "a28494ac156c669d6703e6596c19916ff8aec9b94d381e94e6da118dac26f1a5", func := "loop.example/g00288/laws.FnRexes", spec := "fnRexes", inPlace := ["internal/bytealg.IndexByteString"], unfollowed := true, recurses := true, apart := false, narrowed := true }
def FnRexesUptoSaid : Prop := fnRexesUptoRow.holds Try.pinned (OpenSpec.upto fnRexesSpec)

/-- 'laws.FnRexesRead', WHERE WHAT IT READS IS OF BULK AT MOST 1048576: true; the input reads as it did. -/
def fnRexesReadUptoRow : OpenClaim := { program := "ytapniafhcagogaa", sum := "a28494ac156c669d6703e6596c19916ff8aec9b94d381e94e6da118dac26f1a5", func := "loop.example/g00288/laws.FnRexesRead", spec := "fnRexesRead", inPlace := ["internal/bytealg.IndexByteString"], unfollowed := true, recurses := true, apart := false, narrowed := true }
def FnRexesReadUptoSaid : Prop := fnRexesReadUptoRow.holds Try.pinned (OpenSpec.upto fnRexesReadSpec)

/-- 'laws.FnExactRexOk', WHERE WHAT IT READS IS OF BULK AT MOST 1048576: true; the input reads as it did. -/
def fnExactRexOkUptoRow : OpenClaim := { program := "ytapniafhcagogaa", sum := "a28494ac156c669d6703e6596c19916ff8aec9b94d381e94e6da118dac26f1a5", func := "loop.example/g00288/laws.FnExactRexOk", spec := "fnExactRexOk", unfollowed := true, recurses := true, loops := true, apart := false, narrowed := true }
def FnExactRexOkUptoSaid : Prop := fnExactRexOkUptoRow.holds Try.pinned (OpenSpec.upto fnExactRexOkSpec)

/-- 'laws.FnExactRexText', WHERE WHAT IT READS IS OF BULK AT MOST 1048576: true; the input reads as it did. -/
def fnExactRexTextUptoRow : OpenClaim := { program := "ytapniafhcagogaa", sum := "a28494ac156c669d6703e6596c19916ff8aec9b94d381e94e6da118dac26f1a5", func := "loop.example/g00288/laws.FnExactRexText", spec := "fnExactRexText", unfollowed := true, recurses := true, loops := true, apart := false, narrowed := true }
def FnExactRexTextUptoSaid : Prop := fnExactRexTextUptoRow.holds Try.pinned (OpenSpec.upto fnExactRexTextSpec)

/-- 'laws.FnExactParseRex', WHERE WHAT IT READS IS OF BULK AT MOST 1048576: true; the input reads as it did. -/
def fnExactParseRexUptoRow : OpenClaim := { program := "ytapniafhcagogaa", sum := "a28494ac156c669d6703e6596c19916ff8aec9b94d381e94e6da118dac26f1a5", func := "loop.example/g00288/laws.FnExactParseRex", spec := "fnExactParseRex", inPlace := ["internal/bytealg.IndexByteString"], unfollowed := true, recurses := true, apart := false, narrowed := true }
def FnExactParseRexUptoSaid : Prop := fnExactParseRexUptoRow.holds Try.pinned (OpenSpec.upto fnExactParseRexSpec)

/-- 'laws.FnExactNfaOf', WHERE WHAT IT READS IS OF BULK AT MOST 1048576: true; the input reads as it did. -/
def fnExactNfaOfUptoRow : OpenClaim := { program := "ytapniafhcagogaa", sum := "a28494ac156c669d6703e6596c19916ff8aec9b94d381e94e6da118dac26f1a5", func := "loop.example/g00288/laws.FnExactNfaOf", spec := "fnExactNfaOf", unfollowed := true, recurses := true, loops := true, apart := false, narrowed := true }
def FnExactNfaOfUptoSaid : Prop := fnExactNfaOfUptoRow.holds Try.pinned (OpenSpec.upto fnExactNfaOfSpec)

end Rows
end Go.Proofs.Ytapniafhcagogaa
