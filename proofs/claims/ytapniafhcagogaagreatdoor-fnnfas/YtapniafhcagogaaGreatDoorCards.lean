/-
  DERIVED. GIVEN WITH THE SEED: THE CARDS: each row of YtapniafhcagogaaGreatDoorRows.lean that lists a variable, with what it lists TIED to the program's text (the seventh form; the later family's looks); each row that meets fmt, with fmt's text TOLD by the authors' own Lean function (tested against real Go, not proved from fmt's source: count such statements apart). THE CARD IS WHAT COUNTS. Prove the row's statement (the work); the ties are given (YtapniafhcagogaaGreatDoorTie.lean); close each card by the builder's one call (the guide's Derived/Test/ToyasCard.lean, 'card_holds'). Laid BY PROGRAM, IN A SANDBOX (cutbox-door.mjs). By AI agents, Wed Nov 11 2026. No macro, syntax, notation, axiom, sorry.
-/
import Derived.Test.YtapniafhcagogaaGreatDoorRows
import GoSem.ClaimSeven
namespace Go.Proofs.YtapniafhcagogaaGreatDoor
namespace Rows

/-- THE TIED CARD OF 'laws.FnNfas'. -/
def fnNfasCard : Claim7 := { stood := { row := fnNfasRow, standIns := [], harness := (true, "6a07a671ec85043d650012c40c7034e4d9c2e6b4e12797b738bc29480a48e9c9"), looks := false }, kinds := [], alts := [], laidByText := true, laidKinds := [.data], laidTests := true, laidLooks := .later }
def FnNfasCardSaid : Prop := Claim7.holds Tryz.pinned (.plain (OpenSpec.ofChange fnNfasSpec)) fnNfasCard

/-- THE SECOND FORM's CARD OF 'laws.FnNfas'. -/
def fnNfasUptoCard : Claim7 := { stood := { row := fnNfasUptoRow, standIns := [], harness := (true, "6a07a671ec85043d650012c40c7034e4d9c2e6b4e12797b738bc29480a48e9c9"), looks := false }, kinds := [], alts := [], laidByText := true, laidKinds := [.data], laidTests := true, laidLooks := .later }
def FnNfasUptoCardSaid : Prop := Claim7.holds Tryz.pinned (.plain (OpenSpec.upto fnNfasSpec)) fnNfasUptoCard
end Rows
end Go.Proofs.YtapniafhcagogaaGreatDoor
