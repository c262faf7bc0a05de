/-
  DERIVED. GIVEN WITH THE SEED: THE CARDS: each row of YtlnpbfeihjfnjabDoorRows.lean that lists a variable, with what it lists TIED to the program's text (the seventh form; the later family's looks); each row that meets fmt, with fmt's text TOLD by the authors' own Lean function (tested against real Go, not proved from fmt's source: count such statements apart). THE CARD IS WHAT COUNTS. Prove the row's statement (the work); the ties are given (YtlnpbfeihjfnjabDoorTie.lean); close each card by the builder's one call (the guide's Derived/Test/ToyasCard.lean, 'card_holds'). Laid BY PROGRAM, IN A SANDBOX (cutbox-door.mjs). By AI agents, Wed Nov 11 2026. No macro, syntax, notation, axiom, sorry.
-/
import Derived.Test.YtlnpbfeihjfnjabDoorRows
import GoSem.ClaimSeven
namespace Go.Proofs.YtlnpbfeihjfnjabDoor
namespace Rows

/-- THE TIED CARD OF 'laws.FnExactSegOf'. -/
def fnExactSegOfCard : Claim7 := { stood := { row := fnExactSegOfRow, standIns := [], harness := (true, "eea1b03f7f292d7a871535992566580862a296798f5a6bc416b2fe25a17e1e85"), looks := false }, kinds := [], alts := [], laidByText := true, laidKinds := [.sentinel, .sentinel, .sentinel, .sentinel], laidTests := true, laidLooks := .later }
def FnExactSegOfCardSaid : Prop := Claim7.holds Tryd.pinned (.plain (OpenSpec.ofChange fnExactSegOfSpec)) fnExactSegOfCard

/-- THE SECOND FORM's CARD OF 'laws.FnExactSegOf'. -/
def fnExactSegOfUptoCard : Claim7 := { stood := { row := fnExactSegOfUptoRow, standIns := [], harness := (true, "eea1b03f7f292d7a871535992566580862a296798f5a6bc416b2fe25a17e1e85"), looks := false }, kinds := [], alts := [], laidByText := true, laidKinds := [.sentinel, .sentinel, .sentinel, .sentinel], laidTests := true, laidLooks := .later }
def FnExactSegOfUptoCardSaid : Prop := Claim7.holds Tryd.pinned (.plain (OpenSpec.upto fnExactSegOfSpec)) fnExactSegOfUptoCard
end Rows
end Go.Proofs.YtlnpbfeihjfnjabDoor
