/-
  DERIVED. GIVEN WITH THE SEED: THE CARDS: each row of YteopageleimkbaaDoorRows.lean that lists a variable, with what it lists TIED to the program's text (the seventh form; the later family's looks); each row that meets fmt, with fmt's text TOLD by the authors' own Lean function (tested against real Go, not proved from fmt's source: count such statements apart). THE CARD IS WHAT COUNTS. Prove the row's statement (the work); the ties are given (YteopageleimkbaaDoorTie.lean); close each card by the builder's one call (the guide's Derived/Test/ToyasCard.lean, 'card_holds'). Laid BY PROGRAM, IN A SANDBOX (cutbox-door.mjs). By AI agents, Wed Nov 11 2026. No macro, syntax, notation, axiom, sorry.
-/
import Derived.Test.YteopageleimkbaaDoorRows
import GoSem.ClaimSeven
namespace Go.Proofs.YteopageleimkbaaDoor
namespace Rows

/-- THE TIED CARD OF 'laws.FnExactQueryOk'. -/
def fnExactQueryOkCard : Claim7 := { stood := { row := fnExactQueryOkRow, standIns := [], harness := (true, "1bed56a61e17e15ecd0e70167b6fc79d5a62076cdb5bd9fc402317c3c8a8d17e"), looks := false }, kinds := [], alts := [], laidByText := true, laidKinds := [.sentinel], laidTests := true, laidLooks := .later }
def FnExactQueryOkCardSaid : Prop := Claim7.holds Tryd.pinned (.plain (OpenSpec.ofChange fnExactQueryOkSpec)) fnExactQueryOkCard

/-- THE SECOND FORM's CARD OF 'laws.FnExactQueryOk'. -/
def fnExactQueryOkUptoCard : Claim7 := { stood := { row := fnExactQueryOkUptoRow, standIns := [], harness := (true, "1bed56a61e17e15ecd0e70167b6fc79d5a62076cdb5bd9fc402317c3c8a8d17e"), looks := false }, kinds := [], alts := [], laidByText := true, laidKinds := [.sentinel], laidTests := true, laidLooks := .later }
def FnExactQueryOkUptoCardSaid : Prop := Claim7.holds Tryd.pinned (.plain (OpenSpec.upto fnExactQueryOkSpec)) fnExactQueryOkUptoCard
end Rows
end Go.Proofs.YteopageleimkbaaDoor
