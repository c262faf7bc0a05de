/-
  DERIVED. GIVEN WITH THE SEED: THE CARDS: each row of YtgahbfojajlhnacDoorRows.lean that lists a variable, with what it lists TIED to the program's text (the seventh form; the later family's looks); each row that meets fmt, with fmt's text TOLD by the authors' own Lean function (tested against real Go, not proved from fmt's source: count such statements apart). THE CARD IS WHAT COUNTS. Prove the row's statement (the work); the ties are given (YtgahbfojajlhnacDoorTie.lean); close each card by the builder's one call (the guide's Derived/Test/ToyasCard.lean, 'card_holds'). Laid BY PROGRAM, IN A SANDBOX (cutbox-door.mjs). By AI agents, Wed Nov 11 2026. No macro, syntax, notation, axiom, sorry.
-/
import Derived.Test.YtgahbfojajlhnacDoorRows
import GoSem.ClaimSeven
namespace Go.Proofs.YtgahbfojajlhnacDoor
namespace Rows

/-- THE TIED CARD OF 'laws.FnExactGraphOk'. -/
def fnExactGraphOkCard : Claim7 := { stood := { row := fnExactGraphOkRow, standIns := [], harness := (true, "d75b6c8feef84f9959b46a1c6ce8656aef1e3a0f1d92f8594aa39c2c92ea1d75"), looks := false }, kinds := [], alts := [], laidByText := true, laidKinds := [.sentinel, .sentinel, .sentinel, .sentinel], laidTests := true, laidLooks := .later }
def FnExactGraphOkCardSaid : Prop := Claim7.holds Tryd.pinned (.plain (OpenSpec.ofChange fnExactGraphOkSpec)) fnExactGraphOkCard

/-- THE TIED CARD OF 'laws.FnExactGraphView'. -/
def fnExactGraphViewCard : Claim7 := { stood := { row := fnExactGraphViewRow, standIns := [], harness := (true, "d75b6c8feef84f9959b46a1c6ce8656aef1e3a0f1d92f8594aa39c2c92ea1d75"), looks := false }, kinds := [], alts := [], laidByText := true, laidKinds := [.sentinel, .sentinel, .sentinel, .sentinel], laidTests := true, laidLooks := .later }
def FnExactGraphViewCardSaid : Prop := Claim7.holds Tryd.pinned (.plain (OpenSpec.ofChange fnExactGraphViewSpec)) fnExactGraphViewCard

/-- THE TIED CARD OF 'laws.FnExactGraphNear'. -/
def fnExactGraphNearCard : Claim7 := { stood := { row := fnExactGraphNearRow, standIns := [], harness := (true, "d75b6c8feef84f9959b46a1c6ce8656aef1e3a0f1d92f8594aa39c2c92ea1d75"), looks := false }, kinds := [], alts := [], laidByText := true, laidKinds := [.sentinel, .sentinel, .sentinel, .sentinel], laidTests := true, laidLooks := .later }
def FnExactGraphNearCardSaid : Prop := Claim7.holds Tryd.pinned (.plain (OpenSpec.ofChange fnExactGraphNearSpec)) fnExactGraphNearCard

/-- THE SECOND FORM's CARD OF 'laws.FnExactGraphOk'. -/
def fnExactGraphOkUptoCard : Claim7 := { stood := { row := fnExactGraphOkUptoRow, standIns := [], harness := (true, "d75b6c8feef84f9959b46a1c6ce8656aef1e3a0f1d92f8594aa39c2c92ea1d75"), looks := false }, kinds := [], alts := [], laidByText := true, laidKinds := [.sentinel, .sentinel, .sentinel, .sentinel], laidTests := true, laidLooks := .later }
def FnExactGraphOkUptoCardSaid : Prop := Claim7.holds Tryd.pinned (.plain (OpenSpec.upto fnExactGraphOkSpec)) fnExactGraphOkUptoCard

/-- THE SECOND FORM's CARD OF 'laws.FnExactGraphView'. -/
def fnExactGraphViewUptoCard : Claim7 := { stood := { row := fnExactGraphViewUptoRow, standIns := [], harness := (true, "d75b6c8feef84f9959b46a1c6ce8656aef1e3a0f1d92f8594aa39c2c92ea1d75"), looks := false }, kinds := [], alts := [], laidByText := true, laidKinds := [.sentinel, .sentinel, .sentinel, .sentinel], laidTests := true, laidLooks := .later }
def FnExactGraphViewUptoCardSaid : Prop := Claim7.holds Tryd.pinned (.plain (OpenSpec.upto fnExactGraphViewSpec)) fnExactGraphViewUptoCard

/-- THE SECOND FORM's CARD OF 'laws.FnExactGraphNear'. -/
def fnExactGraphNearUptoCard : Claim7 := { stood := { row := fnExactGraphNearUptoRow, standIns := [], harness := (true, "d75b6c8feef84f9959b46a1c6ce8656aef1e3a0f1d92f8594aa39c2c92ea1d75"), looks := false }, kinds := [], alts := [], laidByText := true, laidKinds := [.sentinel, .sentinel, .sentinel, .sentinel], laidTests := true, laidLooks := .later }
def FnExactGraphNearUptoCardSaid : Prop := Claim7.holds Tryd.pinned (.plain (OpenSpec.upto fnExactGraphNearSpec)) fnExactGraphNearUptoCard
end Rows
end Go.Proofs.YtgahbfojajlhnacDoor
