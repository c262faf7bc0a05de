/-
  DERIVED. GIVEN WITH THE SEED: THE CARDS: each row of YteiadahigdadaaaDoorRows.lean that lists a variable, with what it lists TIED to the program's text (the seventh form; the later family's looks); each row that meets fmt, with fmt's text TOLD by the authors' own Lean function (tested against real Go, not proved from fmt's source: count such statements apart). THE CARD IS WHAT COUNTS. Prove the row's statement (the work); the ties are given (YteiadahigdadaaaDoorTie.lean); close each card by the builder's one call (the guide's Derived/Test/ToyasCard.lean, 'card_holds'). Laid BY PROGRAM, IN A SANDBOX (cutbox-door.mjs). By AI agents, Wed Nov 11 2026. No macro, syntax, notation, axiom, sorry.
-/
import Derived.Test.YteiadahigdadaaaDoorRows
import GoSem.ClaimSeven
namespace Go.Proofs.YteiadahigdadaaaDoor
namespace Rows

/-- THE TIED CARD OF 'laws.FnExactGraphView'. -/
def fnExactGraphViewCard : Claim7 := { stood := { row := fnExactGraphViewRow, standIns := [], harness := (true, "78b06b2ad76490d71a41107c2bf1cd29a2e00ce5495350c35fad13dcf1939ece"), looks := false }, kinds := [], alts := [], laidByText := true, laidKinds := [.sentinel, .sentinel, .sentinel, .sentinel], laidTests := true, laidLooks := .later }
def FnExactGraphViewCardSaid : Prop := Claim7.holds Tryd.pinned (.plain (OpenSpec.ofChange fnExactGraphViewSpec)) fnExactGraphViewCard

/-- THE TIED CARD OF 'laws.FnExactGraphNear'. -/
def fnExactGraphNearCard : Claim7 := { stood := { row := fnExactGraphNearRow, standIns := [], harness := (true, "78b06b2ad76490d71a41107c2bf1cd29a2e00ce5495350c35fad13dcf1939ece"), looks := false }, kinds := [], alts := [], laidByText := true, laidKinds := [.sentinel, .sentinel, .sentinel, .sentinel], laidTests := true, laidLooks := .later }
def FnExactGraphNearCardSaid : Prop := Claim7.holds Tryd.pinned (.plain (OpenSpec.ofChange fnExactGraphNearSpec)) fnExactGraphNearCard

/-- THE SECOND FORM's CARD OF 'laws.FnExactGraphView'. -/
def fnExactGraphViewUptoCard : Claim7 := { stood := { row := fnExactGraphViewUptoRow, standIns := [], harness := (true, "78b06b2ad76490d71a41107c2bf1cd29a2e00ce5495350c35fad13dcf1939ece"), looks := false }, kinds := [], alts := [], laidByText := true, laidKinds := [.sentinel, .sentinel, .sentinel, .sentinel], laidTests := true, laidLooks := .later }
def FnExactGraphViewUptoCardSaid : Prop := Claim7.holds Tryd.pinned (.plain (OpenSpec.upto fnExactGraphViewSpec)) fnExactGraphViewUptoCard

/-- THE SECOND FORM's CARD OF 'laws.FnExactGraphNear'. -/
def fnExactGraphNearUptoCard : Claim7 := { stood := { row := fnExactGraphNearUptoRow, standIns := [], harness := (true, "78b06b2ad76490d71a41107c2bf1cd29a2e00ce5495350c35fad13dcf1939ece"), looks := false }, kinds := [], alts := [], laidByText := true, laidKinds := [.sentinel, .sentinel, .sentinel, .sentinel], laidTests := true, laidLooks := .later }
def FnExactGraphNearUptoCardSaid : Prop := Claim7.holds Tryd.pinned (.plain (OpenSpec.upto fnExactGraphNearSpec)) fnExactGraphNearUptoCard
end Rows
end Go.Proofs.YteiadahigdadaaaDoor
