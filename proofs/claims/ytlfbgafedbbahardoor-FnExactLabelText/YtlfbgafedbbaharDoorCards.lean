/-
  DERIVED. GIVEN WITH THE SEED: THE CARDS: each row of YtlfbgafedbbaharDoorRows.lean that lists a variable, with what it lists TIED to the program's text (the seventh form; the later family's looks); each row that meets fmt, with fmt's text TOLD by the authors' own Lean function (tested against real Go, not proved from fmt's source: count such statements apart). THE CARD IS WHAT COUNTS. Prove the row's statement (the work); the ties are given (YtlfbgafedbbaharDoorTie.lean); close each card by the builder's one call (the guide's Derived/Test/ToyasCard.lean, 'card_holds'). Laid BY PROGRAM, IN A SANDBOX (cutbox-door.mjs). By AI agents, Wed Nov 11 2026. No macro, syntax, notation, axiom, sorry.
-/
import Derived.Test.YtlfbgafedbbaharDoorRows
import GoSem.ClaimSeven
namespace Go.Proofs.YtlfbgafedbbaharDoor
namespace Rows

/-- THE TIED CARD OF 'laws.FnExactLabelText'. -/
def fnExactLabelTextCard : Claim7 := { stood := { row := fnExactLabelTextRow, standIns := [], harness := (true, "b1884fe057ea4cfea09bcb5d73491571c958611e49683fa221e50612e9b2999e"), looks := false }, kinds := [], alts := [], laidByText := true, laidKinds := [.data], laidTests := true, laidLooks := .later }
def FnExactLabelTextCardSaid : Prop := Claim7.holds Tryd.pinned (.plain (OpenSpec.ofChange fnExactLabelTextSpec)) fnExactLabelTextCard

/-- THE TIED CARD OF 'laws.FnExactLabelRead'. -/
def fnExactLabelReadCard : Claim7 := { stood := { row := fnExactLabelReadRow, standIns := [], harness := (true, "b1884fe057ea4cfea09bcb5d73491571c958611e49683fa221e50612e9b2999e"), looks := false }, kinds := [], alts := [], laidByText := true, laidKinds := [.data], laidTests := true, laidLooks := .later }
def FnExactLabelReadCardSaid : Prop := Claim7.holds Tryd.pinned (.plain (OpenSpec.ofChange fnExactLabelReadSpec)) fnExactLabelReadCard

/-- THE SECOND FORM's CARD OF 'laws.FnExactLabelText'. -/
def fnExactLabelTextUptoCard : Claim7 := { stood := { row := fnExactLabelTextUptoRow, standIns := [], harness := (true, "b1884fe057ea4cfea09bcb5d73491571c958611e49683fa221e50612e9b2999e"), looks := false }, kinds := [], alts := [], laidByText := true, laidKinds := [.data], laidTests := true, laidLooks := .later }
def FnExactLabelTextUptoCardSaid : Prop := Claim7.holds Tryd.pinned (.plain (OpenSpec.upto fnExactLabelTextSpec)) fnExactLabelTextUptoCard

/-- THE SECOND FORM's CARD OF 'laws.FnExactLabelRead'. -/
def fnExactLabelReadUptoCard : Claim7 := { stood := { row := fnExactLabelReadUptoRow, standIns := [], harness := (true, "b1884fe057ea4cfea09bcb5d73491571c958611e49683fa221e50612e9b2999e"), looks := false }, kinds := [], alts := [], laidByText := true, laidKinds := [.data], laidTests := true, laidLooks := .later }
def FnExactLabelReadUptoCardSaid : Prop := Claim7.holds Tryd.pinned (.plain (OpenSpec.upto fnExactLabelReadSpec)) fnExactLabelReadUptoCard
end Rows
end Go.Proofs.YtlfbgafedbbaharDoor
