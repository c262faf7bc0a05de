/-
  DERIVED. GIVEN WITH THE SEED: THE CARDS: each row of YtcifjildjiakgaaDoorRows.lean that lists a variable, with what it lists TIED to the program's text (the seventh form; the later family's looks); each row that meets fmt, with fmt's text TOLD by the authors' own Lean function (tested against real Go, not proved from fmt's source: count such statements apart). THE CARD IS WHAT COUNTS. Prove the row's statement (the work); the ties are given (YtcifjildjiakgaaDoorTie.lean); close each card by the builder's one call (the guide's Derived/Test/ToyasCard.lean, 'card_holds'). Laid BY PROGRAM, IN A SANDBOX (cutbox-door.mjs). By AI agents, Wed Nov 11 2026. No macro, syntax, notation, axiom, sorry.
-/
import Derived.Test.YtcifjildjiakgaaDoorRows
import GoSem.ClaimSeven
namespace Go.Proofs.YtcifjildjiakgaaDoor
namespace Rows

/-- THE TIED CARD OF 'laws.FnPoolBent'. -/
def fnPoolBentCard : Claim7 := { stood := { row := fnPoolBentRow, standIns := [], harness := (true, "f19445b6788f56882225ff82d9cbc0b483e4f9b6eab6a4952212545f54e6d6fd"), looks := false }, kinds := [], alts := [], laidByText := true, laidKinds := [.sentinel], laidTests := true, laidLooks := .later }
def FnPoolBentCardSaid : Prop := Claim7.holds Tryd.pinned (.plain (OpenSpec.ofChange fnPoolBentSpec)) fnPoolBentCard

/-- THE SECOND FORM's CARD OF 'laws.FnPoolBent'. -/
def fnPoolBentUptoCard : Claim7 := { stood := { row := fnPoolBentUptoRow, standIns := [], harness := (true, "f19445b6788f56882225ff82d9cbc0b483e4f9b6eab6a4952212545f54e6d6fd"), looks := false }, kinds := [], alts := [], laidByText := true, laidKinds := [.sentinel], laidTests := true, laidLooks := .later }
def FnPoolBentUptoCardSaid : Prop := Claim7.holds Tryd.pinned (.plain (OpenSpec.upto fnPoolBentSpec)) fnPoolBentUptoCard
end Rows
end Go.Proofs.YtcifjildjiakgaaDoor
