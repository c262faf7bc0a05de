/-
  DERIVED. GIVEN WITH THE SEED: THE CARDS: each row of YtchphdhjbjeplaaDoorRows.lean that lists a variable, with what it lists TIED to the program's text (the seventh form; the later family's looks); each row that meets fmt, with fmt's text TOLD by the authors' own Lean function (tested against real Go, not proved from fmt's source: count such statements apart). THE CARD IS WHAT COUNTS. Prove the row's statement (the work); the ties are given (YtchphdhjbjeplaaDoorTie.lean); close each card by the builder's one call (the guide's Derived/Test/ToyasCard.lean, 'card_holds'). Laid BY PROGRAM, IN A SANDBOX (cutbox-door.mjs). By AI agents, Wed Nov 11 2026. No macro, syntax, notation, axiom, sorry.
-/
import Derived.Test.YtchphdhjbjeplaaDoorRows
import GoSem.ClaimSeven
namespace Go.Proofs.YtchphdhjbjeplaaDoor
namespace Rows

/-- THE TIED CARD OF 'laws.FnExactWorldPurge'. -/
def fnExactWorldPurgeCard : Claim7 := { stood := { row := fnExactWorldPurgeRow, standIns := [], harness := (true, "cac8a4ebb5f38874d163df84b6b48ef2923d155ca090ed30d263416d7ea1a334"), looks := false }, kinds := [], alts := [], laidByText := true, laidKinds := [.sentinel], laidTests := true, laidLooks := .later }
def FnExactWorldPurgeCardSaid : Prop := Claim7.holds Tryd.pinned (.plain (OpenSpec.ofChange fnExactWorldPurgeSpec)) fnExactWorldPurgeCard

/-- THE SECOND FORM's CARD OF 'laws.FnExactWorldPurge'. -/
def fnExactWorldPurgeUptoCard : Claim7 := { stood := { row := fnExactWorldPurgeUptoRow, standIns := [], harness := (true, "cac8a4ebb5f38874d163df84b6b48ef2923d155ca090ed30d263416d7ea1a334"), looks := false }, kinds := [], alts := [], laidByText := true, laidKinds := [.sentinel], laidTests := true, laidLooks := .later }
def FnExactWorldPurgeUptoCardSaid : Prop := Claim7.holds Tryd.pinned (.plain (OpenSpec.upto fnExactWorldPurgeSpec)) fnExactWorldPurgeUptoCard
end Rows
end Go.Proofs.YtchphdhjbjeplaaDoor
