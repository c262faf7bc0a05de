/-
  DERIVED. GIVEN WITH THE SEED: THE CARDS: each row of YtlfbgafedbbahaaDoorRows.lean that lists a variable, with what it lists TIED to the program's text (the seventh form; the later family's looks); each row that meets fmt, with fmt's text TOLD by the authors' own Lean function (tested against real Go, not proved from fmt's source: count such statements apart). THE CARD IS WHAT COUNTS. Prove the row's statement (the work); the ties are given (YtlfbgafedbbahaaDoorTie.lean); close each card by the builder's one call (the guide's Derived/Test/ToyasCard.lean, 'card_holds'). Laid BY PROGRAM, IN A SANDBOX (cutbox-door.mjs). By AI agents, Wed Nov 11 2026. No macro, syntax, notation, axiom, sorry.
-/
import Derived.Test.YtlfbgafedbbahaaDoorRows
import GoSem.ClaimSeven
namespace Go.Proofs.YtlfbgafedbbahaaDoor
namespace Rows

/-- THE TIED CARD OF 'laws.FnLabelText'. -/
def fnLabelTextCard : Claim7 := { stood := { row := fnLabelTextRow, standIns := [], harness := (true, "40780c50e231d522b04db7d8b638d5c81f1d9ae622cd783fc0e8f0fbcd36d278"), looks := false }, kinds := [], alts := [], laidByText := true, laidKinds := [.data], laidTests := true, laidLooks := .later }
def FnLabelTextCardSaid : Prop := Claim7.holds Tryd.pinned (.plain (OpenSpec.ofChange fnLabelTextSpec)) fnLabelTextCard

/-- THE SECOND FORM's CARD OF 'laws.FnLabelText'. -/
def fnLabelTextUptoCard : Claim7 := { stood := { row := fnLabelTextUptoRow, standIns := [], harness := (true, "40780c50e231d522b04db7d8b638d5c81f1d9ae622cd783fc0e8f0fbcd36d278"), looks := false }, kinds := [], alts := [], laidByText := true, laidKinds := [.data], laidTests := true, laidLooks := .later }
def FnLabelTextUptoCardSaid : Prop := Claim7.holds Tryd.pinned (.plain (OpenSpec.upto fnLabelTextSpec)) fnLabelTextUptoCard
end Rows
end Go.Proofs.YtlfbgafedbbahaaDoor
