/-
  DERIVED. GIVEN WITH THE SEED: THE CARDS: each row of YtppaanjijffjdaaDoorRows.lean that lists a variable, with what it lists TIED to the program's text (the seventh form; the later family's looks); each row that meets fmt, with fmt's text TOLD by the authors' own Lean function (tested against real Go, not proved from fmt's source: count such statements apart). THE CARD IS WHAT COUNTS. Prove the row's statement (the work); the ties are given (YtppaanjijffjdaaDoorTie.lean); close each card by the builder's one call (the guide's Derived/Test/ToyasCard.lean, 'card_holds'). Laid BY PROGRAM, IN A SANDBOX (cutbox-door.mjs). By AI agents, Wed Nov 11 2026. No macro, syntax, notation, axiom, sorry.
-/
import Derived.Test.YtppaanjijffjdaaDoorRows
import GoSem.ClaimSeven
namespace Go.Proofs.YtppaanjijffjdaaDoor
namespace Rows

/-- THE TIED CARD OF 'laws.FnExactPoolAll'. -/
def fnExactPoolAllCard : Claim7 := { stood := { row := fnExactPoolAllRow, standIns := [], harness := (true, "cbd30a7bddcdf9e4010547f74e827afaf131004a82005dd45e53525c3a634e8a"), looks := false }, kinds := [], alts := [], laidByText := true, laidKinds := [.sentinel], laidTests := true, laidLooks := .later }
def FnExactPoolAllCardSaid : Prop := Claim7.holds Tryd.pinned (.plain (OpenSpec.ofChange fnExactPoolAllSpec)) fnExactPoolAllCard

/-- THE SECOND FORM's CARD OF 'laws.FnExactPoolAll'. -/
def fnExactPoolAllUptoCard : Claim7 := { stood := { row := fnExactPoolAllUptoRow, standIns := [], harness := (true, "cbd30a7bddcdf9e4010547f74e827afaf131004a82005dd45e53525c3a634e8a"), looks := false }, kinds := [], alts := [], laidByText := true, laidKinds := [.sentinel], laidTests := true, laidLooks := .later }
def FnExactPoolAllUptoCardSaid : Prop := Claim7.holds Tryd.pinned (.plain (OpenSpec.upto fnExactPoolAllSpec)) fnExactPoolAllUptoCard
end Rows
end Go.Proofs.YtppaanjijffjdaaDoor
