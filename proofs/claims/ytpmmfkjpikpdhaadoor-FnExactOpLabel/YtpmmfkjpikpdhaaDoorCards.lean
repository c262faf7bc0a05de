/-
  DERIVED. GIVEN WITH THE SEED: THE CARDS: each row of YtpmmfkjpikpdhaaDoorRows.lean that lists a variable, with what it lists TIED to the program's text (the seventh form; the later family's looks); each row that meets fmt, with fmt's text TOLD by the authors' own Lean function (tested against real Go, not proved from fmt's source: count such statements apart). THE CARD IS WHAT COUNTS. Prove the row's statement (the work); the ties are given (YtpmmfkjpikpdhaaDoorTie.lean); close each card by the builder's one call (the guide's Derived/Test/ToyasCard.lean, 'card_holds'). Laid BY PROGRAM, IN A SANDBOX (cutbox-door.mjs). By AI agents, Wed Nov 11 2026. No macro, syntax, notation, axiom, sorry.
-/
import Derived.Test.YtpmmfkjpikpdhaaDoorRows
import GoSem.ClaimSeven
namespace Go.Proofs.YtpmmfkjpikpdhaaDoor
namespace Rows

/-- THE TIED CARD OF 'laws.FnExactOpLabel'. -/
def fnExactOpLabelCard : Claim7 := { stood := { row := fnExactOpLabelRow, standIns := [], harness := (true, "6a6ceaa1db7ba93cc7d373513633a6992ad00c61c40f84ac88174b1bea20fc24"), looks := false }, kinds := [], alts := [], laidByText := true, laidKinds := [.sentinel], laidTests := true, laidLooks := .later }
def FnExactOpLabelCardSaid : Prop := Claim7.holds Tryd.pinned (.plain (OpenSpec.ofChange fnExactOpLabelSpec)) fnExactOpLabelCard

/-- THE SECOND FORM's CARD OF 'laws.FnExactOpLabel'. -/
def fnExactOpLabelUptoCard : Claim7 := { stood := { row := fnExactOpLabelUptoRow, standIns := [], harness := (true, "6a6ceaa1db7ba93cc7d373513633a6992ad00c61c40f84ac88174b1bea20fc24"), looks := false }, kinds := [], alts := [], laidByText := true, laidKinds := [.sentinel], laidTests := true, laidLooks := .later }
def FnExactOpLabelUptoCardSaid : Prop := Claim7.holds Tryd.pinned (.plain (OpenSpec.upto fnExactOpLabelSpec)) fnExactOpLabelUptoCard
end Rows
end Go.Proofs.YtpmmfkjpikpdhaaDoor
