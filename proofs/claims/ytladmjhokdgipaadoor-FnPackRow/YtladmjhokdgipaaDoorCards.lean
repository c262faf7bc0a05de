/-
  DERIVED. GIVEN WITH THE SEED: THE CARDS: each row of YtladmjhokdgipaaDoorRows.lean that lists a variable, with what it lists TIED to the program's text (the seventh form; the later family's looks); each row that meets fmt, with fmt's text TOLD by the authors' own Lean function (tested against real Go, not proved from fmt's source: count such statements apart). THE CARD IS WHAT COUNTS. Prove the row's statement (the work); the ties are given (YtladmjhokdgipaaDoorTie.lean); close each card by the builder's one call (the guide's Derived/Test/ToyasCard.lean, 'card_holds'). Laid BY PROGRAM, IN A SANDBOX (cutbox-door.mjs). By AI agents, Wed Nov 11 2026. No macro, syntax, notation, axiom, sorry.
-/
import Derived.Test.YtladmjhokdgipaaDoorRows
import GoSem.ClaimSeven
namespace Go.Proofs.YtladmjhokdgipaaDoor
namespace Rows

/-- THE TIED CARD OF 'laws.FnPackNum'. -/
def fnPackNumCard : Claim7 := { stood := { row := fnPackNumRow, standIns := [], harness := (true, "3f42498a6142a2f41b5465e4530cacc8115880d2caa03224757ababd2ee21664"), looks := false }, kinds := [], alts := [], laidByText := true, laidKinds := [.sentinel], laidTests := true, laidLooks := .later }
def FnPackNumCardSaid : Prop := Claim7.holds Tryd.pinned (.plain (OpenSpec.ofChange fnPackNumSpec)) fnPackNumCard

/-- THE TIED CARD OF 'laws.FnPackRow'. -/
def fnPackRowCard : Claim7 := { stood := { row := fnPackRowRow, standIns := [], harness := (true, "3f42498a6142a2f41b5465e4530cacc8115880d2caa03224757ababd2ee21664"), looks := false }, kinds := [], alts := [], laidByText := true, laidKinds := [.sentinel], laidTests := true, laidLooks := .later }
def FnPackRowCardSaid : Prop := Claim7.holds Tryd.pinned (.plain (OpenSpec.ofChange fnPackRowSpec)) fnPackRowCard

/-- THE TIED CARD OF 'laws.FnPackRowCut'. -/
def fnPackRowCutCard : Claim7 := { stood := { row := fnPackRowCutRow, standIns := [], harness := (true, "3f42498a6142a2f41b5465e4530cacc8115880d2caa03224757ababd2ee21664"), looks := false }, kinds := [], alts := [], laidByText := true, laidKinds := [.sentinel], laidTests := true, laidLooks := .later }
def FnPackRowCutCardSaid : Prop := Claim7.holds Tryd.pinned (.plain (OpenSpec.ofChange fnPackRowCutSpec)) fnPackRowCutCard

/-- THE TIED CARD OF 'laws.FnExactNumAt'. -/
def fnExactNumAtCard : Claim7 := { stood := { row := fnExactNumAtRow, standIns := [], harness := (true, "3f42498a6142a2f41b5465e4530cacc8115880d2caa03224757ababd2ee21664"), looks := false }, kinds := [], alts := [], laidByText := true, laidKinds := [.sentinel], laidTests := true, laidLooks := .later }
def FnExactNumAtCardSaid : Prop := Claim7.holds Tryd.pinned (.plain (OpenSpec.ofChange fnExactNumAtSpec)) fnExactNumAtCard

/-- THE SECOND FORM's CARD OF 'laws.FnPackNum'. -/
def fnPackNumUptoCard : Claim7 := { stood := { row := fnPackNumUptoRow, standIns := [], harness := (true, "3f42498a6142a2f41b5465e4530cacc8115880d2caa03224757ababd2ee21664"), looks := false }, kinds := [], alts := [], laidByText := true, laidKinds := [.sentinel], laidTests := true, laidLooks := .later }
def FnPackNumUptoCardSaid : Prop := Claim7.holds Tryd.pinned (.plain (OpenSpec.upto fnPackNumSpec)) fnPackNumUptoCard

/-- THE SECOND FORM's CARD OF 'laws.FnPackRow'. -/
def fnPackRowUptoCard : Claim7 := { stood := { row := fnPackRowUptoRow, standIns := [], harness := (true, "3f42498a6142a2f41b5465e4530cacc8115880d2caa03224757ababd2ee21664"), looks := false }, kinds := [], alts := [], laidByText := true, laidKinds := [.sentinel], laidTests := true, laidLooks := .later }
def FnPackRowUptoCardSaid : Prop := Claim7.holds Tryd.pinned (.plain (OpenSpec.upto fnPackRowSpec)) fnPackRowUptoCard

/-- THE SECOND FORM's CARD OF 'laws.FnPackRowCut'. -/
def fnPackRowCutUptoCard : Claim7 := { stood := { row := fnPackRowCutUptoRow, standIns := [], harness := (true, "3f42498a6142a2f41b5465e4530cacc8115880d2caa03224757ababd2ee21664"), looks := false }, kinds := [], alts := [], laidByText := true, laidKinds := [.sentinel], laidTests := true, laidLooks := .later }
def FnPackRowCutUptoCardSaid : Prop := Claim7.holds Tryd.pinned (.plain (OpenSpec.upto fnPackRowCutSpec)) fnPackRowCutUptoCard

/-- THE SECOND FORM's CARD OF 'laws.FnExactNumAt'. -/
def fnExactNumAtUptoCard : Claim7 := { stood := { row := fnExactNumAtUptoRow, standIns := [], harness := (true, "3f42498a6142a2f41b5465e4530cacc8115880d2caa03224757ababd2ee21664"), looks := false }, kinds := [], alts := [], laidByText := true, laidKinds := [.sentinel], laidTests := true, laidLooks := .later }
def FnExactNumAtUptoCardSaid : Prop := Claim7.holds Tryd.pinned (.plain (OpenSpec.upto fnExactNumAtSpec)) fnExactNumAtUptoCard
end Rows
end Go.Proofs.YtladmjhokdgipaaDoor
