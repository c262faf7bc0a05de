/-
  DERIVED. GIVEN WITH THE SEED: THE CARDS: each row of YtdboohnhdhoahaaDoorRows.lean that lists a variable, with what it lists TIED to the program's text (the seventh form; the later family's looks); each row that meets fmt, with fmt's text TOLD by the authors' own Lean function (tested against real Go, not proved from fmt's source: count such statements apart). THE CARD IS WHAT COUNTS. Prove the row's statement (the work); the ties are given (YtdboohnhdhoahaaDoorTie.lean); close each card by the builder's one call (the guide's Derived/Test/ToyasCard.lean, 'card_holds'). Laid BY PROGRAM, IN A SANDBOX (cutbox-door.mjs). By AI agents, Wed Nov 11 2026. No macro, syntax, notation, axiom, sorry.
-/
import Derived.Test.YtdboohnhdhoahaaDoorRows
import GoSem.ClaimSeven
namespace Go.Proofs.YtdboohnhdhoahaaDoor
namespace Rows

/-- THE TIED CARD OF 'laws.FnExactPoolOk'. -/
def fnExactPoolOkCard : Claim7 := { stood := { row := fnExactPoolOkRow, standIns := [], harness := (true, "6973860220cafdafb44e78ee59cd53b72d57140b8e271726932570f4b12dde3e"), looks := false }, kinds := [], alts := [], laidByText := true, laidKinds := [.sentinel], laidTests := true, laidLooks := .later }
def FnExactPoolOkCardSaid : Prop := Claim7.holds Tryd.pinned (.plain (OpenSpec.ofChange fnExactPoolOkSpec)) fnExactPoolOkCard

/-- THE TIED CARD OF 'laws.FnExactPoolUse'. -/
def fnExactPoolUseCard : Claim7 := { stood := { row := fnExactPoolUseRow, standIns := [], harness := (true, "6973860220cafdafb44e78ee59cd53b72d57140b8e271726932570f4b12dde3e"), looks := false }, kinds := [], alts := [], laidByText := true, laidKinds := [.sentinel], laidTests := true, laidLooks := .later }
def FnExactPoolUseCardSaid : Prop := Claim7.holds Tryd.pinned (.plain (OpenSpec.ofChange fnExactPoolUseSpec)) fnExactPoolUseCard

/-- THE TIED CARD OF 'laws.FnExactPoolAll'. -/
def fnExactPoolAllCard : Claim7 := { stood := { row := fnExactPoolAllRow, standIns := [], harness := (true, "6973860220cafdafb44e78ee59cd53b72d57140b8e271726932570f4b12dde3e"), looks := false }, kinds := [], alts := [], laidByText := true, laidKinds := [.sentinel], laidTests := true, laidLooks := .later }
def FnExactPoolAllCardSaid : Prop := Claim7.holds Tryd.pinned (.plain (OpenSpec.ofChange fnExactPoolAllSpec)) fnExactPoolAllCard

/-- THE SECOND FORM's CARD OF 'laws.FnExactPoolOk'. -/
def fnExactPoolOkUptoCard : Claim7 := { stood := { row := fnExactPoolOkUptoRow, standIns := [], harness := (true, "6973860220cafdafb44e78ee59cd53b72d57140b8e271726932570f4b12dde3e"), looks := false }, kinds := [], alts := [], laidByText := true, laidKinds := [.sentinel], laidTests := true, laidLooks := .later }
def FnExactPoolOkUptoCardSaid : Prop := Claim7.holds Tryd.pinned (.plain (OpenSpec.upto fnExactPoolOkSpec)) fnExactPoolOkUptoCard

/-- THE SECOND FORM's CARD OF 'laws.FnExactPoolUse'. -/
def fnExactPoolUseUptoCard : Claim7 := { stood := { row := fnExactPoolUseUptoRow, standIns := [], harness := (true, "6973860220cafdafb44e78ee59cd53b72d57140b8e271726932570f4b12dde3e"), looks := false }, kinds := [], alts := [], laidByText := true, laidKinds := [.sentinel], laidTests := true, laidLooks := .later }
def FnExactPoolUseUptoCardSaid : Prop := Claim7.holds Tryd.pinned (.plain (OpenSpec.upto fnExactPoolUseSpec)) fnExactPoolUseUptoCard

/-- THE SECOND FORM's CARD OF 'laws.FnExactPoolAll'. -/
def fnExactPoolAllUptoCard : Claim7 := { stood := { row := fnExactPoolAllUptoRow, standIns := [], harness := (true, "6973860220cafdafb44e78ee59cd53b72d57140b8e271726932570f4b12dde3e"), looks := false }, kinds := [], alts := [], laidByText := true, laidKinds := [.sentinel], laidTests := true, laidLooks := .later }
def FnExactPoolAllUptoCardSaid : Prop := Claim7.holds Tryd.pinned (.plain (OpenSpec.upto fnExactPoolAllSpec)) fnExactPoolAllUptoCard
end Rows
end Go.Proofs.YtdboohnhdhoahaaDoor
