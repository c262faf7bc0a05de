/-
  DERIVED. GIVEN WITH THE SEED: THE CARDS: each row of YtlfgcchnboaflaaDoorRows.lean that lists a variable, with what it lists TIED to the program's text (the seventh form; the later family's looks); each row that meets fmt, with fmt's text TOLD by the authors' own Lean function (tested against real Go, not proved from fmt's source: count such statements apart). THE CARD IS WHAT COUNTS. Prove the row's statement (the work); the ties are given (YtlfgcchnboaflaaDoorTie.lean); close each card by the builder's one call (the guide's Derived/Test/ToyasCard.lean, 'card_holds'). Laid BY PROGRAM, IN A SANDBOX (cutbox-door.mjs). By AI agents, Wed Nov 11 2026. No macro, syntax, notation, axiom, sorry.
-/
import Derived.Test.YtlfgcchnboaflaaDoorRows
import GoSem.ClaimSeven
namespace Go.Proofs.YtlfgcchnboaflaaDoor
namespace Rows

/-- THE TIED CARD OF 'laws.FnPoolUse'. -/
def fnPoolUseCard : Claim7 := { stood := { row := fnPoolUseRow, standIns := [], harness := (true, "0abeca0843ff1432342706925707311c3ddfd564307e1d84445948071b159442"), looks := false }, kinds := [], alts := [], laidByText := true, laidKinds := [.sentinel], laidTests := true, laidLooks := .later }
def FnPoolUseCardSaid : Prop := Claim7.holds Tryd.pinned (.plain (OpenSpec.ofChange fnPoolUseSpec)) fnPoolUseCard

/-- THE TIED CARD OF 'laws.FnPoolAll'. -/
def fnPoolAllCard : Claim7 := { stood := { row := fnPoolAllRow, standIns := [], harness := (true, "0abeca0843ff1432342706925707311c3ddfd564307e1d84445948071b159442"), looks := false }, kinds := [], alts := [], laidByText := true, laidKinds := [.sentinel], laidTests := true, laidLooks := .later }
def FnPoolAllCardSaid : Prop := Claim7.holds Tryd.pinned (.plain (OpenSpec.ofChange fnPoolAllSpec)) fnPoolAllCard

/-- THE TIED CARD OF 'laws.FnPoolMore'. -/
def fnPoolMoreCard : Claim7 := { stood := { row := fnPoolMoreRow, standIns := [], harness := (true, "0abeca0843ff1432342706925707311c3ddfd564307e1d84445948071b159442"), looks := false }, kinds := [], alts := [], laidByText := true, laidKinds := [.sentinel], laidTests := true, laidLooks := .later }
def FnPoolMoreCardSaid : Prop := Claim7.holds Tryd.pinned (.plain (OpenSpec.ofChange fnPoolMoreSpec)) fnPoolMoreCard

/-- THE TIED CARD OF 'laws.FnPoolLast'. -/
def fnPoolLastCard : Claim7 := { stood := { row := fnPoolLastRow, standIns := [], harness := (true, "0abeca0843ff1432342706925707311c3ddfd564307e1d84445948071b159442"), looks := false }, kinds := [], alts := [], laidByText := true, laidKinds := [.sentinel], laidTests := true, laidLooks := .later }
def FnPoolLastCardSaid : Prop := Claim7.holds Tryd.pinned (.plain (OpenSpec.ofChange fnPoolLastSpec)) fnPoolLastCard

/-- THE TIED CARD OF 'laws.FnPoolBent'. -/
def fnPoolBentCard : Claim7 := { stood := { row := fnPoolBentRow, standIns := [], harness := (true, "0abeca0843ff1432342706925707311c3ddfd564307e1d84445948071b159442"), looks := false }, kinds := [], alts := [], laidByText := true, laidKinds := [.sentinel], laidTests := true, laidLooks := .later }
def FnPoolBentCardSaid : Prop := Claim7.holds Tryd.pinned (.plain (OpenSpec.ofChange fnPoolBentSpec)) fnPoolBentCard

/-- THE TIED CARD OF 'laws.FnPoolTwice'. -/
def fnPoolTwiceCard : Claim7 := { stood := { row := fnPoolTwiceRow, standIns := [], harness := (true, "0abeca0843ff1432342706925707311c3ddfd564307e1d84445948071b159442"), looks := false }, kinds := [], alts := [], laidByText := true, laidKinds := [.sentinel], laidTests := true, laidLooks := .later }
def FnPoolTwiceCardSaid : Prop := Claim7.holds Tryd.pinned (.plain (OpenSpec.ofChange fnPoolTwiceSpec)) fnPoolTwiceCard

/-- THE SECOND FORM's CARD OF 'laws.FnPoolUse'. -/
def fnPoolUseUptoCard : Claim7 := { stood := { row := fnPoolUseUptoRow, standIns := [], harness := (true, "0abeca0843ff1432342706925707311c3ddfd564307e1d84445948071b159442"), looks := false }, kinds := [], alts := [], laidByText := true, laidKinds := [.sentinel], laidTests := true, laidLooks := .later }
def FnPoolUseUptoCardSaid : Prop := Claim7.holds Tryd.pinned (.plain (OpenSpec.upto fnPoolUseSpec)) fnPoolUseUptoCard

/-- THE SECOND FORM's CARD OF 'laws.FnPoolAll'. -/
def fnPoolAllUptoCard : Claim7 := { stood := { row := fnPoolAllUptoRow, standIns := [], harness := (true, "0abeca0843ff1432342706925707311c3ddfd564307e1d84445948071b159442"), looks := false }, kinds := [], alts := [], laidByText := true, laidKinds := [.sentinel], laidTests := true, laidLooks := .later }
def FnPoolAllUptoCardSaid : Prop := Claim7.holds Tryd.pinned (.plain (OpenSpec.upto fnPoolAllSpec)) fnPoolAllUptoCard

/-- THE SECOND FORM's CARD OF 'laws.FnPoolMore'. -/
def fnPoolMoreUptoCard : Claim7 := { stood := { row := fnPoolMoreUptoRow, standIns := [], harness := (true, "0abeca0843ff1432342706925707311c3ddfd564307e1d84445948071b159442"), looks := false }, kinds := [], alts := [], laidByText := true, laidKinds := [.sentinel], laidTests := true, laidLooks := .later }
def FnPoolMoreUptoCardSaid : Prop := Claim7.holds Tryd.pinned (.plain (OpenSpec.upto fnPoolMoreSpec)) fnPoolMoreUptoCard

/-- THE SECOND FORM's CARD OF 'laws.FnPoolLast'. -/
def fnPoolLastUptoCard : Claim7 := { stood := { row := fnPoolLastUptoRow, standIns := [], harness := (true, "0abeca0843ff1432342706925707311c3ddfd564307e1d84445948071b159442"), looks := false }, kinds := [], alts := [], laidByText := true, laidKinds := [.sentinel], laidTests := true, laidLooks := .later }
def FnPoolLastUptoCardSaid : Prop := Claim7.holds Tryd.pinned (.plain (OpenSpec.upto fnPoolLastSpec)) fnPoolLastUptoCard

/-- THE SECOND FORM's CARD OF 'laws.FnPoolBent'. -/
def fnPoolBentUptoCard : Claim7 := { stood := { row := fnPoolBentUptoRow, standIns := [], harness := (true, "0abeca0843ff1432342706925707311c3ddfd564307e1d84445948071b159442"), looks := false }, kinds := [], alts := [], laidByText := true, laidKinds := [.sentinel], laidTests := true, laidLooks := .later }
def FnPoolBentUptoCardSaid : Prop := Claim7.holds Tryd.pinned (.plain (OpenSpec.upto fnPoolBentSpec)) fnPoolBentUptoCard

/-- THE SECOND FORM's CARD OF 'laws.FnPoolTwice'. -/
def fnPoolTwiceUptoCard : Claim7 := { stood := { row := fnPoolTwiceUptoRow, standIns := [], harness := (true, "0abeca0843ff1432342706925707311c3ddfd564307e1d84445948071b159442"), looks := false }, kinds := [], alts := [], laidByText := true, laidKinds := [.sentinel], laidTests := true, laidLooks := .later }
def FnPoolTwiceUptoCardSaid : Prop := Claim7.holds Tryd.pinned (.plain (OpenSpec.upto fnPoolTwiceSpec)) fnPoolTwiceUptoCard
end Rows
end Go.Proofs.YtlfgcchnboaflaaDoor
