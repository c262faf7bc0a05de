/-
  DERIVED. GIVEN WITH THE SEED: THE CARDS: each row of YtkhfbaggkmeahaaGreatDoorRows.lean that lists a variable, with what it lists TIED to the program's text (the seventh form; the later family's looks); each row that meets fmt, with fmt's text TOLD by the authors' own Lean function (tested against real Go, not proved from fmt's source: count such statements apart). THE CARD IS WHAT COUNTS. Prove the row's statement (the work); the ties are given (YtkhfbaggkmeahaaGreatDoorTie.lean); close each card by the builder's one call (the guide's Derived/Test/ToyasCard.lean, 'card_holds'). Laid BY PROGRAM, IN A SANDBOX (cutbox-door.mjs). By AI agents, Wed Nov 11 2026. No macro, syntax, notation, axiom, sorry.
-/
import Derived.Test.YtkhfbaggkmeahaaGreatDoorRows
import GoSem.ClaimSeven
namespace Go.Proofs.YtkhfbaggkmeahaaGreatDoor
namespace Rows

/-- THE TIED CARD OF 'laws.FnGraph'. -/
def fnGraphCard : Claim7 := { stood := { row := fnGraphRow, standIns := [], harness := (true, "450ccdb61382ed438dd7a24bc687a95417604db9c216c6b521ad1461ae07a773"), looks := true }, kinds := [], alts := [], laidByText := true, laidKinds := [.sentinel, .sentinel, .sentinel, .sentinel], laidTests := true, laidLooks := .later }
def FnGraphCardSaid : Prop := Claim7.holds Tryz.pinned (.plain (OpenSpec.ofChange fnGraphSpec)) fnGraphCard

/-- THE TIED CARD OF 'laws.FnGraphSeen'. -/
def fnGraphSeenCard : Claim7 := { stood := { row := fnGraphSeenRow, standIns := [], harness := (true, "450ccdb61382ed438dd7a24bc687a95417604db9c216c6b521ad1461ae07a773"), looks := true }, kinds := [], alts := [], laidByText := true, laidKinds := [.sentinel, .sentinel, .sentinel, .sentinel], laidTests := true, laidLooks := .later }
def FnGraphSeenCardSaid : Prop := Claim7.holds Tryz.pinned (.plain (OpenSpec.ofChange fnGraphSeenSpec)) fnGraphSeenCard

/-- THE TIED CARD OF 'laws.FnGraphBack'. -/
def fnGraphBackCard : Claim7 := { stood := { row := fnGraphBackRow, standIns := [], harness := (true, "450ccdb61382ed438dd7a24bc687a95417604db9c216c6b521ad1461ae07a773"), looks := true }, kinds := [], alts := [], laidByText := true, laidKinds := [.sentinel, .sentinel, .sentinel, .sentinel], laidTests := true, laidLooks := .later }
def FnGraphBackCardSaid : Prop := Claim7.holds Tryz.pinned (.plain (OpenSpec.ofChange fnGraphBackSpec)) fnGraphBackCard

/-- THE TIED CARD OF 'laws.FnGraphGone'. -/
def fnGraphGoneCard : Claim7 := { stood := { row := fnGraphGoneRow, standIns := [], harness := (true, "450ccdb61382ed438dd7a24bc687a95417604db9c216c6b521ad1461ae07a773"), looks := true }, kinds := [], alts := [], laidByText := true, laidKinds := [.sentinel, .sentinel, .sentinel, .sentinel], laidTests := true, laidLooks := .later }
def FnGraphGoneCardSaid : Prop := Claim7.holds Tryz.pinned (.plain (OpenSpec.ofChange fnGraphGoneSpec)) fnGraphGoneCard

/-- THE TIED CARD OF 'laws.FnGraphSwap'. -/
def fnGraphSwapCard : Claim7 := { stood := { row := fnGraphSwapRow, standIns := [], harness := (true, "450ccdb61382ed438dd7a24bc687a95417604db9c216c6b521ad1461ae07a773"), looks := true }, kinds := [], alts := [], laidByText := true, laidKinds := [.sentinel, .sentinel, .sentinel, .sentinel], laidTests := true, laidLooks := .later }
def FnGraphSwapCardSaid : Prop := Claim7.holds Tryz.pinned (.plain (OpenSpec.ofChange fnGraphSwapSpec)) fnGraphSwapCard

/-- THE TIED CARD OF 'laws.FnGraphFull'. -/
def fnGraphFullCard : Claim7 := { stood := { row := fnGraphFullRow, standIns := [], harness := (true, "450ccdb61382ed438dd7a24bc687a95417604db9c216c6b521ad1461ae07a773"), looks := true }, kinds := [], alts := [], laidByText := true, laidKinds := [.sentinel, .sentinel, .sentinel, .sentinel], laidTests := true, laidLooks := .later }
def FnGraphFullCardSaid : Prop := Claim7.holds Tryz.pinned (.plain (OpenSpec.ofChange fnGraphFullSpec)) fnGraphFullCard

/-- THE SECOND FORM's CARD OF 'laws.FnGraph'. -/
def fnGraphUptoCard : Claim7 := { stood := { row := fnGraphUptoRow, standIns := [], harness := (true, "450ccdb61382ed438dd7a24bc687a95417604db9c216c6b521ad1461ae07a773"), looks := true }, kinds := [], alts := [], laidByText := true, laidKinds := [.sentinel, .sentinel, .sentinel, .sentinel], laidTests := true, laidLooks := .later }
def FnGraphUptoCardSaid : Prop := Claim7.holds Tryz.pinned (.plain (OpenSpec.upto fnGraphSpec)) fnGraphUptoCard

/-- THE SECOND FORM's CARD OF 'laws.FnGraphSeen'. -/
def fnGraphSeenUptoCard : Claim7 := { stood := { row := fnGraphSeenUptoRow, standIns := [], harness := (true, "450ccdb61382ed438dd7a24bc687a95417604db9c216c6b521ad1461ae07a773"), looks := true }, kinds := [], alts := [], laidByText := true, laidKinds := [.sentinel, .sentinel, .sentinel, .sentinel], laidTests := true, laidLooks := .later }
def FnGraphSeenUptoCardSaid : Prop := Claim7.holds Tryz.pinned (.plain (OpenSpec.upto fnGraphSeenSpec)) fnGraphSeenUptoCard

/-- THE SECOND FORM's CARD OF 'laws.FnGraphBack'. -/
def fnGraphBackUptoCard : Claim7 := { stood := { row := fnGraphBackUptoRow, standIns := [], harness := (true, "450ccdb61382ed438dd7a24bc687a95417604db9c216c6b521ad1461ae07a773"), looks := true }, kinds := [], alts := [], laidByText := true, laidKinds := [.sentinel, .sentinel, .sentinel, .sentinel], laidTests := true, laidLooks := .later }
def FnGraphBackUptoCardSaid : Prop := Claim7.holds Tryz.pinned (.plain (OpenSpec.upto fnGraphBackSpec)) fnGraphBackUptoCard

/-- THE SECOND FORM's CARD OF 'laws.FnGraphGone'. -/
def fnGraphGoneUptoCard : Claim7 := { stood := { row := fnGraphGoneUptoRow, standIns := [], harness := (true, "450ccdb61382ed438dd7a24bc687a95417604db9c216c6b521ad1461ae07a773"), looks := true }, kinds := [], alts := [], laidByText := true, laidKinds := [.sentinel, .sentinel, .sentinel, .sentinel], laidTests := true, laidLooks := .later }
def FnGraphGoneUptoCardSaid : Prop := Claim7.holds Tryz.pinned (.plain (OpenSpec.upto fnGraphGoneSpec)) fnGraphGoneUptoCard

/-- THE SECOND FORM's CARD OF 'laws.FnGraphSwap'. -/
def fnGraphSwapUptoCard : Claim7 := { stood := { row := fnGraphSwapUptoRow, standIns := [], harness := (true, "450ccdb61382ed438dd7a24bc687a95417604db9c216c6b521ad1461ae07a773"), looks := true }, kinds := [], alts := [], laidByText := true, laidKinds := [.sentinel, .sentinel, .sentinel, .sentinel], laidTests := true, laidLooks := .later }
def FnGraphSwapUptoCardSaid : Prop := Claim7.holds Tryz.pinned (.plain (OpenSpec.upto fnGraphSwapSpec)) fnGraphSwapUptoCard

/-- THE SECOND FORM's CARD OF 'laws.FnGraphFull'. -/
def fnGraphFullUptoCard : Claim7 := { stood := { row := fnGraphFullUptoRow, standIns := [], harness := (true, "450ccdb61382ed438dd7a24bc687a95417604db9c216c6b521ad1461ae07a773"), looks := true }, kinds := [], alts := [], laidByText := true, laidKinds := [.sentinel, .sentinel, .sentinel, .sentinel], laidTests := true, laidLooks := .later }
def FnGraphFullUptoCardSaid : Prop := Claim7.holds Tryz.pinned (.plain (OpenSpec.upto fnGraphFullSpec)) fnGraphFullUptoCard
end Rows
end Go.Proofs.YtkhfbaggkmeahaaGreatDoor
