/-
  DERIVED. GIVEN WITH THE SEED: THE CARDS: each row of YtkhfbaggkmeahabGreatDoorRows.lean that lists a variable, with what it lists TIED to the program's text (the seventh form; the later family's looks); each row that meets fmt, with fmt's text TOLD by the authors' own Lean function (tested against real Go, not proved from fmt's source: count such statements apart). THE CARD IS WHAT COUNTS. Prove the row's statement (the work); the ties are given (YtkhfbaggkmeahabGreatDoorTie.lean); close each card by the builder's one call (the guide's Derived/Test/ToyasCard.lean, 'card_holds'). Laid BY PROGRAM, IN A SANDBOX (cutbox-door.mjs). By AI agents, Wed Nov 11 2026. No macro, syntax, notation, axiom, sorry.
-/
import Derived.Test.YtkhfbaggkmeahabGreatDoorRows
import GoSem.ClaimSeven
namespace Go.Proofs.YtkhfbaggkmeahabGreatDoor
namespace Rows

/-- THE TIED CARD OF 'laws.FnGraphNone'. -/
def fnGraphNoneCard : Claim7 := { stood := { row := fnGraphNoneRow, standIns := [], harness := (true, "c0dbcae7e9a8878e8411b0ef16ea01d4e946dffd4621d77aa6f8d38a93ddcae3"), looks := true }, kinds := [], alts := [], laidByText := true, laidKinds := [.sentinel, .sentinel, .sentinel, .sentinel], laidTests := true, laidLooks := .later }
def FnGraphNoneCardSaid : Prop := Claim7.holds Tryz.pinned (.plain (OpenSpec.ofChange fnGraphNoneSpec)) fnGraphNoneCard

/-- THE TIED CARD OF 'laws.FnGraphOrder'. -/
def fnGraphOrderCard : Claim7 := { stood := { row := fnGraphOrderRow, standIns := [], harness := (true, "c0dbcae7e9a8878e8411b0ef16ea01d4e946dffd4621d77aa6f8d38a93ddcae3"), looks := true }, kinds := [], alts := [], laidByText := true, laidKinds := [.sentinel, .sentinel, .sentinel, .sentinel], laidTests := true, laidLooks := .later }
def FnGraphOrderCardSaid : Prop := Claim7.holds Tryz.pinned (.plain (OpenSpec.ofChange fnGraphOrderSpec)) fnGraphOrderCard

/-- THE TIED CARD OF 'laws.FnExactGraphDo'. -/
def fnExactGraphDoCard : Claim7 := { stood := { row := fnExactGraphDoRow, standIns := [], harness := (true, "c0dbcae7e9a8878e8411b0ef16ea01d4e946dffd4621d77aa6f8d38a93ddcae3"), looks := true }, kinds := [], alts := [], laidByText := true, laidKinds := [.sentinel, .sentinel, .sentinel, .sentinel], laidTests := true, laidLooks := .later }
def FnExactGraphDoCardSaid : Prop := Claim7.holds Tryz.pinned (.plain (OpenSpec.ofChange fnExactGraphDoSpec)) fnExactGraphDoCard

/-- THE SECOND FORM's CARD OF 'laws.FnGraphNone'. -/
def fnGraphNoneUptoCard : Claim7 := { stood := { row := fnGraphNoneUptoRow, standIns := [], harness := (true, "c0dbcae7e9a8878e8411b0ef16ea01d4e946dffd4621d77aa6f8d38a93ddcae3"), looks := true }, kinds := [], alts := [], laidByText := true, laidKinds := [.sentinel, .sentinel, .sentinel, .sentinel], laidTests := true, laidLooks := .later }
def FnGraphNoneUptoCardSaid : Prop := Claim7.holds Tryz.pinned (.plain (OpenSpec.upto fnGraphNoneSpec)) fnGraphNoneUptoCard

/-- THE SECOND FORM's CARD OF 'laws.FnGraphOrder'. -/
def fnGraphOrderUptoCard : Claim7 := { stood := { row := fnGraphOrderUptoRow, standIns := [], harness := (true, "c0dbcae7e9a8878e8411b0ef16ea01d4e946dffd4621d77aa6f8d38a93ddcae3"), looks := true }, kinds := [], alts := [], laidByText := true, laidKinds := [.sentinel, .sentinel, .sentinel, .sentinel], laidTests := true, laidLooks := .later }
def FnGraphOrderUptoCardSaid : Prop := Claim7.holds Tryz.pinned (.plain (OpenSpec.upto fnGraphOrderSpec)) fnGraphOrderUptoCard

/-- THE SECOND FORM's CARD OF 'laws.FnExactGraphDo'. -/
def fnExactGraphDoUptoCard : Claim7 := { stood := { row := fnExactGraphDoUptoRow, standIns := [], harness := (true, "c0dbcae7e9a8878e8411b0ef16ea01d4e946dffd4621d77aa6f8d38a93ddcae3"), looks := true }, kinds := [], alts := [], laidByText := true, laidKinds := [.sentinel, .sentinel, .sentinel, .sentinel], laidTests := true, laidLooks := .later }
def FnExactGraphDoUptoCardSaid : Prop := Claim7.holds Tryz.pinned (.plain (OpenSpec.upto fnExactGraphDoSpec)) fnExactGraphDoUptoCard
end Rows
end Go.Proofs.YtkhfbaggkmeahabGreatDoor
