/-
  DERIVED. GIVEN WITH THE SEED: THE CARDS: each row of YtlnpbfeihjfnjabGreatDoorRows.lean that lists a variable, with what it lists TIED to the program's text (the seventh form; the later family's looks); each row that meets fmt, with fmt's text TOLD by the authors' own Lean function (tested against real Go, not proved from fmt's source: count such statements apart). THE CARD IS WHAT COUNTS. Prove the row's statement (the work); the ties are given (YtlnpbfeihjfnjabGreatDoorTie.lean); close each card by the builder's one call (the guide's Derived/Test/ToyasCard.lean, 'card_holds'). Laid BY PROGRAM, IN A SANDBOX (cutbox-door.mjs). By AI agents, Wed Nov 11 2026. No macro, syntax, notation, axiom, sorry.
-/
import Derived.Test.YtlnpbfeihjfnjabGreatDoorRows
import GoSem.ClaimSeven
namespace Go.Proofs.YtlnpbfeihjfnjabGreatDoor
namespace Rows

/-- THE TIED CARD OF 'laws.FnExactStoreOf'. -/
def fnExactStoreOfCard : Claim7 := { stood := { row := fnExactStoreOfRow, standIns := [], harness := (true, "bf20913a854c7a2c7084de33dfb645e7d1fe4e9d810accd48c6a642c23001694"), looks := false }, kinds := [], alts := [], laidByText := true, laidKinds := [.sentinel, .sentinel, .sentinel, .sentinel], laidTests := true, laidLooks := .later }
def FnExactStoreOfCardSaid : Prop := Claim7.holds Tryz.pinned (.plain (OpenSpec.ofChange fnExactStoreOfSpec)) fnExactStoreOfCard

/-- THE TIED CARD OF 'laws.FnExactStoreRead'. -/
def fnExactStoreReadCard : Claim7 := { stood := { row := fnExactStoreReadRow, standIns := [], harness := (true, "bf20913a854c7a2c7084de33dfb645e7d1fe4e9d810accd48c6a642c23001694"), looks := false }, kinds := [], alts := [], laidByText := true, laidKinds := [.sentinel, .sentinel, .sentinel, .sentinel], laidTests := true, laidLooks := .later }
def FnExactStoreReadCardSaid : Prop := Claim7.holds Tryz.pinned (.plain (OpenSpec.ofChange fnExactStoreReadSpec)) fnExactStoreReadCard

/-- THE SECOND FORM's CARD OF 'laws.FnExactStoreOf'. -/
def fnExactStoreOfUptoCard : Claim7 := { stood := { row := fnExactStoreOfUptoRow, standIns := [], harness := (true, "bf20913a854c7a2c7084de33dfb645e7d1fe4e9d810accd48c6a642c23001694"), looks := false }, kinds := [], alts := [], laidByText := true, laidKinds := [.sentinel, .sentinel, .sentinel, .sentinel], laidTests := true, laidLooks := .later }
def FnExactStoreOfUptoCardSaid : Prop := Claim7.holds Tryz.pinned (.plain (OpenSpec.upto fnExactStoreOfSpec)) fnExactStoreOfUptoCard

/-- THE SECOND FORM's CARD OF 'laws.FnExactStoreRead'. -/
def fnExactStoreReadUptoCard : Claim7 := { stood := { row := fnExactStoreReadUptoRow, standIns := [], harness := (true, "bf20913a854c7a2c7084de33dfb645e7d1fe4e9d810accd48c6a642c23001694"), looks := false }, kinds := [], alts := [], laidByText := true, laidKinds := [.sentinel, .sentinel, .sentinel, .sentinel], laidTests := true, laidLooks := .later }
def FnExactStoreReadUptoCardSaid : Prop := Claim7.holds Tryz.pinned (.plain (OpenSpec.upto fnExactStoreReadSpec)) fnExactStoreReadUptoCard
end Rows
end Go.Proofs.YtlnpbfeihjfnjabGreatDoor
