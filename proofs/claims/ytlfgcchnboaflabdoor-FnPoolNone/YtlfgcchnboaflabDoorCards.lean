/-
  DERIVED. GIVEN WITH THE SEED: THE CARDS: each row of YtlfgcchnboaflabDoorRows.lean that lists a variable, with what it lists TIED to the program's text (the seventh form; the later family's looks); each row that meets fmt, with fmt's text TOLD by the authors' own Lean function (tested against real Go, not proved from fmt's source: count such statements apart). THE CARD IS WHAT COUNTS. Prove the row's statement (the work); the ties are given (YtlfgcchnboaflabDoorTie.lean); close each card by the builder's one call (the guide's Derived/Test/ToyasCard.lean, 'card_holds'). Laid BY PROGRAM, IN A SANDBOX (cutbox-door.mjs). By AI agents, Wed Nov 11 2026. No macro, syntax, notation, axiom, sorry.
-/
import Derived.Test.YtlfgcchnboaflabDoorRows
import GoSem.ClaimSeven
namespace Go.Proofs.YtlfgcchnboaflabDoor
namespace Rows

/-- THE TIED CARD OF 'laws.FnPoolNone'. -/
def fnPoolNoneCard : Claim7 := { stood := { row := fnPoolNoneRow, standIns := [], harness := (true, "58881738edc318d57046815a9ce57654d449bb52365f174b768c099af58789cd"), looks := false }, kinds := [], alts := [], laidByText := true, laidKinds := [.sentinel], laidTests := true, laidLooks := .later }
def FnPoolNoneCardSaid : Prop := Claim7.holds Tryd.pinned (.plain (OpenSpec.ofChange fnPoolNoneSpec)) fnPoolNoneCard

/-- THE TIED CARD OF 'laws.FnPoolHit'. -/
def fnPoolHitCard : Claim7 := { stood := { row := fnPoolHitRow, standIns := [], harness := (true, "58881738edc318d57046815a9ce57654d449bb52365f174b768c099af58789cd"), looks := false }, kinds := [], alts := [], laidByText := true, laidKinds := [.sentinel], laidTests := true, laidLooks := .later }
def FnPoolHitCardSaid : Prop := Claim7.holds Tryd.pinned (.plain (OpenSpec.ofChange fnPoolHitSpec)) fnPoolHitCard

/-- THE TIED CARD OF 'laws.FnPoolOrder'. -/
def fnPoolOrderCard : Claim7 := { stood := { row := fnPoolOrderRow, standIns := [], harness := (true, "58881738edc318d57046815a9ce57654d449bb52365f174b768c099af58789cd"), looks := false }, kinds := [], alts := [], laidByText := true, laidKinds := [.sentinel], laidTests := true, laidLooks := .later }
def FnPoolOrderCardSaid : Prop := Claim7.holds Tryd.pinned (.plain (OpenSpec.ofChange fnPoolOrderSpec)) fnPoolOrderCard

/-- THE SECOND FORM's CARD OF 'laws.FnPoolNone'. -/
def fnPoolNoneUptoCard : Claim7 := { stood := { row := fnPoolNoneUptoRow, standIns := [], harness := (true, "58881738edc318d57046815a9ce57654d449bb52365f174b768c099af58789cd"), looks := false }, kinds := [], alts := [], laidByText := true, laidKinds := [.sentinel], laidTests := true, laidLooks := .later }
def FnPoolNoneUptoCardSaid : Prop := Claim7.holds Tryd.pinned (.plain (OpenSpec.upto fnPoolNoneSpec)) fnPoolNoneUptoCard

/-- THE SECOND FORM's CARD OF 'laws.FnPoolHit'. -/
def fnPoolHitUptoCard : Claim7 := { stood := { row := fnPoolHitUptoRow, standIns := [], harness := (true, "58881738edc318d57046815a9ce57654d449bb52365f174b768c099af58789cd"), looks := false }, kinds := [], alts := [], laidByText := true, laidKinds := [.sentinel], laidTests := true, laidLooks := .later }
def FnPoolHitUptoCardSaid : Prop := Claim7.holds Tryd.pinned (.plain (OpenSpec.upto fnPoolHitSpec)) fnPoolHitUptoCard

/-- THE SECOND FORM's CARD OF 'laws.FnPoolOrder'. -/
def fnPoolOrderUptoCard : Claim7 := { stood := { row := fnPoolOrderUptoRow, standIns := [], harness := (true, "58881738edc318d57046815a9ce57654d449bb52365f174b768c099af58789cd"), looks := false }, kinds := [], alts := [], laidByText := true, laidKinds := [.sentinel], laidTests := true, laidLooks := .later }
def FnPoolOrderUptoCardSaid : Prop := Claim7.holds Tryd.pinned (.plain (OpenSpec.upto fnPoolOrderSpec)) fnPoolOrderUptoCard
end Rows
end Go.Proofs.YtlfgcchnboaflabDoor
