/-
  DERIVED. GIVEN WITH THE SEED: THE CARDS: each row of YtfcggdkahmcnfaaDoorRows.lean that lists a variable, with what it lists TIED to the program's text (the seventh form; the later family's looks); each row that meets fmt, with fmt's text TOLD by the authors' own Lean function (tested against real Go, not proved from fmt's source: count such statements apart). THE CARD IS WHAT COUNTS. Prove the row's statement (the work); the ties are given (YtfcggdkahmcnfaaDoorTie.lean); close each card by the builder's one call (the guide's Derived/Test/ToyasCard.lean, 'card_holds'). Laid BY PROGRAM, IN A SANDBOX (cutbox-door.mjs). By AI agents, Wed Nov 11 2026. No macro, syntax, notation, axiom, sorry.
-/
import Derived.Test.YtfcggdkahmcnfaaDoorRows
import GoSem.ClaimSeven
namespace Go.Proofs.YtfcggdkahmcnfaaDoor
namespace Rows

/-- THE TIED CARD OF 'laws.FnPoolAll'. -/
def fnPoolAllCard : Claim7 := { stood := { row := fnPoolAllRow, standIns := [], harness := (true, "2670e476dfdcd8d5bc8db926f1eb0a762e50c209f233251a2babfaee866d841b"), looks := false }, kinds := [], alts := [], laidByText := true, laidKinds := [.sentinel], laidTests := true, laidLooks := .later }
def FnPoolAllCardSaid : Prop := Claim7.holds Tryd.pinned (.plain (OpenSpec.ofChange fnPoolAllSpec)) fnPoolAllCard

/-- THE TIED CARD OF 'laws.FnPoolBent'. -/
def fnPoolBentCard : Claim7 := { stood := { row := fnPoolBentRow, standIns := [], harness := (true, "2670e476dfdcd8d5bc8db926f1eb0a762e50c209f233251a2babfaee866d841b"), looks := false }, kinds := [], alts := [], laidByText := true, laidKinds := [.sentinel], laidTests := true, laidLooks := .later }
def FnPoolBentCardSaid : Prop := Claim7.holds Tryd.pinned (.plain (OpenSpec.ofChange fnPoolBentSpec)) fnPoolBentCard

/-- THE SECOND FORM's CARD OF 'laws.FnPoolAll'. -/
def fnPoolAllUptoCard : Claim7 := { stood := { row := fnPoolAllUptoRow, standIns := [], harness := (true, "2670e476dfdcd8d5bc8db926f1eb0a762e50c209f233251a2babfaee866d841b"), looks := false }, kinds := [], alts := [], laidByText := true, laidKinds := [.sentinel], laidTests := true, laidLooks := .later }
def FnPoolAllUptoCardSaid : Prop := Claim7.holds Tryd.pinned (.plain (OpenSpec.upto fnPoolAllSpec)) fnPoolAllUptoCard

/-- THE SECOND FORM's CARD OF 'laws.FnPoolBent'. -/
def fnPoolBentUptoCard : Claim7 := { stood := { row := fnPoolBentUptoRow, standIns := [], harness := (true, "2670e476dfdcd8d5bc8db926f1eb0a762e50c209f233251a2babfaee866d841b"), looks := false }, kinds := [], alts := [], laidByText := true, laidKinds := [.sentinel], laidTests := true, laidLooks := .later }
def FnPoolBentUptoCardSaid : Prop := Claim7.holds Tryd.pinned (.plain (OpenSpec.upto fnPoolBentSpec)) fnPoolBentUptoCard
end Rows
end Go.Proofs.YtfcggdkahmcnfaaDoor
