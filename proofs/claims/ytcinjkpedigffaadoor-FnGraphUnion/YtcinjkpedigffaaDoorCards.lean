/-
  DERIVED. GIVEN WITH THE SEED: THE CARDS: each row of YtcinjkpedigffaaDoorRows.lean that lists a variable, with what it lists TIED to the program's text (the seventh form; the later family's looks); each row that meets fmt, with fmt's text TOLD by the authors' own Lean function (tested against real Go, not proved from fmt's source: count such statements apart). THE CARD IS WHAT COUNTS. Prove the row's statement (the work); the ties are given (YtcinjkpedigffaaDoorTie.lean); close each card by the builder's one call (the guide's Derived/Test/ToyasCard.lean, 'card_holds'). Laid BY PROGRAM, IN A SANDBOX (cutbox-door.mjs). By AI agents, Wed Nov 11 2026. No macro, syntax, notation, axiom, sorry.
-/
import Derived.Test.YtcinjkpedigffaaDoorRows
import GoSem.ClaimSeven
namespace Go.Proofs.YtcinjkpedigffaaDoor
namespace Rows

/-- THE TIED CARD OF 'laws.FnGraphView'. -/
def fnGraphViewCard : Claim7 := { stood := { row := fnGraphViewRow, standIns := [], harness := (true, "dcdd8abda7d420f9cc853c7c0fd1f0c3c1b6d41e19f9c625b6a430e983a58762"), looks := false }, kinds := [], alts := [], laidByText := true, laidKinds := [.sentinel, .sentinel, .sentinel, .sentinel], laidTests := true, laidLooks := .later }
def FnGraphViewCardSaid : Prop := Claim7.holds Tryd.pinned (.plain (OpenSpec.ofChange fnGraphViewSpec)) fnGraphViewCard

/-- THE TIED CARD OF 'laws.FnGraphNear'. -/
def fnGraphNearCard : Claim7 := { stood := { row := fnGraphNearRow, standIns := [], harness := (true, "dcdd8abda7d420f9cc853c7c0fd1f0c3c1b6d41e19f9c625b6a430e983a58762"), looks := false }, kinds := [], alts := [], laidByText := true, laidKinds := [.sentinel, .sentinel, .sentinel, .sentinel], laidTests := true, laidLooks := .later }
def FnGraphNearCardSaid : Prop := Claim7.holds Tryd.pinned (.plain (OpenSpec.ofChange fnGraphNearSpec)) fnGraphNearCard

/-- THE TIED CARD OF 'laws.FnGraphBent'. -/
def fnGraphBentCard : Claim7 := { stood := { row := fnGraphBentRow, standIns := [], harness := (true, "dcdd8abda7d420f9cc853c7c0fd1f0c3c1b6d41e19f9c625b6a430e983a58762"), looks := false }, kinds := [], alts := [], laidByText := true, laidKinds := [.sentinel, .sentinel, .sentinel, .sentinel], laidTests := true, laidLooks := .later }
def FnGraphBentCardSaid : Prop := Claim7.holds Tryd.pinned (.plain (OpenSpec.ofChange fnGraphBentSpec)) fnGraphBentCard

/-- THE TIED CARD OF 'laws.FnGraphEmpty'. -/
def fnGraphEmptyCard : Claim7 := { stood := { row := fnGraphEmptyRow, standIns := [], harness := (true, "dcdd8abda7d420f9cc853c7c0fd1f0c3c1b6d41e19f9c625b6a430e983a58762"), looks := false }, kinds := [], alts := [], laidByText := true, laidKinds := [.sentinel, .sentinel, .sentinel, .sentinel], laidTests := true, laidLooks := .later }
def FnGraphEmptyCardSaid : Prop := Claim7.holds Tryd.pinned (.plain (OpenSpec.ofChange fnGraphEmptySpec)) fnGraphEmptyCard

/-- THE TIED CARD OF 'laws.FnGraphUnion'. -/
def fnGraphUnionCard : Claim7 := { stood := { row := fnGraphUnionRow, standIns := [], harness := (true, "dcdd8abda7d420f9cc853c7c0fd1f0c3c1b6d41e19f9c625b6a430e983a58762"), looks := false }, kinds := [], alts := [], laidByText := true, laidKinds := [.sentinel, .sentinel, .sentinel, .sentinel], laidTests := true, laidLooks := .later }
def FnGraphUnionCardSaid : Prop := Claim7.holds Tryd.pinned (.plain (OpenSpec.ofChange fnGraphUnionSpec)) fnGraphUnionCard

/-- THE SECOND FORM's CARD OF 'laws.FnGraphView'. -/
def fnGraphViewUptoCard : Claim7 := { stood := { row := fnGraphViewUptoRow, standIns := [], harness := (true, "dcdd8abda7d420f9cc853c7c0fd1f0c3c1b6d41e19f9c625b6a430e983a58762"), looks := false }, kinds := [], alts := [], laidByText := true, laidKinds := [.sentinel, .sentinel, .sentinel, .sentinel], laidTests := true, laidLooks := .later }
def FnGraphViewUptoCardSaid : Prop := Claim7.holds Tryd.pinned (.plain (OpenSpec.upto fnGraphViewSpec)) fnGraphViewUptoCard

/-- THE SECOND FORM's CARD OF 'laws.FnGraphNear'. -/
def fnGraphNearUptoCard : Claim7 := { stood := { row := fnGraphNearUptoRow, standIns := [], harness := (true, "dcdd8abda7d420f9cc853c7c0fd1f0c3c1b6d41e19f9c625b6a430e983a58762"), looks := false }, kinds := [], alts := [], laidByText := true, laidKinds := [.sentinel, .sentinel, .sentinel, .sentinel], laidTests := true, laidLooks := .later }
def FnGraphNearUptoCardSaid : Prop := Claim7.holds Tryd.pinned (.plain (OpenSpec.upto fnGraphNearSpec)) fnGraphNearUptoCard

/-- THE SECOND FORM's CARD OF 'laws.FnGraphBent'. -/
def fnGraphBentUptoCard : Claim7 := { stood := { row := fnGraphBentUptoRow, standIns := [], harness := (true, "dcdd8abda7d420f9cc853c7c0fd1f0c3c1b6d41e19f9c625b6a430e983a58762"), looks := false }, kinds := [], alts := [], laidByText := true, laidKinds := [.sentinel, .sentinel, .sentinel, .sentinel], laidTests := true, laidLooks := .later }
def FnGraphBentUptoCardSaid : Prop := Claim7.holds Tryd.pinned (.plain (OpenSpec.upto fnGraphBentSpec)) fnGraphBentUptoCard

/-- THE SECOND FORM's CARD OF 'laws.FnGraphEmpty'. -/
def fnGraphEmptyUptoCard : Claim7 := { stood := { row := fnGraphEmptyUptoRow, standIns := [], harness := (true, "dcdd8abda7d420f9cc853c7c0fd1f0c3c1b6d41e19f9c625b6a430e983a58762"), looks := false }, kinds := [], alts := [], laidByText := true, laidKinds := [.sentinel, .sentinel, .sentinel, .sentinel], laidTests := true, laidLooks := .later }
def FnGraphEmptyUptoCardSaid : Prop := Claim7.holds Tryd.pinned (.plain (OpenSpec.upto fnGraphEmptySpec)) fnGraphEmptyUptoCard

/-- THE SECOND FORM's CARD OF 'laws.FnGraphUnion'. -/
def fnGraphUnionUptoCard : Claim7 := { stood := { row := fnGraphUnionUptoRow, standIns := [], harness := (true, "dcdd8abda7d420f9cc853c7c0fd1f0c3c1b6d41e19f9c625b6a430e983a58762"), looks := false }, kinds := [], alts := [], laidByText := true, laidKinds := [.sentinel, .sentinel, .sentinel, .sentinel], laidTests := true, laidLooks := .later }
def FnGraphUnionUptoCardSaid : Prop := Claim7.holds Tryd.pinned (.plain (OpenSpec.upto fnGraphUnionSpec)) fnGraphUnionUptoCard
end Rows
end Go.Proofs.YtcinjkpedigffaaDoor
