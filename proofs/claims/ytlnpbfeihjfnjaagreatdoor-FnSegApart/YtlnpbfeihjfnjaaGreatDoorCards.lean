/-
  DERIVED. GIVEN WITH THE SEED: THE CARDS: each row of YtlnpbfeihjfnjaaGreatDoorRows.lean that lists a variable, with what it lists TIED to the program's text (the seventh form; the later family's looks); each row that meets fmt, with fmt's text TOLD by the authors' own Lean function (tested against real Go, not proved from fmt's source: count such statements apart). THE CARD IS WHAT COUNTS. Prove the row's statement (the work); the ties are given (YtlnpbfeihjfnjaaGreatDoorTie.lean); close each card by the builder's one call (the guide's Derived/Test/ToyasCard.lean, 'card_holds'). Laid BY PROGRAM, IN A SANDBOX (cutbox-door.mjs). By AI agents, Wed Nov 11 2026. No macro, syntax, notation, axiom, sorry.
-/
import Derived.Test.YtlnpbfeihjfnjaaGreatDoorRows
import GoSem.ClaimSeven
namespace Go.Proofs.YtlnpbfeihjfnjaaGreatDoor
namespace Rows

/-- THE TIED CARD OF 'laws.FnStore'. -/
def fnStoreCard : Claim7 := { stood := { row := fnStoreRow, standIns := [], harness := (true, "54a0f81d7c4bef13f815af42e2e0a6b2cd9bca226720cdd3b345855cf0ba65ee"), looks := true }, kinds := [], alts := [], laidByText := true, laidKinds := [.sentinel, .sentinel, .sentinel, .sentinel], laidTests := true, laidLooks := .later }
def FnStoreCardSaid : Prop := Claim7.holds Tryz.pinned (.plain (OpenSpec.ofChange fnStoreSpec)) fnStoreCard

/-- THE TIED CARD OF 'laws.FnStoreView'. -/
def fnStoreViewCard : Claim7 := { stood := { row := fnStoreViewRow, standIns := [], harness := (true, "54a0f81d7c4bef13f815af42e2e0a6b2cd9bca226720cdd3b345855cf0ba65ee"), looks := true }, kinds := [], alts := [], laidByText := true, laidKinds := [.sentinel, .sentinel, .sentinel, .sentinel], laidTests := true, laidLooks := .later }
def FnStoreViewCardSaid : Prop := Claim7.holds Tryz.pinned (.plain (OpenSpec.ofChange fnStoreViewSpec)) fnStoreViewCard

/-- THE TIED CARD OF 'laws.FnSegApart'. -/
def fnSegApartCard : Claim7 := { stood := { row := fnSegApartRow, standIns := [], harness := (true, "54a0f81d7c4bef13f815af42e2e0a6b2cd9bca226720cdd3b345855cf0ba65ee"), looks := true }, kinds := [], alts := [], laidByText := true, laidKinds := [.sentinel, .sentinel, .sentinel, .sentinel], laidTests := true, laidLooks := .later }
def FnSegApartCardSaid : Prop := Claim7.holds Tryz.pinned (.plain (OpenSpec.ofChange fnSegApartSpec)) fnSegApartCard

/-- THE TIED CARD OF 'laws.FnStoreBent'. -/
def fnStoreBentCard : Claim7 := { stood := { row := fnStoreBentRow, standIns := [], harness := (true, "54a0f81d7c4bef13f815af42e2e0a6b2cd9bca226720cdd3b345855cf0ba65ee"), looks := true }, kinds := [], alts := [], laidByText := true, laidKinds := [.sentinel, .sentinel, .sentinel, .sentinel], laidTests := true, laidLooks := .later }
def FnStoreBentCardSaid : Prop := Claim7.holds Tryz.pinned (.plain (OpenSpec.ofChange fnStoreBentSpec)) fnStoreBentCard

/-- THE TIED CARD OF 'laws.FnSegLong'. -/
def fnSegLongCard : Claim7 := { stood := { row := fnSegLongRow, standIns := [], harness := (true, "54a0f81d7c4bef13f815af42e2e0a6b2cd9bca226720cdd3b345855cf0ba65ee"), looks := true }, kinds := [], alts := [], laidByText := true, laidKinds := [.sentinel, .sentinel, .sentinel, .sentinel], laidTests := true, laidLooks := .later }
def FnSegLongCardSaid : Prop := Claim7.holds Tryz.pinned (.plain (OpenSpec.ofChange fnSegLongSpec)) fnSegLongCard

/-- THE TIED CARD OF 'laws.FnStoreLabels'. -/
def fnStoreLabelsCard : Claim7 := { stood := { row := fnStoreLabelsRow, standIns := [], harness := (true, "54a0f81d7c4bef13f815af42e2e0a6b2cd9bca226720cdd3b345855cf0ba65ee"), looks := true }, kinds := [], alts := [], laidByText := true, laidKinds := [.sentinel, .sentinel, .sentinel, .sentinel], laidTests := true, laidLooks := .later }
def FnStoreLabelsCardSaid : Prop := Claim7.holds Tryz.pinned (.plain (OpenSpec.ofChange fnStoreLabelsSpec)) fnStoreLabelsCard

/-- THE SECOND FORM's CARD OF 'laws.FnStore'. -/
def fnStoreUptoCard : Claim7 := { stood := { row := fnStoreUptoRow, standIns := [], harness := (true, "54a0f81d7c4bef13f815af42e2e0a6b2cd9bca226720cdd3b345855cf0ba65ee"), looks := true }, kinds := [], alts := [], laidByText := true, laidKinds := [.sentinel, .sentinel, .sentinel, .sentinel], laidTests := true, laidLooks := .later }
def FnStoreUptoCardSaid : Prop := Claim7.holds Tryz.pinned (.plain (OpenSpec.upto fnStoreSpec)) fnStoreUptoCard

/-- THE SECOND FORM's CARD OF 'laws.FnStoreView'. -/
def fnStoreViewUptoCard : Claim7 := { stood := { row := fnStoreViewUptoRow, standIns := [], harness := (true, "54a0f81d7c4bef13f815af42e2e0a6b2cd9bca226720cdd3b345855cf0ba65ee"), looks := true }, kinds := [], alts := [], laidByText := true, laidKinds := [.sentinel, .sentinel, .sentinel, .sentinel], laidTests := true, laidLooks := .later }
def FnStoreViewUptoCardSaid : Prop := Claim7.holds Tryz.pinned (.plain (OpenSpec.upto fnStoreViewSpec)) fnStoreViewUptoCard

/-- THE SECOND FORM's CARD OF 'laws.FnSegApart'. -/
def fnSegApartUptoCard : Claim7 := { stood := { row := fnSegApartUptoRow, standIns := [], harness := (true, "54a0f81d7c4bef13f815af42e2e0a6b2cd9bca226720cdd3b345855cf0ba65ee"), looks := true }, kinds := [], alts := [], laidByText := true, laidKinds := [.sentinel, .sentinel, .sentinel, .sentinel], laidTests := true, laidLooks := .later }
def FnSegApartUptoCardSaid : Prop := Claim7.holds Tryz.pinned (.plain (OpenSpec.upto fnSegApartSpec)) fnSegApartUptoCard

/-- THE SECOND FORM's CARD OF 'laws.FnStoreBent'. -/
def fnStoreBentUptoCard : Claim7 := { stood := { row := fnStoreBentUptoRow, standIns := [], harness := (true, "54a0f81d7c4bef13f815af42e2e0a6b2cd9bca226720cdd3b345855cf0ba65ee"), looks := true }, kinds := [], alts := [], laidByText := true, laidKinds := [.sentinel, .sentinel, .sentinel, .sentinel], laidTests := true, laidLooks := .later }
def FnStoreBentUptoCardSaid : Prop := Claim7.holds Tryz.pinned (.plain (OpenSpec.upto fnStoreBentSpec)) fnStoreBentUptoCard

/-- THE SECOND FORM's CARD OF 'laws.FnSegLong'. -/
def fnSegLongUptoCard : Claim7 := { stood := { row := fnSegLongUptoRow, standIns := [], harness := (true, "54a0f81d7c4bef13f815af42e2e0a6b2cd9bca226720cdd3b345855cf0ba65ee"), looks := true }, kinds := [], alts := [], laidByText := true, laidKinds := [.sentinel, .sentinel, .sentinel, .sentinel], laidTests := true, laidLooks := .later }
def FnSegLongUptoCardSaid : Prop := Claim7.holds Tryz.pinned (.plain (OpenSpec.upto fnSegLongSpec)) fnSegLongUptoCard

/-- THE SECOND FORM's CARD OF 'laws.FnStoreLabels'. -/
def fnStoreLabelsUptoCard : Claim7 := { stood := { row := fnStoreLabelsUptoRow, standIns := [], harness := (true, "54a0f81d7c4bef13f815af42e2e0a6b2cd9bca226720cdd3b345855cf0ba65ee"), looks := true }, kinds := [], alts := [], laidByText := true, laidKinds := [.sentinel, .sentinel, .sentinel, .sentinel], laidTests := true, laidLooks := .later }
def FnStoreLabelsUptoCardSaid : Prop := Claim7.holds Tryz.pinned (.plain (OpenSpec.upto fnStoreLabelsSpec)) fnStoreLabelsUptoCard
end Rows
end Go.Proofs.YtlnpbfeihjfnjaaGreatDoor
