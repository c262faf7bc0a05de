/-
  No cell of these rows narrows 'for every input' (looked for: loops, veiled, ifaces, maps, wideKeys, modest, calm, conditions, laid).
  DERIVED. THE GIVEN ROWS OF THIS SEAT. 5 by the template 'for every input the law returns true; each argument reads behind the call as it read before'; 0 by the template 'total and deterministic' (their statements: YtlfbgafedbbahaaTotals.lean).
  GIVEN WITH THE SEED: the statements are not yours to turn. If you find one false, say at which input.
  Laid BY PROGRAM, IN A SANDBOX (cutbox-rows.mjs): the forced cells as the released guide's own fill.sh prints them over the translation 92181a537e3c3f2c… (all of the seat's roots in one cut). By AI agents, Wed Nov 11 2026. No macro, syntax, notation, axiom, sorry.
-/
import Derived.Test.YtlfbgafedbbahaaChecked
import GoSem.Claim
import GoSem.ClaimJoined
import GoSem.ClaimMapViews
import Derived.JoinedTies
import Derived.KernelRfl
namespace Go.Proofs.Ytlfbgafedbbahaa
/- THE CELL 'sum', in the pinned program and in every row, IS THE sha256 OF THE DUMP (.gsa) THAT YtlfbgafedbbahaaProg.lean LOADS. Nothing in Lean hashes anything: it is a label: what it is worth is what the hold of that sum in a sandbox is worth. -/
noncomputable def Try.pinned : Pinned := { name := "ytlfbgafedbbahaa", sum := "92181a537e3c3f2c1630709169b742d4e60591bb142b61712d40f831cd5c1acd", checked := Try.checked }
namespace Rows
def none {H : Type} : Left H := { results := [], args := [] }

/-- 'laws.FnLabelOrder': WHATEVER THE INPUT: true; the input reads as it did. -/
def fnLabelOrderSpec : ChangeSpec := { name := "fnLabelOrder", fn := fun _ => fun
  | [d1, d2] => { results := [.lit (.bool true)], args := [d1, d2] }
  | _ => none }
def fnLabelOrderRow : OpenClaim := { program := "ytlfbgafedbbahaa", sum := "92181a537e3c3f2c1630709169b742d4e60591bb142b61712d40f831cd5c1acd", func := "loop.example/hagioscope/laws.FnLabelOrder", spec := "fnLabelOrder", apart := false }
def FnLabelOrderSaid : Prop := fnLabelOrderRow.holds Try.pinned (OpenSpec.ofChange fnLabelOrderSpec)

/-- ITS FALSE NEIGHBOUR: 'it returns false'. Refute it at one input. -/
def fnLabelOrderWrong : ChangeSpec := { name := "fnLabelOrder", fn := fun _ => fun
  | [d1, d2] => { results := [.lit (.bool false)], args := [d1, d2] }
  | _ => none }
def FnLabelOrderWrongFalsely : Prop := fnLabelOrderRow.holds Try.pinned (OpenSpec.ofChange fnLabelOrderWrong)

/-- 'laws.FnLabelJoin': WHATEVER THE INPUT: true; the input reads as it did. -/
def fnLabelJoinSpec : ChangeSpec := { name := "fnLabelJoin", fn := fun _ => fun
  | [d1, d2] => { results := [.lit (.bool true)], args := [d1, d2] }
  | _ => none }
def fnLabelJoinRow : OpenClaim := { program := "ytlfbgafedbbahaa", sum := "92181a537e3c3f2c1630709169b742d4e60591bb142b61712d40f831cd5c1acd", func := "loop.example/hagioscope/laws.FnLabelJoin", spec := "fnLabelJoin", apart := false }
def FnLabelJoinSaid : Prop := fnLabelJoinRow.holds Try.pinned (OpenSpec.ofChange fnLabelJoinSpec)

/-- ITS FALSE NEIGHBOUR: 'it returns false'. Refute it at one input. -/
def fnLabelJoinWrong : ChangeSpec := { name := "fnLabelJoin", fn := fun _ => fun
  | [d1, d2] => { results := [.lit (.bool false)], args := [d1, d2] }
  | _ => none }
def FnLabelJoinWrongFalsely : Prop := fnLabelJoinRow.holds Try.pinned (OpenSpec.ofChange fnLabelJoinWrong)

/-- 'laws.FnLabelRing': WHATEVER THE INPUT: true; the input reads as it did. -/
def fnLabelRingSpec : ChangeSpec := { name := "fnLabelRing", fn := fun _ => fun
  | [d1, d2] => { results := [.lit (.bool true)], args := [d1, d2] }
  | _ => none }
def fnLabelRingRow : OpenClaim := { program := "ytlfbgafedbbahaa", sum := "92181a537e3c3f2c1630709169b742d4e60591bb142b61712d40f831cd5c1acd", func := "loop.example/hagioscope/laws.FnLabelRing", spec := "fnLabelRing", apart := false }
def FnLabelRingSaid : Prop := fnLabelRingRow.holds Try.pinned (OpenSpec.ofChange fnLabelRingSpec)

/-- ITS FALSE NEIGHBOUR: 'it returns false'. Refute it at one input. -/
def fnLabelRingWrong : ChangeSpec := { name := "fnLabelRing", fn := fun _ => fun
  | [d1, d2] => { results := [.lit (.bool false)], args := [d1, d2] }
  | _ => none }
def FnLabelRingWrongFalsely : Prop := fnLabelRingRow.holds Try.pinned (OpenSpec.ofChange fnLabelRingWrong)

/-- 'laws.FnLabelMany': WHATEVER THE INPUT: true; the input reads as it did. -/
def fnLabelManySpec : ChangeSpec := { name := "fnLabelMany", fn := fun _ => fun
  | [d] => { results := [.lit (.bool true)], args := [d] }
  | _ => none }
def fnLabelManyRow : OpenClaim := { program := "ytlfbgafedbbahaa", sum := "92181a537e3c3f2c1630709169b742d4e60591bb142b61712d40f831cd5c1acd", func := "loop.example/hagioscope/laws.FnLabelMany", spec := "fnLabelMany", apart := false }
def FnLabelManySaid : Prop := fnLabelManyRow.holds Try.pinned (OpenSpec.ofChange fnLabelManySpec)

/-- ITS FALSE NEIGHBOUR: 'it returns false'. Refute it at one input. -/
def fnLabelManyWrong : ChangeSpec := { name := "fnLabelMany", fn := fun _ => fun
  | [d] => { results := [.lit (.bool false)], args := [d] }
  | _ => none }
def FnLabelManyWrongFalsely : Prop := fnLabelManyRow.holds Try.pinned (OpenSpec.ofChange fnLabelManyWrong)

/-- 'laws.FnLabelHas': WHATEVER THE INPUT: true; the input reads as it did. -/
def fnLabelHasSpec : ChangeSpec := { name := "fnLabelHas", fn := fun _ => fun
  | [d1, d2] => { results := [.lit (.bool true)], args := [d1, d2] }
  | _ => none }
def fnLabelHasRow : OpenClaim := { program := "ytlfbgafedbbahaa", sum := "92181a537e3c3f2c1630709169b742d4e60591bb142b61712d40f831cd5c1acd", func := "loop.example/hagioscope/laws.FnLabelHas", spec := "fnLabelHas", apart := false }
def FnLabelHasSaid : Prop := fnLabelHasRow.holds Try.pinned (OpenSpec.ofChange fnLabelHasSpec)

/-- ITS FALSE NEIGHBOUR: 'it returns false'. Refute it at one input. -/
def fnLabelHasWrong : ChangeSpec := { name := "fnLabelHas", fn := fun _ => fun
  | [d1, d2] => { results := [.lit (.bool false)], args := [d1, d2] }
  | _ => none }
def FnLabelHasWrongFalsely : Prop := fnLabelHasRow.holds Try.pinned (OpenSpec.ofChange fnLabelHasWrong)

/- THE SECOND FORM. 'bulk': how many values and letters a reading holds, each counted each time it is reached (what is shared counts as often as it is met; a slice's spare places count too). A statement '..UptoSaid' is the law's where the arguments, and the package variables that the reading takes, are together of bulk at most 1048576: NARROWER than '..Said'. Prove '..Said' where nothing that the law and all that it calls make is longer than what came in: it says more and counts as full. Else prove '..UptoSaid'. A law counts once. -/
mutual
def uptoBulk {H : Type} : DataW H → Nat
  | .lit (.string bytes) => bytes.length + 1
  | .lit _ => 1
  | .nil => 1
  | .ptr d => uptoBulk d + 1
  | .slice elems spare => uptoBulkAll elems + uptoBulkAll spare + 1
  | .agg parts => uptoBulkAll parts + 1
  | .iface _ d => uptoBulk d + 1
  | .map entries => uptoBulkEntries entries + 1
  | .held _ => 1
def uptoBulkAll {H : Type} : List (DataW H) → Nat
  | [] => 0
  | d :: r => uptoBulk d + uptoBulkAll r
def uptoBulkEntries {H : Type} : List (Lit × DataW H) → Nat
  | [] => 0
  | x :: r => uptoBulkEntry x + uptoBulkEntries r
def uptoBulkEntry {H : Type} : Lit × DataW H → Nat
  | (.string bytes, d) => bytes.length + uptoBulk d + 1
  | (_, d) => uptoBulk d + 1
 end
def uptoSmall : (H : Type) → List (DataW H) → Bool := fun _ ds => decide (uptoBulkAll ds ≤ 1048576)
def OpenSpec.upto (s : _root_.Go.ChangeSpec) : _root_.Go.OpenSpec := { _root_.Go.OpenSpec.ofChange s with cond := some uptoSmall }

/-- 'laws.FnLabelOrder', WHERE WHAT IT READS IS OF BULK AT MOST 1048576: true; the input reads as it did. -/
def fnLabelOrderUptoRow : OpenClaim := { program := "ytlfbgafedbbahaa", sum := "92181a537e3c3f2c1630709169b742d4e60591bb142b61712d40f831cd5c1acd", func := "loop.example/hagioscope/laws.FnLabelOrder", spec := "fnLabelOrder", apart := false, narrowed := true }
def FnLabelOrderUptoSaid : Prop := fnLabelOrderUptoRow.holds Try.pinned (OpenSpec.upto fnLabelOrderSpec)

/-- 'laws.FnLabelJoin', WHERE WHAT IT READS IS OF BULK AT MOST 1048576: true; the input reads as it did. -/
def fnLabelJoinUptoRow : OpenClaim := { program := "ytlfbgafedbbahaa", sum := "92181a537e3c3f2c1630709169b742d4e60591bb142b61712d40f831cd5c1acd", func := "loop.example/hagioscope/laws.FnLabelJoin", spec := "fnLabelJoin", apart := false, narrowed := true }
def FnLabelJoinUptoSaid : Prop := fnLabelJoinUptoRow.holds Try.pinned (OpenSpec.upto fnLabelJoinSpec)

/-- 'laws.FnLabelRing', WHERE WHAT IT READS IS OF BULK AT MOST 1048576: true; the input reads as it did. -/
def fnLabelRingUptoRow : OpenClaim := { program := "ytlfbgafedbbahaa", sum := "92181a537e3c3f2c1630709169b742d4e60591bb142b61712d40f831cd5c1acd", func := "loop.example/hagioscope/laws.FnLabelRing", spec := "fnLabelRing", apart := false, narrowed := true }
def FnLabelRingUptoSaid : Prop := fnLabelRingUptoRow.holds Try.pinned (OpenSpec.upto fnLabelRingSpec)

/-- 'laws.FnLabelMany', WHERE WHAT IT READS IS OF BULK AT MOST 1048576: true; the input reads as it did. -/
def fnLabelManyUptoRow : OpenClaim := { program := "ytlfbgafedbbahaa", sum := "92181a537e3c3f2c1630709169b742d4e60591bb142b61712d40f831cd5c1acd", func := "loop.example/hagioscope/laws.FnLabelMany", spec := "fnLabelMany", apart := false, narrowed := true }
def FnLabelManyUptoSaid : Prop := fnLabelManyUptoRow.holds Try.pinned (OpenSpec.upto fnLabelManySpec)

/-- 'laws.FnLabelHas', WHERE WHAT IT READS IS OF BULK AT MOST 1048576: true; the input reads as it did. -/
def fnLabelHasUptoRow : OpenClaim := { program := "ytlfbgafedbbahaa", sum := "92181a537e3c3f2c1630709169b742d4e60591bb142b61712d40f831cd5c1acd", func := "loop.example/hagioscope/laws.FnLabelHas", spec := "fnLabelHas", apart := false, narrowed := true }
def FnLabelHasUptoSaid : Prop := fnLabelHasUptoRow.holds Try.pinned (OpenSpec.upto fnLabelHasSpec)

end Rows
end Go.Proofs.Ytlfbgafedbbahaa
