/-
  No cell of these rows narrows 'for every input' (looked for: loops, veiled, ifaces, maps, wideKeys, modest, calm, conditions, laid).
  DERIVED. THE GIVEN ROWS OF THIS SEAT. 3 by the template 'for every input the law returns true; each argument reads behind the call as it read before'; 0 by the template 'total and deterministic' (their statements: YtlfbgafedbbahabTotals.lean).
  GIVEN WITH THE SEED: the statements are not yours to turn. If you find one false, say at which input.
  Laid BY PROGRAM, IN A SANDBOX (cutbox-rows.mjs): the forced cells as the released guide's own fill.sh prints them over the translation a670d1293d01fe74… (all of the seat's roots in one cut). By AI agents, Wed Nov 11 2026. No macro, syntax, notation, axiom, sorry.
-/
import Derived.Test.YtlfbgafedbbahabChecked
import GoSem.Claim
import GoSem.ClaimJoined
import GoSem.ClaimMapViews
import Derived.JoinedTies
import Derived.KernelRfl
namespace Go.Proofs.Ytlfbgafedbbahab
/- THE CELL 'sum', in the pinned program and in every row, IS THE sha256 OF THE DUMP (.gsa) THAT YtlfbgafedbbahabProg.lean LOADS. Nothing in Lean hashes anything: it is a label: what it is worth is what the hold of that sum in a sandbox is worth. -/
noncomputable def Try.pinned : Pinned := { name := "ytlfbgafedbbahab", sum := "a670d1293d01fe74df8a0705c750eb58707d6cf45bc696e0e5eb0d1d9ff5da22", checked := Try.checked }
namespace Rows
def none {H : Type} : Left H := { results := [], args := [] }

/-- 'laws.FnLabelUp': WHATEVER THE INPUT: true; the input reads as it did. -/
def fnLabelUpSpec : ChangeSpec := { name := "fnLabelUp", fn := fun _ => fun
  | [d] => { results := [.lit (.bool true)], args := [d] }
  | _ => none }
def fnLabelUpRow : OpenClaim := { program := "ytlfbgafedbbahab", sum := "a670d1293d01fe74df8a0705c750eb58707d6cf45bc696e0e5eb0d1d9ff5da22", func := "loop.example/hagioscope/laws.FnLabelUp", spec := "fnLabelUp", apart := false }
def FnLabelUpSaid : Prop := fnLabelUpRow.holds Try.pinned (OpenSpec.ofChange fnLabelUpSpec)

/-- ITS FALSE NEIGHBOUR: 'it returns false'. Refute it at one input. -/
def fnLabelUpWrong : ChangeSpec := { name := "fnLabelUp", fn := fun _ => fun
  | [d] => { results := [.lit (.bool false)], args := [d] }
  | _ => none }
def FnLabelUpWrongFalsely : Prop := fnLabelUpRow.holds Try.pinned (OpenSpec.ofChange fnLabelUpWrong)

/-- 'laws.FnLabelThree': WHATEVER THE INPUT: true; the input reads as it did. -/
def fnLabelThreeSpec : ChangeSpec := { name := "fnLabelThree", fn := fun _ => fun
  | [d1, d2] => { results := [.lit (.bool true)], args := [d1, d2] }
  | _ => none }
def fnLabelThreeRow : OpenClaim := { program := "ytlfbgafedbbahab", sum := "a670d1293d01fe74df8a0705c750eb58707d6cf45bc696e0e5eb0d1d9ff5da22", func := "loop.example/hagioscope/laws.FnLabelThree", spec := "fnLabelThree", apart := false }
def FnLabelThreeSaid : Prop := fnLabelThreeRow.holds Try.pinned (OpenSpec.ofChange fnLabelThreeSpec)

/-- ITS FALSE NEIGHBOUR: 'it returns false'. Refute it at one input. -/
def fnLabelThreeWrong : ChangeSpec := { name := "fnLabelThree", fn := fun _ => fun
  | [d1, d2] => { results := [.lit (.bool false)], args := [d1, d2] }
  | _ => none }
def FnLabelThreeWrongFalsely : Prop := fnLabelThreeRow.holds Try.pinned (OpenSpec.ofChange fnLabelThreeWrong)

/-- 'laws.FnLabelList': WHATEVER THE INPUT: true; the input reads as it did. -/
def fnLabelListSpec : ChangeSpec := { name := "fnLabelList", fn := fun _ => fun
  | [d] => { results := [.lit (.bool true)], args := [d] }
  | _ => none }
def fnLabelListRow : OpenClaim := { program := "ytlfbgafedbbahab", sum := "a670d1293d01fe74df8a0705c750eb58707d6cf45bc696e0e5eb0d1d9ff5da22", func := "loop.example/hagioscope/laws.FnLabelList", spec := "fnLabelList", apart := false }
def FnLabelListSaid : Prop := fnLabelListRow.holds Try.pinned (OpenSpec.ofChange fnLabelListSpec)

/-- ITS FALSE NEIGHBOUR: 'it returns false'. Refute it at one input. -/
def fnLabelListWrong : ChangeSpec := { name := "fnLabelList", fn := fun _ => fun
  | [d] => { results := [.lit (.bool false)], args := [d] }
  | _ => none }
def FnLabelListWrongFalsely : Prop := fnLabelListRow.holds Try.pinned (OpenSpec.ofChange fnLabelListWrong)

/- THE SECOND FORM. 'bulk': how many values and letters a reading holds, each counted each time it is reached (what is shared counts as often as it is met; a slice's spare places count too). A statement '..UptoSaid' is the law's where the arguments, and the package variables that the reading takes, are together of bulk at most 1048576: NARROWER than '..Said'. Prove '..Said' where nothing that the law and all that it calls make is longer than what came in: it says more and counts as full. Else prove '..UptoSaid'. A law counts once. -/
mutual
def uptoBulk {H : Type} : DataW H → Nat
  | .lit (.string bytes) => bytes.length + 1
  | .lit _ => 1
  | .nil => 1
  | .ptr d => uptoBulk d + 1
  | .slice elems spare => uptoBulkAll elems + uptoBulkAll spare + 1
  | .agg parts => uptoBulkAll parts + 1
  | .iface _ d => uptoBulk d + 1
  | .map entries => uptoBulkEntries entries + 1
  | .held _ => 1
def uptoBulkAll {H : Type} : List (DataW H) → Nat
  | [] => 0
  | d :: r => uptoBulk d + uptoBulkAll r
def uptoBulkEntries {H : Type} : List (Lit × DataW H) → Nat
  | [] => 0
  | x :: r => uptoBulkEntry x + uptoBulkEntries r
def uptoBulkEntry {H : Type} : Lit × DataW H → Nat
  | (.string bytes, d) => bytes.length + uptoBulk d + 1
  | (_, d) => uptoBulk d + 1
 end
def uptoSmall : (H : Type) → List (DataW H) → Bool := fun _ ds => decide (uptoBulkAll ds ≤ 1048576)
def OpenSpec.upto (s : _root_.Go.ChangeSpec) : _root_.Go.OpenSpec := { _root_.Go.OpenSpec.ofChange s with cond := some uptoSmall }

/-- 'laws.FnLabelUp', WHERE WHAT IT READS IS OF BULK AT MOST 1048576: true; the input reads as it did. -/
def fnLabelUpUptoRow : OpenClaim := { program := "ytlfbgafedbbahab", sum := "a670d1293d01fe74df8a0705c750eb58707d6cf45bc696e0e5eb0d1d9ff5da22", func := "loop.example/hagioscope/laws.FnLabelUp", spec := "fnLabelUp", apart := false, narrowed := true }
def FnLabelUpUptoSaid : Prop := fnLabelUpUptoRow.holds Try.pinned (OpenSpec.upto fnLabelUpSpec)

/-- 'laws.FnLabelThree', WHERE WHAT IT READS IS OF BULK AT MOST 1048576: true; the input reads as it did. -/
def fnLabelThreeUptoRow : OpenClaim := { program := "ytlfbgafedbbahab", sum := "a670d1293d01fe74df8a0705c750eb58707d6cf45bc696e0e5eb0d1d9ff5da22", func := "loop.example/hagioscope/laws.FnLabelThree", spec := "fnLabelThree", apart := false, narrowed := true }
def FnLabelThreeUptoSaid : Prop := fnLabelThreeUptoRow.holds Try.pinned (OpenSpec.upto fnLabelThreeSpec)

/-- 'laws.FnLabelList', WHERE WHAT IT READS IS OF BULK AT MOST 1048576: true; the input reads as it did. -/
def fnLabelListUptoRow : OpenClaim := { program := "ytlfbgafedbbahab", sum := "a670d1293d01fe74df8a0705c750eb58707d6cf45bc696e0e5eb0d1d9ff5da22", func := "loop.example/hagioscope/laws.FnLabelList", spec := "fnLabelList", apart := false, narrowed := true }
def FnLabelListUptoSaid : Prop := fnLabelListUptoRow.holds Try.pinned (OpenSpec.upto fnLabelListSpec)

end Rows
end Go.Proofs.Ytlfbgafedbbahab
