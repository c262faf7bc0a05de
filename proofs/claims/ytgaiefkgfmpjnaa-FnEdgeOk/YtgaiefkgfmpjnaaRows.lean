/-
  No cell of these rows narrows 'for every input' (looked for: loops, veiled, ifaces, maps, wideKeys, modest, calm, conditions, laid).
  DERIVED. THE GIVEN ROWS OF THIS SEAT. 5 by the template 'for every input the law returns true; each argument reads behind the call as it read before'; 0 by the template 'total and deterministic' (their statements: YtgaiefkgfmpjnaaTotals.lean).
  GIVEN WITH THE SEED: the statements are not yours to turn. If you find one false, say at which input.
  Laid BY PROGRAM, IN A SANDBOX (cutbox-rows.mjs): the forced cells as the released guide's own fill.sh prints them over the translation 12ef8bdf4975a263… (all of the seat's roots in one cut). By AI agents, Wed Nov 11 2026. No macro, syntax, notation, axiom, sorry.
-/
import Derived.Test.YtgaiefkgfmpjnaaChecked
import GoSem.Claim
import GoSem.ClaimJoined
import GoSem.ClaimMapViews
import Derived.JoinedTies
import Derived.KernelRfl
namespace Go.Proofs.Ytgaiefkgfmpjnaa
/- THE CELL 'sum', in the pinned program and in every row, IS THE sha256 OF THE DUMP (.gsa) THAT YtgaiefkgfmpjnaaProg.lean LOADS. Nothing in Lean hashes anything: it is a label: what it is worth is what the hold of that sum in a sandbox is worth. -/
noncomputable def Try.pinned : Pinned := { name := "ytgaiefkgfmpjnaa", sum := "12ef8bdf4975a263cbb55ddc07bf2ba4e51fdb58e212650101d3d9063e38a1bb", checked := Try.checked }
namespace Rows
def none {H : Type} : Left H := { results := [], args := [] }

/-- 'laws.FnNodeCode': WHATEVER THE INPUT: true; the input reads as it did. -/
def fnNodeCodeSpec : ChangeSpec := { name := "fnNodeCode", fn := fun _ => fun
  | [d1, d2] => { results := [.lit (.bool true)], args := [d1, d2] }
  | _ => none }
def fnNodeCodeRow : OpenClaim := { program := "ytgaiefkgfmpjnaa", sum := "12ef8bdf4975a263cbb55ddc07bf2ba4e51fdb58e212650101d3d9063e38a1bb", func := "loop.example/hagioscope/laws.FnNodeCode", spec := "fnNodeCode", apart := false }
def FnNodeCodeSaid : Prop := fnNodeCodeRow.holds Try.pinned (OpenSpec.ofChange fnNodeCodeSpec)

/-- ITS FALSE NEIGHBOUR: 'it returns false'. Refute it at one input. -/
def fnNodeCodeWrong : ChangeSpec := { name := "fnNodeCode", fn := fun _ => fun
  | [d1, d2] => { results := [.lit (.bool false)], args := [d1, d2] }
  | _ => none }
def FnNodeCodeWrongFalsely : Prop := fnNodeCodeRow.holds Try.pinned (OpenSpec.ofChange fnNodeCodeWrong)

/-- 'laws.FnEdgeOk': WHATEVER THE INPUT: true; the input reads as it did. -/
def fnEdgeOkSpec : ChangeSpec := { name := "fnEdgeOk", fn := fun _ => fun
  | [d] => { results := [.lit (.bool true)], args := [d] }
  | _ => none }
def fnEdgeOkRow : OpenClaim := { program := "ytgaiefkgfmpjnaa", sum := "12ef8bdf4975a263cbb55ddc07bf2ba4e51fdb58e212650101d3d9063e38a1bb", func := "loop.example/hagioscope/laws.FnEdgeOk", spec := "fnEdgeOk", apart := false }
def FnEdgeOkSaid : Prop := fnEdgeOkRow.holds Try.pinned (OpenSpec.ofChange fnEdgeOkSpec)

/-- ITS FALSE NEIGHBOUR: 'it returns false'. Refute it at one input. -/
def fnEdgeOkWrong : ChangeSpec := { name := "fnEdgeOk", fn := fun _ => fun
  | [d] => { results := [.lit (.bool false)], args := [d] }
  | _ => none }
def FnEdgeOkWrongFalsely : Prop := fnEdgeOkRow.holds Try.pinned (OpenSpec.ofChange fnEdgeOkWrong)

/-- 'laws.FnExactNodeOk': WHATEVER THE INPUT: true; the input reads as it did. -/
def fnExactNodeOkSpec : ChangeSpec := { name := "fnExactNodeOk", fn := fun _ => fun
  | [d] => { results := [.lit (.bool true)], args := [d] }
  | _ => none }
def fnExactNodeOkRow : OpenClaim := { program := "ytgaiefkgfmpjnaa", sum := "12ef8bdf4975a263cbb55ddc07bf2ba4e51fdb58e212650101d3d9063e38a1bb", func := "loop.example/hagioscope/laws.FnExactNodeOk", spec := "fnExactNodeOk", apart := false }
def FnExactNodeOkSaid : Prop := fnExactNodeOkRow.holds Try.pinned (OpenSpec.ofChange fnExactNodeOkSpec)

/-- ITS FALSE NEIGHBOUR: 'it returns false'. Refute it at one input. -/
def fnExactNodeOkWrong : ChangeSpec := { name := "fnExactNodeOk", fn := fun _ => fun
  | [d] => { results := [.lit (.bool false)], args := [d] }
  | _ => none }
def FnExactNodeOkWrongFalsely : Prop := fnExactNodeOkRow.holds Try.pinned (OpenSpec.ofChange fnExactNodeOkWrong)

/-- 'laws.FnExactNodeCode': WHATEVER THE INPUT: true; the input reads as it did. -/
def fnExactNodeCodeSpec : ChangeSpec := { name := "fnExactNodeCode", fn := fun _ => fun
  | [d] => { results := [.lit (.bool true)], args := [d] }
  | _ => none }
def fnExactNodeCodeRow : OpenClaim := { program := "ytgaiefkgfmpjnaa", sum := "12ef8bdf4975a263cbb55ddc07bf2ba4e51fdb58e212650101d3d9063e38a1bb", func := "loop.example/hagioscope/laws.FnExactNodeCode", spec := "fnExactNodeCode", apart := false }
def FnExactNodeCodeSaid : Prop := fnExactNodeCodeRow.holds Try.pinned (OpenSpec.ofChange fnExactNodeCodeSpec)

/-- ITS FALSE NEIGHBOUR: 'it returns false'. Refute it at one input. -/
def fnExactNodeCodeWrong : ChangeSpec := { name := "fnExactNodeCode", fn := fun _ => fun
  | [d] => { results := [.lit (.bool false)], args := [d] }
  | _ => none }
def FnExactNodeCodeWrongFalsely : Prop := fnExactNodeCodeRow.holds Try.pinned (OpenSpec.ofChange fnExactNodeCodeWrong)

/-- 'laws.FnExactEdgeOk': WHATEVER THE INPUT: true; the input reads as it did. -/
def fnExactEdgeOkSpec : ChangeSpec := { name := "fnExactEdgeOk", fn := fun _ => fun
  | [d] => { results := [.lit (.bool true)], args := [d] }
  | _ => none }
def fnExactEdgeOkRow : OpenClaim := { program := "ytgaiefkgfmpjnaa", sum := "12ef8bdf4975a263cbb55ddc07bf2ba4e51fdb58e212650101d3d9063e38a1bb", func := "loop.example/hagioscope/laws.FnExactEdgeOk", spec := "fnExactEdgeOk", apart := false }
def FnExactEdgeOkSaid : Prop := fnExactEdgeOkRow.holds Try.pinned (OpenSpec.ofChange fnExactEdgeOkSpec)

/-- ITS FALSE NEIGHBOUR: 'it returns false'. Refute it at one input. -/
def fnExactEdgeOkWrong : ChangeSpec := { name := "fnExactEdgeOk", fn := fun _ => fun
  | [d] => { results := [.lit (.bool false)], args := [d] }
  | _ => none }
def FnExactEdgeOkWrongFalsely : Prop := fnExactEdgeOkRow.holds Try.pinned (OpenSpec.ofChange fnExactEdgeOkWrong)

/- THE SECOND FORM. 'bulk': how many values and letters a reading holds, each counted each time it is reached (what is shared counts as often as it is met; a slice's spare places count too). A statement '..UptoSaid' is the law's where the arguments, and the package variables that the reading takes, are together of bulk at most 1048576: NARROWER than '..Said'. Prove '..Said' where nothing that the law and all that it calls make is longer than what came in: it says more and counts as full. Else prove '..UptoSaid'. A law counts once. -/
mutual
def uptoBulk {H : Type} : DataW H → Nat
  | .lit (.string bytes) => bytes.length + 1
  | .lit _ => 1
  | .nil => 1
  | .ptr d => uptoBulk d + 1
  | .slice elems spare => uptoBulkAll elems + uptoBulkAll spare + 1
  | .agg parts => uptoBulkAll parts + 1
  | .iface _ d => uptoBulk d + 1
  | .map entries => uptoBulkEntries entries + 1
  | .held _ => 1
def uptoBulkAll {H : Type} : List (DataW H) → Nat
  | [] => 0
  | d :: r => uptoBulk d + uptoBulkAll r
def uptoBulkEntries {H : Type} : List (Lit × DataW H) → Nat
  | [] => 0
  | x :: r => uptoBulkEntry x + uptoBulkEntries r
def uptoBulkEntry {H : Type} : Lit × DataW H → Nat
  | (.string bytes, d) => bytes.length + uptoBulk d + 1
  | (_, d) => uptoBulk d + 1
 end
def uptoSmall : (H : Type) → List (DataW H) → Bool := fun _ ds => decide (uptoBulkAll ds ≤ 1048576)
def OpenSpec.upto (s : _root_.Go.ChangeSpec) : _root_.Go.OpenSpec := { _root_.Go.OpenSpec.ofChange s with cond := some uptoSmall }

/-- 'laws.FnNodeCode', WHERE WHAT IT READS IS OF BULK AT MOST 1048576: true; the input reads as it did. -/
def fnNodeCodeUptoRow : OpenClaim := { program := "ytgaiefkgfmpjnaa", sum := "12ef8bdf4975a263cbb55ddc07bf2ba4e51fdb58e212650101d3d9063e38a1bb", func := "loop.example/hagioscope/laws.FnNodeCode", spec := "fnNodeCode", apart := false, narrowed := true }
def FnNodeCodeUptoSaid : Prop := fnNodeCodeUptoRow.holds Try.pinned (OpenSpec.upto fnNodeCodeSpec)

/-- 'laws.FnEdgeOk', WHERE WHAT IT READS IS OF BULK AT MOST 1048576: true; the input reads as it did. -/
def fnEdgeOkUptoRow : OpenClaim := { program := "ytgaiefkgfmpjnaa", sum := "12ef8bdf4975a263cbb55ddc07bf2ba4e51fdb58e212650101d3d9063e38a1bb", func := "loop.example/hagioscope/laws.FnEdgeOk", spec := "fnEdgeOk", apart := false, narrowed := true }
def FnEdgeOkUptoSaid : Prop := fnEdgeOkUptoRow.holds Try.pinned (OpenSpec.upto fnEdgeOkSpec)

/-- 'laws.FnExactNodeOk', WHERE WHAT IT READS IS OF BULK AT MOST 1048576: true; the input reads as it did. -/
def fnExactNodeOkUptoRow : OpenClaim := { program := "ytgaiefkgfmpjnaa", sum := "12ef8bdf4975a263cbb55ddc07bf2ba4e51fdb58e212650101d3d9063e38a1bb", func := "loop.example/hagioscope/laws.FnExactNodeOk", spec := "fnExactNodeOk", apart := false, narrowed := true }
def FnExactNodeOkUptoSaid : Prop := fnExactNodeOkUptoRow.holds Try.pinned (OpenSpec.upto fnExactNodeOkSpec)

/-- 'laws.FnExactNodeCode', WHERE WHAT IT READS IS OF BULK AT MOST 1048576: true; the input reads as it did. -/
def fnExactNodeCodeUptoRow : OpenClaim := { program := "ytgaiefkgfmpjnaa", sum := "12ef8bdf4975a263cbb55ddc07bf2ba4e51fdb58e212650101d3d9063e38a1bb", func := "loop.example/hagioscope/laws.FnExactNodeCode", spec := "fnExactNodeCode", apart := false, narrowed := true }
def FnExactNodeCodeUptoSaid : Prop := fnExactNodeCodeUptoRow.holds Try.pinned (OpenSpec.upto fnExactNodeCodeSpec)

/-- 'laws.FnExactEdgeOk', WHERE WHAT IT READS IS OF BULK AT MOST 1048576: true; the input reads as it did. -/
def fnExactEdgeOkUptoRow : OpenClaim := { program := "ytgaiefkgfmpjnaa", sum := "12ef8bdf4975a263cbb55ddc07bf2ba4e51fdb58e212650101d3d9063e38a1bb", func := "loop.example/hagioscope/laws.FnExactEdgeOk", spec := "fnExactEdgeOk", apart := false, narrowed := true }
def FnExactEdgeOkUptoSaid : Prop := fnExactEdgeOkUptoRow.holds Try.pinned (OpenSpec.upto fnExactEdgeOkSpec)

end Rows
end Go.Proofs.Ytgaiefkgfmpjnaa
