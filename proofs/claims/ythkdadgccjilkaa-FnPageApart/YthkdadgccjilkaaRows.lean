/-
  No cell of these rows narrows 'for every input' (looked for: loops, veiled, ifaces, maps, wideKeys, modest, calm, conditions, laid).
  DERIVED. THE GIVEN ROWS OF THIS SEAT. 5 by the template 'for every input the law returns true; each argument reads behind the call as it read before'; 0 by the template 'total and deterministic' (their statements: YthkdadgccjilkaaTotals.lean).
  GIVEN WITH THE SEED: the statements are not yours to turn. If you find one false, say at which input.
  Laid BY PROGRAM, IN A SANDBOX (cutbox-rows.mjs): the forced cells as the released guide's own fill.sh prints them over the translation 3afef178c9f7d257… (all of the seat's roots in one cut). By AI agents, Wed Nov 11 2026. No macro, syntax, notation, axiom, sorry.
-/
import Derived.Test.YthkdadgccjilkaaChecked
import GoSem.Claim
import GoSem.ClaimJoined
import GoSem.ClaimMapViews
import Derived.JoinedTies
import Derived.KernelRfl
namespace Go.Proofs.Ythkdadgccjilkaa
/- THE CELL 'sum', in the pinned program and in every row, IS THE sha256 OF THE DUMP (.gsa) THAT YthkdadgccjilkaaProg.lean LOADS. Nothing in Lean hashes anything: it is a label: what it is worth is what the hold of that sum in a sandbox is worth. -/
noncomputable def Try.pinned : Pinned := { name := "ythkdadgccjilkaa", sum := "3afef178c9f7d257d0e150a65da100b5461a9fe432b5e318f49607fc00521c9a", checked := Try.checked }
namespace Rows
def none {H : Type} : Left H := { results := [], args := [] }

/-- 'laws.FnPageSpan': WHATEVER THE INPUT: true; the input reads as it did. -/
def fnPageSpanSpec : ChangeSpec := { name := "fnPageSpan", fn := fun _ => fun
  | [d] => { results := [.lit (.bool true)], args := [d] }
  | _ => none }
def fnPageSpanRow : OpenClaim := { program := "ythkdadgccjilkaa", sum := "3afef178c9f7d257d0e150a65da100b5461a9fe432b5e318f49607fc00521c9a", func := "loop.example/hagioscope/laws.FnPageSpan", spec := "fnPageSpan", apart := false }
def FnPageSpanSaid : Prop := fnPageSpanRow.holds Try.pinned (OpenSpec.ofChange fnPageSpanSpec)

/-- ITS FALSE NEIGHBOUR: 'it returns false'. Refute it at one input. -/
def fnPageSpanWrong : ChangeSpec := { name := "fnPageSpan", fn := fun _ => fun
  | [d] => { results := [.lit (.bool false)], args := [d] }
  | _ => none }
def FnPageSpanWrongFalsely : Prop := fnPageSpanRow.holds Try.pinned (OpenSpec.ofChange fnPageSpanWrong)

/-- 'laws.FnPageApart': WHATEVER THE INPUT: true; the input reads as it did. -/
def fnPageApartSpec : ChangeSpec := { name := "fnPageApart", fn := fun _ => fun
  | [d1, d2] => { results := [.lit (.bool true)], args := [d1, d2] }
  | _ => none }
def fnPageApartRow : OpenClaim := { program := "ythkdadgccjilkaa", sum := "3afef178c9f7d257d0e150a65da100b5461a9fe432b5e318f49607fc00521c9a", func := "loop.example/hagioscope/laws.FnPageApart", spec := "fnPageApart", apart := false }
def FnPageApartSaid : Prop := fnPageApartRow.holds Try.pinned (OpenSpec.ofChange fnPageApartSpec)

/-- ITS FALSE NEIGHBOUR: 'it returns false'. Refute it at one input. -/
def fnPageApartWrong : ChangeSpec := { name := "fnPageApart", fn := fun _ => fun
  | [d1, d2] => { results := [.lit (.bool false)], args := [d1, d2] }
  | _ => none }
def FnPageApartWrongFalsely : Prop := fnPageApartRow.holds Try.pinned (OpenSpec.ofChange fnPageApartWrong)

/-- 'laws.FnExactPageOk': WHATEVER THE INPUT: true; the input reads as it did. -/
def fnExactPageOkSpec : ChangeSpec := { name := "fnExactPageOk", fn := fun _ => fun
  | [d] => { results := [.lit (.bool true)], args := [d] }
  | _ => none }
def fnExactPageOkRow : OpenClaim := { program := "ythkdadgccjilkaa", sum := "3afef178c9f7d257d0e150a65da100b5461a9fe432b5e318f49607fc00521c9a", func := "loop.example/hagioscope/laws.FnExactPageOk", spec := "fnExactPageOk", apart := false }
def FnExactPageOkSaid : Prop := fnExactPageOkRow.holds Try.pinned (OpenSpec.ofChange fnExactPageOkSpec)

/-- ITS FALSE NEIGHBOUR: 'it returns false'. Refute it at one input. -/
def fnExactPageOkWrong : ChangeSpec := { name := "fnExactPageOk", fn := fun _ => fun
  | [d] => { results := [.lit (.bool false)], args := [d] }
  | _ => none }
def FnExactPageOkWrongFalsely : Prop := fnExactPageOkRow.holds Try.pinned (OpenSpec.ofChange fnExactPageOkWrong)

/-- 'laws.FnExactPageSpan': WHATEVER THE INPUT: true; the input reads as it did. -/
def fnExactPageSpanSpec : ChangeSpec := { name := "fnExactPageSpan", fn := fun _ => fun
  | [d1, d2, d3] => { results := [.lit (.bool true)], args := [d1, d2, d3] }
  | _ => none }
def fnExactPageSpanRow : OpenClaim := { program := "ythkdadgccjilkaa", sum := "3afef178c9f7d257d0e150a65da100b5461a9fe432b5e318f49607fc00521c9a", func := "loop.example/hagioscope/laws.FnExactPageSpan", spec := "fnExactPageSpan", apart := false }
def FnExactPageSpanSaid : Prop := fnExactPageSpanRow.holds Try.pinned (OpenSpec.ofChange fnExactPageSpanSpec)

/-- ITS FALSE NEIGHBOUR: 'it returns false'. Refute it at one input. -/
def fnExactPageSpanWrong : ChangeSpec := { name := "fnExactPageSpan", fn := fun _ => fun
  | [d1, d2, d3] => { results := [.lit (.bool false)], args := [d1, d2, d3] }
  | _ => none }
def FnExactPageSpanWrongFalsely : Prop := fnExactPageSpanRow.holds Try.pinned (OpenSpec.ofChange fnExactPageSpanWrong)

/-- 'laws.FnExactPoolSame': WHATEVER THE INPUT: true; the input reads as it did. -/
def fnExactPoolSameSpec : ChangeSpec := { name := "fnExactPoolSame", fn := fun _ => fun
  | [d1, d2] => { results := [.lit (.bool true)], args := [d1, d2] }
  | _ => none }
def fnExactPoolSameRow : OpenClaim := { program := "ythkdadgccjilkaa", sum := "3afef178c9f7d257d0e150a65da100b5461a9fe432b5e318f49607fc00521c9a", func := "loop.example/hagioscope/laws.FnExactPoolSame", spec := "fnExactPoolSame", apart := false }
def FnExactPoolSameSaid : Prop := fnExactPoolSameRow.holds Try.pinned (OpenSpec.ofChange fnExactPoolSameSpec)

/-- ITS FALSE NEIGHBOUR: 'it returns false'. Refute it at one input. -/
def fnExactPoolSameWrong : ChangeSpec := { name := "fnExactPoolSame", fn := fun _ => fun
  | [d1, d2] => { results := [.lit (.bool false)], args := [d1, d2] }
  | _ => none }
def FnExactPoolSameWrongFalsely : Prop := fnExactPoolSameRow.holds Try.pinned (OpenSpec.ofChange fnExactPoolSameWrong)

/- THE SECOND FORM. 'bulk': how many values and letters a reading holds, each counted each time it is reached (what is shared counts as often as it is met; a slice's spare places count too). A statement '..UptoSaid' is the law's where the arguments, and the package variables that the reading takes, are together of bulk at most 1048576: NARROWER than '..Said'. Prove '..Said' where nothing that the law and all that it calls make is longer than what came in: it says more and counts as full. Else prove '..UptoSaid'. A law counts once. -/
mutual
def uptoBulk {H : Type} : DataW H → Nat
  | .lit (.string bytes) => bytes.length + 1
  | .lit _ => 1
  | .nil => 1
  | .ptr d => uptoBulk d + 1
  | .slice elems spare => uptoBulkAll elems + uptoBulkAll spare + 1
  | .agg parts => uptoBulkAll parts + 1
  | .iface _ d => uptoBulk d + 1
  | .map entries => uptoBulkEntries entries + 1
  | .held _ => 1
def uptoBulkAll {H : Type} : List (DataW H) → Nat
  | [] => 0
  | d :: r => uptoBulk d + uptoBulkAll r
def uptoBulkEntries {H : Type} : List (Lit × DataW H) → Nat
  | [] => 0
  | x :: r => uptoBulkEntry x + uptoBulkEntries r
def uptoBulkEntry {H : Type} : Lit × DataW H → Nat
  | (.string bytes, d) => bytes.length + uptoBulk d + 1
  | (_, d) => uptoBulk d + 1
 end
def uptoSmall : (H : Type) → List (DataW H) → Bool := fun _ ds => decide (uptoBulkAll ds ≤ 1048576)
def OpenSpec.upto (s : _root_.Go.ChangeSpec) : _root_.Go.OpenSpec := { _root_.Go.OpenSpec.ofChange s with cond := some uptoSmall }

/-- 'laws.FnPageSpan', WHERE WHAT IT READS IS OF BULK AT MOST 1048576: true; the input reads as it did. -/
def fnPageSpanUptoRow : OpenClaim := { program := "ythkdadgccjilkaa", sum := "3afef178c9f7d257d0e150a65da100b5461a9fe432b5e318f49607fc00521c9a", func := "loop.example/hagioscope/laws.FnPageSpan", spec := "fnPageSpan", apart := false, narrowed := true }
def FnPageSpanUptoSaid : Prop := fnPageSpanUptoRow.holds Try.pinned (OpenSpec.upto fnPageSpanSpec)

/-- 'laws.FnPageApart', WHERE WHAT IT READS IS OF BULK AT MOST 1048576: true; the input reads as it did. -/
def fnPageApartUptoRow : OpenClaim := { program := "ythkdadgccjilkaa", sum := "3afef178c9f7d257d0e150a65da100b5461a9fe432b5e318f49607fc00521c9a", func := "loop.example/hagioscope/laws.FnPageApart", spec := "fnPageApart", apart := false, narrowed := true }
def FnPageApartUptoSaid : Prop := fnPageApartUptoRow.holds Try.pinned (OpenSpec.upto fnPageApartSpec)

/-- 'laws.FnExactPageOk', WHERE WHAT IT READS IS OF BULK AT MOST 1048576: true; the input reads as it did. -/
def fnExactPageOkUptoRow : OpenClaim := { program := "ythkdadgccjilkaa", sum := "3afef178c9f7d257d0e150a65da100b5461a9fe432b5e318f49607fc00521c9a", func := "loop.example/hagioscope/laws.FnExactPageOk", spec := "fnExactPageOk", apart := false, narrowed := true }
def FnExactPageOkUptoSaid : Prop := fnExactPageOkUptoRow.holds Try.pinned (OpenSpec.upto fnExactPageOkSpec)

/-- 'laws.FnExactPageSpan', WHERE WHAT IT READS IS OF BULK AT MOST 1048576: true; the input reads as it did. -/
def fnExactPageSpanUptoRow : OpenClaim := { program := "ythkdadgccjilkaa", sum := "3afef178c9f7d257d0e150a65da100b5461a9fe432b5e318f49607fc00521c9a", func := "loop.example/hagioscope/laws.FnExactPageSpan", spec := "fnExactPageSpan", apart := false, narrowed := true }
def FnExactPageSpanUptoSaid : Prop := fnExactPageSpanUptoRow.holds Try.pinned (OpenSpec.upto fnExactPageSpanSpec)

/-- 'laws.FnExactPoolSame', WHERE WHAT IT READS IS OF BULK AT MOST 1048576: true; the input reads as it did. -/
def fnExactPoolSameUptoRow : OpenClaim := { program := "ythkdadgccjilkaa", sum := "3afef178c9f7d257d0e150a65da100b5461a9fe432b5e318f49607fc00521c9a", func := "loop.example/hagioscope/laws.FnExactPoolSame", spec := "fnExactPoolSame", apart := false, narrowed := true }
def FnExactPoolSameUptoSaid : Prop := fnExactPoolSameUptoRow.holds Try.pinned (OpenSpec.upto fnExactPoolSameSpec)

end Rows
end Go.Proofs.Ythkdadgccjilkaa
