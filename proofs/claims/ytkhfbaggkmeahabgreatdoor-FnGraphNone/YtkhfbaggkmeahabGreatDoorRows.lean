/-
  NARROWER THAN 'FOR EVERY INPUT', by the rows' own cells (each row's printed sentence says how): FnGraphNone: ifaces, laid · FnGraphOrder: ifaces, laid · FnExactGraphDo: ifaces, laid.
  DERIVED. THE GIVEN ROWS OF THIS SEAT. 3 by the template 'for every input the law returns true; each argument reads behind the call as it read before'; 0 by the template 'total and deterministic' (their statements: YtkhfbaggkmeahabGreatDoorTotals.lean).
  GIVEN WITH THE SEED: the statements are not yours to turn. If you find one false, say at which input.
  Laid BY PROGRAM, IN A SANDBOX (cutbox-rows.mjs): the forced cells as the released guide's own fill.sh prints them over the translation 2329068174d17489… (all of the seat's roots in one cut). By AI agents, Wed Nov 11 2026. No macro, syntax, notation, axiom, sorry.
-/
import Derived.Test.YtkhfbaggkmeahabGreatDoorChecked
import GoSem.Claim
import GoSem.ClaimJoined
import GoSem.ClaimMapViews
import Derived.JoinedTies
import Derived.KernelRfl
namespace Go.Proofs.YtkhfbaggkmeahabGreatDoor
/- THE CELL 'sum', in the pinned program and in every row, IS THE sha256 OF THE DUMP (.gsa) THAT YtkhfbaggkmeahabGreatDoorProg.lean LOADS. Nothing in Lean hashes anything: it is a label: what it is worth is what the hold of that sum in a sandbox is worth. -/
noncomputable def Tryz.pinned : Pinned := { name := "ytkhfbaggkmeahabgreatdoor", sum := "2329068174d174895fe63ac3a2acf1aeffd5dd594f036d8b8ba35359eadf6fba", checked := Tryz.checked }
namespace Rows
def none {H : Type} : Left H := { results := [], args := [] }

/- WHAT THE LISTED PACKAGE-LEVEL VARIABLES READ AS WHEN THE CALL BEGINS. Each datum BY PROGRAM (the guide's laid-datum.mjs) off the statement by which the dump's own 'gosem.cut.vars' lays the variable. In a bare row this is a premise. The card (YtkhfbaggkmeahabGreatDoorCards.lean) ties it to the program's text. -/
def laid_loop_example_hagioscope_impl_errForm {H : Type} : DataW H := .iface "*errors.errorString" (.ptr (.agg [.lit (.string [102, 111, 114, 109])]))
def laid_loop_example_hagioscope_impl_errThere {H : Type} : DataW H := .iface "*errors.errorString" (.ptr (.agg [.lit (.string [116, 104, 101, 114, 101])]))
def laid_loop_example_hagioscope_impl_errNone {H : Type} : DataW H := .iface "*errors.errorString" (.ptr (.agg [.lit (.string [110, 111, 110, 101])]))
def laid_loop_example_hagioscope_impl_errFull {H : Type} : DataW H := .iface "*errors.errorString" (.ptr (.agg [.lit (.string [102, 117, 108, 108])]))

/-- 'laws.FnGraphNone': WHATEVER THE INPUT: true; the input reads as it did. -/
def fnGraphNoneSpec : ChangeSpec := { name := "fnGraphNone", vars := ["loop.example/hagioscope/impl.errForm", "loop.example/hagioscope/impl.errThere", "loop.example/hagioscope/impl.errFull", "loop.example/hagioscope/impl.errNone"], fn := fun _ => fun
  | [d, g1, g2, g3, g4] => { results := [.lit (.bool true)], args := [d], vars := [g1, g2, g3, g4] }
  | _ => none }
def fnGraphNoneRow : OpenClaim := { program := "ytkhfbaggkmeahabgreatdoor", sum := "2329068174d174895fe63ac3a2acf1aeffd5dd594f036d8b8ba35359eadf6fba", func := "loop.example/hagioscope/laws.FnGraphNone", spec := "fnGraphNone", inPlace := ["internal/reflectlite.TypeOf"], unfollowed := true, recurses := true, named := ["loop.example/hagioscope/impl.errForm", "loop.example/hagioscope/impl.errThere", "loop.example/hagioscope/impl.errFull", "loop.example/hagioscope/impl.errNone"], ifaces := true, apart := false, laid := [("loop.example/hagioscope/impl.errForm", laid_loop_example_hagioscope_impl_errForm), ("loop.example/hagioscope/impl.errThere", laid_loop_example_hagioscope_impl_errThere), ("loop.example/hagioscope/impl.errNone", laid_loop_example_hagioscope_impl_errNone), ("loop.example/hagioscope/impl.errFull", laid_loop_example_hagioscope_impl_errFull)] }
def FnGraphNoneSaid : Prop := fnGraphNoneRow.holds Tryz.pinned (OpenSpec.ofChange fnGraphNoneSpec)

/-- ITS FALSE NEIGHBOUR: 'it returns false'. Refute it at one input. -/
def fnGraphNoneWrong : ChangeSpec := { name := "fnGraphNone", vars := ["loop.example/hagioscope/impl.errForm", "loop.example/hagioscope/impl.errThere", "loop.example/hagioscope/impl.errFull", "loop.example/hagioscope/impl.errNone"], fn := fun _ => fun
  | [d, g1, g2, g3, g4] => { results := [.lit (.bool false)], args := [d], vars := [g1, g2, g3, g4] }
  | _ => none }
def FnGraphNoneWrongFalsely : Prop := fnGraphNoneRow.holds Tryz.pinned (OpenSpec.ofChange fnGraphNoneWrong)

/-- 'laws.FnGraphOrder': WHATEVER THE INPUT: true; the input reads as it did. -/
def fnGraphOrderSpec : ChangeSpec := { name := "fnGraphOrder", vars := ["loop.example/hagioscope/impl.errForm", "loop.example/hagioscope/impl.errThere", "loop.example/hagioscope/impl.errFull", "loop.example/hagioscope/impl.errNone"], fn := fun _ => fun
  | [d, g1, g2, g3, g4] => { results := [.lit (.bool true)], args := [d], vars := [g1, g2, g3, g4] }
  | _ => none }
def fnGraphOrderRow : OpenClaim := { program := "ytkhfbaggkmeahabgreatdoor", sum := "2329068174d174895fe63ac3a2acf1aeffd5dd594f036d8b8ba35359eadf6fba", func := "loop.example/hagioscope/laws.FnGraphOrder", spec := "fnGraphOrder", inPlace := ["internal/reflectlite.TypeOf"], unfollowed := true, recurses := true, named := ["loop.example/hagioscope/impl.errForm", "loop.example/hagioscope/impl.errThere", "loop.example/hagioscope/impl.errFull", "loop.example/hagioscope/impl.errNone"], ifaces := true, apart := false, laid := [("loop.example/hagioscope/impl.errForm", laid_loop_example_hagioscope_impl_errForm), ("loop.example/hagioscope/impl.errThere", laid_loop_example_hagioscope_impl_errThere), ("loop.example/hagioscope/impl.errNone", laid_loop_example_hagioscope_impl_errNone), ("loop.example/hagioscope/impl.errFull", laid_loop_example_hagioscope_impl_errFull)] }
def FnGraphOrderSaid : Prop := fnGraphOrderRow.holds Tryz.pinned (OpenSpec.ofChange fnGraphOrderSpec)

/-- ITS FALSE NEIGHBOUR: 'it returns false'. Refute it at one input. -/
def fnGraphOrderWrong : ChangeSpec := { name := "fnGraphOrder", vars := ["loop.example/hagioscope/impl.errForm", "loop.example/hagioscope/impl.errThere", "loop.example/hagioscope/impl.errFull", "loop.example/hagioscope/impl.errNone"], fn := fun _ => fun
  | [d, g1, g2, g3, g4] => { results := [.lit (.bool false)], args := [d], vars := [g1, g2, g3, g4] }
  | _ => none }
def FnGraphOrderWrongFalsely : Prop := fnGraphOrderRow.holds Tryz.pinned (OpenSpec.ofChange fnGraphOrderWrong)

/-- 'laws.FnExactGraphDo': WHATEVER THE INPUT: true; the input reads as it did. -/
def fnExactGraphDoSpec : ChangeSpec := { name := "fnExactGraphDo", vars := ["loop.example/hagioscope/impl.errForm", "loop.example/hagioscope/impl.errThere", "loop.example/hagioscope/impl.errFull", "loop.example/hagioscope/impl.errNone"], fn := fun _ => fun
  | [d1, d2, g1, g2, g3, g4] => { results := [.lit (.bool true)], args := [d1, d2], vars := [g1, g2, g3, g4] }
  | _ => none }
def fnExactGraphDoRow : OpenClaim := { program := "ytkhfbaggkmeahabgreatdoor", sum := "2329068174d174895fe63ac3a2acf1aeffd5dd594f036d8b8ba35359eadf6fba", func := "loop.example/hagioscope/laws.FnExactGraphDo", spec := "fnExactGraphDo", inPlace := ["internal/reflectlite.TypeOf"], unfollowed := true, recurses := true, named := ["loop.example/hagioscope/impl.errForm", "loop.example/hagioscope/impl.errThere", "loop.example/hagioscope/impl.errFull", "loop.example/hagioscope/impl.errNone"], ifaces := true, apart := false, laid := [("loop.example/hagioscope/impl.errForm", laid_loop_example_hagioscope_impl_errForm), ("loop.example/hagioscope/impl.errThere", laid_loop_example_hagioscope_impl_errThere), ("loop.example/hagioscope/impl.errNone", laid_loop_example_hagioscope_impl_errNone), ("loop.example/hagioscope/impl.errFull", laid_loop_example_hagioscope_impl_errFull)] }
def FnExactGraphDoSaid : Prop := fnExactGraphDoRow.holds Tryz.pinned (OpenSpec.ofChange fnExactGraphDoSpec)

/-- ITS FALSE NEIGHBOUR: 'it returns false'. Refute it at one input. -/
def fnExactGraphDoWrong : ChangeSpec := { name := "fnExactGraphDo", vars := ["loop.example/hagioscope/impl.errForm", "loop.example/hagioscope/impl.errThere", "loop.example/hagioscope/impl.errFull", "loop.example/hagioscope/impl.errNone"], fn := fun _ => fun
  | [d1, d2, g1, g2, g3, g4] => { results := [.lit (.bool false)], args := [d1, d2], vars := [g1, g2, g3, g4] }
  | _ => none }
def FnExactGraphDoWrongFalsely : Prop := fnExactGraphDoRow.holds Tryz.pinned (OpenSpec.ofChange fnExactGraphDoWrong)

/- THE SECOND FORM. 'bulk': how many values and letters a reading holds, each counted each time it is reached (what is shared counts as often as it is met; a slice's spare places count too). A statement '..UptoSaid' is the law's where the arguments, and the package variables that the reading takes, are together of bulk at most 1048576: NARROWER than '..Said'. Prove '..Said' where nothing that the law and all that it calls make is longer than what came in: it says more and counts as full. Else prove '..UptoSaid'. A law counts once. -/
mutual
def uptoBulk {H : Type} : DataW H → Nat
  | .lit (.string bytes) => bytes.length + 1
  | .lit _ => 1
  | .nil => 1
  | .ptr d => uptoBulk d + 1
  | .slice elems spare => uptoBulkAll elems + uptoBulkAll spare + 1
  | .agg parts => uptoBulkAll parts + 1
  | .iface _ d => uptoBulk d + 1
  | .map entries => uptoBulkEntries entries + 1
  | .held _ => 1
def uptoBulkAll {H : Type} : List (DataW H) → Nat
  | [] => 0
  | d :: r => uptoBulk d + uptoBulkAll r
def uptoBulkEntries {H : Type} : List (Lit × DataW H) → Nat
  | [] => 0
  | x :: r => uptoBulkEntry x + uptoBulkEntries r
def uptoBulkEntry {H : Type} : Lit × DataW H → Nat
  | (.string bytes, d) => bytes.length + uptoBulk d + 1
  | (_, d) => uptoBulk d + 1
 end
def uptoSmall : (H : Type) → List (DataW H) → Bool := fun _ ds => decide (uptoBulkAll ds ≤ 1048576)
def OpenSpec.upto (s : _root_.Go.ChangeSpec) : _root_.Go.OpenSpec := { _root_.Go.OpenSpec.ofChange s with cond := some uptoSmall }

/-- 'laws.FnGraphNone', WHERE WHAT IT READS IS OF BULK AT MOST 1048576: true; the input reads as it did. -/
def fnGraphNoneUptoRow : OpenClaim := { program := "ytkhfbaggkmeahabgreatdoor", sum := "2329068174d174895fe63ac3a2acf1aeffd5dd594f036d8b8ba35359eadf6fba", func := "loop.example/hagioscope/laws.FnGraphNone", spec := "fnGraphNone", inPlace := ["internal/reflectlite.TypeOf"], unfollowed := true, recurses := true, named := ["loop.example/hagioscope/impl.errForm", "loop.example/hagioscope/impl.errThere", "loop.example/hagioscope/impl.errFull", "loop.example/hagioscope/impl.errNone"], ifaces := true, apart := false, laid := [("loop.example/hagioscope/impl.errForm", laid_loop_example_hagioscope_impl_errForm), ("loop.example/hagioscope/impl.errThere", laid_loop_example_hagioscope_impl_errThere), ("loop.example/hagioscope/impl.errNone", laid_loop_example_hagioscope_impl_errNone), ("loop.example/hagioscope/impl.errFull", laid_loop_example_hagioscope_impl_errFull)], narrowed := true }
def FnGraphNoneUptoSaid : Prop := fnGraphNoneUptoRow.holds Tryz.pinned (OpenSpec.upto fnGraphNoneSpec)

/-- 'laws.FnGraphOrder', WHERE WHAT IT READS IS OF BULK AT MOST 1048576: true; the input reads as it did. -/
def fnGraphOrderUptoRow : OpenClaim := { program := "ytkhfbaggkmeahabgreatdoor", sum := "2329068174d174895fe63ac3a2acf1aeffd5dd594f036d8b8ba35359eadf6fba", func := "loop.example/hagioscope/laws.FnGraphOrder", spec := "fnGraphOrder", inPlace := ["internal/reflectlite.TypeOf"], unfollowed := true, recurses := true, named := ["loop.example/hagioscope/impl.errForm", "loop.example/hagioscope/impl.errThere", "loop.example/hagioscope/impl.errFull", "loop.example/hagioscope/impl.errNone"], ifaces := true, apart := false, laid := [("loop.example/hagioscope/impl.errForm", laid_loop_example_hagioscope_impl_errForm), ("loop.example/hagioscope/impl.errThere", laid_loop_example_hagioscope_impl_errThere), ("loop.example/hagioscope/impl.errNone", laid_loop_example_hagioscope_impl_errNone), ("loop.example/hagioscope/impl.errFull", laid_loop_example_hagioscope_impl_errFull)], narrowed := true }
def FnGraphOrderUptoSaid : Prop := fnGraphOrderUptoRow.holds Tryz.pinned (OpenSpec.upto fnGraphOrderSpec)

/-- 'laws.FnExactGraphDo', WHERE WHAT IT READS IS OF BULK AT MOST 1048576: true; the input reads as it did. -/
def fnExactGraphDoUptoRow : OpenClaim := { program := "ytkhfbaggkmeahabgreatdoor", sum := "2329068174d174895fe63ac3a2acf1aeffd5dd594f036d8b8ba35359eadf6fba", func := "loop.example/hagioscope/laws.FnExactGraphDo", spec := "fnExactGraphDo", inPlace := ["internal/reflectlite.TypeOf"], unfollowed := true, recurses := true, named := ["loop.example/hagioscope/impl.errForm", "loop.example/hagioscope/impl.errThere", "loop.example/hagioscope/impl.errFull", "loop.example/hagioscope/impl.errNone"], ifaces := true, apart := false, laid := [("loop.example/hagioscope/impl.errForm", laid_loop_example_hagioscope_impl_errForm), ("loop.example/hagioscope/impl.errThere", laid_loop_example_hagioscope_impl_errThere), ("loop.example/hagioscope/impl.errNone", laid_loop_example_hagioscope_impl_errNone), ("loop.example/hagioscope/impl.errFull", laid_loop_example_hagioscope_impl_errFull)], narrowed := true }
def FnExactGraphDoUptoSaid : Prop := fnExactGraphDoUptoRow.holds Tryz.pinned (OpenSpec.upto fnExactGraphDoSpec)

end Rows
end Go.Proofs.YtkhfbaggkmeahabGreatDoor
