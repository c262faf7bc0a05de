/-
  NARROWER THAN 'FOR EVERY INPUT', by the rows' own cells (each row's printed sentence says how): FnGraph: ifaces, laid · FnGraphSeen: ifaces, laid · FnGraphBack: ifaces, laid · FnGraphGone: ifaces, laid · FnGraphSwap: ifaces, laid · FnGraphFull: ifaces, laid.
  DERIVED. THE GIVEN ROWS OF THIS SEAT. 6 by the template 'for every input the law returns true; each argument reads behind the call as it read before'; 0 by the template 'total and deterministic' (their statements: YtkhfbaggkmeahaaGreatDoorTotals.lean).
  GIVEN WITH THE SEED: the statements are not yours to turn. If you find one false, say at which input.
  Laid BY PROGRAM, IN A SANDBOX (cutbox-rows.mjs): the forced cells as the released guide's own fill.sh prints them over the translation 00fbd28f70dfc3f6… (all of the seat's roots in one cut). By AI agents, Wed Nov 11 2026. No macro, syntax, notation, axiom, sorry.
-/
import Derived.Test.YtkhfbaggkmeahaaGreatDoorChecked
import GoSem.Claim
import GoSem.ClaimJoined
import GoSem.ClaimMapViews
import Derived.JoinedTies
import Derived.KernelRfl
namespace Go.Proofs.YtkhfbaggkmeahaaGreatDoor
/- THE CELL 'sum', in the pinned program and in every row, IS THE sha256 OF THE DUMP (.gsa) THAT YtkhfbaggkmeahaaGreatDoorProg.lean LOADS. Nothing in Lean hashes anything: it is a label: what it is worth is what the hold of that sum in a sandbox is worth. -/
noncomputable def Tryz.pinned : Pinned := { name := "ytkhfbaggkmeahaagreatdoor", sum := "00fbd28f70dfc3f6656f9ab2d39484f870f5514101407a343ee1987c75c504b4", checked := Tryz.checked }
namespace Rows
def none {H : Type} : Left H := { results := [], args := [] }

/- WHAT THE LISTED PACKAGE-LEVEL VARIABLES READ AS WHEN THE CALL BEGINS. Each datum BY PROGRAM (the guide's laid-datum.mjs) off the statement by which the dump's own 'gosem.cut.vars' lays the variable. In a bare row this is a premise. The card (YtkhfbaggkmeahaaGreatDoorCards.lean) ties it to the program's text. -/
def laid_loop_example_hagioscope_impl_errForm {H : Type} : DataW H := .iface "*errors.errorString" (.ptr (.agg [.lit (.string [102, 111, 114, 109])]))
def laid_loop_example_hagioscope_impl_errThere {H : Type} : DataW H := .iface "*errors.errorString" (.ptr (.agg [.lit (.string [116, 104, 101, 114, 101])]))
def laid_loop_example_hagioscope_impl_errNone {H : Type} : DataW H := .iface "*errors.errorString" (.ptr (.agg [.lit (.string [110, 111, 110, 101])]))
def laid_loop_example_hagioscope_impl_errFull {H : Type} : DataW H := .iface "*errors.errorString" (.ptr (.agg [.lit (.string [102, 117, 108, 108])]))

/-- 'laws.FnGraph': WHATEVER THE INPUT: true; the input reads as it did. -/
def fnGraphSpec : ChangeSpec := { name := "fnGraph", vars := ["loop.example/hagioscope/impl.errForm", "loop.example/hagioscope/impl.errThere", "loop.example/hagioscope/impl.errFull", "loop.example/hagioscope/impl.errNone"], fn := fun _ => fun
  | [d, g1, g2, g3, g4] => { results := [.lit (.bool true)], args := [d], vars := [g1, g2, g3, g4] }
  | _ => none }
def fnGraphRow : OpenClaim := { program := "ytkhfbaggkmeahaagreatdoor", sum := "00fbd28f70dfc3f6656f9ab2d39484f870f5514101407a343ee1987c75c504b4", func := "loop.example/hagioscope/laws.FnGraph", spec := "fnGraph", inPlace := ["internal/reflectlite.TypeOf"], unfollowed := true, recurses := true, named := ["loop.example/hagioscope/impl.errForm", "loop.example/hagioscope/impl.errThere", "loop.example/hagioscope/impl.errFull", "loop.example/hagioscope/impl.errNone"], ifaces := true, apart := false, laid := [("loop.example/hagioscope/impl.errForm", laid_loop_example_hagioscope_impl_errForm), ("loop.example/hagioscope/impl.errThere", laid_loop_example_hagioscope_impl_errThere), ("loop.example/hagioscope/impl.errNone", laid_loop_example_hagioscope_impl_errNone), ("loop.example/hagioscope/impl.errFull", laid_loop_example_hagioscope_impl_errFull)] }
def FnGraphSaid : Prop := fnGraphRow.holds Tryz.pinned (OpenSpec.ofChange fnGraphSpec)

/-- ITS FALSE NEIGHBOUR: 'it returns false'. Refute it at one input. -/
def fnGraphWrong : ChangeSpec := { name := "fnGraph", vars := ["loop.example/hagioscope/impl.errForm", "loop.example/hagioscope/impl.errThere", "loop.example/hagioscope/impl.errFull", "loop.example/hagioscope/impl.errNone"], fn := fun _ => fun
  | [d, g1, g2, g3, g4] => { results := [.lit (.bool false)], args := [d], vars := [g1, g2, g3, g4] }
  | _ => none }
def FnGraphWrongFalsely : Prop := fnGraphRow.holds Tryz.pinned (OpenSpec.ofChange fnGraphWrong)

/-- 'laws.FnGraphSeen': WHATEVER THE INPUT: true; the input reads as it did. -/
def fnGraphSeenSpec : ChangeSpec := { name := "fnGraphSeen", vars := ["loop.example/hagioscope/impl.errForm", "loop.example/hagioscope/impl.errThere", "loop.example/hagioscope/impl.errFull", "loop.example/hagioscope/impl.errNone"], fn := fun _ => fun
  | [d1, d2, g1, g2, g3, g4] => { results := [.lit (.bool true)], args := [d1, d2], vars := [g1, g2, g3, g4] }
  | _ => none }
def fnGraphSeenRow : OpenClaim := { program := "ytkhfbaggkmeahaagreatdoor", sum := "00fbd28f70dfc3f6656f9ab2d39484f870f5514101407a343ee1987c75c504b4", func := "loop.example/hagioscope/laws.FnGraphSeen", spec := "fnGraphSeen", inPlace := ["internal/reflectlite.TypeOf"], unfollowed := true, recurses := true, named := ["loop.example/hagioscope/impl.errForm", "loop.example/hagioscope/impl.errThere", "loop.example/hagioscope/impl.errFull", "loop.example/hagioscope/impl.errNone"], ifaces := true, apart := false, laid := [("loop.example/hagioscope/impl.errForm", laid_loop_example_hagioscope_impl_errForm), ("loop.example/hagioscope/impl.errThere", laid_loop_example_hagioscope_impl_errThere), ("loop.example/hagioscope/impl.errNone", laid_loop_example_hagioscope_impl_errNone), ("loop.example/hagioscope/impl.errFull", laid_loop_example_hagioscope_impl_errFull)] }
def FnGraphSeenSaid : Prop := fnGraphSeenRow.holds Tryz.pinned (OpenSpec.ofChange fnGraphSeenSpec)

/-- ITS FALSE NEIGHBOUR: 'it returns false'. Refute it at one input. -/
def fnGraphSeenWrong : ChangeSpec := { name := "fnGraphSeen", vars := ["loop.example/hagioscope/impl.errForm", "loop.example/hagioscope/impl.errThere", "loop.example/hagioscope/impl.errFull", "loop.example/hagioscope/impl.errNone"], fn := fun _ => fun
  | [d1, d2, g1, g2, g3, g4] => { results := [.lit (.bool false)], args := [d1, d2], vars := [g1, g2, g3, g4] }
  | _ => none }
def FnGraphSeenWrongFalsely : Prop := fnGraphSeenRow.holds Tryz.pinned (OpenSpec.ofChange fnGraphSeenWrong)

/-- 'laws.FnGraphBack': WHATEVER THE INPUT: true; the input reads as it did. -/
def fnGraphBackSpec : ChangeSpec := { name := "fnGraphBack", vars := ["loop.example/hagioscope/impl.errForm", "loop.example/hagioscope/impl.errThere", "loop.example/hagioscope/impl.errFull", "loop.example/hagioscope/impl.errNone"], fn := fun _ => fun
  | [d, g1, g2, g3, g4] => { results := [.lit (.bool true)], args := [d], vars := [g1, g2, g3, g4] }
  | _ => none }
def fnGraphBackRow : OpenClaim := { program := "ytkhfbaggkmeahaagreatdoor", sum := "00fbd28f70dfc3f6656f9ab2d39484f870f5514101407a343ee1987c75c504b4", func := "loop.example/hagioscope/laws.FnGraphBack", spec := "fnGraphBack", inPlace := ["internal/reflectlite.TypeOf"], unfollowed := true, recurses := true, named := ["loop.example/hagioscope/impl.errForm", "loop.example/hagioscope/impl.errThere", "loop.example/hagioscope/impl.errFull", "loop.example/hagioscope/impl.errNone"], ifaces := true, apart := false, laid := [("loop.example/hagioscope/impl.errForm", laid_loop_example_hagioscope_impl_errForm), ("loop.example/hagioscope/impl.errThere", laid_loop_example_hagioscope_impl_errThere), ("loop.example/hagioscope/impl.errNone", laid_loop_example_hagioscope_impl_errNone), ("loop.example/hagioscope/impl.errFull", laid_loop_example_hagioscope_impl_errFull)] }
def FnGraphBackSaid : Prop := fnGraphBackRow.holds Tryz.pinned (OpenSpec.ofChange fnGraphBackSpec)

/-- ITS FALSE NEIGHBOUR: 'it returns false'. Refute it at one input. -/
def fnGraphBackWrong : ChangeSpec := { name := "fnGraphBack", vars := ["loop.example/hagioscope/impl.errForm", "loop.example/hagioscope/impl.errThere", "loop.example/hagioscope/impl.errFull", "loop.example/hagioscope/impl.errNone"], fn := fun _ => fun
  | [d, g1, g2, g3, g4] => { results := [.lit (.bool false)], args := [d], vars := [g1, g2, g3, g4] }
  | _ => none }
def FnGraphBackWrongFalsely : Prop := fnGraphBackRow.holds Tryz.pinned (OpenSpec.ofChange fnGraphBackWrong)

/-- 'laws.FnGraphGone': WHATEVER THE INPUT: true; the input reads as it did. -/
def fnGraphGoneSpec : ChangeSpec := { name := "fnGraphGone", vars := ["loop.example/hagioscope/impl.errForm", "loop.example/hagioscope/impl.errThere", "loop.example/hagioscope/impl.errFull", "loop.example/hagioscope/impl.errNone"], fn := fun _ => fun
  | [d, g1, g2, g3, g4] => { results := [.lit (.bool true)], args := [d], vars := [g1, g2, g3, g4] }
  | _ => none }
def fnGraphGoneRow : OpenClaim := { program := "ytkhfbaggkmeahaagreatdoor", sum := "00fbd28f70dfc3f6656f9ab2d39484f870f5514101407a343ee1987c75c504b4", func := "loop.example/hagioscope/laws.FnGraphGone", spec := "fnGraphGone", inPlace := ["internal/reflectlite.TypeOf"], unfollowed := true, recurses := true, named := ["loop.example/hagioscope/impl.errForm", "loop.example/hagioscope/impl.errThere", "loop.example/hagioscope/impl.errFull", "loop.example/hagioscope/impl.errNone"], ifaces := true, apart := false, laid := [("loop.example/hagioscope/impl.errForm", laid_loop_example_hagioscope_impl_errForm), ("loop.example/hagioscope/impl.errThere", laid_loop_example_hagioscope_impl_errThere), ("loop.example/hagioscope/impl.errNone", laid_loop_example_hagioscope_impl_errNone), ("loop.example/hagioscope/impl.errFull", laid_loop_example_hagioscope_impl_errFull)] }
def FnGraphGoneSaid : Prop := fnGraphGoneRow.holds Tryz.pinned (OpenSpec.ofChange fnGraphGoneSpec)

/-- ITS FALSE NEIGHBOUR: 'it returns false'. Refute it at one input. -/
def fnGraphGoneWrong : ChangeSpec := { name := "fnGraphGone", vars := ["loop.example/hagioscope/impl.errForm", "loop.example/hagioscope/impl.errThere", "loop.example/hagioscope/impl.errFull", "loop.example/hagioscope/impl.errNone"], fn := fun _ => fun
  | [d, g1, g2, g3, g4] => { results := [.lit (.bool false)], args := [d], vars := [g1, g2, g3, g4] }
  | _ => none }
def FnGraphGoneWrongFalsely : Prop := fnGraphGoneRow.holds Tryz.pinned (OpenSpec.ofChange fnGraphGoneWrong)

/-- 'laws.FnGraphSwap': WHATEVER THE INPUT: true; the input reads as it did. -/
def fnGraphSwapSpec : ChangeSpec := { name := "fnGraphSwap", vars := ["loop.example/hagioscope/impl.errForm", "loop.example/hagioscope/impl.errThere", "loop.example/hagioscope/impl.errFull", "loop.example/hagioscope/impl.errNone"], fn := fun _ => fun
  | [d1, d2, g1, g2, g3, g4] => { results := [.lit (.bool true)], args := [d1, d2], vars := [g1, g2, g3, g4] }
  | _ => none }
def fnGraphSwapRow : OpenClaim := { program := "ytkhfbaggkmeahaagreatdoor", sum := "00fbd28f70dfc3f6656f9ab2d39484f870f5514101407a343ee1987c75c504b4", func := "loop.example/hagioscope/laws.FnGraphSwap", spec := "fnGraphSwap", inPlace := ["internal/reflectlite.TypeOf"], unfollowed := true, recurses := true, named := ["loop.example/hagioscope/impl.errForm", "loop.example/hagioscope/impl.errThere", "loop.example/hagioscope/impl.errFull", "loop.example/hagioscope/impl.errNone"], ifaces := true, apart := false, laid := [("loop.example/hagioscope/impl.errForm", laid_loop_example_hagioscope_impl_errForm), ("loop.example/hagioscope/impl.errThere", laid_loop_example_hagioscope_impl_errThere), ("loop.example/hagioscope/impl.errNone", laid_loop_example_hagioscope_impl_errNone), ("loop.example/hagioscope/impl.errFull", laid_loop_example_hagioscope_impl_errFull)] }
def FnGraphSwapSaid : Prop := fnGraphSwapRow.holds Tryz.pinned (OpenSpec.ofChange fnGraphSwapSpec)

/-- ITS FALSE NEIGHBOUR: 'it returns false'. Refute it at one input. -/
def fnGraphSwapWrong : ChangeSpec := { name := "fnGraphSwap", vars := ["loop.example/hagioscope/impl.errForm", "loop.example/hagioscope/impl.errThere", "loop.example/hagioscope/impl.errFull", "loop.example/hagioscope/impl.errNone"], fn := fun _ => fun
  | [d1, d2, g1, g2, g3, g4] => { results := [.lit (.bool false)], args := [d1, d2], vars := [g1, g2, g3, g4] }
  | _ => none }
def FnGraphSwapWrongFalsely : Prop := fnGraphSwapRow.holds Tryz.pinned (OpenSpec.ofChange fnGraphSwapWrong)

/-- 'laws.FnGraphFull': WHATEVER THE INPUT: true; the input reads as it did. -/
def fnGraphFullSpec : ChangeSpec := { name := "fnGraphFull", vars := ["loop.example/hagioscope/impl.errForm", "loop.example/hagioscope/impl.errThere", "loop.example/hagioscope/impl.errFull", "loop.example/hagioscope/impl.errNone"], fn := fun _ => fun
  | [d, g1, g2, g3, g4] => { results := [.lit (.bool true)], args := [d], vars := [g1, g2, g3, g4] }
  | _ => none }
def fnGraphFullRow : OpenClaim := { program := "ytkhfbaggkmeahaagreatdoor", sum := "00fbd28f70dfc3f6656f9ab2d39484f870f5514101407a343ee1987c75c504b4", func := "loop.example/hagioscope/laws.FnGraphFull", spec := "fnGraphFull", inPlace := ["internal/reflectlite.TypeOf"], unfollowed := true, recurses := true, named := ["loop.example/hagioscope/impl.errForm", "loop.example/hagioscope/impl.errThere", "loop.example/hagioscope/impl.errFull", "loop.example/hagioscope/impl.errNone"], ifaces := true, apart := false, laid := [("loop.example/hagioscope/impl.errForm", laid_loop_example_hagioscope_impl_errForm), ("loop.example/hagioscope/impl.errThere", laid_loop_example_hagioscope_impl_errThere), ("loop.example/hagioscope/impl.errNone", laid_loop_example_hagioscope_impl_errNone), ("loop.example/hagioscope/impl.errFull", laid_loop_example_hagioscope_impl_errFull)] }
def FnGraphFullSaid : Prop := fnGraphFullRow.holds Tryz.pinned (OpenSpec.ofChange fnGraphFullSpec)

/-- ITS FALSE NEIGHBOUR: 'it returns false'. Refute it at one input. -/
def fnGraphFullWrong : ChangeSpec := { name := "fnGraphFull", vars := ["loop.example/hagioscope/impl.errForm", "loop.example/hagioscope/impl.errThere", "loop.example/hagioscope/impl.errFull", "loop.example/hagioscope/impl.errNone"], fn := fun _ => fun
  | [d, g1, g2, g3, g4] => { results := [.lit (.bool false)], args := [d], vars := [g1, g2, g3, g4] }
  | _ => none }
def FnGraphFullWrongFalsely : Prop := fnGraphFullRow.holds Tryz.pinned (OpenSpec.ofChange fnGraphFullWrong)

/- THE SECOND FORM. 'bulk': how many values and letters a reading holds, each counted each time it is reached (what is shared counts as often as it is met; a slice's spare places count too). A statement '..UptoSaid' is the law's where the arguments, and the package variables that the reading takes, are together of bulk at most 1048576: NARROWER than '..Said'. Prove '..Said' where nothing that the law and all that it calls make is longer than what came in: it says more and counts as full. Else prove '..UptoSaid'. A law counts once. -/
mutual
def uptoBulk {H : Type} : DataW H → Nat
  | .lit (.string bytes) => bytes.length + 1
  | .lit _ => 1
  | .nil => 1
  | .ptr d => uptoBulk d + 1
  | .slice elems spare => uptoBulkAll elems + uptoBulkAll spare + 1
  | .agg parts => uptoBulkAll parts + 1
  | .iface _ d => uptoBulk d + 1
  | .map entries => uptoBulkEntries entries + 1
  | .held _ => 1
def uptoBulkAll {H : Type} : List (DataW H) → Nat
  | [] => 0
  | d :: r => uptoBulk d + uptoBulkAll r
def uptoBulkEntries {H : Type} : List (Lit × DataW H) → Nat
  | [] => 0
  | x :: r => uptoBulkEntry x + uptoBulkEntries r
def uptoBulkEntry {H : Type} : Lit × DataW H → Nat
  | (.string bytes, d) => bytes.length + uptoBulk d + 1
  | (_, d) => uptoBulk d + 1
 end
def uptoSmall : (H : Type) → List (DataW H) → Bool := fun _ ds => decide (uptoBulkAll ds ≤ 1048576)
def OpenSpec.upto (s : _root_.Go.ChangeSpec) : _root_.Go.OpenSpec := { _root_.Go.OpenSpec.ofChange s with cond := some uptoSmall }

/-- 'laws.FnGraph', WHERE WHAT IT READS IS OF BULK AT MOST 1048576: true; the input reads as it did. -/
def fnGraphUptoRow : OpenClaim := { program := "ytkhfbaggkmeahaagreatdoor", sum := "00fbd28f70dfc3f6656f9ab2d39484f870f5514101407a343ee1987c75c504b4", func := "loop.example/hagioscope/laws.FnGraph", spec := "fnGraph", inPlace := ["internal/reflectlite.TypeOf"], unfollowed := true, recurses := true, named := ["loop.example/hagioscope/impl.errForm", "loop.example/hagioscope/impl.errThere", "loop.example/hagioscope/impl.errFull", "loop.example/hagioscope/impl.errNone"], ifaces := true, apart := false, laid := [("loop.example/hagioscope/impl.errForm", laid_loop_example_hagioscope_impl_errForm), ("loop.example/hagioscope/impl.errThere", laid_loop_example_hagioscope_impl_errThere), ("loop.example/hagioscope/impl.errNone", laid_loop_example_hagioscope_impl_errNone), ("loop.example/hagioscope/impl.errFull", laid_loop_example_hagioscope_impl_errFull)], narrowed := true }
def FnGraphUptoSaid : Prop := fnGraphUptoRow.holds Tryz.pinned (OpenSpec.upto fnGraphSpec)

/-- 'laws.FnGraphSeen', WHERE WHAT IT READS IS OF BULK AT MOST 1048576: true; the input reads as it did. -/
def fnGraphSeenUptoRow : OpenClaim := { program := "ytkhfbaggkmeahaagreatdoor", sum := "00fbd28f70dfc3f6656f9ab2d39484f870f5514101407a343ee1987c75c504b4", func := "loop.example/hagioscope/laws.FnGraphSeen", spec := "fnGraphSeen", inPlace := ["internal/reflectlite.TypeOf"], unfollowed := true, recurses := true, named := ["loop.example/hagioscope/impl.errForm", "loop.example/hagioscope/impl.errThere", "loop.example/hagioscope/impl.errFull", "loop.example/hagioscope/impl.errNone"], ifaces := true, apart := false, laid := [("loop.example/hagioscope/impl.errForm", laid_loop_example_hagioscope_impl_errForm), ("loop.example/hagioscope/impl.errThere", laid_loop_example_hagioscope_impl_errThere), ("loop.example/hagioscope/impl.errNone", laid_loop_example_hagioscope_impl_errNone), ("loop.example/hagioscope/impl.errFull", laid_loop_example_hagioscope_impl_errFull)], narrowed := true }
def FnGraphSeenUptoSaid : Prop := fnGraphSeenUptoRow.holds Tryz.pinned (OpenSpec.upto fnGraphSeenSpec)

/-- 'laws.FnGraphBack', WHERE WHAT IT READS IS OF BULK AT MOST 1048576: true; the input reads as it did. -/
def fnGraphBackUptoRow : OpenClaim := { program := "ytkhfbaggkmeahaagreatdoor", sum := "00fbd28f70dfc3f6656f9ab2d39484f870f5514101407a343ee1987c75c504b4", func := "loop.example/hagioscope/laws.FnGraphBack", spec := "fnGraphBack", inPlace := ["internal/reflectlite.TypeOf"], unfollowed := true, recurses := true, named := ["loop.example/hagioscope/impl.errForm", "loop.example/hagioscope/impl.errThere", "loop.example/hagioscope/impl.errFull", "loop.example/hagioscope/impl.errNone"], ifaces := true, apart := false, laid := [("loop.example/hagioscope/impl.errForm", laid_loop_example_hagioscope_impl_errForm), ("loop.example/hagioscope/impl.errThere", laid_loop_example_hagioscope_impl_errThere), ("loop.example/hagioscope/impl.errNone", laid_loop_example_hagioscope_impl_errNone), ("loop.example/hagioscope/impl.errFull", laid_loop_example_hagioscope_impl_errFull)], narrowed := true }
def FnGraphBackUptoSaid : Prop := fnGraphBackUptoRow.holds Tryz.pinned (OpenSpec.upto fnGraphBackSpec)

/-- 'laws.FnGraphGone', WHERE WHAT IT READS IS OF BULK AT MOST 1048576: true; the input reads as it did. -/
def fnGraphGoneUptoRow : OpenClaim := { program := "ytkhfbaggkmeahaagreatdoor", sum := "00fbd28f70dfc3f6656f9ab2d39484f870f5514101407a343ee1987c75c504b4", func := "loop.example/hagioscope/laws.FnGraphGone", spec := "fnGraphGone", inPlace := ["internal/reflectlite.TypeOf"], unfollowed := true, recurses := true, named := ["loop.example/hagioscope/impl.errForm", "loop.example/hagioscope/impl.errThere", "loop.example/hagioscope/impl.errFull", "loop.example/hagioscope/impl.errNone"], ifaces := true, apart := false, laid := [("loop.example/hagioscope/impl.errForm", laid_loop_example_hagioscope_impl_errForm), ("loop.example/hagioscope/impl.errThere", laid_loop_example_hagioscope_impl_errThere), ("loop.example/hagioscope/impl.errNone", laid_loop_example_hagioscope_impl_errNone), ("loop.example/hagioscope/impl.errFull", laid_loop_example_hagioscope_impl_errFull)], narrowed := true }
def FnGraphGoneUptoSaid : Prop := fnGraphGoneUptoRow.holds Tryz.pinned (OpenSpec.upto fnGraphGoneSpec)

/-- 'laws.FnGraphSwap', WHERE WHAT IT READS IS OF BULK AT MOST 1048576: true; the input reads as it did. -/
def fnGraphSwapUptoRow : OpenClaim := { program := "ytkhfbaggkmeahaagreatdoor", sum := "00fbd28f70dfc3f6656f9ab2d39484f870f5514101407a343ee1987c75c504b4", func := "loop.example/hagioscope/laws.FnGraphSwap", spec := "fnGraphSwap", inPlace := ["internal/reflectlite.TypeOf"], unfollowed := true, recurses := true, named := ["loop.example/hagioscope/impl.errForm", "loop.example/hagioscope/impl.errThere", "loop.example/hagioscope/impl.errFull", "loop.example/hagioscope/impl.errNone"], ifaces := true, apart := false, laid := [("loop.example/hagioscope/impl.errForm", laid_loop_example_hagioscope_impl_errForm), ("loop.example/hagioscope/impl.errThere", laid_loop_example_hagioscope_impl_errThere), ("loop.example/hagioscope/impl.errNone", laid_loop_example_hagioscope_impl_errNone), ("loop.example/hagioscope/impl.errFull", laid_loop_example_hagioscope_impl_errFull)], narrowed := true }
def FnGraphSwapUptoSaid : Prop := fnGraphSwapUptoRow.holds Tryz.pinned (OpenSpec.upto fnGraphSwapSpec)

/-- 'laws.FnGraphFull', WHERE WHAT IT READS IS OF BULK AT MOST 1048576: true; the input reads as it did. -/
def fnGraphFullUptoRow : OpenClaim := { program := "ytkhfbaggkmeahaagreatdoor", sum := "00fbd28f70dfc3f6656f9ab2d39484f870f5514101407a343ee1987c75c504b4", func := "loop.example/hagioscope/laws.FnGraphFull", spec := "fnGraphFull", inPlace := ["internal/reflectlite.TypeOf"], unfollowed := true, recurses := true, named := ["loop.example/hagioscope/impl.errForm", "loop.example/hagioscope/impl.errThere", "loop.example/hagioscope/impl.errFull", "loop.example/hagioscope/impl.errNone"], ifaces := true, apart := false, laid := [("loop.example/hagioscope/impl.errForm", laid_loop_example_hagioscope_impl_errForm), ("loop.example/hagioscope/impl.errThere", laid_loop_example_hagioscope_impl_errThere), ("loop.example/hagioscope/impl.errNone", laid_loop_example_hagioscope_impl_errNone), ("loop.example/hagioscope/impl.errFull", laid_loop_example_hagioscope_impl_errFull)], narrowed := true }
def FnGraphFullUptoSaid : Prop := fnGraphFullUptoRow.holds Tryz.pinned (OpenSpec.upto fnGraphFullSpec)

end Rows
end Go.Proofs.YtkhfbaggkmeahaaGreatDoor
