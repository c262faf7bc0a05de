/-
  NARROWER THAN 'FOR EVERY INPUT', by the rows' own cells (each row's printed sentence says how): FnExactStoreOf: ifaces, laid · FnExactStoreRead: ifaces, laid.
  DERIVED. THE GIVEN ROWS OF THIS SEAT. 2 by the template 'for every input the law returns true; each argument reads behind the call as it read before'; 0 by the template 'total and deterministic' (their statements: YtlnpbfeihjfnjabGreatDoorTotals.lean).
  GIVEN WITH THE SEED: the statements are not yours to turn. If you find one false, say at which input.
  Laid BY PROGRAM, IN A SANDBOX (cutbox-rows.mjs): the forced cells as the released guide's own fill.sh prints them over the translation 46d01ed295b71858… (all of the seat's roots in one cut). By AI agents, Wed Nov 11 2026. No macro, syntax, notation, axiom, sorry.
-/
import Derived.Test.YtlnpbfeihjfnjabGreatDoorChecked
import GoSem.Claim
import GoSem.ClaimJoined
import GoSem.ClaimMapViews
import Derived.JoinedTies
import Derived.KernelRfl
namespace Go.Proofs.YtlnpbfeihjfnjabGreatDoor
/- THE CELL 'sum', in the pinned program and in every row, IS THE sha256 OF THE DUMP (.gsa) THAT YtlnpbfeihjfnjabGreatDoorProg.lean LOADS. Nothing in Lean hashes anything: it is a label: what it is worth is what the hold of that sum in a sandbox is worth. -/
noncomputable def Tryz.pinned : Pinned := { name := "ytlnpbfeihjfnjabgreatdoor", sum := "46d01ed295b71858de548cf1595142c1e6644fce8903d464ea694f230751f055", checked := Tryz.checked }
namespace Rows
def none {H : Type} : Left H := { results := [], args := [] }

/- WHAT THE LISTED PACKAGE-LEVEL VARIABLES READ AS WHEN THE CALL BEGINS. Each datum BY PROGRAM (the guide's laid-datum.mjs) off the statement by which the dump's own 'gosem.cut.vars' lays the variable. In a bare row this is a premise. The card (YtlnpbfeihjfnjabGreatDoorCards.lean) ties it to the program's text. -/
def laid_loop_example_hagioscope_impl_errForm {H : Type} : DataW H := .iface "*errors.errorString" (.ptr (.agg [.lit (.string [102, 111, 114, 109])]))
def laid_loop_example_hagioscope_impl_errThere {H : Type} : DataW H := .iface "*errors.errorString" (.ptr (.agg [.lit (.string [116, 104, 101, 114, 101])]))
def laid_loop_example_hagioscope_impl_errNone {H : Type} : DataW H := .iface "*errors.errorString" (.ptr (.agg [.lit (.string [110, 111, 110, 101])]))
def laid_loop_example_hagioscope_impl_errFull {H : Type} : DataW H := .iface "*errors.errorString" (.ptr (.agg [.lit (.string [102, 117, 108, 108])]))

/-- 'laws.FnExactStoreOf': WHATEVER THE INPUT: true; the input reads as it did. -/
def fnExactStoreOfSpec : ChangeSpec := { name := "fnExactStoreOf", vars := ["loop.example/hagioscope/impl.errForm", "loop.example/hagioscope/impl.errThere", "loop.example/hagioscope/impl.errFull", "loop.example/hagioscope/impl.errNone"], fn := fun _ => fun
  | [d, g1, g2, g3, g4] => { results := [.lit (.bool true)], args := [d], vars := [g1, g2, g3, g4] }
  | _ => none }
def fnExactStoreOfRow : OpenClaim := { program := "ytlnpbfeihjfnjabgreatdoor", sum := "46d01ed295b71858de548cf1595142c1e6644fce8903d464ea694f230751f055", func := "loop.example/hagioscope/laws.FnExactStoreOf", spec := "fnExactStoreOf", inPlace := ["internal/abi.NoEscape"], unfollowed := true, recurses := true, named := ["loop.example/hagioscope/impl.errForm", "loop.example/hagioscope/impl.errThere", "loop.example/hagioscope/impl.errFull", "loop.example/hagioscope/impl.errNone"], ifaces := true, apart := false, laid := [("loop.example/hagioscope/impl.errForm", laid_loop_example_hagioscope_impl_errForm), ("loop.example/hagioscope/impl.errThere", laid_loop_example_hagioscope_impl_errThere), ("loop.example/hagioscope/impl.errNone", laid_loop_example_hagioscope_impl_errNone), ("loop.example/hagioscope/impl.errFull", laid_loop_example_hagioscope_impl_errFull)] }
def FnExactStoreOfSaid : Prop := fnExactStoreOfRow.holds Tryz.pinned (OpenSpec.ofChange fnExactStoreOfSpec)

/-- ITS FALSE NEIGHBOUR: 'it returns false'. Refute it at one input. -/
def fnExactStoreOfWrong : ChangeSpec := { name := "fnExactStoreOf", vars := ["loop.example/hagioscope/impl.errForm", "loop.example/hagioscope/impl.errThere", "loop.example/hagioscope/impl.errFull", "loop.example/hagioscope/impl.errNone"], fn := fun _ => fun
  | [d, g1, g2, g3, g4] => { results := [.lit (.bool false)], args := [d], vars := [g1, g2, g3, g4] }
  | _ => none }
def FnExactStoreOfWrongFalsely : Prop := fnExactStoreOfRow.holds Tryz.pinned (OpenSpec.ofChange fnExactStoreOfWrong)

/-- 'laws.FnExactStoreRead': WHATEVER THE INPUT: true; the input reads as it did. -/
def fnExactStoreReadSpec : ChangeSpec := { name := "fnExactStoreRead", vars := ["loop.example/hagioscope/impl.errForm", "loop.example/hagioscope/impl.errThere", "loop.example/hagioscope/impl.errFull", "loop.example/hagioscope/impl.errNone"], fn := fun _ => fun
  | [d, g1, g2, g3, g4] => { results := [.lit (.bool true)], args := [d], vars := [g1, g2, g3, g4] }
  | _ => none }
def fnExactStoreReadRow : OpenClaim := { program := "ytlnpbfeihjfnjabgreatdoor", sum := "46d01ed295b71858de548cf1595142c1e6644fce8903d464ea694f230751f055", func := "loop.example/hagioscope/laws.FnExactStoreRead", spec := "fnExactStoreRead", inPlace := ["internal/abi.NoEscape"], unfollowed := true, recurses := true, named := ["loop.example/hagioscope/impl.errForm", "loop.example/hagioscope/impl.errThere", "loop.example/hagioscope/impl.errFull", "loop.example/hagioscope/impl.errNone"], ifaces := true, apart := false, laid := [("loop.example/hagioscope/impl.errForm", laid_loop_example_hagioscope_impl_errForm), ("loop.example/hagioscope/impl.errThere", laid_loop_example_hagioscope_impl_errThere), ("loop.example/hagioscope/impl.errNone", laid_loop_example_hagioscope_impl_errNone), ("loop.example/hagioscope/impl.errFull", laid_loop_example_hagioscope_impl_errFull)] }
def FnExactStoreReadSaid : Prop := fnExactStoreReadRow.holds Tryz.pinned (OpenSpec.ofChange fnExactStoreReadSpec)

/-- ITS FALSE NEIGHBOUR: 'it returns false'. Refute it at one input. -/
def fnExactStoreReadWrong : ChangeSpec := { name := "fnExactStoreRead", vars := ["loop.example/hagioscope/impl.errForm", "loop.example/hagioscope/impl.errThere", "loop.example/hagioscope/impl.errFull", "loop.example/hagioscope/impl.errNone"], fn := fun _ => fun
  | [d, g1, g2, g3, g4] => { results := [.lit (.bool false)], args := [d], vars := [g1, g2, g3, g4] }
  | _ => none }
def FnExactStoreReadWrongFalsely : Prop := fnExactStoreReadRow.holds Tryz.pinned (OpenSpec.ofChange fnExactStoreReadWrong)

/- THE SECOND FORM. 'bulk': how many values and letters a reading holds, each counted each time it is reached (what is shared counts as often as it is met; a slice's spare places count too). A statement '..UptoSaid' is the law's where the arguments, and the package variables that the reading takes, are together of bulk at most 1048576: NARROWER than '..Said'. Prove '..Said' where nothing that the law and all that it calls make is longer than what came in: it says more and counts as full. Else prove '..UptoSaid'. A law counts once. -/
mutual
def uptoBulk {H : Type} : DataW H → Nat
  | .lit (.string bytes) => bytes.length + 1
  | .lit _ => 1
  | .nil => 1
  | .ptr d => uptoBulk d + 1
  | .slice elems spare => uptoBulkAll elems + uptoBulkAll spare + 1
  | .agg parts => uptoBulkAll parts + 1
  | .iface _ d => uptoBulk d + 1
  | .map entries => uptoBulkEntries entries + 1
  | .held _ => 1
def uptoBulkAll {H : Type} : List (DataW H) → Nat
  | [] => 0
  | d :: r => uptoBulk d + uptoBulkAll r
def uptoBulkEntries {H : Type} : List (Lit × DataW H) → Nat
  | [] => 0
  | x :: r => uptoBulkEntry x + uptoBulkEntries r
def uptoBulkEntry {H : Type} : Lit × DataW H → Nat
  | (.string bytes, d) => bytes.length + uptoBulk d + 1
  | (_, d) => uptoBulk d + 1
 end
def uptoSmall : (H : Type) → List (DataW H) → Bool := fun _ ds => decide (uptoBulkAll ds ≤ 1048576)
def OpenSpec.upto (s : _root_.Go.ChangeSpec) : _root_.Go.OpenSpec := { _root_.Go.OpenSpec.ofChange s with cond := some uptoSmall }

/-- 'laws.FnExactStoreOf', WHERE WHAT IT READS IS OF BULK AT MOST 1048576: true; the input reads as it did. -/
def fnExactStoreOfUptoRow : OpenClaim := { program := "ytlnpbfeihjfnjabgreatdoor", sum := "46d01ed295b71858de548cf1595142c1e6644fce8903d464ea694f230751f055", func := "loop.example/hagioscope/laws.FnExactStoreOf", spec := "fnExactStoreOf", inPlace := ["internal/abi.NoEscape"], unfollowed := true, recurses := true, named := ["loop.example/hagioscope/impl.errForm", "loop.example/hagioscope/impl.errThere", "loop.example/hagioscope/impl.errFull", "loop.example/hagioscope/impl.errNone"], ifaces := true, apart := false, laid := [("loop.example/hagioscope/impl.errForm", laid_loop_example_hagioscope_impl_errForm), ("loop.example/hagioscope/impl.errThere", laid_loop_example_hagioscope_impl_errThere), ("loop.example/hagioscope/impl.errNone", laid_loop_example_hagioscope_impl_errNone), ("loop.example/hagioscope/impl.errFull", laid_loop_example_hagioscope_impl_errFull)], narrowed := true }
def FnExactStoreOfUptoSaid : Prop := fnExactStoreOfUptoRow.holds Tryz.pinned (OpenSpec.upto fnExactStoreOfSpec)

/-- 'laws.FnExactStoreRead', WHERE WHAT IT READS IS OF BULK AT MOST 1048576: true; the input reads as it did. -/
def fnExactStoreReadUptoRow : OpenClaim := { program := "ytlnpbfeihjfnjabgreatdoor", sum := "46d01ed295b71858de548cf1595142c1e6644fce8903d464ea694f230751f055", func := "loop.example/hagioscope/laws.FnExactStoreRead", spec := "fnExactStoreRead", inPlace := ["internal/abi.NoEscape"], unfollowed := true, recurses := true, named := ["loop.example/hagioscope/impl.errForm", "loop.example/hagioscope/impl.errThere", "loop.example/hagioscope/impl.errFull", "loop.example/hagioscope/impl.errNone"], ifaces := true, apart := false, laid := [("loop.example/hagioscope/impl.errForm", laid_loop_example_hagioscope_impl_errForm), ("loop.example/hagioscope/impl.errThere", laid_loop_example_hagioscope_impl_errThere), ("loop.example/hagioscope/impl.errNone", laid_loop_example_hagioscope_impl_errNone), ("loop.example/hagioscope/impl.errFull", laid_loop_example_hagioscope_impl_errFull)], narrowed := true }
def FnExactStoreReadUptoSaid : Prop := fnExactStoreReadUptoRow.holds Tryz.pinned (OpenSpec.upto fnExactStoreReadSpec)

end Rows
end Go.Proofs.YtlnpbfeihjfnjabGreatDoor
