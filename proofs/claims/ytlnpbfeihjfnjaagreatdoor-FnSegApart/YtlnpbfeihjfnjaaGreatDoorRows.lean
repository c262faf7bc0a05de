/-
  NARROWER THAN 'FOR EVERY INPUT', by the rows' own cells (each row's printed sentence says how): FnStore: ifaces, laid · FnStoreView: ifaces, laid · FnSegApart: ifaces, laid · FnStoreBent: ifaces, laid · FnSegLong: ifaces, laid · FnStoreLabels: ifaces, laid.
  DERIVED. THE GIVEN ROWS OF THIS SEAT. 6 by the template 'for every input the law returns true; each argument reads behind the call as it read before'; 0 by the template 'total and deterministic' (their statements: YtlnpbfeihjfnjaaGreatDoorTotals.lean).
  GIVEN WITH THE SEED: the statements are not yours to turn. If you find one false, say at which input.
  Laid BY PROGRAM, IN A SANDBOX (cutbox-rows.mjs): the forced cells as the released guide's own fill.sh prints them over the translation 5bdbf1b3c609fc3f… (all of the seat's roots in one cut). By AI agents, Wed Nov 11 2026. No macro, syntax, notation, axiom, sorry.
-/
import Derived.Test.YtlnpbfeihjfnjaaGreatDoorChecked
import GoSem.Claim
import GoSem.ClaimJoined
import GoSem.ClaimMapViews
import Derived.JoinedTies
import Derived.KernelRfl
namespace Go.Proofs.YtlnpbfeihjfnjaaGreatDoor
/- THE CELL 'sum', in the pinned program and in every row, IS THE sha256 OF THE DUMP (.gsa) THAT YtlnpbfeihjfnjaaGreatDoorProg.lean LOADS. Nothing in Lean hashes anything: it is a label: what it is worth is what the hold of that sum in a sandbox is worth. -/
noncomputable def Tryz.pinned : Pinned := { name := "ytlnpbfeihjfnjaagreatdoor", sum := "5bdbf1b3c609fc3ff6387fbf188a1db530ef22172d5197abc2c7bd17bbae294b", checked := Tryz.checked }
namespace Rows
def none {H : Type} : Left H := { results := [], args := [] }

/- WHAT THE LISTED PACKAGE-LEVEL VARIABLES READ AS WHEN THE CALL BEGINS. Each datum BY PROGRAM (the guide's laid-datum.mjs) off the statement by which the dump's own 'gosem.cut.vars' lays the variable. In a bare row this is a premise. The card (YtlnpbfeihjfnjaaGreatDoorCards.lean) ties it to the program's text. -/
def laid_loop_example_hagioscope_impl_errForm {H : Type} : DataW H := .iface "*errors.errorString" (.ptr (.agg [.lit (.string [102, 111, 114, 109])]))
def laid_loop_example_hagioscope_impl_errThere {H : Type} : DataW H := .iface "*errors.errorString" (.ptr (.agg [.lit (.string [116, 104, 101, 114, 101])]))
def laid_loop_example_hagioscope_impl_errNone {H : Type} : DataW H := .iface "*errors.errorString" (.ptr (.agg [.lit (.string [110, 111, 110, 101])]))
def laid_loop_example_hagioscope_impl_errFull {H : Type} : DataW H := .iface "*errors.errorString" (.ptr (.agg [.lit (.string [102, 117, 108, 108])]))

/-- 'laws.FnStore': WHATEVER THE INPUT: true; the input reads as it did. -/
def fnStoreSpec : ChangeSpec := { name := "fnStore", vars := ["loop.example/hagioscope/impl.errForm", "loop.example/hagioscope/impl.errThere", "loop.example/hagioscope/impl.errFull", "loop.example/hagioscope/impl.errNone"], fn := fun _ => fun
  | [d1, d2, g1, g2, g3, g4] => { results := [.lit (.bool true)], args := [d1, d2], vars := [g1, g2, g3, g4] }
  | _ => none }
def fnStoreRow : OpenClaim := { program := "ytlnpbfeihjfnjaagreatdoor", sum := "5bdbf1b3c609fc3ff6387fbf188a1db530ef22172d5197abc2c7bd17bbae294b", func := "loop.example/hagioscope/laws.FnStore", spec := "fnStore", inPlace := ["internal/abi.NoEscape"], unfollowed := true, recurses := true, named := ["loop.example/hagioscope/impl.errForm", "loop.example/hagioscope/impl.errThere", "loop.example/hagioscope/impl.errFull", "loop.example/hagioscope/impl.errNone"], ifaces := true, apart := false, laid := [("loop.example/hagioscope/impl.errForm", laid_loop_example_hagioscope_impl_errForm), ("loop.example/hagioscope/impl.errThere", laid_loop_example_hagioscope_impl_errThere), ("loop.example/hagioscope/impl.errNone", laid_loop_example_hagioscope_impl_errNone), ("loop.example/hagioscope/impl.errFull", laid_loop_example_hagioscope_impl_errFull)] }
def FnStoreSaid : Prop := fnStoreRow.holds Tryz.pinned (OpenSpec.ofChange fnStoreSpec)

/-- ITS FALSE NEIGHBOUR: 'it returns false'. Refute it at one input. -/
def fnStoreWrong : ChangeSpec := { name := "fnStore", vars := ["loop.example/hagioscope/impl.errForm", "loop.example/hagioscope/impl.errThere", "loop.example/hagioscope/impl.errFull", "loop.example/hagioscope/impl.errNone"], fn := fun _ => fun
  | [d1, d2, g1, g2, g3, g4] => { results := [.lit (.bool false)], args := [d1, d2], vars := [g1, g2, g3, g4] }
  | _ => none }
def FnStoreWrongFalsely : Prop := fnStoreRow.holds Tryz.pinned (OpenSpec.ofChange fnStoreWrong)

/-- 'laws.FnStoreView': WHATEVER THE INPUT: true; the input reads as it did. -/
def fnStoreViewSpec : ChangeSpec := { name := "fnStoreView", vars := ["loop.example/hagioscope/impl.errForm", "loop.example/hagioscope/impl.errThere", "loop.example/hagioscope/impl.errFull", "loop.example/hagioscope/impl.errNone"], fn := fun _ => fun
  | [d1, d2, g1, g2, g3, g4] => { results := [.lit (.bool true)], args := [d1, d2], vars := [g1, g2, g3, g4] }
  | _ => none }
def fnStoreViewRow : OpenClaim := { program := "ytlnpbfeihjfnjaagreatdoor", sum := "5bdbf1b3c609fc3ff6387fbf188a1db530ef22172d5197abc2c7bd17bbae294b", func := "loop.example/hagioscope/laws.FnStoreView", spec := "fnStoreView", inPlace := ["internal/abi.NoEscape"], unfollowed := true, recurses := true, named := ["loop.example/hagioscope/impl.errForm", "loop.example/hagioscope/impl.errThere", "loop.example/hagioscope/impl.errFull", "loop.example/hagioscope/impl.errNone"], ifaces := true, apart := false, laid := [("loop.example/hagioscope/impl.errForm", laid_loop_example_hagioscope_impl_errForm), ("loop.example/hagioscope/impl.errThere", laid_loop_example_hagioscope_impl_errThere), ("loop.example/hagioscope/impl.errNone", laid_loop_example_hagioscope_impl_errNone), ("loop.example/hagioscope/impl.errFull", laid_loop_example_hagioscope_impl_errFull)] }
def FnStoreViewSaid : Prop := fnStoreViewRow.holds Tryz.pinned (OpenSpec.ofChange fnStoreViewSpec)

/-- ITS FALSE NEIGHBOUR: 'it returns false'. Refute it at one input. -/
def fnStoreViewWrong : ChangeSpec := { name := "fnStoreView", vars := ["loop.example/hagioscope/impl.errForm", "loop.example/hagioscope/impl.errThere", "loop.example/hagioscope/impl.errFull", "loop.example/hagioscope/impl.errNone"], fn := fun _ => fun
  | [d1, d2, g1, g2, g3, g4] => { results := [.lit (.bool false)], args := [d1, d2], vars := [g1, g2, g3, g4] }
  | _ => none }
def FnStoreViewWrongFalsely : Prop := fnStoreViewRow.holds Tryz.pinned (OpenSpec.ofChange fnStoreViewWrong)

/-- 'laws.FnSegApart': WHATEVER THE INPUT: true; the input reads as it did. -/
def fnSegApartSpec : ChangeSpec := { name := "fnSegApart", vars := ["loop.example/hagioscope/impl.errForm", "loop.example/hagioscope/impl.errThere", "loop.example/hagioscope/impl.errFull", "loop.example/hagioscope/impl.errNone"], fn := fun _ => fun
  | [d, g1, g2, g3, g4] => { results := [.lit (.bool true)], args := [d], vars := [g1, g2, g3, g4] }
  | _ => none }
def fnSegApartRow : OpenClaim := { program := "ytlnpbfeihjfnjaagreatdoor", sum := "5bdbf1b3c609fc3ff6387fbf188a1db530ef22172d5197abc2c7bd17bbae294b", func := "loop.example/hagioscope/laws.FnSegApart", spec := "fnSegApart", inPlace := ["internal/reflectlite.TypeOf", "internal/abi.NoEscape"], unfollowed := true, recurses := true, named := ["loop.example/hagioscope/impl.errForm", "loop.example/hagioscope/impl.errThere", "loop.example/hagioscope/impl.errFull", "loop.example/hagioscope/impl.errNone"], ifaces := true, apart := false, laid := [("loop.example/hagioscope/impl.errForm", laid_loop_example_hagioscope_impl_errForm), ("loop.example/hagioscope/impl.errThere", laid_loop_example_hagioscope_impl_errThere), ("loop.example/hagioscope/impl.errNone", laid_loop_example_hagioscope_impl_errNone), ("loop.example/hagioscope/impl.errFull", laid_loop_example_hagioscope_impl_errFull)] }
def FnSegApartSaid : Prop := fnSegApartRow.holds Tryz.pinned (OpenSpec.ofChange fnSegApartSpec)

/-- ITS FALSE NEIGHBOUR: 'it returns false'. Refute it at one input. -/
def fnSegApartWrong : ChangeSpec := { name := "fnSegApart", vars := ["loop.example/hagioscope/impl.errForm", "loop.example/hagioscope/impl.errThere", "loop.example/hagioscope/impl.errFull", "loop.example/hagioscope/impl.errNone"], fn := fun _ => fun
  | [d, g1, g2, g3, g4] => { results := [.lit (.bool false)], args := [d], vars := [g1, g2, g3, g4] }
  | _ => none }
def FnSegApartWrongFalsely : Prop := fnSegApartRow.holds Tryz.pinned (OpenSpec.ofChange fnSegApartWrong)

/-- 'laws.FnStoreBent': WHATEVER THE INPUT: true; the input reads as it did. -/
def fnStoreBentSpec : ChangeSpec := { name := "fnStoreBent", vars := ["loop.example/hagioscope/impl.errForm", "loop.example/hagioscope/impl.errThere", "loop.example/hagioscope/impl.errFull", "loop.example/hagioscope/impl.errNone"], fn := fun _ => fun
  | [d, g1, g2, g3, g4] => { results := [.lit (.bool true)], args := [d], vars := [g1, g2, g3, g4] }
  | _ => none }
def fnStoreBentRow : OpenClaim := { program := "ytlnpbfeihjfnjaagreatdoor", sum := "5bdbf1b3c609fc3ff6387fbf188a1db530ef22172d5197abc2c7bd17bbae294b", func := "loop.example/hagioscope/laws.FnStoreBent", spec := "fnStoreBent", inPlace := ["internal/abi.NoEscape"], unfollowed := true, recurses := true, named := ["loop.example/hagioscope/impl.errForm", "loop.example/hagioscope/impl.errThere", "loop.example/hagioscope/impl.errFull", "loop.example/hagioscope/impl.errNone"], ifaces := true, apart := false, laid := [("loop.example/hagioscope/impl.errForm", laid_loop_example_hagioscope_impl_errForm), ("loop.example/hagioscope/impl.errThere", laid_loop_example_hagioscope_impl_errThere), ("loop.example/hagioscope/impl.errNone", laid_loop_example_hagioscope_impl_errNone), ("loop.example/hagioscope/impl.errFull", laid_loop_example_hagioscope_impl_errFull)] }
def FnStoreBentSaid : Prop := fnStoreBentRow.holds Tryz.pinned (OpenSpec.ofChange fnStoreBentSpec)

/-- ITS FALSE NEIGHBOUR: 'it returns false'. Refute it at one input. -/
def fnStoreBentWrong : ChangeSpec := { name := "fnStoreBent", vars := ["loop.example/hagioscope/impl.errForm", "loop.example/hagioscope/impl.errThere", "loop.example/hagioscope/impl.errFull", "loop.example/hagioscope/impl.errNone"], fn := fun _ => fun
  | [d, g1, g2, g3, g4] => { results := [.lit (.bool false)], args := [d], vars := [g1, g2, g3, g4] }
  | _ => none }
def FnStoreBentWrongFalsely : Prop := fnStoreBentRow.holds Tryz.pinned (OpenSpec.ofChange fnStoreBentWrong)

/-- 'laws.FnSegLong': WHATEVER THE INPUT: true; the input reads as it did. -/
def fnSegLongSpec : ChangeSpec := { name := "fnSegLong", vars := ["loop.example/hagioscope/impl.errForm", "loop.example/hagioscope/impl.errThere", "loop.example/hagioscope/impl.errFull", "loop.example/hagioscope/impl.errNone"], fn := fun _ => fun
  | [d, g1, g2, g3, g4] => { results := [.lit (.bool true)], args := [d], vars := [g1, g2, g3, g4] }
  | _ => none }
def fnSegLongRow : OpenClaim := { program := "ytlnpbfeihjfnjaagreatdoor", sum := "5bdbf1b3c609fc3ff6387fbf188a1db530ef22172d5197abc2c7bd17bbae294b", func := "loop.example/hagioscope/laws.FnSegLong", spec := "fnSegLong", inPlace := ["internal/reflectlite.TypeOf", "internal/abi.NoEscape"], unfollowed := true, recurses := true, named := ["loop.example/hagioscope/impl.errForm", "loop.example/hagioscope/impl.errThere", "loop.example/hagioscope/impl.errFull", "loop.example/hagioscope/impl.errNone"], ifaces := true, apart := false, laid := [("loop.example/hagioscope/impl.errForm", laid_loop_example_hagioscope_impl_errForm), ("loop.example/hagioscope/impl.errThere", laid_loop_example_hagioscope_impl_errThere), ("loop.example/hagioscope/impl.errNone", laid_loop_example_hagioscope_impl_errNone), ("loop.example/hagioscope/impl.errFull", laid_loop_example_hagioscope_impl_errFull)] }
def FnSegLongSaid : Prop := fnSegLongRow.holds Tryz.pinned (OpenSpec.ofChange fnSegLongSpec)

/-- ITS FALSE NEIGHBOUR: 'it returns false'. Refute it at one input. -/
def fnSegLongWrong : ChangeSpec := { name := "fnSegLong", vars := ["loop.example/hagioscope/impl.errForm", "loop.example/hagioscope/impl.errThere", "loop.example/hagioscope/impl.errFull", "loop.example/hagioscope/impl.errNone"], fn := fun _ => fun
  | [d, g1, g2, g3, g4] => { results := [.lit (.bool false)], args := [d], vars := [g1, g2, g3, g4] }
  | _ => none }
def FnSegLongWrongFalsely : Prop := fnSegLongRow.holds Tryz.pinned (OpenSpec.ofChange fnSegLongWrong)

/-- 'laws.FnStoreLabels': WHATEVER THE INPUT: true; the input reads as it did. -/
def fnStoreLabelsSpec : ChangeSpec := { name := "fnStoreLabels", vars := ["loop.example/hagioscope/impl.errForm", "loop.example/hagioscope/impl.errThere", "loop.example/hagioscope/impl.errFull", "loop.example/hagioscope/impl.errNone"], fn := fun _ => fun
  | [d, g1, g2, g3, g4] => { results := [.lit (.bool true)], args := [d], vars := [g1, g2, g3, g4] }
  | _ => none }
def fnStoreLabelsRow : OpenClaim := { program := "ytlnpbfeihjfnjaagreatdoor", sum := "5bdbf1b3c609fc3ff6387fbf188a1db530ef22172d5197abc2c7bd17bbae294b", func := "loop.example/hagioscope/laws.FnStoreLabels", spec := "fnStoreLabels", inPlace := ["internal/abi.NoEscape"], unfollowed := true, recurses := true, named := ["loop.example/hagioscope/impl.errForm", "loop.example/hagioscope/impl.errThere", "loop.example/hagioscope/impl.errFull", "loop.example/hagioscope/impl.errNone"], ifaces := true, apart := false, laid := [("loop.example/hagioscope/impl.errForm", laid_loop_example_hagioscope_impl_errForm), ("loop.example/hagioscope/impl.errThere", laid_loop_example_hagioscope_impl_errThere), ("loop.example/hagioscope/impl.errNone", laid_loop_example_hagioscope_impl_errNone), ("loop.example/hagioscope/impl.errFull", laid_loop_example_hagioscope_impl_errFull)] }
def FnStoreLabelsSaid : Prop := fnStoreLabelsRow.holds Tryz.pinned (OpenSpec.ofChange fnStoreLabelsSpec)

/-- ITS FALSE NEIGHBOUR: 'it returns false'. Refute it at one input. -/
def fnStoreLabelsWrong : ChangeSpec := { name := "fnStoreLabels", vars := ["loop.example/hagioscope/impl.errForm", "loop.example/hagioscope/impl.errThere", "loop.example/hagioscope/impl.errFull", "loop.example/hagioscope/impl.errNone"], fn := fun _ => fun
  | [d, g1, g2, g3, g4] => { results := [.lit (.bool false)], args := [d], vars := [g1, g2, g3, g4] }
  | _ => none }
def FnStoreLabelsWrongFalsely : Prop := fnStoreLabelsRow.holds Tryz.pinned (OpenSpec.ofChange fnStoreLabelsWrong)

/- THE SECOND FORM. 'bulk': how many values and letters a reading holds, each counted each time it is reached (what is shared counts as often as it is met; a slice's spare places count too). A statement '..UptoSaid' is the law's where the arguments, and the package variables that the reading takes, are together of bulk at most 1048576: NARROWER than '..Said'. Prove '..Said' where nothing that the law and all that it calls make is longer than what came in: it says more and counts as full. Else prove '..UptoSaid'. A law counts once. -/
mutual
def uptoBulk {H : Type} : DataW H → Nat
  | .lit (.string bytes) => bytes.length + 1
  | .lit _ => 1
  | .nil => 1
  | .ptr d => uptoBulk d + 1
  | .slice elems spare => uptoBulkAll elems + uptoBulkAll spare + 1
  | .agg parts => uptoBulkAll parts + 1
  | .iface _ d => uptoBulk d + 1
  | .map entries => uptoBulkEntries entries + 1
  | .held _ => 1
def uptoBulkAll {H : Type} : List (DataW H) → Nat
  | [] => 0
  | d :: r => uptoBulk d + uptoBulkAll r
def uptoBulkEntries {H : Type} : List (Lit × DataW H) → Nat
  | [] => 0
  | x :: r => uptoBulkEntry x + uptoBulkEntries r
def uptoBulkEntry {H : Type} : Lit × DataW H → Nat
  | (.string bytes, d) => bytes.length + uptoBulk d + 1
  | (_, d) => uptoBulk d + 1
 end
def uptoSmall : (H : Type) → List (DataW H) → Bool := fun _ ds => decide (uptoBulkAll ds ≤ 1048576)
def OpenSpec.upto (s : _root_.Go.ChangeSpec) : _root_.Go.OpenSpec := { _root_.Go.OpenSpec.ofChange s with cond := some uptoSmall }

/-- 'laws.FnStore', WHERE WHAT IT READS IS OF BULK AT MOST 1048576: true; the input reads as it did. -/
def fnStoreUptoRow : OpenClaim := { program := "ytlnpbfeihjfnjaagreatdoor", sum := "5bdbf1b3c609fc3ff6387fbf188a1db530ef22172d5197abc2c7bd17bbae294b", func := "loop.example/hagioscope/laws.FnStore", spec := "fnStore", inPlace := ["internal/abi.NoEscape"], unfollowed := true, recurses := true, named := ["loop.example/hagioscope/impl.errForm", "loop.example/hagioscope/impl.errThere", "loop.example/hagioscope/impl.errFull", "loop.example/hagioscope/impl.errNone"], ifaces := true, apart := false, laid := [("loop.example/hagioscope/impl.errForm", laid_loop_example_hagioscope_impl_errForm), ("loop.example/hagioscope/impl.errThere", laid_loop_example_hagioscope_impl_errThere), ("loop.example/hagioscope/impl.errNone", laid_loop_example_hagioscope_impl_errNone), ("loop.example/hagioscope/impl.errFull", laid_loop_example_hagioscope_impl_errFull)], narrowed := true }
def FnStoreUptoSaid : Prop := fnStoreUptoRow.holds Tryz.pinned (OpenSpec.upto fnStoreSpec)

/-- 'laws.FnStoreView', WHERE WHAT IT READS IS OF BULK AT MOST 1048576: true; the input reads as it did. -/
def fnStoreViewUptoRow : OpenClaim := { program := "ytlnpbfeihjfnjaagreatdoor", sum := "5bdbf1b3c609fc3ff6387fbf188a1db530ef22172d5197abc2c7bd17bbae294b", func := "loop.example/hagioscope/laws.FnStoreView", spec := "fnStoreView", inPlace := ["internal/abi.NoEscape"], unfollowed := true, recurses := true, named := ["loop.example/hagioscope/impl.errForm", "loop.example/hagioscope/impl.errThere", "loop.example/hagioscope/impl.errFull", "loop.example/hagioscope/impl.errNone"], ifaces := true, apart := false, laid := [("loop.example/hagioscope/impl.errForm", laid_loop_example_hagioscope_impl_errForm), ("loop.example/hagioscope/impl.errThere", laid_loop_example_hagioscope_impl_errThere), ("loop.example/hagioscope/impl.errNone", laid_loop_example_hagioscope_impl_errNone), ("loop.example/hagioscope/impl.errFull", laid_loop_example_hagioscope_impl_errFull)], narrowed := true }
def FnStoreViewUptoSaid : Prop := fnStoreViewUptoRow.holds Tryz.pinned (OpenSpec.upto fnStoreViewSpec)

/-- 'laws.FnSegApart', WHERE WHAT IT READS IS OF BULK AT MOST 1048576: true; the input reads as it did. -/
def fnSegApartUptoRow : OpenClaim := { program := "ytlnpbfeihjfnjaagreatdoor", sum := "5bdbf1b3c609fc3ff6387fbf188a1db530ef22172d5197abc2c7bd17bbae294b", func := "loop.example/hagioscope/laws.FnSegApart", spec := "fnSegApart", inPlace := ["internal/reflectlite.TypeOf", "internal/abi.NoEscape"], unfollowed := true, recurses := true, named := ["loop.example/hagioscope/impl.errForm", "loop.example/hagioscope/impl.errThere", "loop.example/hagioscope/impl.errFull", "loop.example/hagioscope/impl.errNone"], ifaces := true, apart := false, laid := [("loop.example/hagioscope/impl.errForm", laid_loop_example_hagioscope_impl_errForm), ("loop.example/hagioscope/impl.errThere", laid_loop_example_hagioscope_impl_errThere), ("loop.example/hagioscope/impl.errNone", laid_loop_example_hagioscope_impl_errNone), ("loop.example/hagioscope/impl.errFull", laid_loop_example_hagioscope_impl_errFull)], narrowed := true }
def FnSegApartUptoSaid : Prop := fnSegApartUptoRow.holds Tryz.pinned (OpenSpec.upto fnSegApartSpec)

/-- 'laws.FnStoreBent', WHERE WHAT IT READS IS OF BULK AT MOST 1048576: true; the input reads as it did. -/
def fnStoreBentUptoRow : OpenClaim := { program := "ytlnpbfeihjfnjaagreatdoor", sum := "5bdbf1b3c609fc3ff6387fbf188a1db530ef22172d5197abc2c7bd17bbae294b", func := "loop.example/hagioscope/laws.FnStoreBent", spec := "fnStoreBent", inPlace := ["internal/abi.NoEscape"], unfollowed := true, recurses := true, named := ["loop.example/hagioscope/impl.errForm", "loop.example/hagioscope/impl.errThere", "loop.example/hagioscope/impl.errFull", "loop.example/hagioscope/impl.errNone"], ifaces := true, apart := false, laid := [("loop.example/hagioscope/impl.errForm", laid_loop_example_hagioscope_impl_errForm), ("loop.example/hagioscope/impl.errThere", laid_loop_example_hagioscope_impl_errThere), ("loop.example/hagioscope/impl.errNone", laid_loop_example_hagioscope_impl_errNone), ("loop.example/hagioscope/impl.errFull", laid_loop_example_hagioscope_impl_errFull)], narrowed := true }
def FnStoreBentUptoSaid : Prop := fnStoreBentUptoRow.holds Tryz.pinned (OpenSpec.upto fnStoreBentSpec)

/-- 'laws.FnSegLong', WHERE WHAT IT READS IS OF BULK AT MOST 1048576: true; the input reads as it did. -/
def fnSegLongUptoRow : OpenClaim := { program := "ytlnpbfeihjfnjaagreatdoor", sum := "5bdbf1b3c609fc3ff6387fbf188a1db530ef22172d5197abc2c7bd17bbae294b", func := "loop.example/hagioscope/laws.FnSegLong", spec := "fnSegLong", inPlace := ["internal/reflectlite.TypeOf", "internal/abi.NoEscape"], unfollowed := true, recurses := true, named := ["loop.example/hagioscope/impl.errForm", "loop.example/hagioscope/impl.errThere", "loop.example/hagioscope/impl.errFull", "loop.example/hagioscope/impl.errNone"], ifaces := true, apart := false, laid := [("loop.example/hagioscope/impl.errForm", laid_loop_example_hagioscope_impl_errForm), ("loop.example/hagioscope/impl.errThere", laid_loop_example_hagioscope_impl_errThere), ("loop.example/hagioscope/impl.errNone", laid_loop_example_hagioscope_impl_errNone), ("loop.example/hagioscope/impl.errFull", laid_loop_example_hagioscope_impl_errFull)], narrowed := true }
def FnSegLongUptoSaid : Prop := fnSegLongUptoRow.holds Tryz.pinned (OpenSpec.upto fnSegLongSpec)

/-- 'laws.FnStoreLabels', WHERE WHAT IT READS IS OF BULK AT MOST 1048576: true; the input reads as it did. -/
def fnStoreLabelsUptoRow : OpenClaim := { program := "ytlnpbfeihjfnjaagreatdoor", sum := "5bdbf1b3c609fc3ff6387fbf188a1db530ef22172d5197abc2c7bd17bbae294b", func := "loop.example/hagioscope/laws.FnStoreLabels", spec := "fnStoreLabels", inPlace := ["internal/abi.NoEscape"], unfollowed := true, recurses := true, named := ["loop.example/hagioscope/impl.errForm", "loop.example/hagioscope/impl.errThere", "loop.example/hagioscope/impl.errFull", "loop.example/hagioscope/impl.errNone"], ifaces := true, apart := false, laid := [("loop.example/hagioscope/impl.errForm", laid_loop_example_hagioscope_impl_errForm), ("loop.example/hagioscope/impl.errThere", laid_loop_example_hagioscope_impl_errThere), ("loop.example/hagioscope/impl.errNone", laid_loop_example_hagioscope_impl_errNone), ("loop.example/hagioscope/impl.errFull", laid_loop_example_hagioscope_impl_errFull)], narrowed := true }
def FnStoreLabelsUptoSaid : Prop := fnStoreLabelsUptoRow.holds Tryz.pinned (OpenSpec.upto fnStoreLabelsSpec)

end Rows
end Go.Proofs.YtlnpbfeihjfnjaaGreatDoor
