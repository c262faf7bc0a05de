/-
  NARROWER THAN 'FOR EVERY INPUT', by the rows' own cells (each row's printed sentence says how): FnGraphView: ifaces, laid · FnGraphNear: ifaces, laid · FnGraphBent: ifaces, laid · FnGraphEmpty: ifaces, laid · FnGraphUnion: ifaces, laid.
  DERIVED. THE GIVEN ROWS OF THIS SEAT. 5 by the template 'for every input the law returns true; each argument reads behind the call as it read before'; 0 by the template 'total and deterministic' (their statements: YtcinjkpedigffaaDoorTotals.lean).
  GIVEN WITH THE SEED: the statements are not yours to turn. If you find one false, say at which input.
  Laid BY PROGRAM, IN A SANDBOX (cutbox-rows.mjs): the forced cells as the released guide's own fill.sh prints them over the translation ab515586f9763d08… (all of the seat's roots in one cut). By AI agents, Wed Nov 11 2026. No macro, syntax, notation, axiom, sorry.
-/
import Derived.Test.YtcinjkpedigffaaDoorChecked
import GoSem.Claim
import GoSem.ClaimJoined
import GoSem.ClaimMapViews
import Derived.JoinedTies
import Derived.KernelRfl
namespace Go.Proofs.YtcinjkpedigffaaDoor
/- THE CELL 'sum', in the pinned program and in every row, IS THE sha256 OF THE DUMP (.gsa) THAT YtcinjkpedigffaaDoorProg.lean LOADS. Nothing in Lean hashes anything: it is a label: what it is worth is what the hold of that sum in a sandbox is worth. -/
noncomputable def Tryd.pinned : Pinned := { name := "ytcinjkpedigffaadoor", sum := "ab515586f9763d089bb173dfa4404c7f585067a642bb203022c8b15c35d24c58", checked := Tryd.checked }
namespace Rows
def none {H : Type} : Left H := { results := [], args := [] }

/- WHAT THE LISTED PACKAGE-LEVEL VARIABLES READ AS WHEN THE CALL BEGINS. Each datum BY PROGRAM (the guide's laid-datum.mjs) off the statement by which the dump's own 'gosem.cut.vars' lays the variable. In a bare row this is a premise. The card (YtcinjkpedigffaaDoorCards.lean) ties it to the program's text. -/
def laid_loop_example_hagioscope_impl_errForm {H : Type} : DataW H := .iface "*errors.errorString" (.ptr (.agg [.lit (.string [102, 111, 114, 109])]))
def laid_loop_example_hagioscope_impl_errThere {H : Type} : DataW H := .iface "*errors.errorString" (.ptr (.agg [.lit (.string [116, 104, 101, 114, 101])]))
def laid_loop_example_hagioscope_impl_errNone {H : Type} : DataW H := .iface "*errors.errorString" (.ptr (.agg [.lit (.string [110, 111, 110, 101])]))
def laid_loop_example_hagioscope_impl_errFull {H : Type} : DataW H := .iface "*errors.errorString" (.ptr (.agg [.lit (.string [102, 117, 108, 108])]))

/-- 'laws.FnGraphView': WHATEVER THE INPUT: true; the input reads as it did. -/
def fnGraphViewSpec : ChangeSpec := { name := "fnGraphView", vars := ["loop.example/hagioscope/impl.errForm", "loop.example/hagioscope/impl.errThere", "loop.example/hagioscope/impl.errFull", "loop.example/hagioscope/impl.errNone"], fn := fun _ => fun
  | [d1, d2, g1, g2, g3, g4] => { results := [.lit (.bool true)], args := [d1, d2], vars := [g1, g2, g3, g4] }
  | _ => none }
def fnGraphViewRow : OpenClaim := { program := "ytcinjkpedigffaadoor", sum := "ab515586f9763d089bb173dfa4404c7f585067a642bb203022c8b15c35d24c58", func := "loop.example/hagioscope/laws.FnGraphView", spec := "fnGraphView", named := ["loop.example/hagioscope/impl.errForm", "loop.example/hagioscope/impl.errThere", "loop.example/hagioscope/impl.errFull", "loop.example/hagioscope/impl.errNone"], ifaces := true, apart := false, laid := [("loop.example/hagioscope/impl.errForm", laid_loop_example_hagioscope_impl_errForm), ("loop.example/hagioscope/impl.errThere", laid_loop_example_hagioscope_impl_errThere), ("loop.example/hagioscope/impl.errNone", laid_loop_example_hagioscope_impl_errNone), ("loop.example/hagioscope/impl.errFull", laid_loop_example_hagioscope_impl_errFull)] }
def FnGraphViewSaid : Prop := fnGraphViewRow.holds Tryd.pinned (OpenSpec.ofChange fnGraphViewSpec)

/-- ITS FALSE NEIGHBOUR: 'it returns false'. Refute it at one input. -/
def fnGraphViewWrong : ChangeSpec := { name := "fnGraphView", vars := ["loop.example/hagioscope/impl.errForm", "loop.example/hagioscope/impl.errThere", "loop.example/hagioscope/impl.errFull", "loop.example/hagioscope/impl.errNone"], fn := fun _ => fun
  | [d1, d2, g1, g2, g3, g4] => { results := [.lit (.bool false)], args := [d1, d2], vars := [g1, g2, g3, g4] }
  | _ => none }
def FnGraphViewWrongFalsely : Prop := fnGraphViewRow.holds Tryd.pinned (OpenSpec.ofChange fnGraphViewWrong)

/-- 'laws.FnGraphNear': WHATEVER THE INPUT: true; the input reads as it did. -/
def fnGraphNearSpec : ChangeSpec := { name := "fnGraphNear", vars := ["loop.example/hagioscope/impl.errForm", "loop.example/hagioscope/impl.errThere", "loop.example/hagioscope/impl.errFull", "loop.example/hagioscope/impl.errNone"], fn := fun _ => fun
  | [d1, d2, g1, g2, g3, g4] => { results := [.lit (.bool true)], args := [d1, d2], vars := [g1, g2, g3, g4] }
  | _ => none }
def fnGraphNearRow : OpenClaim := { program := "ytcinjkpedigffaadoor", sum := "ab515586f9763d089bb173dfa4404c7f585067a642bb203022c8b15c35d24c58", func := "loop.example/hagioscope/laws.FnGraphNear", spec := "fnGraphNear", unfollowed := true, recurses := true, named := ["loop.example/hagioscope/impl.errForm", "loop.example/hagioscope/impl.errThere", "loop.example/hagioscope/impl.errFull", "loop.example/hagioscope/impl.errNone"], ifaces := true, apart := false, laid := [("loop.example/hagioscope/impl.errForm", laid_loop_example_hagioscope_impl_errForm), ("loop.example/hagioscope/impl.errThere", laid_loop_example_hagioscope_impl_errThere), ("loop.example/hagioscope/impl.errNone", laid_loop_example_hagioscope_impl_errNone), ("loop.example/hagioscope/impl.errFull", laid_loop_example_hagioscope_impl_errFull)] }
def FnGraphNearSaid : Prop := fnGraphNearRow.holds Tryd.pinned (OpenSpec.ofChange fnGraphNearSpec)

/-- ITS FALSE NEIGHBOUR: 'it returns false'. Refute it at one input. -/
def fnGraphNearWrong : ChangeSpec := { name := "fnGraphNear", vars := ["loop.example/hagioscope/impl.errForm", "loop.example/hagioscope/impl.errThere", "loop.example/hagioscope/impl.errFull", "loop.example/hagioscope/impl.errNone"], fn := fun _ => fun
  | [d1, d2, g1, g2, g3, g4] => { results := [.lit (.bool false)], args := [d1, d2], vars := [g1, g2, g3, g4] }
  | _ => none }
def FnGraphNearWrongFalsely : Prop := fnGraphNearRow.holds Tryd.pinned (OpenSpec.ofChange fnGraphNearWrong)

/-- 'laws.FnGraphBent': WHATEVER THE INPUT: true; the input reads as it did. -/
def fnGraphBentSpec : ChangeSpec := { name := "fnGraphBent", vars := ["loop.example/hagioscope/impl.errForm", "loop.example/hagioscope/impl.errThere", "loop.example/hagioscope/impl.errFull", "loop.example/hagioscope/impl.errNone"], fn := fun _ => fun
  | [d, g1, g2, g3, g4] => { results := [.lit (.bool true)], args := [d], vars := [g1, g2, g3, g4] }
  | _ => none }
def fnGraphBentRow : OpenClaim := { program := "ytcinjkpedigffaadoor", sum := "ab515586f9763d089bb173dfa4404c7f585067a642bb203022c8b15c35d24c58", func := "loop.example/hagioscope/laws.FnGraphBent", spec := "fnGraphBent", unfollowed := true, recurses := true, named := ["loop.example/hagioscope/impl.errForm", "loop.example/hagioscope/impl.errThere", "loop.example/hagioscope/impl.errFull", "loop.example/hagioscope/impl.errNone"], ifaces := true, apart := false, laid := [("loop.example/hagioscope/impl.errForm", laid_loop_example_hagioscope_impl_errForm), ("loop.example/hagioscope/impl.errThere", laid_loop_example_hagioscope_impl_errThere), ("loop.example/hagioscope/impl.errNone", laid_loop_example_hagioscope_impl_errNone), ("loop.example/hagioscope/impl.errFull", laid_loop_example_hagioscope_impl_errFull)] }
def FnGraphBentSaid : Prop := fnGraphBentRow.holds Tryd.pinned (OpenSpec.ofChange fnGraphBentSpec)

/-- ITS FALSE NEIGHBOUR: 'it returns false'. Refute it at one input. -/
def fnGraphBentWrong : ChangeSpec := { name := "fnGraphBent", vars := ["loop.example/hagioscope/impl.errForm", "loop.example/hagioscope/impl.errThere", "loop.example/hagioscope/impl.errFull", "loop.example/hagioscope/impl.errNone"], fn := fun _ => fun
  | [d, g1, g2, g3, g4] => { results := [.lit (.bool false)], args := [d], vars := [g1, g2, g3, g4] }
  | _ => none }
def FnGraphBentWrongFalsely : Prop := fnGraphBentRow.holds Tryd.pinned (OpenSpec.ofChange fnGraphBentWrong)

/-- 'laws.FnGraphEmpty': WHATEVER THE INPUT: true; the input reads as it did. -/
def fnGraphEmptySpec : ChangeSpec := { name := "fnGraphEmpty", vars := ["loop.example/hagioscope/impl.errForm", "loop.example/hagioscope/impl.errThere", "loop.example/hagioscope/impl.errFull", "loop.example/hagioscope/impl.errNone"], fn := fun _ => fun
  | [d, g1, g2, g3, g4] => { results := [.lit (.bool true)], args := [d], vars := [g1, g2, g3, g4] }
  | _ => none }
def fnGraphEmptyRow : OpenClaim := { program := "ytcinjkpedigffaadoor", sum := "ab515586f9763d089bb173dfa4404c7f585067a642bb203022c8b15c35d24c58", func := "loop.example/hagioscope/laws.FnGraphEmpty", spec := "fnGraphEmpty", named := ["loop.example/hagioscope/impl.errForm", "loop.example/hagioscope/impl.errThere", "loop.example/hagioscope/impl.errFull", "loop.example/hagioscope/impl.errNone"], ifaces := true, apart := false, laid := [("loop.example/hagioscope/impl.errForm", laid_loop_example_hagioscope_impl_errForm), ("loop.example/hagioscope/impl.errThere", laid_loop_example_hagioscope_impl_errThere), ("loop.example/hagioscope/impl.errNone", laid_loop_example_hagioscope_impl_errNone), ("loop.example/hagioscope/impl.errFull", laid_loop_example_hagioscope_impl_errFull)] }
def FnGraphEmptySaid : Prop := fnGraphEmptyRow.holds Tryd.pinned (OpenSpec.ofChange fnGraphEmptySpec)

/-- ITS FALSE NEIGHBOUR: 'it returns false'. Refute it at one input. -/
def fnGraphEmptyWrong : ChangeSpec := { name := "fnGraphEmpty", vars := ["loop.example/hagioscope/impl.errForm", "loop.example/hagioscope/impl.errThere", "loop.example/hagioscope/impl.errFull", "loop.example/hagioscope/impl.errNone"], fn := fun _ => fun
  | [d, g1, g2, g3, g4] => { results := [.lit (.bool false)], args := [d], vars := [g1, g2, g3, g4] }
  | _ => none }
def FnGraphEmptyWrongFalsely : Prop := fnGraphEmptyRow.holds Tryd.pinned (OpenSpec.ofChange fnGraphEmptyWrong)

/-- 'laws.FnGraphUnion': WHATEVER THE INPUT: true; the input reads as it did. -/
def fnGraphUnionSpec : ChangeSpec := { name := "fnGraphUnion", vars := ["loop.example/hagioscope/impl.errForm", "loop.example/hagioscope/impl.errThere", "loop.example/hagioscope/impl.errFull", "loop.example/hagioscope/impl.errNone"], fn := fun _ => fun
  | [d1, d2, g1, g2, g3, g4] => { results := [.lit (.bool true)], args := [d1, d2], vars := [g1, g2, g3, g4] }
  | _ => none }
def fnGraphUnionRow : OpenClaim := { program := "ytcinjkpedigffaadoor", sum := "ab515586f9763d089bb173dfa4404c7f585067a642bb203022c8b15c35d24c58", func := "loop.example/hagioscope/laws.FnGraphUnion", spec := "fnGraphUnion", named := ["loop.example/hagioscope/impl.errForm", "loop.example/hagioscope/impl.errThere", "loop.example/hagioscope/impl.errFull", "loop.example/hagioscope/impl.errNone"], ifaces := true, apart := false, laid := [("loop.example/hagioscope/impl.errForm", laid_loop_example_hagioscope_impl_errForm), ("loop.example/hagioscope/impl.errThere", laid_loop_example_hagioscope_impl_errThere), ("loop.example/hagioscope/impl.errNone", laid_loop_example_hagioscope_impl_errNone), ("loop.example/hagioscope/impl.errFull", laid_loop_example_hagioscope_impl_errFull)] }
def FnGraphUnionSaid : Prop := fnGraphUnionRow.holds Tryd.pinned (OpenSpec.ofChange fnGraphUnionSpec)

/-- ITS FALSE NEIGHBOUR: 'it returns false'. Refute it at one input. -/
def fnGraphUnionWrong : ChangeSpec := { name := "fnGraphUnion", vars := ["loop.example/hagioscope/impl.errForm", "loop.example/hagioscope/impl.errThere", "loop.example/hagioscope/impl.errFull", "loop.example/hagioscope/impl.errNone"], fn := fun _ => fun
  | [d1, d2, g1, g2, g3, g4] => { results := [.lit (.bool false)], args := [d1, d2], vars := [g1, g2, g3, g4] }
  | _ => none }
def FnGraphUnionWrongFalsely : Prop := fnGraphUnionRow.holds Tryd.pinned (OpenSpec.ofChange fnGraphUnionWrong)

/- THE SECOND FORM. 'bulk': how many values and letters a reading holds, each counted each time it is reached (what is shared counts as often as it is met; a slice's spare places count too). A statement '..UptoSaid' is the law's where the arguments, and the package variables that the reading takes, are together of bulk at most 1048576: NARROWER than '..Said'. Prove '..Said' where nothing that the law and all that it calls make is longer than what came in: it says more and counts as full. Else prove '..UptoSaid'. A law counts once. -/
mutual
def uptoBulk {H : Type} : DataW H → Nat
  | .lit (.string bytes) => bytes.length + 1
  | .lit _ => 1
  | .nil => 1
  | .ptr d => uptoBulk d + 1
  | .slice elems spare => uptoBulkAll elems + uptoBulkAll spare + 1
  | .agg parts => uptoBulkAll parts + 1
  | .iface _ d => uptoBulk d + 1
  | .map entries => uptoBulkEntries entries + 1
  | .held _ => 1
def uptoBulkAll {H : Type} : List (DataW H) → Nat
  | [] => 0
  | d :: r => uptoBulk d + uptoBulkAll r
def uptoBulkEntries {H : Type} : List (Lit × DataW H) → Nat
  | [] => 0
  | x :: r => uptoBulkEntry x + uptoBulkEntries r
def uptoBulkEntry {H : Type} : Lit × DataW H → Nat
  | (.string bytes, d) => bytes.length + uptoBulk d + 1
  | (_, d) => uptoBulk d + 1
 end
def uptoSmall : (H : Type) → List (DataW H) → Bool := fun _ ds => decide (uptoBulkAll ds ≤ 1048576)
def OpenSpec.upto (s : _root_.Go.ChangeSpec) : _root_.Go.OpenSpec := { _root_.Go.OpenSpec.ofChange s with cond := some uptoSmall }

/-- 'laws.FnGraphView', WHERE WHAT IT READS IS OF BULK AT MOST 1048576: true; the input reads as it did. -/
def fnGraphViewUptoRow : OpenClaim := { program := "ytcinjkpedigffaadoor", sum := "ab515586f9763d089bb173dfa4404c7f585067a642bb203022c8b15c35d24c58", func := "loop.example/hagioscope/laws.FnGraphView", spec := "fnGraphView", named := ["loop.example/hagioscope/impl.errForm", "loop.example/hagioscope/impl.errThere", "loop.example/hagioscope/impl.errFull", "loop.example/hagioscope/impl.errNone"], ifaces := true, apart := false, laid := [("loop.example/hagioscope/impl.errForm", laid_loop_example_hagioscope_impl_errForm), ("loop.example/hagioscope/impl.errThere", laid_loop_example_hagioscope_impl_errThere), ("loop.example/hagioscope/impl.errNone", laid_loop_example_hagioscope_impl_errNone), ("loop.example/hagioscope/impl.errFull", laid_loop_example_hagioscope_impl_errFull)], narrowed := true }
def FnGraphViewUptoSaid : Prop := fnGraphViewUptoRow.holds Tryd.pinned (OpenSpec.upto fnGraphViewSpec)

/-- 'laws.FnGraphNear', WHERE WHAT IT READS IS OF BULK AT MOST 1048576: true; the input reads as it did. -/
def fnGraphNearUptoRow : OpenClaim := { program := "ytcinjkpedigffaadoor", sum := "ab515586f9763d089bb173dfa4404c7f585067a642bb203022c8b15c35d24c58", func := "loop.example/hagioscope/laws.FnGraphNear", spec := "fnGraphNear", unfollowed := true, recurses := true, named := ["loop.example/hagioscope/impl.errForm", "loop.example/hagioscope/impl.errThere", "loop.example/hagioscope/impl.errFull", "loop.example/hagioscope/impl.errNone"], ifaces := true, apart := false, laid := [("loop.example/hagioscope/impl.errForm", laid_loop_example_hagioscope_impl_errForm), ("loop.example/hagioscope/impl.errThere", laid_loop_example_hagioscope_impl_errThere), ("loop.example/hagioscope/impl.errNone", laid_loop_example_hagioscope_impl_errNone), ("loop.example/hagioscope/impl.errFull", laid_loop_example_hagioscope_impl_errFull)], narrowed := true }
def FnGraphNearUptoSaid : Prop := fnGraphNearUptoRow.holds Tryd.pinned (OpenSpec.upto fnGraphNearSpec)

/-- 'laws.FnGraphBent', WHERE WHAT IT READS IS OF BULK AT MOST 1048576: true; the input reads as it did. -/
def fnGraphBentUptoRow : OpenClaim := { program := "ytcinjkpedigffaadoor", sum := "ab515586f9763d089bb173dfa4404c7f585067a642bb203022c8b15c35d24c58", func := "loop.example/hagioscope/laws.FnGraphBent", spec := "fnGraphBent", unfollowed := true, recurses := true, named := ["loop.example/hagioscope/impl.errForm", "loop.example/hagioscope/impl.errThere", "loop.example/hagioscope/impl.errFull", "loop.example/hagioscope/impl.errNone"], ifaces := true, apart := false, laid := [("loop.example/hagioscope/impl.errForm", laid_loop_example_hagioscope_impl_errForm), ("loop.example/hagioscope/impl.errThere", laid_loop_example_hagioscope_impl_errThere), ("loop.example/hagioscope/impl.errNone", laid_loop_example_hagioscope_impl_errNone), ("loop.example/hagioscope/impl.errFull", laid_loop_example_hagioscope_impl_errFull)], narrowed := true }
def FnGraphBentUptoSaid : Prop := fnGraphBentUptoRow.holds Tryd.pinned (OpenSpec.upto fnGraphBentSpec)

/-- 'laws.FnGraphEmpty', WHERE WHAT IT READS IS OF BULK AT MOST 1048576: true; the input reads as it did. -/
def fnGraphEmptyUptoRow : OpenClaim := { program := "ytcinjkpedigffaadoor", sum := "ab515586f9763d089bb173dfa4404c7f585067a642bb203022c8b15c35d24c58", func := "loop.example/hagioscope/laws.FnGraphEmpty", spec := "fnGraphEmpty", named := ["loop.example/hagioscope/impl.errForm", "loop.example/hagioscope/impl.errThere", "loop.example/hagioscope/impl.errFull", "loop.example/hagioscope/impl.errNone"], ifaces := true, apart := false, laid := [("loop.example/hagioscope/impl.errForm", laid_loop_example_hagioscope_impl_errForm), ("loop.example/hagioscope/impl.errThere", laid_loop_example_hagioscope_impl_errThere), ("loop.example/hagioscope/impl.errNone", laid_loop_example_hagioscope_impl_errNone), ("loop.example/hagioscope/impl.errFull", laid_loop_example_hagioscope_impl_errFull)], narrowed := true }
def FnGraphEmptyUptoSaid : Prop := fnGraphEmptyUptoRow.holds Tryd.pinned (OpenSpec.upto fnGraphEmptySpec)

/-- 'laws.FnGraphUnion', WHERE WHAT IT READS IS OF BULK AT MOST 1048576: true; the input reads as it did. -/
def fnGraphUnionUptoRow : OpenClaim := { program := "ytcinjkpedigffaadoor", sum := "ab515586f9763d089bb173dfa4404c7f585067a642bb203022c8b15c35d24c58", func := "loop.example/hagioscope/laws.FnGraphUnion", spec := "fnGraphUnion", named := ["loop.example/hagioscope/impl.errForm", "loop.example/hagioscope/impl.errThere", "loop.example/hagioscope/impl.errFull", "loop.example/hagioscope/impl.errNone"], ifaces := true, apart := false, laid := [("loop.example/hagioscope/impl.errForm", laid_loop_example_hagioscope_impl_errForm), ("loop.example/hagioscope/impl.errThere", laid_loop_example_hagioscope_impl_errThere), ("loop.example/hagioscope/impl.errNone", laid_loop_example_hagioscope_impl_errNone), ("loop.example/hagioscope/impl.errFull", laid_loop_example_hagioscope_impl_errFull)], narrowed := true }
def FnGraphUnionUptoSaid : Prop := fnGraphUnionUptoRow.holds Tryd.pinned (OpenSpec.upto fnGraphUnionSpec)

end Rows
end Go.Proofs.YtcinjkpedigffaaDoor
