/-
  NARROWER THAN 'FOR EVERY INPUT', by the rows' own cells (each row's printed sentence says how): FnPoolNone: ifaces, laid · FnPoolHit: ifaces, laid · FnPoolOrder: ifaces, laid.
  DERIVED. THE GIVEN ROWS OF THIS SEAT. 3 by the template 'for every input the law returns true; each argument reads behind the call as it read before'; 0 by the template 'total and deterministic' (their statements: YtlfgcchnboaflabDoorTotals.lean).
  GIVEN WITH THE SEED: the statements are not yours to turn. If you find one false, say at which input.
  Laid BY PROGRAM, IN A SANDBOX (cutbox-rows.mjs): the forced cells as the released guide's own fill.sh prints them over the translation 667c9acaa2ccecf8… (all of the seat's roots in one cut). By AI agents, Wed Nov 11 2026. No macro, syntax, notation, axiom, sorry.
-/
import Derived.Test.YtlfgcchnboaflabDoorChecked
import GoSem.Claim
import GoSem.ClaimJoined
import GoSem.ClaimMapViews
import Derived.JoinedTies
import Derived.KernelRfl
namespace Go.Proofs.YtlfgcchnboaflabDoor
/- THE CELL 'sum', in the pinned program and in every row, IS THE sha256 OF THE DUMP (.gsa) THAT YtlfgcchnboaflabDoorProg.lean LOADS. Nothing in Lean hashes anything: it is a label: what it is worth is what the hold of that sum in a sandbox is worth. -/
noncomputable def Tryd.pinned : Pinned := { name := "ytlfgcchnboaflabdoor", sum := "667c9acaa2ccecf82284080fd200b428c3467e714ed49c60a8105f1c98f3032c", checked := Tryd.checked }
namespace Rows
def none {H : Type} : Left H := { results := [], args := [] }

/- WHAT THE LISTED PACKAGE-LEVEL VARIABLES READ AS WHEN THE CALL BEGINS. Each datum BY PROGRAM (the guide's laid-datum.mjs) off the statement by which the dump's own 'gosem.cut.vars' lays the variable. In a bare row this is a premise. The card (YtlfgcchnboaflabDoorCards.lean) ties it to the program's text. -/
def laid_loop_example_hagioscope_impl_errForm {H : Type} : DataW H := .iface "*errors.errorString" (.ptr (.agg [.lit (.string [102, 111, 114, 109])]))

/-- 'laws.FnPoolNone': WHATEVER THE INPUT: true; the input reads as it did. -/
def fnPoolNoneSpec : ChangeSpec := { name := "fnPoolNone", vars := ["loop.example/hagioscope/impl.errForm"], fn := fun _ => fun
  | [d, g1] => { results := [.lit (.bool true)], args := [d], vars := [g1] }
  | _ => none }
def fnPoolNoneRow : OpenClaim := { program := "ytlfgcchnboaflabdoor", sum := "667c9acaa2ccecf82284080fd200b428c3467e714ed49c60a8105f1c98f3032c", func := "loop.example/hagioscope/laws.FnPoolNone", spec := "fnPoolNone", unfollowed := true, recurses := true, named := ["loop.example/hagioscope/impl.errForm"], ifaces := true, plainKeys := false, apart := false, laid := [("loop.example/hagioscope/impl.errForm", laid_loop_example_hagioscope_impl_errForm)] }
def FnPoolNoneSaid : Prop := fnPoolNoneRow.holds Tryd.pinned (OpenSpec.ofChange fnPoolNoneSpec)

/-- ITS FALSE NEIGHBOUR: 'it returns false'. Refute it at one input. -/
def fnPoolNoneWrong : ChangeSpec := { name := "fnPoolNone", vars := ["loop.example/hagioscope/impl.errForm"], fn := fun _ => fun
  | [d, g1] => { results := [.lit (.bool false)], args := [d], vars := [g1] }
  | _ => none }
def FnPoolNoneWrongFalsely : Prop := fnPoolNoneRow.holds Tryd.pinned (OpenSpec.ofChange fnPoolNoneWrong)

/-- 'laws.FnPoolHit': WHATEVER THE INPUT: true; the input reads as it did. -/
def fnPoolHitSpec : ChangeSpec := { name := "fnPoolHit", vars := ["loop.example/hagioscope/impl.errForm"], fn := fun _ => fun
  | [d, g1] => { results := [.lit (.bool true)], args := [d], vars := [g1] }
  | _ => none }
def fnPoolHitRow : OpenClaim := { program := "ytlfgcchnboaflabdoor", sum := "667c9acaa2ccecf82284080fd200b428c3467e714ed49c60a8105f1c98f3032c", func := "loop.example/hagioscope/laws.FnPoolHit", spec := "fnPoolHit", unfollowed := true, recurses := true, named := ["loop.example/hagioscope/impl.errForm"], ifaces := true, plainKeys := false, apart := false, laid := [("loop.example/hagioscope/impl.errForm", laid_loop_example_hagioscope_impl_errForm)] }
def FnPoolHitSaid : Prop := fnPoolHitRow.holds Tryd.pinned (OpenSpec.ofChange fnPoolHitSpec)

/-- ITS FALSE NEIGHBOUR: 'it returns false'. Refute it at one input. -/
def fnPoolHitWrong : ChangeSpec := { name := "fnPoolHit", vars := ["loop.example/hagioscope/impl.errForm"], fn := fun _ => fun
  | [d, g1] => { results := [.lit (.bool false)], args := [d], vars := [g1] }
  | _ => none }
def FnPoolHitWrongFalsely : Prop := fnPoolHitRow.holds Tryd.pinned (OpenSpec.ofChange fnPoolHitWrong)

/-- 'laws.FnPoolOrder': WHATEVER THE INPUT: true; the input reads as it did. -/
def fnPoolOrderSpec : ChangeSpec := { name := "fnPoolOrder", vars := ["loop.example/hagioscope/impl.errForm"], fn := fun _ => fun
  | [d, g1] => { results := [.lit (.bool true)], args := [d], vars := [g1] }
  | _ => none }
def fnPoolOrderRow : OpenClaim := { program := "ytlfgcchnboaflabdoor", sum := "667c9acaa2ccecf82284080fd200b428c3467e714ed49c60a8105f1c98f3032c", func := "loop.example/hagioscope/laws.FnPoolOrder", spec := "fnPoolOrder", unfollowed := true, recurses := true, named := ["loop.example/hagioscope/impl.errForm"], ifaces := true, plainKeys := false, apart := false, laid := [("loop.example/hagioscope/impl.errForm", laid_loop_example_hagioscope_impl_errForm)] }
def FnPoolOrderSaid : Prop := fnPoolOrderRow.holds Tryd.pinned (OpenSpec.ofChange fnPoolOrderSpec)

/-- ITS FALSE NEIGHBOUR: 'it returns false'. Refute it at one input. -/
def fnPoolOrderWrong : ChangeSpec := { name := "fnPoolOrder", vars := ["loop.example/hagioscope/impl.errForm"], fn := fun _ => fun
  | [d, g1] => { results := [.lit (.bool false)], args := [d], vars := [g1] }
  | _ => none }
def FnPoolOrderWrongFalsely : Prop := fnPoolOrderRow.holds Tryd.pinned (OpenSpec.ofChange fnPoolOrderWrong)

/- THE SECOND FORM. 'bulk': how many values and letters a reading holds, each counted each time it is reached (what is shared counts as often as it is met; a slice's spare places count too). A statement '..UptoSaid' is the law's where the arguments, and the package variables that the reading takes, are together of bulk at most 1048576: NARROWER than '..Said'. Prove '..Said' where nothing that the law and all that it calls make is longer than what came in: it says more and counts as full. Else prove '..UptoSaid'. A law counts once. -/
mutual
def uptoBulk {H : Type} : DataW H → Nat
  | .lit (.string bytes) => bytes.length + 1
  | .lit _ => 1
  | .nil => 1
  | .ptr d => uptoBulk d + 1
  | .slice elems spare => uptoBulkAll elems + uptoBulkAll spare + 1
  | .agg parts => uptoBulkAll parts + 1
  | .iface _ d => uptoBulk d + 1
  | .map entries => uptoBulkEntries entries + 1
  | .held _ => 1
def uptoBulkAll {H : Type} : List (DataW H) → Nat
  | [] => 0
  | d :: r => uptoBulk d + uptoBulkAll r
def uptoBulkEntries {H : Type} : List (Lit × DataW H) → Nat
  | [] => 0
  | x :: r => uptoBulkEntry x + uptoBulkEntries r
def uptoBulkEntry {H : Type} : Lit × DataW H → Nat
  | (.string bytes, d) => bytes.length + uptoBulk d + 1
  | (_, d) => uptoBulk d + 1
 end
def uptoSmall : (H : Type) → List (DataW H) → Bool := fun _ ds => decide (uptoBulkAll ds ≤ 1048576)
def OpenSpec.upto (s : _root_.Go.ChangeSpec) : _root_.Go.OpenSpec := { _root_.Go.OpenSpec.ofChange s with cond := some uptoSmall }

/-- 'laws.FnPoolNone', WHERE WHAT IT READS IS OF BULK AT MOST 1048576: true; the input reads as it did. -/
def fnPoolNoneUptoRow : OpenClaim := { program := "ytlfgcchnboaflabdoor", sum := "667c9acaa2ccecf82284080fd200b428c3467e714ed49c60a8105f1c98f3032c", func := "loop.example/hagioscope/laws.FnPoolNone", spec := "fnPoolNone", unfollowed := true, recurses := true, named := ["loop.example/hagioscope/impl.errForm"], ifaces := true, plainKeys := false, apart := false, laid := [("loop.example/hagioscope/impl.errForm", laid_loop_example_hagioscope_impl_errForm)], narrowed := true }
def FnPoolNoneUptoSaid : Prop := fnPoolNoneUptoRow.holds Tryd.pinned (OpenSpec.upto fnPoolNoneSpec)

/-- 'laws.FnPoolHit', WHERE WHAT IT READS IS OF BULK AT MOST 1048576: true; the input reads as it did. -/
def fnPoolHitUptoRow : OpenClaim := { program := "ytlfgcchnboaflabdoor", sum := "667c9acaa2ccecf82284080fd200b428c3467e714ed49c60a8105f1c98f3032c", func := "loop.example/hagioscope/laws.FnPoolHit", spec := "fnPoolHit", unfollowed := true, recurses := true, named := ["loop.example/hagioscope/impl.errForm"], ifaces := true, plainKeys := false, apart := false, laid := [("loop.example/hagioscope/impl.errForm", laid_loop_example_hagioscope_impl_errForm)], narrowed := true }
def FnPoolHitUptoSaid : Prop := fnPoolHitUptoRow.holds Tryd.pinned (OpenSpec.upto fnPoolHitSpec)

/-- 'laws.FnPoolOrder', WHERE WHAT IT READS IS OF BULK AT MOST 1048576: true; the input reads as it did. -/
def fnPoolOrderUptoRow : OpenClaim := { program := "ytlfgcchnboaflabdoor", sum := "667c9acaa2ccecf82284080fd200b428c3467e714ed49c60a8105f1c98f3032c", func := "loop.example/hagioscope/laws.FnPoolOrder", spec := "fnPoolOrder", unfollowed := true, recurses := true, named := ["loop.example/hagioscope/impl.errForm"], ifaces := true, plainKeys := false, apart := false, laid := [("loop.example/hagioscope/impl.errForm", laid_loop_example_hagioscope_impl_errForm)], narrowed := true }
def FnPoolOrderUptoSaid : Prop := fnPoolOrderUptoRow.holds Tryd.pinned (OpenSpec.upto fnPoolOrderSpec)

end Rows
end Go.Proofs.YtlfgcchnboaflabDoor
