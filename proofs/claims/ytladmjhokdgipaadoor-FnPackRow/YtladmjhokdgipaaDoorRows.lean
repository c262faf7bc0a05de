/-
  NARROWER THAN 'FOR EVERY INPUT', by the rows' own cells (each row's printed sentence says how): FnPackNum: ifaces, laid · FnPackRow: ifaces, laid · FnPackRowCut: ifaces, laid · FnExactNumAt: ifaces, laid.
  DERIVED. THE GIVEN ROWS OF THIS SEAT. 4 by the template 'for every input the law returns true; each argument reads behind the call as it read before'; 0 by the template 'total and deterministic' (their statements: YtladmjhokdgipaaDoorTotals.lean).
  GIVEN WITH THE SEED: the statements are not yours to turn. If you find one false, say at which input.
  Laid BY PROGRAM, IN A SANDBOX (cutbox-rows.mjs): the forced cells as the released guide's own fill.sh prints them over the translation fd53a69183f33c64… (all of the seat's roots in one cut). By AI agents, Wed Nov 11 2026. No macro, syntax, notation, axiom, sorry.
-/
import Derived.Test.YtladmjhokdgipaaDoorChecked
import GoSem.Claim
import GoSem.ClaimJoined
import GoSem.ClaimMapViews
import Derived.JoinedTies
import Derived.KernelRfl
namespace Go.Proofs.YtladmjhokdgipaaDoor
/- THE CELL 'sum', in the pinned program and in every row, IS THE sha256 OF THE DUMP (.gsa) THAT YtladmjhokdgipaaDoorProg.lean LOADS. Nothing in Lean hashes anything: it is a label: what it is worth is what the hold of that sum in a sandbox is worth. -/
noncomputable def Tryd.pinned : Pinned := { name := "ytladmjhokdgipaadoor", sum := "fd53a69183f33c646db98d3552d65bad888b2de41ebded90d6f7119e09632460", checked := Tryd.checked }
namespace Rows
def none {H : Type} : Left H := { results := [], args := [] }

/- WHAT THE LISTED PACKAGE-LEVEL VARIABLES READ AS WHEN THE CALL BEGINS. Each datum BY PROGRAM (the guide's laid-datum.mjs) off the statement by which the dump's own 'gosem.cut.vars' lays the variable. In a bare row this is a premise. The card (YtladmjhokdgipaaDoorCards.lean) ties it to the program's text. -/
def laid_loop_example_hagioscope_impl_errForm {H : Type} : DataW H := .iface "*errors.errorString" (.ptr (.agg [.lit (.string [102, 111, 114, 109])]))

/-- 'laws.FnPackNum': WHATEVER THE INPUT: true; the input reads as it did. -/
def fnPackNumSpec : ChangeSpec := { name := "fnPackNum", vars := ["loop.example/hagioscope/impl.errForm"], fn := fun _ => fun
  | [d1, d2, g1] => { results := [.lit (.bool true)], args := [d1, d2], vars := [g1] }
  | _ => none }
def fnPackNumRow : OpenClaim := { program := "ytladmjhokdgipaadoor", sum := "fd53a69183f33c646db98d3552d65bad888b2de41ebded90d6f7119e09632460", func := "loop.example/hagioscope/laws.FnPackNum", spec := "fnPackNum", named := ["loop.example/hagioscope/impl.errForm"], ifaces := true, apart := false, laid := [("loop.example/hagioscope/impl.errForm", laid_loop_example_hagioscope_impl_errForm)] }
def FnPackNumSaid : Prop := fnPackNumRow.holds Tryd.pinned (OpenSpec.ofChange fnPackNumSpec)

/-- ITS FALSE NEIGHBOUR: 'it returns false'. Refute it at one input. -/
def fnPackNumWrong : ChangeSpec := { name := "fnPackNum", vars := ["loop.example/hagioscope/impl.errForm"], fn := fun _ => fun
  | [d1, d2, g1] => { results := [.lit (.bool false)], args := [d1, d2], vars := [g1] }
  | _ => none }
def FnPackNumWrongFalsely : Prop := fnPackNumRow.holds Tryd.pinned (OpenSpec.ofChange fnPackNumWrong)

/-- 'laws.FnPackRow': WHATEVER THE INPUT: true; the input reads as it did. -/
def fnPackRowSpec : ChangeSpec := { name := "fnPackRow", vars := ["loop.example/hagioscope/impl.errForm"], fn := fun _ => fun
  | [d1, d2, g1] => { results := [.lit (.bool true)], args := [d1, d2], vars := [g1] }
  | _ => none }
def fnPackRowRow : OpenClaim := { program := "ytladmjhokdgipaadoor", sum := "fd53a69183f33c646db98d3552d65bad888b2de41ebded90d6f7119e09632460", func := "loop.example/hagioscope/laws.FnPackRow", spec := "fnPackRow", inPlace := ["internal/abi.NoEscape"], unfollowed := true, recurses := true, named := ["loop.example/hagioscope/impl.errForm"], ifaces := true, apart := false, laid := [("loop.example/hagioscope/impl.errForm", laid_loop_example_hagioscope_impl_errForm)] }
def FnPackRowSaid : Prop := fnPackRowRow.holds Tryd.pinned (OpenSpec.ofChange fnPackRowSpec)

/-- ITS FALSE NEIGHBOUR: 'it returns false'. Refute it at one input. -/
def fnPackRowWrong : ChangeSpec := { name := "fnPackRow", vars := ["loop.example/hagioscope/impl.errForm"], fn := fun _ => fun
  | [d1, d2, g1] => { results := [.lit (.bool false)], args := [d1, d2], vars := [g1] }
  | _ => none }
def FnPackRowWrongFalsely : Prop := fnPackRowRow.holds Tryd.pinned (OpenSpec.ofChange fnPackRowWrong)

/-- 'laws.FnPackRowCut': WHATEVER THE INPUT: true; the input reads as it did. -/
def fnPackRowCutSpec : ChangeSpec := { name := "fnPackRowCut", vars := ["loop.example/hagioscope/impl.errForm"], fn := fun _ => fun
  | [d1, d2, g1] => { results := [.lit (.bool true)], args := [d1, d2], vars := [g1] }
  | _ => none }
def fnPackRowCutRow : OpenClaim := { program := "ytladmjhokdgipaadoor", sum := "fd53a69183f33c646db98d3552d65bad888b2de41ebded90d6f7119e09632460", func := "loop.example/hagioscope/laws.FnPackRowCut", spec := "fnPackRowCut", inPlace := ["internal/abi.NoEscape"], unfollowed := true, recurses := true, named := ["loop.example/hagioscope/impl.errForm"], ifaces := true, apart := false, laid := [("loop.example/hagioscope/impl.errForm", laid_loop_example_hagioscope_impl_errForm)] }
def FnPackRowCutSaid : Prop := fnPackRowCutRow.holds Tryd.pinned (OpenSpec.ofChange fnPackRowCutSpec)

/-- ITS FALSE NEIGHBOUR: 'it returns false'. Refute it at one input. -/
def fnPackRowCutWrong : ChangeSpec := { name := "fnPackRowCut", vars := ["loop.example/hagioscope/impl.errForm"], fn := fun _ => fun
  | [d1, d2, g1] => { results := [.lit (.bool false)], args := [d1, d2], vars := [g1] }
  | _ => none }
def FnPackRowCutWrongFalsely : Prop := fnPackRowCutRow.holds Tryd.pinned (OpenSpec.ofChange fnPackRowCutWrong)

/-- 'laws.FnExactNumAt': WHATEVER THE INPUT: true; the input reads as it did. -/
def fnExactNumAtSpec : ChangeSpec := { name := "fnExactNumAt", vars := ["loop.example/hagioscope/impl.errForm"], fn := fun _ => fun
  | [d1, d2, g1] => { results := [.lit (.bool true)], args := [d1, d2], vars := [g1] }
  | _ => none }
def fnExactNumAtRow : OpenClaim := { program := "ytladmjhokdgipaadoor", sum := "fd53a69183f33c646db98d3552d65bad888b2de41ebded90d6f7119e09632460", func := "loop.example/hagioscope/laws.FnExactNumAt", spec := "fnExactNumAt", named := ["loop.example/hagioscope/impl.errForm"], ifaces := true, apart := false, laid := [("loop.example/hagioscope/impl.errForm", laid_loop_example_hagioscope_impl_errForm)] }
def FnExactNumAtSaid : Prop := fnExactNumAtRow.holds Tryd.pinned (OpenSpec.ofChange fnExactNumAtSpec)

/-- ITS FALSE NEIGHBOUR: 'it returns false'. Refute it at one input. -/
def fnExactNumAtWrong : ChangeSpec := { name := "fnExactNumAt", vars := ["loop.example/hagioscope/impl.errForm"], fn := fun _ => fun
  | [d1, d2, g1] => { results := [.lit (.bool false)], args := [d1, d2], vars := [g1] }
  | _ => none }
def FnExactNumAtWrongFalsely : Prop := fnExactNumAtRow.holds Tryd.pinned (OpenSpec.ofChange fnExactNumAtWrong)

/- THE SECOND FORM. 'bulk': how many values and letters a reading holds, each counted each time it is reached (what is shared counts as often as it is met; a slice's spare places count too). A statement '..UptoSaid' is the law's where the arguments, and the package variables that the reading takes, are together of bulk at most 1048576: NARROWER than '..Said'. Prove '..Said' where nothing that the law and all that it calls make is longer than what came in: it says more and counts as full. Else prove '..UptoSaid'. A law counts once. -/
mutual
def uptoBulk {H : Type} : DataW H → Nat
  | .lit (.string bytes) => bytes.length + 1
  | .lit _ => 1
  | .nil => 1
  | .ptr d => uptoBulk d + 1
  | .slice elems spare => uptoBulkAll elems + uptoBulkAll spare + 1
  | .agg parts => uptoBulkAll parts + 1
  | .iface _ d => uptoBulk d + 1
  | .map entries => uptoBulkEntries entries + 1
  | .held _ => 1
def uptoBulkAll {H : Type} : List (DataW H) → Nat
  | [] => 0
  | d :: r => uptoBulk d + uptoBulkAll r
def uptoBulkEntries {H : Type} : List (Lit × DataW H) → Nat
  | [] => 0
  | x :: r => uptoBulkEntry x + uptoBulkEntries r
def uptoBulkEntry {H : Type} : Lit × DataW H → Nat
  | (.string bytes, d) => bytes.length + uptoBulk d + 1
  | (_, d) => uptoBulk d + 1
 end
def uptoSmall : (H : Type) → List (DataW H) → Bool := fun _ ds => decide (uptoBulkAll ds ≤ 1048576)
def OpenSpec.upto (s : _root_.Go.ChangeSpec) : _root_.Go.OpenSpec := { _root_.Go.OpenSpec.ofChange s with cond := some uptoSmall }

/-- 'laws.FnPackNum', WHERE WHAT IT READS IS OF BULK AT MOST 1048576: true; the input reads as it did. -/
def fnPackNumUptoRow : OpenClaim := { program := "ytladmjhokdgipaadoor", sum := "fd53a69183f33c646db98d3552d65bad888b2de41ebded90d6f7119e09632460", func := "loop.example/hagioscope/laws.FnPackNum", spec := "fnPackNum", named := ["loop.example/hagioscope/impl.errForm"], ifaces := true, apart := false, laid := [("loop.example/hagioscope/impl.errForm", laid_loop_example_hagioscope_impl_errForm)], narrowed := true }
def FnPackNumUptoSaid : Prop := fnPackNumUptoRow.holds Tryd.pinned (OpenSpec.upto fnPackNumSpec)

/-- 'laws.FnPackRow', WHERE WHAT IT READS IS OF BULK AT MOST 1048576: true; the input reads as it did. -/
def fnPackRowUptoRow : OpenClaim := { program := "ytladmjhokdgipaadoor", sum := "fd53a69183f33c646db98d3552d65bad888b2de41ebded90d6f7119e09632460", func := "loop.example/hagioscope/laws.FnPackRow", spec := "fnPackRow", inPlace := ["internal/abi.NoEscape"], unfollowed := true, recurses := true, named := ["loop.example/hagioscope/impl.errForm"], ifaces := true, apart := false, laid := [("loop.example/hagioscope/impl.errForm", laid_loop_example_hagioscope_impl_errForm)], narrowed := true }
def FnPackRowUptoSaid : Prop := fnPackRowUptoRow.holds Tryd.pinned (OpenSpec.upto fnPackRowSpec)

/-- 'laws.FnPackRowCut', WHERE WHAT IT READS IS OF BULK AT MOST 1048576: true; the input reads as it did. -/
def fnPackRowCutUptoRow : OpenClaim := { program := "ytladmjhokdgipaadoor", sum := "fd53a69183f33c646db98d3552d65bad888b2de41ebded90d6f7119e09632460", func := "loop.example/hagioscope/laws.FnPackRowCut", spec := "fnPackRowCut", inPlace := ["internal/abi.NoEscape"], unfollowed := true, recurses := true, named := ["loop.example/hagioscope/impl.errForm"], ifaces := true, apart := false, laid := [("loop.example/hagioscope/impl.errForm", laid_loop_example_hagioscope_impl_errForm)], narrowed := true }
def FnPackRowCutUptoSaid : Prop := fnPackRowCutUptoRow.holds Tryd.pinned (OpenSpec.upto fnPackRowCutSpec)

/-- 'laws.FnExactNumAt', WHERE WHAT IT READS IS OF BULK AT MOST 1048576: true; the input reads as it did. -/
def fnExactNumAtUptoRow : OpenClaim := { program := "ytladmjhokdgipaadoor", sum := "fd53a69183f33c646db98d3552d65bad888b2de41ebded90d6f7119e09632460", func := "loop.example/hagioscope/laws.FnExactNumAt", spec := "fnExactNumAt", named := ["loop.example/hagioscope/impl.errForm"], ifaces := true, apart := false, laid := [("loop.example/hagioscope/impl.errForm", laid_loop_example_hagioscope_impl_errForm)], narrowed := true }
def FnExactNumAtUptoSaid : Prop := fnExactNumAtUptoRow.holds Tryd.pinned (OpenSpec.upto fnExactNumAtSpec)

end Rows
end Go.Proofs.YtladmjhokdgipaaDoor
