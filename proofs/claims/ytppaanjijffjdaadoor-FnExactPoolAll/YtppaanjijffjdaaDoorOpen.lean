/-
  Arguments of the laws, opened: a node, an edge, an op, by value.
-/
import Derived.Test.YtppaanjijffjdaaDoorPlain
import Derived.Test.YtppaanjijffjdaaDoorRows
import Derived.WalkKit
import Derived.ProofKit
import Derived.OpenShut
import Derived.Deep.Strs
namespace Go.Proofs.YtppaanjijffjdaaDoor.Lab
open Go.RowKit Go.ChangeShapes Go.WideShapes
set_option linter.unusedVariables false
theorem in_of_wf {a : Int} (h : (Lit.int .i64 a).wf = true) : i64In a := by
  have := Go.bounds_i64 h
  exact ⟨by omega, by omega⟩
theorem Tryd.cellsInt : Tryd.prog.cellsOf 3 = 1 := by kernel_rfl
end Go.Proofs.YtppaanjijffjdaaDoor.Lab
