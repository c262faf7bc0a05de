/-
  Contracts of the laws' own functions on slices of structs, and of functions that hold two such slices against one another. (Written by tools/mkrows.py.)
-/
import Derived.Test.YtcinjkpedigffaaDoorRow
import Derived.Test.YtcinjkpedigffaaDoorNod
import Derived.Test.YtcinjkpedigffaaDoorGrw
namespace Go.Proofs.YtcinjkpedigffaaDoor.Lab
open Go.RowKit
set_option linter.unusedVariables false
theorem Tryd.infoInts : (Tryd.prog.info? 3).map (fun i => (i.zero, i.size, i.bytes)) = some (some (.int .i64 0), 1, 8) := by kernel_rfl
def encNode (x : Int × Int) : List Value := [.int .i64 x.1, .int .i64 x.2]
theorem encNode_len (x : Int × Int) : (encNode x).length = 2 := rfl
theorem Tryd.infoNode : (Tryd.prog.info? 35).map (fun i => (i.zero, i.size, i.bytes)) = some (some (.agg #[.int .i64 0, .int .i64 0]), 2, 16) := by kernel_rfl
def encEdge (x : Int × Int × Int × Int × Int) : List Value := [.int .i64 x.1, .int .i64 x.2.1, .int .i64 x.2.2.1, .int .i64 x.2.2.2.1, .int .i64 x.2.2.2.2]
theorem encEdge_len (x : Int × Int × Int × Int × Int) : (encEdge x).length = 5 := rfl
theorem Tryd.infoEdge : (Tryd.prog.info? 46).map (fun i => (i.zero, i.size, i.bytes)) = some (some (.agg #[.int .i64 0, .int .i64 0, .int .i64 0, .int .i64 0, .int .i64 0]), 5, 40) := by kernel_rfl
end Go.Proofs.YtcinjkpedigffaaDoor.Lab
