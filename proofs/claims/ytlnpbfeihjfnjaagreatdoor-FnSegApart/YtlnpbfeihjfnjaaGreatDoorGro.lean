/-
  Contracts of the laws' own functions on slices of structs, and of functions that hold two such slices against one another. (Written by tools/mkrows.py.)
-/
import Derived.Test.YtlnpbfeihjfnjaaGreatDoorRow
import Derived.Test.YtlnpbfeihjfnjaaGreatDoorNod
import Derived.Test.YtlnpbfeihjfnjaaGreatDoorGrw
namespace Go.Proofs.YtlnpbfeihjfnjaaGreatDoor.Lab
open Go.RowKit
set_option linter.unusedVariables false
theorem Tryz.infoInts : (Tryz.prog.info? 3).map (fun i => (i.zero, i.size, i.bytes)) = some (some (.int .i64 0), 1, 8) := by kernel_rfl
def encNode (x : Int × Int) : List Value := [.int .i64 x.1, .int .i64 x.2]
theorem encNode_len (x : Int × Int) : (encNode x).length = 2 := rfl
theorem Tryz.infoNode : (Tryz.prog.info? 46).map (fun i => (i.zero, i.size, i.bytes)) = some (some (.agg #[.int .i64 0, .int .i64 0]), 2, 16) := by kernel_rfl
def encEdge (x : Int × Int × Int × Int × Int) : List Value := [.int .i64 x.1, .int .i64 x.2.1, .int .i64 x.2.2.1, .int .i64 x.2.2.2.1, .int .i64 x.2.2.2.2]
theorem encEdge_len (x : Int × Int × Int × Int × Int) : (encEdge x).length = 5 := rfl
theorem Tryz.infoEdge : (Tryz.prog.info? 48).map (fun i => (i.zero, i.size, i.bytes)) = some (some (.agg #[.int .i64 0, .int .i64 0, .int .i64 0, .int .i64 0, .int .i64 0]), 5, 40) := by kernel_rfl
end Go.Proofs.YtlnpbfeihjfnjaaGreatDoor.Lab
