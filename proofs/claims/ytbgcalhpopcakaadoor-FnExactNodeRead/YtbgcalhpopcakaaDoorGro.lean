/-
  Contracts of the laws' own functions on slices of structs, and of functions that hold two such slices against one another. (Written by tools/mkrows.py.)
-/
import Derived.Test.YtbgcalhpopcakaaDoorRow
import Derived.Test.YtbgcalhpopcakaaDoorNod
import Derived.Test.YtbgcalhpopcakaaDoorGrw
namespace Go.Proofs.YtbgcalhpopcakaaDoor.Lab
open Go.RowKit
set_option linter.unusedVariables false
theorem Tryd.infoInts : (Tryd.prog.info? 3).map (fun i => (i.zero, i.size, i.bytes)) = some (some (.int .i64 0), 1, 8) := by kernel_rfl
set_option maxHeartbeats 400000 in
theorem eqNode (l n l2 n2 : Int) (w : World) :
    Calls Tryd.prog 14 #[.agg #[.int .i64 l, .int .i64 n], .agg #[.int .i64 l2, .int .i64 n2]] w fun e w' => e = .returned (.bool (eqB (l, n) (l2, n2))) ∧ Below w.heap.size w w' := by
  rw [dec_two]
  by_cases h1 : l = l2
  · subst h1
    by_cases h2 : n = n2
    · subst h2
      go_enter Tryd.func14, Tryd.ntmps14
      go_wp2
      go_ret
      exact ⟨by simp, by go_grown⟩
    · have h3 : (n != n2) = true := by simpa using h2
      have HH : Hid (¬ n = n2) := h2
      clear h2
      go_enter Tryd.func14, Tryd.ntmps14
      go_wp2
      go_ret
      exact ⟨by simp [HH.out], by go_grown⟩
  · have h3 : (l != l2) = true := by simpa using h1
    have HH : Hid (¬ l = l2) := h1
    clear h1
    go_enter Tryd.func14, Tryd.ntmps14
    go_wp2
    go_ret
    exact ⟨by simp [HH.out], by go_grown⟩
def encNode (x : Int × Int) : List Value := [.int .i64 x.1, .int .i64 x.2]
theorem encNode_len (x : Int × Int) : (encNode x).length = 2 := rfl
theorem Tryd.infoNode : (Tryd.prog.info? 24).map (fun i => (i.zero, i.size, i.bytes)) = some (some (.agg #[.int .i64 0, .int .i64 0]), 2, 16) := by kernel_rfl
end Go.Proofs.YtbgcalhpopcakaaDoor.Lab
