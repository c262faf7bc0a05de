/-
  Is it among the first: for loops that look.
-/
import Derived.Test.YtkhfbaggkmeahabGreatDoorGdt
namespace Go.Proofs.YtkhfbaggkmeahabGreatDoor.Lab
open Go.RowKit
set_option linter.unusedVariables false
/-- Is it among the first j. -/
def anyK {α : Type} [DecidableEq α] (xs : List α) (x : α) (j : Nat) : Bool := (xs.take j).any (fun y => eqB y x)
theorem anyK_zero {α : Type} [DecidableEq α] (xs : List α) (x : α) : anyK xs x 0 = false := by simp [anyK]
theorem anyK_step {α : Type} [DecidableEq α] {xs : List α} {x y : α} {j : Nat} (h : xs[j]? = some y) : anyK xs x (j + 1) = (anyK xs x j || eqB y x) := by
  unfold anyK
  rw [List.take_add_one, h, List.any_append]
  simp
theorem anyK_all {α : Type} [DecidableEq α] {xs : List α} {x : α} {j : Nat} (h : xs.length ≤ j) : anyK xs x j = decide (x ∈ xs) := by
  unfold anyK
  rw [List.take_of_length_le h, Bool.eq_iff_iff, List.any_eq_true]
  simp [eqB]
end Go.Proofs.YtkhfbaggkmeahabGreatDoor.Lab
