/-
  Small facts that several texts lean on: pairs held against one another; worlds that grow but for one block.
-/
import Derived.Test.YtlnpbfeihjfnjaaGreatDoorRow
namespace Go.Proofs.YtlnpbfeihjfnjaaGreatDoor.Lab
open Go.RowKit
set_option linter.unusedVariables false
theorem dec_two (a b c d : Int) : eqB (a, b) (c, d) = (decide (a = c) && decide (b = d)) := by
  rw [Bool.eq_iff_iff]; simp [eqB]
theorem grown_refl (w : World) (r : Option Nat) : w.grownBy w r := ⟨rfl, rfl, rfl, Nat.le_refl _, fun _ _ _ => rfl⟩
theorem grown_set {w w1 : World} {g : Nat} (h : w.grownBy w1 (some g)) (i : Nat) (u : Value) : w.grownBy (w1.setCell ⟨g, i, none⟩ u) (some g) :=
  ⟨h.os, h.tape, h.output, by have := h.size; simpa using this, fun k hk hne => by rw [Below.heap_setCell _ _ _ _ (fun e => hne (by rw [e]))]; exact h.block k hk hne⟩
end Go.Proofs.YtlnpbfeihjfnjaaGreatDoor.Lab
