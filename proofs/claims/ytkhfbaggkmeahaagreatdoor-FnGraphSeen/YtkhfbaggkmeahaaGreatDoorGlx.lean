/-
  More of what the laws of graphs ask: labels; little lemmas.
-/
import Derived.Test.YtkhfbaggkmeahaaGreatDoorGlw
namespace Go.Proofs.YtkhfbaggkmeahaaGreatDoor.Lab
open Go.RowKit
set_option linter.unusedVariables false
theorem lok (c : Int) (w : World) : Calls Tryz.prog 69 #[.int .i64 c] w fun e w' => e = .returned (.bool (okB c)) ∧ Below w.heap.size w w' :=
  (impl_LabelOk c w).mono fun e w' ⟨h, hw⟩ => ⟨h, by rw [hw]; exact Below.refl _ _⟩
theorem lund (a c : Int) (b : Bool) (hb : underB a c = b) (w : World) : Calls Tryz.prog 18 #[.int .i64 a, .int .i64 c] w fun e w' => e = .returned (.bool b) ∧ Below w.heap.size w w' :=
  (impl_LabelUnder a c w).mono fun e w' ⟨h, hw⟩ => ⟨by rw [h, hb], by rw [hw]; exact Below.refl _ _⟩
end Go.Proofs.YtkhfbaggkmeahaaGreatDoor.Lab
