/-
  A reading of numbers, as a list.
-/
import Derived.Test.YtfnmalcjhblhhaaDoorRdg
import Derived.Test.YtfnmalcjhblhhaaDoorIts
namespace Go.Proofs.YtfnmalcjhblhhaaDoor.Lab
open Go.RowKit Go.ChangeShapes Go.WideShapes
set_option linter.unusedVariables false
set_option maxRecDepth 20000 in
theorem ints_of {H : Type} {enc : TypeId × Value → H} {W : World} {sp : Nat → Bool} {held : Bool} {fuel : Nat} {cs : List Value} {x : DataW H × List MemPlace} (hf : DataW.trod enc Tryd.prog W 0 sp held fuel 28 cs = some x) :
    ∃ v xs, cs = [v] ∧ RowAt 1 encI W v xs ∧ xs.length ≤ maxLen := by
  obtain ⟨v1, ns, h1, r1, g1, l1⟩ := row_of_reading (s := 1) (e2 := encI) (good := fun _ => True) (by decide) Tryd.underlying28 Tryd.cellsInt (fun n cs' y hl ht => by
      match cs', hl with
      | [c0], _ =>
        obtain ⟨l, e0, _, wl⟩ := DataW.trod_int Tryd.underlying3 ht
        simp at e0
        exact ⟨l, by rw [e0]; rfl, trivial⟩) hf
  exact ⟨v1, ns, h1, r1, l1⟩
theorem Tryd.cellsInts : Tryd.prog.cellsOf 28 = 1 := by kernel_rfl
end Go.Proofs.YtfnmalcjhblhhaaDoor.Lab
