/-
  Pools the same as themselves; the laws' own small lemmas.
-/
import Derived.Test.YtcifjildjiakgaaDoorIpa
import Derived.Test.YtcifjildjiakgaaDoorSaa
import Derived.Test.YtcifjildjiakgaaDoorStk
namespace Go.Proofs.YtcifjildjiakgaaDoor.Lab
open Go.RowKit
set_option linter.unusedVariables false
theorem impl_PoolSame_same (z : Int) (v u : Value) (ns : List (Int × Int)) (w : World) (h1 : RowAt 2 encPage w v ns) (h3 : RowAt 2 encPage w u ns) (l1 : ns.length ≤ 1048576) :
    Calls Tryd.prog 6 #[.agg #[.int .i64 z, v], .agg #[.int .i64 z, u]] w fun e w' => e = .returned (.bool true) ∧ Below w.heap.size w w' :=
  (impl_PoolSame z z v u ns ns w h1 h3 l1 l1).mono fun e w' h => ⟨by rw [h.1, eqB_true.2 rfl]; simp, h.2⟩
theorem paN_le (z : Int) (xs ls : List (Int × Int)) : paN z xs ls ≤ ls.length := by
  unfold paN
  split
  · exact allU_miss _ _ _
  · omega
theorem rowNil (w : World) : RowAt 2 encPage w (.slice none 0 0) [] := .inl ⟨rfl, _, _, rfl⟩
theorem rowCNil (w : World) : RowC w (.slice none 0 0) [] := ⟨rowNil w, none, 0, rfl, Nat.le_refl _⟩
end Go.Proofs.YtcifjildjiakgaaDoor.Lab
