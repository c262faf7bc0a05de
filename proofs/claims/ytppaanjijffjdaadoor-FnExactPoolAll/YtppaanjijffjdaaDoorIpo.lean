/-
  impl.PoolOk, PoolUse, PoolAll, over a pool taken in hand.
-/
import Derived.Test.YtppaanjijffjdaaDoorHnd
import Derived.Test.YtppaanjijffjdaaDoorPlo
namespace Go.Proofs.YtppaanjijffjdaaDoor.Lab
open Go.RowKit Go.ChangeMaps
set_option linter.unusedVariables false
theorem new_ati {w : World} {o : Obj} {S : Nat} (h : S = w.heap.size) : (w.alloc o).heap[S]? = some o := by subst h; exact new_block w o
theorem usePg (base S z : Nat) (m : Int) (xs : List (Int × Int)) (l n : Int) (w : World) (h : ShelfAt w base S z m xs) (hz : z ≤ 1000) (hl : xs.length ≤ z) :
    Calls Tryd.prog 30 #[.pointer (some ⟨S, 0, none⟩), .agg #[.int .i64 l, .int .i64 n]] w fun e w' => e = .returned (.bool (decide ((l, n) ∈ xs))) ∧ ShelfAt w' base S z m (useL z xs (l, n)) ∧ Below base w w' ∧ Fr S w w' := by
  by_cases hx : (l, n) ∈ xs
  · rw [decide_eq_true hx]; exact use_hit base S z m xs l n w h hx hz hl
  · rw [decide_eq_false hx]; exact use_miss base S z m xs l n w h hx hz hl
end Go.Proofs.YtppaanjijffjdaaDoor.Lab
