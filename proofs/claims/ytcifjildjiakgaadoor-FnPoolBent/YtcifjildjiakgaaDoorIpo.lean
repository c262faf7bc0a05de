/-
  impl.PoolOk, PoolUse, PoolAll, over a pool taken in hand.
-/
import Derived.Test.YtcifjildjiakgaaDoorHnd
import Derived.Test.YtcifjildjiakgaaDoorPlo
namespace Go.Proofs.YtcifjildjiakgaaDoor.Lab
open Go.RowKit Go.ChangeMaps
set_option linter.unusedVariables false
set_option maxHeartbeats 1000000 in
theorem impl_PoolOk (z : Int) (v : Value) (xs : List (Int × Int)) (w : World) (h : RowAt 2 encPage w v xs) (hl : xs.length ≤ 1048576) (hf : FormAt w) :
    Calls Tryd.prog 8 #[.agg #[.int .i64 z, v]] w fun e w' => e = .returned (.bool (poolB z xs)) ∧ Below w.heap.size w w' := by
  have b0 : ∀ o, Below w.heap.size w (w.alloc o) := fun o => (Below.refl _ _).alloc (Nat.le_refl _) _
  have H : Hid (∀ o, RowAt 2 encPage (w.alloc o) v xs ∧ FormAt (w.alloc o)) := fun o => ⟨h.keep (b0 o), hf.keep (b0 o)⟩
  clear h hf
  go_enter Tryd.func8, Tryd.ntmps8
  go_wp2_with fail
  refine (handOf z v xs _ (H.out _).1 hl (H.out _).2).mono ?_
  rintro e w1 (⟨hp, S, zn, hz, rfl, sh, b1⟩ | ⟨hp, t, u, rfl, b1⟩)
  · have R : Hid (Below w.heap.size w w1 ∧ poolB z xs = true) := ⟨(b0 _).trans (b1.mono (by simp)), hp⟩
    clear sh b1 hp H b0
    go_wp2_with fail
    go_ret
    exact ⟨by rw [R.out.2]; rfl, R.out.1⟩
  · have R : Hid (Below w.heap.size w w1 ∧ poolB z xs = false) := ⟨(b0 _).trans (b1.mono (by simp)), hp⟩
    clear b1 hp H b0
    go_wp2_with fail
    go_ret
    exact ⟨by rw [R.out.2]; rfl, R.out.1⟩
theorem new_ati {w : World} {o : Obj} {S : Nat} (h : S = w.heap.size) : (w.alloc o).heap[S]? = some o := by subst h; exact new_block w o
theorem usePg (base S z : Nat) (m : Int) (xs : List (Int × Int)) (l n : Int) (w : World) (h : ShelfAt w base S z m xs) (hz : z ≤ 1000) (hl : xs.length ≤ z) :
    Calls Tryd.prog 25 #[.pointer (some ⟨S, 0, none⟩), .agg #[.int .i64 l, .int .i64 n]] w fun e w' => e = .returned (.bool (decide ((l, n) ∈ xs))) ∧ ShelfAt w' base S z m (useL z xs (l, n)) ∧ Below base w w' ∧ Fr S w w' := by
  by_cases hx : (l, n) ∈ xs
  · rw [decide_eq_true hx]; exact use_hit base S z m xs l n w h hx hz hl
  · rw [decide_eq_false hx]; exact use_miss base S z m xs l n w h hx hz hl
end Go.Proofs.YtcifjildjiakgaaDoor.Lab
