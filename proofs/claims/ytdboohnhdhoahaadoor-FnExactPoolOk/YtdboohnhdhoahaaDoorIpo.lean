/-
  impl.PoolOk, PoolUse, PoolAll, over a pool taken in hand.
-/
import Derived.Test.YtdboohnhdhoahaaDoorHnd
import Derived.Test.YtdboohnhdhoahaaDoorPlo
namespace Go.Proofs.YtdboohnhdhoahaaDoor.Lab
open Go.RowKit Go.ChangeMaps
set_option linter.unusedVariables false
set_option maxHeartbeats 1000000 in
theorem impl_PoolOk (z : Int) (v : Value) (xs : List (Int × Int)) (w : World) (h : RowAt 2 encPage w v xs) (hl : xs.length ≤ 1048576) (hf : FormAt w) :
    Calls Tryd.prog 9 #[.agg #[.int .i64 z, v]] w fun e w' => e = .returned (.bool (poolB z xs)) ∧ Below w.heap.size w w' := by
  have b0 : ∀ o, Below w.heap.size w (w.alloc o) := fun o => (Below.refl _ _).alloc (Nat.le_refl _) _
  have H : Hid (∀ o, RowAt 2 encPage (w.alloc o) v xs ∧ FormAt (w.alloc o)) := fun o => ⟨h.keep (b0 o), hf.keep (b0 o)⟩
  clear h hf
  go_enter Tryd.func9, Tryd.ntmps9
  go_wp2_with fail
  refine (handOf z v xs _ (H.out _).1 hl (H.out _).2).mono ?_
  rintro e w1 (⟨hp, S, zn, hz, rfl, sh, b1⟩ | ⟨hp, t, u, rfl, b1⟩)
  · have R : Hid (Below w.heap.size w w1 ∧ poolB z xs = true) := ⟨(b0 _).trans (b1.mono (by simp)), hp⟩
    clear sh b1 hp H b0
    go_wp2_with fail
    go_ret
    exact ⟨by rw [R.out.2]; rfl, R.out.1⟩
  · have R : Hid (Below w.heap.size w w1 ∧ poolB z xs = false) := ⟨(b0 _).trans (b1.mono (by simp)), hp⟩
    clear b1 hp H b0
    go_wp2_with fail
    go_ret
    exact ⟨by rw [R.out.2]; rfl, R.out.1⟩
end Go.Proofs.YtdboohnhdhoahaaDoor.Lab
