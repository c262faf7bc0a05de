/-
  What is drawn of graphs for FnStoreLabels, FnSegApart.
-/
import Derived.Test.YtlnpbfeihjfnjaaGreatDoorSlp
import Derived.Test.YtlnpbfeihjfnjaaGreatDoorDgr
namespace Go.Proofs.YtlnpbfeihjfnjaaGreatDoor.Lab
open Go.RowKit
set_option linter.unusedVariables false
theorem drawStoreOf (a : Option Addr) (len cap : Nat) (zs : List Int) (w00 : World) (h : CodeAt w00 a len cap zs) :
    Calls Tryz.prog 9 #[.slice a len cap] w00 fun e w' => ∃ u1 u2 ns es, e = .returned (.agg #[u1, u2]) ∧ GrAt w' u1 u2 ns es ∧ Below w00.heap.size w00 w' := by
  have h0 : CodeAt (w00.alloc (.cells #[.slice none 0 0, .slice none 0 0] 26)) a len cap zs := h.below (by go_grown)
  clear h
  go_enter Tryz.func9, Tryz.ntmps9
  go_wp2_with fail
  refine (drawGraphOk a len cap zs _ h0).mono ?_
  rintro e w ⟨u1, u2, ns, es, rfl, hg, hb1⟩
  clear h0
  simp only [World.size_alloc] at hb1
  have BK0 : Hid (w.heap[w00.heap.size]? = some (.cells #[.slice none 0 0, .slice none 0 0] 26 (0, 0))) := by show _ = _; rw [hb1.block _ (by omega)]; exact new_block _ _
  have HW : Hid (Below w00.heap.size w00 w) := Below.trans (by go_grown) (hb1.mono (by omega))
  obtain ⟨a13, c13, a23, c23, rfl, rfl⟩ := hg.form
  have HG : Hid (GrAt w (.slice a13 ns.length c13) (.slice a23 es.length c23) ns es) := hg
  clear hg hb1
  have c0_0 : w.cell? ⟨w00.heap.size, 0, none⟩ = some (.slice none 0 0) := by rw [cell_block BK0.out]; rfl
  have c0_1 : w.cell? ⟨w00.heap.size, 1, none⟩ = some (.slice none 0 0) := by rw [cell_block BK0.out]; rfl
  have l0 : w00.heap.size < w.heap.size := lt_of_block BK0.out
  have f0 : ∀ o, w.frozen? ⟨w00.heap.size, o, none⟩ = false := fun o => free_block BK0.out
  go_wp2_with fail
  clear c0_0 c0_1 l0 f0
  try simp only [Exit.inBlock, Exit.then]
  refine bodyPost_ret (v := .agg #[.slice a13 ns.length c13, .slice a23 es.length c23]) (by simp [*, cell_block BK0.out, results, Tryz.results9, go_sem]) rfl ?_
  exact ⟨_, _, ns, es, rfl, (HG.out.set BK0.out 0 _).set (set_block _ BK0.out) 1 _, (HW.out.setCell (Nat.le_refl _) _).setCell (Nat.le_refl _) _⟩
end Go.Proofs.YtlnpbfeihjfnjaaGreatDoor.Lab
