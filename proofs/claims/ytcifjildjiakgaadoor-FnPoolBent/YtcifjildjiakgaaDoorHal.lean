/-
  All the pages of a row used, one after another: (*impl.hand).useAll.
-/
import Derived.Test.YtcifjildjiakgaaDoorIpo
import Derived.Test.YtcifjildjiakgaaDoorApl
namespace Go.Proofs.YtcifjildjiakgaaDoor.Lab
open Go.RowKit Go.ChangeMaps
set_option linter.unusedVariables false
attribute [local go_sem ↓] Go.wp_at_zero Go.wp_at_succ
/-- How many were missed is told anew. -/
theorem ShelfAt.missed {w : World} {base S z : Nat} {m : Int} {xs : List (Int × Int)} (h : ShelfAt w base S z m xs) (m' : Int) : ShelfAt (w.setCell ⟨S, 3, none⟩ (.int .i64 m')) base S z m' xs := by
  obtain ⟨M, R, bs, pg, A, H, es, h1, h2, h3, h4, h5, h6⟩ := h
  refine ⟨M, R, bs, pg, A, H, es, ?_, h2, h3, h4.of (fun b hb => ?_), h5.of ?_, h6⟩
  · unfold HandAt
    rw [set_block _ h1]; rfl
  · rw [Below.heap_setCell _ _ _ _ ?_]
    intro e
    have hp := (h4.1 b hb).1
    unfold PlAt at hp
    unfold HandAt at h1
    have e' : b = S := e
    rw [e', h1] at hp
    simp at hp
  · rw [Below.heap_setCell _ _ _ _ ?_]
    show M ≠ S
    omega
theorem ShelfAt.cell {w : World} {base S z : Nat} {m : Int} {xs : List (Int × Int)} (h : ShelfAt w base S z m xs) : w.cell? ⟨S, 3, none⟩ = some (.int .i64 m) ∧ w.frozen? ⟨S, 3, none⟩ = false ∧ base ≤ S := by
  obtain ⟨M, R, bs, pg, A, H, es, h1, h2, h3⟩ := h
  unfold HandAt at h1
  exact ⟨by rw [cell_block h1]; rfl, free_block h1, h2⟩
/-- What useAll leaves. -/
def AllPost (base S z : Nat) (xs ls : List (Int × Int)) (w : World) (e : Ending) (w' : World) : Prop :=
  (ls.all (fun x => pageB x.1 x.2) = true ∧ e = .returned .nilIface ∧ ShelfAt w' base S z (allU z xs ls).2 (allU z xs ls).1 ∧ Below base w w') ∨ (ls.all (fun x => pageB x.1 x.2) = false ∧ ∃ t u, e = .returned (.iface t u) ∧ Below base w w')
theorem all_take {f : Int × Int → Bool} {ls : List (Int × Int)} {k : Nat} {x : Int × Int} (h : ls[k]? = some x) : (ls.take (k + 1)).all f = ((ls.take k).all f && f x) := by
  rw [List.take_add_one, h]; simp
end Go.Proofs.YtcifjildjiakgaaDoor.Lab
