/-
  A pool that a call has answered, laid into a box that was made at any time of the region.
-/
import Derived.Test.YtcifjildjiakgaaDoorIpo
import Derived.Test.YtcifjildjiakgaaDoorSeu
namespace Go.Proofs.YtcifjildjiakgaaDoor.Lab
open Go.RowKit Go.ChangeMaps
set_option linter.unusedVariables false
theorem own_grownP {w w' : World} {base e size : Nat} {v : Value} {n : Nat} {xs : List Value} {r : Option Nat} (h : w.ownsRow base e size v n xs) (hg : w.grownBy w' r) (hne : ∀ k, v.ownBlock = some k → r ≠ some k) : w'.ownsRow base e size v n xs := by
  refine h.kept hg ?_
  cases hv : v.ownBlock with
  | none => exact .inl rfl
  | some k => exact .inr (fun e => hne k hv e.symm)
/-- The world Wf lies over w0; at C is a box with the pool (z, u); u is its own row. -/
def BoxU (w0 Wf : World) (C : Nat) (z : Int) (u : Value) (L : List (Int × Int)) : Prop :=
  Below w0.heap.size w0 Wf ∧ w0.heap.size ≤ C ∧ Wf.heap[C]? = some (.cells #[.int .i64 z, u] 25 (0, 0)) ∧ OwnPool Wf w0.heap.size u L ∧ ∀ k, u.ownBlock = some k → k ≠ C
theorem box_last {w0 wc : World} {b : Nat} {z : Int} {u : Value} {L : List (Int × Int)} (hs : Below w0.heap.size w0 wc) (og : OwnPool wc b u L) (hb : w0.heap.size ≤ b) : BoxU w0 (wc.alloc (.cells #[.int .i64 z, u] 25)) wc.heap.size z u L :=
  ⟨hs.alloc hs.size _, hs.size, new_block _ _, own_mono (og.keep ((Below.refl _ _).alloc (Nat.le_refl _) _)) hb, fun k hk => by have := (og.lt k hk).2; omega⟩
theorem box_set {w0 wc : World} {b C : Nat} {z : Int} {u : Value} {L : List (Int × Int)} (hs : Below w0.heap.size w0 wc) (og : OwnPool wc b u L) (hC : w0.heap.size ≤ C) (hb : C < b) (h : wc.heap[C]? = some (.cells #[.int .i64 0, .slice none 0 0] 25 (0, 0))) :
    BoxU w0 ((wc.setCell ⟨C, 0, none⟩ (.int .i64 z)).setCell ⟨C, 1, none⟩ u) C z u L := by
  have hn : ∀ k, u.ownBlock = some k → k ≠ C := fun k hk => by have := (og.lt k hk).1; omega
  refine ⟨(hs.setCell hC _).setCell hC _, hC, ?_, ?_, hn⟩
  · rw [set_block _ (set_block _ h)]; rfl
  · exact own_mono (own_set (own_set og (fun e => hn _ e rfl) _) (fun e => hn _ e rfl) _) (by omega)
end Go.Proofs.YtcifjildjiakgaaDoor.Lab
