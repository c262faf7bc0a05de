/-
  A shelf's pages, told as a pool.
-/
import Derived.Test.YtcifjildjiakgaaDoorShl
import Derived.Deep.AppendLies
import Derived.Deep.RegionHeld3
import Derived.Deep.RegionLaw
import Derived.Deep.DrawnRows
import Derived.Laws.OwnMore
namespace Go.Proofs.YtcifjildjiakgaaDoor.Lab
open Go.RowKit Go.ChangeMaps
set_option linter.unusedVariables false
attribute [local go_sem ↓] Go.wp_at_zero Go.wp_at_succ
theorem new_at {w : World} {o : Obj} {S : Nat} (h : S = w.heap.size) : (w.alloc o).heap[S]? = some o := by subst h; exact new_block w o
/-- A block that another row's growing leaves as it is. -/
theorem grown_blk {w w' : World} {r : Option Nat} {S : Nat} (h : w.grownBy w' r) (hS : S < w.heap.size) (hne : r ≠ some S) : w'.heap[S]? = w.heap[S]? := h.block S hS (fun e => hne e.symm)
/-- A row that is kept in a cell of a struct has grown, and the new row has been stored there. -/
theorem app_step {base S j e size tg : Nat} {W0 wr w1 w3 : World} {v v' : Value} {cur : Array Value} {n : Nat} {xs : List Value} (hB : Below base W0 wr) (hb1 : Below wr.heap.size wr w1) (hbs : base ≤ wr.heap.size) (hblk : wr.heap[S]? = some (.cells cur tg (0, 0))) (hlow : ∀ g, v.ownBlock = some g → base ≤ g) (hS : base ≤ S) (hap : v.ownBlock ≠ some S) (hgrow : w1.grownBy w3 v.ownBlock) (hown : w3.ownsRow base e size v' n xs) (hap' : v'.ownBlock ≠ some S) :
    Below base W0 (w3.setCell ⟨S, j, none⟩ v') ∧ (w3.setCell ⟨S, j, none⟩ v').heap[S]? = some (.cells (cur.setIfInBounds j v') tg (0, 0)) ∧ (w3.setCell ⟨S, j, none⟩ v').ownsRow base e size v' n xs ∧ ∀ k, k < wr.heap.size → v.ownBlock ≠ some k → k ≠ S → (w3.setCell ⟨S, j, none⟩ v').heap[k]? = wr.heap[k]? := by
  have h1 := hb1.size
  have keep : ∀ k, k < wr.heap.size → v.ownBlock ≠ some k → w3.heap[k]? = wr.heap[k]? := fun k hk hne => (grown_blk hgrow (by omega) hne).trans (hb1.block k hk)
  refine ⟨((hB.trans (hb1.mono hbs)).grown hgrow (by omega) (fun g hg => hlow g hg)).setCell hS _, set_block _ ((keep S (lt_of_block hblk) hap).trans hblk), own_set hown hap' _, fun k hk hne hkS => ?_⟩
  rw [Below.heap_setCell _ _ _ _ hkS]
  exact keep k hk hne
theorem Linked.nth {A H : Nat → Nat} : ∀ {L : List Nat} {p z : Nat}, Linked A H p L z → ∀ (k a b : Nat), (p :: L)[k]? = some a → (L ++ [z])[k]? = some b → H a = b
  | [], p, z, h, k, a, b, ha, hb => by
    cases k with
    | zero => simp at ha hb; rw [← ha, ← hb]; exact h.1
    | succ k => simp at ha
  | c :: L, p, z, h, k, a, b, ha, hb => by
    cases k with
    | zero => simp at ha hb; rw [← ha, ← hb]; exact h.1
    | succ k =>
      simp only [List.getElem?_cons_succ, List.cons_append] at ha hb
      exact Linked.nth h.2.2 k a b ha hb
end Go.Proofs.YtcifjildjiakgaaDoor.Lab
