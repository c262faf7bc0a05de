/-
  What is seen of a graph: impl.GraphView and spec.GraphView. (Written by tools/mkvie.py.)
-/
import Derived.Test.YtlnpbfeihjfnjabGreatDoorMrk
import Derived.Test.YtlnpbfeihjfnjabGreatDoorGki
import Derived.Deep.AppendLies
import Derived.Deep.RegionHeld3
import Derived.Deep.RegionLaw
import Derived.Deep.DrawnRows
namespace Go.Proofs.YtlnpbfeihjfnjabGreatDoor.Lab
open Go.RowKit Go.ChangeMaps
set_option linter.unusedVariables false
attribute [local go_sem ↓] Go.wp_at_zero Go.wp_at_succ
/-- The nodes, the edges that one sees. -/
def viewN (c : Int) (ns : List Nd) : List Nd := ns.filter (fun x => underB x.1 c)
def viewE (c : Int) (es : List Ed) : List Ed := es.filter (fun x => underB x.1 c)
noncomputable def seenN (c : Int) (ns : List Nd) (es : List Ed) : List Nd := if gokB ns es then viewN c ns else []
noncomputable def seenE (c : Int) (ns : List Nd) (es : List Ed) : List Ed := if gokB ns es then viewE c es else []
theorem viewN_le (c : Int) (xs : List Nd) : (viewN c xs).length ≤ xs.length := List.length_filter_le _ _
theorem viewN_in {c : Int} {xs : List Nd} {k : Nat} {x : Nd} (h : xs[k]? = some x) (hu : underB x.1 c = true) : viewN c (xs.take (k + 1)) = viewN c (xs.take k) ++ [x] := by
  unfold viewN
  rw [List.take_add_one, h, List.filter_append]
  simp [hu]
theorem viewN_out {c : Int} {xs : List Nd} {k : Nat} {x : Nd} (h : xs[k]? = some x) (hu : underB x.1 c = false) : viewN c (xs.take (k + 1)) = viewN c (xs.take k) := by
  unfold viewN
  rw [List.take_add_one, h, List.filter_append]
  simp [hu]
/-- One more has been appended to a row that is kept in a struct. -/
theorem appNode {c : Int} {xs : List Nd} {k : Nat} {x : Nd} {w1 : World} {base : Nat} {v' : Value} (h : xs[k]? = some x) (hu : underB x.1 c = true)
    (ho : w1.ownsRow base 69 2 v' ((viewN c (xs.take k)).length + 1) ((viewN c (xs.take k)).flatMap encNode ++ encNode x)) : w1.ownsRow base 69 2 v' (viewN c (xs.take (k + 1))).length ((viewN c (xs.take (k + 1))).flatMap encNode) := by
  rw [viewN_in h hu]
  simpa [List.flatMap_append] using ho
theorem viewE_le (c : Int) (xs : List Ed) : (viewE c xs).length ≤ xs.length := List.length_filter_le _ _
theorem viewE_in {c : Int} {xs : List Ed} {k : Nat} {x : Ed} (h : xs[k]? = some x) (hu : underB x.1 c = true) : viewE c (xs.take (k + 1)) = viewE c (xs.take k) ++ [x] := by
  unfold viewE
  rw [List.take_add_one, h, List.filter_append]
  simp [hu]
theorem viewE_out {c : Int} {xs : List Ed} {k : Nat} {x : Ed} (h : xs[k]? = some x) (hu : underB x.1 c = false) : viewE c (xs.take (k + 1)) = viewE c (xs.take k) := by
  unfold viewE
  rw [List.take_add_one, h, List.filter_append]
  simp [hu]
/-- One more has been appended to a row that is kept in a struct. -/
theorem appEdge {c : Int} {xs : List Ed} {k : Nat} {x : Ed} {w1 : World} {base : Nat} {v' : Value} (h : xs[k]? = some x) (hu : underB x.1 c = true)
    (ho : w1.ownsRow base 72 5 v' ((viewE c (xs.take k)).length + 1) ((viewE c (xs.take k)).flatMap encEdge ++ encEdge x)) : w1.ownsRow base 72 5 v' (viewE c (xs.take (k + 1))).length ((viewE c (xs.take (k + 1))).flatMap encEdge) := by
  rw [viewE_in h hu]
  simpa [List.flatMap_append] using ho
theorem seen_len1 (c : Int) (ns : List Nd) (es : List Ed) : (seenN c ns es).length ≤ ns.length := by
  unfold seenN; split
  · exact viewN_le _ _
  · simp
theorem seen_len2 (c : Int) (ns : List Nd) (es : List Ed) : (seenE c ns es).length ≤ es.length := by
  unfold seenE; split
  · exact viewE_le _ _
  · simp
theorem new_at {w : World} {o : Obj} {S : Nat} (h : S = w.heap.size) : (w.alloc o).heap[S]? = some o := by subst h; exact new_block w o
/-- A block that another row's growing leaves as it is. -/
theorem grown_blk {w w' : World} {r : Option Nat} {S : Nat} (h : w.grownBy w' r) (hS : S < w.heap.size) (hne : r ≠ some S) : w'.heap[S]? = w.heap[S]? := h.block S hS (fun e => hne e.symm)
/-- A row that is kept in a cell of a struct has grown, and the new row has been stored there. -/
theorem app_step {base S j e size tg : Nat} {W0 wr w1 w3 : World} {v v' : Value} {cur : Array Value} {n : Nat} {xs : List Value} (hB : Below base W0 wr) (hb1 : Below wr.heap.size wr w1) (hbs : base ≤ wr.heap.size) (hblk : wr.heap[S]? = some (.cells cur tg (0, 0))) (hlow : ∀ g, v.ownBlock = some g → base ≤ g) (hS : base ≤ S) (hap : v.ownBlock ≠ some S) (hgrow : w1.grownBy w3 v.ownBlock) (hown : w3.ownsRow base e size v' n xs) (hap' : v'.ownBlock ≠ some S) :
    Below base W0 (w3.setCell ⟨S, j, none⟩ v') ∧ (w3.setCell ⟨S, j, none⟩ v').heap[S]? = some (.cells (cur.setIfInBounds j v') tg (0, 0)) ∧ (w3.setCell ⟨S, j, none⟩ v').ownsRow base e size v' n xs ∧ ∀ k, k < wr.heap.size → v.ownBlock ≠ some k → k ≠ S → (w3.setCell ⟨S, j, none⟩ v').heap[k]? = wr.heap[k]? := by
  have h1 := hb1.size
  have keep : ∀ k, k < wr.heap.size → v.ownBlock ≠ some k → w3.heap[k]? = wr.heap[k]? := fun k hk hne => (grown_blk hgrow (by omega) hne).trans (hb1.block k hk)
  refine ⟨((hB.trans (hb1.mono hbs)).grown hgrow (by omega) (fun g hg => hlow g hg)).setCell hS _, set_block _ ((keep S (lt_of_block hblk) hap).trans hblk), own_set hown hap' _, fun k hk hne hkS => ?_⟩
  rw [Below.heap_setCell _ _ _ _ hkS]
  exact keep k hk hne
theorem viewN_bad {c : Int} (h : okB c = false) (ns : List Nd) : viewN c ns = [] := by simp [viewN, underB, h]
theorem viewE_bad {c : Int} (h : okB c = false) (es : List Ed) : viewE c es = [] := by simp [viewE, underB, h]
end Go.Proofs.YtlnpbfeihjfnjabGreatDoor.Lab
