/-
  Contract of impl.GraphOk: it says what a right graph is.
  What is seen of a graph: impl.GraphView and spec.GraphView. (Written by tools/mkvie.py.)
-/
import Derived.Test.YtlnpbfeihjfnjabGreatDoorQBof
import Derived.Test.YtlnpbfeihjfnjabGreatDoorQMrk
import Derived.Deep.AppendLies
import Derived.Deep.RegionHeld3
import Derived.Deep.RegionLaw
import Derived.Deep.DrawnRows
namespace Go.Proofs.YtlnpbfeihjfnjabGreatDoor.Lab
open Go.RowKit Go.ChangeMaps
set_option linter.unusedVariables false
/-- The four error variables hold errors. -/
def Errs (w : World) : Prop := ErrAt w 0 ∧ ErrAt w 1 ∧ ErrAt w 2 ∧ ErrAt w 3
theorem Errs.keep {w w' : World} (h : Errs w) (hb : Below w.heap.size w w') : Errs w' := ⟨h.1.keep hb, h.2.1.keep hb, h.2.2.1.keep hb, h.2.2.2.keep hb⟩
theorem bookOf (v1 v2 : Value) (ns : List Nd) (es : List Ed) (w : World) (h1 : RowAt 2 encNode w v1 ns) (h2 : RowAt 5 encEdge w v2 es) (l1 : ns.length ≤ 1048576) (l2 : es.length ≤ 1048576) (hE : Errs w) :
    ∃ t0 v0, Calls Tryz.prog 74 #[.agg #[v1, v2]] w fun e w' =>
      (GOk ns es ∧ Below w.heap.size w w' ∧ ∃ b mn me, e = .returned (.tuple #[.pointer (some ⟨b, 0, none⟩), .nilIface]) ∧ BookAt w' b mn me (nEnts ns) (eEnts es) (nCnt ns) (eCnt es) ∧ w.heap.size ≤ b ∧ w.heap.size ≤ mn ∧ w.heap.size ≤ me)
      ∨ (¬ GOk ns es ∧ e = .returned (.tuple #[.pointer none, .iface t0 v0]) ∧ Below w.heap.size w w') := by
  obtain ⟨a1, c1, rfl⟩ := h1.len
  obtain ⟨a2, c2, rfl⟩ := h2.len
  obtain ⟨⟨t0, v0, h0⟩, hE⟩ := hE
  exact ⟨t0, v0, bookOf_walk a1 a2 _ _ c1 c2 ns es w h1 h2 rfl rfl l1 l2 t0 v0 ⟨h0, hE⟩⟩
set_option maxHeartbeats 4000000 in
theorem impl_GraphOk (v1 v2 : Value) (ns : List Nd) (es : List Ed) (w : World) (h1 : RowAt 2 encNode w v1 ns) (h2 : RowAt 5 encEdge w v2 es) (l1 : ns.length ≤ 1048576) (l2 : es.length ≤ 1048576) (hE : Errs w) :
    Calls Tryz.prog 50 #[.agg #[v1, v2]] w fun e w' => e = .returned (.bool (gokB ns es)) ∧ Below w.heap.size w w' := by
  obtain ⟨a1, c1, rfl⟩ := h1.len
  obtain ⟨a2, c2, rfl⟩ := h2.len
  have b0 : Below w.heap.size w (w.alloc (.cells #[.slice a1 ns.length c1, .slice a2 es.length c2] 32)) := (Below.refl _ _).alloc (Nat.le_refl _) _
  obtain ⟨t0, v0, hC⟩ := bookOf _ _ ns es _ (h1.keep b0) (h2.keep b0) l1 l2 (hE.keep b0)
  go_enter Tryz.func50, Tryz.ntmps50
  go_wp2_with fail
  refine hC.mono ?_
  rintro e w1 (⟨hg, bel, b, mn, me, rfl, _⟩ | ⟨hg, rfl, bel⟩)
  · have HB : Hid (Below w.heap.size w w1) := b0.trans (bel.mono b0.size)
    clear bel hC
    go_wp2_with fail
    go_ret
    exact ⟨by rw [gokB_true.2 hg]; rfl, HB.out⟩
  · have HB : Hid (Below w.heap.size w w1) := b0.trans (bel.mono b0.size)
    clear bel hC
    go_wp2_with fail
    go_ret
    exact ⟨by rw [gokB_false.2 hg]; rfl, HB.out⟩
end Go.Proofs.YtlnpbfeihjfnjabGreatDoor.Lab
namespace Go.Proofs.YtlnpbfeihjfnjabGreatDoor.Lab
open Go.RowKit Go.ChangeMaps
set_option linter.unusedVariables false
attribute [local go_sem ↓] Go.wp_at_zero Go.wp_at_succ
/-- The nodes, the edges that one sees. -/
def viewN (c : Int) (ns : List Nd) : List Nd := ns.filter (fun x => underB x.1 c)
def viewE (c : Int) (es : List Ed) : List Ed := es.filter (fun x => underB x.1 c)
noncomputable def seenN (c : Int) (ns : List Nd) (es : List Ed) : List Nd := if gokB ns es then viewN c ns else []
noncomputable def seenE (c : Int) (ns : List Nd) (es : List Ed) : List Ed := if gokB ns es then viewE c es else []
theorem viewN_le (c : Int) (xs : List Nd) : (viewN c xs).length ≤ xs.length := List.length_filter_le _ _
theorem viewN_in {c : Int} {xs : List Nd} {k : Nat} {x : Nd} (h : xs[k]? = some x) (hu : underB x.1 c = true) : viewN c (xs.take (k + 1)) = viewN c (xs.take k) ++ [x] := by
  unfold viewN
  rw [List.take_add_one, h, List.filter_append]
  simp [hu]
theorem viewN_out {c : Int} {xs : List Nd} {k : Nat} {x : Nd} (h : xs[k]? = some x) (hu : underB x.1 c = false) : viewN c (xs.take (k + 1)) = viewN c (xs.take k) := by
  unfold viewN
  rw [List.take_add_one, h, List.filter_append]
  simp [hu]
/-- One more has been appended to a row that is kept in a struct. -/
theorem appNode {c : Int} {xs : List Nd} {k : Nat} {x : Nd} {w1 : World} {base : Nat} {v' : Value} (h : xs[k]? = some x) (hu : underB x.1 c = true)
    (ho : w1.ownsRow base 69 2 v' ((viewN c (xs.take k)).length + 1) ((viewN c (xs.take k)).flatMap encNode ++ encNode x)) : w1.ownsRow base 69 2 v' (viewN c (xs.take (k + 1))).length ((viewN c (xs.take (k + 1))).flatMap encNode) := by
  rw [viewN_in h hu]
  simpa [List.flatMap_append] using ho
theorem viewE_le (c : Int) (xs : List Ed) : (viewE c xs).length ≤ xs.length := List.length_filter_le _ _
theorem viewE_in {c : Int} {xs : List Ed} {k : Nat} {x : Ed} (h : xs[k]? = some x) (hu : underB x.1 c = true) : viewE c (xs.take (k + 1)) = viewE c (xs.take k) ++ [x] := by
  unfold viewE
  rw [List.take_add_one, h, List.filter_append]
  simp [hu]
theorem viewE_out {c : Int} {xs : List Ed} {k : Nat} {x : Ed} (h : xs[k]? = some x) (hu : underB x.1 c = false) : viewE c (xs.take (k + 1)) = viewE c (xs.take k) := by
  unfold viewE
  rw [List.take_add_one, h, List.filter_append]
  simp [hu]
/-- One more has been appended to a row that is kept in a struct. -/
theorem appEdge {c : Int} {xs : List Ed} {k : Nat} {x : Ed} {w1 : World} {base : Nat} {v' : Value} (h : xs[k]? = some x) (hu : underB x.1 c = true)
    (ho : w1.ownsRow base 72 5 v' ((viewE c (xs.take k)).length + 1) ((viewE c (xs.take k)).flatMap encEdge ++ encEdge x)) : w1.ownsRow base 72 5 v' (viewE c (xs.take (k + 1))).length ((viewE c (xs.take (k + 1))).flatMap encEdge) := by
  rw [viewE_in h hu]
  simpa [List.flatMap_append] using ho
theorem seen_len1 (c : Int) (ns : List Nd) (es : List Ed) : (seenN c ns es).length ≤ ns.length := by
  unfold seenN; split
  · exact viewN_le _ _
  · simp
theorem seen_len2 (c : Int) (ns : List Nd) (es : List Ed) : (seenE c ns es).length ≤ es.length := by
  unfold seenE; split
  · exact viewE_le _ _
  · simp
theorem new_at {w : World} {o : Obj} {S : Nat} (h : S = w.heap.size) : (w.alloc o).heap[S]? = some o := by subst h; exact new_block w o
/-- A block that another row's growing leaves as it is. -/
theorem grown_blk {w w' : World} {r : Option Nat} {S : Nat} (h : w.grownBy w' r) (hS : S < w.heap.size) (hne : r ≠ some S) : w'.heap[S]? = w.heap[S]? := h.block S hS (fun e => hne e.symm)
/-- A row that is kept in a cell of a struct has grown, and the new row has been stored there. -/
theorem app_step {base S j e size tg : Nat} {W0 wr w1 w3 : World} {v v' : Value} {cur : Array Value} {n : Nat} {xs : List Value} (hB : Below base W0 wr) (hb1 : Below wr.heap.size wr w1) (hbs : base ≤ wr.heap.size) (hblk : wr.heap[S]? = some (.cells cur tg (0, 0))) (hlow : ∀ g, v.ownBlock = some g → base ≤ g) (hS : base ≤ S) (hap : v.ownBlock ≠ some S) (hgrow : w1.grownBy w3 v.ownBlock) (hown : w3.ownsRow base e size v' n xs) (hap' : v'.ownBlock ≠ some S) :
    Below base W0 (w3.setCell ⟨S, j, none⟩ v') ∧ (w3.setCell ⟨S, j, none⟩ v').heap[S]? = some (.cells (cur.setIfInBounds j v') tg (0, 0)) ∧ (w3.setCell ⟨S, j, none⟩ v').ownsRow base e size v' n xs ∧ ∀ k, k < wr.heap.size → v.ownBlock ≠ some k → k ≠ S → (w3.setCell ⟨S, j, none⟩ v').heap[k]? = wr.heap[k]? := by
  have h1 := hb1.size
  have keep : ∀ k, k < wr.heap.size → v.ownBlock ≠ some k → w3.heap[k]? = wr.heap[k]? := fun k hk hne => (grown_blk hgrow (by omega) hne).trans (hb1.block k hk)
  refine ⟨((hB.trans (hb1.mono hbs)).grown hgrow (by omega) (fun g hg => hlow g hg)).setCell hS _, set_block _ ((keep S (lt_of_block hblk) hap).trans hblk), own_set hown hap' _, fun k hk hne hkS => ?_⟩
  rw [Below.heap_setCell _ _ _ _ hkS]
  exact keep k hk hne
theorem viewN_bad {c : Int} (h : okB c = false) (ns : List Nd) : viewN c ns = [] := by simp [viewN, underB, h]
theorem viewE_bad {c : Int} (h : okB c = false) (es : List Ed) : viewE c es = [] := by simp [viewE, underB, h]
end Go.Proofs.YtlnpbfeihjfnjabGreatDoor.Lab
