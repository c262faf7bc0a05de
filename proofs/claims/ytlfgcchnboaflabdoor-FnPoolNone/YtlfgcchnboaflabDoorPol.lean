/-
  Pools by value: the laws' own functions on them, and PoolSame of both. (Written by tools/mkpag.py.)
-/
import Derived.Test.YtlfgcchnboaflabDoorPag
namespace Go.Proofs.YtlfgcchnboaflabDoor.Lab
open Go.RowKit
set_option linter.unusedVariables false
theorem gr_new {w w' : World} {o : Obj} {r : Option Nat} (h : (w.alloc o).grownBy w' r) : w.grownBy w' r :=
  ⟨h.os, h.tape, h.output, by have := h.size; simp at this; omega, fun k hk hne => (h.block k (by simp; omega) hne).trans (by show (w.heap.push o)[k]? = w.heap[k]?; rw [Array.getElem?_push]; simp; omega)⟩
/-- A pool's pages that the call owns. -/
def OwnPool (w : World) (base : Nat) (v : Value) (ns : List (Int × Int)) : Prop := w.ownsRow base 33 2 v ns.length (ns.flatMap encPage)
theorem OwnPool.keep {w w' : World} {base : Nat} {v : Value} {ns : List (Int × Int)} (h : OwnPool w base v ns) (hb : Below w.heap.size w w') : OwnPool w' base v ns := own_keep h hb
theorem OwnPool.row {w : World} {base : Nat} {v : Value} {ns : List (Int × Int)} (h : OwnPool w base v ns) : RowAt 2 encPage w v ns := row_of_own encPage_len (by decide) h
theorem OwnPool.form {w : World} {base : Nat} {v : Value} {ns : List (Int × Int)} (h : OwnPool w base v ns) : ∃ a c, v = .slice a ns.length c := own_form h
set_option maxHeartbeats 1000000 in
theorem impl_PoolSame (z1 z2 : Int) (v u : Value) (ns ms : List (Int × Int)) (w : World) (h1 : RowAt 2 encPage w v ns) (h3 : RowAt 2 encPage w u ms)
    (l1 : ns.length ≤ 1048576) (l3 : ms.length ≤ 1048576) :
    Calls Tryd.prog 9 #[.agg #[.int .i64 z1, v], .agg #[.int .i64 z2, u]] w fun e w' => e = .returned (.bool (decide (z1 = z2) && eqB ns ms)) ∧ Below w.heap.size w w' := by
  have b0 : ∀ o1 o2, Below w.heap.size w ((w.alloc o1).alloc o2) := fun o1 o2 => by go_grown
  have k1 : ∀ o1 o2, RowAt 2 encPage ((w.alloc o1).alloc o2) v ns := fun o1 o2 => h1.keep (b0 o1 o2)
  have k3 : ∀ o1 o2, RowAt 2 encPage ((w.alloc o1).alloc o2) u ms := fun o1 o2 => h3.keep (b0 o1 o2)
  clear h1 h3
  by_cases hz : z1 = z2
  · subst hz
    go_enter Tryd.func9, Tryd.ntmps9
    go_wp2_with fail
    refine (equalPageS _ _ _ _ _ (k1 _ _) (k3 _ _) l1 l3).mono ?_
    rintro e w1 ⟨rfl, bel1⟩
    have B1 : Hid (Below w.heap.size w w1) := (b0 _ _).trans (bel1.mono (by simp; omega))
    clear k1 k3 b0 bel1
    cases hq : eqB ns ms
    · go_wp2_with fail
      go_ret
      exact ⟨by simp [hq], B1.out⟩
    · go_wp2_with fail
      go_ret
      exact ⟨by simp [hq], B1.out⟩
  · have hd : (z1 != z2) = true := by simpa using hz
    have hd2 : (z1 == z2) = false := by simpa using hz
    have hd3 : decide (z1 = z2) = false := by simpa using hz
    clear hz k1 k3
    go_enter Tryd.func9, Tryd.ntmps9
    go_wp2_with fail
    go_ret
    exact ⟨by first | rfl | simp [hd3], b0 _ _⟩
end Go.Proofs.YtlfgcchnboaflabDoor.Lab
