/-
  Rows of numbers: what the laws' own functions on them do (toIntS, eqIntS, markIntS, heldIntS, wpInts).
-/
import Derived.Test.YtlnpbfeihjfnjabGreatDoorRow
import Derived.Handy
import Derived.BigQuiet
import Derived.Deep.QuietTactic
namespace Go.Proofs.YtlnpbfeihjfnjabGreatDoor.Lab
open Go.RowKit
set_option linter.unusedVariables false
def encI (x : Int) : List Value := [.int .i64 x]
theorem encI_len (x : Int) : (encI x).length = 1 := rfl
theorem Tryz.infoI : (Tryz.prog.info? 3).map (fun i => (i.zero, i.size, i.bytes)) = some (some (.int .i64 0), 1, 8) := by kernel_rfl
theorem flatI (xs : List Int) : xs.flatMap encI = xs.map (Value.int .i64) := by
  induction xs with
  | nil => rfl
  | cons x xs ih => rw [List.flatMap_cons, ih]; rfl
/-- The cells of a row of numbers. -/
theorem cellI {w : World} {b off : Nat} {xs : List Int} (h : ∀ j x, xs[j]? = some x → ∀ i u, (encI x)[i]? = some u → w.cell? ⟨b, off + j * 1 + i, none⟩ = some u) {k : Nat} {x : Int} (hx : xs[k]? = some x) : w.cell? ⟨b, off + k, none⟩ = some (.int .i64 x) := by
  have := h k x hx 0 _ rfl
  simpa using this
/-- A row of which the first k numbers have been laid. -/
def laidI (xs : List Int) (k n : Nat) (cur : Array Value) : Prop := cur.size = n ∧ ∀ j x, j < k → xs[j]? = some x → cur[j]? = some (.int .i64 x)
theorem laidI_step {xs : List Int} {k n : Nat} {cur : Array Value} {m : Int} (h : laidI xs k n cur) (hk : k < n) (hx : xs[k]? = some m) : laidI xs (k + 1) n (cur.setIfInBounds k (.int .i64 m)) := by
  obtain ⟨h1, h2⟩ := h
  refine ⟨by simp [h1], fun j x hj hxj => ?_⟩
  rcases Nat.lt_succ_iff_lt_or_eq.1 hj with hj | rfl
  · rw [Array.getElem?_setIfInBounds, if_neg (by omega)]
    exact h2 j x hj hxj
  · rw [hx] at hxj
    cases hxj
    rw [Array.getElem?_setIfInBounds, if_pos rfl, if_pos (by omega)]
theorem laidI_take {xs : List Int} {cap : Nat} {cur : Array Value} (h : laidI xs xs.length cap cur) (hc : xs.length ≤ cap) : cur.toList.take (xs.length * 1) = xs.flatMap encI := by
  obtain ⟨h1, h2⟩ := h
  rw [flatI]
  apply List.ext_getElem?
  intro m
  rw [List.getElem?_take]
  by_cases hm : m < xs.length
  · rw [if_pos (by omega)]
    have := h2 m _ hm (List.getElem?_eq_getElem hm)
    rw [List.getElem?_map, List.getElem?_eq_getElem hm]
    simpa using this
  · rw [if_neg (by omega), List.getElem?_eq_none (by simp; omega)]
theorem belN {B : Nat} {a w : World} (h : Below B a w) (n : Nat) : Below B a (w.drewN n) := ⟨h.os, h.tape, h.output, h.size, h.block⟩
end Go.Proofs.YtlnpbfeihjfnjabGreatDoor.Lab
