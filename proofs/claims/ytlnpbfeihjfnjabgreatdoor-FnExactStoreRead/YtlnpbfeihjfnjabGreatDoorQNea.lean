/-
  Contracts of impl's functions on who is near whom. (Written by tools/mknea.py.)
-/
import Derived.Test.YtlnpbfeihjfnjabGreatDoorQBlk
import Derived.Test.YtlnpbfeihjfnjabGreatDoorQMrk
import Derived.Deep.RegionHeld3
import Derived.Deep.DrawnRows
namespace Go.Proofs.YtlnpbfeihjfnjabGreatDoor.Lab
open Go.RowKit Go.ChangeMaps
set_option linter.unusedVariables false
theorem new_at' {w : World} {o : Obj} {S : Nat} (h : S = w.heap.size) : (w.alloc o).heap[S]? = some o := by subst h; exact new_block w o
theorem RangeAt.left {w : World} {r b : Nat} {es L : List (Int × Value)} (h : RangeAt w r b es L) : w.rangeLeft b r = L.length := by
  obtain ⟨ents, clock, since, seen, c0, h1, h2, h3, h4, h5, h6, h7, h8⟩ := h
  have := congrArg List.length h8
  simp only [World.rangeLeft, h1, h4]
  simpa using this
theorem eVal_inj {x y : Ed} (h : eVal x = eVal y) : x = y := by
  obtain ⟨a, b, c, d, e⟩ := x
  obtain ⟨a', b', c', d', e'⟩ := y
  simp [eVal] at h
  simp [h]
end Go.Proofs.YtlnpbfeihjfnjabGreatDoor.Lab
