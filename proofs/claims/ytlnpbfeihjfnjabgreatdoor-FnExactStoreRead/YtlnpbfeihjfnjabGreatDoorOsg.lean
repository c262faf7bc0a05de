/-
  Rows of parts of a store that are our own: kept, turned, apart.
-/
import Derived.Test.YtlnpbfeihjfnjabGreatDoorSvw
import Derived.Test.YtlnpbfeihjfnjabGreatDoorMrk
import Derived.Test.YtlnpbfeihjfnjabGreatDoorBop
namespace Go.Proofs.YtlnpbfeihjfnjabGreatDoor.Lab
open Go.RowKit
set_option linter.unusedVariables false
def OwnSeg (w : World) (B : Nat) (v : Value) (xs : List (Int × List UInt8)) : Prop := w.ownsRow B 52 2 v xs.length (xs.flatMap encSeg)
theorem OwnSeg.keep {w w' : World} {B : Nat} {v : Value} {xs : List (Int × List UInt8)} (h : OwnSeg w B v xs) (hb : Below w.heap.size w w') : OwnSeg w' B v xs := own_keep h hb
theorem OwnSeg.row {w : World} {B : Nat} {v : Value} {xs : List (Int × List UInt8)} (h : OwnSeg w B v xs) : RowAt 2 encSeg w v xs := row_of_own encSeg_len (by decide) h
theorem OwnSeg.lt {w : World} {B : Nat} {v : Value} {xs : List (Int × List UInt8)} (h : OwnSeg w B v xs) : ∀ k, v.ownBlock = some k → B ≤ k ∧ k < w.heap.size := World.ownsRow.lt h
theorem OwnSeg.but {p : Nat → Prop} {w w' : World} {B : Nat} {v : Value} {xs : List (Int × List UInt8)} (h : OwnSeg w B v xs) (hb : But p w w') (hne : ∀ k, v.ownBlock = some k → ¬ p k) : OwnSeg w' B v xs := hb.own h hne
theorem But.one {w w' : World} {r : Option Nat} (h : w.grownBy w' r) : But (fun g => r = some g) w w' :=
  ⟨h.os, h.tape, h.output, h.size, fun k hk hp => h.block k hk (fun e => hp e.symm)⟩
theorem eqSeg_same (v1 v2 : Value) (xs : List (Int × List UInt8)) (w : World) (h1 : RowAt 2 encSeg w v1 xs) (h2 : RowAt 2 encSeg w v2 xs) (hb : xs.length ≤ 1048576) :
    Calls Tryz.prog 9 #[v1, v2] w fun e w' => e = .returned (.bool true) ∧ Below w.heap.size w w' := by
  have C := eqSegS v1 v2 xs xs w h1 h2 hb hb
  rw [eqB_true.2 rfl] at C
  exact C
end Go.Proofs.YtlnpbfeihjfnjabGreatDoor.Lab
