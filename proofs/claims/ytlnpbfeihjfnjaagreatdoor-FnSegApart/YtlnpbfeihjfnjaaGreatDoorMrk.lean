/-
  Rows of structs whose cells a call owns: numbered through (markXS), and held against those numbers (heldXS). (Written by tools/mkmrk.py.)
-/
import Derived.Test.YtlnpbfeihjfnjaaGreatDoorGro
import Derived.Test.YtlnpbfeihjfnjaaGreatDoorGra
import Derived.Test.YtlnpbfeihjfnjaaGreatDoorGrw
namespace Go.Proofs.YtlnpbfeihjfnjaaGreatDoor.Lab
open Go.RowKit
set_option linter.unusedVariables false

theorem own_grown {w w' : World} {base e size : Nat} {v : Value} {n : Nat} {xs : List Value} {r : Option Nat} (h : w.ownsRow base e size v n xs) (hg : w.grownBy w' r) (hne : ∀ k, v.ownBlock = some k → r ≠ some k) : w'.ownsRow base e size v n xs := by
  refine h.kept hg ?_
  cases hv : v.ownBlock with
  | none => exact .inl rfl
  | some k => exact .inr (fun e => hne k hv e.symm)
/-- Of what was there only these blocks are turned. -/
structure But (p : Nat → Prop) (w w' : World) : Prop where
  os : w'.os = w.os
  tape : w'.tape = w.tape
  output : w'.output = w.output
  size : w.heap.size ≤ w'.heap.size
  blk : ∀ k, k < w.heap.size → ¬ p k → w'.heap[k]? = w.heap[k]?
theorem But.below {p : Nat → Prop} {w w' w0 : World} {B : Nat} (h : But p w w') (hb : Below B w0 w) (hB : B ≤ w.heap.size) (hp : ∀ k, p k → B ≤ k) : Below B w0 w' :=
  ⟨h.os.trans hb.os, h.tape.trans hb.tape, h.output.trans hb.output, Nat.le_trans hb.size h.size, fun k hk => (h.blk k (by omega) (fun e => by have := hp k e; omega)).trans (hb.block k hk)⟩
theorem But.of {w w1 w2 w3 : World} {r1 r2 : Option Nat} (h : Below w.heap.size w w1) (h1 : w1.grownBy w2 r1) (h2 : w2.grownBy w3 r2) : But (fun g => r1 = some g ∨ r2 = some g) w w3 :=
  ⟨h2.os.trans (h1.os.trans h.os), h2.tape.trans (h1.tape.trans h.tape), h2.output.trans (h1.output.trans h.output), Nat.le_trans h.size (Nat.le_trans h1.size h2.size), fun k hk hp => (h2.block k (by have := h.size; have := h1.size; omega) (fun e => hp (.inr e.symm))).trans ((h1.block k (by have := h.size; omega) (fun e => hp (.inl e.symm))).trans (h.block k hk))⟩
theorem But.own {p : Nat → Prop} {w w' : World} {base e size : Nat} {v : Value} {n : Nat} {xs : List Value} (hb : But p w w') (h : w.ownsRow base e size v n xs) (hne : ∀ k, v.ownBlock = some k → ¬ p k) : w'.ownsRow base e size v n xs := by
  obtain ⟨h1, h | ⟨g, cap, cur, rfl, hbb, hg, hr⟩⟩ := h
  · exact ⟨h1, .inl h⟩
  · exact ⟨h1, .inr ⟨g, cap, cur, rfl, hbb, by rw [hb.blk g (lt_of_block hg) (hne g rfl)]; exact hg, hr⟩⟩
theorem OwnGraph.but {p : Nat → Prop} {w w' : World} {base : Nat} {v1 v2 : Value} {ns : List (Int × Int)} {es : List (Int × Int × Int × Int × Int)} (hb : But p w w') (h : OwnGraph w base v1 v2 ns es) (hne : ∀ k, base ≤ k → ¬ p k) : OwnGraph w' base v1 v2 ns es :=
  ⟨hb.own h.1 (fun k hk => hne k (h.1.lt k hk).1), hb.own h.2.1 (fun k hk => hne k (h.2.1.lt k hk).1), h.2.2⟩
theorem RowAt.low {α : Type} {s : Nat} {enc : α → List Value} {w w' : World} {v : Value} {xs : List α} (h : RowAt s enc w v xs) (hb : Below w.heap.size w w') : RowAt s enc w' v xs := h.keep hb
end Go.Proofs.YtlnpbfeihjfnjaaGreatDoor.Lab
