/-
  A graph that a call has answered, laid into a box that was made at any time of the region.
-/
import Derived.Test.YtlnpbfeihjfnjabGreatDoorMrk
namespace Go.Proofs.YtlnpbfeihjfnjabGreatDoor.Lab
open Go.RowKit
set_option linter.unusedVariables false
theorem OwnGraph.set {w : World} {base : Nat} {v1 v2 : Value} {ns : List (Int × Int)} {es : List (Int × Int × Int × Int × Int)} (h : OwnGraph w base v1 v2 ns es) {p : Addr} (hp : ∀ k, (v1.ownBlock = some k ∨ v2.ownBlock = some k) → k ≠ p.block) (u : Value) : OwnGraph (w.setCell p u) base v1 v2 ns es :=
  ⟨own_set h.1 (fun e => hp _ (.inl e) rfl) u, own_set h.2.1 (fun e => hp _ (.inr e) rfl) u, h.2.2⟩
/-- The world Wf lies over w0; at C is a box with the graph (v1, v2), whose rows are its own. -/
def BoxG (w0 Wf : World) (C : Nat) (v1 v2 : Value) (ns : List (Int × Int)) (es : List (Int × Int × Int × Int × Int)) : Prop :=
  Below w0.heap.size w0 Wf ∧ w0.heap.size ≤ C ∧ Wf.heap[C]? = some (.cells #[v1, v2] 32 (0, 0)) ∧ OwnGraph Wf w0.heap.size v1 v2 ns es ∧ ∀ k, (v1.ownBlock = some k ∨ v2.ownBlock = some k) → k ≠ C
theorem OwnGraph.base {w : World} {b b' : Nat} {v1 v2 : Value} {ns : List (Int × Int)} {es : List (Int × Int × Int × Int × Int)} (h : OwnGraph w b v1 v2 ns es) (hb : b' ≤ b) : OwnGraph w b' v1 v2 ns es := ⟨own_mono h.1 hb, own_mono h.2.1 hb, h.2.2⟩
theorem OwnGraph.lt {w : World} {b : Nat} {v1 v2 : Value} {ns : List (Int × Int)} {es : List (Int × Int × Int × Int × Int)} (h : OwnGraph w b v1 v2 ns es) {k : Nat} (hk : v1.ownBlock = some k ∨ v2.ownBlock = some k) : b ≤ k ∧ k < w.heap.size := by
  rcases hk with hk | hk
  · exact h.1.lt k hk
  · exact h.2.1.lt k hk
theorem boxg_last {w0 wc : World} {b : Nat} {v1 v2 : Value} {ns : List (Int × Int)} {es : List (Int × Int × Int × Int × Int)} (hs : Below w0.heap.size w0 wc) (og : OwnGraph wc b v1 v2 ns es) (hb : w0.heap.size ≤ b) : BoxG w0 (wc.alloc (.cells #[v1, v2] 32)) wc.heap.size v1 v2 ns es :=
  ⟨hs.alloc hs.size _, hs.size, new_block _ _, (og.keep ((Below.refl _ _).alloc (Nat.le_refl _) _)).base hb, fun k hk => by have := (og.lt hk).2; omega⟩
theorem boxg_set {w0 wc : World} {b C : Nat} {v1 v2 : Value} {ns : List (Int × Int)} {es : List (Int × Int × Int × Int × Int)} (hs : Below w0.heap.size w0 wc) (og : OwnGraph wc b v1 v2 ns es) (hC : w0.heap.size ≤ C) (hb : C < b) (h : wc.heap[C]? = some (.cells #[.slice none 0 0, .slice none 0 0] 32 (0, 0))) :
    BoxG w0 ((wc.setCell ⟨C, 0, none⟩ v1).setCell ⟨C, 1, none⟩ v2) C v1 v2 ns es := by
  have hn : ∀ k, (v1.ownBlock = some k ∨ v2.ownBlock = some k) → k ≠ C := fun k hk => by have := (og.lt hk).1; omega
  refine ⟨(hs.setCell hC _).setCell hC _, hC, ?_, ((og.set hn _).set hn _).base (by omega), hn⟩
  rw [set_block _ (set_block _ h)]; rfl
theorem OwnGraph.but2 {p : Nat → Prop} {w w' : World} {base : Nat} {v1 v2 : Value} {ns : List (Int × Int)} {es : List (Int × Int × Int × Int × Int)} (h : OwnGraph w base v1 v2 ns es) (hb : But p w w') (hne : ∀ k, (v1.ownBlock = some k ∨ v2.ownBlock = some k) → ¬ p k) : OwnGraph w' base v1 v2 ns es :=
  ⟨hb.own h.1 (fun k hk => hne k (.inl hk)), hb.own h.2.1 (fun k hk => hne k (.inr hk)), h.2.2⟩
end Go.Proofs.YtlnpbfeihjfnjabGreatDoor.Lab
