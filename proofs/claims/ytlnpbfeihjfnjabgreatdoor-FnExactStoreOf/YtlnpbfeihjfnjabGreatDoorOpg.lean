/-
  Arguments of the laws, opened: a graph, by value.
-/
import Derived.Test.YtlnpbfeihjfnjabGreatDoorOpen
import Derived.Test.YtlnpbfeihjfnjabGreatDoorRdg
import Derived.Test.YtlnpbfeihjfnjabGreatDoorGra
import Derived.Deep.Slices
namespace Go.Proofs.YtlnpbfeihjfnjabGreatDoor.Lab
open Go.RowKit Go.ChangeShapes Go.WideShapes
set_option linter.unusedVariables false
/-- A graph that came in. -/
def GraphIn (w : World) (v1 v2 : Value) (ns : List (Int × Int)) (es : List (Int × Int × Int × Int × Int)) : Prop :=
  RowAt 2 encNode w v1 ns ∧ RowAt 5 encEdge w v2 es ∧ ns.length ≤ maxLen ∧ es.length ≤ maxLen ∧ (∀ x ∈ ns, i64In x.1 ∧ i64In x.2) ∧ ∀ x ∈ es, i64In x.1 ∧ (i64In x.2.1 ∧ i64In x.2.2.1) ∧ i64In x.2.2.2.1 ∧ i64In x.2.2.2.2
theorem Tryz.cellsGraph : Tryz.prog.cellsOf 25 = 2 := by kernel_rfl
theorem Tryz.cellsNodes : Tryz.prog.cellsOf 22 = 1 := by kernel_rfl
theorem Tryz.cellsEdges : Tryz.prog.cellsOf 23 = 1 := by kernel_rfl
set_option maxRecDepth 20000 in
theorem open_graph {H : Type} {enc : TypeId × Value → H} {W : World} {r : Reach} {base : Nat} {sp : Nat → Bool} {v : Value} {d : DataW H} {ps : List MemPlace} (hval : Value.okWide Tryz.prog W r base 25 v)
    (h : DataW.Trod enc Tryz.prog W 0 sp true 25 v d ps) : ∃ v1 v2 ns es, v = .agg #[v1, v2] ∧ GraphIn W v1 v2 ns es := by
  obtain ⟨cs, rfl, hsz⟩ := okWide_struct Tryz.underlying25 hval
  rw [Tryz.cellsGraph] at hsz
  obtain ⟨k⟩ := cs
  match k, hsz with
  | [c0, c1], _ =>
    obtain ⟨fuel, hf⟩ := h
    obtain ⟨y0, y1, m, hx, _, hy0, hy1⟩ := trod_struct2 Tryz.underlying25 hf
    simp [Value.cells, Tryz.cellsNodes, Tryz.cellsEdges] at hy0 hy1
    obtain ⟨v1, ns, h1, r1, g1, l1⟩ := row_of_reading (s := 2) (e2 := encNode) (good := fun x => i64In x.1 ∧ i64In x.2) (by decide) Tryz.underlying22 Tryz.cellsNode (fun n cs' y hl ht => by
      match cs', hl with
      | [c0, c1], _ =>
        obtain ⟨l, n, rfl, rfl, p1, p2⟩ := node_cells ht
        exact ⟨(l, n), rfl, p1, p2⟩) hy0
    obtain ⟨v2, es, h2, r2, g2, l2⟩ := row_of_reading (s := 5) (e2 := encEdge) (good := fun x => i64In x.1 ∧ (i64In x.2.1 ∧ i64In x.2.2.1) ∧ i64In x.2.2.2.1 ∧ i64In x.2.2.2.2) (by decide) Tryz.underlying23 Tryz.cellsEdge (fun n cs' y hl ht => by
      match cs', hl with
      | [c0, c1, c2, c3, c4], _ =>
        obtain ⟨l, al, an, bl, bn, rfl, rfl, rfl, rfl, rfl, p1⟩ := edge_cells ht
        exact ⟨(l, al, an, bl, bn), rfl, p1⟩) hy1
    simp at h1 h2
    subst h1 h2
    exact ⟨c0, c1, ns, es, rfl, r1, r2, l1, l2, g1, g2⟩
end Go.Proofs.YtlnpbfeihjfnjabGreatDoor.Lab
