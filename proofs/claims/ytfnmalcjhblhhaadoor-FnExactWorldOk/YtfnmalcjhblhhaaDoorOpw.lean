/-
  Arguments of the laws, opened: a world, by value.
-/
import Derived.Test.YtfnmalcjhblhhaaDoorOpg
import Derived.Test.YtfnmalcjhblhhaaDoorOpr
import Derived.Test.YtfnmalcjhblhhaaDoorOpp
import Derived.Test.YtfnmalcjhblhhaaDoorOpi
import Derived.Test.YtfnmalcjhblhhaaDoorWld
import Derived.Lib.SmallJoins
namespace Go.Proofs.YtfnmalcjhblhhaaDoor.Lab
open Go.RowKit Go.ChangeShapes Go.WideShapes
set_option linter.unusedVariables false
/-- A world that came in. -/
def WorldIn (w : World) (v1 v2 v3 v4 v5 : Value) (x1 : List (Int × Int × Int)) (x2 : List (Int × Int)) (x3 : List (Int × Int × Int × Int × Int)) (x4 : List (Int × (Value × List (Int × Int)))) (x5 : List Int) : Prop :=
  AtWorld w v1 v2 v3 v4 v5 x1 x2 x3 x4 x5 ∧ x1.length ≤ maxLen ∧ x2.length ≤ maxLen ∧ x3.length ≤ maxLen ∧ x4.length ≤ maxLen ∧ x5.length ≤ maxLen ∧ (∀ x ∈ x4, x.2.2.length ≤ maxLen)
theorem Tryd.cellsWorld : Tryd.prog.cellsOf 30 = 5 := by kernel_rfl
theorem Tryd.cellsPersons : Tryd.prog.cellsOf 22 = 1 := by kernel_rfl
theorem Tryd.cellsPools : Tryd.prog.cellsOf 27 = 1 := by kernel_rfl
theorem Tryd.cellsPoolL : Tryd.prog.cellsOf 74 = 2 := by kernel_rfl
theorem Tryd.cellsPagesL : Tryd.prog.cellsOf 72 = 1 := by kernel_rfl
set_option maxRecDepth 20000 in
theorem pools_of {H : Type} {enc : TypeId × Value → H} {W : World} {sp : Nat → Bool} {fuel : Nat} {cs : List Value} {x : DataW H × List MemPlace} (hf : DataW.trod enc Tryd.prog W 0 sp true fuel 27 cs = some x) :
    ∃ v xs, cs = [v] ∧ AtPool W v xs ∧ xs.length ≤ maxLen ∧ ∀ x ∈ xs, x.2.2.length ≤ maxLen := by
  obtain ⟨v1, ns, h1, r1, g1, l1⟩ := row_of_reading (s := 2) (e2 := encPool) (good := fun x => RowAt 2 encPage W x.2.1 x.2.2 ∧ x.2.2.length ≤ maxLen) (by decide) Tryd.underlying27 Tryd.cellsPoolL (fun n cs' y hl ht => by
      match cs', hl with
      | [c0, c1], _ =>
        obtain ⟨y0, y1, m, hx, _, hy0, hy1⟩ := trod_struct2 Tryd.underlying74 ht
        obtain ⟨c, e0, _, wc⟩ := DataW.trod_int Tryd.underlying3 hy0
        simp [Tryd.cellsInt, Tryd.cellsPagesL] at e0 hy1
        obtain ⟨v1, ns, h1, r1, l1, _⟩ := pages_of hy1
        simp at h1
        subst h1 e0
        exact ⟨(c, (c1, ns)), rfl, r1, l1⟩) hf
  exact ⟨v1, ns, h1, ⟨r1, fun x hx => (g1 x hx).1⟩, l1, fun x hx => (g1 x hx).2⟩
set_option maxRecDepth 20000 in
theorem open_world {H : Type} {enc : TypeId × Value → H} {W : World} {r : Reach} {base : Nat} {sp : Nat → Bool} {v : Value} {d : DataW H} {ps : List MemPlace} (hval : Value.okWide Tryd.prog W r base 30 v)
    (h : DataW.Trod enc Tryd.prog W 0 sp true 30 v d ps) : ∃ v1 v2 v3 v4 v5 x1 x2 x3 x4 x5, v = .agg #[v1, v2, v3, v4, v5] ∧ WorldIn W v1 v2 v3 v4 v5 x1 x2 x3 x4 x5 := by
  obtain ⟨cs, rfl, hsz⟩ := okWide_struct Tryd.underlying30 hval
  rw [Tryd.cellsWorld] at hsz
  obtain ⟨k⟩ := cs
  match k, hsz with
  | [c0, c1, c2, c3, c4], _ =>
    obtain ⟨fuel, hf⟩ := h
    obtain ⟨y0, y1, y2, y3, m, hx, _, hy0, hy1, hy2, hy3⟩ := Go.Joins.trod_struct4 Tryd.underlying30 hf
    simp [Value.cells, Tryd.cellsPersons, Tryd.cellsGraph, Tryd.cellsPools, Tryd.cellsInts] at hy0 hy1 hy2 hy3
    obtain ⟨v1, x1, h1, r1⟩ := people_of hy0
    obtain ⟨z0, z1, m', hx', _, hz0, hz1⟩ := trod_struct2 Tryd.underlying26 hy1
    simp [Tryd.cellsNodes, Tryd.cellsEdges] at hz0 hz1
    obtain ⟨v2, ns, h2, r2, g2, l2⟩ := row_of_reading (s := 2) (e2 := encNode) (good := fun x => i64In x.1 ∧ i64In x.2) (by decide) Tryd.underlying23 Tryd.cellsNode (fun n cs' y hl ht => by
      match cs', hl with
      | [c0, c1], _ =>
        obtain ⟨l, n, rfl, rfl, p1, p2⟩ := node_cells ht
        exact ⟨(l, n), rfl, p1, p2⟩) hz0
    obtain ⟨v3, es, h3, r3, g3, l3⟩ := row_of_reading (s := 5) (e2 := encEdge) (good := fun x => i64In x.1 ∧ (i64In x.2.1 ∧ i64In x.2.2.1) ∧ i64In x.2.2.2.1 ∧ i64In x.2.2.2.2) (by decide) Tryd.underlying24 Tryd.cellsEdge (fun n cs' y hl ht => by
      match cs', hl with
      | [c0, c1, c2, c3, c4], _ =>
        obtain ⟨l, al, an, bl, bn, rfl, rfl, rfl, rfl, rfl, p1⟩ := edge_cells ht
        exact ⟨(l, al, an, bl, bn), rfl, p1⟩) hz1
    obtain ⟨v4, x4, h4, r4, l4, m4⟩ := pools_of hy2
    obtain ⟨v5, x5, h5, r5, l5⟩ := ints_of hy3
    simp at h1 h2 h3 h4 h5
    subst h1 h2 h3 h4 h5
    exact ⟨c0, c1, c2, c3, c4, x1, ns, es, x4, x5, rfl, ⟨r1.1, r2, r3, r4, r5⟩, r1.2.1, l2, l3, l4, l5, m4⟩
end Go.Proofs.YtfnmalcjhblhhaaDoor.Lab
