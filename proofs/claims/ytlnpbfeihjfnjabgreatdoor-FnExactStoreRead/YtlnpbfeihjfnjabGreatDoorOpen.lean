/-
  Arguments of the laws, opened: a node, an edge, an op, by value.
-/
import Derived.Test.YtlnpbfeihjfnjabGreatDoorPlain
import Derived.Test.YtlnpbfeihjfnjabGreatDoorRows
import Derived.WalkKit
import Derived.ProofKit
import Derived.OpenShut
import Derived.Deep.Strs
namespace Go.Proofs.YtlnpbfeihjfnjabGreatDoor.Lab
open Go.RowKit Go.ChangeShapes Go.WideShapes
set_option linter.unusedVariables false
theorem in_of_wf {a : Int} (h : (Lit.int .i64 a).wf = true) : i64In a := by
  have := Go.bounds_i64 h
  exact ⟨by omega, by omega⟩
theorem Tryz.cellsInt : Tryz.prog.cellsOf 3 = 1 := by kernel_rfl
theorem Tryz.cellsNode : Tryz.prog.cellsOf 77 = 2 := by kernel_rfl
set_option maxRecDepth 20000 in
/-- A node's two cells, out of its reading. -/
theorem node_cells {H : Type} {enc : TypeId × Value → H} {W : World} {sp : Nat → Bool} {held : Bool} {fuel : Nat} {c0 c1 : Value} {x : DataW H × List MemPlace} (h : DataW.trod enc Tryz.prog W 0 sp held fuel 77 [c0, c1] = some x) :
    ∃ l n, c0 = .int .i64 l ∧ c1 = .int .i64 n ∧ i64In l ∧ i64In n := by
  obtain ⟨y0, y1, m, hx, _, hy0, hy1⟩ := trod_struct2 Tryz.underlying77 h
  obtain ⟨l, e0, _, wl⟩ := DataW.trod_int Tryz.underlying3 hy0
  obtain ⟨n, e1, _, wn⟩ := DataW.trod_int Tryz.underlying3 hy1
  simp [Tryz.cellsInt] at e0 e1
  exact ⟨l, n, e0, e1, in_of_wf wl, in_of_wf wn⟩
set_option maxRecDepth 20000 in
theorem open_node {H : Type} {enc : TypeId × Value → H} {W : World} {r : Reach} {base : Nat} {sp : Nat → Bool} {v : Value} {d : DataW H} {ps : List MemPlace} (hval : Value.okWide Tryz.prog W r base 77 v)
    (h : DataW.Trod enc Tryz.prog W 0 sp true 77 v d ps) : ∃ l n, v = .agg #[.int .i64 l, .int .i64 n] ∧ i64In l ∧ i64In n := by
  obtain ⟨cs, rfl, hsz⟩ := okWide_struct Tryz.underlying77 hval
  rw [Tryz.cellsNode] at hsz
  obtain ⟨k⟩ := cs
  match k, hsz with
  | [c0, c1], _ =>
    obtain ⟨fuel, hf⟩ := h
    obtain ⟨l, n, rfl, rfl, h1, h2⟩ := node_cells hf
    exact ⟨l, n, rfl, h1, h2⟩
theorem Tryz.cellsEdge : Tryz.prog.cellsOf 80 = 5 := by kernel_rfl
set_option maxRecDepth 20000 in
/-- An edge's five cells, out of its reading. -/
theorem edge_cells {H : Type} {enc : TypeId × Value → H} {W : World} {sp : Nat → Bool} {held : Bool} {fuel : Nat} {c0 c1 c2 c3 c4 : Value} {x : DataW H × List MemPlace} (h : DataW.trod enc Tryz.prog W 0 sp held fuel 80 [c0, c1, c2, c3, c4] = some x) :
    ∃ l al an bl bn, c0 = .int .i64 l ∧ c1 = .int .i64 al ∧ c2 = .int .i64 an ∧ c3 = .int .i64 bl ∧ c4 = .int .i64 bn ∧ i64In l ∧ (i64In al ∧ i64In an) ∧ i64In bl ∧ i64In bn := by
  obtain ⟨y0, y1, y2, m, hx, _, hy0, hy1, hy2⟩ := Go.Deep.trod_struct3 Tryz.underlying80 h
  obtain ⟨l, e0, _, wl⟩ := DataW.trod_int Tryz.underlying3 hy0
  simp [Tryz.cellsInt, Tryz.cellsNode] at e0 hy1 hy2
  obtain ⟨al, an, e1, e2, a1, a2⟩ := node_cells hy1
  obtain ⟨bl, bn, e3, e4, b1, b2⟩ := node_cells hy2
  exact ⟨l, al, an, bl, bn, e0, e1, e2, e3, e4, in_of_wf wl, ⟨a1, a2⟩, b1, b2⟩
set_option maxRecDepth 20000 in
theorem open_edge {H : Type} {enc : TypeId × Value → H} {W : World} {r : Reach} {base : Nat} {sp : Nat → Bool} {v : Value} {d : DataW H} {ps : List MemPlace} (hval : Value.okWide Tryz.prog W r base 80 v)
    (h : DataW.Trod enc Tryz.prog W 0 sp true 80 v d ps) : ∃ l al an bl bn, v = .agg #[.int .i64 l, .int .i64 al, .int .i64 an, .int .i64 bl, .int .i64 bn] ∧ i64In l ∧ (i64In al ∧ i64In an) ∧ i64In bl ∧ i64In bn := by
  obtain ⟨cs, rfl, hsz⟩ := okWide_struct Tryz.underlying80 hval
  rw [Tryz.cellsEdge] at hsz
  obtain ⟨k⟩ := cs
  match k, hsz with
  | [c0, c1, c2, c3, c4], _ =>
    obtain ⟨fuel, hf⟩ := h
    obtain ⟨l, al, an, bl, bn, rfl, rfl, rfl, rfl, rfl, h1⟩ := edge_cells hf
    exact ⟨l, al, an, bl, bn, rfl, h1⟩
end Go.Proofs.YtlnpbfeihjfnjabGreatDoor.Lab
