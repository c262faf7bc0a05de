/-
  Arguments of the laws, opened: a node, an edge, an op, by value.
-/
import Derived.Test.YtbgcalhpopcakaaDoorPlain
import Derived.Test.YtbgcalhpopcakaaDoorRows
import Derived.WalkKit
import Derived.ProofKit
import Derived.OpenShut
import Derived.Deep.Strs
namespace Go.Proofs.YtbgcalhpopcakaaDoor.Lab
open Go.RowKit Go.ChangeShapes Go.WideShapes
set_option linter.unusedVariables false
theorem in_of_wf {a : Int} (h : (Lit.int .i64 a).wf = true) : i64In a := by
  have := Go.bounds_i64 h
  exact ⟨by omega, by omega⟩
theorem Tryd.cellsInt : Tryd.prog.cellsOf 3 = 1 := by kernel_rfl
theorem Tryd.cellsNode : Tryd.prog.cellsOf 32 = 2 := by kernel_rfl
set_option maxRecDepth 20000 in
/-- A node's two cells, out of its reading. -/
theorem node_cells {H : Type} {enc : TypeId × Value → H} {W : World} {sp : Nat → Bool} {held : Bool} {fuel : Nat} {c0 c1 : Value} {x : DataW H × List MemPlace} (h : DataW.trod enc Tryd.prog W 0 sp held fuel 32 [c0, c1] = some x) :
    ∃ l n, c0 = .int .i64 l ∧ c1 = .int .i64 n ∧ i64In l ∧ i64In n := by
  obtain ⟨y0, y1, m, hx, _, hy0, hy1⟩ := trod_struct2 Tryd.underlying32 h
  obtain ⟨l, e0, _, wl⟩ := DataW.trod_int Tryd.underlying3 hy0
  obtain ⟨n, e1, _, wn⟩ := DataW.trod_int Tryd.underlying3 hy1
  simp [Tryd.cellsInt] at e0 e1
  exact ⟨l, n, e0, e1, in_of_wf wl, in_of_wf wn⟩
set_option maxRecDepth 20000 in
theorem open_node {H : Type} {enc : TypeId × Value → H} {W : World} {r : Reach} {base : Nat} {sp : Nat → Bool} {v : Value} {d : DataW H} {ps : List MemPlace} (hval : Value.okWide Tryd.prog W r base 32 v)
    (h : DataW.Trod enc Tryd.prog W 0 sp true 32 v d ps) : ∃ l n, v = .agg #[.int .i64 l, .int .i64 n] ∧ i64In l ∧ i64In n := by
  obtain ⟨cs, rfl, hsz⟩ := okWide_struct Tryd.underlying32 hval
  rw [Tryd.cellsNode] at hsz
  obtain ⟨k⟩ := cs
  match k, hsz with
  | [c0, c1], _ =>
    obtain ⟨fuel, hf⟩ := h
    obtain ⟨l, n, rfl, rfl, h1, h2⟩ := node_cells hf
    exact ⟨l, n, rfl, h1, h2⟩
end Go.Proofs.YtbgcalhpopcakaaDoor.Lab
