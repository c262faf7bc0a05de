/-
  An argument of the laws, opened: what is asked, by value.
-/
import Derived.Test.YteopageleimkbaaDoorOpen
namespace Go.Proofs.YteopageleimkbaaDoor.Lab
open Go.RowKit Go.ChangeShapes Go.WideShapes
set_option linter.unusedVariables false
theorem Tryd.cellsQuery : Tryd.prog.cellsOf 25 = 3 := by kernel_rfl
set_option maxRecDepth 20000 in
theorem open_query {H : Type} {enc : TypeId × Value → H} {W : World} {r : Reach} {base : Nat} {sp : Nat → Bool} {v : Value} {d : DataW H} {ps : List MemPlace} (hval : Value.okWide Tryd.prog W r base 25 v)
    (h : DataW.Trod enc Tryd.prog W 0 sp true 25 v d ps) : ∃ k l n, v = .agg #[.int .i64 k, .int .i64 l, .int .i64 n] ∧ i64In k ∧ i64In l ∧ i64In n := by
  obtain ⟨cs, rfl, hsz⟩ := okWide_struct Tryd.underlying25 hval
  rw [Tryd.cellsQuery] at hsz
  obtain ⟨k⟩ := cs
  match k, hsz with
  | [c0, c1, c2], _ =>
    obtain ⟨fuel, hf⟩ := h
    obtain ⟨y0, y1, m, hx, _, hy0, hy1⟩ := trod_struct2 Tryd.underlying25 hf
    obtain ⟨k, e0, _, wk⟩ := DataW.trod_int Tryd.underlying3 hy0
    simp [Tryd.cellsInt, Tryd.cellsNode, Value.cells] at e0 hy1
    obtain ⟨l, n, e1, e2, a1, a2⟩ := node_cells hy1
    subst e0 e1 e2
    exact ⟨k, l, n, rfl, in_of_wf wk, a1, a2⟩
end Go.Proofs.YteopageleimkbaaDoor.Lab
