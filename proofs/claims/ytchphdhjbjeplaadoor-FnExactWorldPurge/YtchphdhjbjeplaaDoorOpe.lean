/-
  An argument of the laws, opened: what happens, by value.
-/
import Derived.Test.YtchphdhjbjeplaaDoorOpen
import Derived.Test.YtchphdhjbjeplaaDoorRdg
import Derived.Test.YtchphdhjbjeplaaDoorEvs
import Derived.Lib.SmallJoins
namespace Go.Proofs.YtchphdhjbjeplaaDoor.Lab
open Go.RowKit Go.ChangeShapes Go.WideShapes
set_option linter.unusedVariables false
theorem Tryd.cellsEv : Tryd.prog.cellsOf 62 = 13 := by kernel_rfl
theorem Tryd.cellsQuery : Tryd.prog.cellsOf 60 = 3 := by kernel_rfl
set_option maxRecDepth 20000 in
theorem op_cells {H : Type} {enc : TypeId × Value → H} {W : World} {sp : Nat → Bool} {held : Bool} {fuel : Nat} {c0 c1 c2 c3 c4 c5 c6 c7 : Value} {x : DataW H × List MemPlace} (h : DataW.trod enc Tryd.prog W 0 sp held fuel 58 [c0, c1, c2, c3, c4, c5, c6, c7] = some x) :
    ∃ a b c d e f g h : Int, c0 = .int .i64 a ∧ c1 = .int .i64 b ∧ c2 = .int .i64 c ∧ c3 = .int .i64 d ∧ c4 = .int .i64 e ∧ c5 = .int .i64 f ∧ c6 = .int .i64 g ∧ c7 = .int .i64 h := by
  obtain ⟨y0, y1, y2, m, hx, _, hy0, hy1, hy2⟩ := Go.Deep.trod_struct3 Tryd.underlying58 h
  obtain ⟨k, e0, _, wk⟩ := DataW.trod_int Tryd.underlying3 hy0
  simp [Tryd.cellsInt, Tryd.cellsNode, Tryd.cellsEdge] at e0 hy1 hy2
  obtain ⟨nl, nn, rfl, rfl, a1, a2⟩ := node_cells hy1
  obtain ⟨l, al, an, bl, bn, rfl, rfl, rfl, rfl, rfl, h1⟩ := edge_cells hy2
  exact ⟨k, nl, nn, l, al, an, bl, bn, e0, rfl, rfl, rfl, rfl, rfl, rfl, rfl⟩
set_option maxRecDepth 20000 in
theorem query_cells {H : Type} {enc : TypeId × Value → H} {W : World} {sp : Nat → Bool} {held : Bool} {fuel : Nat} {c0 c1 c2 : Value} {x : DataW H × List MemPlace} (h : DataW.trod enc Tryd.prog W 0 sp held fuel 60 [c0, c1, c2] = some x) :
    ∃ a b c : Int, c0 = .int .i64 a ∧ c1 = .int .i64 b ∧ c2 = .int .i64 c := by
  obtain ⟨y0, y1, m, hx, _, hy0, hy1⟩ := trod_struct2 Tryd.underlying60 h
  obtain ⟨k, e0, _, wk⟩ := DataW.trod_int Tryd.underlying3 hy0
  simp [Tryd.cellsInt, Tryd.cellsNode] at e0 hy1
  obtain ⟨l, n, e1, e2, a1, a2⟩ := node_cells hy1
  exact ⟨k, l, n, e0, e1, e2⟩
set_option maxRecDepth 20000 in
theorem ev_cells {H : Type} {enc : TypeId × Value → H} {W : World} {sp : Nat → Bool} {held : Bool} {fuel : Nat} {c0 c1 c2 c3 c4 c5 c6 c7 c8 c9 c10 c11 c12 : Value} {x : DataW H × List MemPlace} (h : DataW.trod enc Tryd.prog W 0 sp held fuel 62 [c0, c1, c2, c3, c4, c5, c6, c7, c8, c9, c10, c11, c12] = some x) :
    ∃ z : Int × Int × Int × Int × Int × Int × Int × Int × Int × Int × Int × Int × Int, [c0, c1, c2, c3, c4, c5, c6, c7, c8, c9, c10, c11, c12] = encEv z := by
  obtain ⟨y0, y1, y2, y3, m, hx, _, hy0, hy1, hy2, hy3⟩ := Go.Joins.trod_struct4 Tryd.underlying62 h
  obtain ⟨k, e0, _, wk⟩ := DataW.trod_int Tryd.underlying3 hy0
  obtain ⟨o, e1, _, wo⟩ := DataW.trod_int Tryd.underlying3 hy1
  simp [Tryd.cellsInt, Tryd.cellsOp, Tryd.cellsQuery] at e0 e1 hy2 hy3
  obtain ⟨a, b, c, d, e, f, g, hh, rfl, rfl, rfl, rfl, rfl, rfl, rfl, rfl⟩ := op_cells hy2
  obtain ⟨p, q, r, rfl, rfl, rfl⟩ := query_cells hy3
  subst e0 e1
  exact ⟨(k, o, a, b, c, d, e, f, g, hh, p, q, r), rfl⟩
/-- Events that came in. -/
def EvsIn (w : World) (v : Value) (xs : List (Int × Int × Int × Int × Int × Int × Int × Int × Int × Int × Int × Int × Int)) : Prop := RowAt 13 encEv w v xs ∧ xs.length ≤ maxLen
set_option maxRecDepth 20000 in
theorem open_evs {H : Type} {enc : TypeId × Value → H} {W : World} {r : Reach} {base : Nat} {sp : Nat → Bool} {v : Value} {d : DataW H} {ps : List MemPlace} (hval : Value.okWide Tryd.prog W r base 23 v)
    (h : DataW.Trod enc Tryd.prog W 0 sp true 23 v d ps) : ∃ xs, EvsIn W v xs := by
  obtain ⟨a, len, cap, rfl⟩ := okWide_slice Tryd.underlying23 hval
  obtain ⟨fuel, hf⟩ := h
  obtain ⟨v1, ns, h1, r1, g1, l1⟩ := row_of_reading (s := 13) (e2 := encEv) (good := fun _ => True) (by decide) Tryd.underlying23 Tryd.cellsEv (fun n cs' y hl ht => by
      match cs', hl with
      | [c0, c1, c2, c3, c4, c5, c6, c7, c8, c9, c10, c11, c12], _ =>
        obtain ⟨z, hz⟩ := ev_cells ht
        exact ⟨z, hz, trivial⟩) hf
  simp [Value.cells] at h1
  subst h1
  exact ⟨ns, r1, l1⟩
end Go.Proofs.YtchphdhjbjeplaaDoor.Lab
