/-
  Arguments of the laws, opened: a store (a slice of labels with bytes).
-/
import Derived.Test.YtlnpbfeihjfnjabGreatDoorRdg
import Derived.Test.YtlnpbfeihjfnjabGreatDoorSeg
namespace Go.Proofs.YtlnpbfeihjfnjabGreatDoor.Lab
open Go.RowKit Go.ChangeShapes Go.WideShapes
set_option linter.unusedVariables false
theorem Tryz.cellsSeg : Tryz.prog.cellsOf 60 = 2 := by kernel_rfl
theorem Tryz.cellsStr : Tryz.prog.cellsOf 9 = 1 := by kernel_rfl
set_option maxRecDepth 20000 in
theorem seg_cells {H : Type} {enc : TypeId × Value → H} {W : World} {sp : Nat → Bool} {held : Bool} {fuel : Nat} {c0 c1 : Value} {x : DataW H × List MemPlace} (h : DataW.trod enc Tryz.prog W 0 sp held fuel 60 [c0, c1] = some x) :
    ∃ (l : Int) (n : List UInt8), c0 = .int .i64 l ∧ c1 = .string ⟨n.toArray⟩ ∧ i64In l ∧ n.length ≤ maxLen := by
  obtain ⟨y0, y1, m, hx, _, hy0, hy1⟩ := trod_struct2 Tryz.underlying60 h
  obtain ⟨l, e0, _, wl⟩ := DataW.trod_int Tryz.underlying3 hy0
  obtain ⟨n, e1, _, wn⟩ := DataW.trod_string Tryz.underlying9 hy1
  dsimp only at e0 e1
  rw [Tryz.cellsInt] at e0
  rw [Tryz.cellsStr] at e1
  have f0 : c0 = .int .i64 l := (List.cons.inj (show [c0] = [.int .i64 l] from e0)).1
  have f1 : c1 = .string n := (List.cons.inj (show [c1] = [.string n] from e1)).1
  refine ⟨l, n.data.toList, f0, by rw [f1], in_of_wf wl, ?_⟩
  rw [Array.length_toList]; exact wn
/-- A store that came in. -/
def SegsIn (w : World) (v : Value) (xs : List (Int × List UInt8)) : Prop := RowAt 2 encSeg w v xs ∧ xs.length ≤ maxLen ∧ ∀ x ∈ xs, i64In x.1 ∧ x.2.length ≤ maxLen
set_option maxRecDepth 20000 in
theorem open_segs {H : Type} {enc : TypeId × Value → H} {W : World} {r : Reach} {base : Nat} {sp : Nat → Bool} {v : Value} {d : DataW H} {ps : List MemPlace} (hval : Value.okWide Tryz.prog W r base 39 v)
    (h : DataW.Trod enc Tryz.prog W 0 sp true 39 v d ps) : ∃ xs, SegsIn W v xs := by
  obtain ⟨a, len, cap, rfl⟩ := okWide_slice Tryz.underlying39 hval
  obtain ⟨fuel, hf⟩ := h
  obtain ⟨v1, ns, h1, r1, g1, l1⟩ := row_of_reading (s := 2) (e2 := encSeg) (good := fun x => i64In x.1 ∧ x.2.length ≤ maxLen) (by decide) Tryz.underlying39 Tryz.cellsSeg (fun n cs' y hl ht => by
      match cs', hl with
      | [c0, c1], _ =>
        obtain ⟨l, n, rfl, rfl, p1, p2⟩ := seg_cells ht
        exact ⟨(l, n), rfl, p1, p2⟩) hf
  simp [Value.cells] at h1
  subst h1
  exact ⟨ns, r1, l1, g1⟩
end Go.Proofs.YtlnpbfeihjfnjabGreatDoor.Lab
