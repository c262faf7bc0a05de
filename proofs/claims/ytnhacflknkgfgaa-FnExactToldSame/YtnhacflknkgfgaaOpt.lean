/-
  Arguments of the laws, opened: rows of what is told, and of numbers.
-/
import Derived.Test.YtnhacflknkgfgaaRdg
import Derived.Test.YtnhacflknkgfgaaTol
namespace Go.Proofs.Ytnhacflknkgfgaa.Lab
open Go.RowKit Go.ChangeShapes Go.WideShapes
set_option linter.unusedVariables false
set_option maxRecDepth 20000 in
theorem ints_of {H : Type} {enc : TypeId × Value → H} {W : World} {sp : Nat → Bool} {held : Bool} {fuel : Nat} {cs : List Value} {x : DataW H × List MemPlace} (hf : DataW.trod enc Try.prog W 0 sp held fuel 36 cs = some x) :
    ∃ v xs, cs = [v] ∧ RowAt 1 encI W v xs ∧ xs.length ≤ maxLen := by
  obtain ⟨v1, ns, h1, r1, g1, l1⟩ := row_of_reading (s := 1) (e2 := encI) (good := fun _ => True) (by decide) Try.underlying36 Try.cellsInt (fun n cs' y hl ht => by
      match cs', hl with
      | [c0], _ =>
        obtain ⟨l, e0, _, wl⟩ := DataW.trod_int Try.underlying3 ht
        simp at e0
        exact ⟨l, by rw [e0]; rfl, trivial⟩) hf
  exact ⟨v1, ns, h1, r1, l1⟩
theorem Try.cellsInts : Try.prog.cellsOf 36 = 1 := by kernel_rfl
theorem Try.cellsTold : Try.prog.cellsOf 83 = 3 := by kernel_rfl
/-- What is told, that came in. -/
def ToldsIn (w : World) (v : Value) (xs : List (Int × (Value × List Int) × Int)) : Prop := AtTold w v xs ∧ xs.length ≤ maxLen ∧ ∀ x ∈ xs, x.2.1.2.length ≤ maxLen
set_option maxRecDepth 20000 in
theorem tolds_of {H : Type} {enc : TypeId × Value → H} {W : World} {sp : Nat → Bool} {fuel : Nat} {cs : List Value} {x : DataW H × List MemPlace} (hf : DataW.trod enc Try.prog W 0 sp true fuel 56 cs = some x) :
    ∃ v xs, cs = [v] ∧ ToldsIn W v xs := by
  obtain ⟨v1, ns, h1, r1, g1, l1⟩ := row_of_reading (s := 3) (e2 := encTold) (good := fun x => RowAt 1 encI W x.2.1.1 x.2.1.2 ∧ x.2.1.2.length ≤ maxLen) (by decide) Try.underlying56 Try.cellsTold (fun n cs' y hl ht => by
      match cs', hl with
      | [c0, c1, c2], _ =>
        obtain ⟨y0, y1, y2, m, hx, _, hy0, hy1, hy2⟩ := Go.Deep.trod_struct3 Try.underlying83 ht
        obtain ⟨c, e0, _, wc⟩ := DataW.trod_int Try.underlying3 hy0
        obtain ⟨q, e2, _, wq⟩ := DataW.trod_int Try.underlying3 hy2
        simp [Try.cellsInt, Try.cellsInts] at e0 e2 hy1
        obtain ⟨v1, ns, h1, r1, l1⟩ := ints_of hy1
        simp at h1
        subst h1 e0 e2
        exact ⟨(c, (c1, ns), q), rfl, r1, l1⟩) hf
  exact ⟨v1, ns, h1, ⟨r1, fun x hx => (g1 x hx).1⟩, l1, fun x hx => (g1 x hx).2⟩
set_option maxRecDepth 20000 in
theorem open_tolds {H : Type} {enc : TypeId × Value → H} {W : World} {r : Reach} {base : Nat} {sp : Nat → Bool} {v : Value} {d : DataW H} {ps : List MemPlace} (hval : Value.okWide Try.prog W r base 56 v)
    (h : DataW.Trod enc Try.prog W 0 sp true 56 v d ps) : ∃ xs, ToldsIn W v xs := by
  obtain ⟨a, len, cap, rfl⟩ := okWide_slice Try.underlying56 hval
  obtain ⟨fuel, hf⟩ := h
  obtain ⟨v1, ns, h1, r1⟩ := tolds_of hf
  simp [Value.cells] at h1
  subst h1
  exact ⟨ns, r1⟩
end Go.Proofs.Ytnhacflknkgfgaa.Lab
