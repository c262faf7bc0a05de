/-
  Arguments of the laws, opened: a person, people, by value.
-/
import Derived.Test.YtchphdhjbjeplaaDoorOpen
import Derived.Test.YtchphdhjbjeplaaDoorRdg
import Derived.Test.YtchphdhjbjeplaaDoorPer
namespace Go.Proofs.YtchphdhjbjeplaaDoor.Lab
open Go.RowKit Go.ChangeShapes Go.WideShapes
set_option linter.unusedVariables false
theorem Tryd.cellsPerson : Tryd.prog.cellsOf 52 = 3 := by kernel_rfl
set_option maxRecDepth 20000 in
/-- A person's three cells, out of their reading. -/
theorem person_cells {H : Type} {enc : TypeId × Value → H} {W : World} {sp : Nat → Bool} {held : Bool} {fuel : Nat} {c0 c1 c2 : Value} {x : DataW H × List MemPlace} (h : DataW.trod enc Tryd.prog W 0 sp held fuel 52 [c0, c1, c2] = some x) :
    ∃ c s q, c0 = .int .i64 c ∧ c1 = .int .i64 s ∧ c2 = .int .i64 q ∧ i64In c ∧ i64In s ∧ i64In q := by
  obtain ⟨y0, y1, y2, m, hx, _, hy0, hy1, hy2⟩ := Go.Deep.trod_struct3 Tryd.underlying52 h
  obtain ⟨c, e0, _, wc⟩ := DataW.trod_int Tryd.underlying3 hy0
  obtain ⟨s, e1, _, ws⟩ := DataW.trod_int Tryd.underlying3 hy1
  obtain ⟨q, e2, _, wq⟩ := DataW.trod_int Tryd.underlying3 hy2
  simp [Tryd.cellsInt] at e0 e1 e2
  exact ⟨c, s, q, e0, e1, e2, in_of_wf wc, in_of_wf ws, in_of_wf wq⟩
set_option maxRecDepth 20000 in
theorem open_person {H : Type} {enc : TypeId × Value → H} {W : World} {r : Reach} {base : Nat} {sp : Nat → Bool} {v : Value} {d : DataW H} {ps : List MemPlace} (hval : Value.okWide Tryd.prog W r base 52 v)
    (h : DataW.Trod enc Tryd.prog W 0 sp true 52 v d ps) : ∃ c s q, v = .agg #[.int .i64 c, .int .i64 s, .int .i64 q] ∧ i64In c ∧ i64In s ∧ i64In q := by
  obtain ⟨cs, rfl, hsz⟩ := okWide_struct Tryd.underlying52 hval
  rw [Tryd.cellsPerson] at hsz
  obtain ⟨k⟩ := cs
  match k, hsz with
  | [c0, c1, c2], _ =>
    obtain ⟨fuel, hf⟩ := h
    obtain ⟨c, s, q, rfl, rfl, rfl, h1⟩ := person_cells hf
    exact ⟨c, s, q, rfl, h1⟩
/-- People that came in. -/
def PeopleIn (w : World) (v : Value) (xs : List (Int × Int × Int)) : Prop := RowAt 3 encPerson w v xs ∧ xs.length ≤ maxLen ∧ ∀ x ∈ xs, i64In x.1 ∧ i64In x.2.1 ∧ i64In x.2.2
set_option maxRecDepth 20000 in
theorem people_of {H : Type} {enc : TypeId × Value → H} {W : World} {sp : Nat → Bool} {fuel : Nat} {cs : List Value} {x : DataW H × List MemPlace} (hf : DataW.trod enc Tryd.prog W 0 sp true fuel 22 cs = some x) :
    ∃ v xs, cs = [v] ∧ PeopleIn W v xs := by
  obtain ⟨v1, ns, h1, r1, g1, l1⟩ := row_of_reading (s := 3) (e2 := encPerson) (good := fun x => i64In x.1 ∧ i64In x.2.1 ∧ i64In x.2.2) (by decide) Tryd.underlying22 Tryd.cellsPerson (fun n cs' y hl ht => by
      match cs', hl with
      | [c0, c1, c2], _ =>
        obtain ⟨c, s, q, rfl, rfl, rfl, p1⟩ := person_cells ht
        exact ⟨(c, s, q), rfl, p1⟩) hf
  exact ⟨v1, ns, h1, r1, l1, g1⟩
set_option maxRecDepth 20000 in
theorem open_people {H : Type} {enc : TypeId × Value → H} {W : World} {r : Reach} {base : Nat} {sp : Nat → Bool} {v : Value} {d : DataW H} {ps : List MemPlace} (hval : Value.okWide Tryd.prog W r base 22 v)
    (h : DataW.Trod enc Tryd.prog W 0 sp true 22 v d ps) : ∃ xs, PeopleIn W v xs := by
  obtain ⟨a, len, cap, rfl⟩ := okWide_slice Tryd.underlying22 hval
  obtain ⟨fuel, hf⟩ := h
  obtain ⟨v1, ns, h1, r1⟩ := people_of hf
  simp [Value.cells] at h1
  subst h1
  exact ⟨ns, r1⟩
end Go.Proofs.YtchphdhjbjeplaaDoor.Lab
