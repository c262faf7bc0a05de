/-
  Arguments of the laws, opened: a page, pages, a pool, by value.
-/
import Derived.Test.YtfnmalcjhblhhaaDoorRdg
import Derived.Test.YtfnmalcjhblhhaaDoorPag
namespace Go.Proofs.YtfnmalcjhblhhaaDoor.Lab
open Go.RowKit Go.ChangeShapes Go.WideShapes
set_option linter.unusedVariables false
theorem Tryd.cellsPage : Tryd.prog.cellsOf 130 = 2 := by kernel_rfl
set_option maxRecDepth 20000 in
/-- A page's two cells, out of its reading. -/
theorem page_cells {H : Type} {enc : TypeId × Value → H} {W : World} {sp : Nat → Bool} {held : Bool} {fuel : Nat} {c0 c1 : Value} {x : DataW H × List MemPlace} (h : DataW.trod enc Tryd.prog W 0 sp held fuel 130 [c0, c1] = some x) :
    ∃ l n, c0 = .int .i64 l ∧ c1 = .int .i64 n ∧ i64In l ∧ i64In n := by
  obtain ⟨y0, y1, m, hx, _, hy0, hy1⟩ := trod_struct2 Tryd.underlying130 h
  obtain ⟨l, e0, _, wl⟩ := DataW.trod_int Tryd.underlying3 hy0
  obtain ⟨n, e1, _, wn⟩ := DataW.trod_int Tryd.underlying3 hy1
  simp [Tryd.cellsInt] at e0 e1
  exact ⟨l, n, e0, e1, in_of_wf wl, in_of_wf wn⟩
set_option maxRecDepth 20000 in
theorem open_page {H : Type} {enc : TypeId × Value → H} {W : World} {r : Reach} {base : Nat} {sp : Nat → Bool} {v : Value} {d : DataW H} {ps : List MemPlace} (hval : Value.okWide Tryd.prog W r base 130 v)
    (h : DataW.Trod enc Tryd.prog W 0 sp true 130 v d ps) : ∃ l n, v = .agg #[.int .i64 l, .int .i64 n] ∧ i64In l ∧ i64In n := by
  obtain ⟨cs, rfl, hsz⟩ := okWide_struct Tryd.underlying130 hval
  rw [Tryd.cellsPage] at hsz
  obtain ⟨k⟩ := cs
  match k, hsz with
  | [c0, c1], _ =>
    obtain ⟨fuel, hf⟩ := h
    obtain ⟨l, n, rfl, rfl, h1, h2⟩ := page_cells hf
    exact ⟨l, n, rfl, h1, h2⟩
/-- Pages that came in. -/
def PagesIn (w : World) (v : Value) (xs : List (Int × Int)) : Prop := RowAt 2 encPage w v xs ∧ xs.length ≤ maxLen ∧ ∀ x ∈ xs, i64In x.1 ∧ i64In x.2
set_option maxRecDepth 20000 in
theorem pages_of {H : Type} {enc : TypeId × Value → H} {W : World} {sp : Nat → Bool} {fuel : Nat} {cs : List Value} {x : DataW H × List MemPlace} (hf : DataW.trod enc Tryd.prog W 0 sp true fuel 72 cs = some x) :
    ∃ v xs, cs = [v] ∧ PagesIn W v xs := by
  obtain ⟨v1, ns, h1, r1, g1, l1⟩ := row_of_reading (s := 2) (e2 := encPage) (good := fun x => i64In x.1 ∧ i64In x.2) (by decide) Tryd.underlying72 Tryd.cellsPage (fun n cs' y hl ht => by
      match cs', hl with
      | [c0, c1], _ =>
        obtain ⟨l, n, rfl, rfl, p1, p2⟩ := page_cells ht
        exact ⟨(l, n), rfl, p1, p2⟩) hf
  exact ⟨v1, ns, h1, r1, l1, g1⟩
set_option maxRecDepth 20000 in
theorem open_pages {H : Type} {enc : TypeId × Value → H} {W : World} {r : Reach} {base : Nat} {sp : Nat → Bool} {v : Value} {d : DataW H} {ps : List MemPlace} (hval : Value.okWide Tryd.prog W r base 72 v)
    (h : DataW.Trod enc Tryd.prog W 0 sp true 72 v d ps) : ∃ xs, PagesIn W v xs := by
  obtain ⟨a, len, cap, rfl⟩ := okWide_slice Tryd.underlying72 hval
  obtain ⟨fuel, hf⟩ := h
  obtain ⟨v1, ns, h1, r1⟩ := pages_of hf
  simp [Value.cells] at h1
  subst h1
  exact ⟨ns, r1⟩
theorem Tryd.cellsPool : Tryd.prog.cellsOf 74 = 2 := by kernel_rfl
theorem Tryd.cellsPages : Tryd.prog.cellsOf 72 = 1 := by kernel_rfl
set_option maxRecDepth 20000 in
theorem open_pool {H : Type} {enc : TypeId × Value → H} {W : World} {r : Reach} {base : Nat} {sp : Nat → Bool} {v : Value} {d : DataW H} {ps : List MemPlace} (hval : Value.okWide Tryd.prog W r base 74 v)
    (h : DataW.Trod enc Tryd.prog W 0 sp true 74 v d ps) : ∃ z v1 xs, v = .agg #[.int .i64 z, v1] ∧ i64In z ∧ PagesIn W v1 xs := by
  obtain ⟨cs, rfl, hsz⟩ := okWide_struct Tryd.underlying74 hval
  rw [Tryd.cellsPool] at hsz
  obtain ⟨k⟩ := cs
  match k, hsz with
  | [c0, c1], _ =>
    obtain ⟨fuel, hf⟩ := h
    obtain ⟨y0, y1, m, hx, _, hy0, hy1⟩ := trod_struct2 Tryd.underlying74 hf
    obtain ⟨z, e0, _, wz⟩ := DataW.trod_int Tryd.underlying3 hy0
    simp [Value.cells, Tryd.cellsInt, Tryd.cellsPages] at e0 hy1
    obtain ⟨v1, ns, h1, r1⟩ := pages_of hy1
    simp at h1
    subst h1 e0
    exact ⟨z, c1, ns, rfl, in_of_wf wz, r1⟩
end Go.Proofs.YtfnmalcjhblhhaaDoor.Lab
