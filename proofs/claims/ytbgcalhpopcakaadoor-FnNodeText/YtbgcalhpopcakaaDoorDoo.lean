/-
  From a row's list of several laid variables to what the walks ask: the table of texts, error variables.
-/
import Derived.Test.YtbgcalhpopcakaaDoorDoor
import Derived.Test.YtbgcalhpopcakaaDoorErr
namespace Go.Proofs.YtbgcalhpopcakaaDoor.Lab
open Go.ChangeShapes Go.WideShapes Go.ChangeAt Go.RowKit
set_option linter.unusedVariables false
theorem laid_at {P : Program} {w : World} : ∀ (laid : List (String × DataW Unit)) (ps : List MemPlace), DataW.LaidVars P w laid ps → ∀ x ∈ laid,
    ∃ g t cs fuel p, P.globalNamed x.1 = some g ∧ (P.globals[g]?).map (·.type) = some t ∧ w.var? P x.1 = some cs ∧ DataW.trod (fun _ => ()) P w 0 (fun _ => true) false fuel t cs.toList = some (x.2, p)
  | [], _, _, x, hx => by cases hx
  | (n, d) :: r, ps, h, x, hx => by
    obtain ⟨g, t, cs, fuel, p, q, h1, h2, h3, h4, h5, _⟩ := h
    rcases List.mem_cons.1 hx with rfl | hx
    · exact ⟨g, t, cs, fuel, p, h1, h2, h3, h4⟩
    · exact laid_at r q h5 x hx
theorem tableOf {W : World} {laid : List (String × DataW Unit)} (hp : (laid.all fun x => x.2.handleName?.isNone) = true) (hin : ("loop.example/hagioscope/impl.labelTexts", Rows.laid_loop_example_hagioscope_impl_labelTexts) ∈ laid) (h : laidMetH Tryd.prog laid W) : Table W := by
  rw [MakeChecks.laidMetH_plain _ _ _ hp] at h
  obtain ⟨ps, hl, _⟩ := h
  obtain ⟨g0, t0, cs0, f0, p0, hg0, ht0, hv0, hd0⟩ := laid_at _ _ hl _ hin
  obtain rfl := Option.some.inj (gTexts.symm.trans hg0)
  obtain rfl := Option.some.inj (tTexts.symm.trans ht0)
  have hc := cells_of_strs (zs := [[45], [97], [98], [97, 98], [99], [97, 99], [98, 99], [97, 98, 99]]) Tryd.underlying57 Tryd.underlying9 (by kernel_rfl) (by kernel_rfl) hd0
  obtain ⟨t, fr, hh⟩ := heap_of_var hg0 hv0
  refine ⟨t, fr, ?_⟩
  rw [hh]
  have : cs0 = tabA := by
    cases cs0 with
    | mk l => simp only at hc; rw [hc]; rfl
  rw [this]
/-- A listed variable that reads as an error holds one that is not nil. -/
theorem errAtOf {W : World} {laid : List (String × DataW Unit)} {n s : String} {d : DataW Unit} {g : Nat} {te : TypeId} {ms : Array (String × TypeId)} (hp : (laid.all fun x => x.2.handleName?.isNone) = true) (hin : (n, DataW.iface s d) ∈ laid) (h : laidMetH Tryd.prog laid W)
    (hg : Tryd.prog.globalNamed n = some g) (ht : (Tryd.prog.globals[g]?).map (·.type) = some te) (hu : Tryd.prog.underlying te = some (.interface ms)) : ∃ u v, W.cell? ⟨g, 0, none⟩ = some (.iface u v) := by
  rw [MakeChecks.laidMetH_plain _ _ _ hp] at h
  obtain ⟨ps, hl, _⟩ := h
  obtain ⟨g0, t0, cs0, f0, p0, hg0, ht0, hv0, hd0⟩ := laid_at _ _ hl _ hin
  obtain rfl := Option.some.inj (hg.symm.trans hg0)
  obtain rfl := Option.some.inj (ht.symm.trans ht0)
  obtain ⟨u, v, hc⟩ := iface_of hu hd0
  obtain ⟨t, fr, hh⟩ := heap_of_var hg0 hv0
  refine ⟨u, v, ?_⟩
  have : cs0 = #[Value.iface u v] := by
    cases cs0 with
    | mk l => simp only at hc; rw [hc]
  simp [World.cell?, hh, this]
end Go.Proofs.YtbgcalhpopcakaaDoor.Lab
