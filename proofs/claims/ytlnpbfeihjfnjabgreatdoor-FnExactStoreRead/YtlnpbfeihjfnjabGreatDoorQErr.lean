/-
  The package's error variables: what the row's list gives of them; one read again behind a call that turns nothing old.
-/
import Derived.Test.YtlnpbfeihjfnjabGreatDoorRows
import Derived.Test.YtlnpbfeihjfnjabGreatDoorQIts
import Derived.WalkKit
import Derived.ProofKit
import Derived.OpenShut
import Derived.LaidMore
import Derived.LaidLaws
import Derived.Below
namespace Go.Proofs.YtlnpbfeihjfnjabGreatDoor.Lab
open Go.ChangeShapes Go.WideShapes Go.ChangeAt Go.RowKit
set_option linter.unusedVariables false

theorem laidOut : laidOutB Tryz.prog = true := by kernel_rfl
theorem heap_of_var {P : Program} {w : World} {n : String} {g : Nat} {cs : Array Value} (hg : P.globalNamed n = some g) (h : w.var? P n = some cs) : ∃ t fr, w.heap[g]? = some (.cells cs t fr) := by
  unfold World.var? at h
  rw [hg, Option.bind_some] at h
  split at h
  · rename_i c e fr hh
    obtain rfl := Option.some.inj h
    exact ⟨e, fr, hh⟩
  · cases h
/-- What reads as an interface value that is not nil is one. -/
theorem iface_of {H : Type} {enc : TypeId × Value → H} {P : Program} {w : World} {base : Nat} {sp : Nat → Bool} {held : Bool} {fuel : Nat} {t : TypeId} {ms : Array (String × TypeId)} {cs : List Value} {n : String} {d : DataW H} {p : List MemPlace}
    (ht : P.underlying t = some (.interface ms)) (h : DataW.trod enc P w base sp held fuel t cs = some (.iface n d, p)) : ∃ u v, cs = [.iface u v] := by
  cases fuel with
  | zero => simp [DataW.trod] at h
  | succ fuel =>
    unfold DataW.trod at h
    rw [ht] at h
    split at h <;> simp_all
/-- An interface value is read by its cell alone. -/
theorem held_again {H : Type} {enc : TypeId × Value → H} {P : Program} {w w' : World} {base : Nat} {sp sp' : Nat → Bool} {fuel : Nat} {t u : TypeId} {v : Value} {ms : Array (String × TypeId)} {x : DataW H × List MemPlace}
    (ht : P.underlying t = some (.interface ms)) (h : DataW.trod enc P w base sp true fuel t [.iface u v] = some x) : DataW.trod enc P w' base sp' true fuel t [.iface u v] = some x := by
  cases fuel with
  | zero => simp [DataW.trod] at h
  | succ fuel =>
    unfold DataW.trod at h ⊢
    rw [ht] at h ⊢
    simpa using h
theorem gForm : Tryz.prog.globalNamed "loop.example/hagioscope/impl.errForm" = some 0 := by kernel_rfl
theorem tForm : (Tryz.prog.globals[0]?).map (·.type) = some 64 := by kernel_rfl
/-- The variable holds an error that is not nil. -/
def FormAt (w : World) : Prop := ∃ t v, w.cell? ⟨0, 0, none⟩ = some (.iface t v)
theorem FormAt.lt {w : World} (h : FormAt w) : 0 < w.heap.size := by
  obtain ⟨t, v, h⟩ := h
  rcases Nat.lt_or_ge 0 w.heap.size with h' | h'
  · exact h'
  · simp [World.cell?, Array.getElem?_eq_none h'] at h
theorem FormAt.keep {w w' : World} (h : FormAt w) (hb : Below w.heap.size w w') : FormAt w' := by
  have hl := h.lt
  obtain ⟨t, v, h⟩ := h
  exact ⟨t, v, by rw [hb.cell (p := ⟨0, 0, none⟩) hl]; exact h⟩
theorem form_of {W : World} (h : laidMetH Tryz.prog [("loop.example/hagioscope/impl.errForm", Rows.laid_loop_example_hagioscope_impl_errForm)] W) : ∃ u v, W.var? Tryz.prog "loop.example/hagioscope/impl.errForm" = some #[.iface u v] := by
  rw [MakeChecks.laidMetH_plain _ _ _ (by kernel_rfl)] at h
  obtain ⟨ps, ⟨g0, t0, cs0, f0, p0, q0, hg0, ht0, hv0, hd0, _, _⟩, _⟩ := h
  obtain rfl := Option.some.inj (gForm.symm.trans hg0)
  obtain rfl := Option.some.inj (tForm.symm.trans ht0)
  obtain ⟨u, v, hc⟩ := iface_of Tryz.underlying64 hd0
  refine ⟨u, v, ?_⟩
  rw [hv0]
  cases cs0 with
  | mk l => simp only at hc; rw [hc]
theorem formAt_of {W : World} {u : TypeId} {v : Value} (h : W.var? Tryz.prog "loop.example/hagioscope/impl.errForm" = some #[.iface u v]) : FormAt W := by
  obtain ⟨t, fr, hh⟩ := heap_of_var gForm h
  exact ⟨u, v, by simp [World.cell?, hh]⟩
end Go.Proofs.YtlnpbfeihjfnjabGreatDoor.Lab
