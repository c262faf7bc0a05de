/-
  Several error variables of a card: each holds an error that is not nil, and reads again behind a call that turns nothing old.
-/
import Derived.Test.YtlnpbfeihjfnjabGreatDoorErr
import Derived.Test.YtlnpbfeihjfnjabGreatDoorGki
import Derived.ChangeVars
namespace Go.Proofs.YtlnpbfeihjfnjabGreatDoor.Lab
open Go.ChangeShapes Go.WideShapes Go.ChangeAt Go.RowKit
set_option linter.unusedVariables false
/-- A variable holds an error that is not nil. -/
def Held (P : Program) (te : TypeId) (w : World) (n : String) : Prop := ∃ g u v, P.globalNamed n = some g ∧ w.var? P n = some #[.iface u v] ∧ (P.globals[g]?).map (·.type) = some te
theorem laid_held {P : Program} {te : TypeId} {ms : Array (String × TypeId)} {w : World} (ht : P.underlying te = some (.interface ms)) : ∀ (laid : List (String × DataW Unit)) (ps : List MemPlace), DataW.LaidVars P w laid ps →
    (∀ x ∈ laid, (∃ s d, x.2 = .iface s d) ∧ ∃ g, P.globalNamed x.1 = some g ∧ (P.globals[g]?).map (·.type) = some te) → ∀ x ∈ laid, Held P te w x.1
  | [], _, _, _, x, hx => by cases hx
  | (n, d) :: r, ps, h, hl, x, hx => by
    obtain ⟨g, t, cs, fuel, p, q, h1, h2, h3, h4, h5, _⟩ := h
    rcases List.mem_cons.1 hx with rfl | hx
    · obtain ⟨⟨s, d', hd⟩, g', hg, hgt⟩ := hl (n, d) (List.mem_cons_self ..)
      simp only at hd hg
      subst hd
      obtain rfl := Option.some.inj (h1.symm.trans hg)
      obtain rfl := Option.some.inj (h2.symm.trans hgt)
      obtain ⟨u, v, hc⟩ := iface_of ht h4
      refine ⟨g, u, v, h1, ?_, h2⟩
      rw [h3]
      cases cs with
      | mk l => simp only at hc; rw [hc]
    · exact laid_held ht r q h5 (fun y hy => hl y (List.mem_cons_of_mem _ hy)) x hx
theorem vars_keep {H : Type} {enc : TypeId × Value → H} {P : Program} {te : TypeId} {ms : Array (String × TypeId)} {w w' : World} {sp sp' : Nat → Bool} (ht : P.underlying te = some (.interface ms)) (bel : Below w.heap.size w w') :
    ∀ (ns : List String) (gs : List (DataW H)) (ps : List MemPlace), DataW.TrodVars enc P w sp ns gs ps → (∀ n ∈ ns, Held P te w n) → DataW.TrodVars enc P w' sp' ns gs ps
  | [], [], _, h, _ => h
  | [], _ :: _, _, h, _ => by simp [DataW.TrodVars] at h
  | _ :: _, [], _, h, _ => by simp [DataW.TrodVars] at h
  | n :: ns, d :: ds, ps, h, hi => by
    obtain ⟨g, t, cs, fuel, p, q, h1, h2, h3, h4, hs, e⟩ := h
    obtain ⟨g', u, v, k1, k2, k3⟩ := hi n (List.mem_cons_self ..)
    obtain rfl := Option.some.inj (h1.symm.trans k1)
    obtain rfl := Option.some.inj (h2.symm.trans k3)
    obtain rfl := Option.some.inj (h3.symm.trans k2)
    obtain ⟨_, _, hheap⟩ := heap_of_var h1 h3
    exact ⟨g, t, _, fuel, p, q, h1, h2, var?_below bel h1 (lt_of_block hheap) h3, held_again ht h4, vars_keep ht bel ns ds q hs (fun m hm => hi m (List.mem_cons_of_mem _ hm)), e⟩
theorem vars_len {H : Type} {enc : TypeId × Value → H} {P : Program} {w : World} {sp : Nat → Bool} : ∀ (ns : List String) (gs : List (DataW H)) (ps : List MemPlace), DataW.TrodVars enc P w sp ns gs ps → gs.length = ns.length
  | [], [], _, _ => rfl
  | [], _ :: _, _, h => by simp [DataW.TrodVars] at h
  | _ :: _, [], _, h => by simp [DataW.TrodVars] at h
  | n :: ns, d :: ds, ps, h => by
    obtain ⟨g, t, cs, fuel, p, q, h1, h2, h3, h4, hs, e⟩ := h
    simp [vars_len ns ds q hs]
theorem err_of {P : Program} {te : TypeId} {w : World} {n : String} {g : Nat} (h : Held P te w n) (hg : P.globalNamed n = some g) : ErrAt w g := by
  obtain ⟨g', u, v, h1, h2, h3⟩ := h
  obtain rfl := Option.some.inj (hg.symm.trans h1)
  obtain ⟨t, fr, hh⟩ := heap_of_var h1 h2
  exact ⟨u, v, by simp [World.cell?, hh]⟩
/-- The list of the four. -/
theorem held_of {W : World} (h : laidMetH Tryz.prog [("loop.example/hagioscope/impl.errForm", Rows.laid_loop_example_hagioscope_impl_errForm), ("loop.example/hagioscope/impl.errThere", Rows.laid_loop_example_hagioscope_impl_errThere), ("loop.example/hagioscope/impl.errNone", Rows.laid_loop_example_hagioscope_impl_errNone), ("loop.example/hagioscope/impl.errFull", Rows.laid_loop_example_hagioscope_impl_errFull)] W) :
    ∀ n ∈ ["loop.example/hagioscope/impl.errForm", "loop.example/hagioscope/impl.errThere", "loop.example/hagioscope/impl.errFull", "loop.example/hagioscope/impl.errNone"], Held Tryz.prog 64 W n := by
  rw [MakeChecks.laidMetH_plain _ _ _ (by kernel_rfl)] at h
  obtain ⟨ps, h1, _⟩ := h
  have hh := laid_held Tryz.underlying64 _ _ h1 (by
    intro x hx
    simp only [List.mem_cons, List.not_mem_nil, or_false] at hx
    rcases hx with rfl | rfl | rfl | rfl
    · exact ⟨⟨_, _, rfl⟩, 0, by kernel_rfl, by kernel_rfl⟩
    · exact ⟨⟨_, _, rfl⟩, 1, by kernel_rfl, by kernel_rfl⟩
    · exact ⟨⟨_, _, rfl⟩, 3, by kernel_rfl, by kernel_rfl⟩
    · exact ⟨⟨_, _, rfl⟩, 2, by kernel_rfl, by kernel_rfl⟩)
  intro n hn
  simp only [List.mem_cons, List.not_mem_nil, or_false] at hn
  rcases hn with rfl | rfl | rfl | rfl
  · exact hh ("loop.example/hagioscope/impl.errForm", Rows.laid_loop_example_hagioscope_impl_errForm) (by simp)
  · exact hh ("loop.example/hagioscope/impl.errThere", Rows.laid_loop_example_hagioscope_impl_errThere) (by simp)
  · exact hh ("loop.example/hagioscope/impl.errFull", Rows.laid_loop_example_hagioscope_impl_errFull) (by simp)
  · exact hh ("loop.example/hagioscope/impl.errNone", Rows.laid_loop_example_hagioscope_impl_errNone) (by simp)
theorem errs_of {W : World} (h : ∀ n ∈ ["loop.example/hagioscope/impl.errForm", "loop.example/hagioscope/impl.errThere", "loop.example/hagioscope/impl.errFull", "loop.example/hagioscope/impl.errNone"], Held Tryz.prog 64 W n) : Errs W :=
  ⟨err_of (h _ (by simp)) (show Tryz.prog.globalNamed "loop.example/hagioscope/impl.errForm" = some 0 by kernel_rfl), err_of (h _ (by simp)) (show Tryz.prog.globalNamed "loop.example/hagioscope/impl.errThere" = some 1 by kernel_rfl), err_of (h _ (by simp)) (show Tryz.prog.globalNamed "loop.example/hagioscope/impl.errFull" = some 2 by kernel_rfl), err_of (h _ (by simp)) (show Tryz.prog.globalNamed "loop.example/hagioscope/impl.errNone" = some 3 by kernel_rfl)⟩
end Go.Proofs.YtlnpbfeihjfnjabGreatDoor.Lab
