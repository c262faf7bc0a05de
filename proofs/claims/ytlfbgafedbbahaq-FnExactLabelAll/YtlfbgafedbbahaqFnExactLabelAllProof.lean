/-
  Proved: whatever number it is called with, laws.FnExactLabelAll returns true (impl.LabelAll answers as spec.LabelAll, in memory of its own, behind another call too) and changes nothing that was there; no condition.
-/
import Derived.Test.YtlfbgafedbbahaqRows
import Derived.Test.YtlfbgafedbbahaqAll
import Derived.Test.YtlfbgafedbbahaqRd
import Derived.WalkKit
import Derived.ProofKit
import Derived.OpenShut
import Derived.ShutString
import Derived.ChangeOld
import Derived.Below
namespace Go.Proofs.Ytlfbgafedbbahaq.fnExactLabelAll
open Go.Proofs.Ytlfbgafedbbahaq.Lab
open Go.ChangeShapes Go.WideShapes Go.ChangeAt Go.RowKit
open Go.ChangeMaps (open_string shut_string)
set_option linter.unusedVariables false      -- a walk need not use every 'w<i>' (that an integer argument fits its kind)

theorem own : ownKnob Try.prog.godebug = none := by kernel_rfl

/-! ### STEP 1: THE WALK: the Go text returns true. 'Grown w w'': the world has at most new blocks (Derived/RowKit3.lean). Part the cases AHEAD of 'go_enter' where a test parts the walk; take each callee by a contract of your own. -/
theorem walk (a0 : Int) (w0 : (Lit.int .i64 a0).wf = true) (w : World) :
    Calls Try.prog 8 #[.int .i64 a0] w fun e w' => e = .returned (.bool true) ∧ Below w.heap.size w w' := by
  --@below
  go_enter Try.func8, Try.ntmps8
  go_wp2_with fail
  refine (spec_LabelAll _ _).mono ?_
  rintro e w1 ⟨v0, rfl, own0, bel0⟩
  go_wp2_with fail
  refine (impl_LabelAll _ _).mono ?_
  rintro e w2 ⟨v1, rfl, own1, bel1⟩
  have lenb := allTo_le a0 8
  have own0' := own_below own0 bel1
  go_wp2_with fail
  refine (eqIntS _ _ _ _ _ (reads_own own1) (reads_own own0') (by omega) (by omega)).mono ?_
  rintro e w3 ⟨rfl, n3, rfl⟩
  have own1' := own_drewN own1 n3
  go_wp2_with fail
  refine (markIntS _ _ _ _ _ _ (by omega) (by omega) (by omega) own1').mono ?_
  rintro e w4 ⟨rfl, own4, gr4⟩
  have bel4 : Below w1.heap.size w1 w4 := (bel1.trans (below_drewN (Below.refl _ _) n3)).trans ((Below.refl _ _).grown gr4 (by rw [World.heap_drewN]; exact bel1.size) (fun k hk => (own1'.lt k hk).1))
  clear own0' own1' own1 bel1 gr4
  go_wp2_with fail
  refine use (heldIntS _ _ _ _ (reads_up own4) (by omega) (by omega) (by omega)) ?_
  go_wp2_with fail
  refine (impl_LabelAll _ _).mono ?_
  rintro e w5 ⟨v5, rfl, own5, bel5⟩
  have bel15 : Below w1.heap.size w1 w5 := bel4.trans (bel5.mono bel4.size)
  have own0' := own_below own0 bel15
  have own4' := own_below own4 bel5
  clear own4
  go_wp2_with fail
  refine (eqIntS _ _ _ _ _ (reads_own own5) (reads_own own0') (by omega) (by omega)).mono ?_
  rintro e w6 ⟨rfl, n6, rfl⟩
  have own6 := own_drewN own4' n6
  have bel6 : Below w.heap.size w (w5.drewN n6) := below_drewN (bel0.trans (bel15.mono bel0.size)) n6
  clear own5 own0' own4' own0 bel15 bel5 bel4 bel0
  go_wp2_with fail
  refine use (heldIntS _ _ _ _ (reads_up own6) (by omega) (by omega) (by omega)) ?_
  go_wp2_with fail
  go_ret
  exact ⟨rfl, bel6⟩

/-! ### THE ROW's STEP: WRITTEN OUT: LEAVE IT -/
set_option maxRecDepth 100000 in
theorem lifted (os : Os) (started : os.Started) (H : Type) (enc : TypeId × Value → H) :
    ReturnsInHanded {} Try.checked os 8 .any (Rows.fnExactLabelAllSpec.pre6 enc Try.prog Try.f8 Rows.fnExactLabelAllRow.domain false) (Rows.fnExactLabelAllSpec.post enc Try.prog Try.f8 false true false false) := by
  refine returnsInHanded_of_change (C := Try.checked) own started (by kernel_rfl) Try.func8
    (ChangeSpec.witness6 (enc := enc) (C := Try.checked) false ⟨#[], #[.int .i64 0], []⟩ 8 (by kernel_rfl) (by kernel_rfl) (by kernel_rfl) (by kernel_rfl)) ?_
  intro W base args ds gs before hval0 hW hcnd _
  have hval : ∀ (j : Nat) t v, Try.f8.params[j]? = some t → args[j]? = some v → Value.okWide Try.prog W .any base t v := hval0
  have hW' := hW
  obtain ⟨p, q, hA0, hV, rfl, hfz, hnd⟩ := hW
  have hA : DataW.TrodAll enc Try.prog W 0 (fun _ => true) true Try.f8.params.toList args.toList ds p := hA0
  rw [Try.params8] at hA hval
  obtain ⟨v0, vs0, d0, ds0, p0, q0, hargs, rfl, rfl, h0, r0⟩ := trodAll_cons hA
  obtain ⟨rfl, rfl, rfl⟩ := trodAll_nil r0
  obtain rfl : args = #[v0] := by cases args; simp_all
  obtain ⟨rfl, rfl⟩ := trodVars_none hV
  obtain ⟨a0, rfl, rfl, rfl, w0⟩ := open_int Try.underlying3 (hval 0 3 v0 rfl rfl) h0
  clear hA0 hval0
  refine (walk a0 w0 W).mono fun e W' ⟨he, bel⟩ => ?_
  subst he
  exact ⟨_, rfl, _, _, _, [], _, [], hW', trodAll_mk1 (shut_bool Try.underlying4 _), (trodAll_cons_mk (shut_int Try.underlying3 w0) trodAll_mk0), rfl, bel.frame _, fun h => by cases h⟩

theorem over : Rows.fnExactLabelAllRow.holds Try.pinned (OpenSpec.ofChange Rows.fnExactLabelAllSpec) :=
  OpenClaim.holds_of_wide 8 Try.f8 rfl rfl rfl rfl rfl rfl rfl ⟨rfl, rfl, rfl, rfl, rfl⟩ rfl rfl rfl rfl rfl (by kernel_rfl) Try.func8 (by kernel_rfl)
    (of_decide_eq_true (by kernel_rfl)) (by unfold Func.isWrapper; first | (rw [if_pos (by decide +kernel)]; kernel_rfl) | (rw [if_neg (by decide +kernel)]; exact ⟨rfl, rfl⟩))
    (fun os started H enc _ => lifted os started H enc)

/-- ████ THE STATEMENT ████ -/
theorem proved : Rows.FnExactLabelAllSaid :=
  over
end Go.Proofs.Ytlfbgafedbbahaq.fnExactLabelAll
namespace Go.Proofs.Ytlfbgafedbbahaq
theorem fnExactLabelAll_holds : Rows.FnExactLabelAllSaid := fnExactLabelAll.proved
#print axioms fnExactLabelAll_holds
end Go.Proofs.Ytlfbgafedbbahaq
