/-
  At every question QueryOk answers as the specification.
-/
import Derived.Test.YteopageleimkbaaDoorCards
import Derived.Test.YteopageleimkbaaDoorTie
import Derived.Test.YteopageleimkbaaDoorQok
import Derived.Test.YteopageleimkbaaDoorOpq
import Derived.WalkKit
import Derived.ProofKit
import Derived.OpenShut
import Derived.ShutString
import Derived.ChangeOld
import Derived.Below
import Derived.Carry
import Derived.Handy
import Derived.Deep.RegionHeld3
import Derived.LaidMore
namespace Go.Proofs.YteopageleimkbaaDoor.fnExactQueryOk
open Go.Proofs.YteopageleimkbaaDoor.Lab
open Go.ChangeShapes Go.WideShapes Go.ChangeAt Go.RowKit
open Go.ChangeMaps (open_string shut_string)
set_option linter.unusedVariables false

theorem own : ownKnob Tryd.prog.godebug = none := by kernel_rfl
/-- A row of numbers that came in: nil, or so many cells. -/
def IsRow (k : IntKind) (w : World) (a : Option Addr) (len cap : Nat) (zs : List Int) : Prop :=
  (a = none ∧ len = 0 ∧ cap = 0 ∧ zs = []) ∨ ∃ x, a = some x ∧ len ≤ cap ∧ cap ≤ maxLen ∧ zs.length = cap ∧ (∀ i, i < zs.length → w.cell? (x.add i) = some (.int k (zs.getD i 0))) ∧ ∀ n ∈ zs, (Lit.int k n).wf = true

set_option maxHeartbeats 4000000 in
theorem walk (k0 l0 n0 : Int) (w : World) (w0 : i64In k0 ∧ i64In l0 ∧ i64In n0) (hform : FormAt w) :
    Calls Tryd.prog 3 #[.agg #[.int .i64 k0, .int .i64 l0, .int .i64 n0]] w fun e w' => e = .returned (.bool true) ∧ Below w.heap.size w w' := by
  have HF : Hid (FormAt w) := hform
  clear hform
  go_enter Tryd.func3, Tryd.ntmps3
  go_wp2_with fail
  refine (toQuery _ _ _ _).mono ?_
  rintro e w1 ⟨rfl, b1⟩
  go_wp2_with fail
  refine (spec_QueryOk _ _ _ _).mono ?_
  rintro e w2 ⟨rfl, b2⟩
  have hc := Below.celz (keep_below b1 b2)
  go_wp2_with fail
  refine (toQuery _ _ _ _).mono ?_
  rintro e w3 ⟨rfl, b3⟩
  clear hc
  have HB3 : Hid (Below w.heap.size w w3) := Below.trans (by go_grown) ((keep_below (keep_below b1 b2) b3).mono (by simp))
  clear b1 b2 b3
  go_wp2_with fail
  refine (impl_QueryOk _ _ _ _ (HF.out.keep HB3.out)).mono ?_
  rintro e w4 ⟨rfl, b4⟩
  have HB : Hid (Below w.heap.size w w4) := keep_below HB3.out b4
  clear b4
  cases qokB k0 l0 n0
  · go_wp2_with fail
    go_ret
    exact ⟨rfl, HB.out⟩
  · go_wp2_with fail
    go_ret
    exact ⟨rfl, HB.out⟩

theorem door_met (os : Os) (args : Array Value) : laidMetH Tryd.prog Rows.fnExactQueryOkRow.laid ((World.doorLaid Tryd.prog 28 os).forCall (fun _ _ => 0) ⟨#[], args, []⟩).memory :=
  laidMetH_of_parts3 (fuel := 8) (laidMet_of_run' 8 (by kernel_rfl) (by kernel_rfl)) (by kernel_rfl) (by kernel_rfl)

set_option maxRecDepth 100000 in
set_option maxHeartbeats 1000000 in
theorem lifted (os : Os) (started : os.Started) (H : Type) (enc : TypeId × Value → H) :
    ReturnsInHanded {} Tryd.checked os 3 .any (fun w args => (Rows.fnExactQueryOkSpec.pre enc Tryd.prog Tryd.f3 [] false w args ∧ laidMetH Tryd.prog Rows.fnExactQueryOkRow.laid w) ∧ sizedMet enc Tryd.prog Tryd.f3 (OpenSpec.ofChange Rows.fnExactQueryOkSpec) false w args)
      (Rows.fnExactQueryOkSpec.post enc Tryd.prog Tryd.f3 false true false false) := by
  refine returnsInHanded_of_change_and (C := Tryd.checked) (X := fun w _ => laidMetH Tryd.prog Rows.fnExactQueryOkRow.laid w) (fun _ _ _ hh h => h.of_heap hh) own started (by kernel_rfl) Tryd.func3
    (ChangeSpec.witness_shaped (enc := enc) (C := Tryd.checked) (os := os) (X := fun w _ => laidMetH Tryd.prog Rows.fnExactQueryOkRow.laid w) false (World.doorLaid Tryd.prog 28 os) #[.agg #[.int .i64 0, .int .i64 0, .int .i64 0]] 8 rfl (World.shaped_of_RefB (by kernel_rfl) (by kernel_rfl)) (by kernel_rfl) (by kernel_rfl) (by kernel_rfl) (door_met os _)) ?_
  intro W base args ds gs before hval0 hW _ _ hL _
  have hval : ∀ (j : Nat) t v, Tryd.f3.params[j]? = some t → args[j]? = some v → Value.okWide Tryd.prog W .any base t v := hval0
  have hW' := hW
  obtain ⟨p, q, hA0, hV0, rfl, hfz, hnd⟩ := hW
  have hA : DataW.TrodAll enc Tryd.prog W 0 (fun _ => true) true Tryd.f3.params.toList args.toList ds p := hA0
  have hV : DataW.TrodVars enc Tryd.prog W (fun _ => true) ["loop.example/hagioscope/impl.errForm"] gs q := hV0
  rw [Tryd.params3] at hA hval
  obtain ⟨v0, vs0, d0, ds0, p0, q0, hargs, rfl, rfl, h0, r0⟩ := trodAll_cons hA
  obtain ⟨rfl, rfl, rfl⟩ := trodAll_nil r0
  obtain rfl : args = #[v0] := by cases args; simp_all
  have kr0 := h0
  have lt0 : ∀ x ∈ p0, x.block < W.heap.size := by obtain ⟨m, hm⟩ := kr0; exact DataW.trod_lt m _ _ _ hm
  obtain ⟨k0, l0, n0, rfl, w0⟩ := open_query (hval 0 25 v0 rfl rfl) h0
  obtain ⟨g, t, cs, fuel, d, p', rfl, hg, ht, hvar, hd, rfl⟩ := trodVars_one hV
  obtain rfl := Option.some.inj (gForm.symm.trans hg)
  obtain rfl := Option.some.inj (tForm.symm.trans ht)
  obtain ⟨fu, fv, hff⟩ := form_of hL
  obtain rfl : cs = #[.iface fu fv] := Option.some.inj (hvar.symm.trans hff)
  have hform : FormAt W := formAt_of hff
  obtain ⟨_, _, hheap⟩ := heap_of_var gForm hff
  clear hA0 hV0 hval0
  refine (walk k0 l0 n0 W w0 hform).mono fun e W' ⟨he, bel⟩ => ?_
  subst he
  exact ⟨_, rfl, _, _, _, [], _, _, hW', trodAll_mk1 (shut_bool Tryd.underlying4 _), (trodAll_cons_mk (Below.trod laidOut (by kernel_rfl) (of_decide_eq_true (by kernel_rfl)) kr0 bel lt0) trodAll_mk0), trodVars_mk1 gForm tForm (var?_below bel gForm (lt_of_block hheap) hff) (held_again Tryd.underlying37 hd), bel.frame _, fun h => by cases h⟩

theorem said : Rows.FnExactQueryOkSaid :=
  OpenClaim.holds_of_wide 3 Tryd.f3 rfl rfl rfl rfl rfl rfl rfl ⟨rfl, rfl, rfl, rfl, rfl⟩ rfl rfl rfl rfl rfl (by kernel_rfl) Tryd.func3 (by kernel_rfl)
    (of_decide_eq_true (by kernel_rfl)) (by unfold Func.isWrapper; first | (rw [if_pos (by decide +kernel)]; kernel_rfl) | (rw [if_neg (by decide +kernel)]; exact ⟨rfl, rfl⟩))
    (fun os started H enc _ => lifted os started H enc)

theorem plain (f : FuncId) (fn : Func) (hf : Tryd.pinned.checked.prog.funcNamed "loop.example/hagioscope/laws.FnExactQueryOk" = some f) (hfn : Tryd.pinned.checked.prog.funcs[f]? = some fn) :
    false = Tryd.pinned.checked.prog.looks [] ∧ ∀ (j : Nat) t, fn.params[j]? = some t → Tryd.pinned.checked.prog.wantsStandIn t = false := by
  obtain rfl : f = 3 := Option.some.inj ((show Tryd.prog.funcNamed "loop.example/hagioscope/laws.FnExactQueryOk" = some 3 by kernel_rfl).symm.trans hf) |>.symm
  obtain rfl : fn = Tryd.f3 := (Option.some.inj (Tryd.func3.symm.trans hfn)).symm
  refine ⟨by kernel_rfl, fun j t ht => ?_⟩
  rw [Tryd.params3] at ht
  obtain rfl : t = 25 := by simpa using Array.mem_of_getElem? ht
  · exact (show Tryd.prog.wantsStandIn 25 = false by kernel_rfl)

end Go.Proofs.YteopageleimkbaaDoor.fnExactQueryOk
namespace Go.Proofs.YteopageleimkbaaDoor
theorem fnExactQueryOk_card : Rows.FnExactQueryOkCardSaid :=
  Claim7.holds_tied_plain_at .later [] _ _ _ _ fnExactQueryOk.said (fun _ h => by cases h) (by kernel_rfl) (fun _ h => by cases h) fnExactQueryOk_row_tie rfl ⟨rfl, rfl⟩ (by kernel_rfl) rfl fnExactQueryOk.plain (by kernel_rfl)
#print axioms fnExactQueryOk_card
end Go.Proofs.YteopageleimkbaaDoor
