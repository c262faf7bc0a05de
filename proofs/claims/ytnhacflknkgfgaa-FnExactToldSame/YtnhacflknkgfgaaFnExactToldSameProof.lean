/-
  ToldSame of the program answers as the model, at every argument; it writes into no argument.
-/
import Derived.Test.YtnhacflknkgfgaaRows
import Derived.Test.YtnhacflknkgfgaaTol
import Derived.Test.YtnhacflknkgfgaaOpt
import Derived.WalkKit
import Derived.ProofKit
import Derived.OpenShut
import Derived.ShutString
import Derived.ChangeOld
import Derived.Below
import Derived.Carry
import Derived.Handy
import Derived.Deep.RegionHeld3
namespace Go.Proofs.Ytnhacflknkgfgaa.fnExactToldSame
open Go.Proofs.Ytnhacflknkgfgaa.Lab
open Go.ChangeShapes Go.WideShapes Go.ChangeAt Go.RowKit
open Go.ChangeMaps (open_string shut_string)
set_option linter.unusedVariables false

theorem own : ownKnob Try.prog.godebug = none := by kernel_rfl
theorem laidOut : laidOutB Try.prog = true := by kernel_rfl
/-- A row of numbers that came in: nil, or so many cells. -/
def IsRow (k : IntKind) (w : World) (a : Option Addr) (len cap : Nat) (zs : List Int) : Prop :=
  (a = none ∧ len = 0 ∧ cap = 0 ∧ zs = []) ∨ ∃ x, a = some x ∧ len ≤ cap ∧ cap ≤ maxLen ∧ zs.length = cap ∧ (∀ i, i < zs.length → w.cell? (x.add i) = some (.int k (zs.getD i 0))) ∧ ∀ n ∈ zs, (Lit.int k n).wf = true

set_option maxHeartbeats 4000000 in
theorem walk (v0 : Value) (xs0 : List (Int × (Value × List Int) × Int)) (v1 : Value) (xs1 : List (Int × (Value × List Int) × Int)) (w : World) (w0 : ToldsIn w v0 xs0) (w1 : ToldsIn w v1 xs1) :
    Calls Try.prog 6 #[v0, v1] w fun e w' => e = .returned (.bool true) ∧ Below w.heap.size w w' := by
  obtain ⟨r0, m0, g0⟩ := w0
  obtain ⟨r1, m1, g1⟩ := w1
  simp only [maxLen, Nat.reducePow, Nat.reduceSub] at m0 m1 g0 g1
  have HR : Hid (AtTold w v0 xs0 ∧ AtTold w v1 xs1) := ⟨r0, r1⟩
  have HM : Hid ((∀ x ∈ xs0, x.2.1.2.length ≤ 9223372036854775807) ∧ ∀ x ∈ xs1, x.2.1.2.length ≤ 9223372036854775807) := ⟨g0, g1⟩
  clear r0 r1 g0 g1
  go_enter Try.func6, Try.ntmps6
  go_wp2_with fail
  refine (szToldS v0 xs0 1048576 _ HR.out.1 (by omega) (by omega) m0 HM.out.1).mono ?_
  rintro e wa ⟨⟨p, rfl, p0, p1, p2⟩, ba⟩
  have HA : Hid (Below w.heap.size w wa) := ba
  clear ba
  by_cases hA : p < 0
  · go_wp2_with fail
    go_ret
    exact ⟨rfl, HA.out⟩
  have F0 : Hid (FewTold xs0) := p2 (by omega)
  clear p2
  go_wp2_with fail
  refine (szToldS v1 xs1 p _ (HR.out.2.keep HA.out) (by omega) (by omega) m1 HM.out.2).mono ?_
  rintro e wb ⟨⟨q, rfl, q0, q1, q2⟩, bb⟩
  have Hwb : Hid (Below w.heap.size w wb) := HA.out.trans (bb.mono HA.out.size)
  clear bb HA
  by_cases hB : q < 0
  · go_wp2_with fail
    go_ret
    exact ⟨rfl, Hwb.out⟩
  have F1 : Hid (FewTold xs1) := q2 (by omega)
  clear q2
  clear m0 m1
  go_wp2_with fail
  refine (toToldS v0 xs0 _ (HR.out.1.keep Hwb.out) F0.out).mono ?_
  rintro e w2 ⟨u1, y1, rfl, eu1, ou1, bu1⟩
  have Hw2 : Hid (Below w.heap.size w w2) := Hwb.out.trans (bu1.mono Hwb.out.size)
  have Ru1 : Hid (AtTold w2 u1 y1) := ou1.at
  have Su1 : Hid (FewTold y1 ∧ y1.map plTold = xs0.map plTold) := ⟨F0.out.same eu1, eu1⟩
  clear ou1 bu1 eu1
  go_wp2_with fail
  refine (toToldS v1 xs1 _ (HR.out.2.keep Hw2.out) F1.out).mono ?_
  rintro e w3 ⟨u2, y2, rfl, eu2, ou2, bu2⟩
  have Hw3 : Hid (Below w.heap.size w w3) := Hw2.out.trans (bu2.mono Hw2.out.size)
  have qu1 : Hid (AtTold w3 u1 y1) := Ru1.out.keep bu2
  clear Ru1
  have Ru1 := qu1
  clear qu1
  have Ru2 : Hid (AtTold w3 u2 y2) := ou2.at
  have Su2 : Hid (FewTold y2 ∧ y2.map plTold = xs1.map plTold) := ⟨F1.out.same eu2, eu2⟩
  clear ou2 bu2 eu2
  go_wp2_with fail
  refine (spec_ToldSame u1 u2 y1 y2 _ Ru1.out Ru2.out Su1.out.1 Su2.out.1).mono ?_
  rintro e w4 ⟨rfl, bz⟩
  have Hw4 : Hid (Below w.heap.size w w4) := Hw3.out.trans (bz.mono Hw3.out.size)
  have qu1 : Hid (AtTold w4 u1 y1) := Ru1.out.keep bz
  clear Ru1
  have Ru1 := qu1
  clear qu1
  have qu2 : Hid (AtTold w4 u2 y2) := Ru2.out.keep bz
  clear Ru2
  have Ru2 := qu2
  clear qu2
  clear bz
  rw [Su1.out.2, Su2.out.2]
  clear Ru1 Ru2 Su1 Su2
  generalize hbb : eqB (xs0.map plTold) (xs1.map plTold) = bb
  have HBB : Hid (eqB (xs0.map plTold) (xs1.map plTold) = bb) := hbb
  clear hbb
  have hne : (bb != bb) = false := by simp
  go_wp2_with fail
  refine (toToldS v0 xs0 _ (HR.out.1.keep Hw4.out) F0.out).mono ?_
  rintro e w5 ⟨u3, y3, rfl, eu3, ou3, bu3⟩
  have Hw5 : Hid (Below w.heap.size w w5) := Hw4.out.trans (bu3.mono Hw4.out.size)
  have Ru3 : Hid (AtTold w5 u3 y3) := ou3.at
  have Su3 : Hid (FewTold y3 ∧ y3.map plTold = xs0.map plTold) := ⟨F0.out.same eu3, eu3⟩
  clear ou3 bu3 eu3
  go_wp2_with fail
  refine (toToldS v1 xs1 _ (HR.out.2.keep Hw5.out) F1.out).mono ?_
  rintro e w6 ⟨u4, y4, rfl, eu4, ou4, bu4⟩
  have Hw6 : Hid (Below w.heap.size w w6) := Hw5.out.trans (bu4.mono Hw5.out.size)
  have qu3 : Hid (AtTold w6 u3 y3) := Ru3.out.keep bu4
  clear Ru3
  have Ru3 := qu3
  clear qu3
  have Ru4 : Hid (AtTold w6 u4 y4) := ou4.at
  have Su4 : Hid (FewTold y4 ∧ y4.map plTold = xs1.map plTold) := ⟨F1.out.same eu4, eu4⟩
  clear ou4 bu4 eu4
  go_wp2_with fail
  refine (impl_ToldSame u3 u4 y3 y4 _ Ru3.out Ru4.out Su3.out.1 Su4.out.1).mono ?_
  rintro e w7 ⟨rfl, bz⟩
  have Hw7 : Hid (Below w.heap.size w w7) := Hw6.out.trans (bz.mono Hw6.out.size)
  have qu3 : Hid (AtTold w7 u3 y3) := Ru3.out.keep bz
  clear Ru3
  have Ru3 := qu3
  clear qu3
  have qu4 : Hid (AtTold w7 u4 y4) := Ru4.out.keep bz
  clear Ru4
  have Ru4 := qu4
  clear qu4
  clear bz
  rw [Su3.out.2, Su4.out.2]
  rw [HBB.out]
  go_wp2_with fail
  refine (toToldS v0 xs0 _ (HR.out.1.keep Hw7.out) F0.out).mono ?_
  rintro e w8 ⟨u5, y5, rfl, eu5, ou5, bu5⟩
  have Hw8 : Hid (Below w.heap.size w w8) := Hw7.out.trans (bu5.mono Hw7.out.size)
  have qu3 : Hid (AtTold w8 u3 y3) := Ru3.out.keep bu5
  clear Ru3
  have Ru3 := qu3
  clear qu3
  have qu4 : Hid (AtTold w8 u4 y4) := Ru4.out.keep bu5
  clear Ru4
  have Ru4 := qu4
  clear qu4
  have Ru5 : Hid (AtTold w8 u5 y5) := ou5.at
  have Su5 : Hid (FewTold y5 ∧ y5.map plTold = xs0.map plTold) := ⟨F0.out.same eu5, eu5⟩
  clear ou5 bu5 eu5
  go_wp2_with fail
  refine (eqToldS u3 u5 y3 y5 _ Ru3.out Ru5.out Su3.out.1 Su5.out.1).mono ?_
  rintro e w9 ⟨rfl, bz⟩
  have Hw9 : Hid (Below w.heap.size w w9) := Hw8.out.trans (bz.mono Hw8.out.size)
  have qu3 : Hid (AtTold w9 u3 y3) := Ru3.out.keep bz
  clear Ru3
  have Ru3 := qu3
  clear qu3
  have qu4 : Hid (AtTold w9 u4 y4) := Ru4.out.keep bz
  clear Ru4
  have Ru4 := qu4
  clear qu4
  have qu5 : Hid (AtTold w9 u5 y5) := Ru5.out.keep bz
  clear Ru5
  have Ru5 := qu5
  clear qu5
  clear bz
  rw [Su3.out.2, Su5.out.2]
  rw [eqB_true.2 rfl]
  go_wp2_with fail
  refine (toToldS v1 xs1 _ (HR.out.2.keep Hw9.out) F1.out).mono ?_
  rintro e w10 ⟨u6, y6, rfl, eu6, ou6, bu6⟩
  have Hw10 : Hid (Below w.heap.size w w10) := Hw9.out.trans (bu6.mono Hw9.out.size)
  have qu3 : Hid (AtTold w10 u3 y3) := Ru3.out.keep bu6
  clear Ru3
  have Ru3 := qu3
  clear qu3
  have qu4 : Hid (AtTold w10 u4 y4) := Ru4.out.keep bu6
  clear Ru4
  have Ru4 := qu4
  clear qu4
  have qu5 : Hid (AtTold w10 u5 y5) := Ru5.out.keep bu6
  clear Ru5
  have Ru5 := qu5
  clear qu5
  have Ru6 : Hid (AtTold w10 u6 y6) := ou6.at
  have Su6 : Hid (FewTold y6 ∧ y6.map plTold = xs1.map plTold) := ⟨F1.out.same eu6, eu6⟩
  clear ou6 bu6 eu6
  go_wp2_with fail
  refine (eqToldS u4 u6 y4 y6 _ Ru4.out Ru6.out Su4.out.1 Su6.out.1).mono ?_
  rintro e w11 ⟨rfl, bz⟩
  have Hw11 : Hid (Below w.heap.size w w11) := Hw10.out.trans (bz.mono Hw10.out.size)
  have qu3 : Hid (AtTold w11 u3 y3) := Ru3.out.keep bz
  clear Ru3
  have Ru3 := qu3
  clear qu3
  have qu4 : Hid (AtTold w11 u4 y4) := Ru4.out.keep bz
  clear Ru4
  have Ru4 := qu4
  clear qu4
  have qu5 : Hid (AtTold w11 u5 y5) := Ru5.out.keep bz
  clear Ru5
  have Ru5 := qu5
  clear qu5
  have qu6 : Hid (AtTold w11 u6 y6) := Ru6.out.keep bz
  clear Ru6
  have Ru6 := qu6
  clear qu6
  clear bz
  rw [Su4.out.2, Su6.out.2]
  rw [eqB_true.2 rfl]
  go_wp2_with fail
  go_ret
  exact ⟨rfl, Hw11.out⟩

set_option maxRecDepth 100000 in
set_option maxHeartbeats 1000000 in
theorem lifted (os : Os) (started : os.Started) (H : Type) (enc : TypeId × Value → H) :
    ReturnsInHanded {} Try.checked os 6 .any (Rows.fnExactToldSameSpec.pre6 enc Try.prog Try.f6 Rows.fnExactToldSameRow.domain false) (Rows.fnExactToldSameSpec.post enc Try.prog Try.f6 false true false false) := by
  refine returnsInHanded_of_change (C := Try.checked) own started (by kernel_rfl) Try.func6
    (ChangeSpec.witness6 (enc := enc) (C := Try.checked) false ⟨#[], #[.slice none 0 0, .slice none 0 0], []⟩ 8 (by kernel_rfl) (by kernel_rfl) (by kernel_rfl) (by kernel_rfl)) ?_
  intro W base args ds gs before hval0 hW hcnd _
  have hval : ∀ (j : Nat) t v, Try.f6.params[j]? = some t → args[j]? = some v → Value.okWide Try.prog W .any base t v := hval0
  have hW' := hW
  obtain ⟨p, q, hA0, hV, rfl, hfz, hnd⟩ := hW
  have hA : DataW.TrodAll enc Try.prog W 0 (fun _ => true) true Try.f6.params.toList args.toList ds p := hA0
  rw [Try.params6] at hA hval
  obtain ⟨v0, vs0, d0, ds0, p0, q0, hargs, rfl, rfl, h0, r0⟩ := trodAll_cons hA
  obtain ⟨v1, vs1, d1, ds1, p1, q1, rfl, rfl, rfl, h1, r1⟩ := trodAll_cons r0
  obtain ⟨rfl, rfl, rfl⟩ := trodAll_nil r1
  obtain rfl : args = #[v0, v1] := by cases args; simp_all
  obtain ⟨rfl, rfl⟩ := trodVars_none hV
  have kr0 := h0
  have lt0 : ∀ x ∈ p0, x.block < W.heap.size := by obtain ⟨m, hm⟩ := kr0; exact DataW.trod_lt m _ _ _ hm
  have kr1 := h1
  have lt1 : ∀ x ∈ p1, x.block < W.heap.size := by obtain ⟨m, hm⟩ := kr1; exact DataW.trod_lt m _ _ _ hm
  obtain ⟨xs0, w0⟩ := open_tolds (hval 0 56 v0 rfl rfl) h0
  obtain ⟨xs1, w1⟩ := open_tolds (hval 1 56 v1 rfl rfl) h1
  clear hA0 hval0
  refine (walk v0 xs0 v1 xs1 W w0 w1).mono fun e W' ⟨he, bel⟩ => ?_
  subst he
  exact ⟨_, rfl, _, _, _, [], _, [], hW', trodAll_mk1 (shut_bool Try.underlying4 _), (trodAll_cons_mk (Below.trod laidOut (by kernel_rfl) (of_decide_eq_true (by kernel_rfl)) kr0 bel lt0) (trodAll_cons_mk (Below.trod laidOut (by kernel_rfl) (of_decide_eq_true (by kernel_rfl)) kr1 bel lt1) trodAll_mk0)), rfl, bel.frame _, fun h => by cases h⟩

theorem over : Rows.fnExactToldSameRow.holds Try.pinned (OpenSpec.ofChange Rows.fnExactToldSameSpec) :=
  OpenClaim.holds_of_wide 6 Try.f6 rfl rfl rfl rfl rfl rfl rfl ⟨rfl, rfl, rfl, rfl, rfl⟩ rfl rfl rfl rfl rfl (by kernel_rfl) Try.func6 (by kernel_rfl)
    (of_decide_eq_true (by kernel_rfl)) (by unfold Func.isWrapper; first | (rw [if_pos (by decide +kernel)]; kernel_rfl) | (rw [if_neg (by decide +kernel)]; exact ⟨rfl, rfl⟩))
    (fun os started H enc _ => lifted os started H enc)

end Go.Proofs.Ytnhacflknkgfgaa.fnExactToldSame
namespace Go.Proofs.Ytnhacflknkgfgaa
theorem fnExactToldSame_holds : Rows.FnExactToldSameSaid := fnExactToldSame.over
#print axioms fnExactToldSame_holds
end Go.Proofs.Ytnhacflknkgfgaa
