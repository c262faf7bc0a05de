/-
  At every two stores of at most 2^20 parts and bytes together impl.StoreSame answers as spec.StoreSame does, and writes into neither.
-/
import Derived.Test.YtgjpnhdahigodaaRows
import Derived.Test.YtgjpnhdahigodaaOps
import Derived.WalkKit
import Derived.ProofKit
import Derived.OpenShut
import Derived.ShutString
import Derived.ChangeOld
import Derived.Below
import Derived.Carry
import Derived.Handy
import Derived.Deep.RegionHeld3
namespace Go.Proofs.Ytgjpnhdahigodaa.fnExactStoreSame
open Go.Proofs.Ytgjpnhdahigodaa.Lab
open Go.ChangeShapes Go.WideShapes Go.ChangeAt Go.RowKit
open Go.ChangeMaps (open_string shut_string)
set_option linter.unusedVariables false

theorem own : ownKnob Try.prog.godebug = none := by kernel_rfl
theorem laidOut : laidOutB Try.prog = true := by kernel_rfl
/-- A row of numbers that came in: nil, or so many cells. -/
def IsRow (k : IntKind) (w : World) (a : Option Addr) (len cap : Nat) (zs : List Int) : Prop :=
  (a = none ∧ len = 0 ∧ cap = 0 ∧ zs = []) ∨ ∃ x, a = some x ∧ len ≤ cap ∧ cap ≤ maxLen ∧ zs.length = cap ∧ (∀ i, i < zs.length → w.cell? (x.add i) = some (.int k (zs.getD i 0))) ∧ ∀ n ∈ zs, (Lit.int k n).wf = true

set_option maxHeartbeats 4000000 in
theorem walk (v0 : Value) (xs0 : List (Int × List UInt8)) (v1 : Value) (xs1 : List (Int × List UInt8)) (w : World) (w0 : SegsIn w v0 xs0) (w1 : SegsIn w v1 xs1) :
    Calls Try.prog 5 #[v0, v1] w fun e w' => e = .returned (.bool true) ∧ Below w.heap.size w w' := by
  obtain ⟨r0, m0, g0⟩ := w0
  obtain ⟨r1, m1, g1⟩ := w1
  simp only [maxLen, Nat.reducePow, Nat.reduceSub] at m0 m1 g0 g1
  have HR : Hid (RowAt 2 encSeg w v0 xs0 ∧ RowAt 2 encSeg w v1 xs1) := ⟨r0, r1⟩
  have HM : Hid ((∀ x ∈ xs0, x.2.length ≤ 9223372036854775807) ∧ ∀ x ∈ xs1, x.2.length ≤ 9223372036854775807) := ⟨fun x hx => (g0 x hx).2, fun x hx => (g1 x hx).2⟩
  clear r0 r1 g0 g1
  go_enter Try.func5, Try.ntmps5
  go_wp2_with fail
  refine (szSegS v0 xs0 1048576 _ HR.out.1 (by omega) (by omega) m0 HM.out.1).mono ?_
  rintro e wa ⟨⟨p, rfl, p0, p1, p2⟩, ba⟩
  have HA : Hid (Below w.heap.size w wa) := ba
  clear ba
  by_cases hA : p < 0
  · go_wp2_with fail
    go_ret
    exact ⟨rfl, HA.out⟩
  obtain ⟨p3, _⟩ := p2 (by omega)
  clear p2
  go_wp2_with fail
  refine (szSegS v1 xs1 p _ (HR.out.2.keep HA.out) (by omega) (by omega) m1 HM.out.2).mono ?_
  rintro e wb ⟨⟨q, rfl, q0, q1, q2⟩, bb⟩
  have HB : Hid (Below w.heap.size w wb) := HA.out.trans (bb.mono HA.out.size)
  clear bb HA
  by_cases hB : q < 0
  · go_wp2_with fail
    go_ret
    exact ⟨rfl, HB.out⟩
  obtain ⟨q3, _⟩ := q2 (by omega)
  clear q2
  have l0 : xs0.length ≤ 1048576 := by omega
  have l1 : xs1.length ≤ 1048576 := by omega
  clear m0 m1
  go_wp2_with fail
  refine (toSegS v0 xs0 _ (HR.out.1.keep HB.out) l0).mono ?_
  rintro e w2 ⟨u1, rfl, ou1, bu1⟩
  have Hw2 : Hid (Below w.heap.size w w2) := HB.out.trans (bu1.mono HB.out.size)
  have Ru1_w2 : Hid (RowAt 2 encSeg w2 u1 xs0) := row_of_own encSeg_len (by decide) ou1
  clear ou1 bu1 
  go_wp2_with fail
  refine (toSegS v1 xs1 _ (HR.out.2.keep Hw2.out) l1).mono ?_
  rintro e w3 ⟨u2, rfl, ou2, bu2⟩
  have Hw3 : Hid (Below w.heap.size w w3) := Hw2.out.trans (bu2.mono Hw2.out.size)
  have Ru1_w3 : Hid (RowAt 2 encSeg w3 u1 xs0) := Ru1_w2.out.keep bu2
  have Ru2_w3 : Hid (RowAt 2 encSeg w3 u2 xs1) := row_of_own encSeg_len (by decide) ou2
  clear ou2 bu2 
  go_wp2_with fail
  refine (specStoreSame u1 u2 xs0 xs1 _ Ru1_w3.out Ru2_w3.out l0 l1).mono ?_
  rintro e w4 ⟨rfl, bw4⟩
  have Hw4 : Hid (Below w.heap.size w w4) := Hw3.out.trans (bw4.mono Hw3.out.size)
  have Ru1_w4 : Hid (RowAt 2 encSeg w4 u1 xs0) := Ru1_w3.out.keep bw4
  have Ru2_w4 : Hid (RowAt 2 encSeg w4 u2 xs1) := Ru2_w3.out.keep bw4
  clear bw4
  generalize hbb : eqB xs0 xs1 = bb
  have HBB : Hid (eqB xs0 xs1 = bb) := hbb
  clear hbb
  have hne : (bb != bb) = false := by simp
  go_wp2_with fail
  refine (toSegS v0 xs0 _ (HR.out.1.keep Hw4.out) l0).mono ?_
  rintro e w5 ⟨u3, rfl, ou3, bu3⟩
  have Hw5 : Hid (Below w.heap.size w w5) := Hw4.out.trans (bu3.mono Hw4.out.size)
  have Ru3_w5 : Hid (RowAt 2 encSeg w5 u3 xs0) := row_of_own encSeg_len (by decide) ou3
  clear ou3 bu3 
  go_wp2_with fail
  refine (toSegS v1 xs1 _ (HR.out.2.keep Hw5.out) l1).mono ?_
  rintro e w6 ⟨u4, rfl, ou4, bu4⟩
  have Hw6 : Hid (Below w.heap.size w w6) := Hw5.out.trans (bu4.mono Hw5.out.size)
  have Ru3_w6 : Hid (RowAt 2 encSeg w6 u3 xs0) := Ru3_w5.out.keep bu4
  have Ru4_w6 : Hid (RowAt 2 encSeg w6 u4 xs1) := row_of_own encSeg_len (by decide) ou4
  clear ou4 bu4 
  go_wp2_with fail
  refine (implStoreSame u3 u4 xs0 xs1 _ Ru3_w6.out Ru4_w6.out l0 l1).mono ?_
  rintro e w7 ⟨rfl, bw7⟩
  have Hw7 : Hid (Below w.heap.size w w7) := Hw6.out.trans (bw7.mono Hw6.out.size)
  have Ru3_w7 : Hid (RowAt 2 encSeg w7 u3 xs0) := Ru3_w6.out.keep bw7
  have Ru4_w7 : Hid (RowAt 2 encSeg w7 u4 xs1) := Ru4_w6.out.keep bw7
  clear bw7
  rw [HBB.out]
  go_wp2_with fail
  refine (toSegS v0 xs0 _ (HR.out.1.keep Hw7.out) l0).mono ?_
  rintro e w8 ⟨u5, rfl, ou5, bu5⟩
  have Hw8 : Hid (Below w.heap.size w w8) := Hw7.out.trans (bu5.mono Hw7.out.size)
  have Ru3_w8 : Hid (RowAt 2 encSeg w8 u3 xs0) := Ru3_w7.out.keep bu5
  have Ru4_w8 : Hid (RowAt 2 encSeg w8 u4 xs1) := Ru4_w7.out.keep bu5
  have Ru5_w8 : Hid (RowAt 2 encSeg w8 u5 xs0) := row_of_own encSeg_len (by decide) ou5
  clear ou5 bu5 
  go_wp2_with fail
  refine (eqSegS u3 u5 xs0 xs0 _ Ru3_w8.out Ru5_w8.out l0 l0).mono ?_
  rintro e w9 ⟨rfl, bw9⟩
  have Hw9 : Hid (Below w.heap.size w w9) := Hw8.out.trans (bw9.mono Hw8.out.size)
  have Ru3_w9 : Hid (RowAt 2 encSeg w9 u3 xs0) := Ru3_w8.out.keep bw9
  have Ru4_w9 : Hid (RowAt 2 encSeg w9 u4 xs1) := Ru4_w8.out.keep bw9
  have Ru5_w9 : Hid (RowAt 2 encSeg w9 u5 xs0) := Ru5_w8.out.keep bw9
  clear bw9
  rw [eqB_true.2 rfl]
  go_wp2_with fail
  refine (toSegS v1 xs1 _ (HR.out.2.keep Hw9.out) l1).mono ?_
  rintro e w10 ⟨u6, rfl, ou6, bu6⟩
  have Hw10 : Hid (Below w.heap.size w w10) := Hw9.out.trans (bu6.mono Hw9.out.size)
  have Ru4_w10 : Hid (RowAt 2 encSeg w10 u4 xs1) := Ru4_w9.out.keep bu6
  have Ru6_w10 : Hid (RowAt 2 encSeg w10 u6 xs1) := row_of_own encSeg_len (by decide) ou6
  clear ou6 bu6 
  go_wp2_with fail
  refine (eqSegS u4 u6 xs1 xs1 _ Ru4_w10.out Ru6_w10.out l1 l1).mono ?_
  rintro e w11 ⟨rfl, bw11⟩
  have Hw11 : Hid (Below w.heap.size w w11) := Hw10.out.trans (bw11.mono Hw10.out.size)
  have Ru4_w11 : Hid (RowAt 2 encSeg w11 u4 xs1) := Ru4_w10.out.keep bw11
  have Ru6_w11 : Hid (RowAt 2 encSeg w11 u6 xs1) := Ru6_w10.out.keep bw11
  clear bw11
  rw [eqB_true.2 rfl]
  go_wp2_with fail
  go_ret
  exact ⟨rfl, Hw11.out⟩

set_option maxRecDepth 100000 in
set_option maxHeartbeats 1000000 in
theorem lifted (os : Os) (started : os.Started) (H : Type) (enc : TypeId × Value → H) :
    ReturnsInHanded {} Try.checked os 5 .any (Rows.fnExactStoreSameSpec.pre6 enc Try.prog Try.f5 Rows.fnExactStoreSameRow.domain false) (Rows.fnExactStoreSameSpec.post enc Try.prog Try.f5 false true false false) := by
  refine returnsInHanded_of_change (C := Try.checked) own started (by kernel_rfl) Try.func5
    (ChangeSpec.witness6 (enc := enc) (C := Try.checked) false ⟨#[], #[.slice none 0 0, .slice none 0 0], []⟩ 8 (by kernel_rfl) (by kernel_rfl) (by kernel_rfl) (by kernel_rfl)) ?_
  intro W base args ds gs before hval0 hW hcnd _
  have hval : ∀ (j : Nat) t v, Try.f5.params[j]? = some t → args[j]? = some v → Value.okWide Try.prog W .any base t v := hval0
  have hW' := hW
  obtain ⟨p, q, hA0, hV, rfl, hfz, hnd⟩ := hW
  have hA : DataW.TrodAll enc Try.prog W 0 (fun _ => true) true Try.f5.params.toList args.toList ds p := hA0
  rw [Try.params5] at hA hval
  obtain ⟨v0, vs0, d0, ds0, p0, q0, hargs, rfl, rfl, h0, r0⟩ := trodAll_cons hA
  obtain ⟨v1, vs1, d1, ds1, p1, q1, rfl, rfl, rfl, h1, r1⟩ := trodAll_cons r0
  obtain ⟨rfl, rfl, rfl⟩ := trodAll_nil r1
  obtain rfl : args = #[v0, v1] := by cases args; simp_all
  obtain ⟨rfl, rfl⟩ := trodVars_none hV
  have kr0 := h0
  have lt0 : ∀ x ∈ p0, x.block < W.heap.size := by obtain ⟨m, hm⟩ := kr0; exact DataW.trod_lt m _ _ _ hm
  have kr1 := h1
  have lt1 : ∀ x ∈ p1, x.block < W.heap.size := by obtain ⟨m, hm⟩ := kr1; exact DataW.trod_lt m _ _ _ hm
  obtain ⟨xs0, w0⟩ := open_segs (hval 0 31 v0 rfl rfl) h0
  obtain ⟨xs1, w1⟩ := open_segs (hval 1 31 v1 rfl rfl) h1
  clear hA0 hval0
  refine (walk v0 xs0 v1 xs1 W w0 w1).mono fun e W' ⟨he, bel⟩ => ?_
  subst he
  exact ⟨_, rfl, _, _, _, [], _, [], hW', trodAll_mk1 (shut_bool Try.underlying4 _), (trodAll_cons_mk (Below.trod laidOut (by kernel_rfl) (of_decide_eq_true (by kernel_rfl)) kr0 bel lt0) (trodAll_cons_mk (Below.trod laidOut (by kernel_rfl) (of_decide_eq_true (by kernel_rfl)) kr1 bel lt1) trodAll_mk0)), rfl, bel.frame _, fun h => by cases h⟩

theorem over : Rows.fnExactStoreSameRow.holds Try.pinned (OpenSpec.ofChange Rows.fnExactStoreSameSpec) :=
  OpenClaim.holds_of_wide 5 Try.f5 rfl rfl rfl rfl rfl rfl rfl ⟨rfl, rfl, rfl, rfl, rfl⟩ rfl rfl rfl rfl rfl (by kernel_rfl) Try.func5 (by kernel_rfl)
    (of_decide_eq_true (by kernel_rfl)) (by unfold Func.isWrapper; first | (rw [if_pos (by decide +kernel)]; kernel_rfl) | (rw [if_neg (by decide +kernel)]; exact ⟨rfl, rfl⟩))
    (fun os started H enc _ => lifted os started H enc)

end Go.Proofs.Ytgjpnhdahigodaa.fnExactStoreSame
namespace Go.Proofs.Ytgjpnhdahigodaa
theorem fnExactStoreSame_holds : Rows.FnExactStoreSameSaid := fnExactStoreSame.over
#print axioms fnExactStoreSame_holds
end Go.Proofs.Ytgjpnhdahigodaa
