/-
  At every label and places impl.PageSpan answers as the specification; its answer owns its memory, behind another call too.
-/
import Derived.Test.YthkdadgccjilkaaRows
import Derived.Test.YthkdadgccjilkaaNod
import Derived.Test.YthkdadgccjilkaaRow
import Derived.Test.YthkdadgccjilkaaPag
import Derived.Test.YthkdadgccjilkaaPsp
import Derived.WalkKit
import Derived.ProofKit
import Derived.OpenShut
import Derived.ShutString
import Derived.ChangeOld
import Derived.Below
import Derived.Carry
import Derived.Handy
import Derived.Deep.RegionHeld3
namespace Go.Proofs.Ythkdadgccjilkaa.fnExactPageSpan
open Go.Proofs.Ythkdadgccjilkaa.Lab
open Go.ChangeShapes Go.WideShapes Go.ChangeAt Go.RowKit
open Go.ChangeMaps (open_string shut_string)
set_option linter.unusedVariables false

theorem own : ownKnob Try.prog.godebug = none := by kernel_rfl
theorem laidOut : laidOutB Try.prog = true := by kernel_rfl
/-- A row of numbers that came in: nil, or so many cells. -/
def IsRow (k : IntKind) (w : World) (a : Option Addr) (len cap : Nat) (zs : List Int) : Prop :=
  (a = none ∧ len = 0 ∧ cap = 0 ∧ zs = []) ∨ ∃ x, a = some x ∧ len ≤ cap ∧ cap ≤ maxLen ∧ zs.length = cap ∧ (∀ i, i < zs.length → w.cell? (x.add i) = some (.int k (zs.getD i 0))) ∧ ∀ n ∈ zs, (Lit.int k n).wf = true

set_option maxHeartbeats 4000000 in
theorem walk (a0 : Int) (a1 : Int) (a2 : Int) (w : World) (w0 : (Lit.int .i64 a0).wf = true) (w1 : (Lit.int .i64 a1).wf = true) (w2 : (Lit.int .i64 a2).wf = true) :
    Calls Try.prog 6 #[.int .i64 a0, .int .i64 a1, .int .i64 a2] w fun e w' => e = .returned (.bool true) ∧ Below w.heap.size w w' := by
  have HA : Hid (Below w.heap.size w w) := Below.refl _ _
  have lv : (spanL a0 a1 a2).length ≤ 1048576 := Nat.le_trans (spanL_le _ _ _) (by omega)
  obtain ⟨M, hM⟩ : ∃ M, M = (spanL a0 a1 a2).length := ⟨_, rfl⟩
  have HM : Hid (M = (spanL a0 a1 a2).length) := hM
  have lM : M ≤ 1048576 := by omega
  clear hM
  go_enter Try.func6, Try.ntmps6
  go_wp2_with fail
  refine (spec_PageSpan a0 a1 a2 _).mono ?_
  rintro e w2 ⟨y0, rfl, oy0, by0⟩
  have Hw2 : Hid (Below w.heap.size w w2) := HA.out.trans (by0.mono HA.out.size)
  have Oy0_w2 : Hid (w2.ownsRow w.heap.size 26 2 y0 (spanL a0 a1 a2).length ((spanL a0 a1 a2).flatMap encPage)) := own_mono oy0 HA.out.size
  clear oy0 by0
  go_wp2_with fail
  refine (impl_PageSpan a0 a1 a2 _).mono ?_
  rintro e w3 ⟨g0, rfl, og0, bg0⟩
  have Hw3 : Hid (Below w.heap.size w w3) := Hw2.out.trans (bg0.mono Hw2.out.size)
  have AP_g0_y0 : Hid (∀ g, Value.ownBlock g0 = some g → Value.ownBlock y0 = some g → False) := fun g h1 h2 => by have := (og0.lt g h1).1; have := (Oy0_w2.out.lt g h2).2; omega
  have Oy0_w3 : Hid (w3.ownsRow w.heap.size 26 2 y0 (spanL a0 a1 a2).length ((spanL a0 a1 a2).flatMap encPage)) := own_keep Oy0_w2.out bg0
  have Og0_w3 : Hid (w3.ownsRow w.heap.size 26 2 g0 (spanL a0 a1 a2).length ((spanL a0 a1 a2).flatMap encPage)) := own_mono og0 Hw2.out.size
  clear og0 bg0
  go_wp2_with fail
  refine (eqPageS g0 y0 (spanL a0 a1 a2) (spanL a0 a1 a2) _ (row_of_own encPage_len (by decide) Og0_w3.out) (row_of_own encPage_len (by decide) Oy0_w3.out) lv lv).mono ?_
  rintro e w4 ⟨rfl, bw4⟩
  have Hw4 : Hid (Below w.heap.size w w4) := Hw3.out.trans (bw4.mono Hw3.out.size)
  have Oy0_w4 : Hid (w4.ownsRow w.heap.size 26 2 y0 (spanL a0 a1 a2).length ((spanL a0 a1 a2).flatMap encPage)) := own_keep Oy0_w3.out bw4
  have Og0_w4 : Hid (w4.ownsRow w.heap.size 26 2 g0 (spanL a0 a1 a2).length ((spanL a0 a1 a2).flatMap encPage)) := own_keep Og0_w3.out bw4
  clear bw4
  rw [eqB_true.2 rfl]
  go_wp2_with fail
  refine (markPageS w.heap.size (spanL a0 a1 a2).length g0 1 _ _ (by omega) (by omega) lv Og0_w4.out).mono ?_
  rintro e w5 ⟨rfl, ow5, gw5⟩
  have Hw5 : Hid (Below w.heap.size w w5) := Hw4.out.grown gw5 Hw4.out.size (fun g hg => (Og0_w4.out.lt g hg).1)
  have Oy0_w5 : Hid (w5.ownsRow w.heap.size 26 2 y0 (spanL a0 a1 a2).length ((spanL a0 a1 a2).flatMap encPage)) := own_gr Oy0_w4.out gw5 (fun k h1 h2 => (AP_g0_y0.out k h2 h1))
  have Og0_w5 : Hid (w5.ownsRow w.heap.size 26 2 g0 (marksPage 1 (spanL a0 a1 a2).length).length ((marksPage 1 (spanL a0 a1 a2).length).flatMap encPage)) := by show w5.ownsRow w.heap.size 26 2 g0 (marksPage 1 (spanL a0 a1 a2).length).length ((marksPage 1 (spanL a0 a1 a2).length).flatMap encPage); rw [marksPage_len]; exact ow5
  clear ow5 gw5
  rw [← HM.out]
  have nm : ¬ (1 + 2 * (M : Int)) < 0 := by omega
  have nb : ((1 + 2 * (M : Int)) != (1 + 2 * (M : Int))) = false := by simp
  go_wp2_with fail
  refine (heldPageB (spanL a0 a1 a2).length g0 1 _ (by omega) (by omega) lv (row_of_own encPage_len (by decide) Og0_w5.out)).mono ?_
  rintro e w6 ⟨rfl, bw6⟩
  have Hw6 : Hid (Below w.heap.size w w6) := Hw5.out.trans (bw6.mono Hw5.out.size)
  have Oy0_w6 : Hid (w6.ownsRow w.heap.size 26 2 y0 (spanL a0 a1 a2).length ((spanL a0 a1 a2).flatMap encPage)) := own_keep Oy0_w5.out bw6
  have Og0_w6 : Hid (w6.ownsRow w.heap.size 26 2 g0 (marksPage 1 (spanL a0 a1 a2).length).length ((marksPage 1 (spanL a0 a1 a2).length).flatMap encPage)) := own_keep Og0_w5.out bw6
  clear bw6
  rw [← HM.out]
  go_wp2_with fail
  refine (impl_PageSpan a0 a1 a2 _).mono ?_
  rintro e w7 ⟨h0, rfl, oh0, bh0⟩
  have Hw7 : Hid (Below w.heap.size w w7) := Hw6.out.trans (bh0.mono Hw6.out.size)
  have AP_h0_y0 : Hid (∀ g, Value.ownBlock h0 = some g → Value.ownBlock y0 = some g → False) := fun g h1 h2 => by have := (oh0.lt g h1).1; have := (Oy0_w6.out.lt g h2).2; omega
  have AP_h0_g0 : Hid (∀ g, Value.ownBlock h0 = some g → Value.ownBlock g0 = some g → False) := fun g h1 h2 => by have := (oh0.lt g h1).1; have := (Og0_w6.out.lt g h2).2; omega
  have Oy0_w7 : Hid (w7.ownsRow w.heap.size 26 2 y0 (spanL a0 a1 a2).length ((spanL a0 a1 a2).flatMap encPage)) := own_keep Oy0_w6.out bh0
  have Og0_w7 : Hid (w7.ownsRow w.heap.size 26 2 g0 (marksPage 1 (spanL a0 a1 a2).length).length ((marksPage 1 (spanL a0 a1 a2).length).flatMap encPage)) := own_keep Og0_w6.out bh0
  have Oh0_w7 : Hid (w7.ownsRow w.heap.size 26 2 h0 (spanL a0 a1 a2).length ((spanL a0 a1 a2).flatMap encPage)) := own_mono oh0 Hw6.out.size
  clear oh0 bh0
  go_wp2_with fail
  refine (eqPageS h0 y0 (spanL a0 a1 a2) (spanL a0 a1 a2) _ (row_of_own encPage_len (by decide) Oh0_w7.out) (row_of_own encPage_len (by decide) Oy0_w7.out) lv lv).mono ?_
  rintro e w8 ⟨rfl, bw8⟩
  have Hw8 : Hid (Below w.heap.size w w8) := Hw7.out.trans (bw8.mono Hw7.out.size)
  have Oy0_w8 : Hid (w8.ownsRow w.heap.size 26 2 y0 (spanL a0 a1 a2).length ((spanL a0 a1 a2).flatMap encPage)) := own_keep Oy0_w7.out bw8
  have Og0_w8 : Hid (w8.ownsRow w.heap.size 26 2 g0 (marksPage 1 (spanL a0 a1 a2).length).length ((marksPage 1 (spanL a0 a1 a2).length).flatMap encPage)) := own_keep Og0_w7.out bw8
  have Oh0_w8 : Hid (w8.ownsRow w.heap.size 26 2 h0 (spanL a0 a1 a2).length ((spanL a0 a1 a2).flatMap encPage)) := own_keep Oh0_w7.out bw8
  clear bw8
  rw [eqB_true.2 rfl]
  go_wp2_with fail
  refine (heldPageB (spanL a0 a1 a2).length g0 1 _ (by omega) (by omega) lv (row_of_own encPage_len (by decide) Og0_w8.out)).mono ?_
  rintro e w9 ⟨rfl, bw9⟩
  have Hw9 : Hid (Below w.heap.size w w9) := Hw8.out.trans (bw9.mono Hw8.out.size)
  have Oy0_w9 : Hid (w9.ownsRow w.heap.size 26 2 y0 (spanL a0 a1 a2).length ((spanL a0 a1 a2).flatMap encPage)) := own_keep Oy0_w8.out bw9
  have Og0_w9 : Hid (w9.ownsRow w.heap.size 26 2 g0 (marksPage 1 (spanL a0 a1 a2).length).length ((marksPage 1 (spanL a0 a1 a2).length).flatMap encPage)) := own_keep Og0_w8.out bw9
  have Oh0_w9 : Hid (w9.ownsRow w.heap.size 26 2 h0 (spanL a0 a1 a2).length ((spanL a0 a1 a2).flatMap encPage)) := own_keep Oh0_w8.out bw9
  clear bw9
  rw [← HM.out]
  go_wp2_with fail
  go_ret
  exact ⟨rfl, Hw9.out⟩

set_option maxRecDepth 100000 in
set_option maxHeartbeats 1000000 in
theorem lifted (os : Os) (started : os.Started) (H : Type) (enc : TypeId × Value → H) :
    ReturnsInHanded {} Try.checked os 6 .any (Rows.fnExactPageSpanSpec.pre6 enc Try.prog Try.f6 Rows.fnExactPageSpanRow.domain false) (Rows.fnExactPageSpanSpec.post enc Try.prog Try.f6 false true false false) := by
  refine returnsInHanded_of_change (C := Try.checked) own started (by kernel_rfl) Try.func6
    (ChangeSpec.witness6 (enc := enc) (C := Try.checked) false ⟨#[], #[.int .i64 0, .int .i64 0, .int .i64 0], []⟩ 8 (by kernel_rfl) (by kernel_rfl) (by kernel_rfl) (by kernel_rfl)) ?_
  intro W base args ds gs before hval0 hW hcnd _
  have hval : ∀ (j : Nat) t v, Try.f6.params[j]? = some t → args[j]? = some v → Value.okWide Try.prog W .any base t v := hval0
  have hW' := hW
  obtain ⟨p, q, hA0, hV, rfl, hfz, hnd⟩ := hW
  have hA : DataW.TrodAll enc Try.prog W 0 (fun _ => true) true Try.f6.params.toList args.toList ds p := hA0
  rw [Try.params6] at hA hval
  obtain ⟨v0, vs0, d0, ds0, p0, q0, hargs, rfl, rfl, h0, r0⟩ := trodAll_cons hA
  obtain ⟨v1, vs1, d1, ds1, p1, q1, rfl, rfl, rfl, h1, r1⟩ := trodAll_cons r0
  obtain ⟨v2, vs2, d2, ds2, p2, q2, rfl, rfl, rfl, h2, r2⟩ := trodAll_cons r1
  obtain ⟨rfl, rfl, rfl⟩ := trodAll_nil r2
  obtain rfl : args = #[v0, v1, v2] := by cases args; simp_all
  obtain ⟨rfl, rfl⟩ := trodVars_none hV
  have kr0 := h0
  have lt0 : ∀ x ∈ p0, x.block < W.heap.size := by obtain ⟨m, hm⟩ := kr0; exact DataW.trod_lt m _ _ _ hm
  have kr1 := h1
  have lt1 : ∀ x ∈ p1, x.block < W.heap.size := by obtain ⟨m, hm⟩ := kr1; exact DataW.trod_lt m _ _ _ hm
  have kr2 := h2
  have lt2 : ∀ x ∈ p2, x.block < W.heap.size := by obtain ⟨m, hm⟩ := kr2; exact DataW.trod_lt m _ _ _ hm
  obtain ⟨a0, rfl, rfl, rfl, w0⟩ := open_int Try.underlying3 (hval 0 3 v0 rfl rfl) h0
  obtain ⟨a1, rfl, rfl, rfl, w1⟩ := open_int Try.underlying3 (hval 1 3 v1 rfl rfl) h1
  obtain ⟨a2, rfl, rfl, rfl, w2⟩ := open_int Try.underlying3 (hval 2 3 v2 rfl rfl) h2
  clear hA0 hval0
  refine (walk a0 a1 a2 W w0 w1 w2).mono fun e W' ⟨he, bel⟩ => ?_
  subst he
  exact ⟨_, rfl, _, _, _, [], _, [], hW', trodAll_mk1 (shut_bool Try.underlying4 _), (trodAll_cons_mk (Below.trod laidOut (by kernel_rfl) (of_decide_eq_true (by kernel_rfl)) kr0 bel lt0) (trodAll_cons_mk (Below.trod laidOut (by kernel_rfl) (of_decide_eq_true (by kernel_rfl)) kr1 bel lt1) (trodAll_cons_mk (Below.trod laidOut (by kernel_rfl) (of_decide_eq_true (by kernel_rfl)) kr2 bel lt2) trodAll_mk0))), rfl, bel.frame _, fun h => by cases h⟩

theorem over : Rows.fnExactPageSpanRow.holds Try.pinned (OpenSpec.ofChange Rows.fnExactPageSpanSpec) :=
  OpenClaim.holds_of_wide 6 Try.f6 rfl rfl rfl rfl rfl rfl rfl ⟨rfl, rfl, rfl, rfl, rfl⟩ rfl rfl rfl rfl rfl (by kernel_rfl) Try.func6 (by kernel_rfl)
    (of_decide_eq_true (by kernel_rfl)) (by unfold Func.isWrapper; first | (rw [if_pos (by decide +kernel)]; kernel_rfl) | (rw [if_neg (by decide +kernel)]; exact ⟨rfl, rfl⟩))
    (fun os started H enc _ => lifted os started H enc)

end Go.Proofs.Ythkdadgccjilkaa.fnExactPageSpan
namespace Go.Proofs.Ythkdadgccjilkaa
theorem fnExactPageSpan_holds : Rows.FnExactPageSpanSaid := fnExactPageSpan.over
#print axioms fnExactPageSpan_holds
end Go.Proofs.Ythkdadgccjilkaa
