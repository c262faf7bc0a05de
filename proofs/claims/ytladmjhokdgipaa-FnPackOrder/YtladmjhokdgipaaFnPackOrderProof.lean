/-
  At every two codes of bytes: packed numbers keep their order, and none begins another. No condition.
-/
import Derived.Test.YtladmjhokdgipaaRows
import Derived.Test.YtladmjhokdgipaaDpk
import Derived.WalkKit
import Derived.ProofKit
import Derived.OpenShut
import Derived.ShutString
import Derived.ChangeOld
import Derived.Below
import Derived.Carry
import Derived.Handy
import Derived.Deep.RegionHeld3
namespace Go.Proofs.Ytladmjhokdgipaa.fnPackOrder
open Go.Proofs.Ytladmjhokdgipaa.Lab
open Go.ChangeShapes Go.WideShapes Go.ChangeAt Go.RowKit
open Go.ChangeMaps (open_string shut_string)
set_option linter.unusedVariables false

theorem own : ownKnob Try.prog.godebug = none := by kernel_rfl
theorem laidOut : laidOutB Try.prog = true := by kernel_rfl
/-- A row of numbers that came in: nil, or so many cells. -/
def IsRow (k : IntKind) (w : World) (a : Option Addr) (len cap : Nat) (zs : List Int) : Prop :=
  (a = none ∧ len = 0 ∧ cap = 0 ∧ zs = []) ∨ ∃ x, a = some x ∧ len ≤ cap ∧ cap ≤ maxLen ∧ zs.length = cap ∧ (∀ i, i < zs.length → w.cell? (x.add i) = some (.int k (zs.getD i 0))) ∧ ∀ n ∈ zs, (Lit.int k n).wf = true

set_option maxHeartbeats 4000000 in
theorem walk (a0 : Option Addr) (len0 cap0 : Nat) (z0 : List Int) (a1 : Option Addr) (len1 cap1 : Nat) (z1 : List Int) (w : World) (w0 : IsRow .u8 w a0 len0 cap0 z0) (w1 : IsRow .u8 w a1 len1 cap1 z1) :
    Calls Try.prog 3 #[.slice a0 len0 cap0, .slice a1 len1 cap1] w fun e w' => e = .returned (.bool true) ∧ Below w.heap.size w w' := by
  by_cases hlen : len0 > 1048576
  · go_enter Try.func3, Try.ntmps3
    go_wp2
    go_ret
    exact ⟨rfl, Below.refl _ _⟩
  by_cases hlen1 : len1 > 1048576
  · go_enter Try.func3, Try.ntmps3
    go_wp2
    go_ret
    exact ⟨rfl, Below.refl _ _⟩
  have k0 : CodeAt w a0 len0 cap0 z0 := code_of w0
  have k1 : CodeAt w a1 len1 cap1 z1 := code_of w1
  clear w0 w1
  go_enter Try.func3, Try.ntmps3
  go_wp2_with fail
  refine (drawPackNum _ _ _ _ _ k0).mono ?_
  rintro e wa ⟨x, rfl, hx, ba⟩
  have k1' := k1.below ba
  go_wp2_with fail
  refine (drawPackNum _ _ _ _ _ k1').mono ?_
  rintro e wb ⟨y, rfl, hy, bb⟩
  have HB : Hid (Below w.heap.size w wb) := ba.trans (bb.mono ba.size)
  have HX : Hid ((Lit.int .i64 x).wf = true ∧ (Lit.int .i64 y).wf = true) := ⟨hx, hy⟩
  clear ba bb k0 k1 k1' hx hy
  go_wp2_with fail
  refine (impl_PackNum _ _ HX.out.1).mono ?_
  rintro e wc ⟨rfl, bc⟩
  have HC : Hid (Below w.heap.size w wc) := HB.out.trans (bc.mono HB.out.size)
  clear bc
  go_wp2_with fail
  refine (impl_PackNum _ _ HX.out.2).mono ?_
  rintro e wd ⟨rfl, bd⟩
  have HD : Hid (Below w.heap.size w wd) := HC.out.trans (bd.mono HC.out.size)
  clear bd HB HC
  go_wp2_with fail
  refine (spec_PackNum _ _ HX.out.1).mono ?_
  rintro e we ⟨rfl, be⟩
  have HE : Hid (Below w.heap.size w we) := HD.out.trans (be.mono HD.out.size)
  clear be HD
  go_wp2_with fail
  refine (spec_PackNum _ _ HX.out.2).mono ?_
  rintro e wf ⟨rfl, bf⟩
  have HF : Hid (Below w.heap.size w wf) := HE.out.trans (bf.mono HE.out.size)
  clear bf HE
  by_cases x0 : pkL x = []
  · have e0 : (pkB x).toList = [] := by rw [pkB_list]; exact x0
    clear x0
    go_wp2_with fail
    all_goals
      refine (spec_PackNum _ _ HX.out.1).mono ?_
      rintro e wg ⟨rfl, bg⟩
      have HG : Hid (Below w.heap.size w wg) := HF.out.trans (bg.mono HF.out.size)
      clear bg
      go_wp2_with fail
      refine (spec_PackNum _ _ HX.out.2).mono ?_
      rintro e wh ⟨rfl, bh⟩
      have HH : Hid (Below w.heap.size w wh) := HG.out.trans (bh.mono HG.out.size)
      clear bh
      go_wp2_with fail
      go_ret
      exact ⟨rfl, HH.out⟩
  by_cases y0 : pkL y = []
  · have e0 : (pkB y).toList = [] := by rw [pkB_list]; exact y0
    have s0 : (pkB x).toList.isEmpty = false := by rw [pkB_list]; simpa using x0
    clear x0 y0
    go_wp2_with fail
    all_goals
      refine (spec_PackNum _ _ HX.out.1).mono ?_
      rintro e wg ⟨rfl, bg⟩
      have HG : Hid (Below w.heap.size w wg) := HF.out.trans (bg.mono HF.out.size)
      clear bg
      go_wp2_with fail
      refine (spec_PackNum _ _ HX.out.2).mono ?_
      rintro e wh ⟨rfl, bh⟩
      have HH : Hid (Below w.heap.size w wh) := HG.out.trans (bh.mono HG.out.size)
      clear bh
      go_wp2_with fail
      go_ret
      exact ⟨rfl, HH.out⟩
  have s0 : (pkB x).toList.isEmpty = false := by rw [pkB_list]; simpa using x0
  have s1 : (pkB y).toList.isEmpty = false := by rw [pkB_list]; simpa using y0
  have F1 : Hid ((pkB x).size ≤ (pkB y).size → (((pkB y).extract 0 (pkB x).size).toList == (pkB x).toList) = (x == y)) := by
    intro hs
    rw [pkL_nil] at x0 y0
    rw [pkB_size, pkB_size] at hs
    have := pk_pre (by omega) (by omega) hs
    rw [Bool.eq_iff_iff, beq_iff_eq, beq_iff_eq, ext_list, pkB_list, pkB_list, pkB_size]
    exact this
  have F2 : Hid (Op.bytesLess (pkB x).toList (pkB y).toList = decide (x < y)) := by
    rw [pkL_nil] at x0 y0
    rw [pkB_list, pkB_list]
    exact pk_less (by omega) (by omega)
  have F3 : Hid (x ≤ y → (pkB x).size ≤ (pkB y).size) := by
    intro hs
    rw [pkL_nil] at x0 y0
    rw [pkB_size, pkB_size, pk_lens (by omega), pk_lens (by omega)]
    split <;> split <;> omega
  clear x0 y0
  go_wp2_with fail
  all_goals first
    | (exfalso; have h1 := F1.out (by assumption); contradiction)
    | (exfalso; have h1 := F3.out (by omega); omega)
    | (go_ret; refine ⟨?_, HF.out⟩; first | (rw [F2.out]; simp; done) | (simp; done) | (simp; assumption) | (rw [F2.out]; simp; assumption))

set_option maxRecDepth 100000 in
set_option maxHeartbeats 1000000 in
theorem lifted (os : Os) (started : os.Started) (H : Type) (enc : TypeId × Value → H) :
    ReturnsInHanded {} Try.checked os 3 .any (Rows.fnPackOrderSpec.pre6 enc Try.prog Try.f3 Rows.fnPackOrderRow.domain false) (Rows.fnPackOrderSpec.post enc Try.prog Try.f3 false true false false) := by
  refine returnsInHanded_of_change (C := Try.checked) own started (by kernel_rfl) Try.func3
    (ChangeSpec.witness6 (enc := enc) (C := Try.checked) false ⟨#[], #[.slice none 0 0, .slice none 0 0], []⟩ 8 (by kernel_rfl) (by kernel_rfl) (by kernel_rfl) (by kernel_rfl)) ?_
  intro W base args ds gs before hval0 hW hcnd _
  have hval : ∀ (j : Nat) t v, Try.f3.params[j]? = some t → args[j]? = some v → Value.okWide Try.prog W .any base t v := hval0
  have hW' := hW
  obtain ⟨p, q, hA0, hV, rfl, hfz, hnd⟩ := hW
  have hA : DataW.TrodAll enc Try.prog W 0 (fun _ => true) true Try.f3.params.toList args.toList ds p := hA0
  rw [Try.params3] at hA hval
  obtain ⟨v0, vs0, d0, ds0, p0, q0, hargs, rfl, rfl, h0, r0⟩ := trodAll_cons hA
  obtain ⟨v1, vs1, d1, ds1, p1, q1, rfl, rfl, rfl, h1, r1⟩ := trodAll_cons r0
  obtain ⟨rfl, rfl, rfl⟩ := trodAll_nil r1
  obtain rfl : args = #[v0, v1] := by cases args; simp_all
  obtain ⟨rfl, rfl⟩ := trodVars_none hV
  have kr0 := h0
  have lt0 : ∀ x ∈ p0, x.block < W.heap.size := by obtain ⟨m, hm⟩ := kr0; exact DataW.trod_lt m _ _ _ hm
  have kr1 := h1
  have lt1 : ∀ x ∈ p1, x.block < W.heap.size := by obtain ⟨m, hm⟩ := kr1; exact DataW.trod_lt m _ _ _ hm
  obtain ⟨a0, len0, cap0, rfl⟩ := okWide_slice Try.underlying22 (hval 0 22 v0 rfl rfl)
  obtain ⟨z0, w0⟩ : ∃ zs, IsRow .u8 W a0 len0 cap0 zs := by
    obtain ⟨fuel, hf⟩ := h0
    rcases open_ints Try.underlying22 Try.underlying5 (by kernel_rfl) hf with ⟨hcs, _⟩ | ⟨x, l, c, zs, hcs, _, hl, hm, hz, _, hcell, hwz⟩
    · simp [Value.cells] at hcs
      obtain ⟨rfl, rfl, rfl⟩ := hcs
      exact ⟨[], .inl ⟨rfl, rfl, rfl, rfl⟩⟩
    · simp [Value.cells] at hcs
      obtain ⟨rfl, rfl, rfl⟩ := hcs
      exact ⟨zs, .inr ⟨_, rfl, hl, hm, by simpa using hz, hcell, hwz⟩⟩
  obtain ⟨a1, len1, cap1, rfl⟩ := okWide_slice Try.underlying22 (hval 1 22 v1 rfl rfl)
  obtain ⟨z1, w1⟩ : ∃ zs, IsRow .u8 W a1 len1 cap1 zs := by
    obtain ⟨fuel, hf⟩ := h1
    rcases open_ints Try.underlying22 Try.underlying5 (by kernel_rfl) hf with ⟨hcs, _⟩ | ⟨x, l, c, zs, hcs, _, hl, hm, hz, _, hcell, hwz⟩
    · simp [Value.cells] at hcs
      obtain ⟨rfl, rfl, rfl⟩ := hcs
      exact ⟨[], .inl ⟨rfl, rfl, rfl, rfl⟩⟩
    · simp [Value.cells] at hcs
      obtain ⟨rfl, rfl, rfl⟩ := hcs
      exact ⟨zs, .inr ⟨_, rfl, hl, hm, by simpa using hz, hcell, hwz⟩⟩
  clear hA0 hval0
  refine (walk a0 len0 cap0 z0 a1 len1 cap1 z1 W w0 w1).mono fun e W' ⟨he, bel⟩ => ?_
  subst he
  exact ⟨_, rfl, _, _, _, [], _, [], hW', trodAll_mk1 (shut_bool Try.underlying4 _), (trodAll_cons_mk (Below.trod laidOut (by kernel_rfl) (of_decide_eq_true (by kernel_rfl)) kr0 bel lt0) (trodAll_cons_mk (Below.trod laidOut (by kernel_rfl) (of_decide_eq_true (by kernel_rfl)) kr1 bel lt1) trodAll_mk0)), rfl, bel.frame _, fun h => by cases h⟩

theorem over : Rows.fnPackOrderRow.holds Try.pinned (OpenSpec.ofChange Rows.fnPackOrderSpec) :=
  OpenClaim.holds_of_wide 3 Try.f3 rfl rfl rfl rfl rfl rfl rfl ⟨rfl, rfl, rfl, rfl, rfl⟩ rfl rfl rfl rfl rfl (by kernel_rfl) Try.func3 (by kernel_rfl)
    (of_decide_eq_true (by kernel_rfl)) (by unfold Func.isWrapper; first | (rw [if_pos (by decide +kernel)]; kernel_rfl) | (rw [if_neg (by decide +kernel)]; exact ⟨rfl, rfl⟩))
    (fun os started H enc _ => lifted os started H enc)

end Go.Proofs.Ytladmjhokdgipaa.fnPackOrder
namespace Go.Proofs.Ytladmjhokdgipaa
theorem fnPackOrder_holds : Rows.FnPackOrderSaid := fnPackOrder.over
#print axioms fnPackOrder_holds
end Go.Proofs.Ytladmjhokdgipaa
