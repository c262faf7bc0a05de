/-
  Proved: for any two codes laws.FnLabelHas returns true and changes nothing that was there; no condition.
-/
import Derived.Test.YtlfbgafedbbahaaRows
import Derived.Test.YtlfbgafedbbahaaLabb
import Derived.Test.YtlfbgafedbbahaaDraw
import Derived.WalkKit
import Derived.ProofKit
import Derived.OpenShut
import Derived.ShutString
import Derived.ChangeOld
import Derived.Below
namespace Go.Proofs.Ytlfbgafedbbahaa.fnLabelHas
open Go.Proofs.Ytlfbgafedbbahaa.Lab
open Go.ChangeShapes Go.WideShapes Go.ChangeAt Go.RowKit
open Go.ChangeMaps (open_string shut_string)
set_option linter.unusedVariables false

theorem own : ownKnob Try.prog.godebug = none := by kernel_rfl
theorem laidOut : laidOutB Try.prog = true := by kernel_rfl

/-- WHAT THE WALK IS TOLD OF A SLICE OF INTEGERS THAT CAME IN: it is nil; or it leads to a row of 'cap' cells, the numbers 'zs' (the first 'len' are its elements, the rest its spare room), each fitting its kind. -/
def IsRow (k : IntKind) (w : World) (a : Option Addr) (len cap : Nat) (zs : List Int) : Prop :=
  (a = none ∧ len = 0 ∧ cap = 0 ∧ zs = []) ∨
  ∃ x, a = some x ∧ len ≤ cap ∧ cap ≤ maxLen ∧ zs.length = cap ∧ (∀ i, i < zs.length → w.cell? (x.add i) = some (.int k (zs.getD i 0))) ∧ ∀ n ∈ zs, (Lit.int k n).wf = true

/-! ### STEP 1: THE WALK: the Go text returns true, AND WRITES NOTHING THAT WAS THERE: 'Below w.heap.size w w'' (Derived/Below.lean: '.refl', '.alloc', '.drew', '.setCell' at a new block, '.trans'). Open each 'IsRow' by 'rcases' AHEAD of 'go_enter'; part every test ahead of the walk. -/
set_option maxHeartbeats 4000000 in
theorem walk (a0 : Option Addr) (len0 cap0 : Nat) (z0 : List Int) (a1 : Option Addr) (len1 cap1 : Nat) (z1 : List Int) (w : World) (w0 : IsRow .u8 w a0 len0 cap0 z0) (w1 : IsRow .u8 w a1 len1 cap1 z1) :
    Calls Try.prog 7 #[.slice a0 len0 cap0, .slice a1 len1 cap1] w fun e w' => e = .returned (.bool true) ∧ Below w.heap.size w w' := by
  by_cases hlen : len0 > 1048576
  · go_enter Try.func7, Try.ntmps7
    go_wp2
    go_ret
    exact ⟨rfl, Below.refl _ _⟩
  by_cases hlen1 : len1 > 1048576
  · go_enter Try.func7, Try.ntmps7
    go_wp2
    go_ret
    exact ⟨rfl, Below.refl _ _⟩
  have k0 : CodeAt w a0 len0 cap0 z0 := code_of w0
  have k1 : CodeAt w a1 len1 cap1 z1 := code_of w1
  clear w0 w1
  go_enter Try.func7, Try.ntmps7
  go_wp2_with fail
  refine (drawLabelHas _ _ _ _ _ k0).mono ?_
  rintro e wa ⟨a, i, rfl, ha, hb0, hb1, bel⟩
  have k1' := k1.below bel
  go_wp2_with fail
  refine (drawLabelHas _ _ _ _ _ k1').mono ?_
  rintro e wb ⟨b, d, rfl, hc, hd0, hd1, bel2⟩
  have HB : Hid (Below w.heap.size w wb) := bel.trans (bel2.mono bel.size)
  clear k0 k1 k1' bel bel2 ha  hc hd0 hd1 hlen hlen1
  cases hoa : okB a
  · have e1 : hasAnyB a i = false := by simp [hasAnyB, hoa]
    go_wp2_with (first | (go_at_call 9; refine use (impl_LabelUnder _ _ _) ?_) | (go_at_call 11; refine use (impl_LabelOk _ _) ?_) | (go_at_call 24; refine use (impl_LabelHas _ _ _) ?_) | (go_at_call 25; refine use (spec_LabelHas _ _ _) ?_))
    go_ret
    exact ⟨rfl, HB.out⟩
  cases hob : okB b
  · cases e1 : hasAnyB a i
    all_goals
      go_wp2_with (first | (go_at_call 9; refine use (impl_LabelUnder _ _ _) ?_) | (go_at_call 11; refine use (impl_LabelOk _ _) ?_) | (go_at_call 24; refine use (impl_LabelHas _ _ _) ?_) | (go_at_call 25; refine use (spec_LabelHas _ _ _) ?_))
      go_ret
      exact ⟨rfl, HB.out⟩
  clear hb0 hb1
  have hfin := has_all hoa hob
  have h3 : hasAnyB a 3 = false := by simp [hasAnyB]
  have hm1 : hasAnyB a (-1) = false := by simp [hasAnyB]
  have HF : Hid (underB a b = unTo a b 3 ∧ (a == b) = sameTo a b 3) := hfin
  clear hfin
  go_wp2_with (first | (go_at_call 9; refine use (impl_LabelUnder _ _ _) ?_) | (go_at_call 11; refine use (impl_LabelOk _ _) ?_) | (go_at_call 24; refine use (impl_LabelHas _ _ _) ?_) | (go_at_call 25; refine use (spec_LabelHas _ _ _) ?_))
  go_loop [9, 10, 11] (fun u s k => ∃ n : Nat, n ≤ 3 ∧ u = .bool (unTo a b n) ∧ s = .bool (sameTo a b n) ∧ k = .int .i64 n) (fun _ _ k => 3 - (intOf k).toNat)
  case atStart => exact ⟨0, by omega, rfl, rfl, rfl⟩
  case round =>
    obtain ⟨n, hn, rfl, rfl, rfl⟩ := hrel
    by_cases hlt : n < 3
    · have S1 : Hid (unTo a b (n + 1) = (unTo a b n && (!hasAnyB a n || hasAnyB b n)) ∧ sameTo a b (n + 1) = (sameTo a b n && (hasAnyB a n == hasAnyB b n))) := ⟨rfl, rfl⟩
      cases hx : hasAnyB a n <;> cases hy : hasAnyB b n <;> cases hu : unTo a b n <;> cases hs : sameTo a b n
      all_goals
        go_wp2_with (first | (go_at_call 24; refine use (impl_LabelHas _ _ _) ?_))
        go_round
        case rel => exact ⟨n + 1, by omega, by rw [S1.out.1, hx, hu]; first | rfl | (rw [hy]; rfl), by rw [S1.out.2, hs]; first | rfl | (rw [hx, hy]; rfl), by go_num⟩
        case measure => simp [intOf]; omega
    · have hn3 : n = 3 := by omega
      subst hn3
      cases hu : unTo a b 3 <;> cases hs : sameTo a b 3
      all_goals
        have q1 := HF.out.1
        have q2 := HF.out.2
        simp only [hu, hs] at q1 q2
        go_wp2_with (first | (go_at_call 9; refine use (impl_LabelUnder _ _ _) ?_) | (go_at_call 24; refine use (impl_LabelHas _ _ _) ?_))
        go_ret
        exact ⟨rfl, HB.out⟩

/-! ### THE ROW's STEP: WRITTEN OUT: LEAVE IT -/
set_option maxRecDepth 100000 in
theorem lifted (os : Os) (started : os.Started) (H : Type) (enc : TypeId × Value → H) :
    ReturnsInHanded {} Try.checked os 7 .any (Rows.fnLabelHasSpec.pre6 enc Try.prog Try.f7 Rows.fnLabelHasRow.domain false) (Rows.fnLabelHasSpec.post enc Try.prog Try.f7 false true false false) := by
  refine returnsInHanded_of_change (C := Try.checked) own started (by kernel_rfl) Try.func7
    (ChangeSpec.witness6 (enc := enc) (C := Try.checked) false ⟨#[], #[.slice none 0 0, .slice none 0 0], []⟩ 8 (by kernel_rfl) (by kernel_rfl) (by kernel_rfl) (by kernel_rfl)) ?_
  intro W base args ds gs before hval0 hW hcnd _
  have hval : ∀ (j : Nat) t v, Try.f7.params[j]? = some t → args[j]? = some v → Value.okWide Try.prog W .any base t v := hval0
  have hW' := hW
  obtain ⟨p, q, hA0, hV, rfl, hfz, hnd⟩ := hW
  have hA : DataW.TrodAll enc Try.prog W 0 (fun _ => true) true Try.f7.params.toList args.toList ds p := hA0
  rw [Try.params7] at hA hval
  obtain ⟨v0, vs0, d0, ds0, p0, q0, hargs, rfl, rfl, h0, r0⟩ := trodAll_cons hA
  obtain ⟨v1, vs1, d1, ds1, p1, q1, rfl, rfl, rfl, h1, r1⟩ := trodAll_cons r0
  obtain ⟨rfl, rfl, rfl⟩ := trodAll_nil r1
  obtain rfl : args = #[v0, v1] := by cases args; simp_all
  obtain ⟨rfl, rfl⟩ := trodVars_none hV
  obtain ⟨a0, len0, cap0, rfl⟩ := okWide_slice Try.underlying22 (hval 0 22 v0 rfl rfl)
  have k0 := h0
  have lt0 : ∀ x ∈ p0, x.block < W.heap.size := by obtain ⟨m, hm⟩ := k0; exact DataW.trod_lt m _ _ _ hm
  obtain ⟨z0, w0⟩ : ∃ zs, IsRow .u8 W a0 len0 cap0 zs := by
    obtain ⟨fuel, hf⟩ := h0
    rcases open_ints Try.underlying22 Try.underlying5 (by kernel_rfl) hf with ⟨hcs, _⟩ | ⟨x, l, c, zs, hcs, _, hl, hm, hz, _, hcell, hwz⟩
    · simp [Value.cells] at hcs
      obtain ⟨rfl, rfl, rfl⟩ := hcs
      exact ⟨[], .inl ⟨rfl, rfl, rfl, rfl⟩⟩
    · simp [Value.cells] at hcs
      obtain ⟨rfl, rfl, rfl⟩ := hcs
      exact ⟨zs, .inr ⟨_, rfl, hl, hm, by simpa using hz, hcell, hwz⟩⟩
  obtain ⟨a1, len1, cap1, rfl⟩ := okWide_slice Try.underlying22 (hval 1 22 v1 rfl rfl)
  have k1 := h1
  have lt1 : ∀ x ∈ p1, x.block < W.heap.size := by obtain ⟨m, hm⟩ := k1; exact DataW.trod_lt m _ _ _ hm
  obtain ⟨z1, w1⟩ : ∃ zs, IsRow .u8 W a1 len1 cap1 zs := by
    obtain ⟨fuel, hf⟩ := h1
    rcases open_ints Try.underlying22 Try.underlying5 (by kernel_rfl) hf with ⟨hcs, _⟩ | ⟨x, l, c, zs, hcs, _, hl, hm, hz, _, hcell, hwz⟩
    · simp [Value.cells] at hcs
      obtain ⟨rfl, rfl, rfl⟩ := hcs
      exact ⟨[], .inl ⟨rfl, rfl, rfl, rfl⟩⟩
    · simp [Value.cells] at hcs
      obtain ⟨rfl, rfl, rfl⟩ := hcs
      exact ⟨zs, .inr ⟨_, rfl, hl, hm, by simpa using hz, hcell, hwz⟩⟩
  clear hA0 hval0
  refine (walk a0 len0 cap0 z0 a1 len1 cap1 z1 W w0 w1).mono fun e W' ⟨he, bel⟩ => ?_
  subst he
  exact ⟨_, rfl, _, _, _, [], _, [], hW', trodAll_mk1 (shut_bool Try.underlying4 _), (trodAll_cons_mk (Below.trod laidOut (by kernel_rfl) (of_decide_eq_true (by kernel_rfl)) k0 bel lt0) (trodAll_cons_mk (Below.trod laidOut (by kernel_rfl) (of_decide_eq_true (by kernel_rfl)) k1 bel lt1) trodAll_mk0)), rfl, bel.frame _, fun h => by cases h⟩

theorem over : Rows.fnLabelHasRow.holds Try.pinned (OpenSpec.ofChange Rows.fnLabelHasSpec) :=
  OpenClaim.holds_of_wide 7 Try.f7 rfl rfl rfl rfl rfl rfl rfl ⟨rfl, rfl, rfl, rfl, rfl⟩ rfl rfl rfl rfl rfl (by kernel_rfl) Try.func7 (by kernel_rfl)
    (of_decide_eq_true (by kernel_rfl)) (by unfold Func.isWrapper; first | (rw [if_pos (by decide +kernel)]; kernel_rfl) | (rw [if_neg (by decide +kernel)]; exact ⟨rfl, rfl⟩))
    (fun os started H enc _ => lifted os started H enc)

/-- ████ THE STATEMENT ████ -/
theorem proved : Rows.FnLabelHasSaid := over
end Go.Proofs.Ytlfbgafedbbahaa.fnLabelHas
namespace Go.Proofs.Ytlfbgafedbbahaa
theorem fnLabelHas_holds : Rows.FnLabelHasSaid := fnLabelHas.proved
#print axioms fnLabelHas_holds
end Go.Proofs.Ytlfbgafedbbahaa
