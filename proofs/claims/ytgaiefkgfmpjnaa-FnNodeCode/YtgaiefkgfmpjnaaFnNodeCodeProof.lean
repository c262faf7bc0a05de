/-
  at every two codes laws.FnNodeCode returns true and of what was there nothing is turned; no condition.
-/
import Derived.Test.YtgaiefkgfmpjnaaRows
import Derived.Test.YtgaiefkgfmpjnaaNod
import Derived.Test.YtgaiefkgfmpjnaaDrn
import Derived.WalkKit
import Derived.ProofKit
import Derived.OpenShut
import Derived.ShutString
import Derived.ChangeOld
import Derived.Below
import Derived.Carry
import Derived.Handy
import Derived.Deep.RegionHeld3
namespace Go.Proofs.Ytgaiefkgfmpjnaa.fnNodeCode
open Go.Proofs.Ytgaiefkgfmpjnaa.Lab
open Go.ChangeShapes Go.WideShapes Go.ChangeAt Go.RowKit
open Go.ChangeMaps (open_string shut_string)
set_option linter.unusedVariables false

theorem own : ownKnob Try.prog.godebug = none := by kernel_rfl
theorem laidOut : laidOutB Try.prog = true := by kernel_rfl
/-- A row of numbers that came in: nil, or so many cells. -/
def IsRow (k : IntKind) (w : World) (a : Option Addr) (len cap : Nat) (zs : List Int) : Prop :=
  (a = none ∧ len = 0 ∧ cap = 0 ∧ zs = []) ∨ ∃ x, a = some x ∧ len ≤ cap ∧ cap ≤ maxLen ∧ zs.length = cap ∧ (∀ i, i < zs.length → w.cell? (x.add i) = some (.int k (zs.getD i 0))) ∧ ∀ n ∈ zs, (Lit.int k n).wf = true
theorem code_sign (l n : Int) : decide (0 ≤ codeI l n) = nodeB l n := by
  unfold codeI
  cases h : nodeB l n
  · simp
  · obtain ⟨h1, h2, h3⟩ := nodeB_true h
    have := okB_true h1
    simp; omega
theorem code_one {l n l2 n2 : Int} (h : nodeB l n = true) (h2 : nodeB l2 n2 = true) : (codeI l n == codeI l2 n2) = (l == l2 && n == n2) := by
  obtain ⟨a1, a2, a3⟩ := nodeB_true h
  obtain ⟨b1, b2, b3⟩ := nodeB_true h2
  have := okB_true a1
  have := okB_true b1
  unfold codeI
  rw [h, h2]
  rw [Bool.eq_iff_iff]
  simp
  omega
theorem code_less {l n l2 n2 : Int} (h : nodeB l n = true) (h2 : nodeB l2 n2 = true) (hl : l < l2) : codeI l n < codeI l2 n2 := by
  obtain ⟨a1, a2, a3⟩ := nodeB_true h
  obtain ⟨b1, b2, b3⟩ := nodeB_true h2
  have := okB_true a1
  have := okB_true b1
  unfold codeI
  rw [h, h2]
  simp
  omega

set_option maxHeartbeats 4000000 in
theorem walk (a0 : Option Addr) (len0 cap0 : Nat) (z0 : List Int) (a1 : Option Addr) (len1 cap1 : Nat) (z1 : List Int) (w : World) (w0 : IsRow .u8 w a0 len0 cap0 z0) (w1 : IsRow .u8 w a1 len1 cap1 z1) :
    Calls Try.prog 3 #[.slice a0 len0 cap0, .slice a1 len1 cap1] w fun e w' => e = .returned (.bool true) ∧ Below w.heap.size w w' := by
  by_cases hlen : len0 > 1048576
  · go_enter Try.func3, Try.ntmps3
    go_wp2
    go_ret
    exact ⟨rfl, Below.refl _ _⟩
  by_cases hlen1 : len1 > 1048576
  · go_enter Try.func3, Try.ntmps3
    go_wp2
    go_ret
    exact ⟨rfl, Below.refl _ _⟩
  have k0 : CodeAt w a0 len0 cap0 z0 := code_of w0
  have k1 : CodeAt w a1 len1 cap1 z1 := code_of w1
  clear w0 w1
  go_enter Try.func3, Try.ntmps3
  go_wp2_with fail
  refine (drawNodeCode _ _ _ _ _ k0).mono ?_
  rintro e wa ⟨l, n, rfl, hl, hn, bel⟩
  have k1' := (k1.below bel).below ((Below.refl _ _).alloc (Nat.le_refl _) (.cells #[.int .i64 l, .int .i64 n] 24))
  go_wp2_with fail
  refine (drawNodeOk _ _ _ _ _ k1').mono ?_
  rintro e wb ⟨l2, n2, rfl, hl2, hn2, bel2⟩
  have sa : wa.heap.size < wb.heap.size := by have := bel2.size; simp at this; omega
  have hc2 := Below.celz (bel2.mono (B' := wa.heap.size + 1) (by simp))
  have B2 : Below w.heap.size w wb := (bel.alloc bel.size _).trans (bel2.mono (by have := bel.size; simp; omega))
  clear k0 k1 k1' bel2 hlen hlen1 hl hn hl2 hn2
  go_wp2_with fail
  refine (impl_NodeCode _ _ _).mono ?_
  rintro e w3 ⟨rfl, bel3⟩
  have hc3 := Below.celz bel3
  have s3 := bel3.size
  simp only [World.size_alloc] at s3
  go_wp2_with fail
  refine (impl_NodeCode _ _ _).mono ?_
  rintro e w4 ⟨rfl, bel4⟩
  have s4 := bel4.size
  have hc4 := Below.celz bel4
  have c1 : w4.cell? ⟨wa.heap.size, 0, none⟩ = some (.int .i64 l) := by
    rw [hc4 _ _ _ (by omega), hc3 _ _ _ (by simp; omega), World.cell?_alloc_past _ _ _ sa, hc2 _ _ _ (by omega)]; simp [go_sem]
  have c2 : w4.cell? ⟨wa.heap.size, 1, none⟩ = some (.int .i64 n) := by
    rw [hc4 _ _ _ (by omega), hc3 _ _ _ (by simp; omega), World.cell?_alloc_past _ _ _ sa, hc2 _ _ _ (by omega)]; simp [go_sem]
  have c3 : w4.cell? ⟨wb.heap.size, 0, none⟩ = some (.int .i64 l2) := by
    rw [hc4 _ _ _ (by omega), hc3 _ _ _ (by simp)]; simp [go_sem]
  have c4 : w4.cell? ⟨wb.heap.size, 1, none⟩ = some (.int .i64 n2) := by
    rw [hc4 _ _ _ (by omega), hc3 _ _ _ (by simp)]; simp [go_sem]
  have q1 : wa.heap.size < w4.heap.size := by omega
  have q2 : wb.heap.size < w4.heap.size := by omega
  have HB : Hid (Below w.heap.size w w4) := (((B2.alloc B2.size _).trans (bel3.mono (by have := B2.size; simp; omega))).trans (bel4.mono (by have := B2.size; omega)))
  clear hc2 hc3 hc4 bel bel3 bel4 B2 s3 s4 sa
  generalize wa.heap.size = V1 at *
  generalize wb.heap.size = V2 at *
  have hd1 := code_sign l n
  have hd2 := code_sign l2 n2
  have hbd1 := codeI_bd l n
  have hbd2 := codeI_bd l2 n2
  cases hb1 : nodeB l n
  · rw [hb1] at hd1
    clear hd2
    go_wp2_with fail
    refine wp_region_after (by kernel_rfl) (by kernel_rfl) ?_
    intro hne hac
    repeat (go_big_quiet_step (first | (go_at_call_of 11 (Value.agg #[.int .i64 l, .int .i64 n]); exact after_of (spec_NodeCode l n _)) | (go_at_call_of 11 (Value.agg #[.int .i64 l2, .int .i64 n2]); exact after_of (spec_NodeCode l2 n2 _)) | (go_at_call_of 12 (Value.agg #[.int .i64 l, .int .i64 n]); exact after_at (x := nodeB l n) (y := false) hb1 (impl_NodeOk l n _)) | (go_at_call_of 13 (Value.agg #[.int .i64 l, .int .i64 n]); exact after_at (x := nodeB l n) (y := false) hb1 (spec_NodeOk l n _))))
    refine wpQuiet_nil ?_
    rintro _ ⟨p, rfl⟩
    have hb := HB.out.trans (p.bel.mono HB.out.size)
    have e1 := hac p V1 0 none q1
    have e2 := hac p V1 1 none q1
    have e3 := hac p V2 0 none q2
    have e4 := hac p V2 1 none q2
    rw [c1] at e1
    rw [c2] at e2
    rw [c3] at e3
    rw [c4] at e4
    generalize p.w = wp at *
    clear hac hne c1 c2 c3 c4
    have hneg : codeI l n < 0 := by simpa using hd1
    go_wp2_with fail
    go_ret
    exact ⟨rfl, hb⟩
  · rw [hb1] at hd1
    go_wp2_with fail
    refine wp_region_after (by kernel_rfl) (by kernel_rfl) ?_
    intro hne hac
    repeat (go_big_quiet_step (first | (go_at_call_of 11 (Value.agg #[.int .i64 l, .int .i64 n]); exact after_of (spec_NodeCode l n _)) | (go_at_call_of 11 (Value.agg #[.int .i64 l2, .int .i64 n2]); exact after_of (spec_NodeCode l2 n2 _)) | (go_at_call_of 12 (Value.agg #[.int .i64 l, .int .i64 n]); exact after_at (x := nodeB l n) (y := true) hb1 (impl_NodeOk l n _)) | (go_at_call_of 13 (Value.agg #[.int .i64 l, .int .i64 n]); exact after_at (x := nodeB l n) (y := true) hb1 (spec_NodeOk l n _))))
    refine wpQuiet_nil ?_
    rintro _ ⟨p, rfl⟩
    have hb := HB.out.trans (p.bel.mono HB.out.size)
    have e1 := hac p V1 0 none q1
    have e2 := hac p V1 1 none q1
    have e3 := hac p V2 0 none q2
    have e4 := hac p V2 1 none q2
    rw [c1] at e1
    rw [c2] at e2
    rw [c3] at e3
    rw [c4] at e4
    generalize p.w = wp at *
    clear hac hne c1 c2 c3 c4
    have hpos : 0 ≤ codeI l n := by simpa using hd1
    cases hb2 : nodeB l2 n2
    · rw [hb2] at hd2
      have hneg : codeI l2 n2 < 0 := by simpa using hd2
      go_wp2_with fail
      go_ret
      exact ⟨rfl, hb⟩
    · rw [hb2] at hd2
      have hpos2 : 0 ≤ codeI l2 n2 := by simpa using hd2
      have ho := code_one hb1 hb2
      by_cases hs : l = l2 ∧ n = n2
      · obtain ⟨rfl, rfl⟩ := hs
        clear ho
        go_wp2_with fail
        go_ret
        exact ⟨rfl, hb⟩
      · have hf : (l == l2 && n == n2) = false := by
          rw [Bool.eq_false_iff]
          intro h
          apply hs
          simpa using h
        rw [hf] at ho
        have HL : Hid (l < l2 → codeI l n < codeI l2 n2) := code_less hb1 hb2
        by_cases hle : l2 ≤ l
        · go_wp2_with fail
          all_goals go_ret
          all_goals exact ⟨rfl, hb⟩
        · have hlt := HL.out (by omega)
          go_wp2_with fail
          all_goals go_ret
          all_goals exact ⟨rfl, hb⟩

set_option maxRecDepth 100000 in
set_option maxHeartbeats 1000000 in
theorem lifted (os : Os) (started : os.Started) (H : Type) (enc : TypeId × Value → H) :
    ReturnsInHanded {} Try.checked os 3 .any (Rows.fnNodeCodeSpec.pre6 enc Try.prog Try.f3 Rows.fnNodeCodeRow.domain false) (Rows.fnNodeCodeSpec.post enc Try.prog Try.f3 false true false false) := by
  refine returnsInHanded_of_change (C := Try.checked) own started (by kernel_rfl) Try.func3
    (ChangeSpec.witness6 (enc := enc) (C := Try.checked) false ⟨#[], #[.slice none 0 0, .slice none 0 0], []⟩ 8 (by kernel_rfl) (by kernel_rfl) (by kernel_rfl) (by kernel_rfl)) ?_
  intro W base args ds gs before hval0 hW hcnd _
  have hval : ∀ (j : Nat) t v, Try.f3.params[j]? = some t → args[j]? = some v → Value.okWide Try.prog W .any base t v := hval0
  have hW' := hW
  obtain ⟨p, q, hA0, hV, rfl, hfz, hnd⟩ := hW
  have hA : DataW.TrodAll enc Try.prog W 0 (fun _ => true) true Try.f3.params.toList args.toList ds p := hA0
  rw [Try.params3] at hA hval
  obtain ⟨v0, vs0, d0, ds0, p0, q0, hargs, rfl, rfl, h0, r0⟩ := trodAll_cons hA
  obtain ⟨v1, vs1, d1, ds1, p1, q1, rfl, rfl, rfl, h1, r1⟩ := trodAll_cons r0
  obtain ⟨rfl, rfl, rfl⟩ := trodAll_nil r1
  obtain rfl : args = #[v0, v1] := by cases args; simp_all
  obtain ⟨rfl, rfl⟩ := trodVars_none hV
  have kr0 := h0
  have lt0 : ∀ x ∈ p0, x.block < W.heap.size := by obtain ⟨m, hm⟩ := kr0; exact DataW.trod_lt m _ _ _ hm
  have kr1 := h1
  have lt1 : ∀ x ∈ p1, x.block < W.heap.size := by obtain ⟨m, hm⟩ := kr1; exact DataW.trod_lt m _ _ _ hm
  obtain ⟨a0, len0, cap0, rfl⟩ := okWide_slice Try.underlying22 (hval 0 22 v0 rfl rfl)
  obtain ⟨z0, w0⟩ : ∃ zs, IsRow .u8 W a0 len0 cap0 zs := by
    obtain ⟨fuel, hf⟩ := h0
    rcases open_ints Try.underlying22 Try.underlying5 (by kernel_rfl) hf with ⟨hcs, _⟩ | ⟨x, l, c, zs, hcs, _, hl, hm, hz, _, hcell, hwz⟩
    · simp [Value.cells] at hcs
      obtain ⟨rfl, rfl, rfl⟩ := hcs
      exact ⟨[], .inl ⟨rfl, rfl, rfl, rfl⟩⟩
    · simp [Value.cells] at hcs
      obtain ⟨rfl, rfl, rfl⟩ := hcs
      exact ⟨zs, .inr ⟨_, rfl, hl, hm, by simpa using hz, hcell, hwz⟩⟩
  obtain ⟨a1, len1, cap1, rfl⟩ := okWide_slice Try.underlying22 (hval 1 22 v1 rfl rfl)
  obtain ⟨z1, w1⟩ : ∃ zs, IsRow .u8 W a1 len1 cap1 zs := by
    obtain ⟨fuel, hf⟩ := h1
    rcases open_ints Try.underlying22 Try.underlying5 (by kernel_rfl) hf with ⟨hcs, _⟩ | ⟨x, l, c, zs, hcs, _, hl, hm, hz, _, hcell, hwz⟩
    · simp [Value.cells] at hcs
      obtain ⟨rfl, rfl, rfl⟩ := hcs
      exact ⟨[], .inl ⟨rfl, rfl, rfl, rfl⟩⟩
    · simp [Value.cells] at hcs
      obtain ⟨rfl, rfl, rfl⟩ := hcs
      exact ⟨zs, .inr ⟨_, rfl, hl, hm, by simpa using hz, hcell, hwz⟩⟩
  clear hA0 hval0
  refine (walk a0 len0 cap0 z0 a1 len1 cap1 z1 W w0 w1).mono fun e W' ⟨he, bel⟩ => ?_
  subst he
  exact ⟨_, rfl, _, _, _, [], _, [], hW', trodAll_mk1 (shut_bool Try.underlying4 _), (trodAll_cons_mk (Below.trod laidOut (by kernel_rfl) (of_decide_eq_true (by kernel_rfl)) kr0 bel lt0) (trodAll_cons_mk (Below.trod laidOut (by kernel_rfl) (of_decide_eq_true (by kernel_rfl)) kr1 bel lt1) trodAll_mk0)), rfl, bel.frame _, fun h => by cases h⟩

theorem over : Rows.fnNodeCodeRow.holds Try.pinned (OpenSpec.ofChange Rows.fnNodeCodeSpec) :=
  OpenClaim.holds_of_wide 3 Try.f3 rfl rfl rfl rfl rfl rfl rfl ⟨rfl, rfl, rfl, rfl, rfl⟩ rfl rfl rfl rfl rfl (by kernel_rfl) Try.func3 (by kernel_rfl)
    (of_decide_eq_true (by kernel_rfl)) (by unfold Func.isWrapper; first | (rw [if_pos (by decide +kernel)]; kernel_rfl) | (rw [if_neg (by decide +kernel)]; exact ⟨rfl, rfl⟩))
    (fun os started H enc _ => lifted os started H enc)

end Go.Proofs.Ytgaiefkgfmpjnaa.fnNodeCode
namespace Go.Proofs.Ytgaiefkgfmpjnaa
theorem fnNodeCode_holds : Rows.FnNodeCodeSaid := fnNodeCode.over
#print axioms fnNodeCode_holds
end Go.Proofs.Ytgaiefkgfmpjnaa
