/-
  at every code laws.FnEdgeOk returns true and of what was there nothing is turned; no condition.
-/
import Derived.Test.YtgaiefkgfmpjnaaRows
import Derived.Test.YtgaiefkgfmpjnaaNod
import Derived.Test.YtgaiefkgfmpjnaaDrn
import Derived.WalkKit
import Derived.ProofKit
import Derived.OpenShut
import Derived.ShutString
import Derived.ChangeOld
import Derived.Below
import Derived.Carry
import Derived.Handy
import Derived.Deep.RegionHeld3
namespace Go.Proofs.Ytgaiefkgfmpjnaa.fnEdgeOk
open Go.Proofs.Ytgaiefkgfmpjnaa.Lab
open Go.ChangeShapes Go.WideShapes Go.ChangeAt Go.RowKit
open Go.ChangeMaps (open_string shut_string)
set_option linter.unusedVariables false

theorem own : ownKnob Try.prog.godebug = none := by kernel_rfl
theorem laidOut : laidOutB Try.prog = true := by kernel_rfl
/-- A row of numbers that came in: nil, or so many cells. -/
def IsRow (k : IntKind) (w : World) (a : Option Addr) (len cap : Nat) (zs : List Int) : Prop :=
  (a = none ∧ len = 0 ∧ cap = 0 ∧ zs = []) ∨ ∃ x, a = some x ∧ len ≤ cap ∧ cap ≤ maxLen ∧ zs.length = cap ∧ (∀ i, i < zs.length → w.cell? (x.add i) = some (.int k (zs.getD i 0))) ∧ ∀ n ∈ zs, (Lit.int k n).wf = true
theorem edge_true {l al an bl bn : Int} (h : edgeB l al an bl bn = true) : nodeB al an = true ∧ nodeB bl bn = true ∧ codeI al an < codeI bl bn ∧ underB al l = true ∧ underB bl l = true := by
  simp only [edgeB, Bool.and_eq_true, decide_eq_true_eq] at h
  exact ⟨h.1.1.1.1, h.1.1.1.2, h.1.1.2, h.1.2, h.2⟩
theorem edge_turn {l al an bl bn : Int} (h : edgeB l al an bl bn = true) : edgeB l bl bn al an = false := by
  rw [Bool.eq_false_iff]
  intro h2
  have := (edge_true h).2.2.1
  have := (edge_true h2).2.2.1
  omega
theorem edge_self (l al an : Int) : edgeB l al an al an = false := by
  rw [Bool.eq_false_iff]
  intro h2
  have := (edge_true h2).2.2.1
  omega

set_option maxHeartbeats 4000000 in
theorem walk (a0 : Option Addr) (len0 cap0 : Nat) (z0 : List Int) (w : World) (w0 : IsRow .u8 w a0 len0 cap0 z0) :
    Calls Try.prog 4 #[.slice a0 len0 cap0] w fun e w' => e = .returned (.bool true) ∧ Below w.heap.size w w' := by
  by_cases hlen : len0 > 1048576
  · go_enter Try.func4, Try.ntmps4
    go_wp2
    go_ret
    exact ⟨rfl, Below.refl _ _⟩
  have k0 : CodeAt w a0 len0 cap0 z0 := code_of w0
  clear w0
  go_enter Try.func4, Try.ntmps4
  go_wp2_with fail
  refine (drawEdgeOk _ _ _ _ _ k0).mono ?_
  rintro e wa ⟨l, al, an, bl, bn, rfl, bel⟩
  go_wp2_with fail
  refine (impl_EdgeOk _ _ _ _ _ _).mono ?_
  rintro e w2 ⟨rfl, bel2⟩
  have hc2 := Below.celz bel2
  have B2 : Below w.heap.size w w2 := (bel.alloc bel.size _).trans (bel2.mono (by have := bel.size; simp; omega))
  have s2 : wa.heap.size < w2.heap.size := by have := bel2.size; simp at this; omega
  clear k0 hlen
  cases hb : edgeB l al an bl bn
  · go_wp2_with fail
    refine (spec_EdgeOk _ _ _ _ _ _).mono ?_
    rintro e w3 ⟨rfl, bel3⟩
    have hc3 := Below.celz (bel3.mono (B' := wa.heap.size + 1) (by omega))
    have B3 : Hid (Below w.heap.size w w3) := B2.trans (bel3.mono B2.size)
    have b3 := bel3
    clear bel2
    go_wp2_with fail
    refine (spec_EdgeOk _ _ _ _ _ _).mono ?_
    rintro e w4 ⟨rfl, bel4⟩
    have HB : Hid (Below w.heap.size w w4) := B3.out.trans (bel4.mono B3.out.size)
    clear bel4 bel3 hc2 hc3 B2 bel
    go_wp2_with fail
    go_ret
    exact ⟨rfl, HB.out⟩
  · go_wp2_with fail
    refine (spec_EdgeOk _ _ _ _ _ _).mono ?_
    rintro e w3 ⟨rfl, bel3⟩
    have hc3 := Below.celz (bel3.mono (B' := wa.heap.size + 1) (by omega))
    have HB : Hid (Below w.heap.size w w3) := B2.trans (bel3.mono B2.size)
    have s3 : wa.heap.size < w3.heap.size := by have := bel3.size; omega
    have cv : ∀ o, w3.cell? ⟨wa.heap.size, o, none⟩ = #[Value.int .i64 l, .int .i64 al, .int .i64 an, .int .i64 bl, .int .i64 bn][o]? := fun o => by
      rw [hc3 _ _ _ (by omega), hc2 _ _ _ (by simp), World.cell?_alloc_at _ _ _ _ rfl]
    have c0 := cv 0
    have c1 := cv 1
    have c2 := cv 2
    have c3 := cv 3
    have c4 := cv 4
    simp at c0 c1 c2 c3 c4
    obtain ⟨na, nb, hlt, ua, ub⟩ := edge_true hb
    have ht := edge_turn hb
    have hs := edge_self l al an
    have hj : underB (joinI al bl) l = true := by rw [join_least l (nodeB_true na).1 (nodeB_true nb).1, ua, ub]; rfl
    have HU : Hid (∀ k, underB l k = true → underB al k = true ∧ underB bl k = true) := fun k hk => ⟨under_trans ua hk, under_trans ub hk⟩
    clear cv hc2 hc3 bel3 bel2 B2 bel s2 na nb hlt
    generalize wa.heap.size = V at *
    go_wp2_with fail
    go_loop [5] (fun i => ∃ k : Nat, k ≤ 8 ∧ i = .int .i64 k) (fun i => 8 - (intOf i).toNat)
    case atStart => exact ⟨0, by omega, rfl⟩
    case round =>
      obtain ⟨k, hk, rfl⟩ := hrel
      by_cases hlt : k < 8
      · cases hu : underB l k
        · go_wp2_with (first | (go_at_call 17; refine use (impl_LabelUnder _ _ _) ?_))
          go_round
          case rel => exact ⟨k + 1, by omega, by go_num⟩
          case measure => simp [intOf]; omega
        · obtain ⟨u1, u2⟩ := HU.out k hu
          go_wp2_with (first | (go_at_call 17; refine use (impl_LabelUnder _ _ _) ?_))
          go_round
          case rel => exact ⟨k + 1, by omega, by go_num⟩
          case measure => simp [intOf]; omega
      · have s4 : V < w3.heap.size + 1 := by omega
        have s5 : V < w3.heap.size + 1 + 1 := by omega
        go_wp2_with fail
        refine wp_region_after (by kernel_rfl) (by kernel_rfl) ?_
        intro hne hac
        repeat (go_big_quiet_step (first | (go_at_call_of 15 (Value.agg #[.int .i64 l, .int .i64 bl, .int .i64 bn, .int .i64 al, .int .i64 an]); exact after_at (x := edgeB l bl bn al an) (y := false) ht (impl_EdgeOk l bl bn al an _)) | (go_at_call_of 15 (Value.agg #[.int .i64 l, .int .i64 al, .int .i64 an, .int .i64 al, .int .i64 an]); exact after_at (x := edgeB l al an al an) (y := false) hs (impl_EdgeOk l al an al an _)) | (go_at_call_of 18 (Value.int .i64 al); exact after_same (impl_LabelJoin al bl _)) | (go_at_call_of 17 (Value.int .i64 (joinI al bl)); exact after_same_at (x := underB (joinI al bl) l) (y := true) hj (impl_LabelUnder (joinI al bl) l _))))
        refine wpQuiet_nil ?_
        rintro _ ⟨p, rfl⟩
        have hbq := ((HB.out.alloc HB.out.size _).alloc (by have := HB.out.size; simp; omega) _).trans (p.bel.mono (by have := HB.out.size; simp; omega))
        generalize p.w = wp at *
        clear hac hne
        go_wp2_with fail
        go_ret
        exact ⟨rfl, hbq⟩

set_option maxRecDepth 100000 in
set_option maxHeartbeats 1000000 in
theorem lifted (os : Os) (started : os.Started) (H : Type) (enc : TypeId × Value → H) :
    ReturnsInHanded {} Try.checked os 4 .any (Rows.fnEdgeOkSpec.pre6 enc Try.prog Try.f4 Rows.fnEdgeOkRow.domain false) (Rows.fnEdgeOkSpec.post enc Try.prog Try.f4 false true false false) := by
  refine returnsInHanded_of_change (C := Try.checked) own started (by kernel_rfl) Try.func4
    (ChangeSpec.witness6 (enc := enc) (C := Try.checked) false ⟨#[], #[.slice none 0 0], []⟩ 8 (by kernel_rfl) (by kernel_rfl) (by kernel_rfl) (by kernel_rfl)) ?_
  intro W base args ds gs before hval0 hW hcnd _
  have hval : ∀ (j : Nat) t v, Try.f4.params[j]? = some t → args[j]? = some v → Value.okWide Try.prog W .any base t v := hval0
  have hW' := hW
  obtain ⟨p, q, hA0, hV, rfl, hfz, hnd⟩ := hW
  have hA : DataW.TrodAll enc Try.prog W 0 (fun _ => true) true Try.f4.params.toList args.toList ds p := hA0
  rw [Try.params4] at hA hval
  obtain ⟨v0, vs0, d0, ds0, p0, q0, hargs, rfl, rfl, h0, r0⟩ := trodAll_cons hA
  obtain ⟨rfl, rfl, rfl⟩ := trodAll_nil r0
  obtain rfl : args = #[v0] := by cases args; simp_all
  obtain ⟨rfl, rfl⟩ := trodVars_none hV
  have kr0 := h0
  have lt0 : ∀ x ∈ p0, x.block < W.heap.size := by obtain ⟨m, hm⟩ := kr0; exact DataW.trod_lt m _ _ _ hm
  obtain ⟨a0, len0, cap0, rfl⟩ := okWide_slice Try.underlying22 (hval 0 22 v0 rfl rfl)
  obtain ⟨z0, w0⟩ : ∃ zs, IsRow .u8 W a0 len0 cap0 zs := by
    obtain ⟨fuel, hf⟩ := h0
    rcases open_ints Try.underlying22 Try.underlying5 (by kernel_rfl) hf with ⟨hcs, _⟩ | ⟨x, l, c, zs, hcs, _, hl, hm, hz, _, hcell, hwz⟩
    · simp [Value.cells] at hcs
      obtain ⟨rfl, rfl, rfl⟩ := hcs
      exact ⟨[], .inl ⟨rfl, rfl, rfl, rfl⟩⟩
    · simp [Value.cells] at hcs
      obtain ⟨rfl, rfl, rfl⟩ := hcs
      exact ⟨zs, .inr ⟨_, rfl, hl, hm, by simpa using hz, hcell, hwz⟩⟩
  clear hA0 hval0
  refine (walk a0 len0 cap0 z0 W w0).mono fun e W' ⟨he, bel⟩ => ?_
  subst he
  exact ⟨_, rfl, _, _, _, [], _, [], hW', trodAll_mk1 (shut_bool Try.underlying4 _), (trodAll_cons_mk (Below.trod laidOut (by kernel_rfl) (of_decide_eq_true (by kernel_rfl)) kr0 bel lt0) trodAll_mk0), rfl, bel.frame _, fun h => by cases h⟩

theorem over : Rows.fnEdgeOkRow.holds Try.pinned (OpenSpec.ofChange Rows.fnEdgeOkSpec) :=
  OpenClaim.holds_of_wide 4 Try.f4 rfl rfl rfl rfl rfl rfl rfl ⟨rfl, rfl, rfl, rfl, rfl⟩ rfl rfl rfl rfl rfl (by kernel_rfl) Try.func4 (by kernel_rfl)
    (of_decide_eq_true (by kernel_rfl)) (by unfold Func.isWrapper; first | (rw [if_pos (by decide +kernel)]; kernel_rfl) | (rw [if_neg (by decide +kernel)]; exact ⟨rfl, rfl⟩))
    (fun os started H enc _ => lifted os started H enc)

end Go.Proofs.Ytgaiefkgfmpjnaa.fnEdgeOk
namespace Go.Proofs.Ytgaiefkgfmpjnaa
theorem fnEdgeOk_holds : Rows.FnEdgeOkSaid := fnEdgeOk.over
#print axioms fnEdgeOk_holds
end Go.Proofs.Ytgaiefkgfmpjnaa
