/-
  Proved: for any code laws.FnLabelMany returns true and changes nothing that was there; no condition.
-/
import Derived.Test.YtlfbgafedbbahaaRows
import Derived.Test.YtlfbgafedbbahaaLabb
import Derived.Test.YtlfbgafedbbahaaAll
import Derived.Test.YtlfbgafedbbahaaRd
import Derived.Test.YtlfbgafedbbahaaDraw
import Derived.WalkKit
import Derived.ProofKit
import Derived.OpenShut
import Derived.ShutString
import Derived.ChangeOld
import Derived.Below
namespace Go.Proofs.Ytlfbgafedbbahaa.fnLabelMany
open Go.Proofs.Ytlfbgafedbbahaa.Lab
open Go.ChangeShapes Go.WideShapes Go.ChangeAt Go.RowKit
open Go.ChangeMaps (open_string shut_string)
set_option linter.unusedVariables false

theorem own : ownKnob Try.prog.godebug = none := by kernel_rfl
theorem laidOut : laidOutB Try.prog = true := by kernel_rfl

/-- WHAT THE WALK IS TOLD OF A SLICE OF INTEGERS THAT CAME IN: it is nil; or it leads to a row of 'cap' cells, the numbers 'zs' (the first 'len' are its elements, the rest its spare room), each fitting its kind. -/
def IsRow (k : IntKind) (w : World) (a : Option Addr) (len cap : Nat) (zs : List Int) : Prop :=
  (a = none ∧ len = 0 ∧ cap = 0 ∧ zs = []) ∨
  ∃ x, a = some x ∧ len ≤ cap ∧ cap ≤ maxLen ∧ zs.length = cap ∧ (∀ i, i < zs.length → w.cell? (x.add i) = some (.int k (zs.getD i 0))) ∧ ∀ n ∈ zs, (Lit.int k n).wf = true

theorem pl_all : ∀ k j : Fin 8, j.val < (allTo k.val 8).length → underB ((allTo k.val 8).getD j.val 0) k.val = true ∧ (0 < j.val → (allTo k.val 8).getD (j.val - 1) 0 < (allTo k.val 8).getD j.val 0) := by decide +kernel
theorem pl_len : ∀ k : Fin 8, 0 < (allTo k.val 8).length ∧ ((allTo k.val 8).length : Int) = 2 ^ (manyI k.val).toNat ∧ 0 ≤ manyI k.val ∧ manyI k.val ≤ 3 := by decide +kernel
theorem pl_many : ∀ k l : Fin 8, manyI k.val + manyI l.val = manyI (joinI k.val l.val) + manyI (meetI k.val l.val) := by decide +kernel
theorem all_none {a : Int} (h : okB a = false) (k : Nat) : allTo a k = [] := by
  induction k with
  | zero => rfl
  | succ k ih => simp [allTo, ih, underB, h]
theorem many_bd (a : Int) : 0 ≤ manyI a ∧ manyI a ≤ 3 := by
  cases h : okB a
  · simp [manyI, h]
  · obtain ⟨k, rfl⟩ := fin8 h
    exact (pl_len k).2.2
/-! ### STEP 1: THE WALK: the Go text returns true, AND WRITES NOTHING THAT WAS THERE: 'Below w.heap.size w w'' (Derived/Below.lean: '.refl', '.alloc', '.drew', '.setCell' at a new block, '.trans'). Open each 'IsRow' by 'rcases' AHEAD of 'go_enter'; part every test ahead of the walk. -/
set_option maxHeartbeats 4000000 in
theorem walk (a0 : Option Addr) (len0 cap0 : Nat) (z0 : List Int) (w : World) (w0 : IsRow .u8 w a0 len0 cap0 z0) :
    Calls Try.prog 6 #[.slice a0 len0 cap0] w fun e w' => e = .returned (.bool true) ∧ Below w.heap.size w w' := by
  by_cases hlen : len0 > 1048576
  · go_enter Try.func6, Try.ntmps6
    go_wp2
    go_ret
    exact ⟨rfl, Below.refl _ _⟩
  have k0 : CodeAt w a0 len0 cap0 z0 := code_of w0
  clear w0
  go_enter Try.func6, Try.ntmps6
  go_wp2_with fail
  refine (drawLabelUnder _ _ _ _ _ k0).mono ?_
  rintro e wa ⟨a, b, rfl, ha, hb, bel⟩
  clear k0 ha hb hlen
  go_wp2_with fail
  refine use (impl_LabelMany _ _) ?_
  go_wp2_with fail
  refine (impl_LabelAll _ _).mono ?_
  rintro e w1 ⟨v1, rfl, own1, bel1⟩
  go_wp2_with fail
  refine (spec_LabelAll _ _).mono ?_
  rintro e w2 ⟨v2, rfl, own2, bel2⟩
  have hL8 := allTo_le a 8
  have rd1 := reads_own (own_below own1 bel2)
  have rd2 := reads_own own2
  have HB : Hid (Below w.heap.size w w2) := bel.trans ((bel1.trans (bel2.mono bel1.size)).mono bel.size)
  clear own1 own2 bel1 bel2 bel
  cases hoa : okB a
  · have hL := all_none hoa 8
    rw [hL] at rd1 rd2
    have hM : manyI a = 0 := by simp [manyI, hoa]
    have sl1 : ∃ x c, v1 = .slice x 0 c := by
      rcases rd1 with ⟨_, x, c, h⟩ | ⟨h, _⟩
      · exact ⟨x, c, h⟩
      · simp at h
    have sl2 : ∃ x c, v2 = .slice x 0 c := by
      rcases rd2 with ⟨_, x, c, h⟩ | ⟨h, _⟩
      · exact ⟨x, c, h⟩
      · simp at h
    obtain ⟨x1, c1, rfl⟩ := sl1
    obtain ⟨x2, c2, rfl⟩ := sl2
    clear rd1 rd2 hL hL8
    go_wp2_with fail
    refine use (spec_LabelMany _ _) ?_
    go_wp2_with fail
    refine wp_loop_rounds 1 ?_
    rw [rounds_succ]
    go_wp2_with (first | (go_at_call 11; refine use (impl_LabelOk _ _) ?_))
    go_ret
    exact ⟨rfl, HB.out⟩
  · obtain ⟨ka, rfl⟩ := fin8 hoa
    have pL := pl_len ka
    have pA := pl_all ka
    have pM := many_bd
    obtain ⟨m0, m3⟩ := pM ka.val
    generalize hla : allTo ka.val 8 = L at *
    clear hla
    rcases rd1 with ⟨h, _⟩ | ⟨_, b1, o1, c1, rfl, e1⟩
    · rw [h] at pL; simp at pL
    rcases rd2 with ⟨h, _⟩ | ⟨_, b2, o2, c2, rfl, e2⟩
    · rw [h] at pL; simp at pL
    have HP : Hid ((L.length : Int) = 2 ^ (manyI ka.val).toNat) := pL.2.1
    have HA : Hid (∀ j : Fin 8, j.val < L.length → underB (L.getD j.val 0) ka.val = true ∧ (0 < j.val → L.getD (j.val - 1) 0 < L.getD j.val 0)) := pA
    have HM : Hid (∀ x, 0 ≤ manyI x ∧ manyI x ≤ 3) := pM
    have hpos := pL.1
    have HE : Hid ((∀ j, j < L.length → w2.cell? ⟨b1, o1 + j, none⟩ = some (.int .i64 (L.getD j 0))) ∧ (∀ j, j < L.length → w2.cell? ⟨b2, o2 + j, none⟩ = some (.int .i64 (L.getD j 0)))) := ⟨e1, e2⟩
    clear pL pA pM e1 e2
    go_wp2_with fail
    refine use (spec_LabelMany _ _) ?_
    go_wp2_with fail
    go_loopw [8] (fun i wr => ∃ n : Nat, n ≤ L.length ∧ i = .int .i64 n ∧ ∃ q, wr = w2.drewN q) (fun i _ => L.length - (intOf i).toNat)
    case atStart => exact ⟨0, by omega, rfl, 0, by rw [World.drewN_zero]⟩
    case round =>
      obtain ⟨n, hn, rfl, q, rfl⟩ := hrel
      by_cases hlt : n < L.length
      · have e1 : (w2.drewN q).cell? ⟨b1, o1 + n, none⟩ = some (.int .i64 (L.getD n 0)) := by rw [World.cell?_drewN]; exact HE.out.1 n hlt
        have e2 : (w2.drewN q).cell? ⟨b2, o2 + n, none⟩ = some (.int .i64 (L.getD n 0)) := by rw [World.cell?_drewN]; exact HE.out.2 n hlt
        have e0 : 0 < n → (w2.drewN q).cell? ⟨b1, o1 + (n - 1), none⟩ = some (.int .i64 (L.getD (n - 1) 0)) := fun h0 => by rw [World.cell?_drewN]; exact HE.out.1 (n - 1) (by omega)
        have hA := HA.out ⟨n, by omega⟩ hlt
        simp only at hA
        generalize hwq : w2.drewN q = wq at *
        have HW : Hid (∀ m, ∃ q', wq.drewN m = w2.drewN q') := fun m => ⟨q + m, by rw [← hwq, World.drewN_drewN]⟩
        clear hwq
        by_cases hn0 : n = 0
        · subst hn0
          have hu := hA.1
          clear hA e0
          simp only [Nat.add_zero] at e1 e2
          generalize L.getD 0 0 = x at *
          have hd : (x != x) = false := by simp
          go_wp2
          go_quiet ((go_at_call 9; exact Calls.quiet_of_same (impl_LabelUnder _ _ _)))
          go_wp2
          go_roundw
          case rel => exact ⟨1, by omega, by go_num, HW.out _⟩
          case measure => simp [intOf]; omega
        · have e0 := e0 (by omega)
          have hu := hA.1
          have hlt2 := hA.2 (by omega)
          clear hA
          have i0 : ((n : Int) - 1).toNat = n - 1 := by omega
          have i1 : 0 ≤ (n : Int) - 1 := by omega
          have i2 : (n : Int) - 1 < (L.length : Int) := by omega
          have i3 : (0 : Int) < (n : Int) := by omega
          have i4 : 0 < n := by omega
          have i5 : decide (0 < n) = true := by simp; omega
          generalize L.getD n 0 = x at *
          generalize L.getD (n - 1) 0 = y at *
          have hd : (x != x) = false := by simp
          have hg : decide (x ≤ y) = false := by simp; omega
          go_wp2
          go_quiet ((go_at_call 9; exact Calls.quiet_of_same (impl_LabelUnder _ _ _)))
          go_wp2
          go_roundw
          case rel => exact ⟨n + 1, by omega, by go_num, HW.out _⟩
          case measure => simp [intOf]; omega
      · have hnl : n = L.length := by omega
        subst hnl
        clear hlt
        go_wp2_with (first | (go_at_call 11; refine use (impl_LabelOk _ _) ?_))
        go_loop [9, 10] (fun k i => ∃ m : Nat, m ≤ (manyI ka.val).toNat ∧ i = .int .i64 m ∧ k = .int .i64 (2 ^ m)) (fun _ i => (manyI ka.val).toNat - (intOf i).toNat)
        case atStart => exact ⟨0, by omega, rfl, by simp⟩
        case round =>
          obtain ⟨m, hm, rfl, rfl⟩ := hrel
          have hm3 : m = 0 ∨ m = 1 ∨ m = 2 ∨ m = 3 := by omega
          have hpw : (2 : Int) ^ m ≤ 8 := by rcases hm3 with rfl | rfl | rfl | rfl <;> simp
          have hpw0 : 0 ≤ (2 : Int) ^ m := by rcases hm3 with rfl | rfl | rfl | rfl <;> simp
          have HS : Hid (2 * (2 : Int) ^ m = 2 ^ (m + 1)) := by show 2 * (2 : Int) ^ m = 2 ^ (m + 1); rw [Int.pow_succ]; omega
          clear hm3
          by_cases hmn : (m : Int) < manyI ka.val
          · generalize hz : (2 : Int) ^ m = z at *
            clear hz
            go_wp2
            go_round
            case rel => exact ⟨m + 1, by omega, by go_num, by rw [← HS.out]⟩
            case measure => simp [intOf]; omega
          · have hme : m = (manyI ka.val).toNat := by omega
            have hle : ((L.length : Int) == 2 ^ m) = true := by rw [HP.out, hme]; simp
            cases hob : okB b
            · clear HS
              generalize (2 : Int) ^ m = z at *
              go_wp2_with (first | (go_at_call 11; refine use (impl_LabelOk _ _) ?_))
              go_ret
              exact ⟨rfl, below_drewN HB.out _⟩
            · have he : (manyI ka.val + manyI b == manyI (joinI ka.val b) + manyI (meetI ka.val b)) = true := by
                obtain ⟨kb, rfl⟩ := fin8 hob
                simp only [beq_iff_eq]
                exact pl_many ka kb
              obtain ⟨u0, u1⟩ := HM.out b
              obtain ⟨u2, u3⟩ := HM.out (joinI ka.val b)
              obtain ⟨u4, u5⟩ := HM.out (meetI ka.val b)
              clear HS
              generalize (2 : Int) ^ m = z at *
              go_wp2_with (first | (go_at_call 11; refine use (impl_LabelOk _ _) ?_) | (go_at_call 19; refine use (impl_LabelMany _ _) ?_) | (go_at_call 15; refine use (impl_LabelJoin _ _ _) ?_) | (go_at_call 16; refine use (impl_LabelMeet _ _ _) ?_))
              go_ret
              exact ⟨rfl, below_drewN HB.out _⟩

/-! ### THE ROW's STEP: WRITTEN OUT: LEAVE IT -/
set_option maxRecDepth 100000 in
theorem lifted (os : Os) (started : os.Started) (H : Type) (enc : TypeId × Value → H) :
    ReturnsInHanded {} Try.checked os 6 .any (Rows.fnLabelManySpec.pre6 enc Try.prog Try.f6 Rows.fnLabelManyRow.domain false) (Rows.fnLabelManySpec.post enc Try.prog Try.f6 false true false false) := by
  refine returnsInHanded_of_change (C := Try.checked) own started (by kernel_rfl) Try.func6
    (ChangeSpec.witness6 (enc := enc) (C := Try.checked) false ⟨#[], #[.slice none 0 0], []⟩ 8 (by kernel_rfl) (by kernel_rfl) (by kernel_rfl) (by kernel_rfl)) ?_
  intro W base args ds gs before hval0 hW hcnd _
  have hval : ∀ (j : Nat) t v, Try.f6.params[j]? = some t → args[j]? = some v → Value.okWide Try.prog W .any base t v := hval0
  have hW' := hW
  obtain ⟨p, q, hA0, hV, rfl, hfz, hnd⟩ := hW
  have hA : DataW.TrodAll enc Try.prog W 0 (fun _ => true) true Try.f6.params.toList args.toList ds p := hA0
  rw [Try.params6] at hA hval
  obtain ⟨v0, vs0, d0, ds0, p0, q0, hargs, rfl, rfl, h0, r0⟩ := trodAll_cons hA
  obtain ⟨rfl, rfl, rfl⟩ := trodAll_nil r0
  obtain rfl : args = #[v0] := by cases args; simp_all
  obtain ⟨rfl, rfl⟩ := trodVars_none hV
  obtain ⟨a0, len0, cap0, rfl⟩ := okWide_slice Try.underlying22 (hval 0 22 v0 rfl rfl)
  have k0 := h0
  have lt0 : ∀ x ∈ p0, x.block < W.heap.size := by obtain ⟨m, hm⟩ := k0; exact DataW.trod_lt m _ _ _ hm
  obtain ⟨z0, w0⟩ : ∃ zs, IsRow .u8 W a0 len0 cap0 zs := by
    obtain ⟨fuel, hf⟩ := h0
    rcases open_ints Try.underlying22 Try.underlying5 (by kernel_rfl) hf with ⟨hcs, _⟩ | ⟨x, l, c, zs, hcs, _, hl, hm, hz, _, hcell, hwz⟩
    · simp [Value.cells] at hcs
      obtain ⟨rfl, rfl, rfl⟩ := hcs
      exact ⟨[], .inl ⟨rfl, rfl, rfl, rfl⟩⟩
    · simp [Value.cells] at hcs
      obtain ⟨rfl, rfl, rfl⟩ := hcs
      exact ⟨zs, .inr ⟨_, rfl, hl, hm, by simpa using hz, hcell, hwz⟩⟩
  clear hA0 hval0
  refine (walk a0 len0 cap0 z0 W w0).mono fun e W' ⟨he, bel⟩ => ?_
  subst he
  exact ⟨_, rfl, _, _, _, [], _, [], hW', trodAll_mk1 (shut_bool Try.underlying4 _), (trodAll_cons_mk (Below.trod laidOut (by kernel_rfl) (of_decide_eq_true (by kernel_rfl)) k0 bel lt0) trodAll_mk0), rfl, bel.frame _, fun h => by cases h⟩

theorem over : Rows.fnLabelManyRow.holds Try.pinned (OpenSpec.ofChange Rows.fnLabelManySpec) :=
  OpenClaim.holds_of_wide 6 Try.f6 rfl rfl rfl rfl rfl rfl rfl ⟨rfl, rfl, rfl, rfl, rfl⟩ rfl rfl rfl rfl rfl (by kernel_rfl) Try.func6 (by kernel_rfl)
    (of_decide_eq_true (by kernel_rfl)) (by unfold Func.isWrapper; first | (rw [if_pos (by decide +kernel)]; kernel_rfl) | (rw [if_neg (by decide +kernel)]; exact ⟨rfl, rfl⟩))
    (fun os started H enc _ => lifted os started H enc)

/-- ████ THE STATEMENT ████ -/
theorem proved : Rows.FnLabelManySaid := over
end Go.Proofs.Ytlfbgafedbbahaa.fnLabelMany
namespace Go.Proofs.Ytlfbgafedbbahaa
theorem fnLabelMany_holds : Rows.FnLabelManySaid := fnLabelMany.proved
#print axioms fnLabelMany_holds
end Go.Proofs.Ytlfbgafedbbahaa
