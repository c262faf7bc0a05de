/-
  At every two codes of at most 2^20 bytes: a list is read from its bytes, whatever is behind them; what is read has those bytes, and ascends; impl answers as spec.
-/
import Derived.Test.YtladmjhokdgipaaDoorCards
import Derived.Test.YtladmjhokdgipaaDoorTie
import Derived.Test.YtladmjhokdgipaaDoorDnm
import Derived.Test.YtladmjhokdgipaaDoorRbk
import Derived.Test.YtladmjhokdgipaaDoorPri
import Derived.Test.YtladmjhokdgipaaDoorRwi
import Derived.WalkKit
import Derived.ProofKit
import Derived.OpenShut
import Derived.ShutString
import Derived.ChangeOld
import Derived.Below
import Derived.Carry
import Derived.Handy
import Derived.Deep.RegionHeld3
import Derived.LaidMore
namespace Go.Proofs.YtladmjhokdgipaaDoor.fnPackRow
open Go.Proofs.YtladmjhokdgipaaDoor.Lab
open Go.ChangeShapes Go.WideShapes Go.ChangeAt Go.RowKit
open Go.ChangeMaps (open_string shut_string)
set_option linter.unusedVariables false

theorem own : ownKnob Tryd.prog.godebug = none := by kernel_rfl
/-- A row of numbers that came in: nil, or so many cells. -/
def IsRow (k : IntKind) (w : World) (a : Option Addr) (len cap : Nat) (zs : List Int) : Prop :=
  (a = none ∧ len = 0 ∧ cap = 0 ∧ zs = []) ∨ ∃ x, a = some x ∧ len ≤ cap ∧ cap ≤ maxLen ∧ zs.length = cap ∧ (∀ i, i < zs.length → w.cell? (x.add i) = some (.int k (zs.getD i 0))) ∧ ∀ n ∈ zs, (Lit.int k n).wf = true

set_option maxHeartbeats 4000000 in
theorem walk (a0 : Option Addr) (len0 cap0 : Nat) (z0 : List Int) (a1 : Option Addr) (len1 cap1 : Nat) (z1 : List Int) (w : World) (w0 : IsRow .u8 w a0 len0 cap0 z0) (w1 : IsRow .u8 w a1 len1 cap1 z1) (hform : FormAt w) :
    Calls Tryd.prog 4 #[.slice a0 len0 cap0, .slice a1 len1 cap1] w fun e w' => e = .returned (.bool true) ∧ Below w.heap.size w w' := by
  have HF : Hid (FormAt w) := hform
  clear hform
  by_cases hlen : len0 > 1048576
  · go_enter Tryd.func4, Tryd.ntmps4
    go_wp2
    go_ret
    exact ⟨rfl, Below.refl _ _⟩
  by_cases hlen1 : len1 > 1048576
  · go_enter Tryd.func4, Tryd.ntmps4
    go_wp2
    go_ret
    exact ⟨rfl, Below.refl _ _⟩
  have k0 : CodeAt w a0 len0 cap0 z0 := code_of w0
  have k1 : CodeAt w a1 len1 cap1 z1 := code_of w1
  clear w0 w1
  go_enter Tryd.func4, Tryd.ntmps4
  go_wp2_with fail
  refine (drawPackRow _ _ _ _ _ k0).mono ?_
  rintro e wa ⟨u, xs, rfl, ou, lx, ba⟩
  have lx2 : xs.length ≤ 1048576 := by omega
  have HA : Hid (Below w.heap.size w wa ∧ RowAt 1 encI wa u xs ∧ CodeAt wa a1 len1 cap1 z1) := ⟨ba, row_of_own encI_len (by decide) ou, k1.below ba⟩
  clear ba ou k0 k1
  go_wp2_with fail
  refine (impl_PackRow u xs _ HA.out.2.1 lx2).mono ?_
  rintro e wb ⟨rfl, bb⟩
  have HB : Hid (Below w.heap.size w wb ∧ RowAt 1 encI wb u xs ∧ CodeAt wb a1 len1 cap1 z1) := ⟨HA.out.1.trans (bb.mono HA.out.1.size), HA.out.2.1.keep bb, HA.out.2.2.below bb⟩
  clear bb HA
  obtain ⟨S, hS⟩ : ∃ S, S = rowL xs := ⟨_, rfl⟩
  have HS : Hid (S = rowL xs) := hS
  have lS : S.length ≤ 20 := by rw [hS]; have := rowL_len xs; omega
  rw [← hS]
  clear hS
  go_wp2_with fail
  refine (drawRowAt _ _ _ _ _ HB.out.2.2).mono ?_
  rintro e wc ⟨l, p, rfl, hl, bc⟩
  have HC : Hid (Below w.heap.size w wc ∧ RowAt 1 encI wc u xs) := ⟨HB.out.1.trans (bc.mono HB.out.1.size), HB.out.2.1.keep bc⟩
  clear bc HB
  have hz : (ByteArray.mk l.toArray).size = l.length := size_mk l
  have hz2 : (ByteArray.mk S.toArray).size = S.length := size_mk S
  have happ := app_bytes S l
  obtain ⟨r, hr⟩ : ∃ r, r = rwO ⟨l.toArray⟩ p := ⟨_, rfl⟩
  have HR : Hid (r = rwO ⟨l.toArray⟩ p) := hr
  have lr : (rL r).length ≤ 127 := by rw [hr]; exact rL_len _ _
  obtain ⟨K, hK⟩ : ∃ K, K = rK r := ⟨_, rfl⟩
  obtain ⟨O, hO⟩ : ∃ O, O = r.isSome := ⟨_, rfl⟩
  have HKO : Hid (K = rK r ∧ O = r.isSome) := ⟨hK, hO⟩
  have lr2 : (rL r).length ≤ 1048576 := by omega
  have nO : (O != O) = false := by simp
  clear hr hK hO
  go_wp2_with fail
  refine (impl_RowAt ⟨l.toArray⟩ p _ (by omega) (HF.out.keep HC.out.1)).mono ?_
  rintro e wd ⟨t1, rfl, ret1, bd⟩
  rw [← HR.out] at ret1
  obtain ⟨g0, rfl, og⟩ := ret1.one
  rw [← HKO.out.1, ← HKO.out.2]
  have HD : Hid (Below w.heap.size w wd ∧ RowAt 1 encI wd u xs ∧ RowAt 1 encI wd g0 (rL r)) := ⟨HC.out.1.trans (bd.mono HC.out.1.size), HC.out.2.keep bd, row_of_own encI_len (by decide) og⟩
  obtain ⟨ga, gc, rfl⟩ := own_form og
  clear bd og ret1 HC
  go_wp2_with fail
  refine (spec_RowAt ⟨l.toArray⟩ p _ (by omega)).mono ?_
  rintro e we ⟨t2, rfl, ret2, be⟩
  rw [← HR.out] at ret2
  obtain ⟨y0, rfl, oy⟩ := ret2.one
  rw [← HKO.out.1, ← HKO.out.2]
  have HE : Hid (Below w.heap.size w we ∧ RowAt 1 encI we u xs ∧ RowAt 1 encI we (.slice ga (rL r).length gc) (rL r) ∧ RowAt 1 encI we y0 (rL r)) := ⟨HD.out.1.trans (be.mono HD.out.1.size), HD.out.2.1.keep be, HD.out.2.2.keep be, row_of_own encI_len (by decide) oy⟩
  clear be oy ret2 HD
  go_wp2_with fail
  refine (spec_PackRow u xs _ HE.out.2.1 lx2).mono ?_
  rintro e wf ⟨rfl, bf⟩
  rw [← HS.out]
  have HG : Hid (Below w.heap.size w wf ∧ RowAt 1 encI wf u xs ∧ RowAt 1 encI wf (.slice ga (rL r).length gc) (rL r) ∧ RowAt 1 encI wf y0 (rL r)) := ⟨HE.out.1.trans (bf.mono HE.out.1.size), HE.out.2.1.keep bf, HE.out.2.2.1.keep bf, HE.out.2.2.2.keep bf⟩
  clear bf HE
  go_wp2_with fail
  refine (wpInts _ y0 (rL r) (rL r) _ HG.out.2.2.1 HG.out.2.2.2 lr2 lr2).mono ?_
  rintro e wg ⟨rfl, bg⟩
  rw [eqB_true.2 rfl]
  have HH : Hid (Below w.heap.size w wg ∧ RowAt 1 encI wg u xs ∧ RowAt 1 encI wg (.slice ga (rL r).length gc) (rL r)) := ⟨HG.out.1.trans (bg.mono HG.out.1.size), HG.out.2.1.keep bg, HG.out.2.2.1.keep bg⟩
  clear bg HG
  go_wp2_with fail
  refine (impl_RowAt ⟨(S ++ l).toArray⟩ 0 _ (by rw [size_mk, List.length_append]; omega) (HF.out.keep HH.out.1)).mono ?_
  rintro e wh ⟨t3, rfl, ret3, bh⟩
  have HI : Hid (Below w.heap.size w wh ∧ RowAt 1 encI wh u xs ∧ RowAt 1 encI wh (.slice ga (rL r).length gc) (rL r)) := ⟨HH.out.1.trans (bh.mono HH.out.1.size), HH.out.2.1.keep bh, HH.out.2.2.keep bh⟩
  have HAS : Hid (∀ k x y, (rL r)[k + 1]? = some y → (rL r)[k]? = some x → x < y) := by
    intro k x y h1 h2
    cases hq : rwO ⟨l.toArray⟩ p with
    | none => rw [HR.out, hq] at h1; simp [rL] at h1
    | some z =>
      obtain ⟨ys, q⟩ := z
      rw [HR.out, hq] at h1 h2
      exact up_asc (rw_back hq).1 h1 h2
  obtain ⟨m, hm⟩ : ∃ m, m = (rL r).length := ⟨_, rfl⟩
  have HM : Hid (m = (rL r).length) := hm
  have lm : m ≤ 127 := by omega
  cases hu : upB xs
  · have s0 : S = [] := by rw [HS.out]; simp [rowL, hu]
    subst s0
    obtain ⟨z1', rfl, _⟩ := ret3.one
    obtain ⟨K3, hK3⟩ : ∃ K3, K3 = rK (rwO ⟨(([] : List UInt8) ++ l).toArray⟩ 0) := ⟨_, rfl⟩
    obtain ⟨O3, hO3⟩ : ∃ O3, O3 = (rwO ⟨(([] : List UInt8) ++ l).toArray⟩ 0).isSome := ⟨_, rfl⟩
    rw [← hK3, ← hO3]
    have HJ : Hid (Below w.heap.size w wh ∧ RowAt 1 encI wh (.slice ga m gc) (rL r)) := by rw [hm]; exact ⟨HI.out.1, HI.out.2.2⟩
    rw [← hm]
    clear bh ret3 hm HH hK3 hO3 hu
    go_wp2_with fail
    go_loopw [18] (fun i wr => ∃ k : Nat, 1 ≤ k ∧ (k ≤ m ∨ k = 1) ∧ i = .int .i64 k ∧ Below w.heap.size w wr ∧ RowAt 1 encI wr (.slice ga m gc) (rL r)) (fun i _ => m - (intOf i).toNat)
    case atStart => exact ⟨1, Nat.le_refl _, .inr rfl, rfl, HJ.out.1, HJ.out.2⟩
    case round =>
      obtain ⟨k, hk1, hk2, rfl, hbel, hrow⟩ := hrel
      by_cases hlt : k < m
      · obtain ⟨j, rfl⟩ : ∃ j, k = j + 1 := ⟨k - 1, by omega⟩
        have HRW : Hid (RowAt 1 encI wr (.slice ga m gc) (rL r)) := hrow
        rcases hrow with ⟨hz0, _⟩ | ⟨_, b1, o1, q1, hv1, hb1, E1⟩
        · exfalso; have := HM.out; rw [hz0] at this; simp at this; omega
        obtain rfl : ga = some ⟨b1, o1, none⟩ := by injection hv1
        obtain ⟨x, hx⟩ : ∃ x, (rL r)[j]? = some x := ⟨_, List.getElem?_eq_getElem (by rw [← HM.out]; omega)⟩
        obtain ⟨y, hy⟩ : ∃ y, (rL r)[j + 1]? = some y := ⟨_, List.getElem?_eq_getElem (by rw [← HM.out]; omega)⟩
        have e0 : wr.cell? ⟨b1, o1 + j, none⟩ = some (.int .i64 x) := cellI E1 hx
        have e1 : wr.cell? ⟨b1, o1 + (j + 1), none⟩ = some (.int .i64 y) := cellI E1 hy
        have hxy : x < y := HAS.out j x y hy hx
        have dxy : decide (y ≤ x) = false := by simp; omega
        have HB2 : Hid (Below w.heap.size w wr) := hbel
        have j0 : (0 : Int) ≤ (j : Int) := by omega
        have j1 : (j : Int) < (m : Int) := by omega
        have j2 : (j : Int) + 1 < (m : Int) := by omega
        clear hx hy E1 hv1 hbel
        go_wp2_with fail
        go_quiet (fail)
        go_wp2_with fail
        go_roundw
        case rel => exact ⟨j + 1 + 1, by omega, .inl (by omega), by go_num, belN HB2.out _, HRW.out⟩
        case measure => simp [intOf]; omega
      · cases hq : rwO ⟨l.toArray⟩ p with
        | none =>
          have hO0 : O = false := by rw [HKO.out.2, HR.out, hq]; rfl
          subst hO0
          clear hq hrow
          go_wp2_with fail
          refine wp_region_after (by kernel_rfl) (by kernel_rfl) ?_
          intro hne hac
          repeat (go_big_quiet_step (fail))
          refine wpQuiet_nil ?_
          rintro _ ⟨pw, rfl⟩
          have HZ : Hid (Below w.heap.size w pw.w) := hbel.trans (pw.bel.mono hbel.size)
          clear hne hac hbel
          generalize pw.w = wz at *
          go_wp2_with fail
          go_ret
          exact ⟨rfl, HZ.out⟩
        | some z =>
          obtain ⟨ys, q⟩ := z
          have hO1 : O = true := by rw [HKO.out.2, HR.out, hq]; rfl
          have hK1 : K = q := by rw [HKO.out.1, HR.out, hq]; rfl
          have hY : rL r = ys := by rw [HR.out, hq]; rfl
          obtain ⟨v1, v2, v3, v4⟩ := rw_back hq
          have v5 : q ≤ (l.length : Int) := by
            have := rw_end hq
            omega
          subst hO1 hK1
          have HX : Hid ((ByteArray.mk l.toArray).extract p.toNat K.toNat = ⟨(rowL ys).toArray⟩) := v4
          have HRW : Hid (RowAt 1 encI wr (.slice ga m gc) ys) := by show RowAt _ _ _ _ _; rw [← hY]; exact hrow
          have ly : ys.length ≤ 1048576 := by rw [← hY]; exact lr2
          clear hq hrow v4
          go_wp2_with fail
          refine wp_region_after (by kernel_rfl) (by kernel_rfl) ?_
          intro hne hac
          repeat (go_big_quiet_step (first | (go_at_call 14; exact after_of (v := .string ⟨(rowL ys).toArray⟩) (impl_PackRow _ ys _ (HRW.out.keep (After.bel _)) ly))))
          refine wpQuiet_nil ?_
          rintro _ ⟨pw, rfl⟩
          have HZ : Hid (Below w.heap.size w pw.w) := hbel.trans (pw.bel.mono hbel.size)
          clear hne hac hbel
          generalize pw.w = wz at *
          go_wp2_with fail
          go_ret
          exact ⟨by simp [HX.out], HZ.out⟩
  · have F2 : rwO ⟨(S ++ l).toArray⟩ 0 = some (xs, (S.length : Int)) := by
      have := rw_at [] l hu
      rw [← HS.out] at this
      simpa using this
    rw [F2] at ret3
    obtain ⟨z1', rfl, oz⟩ := ret3
    have s0 : S.isEmpty = false := by
      cases hs0 : S with
      | nil =>
        exfalso
        have h1 : rowL xs = rowK xs xs.length := by simp [rowL, hu]
        have h2 := HS.out
        rw [hs0, h1] at h2
        have h3 : pkL (xs.length : Int) = [] := by
          have h4 : rowK xs xs.length = [] := h2.symm
          unfold rowK at h4
          exact (List.append_eq_nil_iff.1 h4).1
        have := (pkL_nil (xs.length : Int)).1 h3
        omega
      | cons a b => rfl
    have HI2 : Hid (Below w.heap.size w wh ∧ RowAt 1 encI wh u xs ∧ RowAt 1 encI wh (.slice ga (rL r).length gc) (rL r) ∧ RowAt 1 encI wh z1' xs) := ⟨HI.out.1, HI.out.2.1, HI.out.2.2, row_of_own encI_len (by decide) oz⟩
    clear bh F2 oz HH hu
    go_wp2_with fail
    refine (wpInts z1' u xs xs _ HI2.out.2.2.2 HI2.out.2.1 lx2 lx2).mono ?_
    rintro e wi ⟨rfl, bi⟩
    rw [eqB_true.2 rfl]
    have HJ : Hid (Below w.heap.size w wi ∧ RowAt 1 encI wi (.slice ga m gc) (rL r)) := by rw [hm]; exact ⟨HI2.out.1.trans (bi.mono HI2.out.1.size), HI2.out.2.2.1.keep bi⟩
    rw [← hm]
    clear bi hm
    go_wp2_with fail
    go_loopw [18] (fun i wr => ∃ k : Nat, 1 ≤ k ∧ (k ≤ m ∨ k = 1) ∧ i = .int .i64 k ∧ Below w.heap.size w wr ∧ RowAt 1 encI wr (.slice ga m gc) (rL r)) (fun i _ => m - (intOf i).toNat)
    case atStart => exact ⟨1, Nat.le_refl _, .inr rfl, rfl, HJ.out.1, HJ.out.2⟩
    case round =>
      obtain ⟨k, hk1, hk2, rfl, hbel, hrow⟩ := hrel
      by_cases hlt : k < m
      · obtain ⟨j, rfl⟩ : ∃ j, k = j + 1 := ⟨k - 1, by omega⟩
        have HRW : Hid (RowAt 1 encI wr (.slice ga m gc) (rL r)) := hrow
        rcases hrow with ⟨hz0, _⟩ | ⟨_, b1, o1, q1, hv1, hb1, E1⟩
        · exfalso; have := HM.out; rw [hz0] at this; simp at this; omega
        obtain rfl : ga = some ⟨b1, o1, none⟩ := by injection hv1
        obtain ⟨x, hx⟩ : ∃ x, (rL r)[j]? = some x := ⟨_, List.getElem?_eq_getElem (by rw [← HM.out]; omega)⟩
        obtain ⟨y, hy⟩ : ∃ y, (rL r)[j + 1]? = some y := ⟨_, List.getElem?_eq_getElem (by rw [← HM.out]; omega)⟩
        have e0 : wr.cell? ⟨b1, o1 + j, none⟩ = some (.int .i64 x) := cellI E1 hx
        have e1 : wr.cell? ⟨b1, o1 + (j + 1), none⟩ = some (.int .i64 y) := cellI E1 hy
        have hxy : x < y := HAS.out j x y hy hx
        have dxy : decide (y ≤ x) = false := by simp; omega
        have HB2 : Hid (Below w.heap.size w wr) := hbel
        have j0 : (0 : Int) ≤ (j : Int) := by omega
        have j1 : (j : Int) < (m : Int) := by omega
        have j2 : (j : Int) + 1 < (m : Int) := by omega
        clear hx hy E1 hv1 hbel
        go_wp2_with fail
        go_quiet (fail)
        go_wp2_with fail
        go_roundw
        case rel => exact ⟨j + 1 + 1, by omega, .inl (by omega), by go_num, belN HB2.out _, HRW.out⟩
        case measure => simp [intOf]; omega
      · cases hq : rwO ⟨l.toArray⟩ p with
        | none =>
          have hO0 : O = false := by rw [HKO.out.2, HR.out, hq]; rfl
          subst hO0
          clear hq hrow
          go_wp2_with fail
          refine wp_region_after (by kernel_rfl) (by kernel_rfl) ?_
          intro hne hac
          repeat (go_big_quiet_step (fail))
          refine wpQuiet_nil ?_
          rintro _ ⟨pw, rfl⟩
          have HZ : Hid (Below w.heap.size w pw.w) := hbel.trans (pw.bel.mono hbel.size)
          clear hne hac hbel
          generalize pw.w = wz at *
          go_wp2_with fail
          go_ret
          exact ⟨rfl, HZ.out⟩
        | some z =>
          obtain ⟨ys, q⟩ := z
          have hO1 : O = true := by rw [HKO.out.2, HR.out, hq]; rfl
          have hK1 : K = q := by rw [HKO.out.1, HR.out, hq]; rfl
          have hY : rL r = ys := by rw [HR.out, hq]; rfl
          obtain ⟨v1, v2, v3, v4⟩ := rw_back hq
          have v5 : q ≤ (l.length : Int) := by
            have := rw_end hq
            omega
          subst hO1 hK1
          have HX : Hid ((ByteArray.mk l.toArray).extract p.toNat K.toNat = ⟨(rowL ys).toArray⟩) := v4
          have HRW : Hid (RowAt 1 encI wr (.slice ga m gc) ys) := by show RowAt _ _ _ _ _; rw [← hY]; exact hrow
          have ly : ys.length ≤ 1048576 := by rw [← hY]; exact lr2
          clear hq hrow v4
          go_wp2_with fail
          refine wp_region_after (by kernel_rfl) (by kernel_rfl) ?_
          intro hne hac
          repeat (go_big_quiet_step (first | (go_at_call 14; exact after_of (v := .string ⟨(rowL ys).toArray⟩) (impl_PackRow _ ys _ (HRW.out.keep (After.bel _)) ly))))
          refine wpQuiet_nil ?_
          rintro _ ⟨pw, rfl⟩
          have HZ : Hid (Below w.heap.size w pw.w) := hbel.trans (pw.bel.mono hbel.size)
          clear hne hac hbel
          generalize pw.w = wz at *
          go_wp2_with fail
          go_ret
          exact ⟨by simp [HX.out], HZ.out⟩

theorem door_met (os : Os) (args : Array Value) : laidMetH Tryd.prog Rows.fnPackRowRow.laid ((World.doorLaid Tryd.prog 28 os).forCall (fun _ _ => 0) ⟨#[], args, []⟩).memory :=
  laidMetH_of_parts3 (fuel := 8) (laidMet_of_run' 8 (by kernel_rfl) (by kernel_rfl)) (by kernel_rfl) (by kernel_rfl)

set_option maxRecDepth 100000 in
set_option maxHeartbeats 1000000 in
theorem lifted (os : Os) (started : os.Started) (H : Type) (enc : TypeId × Value → H) :
    ReturnsInHanded {} Tryd.checked os 4 .any (fun w args => (Rows.fnPackRowSpec.pre enc Tryd.prog Tryd.f4 [] false w args ∧ laidMetH Tryd.prog Rows.fnPackRowRow.laid w) ∧ sizedMet enc Tryd.prog Tryd.f4 (OpenSpec.ofChange Rows.fnPackRowSpec) false w args)
      (Rows.fnPackRowSpec.post enc Tryd.prog Tryd.f4 false true false false) := by
  refine returnsInHanded_of_change_and (C := Tryd.checked) (X := fun w _ => laidMetH Tryd.prog Rows.fnPackRowRow.laid w) (fun _ _ _ hh h => h.of_heap hh) own started (by kernel_rfl) Tryd.func4
    (ChangeSpec.witness_shaped (enc := enc) (C := Tryd.checked) (os := os) (X := fun w _ => laidMetH Tryd.prog Rows.fnPackRowRow.laid w) false (World.doorLaid Tryd.prog 28 os) #[.slice none 0 0, .slice none 0 0] 8 rfl (World.shaped_of_RefB (by kernel_rfl) (by kernel_rfl)) (by kernel_rfl) (by kernel_rfl) (by kernel_rfl) (door_met os _)) ?_
  intro W base args ds gs before hval0 hW _ _ hL _
  have hval : ∀ (j : Nat) t v, Tryd.f4.params[j]? = some t → args[j]? = some v → Value.okWide Tryd.prog W .any base t v := hval0
  have hW' := hW
  obtain ⟨p, q, hA0, hV0, rfl, hfz, hnd⟩ := hW
  have hA : DataW.TrodAll enc Tryd.prog W 0 (fun _ => true) true Tryd.f4.params.toList args.toList ds p := hA0
  have hV : DataW.TrodVars enc Tryd.prog W (fun _ => true) ["loop.example/hagioscope/impl.errForm"] gs q := hV0
  rw [Tryd.params4] at hA hval
  obtain ⟨v0, vs0, d0, ds0, p0, q0, hargs, rfl, rfl, h0, r0⟩ := trodAll_cons hA
  obtain ⟨v1, vs1, d1, ds1, p1, q1, rfl, rfl, rfl, h1, r1⟩ := trodAll_cons r0
  obtain ⟨rfl, rfl, rfl⟩ := trodAll_nil r1
  obtain rfl : args = #[v0, v1] := by cases args; simp_all
  have kr0 := h0
  have lt0 : ∀ x ∈ p0, x.block < W.heap.size := by obtain ⟨m, hm⟩ := kr0; exact DataW.trod_lt m _ _ _ hm
  have kr1 := h1
  have lt1 : ∀ x ∈ p1, x.block < W.heap.size := by obtain ⟨m, hm⟩ := kr1; exact DataW.trod_lt m _ _ _ hm
  obtain ⟨a0, len0, cap0, rfl⟩ := okWide_slice Tryd.underlying22 (hval 0 22 v0 rfl rfl)
  obtain ⟨z0, w0⟩ : ∃ zs, IsRow .u8 W a0 len0 cap0 zs := by
    obtain ⟨fuel, hf⟩ := h0
    rcases open_ints Tryd.underlying22 Tryd.underlying5 (by kernel_rfl) hf with ⟨hcs, _⟩ | ⟨x, l, c, zs, hcs, _, hl, hm, hz, _, hcell, hwz⟩
    · simp [Value.cells] at hcs
      obtain ⟨rfl, rfl, rfl⟩ := hcs
      exact ⟨[], .inl ⟨rfl, rfl, rfl, rfl⟩⟩
    · simp [Value.cells] at hcs
      obtain ⟨rfl, rfl, rfl⟩ := hcs
      exact ⟨zs, .inr ⟨_, rfl, hl, hm, by simpa using hz, hcell, hwz⟩⟩
  obtain ⟨a1, len1, cap1, rfl⟩ := okWide_slice Tryd.underlying22 (hval 1 22 v1 rfl rfl)
  obtain ⟨z1, w1⟩ : ∃ zs, IsRow .u8 W a1 len1 cap1 zs := by
    obtain ⟨fuel, hf⟩ := h1
    rcases open_ints Tryd.underlying22 Tryd.underlying5 (by kernel_rfl) hf with ⟨hcs, _⟩ | ⟨x, l, c, zs, hcs, _, hl, hm, hz, _, hcell, hwz⟩
    · simp [Value.cells] at hcs
      obtain ⟨rfl, rfl, rfl⟩ := hcs
      exact ⟨[], .inl ⟨rfl, rfl, rfl, rfl⟩⟩
    · simp [Value.cells] at hcs
      obtain ⟨rfl, rfl, rfl⟩ := hcs
      exact ⟨zs, .inr ⟨_, rfl, hl, hm, by simpa using hz, hcell, hwz⟩⟩
  obtain ⟨g, t, cs, fuel, d, p', rfl, hg, ht, hvar, hd, rfl⟩ := trodVars_one hV
  obtain rfl := Option.some.inj (gForm.symm.trans hg)
  obtain rfl := Option.some.inj (tForm.symm.trans ht)
  obtain ⟨fu, fv, hff⟩ := form_of hL
  obtain rfl : cs = #[.iface fu fv] := Option.some.inj (hvar.symm.trans hff)
  have hform : FormAt W := formAt_of hff
  obtain ⟨_, _, hheap⟩ := heap_of_var gForm hff
  clear hA0 hV0 hval0
  refine (walk a0 len0 cap0 z0 a1 len1 cap1 z1 W w0 w1 hform).mono fun e W' ⟨he, bel⟩ => ?_
  subst he
  exact ⟨_, rfl, _, _, _, [], _, _, hW', trodAll_mk1 (shut_bool Tryd.underlying4 _), (trodAll_cons_mk (Below.trod laidOut (by kernel_rfl) (of_decide_eq_true (by kernel_rfl)) kr0 bel lt0) (trodAll_cons_mk (Below.trod laidOut (by kernel_rfl) (of_decide_eq_true (by kernel_rfl)) kr1 bel lt1) trodAll_mk0)), trodVars_mk1 gForm tForm (var?_below bel gForm (lt_of_block hheap) hff) (held_again Tryd.underlying42 hd), bel.frame _, fun h => by cases h⟩

theorem said : Rows.FnPackRowSaid :=
  OpenClaim.holds_of_wide 4 Tryd.f4 rfl rfl rfl rfl rfl rfl rfl ⟨rfl, rfl, rfl, rfl, rfl⟩ rfl rfl rfl rfl rfl (by kernel_rfl) Tryd.func4 (by kernel_rfl)
    (of_decide_eq_true (by kernel_rfl)) (by unfold Func.isWrapper; first | (rw [if_pos (by decide +kernel)]; kernel_rfl) | (rw [if_neg (by decide +kernel)]; exact ⟨rfl, rfl⟩))
    (fun os started H enc _ => lifted os started H enc)

theorem plain (f : FuncId) (fn : Func) (hf : Tryd.pinned.checked.prog.funcNamed "loop.example/hagioscope/laws.FnPackRow" = some f) (hfn : Tryd.pinned.checked.prog.funcs[f]? = some fn) :
    false = Tryd.pinned.checked.prog.looks [] ∧ ∀ (j : Nat) t, fn.params[j]? = some t → Tryd.pinned.checked.prog.wantsStandIn t = false := by
  obtain rfl : f = 4 := Option.some.inj ((show Tryd.prog.funcNamed "loop.example/hagioscope/laws.FnPackRow" = some 4 by kernel_rfl).symm.trans hf) |>.symm
  obtain rfl : fn = Tryd.f4 := (Option.some.inj (Tryd.func4.symm.trans hfn)).symm
  refine ⟨by kernel_rfl, fun j t ht => ?_⟩
  rw [Tryd.params4] at ht
  obtain rfl : t = 22 := by simpa using Array.mem_of_getElem? ht
  · exact (show Tryd.prog.wantsStandIn 22 = false by kernel_rfl)

end Go.Proofs.YtladmjhokdgipaaDoor.fnPackRow
namespace Go.Proofs.YtladmjhokdgipaaDoor
theorem fnPackRow_card : Rows.FnPackRowCardSaid :=
  Claim7.holds_tied_plain_at .later [] _ _ _ _ fnPackRow.said (fun _ h => by cases h) (by kernel_rfl) (fun _ h => by cases h) fnPackRow_row_tie rfl ⟨rfl, rfl⟩ (by kernel_rfl) rfl fnPackRow.plain (by kernel_rfl)
#print axioms fnPackRow_card
end Go.Proofs.YtladmjhokdgipaaDoor
