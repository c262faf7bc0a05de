/-
  Malformed pools are refused.
-/
import Derived.Test.YtcifjildjiakgaaDoorCards
import Derived.Test.YtcifjildjiakgaaDoorTie
import Derived.Test.YtcifjildjiakgaaDoorPlw
import Derived.Test.YtcifjildjiakgaaDoorDsm
import Derived.Test.YtcifjildjiakgaaDoorBxu
import Derived.WalkKit
import Derived.ProofKit
import Derived.OpenShut
import Derived.ShutString
import Derived.ChangeOld
import Derived.Below
import Derived.Carry
import Derived.Handy
import Derived.Deep.RegionHeld3
import Derived.LaidMore
import Derived.Deep.DeepCutAuto
namespace Go.Proofs.YtcifjildjiakgaaDoor.fnPoolBent
open Go.Proofs.YtcifjildjiakgaaDoor.Lab
open Go.ChangeShapes Go.WideShapes Go.ChangeAt Go.RowKit
open Go.ChangeMaps (open_string shut_string)
set_option linter.unusedVariables false

theorem own : ownKnob Tryd.prog.godebug = none := by kernel_rfl
/-- A row of numbers that came in: nil, or so many cells. -/
def IsRow (k : IntKind) (w : World) (a : Option Addr) (len cap : Nat) (zs : List Int) : Prop :=
  (a = none ∧ len = 0 ∧ cap = 0 ∧ zs = []) ∨ ∃ x, a = some x ∧ len ≤ cap ∧ cap ≤ maxLen ∧ zs.length = cap ∧ (∀ i, i < zs.length → w.cell? (x.add i) = some (.int k (zs.getD i 0))) ∧ ∀ n ∈ zs, (Lit.int k n).wf = true
theorem wrap_small (x : Int) (h0 : -1000000 ≤ x) (h1 : x ≤ 1000000) : IntKind.i64.wrap x = x := by
  unfold IntKind.wrap; simp [IntKind.bits, IntKind.signed]; omega

set_option maxRecDepth 16000 in
set_option maxHeartbeats 8000000 in
theorem walk (a0 : Option Addr) (len0 cap0 : Nat) (z0 : List Int) (w : World) (w0 : IsRow .u8 w a0 len0 cap0 z0) (hform : FormAt w) :
    Calls Tryd.prog 3 #[.slice a0 len0 cap0] w fun e w' => e = .returned (.bool true) ∧ Below w.heap.size w w' := by
  have HF : Hid (FormAt w) := hform
  clear hform
  by_cases hlen0 : len0 > 1048576
  · go_enter Tryd.func3, Tryd.ntmps3
    go_wp2
    go_ret
    exact ⟨rfl, Below.refl _ _⟩
  have k0 : CodeAt w a0 len0 cap0 z0 := code_of w0
  clear w0
  go_enter Tryd.func3, Tryd.ntmps3
  go_wp2_with fail
  refine (drawPoolSame _ _ _ _ _ k0).mono ?_
  rintro e wa ⟨z1, z2, u, v, xs, ys, rfl, ou, ov, lx, ly, ba⟩
  obtain ⟨va, vc, rfl⟩ := ov.form
  obtain ⟨ua, uc, rfl⟩ := ou.form
  obtain ⟨n, hn⟩ : ∃ n, n = ys.length := ⟨_, rfl⟩
  obtain ⟨m, hm⟩ : ∃ m, m = xs.length := ⟨_, rfl⟩
  have HN : Hid (n = ys.length ∧ m = xs.length) := ⟨hn, hm⟩
  rw [← hn] at ly ov ⊢
  rw [← hm] at lx ou ⊢
  obtain ⟨A, hA⟩ : ∃ t, t = wa.heap.size := ⟨_, rfl⟩
  have HA : Hid (A = wa.heap.size) := hA
  have BB : Below A wa wa := Below.refl _ _
  have sA : A ≤ wa.heap.size := by omega
  have HV : Hid (∀ W, Below A wa W → RowC W (.slice ua m uc) xs ∧ RowC W (.slice va n vc) ys ∧ FormAt W ∧ CodeAt W a0 len0 cap0 z0 ∧ Below w.heap.size w W) := fun W h => by
    rw [HA.out] at h
    exact ⟨(RowC.of_own ou).keep h, (RowC.of_own ov).keep h, (HF.out.keep ba).keep h, (k0.below ba).below h, ba.trans (h.mono ba.size)⟩
  clear ou ov ba k0 hn hm HF hA
  go_wp2_with fail
  obtain ⟨P0, hP0⟩ : ∃ t, t = wa.heap.size := ⟨_, rfl⟩
  generalize hW : wa.alloc (.cells #[.int .i64 z1, .slice ua m uc] 25) = wb
  have nb : Below wa.heap.size wa wb := by rw [← hW]; exact (Below.refl _ _).alloc (Nat.le_refl _) _
  have k3 : wb.heap.size = P0 + 1 := by rw [← hW, hP0]; simp
  have kk0 : wb.cell? ⟨P0, 0, none⟩ = some (.int .i64 z1) := by rw [← hW, hP0]; simp [go_sem]
  have kk1 : wb.cell? ⟨P0, 1, none⟩ = some (.slice ua m uc) := by rw [← hW, hP0]; simp [go_sem]
  have oP0A : A ≤ P0 := by rw [hP0]; exact sA
  have BB1 : Below A wa wb := BB.trans (nb.mono (by omega))
  have sA1 : A ≤ wb.heap.size := by have := Below.size nb; omega
  clear BB sA   
  have BB := BB1
  have sA := sA1
  clear BB1 sA1   
  have cc0 := kk0
  have cc1 := kk1
  have zz0 : P0 < wb.heap.size := by omega
  rw [← hP0]
  have k3P0 := k3
  clear k3 hW nb hP0 kk0 kk1
  rw [k3P0.symm]
  obtain ⟨P1, hP1⟩ : ∃ t, t = wb.heap.size := ⟨_, rfl⟩
  generalize hW : wb.alloc (.cells #[.int .i64 z2, .slice va n vc] 25) = wb2
  have nb : Below wb.heap.size wb wb2 := by rw [← hW]; exact (Below.refl _ _).alloc (Nat.le_refl _) _
  have k3 : wb2.heap.size = P1 + 1 := by rw [← hW, hP1]; simp
  have kk0 : wb2.cell? ⟨P1, 0, none⟩ = some (.int .i64 z2) := by rw [← hW, hP1]; simp [go_sem]
  have kk1 : wb2.cell? ⟨P1, 1, none⟩ = some (.slice va n vc) := by rw [← hW, hP1]; simp [go_sem]
  have oP1A : A ≤ P1 := by rw [hP1]; exact sA
  have oP10 : P0 < P1 := by rw [hP1]; exact zz0
  have d0 : wb2.cell? ⟨P0, 0, none⟩ = some (.int .i64 z1) := (Below.celz nb _ _ _ (by omega)).trans cc0
  have d1 : wb2.cell? ⟨P0, 1, none⟩ = some (.slice ua m uc) := (Below.celz nb _ _ _ (by omega)).trans cc1
  have y0 : P0 < wb2.heap.size := by have := Below.size nb; omega
  have BB1 : Below A wa wb2 := BB.trans (nb.mono (by omega))
  have sA1 : A ≤ wb2.heap.size := by have := Below.size nb; omega
  clear BB sA cc0 cc1 zz0 
  have cc0 := d0
  have cc1 := d1
  have zz0 := y0
  have BB := BB1
  have sA := sA1
  clear BB1 sA1 d0 d1 y0 
  have cc2 := kk0
  have cc3 := kk1
  have zz1 : P1 < wb2.heap.size := by omega
  rw [← hP1]
  have k3P1 := k3
  clear k3 hW nb hP1 kk0 kk1
  clear k3P0 k3P1
  refine (drawPoolOk _ _ _ _ _ (HV.out _ BB).2.2.2.1).mono ?_
  rintro e wc ⟨zp, t, ps, rfl, ot, lp, hzp, bc⟩
  obtain ⟨pa, pc, rfl⟩ := ot.form
  obtain ⟨k, hk⟩ : ∃ k, k = ps.length := ⟨_, rfl⟩
  have HK : Hid (k = ps.length) := hk
  rw [← hk] at lp ot ⊢
  have d0 : wc.cell? ⟨P0, 0, none⟩ = some (.int .i64 z1) := (Below.celz bc _ _ _ (by omega)).trans cc0
  have d1 : wc.cell? ⟨P0, 1, none⟩ = some (.slice ua m uc) := (Below.celz bc _ _ _ (by omega)).trans cc1
  have d2 : wc.cell? ⟨P1, 0, none⟩ = some (.int .i64 z2) := (Below.celz bc _ _ _ (by omega)).trans cc2
  have d3 : wc.cell? ⟨P1, 1, none⟩ = some (.slice va n vc) := (Below.celz bc _ _ _ (by omega)).trans cc3
  have y0 : P0 < wc.heap.size := by have := bc.size; omega
  have y1 : P1 < wc.heap.size := by have := bc.size; omega
  have HV2 : Hid (∀ W, Below wc.heap.size wc W → RowC W (.slice ua m uc) xs ∧ RowC W (.slice va n vc) ys ∧ RowC W (.slice pa k pc) ps ∧ FormAt W ∧ Below w.heap.size w W) := fun W h => by
    have h1 := HV.out _ (BB.trans ((bc.trans (h.mono bc.size)).mono sA))
    exact ⟨h1.1, h1.2.1, (RowC.of_own ot).keep h, h1.2.2.1, h1.2.2.2.2⟩
  clear bc BB sA HV hk ot HA cc0 cc1 cc2 cc3 zz0 zz1
  have cc0 := d0
  clear d0
  have cc1 := d1
  clear d1
  have cc2 := d2
  clear d2
  have cc3 := d3
  clear d3
  have zz0 := y0
  clear y0
  have zz1 := y1
  clear y1
  obtain ⟨A2, hA2⟩ : ∃ t, t = wc.heap.size := ⟨_, rfl⟩
  have HA : Hid (A2 = wc.heap.size) := hA2
  have BB : Below A2 wc wc := Below.refl _ _
  have sA : A2 ≤ wc.heap.size := by omega
  have HV3 : Hid (∀ W, Below A2 wc W → RowC W (.slice ua m uc) xs ∧ RowC W (.slice va n vc) ys ∧ RowC W (.slice pa k pc) ps ∧ FormAt W ∧ Below w.heap.size w W) := fun W h => HV2.out W (by rw [HA.out] at h; exact h)
  clear HV2 hA2
  go_upto_region 5 with fail
  obtain ⟨P2, hP2⟩ : ∃ t, t = wc.heap.size := ⟨_, rfl⟩
  generalize hW : wc.alloc (.cells #[.int .i64 zp, .slice pa k pc] 25) = wd
  have nb : Below wc.heap.size wc wd := by rw [← hW]; exact (Below.refl _ _).alloc (Nat.le_refl _) _
  have k3 : wd.heap.size = P2 + 1 := by rw [← hW, hP2]; simp
  have kk0 : wd.cell? ⟨P2, 0, none⟩ = some (.int .i64 zp) := by rw [← hW, hP2]; simp [go_sem]
  have kk1 : wd.cell? ⟨P2, 1, none⟩ = some (.slice pa k pc) := by rw [← hW, hP2]; simp [go_sem]
  have oP2A : A2 ≤ P2 := by rw [hP2]; exact sA
  have oP20 : P0 < P2 := by rw [hP2]; exact zz0
  have oP21 : P1 < P2 := by rw [hP2]; exact zz1
  have d0 : wd.cell? ⟨P0, 0, none⟩ = some (.int .i64 z1) := (Below.celz nb _ _ _ (by omega)).trans cc0
  have d1 : wd.cell? ⟨P0, 1, none⟩ = some (.slice ua m uc) := (Below.celz nb _ _ _ (by omega)).trans cc1
  have d2 : wd.cell? ⟨P1, 0, none⟩ = some (.int .i64 z2) := (Below.celz nb _ _ _ (by omega)).trans cc2
  have d3 : wd.cell? ⟨P1, 1, none⟩ = some (.slice va n vc) := (Below.celz nb _ _ _ (by omega)).trans cc3
  have y0 : P0 < wd.heap.size := by have := Below.size nb; omega
  have y1 : P1 < wd.heap.size := by have := Below.size nb; omega
  have BB1 : Below A2 wc wd := BB.trans (nb.mono (by omega))
  have sA1 : A2 ≤ wd.heap.size := by have := Below.size nb; omega
  clear BB sA cc0 cc1 cc2 cc3 zz0 zz1 
  have cc0 := d0
  have cc1 := d1
  have cc2 := d2
  have cc3 := d3
  have zz0 := y0
  have zz1 := y1
  have BB := BB1
  have sA := sA1
  clear BB1 sA1 d0 d1 d2 d3 y0 y1 
  have cc4 := kk0
  have cc5 := kk1
  have zz2 : P2 < wd.heap.size := by omega
  rw [← hP2]
  have k3P2 := k3
  clear k3 hW nb hP2 kk0 kk1
  clear k3P2
  obtain ⟨s, hs⟩ : ∃ s, s = (decide (z1 = z2) && eqB xs ys) := ⟨_, rfl⟩
  have hs2 : (decide (z2 = z1) && eqB ys xs) = s := by
    rw [hs, Bool.eq_iff_iff]
    simp only [Bool.and_eq_true, decide_eq_true_eq, eqB_true]
    exact ⟨fun h => ⟨h.1.symm, h.2.symm⟩, fun h => ⟨h.1.symm, h.2.symm⟩⟩
  have HS : Hid ((decide (z1 = z2) && eqB xs ys) = s ∧ (decide (z2 = z1) && eqB ys xs) = s) := ⟨hs.symm, hs2⟩
  clear hs hs2
  have HL : Hid (xs.length ≤ 1048576 ∧ ys.length ≤ 1048576 ∧ ps.length ≤ 1048576) := ⟨by rw [← HN.out.2]; omega, by rw [← HN.out.1]; omega, by rw [← HK.out]; omega⟩
  cases hp : poolB zp ps
  · cases s
    · have HA1 : Hid (∀ p : After wd, RowC p.w (.slice ua m uc) xs ∧ RowC p.w (.slice va n vc) ys ∧ RowC p.w (.slice pa k pc) ps ∧ FormAt p.w) := fun p => ⟨(HV3.out _ (BB.trans (p.bel.mono sA))).1, (HV3.out _ (BB.trans (p.bel.mono sA))).2.1, (HV3.out _ (BB.trans (p.bel.mono sA))).2.2.1, (HV3.out _ (BB.trans (p.bel.mono sA))).2.2.2.1⟩
      have K1 : Hid (∀ p : After wd, Calls Tryd.prog 6 #[.agg #[.int .i64 z1, .slice ua m uc], .agg #[.int .i64 z2, .slice va n vc]] p.w fun e w'' => e = .returned (.bool false) ∧ ∃ q : After wd, w'' = q.w) := fun p => after_at HS.out.1 (impl_PoolSame z1 z2 _ _ xs ys _ (HA1.out p).1.1 (HA1.out p).2.1.1 HL.out.1 HL.out.2.1)
      have K2 : Hid (∀ p : After wd, Calls Tryd.prog 7 #[.agg #[.int .i64 z1, .slice ua m uc], .agg #[.int .i64 z2, .slice va n vc]] p.w fun e w'' => e = .returned (.bool false) ∧ ∃ q : After wd, w'' = q.w) := fun p => after_at HS.out.1 (spec_PoolSame z1 z2 _ _ xs ys _ (HA1.out p).1.1 (HA1.out p).2.1.1 HL.out.1 HL.out.2.1)
      have K3 : Hid (∀ p : After wd, Calls Tryd.prog 6 #[.agg #[.int .i64 z2, .slice va n vc], .agg #[.int .i64 z1, .slice ua m uc]] p.w fun e w'' => e = .returned (.bool false) ∧ ∃ q : After wd, w'' = q.w) := fun p => after_at HS.out.2 (impl_PoolSame z2 z1 _ _ ys xs _ (HA1.out p).2.1.1 (HA1.out p).1.1 HL.out.2.1 HL.out.1)
      have K4 : Hid (∀ p : After wd, Calls Tryd.prog 6 #[.agg #[.int .i64 zp, .slice pa k pc], .agg #[.int .i64 zp, .slice pa k pc]] p.w fun e w'' => e = .returned (.bool true) ∧ ∃ q : After wd, w'' = q.w) := fun p => after_of (impl_PoolSame_same zp _ _ ps _ (HA1.out p).2.2.1.1 (HA1.out p).2.2.1.1 HL.out.2.2)
      have K5 : Hid (∀ p : After wd, Calls Tryd.prog 8 #[.agg #[.int .i64 zp, .slice pa k pc]] p.w fun e w'' => e = .returned (.bool false) ∧ ∃ q : After wd, w'' = q.w) := fun p => after_at hp (impl_PoolOk zp _ ps _ (HA1.out p).2.2.1.1 HL.out.2.2 (HA1.out p).2.2.2)
      have K6 : Hid (∀ p : After wd, Calls Tryd.prog 9 #[.agg #[.int .i64 zp, .slice pa k pc]] p.w fun e w'' => e = .returned (.bool false) ∧ ∃ q : After wd, w'' = q.w) := fun p => after_at hp (spec_PoolOk zp _ ps _ (HA1.out p).2.2.1 HL.out.2.2)
      refine wp_region_after (by kernel_rfl) (by kernel_rfl) ?_
      intro hneq hac
      repeat (go_big_quiet_step (first | (go_at_call 6; first | (with_reducible exact K1.out _) | (with_reducible exact K3.out _) | (with_reducible exact K4.out _)) | (go_at_call 7; first | (with_reducible exact K2.out _)) | (go_at_call 8; first | (with_reducible exact K5.out _)) | (go_at_call 9; first | (with_reducible exact K6.out _))))
      refine wpQuiet_nil ?_
      rintro _ ⟨p, rfl⟩
      have bq : Below wd.heap.size wd p.w := p.bel
      clear hac hneq
      generalize p.w = we at *
      have d0 : we.cell? ⟨P0, 0, none⟩ = some (.int .i64 z1) := (Below.celz bq _ _ _ (by omega)).trans cc0
      have d1 : we.cell? ⟨P0, 1, none⟩ = some (.slice ua m uc) := (Below.celz bq _ _ _ (by omega)).trans cc1
      have d2 : we.cell? ⟨P1, 0, none⟩ = some (.int .i64 z2) := (Below.celz bq _ _ _ (by omega)).trans cc2
      have d3 : we.cell? ⟨P1, 1, none⟩ = some (.slice va n vc) := (Below.celz bq _ _ _ (by omega)).trans cc3
      have d4 : we.cell? ⟨P2, 0, none⟩ = some (.int .i64 zp) := (Below.celz bq _ _ _ (by omega)).trans cc4
      have d5 : we.cell? ⟨P2, 1, none⟩ = some (.slice pa k pc) := (Below.celz bq _ _ _ (by omega)).trans cc5
      have y0 : P0 < we.heap.size := by have := Below.size bq; omega
      have y1 : P1 < we.heap.size := by have := Below.size bq; omega
      have y2 : P2 < we.heap.size := by have := Below.size bq; omega
      have BB1 : Below A2 wc we := BB.trans (bq.mono (by omega))
      have sA1 : A2 ≤ we.heap.size := by have := Below.size bq; omega
      clear BB sA cc0 cc1 cc2 cc3 cc4 cc5 zz0 zz1 zz2 
      have cc0 := d0
      have cc1 := d1
      have cc2 := d2
      have cc3 := d3
      have cc4 := d4
      have cc5 := d5
      have zz0 := y0
      have zz1 := y1
      have zz2 := y2
      have BB := BB1
      have sA := sA1
      clear BB1 sA1 d0 d1 d2 d3 d4 d5 y0 y1 y2 
      clear bq
      clear HA1 K1 K2 K3 K4 K5 K6
      go_wp2_with fail
      have CP := spec_PoolOk zp _ ps _ (HV3.out _ BB).2.2.1 HL.out.2.2
      rw [hp] at CP
      refine (CP).mono ?_
      rintro e wf ⟨rfl, bf⟩
      have d0 : wf.cell? ⟨P0, 0, none⟩ = some (.int .i64 z1) := (Below.celz bf _ _ _ (by omega)).trans cc0
      have d1 : wf.cell? ⟨P0, 1, none⟩ = some (.slice ua m uc) := (Below.celz bf _ _ _ (by omega)).trans cc1
      have d2 : wf.cell? ⟨P1, 0, none⟩ = some (.int .i64 z2) := (Below.celz bf _ _ _ (by omega)).trans cc2
      have d3 : wf.cell? ⟨P1, 1, none⟩ = some (.slice va n vc) := (Below.celz bf _ _ _ (by omega)).trans cc3
      have d4 : wf.cell? ⟨P2, 0, none⟩ = some (.int .i64 zp) := (Below.celz bf _ _ _ (by omega)).trans cc4
      have d5 : wf.cell? ⟨P2, 1, none⟩ = some (.slice pa k pc) := (Below.celz bf _ _ _ (by omega)).trans cc5
      have y0 : P0 < wf.heap.size := by have := Below.size bf; omega
      have y1 : P1 < wf.heap.size := by have := Below.size bf; omega
      have y2 : P2 < wf.heap.size := by have := Below.size bf; omega
      have BB1 : Below A2 wc wf := BB.trans (bf.mono (by omega))
      have sA1 : A2 ≤ wf.heap.size := by have := Below.size bf; omega
      clear BB sA cc0 cc1 cc2 cc3 cc4 cc5 zz0 zz1 zz2 
      have cc0 := d0
      have cc1 := d1
      have cc2 := d2
      have cc3 := d3
      have cc4 := d4
      have cc5 := d5
      have zz0 := y0
      have zz1 := y1
      have zz2 := y2
      have BB := BB1
      have sA := sA1
      clear BB1 sA1 d0 d1 d2 d3 d4 d5 y0 y1 y2 
      clear bf
      clear CP
      go_wp2_with fail
      go_ret
      exact ⟨rfl, (HV3.out _ BB).2.2.2.2⟩
    · have HA1 : Hid (∀ p : After wd, RowC p.w (.slice ua m uc) xs ∧ RowC p.w (.slice va n vc) ys ∧ RowC p.w (.slice pa k pc) ps ∧ FormAt p.w) := fun p => ⟨(HV3.out _ (BB.trans (p.bel.mono sA))).1, (HV3.out _ (BB.trans (p.bel.mono sA))).2.1, (HV3.out _ (BB.trans (p.bel.mono sA))).2.2.1, (HV3.out _ (BB.trans (p.bel.mono sA))).2.2.2.1⟩
      have K1 : Hid (∀ p : After wd, Calls Tryd.prog 6 #[.agg #[.int .i64 z1, .slice ua m uc], .agg #[.int .i64 z2, .slice va n vc]] p.w fun e w'' => e = .returned (.bool true) ∧ ∃ q : After wd, w'' = q.w) := fun p => after_at HS.out.1 (impl_PoolSame z1 z2 _ _ xs ys _ (HA1.out p).1.1 (HA1.out p).2.1.1 HL.out.1 HL.out.2.1)
      have K2 : Hid (∀ p : After wd, Calls Tryd.prog 7 #[.agg #[.int .i64 z1, .slice ua m uc], .agg #[.int .i64 z2, .slice va n vc]] p.w fun e w'' => e = .returned (.bool true) ∧ ∃ q : After wd, w'' = q.w) := fun p => after_at HS.out.1 (spec_PoolSame z1 z2 _ _ xs ys _ (HA1.out p).1.1 (HA1.out p).2.1.1 HL.out.1 HL.out.2.1)
      have K3 : Hid (∀ p : After wd, Calls Tryd.prog 6 #[.agg #[.int .i64 z2, .slice va n vc], .agg #[.int .i64 z1, .slice ua m uc]] p.w fun e w'' => e = .returned (.bool true) ∧ ∃ q : After wd, w'' = q.w) := fun p => after_at HS.out.2 (impl_PoolSame z2 z1 _ _ ys xs _ (HA1.out p).2.1.1 (HA1.out p).1.1 HL.out.2.1 HL.out.1)
      have K4 : Hid (∀ p : After wd, Calls Tryd.prog 6 #[.agg #[.int .i64 zp, .slice pa k pc], .agg #[.int .i64 zp, .slice pa k pc]] p.w fun e w'' => e = .returned (.bool true) ∧ ∃ q : After wd, w'' = q.w) := fun p => after_of (impl_PoolSame_same zp _ _ ps _ (HA1.out p).2.2.1.1 (HA1.out p).2.2.1.1 HL.out.2.2)
      have K5 : Hid (∀ p : After wd, Calls Tryd.prog 8 #[.agg #[.int .i64 zp, .slice pa k pc]] p.w fun e w'' => e = .returned (.bool false) ∧ ∃ q : After wd, w'' = q.w) := fun p => after_at hp (impl_PoolOk zp _ ps _ (HA1.out p).2.2.1.1 HL.out.2.2 (HA1.out p).2.2.2)
      have K6 : Hid (∀ p : After wd, Calls Tryd.prog 9 #[.agg #[.int .i64 zp, .slice pa k pc]] p.w fun e w'' => e = .returned (.bool false) ∧ ∃ q : After wd, w'' = q.w) := fun p => after_at hp (spec_PoolOk zp _ ps _ (HA1.out p).2.2.1 HL.out.2.2)
      refine wp_region_after (by kernel_rfl) (by kernel_rfl) ?_
      intro hneq hac
      repeat (go_big_quiet_step (first | (go_at_call 6; first | (with_reducible exact K1.out _) | (with_reducible exact K3.out _) | (with_reducible exact K4.out _)) | (go_at_call 7; first | (with_reducible exact K2.out _)) | (go_at_call 8; first | (with_reducible exact K5.out _)) | (go_at_call 9; first | (with_reducible exact K6.out _))))
      refine wpQuiet_nil ?_
      rintro _ ⟨p, rfl⟩
      have bq : Below wd.heap.size wd p.w := p.bel
      clear hac hneq
      generalize p.w = we at *
      have d0 : we.cell? ⟨P0, 0, none⟩ = some (.int .i64 z1) := (Below.celz bq _ _ _ (by omega)).trans cc0
      have d1 : we.cell? ⟨P0, 1, none⟩ = some (.slice ua m uc) := (Below.celz bq _ _ _ (by omega)).trans cc1
      have d2 : we.cell? ⟨P1, 0, none⟩ = some (.int .i64 z2) := (Below.celz bq _ _ _ (by omega)).trans cc2
      have d3 : we.cell? ⟨P1, 1, none⟩ = some (.slice va n vc) := (Below.celz bq _ _ _ (by omega)).trans cc3
      have d4 : we.cell? ⟨P2, 0, none⟩ = some (.int .i64 zp) := (Below.celz bq _ _ _ (by omega)).trans cc4
      have d5 : we.cell? ⟨P2, 1, none⟩ = some (.slice pa k pc) := (Below.celz bq _ _ _ (by omega)).trans cc5
      have y0 : P0 < we.heap.size := by have := Below.size bq; omega
      have y1 : P1 < we.heap.size := by have := Below.size bq; omega
      have y2 : P2 < we.heap.size := by have := Below.size bq; omega
      have BB1 : Below A2 wc we := BB.trans (bq.mono (by omega))
      have sA1 : A2 ≤ we.heap.size := by have := Below.size bq; omega
      clear BB sA cc0 cc1 cc2 cc3 cc4 cc5 zz0 zz1 zz2 
      have cc0 := d0
      have cc1 := d1
      have cc2 := d2
      have cc3 := d3
      have cc4 := d4
      have cc5 := d5
      have zz0 := y0
      have zz1 := y1
      have zz2 := y2
      have BB := BB1
      have sA := sA1
      clear BB1 sA1 d0 d1 d2 d3 d4 d5 y0 y1 y2 
      clear bq
      clear HA1 K1 K2 K3 K4 K5 K6
      go_wp2_with fail
      have CP := spec_PoolOk zp _ ps _ (HV3.out _ BB).2.2.1 HL.out.2.2
      rw [hp] at CP
      refine (CP).mono ?_
      rintro e wf ⟨rfl, bf⟩
      have d0 : wf.cell? ⟨P0, 0, none⟩ = some (.int .i64 z1) := (Below.celz bf _ _ _ (by omega)).trans cc0
      have d1 : wf.cell? ⟨P0, 1, none⟩ = some (.slice ua m uc) := (Below.celz bf _ _ _ (by omega)).trans cc1
      have d2 : wf.cell? ⟨P1, 0, none⟩ = some (.int .i64 z2) := (Below.celz bf _ _ _ (by omega)).trans cc2
      have d3 : wf.cell? ⟨P1, 1, none⟩ = some (.slice va n vc) := (Below.celz bf _ _ _ (by omega)).trans cc3
      have d4 : wf.cell? ⟨P2, 0, none⟩ = some (.int .i64 zp) := (Below.celz bf _ _ _ (by omega)).trans cc4
      have d5 : wf.cell? ⟨P2, 1, none⟩ = some (.slice pa k pc) := (Below.celz bf _ _ _ (by omega)).trans cc5
      have y0 : P0 < wf.heap.size := by have := Below.size bf; omega
      have y1 : P1 < wf.heap.size := by have := Below.size bf; omega
      have y2 : P2 < wf.heap.size := by have := Below.size bf; omega
      have BB1 : Below A2 wc wf := BB.trans (bf.mono (by omega))
      have sA1 : A2 ≤ wf.heap.size := by have := Below.size bf; omega
      clear BB sA cc0 cc1 cc2 cc3 cc4 cc5 zz0 zz1 zz2 
      have cc0 := d0
      have cc1 := d1
      have cc2 := d2
      have cc3 := d3
      have cc4 := d4
      have cc5 := d5
      have zz0 := y0
      have zz1 := y1
      have zz2 := y2
      have BB := BB1
      have sA := sA1
      clear BB1 sA1 d0 d1 d2 d3 d4 d5 y0 y1 y2 
      clear bf
      clear CP
      go_wp2_with fail
      go_ret
      exact ⟨rfl, (HV3.out _ BB).2.2.2.2⟩
  · obtain ⟨g1, g2, g3, g4, g5⟩ := poolB_true.1 hp
    obtain ⟨zn, rfl⟩ := Int.eq_ofNat_of_zero_le g1
    have HP : Hid (poolB (zn : Int) ps = true ∧ ps.Nodup) := ⟨hp, g5⟩
    have hzn : zn ≤ 12 := by omega
    have hkz : k ≤ zn := by rw [HK.out]; omega
    clear g1 g2 g3 g4 g5
    cases s
    · have HA1 : Hid (∀ p : After wd, RowC p.w (.slice ua m uc) xs ∧ RowC p.w (.slice va n vc) ys ∧ RowC p.w (.slice pa k pc) ps ∧ FormAt p.w) := fun p => ⟨(HV3.out _ (BB.trans (p.bel.mono sA))).1, (HV3.out _ (BB.trans (p.bel.mono sA))).2.1, (HV3.out _ (BB.trans (p.bel.mono sA))).2.2.1, (HV3.out _ (BB.trans (p.bel.mono sA))).2.2.2.1⟩
      have K1 : Hid (∀ p : After wd, Calls Tryd.prog 6 #[.agg #[.int .i64 z1, .slice ua m uc], .agg #[.int .i64 z2, .slice va n vc]] p.w fun e w'' => e = .returned (.bool false) ∧ ∃ q : After wd, w'' = q.w) := fun p => after_at HS.out.1 (impl_PoolSame z1 z2 _ _ xs ys _ (HA1.out p).1.1 (HA1.out p).2.1.1 HL.out.1 HL.out.2.1)
      have K2 : Hid (∀ p : After wd, Calls Tryd.prog 7 #[.agg #[.int .i64 z1, .slice ua m uc], .agg #[.int .i64 z2, .slice va n vc]] p.w fun e w'' => e = .returned (.bool false) ∧ ∃ q : After wd, w'' = q.w) := fun p => after_at HS.out.1 (spec_PoolSame z1 z2 _ _ xs ys _ (HA1.out p).1.1 (HA1.out p).2.1.1 HL.out.1 HL.out.2.1)
      have K3 : Hid (∀ p : After wd, Calls Tryd.prog 6 #[.agg #[.int .i64 z2, .slice va n vc], .agg #[.int .i64 z1, .slice ua m uc]] p.w fun e w'' => e = .returned (.bool false) ∧ ∃ q : After wd, w'' = q.w) := fun p => after_at HS.out.2 (impl_PoolSame z2 z1 _ _ ys xs _ (HA1.out p).2.1.1 (HA1.out p).1.1 HL.out.2.1 HL.out.1)
      have K4 : Hid (∀ p : After wd, Calls Tryd.prog 6 #[.agg #[.int .i64 (zn : Int), .slice pa k pc], .agg #[.int .i64 (zn : Int), .slice pa k pc]] p.w fun e w'' => e = .returned (.bool true) ∧ ∃ q : After wd, w'' = q.w) := fun p => after_of (impl_PoolSame_same zn _ _ ps _ (HA1.out p).2.2.1.1 (HA1.out p).2.2.1.1 HL.out.2.2)
      have K5 : Hid (∀ p : After wd, Calls Tryd.prog 8 #[.agg #[.int .i64 (zn : Int), .slice pa k pc]] p.w fun e w'' => e = .returned (.bool true) ∧ ∃ q : After wd, w'' = q.w) := fun p => after_at hp (impl_PoolOk zn _ ps _ (HA1.out p).2.2.1.1 HL.out.2.2 (HA1.out p).2.2.2)
      have K6 : Hid (∀ p : After wd, Calls Tryd.prog 9 #[.agg #[.int .i64 (zn : Int), .slice pa k pc]] p.w fun e w'' => e = .returned (.bool true) ∧ ∃ q : After wd, w'' = q.w) := fun p => after_at hp (spec_PoolOk zn _ ps _ (HA1.out p).2.2.1 HL.out.2.2)
      refine wp_region_after (by kernel_rfl) (by kernel_rfl) ?_
      intro hneq hac
      repeat (go_big_quiet_step (first | (go_at_call 6; first | (with_reducible exact K1.out _) | (with_reducible exact K3.out _) | (with_reducible exact K4.out _)) | (go_at_call 7; first | (with_reducible exact K2.out _)) | (go_at_call 8; first | (with_reducible exact K5.out _)) | (go_at_call 9; first | (with_reducible exact K6.out _))))
      refine wpQuiet_nil ?_
      rintro _ ⟨p, rfl⟩
      have bq : Below wd.heap.size wd p.w := p.bel
      clear hac hneq
      generalize p.w = we at *
      have d0 : we.cell? ⟨P0, 0, none⟩ = some (.int .i64 z1) := (Below.celz bq _ _ _ (by omega)).trans cc0
      have d1 : we.cell? ⟨P0, 1, none⟩ = some (.slice ua m uc) := (Below.celz bq _ _ _ (by omega)).trans cc1
      have d2 : we.cell? ⟨P1, 0, none⟩ = some (.int .i64 z2) := (Below.celz bq _ _ _ (by omega)).trans cc2
      have d3 : we.cell? ⟨P1, 1, none⟩ = some (.slice va n vc) := (Below.celz bq _ _ _ (by omega)).trans cc3
      have d4 : we.cell? ⟨P2, 0, none⟩ = some (.int .i64 (zn : Int)) := (Below.celz bq _ _ _ (by omega)).trans cc4
      have d5 : we.cell? ⟨P2, 1, none⟩ = some (.slice pa k pc) := (Below.celz bq _ _ _ (by omega)).trans cc5
      have y0 : P0 < we.heap.size := by have := Below.size bq; omega
      have y1 : P1 < we.heap.size := by have := Below.size bq; omega
      have y2 : P2 < we.heap.size := by have := Below.size bq; omega
      have BB1 : Below A2 wc we := BB.trans (bq.mono (by omega))
      have sA1 : A2 ≤ we.heap.size := by have := Below.size bq; omega
      clear BB sA cc0 cc1 cc2 cc3 cc4 cc5 zz0 zz1 zz2 
      have cc0 := d0
      have cc1 := d1
      have cc2 := d2
      have cc3 := d3
      have cc4 := d4
      have cc5 := d5
      have zz0 := y0
      have zz1 := y1
      have zz2 := y2
      have BB := BB1
      have sA := sA1
      clear BB1 sA1 d0 d1 d2 d3 d4 d5 y0 y1 y2 
      clear bq
      clear HA1 K1 K2 K3 K4 K5 K6
      go_wp2_with fail
      have CP := spec_PoolOk zn _ ps _ (HV3.out _ BB).2.2.1 HL.out.2.2
      rw [hp] at CP
      refine (CP).mono ?_
      rintro e wf ⟨rfl, bf⟩
      have d0 : wf.cell? ⟨P0, 0, none⟩ = some (.int .i64 z1) := (Below.celz bf _ _ _ (by omega)).trans cc0
      have d1 : wf.cell? ⟨P0, 1, none⟩ = some (.slice ua m uc) := (Below.celz bf _ _ _ (by omega)).trans cc1
      have d2 : wf.cell? ⟨P1, 0, none⟩ = some (.int .i64 z2) := (Below.celz bf _ _ _ (by omega)).trans cc2
      have d3 : wf.cell? ⟨P1, 1, none⟩ = some (.slice va n vc) := (Below.celz bf _ _ _ (by omega)).trans cc3
      have d4 : wf.cell? ⟨P2, 0, none⟩ = some (.int .i64 (zn : Int)) := (Below.celz bf _ _ _ (by omega)).trans cc4
      have d5 : wf.cell? ⟨P2, 1, none⟩ = some (.slice pa k pc) := (Below.celz bf _ _ _ (by omega)).trans cc5
      have y0 : P0 < wf.heap.size := by have := Below.size bf; omega
      have y1 : P1 < wf.heap.size := by have := Below.size bf; omega
      have y2 : P2 < wf.heap.size := by have := Below.size bf; omega
      have BB1 : Below A2 wc wf := BB.trans (bf.mono (by omega))
      have sA1 : A2 ≤ wf.heap.size := by have := Below.size bf; omega
      clear BB sA cc0 cc1 cc2 cc3 cc4 cc5 zz0 zz1 zz2 
      have cc0 := d0
      have cc1 := d1
      have cc2 := d2
      have cc3 := d3
      have cc4 := d4
      have cc5 := d5
      have zz0 := y0
      have zz1 := y1
      have zz2 := y2
      have BB := BB1
      have sA := sA1
      clear BB1 sA1 d0 d1 d2 d3 d4 d5 y0 y1 y2 
      clear bf
      clear CP
      go_upto_region 10 with fail
      obtain ⟨P3, hP3⟩ : ∃ t, t = wf.heap.size := ⟨_, rfl⟩
      generalize hW : wf.alloc (.cells #[.int .i64 (zn : Int), .slice pa k pc] 25) = wg
      have nb : Below wf.heap.size wf wg := by rw [← hW]; exact (Below.refl _ _).alloc (Nat.le_refl _) _
      have k3 : wg.heap.size = P3 + 1 := by rw [← hW, hP3]; simp
      have kk0 : wg.cell? ⟨P3, 0, none⟩ = some (.int .i64 (zn : Int)) := by rw [← hW, hP3]; simp [go_sem]
      have kk1 : wg.cell? ⟨P3, 1, none⟩ = some (.slice pa k pc) := by rw [← hW, hP3]; simp [go_sem]
      have oP3A : A2 ≤ P3 := by rw [hP3]; exact sA
      have oP30 : P0 < P3 := by rw [hP3]; exact zz0
      have oP31 : P1 < P3 := by rw [hP3]; exact zz1
      have oP32 : P2 < P3 := by rw [hP3]; exact zz2
      have d0 : wg.cell? ⟨P0, 0, none⟩ = some (.int .i64 z1) := (Below.celz nb _ _ _ (by omega)).trans cc0
      have d1 : wg.cell? ⟨P0, 1, none⟩ = some (.slice ua m uc) := (Below.celz nb _ _ _ (by omega)).trans cc1
      have d2 : wg.cell? ⟨P1, 0, none⟩ = some (.int .i64 z2) := (Below.celz nb _ _ _ (by omega)).trans cc2
      have d3 : wg.cell? ⟨P1, 1, none⟩ = some (.slice va n vc) := (Below.celz nb _ _ _ (by omega)).trans cc3
      have d4 : wg.cell? ⟨P2, 0, none⟩ = some (.int .i64 (zn : Int)) := (Below.celz nb _ _ _ (by omega)).trans cc4
      have d5 : wg.cell? ⟨P2, 1, none⟩ = some (.slice pa k pc) := (Below.celz nb _ _ _ (by omega)).trans cc5
      have y0 : P0 < wg.heap.size := by have := Below.size nb; omega
      have y1 : P1 < wg.heap.size := by have := Below.size nb; omega
      have y2 : P2 < wg.heap.size := by have := Below.size nb; omega
      have BB1 : Below A2 wc wg := BB.trans (nb.mono (by omega))
      have sA1 : A2 ≤ wg.heap.size := by have := Below.size nb; omega
      clear BB sA cc0 cc1 cc2 cc3 cc4 cc5 zz0 zz1 zz2 
      have cc0 := d0
      have cc1 := d1
      have cc2 := d2
      have cc3 := d3
      have cc4 := d4
      have cc5 := d5
      have zz0 := y0
      have zz1 := y1
      have zz2 := y2
      have BB := BB1
      have sA := sA1
      clear BB1 sA1 d0 d1 d2 d3 d4 d5 y0 y1 y2 
      have cc6 := kk0
      have cc7 := kk1
      have zz3 : P3 < wg.heap.size := by omega
      have fzP3 : ∀ o, wg.frozen? ⟨P3, o, none⟩ = false := fun o => by rw [← hW, hP3]; simp [go_sem]
      rw [← hP3]
      have k3P3 := k3
      clear k3 hW nb hP3 kk0 kk1
      clear k3P3
      have hwr : IntKind.i64.wrap ((k : Int) - 1) = (k : Int) - 1 := wrap_small _ (by omega) (by omega)
      go_upto_region 11 with fail
      generalize hW : wg.setCell ⟨P3, 0, none⟩ (.int .i64 ((k : Int) - 1)) = wh
      have d0 : wh.cell? ⟨P0, 0, none⟩ = some (.int .i64 z1) := by rw [← hW, World.cell?_setCell_other _ _ _ _ (by intro e; have := congrArg Addr.block e; simp at this; omega)]; exact cc0
      have d1 : wh.cell? ⟨P0, 1, none⟩ = some (.slice ua m uc) := by rw [← hW, World.cell?_setCell_other _ _ _ _ (by intro e; have := congrArg Addr.block e; simp at this; omega)]; exact cc1
      have d2 : wh.cell? ⟨P1, 0, none⟩ = some (.int .i64 z2) := by rw [← hW, World.cell?_setCell_other _ _ _ _ (by intro e; have := congrArg Addr.block e; simp at this; omega)]; exact cc2
      have d3 : wh.cell? ⟨P1, 1, none⟩ = some (.slice va n vc) := by rw [← hW, World.cell?_setCell_other _ _ _ _ (by intro e; have := congrArg Addr.block e; simp at this; omega)]; exact cc3
      have d4 : wh.cell? ⟨P2, 0, none⟩ = some (.int .i64 (zn : Int)) := by rw [← hW, World.cell?_setCell_other _ _ _ _ (by intro e; have := congrArg Addr.block e; simp at this; omega)]; exact cc4
      have d5 : wh.cell? ⟨P2, 1, none⟩ = some (.slice pa k pc) := by rw [← hW, World.cell?_setCell_other _ _ _ _ (by intro e; have := congrArg Addr.block e; simp at this; omega)]; exact cc5
      have d6 : wh.cell? ⟨P3, 0, none⟩ = some (.int .i64 ((k : Int) - 1)) := by rw [← hW]; exact World.cell?_setCell_same _ _ _ cc6
      have d7 : wh.cell? ⟨P3, 1, none⟩ = some (.slice pa k pc) := by rw [← hW, World.cell?_setCell_other _ _ _ _ (by intro e; simp at e)]; exact cc7
      have y0 : P0 < wh.heap.size := by rw [← hW]; simpa using zz0
      have y1 : P1 < wh.heap.size := by rw [← hW]; simpa using zz1
      have y2 : P2 < wh.heap.size := by rw [← hW]; simpa using zz2
      have y3 : P3 < wh.heap.size := by rw [← hW]; simpa using zz3
      have BB1 : Below A2 wc wh := by rw [← hW]; exact Below.setCell (p := ⟨P3, 0, none⟩) BB (by omega) _
      have sA1 : A2 ≤ wh.heap.size := by rw [← hW]; simpa using sA
      clear hW BB sA cc0 cc1 cc2 cc3 cc4 cc5 cc6 cc7 zz0 zz1 zz2 zz3
      have cc0 := d0
      have cc1 := d1
      have cc2 := d2
      have cc3 := d3
      have cc4 := d4
      have cc5 := d5
      have cc6 := d6
      have cc7 := d7
      have zz0 := y0
      have zz1 := y1
      have zz2 := y2
      have zz3 := y3
      have BB := BB1
      have sA := sA1
      clear BB1 sA1 d0 d1 d2 d3 d4 d5 d6 d7 y0 y1 y2 y3
      clear fzP3
      go_upto_region 12 with fail
      obtain ⟨P4, hP4⟩ : ∃ t, t = wh.heap.size := ⟨_, rfl⟩
      generalize hW : wh.alloc (.cells #[.int .i64 (zn : Int), .slice pa k pc] 25) = wi
      have nb : Below wh.heap.size wh wi := by rw [← hW]; exact (Below.refl _ _).alloc (Nat.le_refl _) _
      have k3 : wi.heap.size = P4 + 1 := by rw [← hW, hP4]; simp
      have kk0 : wi.cell? ⟨P4, 0, none⟩ = some (.int .i64 (zn : Int)) := by rw [← hW, hP4]; simp [go_sem]
      have kk1 : wi.cell? ⟨P4, 1, none⟩ = some (.slice pa k pc) := by rw [← hW, hP4]; simp [go_sem]
      have oP4A : A2 ≤ P4 := by rw [hP4]; exact sA
      have oP40 : P0 < P4 := by rw [hP4]; exact zz0
      have oP41 : P1 < P4 := by rw [hP4]; exact zz1
      have oP42 : P2 < P4 := by rw [hP4]; exact zz2
      have oP43 : P3 < P4 := by rw [hP4]; exact zz3
      have d0 : wi.cell? ⟨P0, 0, none⟩ = some (.int .i64 z1) := (Below.celz nb _ _ _ (by omega)).trans cc0
      have d1 : wi.cell? ⟨P0, 1, none⟩ = some (.slice ua m uc) := (Below.celz nb _ _ _ (by omega)).trans cc1
      have d2 : wi.cell? ⟨P1, 0, none⟩ = some (.int .i64 z2) := (Below.celz nb _ _ _ (by omega)).trans cc2
      have d3 : wi.cell? ⟨P1, 1, none⟩ = some (.slice va n vc) := (Below.celz nb _ _ _ (by omega)).trans cc3
      have d4 : wi.cell? ⟨P2, 0, none⟩ = some (.int .i64 (zn : Int)) := (Below.celz nb _ _ _ (by omega)).trans cc4
      have d5 : wi.cell? ⟨P2, 1, none⟩ = some (.slice pa k pc) := (Below.celz nb _ _ _ (by omega)).trans cc5
      have d6 : wi.cell? ⟨P3, 0, none⟩ = some (.int .i64 ((k : Int) - 1)) := (Below.celz nb _ _ _ (by omega)).trans cc6
      have d7 : wi.cell? ⟨P3, 1, none⟩ = some (.slice pa k pc) := (Below.celz nb _ _ _ (by omega)).trans cc7
      have y0 : P0 < wi.heap.size := by have := Below.size nb; omega
      have y1 : P1 < wi.heap.size := by have := Below.size nb; omega
      have y2 : P2 < wi.heap.size := by have := Below.size nb; omega
      have y3 : P3 < wi.heap.size := by have := Below.size nb; omega
      have BB1 : Below A2 wc wi := BB.trans (nb.mono (by omega))
      have sA1 : A2 ≤ wi.heap.size := by have := Below.size nb; omega
      clear BB sA cc0 cc1 cc2 cc3 cc4 cc5 cc6 cc7 zz0 zz1 zz2 zz3 
      have cc0 := d0
      have cc1 := d1
      have cc2 := d2
      have cc3 := d3
      have cc4 := d4
      have cc5 := d5
      have cc6 := d6
      have cc7 := d7
      have zz0 := y0
      have zz1 := y1
      have zz2 := y2
      have zz3 := y3
      have BB := BB1
      have sA := sA1
      clear BB1 sA1 d0 d1 d2 d3 d4 d5 d6 d7 y0 y1 y2 y3 
      have cc8 := kk0
      have cc9 := kk1
      have zz4 : P4 < wi.heap.size := by omega
      have fzP4 : ∀ o, wi.frozen? ⟨P4, o, none⟩ = false := fun o => by rw [← hW, hP4]; simp [go_sem]
      rw [← hP4]
      have k3P4 := k3
      clear k3 hW nb hP4 kk0 kk1
      clear k3P4
      obtain ⟨i0, hi, hz0, hz1, hzz2⟩ := info_parts Tryd.infoPage
      have HRW : Hid (∀ W, Below wi.heap.size wi W → RowAt 2 encPage W (.slice pa k pc) ps) := fun W h => (HV3.out _ (BB.trans (h.mono sA))).2.2.1.1
      have t4 := cc4
      have t5 := cc5
      have t8 := cc8
      have t9 := cc9
      go_cut [7] (fun s7 wx => ∃ x7 y7 w7, s7 = .pointer (some ⟨P4, 0, none⟩) ∧ Below wi.heap.size wi w7 ∧ w7.ownsRow wi.heap.size 41 2 (.slice x7 (k + k) y7) (k + k) ((ps ++ ps).flatMap encPage) ∧ wx = w7.setCell ⟨P4, 1, none⟩ (.slice x7 (k + k) y7))
      case first =>
        go_region_law
          (first
            | (refine step_appRow encPage_len (by decide) encPage_one (by rfl) _ _ _ (by rfl) Tryd.underlying23 hi hz0 hz1 hzz2 rfl wi.heap.size _ 0 [] (.slice pa k pc) ps (by rfl) (by rfl) (own_emptyP (B := wi.heap.size) (heap_alloc_new wi _) (Nat.le_refl _)) (HRW.out _ ((Below.refl _ _).alloc (Nat.le_refl _) _).drew) (by unfold maxLen; rw [← HK.out]; omega) (by rw [← HK.out]; omega) (by simp) ?_; intro v6 w6 ho6 hg6 ha6; have B6 : Below wi.heap.size wi w6 := ((((Below.refl _ _).alloc (Nat.le_refl _) _).drew).grown hg6 (by simp) (fun k hk => by simp [Value.ownBlock] at hk; omega)); have hq6 : w6.ownsRow wi.heap.size 41 2 v6 k (ps.flatMap encPage) := (by have h := ho6; rw [Nat.zero_add, List.nil_append, ← HK.out] at h; exact h); clear ho6; obtain ⟨x6, y6, rfl⟩ := own_form hq6; have w64 : w6.cell? ⟨P2, 0, none⟩ = some (.int .i64 (zn : Int)) := ((Below.celz B6 _ _ _ zz2).trans cc4); have w65 : w6.cell? ⟨P2, 1, none⟩ = some (.slice pa k pc) := ((Below.celz B6 _ _ _ zz2).trans cc5); have w68 : w6.cell? ⟨P4, 0, none⟩ = some (.int .i64 (zn : Int)) := ((Below.celz B6 _ _ _ zz4).trans cc8); have w69 : w6.cell? ⟨P4, 1, none⟩ = some (.slice pa k pc) := ((Below.celz B6 _ _ _ zz4).trans cc9); have w6zP2 : P2 < w6.heap.size := Nat.lt_of_lt_of_le zz2 (Below.size B6); have w6zP4 : P4 < w6.heap.size := Nat.lt_of_lt_of_le zz4 (Below.size B6); have w6f : ∀ o, w6.frozen? ⟨P4, o, none⟩ = false := (fun o => (Below.froz B6 _ _ _ zz4).trans (fzP4 o)))
            | (refine step_appRow encPage_len (by decide) encPage_one (by rfl) _ _ _ (by rfl) Tryd.underlying23 hi hz0 hz1 hzz2 rfl wi.heap.size _ k _ (.slice pa k pc) ps (by rfl) (by rfl) hq6 (HRW.out _ B6) (by unfold maxLen; rw [← HK.out]; omega) (by rw [← HK.out]; omega) B6.size ?_; intro v7 w7 ho7 hg7 ha7; have B7 : Below wi.heap.size wi w7 := (B6.grown hg7 B6.size (fun k hk => (hq6.lt k hk).1)); have hq7 : w7.ownsRow wi.heap.size 41 2 v7 (k + k) ((ps ++ ps).flatMap encPage) := (by have h := ho7; rw [← HK.out] at h; rw [List.flatMap_append]; exact h); clear ho7; obtain ⟨x7, y7, rfl⟩ := own_form hq7; have w74 : w7.cell? ⟨P2, 0, none⟩ = some (.int .i64 (zn : Int)) := ((Below.celz B7 _ _ _ zz2).trans cc4); have w75 : w7.cell? ⟨P2, 1, none⟩ = some (.slice pa k pc) := ((Below.celz B7 _ _ _ zz2).trans cc5); have w78 : w7.cell? ⟨P4, 0, none⟩ = some (.int .i64 (zn : Int)) := ((Below.celz B7 _ _ _ zz4).trans cc8); have w79 : w7.cell? ⟨P4, 1, none⟩ = some (.slice pa k pc) := ((Below.celz B7 _ _ _ zz4).trans cc9); have w7zP2 : P2 < w7.heap.size := Nat.lt_of_lt_of_le zz2 (Below.size B7); have w7zP4 : P4 < w7.heap.size := Nat.lt_of_lt_of_le zz4 (Below.size B7); have w7f : ∀ o, w7.frozen? ⟨P4, o, none⟩ = false := (fun o => (Below.froz B7 _ _ _ zz4).trans (fzP4 o))))
        all_goals (
          go_wp2_with fail
          go_meet
          exact ⟨_, _, _, rfl, B7, hq7, rfl⟩)
      case rest =>
        obtain ⟨x7, y7, w7, rfl, B7, hq7, rfl⟩ := hcut
        have HB7 : Hid (Below wi.heap.size wi w7) := B7
        have zP4 : P4 < wi.heap.size := zz4
        have HQ7 : Hid (w7.ownsRow wi.heap.size 41 2 (.slice x7 (k + k) y7) (k + k) ((ps ++ ps).flatMap encPage)) := hq7
        clear hq7 t4 t5 t8 t9
        have d0 : w7.cell? ⟨P0, 0, none⟩ = some (.int .i64 z1) := (Below.celz B7 _ _ _ (by omega)).trans cc0
        have d1 : w7.cell? ⟨P0, 1, none⟩ = some (.slice ua m uc) := (Below.celz B7 _ _ _ (by omega)).trans cc1
        have d2 : w7.cell? ⟨P1, 0, none⟩ = some (.int .i64 z2) := (Below.celz B7 _ _ _ (by omega)).trans cc2
        have d3 : w7.cell? ⟨P1, 1, none⟩ = some (.slice va n vc) := (Below.celz B7 _ _ _ (by omega)).trans cc3
        have d4 : w7.cell? ⟨P2, 0, none⟩ = some (.int .i64 (zn : Int)) := (Below.celz B7 _ _ _ (by omega)).trans cc4
        have d5 : w7.cell? ⟨P2, 1, none⟩ = some (.slice pa k pc) := (Below.celz B7 _ _ _ (by omega)).trans cc5
        have d6 : w7.cell? ⟨P3, 0, none⟩ = some (.int .i64 ((k : Int) - 1)) := (Below.celz B7 _ _ _ (by omega)).trans cc6
        have d7 : w7.cell? ⟨P3, 1, none⟩ = some (.slice pa k pc) := (Below.celz B7 _ _ _ (by omega)).trans cc7
        have d8 : w7.cell? ⟨P4, 0, none⟩ = some (.int .i64 (zn : Int)) := (Below.celz B7 _ _ _ (by omega)).trans cc8
        have d9 : w7.cell? ⟨P4, 1, none⟩ = some (.slice pa k pc) := (Below.celz B7 _ _ _ (by omega)).trans cc9
        have y0 : P0 < w7.heap.size := by have := Below.size B7; omega
        have y1 : P1 < w7.heap.size := by have := Below.size B7; omega
        have y2 : P2 < w7.heap.size := by have := Below.size B7; omega
        have y3 : P3 < w7.heap.size := by have := Below.size B7; omega
        have y4 : P4 < w7.heap.size := by have := Below.size B7; omega
        have BB1 : Below A2 wc w7 := BB.trans (B7.mono (by omega))
        have sA1 : A2 ≤ w7.heap.size := by have := Below.size B7; omega
        clear BB sA cc0 cc1 cc2 cc3 cc4 cc5 cc6 cc7 cc8 cc9 zz0 zz1 zz2 zz3 zz4 
        have cc0 := d0
        have cc1 := d1
        have cc2 := d2
        have cc3 := d3
        have cc4 := d4
        have cc5 := d5
        have cc6 := d6
        have cc7 := d7
        have cc8 := d8
        have cc9 := d9
        have zz0 := y0
        have zz1 := y1
        have zz2 := y2
        have zz3 := y3
        have zz4 := y4
        have BB := BB1
        have sA := sA1
        clear BB1 sA1 d0 d1 d2 d3 d4 d5 d6 d7 d8 d9 y0 y1 y2 y3 y4 
        clear B7
        have HY0 : Hid (OwnPool (w7.setCell ⟨P4, 1, none⟩ (.slice x7 (k + k) y7)) wi.heap.size (.slice x7 (k + k) y7) (ps ++ ps)) := by
          show OwnPool _ _ _ _
          have h := own_set HQ7.out (p := ⟨P4, 1, none⟩) (fun e => by have := (HQ7.out.lt _ e).1; simp at this; omega) (.slice x7 (k + k) y7)
          unfold OwnPool
          rw [List.length_append, ← HK.out]
          exact h
        generalize hW : w7.setCell ⟨P4, 1, none⟩ (.slice x7 (k + k) y7) = wj at HY0 ⊢
        have d0 : wj.cell? ⟨P0, 0, none⟩ = some (.int .i64 z1) := by rw [← hW, World.cell?_setCell_other _ _ _ _ (by intro e; have := congrArg Addr.block e; simp at this; omega)]; exact cc0
        have d1 : wj.cell? ⟨P0, 1, none⟩ = some (.slice ua m uc) := by rw [← hW, World.cell?_setCell_other _ _ _ _ (by intro e; have := congrArg Addr.block e; simp at this; omega)]; exact cc1
        have d2 : wj.cell? ⟨P1, 0, none⟩ = some (.int .i64 z2) := by rw [← hW, World.cell?_setCell_other _ _ _ _ (by intro e; have := congrArg Addr.block e; simp at this; omega)]; exact cc2
        have d3 : wj.cell? ⟨P1, 1, none⟩ = some (.slice va n vc) := by rw [← hW, World.cell?_setCell_other _ _ _ _ (by intro e; have := congrArg Addr.block e; simp at this; omega)]; exact cc3
        have d4 : wj.cell? ⟨P2, 0, none⟩ = some (.int .i64 (zn : Int)) := by rw [← hW, World.cell?_setCell_other _ _ _ _ (by intro e; have := congrArg Addr.block e; simp at this; omega)]; exact cc4
        have d5 : wj.cell? ⟨P2, 1, none⟩ = some (.slice pa k pc) := by rw [← hW, World.cell?_setCell_other _ _ _ _ (by intro e; have := congrArg Addr.block e; simp at this; omega)]; exact cc5
        have d6 : wj.cell? ⟨P3, 0, none⟩ = some (.int .i64 ((k : Int) - 1)) := by rw [← hW, World.cell?_setCell_other _ _ _ _ (by intro e; have := congrArg Addr.block e; simp at this; omega)]; exact cc6
        have d7 : wj.cell? ⟨P3, 1, none⟩ = some (.slice pa k pc) := by rw [← hW, World.cell?_setCell_other _ _ _ _ (by intro e; have := congrArg Addr.block e; simp at this; omega)]; exact cc7
        have d8 : wj.cell? ⟨P4, 0, none⟩ = some (.int .i64 (zn : Int)) := by rw [← hW, World.cell?_setCell_other _ _ _ _ (by intro e; simp at e)]; exact cc8
        have d9 : wj.cell? ⟨P4, 1, none⟩ = some (.slice x7 (k + k) y7) := by rw [← hW]; exact World.cell?_setCell_same _ _ _ cc9
        have y0 : P0 < wj.heap.size := by rw [← hW]; simpa using zz0
        have y1 : P1 < wj.heap.size := by rw [← hW]; simpa using zz1
        have y2 : P2 < wj.heap.size := by rw [← hW]; simpa using zz2
        have y3 : P3 < wj.heap.size := by rw [← hW]; simpa using zz3
        have y4 : P4 < wj.heap.size := by rw [← hW]; simpa using zz4
        have BB1 : Below A2 wc wj := by rw [← hW]; exact Below.setCell (p := ⟨P4, 1, none⟩) BB (by omega) _
        have sA1 : A2 ≤ wj.heap.size := by rw [← hW]; simpa using sA
        clear hW BB sA cc0 cc1 cc2 cc3 cc4 cc5 cc6 cc7 cc8 cc9 zz0 zz1 zz2 zz3 zz4
        have cc0 := d0
        have cc1 := d1
        have cc2 := d2
        have cc3 := d3
        have cc4 := d4
        have cc5 := d5
        have cc6 := d6
        have cc7 := d7
        have cc8 := d8
        have cc9 := d9
        have zz0 := y0
        have zz1 := y1
        have zz2 := y2
        have zz3 := y3
        have zz4 := y4
        have BB := BB1
        have sA := sA1
        clear BB1 sA1 d0 d1 d2 d3 d4 d5 d6 d7 d8 d9 y0 y1 y2 y3 y4
        clear HQ7 fzP4 HRW HB7 zP4
        go_upto_region 14 with fail
        obtain ⟨P5, hP5⟩ : ∃ t, t = wj.heap.size := ⟨_, rfl⟩
        generalize hW : wj.alloc (.cells #[.int .i64 (zn : Int), .slice pa k pc] 25) = wk
        have nb : Below wj.heap.size wj wk := by rw [← hW]; exact (Below.refl _ _).alloc (Nat.le_refl _) _
        have k3 : wk.heap.size = P5 + 1 := by rw [← hW, hP5]; simp
        have kk0 : wk.cell? ⟨P5, 0, none⟩ = some (.int .i64 (zn : Int)) := by rw [← hW, hP5]; simp [go_sem]
        have kk1 : wk.cell? ⟨P5, 1, none⟩ = some (.slice pa k pc) := by rw [← hW, hP5]; simp [go_sem]
        have oP5A : A2 ≤ P5 := by rw [hP5]; exact sA
        have oP50 : P0 < P5 := by rw [hP5]; exact zz0
        have oP51 : P1 < P5 := by rw [hP5]; exact zz1
        have oP52 : P2 < P5 := by rw [hP5]; exact zz2
        have oP53 : P3 < P5 := by rw [hP5]; exact zz3
        have oP54 : P4 < P5 := by rw [hP5]; exact zz4
        have d0 : wk.cell? ⟨P0, 0, none⟩ = some (.int .i64 z1) := (Below.celz nb _ _ _ (by omega)).trans cc0
        have d1 : wk.cell? ⟨P0, 1, none⟩ = some (.slice ua m uc) := (Below.celz nb _ _ _ (by omega)).trans cc1
        have d2 : wk.cell? ⟨P1, 0, none⟩ = some (.int .i64 z2) := (Below.celz nb _ _ _ (by omega)).trans cc2
        have d3 : wk.cell? ⟨P1, 1, none⟩ = some (.slice va n vc) := (Below.celz nb _ _ _ (by omega)).trans cc3
        have d4 : wk.cell? ⟨P2, 0, none⟩ = some (.int .i64 (zn : Int)) := (Below.celz nb _ _ _ (by omega)).trans cc4
        have d5 : wk.cell? ⟨P2, 1, none⟩ = some (.slice pa k pc) := (Below.celz nb _ _ _ (by omega)).trans cc5
        have d6 : wk.cell? ⟨P3, 0, none⟩ = some (.int .i64 ((k : Int) - 1)) := (Below.celz nb _ _ _ (by omega)).trans cc6
        have d7 : wk.cell? ⟨P3, 1, none⟩ = some (.slice pa k pc) := (Below.celz nb _ _ _ (by omega)).trans cc7
        have d8 : wk.cell? ⟨P4, 0, none⟩ = some (.int .i64 (zn : Int)) := (Below.celz nb _ _ _ (by omega)).trans cc8
        have d9 : wk.cell? ⟨P4, 1, none⟩ = some (.slice x7 (k + k) y7) := (Below.celz nb _ _ _ (by omega)).trans cc9
        have y0 : P0 < wk.heap.size := by have := Below.size nb; omega
        have y1 : P1 < wk.heap.size := by have := Below.size nb; omega
        have y2 : P2 < wk.heap.size := by have := Below.size nb; omega
        have y3 : P3 < wk.heap.size := by have := Below.size nb; omega
        have y4 : P4 < wk.heap.size := by have := Below.size nb; omega
        have BB1 : Below A2 wc wk := BB.trans (nb.mono (by omega))
        have sA1 : A2 ≤ wk.heap.size := by have := Below.size nb; omega
        clear BB sA cc0 cc1 cc2 cc3 cc4 cc5 cc6 cc7 cc8 cc9 zz0 zz1 zz2 zz3 zz4 
        have cc0 := d0
        have cc1 := d1
        have cc2 := d2
        have cc3 := d3
        have cc4 := d4
        have cc5 := d5
        have cc6 := d6
        have cc7 := d7
        have cc8 := d8
        have cc9 := d9
        have zz0 := y0
        have zz1 := y1
        have zz2 := y2
        have zz3 := y3
        have zz4 := y4
        have BB := BB1
        have sA := sA1
        clear BB1 sA1 d0 d1 d2 d3 d4 d5 d6 d7 d8 d9 y0 y1 y2 y3 y4 
        have cc10 := kk0
        have cc11 := kk1
        have zz5 : P5 < wk.heap.size := by omega
        have fzP5 : ∀ o, wk.frozen? ⟨P5, o, none⟩ = false := fun o => by rw [← hW, hP5]; simp [go_sem]
        have HBK : Hid (Below wj.heap.size wj wk ∧ wj.heap.size ≤ P5) := by
              rw [hP5]
              exact ⟨by rw [← hW]; exact (Below.refl _ _).alloc (Nat.le_refl _) _, Nat.le_refl _⟩
        rw [← hP5]
        have k3P5 := k3
        clear k3 hW nb hP5 kk0 kk1
        clear k3P5
        go_upto_region 15 with fail
        have HYm : Hid (∀ W, Below (wk.setCell ⟨P5, 0, none⟩ (.int .i64 13)).heap.size (wk.setCell ⟨P5, 0, none⟩ (.int .i64 13)) W → RowAt 2 encPage W (.slice x7 (k + k) y7) (ps ++ ps)) := fun W h => by
          have h1 := HY0.out.keep HBK.out.1
          have h2 : OwnPool (wk.setCell ⟨P5, 0, none⟩ (.int .i64 13)) wi.heap.size (.slice x7 (k + k) y7) (ps ++ ps) := own_set h1 (fun e => by have := (HY0.out.lt _ e).2; have h3 := HBK.out.2; simp at this; omega) _
          exact (OwnPool.row h2).keep h
        clear HY0 HBK
        generalize hW : wk.setCell ⟨P5, 0, none⟩ (.int .i64 13) = wm at HYm ⊢
        have d0 : wm.cell? ⟨P0, 0, none⟩ = some (.int .i64 z1) := by rw [← hW, World.cell?_setCell_other _ _ _ _ (by intro e; have := congrArg Addr.block e; simp at this; omega)]; exact cc0
        have d1 : wm.cell? ⟨P0, 1, none⟩ = some (.slice ua m uc) := by rw [← hW, World.cell?_setCell_other _ _ _ _ (by intro e; have := congrArg Addr.block e; simp at this; omega)]; exact cc1
        have d2 : wm.cell? ⟨P1, 0, none⟩ = some (.int .i64 z2) := by rw [← hW, World.cell?_setCell_other _ _ _ _ (by intro e; have := congrArg Addr.block e; simp at this; omega)]; exact cc2
        have d3 : wm.cell? ⟨P1, 1, none⟩ = some (.slice va n vc) := by rw [← hW, World.cell?_setCell_other _ _ _ _ (by intro e; have := congrArg Addr.block e; simp at this; omega)]; exact cc3
        have d4 : wm.cell? ⟨P2, 0, none⟩ = some (.int .i64 (zn : Int)) := by rw [← hW, World.cell?_setCell_other _ _ _ _ (by intro e; have := congrArg Addr.block e; simp at this; omega)]; exact cc4
        have d5 : wm.cell? ⟨P2, 1, none⟩ = some (.slice pa k pc) := by rw [← hW, World.cell?_setCell_other _ _ _ _ (by intro e; have := congrArg Addr.block e; simp at this; omega)]; exact cc5
        have d6 : wm.cell? ⟨P3, 0, none⟩ = some (.int .i64 ((k : Int) - 1)) := by rw [← hW, World.cell?_setCell_other _ _ _ _ (by intro e; have := congrArg Addr.block e; simp at this; omega)]; exact cc6
        have d7 : wm.cell? ⟨P3, 1, none⟩ = some (.slice pa k pc) := by rw [← hW, World.cell?_setCell_other _ _ _ _ (by intro e; have := congrArg Addr.block e; simp at this; omega)]; exact cc7
        have d8 : wm.cell? ⟨P4, 0, none⟩ = some (.int .i64 (zn : Int)) := by rw [← hW, World.cell?_setCell_other _ _ _ _ (by intro e; have := congrArg Addr.block e; simp at this; omega)]; exact cc8
        have d9 : wm.cell? ⟨P4, 1, none⟩ = some (.slice x7 (k + k) y7) := by rw [← hW, World.cell?_setCell_other _ _ _ _ (by intro e; have := congrArg Addr.block e; simp at this; omega)]; exact cc9
        have d10 : wm.cell? ⟨P5, 0, none⟩ = some (.int .i64 13) := by rw [← hW]; exact World.cell?_setCell_same _ _ _ cc10
        have d11 : wm.cell? ⟨P5, 1, none⟩ = some (.slice pa k pc) := by rw [← hW, World.cell?_setCell_other _ _ _ _ (by intro e; simp at e)]; exact cc11
        have y0 : P0 < wm.heap.size := by rw [← hW]; simpa using zz0
        have y1 : P1 < wm.heap.size := by rw [← hW]; simpa using zz1
        have y2 : P2 < wm.heap.size := by rw [← hW]; simpa using zz2
        have y3 : P3 < wm.heap.size := by rw [← hW]; simpa using zz3
        have y4 : P4 < wm.heap.size := by rw [← hW]; simpa using zz4
        have y5 : P5 < wm.heap.size := by rw [← hW]; simpa using zz5
        have BB1 : Below A2 wc wm := by rw [← hW]; exact Below.setCell (p := ⟨P5, 0, none⟩) BB (by omega) _
        have sA1 : A2 ≤ wm.heap.size := by rw [← hW]; simpa using sA
        clear hW BB sA cc0 cc1 cc2 cc3 cc4 cc5 cc6 cc7 cc8 cc9 cc10 cc11 zz0 zz1 zz2 zz3 zz4 zz5
        have cc0 := d0
        have cc1 := d1
        have cc2 := d2
        have cc3 := d3
        have cc4 := d4
        have cc5 := d5
        have cc6 := d6
        have cc7 := d7
        have cc8 := d8
        have cc9 := d9
        have cc10 := d10
        have cc11 := d11
        have zz0 := y0
        have zz1 := y1
        have zz2 := y2
        have zz3 := y3
        have zz4 := y4
        have zz5 := y5
        have BB := BB1
        have sA := sA1
        clear BB1 sA1 d0 d1 d2 d3 d4 d5 d6 d7 d8 d9 d10 d11 y0 y1 y2 y3 y4 y5
        clear fzP5
        have HYr : Hid (RowAt 2 encPage wm (.slice x7 (k + k) y7) (ps ++ ps)) := HYm.out _ (Below.refl _ _)
        clear HYm
        by_cases hk0 : k = 0
        · have hkb : ((k : Int) == 0) = true := by simp [hk0]
          clear hk0
          go_wp2_with fail
          have CP := impl_PoolOk ((k : Int) - 1) _ ps _ (HV3.out _ BB).2.2.1.1 HL.out.2.2 (HV3.out _ BB).2.2.2.1
          rw [show poolB ((k : Int) - 1) ps = false from poolB_false.2 (fun h => by have := h.2.2.1; rw [← HK.out] at this; omega)] at CP
          refine (CP).mono ?_
          rintro e wn ⟨rfl, bwn⟩
          have d0 : wn.cell? ⟨P0, 0, none⟩ = some (.int .i64 z1) := (Below.celz bwn _ _ _ (by omega)).trans cc0
          have d1 : wn.cell? ⟨P0, 1, none⟩ = some (.slice ua m uc) := (Below.celz bwn _ _ _ (by omega)).trans cc1
          have d2 : wn.cell? ⟨P1, 0, none⟩ = some (.int .i64 z2) := (Below.celz bwn _ _ _ (by omega)).trans cc2
          have d3 : wn.cell? ⟨P1, 1, none⟩ = some (.slice va n vc) := (Below.celz bwn _ _ _ (by omega)).trans cc3
          have d4 : wn.cell? ⟨P2, 0, none⟩ = some (.int .i64 (zn : Int)) := (Below.celz bwn _ _ _ (by omega)).trans cc4
          have d5 : wn.cell? ⟨P2, 1, none⟩ = some (.slice pa k pc) := (Below.celz bwn _ _ _ (by omega)).trans cc5
          have d6 : wn.cell? ⟨P3, 0, none⟩ = some (.int .i64 ((k : Int) - 1)) := (Below.celz bwn _ _ _ (by omega)).trans cc6
          have d7 : wn.cell? ⟨P3, 1, none⟩ = some (.slice pa k pc) := (Below.celz bwn _ _ _ (by omega)).trans cc7
          have d8 : wn.cell? ⟨P4, 0, none⟩ = some (.int .i64 (zn : Int)) := (Below.celz bwn _ _ _ (by omega)).trans cc8
          have d9 : wn.cell? ⟨P4, 1, none⟩ = some (.slice x7 (k + k) y7) := (Below.celz bwn _ _ _ (by omega)).trans cc9
          have d10 : wn.cell? ⟨P5, 0, none⟩ = some (.int .i64 13) := (Below.celz bwn _ _ _ (by omega)).trans cc10
          have d11 : wn.cell? ⟨P5, 1, none⟩ = some (.slice pa k pc) := (Below.celz bwn _ _ _ (by omega)).trans cc11
          have y0 : P0 < wn.heap.size := by have := Below.size bwn; omega
          have y1 : P1 < wn.heap.size := by have := Below.size bwn; omega
          have y2 : P2 < wn.heap.size := by have := Below.size bwn; omega
          have y3 : P3 < wn.heap.size := by have := Below.size bwn; omega
          have y4 : P4 < wn.heap.size := by have := Below.size bwn; omega
          have y5 : P5 < wn.heap.size := by have := Below.size bwn; omega
          have BB1 : Below A2 wc wn := BB.trans (bwn.mono (by omega))
          have sA1 : A2 ≤ wn.heap.size := by have := Below.size bwn; omega
          have q0 : Hid (RowAt 2 encPage wn (.slice x7 (k + k) y7) (ps ++ ps)) := HYr.out.keep bwn
          clear BB sA cc0 cc1 cc2 cc3 cc4 cc5 cc6 cc7 cc8 cc9 cc10 cc11 zz0 zz1 zz2 zz3 zz4 zz5 HYr
          have cc0 := d0
          have cc1 := d1
          have cc2 := d2
          have cc3 := d3
          have cc4 := d4
          have cc5 := d5
          have cc6 := d6
          have cc7 := d7
          have cc8 := d8
          have cc9 := d9
          have cc10 := d10
          have cc11 := d11
          have zz0 := y0
          have zz1 := y1
          have zz2 := y2
          have zz3 := y3
          have zz4 := y4
          have zz5 := y5
          have HYr := q0
          have BB := BB1
          have sA := sA1
          clear BB1 sA1 d0 d1 d2 d3 d4 d5 d6 d7 d8 d9 d10 d11 y0 y1 y2 y3 y4 y5 q0
          clear bwn
          clear CP
          go_wp2_with fail
          have CP := impl_PoolOk 13 _ ps _ (HV3.out _ BB).2.2.1.1 HL.out.2.2 (HV3.out _ BB).2.2.2.1
          rw [show poolB 13 ps = false from poolB_false.2 (fun h => by have := h.2.1; omega)] at CP
          refine (CP).mono ?_
          rintro e wp1 ⟨rfl, bwp1⟩
          have d0 : wp1.cell? ⟨P0, 0, none⟩ = some (.int .i64 z1) := (Below.celz bwp1 _ _ _ (by omega)).trans cc0
          have d1 : wp1.cell? ⟨P0, 1, none⟩ = some (.slice ua m uc) := (Below.celz bwp1 _ _ _ (by omega)).trans cc1
          have d2 : wp1.cell? ⟨P1, 0, none⟩ = some (.int .i64 z2) := (Below.celz bwp1 _ _ _ (by omega)).trans cc2
          have d3 : wp1.cell? ⟨P1, 1, none⟩ = some (.slice va n vc) := (Below.celz bwp1 _ _ _ (by omega)).trans cc3
          have d4 : wp1.cell? ⟨P2, 0, none⟩ = some (.int .i64 (zn : Int)) := (Below.celz bwp1 _ _ _ (by omega)).trans cc4
          have d5 : wp1.cell? ⟨P2, 1, none⟩ = some (.slice pa k pc) := (Below.celz bwp1 _ _ _ (by omega)).trans cc5
          have d6 : wp1.cell? ⟨P3, 0, none⟩ = some (.int .i64 ((k : Int) - 1)) := (Below.celz bwp1 _ _ _ (by omega)).trans cc6
          have d7 : wp1.cell? ⟨P3, 1, none⟩ = some (.slice pa k pc) := (Below.celz bwp1 _ _ _ (by omega)).trans cc7
          have d8 : wp1.cell? ⟨P4, 0, none⟩ = some (.int .i64 (zn : Int)) := (Below.celz bwp1 _ _ _ (by omega)).trans cc8
          have d9 : wp1.cell? ⟨P4, 1, none⟩ = some (.slice x7 (k + k) y7) := (Below.celz bwp1 _ _ _ (by omega)).trans cc9
          have d10 : wp1.cell? ⟨P5, 0, none⟩ = some (.int .i64 13) := (Below.celz bwp1 _ _ _ (by omega)).trans cc10
          have d11 : wp1.cell? ⟨P5, 1, none⟩ = some (.slice pa k pc) := (Below.celz bwp1 _ _ _ (by omega)).trans cc11
          have y0 : P0 < wp1.heap.size := by have := Below.size bwp1; omega
          have y1 : P1 < wp1.heap.size := by have := Below.size bwp1; omega
          have y2 : P2 < wp1.heap.size := by have := Below.size bwp1; omega
          have y3 : P3 < wp1.heap.size := by have := Below.size bwp1; omega
          have y4 : P4 < wp1.heap.size := by have := Below.size bwp1; omega
          have y5 : P5 < wp1.heap.size := by have := Below.size bwp1; omega
          have BB1 : Below A2 wc wp1 := BB.trans (bwp1.mono (by omega))
          have sA1 : A2 ≤ wp1.heap.size := by have := Below.size bwp1; omega
          have q0 : Hid (RowAt 2 encPage wp1 (.slice x7 (k + k) y7) (ps ++ ps)) := HYr.out.keep bwp1
          clear BB sA cc0 cc1 cc2 cc3 cc4 cc5 cc6 cc7 cc8 cc9 cc10 cc11 zz0 zz1 zz2 zz3 zz4 zz5 HYr
          have cc0 := d0
          have cc1 := d1
          have cc2 := d2
          have cc3 := d3
          have cc4 := d4
          have cc5 := d5
          have cc6 := d6
          have cc7 := d7
          have cc8 := d8
          have cc9 := d9
          have cc10 := d10
          have cc11 := d11
          have zz0 := y0
          have zz1 := y1
          have zz2 := y2
          have zz3 := y3
          have zz4 := y4
          have zz5 := y5
          have HYr := q0
          have BB := BB1
          have sA := sA1
          clear BB1 sA1 d0 d1 d2 d3 d4 d5 d6 d7 d8 d9 d10 d11 y0 y1 y2 y3 y4 y5 q0
          clear bwp1
          clear CP
          go_wp2_with fail
          have CP := impl_PoolSame zn 13 _ _ ps ps _ (HV3.out _ BB).2.2.1.1 (HV3.out _ BB).2.2.1.1 HL.out.2.2 HL.out.2.2
          rw [decide_eq_false (p := (zn : Int) = 13) (by omega), Bool.false_and] at CP
          refine (CP).mono ?_
          rintro e wq1 ⟨rfl, bwq1⟩
          have d0 : wq1.cell? ⟨P0, 0, none⟩ = some (.int .i64 z1) := (Below.celz bwq1 _ _ _ (by omega)).trans cc0
          have d1 : wq1.cell? ⟨P0, 1, none⟩ = some (.slice ua m uc) := (Below.celz bwq1 _ _ _ (by omega)).trans cc1
          have d2 : wq1.cell? ⟨P1, 0, none⟩ = some (.int .i64 z2) := (Below.celz bwq1 _ _ _ (by omega)).trans cc2
          have d3 : wq1.cell? ⟨P1, 1, none⟩ = some (.slice va n vc) := (Below.celz bwq1 _ _ _ (by omega)).trans cc3
          have d4 : wq1.cell? ⟨P2, 0, none⟩ = some (.int .i64 (zn : Int)) := (Below.celz bwq1 _ _ _ (by omega)).trans cc4
          have d5 : wq1.cell? ⟨P2, 1, none⟩ = some (.slice pa k pc) := (Below.celz bwq1 _ _ _ (by omega)).trans cc5
          have d6 : wq1.cell? ⟨P3, 0, none⟩ = some (.int .i64 ((k : Int) - 1)) := (Below.celz bwq1 _ _ _ (by omega)).trans cc6
          have d7 : wq1.cell? ⟨P3, 1, none⟩ = some (.slice pa k pc) := (Below.celz bwq1 _ _ _ (by omega)).trans cc7
          have d8 : wq1.cell? ⟨P4, 0, none⟩ = some (.int .i64 (zn : Int)) := (Below.celz bwq1 _ _ _ (by omega)).trans cc8
          have d9 : wq1.cell? ⟨P4, 1, none⟩ = some (.slice x7 (k + k) y7) := (Below.celz bwq1 _ _ _ (by omega)).trans cc9
          have d10 : wq1.cell? ⟨P5, 0, none⟩ = some (.int .i64 13) := (Below.celz bwq1 _ _ _ (by omega)).trans cc10
          have d11 : wq1.cell? ⟨P5, 1, none⟩ = some (.slice pa k pc) := (Below.celz bwq1 _ _ _ (by omega)).trans cc11
          have y0 : P0 < wq1.heap.size := by have := Below.size bwq1; omega
          have y1 : P1 < wq1.heap.size := by have := Below.size bwq1; omega
          have y2 : P2 < wq1.heap.size := by have := Below.size bwq1; omega
          have y3 : P3 < wq1.heap.size := by have := Below.size bwq1; omega
          have y4 : P4 < wq1.heap.size := by have := Below.size bwq1; omega
          have y5 : P5 < wq1.heap.size := by have := Below.size bwq1; omega
          have BB1 : Below A2 wc wq1 := BB.trans (bwq1.mono (by omega))
          have sA1 : A2 ≤ wq1.heap.size := by have := Below.size bwq1; omega
          have q0 : Hid (RowAt 2 encPage wq1 (.slice x7 (k + k) y7) (ps ++ ps)) := HYr.out.keep bwq1
          clear BB sA cc0 cc1 cc2 cc3 cc4 cc5 cc6 cc7 cc8 cc9 cc10 cc11 zz0 zz1 zz2 zz3 zz4 zz5 HYr
          have cc0 := d0
          have cc1 := d1
          have cc2 := d2
          have cc3 := d3
          have cc4 := d4
          have cc5 := d5
          have cc6 := d6
          have cc7 := d7
          have cc8 := d8
          have cc9 := d9
          have cc10 := d10
          have cc11 := d11
          have zz0 := y0
          have zz1 := y1
          have zz2 := y2
          have zz3 := y3
          have zz4 := y4
          have zz5 := y5
          have HYr := q0
          have BB := BB1
          have sA := sA1
          clear BB1 sA1 d0 d1 d2 d3 d4 d5 d6 d7 d8 d9 d10 d11 y0 y1 y2 y3 y4 y5 q0
          clear bwq1
          clear CP
          go_wp2_with fail
          go_ret
          exact ⟨rfl, (HV3.out _ BB).2.2.2.2⟩
        · have hkb : ((k : Int) == 0) = false := by simp [hk0]
          have HDUP : Hid (poolB (zn : Int) (ps ++ ps) = false) := poolB_false.2 (fun h => by
            have h1 := h.2.2.2.2
            have h2 : 0 < ps.length := by rw [← HK.out]; omega
            obtain ⟨x, hx⟩ : ∃ x, x ∈ ps := ⟨_, List.getElem_mem h2⟩
            exact (List.nodup_append.1 h1).2.2 x hx x hx rfl)
          clear hk0
          go_wp2_with fail
          have CP := impl_PoolOk ((k : Int) - 1) _ ps _ (HV3.out _ BB).2.2.1.1 HL.out.2.2 (HV3.out _ BB).2.2.2.1
          rw [show poolB ((k : Int) - 1) ps = false from poolB_false.2 (fun h => by have := h.2.2.1; rw [← HK.out] at this; omega)] at CP
          refine (CP).mono ?_
          rintro e wn ⟨rfl, bwn⟩
          have d0 : wn.cell? ⟨P0, 0, none⟩ = some (.int .i64 z1) := (Below.celz bwn _ _ _ (by omega)).trans cc0
          have d1 : wn.cell? ⟨P0, 1, none⟩ = some (.slice ua m uc) := (Below.celz bwn _ _ _ (by omega)).trans cc1
          have d2 : wn.cell? ⟨P1, 0, none⟩ = some (.int .i64 z2) := (Below.celz bwn _ _ _ (by omega)).trans cc2
          have d3 : wn.cell? ⟨P1, 1, none⟩ = some (.slice va n vc) := (Below.celz bwn _ _ _ (by omega)).trans cc3
          have d4 : wn.cell? ⟨P2, 0, none⟩ = some (.int .i64 (zn : Int)) := (Below.celz bwn _ _ _ (by omega)).trans cc4
          have d5 : wn.cell? ⟨P2, 1, none⟩ = some (.slice pa k pc) := (Below.celz bwn _ _ _ (by omega)).trans cc5
          have d6 : wn.cell? ⟨P3, 0, none⟩ = some (.int .i64 ((k : Int) - 1)) := (Below.celz bwn _ _ _ (by omega)).trans cc6
          have d7 : wn.cell? ⟨P3, 1, none⟩ = some (.slice pa k pc) := (Below.celz bwn _ _ _ (by omega)).trans cc7
          have d8 : wn.cell? ⟨P4, 0, none⟩ = some (.int .i64 (zn : Int)) := (Below.celz bwn _ _ _ (by omega)).trans cc8
          have d9 : wn.cell? ⟨P4, 1, none⟩ = some (.slice x7 (k + k) y7) := (Below.celz bwn _ _ _ (by omega)).trans cc9
          have d10 : wn.cell? ⟨P5, 0, none⟩ = some (.int .i64 13) := (Below.celz bwn _ _ _ (by omega)).trans cc10
          have d11 : wn.cell? ⟨P5, 1, none⟩ = some (.slice pa k pc) := (Below.celz bwn _ _ _ (by omega)).trans cc11
          have y0 : P0 < wn.heap.size := by have := Below.size bwn; omega
          have y1 : P1 < wn.heap.size := by have := Below.size bwn; omega
          have y2 : P2 < wn.heap.size := by have := Below.size bwn; omega
          have y3 : P3 < wn.heap.size := by have := Below.size bwn; omega
          have y4 : P4 < wn.heap.size := by have := Below.size bwn; omega
          have y5 : P5 < wn.heap.size := by have := Below.size bwn; omega
          have BB1 : Below A2 wc wn := BB.trans (bwn.mono (by omega))
          have sA1 : A2 ≤ wn.heap.size := by have := Below.size bwn; omega
          have q0 : Hid (RowAt 2 encPage wn (.slice x7 (k + k) y7) (ps ++ ps)) := HYr.out.keep bwn
          clear BB sA cc0 cc1 cc2 cc3 cc4 cc5 cc6 cc7 cc8 cc9 cc10 cc11 zz0 zz1 zz2 zz3 zz4 zz5 HYr
          have cc0 := d0
          have cc1 := d1
          have cc2 := d2
          have cc3 := d3
          have cc4 := d4
          have cc5 := d5
          have cc6 := d6
          have cc7 := d7
          have cc8 := d8
          have cc9 := d9
          have cc10 := d10
          have cc11 := d11
          have zz0 := y0
          have zz1 := y1
          have zz2 := y2
          have zz3 := y3
          have zz4 := y4
          have zz5 := y5
          have HYr := q0
          have BB := BB1
          have sA := sA1
          clear BB1 sA1 d0 d1 d2 d3 d4 d5 d6 d7 d8 d9 d10 d11 y0 y1 y2 y3 y4 y5 q0
          clear bwn
          clear CP
          go_wp2_with fail
          have CP := impl_PoolOk zn _ (ps ++ ps) _ HYr.out (by rw [List.length_append, ← HK.out]; omega) (HV3.out _ BB).2.2.2.1
          rw [HDUP.out] at CP
          refine (CP).mono ?_
          rintro e wo ⟨rfl, bwo⟩
          have d0 : wo.cell? ⟨P0, 0, none⟩ = some (.int .i64 z1) := (Below.celz bwo _ _ _ (by omega)).trans cc0
          have d1 : wo.cell? ⟨P0, 1, none⟩ = some (.slice ua m uc) := (Below.celz bwo _ _ _ (by omega)).trans cc1
          have d2 : wo.cell? ⟨P1, 0, none⟩ = some (.int .i64 z2) := (Below.celz bwo _ _ _ (by omega)).trans cc2
          have d3 : wo.cell? ⟨P1, 1, none⟩ = some (.slice va n vc) := (Below.celz bwo _ _ _ (by omega)).trans cc3
          have d4 : wo.cell? ⟨P2, 0, none⟩ = some (.int .i64 (zn : Int)) := (Below.celz bwo _ _ _ (by omega)).trans cc4
          have d5 : wo.cell? ⟨P2, 1, none⟩ = some (.slice pa k pc) := (Below.celz bwo _ _ _ (by omega)).trans cc5
          have d6 : wo.cell? ⟨P3, 0, none⟩ = some (.int .i64 ((k : Int) - 1)) := (Below.celz bwo _ _ _ (by omega)).trans cc6
          have d7 : wo.cell? ⟨P3, 1, none⟩ = some (.slice pa k pc) := (Below.celz bwo _ _ _ (by omega)).trans cc7
          have d8 : wo.cell? ⟨P4, 0, none⟩ = some (.int .i64 (zn : Int)) := (Below.celz bwo _ _ _ (by omega)).trans cc8
          have d9 : wo.cell? ⟨P4, 1, none⟩ = some (.slice x7 (k + k) y7) := (Below.celz bwo _ _ _ (by omega)).trans cc9
          have d10 : wo.cell? ⟨P5, 0, none⟩ = some (.int .i64 13) := (Below.celz bwo _ _ _ (by omega)).trans cc10
          have d11 : wo.cell? ⟨P5, 1, none⟩ = some (.slice pa k pc) := (Below.celz bwo _ _ _ (by omega)).trans cc11
          have y0 : P0 < wo.heap.size := by have := Below.size bwo; omega
          have y1 : P1 < wo.heap.size := by have := Below.size bwo; omega
          have y2 : P2 < wo.heap.size := by have := Below.size bwo; omega
          have y3 : P3 < wo.heap.size := by have := Below.size bwo; omega
          have y4 : P4 < wo.heap.size := by have := Below.size bwo; omega
          have y5 : P5 < wo.heap.size := by have := Below.size bwo; omega
          have BB1 : Below A2 wc wo := BB.trans (bwo.mono (by omega))
          have sA1 : A2 ≤ wo.heap.size := by have := Below.size bwo; omega
          have q0 : Hid (RowAt 2 encPage wo (.slice x7 (k + k) y7) (ps ++ ps)) := HYr.out.keep bwo
          clear BB sA cc0 cc1 cc2 cc3 cc4 cc5 cc6 cc7 cc8 cc9 cc10 cc11 zz0 zz1 zz2 zz3 zz4 zz5 HYr
          have cc0 := d0
          have cc1 := d1
          have cc2 := d2
          have cc3 := d3
          have cc4 := d4
          have cc5 := d5
          have cc6 := d6
          have cc7 := d7
          have cc8 := d8
          have cc9 := d9
          have cc10 := d10
          have cc11 := d11
          have zz0 := y0
          have zz1 := y1
          have zz2 := y2
          have zz3 := y3
          have zz4 := y4
          have zz5 := y5
          have HYr := q0
          have BB := BB1
          have sA := sA1
          clear BB1 sA1 d0 d1 d2 d3 d4 d5 d6 d7 d8 d9 d10 d11 y0 y1 y2 y3 y4 y5 q0
          clear bwo
          clear CP
          go_wp2_with fail
          have CP := impl_PoolOk 13 _ ps _ (HV3.out _ BB).2.2.1.1 HL.out.2.2 (HV3.out _ BB).2.2.2.1
          rw [show poolB 13 ps = false from poolB_false.2 (fun h => by have := h.2.1; omega)] at CP
          refine (CP).mono ?_
          rintro e wp1 ⟨rfl, bwp1⟩
          have d0 : wp1.cell? ⟨P0, 0, none⟩ = some (.int .i64 z1) := (Below.celz bwp1 _ _ _ (by omega)).trans cc0
          have d1 : wp1.cell? ⟨P0, 1, none⟩ = some (.slice ua m uc) := (Below.celz bwp1 _ _ _ (by omega)).trans cc1
          have d2 : wp1.cell? ⟨P1, 0, none⟩ = some (.int .i64 z2) := (Below.celz bwp1 _ _ _ (by omega)).trans cc2
          have d3 : wp1.cell? ⟨P1, 1, none⟩ = some (.slice va n vc) := (Below.celz bwp1 _ _ _ (by omega)).trans cc3
          have d4 : wp1.cell? ⟨P2, 0, none⟩ = some (.int .i64 (zn : Int)) := (Below.celz bwp1 _ _ _ (by omega)).trans cc4
          have d5 : wp1.cell? ⟨P2, 1, none⟩ = some (.slice pa k pc) := (Below.celz bwp1 _ _ _ (by omega)).trans cc5
          have d6 : wp1.cell? ⟨P3, 0, none⟩ = some (.int .i64 ((k : Int) - 1)) := (Below.celz bwp1 _ _ _ (by omega)).trans cc6
          have d7 : wp1.cell? ⟨P3, 1, none⟩ = some (.slice pa k pc) := (Below.celz bwp1 _ _ _ (by omega)).trans cc7
          have d8 : wp1.cell? ⟨P4, 0, none⟩ = some (.int .i64 (zn : Int)) := (Below.celz bwp1 _ _ _ (by omega)).trans cc8
          have d9 : wp1.cell? ⟨P4, 1, none⟩ = some (.slice x7 (k + k) y7) := (Below.celz bwp1 _ _ _ (by omega)).trans cc9
          have d10 : wp1.cell? ⟨P5, 0, none⟩ = some (.int .i64 13) := (Below.celz bwp1 _ _ _ (by omega)).trans cc10
          have d11 : wp1.cell? ⟨P5, 1, none⟩ = some (.slice pa k pc) := (Below.celz bwp1 _ _ _ (by omega)).trans cc11
          have y0 : P0 < wp1.heap.size := by have := Below.size bwp1; omega
          have y1 : P1 < wp1.heap.size := by have := Below.size bwp1; omega
          have y2 : P2 < wp1.heap.size := by have := Below.size bwp1; omega
          have y3 : P3 < wp1.heap.size := by have := Below.size bwp1; omega
          have y4 : P4 < wp1.heap.size := by have := Below.size bwp1; omega
          have y5 : P5 < wp1.heap.size := by have := Below.size bwp1; omega
          have BB1 : Below A2 wc wp1 := BB.trans (bwp1.mono (by omega))
          have sA1 : A2 ≤ wp1.heap.size := by have := Below.size bwp1; omega
          have q0 : Hid (RowAt 2 encPage wp1 (.slice x7 (k + k) y7) (ps ++ ps)) := HYr.out.keep bwp1
          clear BB sA cc0 cc1 cc2 cc3 cc4 cc5 cc6 cc7 cc8 cc9 cc10 cc11 zz0 zz1 zz2 zz3 zz4 zz5 HYr
          have cc0 := d0
          have cc1 := d1
          have cc2 := d2
          have cc3 := d3
          have cc4 := d4
          have cc5 := d5
          have cc6 := d6
          have cc7 := d7
          have cc8 := d8
          have cc9 := d9
          have cc10 := d10
          have cc11 := d11
          have zz0 := y0
          have zz1 := y1
          have zz2 := y2
          have zz3 := y3
          have zz4 := y4
          have zz5 := y5
          have HYr := q0
          have BB := BB1
          have sA := sA1
          clear BB1 sA1 d0 d1 d2 d3 d4 d5 d6 d7 d8 d9 d10 d11 y0 y1 y2 y3 y4 y5 q0
          clear bwp1
          clear CP
          go_wp2_with fail
          have CP := impl_PoolSame zn 13 _ _ ps ps _ (HV3.out _ BB).2.2.1.1 (HV3.out _ BB).2.2.1.1 HL.out.2.2 HL.out.2.2
          rw [decide_eq_false (p := (zn : Int) = 13) (by omega), Bool.false_and] at CP
          refine (CP).mono ?_
          rintro e wq1 ⟨rfl, bwq1⟩
          have d0 : wq1.cell? ⟨P0, 0, none⟩ = some (.int .i64 z1) := (Below.celz bwq1 _ _ _ (by omega)).trans cc0
          have d1 : wq1.cell? ⟨P0, 1, none⟩ = some (.slice ua m uc) := (Below.celz bwq1 _ _ _ (by omega)).trans cc1
          have d2 : wq1.cell? ⟨P1, 0, none⟩ = some (.int .i64 z2) := (Below.celz bwq1 _ _ _ (by omega)).trans cc2
          have d3 : wq1.cell? ⟨P1, 1, none⟩ = some (.slice va n vc) := (Below.celz bwq1 _ _ _ (by omega)).trans cc3
          have d4 : wq1.cell? ⟨P2, 0, none⟩ = some (.int .i64 (zn : Int)) := (Below.celz bwq1 _ _ _ (by omega)).trans cc4
          have d5 : wq1.cell? ⟨P2, 1, none⟩ = some (.slice pa k pc) := (Below.celz bwq1 _ _ _ (by omega)).trans cc5
          have d6 : wq1.cell? ⟨P3, 0, none⟩ = some (.int .i64 ((k : Int) - 1)) := (Below.celz bwq1 _ _ _ (by omega)).trans cc6
          have d7 : wq1.cell? ⟨P3, 1, none⟩ = some (.slice pa k pc) := (Below.celz bwq1 _ _ _ (by omega)).trans cc7
          have d8 : wq1.cell? ⟨P4, 0, none⟩ = some (.int .i64 (zn : Int)) := (Below.celz bwq1 _ _ _ (by omega)).trans cc8
          have d9 : wq1.cell? ⟨P4, 1, none⟩ = some (.slice x7 (k + k) y7) := (Below.celz bwq1 _ _ _ (by omega)).trans cc9
          have d10 : wq1.cell? ⟨P5, 0, none⟩ = some (.int .i64 13) := (Below.celz bwq1 _ _ _ (by omega)).trans cc10
          have d11 : wq1.cell? ⟨P5, 1, none⟩ = some (.slice pa k pc) := (Below.celz bwq1 _ _ _ (by omega)).trans cc11
          have y0 : P0 < wq1.heap.size := by have := Below.size bwq1; omega
          have y1 : P1 < wq1.heap.size := by have := Below.size bwq1; omega
          have y2 : P2 < wq1.heap.size := by have := Below.size bwq1; omega
          have y3 : P3 < wq1.heap.size := by have := Below.size bwq1; omega
          have y4 : P4 < wq1.heap.size := by have := Below.size bwq1; omega
          have y5 : P5 < wq1.heap.size := by have := Below.size bwq1; omega
          have BB1 : Below A2 wc wq1 := BB.trans (bwq1.mono (by omega))
          have sA1 : A2 ≤ wq1.heap.size := by have := Below.size bwq1; omega
          have q0 : Hid (RowAt 2 encPage wq1 (.slice x7 (k + k) y7) (ps ++ ps)) := HYr.out.keep bwq1
          clear BB sA cc0 cc1 cc2 cc3 cc4 cc5 cc6 cc7 cc8 cc9 cc10 cc11 zz0 zz1 zz2 zz3 zz4 zz5 HYr
          have cc0 := d0
          have cc1 := d1
          have cc2 := d2
          have cc3 := d3
          have cc4 := d4
          have cc5 := d5
          have cc6 := d6
          have cc7 := d7
          have cc8 := d8
          have cc9 := d9
          have cc10 := d10
          have cc11 := d11
          have zz0 := y0
          have zz1 := y1
          have zz2 := y2
          have zz3 := y3
          have zz4 := y4
          have zz5 := y5
          have HYr := q0
          have BB := BB1
          have sA := sA1
          clear BB1 sA1 d0 d1 d2 d3 d4 d5 d6 d7 d8 d9 d10 d11 y0 y1 y2 y3 y4 y5 q0
          clear bwq1
          clear CP
          go_wp2_with fail
          go_ret
          exact ⟨rfl, (HV3.out _ BB).2.2.2.2⟩
    · have HA1 : Hid (∀ p : After wd, RowC p.w (.slice ua m uc) xs ∧ RowC p.w (.slice va n vc) ys ∧ RowC p.w (.slice pa k pc) ps ∧ FormAt p.w) := fun p => ⟨(HV3.out _ (BB.trans (p.bel.mono sA))).1, (HV3.out _ (BB.trans (p.bel.mono sA))).2.1, (HV3.out _ (BB.trans (p.bel.mono sA))).2.2.1, (HV3.out _ (BB.trans (p.bel.mono sA))).2.2.2.1⟩
      have K1 : Hid (∀ p : After wd, Calls Tryd.prog 6 #[.agg #[.int .i64 z1, .slice ua m uc], .agg #[.int .i64 z2, .slice va n vc]] p.w fun e w'' => e = .returned (.bool true) ∧ ∃ q : After wd, w'' = q.w) := fun p => after_at HS.out.1 (impl_PoolSame z1 z2 _ _ xs ys _ (HA1.out p).1.1 (HA1.out p).2.1.1 HL.out.1 HL.out.2.1)
      have K2 : Hid (∀ p : After wd, Calls Tryd.prog 7 #[.agg #[.int .i64 z1, .slice ua m uc], .agg #[.int .i64 z2, .slice va n vc]] p.w fun e w'' => e = .returned (.bool true) ∧ ∃ q : After wd, w'' = q.w) := fun p => after_at HS.out.1 (spec_PoolSame z1 z2 _ _ xs ys _ (HA1.out p).1.1 (HA1.out p).2.1.1 HL.out.1 HL.out.2.1)
      have K3 : Hid (∀ p : After wd, Calls Tryd.prog 6 #[.agg #[.int .i64 z2, .slice va n vc], .agg #[.int .i64 z1, .slice ua m uc]] p.w fun e w'' => e = .returned (.bool true) ∧ ∃ q : After wd, w'' = q.w) := fun p => after_at HS.out.2 (impl_PoolSame z2 z1 _ _ ys xs _ (HA1.out p).2.1.1 (HA1.out p).1.1 HL.out.2.1 HL.out.1)
      have K4 : Hid (∀ p : After wd, Calls Tryd.prog 6 #[.agg #[.int .i64 (zn : Int), .slice pa k pc], .agg #[.int .i64 (zn : Int), .slice pa k pc]] p.w fun e w'' => e = .returned (.bool true) ∧ ∃ q : After wd, w'' = q.w) := fun p => after_of (impl_PoolSame_same zn _ _ ps _ (HA1.out p).2.2.1.1 (HA1.out p).2.2.1.1 HL.out.2.2)
      have K5 : Hid (∀ p : After wd, Calls Tryd.prog 8 #[.agg #[.int .i64 (zn : Int), .slice pa k pc]] p.w fun e w'' => e = .returned (.bool true) ∧ ∃ q : After wd, w'' = q.w) := fun p => after_at hp (impl_PoolOk zn _ ps _ (HA1.out p).2.2.1.1 HL.out.2.2 (HA1.out p).2.2.2)
      have K6 : Hid (∀ p : After wd, Calls Tryd.prog 9 #[.agg #[.int .i64 (zn : Int), .slice pa k pc]] p.w fun e w'' => e = .returned (.bool true) ∧ ∃ q : After wd, w'' = q.w) := fun p => after_at hp (spec_PoolOk zn _ ps _ (HA1.out p).2.2.1 HL.out.2.2)
      refine wp_region_after (by kernel_rfl) (by kernel_rfl) ?_
      intro hneq hac
      repeat (go_big_quiet_step (first | (go_at_call 6; first | (with_reducible exact K1.out _) | (with_reducible exact K3.out _) | (with_reducible exact K4.out _)) | (go_at_call 7; first | (with_reducible exact K2.out _)) | (go_at_call 8; first | (with_reducible exact K5.out _)) | (go_at_call 9; first | (with_reducible exact K6.out _))))
      refine wpQuiet_nil ?_
      rintro _ ⟨p, rfl⟩
      have bq : Below wd.heap.size wd p.w := p.bel
      clear hac hneq
      generalize p.w = we at *
      have d0 : we.cell? ⟨P0, 0, none⟩ = some (.int .i64 z1) := (Below.celz bq _ _ _ (by omega)).trans cc0
      have d1 : we.cell? ⟨P0, 1, none⟩ = some (.slice ua m uc) := (Below.celz bq _ _ _ (by omega)).trans cc1
      have d2 : we.cell? ⟨P1, 0, none⟩ = some (.int .i64 z2) := (Below.celz bq _ _ _ (by omega)).trans cc2
      have d3 : we.cell? ⟨P1, 1, none⟩ = some (.slice va n vc) := (Below.celz bq _ _ _ (by omega)).trans cc3
      have d4 : we.cell? ⟨P2, 0, none⟩ = some (.int .i64 (zn : Int)) := (Below.celz bq _ _ _ (by omega)).trans cc4
      have d5 : we.cell? ⟨P2, 1, none⟩ = some (.slice pa k pc) := (Below.celz bq _ _ _ (by omega)).trans cc5
      have y0 : P0 < we.heap.size := by have := Below.size bq; omega
      have y1 : P1 < we.heap.size := by have := Below.size bq; omega
      have y2 : P2 < we.heap.size := by have := Below.size bq; omega
      have BB1 : Below A2 wc we := BB.trans (bq.mono (by omega))
      have sA1 : A2 ≤ we.heap.size := by have := Below.size bq; omega
      clear BB sA cc0 cc1 cc2 cc3 cc4 cc5 zz0 zz1 zz2 
      have cc0 := d0
      have cc1 := d1
      have cc2 := d2
      have cc3 := d3
      have cc4 := d4
      have cc5 := d5
      have zz0 := y0
      have zz1 := y1
      have zz2 := y2
      have BB := BB1
      have sA := sA1
      clear BB1 sA1 d0 d1 d2 d3 d4 d5 y0 y1 y2 
      clear bq
      clear HA1 K1 K2 K3 K4 K5 K6
      go_wp2_with fail
      have CP := spec_PoolOk zn _ ps _ (HV3.out _ BB).2.2.1 HL.out.2.2
      rw [hp] at CP
      refine (CP).mono ?_
      rintro e wf ⟨rfl, bf⟩
      have d0 : wf.cell? ⟨P0, 0, none⟩ = some (.int .i64 z1) := (Below.celz bf _ _ _ (by omega)).trans cc0
      have d1 : wf.cell? ⟨P0, 1, none⟩ = some (.slice ua m uc) := (Below.celz bf _ _ _ (by omega)).trans cc1
      have d2 : wf.cell? ⟨P1, 0, none⟩ = some (.int .i64 z2) := (Below.celz bf _ _ _ (by omega)).trans cc2
      have d3 : wf.cell? ⟨P1, 1, none⟩ = some (.slice va n vc) := (Below.celz bf _ _ _ (by omega)).trans cc3
      have d4 : wf.cell? ⟨P2, 0, none⟩ = some (.int .i64 (zn : Int)) := (Below.celz bf _ _ _ (by omega)).trans cc4
      have d5 : wf.cell? ⟨P2, 1, none⟩ = some (.slice pa k pc) := (Below.celz bf _ _ _ (by omega)).trans cc5
      have y0 : P0 < wf.heap.size := by have := Below.size bf; omega
      have y1 : P1 < wf.heap.size := by have := Below.size bf; omega
      have y2 : P2 < wf.heap.size := by have := Below.size bf; omega
      have BB1 : Below A2 wc wf := BB.trans (bf.mono (by omega))
      have sA1 : A2 ≤ wf.heap.size := by have := Below.size bf; omega
      clear BB sA cc0 cc1 cc2 cc3 cc4 cc5 zz0 zz1 zz2 
      have cc0 := d0
      have cc1 := d1
      have cc2 := d2
      have cc3 := d3
      have cc4 := d4
      have cc5 := d5
      have zz0 := y0
      have zz1 := y1
      have zz2 := y2
      have BB := BB1
      have sA := sA1
      clear BB1 sA1 d0 d1 d2 d3 d4 d5 y0 y1 y2 
      clear bf
      clear CP
      go_upto_region 10 with fail
      obtain ⟨P3, hP3⟩ : ∃ t, t = wf.heap.size := ⟨_, rfl⟩
      generalize hW : wf.alloc (.cells #[.int .i64 (zn : Int), .slice pa k pc] 25) = wg
      have nb : Below wf.heap.size wf wg := by rw [← hW]; exact (Below.refl _ _).alloc (Nat.le_refl _) _
      have k3 : wg.heap.size = P3 + 1 := by rw [← hW, hP3]; simp
      have kk0 : wg.cell? ⟨P3, 0, none⟩ = some (.int .i64 (zn : Int)) := by rw [← hW, hP3]; simp [go_sem]
      have kk1 : wg.cell? ⟨P3, 1, none⟩ = some (.slice pa k pc) := by rw [← hW, hP3]; simp [go_sem]
      have oP3A : A2 ≤ P3 := by rw [hP3]; exact sA
      have oP30 : P0 < P3 := by rw [hP3]; exact zz0
      have oP31 : P1 < P3 := by rw [hP3]; exact zz1
      have oP32 : P2 < P3 := by rw [hP3]; exact zz2
      have d0 : wg.cell? ⟨P0, 0, none⟩ = some (.int .i64 z1) := (Below.celz nb _ _ _ (by omega)).trans cc0
      have d1 : wg.cell? ⟨P0, 1, none⟩ = some (.slice ua m uc) := (Below.celz nb _ _ _ (by omega)).trans cc1
      have d2 : wg.cell? ⟨P1, 0, none⟩ = some (.int .i64 z2) := (Below.celz nb _ _ _ (by omega)).trans cc2
      have d3 : wg.cell? ⟨P1, 1, none⟩ = some (.slice va n vc) := (Below.celz nb _ _ _ (by omega)).trans cc3
      have d4 : wg.cell? ⟨P2, 0, none⟩ = some (.int .i64 (zn : Int)) := (Below.celz nb _ _ _ (by omega)).trans cc4
      have d5 : wg.cell? ⟨P2, 1, none⟩ = some (.slice pa k pc) := (Below.celz nb _ _ _ (by omega)).trans cc5
      have y0 : P0 < wg.heap.size := by have := Below.size nb; omega
      have y1 : P1 < wg.heap.size := by have := Below.size nb; omega
      have y2 : P2 < wg.heap.size := by have := Below.size nb; omega
      have BB1 : Below A2 wc wg := BB.trans (nb.mono (by omega))
      have sA1 : A2 ≤ wg.heap.size := by have := Below.size nb; omega
      clear BB sA cc0 cc1 cc2 cc3 cc4 cc5 zz0 zz1 zz2 
      have cc0 := d0
      have cc1 := d1
      have cc2 := d2
      have cc3 := d3
      have cc4 := d4
      have cc5 := d5
      have zz0 := y0
      have zz1 := y1
      have zz2 := y2
      have BB := BB1
      have sA := sA1
      clear BB1 sA1 d0 d1 d2 d3 d4 d5 y0 y1 y2 
      have cc6 := kk0
      have cc7 := kk1
      have zz3 : P3 < wg.heap.size := by omega
      have fzP3 : ∀ o, wg.frozen? ⟨P3, o, none⟩ = false := fun o => by rw [← hW, hP3]; simp [go_sem]
      rw [← hP3]
      have k3P3 := k3
      clear k3 hW nb hP3 kk0 kk1
      clear k3P3
      have hwr : IntKind.i64.wrap ((k : Int) - 1) = (k : Int) - 1 := wrap_small _ (by omega) (by omega)
      go_upto_region 11 with fail
      generalize hW : wg.setCell ⟨P3, 0, none⟩ (.int .i64 ((k : Int) - 1)) = wh
      have d0 : wh.cell? ⟨P0, 0, none⟩ = some (.int .i64 z1) := by rw [← hW, World.cell?_setCell_other _ _ _ _ (by intro e; have := congrArg Addr.block e; simp at this; omega)]; exact cc0
      have d1 : wh.cell? ⟨P0, 1, none⟩ = some (.slice ua m uc) := by rw [← hW, World.cell?_setCell_other _ _ _ _ (by intro e; have := congrArg Addr.block e; simp at this; omega)]; exact cc1
      have d2 : wh.cell? ⟨P1, 0, none⟩ = some (.int .i64 z2) := by rw [← hW, World.cell?_setCell_other _ _ _ _ (by intro e; have := congrArg Addr.block e; simp at this; omega)]; exact cc2
      have d3 : wh.cell? ⟨P1, 1, none⟩ = some (.slice va n vc) := by rw [← hW, World.cell?_setCell_other _ _ _ _ (by intro e; have := congrArg Addr.block e; simp at this; omega)]; exact cc3
      have d4 : wh.cell? ⟨P2, 0, none⟩ = some (.int .i64 (zn : Int)) := by rw [← hW, World.cell?_setCell_other _ _ _ _ (by intro e; have := congrArg Addr.block e; simp at this; omega)]; exact cc4
      have d5 : wh.cell? ⟨P2, 1, none⟩ = some (.slice pa k pc) := by rw [← hW, World.cell?_setCell_other _ _ _ _ (by intro e; have := congrArg Addr.block e; simp at this; omega)]; exact cc5
      have d6 : wh.cell? ⟨P3, 0, none⟩ = some (.int .i64 ((k : Int) - 1)) := by rw [← hW]; exact World.cell?_setCell_same _ _ _ cc6
      have d7 : wh.cell? ⟨P3, 1, none⟩ = some (.slice pa k pc) := by rw [← hW, World.cell?_setCell_other _ _ _ _ (by intro e; simp at e)]; exact cc7
      have y0 : P0 < wh.heap.size := by rw [← hW]; simpa using zz0
      have y1 : P1 < wh.heap.size := by rw [← hW]; simpa using zz1
      have y2 : P2 < wh.heap.size := by rw [← hW]; simpa using zz2
      have y3 : P3 < wh.heap.size := by rw [← hW]; simpa using zz3
      have BB1 : Below A2 wc wh := by rw [← hW]; exact Below.setCell (p := ⟨P3, 0, none⟩) BB (by omega) _
      have sA1 : A2 ≤ wh.heap.size := by rw [← hW]; simpa using sA
      clear hW BB sA cc0 cc1 cc2 cc3 cc4 cc5 cc6 cc7 zz0 zz1 zz2 zz3
      have cc0 := d0
      have cc1 := d1
      have cc2 := d2
      have cc3 := d3
      have cc4 := d4
      have cc5 := d5
      have cc6 := d6
      have cc7 := d7
      have zz0 := y0
      have zz1 := y1
      have zz2 := y2
      have zz3 := y3
      have BB := BB1
      have sA := sA1
      clear BB1 sA1 d0 d1 d2 d3 d4 d5 d6 d7 y0 y1 y2 y3
      clear fzP3
      go_upto_region 12 with fail
      obtain ⟨P4, hP4⟩ : ∃ t, t = wh.heap.size := ⟨_, rfl⟩
      generalize hW : wh.alloc (.cells #[.int .i64 (zn : Int), .slice pa k pc] 25) = wi
      have nb : Below wh.heap.size wh wi := by rw [← hW]; exact (Below.refl _ _).alloc (Nat.le_refl _) _
      have k3 : wi.heap.size = P4 + 1 := by rw [← hW, hP4]; simp
      have kk0 : wi.cell? ⟨P4, 0, none⟩ = some (.int .i64 (zn : Int)) := by rw [← hW, hP4]; simp [go_sem]
      have kk1 : wi.cell? ⟨P4, 1, none⟩ = some (.slice pa k pc) := by rw [← hW, hP4]; simp [go_sem]
      have oP4A : A2 ≤ P4 := by rw [hP4]; exact sA
      have oP40 : P0 < P4 := by rw [hP4]; exact zz0
      have oP41 : P1 < P4 := by rw [hP4]; exact zz1
      have oP42 : P2 < P4 := by rw [hP4]; exact zz2
      have oP43 : P3 < P4 := by rw [hP4]; exact zz3
      have d0 : wi.cell? ⟨P0, 0, none⟩ = some (.int .i64 z1) := (Below.celz nb _ _ _ (by omega)).trans cc0
      have d1 : wi.cell? ⟨P0, 1, none⟩ = some (.slice ua m uc) := (Below.celz nb _ _ _ (by omega)).trans cc1
      have d2 : wi.cell? ⟨P1, 0, none⟩ = some (.int .i64 z2) := (Below.celz nb _ _ _ (by omega)).trans cc2
      have d3 : wi.cell? ⟨P1, 1, none⟩ = some (.slice va n vc) := (Below.celz nb _ _ _ (by omega)).trans cc3
      have d4 : wi.cell? ⟨P2, 0, none⟩ = some (.int .i64 (zn : Int)) := (Below.celz nb _ _ _ (by omega)).trans cc4
      have d5 : wi.cell? ⟨P2, 1, none⟩ = some (.slice pa k pc) := (Below.celz nb _ _ _ (by omega)).trans cc5
      have d6 : wi.cell? ⟨P3, 0, none⟩ = some (.int .i64 ((k : Int) - 1)) := (Below.celz nb _ _ _ (by omega)).trans cc6
      have d7 : wi.cell? ⟨P3, 1, none⟩ = some (.slice pa k pc) := (Below.celz nb _ _ _ (by omega)).trans cc7
      have y0 : P0 < wi.heap.size := by have := Below.size nb; omega
      have y1 : P1 < wi.heap.size := by have := Below.size nb; omega
      have y2 : P2 < wi.heap.size := by have := Below.size nb; omega
      have y3 : P3 < wi.heap.size := by have := Below.size nb; omega
      have BB1 : Below A2 wc wi := BB.trans (nb.mono (by omega))
      have sA1 : A2 ≤ wi.heap.size := by have := Below.size nb; omega
      clear BB sA cc0 cc1 cc2 cc3 cc4 cc5 cc6 cc7 zz0 zz1 zz2 zz3 
      have cc0 := d0
      have cc1 := d1
      have cc2 := d2
      have cc3 := d3
      have cc4 := d4
      have cc5 := d5
      have cc6 := d6
      have cc7 := d7
      have zz0 := y0
      have zz1 := y1
      have zz2 := y2
      have zz3 := y3
      have BB := BB1
      have sA := sA1
      clear BB1 sA1 d0 d1 d2 d3 d4 d5 d6 d7 y0 y1 y2 y3 
      have cc8 := kk0
      have cc9 := kk1
      have zz4 : P4 < wi.heap.size := by omega
      have fzP4 : ∀ o, wi.frozen? ⟨P4, o, none⟩ = false := fun o => by rw [← hW, hP4]; simp [go_sem]
      rw [← hP4]
      have k3P4 := k3
      clear k3 hW nb hP4 kk0 kk1
      clear k3P4
      obtain ⟨i0, hi, hz0, hz1, hzz2⟩ := info_parts Tryd.infoPage
      have HRW : Hid (∀ W, Below wi.heap.size wi W → RowAt 2 encPage W (.slice pa k pc) ps) := fun W h => (HV3.out _ (BB.trans (h.mono sA))).2.2.1.1
      have t4 := cc4
      have t5 := cc5
      have t8 := cc8
      have t9 := cc9
      go_cut [7] (fun s7 wx => ∃ x7 y7 w7, s7 = .pointer (some ⟨P4, 0, none⟩) ∧ Below wi.heap.size wi w7 ∧ w7.ownsRow wi.heap.size 41 2 (.slice x7 (k + k) y7) (k + k) ((ps ++ ps).flatMap encPage) ∧ wx = w7.setCell ⟨P4, 1, none⟩ (.slice x7 (k + k) y7))
      case first =>
        go_region_law
          (first
            | (refine step_appRow encPage_len (by decide) encPage_one (by rfl) _ _ _ (by rfl) Tryd.underlying23 hi hz0 hz1 hzz2 rfl wi.heap.size _ 0 [] (.slice pa k pc) ps (by rfl) (by rfl) (own_emptyP (B := wi.heap.size) (heap_alloc_new wi _) (Nat.le_refl _)) (HRW.out _ ((Below.refl _ _).alloc (Nat.le_refl _) _).drew) (by unfold maxLen; rw [← HK.out]; omega) (by rw [← HK.out]; omega) (by simp) ?_; intro v6 w6 ho6 hg6 ha6; have B6 : Below wi.heap.size wi w6 := ((((Below.refl _ _).alloc (Nat.le_refl _) _).drew).grown hg6 (by simp) (fun k hk => by simp [Value.ownBlock] at hk; omega)); have hq6 : w6.ownsRow wi.heap.size 41 2 v6 k (ps.flatMap encPage) := (by have h := ho6; rw [Nat.zero_add, List.nil_append, ← HK.out] at h; exact h); clear ho6; obtain ⟨x6, y6, rfl⟩ := own_form hq6; have w64 : w6.cell? ⟨P2, 0, none⟩ = some (.int .i64 (zn : Int)) := ((Below.celz B6 _ _ _ zz2).trans cc4); have w65 : w6.cell? ⟨P2, 1, none⟩ = some (.slice pa k pc) := ((Below.celz B6 _ _ _ zz2).trans cc5); have w68 : w6.cell? ⟨P4, 0, none⟩ = some (.int .i64 (zn : Int)) := ((Below.celz B6 _ _ _ zz4).trans cc8); have w69 : w6.cell? ⟨P4, 1, none⟩ = some (.slice pa k pc) := ((Below.celz B6 _ _ _ zz4).trans cc9); have w6zP2 : P2 < w6.heap.size := Nat.lt_of_lt_of_le zz2 (Below.size B6); have w6zP4 : P4 < w6.heap.size := Nat.lt_of_lt_of_le zz4 (Below.size B6); have w6f : ∀ o, w6.frozen? ⟨P4, o, none⟩ = false := (fun o => (Below.froz B6 _ _ _ zz4).trans (fzP4 o)))
            | (refine step_appRow encPage_len (by decide) encPage_one (by rfl) _ _ _ (by rfl) Tryd.underlying23 hi hz0 hz1 hzz2 rfl wi.heap.size _ k _ (.slice pa k pc) ps (by rfl) (by rfl) hq6 (HRW.out _ B6) (by unfold maxLen; rw [← HK.out]; omega) (by rw [← HK.out]; omega) B6.size ?_; intro v7 w7 ho7 hg7 ha7; have B7 : Below wi.heap.size wi w7 := (B6.grown hg7 B6.size (fun k hk => (hq6.lt k hk).1)); have hq7 : w7.ownsRow wi.heap.size 41 2 v7 (k + k) ((ps ++ ps).flatMap encPage) := (by have h := ho7; rw [← HK.out] at h; rw [List.flatMap_append]; exact h); clear ho7; obtain ⟨x7, y7, rfl⟩ := own_form hq7; have w74 : w7.cell? ⟨P2, 0, none⟩ = some (.int .i64 (zn : Int)) := ((Below.celz B7 _ _ _ zz2).trans cc4); have w75 : w7.cell? ⟨P2, 1, none⟩ = some (.slice pa k pc) := ((Below.celz B7 _ _ _ zz2).trans cc5); have w78 : w7.cell? ⟨P4, 0, none⟩ = some (.int .i64 (zn : Int)) := ((Below.celz B7 _ _ _ zz4).trans cc8); have w79 : w7.cell? ⟨P4, 1, none⟩ = some (.slice pa k pc) := ((Below.celz B7 _ _ _ zz4).trans cc9); have w7zP2 : P2 < w7.heap.size := Nat.lt_of_lt_of_le zz2 (Below.size B7); have w7zP4 : P4 < w7.heap.size := Nat.lt_of_lt_of_le zz4 (Below.size B7); have w7f : ∀ o, w7.frozen? ⟨P4, o, none⟩ = false := (fun o => (Below.froz B7 _ _ _ zz4).trans (fzP4 o))))
        all_goals (
          go_wp2_with fail
          go_meet
          exact ⟨_, _, _, rfl, B7, hq7, rfl⟩)
      case rest =>
        obtain ⟨x7, y7, w7, rfl, B7, hq7, rfl⟩ := hcut
        have HB7 : Hid (Below wi.heap.size wi w7) := B7
        have zP4 : P4 < wi.heap.size := zz4
        have HQ7 : Hid (w7.ownsRow wi.heap.size 41 2 (.slice x7 (k + k) y7) (k + k) ((ps ++ ps).flatMap encPage)) := hq7
        clear hq7 t4 t5 t8 t9
        have d0 : w7.cell? ⟨P0, 0, none⟩ = some (.int .i64 z1) := (Below.celz B7 _ _ _ (by omega)).trans cc0
        have d1 : w7.cell? ⟨P0, 1, none⟩ = some (.slice ua m uc) := (Below.celz B7 _ _ _ (by omega)).trans cc1
        have d2 : w7.cell? ⟨P1, 0, none⟩ = some (.int .i64 z2) := (Below.celz B7 _ _ _ (by omega)).trans cc2
        have d3 : w7.cell? ⟨P1, 1, none⟩ = some (.slice va n vc) := (Below.celz B7 _ _ _ (by omega)).trans cc3
        have d4 : w7.cell? ⟨P2, 0, none⟩ = some (.int .i64 (zn : Int)) := (Below.celz B7 _ _ _ (by omega)).trans cc4
        have d5 : w7.cell? ⟨P2, 1, none⟩ = some (.slice pa k pc) := (Below.celz B7 _ _ _ (by omega)).trans cc5
        have d6 : w7.cell? ⟨P3, 0, none⟩ = some (.int .i64 ((k : Int) - 1)) := (Below.celz B7 _ _ _ (by omega)).trans cc6
        have d7 : w7.cell? ⟨P3, 1, none⟩ = some (.slice pa k pc) := (Below.celz B7 _ _ _ (by omega)).trans cc7
        have d8 : w7.cell? ⟨P4, 0, none⟩ = some (.int .i64 (zn : Int)) := (Below.celz B7 _ _ _ (by omega)).trans cc8
        have d9 : w7.cell? ⟨P4, 1, none⟩ = some (.slice pa k pc) := (Below.celz B7 _ _ _ (by omega)).trans cc9
        have y0 : P0 < w7.heap.size := by have := Below.size B7; omega
        have y1 : P1 < w7.heap.size := by have := Below.size B7; omega
        have y2 : P2 < w7.heap.size := by have := Below.size B7; omega
        have y3 : P3 < w7.heap.size := by have := Below.size B7; omega
        have y4 : P4 < w7.heap.size := by have := Below.size B7; omega
        have BB1 : Below A2 wc w7 := BB.trans (B7.mono (by omega))
        have sA1 : A2 ≤ w7.heap.size := by have := Below.size B7; omega
        clear BB sA cc0 cc1 cc2 cc3 cc4 cc5 cc6 cc7 cc8 cc9 zz0 zz1 zz2 zz3 zz4 
        have cc0 := d0
        have cc1 := d1
        have cc2 := d2
        have cc3 := d3
        have cc4 := d4
        have cc5 := d5
        have cc6 := d6
        have cc7 := d7
        have cc8 := d8
        have cc9 := d9
        have zz0 := y0
        have zz1 := y1
        have zz2 := y2
        have zz3 := y3
        have zz4 := y4
        have BB := BB1
        have sA := sA1
        clear BB1 sA1 d0 d1 d2 d3 d4 d5 d6 d7 d8 d9 y0 y1 y2 y3 y4 
        clear B7
        have HY0 : Hid (OwnPool (w7.setCell ⟨P4, 1, none⟩ (.slice x7 (k + k) y7)) wi.heap.size (.slice x7 (k + k) y7) (ps ++ ps)) := by
          show OwnPool _ _ _ _
          have h := own_set HQ7.out (p := ⟨P4, 1, none⟩) (fun e => by have := (HQ7.out.lt _ e).1; simp at this; omega) (.slice x7 (k + k) y7)
          unfold OwnPool
          rw [List.length_append, ← HK.out]
          exact h
        generalize hW : w7.setCell ⟨P4, 1, none⟩ (.slice x7 (k + k) y7) = wj at HY0 ⊢
        have d0 : wj.cell? ⟨P0, 0, none⟩ = some (.int .i64 z1) := by rw [← hW, World.cell?_setCell_other _ _ _ _ (by intro e; have := congrArg Addr.block e; simp at this; omega)]; exact cc0
        have d1 : wj.cell? ⟨P0, 1, none⟩ = some (.slice ua m uc) := by rw [← hW, World.cell?_setCell_other _ _ _ _ (by intro e; have := congrArg Addr.block e; simp at this; omega)]; exact cc1
        have d2 : wj.cell? ⟨P1, 0, none⟩ = some (.int .i64 z2) := by rw [← hW, World.cell?_setCell_other _ _ _ _ (by intro e; have := congrArg Addr.block e; simp at this; omega)]; exact cc2
        have d3 : wj.cell? ⟨P1, 1, none⟩ = some (.slice va n vc) := by rw [← hW, World.cell?_setCell_other _ _ _ _ (by intro e; have := congrArg Addr.block e; simp at this; omega)]; exact cc3
        have d4 : wj.cell? ⟨P2, 0, none⟩ = some (.int .i64 (zn : Int)) := by rw [← hW, World.cell?_setCell_other _ _ _ _ (by intro e; have := congrArg Addr.block e; simp at this; omega)]; exact cc4
        have d5 : wj.cell? ⟨P2, 1, none⟩ = some (.slice pa k pc) := by rw [← hW, World.cell?_setCell_other _ _ _ _ (by intro e; have := congrArg Addr.block e; simp at this; omega)]; exact cc5
        have d6 : wj.cell? ⟨P3, 0, none⟩ = some (.int .i64 ((k : Int) - 1)) := by rw [← hW, World.cell?_setCell_other _ _ _ _ (by intro e; have := congrArg Addr.block e; simp at this; omega)]; exact cc6
        have d7 : wj.cell? ⟨P3, 1, none⟩ = some (.slice pa k pc) := by rw [← hW, World.cell?_setCell_other _ _ _ _ (by intro e; have := congrArg Addr.block e; simp at this; omega)]; exact cc7
        have d8 : wj.cell? ⟨P4, 0, none⟩ = some (.int .i64 (zn : Int)) := by rw [← hW, World.cell?_setCell_other _ _ _ _ (by intro e; simp at e)]; exact cc8
        have d9 : wj.cell? ⟨P4, 1, none⟩ = some (.slice x7 (k + k) y7) := by rw [← hW]; exact World.cell?_setCell_same _ _ _ cc9
        have y0 : P0 < wj.heap.size := by rw [← hW]; simpa using zz0
        have y1 : P1 < wj.heap.size := by rw [← hW]; simpa using zz1
        have y2 : P2 < wj.heap.size := by rw [← hW]; simpa using zz2
        have y3 : P3 < wj.heap.size := by rw [← hW]; simpa using zz3
        have y4 : P4 < wj.heap.size := by rw [← hW]; simpa using zz4
        have BB1 : Below A2 wc wj := by rw [← hW]; exact Below.setCell (p := ⟨P4, 1, none⟩) BB (by omega) _
        have sA1 : A2 ≤ wj.heap.size := by rw [← hW]; simpa using sA
        clear hW BB sA cc0 cc1 cc2 cc3 cc4 cc5 cc6 cc7 cc8 cc9 zz0 zz1 zz2 zz3 zz4
        have cc0 := d0
        have cc1 := d1
        have cc2 := d2
        have cc3 := d3
        have cc4 := d4
        have cc5 := d5
        have cc6 := d6
        have cc7 := d7
        have cc8 := d8
        have cc9 := d9
        have zz0 := y0
        have zz1 := y1
        have zz2 := y2
        have zz3 := y3
        have zz4 := y4
        have BB := BB1
        have sA := sA1
        clear BB1 sA1 d0 d1 d2 d3 d4 d5 d6 d7 d8 d9 y0 y1 y2 y3 y4
        clear HQ7 fzP4 HRW HB7 zP4
        go_upto_region 14 with fail
        obtain ⟨P5, hP5⟩ : ∃ t, t = wj.heap.size := ⟨_, rfl⟩
        generalize hW : wj.alloc (.cells #[.int .i64 (zn : Int), .slice pa k pc] 25) = wk
        have nb : Below wj.heap.size wj wk := by rw [← hW]; exact (Below.refl _ _).alloc (Nat.le_refl _) _
        have k3 : wk.heap.size = P5 + 1 := by rw [← hW, hP5]; simp
        have kk0 : wk.cell? ⟨P5, 0, none⟩ = some (.int .i64 (zn : Int)) := by rw [← hW, hP5]; simp [go_sem]
        have kk1 : wk.cell? ⟨P5, 1, none⟩ = some (.slice pa k pc) := by rw [← hW, hP5]; simp [go_sem]
        have oP5A : A2 ≤ P5 := by rw [hP5]; exact sA
        have oP50 : P0 < P5 := by rw [hP5]; exact zz0
        have oP51 : P1 < P5 := by rw [hP5]; exact zz1
        have oP52 : P2 < P5 := by rw [hP5]; exact zz2
        have oP53 : P3 < P5 := by rw [hP5]; exact zz3
        have oP54 : P4 < P5 := by rw [hP5]; exact zz4
        have d0 : wk.cell? ⟨P0, 0, none⟩ = some (.int .i64 z1) := (Below.celz nb _ _ _ (by omega)).trans cc0
        have d1 : wk.cell? ⟨P0, 1, none⟩ = some (.slice ua m uc) := (Below.celz nb _ _ _ (by omega)).trans cc1
        have d2 : wk.cell? ⟨P1, 0, none⟩ = some (.int .i64 z2) := (Below.celz nb _ _ _ (by omega)).trans cc2
        have d3 : wk.cell? ⟨P1, 1, none⟩ = some (.slice va n vc) := (Below.celz nb _ _ _ (by omega)).trans cc3
        have d4 : wk.cell? ⟨P2, 0, none⟩ = some (.int .i64 (zn : Int)) := (Below.celz nb _ _ _ (by omega)).trans cc4
        have d5 : wk.cell? ⟨P2, 1, none⟩ = some (.slice pa k pc) := (Below.celz nb _ _ _ (by omega)).trans cc5
        have d6 : wk.cell? ⟨P3, 0, none⟩ = some (.int .i64 ((k : Int) - 1)) := (Below.celz nb _ _ _ (by omega)).trans cc6
        have d7 : wk.cell? ⟨P3, 1, none⟩ = some (.slice pa k pc) := (Below.celz nb _ _ _ (by omega)).trans cc7
        have d8 : wk.cell? ⟨P4, 0, none⟩ = some (.int .i64 (zn : Int)) := (Below.celz nb _ _ _ (by omega)).trans cc8
        have d9 : wk.cell? ⟨P4, 1, none⟩ = some (.slice x7 (k + k) y7) := (Below.celz nb _ _ _ (by omega)).trans cc9
        have y0 : P0 < wk.heap.size := by have := Below.size nb; omega
        have y1 : P1 < wk.heap.size := by have := Below.size nb; omega
        have y2 : P2 < wk.heap.size := by have := Below.size nb; omega
        have y3 : P3 < wk.heap.size := by have := Below.size nb; omega
        have y4 : P4 < wk.heap.size := by have := Below.size nb; omega
        have BB1 : Below A2 wc wk := BB.trans (nb.mono (by omega))
        have sA1 : A2 ≤ wk.heap.size := by have := Below.size nb; omega
        clear BB sA cc0 cc1 cc2 cc3 cc4 cc5 cc6 cc7 cc8 cc9 zz0 zz1 zz2 zz3 zz4 
        have cc0 := d0
        have cc1 := d1
        have cc2 := d2
        have cc3 := d3
        have cc4 := d4
        have cc5 := d5
        have cc6 := d6
        have cc7 := d7
        have cc8 := d8
        have cc9 := d9
        have zz0 := y0
        have zz1 := y1
        have zz2 := y2
        have zz3 := y3
        have zz4 := y4
        have BB := BB1
        have sA := sA1
        clear BB1 sA1 d0 d1 d2 d3 d4 d5 d6 d7 d8 d9 y0 y1 y2 y3 y4 
        have cc10 := kk0
        have cc11 := kk1
        have zz5 : P5 < wk.heap.size := by omega
        have fzP5 : ∀ o, wk.frozen? ⟨P5, o, none⟩ = false := fun o => by rw [← hW, hP5]; simp [go_sem]
        have HBK : Hid (Below wj.heap.size wj wk ∧ wj.heap.size ≤ P5) := by
              rw [hP5]
              exact ⟨by rw [← hW]; exact (Below.refl _ _).alloc (Nat.le_refl _) _, Nat.le_refl _⟩
        rw [← hP5]
        have k3P5 := k3
        clear k3 hW nb hP5 kk0 kk1
        clear k3P5
        go_upto_region 15 with fail
        have HYm : Hid (∀ W, Below (wk.setCell ⟨P5, 0, none⟩ (.int .i64 13)).heap.size (wk.setCell ⟨P5, 0, none⟩ (.int .i64 13)) W → RowAt 2 encPage W (.slice x7 (k + k) y7) (ps ++ ps)) := fun W h => by
          have h1 := HY0.out.keep HBK.out.1
          have h2 : OwnPool (wk.setCell ⟨P5, 0, none⟩ (.int .i64 13)) wi.heap.size (.slice x7 (k + k) y7) (ps ++ ps) := own_set h1 (fun e => by have := (HY0.out.lt _ e).2; have h3 := HBK.out.2; simp at this; omega) _
          exact (OwnPool.row h2).keep h
        clear HY0 HBK
        generalize hW : wk.setCell ⟨P5, 0, none⟩ (.int .i64 13) = wm at HYm ⊢
        have d0 : wm.cell? ⟨P0, 0, none⟩ = some (.int .i64 z1) := by rw [← hW, World.cell?_setCell_other _ _ _ _ (by intro e; have := congrArg Addr.block e; simp at this; omega)]; exact cc0
        have d1 : wm.cell? ⟨P0, 1, none⟩ = some (.slice ua m uc) := by rw [← hW, World.cell?_setCell_other _ _ _ _ (by intro e; have := congrArg Addr.block e; simp at this; omega)]; exact cc1
        have d2 : wm.cell? ⟨P1, 0, none⟩ = some (.int .i64 z2) := by rw [← hW, World.cell?_setCell_other _ _ _ _ (by intro e; have := congrArg Addr.block e; simp at this; omega)]; exact cc2
        have d3 : wm.cell? ⟨P1, 1, none⟩ = some (.slice va n vc) := by rw [← hW, World.cell?_setCell_other _ _ _ _ (by intro e; have := congrArg Addr.block e; simp at this; omega)]; exact cc3
        have d4 : wm.cell? ⟨P2, 0, none⟩ = some (.int .i64 (zn : Int)) := by rw [← hW, World.cell?_setCell_other _ _ _ _ (by intro e; have := congrArg Addr.block e; simp at this; omega)]; exact cc4
        have d5 : wm.cell? ⟨P2, 1, none⟩ = some (.slice pa k pc) := by rw [← hW, World.cell?_setCell_other _ _ _ _ (by intro e; have := congrArg Addr.block e; simp at this; omega)]; exact cc5
        have d6 : wm.cell? ⟨P3, 0, none⟩ = some (.int .i64 ((k : Int) - 1)) := by rw [← hW, World.cell?_setCell_other _ _ _ _ (by intro e; have := congrArg Addr.block e; simp at this; omega)]; exact cc6
        have d7 : wm.cell? ⟨P3, 1, none⟩ = some (.slice pa k pc) := by rw [← hW, World.cell?_setCell_other _ _ _ _ (by intro e; have := congrArg Addr.block e; simp at this; omega)]; exact cc7
        have d8 : wm.cell? ⟨P4, 0, none⟩ = some (.int .i64 (zn : Int)) := by rw [← hW, World.cell?_setCell_other _ _ _ _ (by intro e; have := congrArg Addr.block e; simp at this; omega)]; exact cc8
        have d9 : wm.cell? ⟨P4, 1, none⟩ = some (.slice x7 (k + k) y7) := by rw [← hW, World.cell?_setCell_other _ _ _ _ (by intro e; have := congrArg Addr.block e; simp at this; omega)]; exact cc9
        have d10 : wm.cell? ⟨P5, 0, none⟩ = some (.int .i64 13) := by rw [← hW]; exact World.cell?_setCell_same _ _ _ cc10
        have d11 : wm.cell? ⟨P5, 1, none⟩ = some (.slice pa k pc) := by rw [← hW, World.cell?_setCell_other _ _ _ _ (by intro e; simp at e)]; exact cc11
        have y0 : P0 < wm.heap.size := by rw [← hW]; simpa using zz0
        have y1 : P1 < wm.heap.size := by rw [← hW]; simpa using zz1
        have y2 : P2 < wm.heap.size := by rw [← hW]; simpa using zz2
        have y3 : P3 < wm.heap.size := by rw [← hW]; simpa using zz3
        have y4 : P4 < wm.heap.size := by rw [← hW]; simpa using zz4
        have y5 : P5 < wm.heap.size := by rw [← hW]; simpa using zz5
        have BB1 : Below A2 wc wm := by rw [← hW]; exact Below.setCell (p := ⟨P5, 0, none⟩) BB (by omega) _
        have sA1 : A2 ≤ wm.heap.size := by rw [← hW]; simpa using sA
        clear hW BB sA cc0 cc1 cc2 cc3 cc4 cc5 cc6 cc7 cc8 cc9 cc10 cc11 zz0 zz1 zz2 zz3 zz4 zz5
        have cc0 := d0
        have cc1 := d1
        have cc2 := d2
        have cc3 := d3
        have cc4 := d4
        have cc5 := d5
        have cc6 := d6
        have cc7 := d7
        have cc8 := d8
        have cc9 := d9
        have cc10 := d10
        have cc11 := d11
        have zz0 := y0
        have zz1 := y1
        have zz2 := y2
        have zz3 := y3
        have zz4 := y4
        have zz5 := y5
        have BB := BB1
        have sA := sA1
        clear BB1 sA1 d0 d1 d2 d3 d4 d5 d6 d7 d8 d9 d10 d11 y0 y1 y2 y3 y4 y5
        clear fzP5
        have HYr : Hid (RowAt 2 encPage wm (.slice x7 (k + k) y7) (ps ++ ps)) := HYm.out _ (Below.refl _ _)
        clear HYm
        by_cases hk0 : k = 0
        · have hkb : ((k : Int) == 0) = true := by simp [hk0]
          clear hk0
          go_wp2_with fail
          have CP := impl_PoolOk ((k : Int) - 1) _ ps _ (HV3.out _ BB).2.2.1.1 HL.out.2.2 (HV3.out _ BB).2.2.2.1
          rw [show poolB ((k : Int) - 1) ps = false from poolB_false.2 (fun h => by have := h.2.2.1; rw [← HK.out] at this; omega)] at CP
          refine (CP).mono ?_
          rintro e wn ⟨rfl, bwn⟩
          have d0 : wn.cell? ⟨P0, 0, none⟩ = some (.int .i64 z1) := (Below.celz bwn _ _ _ (by omega)).trans cc0
          have d1 : wn.cell? ⟨P0, 1, none⟩ = some (.slice ua m uc) := (Below.celz bwn _ _ _ (by omega)).trans cc1
          have d2 : wn.cell? ⟨P1, 0, none⟩ = some (.int .i64 z2) := (Below.celz bwn _ _ _ (by omega)).trans cc2
          have d3 : wn.cell? ⟨P1, 1, none⟩ = some (.slice va n vc) := (Below.celz bwn _ _ _ (by omega)).trans cc3
          have d4 : wn.cell? ⟨P2, 0, none⟩ = some (.int .i64 (zn : Int)) := (Below.celz bwn _ _ _ (by omega)).trans cc4
          have d5 : wn.cell? ⟨P2, 1, none⟩ = some (.slice pa k pc) := (Below.celz bwn _ _ _ (by omega)).trans cc5
          have d6 : wn.cell? ⟨P3, 0, none⟩ = some (.int .i64 ((k : Int) - 1)) := (Below.celz bwn _ _ _ (by omega)).trans cc6
          have d7 : wn.cell? ⟨P3, 1, none⟩ = some (.slice pa k pc) := (Below.celz bwn _ _ _ (by omega)).trans cc7
          have d8 : wn.cell? ⟨P4, 0, none⟩ = some (.int .i64 (zn : Int)) := (Below.celz bwn _ _ _ (by omega)).trans cc8
          have d9 : wn.cell? ⟨P4, 1, none⟩ = some (.slice x7 (k + k) y7) := (Below.celz bwn _ _ _ (by omega)).trans cc9
          have d10 : wn.cell? ⟨P5, 0, none⟩ = some (.int .i64 13) := (Below.celz bwn _ _ _ (by omega)).trans cc10
          have d11 : wn.cell? ⟨P5, 1, none⟩ = some (.slice pa k pc) := (Below.celz bwn _ _ _ (by omega)).trans cc11
          have y0 : P0 < wn.heap.size := by have := Below.size bwn; omega
          have y1 : P1 < wn.heap.size := by have := Below.size bwn; omega
          have y2 : P2 < wn.heap.size := by have := Below.size bwn; omega
          have y3 : P3 < wn.heap.size := by have := Below.size bwn; omega
          have y4 : P4 < wn.heap.size := by have := Below.size bwn; omega
          have y5 : P5 < wn.heap.size := by have := Below.size bwn; omega
          have BB1 : Below A2 wc wn := BB.trans (bwn.mono (by omega))
          have sA1 : A2 ≤ wn.heap.size := by have := Below.size bwn; omega
          have q0 : Hid (RowAt 2 encPage wn (.slice x7 (k + k) y7) (ps ++ ps)) := HYr.out.keep bwn
          clear BB sA cc0 cc1 cc2 cc3 cc4 cc5 cc6 cc7 cc8 cc9 cc10 cc11 zz0 zz1 zz2 zz3 zz4 zz5 HYr
          have cc0 := d0
          have cc1 := d1
          have cc2 := d2
          have cc3 := d3
          have cc4 := d4
          have cc5 := d5
          have cc6 := d6
          have cc7 := d7
          have cc8 := d8
          have cc9 := d9
          have cc10 := d10
          have cc11 := d11
          have zz0 := y0
          have zz1 := y1
          have zz2 := y2
          have zz3 := y3
          have zz4 := y4
          have zz5 := y5
          have HYr := q0
          have BB := BB1
          have sA := sA1
          clear BB1 sA1 d0 d1 d2 d3 d4 d5 d6 d7 d8 d9 d10 d11 y0 y1 y2 y3 y4 y5 q0
          clear bwn
          clear CP
          go_wp2_with fail
          have CP := impl_PoolOk 13 _ ps _ (HV3.out _ BB).2.2.1.1 HL.out.2.2 (HV3.out _ BB).2.2.2.1
          rw [show poolB 13 ps = false from poolB_false.2 (fun h => by have := h.2.1; omega)] at CP
          refine (CP).mono ?_
          rintro e wp1 ⟨rfl, bwp1⟩
          have d0 : wp1.cell? ⟨P0, 0, none⟩ = some (.int .i64 z1) := (Below.celz bwp1 _ _ _ (by omega)).trans cc0
          have d1 : wp1.cell? ⟨P0, 1, none⟩ = some (.slice ua m uc) := (Below.celz bwp1 _ _ _ (by omega)).trans cc1
          have d2 : wp1.cell? ⟨P1, 0, none⟩ = some (.int .i64 z2) := (Below.celz bwp1 _ _ _ (by omega)).trans cc2
          have d3 : wp1.cell? ⟨P1, 1, none⟩ = some (.slice va n vc) := (Below.celz bwp1 _ _ _ (by omega)).trans cc3
          have d4 : wp1.cell? ⟨P2, 0, none⟩ = some (.int .i64 (zn : Int)) := (Below.celz bwp1 _ _ _ (by omega)).trans cc4
          have d5 : wp1.cell? ⟨P2, 1, none⟩ = some (.slice pa k pc) := (Below.celz bwp1 _ _ _ (by omega)).trans cc5
          have d6 : wp1.cell? ⟨P3, 0, none⟩ = some (.int .i64 ((k : Int) - 1)) := (Below.celz bwp1 _ _ _ (by omega)).trans cc6
          have d7 : wp1.cell? ⟨P3, 1, none⟩ = some (.slice pa k pc) := (Below.celz bwp1 _ _ _ (by omega)).trans cc7
          have d8 : wp1.cell? ⟨P4, 0, none⟩ = some (.int .i64 (zn : Int)) := (Below.celz bwp1 _ _ _ (by omega)).trans cc8
          have d9 : wp1.cell? ⟨P4, 1, none⟩ = some (.slice x7 (k + k) y7) := (Below.celz bwp1 _ _ _ (by omega)).trans cc9
          have d10 : wp1.cell? ⟨P5, 0, none⟩ = some (.int .i64 13) := (Below.celz bwp1 _ _ _ (by omega)).trans cc10
          have d11 : wp1.cell? ⟨P5, 1, none⟩ = some (.slice pa k pc) := (Below.celz bwp1 _ _ _ (by omega)).trans cc11
          have y0 : P0 < wp1.heap.size := by have := Below.size bwp1; omega
          have y1 : P1 < wp1.heap.size := by have := Below.size bwp1; omega
          have y2 : P2 < wp1.heap.size := by have := Below.size bwp1; omega
          have y3 : P3 < wp1.heap.size := by have := Below.size bwp1; omega
          have y4 : P4 < wp1.heap.size := by have := Below.size bwp1; omega
          have y5 : P5 < wp1.heap.size := by have := Below.size bwp1; omega
          have BB1 : Below A2 wc wp1 := BB.trans (bwp1.mono (by omega))
          have sA1 : A2 ≤ wp1.heap.size := by have := Below.size bwp1; omega
          have q0 : Hid (RowAt 2 encPage wp1 (.slice x7 (k + k) y7) (ps ++ ps)) := HYr.out.keep bwp1
          clear BB sA cc0 cc1 cc2 cc3 cc4 cc5 cc6 cc7 cc8 cc9 cc10 cc11 zz0 zz1 zz2 zz3 zz4 zz5 HYr
          have cc0 := d0
          have cc1 := d1
          have cc2 := d2
          have cc3 := d3
          have cc4 := d4
          have cc5 := d5
          have cc6 := d6
          have cc7 := d7
          have cc8 := d8
          have cc9 := d9
          have cc10 := d10
          have cc11 := d11
          have zz0 := y0
          have zz1 := y1
          have zz2 := y2
          have zz3 := y3
          have zz4 := y4
          have zz5 := y5
          have HYr := q0
          have BB := BB1
          have sA := sA1
          clear BB1 sA1 d0 d1 d2 d3 d4 d5 d6 d7 d8 d9 d10 d11 y0 y1 y2 y3 y4 y5 q0
          clear bwp1
          clear CP
          go_wp2_with fail
          have CP := impl_PoolSame zn 13 _ _ ps ps _ (HV3.out _ BB).2.2.1.1 (HV3.out _ BB).2.2.1.1 HL.out.2.2 HL.out.2.2
          rw [decide_eq_false (p := (zn : Int) = 13) (by omega), Bool.false_and] at CP
          refine (CP).mono ?_
          rintro e wq1 ⟨rfl, bwq1⟩
          have d0 : wq1.cell? ⟨P0, 0, none⟩ = some (.int .i64 z1) := (Below.celz bwq1 _ _ _ (by omega)).trans cc0
          have d1 : wq1.cell? ⟨P0, 1, none⟩ = some (.slice ua m uc) := (Below.celz bwq1 _ _ _ (by omega)).trans cc1
          have d2 : wq1.cell? ⟨P1, 0, none⟩ = some (.int .i64 z2) := (Below.celz bwq1 _ _ _ (by omega)).trans cc2
          have d3 : wq1.cell? ⟨P1, 1, none⟩ = some (.slice va n vc) := (Below.celz bwq1 _ _ _ (by omega)).trans cc3
          have d4 : wq1.cell? ⟨P2, 0, none⟩ = some (.int .i64 (zn : Int)) := (Below.celz bwq1 _ _ _ (by omega)).trans cc4
          have d5 : wq1.cell? ⟨P2, 1, none⟩ = some (.slice pa k pc) := (Below.celz bwq1 _ _ _ (by omega)).trans cc5
          have d6 : wq1.cell? ⟨P3, 0, none⟩ = some (.int .i64 ((k : Int) - 1)) := (Below.celz bwq1 _ _ _ (by omega)).trans cc6
          have d7 : wq1.cell? ⟨P3, 1, none⟩ = some (.slice pa k pc) := (Below.celz bwq1 _ _ _ (by omega)).trans cc7
          have d8 : wq1.cell? ⟨P4, 0, none⟩ = some (.int .i64 (zn : Int)) := (Below.celz bwq1 _ _ _ (by omega)).trans cc8
          have d9 : wq1.cell? ⟨P4, 1, none⟩ = some (.slice x7 (k + k) y7) := (Below.celz bwq1 _ _ _ (by omega)).trans cc9
          have d10 : wq1.cell? ⟨P5, 0, none⟩ = some (.int .i64 13) := (Below.celz bwq1 _ _ _ (by omega)).trans cc10
          have d11 : wq1.cell? ⟨P5, 1, none⟩ = some (.slice pa k pc) := (Below.celz bwq1 _ _ _ (by omega)).trans cc11
          have y0 : P0 < wq1.heap.size := by have := Below.size bwq1; omega
          have y1 : P1 < wq1.heap.size := by have := Below.size bwq1; omega
          have y2 : P2 < wq1.heap.size := by have := Below.size bwq1; omega
          have y3 : P3 < wq1.heap.size := by have := Below.size bwq1; omega
          have y4 : P4 < wq1.heap.size := by have := Below.size bwq1; omega
          have y5 : P5 < wq1.heap.size := by have := Below.size bwq1; omega
          have BB1 : Below A2 wc wq1 := BB.trans (bwq1.mono (by omega))
          have sA1 : A2 ≤ wq1.heap.size := by have := Below.size bwq1; omega
          have q0 : Hid (RowAt 2 encPage wq1 (.slice x7 (k + k) y7) (ps ++ ps)) := HYr.out.keep bwq1
          clear BB sA cc0 cc1 cc2 cc3 cc4 cc5 cc6 cc7 cc8 cc9 cc10 cc11 zz0 zz1 zz2 zz3 zz4 zz5 HYr
          have cc0 := d0
          have cc1 := d1
          have cc2 := d2
          have cc3 := d3
          have cc4 := d4
          have cc5 := d5
          have cc6 := d6
          have cc7 := d7
          have cc8 := d8
          have cc9 := d9
          have cc10 := d10
          have cc11 := d11
          have zz0 := y0
          have zz1 := y1
          have zz2 := y2
          have zz3 := y3
          have zz4 := y4
          have zz5 := y5
          have HYr := q0
          have BB := BB1
          have sA := sA1
          clear BB1 sA1 d0 d1 d2 d3 d4 d5 d6 d7 d8 d9 d10 d11 y0 y1 y2 y3 y4 y5 q0
          clear bwq1
          clear CP
          go_wp2_with fail
          go_ret
          exact ⟨rfl, (HV3.out _ BB).2.2.2.2⟩
        · have hkb : ((k : Int) == 0) = false := by simp [hk0]
          have HDUP : Hid (poolB (zn : Int) (ps ++ ps) = false) := poolB_false.2 (fun h => by
            have h1 := h.2.2.2.2
            have h2 : 0 < ps.length := by rw [← HK.out]; omega
            obtain ⟨x, hx⟩ : ∃ x, x ∈ ps := ⟨_, List.getElem_mem h2⟩
            exact (List.nodup_append.1 h1).2.2 x hx x hx rfl)
          clear hk0
          go_wp2_with fail
          have CP := impl_PoolOk ((k : Int) - 1) _ ps _ (HV3.out _ BB).2.2.1.1 HL.out.2.2 (HV3.out _ BB).2.2.2.1
          rw [show poolB ((k : Int) - 1) ps = false from poolB_false.2 (fun h => by have := h.2.2.1; rw [← HK.out] at this; omega)] at CP
          refine (CP).mono ?_
          rintro e wn ⟨rfl, bwn⟩
          have d0 : wn.cell? ⟨P0, 0, none⟩ = some (.int .i64 z1) := (Below.celz bwn _ _ _ (by omega)).trans cc0
          have d1 : wn.cell? ⟨P0, 1, none⟩ = some (.slice ua m uc) := (Below.celz bwn _ _ _ (by omega)).trans cc1
          have d2 : wn.cell? ⟨P1, 0, none⟩ = some (.int .i64 z2) := (Below.celz bwn _ _ _ (by omega)).trans cc2
          have d3 : wn.cell? ⟨P1, 1, none⟩ = some (.slice va n vc) := (Below.celz bwn _ _ _ (by omega)).trans cc3
          have d4 : wn.cell? ⟨P2, 0, none⟩ = some (.int .i64 (zn : Int)) := (Below.celz bwn _ _ _ (by omega)).trans cc4
          have d5 : wn.cell? ⟨P2, 1, none⟩ = some (.slice pa k pc) := (Below.celz bwn _ _ _ (by omega)).trans cc5
          have d6 : wn.cell? ⟨P3, 0, none⟩ = some (.int .i64 ((k : Int) - 1)) := (Below.celz bwn _ _ _ (by omega)).trans cc6
          have d7 : wn.cell? ⟨P3, 1, none⟩ = some (.slice pa k pc) := (Below.celz bwn _ _ _ (by omega)).trans cc7
          have d8 : wn.cell? ⟨P4, 0, none⟩ = some (.int .i64 (zn : Int)) := (Below.celz bwn _ _ _ (by omega)).trans cc8
          have d9 : wn.cell? ⟨P4, 1, none⟩ = some (.slice x7 (k + k) y7) := (Below.celz bwn _ _ _ (by omega)).trans cc9
          have d10 : wn.cell? ⟨P5, 0, none⟩ = some (.int .i64 13) := (Below.celz bwn _ _ _ (by omega)).trans cc10
          have d11 : wn.cell? ⟨P5, 1, none⟩ = some (.slice pa k pc) := (Below.celz bwn _ _ _ (by omega)).trans cc11
          have y0 : P0 < wn.heap.size := by have := Below.size bwn; omega
          have y1 : P1 < wn.heap.size := by have := Below.size bwn; omega
          have y2 : P2 < wn.heap.size := by have := Below.size bwn; omega
          have y3 : P3 < wn.heap.size := by have := Below.size bwn; omega
          have y4 : P4 < wn.heap.size := by have := Below.size bwn; omega
          have y5 : P5 < wn.heap.size := by have := Below.size bwn; omega
          have BB1 : Below A2 wc wn := BB.trans (bwn.mono (by omega))
          have sA1 : A2 ≤ wn.heap.size := by have := Below.size bwn; omega
          have q0 : Hid (RowAt 2 encPage wn (.slice x7 (k + k) y7) (ps ++ ps)) := HYr.out.keep bwn
          clear BB sA cc0 cc1 cc2 cc3 cc4 cc5 cc6 cc7 cc8 cc9 cc10 cc11 zz0 zz1 zz2 zz3 zz4 zz5 HYr
          have cc0 := d0
          have cc1 := d1
          have cc2 := d2
          have cc3 := d3
          have cc4 := d4
          have cc5 := d5
          have cc6 := d6
          have cc7 := d7
          have cc8 := d8
          have cc9 := d9
          have cc10 := d10
          have cc11 := d11
          have zz0 := y0
          have zz1 := y1
          have zz2 := y2
          have zz3 := y3
          have zz4 := y4
          have zz5 := y5
          have HYr := q0
          have BB := BB1
          have sA := sA1
          clear BB1 sA1 d0 d1 d2 d3 d4 d5 d6 d7 d8 d9 d10 d11 y0 y1 y2 y3 y4 y5 q0
          clear bwn
          clear CP
          go_wp2_with fail
          have CP := impl_PoolOk zn _ (ps ++ ps) _ HYr.out (by rw [List.length_append, ← HK.out]; omega) (HV3.out _ BB).2.2.2.1
          rw [HDUP.out] at CP
          refine (CP).mono ?_
          rintro e wo ⟨rfl, bwo⟩
          have d0 : wo.cell? ⟨P0, 0, none⟩ = some (.int .i64 z1) := (Below.celz bwo _ _ _ (by omega)).trans cc0
          have d1 : wo.cell? ⟨P0, 1, none⟩ = some (.slice ua m uc) := (Below.celz bwo _ _ _ (by omega)).trans cc1
          have d2 : wo.cell? ⟨P1, 0, none⟩ = some (.int .i64 z2) := (Below.celz bwo _ _ _ (by omega)).trans cc2
          have d3 : wo.cell? ⟨P1, 1, none⟩ = some (.slice va n vc) := (Below.celz bwo _ _ _ (by omega)).trans cc3
          have d4 : wo.cell? ⟨P2, 0, none⟩ = some (.int .i64 (zn : Int)) := (Below.celz bwo _ _ _ (by omega)).trans cc4
          have d5 : wo.cell? ⟨P2, 1, none⟩ = some (.slice pa k pc) := (Below.celz bwo _ _ _ (by omega)).trans cc5
          have d6 : wo.cell? ⟨P3, 0, none⟩ = some (.int .i64 ((k : Int) - 1)) := (Below.celz bwo _ _ _ (by omega)).trans cc6
          have d7 : wo.cell? ⟨P3, 1, none⟩ = some (.slice pa k pc) := (Below.celz bwo _ _ _ (by omega)).trans cc7
          have d8 : wo.cell? ⟨P4, 0, none⟩ = some (.int .i64 (zn : Int)) := (Below.celz bwo _ _ _ (by omega)).trans cc8
          have d9 : wo.cell? ⟨P4, 1, none⟩ = some (.slice x7 (k + k) y7) := (Below.celz bwo _ _ _ (by omega)).trans cc9
          have d10 : wo.cell? ⟨P5, 0, none⟩ = some (.int .i64 13) := (Below.celz bwo _ _ _ (by omega)).trans cc10
          have d11 : wo.cell? ⟨P5, 1, none⟩ = some (.slice pa k pc) := (Below.celz bwo _ _ _ (by omega)).trans cc11
          have y0 : P0 < wo.heap.size := by have := Below.size bwo; omega
          have y1 : P1 < wo.heap.size := by have := Below.size bwo; omega
          have y2 : P2 < wo.heap.size := by have := Below.size bwo; omega
          have y3 : P3 < wo.heap.size := by have := Below.size bwo; omega
          have y4 : P4 < wo.heap.size := by have := Below.size bwo; omega
          have y5 : P5 < wo.heap.size := by have := Below.size bwo; omega
          have BB1 : Below A2 wc wo := BB.trans (bwo.mono (by omega))
          have sA1 : A2 ≤ wo.heap.size := by have := Below.size bwo; omega
          have q0 : Hid (RowAt 2 encPage wo (.slice x7 (k + k) y7) (ps ++ ps)) := HYr.out.keep bwo
          clear BB sA cc0 cc1 cc2 cc3 cc4 cc5 cc6 cc7 cc8 cc9 cc10 cc11 zz0 zz1 zz2 zz3 zz4 zz5 HYr
          have cc0 := d0
          have cc1 := d1
          have cc2 := d2
          have cc3 := d3
          have cc4 := d4
          have cc5 := d5
          have cc6 := d6
          have cc7 := d7
          have cc8 := d8
          have cc9 := d9
          have cc10 := d10
          have cc11 := d11
          have zz0 := y0
          have zz1 := y1
          have zz2 := y2
          have zz3 := y3
          have zz4 := y4
          have zz5 := y5
          have HYr := q0
          have BB := BB1
          have sA := sA1
          clear BB1 sA1 d0 d1 d2 d3 d4 d5 d6 d7 d8 d9 d10 d11 y0 y1 y2 y3 y4 y5 q0
          clear bwo
          clear CP
          go_wp2_with fail
          have CP := impl_PoolOk 13 _ ps _ (HV3.out _ BB).2.2.1.1 HL.out.2.2 (HV3.out _ BB).2.2.2.1
          rw [show poolB 13 ps = false from poolB_false.2 (fun h => by have := h.2.1; omega)] at CP
          refine (CP).mono ?_
          rintro e wp1 ⟨rfl, bwp1⟩
          have d0 : wp1.cell? ⟨P0, 0, none⟩ = some (.int .i64 z1) := (Below.celz bwp1 _ _ _ (by omega)).trans cc0
          have d1 : wp1.cell? ⟨P0, 1, none⟩ = some (.slice ua m uc) := (Below.celz bwp1 _ _ _ (by omega)).trans cc1
          have d2 : wp1.cell? ⟨P1, 0, none⟩ = some (.int .i64 z2) := (Below.celz bwp1 _ _ _ (by omega)).trans cc2
          have d3 : wp1.cell? ⟨P1, 1, none⟩ = some (.slice va n vc) := (Below.celz bwp1 _ _ _ (by omega)).trans cc3
          have d4 : wp1.cell? ⟨P2, 0, none⟩ = some (.int .i64 (zn : Int)) := (Below.celz bwp1 _ _ _ (by omega)).trans cc4
          have d5 : wp1.cell? ⟨P2, 1, none⟩ = some (.slice pa k pc) := (Below.celz bwp1 _ _ _ (by omega)).trans cc5
          have d6 : wp1.cell? ⟨P3, 0, none⟩ = some (.int .i64 ((k : Int) - 1)) := (Below.celz bwp1 _ _ _ (by omega)).trans cc6
          have d7 : wp1.cell? ⟨P3, 1, none⟩ = some (.slice pa k pc) := (Below.celz bwp1 _ _ _ (by omega)).trans cc7
          have d8 : wp1.cell? ⟨P4, 0, none⟩ = some (.int .i64 (zn : Int)) := (Below.celz bwp1 _ _ _ (by omega)).trans cc8
          have d9 : wp1.cell? ⟨P4, 1, none⟩ = some (.slice x7 (k + k) y7) := (Below.celz bwp1 _ _ _ (by omega)).trans cc9
          have d10 : wp1.cell? ⟨P5, 0, none⟩ = some (.int .i64 13) := (Below.celz bwp1 _ _ _ (by omega)).trans cc10
          have d11 : wp1.cell? ⟨P5, 1, none⟩ = some (.slice pa k pc) := (Below.celz bwp1 _ _ _ (by omega)).trans cc11
          have y0 : P0 < wp1.heap.size := by have := Below.size bwp1; omega
          have y1 : P1 < wp1.heap.size := by have := Below.size bwp1; omega
          have y2 : P2 < wp1.heap.size := by have := Below.size bwp1; omega
          have y3 : P3 < wp1.heap.size := by have := Below.size bwp1; omega
          have y4 : P4 < wp1.heap.size := by have := Below.size bwp1; omega
          have y5 : P5 < wp1.heap.size := by have := Below.size bwp1; omega
          have BB1 : Below A2 wc wp1 := BB.trans (bwp1.mono (by omega))
          have sA1 : A2 ≤ wp1.heap.size := by have := Below.size bwp1; omega
          have q0 : Hid (RowAt 2 encPage wp1 (.slice x7 (k + k) y7) (ps ++ ps)) := HYr.out.keep bwp1
          clear BB sA cc0 cc1 cc2 cc3 cc4 cc5 cc6 cc7 cc8 cc9 cc10 cc11 zz0 zz1 zz2 zz3 zz4 zz5 HYr
          have cc0 := d0
          have cc1 := d1
          have cc2 := d2
          have cc3 := d3
          have cc4 := d4
          have cc5 := d5
          have cc6 := d6
          have cc7 := d7
          have cc8 := d8
          have cc9 := d9
          have cc10 := d10
          have cc11 := d11
          have zz0 := y0
          have zz1 := y1
          have zz2 := y2
          have zz3 := y3
          have zz4 := y4
          have zz5 := y5
          have HYr := q0
          have BB := BB1
          have sA := sA1
          clear BB1 sA1 d0 d1 d2 d3 d4 d5 d6 d7 d8 d9 d10 d11 y0 y1 y2 y3 y4 y5 q0
          clear bwp1
          clear CP
          go_wp2_with fail
          have CP := impl_PoolSame zn 13 _ _ ps ps _ (HV3.out _ BB).2.2.1.1 (HV3.out _ BB).2.2.1.1 HL.out.2.2 HL.out.2.2
          rw [decide_eq_false (p := (zn : Int) = 13) (by omega), Bool.false_and] at CP
          refine (CP).mono ?_
          rintro e wq1 ⟨rfl, bwq1⟩
          have d0 : wq1.cell? ⟨P0, 0, none⟩ = some (.int .i64 z1) := (Below.celz bwq1 _ _ _ (by omega)).trans cc0
          have d1 : wq1.cell? ⟨P0, 1, none⟩ = some (.slice ua m uc) := (Below.celz bwq1 _ _ _ (by omega)).trans cc1
          have d2 : wq1.cell? ⟨P1, 0, none⟩ = some (.int .i64 z2) := (Below.celz bwq1 _ _ _ (by omega)).trans cc2
          have d3 : wq1.cell? ⟨P1, 1, none⟩ = some (.slice va n vc) := (Below.celz bwq1 _ _ _ (by omega)).trans cc3
          have d4 : wq1.cell? ⟨P2, 0, none⟩ = some (.int .i64 (zn : Int)) := (Below.celz bwq1 _ _ _ (by omega)).trans cc4
          have d5 : wq1.cell? ⟨P2, 1, none⟩ = some (.slice pa k pc) := (Below.celz bwq1 _ _ _ (by omega)).trans cc5
          have d6 : wq1.cell? ⟨P3, 0, none⟩ = some (.int .i64 ((k : Int) - 1)) := (Below.celz bwq1 _ _ _ (by omega)).trans cc6
          have d7 : wq1.cell? ⟨P3, 1, none⟩ = some (.slice pa k pc) := (Below.celz bwq1 _ _ _ (by omega)).trans cc7
          have d8 : wq1.cell? ⟨P4, 0, none⟩ = some (.int .i64 (zn : Int)) := (Below.celz bwq1 _ _ _ (by omega)).trans cc8
          have d9 : wq1.cell? ⟨P4, 1, none⟩ = some (.slice x7 (k + k) y7) := (Below.celz bwq1 _ _ _ (by omega)).trans cc9
          have d10 : wq1.cell? ⟨P5, 0, none⟩ = some (.int .i64 13) := (Below.celz bwq1 _ _ _ (by omega)).trans cc10
          have d11 : wq1.cell? ⟨P5, 1, none⟩ = some (.slice pa k pc) := (Below.celz bwq1 _ _ _ (by omega)).trans cc11
          have y0 : P0 < wq1.heap.size := by have := Below.size bwq1; omega
          have y1 : P1 < wq1.heap.size := by have := Below.size bwq1; omega
          have y2 : P2 < wq1.heap.size := by have := Below.size bwq1; omega
          have y3 : P3 < wq1.heap.size := by have := Below.size bwq1; omega
          have y4 : P4 < wq1.heap.size := by have := Below.size bwq1; omega
          have y5 : P5 < wq1.heap.size := by have := Below.size bwq1; omega
          have BB1 : Below A2 wc wq1 := BB.trans (bwq1.mono (by omega))
          have sA1 : A2 ≤ wq1.heap.size := by have := Below.size bwq1; omega
          have q0 : Hid (RowAt 2 encPage wq1 (.slice x7 (k + k) y7) (ps ++ ps)) := HYr.out.keep bwq1
          clear BB sA cc0 cc1 cc2 cc3 cc4 cc5 cc6 cc7 cc8 cc9 cc10 cc11 zz0 zz1 zz2 zz3 zz4 zz5 HYr
          have cc0 := d0
          have cc1 := d1
          have cc2 := d2
          have cc3 := d3
          have cc4 := d4
          have cc5 := d5
          have cc6 := d6
          have cc7 := d7
          have cc8 := d8
          have cc9 := d9
          have cc10 := d10
          have cc11 := d11
          have zz0 := y0
          have zz1 := y1
          have zz2 := y2
          have zz3 := y3
          have zz4 := y4
          have zz5 := y5
          have HYr := q0
          have BB := BB1
          have sA := sA1
          clear BB1 sA1 d0 d1 d2 d3 d4 d5 d6 d7 d8 d9 d10 d11 y0 y1 y2 y3 y4 y5 q0
          clear bwq1
          clear CP
          go_wp2_with fail
          go_ret
          exact ⟨rfl, (HV3.out _ BB).2.2.2.2⟩

theorem door_met (os : Os) (args : Array Value) : laidMetH Tryd.prog Rows.fnPoolBentRow.laid ((World.doorLaid Tryd.prog 28 os).forCall (fun _ _ => 0) ⟨#[], args, []⟩).memory :=
  laidMetH_of_parts3 (fuel := 8) (laidMet_of_run' 8 (by kernel_rfl) (by kernel_rfl)) (by kernel_rfl) (by kernel_rfl)

set_option maxRecDepth 100000 in
set_option maxHeartbeats 1000000 in
theorem lifted (os : Os) (started : os.Started) (H : Type) (enc : TypeId × Value → H) :
    ReturnsInHanded {} Tryd.checked os 3 .any (fun w args => (Rows.fnPoolBentSpec.pre enc Tryd.prog Tryd.f3 [] false w args ∧ laidMetH Tryd.prog Rows.fnPoolBentRow.laid w) ∧ sizedMet enc Tryd.prog Tryd.f3 (OpenSpec.ofChange Rows.fnPoolBentSpec) false w args)
      (Rows.fnPoolBentSpec.post enc Tryd.prog Tryd.f3 false true false false) := by
  refine returnsInHanded_of_change_and (C := Tryd.checked) (X := fun w _ => laidMetH Tryd.prog Rows.fnPoolBentRow.laid w) (fun _ _ _ hh h => h.of_heap hh) own started (by kernel_rfl) Tryd.func3
    (ChangeSpec.witness_shaped (enc := enc) (C := Tryd.checked) (os := os) (X := fun w _ => laidMetH Tryd.prog Rows.fnPoolBentRow.laid w) false (World.doorLaid Tryd.prog 28 os) #[.slice none 0 0] 8 rfl (World.shaped_of_RefB (by kernel_rfl) (by kernel_rfl)) (by kernel_rfl) (by kernel_rfl) (by kernel_rfl) (door_met os _)) ?_
  intro W base args ds gs before hval0 hW _ _ hL _
  have hval : ∀ (j : Nat) t v, Tryd.f3.params[j]? = some t → args[j]? = some v → Value.okWide Tryd.prog W .any base t v := hval0
  have hW' := hW
  obtain ⟨p, q, hA0, hV0, rfl, hfz, hnd⟩ := hW
  have hA : DataW.TrodAll enc Tryd.prog W 0 (fun _ => true) true Tryd.f3.params.toList args.toList ds p := hA0
  have hV : DataW.TrodVars enc Tryd.prog W (fun _ => true) ["loop.example/hagioscope/impl.errForm"] gs q := hV0
  rw [Tryd.params3] at hA hval
  obtain ⟨v0, vs0, d0, ds0, p0, q0, hargs, rfl, rfl, h0, r0⟩ := trodAll_cons hA
  obtain ⟨rfl, rfl, rfl⟩ := trodAll_nil r0
  obtain rfl : args = #[v0] := by cases args; simp_all
  have kr0 := h0
  have lt0 : ∀ x ∈ p0, x.block < W.heap.size := by obtain ⟨m, hm⟩ := kr0; exact DataW.trod_lt m _ _ _ hm
  obtain ⟨a0, len0, cap0, rfl⟩ := okWide_slice Tryd.underlying22 (hval 0 22 v0 rfl rfl)
  obtain ⟨z0, w0⟩ : ∃ zs, IsRow .u8 W a0 len0 cap0 zs := by
    obtain ⟨fuel, hf⟩ := h0
    rcases open_ints Tryd.underlying22 Tryd.underlying5 (by kernel_rfl) hf with ⟨hcs, _⟩ | ⟨x, l, c, zs, hcs, _, hl, hm, hz, _, hcell, hwz⟩
    · simp [Value.cells] at hcs
      obtain ⟨rfl, rfl, rfl⟩ := hcs
      exact ⟨[], .inl ⟨rfl, rfl, rfl, rfl⟩⟩
    · simp [Value.cells] at hcs
      obtain ⟨rfl, rfl, rfl⟩ := hcs
      exact ⟨zs, .inr ⟨_, rfl, hl, hm, by simpa using hz, hcell, hwz⟩⟩
  obtain ⟨g, t, cs, fuel, d, p', rfl, hg, ht, hvar, hd, rfl⟩ := trodVars_one hV
  obtain rfl := Option.some.inj (gForm.symm.trans hg)
  obtain rfl := Option.some.inj (tForm.symm.trans ht)
  obtain ⟨fu, fv, hff⟩ := form_of hL
  obtain rfl : cs = #[.iface fu fv] := Option.some.inj (hvar.symm.trans hff)
  have hform : FormAt W := formAt_of hff
  obtain ⟨_, _, hheap⟩ := heap_of_var gForm hff
  clear hA0 hV0 hval0
  refine (walk a0 len0 cap0 z0 W w0 hform).mono fun e W' ⟨he, bel⟩ => ?_
  subst he
  exact ⟨_, rfl, _, _, _, [], _, _, hW', trodAll_mk1 (shut_bool Tryd.underlying4 _), (trodAll_cons_mk (Below.trod laidOut (by kernel_rfl) (of_decide_eq_true (by kernel_rfl)) kr0 bel lt0) trodAll_mk0), trodVars_mk1 gForm tForm (var?_below bel gForm (lt_of_block hheap) hff) (held_again Tryd.underlying46 hd), bel.frame _, fun h => by cases h⟩

theorem said : Rows.FnPoolBentSaid :=
  OpenClaim.holds_of_wide 3 Tryd.f3 rfl rfl rfl rfl rfl rfl rfl ⟨rfl, rfl, rfl, rfl, rfl⟩ rfl rfl rfl rfl rfl (by kernel_rfl) Tryd.func3 (by kernel_rfl)
    (of_decide_eq_true (by kernel_rfl)) (by unfold Func.isWrapper; first | (rw [if_pos (by decide +kernel)]; kernel_rfl) | (rw [if_neg (by decide +kernel)]; exact ⟨rfl, rfl⟩))
    (fun os started H enc _ => lifted os started H enc)

theorem plain (f : FuncId) (fn : Func) (hf : Tryd.pinned.checked.prog.funcNamed "loop.example/hagioscope/laws.FnPoolBent" = some f) (hfn : Tryd.pinned.checked.prog.funcs[f]? = some fn) :
    false = Tryd.pinned.checked.prog.looks [] ∧ ∀ (j : Nat) t, fn.params[j]? = some t → Tryd.pinned.checked.prog.wantsStandIn t = false := by
  obtain rfl : f = 3 := Option.some.inj ((show Tryd.prog.funcNamed "loop.example/hagioscope/laws.FnPoolBent" = some 3 by kernel_rfl).symm.trans hf) |>.symm
  obtain rfl : fn = Tryd.f3 := (Option.some.inj (Tryd.func3.symm.trans hfn)).symm
  refine ⟨by kernel_rfl, fun j t ht => ?_⟩
  rw [Tryd.params3] at ht
  obtain rfl : t = 22 := by simpa using Array.mem_of_getElem? ht
  · exact (show Tryd.prog.wantsStandIn 22 = false by kernel_rfl)

end Go.Proofs.YtcifjildjiakgaaDoor.fnPoolBent
namespace Go.Proofs.YtcifjildjiakgaaDoor
theorem fnPoolBent_card : Rows.FnPoolBentCardSaid :=
  Claim7.holds_tied_plain_at .later [] _ _ _ _ fnPoolBent.said (fun _ h => by cases h) (by kernel_rfl) (fun _ h => by cases h) fnPoolBent_row_tie rfl ⟨rfl, rfl⟩ (by kernel_rfl) rfl fnPoolBent.plain (by kernel_rfl)
#print axioms fnPoolBent_card
end Go.Proofs.YtcifjildjiakgaaDoor
