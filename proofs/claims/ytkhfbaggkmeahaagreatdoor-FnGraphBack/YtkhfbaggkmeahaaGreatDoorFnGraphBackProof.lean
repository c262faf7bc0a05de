/-
  Operations can be undone.
-/
import Derived.Test.YtkhfbaggkmeahaaGreatDoorCards
import Derived.Test.YtkhfbaggkmeahaaGreatDoorTie
import Derived.Test.YtkhfbaggkmeahaaGreatDoorGdl
import Derived.Test.YtkhfbaggkmeahaaGreatDoorGdt
import Derived.Test.YtkhfbaggkmeahaaGreatDoorDgr
import Derived.Test.YtkhfbaggkmeahaaGreatDoorErs
import Derived.Test.YtkhfbaggkmeahaaGreatDoorErf
import Derived.WalkKit
import Derived.ProofKit
import Derived.OpenShut
import Derived.ShutString
import Derived.ChangeOld
import Derived.Below
import Derived.Carry
import Derived.Handy
import Derived.Deep.RegionHeld3
import Derived.LaidMore
import Derived.Deep.DeepCutAuto
namespace Go.Proofs.YtkhfbaggkmeahaaGreatDoor.fnGraphBack
open Go.Proofs.YtkhfbaggkmeahaaGreatDoor.Lab
open Go.ChangeShapes Go.WideShapes Go.ChangeAt Go.RowKit
open Go.ChangeMaps (open_string shut_string)
set_option linter.unusedVariables false

theorem own : ownKnob Tryz.prog.godebug = none := by kernel_rfl
/-- A row of numbers that came in: nil, or so many cells. -/
def IsRow (k : IntKind) (w : World) (a : Option Addr) (len cap : Nat) (zs : List Int) : Prop :=
  (a = none ∧ len = 0 ∧ cap = 0 ∧ zs = []) ∨ ∃ x, a = some x ∧ len ≤ cap ∧ cap ≤ maxLen ∧ zs.length = cap ∧ (∀ i, i < zs.length → w.cell? (x.add i) = some (.int k (zs.getD i 0))) ∧ ∀ n ∈ zs, (Lit.int k n).wf = true

set_option maxRecDepth 16000 in
set_option maxHeartbeats 8000000 in
theorem walk (a0 : Option Addr) (len0 cap0 : Nat) (z0 : List Int) (w : World) (w0 : IsRow .u8 w a0 len0 cap0 z0) (aF aT aN aU : Addr) (hF : Four w aF aT aN aU) (hE : Errs w) :
    Calls Tryz.prog 5 #[.slice a0 len0 cap0] w fun e w' => e = .returned (.bool true) ∧ Below w.heap.size w w' := by
  have HF : Hid (Errs w) := hE
  clear hE
  by_cases hlen0 : len0 > 1048576
  · go_enter Tryz.func5, Tryz.ntmps5
    go_wp2
    go_ret
    exact ⟨rfl, Below.refl _ _⟩
  have k0 : CodeAt w a0 len0 cap0 z0 := code_of w0
  clear w0
  go_enter Tryz.func5, Tryz.ntmps5
  go_wp2_with fail
  have HFF : Hid (Four w aF aT aN aU) := hF
  clear hF
  refine (drawGraphDo _ _ _ _ _ k0).mono ?_
  rintro e wa ⟨v1, v2, ns, es, k, nl, nn, l, al, an, bl, bn, rfl, hg, ba⟩
  unfold OpVal
  obtain ⟨ga, gc, gb, gd, rfl, rfl⟩ := hg.form
  obtain ⟨n, hn⟩ : ∃ n, n = ns.length := ⟨_, rfl⟩
  obtain ⟨m, hm⟩ : ∃ m, m = es.length := ⟨_, rfl⟩
  have HN : Hid (n = ns.length ∧ m = es.length) := ⟨hn, hm⟩
  have ln : n ≤ 200 := by rw [hn]; exact hg.2.2.1
  have lm : m ≤ 200 := by rw [hm]; exact hg.2.2.2
  rw [← hn, ← hm] at hg ⊢
  obtain ⟨A, hA⟩ : ∃ t, t = wa.heap.size := ⟨_, rfl⟩
  have HA : Hid (A = wa.heap.size) := hA
  have BB : Below A wa wa := Below.refl _ _
  have sA : A ≤ wa.heap.size := by omega
  have HV : Hid (∀ W, Below A wa W → GrAt W (.slice ga n gc) (.slice gb m gd) ns es ∧ Four W aF aT aN aU ∧ Below w.heap.size w W ∧ Errs W) := fun W h => by
    rw [HA.out] at h
    exact ⟨hg.keep h, (HFF.out.keep ba).keep h, ba.trans (h.mono ba.size), (HF.out.keep ba).keep h⟩
  clear hg ba hn hm HF HFF hA
  clear k0
  go_wp2_with fail
  obtain ⟨P0, hP0⟩ : ∃ t, t = wa.heap.size := ⟨_, rfl⟩
  generalize hW : wa.alloc (.cells #[.slice ga n gc, .slice gb m gd] 26) = wb
  have nb : Below wa.heap.size wa wb := by rw [← hW]; exact (Below.refl _ _).alloc (Nat.le_refl _) _
  have k3 : wb.heap.size = P0 + 1 := by rw [← hW, hP0]; simp
  have kk0 : wb.cell? ⟨P0, 0, none⟩ = some (.slice ga n gc) := by rw [← hW, hP0]; simp [go_sem]
  have kk1 : wb.cell? ⟨P0, 1, none⟩ = some (.slice gb m gd) := by rw [← hW, hP0]; simp [go_sem]
  have oP0A : A ≤ P0 := by rw [hP0]; exact sA
  have BB1 : Below A wa wb := BB.trans (nb.mono (by omega))
  have sA1 : A ≤ wb.heap.size := by have := Below.size nb; omega
  clear BB sA   
  have BB := BB1
  have sA := sA1
  clear BB1 sA1   
  have cc0 := kk0
  have cc1 := kk1
  have zz0 : P0 < wb.heap.size := by omega
  rw [← hP0]
  have k3P0 := k3
  clear k3 hW nb hP0 kk0 kk1
  rw [k3P0.symm]
  obtain ⟨O0, hO0⟩ : ∃ t, t = wb.heap.size := ⟨_, rfl⟩
  generalize hW : wb.alloc (.cells #[.int .i64 k, .int .i64 nl, .int .i64 nn, .int .i64 l, .int .i64 al, .int .i64 an, .int .i64 bl, .int .i64 bn] 32) = wb2
  have nb : Below wb.heap.size wb wb2 := by rw [← hW]; exact (Below.refl _ _).alloc (Nat.le_refl _) _
  have k3 : wb2.heap.size = O0 + 1 := by rw [← hW, hO0]; simp
  have kk0 : wb2.cell? ⟨O0, 0, none⟩ = some (.int .i64 k) := by rw [← hW, hO0]; simp [go_sem]
  have kk1 : wb2.cell? ⟨O0, 1, none⟩ = some (.int .i64 nl) := by rw [← hW, hO0]; simp [go_sem]
  have kk2 : wb2.cell? ⟨O0, 2, none⟩ = some (.int .i64 nn) := by rw [← hW, hO0]; simp [go_sem]
  have kk3 : wb2.cell? ⟨O0, 3, none⟩ = some (.int .i64 l) := by rw [← hW, hO0]; simp [go_sem]
  have kk4 : wb2.cell? ⟨O0, 4, none⟩ = some (.int .i64 al) := by rw [← hW, hO0]; simp [go_sem]
  have kk5 : wb2.cell? ⟨O0, 5, none⟩ = some (.int .i64 an) := by rw [← hW, hO0]; simp [go_sem]
  have kk6 : wb2.cell? ⟨O0, 6, none⟩ = some (.int .i64 bl) := by rw [← hW, hO0]; simp [go_sem]
  have kk7 : wb2.cell? ⟨O0, 7, none⟩ = some (.int .i64 bn) := by rw [← hW, hO0]; simp [go_sem]
  have oO0A : A ≤ O0 := by rw [hO0]; exact sA
  have oO00 : P0 < O0 := by rw [hO0]; exact zz0
  have d0 : wb2.cell? ⟨P0, 0, none⟩ = some (.slice ga n gc) := (Below.celz nb _ _ _ (by omega)).trans cc0
  have d1 : wb2.cell? ⟨P0, 1, none⟩ = some (.slice gb m gd) := (Below.celz nb _ _ _ (by omega)).trans cc1
  have y0 : P0 < wb2.heap.size := by have := Below.size nb; omega
  have BB1 : Below A wa wb2 := BB.trans (nb.mono (by omega))
  have sA1 : A ≤ wb2.heap.size := by have := Below.size nb; omega
  clear BB sA cc0 cc1 zz0 
  have cc0 := d0
  have cc1 := d1
  have zz0 := y0
  have BB := BB1
  have sA := sA1
  clear BB1 sA1 d0 d1 y0 
  have cc2 := kk0
  have cc3 := kk1
  have cc4 := kk2
  have cc5 := kk3
  have cc6 := kk4
  have cc7 := kk5
  have cc8 := kk6
  have cc9 := kk7
  have zz1 : O0 < wb2.heap.size := by omega
  rw [← hO0]
  have k3O0 := k3
  clear k3 hW nb hO0 kk0 kk1 kk2 kk3 kk4 kk5 kk6 kk7
  clear k3P0 k3O0
  obtain ⟨X1N, hX⟩ : ∃ t, t = gdN ns es k nl nn l al an bl bn := ⟨_, rfl⟩
  obtain ⟨X1E, hY⟩ : ∃ t, t = gdE ns es k nl nn l al an bl bn := ⟨_, rfl⟩
  obtain ⟨X1C, hZ⟩ : ∃ t, t = gdC ns es k nl nn l al an bl bn := ⟨_, rfl⟩
  have HX1 : Hid (X1N = gdN ns es k nl nn l al an bl bn ∧ X1E = gdE ns es k nl nn l al an bl bn ∧ X1C = gdC ns es k nl nn l al an bl bn) := ⟨hX, hY, hZ⟩
  clear hX hY hZ
  refine (gdo_impl _ _ ns es k nl nn l al an bl bn _ (HV.out _ BB).1 (HV.out _ BB).2.1).mono ?_
  rintro e wc ⟨u1, u2, rfl, og, bwc⟩
  have d0 : wc.cell? ⟨P0, 0, none⟩ = some (.slice ga n gc) := (Below.celz bwc _ _ _ (by omega)).trans cc0
  have d1 : wc.cell? ⟨P0, 1, none⟩ = some (.slice gb m gd) := (Below.celz bwc _ _ _ (by omega)).trans cc1
  have d2 : wc.cell? ⟨O0, 0, none⟩ = some (.int .i64 k) := (Below.celz bwc _ _ _ (by omega)).trans cc2
  have d3 : wc.cell? ⟨O0, 1, none⟩ = some (.int .i64 nl) := (Below.celz bwc _ _ _ (by omega)).trans cc3
  have d4 : wc.cell? ⟨O0, 2, none⟩ = some (.int .i64 nn) := (Below.celz bwc _ _ _ (by omega)).trans cc4
  have d5 : wc.cell? ⟨O0, 3, none⟩ = some (.int .i64 l) := (Below.celz bwc _ _ _ (by omega)).trans cc5
  have d6 : wc.cell? ⟨O0, 4, none⟩ = some (.int .i64 al) := (Below.celz bwc _ _ _ (by omega)).trans cc6
  have d7 : wc.cell? ⟨O0, 5, none⟩ = some (.int .i64 an) := (Below.celz bwc _ _ _ (by omega)).trans cc7
  have d8 : wc.cell? ⟨O0, 6, none⟩ = some (.int .i64 bl) := (Below.celz bwc _ _ _ (by omega)).trans cc8
  have d9 : wc.cell? ⟨O0, 7, none⟩ = some (.int .i64 bn) := (Below.celz bwc _ _ _ (by omega)).trans cc9
  have y0 : P0 < wc.heap.size := by have := Below.size bwc; omega
  have y1 : O0 < wc.heap.size := by have := Below.size bwc; omega
  have BB1 : Below A wa wc := BB.trans (bwc.mono (by omega))
  have sA1 : A ≤ wc.heap.size := by have := Below.size bwc; omega
  clear BB sA cc0 cc1 cc2 cc3 cc4 cc5 cc6 cc7 cc8 cc9 zz0 zz1 
  have cc0 := d0
  have cc1 := d1
  have cc2 := d2
  have cc3 := d3
  have cc4 := d4
  have cc5 := d5
  have cc6 := d6
  have cc7 := d7
  have cc8 := d8
  have cc9 := d9
  have zz0 := y0
  have zz1 := y1
  have BB := BB1
  have sA := sA1
  clear BB1 sA1 d0 d1 d2 d3 d4 d5 d6 d7 d8 d9 y0 y1 
  clear bwc
  rw [← HX1.out.1, ← HX1.out.2.1] at og
  rw [← HX1.out.2.2]
  obtain ⟨xa1, xc1, xb1, xd1, rfl, rfl⟩ := og.form
  obtain ⟨p1, hp⟩ : ∃ t, t = X1N.length := ⟨_, rfl⟩
  obtain ⟨r1, hr⟩ : ∃ t, t = X1E.length := ⟨_, rfl⟩
  have HL1 : Hid (p1 = X1N.length ∧ r1 = X1E.length) := ⟨hp, hr⟩
  have lp1 : p1 ≤ 200 := by rw [hp]; exact og.2.2.1
  have lr1 : r1 ≤ 200 := by rw [hr]; exact og.2.2.2
  rw [← hp, ← hr] at og ⊢
  clear hp hr
  have HR1 : Hid (GrAt wc (.slice xa1 p1 xc1) (.slice xb1 r1 xd1) X1N X1E) := og
  clear og
  go_wp2_with fail
  obtain ⟨P1, hP1⟩ : ∃ t, t = wc.heap.size := ⟨_, rfl⟩
  generalize hW : wc.alloc (.cells #[.slice xa1 p1 xc1, .slice xb1 r1 xd1] 26) = wd
  have nb : Below wc.heap.size wc wd := by rw [← hW]; exact (Below.refl _ _).alloc (Nat.le_refl _) _
  have k3 : wd.heap.size = P1 + 1 := by rw [← hW, hP1]; simp
  have kk0 : wd.cell? ⟨P1, 0, none⟩ = some (.slice xa1 p1 xc1) := by rw [← hW, hP1]; simp [go_sem]
  have kk1 : wd.cell? ⟨P1, 1, none⟩ = some (.slice xb1 r1 xd1) := by rw [← hW, hP1]; simp [go_sem]
  have oP1A : A ≤ P1 := by rw [hP1]; exact sA
  have oP10 : P0 < P1 := by rw [hP1]; exact zz0
  have oP11 : O0 < P1 := by rw [hP1]; exact zz1
  have d0 : wd.cell? ⟨P0, 0, none⟩ = some (.slice ga n gc) := (Below.celz nb _ _ _ (by omega)).trans cc0
  have d1 : wd.cell? ⟨P0, 1, none⟩ = some (.slice gb m gd) := (Below.celz nb _ _ _ (by omega)).trans cc1
  have d2 : wd.cell? ⟨O0, 0, none⟩ = some (.int .i64 k) := (Below.celz nb _ _ _ (by omega)).trans cc2
  have d3 : wd.cell? ⟨O0, 1, none⟩ = some (.int .i64 nl) := (Below.celz nb _ _ _ (by omega)).trans cc3
  have d4 : wd.cell? ⟨O0, 2, none⟩ = some (.int .i64 nn) := (Below.celz nb _ _ _ (by omega)).trans cc4
  have d5 : wd.cell? ⟨O0, 3, none⟩ = some (.int .i64 l) := (Below.celz nb _ _ _ (by omega)).trans cc5
  have d6 : wd.cell? ⟨O0, 4, none⟩ = some (.int .i64 al) := (Below.celz nb _ _ _ (by omega)).trans cc6
  have d7 : wd.cell? ⟨O0, 5, none⟩ = some (.int .i64 an) := (Below.celz nb _ _ _ (by omega)).trans cc7
  have d8 : wd.cell? ⟨O0, 6, none⟩ = some (.int .i64 bl) := (Below.celz nb _ _ _ (by omega)).trans cc8
  have d9 : wd.cell? ⟨O0, 7, none⟩ = some (.int .i64 bn) := (Below.celz nb _ _ _ (by omega)).trans cc9
  have y0 : P0 < wd.heap.size := by have := Below.size nb; omega
  have y1 : O0 < wd.heap.size := by have := Below.size nb; omega
  have BB1 : Below A wa wd := BB.trans (nb.mono (by omega))
  have sA1 : A ≤ wd.heap.size := by have := Below.size nb; omega
  have q0 : Hid (GrAt wd (.slice xa1 p1 xc1) (.slice xb1 r1 xd1) X1N X1E) := HR1.out.keep nb
  clear BB sA cc0 cc1 cc2 cc3 cc4 cc5 cc6 cc7 cc8 cc9 zz0 zz1 HR1
  have cc0 := d0
  have cc1 := d1
  have cc2 := d2
  have cc3 := d3
  have cc4 := d4
  have cc5 := d5
  have cc6 := d6
  have cc7 := d7
  have cc8 := d8
  have cc9 := d9
  have zz0 := y0
  have zz1 := y1
  have HR1 := q0
  have BB := BB1
  have sA := sA1
  clear BB1 sA1 d0 d1 d2 d3 d4 d5 d6 d7 d8 d9 y0 y1 q0
  have cc10 := kk0
  have cc11 := kk1
  have zz2 : P1 < wd.heap.size := by omega
  rw [← hP1]
  have k3P1 := k3
  clear k3 hW nb hP1 kk0 kk1
  clear k3P1
  refine (gdo_spec _ _ ns es k nl nn l al an bl bn _ (HV.out _ BB).1).mono ?_
  rintro e we ⟨u1, u2, rfl, og, bwe⟩
  have d0 : we.cell? ⟨P0, 0, none⟩ = some (.slice ga n gc) := (Below.celz bwe _ _ _ (by omega)).trans cc0
  have d1 : we.cell? ⟨P0, 1, none⟩ = some (.slice gb m gd) := (Below.celz bwe _ _ _ (by omega)).trans cc1
  have d2 : we.cell? ⟨O0, 0, none⟩ = some (.int .i64 k) := (Below.celz bwe _ _ _ (by omega)).trans cc2
  have d3 : we.cell? ⟨O0, 1, none⟩ = some (.int .i64 nl) := (Below.celz bwe _ _ _ (by omega)).trans cc3
  have d4 : we.cell? ⟨O0, 2, none⟩ = some (.int .i64 nn) := (Below.celz bwe _ _ _ (by omega)).trans cc4
  have d5 : we.cell? ⟨O0, 3, none⟩ = some (.int .i64 l) := (Below.celz bwe _ _ _ (by omega)).trans cc5
  have d6 : we.cell? ⟨O0, 4, none⟩ = some (.int .i64 al) := (Below.celz bwe _ _ _ (by omega)).trans cc6
  have d7 : we.cell? ⟨O0, 5, none⟩ = some (.int .i64 an) := (Below.celz bwe _ _ _ (by omega)).trans cc7
  have d8 : we.cell? ⟨O0, 6, none⟩ = some (.int .i64 bl) := (Below.celz bwe _ _ _ (by omega)).trans cc8
  have d9 : we.cell? ⟨O0, 7, none⟩ = some (.int .i64 bn) := (Below.celz bwe _ _ _ (by omega)).trans cc9
  have d10 : we.cell? ⟨P1, 0, none⟩ = some (.slice xa1 p1 xc1) := (Below.celz bwe _ _ _ (by omega)).trans cc10
  have d11 : we.cell? ⟨P1, 1, none⟩ = some (.slice xb1 r1 xd1) := (Below.celz bwe _ _ _ (by omega)).trans cc11
  have y0 : P0 < we.heap.size := by have := Below.size bwe; omega
  have y1 : O0 < we.heap.size := by have := Below.size bwe; omega
  have y2 : P1 < we.heap.size := by have := Below.size bwe; omega
  have BB1 : Below A wa we := BB.trans (bwe.mono (by omega))
  have sA1 : A ≤ we.heap.size := by have := Below.size bwe; omega
  have q0 : Hid (GrAt we (.slice xa1 p1 xc1) (.slice xb1 r1 xd1) X1N X1E) := HR1.out.keep bwe
  clear BB sA cc0 cc1 cc2 cc3 cc4 cc5 cc6 cc7 cc8 cc9 cc10 cc11 zz0 zz1 zz2 HR1
  have cc0 := d0
  have cc1 := d1
  have cc2 := d2
  have cc3 := d3
  have cc4 := d4
  have cc5 := d5
  have cc6 := d6
  have cc7 := d7
  have cc8 := d8
  have cc9 := d9
  have cc10 := d10
  have cc11 := d11
  have zz0 := y0
  have zz1 := y1
  have zz2 := y2
  have HR1 := q0
  have BB := BB1
  have sA := sA1
  clear BB1 sA1 d0 d1 d2 d3 d4 d5 d6 d7 d8 d9 d10 d11 y0 y1 y2 q0
  clear bwe
  rw [← HX1.out.1, ← HX1.out.2.1] at og
  rw [← HX1.out.2.2]
  obtain ⟨xa2, xc2, xb2, xd2, rfl, rfl⟩ := og.form
  obtain ⟨p2, hp⟩ : ∃ t, t = X1N.length := ⟨_, rfl⟩
  obtain ⟨r2, hr⟩ : ∃ t, t = X1E.length := ⟨_, rfl⟩
  have HL2 : Hid (p2 = X1N.length ∧ r2 = X1E.length) := ⟨hp, hr⟩
  have lp2 : p2 ≤ 200 := by rw [hp]; exact og.2.2.1
  have lr2 : r2 ≤ 200 := by rw [hr]; exact og.2.2.2
  rw [← hp, ← hr] at og ⊢
  clear hp hr
  have HR2 : Hid (GrAt we (.slice xa2 p2 xc2) (.slice xb2 r2 xd2) X1N X1E) := og
  clear og
  have hnc : (X1C != X1C) = false := by simp
  have hnd : (X1C == X1C) = true := by simp
  by_cases hc0 : X1C = 0
  rotate_left
  · have hcb : (X1C != 0) = true := by simpa using hc0
    clear hc0
    go_wp2_with fail
    go_ret
    exact ⟨rfl, (HV.out _ (BB.alloc sA _)).2.2.1⟩
  · subst hc0
    have HBG : Hid (gokB ns es = true ∧ gdC ns es k nl nn l al an bl bn = 0) := by
      refine ⟨?_, HX1.out.2.2.symm⟩
      cases hb : gokB ns es with
      | true => rfl
      | false => have := (gd_bad (k := k) (nl := nl) (nn := nn) (l := l) (al := al) (an := an) (bl := bl) (bn := bn) hb).2.2; rw [← HX1.out.2.2] at this; cases this
    by_cases hk4 : k = 4
    · subst hk4
      go_wp2_with fail
      go_ret
      exact ⟨rfl, (HV.out _ (BB.alloc sA _)).2.2.1⟩
    · have hkb : (k == 4) = false := beq_eq_false_iff_ne.2 hk4
      have hkk := gd_kind HBG.out.1 HBG.out.2
      have hk3 : k = 1 ∨ k = 2 ∨ k = 3 := by omega
      clear hkk
      rcases hk3 with rfl | rfl | rfl
      · go_wp2_with fail
        obtain ⟨P2, hP2⟩ : ∃ t, t = we.heap.size := ⟨_, rfl⟩
        generalize hW : we.alloc (.cells #[.slice xa2 p2 xc2, .slice xb2 r2 xd2] 26) = wf
        have nb : Below we.heap.size we wf := by rw [← hW]; exact (Below.refl _ _).alloc (Nat.le_refl _) _
        have k3 : wf.heap.size = P2 + 1 := by rw [← hW, hP2]; simp
        have kk0 : wf.cell? ⟨P2, 0, none⟩ = some (.slice xa2 p2 xc2) := by rw [← hW, hP2]; simp [go_sem]
        have kk1 : wf.cell? ⟨P2, 1, none⟩ = some (.slice xb2 r2 xd2) := by rw [← hW, hP2]; simp [go_sem]
        have oP2A : A ≤ P2 := by rw [hP2]; exact sA
        have oP20 : P0 < P2 := by rw [hP2]; exact zz0
        have oP21 : O0 < P2 := by rw [hP2]; exact zz1
        have oP22 : P1 < P2 := by rw [hP2]; exact zz2
        have d0 : wf.cell? ⟨P0, 0, none⟩ = some (.slice ga n gc) := (Below.celz nb _ _ _ (by omega)).trans cc0
        have d1 : wf.cell? ⟨P0, 1, none⟩ = some (.slice gb m gd) := (Below.celz nb _ _ _ (by omega)).trans cc1
        have d2 : wf.cell? ⟨O0, 0, none⟩ = some (.int .i64 1) := (Below.celz nb _ _ _ (by omega)).trans cc2
        have d3 : wf.cell? ⟨O0, 1, none⟩ = some (.int .i64 nl) := (Below.celz nb _ _ _ (by omega)).trans cc3
        have d4 : wf.cell? ⟨O0, 2, none⟩ = some (.int .i64 nn) := (Below.celz nb _ _ _ (by omega)).trans cc4
        have d5 : wf.cell? ⟨O0, 3, none⟩ = some (.int .i64 l) := (Below.celz nb _ _ _ (by omega)).trans cc5
        have d6 : wf.cell? ⟨O0, 4, none⟩ = some (.int .i64 al) := (Below.celz nb _ _ _ (by omega)).trans cc6
        have d7 : wf.cell? ⟨O0, 5, none⟩ = some (.int .i64 an) := (Below.celz nb _ _ _ (by omega)).trans cc7
        have d8 : wf.cell? ⟨O0, 6, none⟩ = some (.int .i64 bl) := (Below.celz nb _ _ _ (by omega)).trans cc8
        have d9 : wf.cell? ⟨O0, 7, none⟩ = some (.int .i64 bn) := (Below.celz nb _ _ _ (by omega)).trans cc9
        have d10 : wf.cell? ⟨P1, 0, none⟩ = some (.slice xa1 p1 xc1) := (Below.celz nb _ _ _ (by omega)).trans cc10
        have d11 : wf.cell? ⟨P1, 1, none⟩ = some (.slice xb1 r1 xd1) := (Below.celz nb _ _ _ (by omega)).trans cc11
        have y0 : P0 < wf.heap.size := by have := Below.size nb; omega
        have y1 : O0 < wf.heap.size := by have := Below.size nb; omega
        have y2 : P1 < wf.heap.size := by have := Below.size nb; omega
        have BB1 : Below A wa wf := BB.trans (nb.mono (by omega))
        have sA1 : A ≤ wf.heap.size := by have := Below.size nb; omega
        have q0 : Hid (GrAt wf (.slice xa1 p1 xc1) (.slice xb1 r1 xd1) X1N X1E) := HR1.out.keep nb
        have q1 : Hid (GrAt wf (.slice xa2 p2 xc2) (.slice xb2 r2 xd2) X1N X1E) := HR2.out.keep nb
        clear BB sA cc0 cc1 cc2 cc3 cc4 cc5 cc6 cc7 cc8 cc9 cc10 cc11 zz0 zz1 zz2 HR1 HR2
        have cc0 := d0
        have cc1 := d1
        have cc2 := d2
        have cc3 := d3
        have cc4 := d4
        have cc5 := d5
        have cc6 := d6
        have cc7 := d7
        have cc8 := d8
        have cc9 := d9
        have cc10 := d10
        have cc11 := d11
        have zz0 := y0
        have zz1 := y1
        have zz2 := y2
        have HR1 := q0
        have HR2 := q1
        have BB := BB1
        have sA := sA1
        clear BB1 sA1 d0 d1 d2 d3 d4 d5 d6 d7 d8 d9 d10 d11 y0 y1 y2 q0 q1
        have cc12 := kk0
        have cc13 := kk1
        have zz3 : P2 < wf.heap.size := by omega
        rw [← hP2]
        have k3P2 := k3
        clear k3 hW nb hP2 kk0 kk1
        rw [k3P2.symm]
        obtain ⟨Q0, hQ0⟩ : ∃ t, t = wf.heap.size := ⟨_, rfl⟩
        generalize hW : wf.alloc (.cells #[.int .i64 4, .int .i64 nl, .int .i64 nn, .int .i64 l, .int .i64 al, .int .i64 an, .int .i64 bl, .int .i64 bn] 32) = wg
        have nb : Below wf.heap.size wf wg := by rw [← hW]; exact (Below.refl _ _).alloc (Nat.le_refl _) _
        have k3 : wg.heap.size = Q0 + 1 := by rw [← hW, hQ0]; simp
        have kk0 : wg.cell? ⟨Q0, 0, none⟩ = some (.int .i64 4) := by rw [← hW, hQ0]; simp [go_sem]
        have kk1 : wg.cell? ⟨Q0, 1, none⟩ = some (.int .i64 nl) := by rw [← hW, hQ0]; simp [go_sem]
        have kk2 : wg.cell? ⟨Q0, 2, none⟩ = some (.int .i64 nn) := by rw [← hW, hQ0]; simp [go_sem]
        have kk3 : wg.cell? ⟨Q0, 3, none⟩ = some (.int .i64 l) := by rw [← hW, hQ0]; simp [go_sem]
        have kk4 : wg.cell? ⟨Q0, 4, none⟩ = some (.int .i64 al) := by rw [← hW, hQ0]; simp [go_sem]
        have kk5 : wg.cell? ⟨Q0, 5, none⟩ = some (.int .i64 an) := by rw [← hW, hQ0]; simp [go_sem]
        have kk6 : wg.cell? ⟨Q0, 6, none⟩ = some (.int .i64 bl) := by rw [← hW, hQ0]; simp [go_sem]
        have kk7 : wg.cell? ⟨Q0, 7, none⟩ = some (.int .i64 bn) := by rw [← hW, hQ0]; simp [go_sem]
        have oQ0A : A ≤ Q0 := by rw [hQ0]; exact sA
        have oQ00 : P0 < Q0 := by rw [hQ0]; exact zz0
        have oQ01 : O0 < Q0 := by rw [hQ0]; exact zz1
        have oQ02 : P1 < Q0 := by rw [hQ0]; exact zz2
        have oQ03 : P2 < Q0 := by rw [hQ0]; exact zz3
        have d0 : wg.cell? ⟨P0, 0, none⟩ = some (.slice ga n gc) := (Below.celz nb _ _ _ (by omega)).trans cc0
        have d1 : wg.cell? ⟨P0, 1, none⟩ = some (.slice gb m gd) := (Below.celz nb _ _ _ (by omega)).trans cc1
        have d2 : wg.cell? ⟨O0, 0, none⟩ = some (.int .i64 1) := (Below.celz nb _ _ _ (by omega)).trans cc2
        have d3 : wg.cell? ⟨O0, 1, none⟩ = some (.int .i64 nl) := (Below.celz nb _ _ _ (by omega)).trans cc3
        have d4 : wg.cell? ⟨O0, 2, none⟩ = some (.int .i64 nn) := (Below.celz nb _ _ _ (by omega)).trans cc4
        have d5 : wg.cell? ⟨O0, 3, none⟩ = some (.int .i64 l) := (Below.celz nb _ _ _ (by omega)).trans cc5
        have d6 : wg.cell? ⟨O0, 4, none⟩ = some (.int .i64 al) := (Below.celz nb _ _ _ (by omega)).trans cc6
        have d7 : wg.cell? ⟨O0, 5, none⟩ = some (.int .i64 an) := (Below.celz nb _ _ _ (by omega)).trans cc7
        have d8 : wg.cell? ⟨O0, 6, none⟩ = some (.int .i64 bl) := (Below.celz nb _ _ _ (by omega)).trans cc8
        have d9 : wg.cell? ⟨O0, 7, none⟩ = some (.int .i64 bn) := (Below.celz nb _ _ _ (by omega)).trans cc9
        have d10 : wg.cell? ⟨P1, 0, none⟩ = some (.slice xa1 p1 xc1) := (Below.celz nb _ _ _ (by omega)).trans cc10
        have d11 : wg.cell? ⟨P1, 1, none⟩ = some (.slice xb1 r1 xd1) := (Below.celz nb _ _ _ (by omega)).trans cc11
        have d12 : wg.cell? ⟨P2, 0, none⟩ = some (.slice xa2 p2 xc2) := (Below.celz nb _ _ _ (by omega)).trans cc12
        have d13 : wg.cell? ⟨P2, 1, none⟩ = some (.slice xb2 r2 xd2) := (Below.celz nb _ _ _ (by omega)).trans cc13
        have y0 : P0 < wg.heap.size := by have := Below.size nb; omega
        have y1 : O0 < wg.heap.size := by have := Below.size nb; omega
        have y2 : P1 < wg.heap.size := by have := Below.size nb; omega
        have y3 : P2 < wg.heap.size := by have := Below.size nb; omega
        have BB1 : Below A wa wg := BB.trans (nb.mono (by omega))
        have sA1 : A ≤ wg.heap.size := by have := Below.size nb; omega
        have q0 : Hid (GrAt wg (.slice xa1 p1 xc1) (.slice xb1 r1 xd1) X1N X1E) := HR1.out.keep nb
        have q1 : Hid (GrAt wg (.slice xa2 p2 xc2) (.slice xb2 r2 xd2) X1N X1E) := HR2.out.keep nb
        clear BB sA cc0 cc1 cc2 cc3 cc4 cc5 cc6 cc7 cc8 cc9 cc10 cc11 cc12 cc13 zz0 zz1 zz2 zz3 HR1 HR2
        have cc0 := d0
        have cc1 := d1
        have cc2 := d2
        have cc3 := d3
        have cc4 := d4
        have cc5 := d5
        have cc6 := d6
        have cc7 := d7
        have cc8 := d8
        have cc9 := d9
        have cc10 := d10
        have cc11 := d11
        have cc12 := d12
        have cc13 := d13
        have zz0 := y0
        have zz1 := y1
        have zz2 := y2
        have zz3 := y3
        have HR1 := q0
        have HR2 := q1
        have BB := BB1
        have sA := sA1
        clear BB1 sA1 d0 d1 d2 d3 d4 d5 d6 d7 d8 d9 d10 d11 d12 d13 y0 y1 y2 y3 q0 q1
        have cc14 := kk0
        have cc15 := kk1
        have cc16 := kk2
        have cc17 := kk3
        have cc18 := kk4
        have cc19 := kk5
        have cc20 := kk6
        have cc21 := kk7
        have zz4 : Q0 < wg.heap.size := by omega
        rw [← hQ0]
        have k3Q0 := k3
        clear k3 hW nb hQ0 kk0 kk1 kk2 kk3 kk4 kk5 kk6 kk7
        clear k3P2 k3Q0
        obtain ⟨X5N, hX⟩ : ∃ t, t = gdN X1N X1E 4 nl nn l al an bl bn := ⟨_, rfl⟩
        obtain ⟨X5E, hY⟩ : ∃ t, t = gdE X1N X1E 4 nl nn l al an bl bn := ⟨_, rfl⟩
        obtain ⟨X5C, hZ⟩ : ∃ t, t = gdC X1N X1E 4 nl nn l al an bl bn := ⟨_, rfl⟩
        have HX5 : Hid (X5N = gdN X1N X1E 4 nl nn l al an bl bn ∧ X5E = gdE X1N X1E 4 nl nn l al an bl bn ∧ X5C = gdC X1N X1E 4 nl nn l al an bl bn) := ⟨hX, hY, hZ⟩
        clear hX hY hZ
        have HEQ : Hid (X5C = 0 ∧ X5N = ns ∧ X5E = es) := by
          have h := gd_back HBG.out.1 HBG.out.2 (by decide)
          rw [show backK 1 = 4 from rfl, ← HX1.out.1, ← HX1.out.2.1, ← HX5.out.1, ← HX5.out.2.1, ← HX5.out.2.2] at h
          exact h
        have h50 := HEQ.out.1
        refine (gdo_impl _ _ X1N X1E 4 nl nn l al an bl bn _ HR1.out (HV.out _ BB).2.1).mono ?_
        rintro e wh ⟨u1, u2, rfl, og, bwh⟩
        have d0 : wh.cell? ⟨P0, 0, none⟩ = some (.slice ga n gc) := (Below.celz bwh _ _ _ (by omega)).trans cc0
        have d1 : wh.cell? ⟨P0, 1, none⟩ = some (.slice gb m gd) := (Below.celz bwh _ _ _ (by omega)).trans cc1
        have d2 : wh.cell? ⟨O0, 0, none⟩ = some (.int .i64 1) := (Below.celz bwh _ _ _ (by omega)).trans cc2
        have d3 : wh.cell? ⟨O0, 1, none⟩ = some (.int .i64 nl) := (Below.celz bwh _ _ _ (by omega)).trans cc3
        have d4 : wh.cell? ⟨O0, 2, none⟩ = some (.int .i64 nn) := (Below.celz bwh _ _ _ (by omega)).trans cc4
        have d5 : wh.cell? ⟨O0, 3, none⟩ = some (.int .i64 l) := (Below.celz bwh _ _ _ (by omega)).trans cc5
        have d6 : wh.cell? ⟨O0, 4, none⟩ = some (.int .i64 al) := (Below.celz bwh _ _ _ (by omega)).trans cc6
        have d7 : wh.cell? ⟨O0, 5, none⟩ = some (.int .i64 an) := (Below.celz bwh _ _ _ (by omega)).trans cc7
        have d8 : wh.cell? ⟨O0, 6, none⟩ = some (.int .i64 bl) := (Below.celz bwh _ _ _ (by omega)).trans cc8
        have d9 : wh.cell? ⟨O0, 7, none⟩ = some (.int .i64 bn) := (Below.celz bwh _ _ _ (by omega)).trans cc9
        have d10 : wh.cell? ⟨P1, 0, none⟩ = some (.slice xa1 p1 xc1) := (Below.celz bwh _ _ _ (by omega)).trans cc10
        have d11 : wh.cell? ⟨P1, 1, none⟩ = some (.slice xb1 r1 xd1) := (Below.celz bwh _ _ _ (by omega)).trans cc11
        have d12 : wh.cell? ⟨P2, 0, none⟩ = some (.slice xa2 p2 xc2) := (Below.celz bwh _ _ _ (by omega)).trans cc12
        have d13 : wh.cell? ⟨P2, 1, none⟩ = some (.slice xb2 r2 xd2) := (Below.celz bwh _ _ _ (by omega)).trans cc13
        have d14 : wh.cell? ⟨Q0, 0, none⟩ = some (.int .i64 4) := (Below.celz bwh _ _ _ (by omega)).trans cc14
        have d15 : wh.cell? ⟨Q0, 1, none⟩ = some (.int .i64 nl) := (Below.celz bwh _ _ _ (by omega)).trans cc15
        have d16 : wh.cell? ⟨Q0, 2, none⟩ = some (.int .i64 nn) := (Below.celz bwh _ _ _ (by omega)).trans cc16
        have d17 : wh.cell? ⟨Q0, 3, none⟩ = some (.int .i64 l) := (Below.celz bwh _ _ _ (by omega)).trans cc17
        have d18 : wh.cell? ⟨Q0, 4, none⟩ = some (.int .i64 al) := (Below.celz bwh _ _ _ (by omega)).trans cc18
        have d19 : wh.cell? ⟨Q0, 5, none⟩ = some (.int .i64 an) := (Below.celz bwh _ _ _ (by omega)).trans cc19
        have d20 : wh.cell? ⟨Q0, 6, none⟩ = some (.int .i64 bl) := (Below.celz bwh _ _ _ (by omega)).trans cc20
        have d21 : wh.cell? ⟨Q0, 7, none⟩ = some (.int .i64 bn) := (Below.celz bwh _ _ _ (by omega)).trans cc21
        have y0 : P0 < wh.heap.size := by have := Below.size bwh; omega
        have y1 : O0 < wh.heap.size := by have := Below.size bwh; omega
        have y2 : P1 < wh.heap.size := by have := Below.size bwh; omega
        have y3 : P2 < wh.heap.size := by have := Below.size bwh; omega
        have y4 : Q0 < wh.heap.size := by have := Below.size bwh; omega
        have BB1 : Below A wa wh := BB.trans (bwh.mono (by omega))
        have sA1 : A ≤ wh.heap.size := by have := Below.size bwh; omega
        have q0 : Hid (GrAt wh (.slice xa1 p1 xc1) (.slice xb1 r1 xd1) X1N X1E) := HR1.out.keep bwh
        have q1 : Hid (GrAt wh (.slice xa2 p2 xc2) (.slice xb2 r2 xd2) X1N X1E) := HR2.out.keep bwh
        clear BB sA cc0 cc1 cc2 cc3 cc4 cc5 cc6 cc7 cc8 cc9 cc10 cc11 cc12 cc13 cc14 cc15 cc16 cc17 cc18 cc19 cc20 cc21 zz0 zz1 zz2 zz3 zz4 HR1 HR2
        have cc0 := d0
        have cc1 := d1
        have cc2 := d2
        have cc3 := d3
        have cc4 := d4
        have cc5 := d5
        have cc6 := d6
        have cc7 := d7
        have cc8 := d8
        have cc9 := d9
        have cc10 := d10
        have cc11 := d11
        have cc12 := d12
        have cc13 := d13
        have cc14 := d14
        have cc15 := d15
        have cc16 := d16
        have cc17 := d17
        have cc18 := d18
        have cc19 := d19
        have cc20 := d20
        have cc21 := d21
        have zz0 := y0
        have zz1 := y1
        have zz2 := y2
        have zz3 := y3
        have zz4 := y4
        have HR1 := q0
        have HR2 := q1
        have BB := BB1
        have sA := sA1
        clear BB1 sA1 d0 d1 d2 d3 d4 d5 d6 d7 d8 d9 d10 d11 d12 d13 d14 d15 d16 d17 d18 d19 d20 d21 y0 y1 y2 y3 y4 q0 q1
        clear bwh
        rw [← HX5.out.1, ← HX5.out.2.1] at og
        rw [← HX5.out.2.2]
        obtain ⟨xa5, xc5, xb5, xd5, rfl, rfl⟩ := og.form
        obtain ⟨p5, hp⟩ : ∃ t, t = X5N.length := ⟨_, rfl⟩
        obtain ⟨r5, hr⟩ : ∃ t, t = X5E.length := ⟨_, rfl⟩
        have HL5 : Hid (p5 = X5N.length ∧ r5 = X5E.length) := ⟨hp, hr⟩
        have lp5 : p5 ≤ 200 := by rw [hp]; exact og.2.2.1
        have lr5 : r5 ≤ 200 := by rw [hr]; exact og.2.2.2
        rw [← hp, ← hr] at og ⊢
        clear hp hr
        have HR5 : Hid (GrAt wh (.slice xa5 p5 xc5) (.slice xb5 r5 xd5) X5N X5E) := og
        clear og
        subst h50
        go_wp2_with fail
        obtain ⟨P5, hP5⟩ : ∃ t, t = wh.heap.size := ⟨_, rfl⟩
        generalize hW : wh.alloc (.cells #[.slice xa5 p5 xc5, .slice xb5 r5 xd5] 26) = wi
        have nb : Below wh.heap.size wh wi := by rw [← hW]; exact (Below.refl _ _).alloc (Nat.le_refl _) _
        have k3 : wi.heap.size = P5 + 1 := by rw [← hW, hP5]; simp
        have kk0 : wi.cell? ⟨P5, 0, none⟩ = some (.slice xa5 p5 xc5) := by rw [← hW, hP5]; simp [go_sem]
        have kk1 : wi.cell? ⟨P5, 1, none⟩ = some (.slice xb5 r5 xd5) := by rw [← hW, hP5]; simp [go_sem]
        have oP5A : A ≤ P5 := by rw [hP5]; exact sA
        have oP50 : P0 < P5 := by rw [hP5]; exact zz0
        have oP51 : O0 < P5 := by rw [hP5]; exact zz1
        have oP52 : P1 < P5 := by rw [hP5]; exact zz2
        have oP53 : P2 < P5 := by rw [hP5]; exact zz3
        have oP54 : Q0 < P5 := by rw [hP5]; exact zz4
        have d0 : wi.cell? ⟨P0, 0, none⟩ = some (.slice ga n gc) := (Below.celz nb _ _ _ (by omega)).trans cc0
        have d1 : wi.cell? ⟨P0, 1, none⟩ = some (.slice gb m gd) := (Below.celz nb _ _ _ (by omega)).trans cc1
        have d2 : wi.cell? ⟨O0, 0, none⟩ = some (.int .i64 1) := (Below.celz nb _ _ _ (by omega)).trans cc2
        have d3 : wi.cell? ⟨O0, 1, none⟩ = some (.int .i64 nl) := (Below.celz nb _ _ _ (by omega)).trans cc3
        have d4 : wi.cell? ⟨O0, 2, none⟩ = some (.int .i64 nn) := (Below.celz nb _ _ _ (by omega)).trans cc4
        have d5 : wi.cell? ⟨O0, 3, none⟩ = some (.int .i64 l) := (Below.celz nb _ _ _ (by omega)).trans cc5
        have d6 : wi.cell? ⟨O0, 4, none⟩ = some (.int .i64 al) := (Below.celz nb _ _ _ (by omega)).trans cc6
        have d7 : wi.cell? ⟨O0, 5, none⟩ = some (.int .i64 an) := (Below.celz nb _ _ _ (by omega)).trans cc7
        have d8 : wi.cell? ⟨O0, 6, none⟩ = some (.int .i64 bl) := (Below.celz nb _ _ _ (by omega)).trans cc8
        have d9 : wi.cell? ⟨O0, 7, none⟩ = some (.int .i64 bn) := (Below.celz nb _ _ _ (by omega)).trans cc9
        have d10 : wi.cell? ⟨P1, 0, none⟩ = some (.slice xa1 p1 xc1) := (Below.celz nb _ _ _ (by omega)).trans cc10
        have d11 : wi.cell? ⟨P1, 1, none⟩ = some (.slice xb1 r1 xd1) := (Below.celz nb _ _ _ (by omega)).trans cc11
        have d12 : wi.cell? ⟨P2, 0, none⟩ = some (.slice xa2 p2 xc2) := (Below.celz nb _ _ _ (by omega)).trans cc12
        have d13 : wi.cell? ⟨P2, 1, none⟩ = some (.slice xb2 r2 xd2) := (Below.celz nb _ _ _ (by omega)).trans cc13
        have d14 : wi.cell? ⟨Q0, 0, none⟩ = some (.int .i64 4) := (Below.celz nb _ _ _ (by omega)).trans cc14
        have d15 : wi.cell? ⟨Q0, 1, none⟩ = some (.int .i64 nl) := (Below.celz nb _ _ _ (by omega)).trans cc15
        have d16 : wi.cell? ⟨Q0, 2, none⟩ = some (.int .i64 nn) := (Below.celz nb _ _ _ (by omega)).trans cc16
        have d17 : wi.cell? ⟨Q0, 3, none⟩ = some (.int .i64 l) := (Below.celz nb _ _ _ (by omega)).trans cc17
        have d18 : wi.cell? ⟨Q0, 4, none⟩ = some (.int .i64 al) := (Below.celz nb _ _ _ (by omega)).trans cc18
        have d19 : wi.cell? ⟨Q0, 5, none⟩ = some (.int .i64 an) := (Below.celz nb _ _ _ (by omega)).trans cc19
        have d20 : wi.cell? ⟨Q0, 6, none⟩ = some (.int .i64 bl) := (Below.celz nb _ _ _ (by omega)).trans cc20
        have d21 : wi.cell? ⟨Q0, 7, none⟩ = some (.int .i64 bn) := (Below.celz nb _ _ _ (by omega)).trans cc21
        have y0 : P0 < wi.heap.size := by have := Below.size nb; omega
        have y1 : O0 < wi.heap.size := by have := Below.size nb; omega
        have y2 : P1 < wi.heap.size := by have := Below.size nb; omega
        have y3 : P2 < wi.heap.size := by have := Below.size nb; omega
        have y4 : Q0 < wi.heap.size := by have := Below.size nb; omega
        have BB1 : Below A wa wi := BB.trans (nb.mono (by omega))
        have sA1 : A ≤ wi.heap.size := by have := Below.size nb; omega
        have q0 : Hid (GrAt wi (.slice xa1 p1 xc1) (.slice xb1 r1 xd1) X1N X1E) := HR1.out.keep nb
        have q1 : Hid (GrAt wi (.slice xa2 p2 xc2) (.slice xb2 r2 xd2) X1N X1E) := HR2.out.keep nb
        have q2 : Hid (GrAt wi (.slice xa5 p5 xc5) (.slice xb5 r5 xd5) X5N X5E) := HR5.out.keep nb
        clear BB sA cc0 cc1 cc2 cc3 cc4 cc5 cc6 cc7 cc8 cc9 cc10 cc11 cc12 cc13 cc14 cc15 cc16 cc17 cc18 cc19 cc20 cc21 zz0 zz1 zz2 zz3 zz4 HR1 HR2 HR5
        have cc0 := d0
        have cc1 := d1
        have cc2 := d2
        have cc3 := d3
        have cc4 := d4
        have cc5 := d5
        have cc6 := d6
        have cc7 := d7
        have cc8 := d8
        have cc9 := d9
        have cc10 := d10
        have cc11 := d11
        have cc12 := d12
        have cc13 := d13
        have cc14 := d14
        have cc15 := d15
        have cc16 := d16
        have cc17 := d17
        have cc18 := d18
        have cc19 := d19
        have cc20 := d20
        have cc21 := d21
        have zz0 := y0
        have zz1 := y1
        have zz2 := y2
        have zz3 := y3
        have zz4 := y4
        have HR1 := q0
        have HR2 := q1
        have HR5 := q2
        have BB := BB1
        have sA := sA1
        clear BB1 sA1 d0 d1 d2 d3 d4 d5 d6 d7 d8 d9 d10 d11 d12 d13 d14 d15 d16 d17 d18 d19 d20 d21 y0 y1 y2 y3 y4 q0 q1 q2
        have cc22 := kk0
        have cc23 := kk1
        have zz5 : P5 < wi.heap.size := by omega
        rw [← hP5]
        have k3P5 := k3
        clear k3 hW nb hP5 kk0 kk1
        clear k3P5
        refine (gs_same _ _ _ _ X5N ns X5E es HEQ.out.2.1 HEQ.out.2.2 _ HR5.out (HV.out _ BB).1).mono ?_
        rintro e wj ⟨rfl, bz⟩
        have d0 : wj.cell? ⟨P0, 0, none⟩ = some (.slice ga n gc) := (Below.celz bz _ _ _ (by omega)).trans cc0
        have d1 : wj.cell? ⟨P0, 1, none⟩ = some (.slice gb m gd) := (Below.celz bz _ _ _ (by omega)).trans cc1
        have d2 : wj.cell? ⟨O0, 0, none⟩ = some (.int .i64 1) := (Below.celz bz _ _ _ (by omega)).trans cc2
        have d3 : wj.cell? ⟨O0, 1, none⟩ = some (.int .i64 nl) := (Below.celz bz _ _ _ (by omega)).trans cc3
        have d4 : wj.cell? ⟨O0, 2, none⟩ = some (.int .i64 nn) := (Below.celz bz _ _ _ (by omega)).trans cc4
        have d5 : wj.cell? ⟨O0, 3, none⟩ = some (.int .i64 l) := (Below.celz bz _ _ _ (by omega)).trans cc5
        have d6 : wj.cell? ⟨O0, 4, none⟩ = some (.int .i64 al) := (Below.celz bz _ _ _ (by omega)).trans cc6
        have d7 : wj.cell? ⟨O0, 5, none⟩ = some (.int .i64 an) := (Below.celz bz _ _ _ (by omega)).trans cc7
        have d8 : wj.cell? ⟨O0, 6, none⟩ = some (.int .i64 bl) := (Below.celz bz _ _ _ (by omega)).trans cc8
        have d9 : wj.cell? ⟨O0, 7, none⟩ = some (.int .i64 bn) := (Below.celz bz _ _ _ (by omega)).trans cc9
        have d10 : wj.cell? ⟨P1, 0, none⟩ = some (.slice xa1 p1 xc1) := (Below.celz bz _ _ _ (by omega)).trans cc10
        have d11 : wj.cell? ⟨P1, 1, none⟩ = some (.slice xb1 r1 xd1) := (Below.celz bz _ _ _ (by omega)).trans cc11
        have d12 : wj.cell? ⟨P2, 0, none⟩ = some (.slice xa2 p2 xc2) := (Below.celz bz _ _ _ (by omega)).trans cc12
        have d13 : wj.cell? ⟨P2, 1, none⟩ = some (.slice xb2 r2 xd2) := (Below.celz bz _ _ _ (by omega)).trans cc13
        have d14 : wj.cell? ⟨Q0, 0, none⟩ = some (.int .i64 4) := (Below.celz bz _ _ _ (by omega)).trans cc14
        have d15 : wj.cell? ⟨Q0, 1, none⟩ = some (.int .i64 nl) := (Below.celz bz _ _ _ (by omega)).trans cc15
        have d16 : wj.cell? ⟨Q0, 2, none⟩ = some (.int .i64 nn) := (Below.celz bz _ _ _ (by omega)).trans cc16
        have d17 : wj.cell? ⟨Q0, 3, none⟩ = some (.int .i64 l) := (Below.celz bz _ _ _ (by omega)).trans cc17
        have d18 : wj.cell? ⟨Q0, 4, none⟩ = some (.int .i64 al) := (Below.celz bz _ _ _ (by omega)).trans cc18
        have d19 : wj.cell? ⟨Q0, 5, none⟩ = some (.int .i64 an) := (Below.celz bz _ _ _ (by omega)).trans cc19
        have d20 : wj.cell? ⟨Q0, 6, none⟩ = some (.int .i64 bl) := (Below.celz bz _ _ _ (by omega)).trans cc20
        have d21 : wj.cell? ⟨Q0, 7, none⟩ = some (.int .i64 bn) := (Below.celz bz _ _ _ (by omega)).trans cc21
        have d22 : wj.cell? ⟨P5, 0, none⟩ = some (.slice xa5 p5 xc5) := (Below.celz bz _ _ _ (by omega)).trans cc22
        have d23 : wj.cell? ⟨P5, 1, none⟩ = some (.slice xb5 r5 xd5) := (Below.celz bz _ _ _ (by omega)).trans cc23
        have y0 : P0 < wj.heap.size := by have := Below.size bz; omega
        have y1 : O0 < wj.heap.size := by have := Below.size bz; omega
        have y2 : P1 < wj.heap.size := by have := Below.size bz; omega
        have y3 : P2 < wj.heap.size := by have := Below.size bz; omega
        have y4 : Q0 < wj.heap.size := by have := Below.size bz; omega
        have y5 : P5 < wj.heap.size := by have := Below.size bz; omega
        have BB1 : Below A wa wj := BB.trans (bz.mono (by omega))
        have sA1 : A ≤ wj.heap.size := by have := Below.size bz; omega
        have q0 : Hid (GrAt wj (.slice xa1 p1 xc1) (.slice xb1 r1 xd1) X1N X1E) := HR1.out.keep bz
        have q1 : Hid (GrAt wj (.slice xa2 p2 xc2) (.slice xb2 r2 xd2) X1N X1E) := HR2.out.keep bz
        have q2 : Hid (GrAt wj (.slice xa5 p5 xc5) (.slice xb5 r5 xd5) X5N X5E) := HR5.out.keep bz
        clear BB sA cc0 cc1 cc2 cc3 cc4 cc5 cc6 cc7 cc8 cc9 cc10 cc11 cc12 cc13 cc14 cc15 cc16 cc17 cc18 cc19 cc20 cc21 cc22 cc23 zz0 zz1 zz2 zz3 zz4 zz5 HR1 HR2 HR5
        have cc0 := d0
        have cc1 := d1
        have cc2 := d2
        have cc3 := d3
        have cc4 := d4
        have cc5 := d5
        have cc6 := d6
        have cc7 := d7
        have cc8 := d8
        have cc9 := d9
        have cc10 := d10
        have cc11 := d11
        have cc12 := d12
        have cc13 := d13
        have cc14 := d14
        have cc15 := d15
        have cc16 := d16
        have cc17 := d17
        have cc18 := d18
        have cc19 := d19
        have cc20 := d20
        have cc21 := d21
        have cc22 := d22
        have cc23 := d23
        have zz0 := y0
        have zz1 := y1
        have zz2 := y2
        have zz3 := y3
        have zz4 := y4
        have zz5 := y5
        have HR1 := q0
        have HR2 := q1
        have HR5 := q2
        have BB := BB1
        have sA := sA1
        clear BB1 sA1 d0 d1 d2 d3 d4 d5 d6 d7 d8 d9 d10 d11 d12 d13 d14 d15 d16 d17 d18 d19 d20 d21 d22 d23 y0 y1 y2 y3 y4 y5 q0 q1 q2
        clear bz
        go_wp2_with fail
        go_ret
        exact ⟨rfl, (HV.out _ BB).2.2.1⟩
      · go_wp2_with fail
        obtain ⟨P2, hP2⟩ : ∃ t, t = we.heap.size := ⟨_, rfl⟩
        generalize hW : we.alloc (.cells #[.slice xa2 p2 xc2, .slice xb2 r2 xd2] 26) = wf
        have nb : Below we.heap.size we wf := by rw [← hW]; exact (Below.refl _ _).alloc (Nat.le_refl _) _
        have k3 : wf.heap.size = P2 + 1 := by rw [← hW, hP2]; simp
        have kk0 : wf.cell? ⟨P2, 0, none⟩ = some (.slice xa2 p2 xc2) := by rw [← hW, hP2]; simp [go_sem]
        have kk1 : wf.cell? ⟨P2, 1, none⟩ = some (.slice xb2 r2 xd2) := by rw [← hW, hP2]; simp [go_sem]
        have oP2A : A ≤ P2 := by rw [hP2]; exact sA
        have oP20 : P0 < P2 := by rw [hP2]; exact zz0
        have oP21 : O0 < P2 := by rw [hP2]; exact zz1
        have oP22 : P1 < P2 := by rw [hP2]; exact zz2
        have d0 : wf.cell? ⟨P0, 0, none⟩ = some (.slice ga n gc) := (Below.celz nb _ _ _ (by omega)).trans cc0
        have d1 : wf.cell? ⟨P0, 1, none⟩ = some (.slice gb m gd) := (Below.celz nb _ _ _ (by omega)).trans cc1
        have d2 : wf.cell? ⟨O0, 0, none⟩ = some (.int .i64 2) := (Below.celz nb _ _ _ (by omega)).trans cc2
        have d3 : wf.cell? ⟨O0, 1, none⟩ = some (.int .i64 nl) := (Below.celz nb _ _ _ (by omega)).trans cc3
        have d4 : wf.cell? ⟨O0, 2, none⟩ = some (.int .i64 nn) := (Below.celz nb _ _ _ (by omega)).trans cc4
        have d5 : wf.cell? ⟨O0, 3, none⟩ = some (.int .i64 l) := (Below.celz nb _ _ _ (by omega)).trans cc5
        have d6 : wf.cell? ⟨O0, 4, none⟩ = some (.int .i64 al) := (Below.celz nb _ _ _ (by omega)).trans cc6
        have d7 : wf.cell? ⟨O0, 5, none⟩ = some (.int .i64 an) := (Below.celz nb _ _ _ (by omega)).trans cc7
        have d8 : wf.cell? ⟨O0, 6, none⟩ = some (.int .i64 bl) := (Below.celz nb _ _ _ (by omega)).trans cc8
        have d9 : wf.cell? ⟨O0, 7, none⟩ = some (.int .i64 bn) := (Below.celz nb _ _ _ (by omega)).trans cc9
        have d10 : wf.cell? ⟨P1, 0, none⟩ = some (.slice xa1 p1 xc1) := (Below.celz nb _ _ _ (by omega)).trans cc10
        have d11 : wf.cell? ⟨P1, 1, none⟩ = some (.slice xb1 r1 xd1) := (Below.celz nb _ _ _ (by omega)).trans cc11
        have y0 : P0 < wf.heap.size := by have := Below.size nb; omega
        have y1 : O0 < wf.heap.size := by have := Below.size nb; omega
        have y2 : P1 < wf.heap.size := by have := Below.size nb; omega
        have BB1 : Below A wa wf := BB.trans (nb.mono (by omega))
        have sA1 : A ≤ wf.heap.size := by have := Below.size nb; omega
        have q0 : Hid (GrAt wf (.slice xa1 p1 xc1) (.slice xb1 r1 xd1) X1N X1E) := HR1.out.keep nb
        have q1 : Hid (GrAt wf (.slice xa2 p2 xc2) (.slice xb2 r2 xd2) X1N X1E) := HR2.out.keep nb
        clear BB sA cc0 cc1 cc2 cc3 cc4 cc5 cc6 cc7 cc8 cc9 cc10 cc11 zz0 zz1 zz2 HR1 HR2
        have cc0 := d0
        have cc1 := d1
        have cc2 := d2
        have cc3 := d3
        have cc4 := d4
        have cc5 := d5
        have cc6 := d6
        have cc7 := d7
        have cc8 := d8
        have cc9 := d9
        have cc10 := d10
        have cc11 := d11
        have zz0 := y0
        have zz1 := y1
        have zz2 := y2
        have HR1 := q0
        have HR2 := q1
        have BB := BB1
        have sA := sA1
        clear BB1 sA1 d0 d1 d2 d3 d4 d5 d6 d7 d8 d9 d10 d11 y0 y1 y2 q0 q1
        have cc12 := kk0
        have cc13 := kk1
        have zz3 : P2 < wf.heap.size := by omega
        rw [← hP2]
        have k3P2 := k3
        clear k3 hW nb hP2 kk0 kk1
        rw [k3P2.symm]
        obtain ⟨Q0, hQ0⟩ : ∃ t, t = wf.heap.size := ⟨_, rfl⟩
        generalize hW : wf.alloc (.cells #[.int .i64 3, .int .i64 nl, .int .i64 nn, .int .i64 l, .int .i64 al, .int .i64 an, .int .i64 bl, .int .i64 bn] 32) = wg
        have nb : Below wf.heap.size wf wg := by rw [← hW]; exact (Below.refl _ _).alloc (Nat.le_refl _) _
        have k3 : wg.heap.size = Q0 + 1 := by rw [← hW, hQ0]; simp
        have kk0 : wg.cell? ⟨Q0, 0, none⟩ = some (.int .i64 3) := by rw [← hW, hQ0]; simp [go_sem]
        have kk1 : wg.cell? ⟨Q0, 1, none⟩ = some (.int .i64 nl) := by rw [← hW, hQ0]; simp [go_sem]
        have kk2 : wg.cell? ⟨Q0, 2, none⟩ = some (.int .i64 nn) := by rw [← hW, hQ0]; simp [go_sem]
        have kk3 : wg.cell? ⟨Q0, 3, none⟩ = some (.int .i64 l) := by rw [← hW, hQ0]; simp [go_sem]
        have kk4 : wg.cell? ⟨Q0, 4, none⟩ = some (.int .i64 al) := by rw [← hW, hQ0]; simp [go_sem]
        have kk5 : wg.cell? ⟨Q0, 5, none⟩ = some (.int .i64 an) := by rw [← hW, hQ0]; simp [go_sem]
        have kk6 : wg.cell? ⟨Q0, 6, none⟩ = some (.int .i64 bl) := by rw [← hW, hQ0]; simp [go_sem]
        have kk7 : wg.cell? ⟨Q0, 7, none⟩ = some (.int .i64 bn) := by rw [← hW, hQ0]; simp [go_sem]
        have oQ0A : A ≤ Q0 := by rw [hQ0]; exact sA
        have oQ00 : P0 < Q0 := by rw [hQ0]; exact zz0
        have oQ01 : O0 < Q0 := by rw [hQ0]; exact zz1
        have oQ02 : P1 < Q0 := by rw [hQ0]; exact zz2
        have oQ03 : P2 < Q0 := by rw [hQ0]; exact zz3
        have d0 : wg.cell? ⟨P0, 0, none⟩ = some (.slice ga n gc) := (Below.celz nb _ _ _ (by omega)).trans cc0
        have d1 : wg.cell? ⟨P0, 1, none⟩ = some (.slice gb m gd) := (Below.celz nb _ _ _ (by omega)).trans cc1
        have d2 : wg.cell? ⟨O0, 0, none⟩ = some (.int .i64 2) := (Below.celz nb _ _ _ (by omega)).trans cc2
        have d3 : wg.cell? ⟨O0, 1, none⟩ = some (.int .i64 nl) := (Below.celz nb _ _ _ (by omega)).trans cc3
        have d4 : wg.cell? ⟨O0, 2, none⟩ = some (.int .i64 nn) := (Below.celz nb _ _ _ (by omega)).trans cc4
        have d5 : wg.cell? ⟨O0, 3, none⟩ = some (.int .i64 l) := (Below.celz nb _ _ _ (by omega)).trans cc5
        have d6 : wg.cell? ⟨O0, 4, none⟩ = some (.int .i64 al) := (Below.celz nb _ _ _ (by omega)).trans cc6
        have d7 : wg.cell? ⟨O0, 5, none⟩ = some (.int .i64 an) := (Below.celz nb _ _ _ (by omega)).trans cc7
        have d8 : wg.cell? ⟨O0, 6, none⟩ = some (.int .i64 bl) := (Below.celz nb _ _ _ (by omega)).trans cc8
        have d9 : wg.cell? ⟨O0, 7, none⟩ = some (.int .i64 bn) := (Below.celz nb _ _ _ (by omega)).trans cc9
        have d10 : wg.cell? ⟨P1, 0, none⟩ = some (.slice xa1 p1 xc1) := (Below.celz nb _ _ _ (by omega)).trans cc10
        have d11 : wg.cell? ⟨P1, 1, none⟩ = some (.slice xb1 r1 xd1) := (Below.celz nb _ _ _ (by omega)).trans cc11
        have d12 : wg.cell? ⟨P2, 0, none⟩ = some (.slice xa2 p2 xc2) := (Below.celz nb _ _ _ (by omega)).trans cc12
        have d13 : wg.cell? ⟨P2, 1, none⟩ = some (.slice xb2 r2 xd2) := (Below.celz nb _ _ _ (by omega)).trans cc13
        have y0 : P0 < wg.heap.size := by have := Below.size nb; omega
        have y1 : O0 < wg.heap.size := by have := Below.size nb; omega
        have y2 : P1 < wg.heap.size := by have := Below.size nb; omega
        have y3 : P2 < wg.heap.size := by have := Below.size nb; omega
        have BB1 : Below A wa wg := BB.trans (nb.mono (by omega))
        have sA1 : A ≤ wg.heap.size := by have := Below.size nb; omega
        have q0 : Hid (GrAt wg (.slice xa1 p1 xc1) (.slice xb1 r1 xd1) X1N X1E) := HR1.out.keep nb
        have q1 : Hid (GrAt wg (.slice xa2 p2 xc2) (.slice xb2 r2 xd2) X1N X1E) := HR2.out.keep nb
        clear BB sA cc0 cc1 cc2 cc3 cc4 cc5 cc6 cc7 cc8 cc9 cc10 cc11 cc12 cc13 zz0 zz1 zz2 zz3 HR1 HR2
        have cc0 := d0
        have cc1 := d1
        have cc2 := d2
        have cc3 := d3
        have cc4 := d4
        have cc5 := d5
        have cc6 := d6
        have cc7 := d7
        have cc8 := d8
        have cc9 := d9
        have cc10 := d10
        have cc11 := d11
        have cc12 := d12
        have cc13 := d13
        have zz0 := y0
        have zz1 := y1
        have zz2 := y2
        have zz3 := y3
        have HR1 := q0
        have HR2 := q1
        have BB := BB1
        have sA := sA1
        clear BB1 sA1 d0 d1 d2 d3 d4 d5 d6 d7 d8 d9 d10 d11 d12 d13 y0 y1 y2 y3 q0 q1
        have cc14 := kk0
        have cc15 := kk1
        have cc16 := kk2
        have cc17 := kk3
        have cc18 := kk4
        have cc19 := kk5
        have cc20 := kk6
        have cc21 := kk7
        have zz4 : Q0 < wg.heap.size := by omega
        rw [← hQ0]
        have k3Q0 := k3
        clear k3 hW nb hQ0 kk0 kk1 kk2 kk3 kk4 kk5 kk6 kk7
        clear k3P2 k3Q0
        obtain ⟨X5N, hX⟩ : ∃ t, t = gdN X1N X1E 3 nl nn l al an bl bn := ⟨_, rfl⟩
        obtain ⟨X5E, hY⟩ : ∃ t, t = gdE X1N X1E 3 nl nn l al an bl bn := ⟨_, rfl⟩
        obtain ⟨X5C, hZ⟩ : ∃ t, t = gdC X1N X1E 3 nl nn l al an bl bn := ⟨_, rfl⟩
        have HX5 : Hid (X5N = gdN X1N X1E 3 nl nn l al an bl bn ∧ X5E = gdE X1N X1E 3 nl nn l al an bl bn ∧ X5C = gdC X1N X1E 3 nl nn l al an bl bn) := ⟨hX, hY, hZ⟩
        clear hX hY hZ
        have HEQ : Hid (X5C = 0 ∧ X5N = ns ∧ X5E = es) := by
          have h := gd_back HBG.out.1 HBG.out.2 (by decide)
          rw [show backK 2 = 3 from rfl, ← HX1.out.1, ← HX1.out.2.1, ← HX5.out.1, ← HX5.out.2.1, ← HX5.out.2.2] at h
          exact h
        have h50 := HEQ.out.1
        refine (gdo_impl _ _ X1N X1E 3 nl nn l al an bl bn _ HR1.out (HV.out _ BB).2.1).mono ?_
        rintro e wh ⟨u1, u2, rfl, og, bwh⟩
        have d0 : wh.cell? ⟨P0, 0, none⟩ = some (.slice ga n gc) := (Below.celz bwh _ _ _ (by omega)).trans cc0
        have d1 : wh.cell? ⟨P0, 1, none⟩ = some (.slice gb m gd) := (Below.celz bwh _ _ _ (by omega)).trans cc1
        have d2 : wh.cell? ⟨O0, 0, none⟩ = some (.int .i64 2) := (Below.celz bwh _ _ _ (by omega)).trans cc2
        have d3 : wh.cell? ⟨O0, 1, none⟩ = some (.int .i64 nl) := (Below.celz bwh _ _ _ (by omega)).trans cc3
        have d4 : wh.cell? ⟨O0, 2, none⟩ = some (.int .i64 nn) := (Below.celz bwh _ _ _ (by omega)).trans cc4
        have d5 : wh.cell? ⟨O0, 3, none⟩ = some (.int .i64 l) := (Below.celz bwh _ _ _ (by omega)).trans cc5
        have d6 : wh.cell? ⟨O0, 4, none⟩ = some (.int .i64 al) := (Below.celz bwh _ _ _ (by omega)).trans cc6
        have d7 : wh.cell? ⟨O0, 5, none⟩ = some (.int .i64 an) := (Below.celz bwh _ _ _ (by omega)).trans cc7
        have d8 : wh.cell? ⟨O0, 6, none⟩ = some (.int .i64 bl) := (Below.celz bwh _ _ _ (by omega)).trans cc8
        have d9 : wh.cell? ⟨O0, 7, none⟩ = some (.int .i64 bn) := (Below.celz bwh _ _ _ (by omega)).trans cc9
        have d10 : wh.cell? ⟨P1, 0, none⟩ = some (.slice xa1 p1 xc1) := (Below.celz bwh _ _ _ (by omega)).trans cc10
        have d11 : wh.cell? ⟨P1, 1, none⟩ = some (.slice xb1 r1 xd1) := (Below.celz bwh _ _ _ (by omega)).trans cc11
        have d12 : wh.cell? ⟨P2, 0, none⟩ = some (.slice xa2 p2 xc2) := (Below.celz bwh _ _ _ (by omega)).trans cc12
        have d13 : wh.cell? ⟨P2, 1, none⟩ = some (.slice xb2 r2 xd2) := (Below.celz bwh _ _ _ (by omega)).trans cc13
        have d14 : wh.cell? ⟨Q0, 0, none⟩ = some (.int .i64 3) := (Below.celz bwh _ _ _ (by omega)).trans cc14
        have d15 : wh.cell? ⟨Q0, 1, none⟩ = some (.int .i64 nl) := (Below.celz bwh _ _ _ (by omega)).trans cc15
        have d16 : wh.cell? ⟨Q0, 2, none⟩ = some (.int .i64 nn) := (Below.celz bwh _ _ _ (by omega)).trans cc16
        have d17 : wh.cell? ⟨Q0, 3, none⟩ = some (.int .i64 l) := (Below.celz bwh _ _ _ (by omega)).trans cc17
        have d18 : wh.cell? ⟨Q0, 4, none⟩ = some (.int .i64 al) := (Below.celz bwh _ _ _ (by omega)).trans cc18
        have d19 : wh.cell? ⟨Q0, 5, none⟩ = some (.int .i64 an) := (Below.celz bwh _ _ _ (by omega)).trans cc19
        have d20 : wh.cell? ⟨Q0, 6, none⟩ = some (.int .i64 bl) := (Below.celz bwh _ _ _ (by omega)).trans cc20
        have d21 : wh.cell? ⟨Q0, 7, none⟩ = some (.int .i64 bn) := (Below.celz bwh _ _ _ (by omega)).trans cc21
        have y0 : P0 < wh.heap.size := by have := Below.size bwh; omega
        have y1 : O0 < wh.heap.size := by have := Below.size bwh; omega
        have y2 : P1 < wh.heap.size := by have := Below.size bwh; omega
        have y3 : P2 < wh.heap.size := by have := Below.size bwh; omega
        have y4 : Q0 < wh.heap.size := by have := Below.size bwh; omega
        have BB1 : Below A wa wh := BB.trans (bwh.mono (by omega))
        have sA1 : A ≤ wh.heap.size := by have := Below.size bwh; omega
        have q0 : Hid (GrAt wh (.slice xa1 p1 xc1) (.slice xb1 r1 xd1) X1N X1E) := HR1.out.keep bwh
        have q1 : Hid (GrAt wh (.slice xa2 p2 xc2) (.slice xb2 r2 xd2) X1N X1E) := HR2.out.keep bwh
        clear BB sA cc0 cc1 cc2 cc3 cc4 cc5 cc6 cc7 cc8 cc9 cc10 cc11 cc12 cc13 cc14 cc15 cc16 cc17 cc18 cc19 cc20 cc21 zz0 zz1 zz2 zz3 zz4 HR1 HR2
        have cc0 := d0
        have cc1 := d1
        have cc2 := d2
        have cc3 := d3
        have cc4 := d4
        have cc5 := d5
        have cc6 := d6
        have cc7 := d7
        have cc8 := d8
        have cc9 := d9
        have cc10 := d10
        have cc11 := d11
        have cc12 := d12
        have cc13 := d13
        have cc14 := d14
        have cc15 := d15
        have cc16 := d16
        have cc17 := d17
        have cc18 := d18
        have cc19 := d19
        have cc20 := d20
        have cc21 := d21
        have zz0 := y0
        have zz1 := y1
        have zz2 := y2
        have zz3 := y3
        have zz4 := y4
        have HR1 := q0
        have HR2 := q1
        have BB := BB1
        have sA := sA1
        clear BB1 sA1 d0 d1 d2 d3 d4 d5 d6 d7 d8 d9 d10 d11 d12 d13 d14 d15 d16 d17 d18 d19 d20 d21 y0 y1 y2 y3 y4 q0 q1
        clear bwh
        rw [← HX5.out.1, ← HX5.out.2.1] at og
        rw [← HX5.out.2.2]
        obtain ⟨xa5, xc5, xb5, xd5, rfl, rfl⟩ := og.form
        obtain ⟨p5, hp⟩ : ∃ t, t = X5N.length := ⟨_, rfl⟩
        obtain ⟨r5, hr⟩ : ∃ t, t = X5E.length := ⟨_, rfl⟩
        have HL5 : Hid (p5 = X5N.length ∧ r5 = X5E.length) := ⟨hp, hr⟩
        have lp5 : p5 ≤ 200 := by rw [hp]; exact og.2.2.1
        have lr5 : r5 ≤ 200 := by rw [hr]; exact og.2.2.2
        rw [← hp, ← hr] at og ⊢
        clear hp hr
        have HR5 : Hid (GrAt wh (.slice xa5 p5 xc5) (.slice xb5 r5 xd5) X5N X5E) := og
        clear og
        subst h50
        go_wp2_with fail
        obtain ⟨P5, hP5⟩ : ∃ t, t = wh.heap.size := ⟨_, rfl⟩
        generalize hW : wh.alloc (.cells #[.slice xa5 p5 xc5, .slice xb5 r5 xd5] 26) = wi
        have nb : Below wh.heap.size wh wi := by rw [← hW]; exact (Below.refl _ _).alloc (Nat.le_refl _) _
        have k3 : wi.heap.size = P5 + 1 := by rw [← hW, hP5]; simp
        have kk0 : wi.cell? ⟨P5, 0, none⟩ = some (.slice xa5 p5 xc5) := by rw [← hW, hP5]; simp [go_sem]
        have kk1 : wi.cell? ⟨P5, 1, none⟩ = some (.slice xb5 r5 xd5) := by rw [← hW, hP5]; simp [go_sem]
        have oP5A : A ≤ P5 := by rw [hP5]; exact sA
        have oP50 : P0 < P5 := by rw [hP5]; exact zz0
        have oP51 : O0 < P5 := by rw [hP5]; exact zz1
        have oP52 : P1 < P5 := by rw [hP5]; exact zz2
        have oP53 : P2 < P5 := by rw [hP5]; exact zz3
        have oP54 : Q0 < P5 := by rw [hP5]; exact zz4
        have d0 : wi.cell? ⟨P0, 0, none⟩ = some (.slice ga n gc) := (Below.celz nb _ _ _ (by omega)).trans cc0
        have d1 : wi.cell? ⟨P0, 1, none⟩ = some (.slice gb m gd) := (Below.celz nb _ _ _ (by omega)).trans cc1
        have d2 : wi.cell? ⟨O0, 0, none⟩ = some (.int .i64 2) := (Below.celz nb _ _ _ (by omega)).trans cc2
        have d3 : wi.cell? ⟨O0, 1, none⟩ = some (.int .i64 nl) := (Below.celz nb _ _ _ (by omega)).trans cc3
        have d4 : wi.cell? ⟨O0, 2, none⟩ = some (.int .i64 nn) := (Below.celz nb _ _ _ (by omega)).trans cc4
        have d5 : wi.cell? ⟨O0, 3, none⟩ = some (.int .i64 l) := (Below.celz nb _ _ _ (by omega)).trans cc5
        have d6 : wi.cell? ⟨O0, 4, none⟩ = some (.int .i64 al) := (Below.celz nb _ _ _ (by omega)).trans cc6
        have d7 : wi.cell? ⟨O0, 5, none⟩ = some (.int .i64 an) := (Below.celz nb _ _ _ (by omega)).trans cc7
        have d8 : wi.cell? ⟨O0, 6, none⟩ = some (.int .i64 bl) := (Below.celz nb _ _ _ (by omega)).trans cc8
        have d9 : wi.cell? ⟨O0, 7, none⟩ = some (.int .i64 bn) := (Below.celz nb _ _ _ (by omega)).trans cc9
        have d10 : wi.cell? ⟨P1, 0, none⟩ = some (.slice xa1 p1 xc1) := (Below.celz nb _ _ _ (by omega)).trans cc10
        have d11 : wi.cell? ⟨P1, 1, none⟩ = some (.slice xb1 r1 xd1) := (Below.celz nb _ _ _ (by omega)).trans cc11
        have d12 : wi.cell? ⟨P2, 0, none⟩ = some (.slice xa2 p2 xc2) := (Below.celz nb _ _ _ (by omega)).trans cc12
        have d13 : wi.cell? ⟨P2, 1, none⟩ = some (.slice xb2 r2 xd2) := (Below.celz nb _ _ _ (by omega)).trans cc13
        have d14 : wi.cell? ⟨Q0, 0, none⟩ = some (.int .i64 3) := (Below.celz nb _ _ _ (by omega)).trans cc14
        have d15 : wi.cell? ⟨Q0, 1, none⟩ = some (.int .i64 nl) := (Below.celz nb _ _ _ (by omega)).trans cc15
        have d16 : wi.cell? ⟨Q0, 2, none⟩ = some (.int .i64 nn) := (Below.celz nb _ _ _ (by omega)).trans cc16
        have d17 : wi.cell? ⟨Q0, 3, none⟩ = some (.int .i64 l) := (Below.celz nb _ _ _ (by omega)).trans cc17
        have d18 : wi.cell? ⟨Q0, 4, none⟩ = some (.int .i64 al) := (Below.celz nb _ _ _ (by omega)).trans cc18
        have d19 : wi.cell? ⟨Q0, 5, none⟩ = some (.int .i64 an) := (Below.celz nb _ _ _ (by omega)).trans cc19
        have d20 : wi.cell? ⟨Q0, 6, none⟩ = some (.int .i64 bl) := (Below.celz nb _ _ _ (by omega)).trans cc20
        have d21 : wi.cell? ⟨Q0, 7, none⟩ = some (.int .i64 bn) := (Below.celz nb _ _ _ (by omega)).trans cc21
        have y0 : P0 < wi.heap.size := by have := Below.size nb; omega
        have y1 : O0 < wi.heap.size := by have := Below.size nb; omega
        have y2 : P1 < wi.heap.size := by have := Below.size nb; omega
        have y3 : P2 < wi.heap.size := by have := Below.size nb; omega
        have y4 : Q0 < wi.heap.size := by have := Below.size nb; omega
        have BB1 : Below A wa wi := BB.trans (nb.mono (by omega))
        have sA1 : A ≤ wi.heap.size := by have := Below.size nb; omega
        have q0 : Hid (GrAt wi (.slice xa1 p1 xc1) (.slice xb1 r1 xd1) X1N X1E) := HR1.out.keep nb
        have q1 : Hid (GrAt wi (.slice xa2 p2 xc2) (.slice xb2 r2 xd2) X1N X1E) := HR2.out.keep nb
        have q2 : Hid (GrAt wi (.slice xa5 p5 xc5) (.slice xb5 r5 xd5) X5N X5E) := HR5.out.keep nb
        clear BB sA cc0 cc1 cc2 cc3 cc4 cc5 cc6 cc7 cc8 cc9 cc10 cc11 cc12 cc13 cc14 cc15 cc16 cc17 cc18 cc19 cc20 cc21 zz0 zz1 zz2 zz3 zz4 HR1 HR2 HR5
        have cc0 := d0
        have cc1 := d1
        have cc2 := d2
        have cc3 := d3
        have cc4 := d4
        have cc5 := d5
        have cc6 := d6
        have cc7 := d7
        have cc8 := d8
        have cc9 := d9
        have cc10 := d10
        have cc11 := d11
        have cc12 := d12
        have cc13 := d13
        have cc14 := d14
        have cc15 := d15
        have cc16 := d16
        have cc17 := d17
        have cc18 := d18
        have cc19 := d19
        have cc20 := d20
        have cc21 := d21
        have zz0 := y0
        have zz1 := y1
        have zz2 := y2
        have zz3 := y3
        have zz4 := y4
        have HR1 := q0
        have HR2 := q1
        have HR5 := q2
        have BB := BB1
        have sA := sA1
        clear BB1 sA1 d0 d1 d2 d3 d4 d5 d6 d7 d8 d9 d10 d11 d12 d13 d14 d15 d16 d17 d18 d19 d20 d21 y0 y1 y2 y3 y4 q0 q1 q2
        have cc22 := kk0
        have cc23 := kk1
        have zz5 : P5 < wi.heap.size := by omega
        rw [← hP5]
        have k3P5 := k3
        clear k3 hW nb hP5 kk0 kk1
        clear k3P5
        refine (gs_same _ _ _ _ X5N ns X5E es HEQ.out.2.1 HEQ.out.2.2 _ HR5.out (HV.out _ BB).1).mono ?_
        rintro e wj ⟨rfl, bz⟩
        have d0 : wj.cell? ⟨P0, 0, none⟩ = some (.slice ga n gc) := (Below.celz bz _ _ _ (by omega)).trans cc0
        have d1 : wj.cell? ⟨P0, 1, none⟩ = some (.slice gb m gd) := (Below.celz bz _ _ _ (by omega)).trans cc1
        have d2 : wj.cell? ⟨O0, 0, none⟩ = some (.int .i64 2) := (Below.celz bz _ _ _ (by omega)).trans cc2
        have d3 : wj.cell? ⟨O0, 1, none⟩ = some (.int .i64 nl) := (Below.celz bz _ _ _ (by omega)).trans cc3
        have d4 : wj.cell? ⟨O0, 2, none⟩ = some (.int .i64 nn) := (Below.celz bz _ _ _ (by omega)).trans cc4
        have d5 : wj.cell? ⟨O0, 3, none⟩ = some (.int .i64 l) := (Below.celz bz _ _ _ (by omega)).trans cc5
        have d6 : wj.cell? ⟨O0, 4, none⟩ = some (.int .i64 al) := (Below.celz bz _ _ _ (by omega)).trans cc6
        have d7 : wj.cell? ⟨O0, 5, none⟩ = some (.int .i64 an) := (Below.celz bz _ _ _ (by omega)).trans cc7
        have d8 : wj.cell? ⟨O0, 6, none⟩ = some (.int .i64 bl) := (Below.celz bz _ _ _ (by omega)).trans cc8
        have d9 : wj.cell? ⟨O0, 7, none⟩ = some (.int .i64 bn) := (Below.celz bz _ _ _ (by omega)).trans cc9
        have d10 : wj.cell? ⟨P1, 0, none⟩ = some (.slice xa1 p1 xc1) := (Below.celz bz _ _ _ (by omega)).trans cc10
        have d11 : wj.cell? ⟨P1, 1, none⟩ = some (.slice xb1 r1 xd1) := (Below.celz bz _ _ _ (by omega)).trans cc11
        have d12 : wj.cell? ⟨P2, 0, none⟩ = some (.slice xa2 p2 xc2) := (Below.celz bz _ _ _ (by omega)).trans cc12
        have d13 : wj.cell? ⟨P2, 1, none⟩ = some (.slice xb2 r2 xd2) := (Below.celz bz _ _ _ (by omega)).trans cc13
        have d14 : wj.cell? ⟨Q0, 0, none⟩ = some (.int .i64 3) := (Below.celz bz _ _ _ (by omega)).trans cc14
        have d15 : wj.cell? ⟨Q0, 1, none⟩ = some (.int .i64 nl) := (Below.celz bz _ _ _ (by omega)).trans cc15
        have d16 : wj.cell? ⟨Q0, 2, none⟩ = some (.int .i64 nn) := (Below.celz bz _ _ _ (by omega)).trans cc16
        have d17 : wj.cell? ⟨Q0, 3, none⟩ = some (.int .i64 l) := (Below.celz bz _ _ _ (by omega)).trans cc17
        have d18 : wj.cell? ⟨Q0, 4, none⟩ = some (.int .i64 al) := (Below.celz bz _ _ _ (by omega)).trans cc18
        have d19 : wj.cell? ⟨Q0, 5, none⟩ = some (.int .i64 an) := (Below.celz bz _ _ _ (by omega)).trans cc19
        have d20 : wj.cell? ⟨Q0, 6, none⟩ = some (.int .i64 bl) := (Below.celz bz _ _ _ (by omega)).trans cc20
        have d21 : wj.cell? ⟨Q0, 7, none⟩ = some (.int .i64 bn) := (Below.celz bz _ _ _ (by omega)).trans cc21
        have d22 : wj.cell? ⟨P5, 0, none⟩ = some (.slice xa5 p5 xc5) := (Below.celz bz _ _ _ (by omega)).trans cc22
        have d23 : wj.cell? ⟨P5, 1, none⟩ = some (.slice xb5 r5 xd5) := (Below.celz bz _ _ _ (by omega)).trans cc23
        have y0 : P0 < wj.heap.size := by have := Below.size bz; omega
        have y1 : O0 < wj.heap.size := by have := Below.size bz; omega
        have y2 : P1 < wj.heap.size := by have := Below.size bz; omega
        have y3 : P2 < wj.heap.size := by have := Below.size bz; omega
        have y4 : Q0 < wj.heap.size := by have := Below.size bz; omega
        have y5 : P5 < wj.heap.size := by have := Below.size bz; omega
        have BB1 : Below A wa wj := BB.trans (bz.mono (by omega))
        have sA1 : A ≤ wj.heap.size := by have := Below.size bz; omega
        have q0 : Hid (GrAt wj (.slice xa1 p1 xc1) (.slice xb1 r1 xd1) X1N X1E) := HR1.out.keep bz
        have q1 : Hid (GrAt wj (.slice xa2 p2 xc2) (.slice xb2 r2 xd2) X1N X1E) := HR2.out.keep bz
        have q2 : Hid (GrAt wj (.slice xa5 p5 xc5) (.slice xb5 r5 xd5) X5N X5E) := HR5.out.keep bz
        clear BB sA cc0 cc1 cc2 cc3 cc4 cc5 cc6 cc7 cc8 cc9 cc10 cc11 cc12 cc13 cc14 cc15 cc16 cc17 cc18 cc19 cc20 cc21 cc22 cc23 zz0 zz1 zz2 zz3 zz4 zz5 HR1 HR2 HR5
        have cc0 := d0
        have cc1 := d1
        have cc2 := d2
        have cc3 := d3
        have cc4 := d4
        have cc5 := d5
        have cc6 := d6
        have cc7 := d7
        have cc8 := d8
        have cc9 := d9
        have cc10 := d10
        have cc11 := d11
        have cc12 := d12
        have cc13 := d13
        have cc14 := d14
        have cc15 := d15
        have cc16 := d16
        have cc17 := d17
        have cc18 := d18
        have cc19 := d19
        have cc20 := d20
        have cc21 := d21
        have cc22 := d22
        have cc23 := d23
        have zz0 := y0
        have zz1 := y1
        have zz2 := y2
        have zz3 := y3
        have zz4 := y4
        have zz5 := y5
        have HR1 := q0
        have HR2 := q1
        have HR5 := q2
        have BB := BB1
        have sA := sA1
        clear BB1 sA1 d0 d1 d2 d3 d4 d5 d6 d7 d8 d9 d10 d11 d12 d13 d14 d15 d16 d17 d18 d19 d20 d21 d22 d23 y0 y1 y2 y3 y4 y5 q0 q1 q2
        clear bz
        go_wp2_with fail
        go_ret
        exact ⟨rfl, (HV.out _ BB).2.2.1⟩
      · go_wp2_with fail
        obtain ⟨P2, hP2⟩ : ∃ t, t = we.heap.size := ⟨_, rfl⟩
        generalize hW : we.alloc (.cells #[.slice xa2 p2 xc2, .slice xb2 r2 xd2] 26) = wf
        have nb : Below we.heap.size we wf := by rw [← hW]; exact (Below.refl _ _).alloc (Nat.le_refl _) _
        have k3 : wf.heap.size = P2 + 1 := by rw [← hW, hP2]; simp
        have kk0 : wf.cell? ⟨P2, 0, none⟩ = some (.slice xa2 p2 xc2) := by rw [← hW, hP2]; simp [go_sem]
        have kk1 : wf.cell? ⟨P2, 1, none⟩ = some (.slice xb2 r2 xd2) := by rw [← hW, hP2]; simp [go_sem]
        have oP2A : A ≤ P2 := by rw [hP2]; exact sA
        have oP20 : P0 < P2 := by rw [hP2]; exact zz0
        have oP21 : O0 < P2 := by rw [hP2]; exact zz1
        have oP22 : P1 < P2 := by rw [hP2]; exact zz2
        have d0 : wf.cell? ⟨P0, 0, none⟩ = some (.slice ga n gc) := (Below.celz nb _ _ _ (by omega)).trans cc0
        have d1 : wf.cell? ⟨P0, 1, none⟩ = some (.slice gb m gd) := (Below.celz nb _ _ _ (by omega)).trans cc1
        have d2 : wf.cell? ⟨O0, 0, none⟩ = some (.int .i64 3) := (Below.celz nb _ _ _ (by omega)).trans cc2
        have d3 : wf.cell? ⟨O0, 1, none⟩ = some (.int .i64 nl) := (Below.celz nb _ _ _ (by omega)).trans cc3
        have d4 : wf.cell? ⟨O0, 2, none⟩ = some (.int .i64 nn) := (Below.celz nb _ _ _ (by omega)).trans cc4
        have d5 : wf.cell? ⟨O0, 3, none⟩ = some (.int .i64 l) := (Below.celz nb _ _ _ (by omega)).trans cc5
        have d6 : wf.cell? ⟨O0, 4, none⟩ = some (.int .i64 al) := (Below.celz nb _ _ _ (by omega)).trans cc6
        have d7 : wf.cell? ⟨O0, 5, none⟩ = some (.int .i64 an) := (Below.celz nb _ _ _ (by omega)).trans cc7
        have d8 : wf.cell? ⟨O0, 6, none⟩ = some (.int .i64 bl) := (Below.celz nb _ _ _ (by omega)).trans cc8
        have d9 : wf.cell? ⟨O0, 7, none⟩ = some (.int .i64 bn) := (Below.celz nb _ _ _ (by omega)).trans cc9
        have d10 : wf.cell? ⟨P1, 0, none⟩ = some (.slice xa1 p1 xc1) := (Below.celz nb _ _ _ (by omega)).trans cc10
        have d11 : wf.cell? ⟨P1, 1, none⟩ = some (.slice xb1 r1 xd1) := (Below.celz nb _ _ _ (by omega)).trans cc11
        have y0 : P0 < wf.heap.size := by have := Below.size nb; omega
        have y1 : O0 < wf.heap.size := by have := Below.size nb; omega
        have y2 : P1 < wf.heap.size := by have := Below.size nb; omega
        have BB1 : Below A wa wf := BB.trans (nb.mono (by omega))
        have sA1 : A ≤ wf.heap.size := by have := Below.size nb; omega
        have q0 : Hid (GrAt wf (.slice xa1 p1 xc1) (.slice xb1 r1 xd1) X1N X1E) := HR1.out.keep nb
        have q1 : Hid (GrAt wf (.slice xa2 p2 xc2) (.slice xb2 r2 xd2) X1N X1E) := HR2.out.keep nb
        clear BB sA cc0 cc1 cc2 cc3 cc4 cc5 cc6 cc7 cc8 cc9 cc10 cc11 zz0 zz1 zz2 HR1 HR2
        have cc0 := d0
        have cc1 := d1
        have cc2 := d2
        have cc3 := d3
        have cc4 := d4
        have cc5 := d5
        have cc6 := d6
        have cc7 := d7
        have cc8 := d8
        have cc9 := d9
        have cc10 := d10
        have cc11 := d11
        have zz0 := y0
        have zz1 := y1
        have zz2 := y2
        have HR1 := q0
        have HR2 := q1
        have BB := BB1
        have sA := sA1
        clear BB1 sA1 d0 d1 d2 d3 d4 d5 d6 d7 d8 d9 d10 d11 y0 y1 y2 q0 q1
        have cc12 := kk0
        have cc13 := kk1
        have zz3 : P2 < wf.heap.size := by omega
        rw [← hP2]
        have k3P2 := k3
        clear k3 hW nb hP2 kk0 kk1
        rw [k3P2.symm]
        obtain ⟨Q0, hQ0⟩ : ∃ t, t = wf.heap.size := ⟨_, rfl⟩
        generalize hW : wf.alloc (.cells #[.int .i64 2, .int .i64 nl, .int .i64 nn, .int .i64 l, .int .i64 al, .int .i64 an, .int .i64 bl, .int .i64 bn] 32) = wg
        have nb : Below wf.heap.size wf wg := by rw [← hW]; exact (Below.refl _ _).alloc (Nat.le_refl _) _
        have k3 : wg.heap.size = Q0 + 1 := by rw [← hW, hQ0]; simp
        have kk0 : wg.cell? ⟨Q0, 0, none⟩ = some (.int .i64 2) := by rw [← hW, hQ0]; simp [go_sem]
        have kk1 : wg.cell? ⟨Q0, 1, none⟩ = some (.int .i64 nl) := by rw [← hW, hQ0]; simp [go_sem]
        have kk2 : wg.cell? ⟨Q0, 2, none⟩ = some (.int .i64 nn) := by rw [← hW, hQ0]; simp [go_sem]
        have kk3 : wg.cell? ⟨Q0, 3, none⟩ = some (.int .i64 l) := by rw [← hW, hQ0]; simp [go_sem]
        have kk4 : wg.cell? ⟨Q0, 4, none⟩ = some (.int .i64 al) := by rw [← hW, hQ0]; simp [go_sem]
        have kk5 : wg.cell? ⟨Q0, 5, none⟩ = some (.int .i64 an) := by rw [← hW, hQ0]; simp [go_sem]
        have kk6 : wg.cell? ⟨Q0, 6, none⟩ = some (.int .i64 bl) := by rw [← hW, hQ0]; simp [go_sem]
        have kk7 : wg.cell? ⟨Q0, 7, none⟩ = some (.int .i64 bn) := by rw [← hW, hQ0]; simp [go_sem]
        have oQ0A : A ≤ Q0 := by rw [hQ0]; exact sA
        have oQ00 : P0 < Q0 := by rw [hQ0]; exact zz0
        have oQ01 : O0 < Q0 := by rw [hQ0]; exact zz1
        have oQ02 : P1 < Q0 := by rw [hQ0]; exact zz2
        have oQ03 : P2 < Q0 := by rw [hQ0]; exact zz3
        have d0 : wg.cell? ⟨P0, 0, none⟩ = some (.slice ga n gc) := (Below.celz nb _ _ _ (by omega)).trans cc0
        have d1 : wg.cell? ⟨P0, 1, none⟩ = some (.slice gb m gd) := (Below.celz nb _ _ _ (by omega)).trans cc1
        have d2 : wg.cell? ⟨O0, 0, none⟩ = some (.int .i64 3) := (Below.celz nb _ _ _ (by omega)).trans cc2
        have d3 : wg.cell? ⟨O0, 1, none⟩ = some (.int .i64 nl) := (Below.celz nb _ _ _ (by omega)).trans cc3
        have d4 : wg.cell? ⟨O0, 2, none⟩ = some (.int .i64 nn) := (Below.celz nb _ _ _ (by omega)).trans cc4
        have d5 : wg.cell? ⟨O0, 3, none⟩ = some (.int .i64 l) := (Below.celz nb _ _ _ (by omega)).trans cc5
        have d6 : wg.cell? ⟨O0, 4, none⟩ = some (.int .i64 al) := (Below.celz nb _ _ _ (by omega)).trans cc6
        have d7 : wg.cell? ⟨O0, 5, none⟩ = some (.int .i64 an) := (Below.celz nb _ _ _ (by omega)).trans cc7
        have d8 : wg.cell? ⟨O0, 6, none⟩ = some (.int .i64 bl) := (Below.celz nb _ _ _ (by omega)).trans cc8
        have d9 : wg.cell? ⟨O0, 7, none⟩ = some (.int .i64 bn) := (Below.celz nb _ _ _ (by omega)).trans cc9
        have d10 : wg.cell? ⟨P1, 0, none⟩ = some (.slice xa1 p1 xc1) := (Below.celz nb _ _ _ (by omega)).trans cc10
        have d11 : wg.cell? ⟨P1, 1, none⟩ = some (.slice xb1 r1 xd1) := (Below.celz nb _ _ _ (by omega)).trans cc11
        have d12 : wg.cell? ⟨P2, 0, none⟩ = some (.slice xa2 p2 xc2) := (Below.celz nb _ _ _ (by omega)).trans cc12
        have d13 : wg.cell? ⟨P2, 1, none⟩ = some (.slice xb2 r2 xd2) := (Below.celz nb _ _ _ (by omega)).trans cc13
        have y0 : P0 < wg.heap.size := by have := Below.size nb; omega
        have y1 : O0 < wg.heap.size := by have := Below.size nb; omega
        have y2 : P1 < wg.heap.size := by have := Below.size nb; omega
        have y3 : P2 < wg.heap.size := by have := Below.size nb; omega
        have BB1 : Below A wa wg := BB.trans (nb.mono (by omega))
        have sA1 : A ≤ wg.heap.size := by have := Below.size nb; omega
        have q0 : Hid (GrAt wg (.slice xa1 p1 xc1) (.slice xb1 r1 xd1) X1N X1E) := HR1.out.keep nb
        have q1 : Hid (GrAt wg (.slice xa2 p2 xc2) (.slice xb2 r2 xd2) X1N X1E) := HR2.out.keep nb
        clear BB sA cc0 cc1 cc2 cc3 cc4 cc5 cc6 cc7 cc8 cc9 cc10 cc11 cc12 cc13 zz0 zz1 zz2 zz3 HR1 HR2
        have cc0 := d0
        have cc1 := d1
        have cc2 := d2
        have cc3 := d3
        have cc4 := d4
        have cc5 := d5
        have cc6 := d6
        have cc7 := d7
        have cc8 := d8
        have cc9 := d9
        have cc10 := d10
        have cc11 := d11
        have cc12 := d12
        have cc13 := d13
        have zz0 := y0
        have zz1 := y1
        have zz2 := y2
        have zz3 := y3
        have HR1 := q0
        have HR2 := q1
        have BB := BB1
        have sA := sA1
        clear BB1 sA1 d0 d1 d2 d3 d4 d5 d6 d7 d8 d9 d10 d11 d12 d13 y0 y1 y2 y3 q0 q1
        have cc14 := kk0
        have cc15 := kk1
        have cc16 := kk2
        have cc17 := kk3
        have cc18 := kk4
        have cc19 := kk5
        have cc20 := kk6
        have cc21 := kk7
        have zz4 : Q0 < wg.heap.size := by omega
        rw [← hQ0]
        have k3Q0 := k3
        clear k3 hW nb hQ0 kk0 kk1 kk2 kk3 kk4 kk5 kk6 kk7
        clear k3P2 k3Q0
        obtain ⟨X5N, hX⟩ : ∃ t, t = gdN X1N X1E 2 nl nn l al an bl bn := ⟨_, rfl⟩
        obtain ⟨X5E, hY⟩ : ∃ t, t = gdE X1N X1E 2 nl nn l al an bl bn := ⟨_, rfl⟩
        obtain ⟨X5C, hZ⟩ : ∃ t, t = gdC X1N X1E 2 nl nn l al an bl bn := ⟨_, rfl⟩
        have HX5 : Hid (X5N = gdN X1N X1E 2 nl nn l al an bl bn ∧ X5E = gdE X1N X1E 2 nl nn l al an bl bn ∧ X5C = gdC X1N X1E 2 nl nn l al an bl bn) := ⟨hX, hY, hZ⟩
        clear hX hY hZ
        have HEQ : Hid (X5C = 0 ∧ X5N = ns ∧ X5E = es) := by
          have h := gd_back HBG.out.1 HBG.out.2 (by decide)
          rw [show backK 3 = 2 from rfl, ← HX1.out.1, ← HX1.out.2.1, ← HX5.out.1, ← HX5.out.2.1, ← HX5.out.2.2] at h
          exact h
        have h50 := HEQ.out.1
        refine (gdo_impl _ _ X1N X1E 2 nl nn l al an bl bn _ HR1.out (HV.out _ BB).2.1).mono ?_
        rintro e wh ⟨u1, u2, rfl, og, bwh⟩
        have d0 : wh.cell? ⟨P0, 0, none⟩ = some (.slice ga n gc) := (Below.celz bwh _ _ _ (by omega)).trans cc0
        have d1 : wh.cell? ⟨P0, 1, none⟩ = some (.slice gb m gd) := (Below.celz bwh _ _ _ (by omega)).trans cc1
        have d2 : wh.cell? ⟨O0, 0, none⟩ = some (.int .i64 3) := (Below.celz bwh _ _ _ (by omega)).trans cc2
        have d3 : wh.cell? ⟨O0, 1, none⟩ = some (.int .i64 nl) := (Below.celz bwh _ _ _ (by omega)).trans cc3
        have d4 : wh.cell? ⟨O0, 2, none⟩ = some (.int .i64 nn) := (Below.celz bwh _ _ _ (by omega)).trans cc4
        have d5 : wh.cell? ⟨O0, 3, none⟩ = some (.int .i64 l) := (Below.celz bwh _ _ _ (by omega)).trans cc5
        have d6 : wh.cell? ⟨O0, 4, none⟩ = some (.int .i64 al) := (Below.celz bwh _ _ _ (by omega)).trans cc6
        have d7 : wh.cell? ⟨O0, 5, none⟩ = some (.int .i64 an) := (Below.celz bwh _ _ _ (by omega)).trans cc7
        have d8 : wh.cell? ⟨O0, 6, none⟩ = some (.int .i64 bl) := (Below.celz bwh _ _ _ (by omega)).trans cc8
        have d9 : wh.cell? ⟨O0, 7, none⟩ = some (.int .i64 bn) := (Below.celz bwh _ _ _ (by omega)).trans cc9
        have d10 : wh.cell? ⟨P1, 0, none⟩ = some (.slice xa1 p1 xc1) := (Below.celz bwh _ _ _ (by omega)).trans cc10
        have d11 : wh.cell? ⟨P1, 1, none⟩ = some (.slice xb1 r1 xd1) := (Below.celz bwh _ _ _ (by omega)).trans cc11
        have d12 : wh.cell? ⟨P2, 0, none⟩ = some (.slice xa2 p2 xc2) := (Below.celz bwh _ _ _ (by omega)).trans cc12
        have d13 : wh.cell? ⟨P2, 1, none⟩ = some (.slice xb2 r2 xd2) := (Below.celz bwh _ _ _ (by omega)).trans cc13
        have d14 : wh.cell? ⟨Q0, 0, none⟩ = some (.int .i64 2) := (Below.celz bwh _ _ _ (by omega)).trans cc14
        have d15 : wh.cell? ⟨Q0, 1, none⟩ = some (.int .i64 nl) := (Below.celz bwh _ _ _ (by omega)).trans cc15
        have d16 : wh.cell? ⟨Q0, 2, none⟩ = some (.int .i64 nn) := (Below.celz bwh _ _ _ (by omega)).trans cc16
        have d17 : wh.cell? ⟨Q0, 3, none⟩ = some (.int .i64 l) := (Below.celz bwh _ _ _ (by omega)).trans cc17
        have d18 : wh.cell? ⟨Q0, 4, none⟩ = some (.int .i64 al) := (Below.celz bwh _ _ _ (by omega)).trans cc18
        have d19 : wh.cell? ⟨Q0, 5, none⟩ = some (.int .i64 an) := (Below.celz bwh _ _ _ (by omega)).trans cc19
        have d20 : wh.cell? ⟨Q0, 6, none⟩ = some (.int .i64 bl) := (Below.celz bwh _ _ _ (by omega)).trans cc20
        have d21 : wh.cell? ⟨Q0, 7, none⟩ = some (.int .i64 bn) := (Below.celz bwh _ _ _ (by omega)).trans cc21
        have y0 : P0 < wh.heap.size := by have := Below.size bwh; omega
        have y1 : O0 < wh.heap.size := by have := Below.size bwh; omega
        have y2 : P1 < wh.heap.size := by have := Below.size bwh; omega
        have y3 : P2 < wh.heap.size := by have := Below.size bwh; omega
        have y4 : Q0 < wh.heap.size := by have := Below.size bwh; omega
        have BB1 : Below A wa wh := BB.trans (bwh.mono (by omega))
        have sA1 : A ≤ wh.heap.size := by have := Below.size bwh; omega
        have q0 : Hid (GrAt wh (.slice xa1 p1 xc1) (.slice xb1 r1 xd1) X1N X1E) := HR1.out.keep bwh
        have q1 : Hid (GrAt wh (.slice xa2 p2 xc2) (.slice xb2 r2 xd2) X1N X1E) := HR2.out.keep bwh
        clear BB sA cc0 cc1 cc2 cc3 cc4 cc5 cc6 cc7 cc8 cc9 cc10 cc11 cc12 cc13 cc14 cc15 cc16 cc17 cc18 cc19 cc20 cc21 zz0 zz1 zz2 zz3 zz4 HR1 HR2
        have cc0 := d0
        have cc1 := d1
        have cc2 := d2
        have cc3 := d3
        have cc4 := d4
        have cc5 := d5
        have cc6 := d6
        have cc7 := d7
        have cc8 := d8
        have cc9 := d9
        have cc10 := d10
        have cc11 := d11
        have cc12 := d12
        have cc13 := d13
        have cc14 := d14
        have cc15 := d15
        have cc16 := d16
        have cc17 := d17
        have cc18 := d18
        have cc19 := d19
        have cc20 := d20
        have cc21 := d21
        have zz0 := y0
        have zz1 := y1
        have zz2 := y2
        have zz3 := y3
        have zz4 := y4
        have HR1 := q0
        have HR2 := q1
        have BB := BB1
        have sA := sA1
        clear BB1 sA1 d0 d1 d2 d3 d4 d5 d6 d7 d8 d9 d10 d11 d12 d13 d14 d15 d16 d17 d18 d19 d20 d21 y0 y1 y2 y3 y4 q0 q1
        clear bwh
        rw [← HX5.out.1, ← HX5.out.2.1] at og
        rw [← HX5.out.2.2]
        obtain ⟨xa5, xc5, xb5, xd5, rfl, rfl⟩ := og.form
        obtain ⟨p5, hp⟩ : ∃ t, t = X5N.length := ⟨_, rfl⟩
        obtain ⟨r5, hr⟩ : ∃ t, t = X5E.length := ⟨_, rfl⟩
        have HL5 : Hid (p5 = X5N.length ∧ r5 = X5E.length) := ⟨hp, hr⟩
        have lp5 : p5 ≤ 200 := by rw [hp]; exact og.2.2.1
        have lr5 : r5 ≤ 200 := by rw [hr]; exact og.2.2.2
        rw [← hp, ← hr] at og ⊢
        clear hp hr
        have HR5 : Hid (GrAt wh (.slice xa5 p5 xc5) (.slice xb5 r5 xd5) X5N X5E) := og
        clear og
        subst h50
        go_wp2_with fail
        obtain ⟨P5, hP5⟩ : ∃ t, t = wh.heap.size := ⟨_, rfl⟩
        generalize hW : wh.alloc (.cells #[.slice xa5 p5 xc5, .slice xb5 r5 xd5] 26) = wi
        have nb : Below wh.heap.size wh wi := by rw [← hW]; exact (Below.refl _ _).alloc (Nat.le_refl _) _
        have k3 : wi.heap.size = P5 + 1 := by rw [← hW, hP5]; simp
        have kk0 : wi.cell? ⟨P5, 0, none⟩ = some (.slice xa5 p5 xc5) := by rw [← hW, hP5]; simp [go_sem]
        have kk1 : wi.cell? ⟨P5, 1, none⟩ = some (.slice xb5 r5 xd5) := by rw [← hW, hP5]; simp [go_sem]
        have oP5A : A ≤ P5 := by rw [hP5]; exact sA
        have oP50 : P0 < P5 := by rw [hP5]; exact zz0
        have oP51 : O0 < P5 := by rw [hP5]; exact zz1
        have oP52 : P1 < P5 := by rw [hP5]; exact zz2
        have oP53 : P2 < P5 := by rw [hP5]; exact zz3
        have oP54 : Q0 < P5 := by rw [hP5]; exact zz4
        have d0 : wi.cell? ⟨P0, 0, none⟩ = some (.slice ga n gc) := (Below.celz nb _ _ _ (by omega)).trans cc0
        have d1 : wi.cell? ⟨P0, 1, none⟩ = some (.slice gb m gd) := (Below.celz nb _ _ _ (by omega)).trans cc1
        have d2 : wi.cell? ⟨O0, 0, none⟩ = some (.int .i64 3) := (Below.celz nb _ _ _ (by omega)).trans cc2
        have d3 : wi.cell? ⟨O0, 1, none⟩ = some (.int .i64 nl) := (Below.celz nb _ _ _ (by omega)).trans cc3
        have d4 : wi.cell? ⟨O0, 2, none⟩ = some (.int .i64 nn) := (Below.celz nb _ _ _ (by omega)).trans cc4
        have d5 : wi.cell? ⟨O0, 3, none⟩ = some (.int .i64 l) := (Below.celz nb _ _ _ (by omega)).trans cc5
        have d6 : wi.cell? ⟨O0, 4, none⟩ = some (.int .i64 al) := (Below.celz nb _ _ _ (by omega)).trans cc6
        have d7 : wi.cell? ⟨O0, 5, none⟩ = some (.int .i64 an) := (Below.celz nb _ _ _ (by omega)).trans cc7
        have d8 : wi.cell? ⟨O0, 6, none⟩ = some (.int .i64 bl) := (Below.celz nb _ _ _ (by omega)).trans cc8
        have d9 : wi.cell? ⟨O0, 7, none⟩ = some (.int .i64 bn) := (Below.celz nb _ _ _ (by omega)).trans cc9
        have d10 : wi.cell? ⟨P1, 0, none⟩ = some (.slice xa1 p1 xc1) := (Below.celz nb _ _ _ (by omega)).trans cc10
        have d11 : wi.cell? ⟨P1, 1, none⟩ = some (.slice xb1 r1 xd1) := (Below.celz nb _ _ _ (by omega)).trans cc11
        have d12 : wi.cell? ⟨P2, 0, none⟩ = some (.slice xa2 p2 xc2) := (Below.celz nb _ _ _ (by omega)).trans cc12
        have d13 : wi.cell? ⟨P2, 1, none⟩ = some (.slice xb2 r2 xd2) := (Below.celz nb _ _ _ (by omega)).trans cc13
        have d14 : wi.cell? ⟨Q0, 0, none⟩ = some (.int .i64 2) := (Below.celz nb _ _ _ (by omega)).trans cc14
        have d15 : wi.cell? ⟨Q0, 1, none⟩ = some (.int .i64 nl) := (Below.celz nb _ _ _ (by omega)).trans cc15
        have d16 : wi.cell? ⟨Q0, 2, none⟩ = some (.int .i64 nn) := (Below.celz nb _ _ _ (by omega)).trans cc16
        have d17 : wi.cell? ⟨Q0, 3, none⟩ = some (.int .i64 l) := (Below.celz nb _ _ _ (by omega)).trans cc17
        have d18 : wi.cell? ⟨Q0, 4, none⟩ = some (.int .i64 al) := (Below.celz nb _ _ _ (by omega)).trans cc18
        have d19 : wi.cell? ⟨Q0, 5, none⟩ = some (.int .i64 an) := (Below.celz nb _ _ _ (by omega)).trans cc19
        have d20 : wi.cell? ⟨Q0, 6, none⟩ = some (.int .i64 bl) := (Below.celz nb _ _ _ (by omega)).trans cc20
        have d21 : wi.cell? ⟨Q0, 7, none⟩ = some (.int .i64 bn) := (Below.celz nb _ _ _ (by omega)).trans cc21
        have y0 : P0 < wi.heap.size := by have := Below.size nb; omega
        have y1 : O0 < wi.heap.size := by have := Below.size nb; omega
        have y2 : P1 < wi.heap.size := by have := Below.size nb; omega
        have y3 : P2 < wi.heap.size := by have := Below.size nb; omega
        have y4 : Q0 < wi.heap.size := by have := Below.size nb; omega
        have BB1 : Below A wa wi := BB.trans (nb.mono (by omega))
        have sA1 : A ≤ wi.heap.size := by have := Below.size nb; omega
        have q0 : Hid (GrAt wi (.slice xa1 p1 xc1) (.slice xb1 r1 xd1) X1N X1E) := HR1.out.keep nb
        have q1 : Hid (GrAt wi (.slice xa2 p2 xc2) (.slice xb2 r2 xd2) X1N X1E) := HR2.out.keep nb
        have q2 : Hid (GrAt wi (.slice xa5 p5 xc5) (.slice xb5 r5 xd5) X5N X5E) := HR5.out.keep nb
        clear BB sA cc0 cc1 cc2 cc3 cc4 cc5 cc6 cc7 cc8 cc9 cc10 cc11 cc12 cc13 cc14 cc15 cc16 cc17 cc18 cc19 cc20 cc21 zz0 zz1 zz2 zz3 zz4 HR1 HR2 HR5
        have cc0 := d0
        have cc1 := d1
        have cc2 := d2
        have cc3 := d3
        have cc4 := d4
        have cc5 := d5
        have cc6 := d6
        have cc7 := d7
        have cc8 := d8
        have cc9 := d9
        have cc10 := d10
        have cc11 := d11
        have cc12 := d12
        have cc13 := d13
        have cc14 := d14
        have cc15 := d15
        have cc16 := d16
        have cc17 := d17
        have cc18 := d18
        have cc19 := d19
        have cc20 := d20
        have cc21 := d21
        have zz0 := y0
        have zz1 := y1
        have zz2 := y2
        have zz3 := y3
        have zz4 := y4
        have HR1 := q0
        have HR2 := q1
        have HR5 := q2
        have BB := BB1
        have sA := sA1
        clear BB1 sA1 d0 d1 d2 d3 d4 d5 d6 d7 d8 d9 d10 d11 d12 d13 d14 d15 d16 d17 d18 d19 d20 d21 y0 y1 y2 y3 y4 q0 q1 q2
        have cc22 := kk0
        have cc23 := kk1
        have zz5 : P5 < wi.heap.size := by omega
        rw [← hP5]
        have k3P5 := k3
        clear k3 hW nb hP5 kk0 kk1
        clear k3P5
        refine (gs_same _ _ _ _ X5N ns X5E es HEQ.out.2.1 HEQ.out.2.2 _ HR5.out (HV.out _ BB).1).mono ?_
        rintro e wj ⟨rfl, bz⟩
        have d0 : wj.cell? ⟨P0, 0, none⟩ = some (.slice ga n gc) := (Below.celz bz _ _ _ (by omega)).trans cc0
        have d1 : wj.cell? ⟨P0, 1, none⟩ = some (.slice gb m gd) := (Below.celz bz _ _ _ (by omega)).trans cc1
        have d2 : wj.cell? ⟨O0, 0, none⟩ = some (.int .i64 3) := (Below.celz bz _ _ _ (by omega)).trans cc2
        have d3 : wj.cell? ⟨O0, 1, none⟩ = some (.int .i64 nl) := (Below.celz bz _ _ _ (by omega)).trans cc3
        have d4 : wj.cell? ⟨O0, 2, none⟩ = some (.int .i64 nn) := (Below.celz bz _ _ _ (by omega)).trans cc4
        have d5 : wj.cell? ⟨O0, 3, none⟩ = some (.int .i64 l) := (Below.celz bz _ _ _ (by omega)).trans cc5
        have d6 : wj.cell? ⟨O0, 4, none⟩ = some (.int .i64 al) := (Below.celz bz _ _ _ (by omega)).trans cc6
        have d7 : wj.cell? ⟨O0, 5, none⟩ = some (.int .i64 an) := (Below.celz bz _ _ _ (by omega)).trans cc7
        have d8 : wj.cell? ⟨O0, 6, none⟩ = some (.int .i64 bl) := (Below.celz bz _ _ _ (by omega)).trans cc8
        have d9 : wj.cell? ⟨O0, 7, none⟩ = some (.int .i64 bn) := (Below.celz bz _ _ _ (by omega)).trans cc9
        have d10 : wj.cell? ⟨P1, 0, none⟩ = some (.slice xa1 p1 xc1) := (Below.celz bz _ _ _ (by omega)).trans cc10
        have d11 : wj.cell? ⟨P1, 1, none⟩ = some (.slice xb1 r1 xd1) := (Below.celz bz _ _ _ (by omega)).trans cc11
        have d12 : wj.cell? ⟨P2, 0, none⟩ = some (.slice xa2 p2 xc2) := (Below.celz bz _ _ _ (by omega)).trans cc12
        have d13 : wj.cell? ⟨P2, 1, none⟩ = some (.slice xb2 r2 xd2) := (Below.celz bz _ _ _ (by omega)).trans cc13
        have d14 : wj.cell? ⟨Q0, 0, none⟩ = some (.int .i64 2) := (Below.celz bz _ _ _ (by omega)).trans cc14
        have d15 : wj.cell? ⟨Q0, 1, none⟩ = some (.int .i64 nl) := (Below.celz bz _ _ _ (by omega)).trans cc15
        have d16 : wj.cell? ⟨Q0, 2, none⟩ = some (.int .i64 nn) := (Below.celz bz _ _ _ (by omega)).trans cc16
        have d17 : wj.cell? ⟨Q0, 3, none⟩ = some (.int .i64 l) := (Below.celz bz _ _ _ (by omega)).trans cc17
        have d18 : wj.cell? ⟨Q0, 4, none⟩ = some (.int .i64 al) := (Below.celz bz _ _ _ (by omega)).trans cc18
        have d19 : wj.cell? ⟨Q0, 5, none⟩ = some (.int .i64 an) := (Below.celz bz _ _ _ (by omega)).trans cc19
        have d20 : wj.cell? ⟨Q0, 6, none⟩ = some (.int .i64 bl) := (Below.celz bz _ _ _ (by omega)).trans cc20
        have d21 : wj.cell? ⟨Q0, 7, none⟩ = some (.int .i64 bn) := (Below.celz bz _ _ _ (by omega)).trans cc21
        have d22 : wj.cell? ⟨P5, 0, none⟩ = some (.slice xa5 p5 xc5) := (Below.celz bz _ _ _ (by omega)).trans cc22
        have d23 : wj.cell? ⟨P5, 1, none⟩ = some (.slice xb5 r5 xd5) := (Below.celz bz _ _ _ (by omega)).trans cc23
        have y0 : P0 < wj.heap.size := by have := Below.size bz; omega
        have y1 : O0 < wj.heap.size := by have := Below.size bz; omega
        have y2 : P1 < wj.heap.size := by have := Below.size bz; omega
        have y3 : P2 < wj.heap.size := by have := Below.size bz; omega
        have y4 : Q0 < wj.heap.size := by have := Below.size bz; omega
        have y5 : P5 < wj.heap.size := by have := Below.size bz; omega
        have BB1 : Below A wa wj := BB.trans (bz.mono (by omega))
        have sA1 : A ≤ wj.heap.size := by have := Below.size bz; omega
        have q0 : Hid (GrAt wj (.slice xa1 p1 xc1) (.slice xb1 r1 xd1) X1N X1E) := HR1.out.keep bz
        have q1 : Hid (GrAt wj (.slice xa2 p2 xc2) (.slice xb2 r2 xd2) X1N X1E) := HR2.out.keep bz
        have q2 : Hid (GrAt wj (.slice xa5 p5 xc5) (.slice xb5 r5 xd5) X5N X5E) := HR5.out.keep bz
        clear BB sA cc0 cc1 cc2 cc3 cc4 cc5 cc6 cc7 cc8 cc9 cc10 cc11 cc12 cc13 cc14 cc15 cc16 cc17 cc18 cc19 cc20 cc21 cc22 cc23 zz0 zz1 zz2 zz3 zz4 zz5 HR1 HR2 HR5
        have cc0 := d0
        have cc1 := d1
        have cc2 := d2
        have cc3 := d3
        have cc4 := d4
        have cc5 := d5
        have cc6 := d6
        have cc7 := d7
        have cc8 := d8
        have cc9 := d9
        have cc10 := d10
        have cc11 := d11
        have cc12 := d12
        have cc13 := d13
        have cc14 := d14
        have cc15 := d15
        have cc16 := d16
        have cc17 := d17
        have cc18 := d18
        have cc19 := d19
        have cc20 := d20
        have cc21 := d21
        have cc22 := d22
        have cc23 := d23
        have zz0 := y0
        have zz1 := y1
        have zz2 := y2
        have zz3 := y3
        have zz4 := y4
        have zz5 := y5
        have HR1 := q0
        have HR2 := q1
        have HR5 := q2
        have BB := BB1
        have sA := sA1
        clear BB1 sA1 d0 d1 d2 d3 d4 d5 d6 d7 d8 d9 d10 d11 d12 d13 d14 d15 d16 d17 d18 d19 d20 d21 d22 d23 y0 y1 y2 y3 y4 y5 q0 q1 q2
        clear bz
        go_wp2_with fail
        go_ret
        exact ⟨rfl, (HV.out _ BB).2.2.1⟩

theorem door_met (os : Os) (args : Array Value) : laidMetH Tryz.prog Rows.fnGraphBackRow.laid ((World.doorLaid Tryz.prog 85 os).forCall (fun _ _ => 0) ⟨#[], args, []⟩).memory :=
  laidMetH_of_parts3 (fuel := 8) (laidMet_of_run' 8 (by kernel_rfl) (by kernel_rfl)) (by kernel_rfl) (by kernel_rfl)

set_option maxRecDepth 100000 in
set_option maxHeartbeats 1000000 in
theorem lifted (os : Os) (started : os.Started) (H : Type) (enc : TypeId × Value → H) :
    ReturnsInHanded {} Tryz.checked os 5 .any (fun w args => (Rows.fnGraphBackSpec.pre enc Tryz.prog Tryz.f5 [] false w args ∧ laidMetH Tryz.prog Rows.fnGraphBackRow.laid w) ∧ sizedMet enc Tryz.prog Tryz.f5 (OpenSpec.ofChange Rows.fnGraphBackSpec) false w args)
      (Rows.fnGraphBackSpec.post enc Tryz.prog Tryz.f5 false true false false) := by
  refine returnsInHanded_of_change_and (C := Tryz.checked) (X := fun w _ => laidMetH Tryz.prog Rows.fnGraphBackRow.laid w) (fun _ _ _ hh h => h.of_heap hh) own started (by kernel_rfl) Tryz.func5
    (ChangeSpec.witness_shaped (enc := enc) (C := Tryz.checked) (os := os) (X := fun w _ => laidMetH Tryz.prog Rows.fnGraphBackRow.laid w) false (World.doorLaid Tryz.prog 85 os) #[.slice none 0 0] 8 rfl (World.shaped_of_RefB (by kernel_rfl) (by kernel_rfl)) (by kernel_rfl) (by kernel_rfl) (by kernel_rfl) (door_met os _)) ?_
  intro W base args ds gs before hval0 hW _ _ hL _
  have hval : ∀ (j : Nat) t v, Tryz.f5.params[j]? = some t → args[j]? = some v → Value.okWide Tryz.prog W .any base t v := hval0
  have hW' := hW
  obtain ⟨p, q, hA0, hV0, rfl, hfz, hnd⟩ := hW
  have hA : DataW.TrodAll enc Tryz.prog W 0 (fun _ => true) true Tryz.f5.params.toList args.toList ds p := hA0
  have hV : DataW.TrodVars enc Tryz.prog W (fun _ => true) ["loop.example/hagioscope/impl.errForm", "loop.example/hagioscope/impl.errThere", "loop.example/hagioscope/impl.errFull", "loop.example/hagioscope/impl.errNone"] gs q := hV0
  rw [Tryz.params5] at hA hval
  obtain ⟨v0, vs0, d0, ds0, p0, q0, hargs, rfl, rfl, h0, r0⟩ := trodAll_cons hA
  obtain ⟨rfl, rfl, rfl⟩ := trodAll_nil r0
  obtain rfl : args = #[v0] := by cases args; simp_all
  have kr0 := h0
  have lt0 : ∀ x ∈ p0, x.block < W.heap.size := by obtain ⟨m, hm⟩ := kr0; exact DataW.trod_lt m _ _ _ hm
  obtain ⟨a0, len0, cap0, rfl⟩ := okWide_slice Tryz.underlying22 (hval 0 22 v0 rfl rfl)
  obtain ⟨z0, w0⟩ : ∃ zs, IsRow .u8 W a0 len0 cap0 zs := by
    obtain ⟨fuel, hf⟩ := h0
    rcases open_ints Tryz.underlying22 Tryz.underlying5 (by kernel_rfl) hf with ⟨hcs, _⟩ | ⟨x, l, c, zs, hcs, _, hl, hm, hz, _, hcell, hwz⟩
    · simp [Value.cells] at hcs
      obtain ⟨rfl, rfl, rfl⟩ := hcs
      exact ⟨[], .inl ⟨rfl, rfl, rfl, rfl⟩⟩
    · simp [Value.cells] at hcs
      obtain ⟨rfl, rfl, rfl⟩ := hcs
      exact ⟨zs, .inr ⟨_, rfl, hl, hm, by simpa using hz, hcell, hwz⟩⟩
  have hI := held_of hL
  have hE : Errs W := errs_of hI
  obtain ⟨aF, aT, aN, aU, hF⟩ := four_of hL
  obtain ⟨g1, g2, g3, g4, rfl⟩ : ∃ g1 g2 g3 g4, gs = [g1, g2, g3, g4] := by
    have hlen := vars_len _ _ _ hV
    match gs, hlen with
    | [g1, g2, g3, g4], _ => exact ⟨g1, g2, g3, g4, rfl⟩
  clear hA0 hV0 hval0
  refine (walk a0 len0 cap0 z0 W w0 aF aT aN aU hF hE).mono fun e W' ⟨he, bel⟩ => ?_
  subst he
  exact ⟨_, rfl, _, _, _, [], _, _, hW', trodAll_mk1 (shut_bool Tryz.underlying4 _), (trodAll_cons_mk (Below.trod laidOut (by kernel_rfl) (of_decide_eq_true (by kernel_rfl)) kr0 bel lt0) trodAll_mk0), vars_keep Tryz.underlying52 bel _ _ _ hV hI, bel.frame _, fun h => by cases h⟩

theorem said : Rows.FnGraphBackSaid :=
  OpenClaim.holds_of_wide 5 Tryz.f5 rfl rfl rfl rfl rfl rfl rfl ⟨rfl, rfl, rfl, rfl, rfl⟩ rfl rfl rfl rfl rfl (by kernel_rfl) Tryz.func5 (by kernel_rfl)
    (of_decide_eq_true (by kernel_rfl)) (by unfold Func.isWrapper; first | (rw [if_pos (by decide +kernel)]; kernel_rfl) | (rw [if_neg (by decide +kernel)]; exact ⟨rfl, rfl⟩))
    (fun os started H enc _ => lifted os started H enc)

theorem plain (f : FuncId) (fn : Func) (hf : Tryz.pinned.checked.prog.funcNamed "loop.example/hagioscope/laws.FnGraphBack" = some f) (hfn : Tryz.pinned.checked.prog.funcs[f]? = some fn) :
    true = Tryz.pinned.checked.prog.looks [] ∧ ∀ (j : Nat) t, fn.params[j]? = some t → Tryz.pinned.checked.prog.wantsStandIn t = false := by
  obtain rfl : f = 5 := Option.some.inj ((show Tryz.prog.funcNamed "loop.example/hagioscope/laws.FnGraphBack" = some 5 by kernel_rfl).symm.trans hf) |>.symm
  obtain rfl : fn = Tryz.f5 := (Option.some.inj (Tryz.func5.symm.trans hfn)).symm
  refine ⟨by kernel_rfl, fun j t ht => ?_⟩
  rw [Tryz.params5] at ht
  obtain rfl : t = 22 := by simpa using Array.mem_of_getElem? ht
  · exact (show Tryz.prog.wantsStandIn 22 = false by kernel_rfl)

end Go.Proofs.YtkhfbaggkmeahaaGreatDoor.fnGraphBack
namespace Go.Proofs.YtkhfbaggkmeahaaGreatDoor
theorem fnGraphBack_card : Rows.FnGraphBackCardSaid :=
  Claim7.holds_tied_plain_at .later [] _ _ _ _ fnGraphBack.said (fun _ h => by cases h) (by kernel_rfl) (fun _ h => by cases h) fnGraphBack_row_tie rfl ⟨rfl, rfl⟩ (by kernel_rfl) rfl fnGraphBack.plain (by kernel_rfl)
#print axioms fnGraphBack_card
end Go.Proofs.YtkhfbaggkmeahaaGreatDoor
