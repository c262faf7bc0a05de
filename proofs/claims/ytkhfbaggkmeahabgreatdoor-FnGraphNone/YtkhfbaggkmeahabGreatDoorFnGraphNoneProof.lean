/-
  Refusals tell what is there and what is not.
-/
import Derived.Test.YtkhfbaggkmeahabGreatDoorCards
import Derived.Test.YtkhfbaggkmeahabGreatDoorTie
import Derived.Test.YtkhfbaggkmeahabGreatDoorGdl
import Derived.Test.YtkhfbaggkmeahabGreatDoorGdt
import Derived.Test.YtkhfbaggkmeahabGreatDoorDgr
import Derived.Test.YtkhfbaggkmeahabGreatDoorErs
import Derived.Test.YtkhfbaggkmeahabGreatDoorErf
import Derived.WalkKit
import Derived.ProofKit
import Derived.OpenShut
import Derived.ShutString
import Derived.ChangeOld
import Derived.Below
import Derived.Carry
import Derived.Handy
import Derived.Deep.RegionHeld3
import Derived.LaidMore
import Derived.Deep.DeepCutAuto
namespace Go.Proofs.YtkhfbaggkmeahabGreatDoor.fnGraphNone
open Go.Proofs.YtkhfbaggkmeahabGreatDoor.Lab
open Go.ChangeShapes Go.WideShapes Go.ChangeAt Go.RowKit
open Go.ChangeMaps (open_string shut_string)
set_option linter.unusedVariables false

theorem own : ownKnob Tryz.prog.godebug = none := by kernel_rfl
/-- A row of numbers that came in: nil, or so many cells. -/
def IsRow (k : IntKind) (w : World) (a : Option Addr) (len cap : Nat) (zs : List Int) : Prop :=
  (a = none ∧ len = 0 ∧ cap = 0 ∧ zs = []) ∨ ∃ x, a = some x ∧ len ≤ cap ∧ cap ≤ maxLen ∧ zs.length = cap ∧ (∀ i, i < zs.length → w.cell? (x.add i) = some (.int k (zs.getD i 0))) ∧ ∀ n ∈ zs, (Lit.int k n).wf = true

set_option maxRecDepth 16000 in
set_option maxHeartbeats 8000000 in
theorem walk (a0 : Option Addr) (len0 cap0 : Nat) (z0 : List Int) (w : World) (w0 : IsRow .u8 w a0 len0 cap0 z0) (aF aT aN aU : Addr) (hF : Four w aF aT aN aU) (hE : Errs w) :
    Calls Tryz.prog 3 #[.slice a0 len0 cap0] w fun e w' => e = .returned (.bool true) ∧ Below w.heap.size w w' := by
  have HF : Hid (Errs w) := hE
  clear hE
  by_cases hlen0 : len0 > 1048576
  · go_enter Tryz.func3, Tryz.ntmps3
    go_wp2
    go_ret
    exact ⟨rfl, Below.refl _ _⟩
  have k0 : CodeAt w a0 len0 cap0 z0 := code_of w0
  clear w0
  go_enter Tryz.func3, Tryz.ntmps3
  go_wp2_with fail
  have HFF : Hid (Four w aF aT aN aU) := hF
  clear hF
  refine (drawGraphDo _ _ _ _ _ k0).mono ?_
  rintro e wa ⟨v1, v2, ns, es, k, nl, nn, l, al, an, bl, bn, rfl, hg, ba⟩
  unfold OpVal
  obtain ⟨ga, gc, gb, gd, rfl, rfl⟩ := hg.form
  obtain ⟨n, hn⟩ : ∃ n, n = ns.length := ⟨_, rfl⟩
  obtain ⟨m, hm⟩ : ∃ m, m = es.length := ⟨_, rfl⟩
  have HN : Hid (n = ns.length ∧ m = es.length) := ⟨hn, hm⟩
  have ln : n ≤ 200 := by rw [hn]; exact hg.2.2.1
  have lm : m ≤ 200 := by rw [hm]; exact hg.2.2.2
  rw [← hn, ← hm] at hg ⊢
  obtain ⟨A, hA⟩ : ∃ t, t = wa.heap.size := ⟨_, rfl⟩
  have HA : Hid (A = wa.heap.size) := hA
  have BB : Below A wa wa := Below.refl _ _
  have sA : A ≤ wa.heap.size := by omega
  have HV : Hid (∀ W, Below A wa W → GrAt W (.slice ga n gc) (.slice gb m gd) ns es ∧ Four W aF aT aN aU ∧ Below w.heap.size w W ∧ Errs W) := fun W h => by
    rw [HA.out] at h
    exact ⟨hg.keep h, (HFF.out.keep ba).keep h, ba.trans (h.mono ba.size), (HF.out.keep ba).keep h⟩
  clear hg ba hn hm HF HFF hA
  clear k0
  go_wp2_with fail
  obtain ⟨P0, hP0⟩ : ∃ t, t = wa.heap.size := ⟨_, rfl⟩
  generalize hW : wa.alloc (.cells #[.slice ga n gc, .slice gb m gd] 26) = wb
  have nb : Below wa.heap.size wa wb := by rw [← hW]; exact (Below.refl _ _).alloc (Nat.le_refl _) _
  have k3 : wb.heap.size = P0 + 1 := by rw [← hW, hP0]; simp
  have kk0 : wb.cell? ⟨P0, 0, none⟩ = some (.slice ga n gc) := by rw [← hW, hP0]; simp [go_sem]
  have kk1 : wb.cell? ⟨P0, 1, none⟩ = some (.slice gb m gd) := by rw [← hW, hP0]; simp [go_sem]
  have oP0A : A ≤ P0 := by rw [hP0]; exact sA
  have BB1 : Below A wa wb := BB.trans (nb.mono (by omega))
  have sA1 : A ≤ wb.heap.size := by have := Below.size nb; omega
  clear BB sA   
  have BB := BB1
  have sA := sA1
  clear BB1 sA1   
  have cc0 := kk0
  have cc1 := kk1
  have zz0 : P0 < wb.heap.size := by omega
  rw [← hP0]
  have k3P0 := k3
  clear k3 hW nb hP0 kk0 kk1
  rw [k3P0.symm]
  obtain ⟨O0, hO0⟩ : ∃ t, t = wb.heap.size := ⟨_, rfl⟩
  generalize hW : wb.alloc (.cells #[.int .i64 k, .int .i64 nl, .int .i64 nn, .int .i64 l, .int .i64 al, .int .i64 an, .int .i64 bl, .int .i64 bn] 32) = wb2
  have nb : Below wb.heap.size wb wb2 := by rw [← hW]; exact (Below.refl _ _).alloc (Nat.le_refl _) _
  have k3 : wb2.heap.size = O0 + 1 := by rw [← hW, hO0]; simp
  have kk0 : wb2.cell? ⟨O0, 0, none⟩ = some (.int .i64 k) := by rw [← hW, hO0]; simp [go_sem]
  have kk1 : wb2.cell? ⟨O0, 1, none⟩ = some (.int .i64 nl) := by rw [← hW, hO0]; simp [go_sem]
  have kk2 : wb2.cell? ⟨O0, 2, none⟩ = some (.int .i64 nn) := by rw [← hW, hO0]; simp [go_sem]
  have kk3 : wb2.cell? ⟨O0, 3, none⟩ = some (.int .i64 l) := by rw [← hW, hO0]; simp [go_sem]
  have kk4 : wb2.cell? ⟨O0, 4, none⟩ = some (.int .i64 al) := by rw [← hW, hO0]; simp [go_sem]
  have kk5 : wb2.cell? ⟨O0, 5, none⟩ = some (.int .i64 an) := by rw [← hW, hO0]; simp [go_sem]
  have kk6 : wb2.cell? ⟨O0, 6, none⟩ = some (.int .i64 bl) := by rw [← hW, hO0]; simp [go_sem]
  have kk7 : wb2.cell? ⟨O0, 7, none⟩ = some (.int .i64 bn) := by rw [← hW, hO0]; simp [go_sem]
  have oO0A : A ≤ O0 := by rw [hO0]; exact sA
  have oO00 : P0 < O0 := by rw [hO0]; exact zz0
  have d0 : wb2.cell? ⟨P0, 0, none⟩ = some (.slice ga n gc) := (Below.celz nb _ _ _ (by omega)).trans cc0
  have d1 : wb2.cell? ⟨P0, 1, none⟩ = some (.slice gb m gd) := (Below.celz nb _ _ _ (by omega)).trans cc1
  have y0 : P0 < wb2.heap.size := by have := Below.size nb; omega
  have BB1 : Below A wa wb2 := BB.trans (nb.mono (by omega))
  have sA1 : A ≤ wb2.heap.size := by have := Below.size nb; omega
  clear BB sA cc0 cc1 zz0 
  have cc0 := d0
  have cc1 := d1
  have zz0 := y0
  have BB := BB1
  have sA := sA1
  clear BB1 sA1 d0 d1 y0 
  have cc2 := kk0
  have cc3 := kk1
  have cc4 := kk2
  have cc5 := kk3
  have cc6 := kk4
  have cc7 := kk5
  have cc8 := kk6
  have cc9 := kk7
  have zz1 : O0 < wb2.heap.size := by omega
  rw [← hO0]
  have k3O0 := k3
  clear k3 hW nb hO0 kk0 kk1 kk2 kk3 kk4 kk5 kk6 kk7
  clear k3P0 k3O0
  obtain ⟨X1N, hX⟩ : ∃ t, t = gdN ns es k nl nn l al an bl bn := ⟨_, rfl⟩
  obtain ⟨X1E, hY⟩ : ∃ t, t = gdE ns es k nl nn l al an bl bn := ⟨_, rfl⟩
  obtain ⟨X1C, hZ⟩ : ∃ t, t = gdC ns es k nl nn l al an bl bn := ⟨_, rfl⟩
  have HX1 : Hid (X1N = gdN ns es k nl nn l al an bl bn ∧ X1E = gdE ns es k nl nn l al an bl bn ∧ X1C = gdC ns es k nl nn l al an bl bn) := ⟨hX, hY, hZ⟩
  clear hX hY hZ
  refine (gdo_impl _ _ ns es k nl nn l al an bl bn _ (HV.out _ BB).1 (HV.out _ BB).2.1).mono ?_
  rintro e wc ⟨u1, u2, rfl, og, bwc⟩
  have d0 : wc.cell? ⟨P0, 0, none⟩ = some (.slice ga n gc) := (Below.celz bwc _ _ _ (by omega)).trans cc0
  have d1 : wc.cell? ⟨P0, 1, none⟩ = some (.slice gb m gd) := (Below.celz bwc _ _ _ (by omega)).trans cc1
  have d2 : wc.cell? ⟨O0, 0, none⟩ = some (.int .i64 k) := (Below.celz bwc _ _ _ (by omega)).trans cc2
  have d3 : wc.cell? ⟨O0, 1, none⟩ = some (.int .i64 nl) := (Below.celz bwc _ _ _ (by omega)).trans cc3
  have d4 : wc.cell? ⟨O0, 2, none⟩ = some (.int .i64 nn) := (Below.celz bwc _ _ _ (by omega)).trans cc4
  have d5 : wc.cell? ⟨O0, 3, none⟩ = some (.int .i64 l) := (Below.celz bwc _ _ _ (by omega)).trans cc5
  have d6 : wc.cell? ⟨O0, 4, none⟩ = some (.int .i64 al) := (Below.celz bwc _ _ _ (by omega)).trans cc6
  have d7 : wc.cell? ⟨O0, 5, none⟩ = some (.int .i64 an) := (Below.celz bwc _ _ _ (by omega)).trans cc7
  have d8 : wc.cell? ⟨O0, 6, none⟩ = some (.int .i64 bl) := (Below.celz bwc _ _ _ (by omega)).trans cc8
  have d9 : wc.cell? ⟨O0, 7, none⟩ = some (.int .i64 bn) := (Below.celz bwc _ _ _ (by omega)).trans cc9
  have y0 : P0 < wc.heap.size := by have := Below.size bwc; omega
  have y1 : O0 < wc.heap.size := by have := Below.size bwc; omega
  have BB1 : Below A wa wc := BB.trans (bwc.mono (by omega))
  have sA1 : A ≤ wc.heap.size := by have := Below.size bwc; omega
  clear BB sA cc0 cc1 cc2 cc3 cc4 cc5 cc6 cc7 cc8 cc9 zz0 zz1 
  have cc0 := d0
  have cc1 := d1
  have cc2 := d2
  have cc3 := d3
  have cc4 := d4
  have cc5 := d5
  have cc6 := d6
  have cc7 := d7
  have cc8 := d8
  have cc9 := d9
  have zz0 := y0
  have zz1 := y1
  have BB := BB1
  have sA := sA1
  clear BB1 sA1 d0 d1 d2 d3 d4 d5 d6 d7 d8 d9 y0 y1 
  clear bwc
  rw [← HX1.out.1, ← HX1.out.2.1] at og
  rw [← HX1.out.2.2]
  obtain ⟨xa1, xc1, xb1, xd1, rfl, rfl⟩ := og.form
  obtain ⟨p1, hp⟩ : ∃ t, t = X1N.length := ⟨_, rfl⟩
  obtain ⟨r1, hr⟩ : ∃ t, t = X1E.length := ⟨_, rfl⟩
  have HL1 : Hid (p1 = X1N.length ∧ r1 = X1E.length) := ⟨hp, hr⟩
  have lp1 : p1 ≤ 200 := by rw [hp]; exact og.2.2.1
  have lr1 : r1 ≤ 200 := by rw [hr]; exact og.2.2.2
  rw [← hp, ← hr] at og ⊢
  clear hp hr
  have HR1 : Hid (GrAt wc (.slice xa1 p1 xc1) (.slice xb1 r1 xd1) X1N X1E) := og
  clear og
  go_wp2_with fail
  obtain ⟨P1, hP1⟩ : ∃ t, t = wc.heap.size := ⟨_, rfl⟩
  generalize hW : wc.alloc (.cells #[.slice xa1 p1 xc1, .slice xb1 r1 xd1] 26) = wd
  have nb : Below wc.heap.size wc wd := by rw [← hW]; exact (Below.refl _ _).alloc (Nat.le_refl _) _
  have k3 : wd.heap.size = P1 + 1 := by rw [← hW, hP1]; simp
  have kk0 : wd.cell? ⟨P1, 0, none⟩ = some (.slice xa1 p1 xc1) := by rw [← hW, hP1]; simp [go_sem]
  have kk1 : wd.cell? ⟨P1, 1, none⟩ = some (.slice xb1 r1 xd1) := by rw [← hW, hP1]; simp [go_sem]
  have oP1A : A ≤ P1 := by rw [hP1]; exact sA
  have oP10 : P0 < P1 := by rw [hP1]; exact zz0
  have oP11 : O0 < P1 := by rw [hP1]; exact zz1
  have d0 : wd.cell? ⟨P0, 0, none⟩ = some (.slice ga n gc) := (Below.celz nb _ _ _ (by omega)).trans cc0
  have d1 : wd.cell? ⟨P0, 1, none⟩ = some (.slice gb m gd) := (Below.celz nb _ _ _ (by omega)).trans cc1
  have d2 : wd.cell? ⟨O0, 0, none⟩ = some (.int .i64 k) := (Below.celz nb _ _ _ (by omega)).trans cc2
  have d3 : wd.cell? ⟨O0, 1, none⟩ = some (.int .i64 nl) := (Below.celz nb _ _ _ (by omega)).trans cc3
  have d4 : wd.cell? ⟨O0, 2, none⟩ = some (.int .i64 nn) := (Below.celz nb _ _ _ (by omega)).trans cc4
  have d5 : wd.cell? ⟨O0, 3, none⟩ = some (.int .i64 l) := (Below.celz nb _ _ _ (by omega)).trans cc5
  have d6 : wd.cell? ⟨O0, 4, none⟩ = some (.int .i64 al) := (Below.celz nb _ _ _ (by omega)).trans cc6
  have d7 : wd.cell? ⟨O0, 5, none⟩ = some (.int .i64 an) := (Below.celz nb _ _ _ (by omega)).trans cc7
  have d8 : wd.cell? ⟨O0, 6, none⟩ = some (.int .i64 bl) := (Below.celz nb _ _ _ (by omega)).trans cc8
  have d9 : wd.cell? ⟨O0, 7, none⟩ = some (.int .i64 bn) := (Below.celz nb _ _ _ (by omega)).trans cc9
  have y0 : P0 < wd.heap.size := by have := Below.size nb; omega
  have y1 : O0 < wd.heap.size := by have := Below.size nb; omega
  have BB1 : Below A wa wd := BB.trans (nb.mono (by omega))
  have sA1 : A ≤ wd.heap.size := by have := Below.size nb; omega
  have q0 : Hid (GrAt wd (.slice xa1 p1 xc1) (.slice xb1 r1 xd1) X1N X1E) := HR1.out.keep nb
  clear BB sA cc0 cc1 cc2 cc3 cc4 cc5 cc6 cc7 cc8 cc9 zz0 zz1 HR1
  have cc0 := d0
  have cc1 := d1
  have cc2 := d2
  have cc3 := d3
  have cc4 := d4
  have cc5 := d5
  have cc6 := d6
  have cc7 := d7
  have cc8 := d8
  have cc9 := d9
  have zz0 := y0
  have zz1 := y1
  have HR1 := q0
  have BB := BB1
  have sA := sA1
  clear BB1 sA1 d0 d1 d2 d3 d4 d5 d6 d7 d8 d9 y0 y1 q0
  have cc10 := kk0
  have cc11 := kk1
  have zz2 : P1 < wd.heap.size := by omega
  rw [← hP1]
  have k3P1 := k3
  clear k3 hW nb hP1 kk0 kk1
  clear k3P1
  refine (gdo_spec _ _ ns es k nl nn l al an bl bn _ (HV.out _ BB).1).mono ?_
  rintro e we ⟨u1, u2, rfl, og, bwe⟩
  have d0 : we.cell? ⟨P0, 0, none⟩ = some (.slice ga n gc) := (Below.celz bwe _ _ _ (by omega)).trans cc0
  have d1 : we.cell? ⟨P0, 1, none⟩ = some (.slice gb m gd) := (Below.celz bwe _ _ _ (by omega)).trans cc1
  have d2 : we.cell? ⟨O0, 0, none⟩ = some (.int .i64 k) := (Below.celz bwe _ _ _ (by omega)).trans cc2
  have d3 : we.cell? ⟨O0, 1, none⟩ = some (.int .i64 nl) := (Below.celz bwe _ _ _ (by omega)).trans cc3
  have d4 : we.cell? ⟨O0, 2, none⟩ = some (.int .i64 nn) := (Below.celz bwe _ _ _ (by omega)).trans cc4
  have d5 : we.cell? ⟨O0, 3, none⟩ = some (.int .i64 l) := (Below.celz bwe _ _ _ (by omega)).trans cc5
  have d6 : we.cell? ⟨O0, 4, none⟩ = some (.int .i64 al) := (Below.celz bwe _ _ _ (by omega)).trans cc6
  have d7 : we.cell? ⟨O0, 5, none⟩ = some (.int .i64 an) := (Below.celz bwe _ _ _ (by omega)).trans cc7
  have d8 : we.cell? ⟨O0, 6, none⟩ = some (.int .i64 bl) := (Below.celz bwe _ _ _ (by omega)).trans cc8
  have d9 : we.cell? ⟨O0, 7, none⟩ = some (.int .i64 bn) := (Below.celz bwe _ _ _ (by omega)).trans cc9
  have d10 : we.cell? ⟨P1, 0, none⟩ = some (.slice xa1 p1 xc1) := (Below.celz bwe _ _ _ (by omega)).trans cc10
  have d11 : we.cell? ⟨P1, 1, none⟩ = some (.slice xb1 r1 xd1) := (Below.celz bwe _ _ _ (by omega)).trans cc11
  have y0 : P0 < we.heap.size := by have := Below.size bwe; omega
  have y1 : O0 < we.heap.size := by have := Below.size bwe; omega
  have y2 : P1 < we.heap.size := by have := Below.size bwe; omega
  have BB1 : Below A wa we := BB.trans (bwe.mono (by omega))
  have sA1 : A ≤ we.heap.size := by have := Below.size bwe; omega
  have q0 : Hid (GrAt we (.slice xa1 p1 xc1) (.slice xb1 r1 xd1) X1N X1E) := HR1.out.keep bwe
  clear BB sA cc0 cc1 cc2 cc3 cc4 cc5 cc6 cc7 cc8 cc9 cc10 cc11 zz0 zz1 zz2 HR1
  have cc0 := d0
  have cc1 := d1
  have cc2 := d2
  have cc3 := d3
  have cc4 := d4
  have cc5 := d5
  have cc6 := d6
  have cc7 := d7
  have cc8 := d8
  have cc9 := d9
  have cc10 := d10
  have cc11 := d11
  have zz0 := y0
  have zz1 := y1
  have zz2 := y2
  have HR1 := q0
  have BB := BB1
  have sA := sA1
  clear BB1 sA1 d0 d1 d2 d3 d4 d5 d6 d7 d8 d9 d10 d11 y0 y1 y2 q0
  clear bwe
  rw [← HX1.out.1, ← HX1.out.2.1] at og
  rw [← HX1.out.2.2]
  obtain ⟨xa2, xc2, xb2, xd2, rfl, rfl⟩ := og.form
  obtain ⟨p2, hp⟩ : ∃ t, t = X1N.length := ⟨_, rfl⟩
  obtain ⟨r2, hr⟩ : ∃ t, t = X1E.length := ⟨_, rfl⟩
  have HL2 : Hid (p2 = X1N.length ∧ r2 = X1E.length) := ⟨hp, hr⟩
  have lp2 : p2 ≤ 200 := by rw [hp]; exact og.2.2.1
  have lr2 : r2 ≤ 200 := by rw [hr]; exact og.2.2.2
  rw [← hp, ← hr] at og ⊢
  clear hp hr
  have HR2 : Hid (GrAt we (.slice xa2 p2 xc2) (.slice xb2 r2 xd2) X1N X1E) := og
  clear og
  go_wp2_with fail
  obtain ⟨P2, hP2⟩ : ∃ t, t = we.heap.size := ⟨_, rfl⟩
  generalize hW : we.alloc (.cells #[.slice xa2 p2 xc2, .slice xb2 r2 xd2] 26) = wf
  have nb : Below we.heap.size we wf := by rw [← hW]; exact (Below.refl _ _).alloc (Nat.le_refl _) _
  have k3 : wf.heap.size = P2 + 1 := by rw [← hW, hP2]; simp
  have kk0 : wf.cell? ⟨P2, 0, none⟩ = some (.slice xa2 p2 xc2) := by rw [← hW, hP2]; simp [go_sem]
  have kk1 : wf.cell? ⟨P2, 1, none⟩ = some (.slice xb2 r2 xd2) := by rw [← hW, hP2]; simp [go_sem]
  have oP2A : A ≤ P2 := by rw [hP2]; exact sA
  have oP20 : P0 < P2 := by rw [hP2]; exact zz0
  have oP21 : O0 < P2 := by rw [hP2]; exact zz1
  have oP22 : P1 < P2 := by rw [hP2]; exact zz2
  have d0 : wf.cell? ⟨P0, 0, none⟩ = some (.slice ga n gc) := (Below.celz nb _ _ _ (by omega)).trans cc0
  have d1 : wf.cell? ⟨P0, 1, none⟩ = some (.slice gb m gd) := (Below.celz nb _ _ _ (by omega)).trans cc1
  have d2 : wf.cell? ⟨O0, 0, none⟩ = some (.int .i64 k) := (Below.celz nb _ _ _ (by omega)).trans cc2
  have d3 : wf.cell? ⟨O0, 1, none⟩ = some (.int .i64 nl) := (Below.celz nb _ _ _ (by omega)).trans cc3
  have d4 : wf.cell? ⟨O0, 2, none⟩ = some (.int .i64 nn) := (Below.celz nb _ _ _ (by omega)).trans cc4
  have d5 : wf.cell? ⟨O0, 3, none⟩ = some (.int .i64 l) := (Below.celz nb _ _ _ (by omega)).trans cc5
  have d6 : wf.cell? ⟨O0, 4, none⟩ = some (.int .i64 al) := (Below.celz nb _ _ _ (by omega)).trans cc6
  have d7 : wf.cell? ⟨O0, 5, none⟩ = some (.int .i64 an) := (Below.celz nb _ _ _ (by omega)).trans cc7
  have d8 : wf.cell? ⟨O0, 6, none⟩ = some (.int .i64 bl) := (Below.celz nb _ _ _ (by omega)).trans cc8
  have d9 : wf.cell? ⟨O0, 7, none⟩ = some (.int .i64 bn) := (Below.celz nb _ _ _ (by omega)).trans cc9
  have d10 : wf.cell? ⟨P1, 0, none⟩ = some (.slice xa1 p1 xc1) := (Below.celz nb _ _ _ (by omega)).trans cc10
  have d11 : wf.cell? ⟨P1, 1, none⟩ = some (.slice xb1 r1 xd1) := (Below.celz nb _ _ _ (by omega)).trans cc11
  have y0 : P0 < wf.heap.size := by have := Below.size nb; omega
  have y1 : O0 < wf.heap.size := by have := Below.size nb; omega
  have y2 : P1 < wf.heap.size := by have := Below.size nb; omega
  have BB1 : Below A wa wf := BB.trans (nb.mono (by omega))
  have sA1 : A ≤ wf.heap.size := by have := Below.size nb; omega
  have q0 : Hid (GrAt wf (.slice xa1 p1 xc1) (.slice xb1 r1 xd1) X1N X1E) := HR1.out.keep nb
  have q1 : Hid (GrAt wf (.slice xa2 p2 xc2) (.slice xb2 r2 xd2) X1N X1E) := HR2.out.keep nb
  clear BB sA cc0 cc1 cc2 cc3 cc4 cc5 cc6 cc7 cc8 cc9 cc10 cc11 zz0 zz1 zz2 HR1 HR2
  have cc0 := d0
  have cc1 := d1
  have cc2 := d2
  have cc3 := d3
  have cc4 := d4
  have cc5 := d5
  have cc6 := d6
  have cc7 := d7
  have cc8 := d8
  have cc9 := d9
  have cc10 := d10
  have cc11 := d11
  have zz0 := y0
  have zz1 := y1
  have zz2 := y2
  have HR1 := q0
  have HR2 := q1
  have BB := BB1
  have sA := sA1
  clear BB1 sA1 d0 d1 d2 d3 d4 d5 d6 d7 d8 d9 d10 d11 y0 y1 y2 q0 q1
  have cc12 := kk0
  have cc13 := kk1
  have zz3 : P2 < wf.heap.size := by omega
  rw [← hP2]
  have k3P2 := k3
  clear k3 hW nb hP2 kk0 kk1
  clear k3P2
  have hnc : (X1C != X1C) = false := by simp
  have hnd : (X1C == X1C) = true := by simp
  obtain ⟨bg, hbg⟩ : ∃ b, gokB ns es = b := ⟨_, rfl⟩
  have HBG : Hid (gokB ns es = bg) := hbg
  clear hbg
  go_wp2_with fail
  refine (gok_spec _ _ ns es bg HBG.out _ (HV.out _ BB).1).mono ?_
  rintro e wg ⟨rfl, bz⟩
  have d0 : wg.cell? ⟨P0, 0, none⟩ = some (.slice ga n gc) := (Below.celz bz _ _ _ (by omega)).trans cc0
  have d1 : wg.cell? ⟨P0, 1, none⟩ = some (.slice gb m gd) := (Below.celz bz _ _ _ (by omega)).trans cc1
  have d2 : wg.cell? ⟨O0, 0, none⟩ = some (.int .i64 k) := (Below.celz bz _ _ _ (by omega)).trans cc2
  have d3 : wg.cell? ⟨O0, 1, none⟩ = some (.int .i64 nl) := (Below.celz bz _ _ _ (by omega)).trans cc3
  have d4 : wg.cell? ⟨O0, 2, none⟩ = some (.int .i64 nn) := (Below.celz bz _ _ _ (by omega)).trans cc4
  have d5 : wg.cell? ⟨O0, 3, none⟩ = some (.int .i64 l) := (Below.celz bz _ _ _ (by omega)).trans cc5
  have d6 : wg.cell? ⟨O0, 4, none⟩ = some (.int .i64 al) := (Below.celz bz _ _ _ (by omega)).trans cc6
  have d7 : wg.cell? ⟨O0, 5, none⟩ = some (.int .i64 an) := (Below.celz bz _ _ _ (by omega)).trans cc7
  have d8 : wg.cell? ⟨O0, 6, none⟩ = some (.int .i64 bl) := (Below.celz bz _ _ _ (by omega)).trans cc8
  have d9 : wg.cell? ⟨O0, 7, none⟩ = some (.int .i64 bn) := (Below.celz bz _ _ _ (by omega)).trans cc9
  have d10 : wg.cell? ⟨P1, 0, none⟩ = some (.slice xa1 p1 xc1) := (Below.celz bz _ _ _ (by omega)).trans cc10
  have d11 : wg.cell? ⟨P1, 1, none⟩ = some (.slice xb1 r1 xd1) := (Below.celz bz _ _ _ (by omega)).trans cc11
  have d12 : wg.cell? ⟨P2, 0, none⟩ = some (.slice xa2 p2 xc2) := (Below.celz bz _ _ _ (by omega)).trans cc12
  have d13 : wg.cell? ⟨P2, 1, none⟩ = some (.slice xb2 r2 xd2) := (Below.celz bz _ _ _ (by omega)).trans cc13
  have y0 : P0 < wg.heap.size := by have := Below.size bz; omega
  have y1 : O0 < wg.heap.size := by have := Below.size bz; omega
  have y2 : P1 < wg.heap.size := by have := Below.size bz; omega
  have y3 : P2 < wg.heap.size := by have := Below.size bz; omega
  have BB1 : Below A wa wg := BB.trans (bz.mono (by omega))
  have sA1 : A ≤ wg.heap.size := by have := Below.size bz; omega
  have q0 : Hid (GrAt wg (.slice xa1 p1 xc1) (.slice xb1 r1 xd1) X1N X1E) := HR1.out.keep bz
  have q1 : Hid (GrAt wg (.slice xa2 p2 xc2) (.slice xb2 r2 xd2) X1N X1E) := HR2.out.keep bz
  clear BB sA cc0 cc1 cc2 cc3 cc4 cc5 cc6 cc7 cc8 cc9 cc10 cc11 cc12 cc13 zz0 zz1 zz2 zz3 HR1 HR2
  have cc0 := d0
  have cc1 := d1
  have cc2 := d2
  have cc3 := d3
  have cc4 := d4
  have cc5 := d5
  have cc6 := d6
  have cc7 := d7
  have cc8 := d8
  have cc9 := d9
  have cc10 := d10
  have cc11 := d11
  have cc12 := d12
  have cc13 := d13
  have zz0 := y0
  have zz1 := y1
  have zz2 := y2
  have zz3 := y3
  have HR1 := q0
  have HR2 := q1
  have BB := BB1
  have sA := sA1
  clear BB1 sA1 d0 d1 d2 d3 d4 d5 d6 d7 d8 d9 d10 d11 d12 d13 y0 y1 y2 y3 q0 q1
  clear bz
  cases bg
  · go_wp2_with fail
    go_ret
    exact ⟨rfl, (HV.out _ BB).2.2.1⟩
  · by_cases hcx : X1C = 2 ∨ X1C = 3
    rotate_left
    · have hc2 : (X1C != 2) = true := by simp only [bne_iff_ne, ne_eq]; omega
      have hc3 : (X1C != 3) = true := by simp only [bne_iff_ne, ne_eq]; omega
      clear hcx
      go_wp2_with fail
      go_ret
      exact ⟨rfl, (HV.out _ BB).2.2.1⟩
    · rcases hcx with hcx | hcx
      · subst hcx
        go_wp2_with fail
        go_loopw [9, 10, 11] (fun b s i wr => ∃ (j c : Nat) (h : Bool), j ≤ n ∧ i = .int .i64 j ∧ s = .int .i64 c ∧ b = .bool h ∧ Hid (c = (ns.take j).countP (fun y => eqB y (al, an) || eqB y (bl, bn)) ∧ h = anyK ns (nl, nn) j) ∧ c ≤ j ∧ Below wg.heap.size wg wr) (fun _ _ i _ => n - (intOf i).toNat)
        case atStart => exact ⟨0, 0, false, by omega, rfl, rfl, rfl, ⟨by simp, by rw [anyK_zero]⟩, by omega, Below.refl _ _⟩
        case round =>
          obtain ⟨j, c, h, hj, rfl, rfl, rfl, HC, hcj, hbel⟩ := hrel
          have HBL : Hid (Below wg.heap.size wg wr) := hbel
          have sg : wg.heap.size ≤ wr.heap.size := hbel.size
          have d0 : wr.cell? ⟨P0, 0, none⟩ = some (.slice ga n gc) := (Below.celz hbel _ _ _ (by omega)).trans cc0
          have d1 : wr.cell? ⟨P0, 1, none⟩ = some (.slice gb m gd) := (Below.celz hbel _ _ _ (by omega)).trans cc1
          have d2 : wr.cell? ⟨O0, 0, none⟩ = some (.int .i64 k) := (Below.celz hbel _ _ _ (by omega)).trans cc2
          have d3 : wr.cell? ⟨O0, 1, none⟩ = some (.int .i64 nl) := (Below.celz hbel _ _ _ (by omega)).trans cc3
          have d4 : wr.cell? ⟨O0, 2, none⟩ = some (.int .i64 nn) := (Below.celz hbel _ _ _ (by omega)).trans cc4
          have d5 : wr.cell? ⟨O0, 3, none⟩ = some (.int .i64 l) := (Below.celz hbel _ _ _ (by omega)).trans cc5
          have d6 : wr.cell? ⟨O0, 4, none⟩ = some (.int .i64 al) := (Below.celz hbel _ _ _ (by omega)).trans cc6
          have d7 : wr.cell? ⟨O0, 5, none⟩ = some (.int .i64 an) := (Below.celz hbel _ _ _ (by omega)).trans cc7
          have d8 : wr.cell? ⟨O0, 6, none⟩ = some (.int .i64 bl) := (Below.celz hbel _ _ _ (by omega)).trans cc8
          have d9 : wr.cell? ⟨O0, 7, none⟩ = some (.int .i64 bn) := (Below.celz hbel _ _ _ (by omega)).trans cc9
          have d10 : wr.cell? ⟨P1, 0, none⟩ = some (.slice xa1 p1 xc1) := (Below.celz hbel _ _ _ (by omega)).trans cc10
          have d11 : wr.cell? ⟨P1, 1, none⟩ = some (.slice xb1 r1 xd1) := (Below.celz hbel _ _ _ (by omega)).trans cc11
          have d12 : wr.cell? ⟨P2, 0, none⟩ = some (.slice xa2 p2 xc2) := (Below.celz hbel _ _ _ (by omega)).trans cc12
          have d13 : wr.cell? ⟨P2, 1, none⟩ = some (.slice xb2 r2 xd2) := (Below.celz hbel _ _ _ (by omega)).trans cc13
          have y0 : P0 < wr.heap.size := by have := Below.size hbel; omega
          have y1 : O0 < wr.heap.size := by have := Below.size hbel; omega
          have y2 : P1 < wr.heap.size := by have := Below.size hbel; omega
          have y3 : P2 < wr.heap.size := by have := Below.size hbel; omega
          have BB1 : Below A wa wr := BB.trans (hbel.mono (by omega))
          have sA1 : A ≤ wr.heap.size := by have := Below.size hbel; omega
          have q0 : Hid (GrAt wr (.slice xa1 p1 xc1) (.slice xb1 r1 xd1) X1N X1E) := HR1.out.keep hbel
          have q1 : Hid (GrAt wr (.slice xa2 p2 xc2) (.slice xb2 r2 xd2) X1N X1E) := HR2.out.keep hbel
          clear BB sA cc0 cc1 cc2 cc3 cc4 cc5 cc6 cc7 cc8 cc9 cc10 cc11 cc12 cc13 zz0 zz1 zz2 zz3 HR1 HR2
          have cc0 := d0
          have cc1 := d1
          have cc2 := d2
          have cc3 := d3
          have cc4 := d4
          have cc5 := d5
          have cc6 := d6
          have cc7 := d7
          have cc8 := d8
          have cc9 := d9
          have cc10 := d10
          have cc11 := d11
          have cc12 := d12
          have cc13 := d13
          have zz0 := y0
          have zz1 := y1
          have zz2 := y2
          have zz3 := y3
          have HR1 := q0
          have HR2 := q1
          have BB := BB1
          have sA := sA1
          clear BB1 sA1 d0 d1 d2 d3 d4 d5 d6 d7 d8 d9 d10 d11 d12 d13 y0 y1 y2 y3 q0 q1
          clear hbel
          by_cases hlt : j < n
          · obtain ⟨⟨x0, x1⟩, hx⟩ : ∃ x, ns[j]? = some x := ⟨_, List.getElem?_eq_getElem (by rw [← HN.out.1]; exact hlt)⟩
            obtain ⟨b, off, hla, zb, e0, e1⟩ : ∃ b off, ga = some ⟨b, off, none⟩ ∧ b < wr.heap.size ∧ wr.cell? ⟨b, off + j * 2, none⟩ = some (.int .i64 x0) ∧ wr.cell? ⟨b, off + j * 2 + 1, none⟩ = some (.int .i64 x1) := by
              rcases (HV.out _ BB).1.1 with ⟨hz0, _⟩ | ⟨_, b, off, cap', hv, hb, hc⟩
              · rw [hz0] at hx; simp at hx
              · simp only [Value.slice.injEq] at hv
                exact ⟨b, off, hv.1, hb, hc j _ hx 0 _ rfl, hc j _ hx 1 _ rfl⟩
            subst hla
            have HX : Hid (ns[j]? = some (x0, x1)) := hx
            have HS1 : Hid ((ns.take (j + 1)).countP (fun y => eqB y (al, an) || eqB y (bl, bn)) = c + if (eqB (x0, x1) (al, an) || eqB (x0, x1) (bl, bn)) = true then 1 else 0) := by
              show _ = _
              rw [cntP_step HX.out, HC.out.1]
            have HS2 : Hid (anyK ns (nl, nn) (j + 1) = (h || eqB (x0, x1) (nl, nn))) := by
              show _ = _
              rw [anyK_step HX.out, ← HC.out.2]
            have j0 : (0 : Int) ≤ (j : Int) := by omega
            have j1 : (j : Int) < (n : Int) := by omega
            clear hx
            have cc14 := e0
            have cc15 := e1
            have zz4 := zb
            clear e0 e1 zb
            go_upto_region 13 with fail
            go_cut [9] (fun s9 wx => s9 = .bool (h || eqB (x0, x1) (nl, nn)) ∧ Below wr.heap.size wr wx)
            case first =>
              cases h
              · by_cases anl0 : x0 = nl
                · by_cases ann1 : x1 = nn
                  · have HQ : Hid ((false || eqB (x0, x1) (nl, nn)) = true) := by
                      show _ = _
                      simp [eqB, anl0, ann1]
                    have anl0t : (x0 == nl) = true := by simp [anl0]
                    have anl0u : decide (x0 = nl) = true := by simp [anl0]
                    have ann1t : (x1 == nn) = true := by simp [ann1]
                    have ann1u : decide (x1 = nn) = true := by simp [ann1]
                    clear anl0 ann1
                    clear HS1 HS2 HC
                    go_wp2_with fail
                    refine wp_region_after (by kernel_rfl) (by kernel_rfl) ?_
                    intro hneq hac
                    repeat (go_big_quiet_step (fail))
                    refine wpQuiet_nil ?_
                    rintro _ ⟨p', rfl⟩
                    have bq : Hid (Below wr.heap.size wr p'.w) := p'.bel
                    clear hac hneq
                    generalize p'.w = wq at *
                    go_wp2_with fail
                    go_meet
                    exact ⟨by rw [HQ.out], bq.out⟩
                  · have HQ : Hid ((false || eqB (x0, x1) (nl, nn)) = false) := by
                      show _ = _
                      simp [eqB, anl0, ann1]
                    have anl0t : (x0 == nl) = true := by simp [anl0]
                    have anl0u : decide (x0 = nl) = true := by simp [anl0]
                    have ann1t : (x1 == nn) = false := beq_eq_false_iff_ne.2 ann1
                    have ann1u : decide (x1 = nn) = false := by simpa using ann1
                    clear anl0 ann1
                    clear HS1 HS2 HC
                    go_wp2_with fail
                    refine wp_region_after (by kernel_rfl) (by kernel_rfl) ?_
                    intro hneq hac
                    repeat (go_big_quiet_step (fail))
                    refine wpQuiet_nil ?_
                    rintro _ ⟨p', rfl⟩
                    have bq : Hid (Below wr.heap.size wr p'.w) := p'.bel
                    clear hac hneq
                    generalize p'.w = wq at *
                    go_wp2_with fail
                    go_meet
                    exact ⟨by rw [HQ.out], bq.out⟩
                · have HQ : Hid ((false || eqB (x0, x1) (nl, nn)) = false) := by
                    show _ = _
                    simp [eqB, anl0]
                  have anl0t : (x0 == nl) = false := beq_eq_false_iff_ne.2 anl0
                  have anl0u : decide (x0 = nl) = false := by simpa using anl0
                  clear anl0
                  clear HS1 HS2 HC
                  go_wp2_with fail
                  refine wp_region_after (by kernel_rfl) (by kernel_rfl) ?_
                  intro hneq hac
                  repeat (go_big_quiet_step (fail))
                  refine wpQuiet_nil ?_
                  rintro _ ⟨p', rfl⟩
                  have bq : Hid (Below wr.heap.size wr p'.w) := p'.bel
                  clear hac hneq
                  generalize p'.w = wq at *
                  go_wp2_with fail
                  go_meet
                  exact ⟨by rw [HQ.out], bq.out⟩
              · clear HS1 HS2 HC
                go_wp2_with fail
                refine wp_region_after (by kernel_rfl) (by kernel_rfl) ?_
                intro hneq hac
                repeat (go_big_quiet_step (fail))
                refine wpQuiet_nil ?_
                rintro _ ⟨p', rfl⟩
                have bq : Hid (Below wr.heap.size wr p'.w) := p'.bel
                clear hac hneq
                generalize p'.w = wq at *
                go_wp2_with fail
                go_meet
                exact ⟨rfl, bq.out⟩
            case rest =>
              obtain ⟨rfl, hb⟩ := hcut
              obtain ⟨wy, hwy⟩ : ∃ t, t = wc := ⟨_, rfl⟩
              rw [← hwy] at hb ⊢
              clear hwy
              generalize hh2 : (h || eqB (x0, x1) (nl, nn)) = h2 at HS2 ⊢
              clear hh2
              have HBL2 : Hid (Below wg.heap.size wg wy) := HBL.out.trans (hb.mono sg)
              have sg2 : wg.heap.size ≤ wy.heap.size := HBL2.out.size
              have d0 : wy.cell? ⟨P0, 0, none⟩ = some (.slice (some ⟨b, off, none⟩) n gc) := (Below.celz hb _ _ _ (by omega)).trans cc0
              have d1 : wy.cell? ⟨P0, 1, none⟩ = some (.slice gb m gd) := (Below.celz hb _ _ _ (by omega)).trans cc1
              have d2 : wy.cell? ⟨O0, 0, none⟩ = some (.int .i64 k) := (Below.celz hb _ _ _ (by omega)).trans cc2
              have d3 : wy.cell? ⟨O0, 1, none⟩ = some (.int .i64 nl) := (Below.celz hb _ _ _ (by omega)).trans cc3
              have d4 : wy.cell? ⟨O0, 2, none⟩ = some (.int .i64 nn) := (Below.celz hb _ _ _ (by omega)).trans cc4
              have d5 : wy.cell? ⟨O0, 3, none⟩ = some (.int .i64 l) := (Below.celz hb _ _ _ (by omega)).trans cc5
              have d6 : wy.cell? ⟨O0, 4, none⟩ = some (.int .i64 al) := (Below.celz hb _ _ _ (by omega)).trans cc6
              have d7 : wy.cell? ⟨O0, 5, none⟩ = some (.int .i64 an) := (Below.celz hb _ _ _ (by omega)).trans cc7
              have d8 : wy.cell? ⟨O0, 6, none⟩ = some (.int .i64 bl) := (Below.celz hb _ _ _ (by omega)).trans cc8
              have d9 : wy.cell? ⟨O0, 7, none⟩ = some (.int .i64 bn) := (Below.celz hb _ _ _ (by omega)).trans cc9
              have d10 : wy.cell? ⟨P1, 0, none⟩ = some (.slice xa1 p1 xc1) := (Below.celz hb _ _ _ (by omega)).trans cc10
              have d11 : wy.cell? ⟨P1, 1, none⟩ = some (.slice xb1 r1 xd1) := (Below.celz hb _ _ _ (by omega)).trans cc11
              have d12 : wy.cell? ⟨P2, 0, none⟩ = some (.slice xa2 p2 xc2) := (Below.celz hb _ _ _ (by omega)).trans cc12
              have d13 : wy.cell? ⟨P2, 1, none⟩ = some (.slice xb2 r2 xd2) := (Below.celz hb _ _ _ (by omega)).trans cc13
              have d14 : wy.cell? ⟨b, off + j * 2, none⟩ = some (.int .i64 x0) := (Below.celz hb _ _ _ (by omega)).trans cc14
              have d15 : wy.cell? ⟨b, off + j * 2 + 1, none⟩ = some (.int .i64 x1) := (Below.celz hb _ _ _ (by omega)).trans cc15
              have y0 : P0 < wy.heap.size := by have := Below.size hb; omega
              have y1 : O0 < wy.heap.size := by have := Below.size hb; omega
              have y2 : P1 < wy.heap.size := by have := Below.size hb; omega
              have y3 : P2 < wy.heap.size := by have := Below.size hb; omega
              have y4 : b < wy.heap.size := by have := Below.size hb; omega
              have BB1 : Below A wa wy := BB.trans (hb.mono (by omega))
              have sA1 : A ≤ wy.heap.size := by have := Below.size hb; omega
              have q0 : Hid (GrAt wy (.slice xa1 p1 xc1) (.slice xb1 r1 xd1) X1N X1E) := HR1.out.keep hb
              have q1 : Hid (GrAt wy (.slice xa2 p2 xc2) (.slice xb2 r2 xd2) X1N X1E) := HR2.out.keep hb
              clear BB sA cc0 cc1 cc2 cc3 cc4 cc5 cc6 cc7 cc8 cc9 cc10 cc11 cc12 cc13 cc14 cc15 zz0 zz1 zz2 zz3 zz4 HR1 HR2
              have cc0 := d0
              have cc1 := d1
              have cc2 := d2
              have cc3 := d3
              have cc4 := d4
              have cc5 := d5
              have cc6 := d6
              have cc7 := d7
              have cc8 := d8
              have cc9 := d9
              have cc10 := d10
              have cc11 := d11
              have cc12 := d12
              have cc13 := d13
              have cc14 := d14
              have cc15 := d15
              have zz0 := y0
              have zz1 := y1
              have zz2 := y2
              have zz3 := y3
              have zz4 := y4
              have HR1 := q0
              have HR2 := q1
              have BB := BB1
              have sA := sA1
              clear BB1 sA1 d0 d1 d2 d3 d4 d5 d6 d7 d8 d9 d10 d11 d12 d13 d14 d15 y0 y1 y2 y3 y4 q0 q1
              clear hb
              by_cases aal0 : x0 = al
              · by_cases aan1 : x1 = an
                · have E1 : Hid (eqB (x0, x1) (al, an) = true) := by
                    show _ = _
                    simp [eqB, aal0, aan1]
                  have HCN : Hid (c + 1 = (ns.take (j + 1)).countP (fun y => eqB y (al, an) || eqB y (bl, bn))) := by
                    show _ = _
                    rw [HS1.out, E1.out]
                    rfl
                  have aal0t : (x0 == al) = true := by simp [aal0]
                  have aal0u : decide (x0 = al) = true := by simp [aal0]
                  have aan1t : (x1 == an) = true := by simp [aan1]
                  have aan1u : decide (x1 = an) = true := by simp [aan1]
                  clear aal0 aan1
                  clear HS1 HC
                  go_wp2_with fail
                  refine wp_region_after (by kernel_rfl) (by kernel_rfl) ?_
                  intro hneq hac
                  repeat (go_big_quiet_step (fail))
                  refine wpQuiet_nil ?_
                  rintro _ ⟨p', rfl⟩
                  have bq : Hid (Below wy.heap.size wy p'.w) := p'.bel
                  clear hac hneq
                  generalize p'.w = wq at *
                  go_wp2_with fail
                  go_roundw
                  case rel => exact ⟨j + 1, c + 1, h2, by omega, by go_num, by go_num, rfl, ⟨HCN.out, HS2.out.symm⟩, by omega, HBL2.out.trans (bq.out.mono sg2)⟩
                  case measure => simp [intOf]; omega
                · have E1 : Hid (eqB (x0, x1) (al, an) = false) := by
                    show _ = _
                    simp [eqB, aal0, aan1]
                  have aal0t : (x0 == al) = true := by simp [aal0]
                  have aal0u : decide (x0 = al) = true := by simp [aal0]
                  have aan1t : (x1 == an) = false := beq_eq_false_iff_ne.2 aan1
                  have aan1u : decide (x1 = an) = false := by simpa using aan1
                  clear aal0 aan1

                  by_cases abl0 : x0 = bl
                  · by_cases abn1 : x1 = bn
                    · have E2 : Hid (eqB (x0, x1) (bl, bn) = true) := by
                        show _ = _
                        simp [eqB, abl0, abn1]
                      have HCN : Hid (c + 1 = (ns.take (j + 1)).countP (fun y => eqB y (al, an) || eqB y (bl, bn))) := by
                        show _ = _
                        rw [HS1.out, E1.out, E2.out]
                        rfl
                      have abl0t : (x0 == bl) = true := by simp [abl0]
                      have abl0u : decide (x0 = bl) = true := by simp [abl0]
                      have abn1t : (x1 == bn) = true := by simp [abn1]
                      have abn1u : decide (x1 = bn) = true := by simp [abn1]
                      clear abl0 abn1
                      clear HS1 HC
                      go_wp2_with fail
                      refine wp_region_after (by kernel_rfl) (by kernel_rfl) ?_
                      intro hneq hac
                      repeat (go_big_quiet_step (fail))
                      refine wpQuiet_nil ?_
                      rintro _ ⟨p', rfl⟩
                      have bq : Hid (Below wy.heap.size wy p'.w) := p'.bel
                      clear hac hneq
                      generalize p'.w = wq at *
                      go_wp2_with fail
                      go_roundw
                      case rel => exact ⟨j + 1, c + 1, h2, by omega, by go_num, by go_num, rfl, ⟨HCN.out, HS2.out.symm⟩, by omega, HBL2.out.trans (bq.out.mono sg2)⟩
                      case measure => simp [intOf]; omega
                    · have E2 : Hid (eqB (x0, x1) (bl, bn) = false) := by
                        show _ = _
                        simp [eqB, abl0, abn1]
                      have HCN : Hid (c = (ns.take (j + 1)).countP (fun y => eqB y (al, an) || eqB y (bl, bn))) := by
                        show _ = _
                        rw [HS1.out, E1.out, E2.out]
                        rfl
                      have abl0t : (x0 == bl) = true := by simp [abl0]
                      have abl0u : decide (x0 = bl) = true := by simp [abl0]
                      have abn1t : (x1 == bn) = false := beq_eq_false_iff_ne.2 abn1
                      have abn1u : decide (x1 = bn) = false := by simpa using abn1
                      clear abl0 abn1
                      clear HS1 HC
                      go_wp2_with fail
                      refine wp_region_after (by kernel_rfl) (by kernel_rfl) ?_
                      intro hneq hac
                      repeat (go_big_quiet_step (fail))
                      refine wpQuiet_nil ?_
                      rintro _ ⟨p', rfl⟩
                      have bq : Hid (Below wy.heap.size wy p'.w) := p'.bel
                      clear hac hneq
                      generalize p'.w = wq at *
                      go_wp2_with fail
                      go_roundw
                      case rel => exact ⟨j + 1, c, h2, by omega, by go_num, rfl, rfl, ⟨HCN.out, HS2.out.symm⟩, by omega, HBL2.out.trans (bq.out.mono sg2)⟩
                      case measure => simp [intOf]; omega
                  · have E2 : Hid (eqB (x0, x1) (bl, bn) = false) := by
                      show _ = _
                      simp [eqB, abl0]
                    have HCN : Hid (c = (ns.take (j + 1)).countP (fun y => eqB y (al, an) || eqB y (bl, bn))) := by
                      show _ = _
                      rw [HS1.out, E1.out, E2.out]
                      rfl
                    have abl0t : (x0 == bl) = false := beq_eq_false_iff_ne.2 abl0
                    have abl0u : decide (x0 = bl) = false := by simpa using abl0
                    clear abl0
                    clear HS1 HC
                    go_wp2_with fail
                    refine wp_region_after (by kernel_rfl) (by kernel_rfl) ?_
                    intro hneq hac
                    repeat (go_big_quiet_step (fail))
                    refine wpQuiet_nil ?_
                    rintro _ ⟨p', rfl⟩
                    have bq : Hid (Below wy.heap.size wy p'.w) := p'.bel
                    clear hac hneq
                    generalize p'.w = wq at *
                    go_wp2_with fail
                    go_roundw
                    case rel => exact ⟨j + 1, c, h2, by omega, by go_num, rfl, rfl, ⟨HCN.out, HS2.out.symm⟩, by omega, HBL2.out.trans (bq.out.mono sg2)⟩
                    case measure => simp [intOf]; omega
              · have E1 : Hid (eqB (x0, x1) (al, an) = false) := by
                  show _ = _
                  simp [eqB, aal0]
                have aal0t : (x0 == al) = false := beq_eq_false_iff_ne.2 aal0
                have aal0u : decide (x0 = al) = false := by simpa using aal0
                clear aal0

                by_cases abl0 : x0 = bl
                · by_cases abn1 : x1 = bn
                  · have E2 : Hid (eqB (x0, x1) (bl, bn) = true) := by
                      show _ = _
                      simp [eqB, abl0, abn1]
                    have HCN : Hid (c + 1 = (ns.take (j + 1)).countP (fun y => eqB y (al, an) || eqB y (bl, bn))) := by
                      show _ = _
                      rw [HS1.out, E1.out, E2.out]
                      rfl
                    have abl0t : (x0 == bl) = true := by simp [abl0]
                    have abl0u : decide (x0 = bl) = true := by simp [abl0]
                    have abn1t : (x1 == bn) = true := by simp [abn1]
                    have abn1u : decide (x1 = bn) = true := by simp [abn1]
                    clear abl0 abn1
                    clear HS1 HC
                    go_wp2_with fail
                    refine wp_region_after (by kernel_rfl) (by kernel_rfl) ?_
                    intro hneq hac
                    repeat (go_big_quiet_step (fail))
                    refine wpQuiet_nil ?_
                    rintro _ ⟨p', rfl⟩
                    have bq : Hid (Below wy.heap.size wy p'.w) := p'.bel
                    clear hac hneq
                    generalize p'.w = wq at *
                    go_wp2_with fail
                    go_roundw
                    case rel => exact ⟨j + 1, c + 1, h2, by omega, by go_num, by go_num, rfl, ⟨HCN.out, HS2.out.symm⟩, by omega, HBL2.out.trans (bq.out.mono sg2)⟩
                    case measure => simp [intOf]; omega
                  · have E2 : Hid (eqB (x0, x1) (bl, bn) = false) := by
                      show _ = _
                      simp [eqB, abl0, abn1]
                    have HCN : Hid (c = (ns.take (j + 1)).countP (fun y => eqB y (al, an) || eqB y (bl, bn))) := by
                      show _ = _
                      rw [HS1.out, E1.out, E2.out]
                      rfl
                    have abl0t : (x0 == bl) = true := by simp [abl0]
                    have abl0u : decide (x0 = bl) = true := by simp [abl0]
                    have abn1t : (x1 == bn) = false := beq_eq_false_iff_ne.2 abn1
                    have abn1u : decide (x1 = bn) = false := by simpa using abn1
                    clear abl0 abn1
                    clear HS1 HC
                    go_wp2_with fail
                    refine wp_region_after (by kernel_rfl) (by kernel_rfl) ?_
                    intro hneq hac
                    repeat (go_big_quiet_step (fail))
                    refine wpQuiet_nil ?_
                    rintro _ ⟨p', rfl⟩
                    have bq : Hid (Below wy.heap.size wy p'.w) := p'.bel
                    clear hac hneq
                    generalize p'.w = wq at *
                    go_wp2_with fail
                    go_roundw
                    case rel => exact ⟨j + 1, c, h2, by omega, by go_num, rfl, rfl, ⟨HCN.out, HS2.out.symm⟩, by omega, HBL2.out.trans (bq.out.mono sg2)⟩
                    case measure => simp [intOf]; omega
                · have E2 : Hid (eqB (x0, x1) (bl, bn) = false) := by
                    show _ = _
                    simp [eqB, abl0]
                  have HCN : Hid (c = (ns.take (j + 1)).countP (fun y => eqB y (al, an) || eqB y (bl, bn))) := by
                    show _ = _
                    rw [HS1.out, E1.out, E2.out]
                    rfl
                  have abl0t : (x0 == bl) = false := beq_eq_false_iff_ne.2 abl0
                  have abl0u : decide (x0 = bl) = false := by simpa using abl0
                  clear abl0
                  clear HS1 HC
                  go_wp2_with fail
                  refine wp_region_after (by kernel_rfl) (by kernel_rfl) ?_
                  intro hneq hac
                  repeat (go_big_quiet_step (fail))
                  refine wpQuiet_nil ?_
                  rintro _ ⟨p', rfl⟩
                  have bq : Hid (Below wy.heap.size wy p'.w) := p'.bel
                  clear hac hneq
                  generalize p'.w = wq at *
                  go_wp2_with fail
                  go_roundw
                  case rel => exact ⟨j + 1, c, h2, by omega, by go_num, rfl, rfl, ⟨HCN.out, HS2.out.symm⟩, by omega, HBL2.out.trans (bq.out.mono sg2)⟩
                  case measure => simp [intOf]; omega
          · have jn : ¬ ((j : Int) < (n : Int)) := by omega
            have hcj2 : c ≤ 200 := by omega
            have HNE : Hid (c = ns.countP (fun y => eqB y (al, an) || eqB y (bl, bn)) ∧ h = decide ((nl, nn) ∈ ns)) := by
              have hle : ns.length ≤ j := by rw [← HN.out.1]; omega
              refine ⟨?_, ?_⟩
              · rw [HC.out.1, List.take_of_length_le hle]
              · rw [HC.out.2, anyK_all hle]; exact decide_eq_decide.2 Iff.rfl
            clear HC HBL sg hlt hcj hj
            go_wp2_with fail
            obtain ⟨wl, hwl⟩ : ∃ t, t = wr := ⟨_, rfl⟩
            subst hwl
            clear jn
            go_loopw [12, 13] (fun b i wr => ∃ (j : Nat) (h : Bool), j ≤ m ∧ i = .int .i64 j ∧ b = .bool h ∧ Hid (h = anyK es (l, al, an, bl, bn) j) ∧ Below wl.heap.size wl wr) (fun _ i _ => m - (intOf i).toNat)
            case atStart => exact ⟨0, false, by omega, rfl, rfl, (by show _ = _; rw [anyK_zero]), Below.refl _ _⟩
            case round =>
              obtain ⟨j, he, hj, rfl, rfl, HC, hbel⟩ := hrel
              have HBL : Hid (Below wl.heap.size wl wr) := hbel
              have sg : wl.heap.size ≤ wr.heap.size := hbel.size
              have d0 : wr.cell? ⟨P0, 0, none⟩ = some (.slice ga n gc) := (Below.celz hbel _ _ _ (by omega)).trans cc0
              have d1 : wr.cell? ⟨P0, 1, none⟩ = some (.slice gb m gd) := (Below.celz hbel _ _ _ (by omega)).trans cc1
              have d2 : wr.cell? ⟨O0, 0, none⟩ = some (.int .i64 k) := (Below.celz hbel _ _ _ (by omega)).trans cc2
              have d3 : wr.cell? ⟨O0, 1, none⟩ = some (.int .i64 nl) := (Below.celz hbel _ _ _ (by omega)).trans cc3
              have d4 : wr.cell? ⟨O0, 2, none⟩ = some (.int .i64 nn) := (Below.celz hbel _ _ _ (by omega)).trans cc4
              have d5 : wr.cell? ⟨O0, 3, none⟩ = some (.int .i64 l) := (Below.celz hbel _ _ _ (by omega)).trans cc5
              have d6 : wr.cell? ⟨O0, 4, none⟩ = some (.int .i64 al) := (Below.celz hbel _ _ _ (by omega)).trans cc6
              have d7 : wr.cell? ⟨O0, 5, none⟩ = some (.int .i64 an) := (Below.celz hbel _ _ _ (by omega)).trans cc7
              have d8 : wr.cell? ⟨O0, 6, none⟩ = some (.int .i64 bl) := (Below.celz hbel _ _ _ (by omega)).trans cc8
              have d9 : wr.cell? ⟨O0, 7, none⟩ = some (.int .i64 bn) := (Below.celz hbel _ _ _ (by omega)).trans cc9
              have d10 : wr.cell? ⟨P1, 0, none⟩ = some (.slice xa1 p1 xc1) := (Below.celz hbel _ _ _ (by omega)).trans cc10
              have d11 : wr.cell? ⟨P1, 1, none⟩ = some (.slice xb1 r1 xd1) := (Below.celz hbel _ _ _ (by omega)).trans cc11
              have d12 : wr.cell? ⟨P2, 0, none⟩ = some (.slice xa2 p2 xc2) := (Below.celz hbel _ _ _ (by omega)).trans cc12
              have d13 : wr.cell? ⟨P2, 1, none⟩ = some (.slice xb2 r2 xd2) := (Below.celz hbel _ _ _ (by omega)).trans cc13
              have y0 : P0 < wr.heap.size := by have := Below.size hbel; omega
              have y1 : O0 < wr.heap.size := by have := Below.size hbel; omega
              have y2 : P1 < wr.heap.size := by have := Below.size hbel; omega
              have y3 : P2 < wr.heap.size := by have := Below.size hbel; omega
              have BB1 : Below A wa wr := BB.trans (hbel.mono (by omega))
              have sA1 : A ≤ wr.heap.size := by have := Below.size hbel; omega
              have q0 : Hid (GrAt wr (.slice xa1 p1 xc1) (.slice xb1 r1 xd1) X1N X1E) := HR1.out.keep hbel
              have q1 : Hid (GrAt wr (.slice xa2 p2 xc2) (.slice xb2 r2 xd2) X1N X1E) := HR2.out.keep hbel
              clear BB sA cc0 cc1 cc2 cc3 cc4 cc5 cc6 cc7 cc8 cc9 cc10 cc11 cc12 cc13 zz0 zz1 zz2 zz3 HR1 HR2
              have cc0 := d0
              have cc1 := d1
              have cc2 := d2
              have cc3 := d3
              have cc4 := d4
              have cc5 := d5
              have cc6 := d6
              have cc7 := d7
              have cc8 := d8
              have cc9 := d9
              have cc10 := d10
              have cc11 := d11
              have cc12 := d12
              have cc13 := d13
              have zz0 := y0
              have zz1 := y1
              have zz2 := y2
              have zz3 := y3
              have HR1 := q0
              have HR2 := q1
              have BB := BB1
              have sA := sA1
              clear BB1 sA1 d0 d1 d2 d3 d4 d5 d6 d7 d8 d9 d10 d11 d12 d13 y0 y1 y2 y3 q0 q1
              clear hbel
              by_cases hlt : j < m
              · obtain ⟨⟨x0, x1, x2, x3, x4⟩, hx⟩ : ∃ x, es[j]? = some x := ⟨_, List.getElem?_eq_getElem (by rw [← HN.out.2]; exact hlt)⟩
                obtain ⟨b, off, hla, zb, e0, e1, e2, e3, e4⟩ : ∃ b off, gb = some ⟨b, off, none⟩ ∧ b < wr.heap.size ∧ wr.cell? ⟨b, off + j * 5, none⟩ = some (.int .i64 x0) ∧ wr.cell? ⟨b, off + j * 5 + 1, none⟩ = some (.int .i64 x1) ∧ wr.cell? ⟨b, off + j * 5 + 2, none⟩ = some (.int .i64 x2) ∧ wr.cell? ⟨b, off + j * 5 + 3, none⟩ = some (.int .i64 x3) ∧ wr.cell? ⟨b, off + j * 5 + 4, none⟩ = some (.int .i64 x4) := by
                  rcases (HV.out _ BB).1.2.1 with ⟨hz0, _⟩ | ⟨_, b, off, cap', hv, hb, hc⟩
                  · rw [hz0] at hx; simp at hx
                  · simp only [Value.slice.injEq] at hv
                    exact ⟨b, off, hv.1, hb, hc j _ hx 0 _ rfl, hc j _ hx 1 _ rfl, hc j _ hx 2 _ rfl, hc j _ hx 3 _ rfl, hc j _ hx 4 _ rfl⟩
                subst hla
                have HX : Hid (es[j]? = some (x0, x1, x2, x3, x4)) := hx
                have HS2 : Hid (anyK es (l, al, an, bl, bn) (j + 1) = (he || eqB (x0, x1, x2, x3, x4) (l, al, an, bl, bn))) := by
                  show _ = _
                  rw [anyK_step HX.out, ← HC.out]
                have j0 : (0 : Int) ≤ (j : Int) := by omega
                have j1 : (j : Int) < (m : Int) := by omega
                clear hx
                cases he
                · by_cases al0 : x0 = l
                  · by_cases aal1 : x1 = al
                    · by_cases aan2 : x2 = an
                      · by_cases abl3 : x3 = bl
                        · by_cases abn4 : x4 = bn
                          · have HCN : Hid (true = anyK es (l, al, an, bl, bn) (j + 1)) := by
                              show _ = _
                              rw [HS2.out]
                              simp [eqB, al0, aal1, aan2, abl3, abn4]
                            have al0t : (x0 == l) = true := by simp [al0]
                            have al0u : decide (x0 = l) = true := by simp [al0]
                            have aal1t : (x1 == al) = true := by simp [aal1]
                            have aal1u : decide (x1 = al) = true := by simp [aal1]
                            have aan2t : (x2 == an) = true := by simp [aan2]
                            have aan2u : decide (x2 = an) = true := by simp [aan2]
                            have abl3t : (x3 == bl) = true := by simp [abl3]
                            have abl3u : decide (x3 = bl) = true := by simp [abl3]
                            have abn4t : (x4 == bn) = true := by simp [abn4]
                            have abn4u : decide (x4 = bn) = true := by simp [abn4]
                            clear al0 aal1 aan2 abl3 abn4
                            clear HS2 HC
                            go_wp2_with fail
                            refine wp_region_after (by kernel_rfl) (by kernel_rfl) ?_
                            intro hneq hac
                            repeat (go_big_quiet_step (fail))
                            refine wpQuiet_nil ?_
                            rintro _ ⟨p', rfl⟩
                            have bq : Hid (Below wr.heap.size wr p'.w) := p'.bel
                            clear hac hneq
                            generalize p'.w = wq at *
                            go_wp2_with fail
                            go_roundw
                            case rel => exact ⟨j + 1, true, by omega, by go_num, rfl, HCN.out, HBL.out.trans (bq.out.mono sg)⟩
                            case measure => simp [intOf]; omega
                          · have HCN : Hid (false = anyK es (l, al, an, bl, bn) (j + 1)) := by
                              show _ = _
                              rw [HS2.out]
                              simp [eqB, al0, aal1, aan2, abl3, abn4]
                            have al0t : (x0 == l) = true := by simp [al0]
                            have al0u : decide (x0 = l) = true := by simp [al0]
                            have aal1t : (x1 == al) = true := by simp [aal1]
                            have aal1u : decide (x1 = al) = true := by simp [aal1]
                            have aan2t : (x2 == an) = true := by simp [aan2]
                            have aan2u : decide (x2 = an) = true := by simp [aan2]
                            have abl3t : (x3 == bl) = true := by simp [abl3]
                            have abl3u : decide (x3 = bl) = true := by simp [abl3]
                            have abn4t : (x4 == bn) = false := beq_eq_false_iff_ne.2 abn4
                            have abn4u : decide (x4 = bn) = false := by simpa using abn4
                            clear al0 aal1 aan2 abl3 abn4
                            clear HS2 HC
                            go_wp2_with fail
                            refine wp_region_after (by kernel_rfl) (by kernel_rfl) ?_
                            intro hneq hac
                            repeat (go_big_quiet_step (fail))
                            refine wpQuiet_nil ?_
                            rintro _ ⟨p', rfl⟩
                            have bq : Hid (Below wr.heap.size wr p'.w) := p'.bel
                            clear hac hneq
                            generalize p'.w = wq at *
                            go_wp2_with fail
                            go_roundw
                            case rel => exact ⟨j + 1, false, by omega, by go_num, rfl, HCN.out, HBL.out.trans (bq.out.mono sg)⟩
                            case measure => simp [intOf]; omega
                        · have HCN : Hid (false = anyK es (l, al, an, bl, bn) (j + 1)) := by
                            show _ = _
                            rw [HS2.out]
                            simp [eqB, al0, aal1, aan2, abl3]
                          have al0t : (x0 == l) = true := by simp [al0]
                          have al0u : decide (x0 = l) = true := by simp [al0]
                          have aal1t : (x1 == al) = true := by simp [aal1]
                          have aal1u : decide (x1 = al) = true := by simp [aal1]
                          have aan2t : (x2 == an) = true := by simp [aan2]
                          have aan2u : decide (x2 = an) = true := by simp [aan2]
                          have abl3t : (x3 == bl) = false := beq_eq_false_iff_ne.2 abl3
                          have abl3u : decide (x3 = bl) = false := by simpa using abl3
                          clear al0 aal1 aan2 abl3
                          clear HS2 HC
                          go_wp2_with fail
                          refine wp_region_after (by kernel_rfl) (by kernel_rfl) ?_
                          intro hneq hac
                          repeat (go_big_quiet_step (fail))
                          refine wpQuiet_nil ?_
                          rintro _ ⟨p', rfl⟩
                          have bq : Hid (Below wr.heap.size wr p'.w) := p'.bel
                          clear hac hneq
                          generalize p'.w = wq at *
                          go_wp2_with fail
                          go_roundw
                          case rel => exact ⟨j + 1, false, by omega, by go_num, rfl, HCN.out, HBL.out.trans (bq.out.mono sg)⟩
                          case measure => simp [intOf]; omega
                      · have HCN : Hid (false = anyK es (l, al, an, bl, bn) (j + 1)) := by
                          show _ = _
                          rw [HS2.out]
                          simp [eqB, al0, aal1, aan2]
                        have al0t : (x0 == l) = true := by simp [al0]
                        have al0u : decide (x0 = l) = true := by simp [al0]
                        have aal1t : (x1 == al) = true := by simp [aal1]
                        have aal1u : decide (x1 = al) = true := by simp [aal1]
                        have aan2t : (x2 == an) = false := beq_eq_false_iff_ne.2 aan2
                        have aan2u : decide (x2 = an) = false := by simpa using aan2
                        clear al0 aal1 aan2
                        clear HS2 HC
                        go_wp2_with fail
                        refine wp_region_after (by kernel_rfl) (by kernel_rfl) ?_
                        intro hneq hac
                        repeat (go_big_quiet_step (fail))
                        refine wpQuiet_nil ?_
                        rintro _ ⟨p', rfl⟩
                        have bq : Hid (Below wr.heap.size wr p'.w) := p'.bel
                        clear hac hneq
                        generalize p'.w = wq at *
                        go_wp2_with fail
                        go_roundw
                        case rel => exact ⟨j + 1, false, by omega, by go_num, rfl, HCN.out, HBL.out.trans (bq.out.mono sg)⟩
                        case measure => simp [intOf]; omega
                    · have HCN : Hid (false = anyK es (l, al, an, bl, bn) (j + 1)) := by
                        show _ = _
                        rw [HS2.out]
                        simp [eqB, al0, aal1]
                      have al0t : (x0 == l) = true := by simp [al0]
                      have al0u : decide (x0 = l) = true := by simp [al0]
                      have aal1t : (x1 == al) = false := beq_eq_false_iff_ne.2 aal1
                      have aal1u : decide (x1 = al) = false := by simpa using aal1
                      clear al0 aal1
                      clear HS2 HC
                      go_wp2_with fail
                      refine wp_region_after (by kernel_rfl) (by kernel_rfl) ?_
                      intro hneq hac
                      repeat (go_big_quiet_step (fail))
                      refine wpQuiet_nil ?_
                      rintro _ ⟨p', rfl⟩
                      have bq : Hid (Below wr.heap.size wr p'.w) := p'.bel
                      clear hac hneq
                      generalize p'.w = wq at *
                      go_wp2_with fail
                      go_roundw
                      case rel => exact ⟨j + 1, false, by omega, by go_num, rfl, HCN.out, HBL.out.trans (bq.out.mono sg)⟩
                      case measure => simp [intOf]; omega
                  · have HCN : Hid (false = anyK es (l, al, an, bl, bn) (j + 1)) := by
                      show _ = _
                      rw [HS2.out]
                      simp [eqB, al0]
                    have al0t : (x0 == l) = false := beq_eq_false_iff_ne.2 al0
                    have al0u : decide (x0 = l) = false := by simpa using al0
                    clear al0
                    clear HS2 HC
                    go_wp2_with fail
                    refine wp_region_after (by kernel_rfl) (by kernel_rfl) ?_
                    intro hneq hac
                    repeat (go_big_quiet_step (fail))
                    refine wpQuiet_nil ?_
                    rintro _ ⟨p', rfl⟩
                    have bq : Hid (Below wr.heap.size wr p'.w) := p'.bel
                    clear hac hneq
                    generalize p'.w = wq at *
                    go_wp2_with fail
                    go_roundw
                    case rel => exact ⟨j + 1, false, by omega, by go_num, rfl, HCN.out, HBL.out.trans (bq.out.mono sg)⟩
                    case measure => simp [intOf]; omega
                · have HCN : Hid (true = anyK es (l, al, an, bl, bn) (j + 1)) := by
                    show _ = _
                    rw [HS2.out]
                    rfl
                  clear HS2 HC
                  go_wp2_with fail
                  refine wp_region_after (by kernel_rfl) (by kernel_rfl) ?_
                  intro hneq hac
                  repeat (go_big_quiet_step (fail))
                  refine wpQuiet_nil ?_
                  rintro _ ⟨p', rfl⟩
                  have bq : Hid (Below wr.heap.size wr p'.w) := p'.bel
                  clear hac hneq
                  generalize p'.w = wq at *
                  go_wp2_with fail
                  go_roundw
                  case rel => exact ⟨j + 1, true, by omega, by go_num, rfl, HCN.out, HBL.out.trans (bq.out.mono sg)⟩
                  case measure => simp [intOf]; omega
              · have jn : ¬ ((j : Int) < (m : Int)) := by omega
                have HEE : Hid (he = decide ((l, al, an, bl, bn) ∈ es)) := by
                  have hle : es.length ≤ j := by rw [← HN.out.2]; omega
                  show _ = _
                  rw [HC.out, anyK_all hle]; exact decide_eq_decide.2 Iff.rfl
                clear HC HBL sg hlt hj
                rcases gd_there HBG.out HX1.out.2.2.symm with ⟨rfl, hm⟩ | ⟨rfl, hm⟩
                · have hh : h = true := by rw [HNE.out.2]; exact decide_eq_true hm
                  clear hm
                  subst hh
                  go_wp2_with fail
                  go_ret
                  exact ⟨rfl, (HV.out _ BB).2.2.1⟩
                · have hh : he = true := by rw [HEE.out]; exact decide_eq_true hm
                  clear hm
                  subst hh
                  go_wp2_with fail
                  go_ret
                  exact ⟨rfl, (HV.out _ BB).2.2.1⟩
      · subst hcx
        go_wp2_with fail
        go_loopw [9, 10, 11] (fun b s i wr => ∃ (j c : Nat) (h : Bool), j ≤ n ∧ i = .int .i64 j ∧ s = .int .i64 c ∧ b = .bool h ∧ Hid (c = (ns.take j).countP (fun y => eqB y (al, an) || eqB y (bl, bn)) ∧ h = anyK ns (nl, nn) j) ∧ c ≤ j ∧ Below wg.heap.size wg wr) (fun _ _ i _ => n - (intOf i).toNat)
        case atStart => exact ⟨0, 0, false, by omega, rfl, rfl, rfl, ⟨by simp, by rw [anyK_zero]⟩, by omega, Below.refl _ _⟩
        case round =>
          obtain ⟨j, c, h, hj, rfl, rfl, rfl, HC, hcj, hbel⟩ := hrel
          have HBL : Hid (Below wg.heap.size wg wr) := hbel
          have sg : wg.heap.size ≤ wr.heap.size := hbel.size
          have d0 : wr.cell? ⟨P0, 0, none⟩ = some (.slice ga n gc) := (Below.celz hbel _ _ _ (by omega)).trans cc0
          have d1 : wr.cell? ⟨P0, 1, none⟩ = some (.slice gb m gd) := (Below.celz hbel _ _ _ (by omega)).trans cc1
          have d2 : wr.cell? ⟨O0, 0, none⟩ = some (.int .i64 k) := (Below.celz hbel _ _ _ (by omega)).trans cc2
          have d3 : wr.cell? ⟨O0, 1, none⟩ = some (.int .i64 nl) := (Below.celz hbel _ _ _ (by omega)).trans cc3
          have d4 : wr.cell? ⟨O0, 2, none⟩ = some (.int .i64 nn) := (Below.celz hbel _ _ _ (by omega)).trans cc4
          have d5 : wr.cell? ⟨O0, 3, none⟩ = some (.int .i64 l) := (Below.celz hbel _ _ _ (by omega)).trans cc5
          have d6 : wr.cell? ⟨O0, 4, none⟩ = some (.int .i64 al) := (Below.celz hbel _ _ _ (by omega)).trans cc6
          have d7 : wr.cell? ⟨O0, 5, none⟩ = some (.int .i64 an) := (Below.celz hbel _ _ _ (by omega)).trans cc7
          have d8 : wr.cell? ⟨O0, 6, none⟩ = some (.int .i64 bl) := (Below.celz hbel _ _ _ (by omega)).trans cc8
          have d9 : wr.cell? ⟨O0, 7, none⟩ = some (.int .i64 bn) := (Below.celz hbel _ _ _ (by omega)).trans cc9
          have d10 : wr.cell? ⟨P1, 0, none⟩ = some (.slice xa1 p1 xc1) := (Below.celz hbel _ _ _ (by omega)).trans cc10
          have d11 : wr.cell? ⟨P1, 1, none⟩ = some (.slice xb1 r1 xd1) := (Below.celz hbel _ _ _ (by omega)).trans cc11
          have d12 : wr.cell? ⟨P2, 0, none⟩ = some (.slice xa2 p2 xc2) := (Below.celz hbel _ _ _ (by omega)).trans cc12
          have d13 : wr.cell? ⟨P2, 1, none⟩ = some (.slice xb2 r2 xd2) := (Below.celz hbel _ _ _ (by omega)).trans cc13
          have y0 : P0 < wr.heap.size := by have := Below.size hbel; omega
          have y1 : O0 < wr.heap.size := by have := Below.size hbel; omega
          have y2 : P1 < wr.heap.size := by have := Below.size hbel; omega
          have y3 : P2 < wr.heap.size := by have := Below.size hbel; omega
          have BB1 : Below A wa wr := BB.trans (hbel.mono (by omega))
          have sA1 : A ≤ wr.heap.size := by have := Below.size hbel; omega
          have q0 : Hid (GrAt wr (.slice xa1 p1 xc1) (.slice xb1 r1 xd1) X1N X1E) := HR1.out.keep hbel
          have q1 : Hid (GrAt wr (.slice xa2 p2 xc2) (.slice xb2 r2 xd2) X1N X1E) := HR2.out.keep hbel
          clear BB sA cc0 cc1 cc2 cc3 cc4 cc5 cc6 cc7 cc8 cc9 cc10 cc11 cc12 cc13 zz0 zz1 zz2 zz3 HR1 HR2
          have cc0 := d0
          have cc1 := d1
          have cc2 := d2
          have cc3 := d3
          have cc4 := d4
          have cc5 := d5
          have cc6 := d6
          have cc7 := d7
          have cc8 := d8
          have cc9 := d9
          have cc10 := d10
          have cc11 := d11
          have cc12 := d12
          have cc13 := d13
          have zz0 := y0
          have zz1 := y1
          have zz2 := y2
          have zz3 := y3
          have HR1 := q0
          have HR2 := q1
          have BB := BB1
          have sA := sA1
          clear BB1 sA1 d0 d1 d2 d3 d4 d5 d6 d7 d8 d9 d10 d11 d12 d13 y0 y1 y2 y3 q0 q1
          clear hbel
          by_cases hlt : j < n
          · obtain ⟨⟨x0, x1⟩, hx⟩ : ∃ x, ns[j]? = some x := ⟨_, List.getElem?_eq_getElem (by rw [← HN.out.1]; exact hlt)⟩
            obtain ⟨b, off, hla, zb, e0, e1⟩ : ∃ b off, ga = some ⟨b, off, none⟩ ∧ b < wr.heap.size ∧ wr.cell? ⟨b, off + j * 2, none⟩ = some (.int .i64 x0) ∧ wr.cell? ⟨b, off + j * 2 + 1, none⟩ = some (.int .i64 x1) := by
              rcases (HV.out _ BB).1.1 with ⟨hz0, _⟩ | ⟨_, b, off, cap', hv, hb, hc⟩
              · rw [hz0] at hx; simp at hx
              · simp only [Value.slice.injEq] at hv
                exact ⟨b, off, hv.1, hb, hc j _ hx 0 _ rfl, hc j _ hx 1 _ rfl⟩
            subst hla
            have HX : Hid (ns[j]? = some (x0, x1)) := hx
            have HS1 : Hid ((ns.take (j + 1)).countP (fun y => eqB y (al, an) || eqB y (bl, bn)) = c + if (eqB (x0, x1) (al, an) || eqB (x0, x1) (bl, bn)) = true then 1 else 0) := by
              show _ = _
              rw [cntP_step HX.out, HC.out.1]
            have HS2 : Hid (anyK ns (nl, nn) (j + 1) = (h || eqB (x0, x1) (nl, nn))) := by
              show _ = _
              rw [anyK_step HX.out, ← HC.out.2]
            have j0 : (0 : Int) ≤ (j : Int) := by omega
            have j1 : (j : Int) < (n : Int) := by omega
            clear hx
            have cc14 := e0
            have cc15 := e1
            have zz4 := zb
            clear e0 e1 zb
            go_upto_region 13 with fail
            go_cut [9] (fun s9 wx => s9 = .bool (h || eqB (x0, x1) (nl, nn)) ∧ Below wr.heap.size wr wx)
            case first =>
              cases h
              · by_cases anl0 : x0 = nl
                · by_cases ann1 : x1 = nn
                  · have HQ : Hid ((false || eqB (x0, x1) (nl, nn)) = true) := by
                      show _ = _
                      simp [eqB, anl0, ann1]
                    have anl0t : (x0 == nl) = true := by simp [anl0]
                    have anl0u : decide (x0 = nl) = true := by simp [anl0]
                    have ann1t : (x1 == nn) = true := by simp [ann1]
                    have ann1u : decide (x1 = nn) = true := by simp [ann1]
                    clear anl0 ann1
                    clear HS1 HS2 HC
                    go_wp2_with fail
                    refine wp_region_after (by kernel_rfl) (by kernel_rfl) ?_
                    intro hneq hac
                    repeat (go_big_quiet_step (fail))
                    refine wpQuiet_nil ?_
                    rintro _ ⟨p', rfl⟩
                    have bq : Hid (Below wr.heap.size wr p'.w) := p'.bel
                    clear hac hneq
                    generalize p'.w = wq at *
                    go_wp2_with fail
                    go_meet
                    exact ⟨by rw [HQ.out], bq.out⟩
                  · have HQ : Hid ((false || eqB (x0, x1) (nl, nn)) = false) := by
                      show _ = _
                      simp [eqB, anl0, ann1]
                    have anl0t : (x0 == nl) = true := by simp [anl0]
                    have anl0u : decide (x0 = nl) = true := by simp [anl0]
                    have ann1t : (x1 == nn) = false := beq_eq_false_iff_ne.2 ann1
                    have ann1u : decide (x1 = nn) = false := by simpa using ann1
                    clear anl0 ann1
                    clear HS1 HS2 HC
                    go_wp2_with fail
                    refine wp_region_after (by kernel_rfl) (by kernel_rfl) ?_
                    intro hneq hac
                    repeat (go_big_quiet_step (fail))
                    refine wpQuiet_nil ?_
                    rintro _ ⟨p', rfl⟩
                    have bq : Hid (Below wr.heap.size wr p'.w) := p'.bel
                    clear hac hneq
                    generalize p'.w = wq at *
                    go_wp2_with fail
                    go_meet
                    exact ⟨by rw [HQ.out], bq.out⟩
                · have HQ : Hid ((false || eqB (x0, x1) (nl, nn)) = false) := by
                    show _ = _
                    simp [eqB, anl0]
                  have anl0t : (x0 == nl) = false := beq_eq_false_iff_ne.2 anl0
                  have anl0u : decide (x0 = nl) = false := by simpa using anl0
                  clear anl0
                  clear HS1 HS2 HC
                  go_wp2_with fail
                  refine wp_region_after (by kernel_rfl) (by kernel_rfl) ?_
                  intro hneq hac
                  repeat (go_big_quiet_step (fail))
                  refine wpQuiet_nil ?_
                  rintro _ ⟨p', rfl⟩
                  have bq : Hid (Below wr.heap.size wr p'.w) := p'.bel
                  clear hac hneq
                  generalize p'.w = wq at *
                  go_wp2_with fail
                  go_meet
                  exact ⟨by rw [HQ.out], bq.out⟩
              · clear HS1 HS2 HC
                go_wp2_with fail
                refine wp_region_after (by kernel_rfl) (by kernel_rfl) ?_
                intro hneq hac
                repeat (go_big_quiet_step (fail))
                refine wpQuiet_nil ?_
                rintro _ ⟨p', rfl⟩
                have bq : Hid (Below wr.heap.size wr p'.w) := p'.bel
                clear hac hneq
                generalize p'.w = wq at *
                go_wp2_with fail
                go_meet
                exact ⟨rfl, bq.out⟩
            case rest =>
              obtain ⟨rfl, hb⟩ := hcut
              obtain ⟨wy, hwy⟩ : ∃ t, t = wc := ⟨_, rfl⟩
              rw [← hwy] at hb ⊢
              clear hwy
              generalize hh2 : (h || eqB (x0, x1) (nl, nn)) = h2 at HS2 ⊢
              clear hh2
              have HBL2 : Hid (Below wg.heap.size wg wy) := HBL.out.trans (hb.mono sg)
              have sg2 : wg.heap.size ≤ wy.heap.size := HBL2.out.size
              have d0 : wy.cell? ⟨P0, 0, none⟩ = some (.slice (some ⟨b, off, none⟩) n gc) := (Below.celz hb _ _ _ (by omega)).trans cc0
              have d1 : wy.cell? ⟨P0, 1, none⟩ = some (.slice gb m gd) := (Below.celz hb _ _ _ (by omega)).trans cc1
              have d2 : wy.cell? ⟨O0, 0, none⟩ = some (.int .i64 k) := (Below.celz hb _ _ _ (by omega)).trans cc2
              have d3 : wy.cell? ⟨O0, 1, none⟩ = some (.int .i64 nl) := (Below.celz hb _ _ _ (by omega)).trans cc3
              have d4 : wy.cell? ⟨O0, 2, none⟩ = some (.int .i64 nn) := (Below.celz hb _ _ _ (by omega)).trans cc4
              have d5 : wy.cell? ⟨O0, 3, none⟩ = some (.int .i64 l) := (Below.celz hb _ _ _ (by omega)).trans cc5
              have d6 : wy.cell? ⟨O0, 4, none⟩ = some (.int .i64 al) := (Below.celz hb _ _ _ (by omega)).trans cc6
              have d7 : wy.cell? ⟨O0, 5, none⟩ = some (.int .i64 an) := (Below.celz hb _ _ _ (by omega)).trans cc7
              have d8 : wy.cell? ⟨O0, 6, none⟩ = some (.int .i64 bl) := (Below.celz hb _ _ _ (by omega)).trans cc8
              have d9 : wy.cell? ⟨O0, 7, none⟩ = some (.int .i64 bn) := (Below.celz hb _ _ _ (by omega)).trans cc9
              have d10 : wy.cell? ⟨P1, 0, none⟩ = some (.slice xa1 p1 xc1) := (Below.celz hb _ _ _ (by omega)).trans cc10
              have d11 : wy.cell? ⟨P1, 1, none⟩ = some (.slice xb1 r1 xd1) := (Below.celz hb _ _ _ (by omega)).trans cc11
              have d12 : wy.cell? ⟨P2, 0, none⟩ = some (.slice xa2 p2 xc2) := (Below.celz hb _ _ _ (by omega)).trans cc12
              have d13 : wy.cell? ⟨P2, 1, none⟩ = some (.slice xb2 r2 xd2) := (Below.celz hb _ _ _ (by omega)).trans cc13
              have d14 : wy.cell? ⟨b, off + j * 2, none⟩ = some (.int .i64 x0) := (Below.celz hb _ _ _ (by omega)).trans cc14
              have d15 : wy.cell? ⟨b, off + j * 2 + 1, none⟩ = some (.int .i64 x1) := (Below.celz hb _ _ _ (by omega)).trans cc15
              have y0 : P0 < wy.heap.size := by have := Below.size hb; omega
              have y1 : O0 < wy.heap.size := by have := Below.size hb; omega
              have y2 : P1 < wy.heap.size := by have := Below.size hb; omega
              have y3 : P2 < wy.heap.size := by have := Below.size hb; omega
              have y4 : b < wy.heap.size := by have := Below.size hb; omega
              have BB1 : Below A wa wy := BB.trans (hb.mono (by omega))
              have sA1 : A ≤ wy.heap.size := by have := Below.size hb; omega
              have q0 : Hid (GrAt wy (.slice xa1 p1 xc1) (.slice xb1 r1 xd1) X1N X1E) := HR1.out.keep hb
              have q1 : Hid (GrAt wy (.slice xa2 p2 xc2) (.slice xb2 r2 xd2) X1N X1E) := HR2.out.keep hb
              clear BB sA cc0 cc1 cc2 cc3 cc4 cc5 cc6 cc7 cc8 cc9 cc10 cc11 cc12 cc13 cc14 cc15 zz0 zz1 zz2 zz3 zz4 HR1 HR2
              have cc0 := d0
              have cc1 := d1
              have cc2 := d2
              have cc3 := d3
              have cc4 := d4
              have cc5 := d5
              have cc6 := d6
              have cc7 := d7
              have cc8 := d8
              have cc9 := d9
              have cc10 := d10
              have cc11 := d11
              have cc12 := d12
              have cc13 := d13
              have cc14 := d14
              have cc15 := d15
              have zz0 := y0
              have zz1 := y1
              have zz2 := y2
              have zz3 := y3
              have zz4 := y4
              have HR1 := q0
              have HR2 := q1
              have BB := BB1
              have sA := sA1
              clear BB1 sA1 d0 d1 d2 d3 d4 d5 d6 d7 d8 d9 d10 d11 d12 d13 d14 d15 y0 y1 y2 y3 y4 q0 q1
              clear hb
              by_cases aal0 : x0 = al
              · by_cases aan1 : x1 = an
                · have E1 : Hid (eqB (x0, x1) (al, an) = true) := by
                    show _ = _
                    simp [eqB, aal0, aan1]
                  have HCN : Hid (c + 1 = (ns.take (j + 1)).countP (fun y => eqB y (al, an) || eqB y (bl, bn))) := by
                    show _ = _
                    rw [HS1.out, E1.out]
                    rfl
                  have aal0t : (x0 == al) = true := by simp [aal0]
                  have aal0u : decide (x0 = al) = true := by simp [aal0]
                  have aan1t : (x1 == an) = true := by simp [aan1]
                  have aan1u : decide (x1 = an) = true := by simp [aan1]
                  clear aal0 aan1
                  clear HS1 HC
                  go_wp2_with fail
                  refine wp_region_after (by kernel_rfl) (by kernel_rfl) ?_
                  intro hneq hac
                  repeat (go_big_quiet_step (fail))
                  refine wpQuiet_nil ?_
                  rintro _ ⟨p', rfl⟩
                  have bq : Hid (Below wy.heap.size wy p'.w) := p'.bel
                  clear hac hneq
                  generalize p'.w = wq at *
                  go_wp2_with fail
                  go_roundw
                  case rel => exact ⟨j + 1, c + 1, h2, by omega, by go_num, by go_num, rfl, ⟨HCN.out, HS2.out.symm⟩, by omega, HBL2.out.trans (bq.out.mono sg2)⟩
                  case measure => simp [intOf]; omega
                · have E1 : Hid (eqB (x0, x1) (al, an) = false) := by
                    show _ = _
                    simp [eqB, aal0, aan1]
                  have aal0t : (x0 == al) = true := by simp [aal0]
                  have aal0u : decide (x0 = al) = true := by simp [aal0]
                  have aan1t : (x1 == an) = false := beq_eq_false_iff_ne.2 aan1
                  have aan1u : decide (x1 = an) = false := by simpa using aan1
                  clear aal0 aan1

                  by_cases abl0 : x0 = bl
                  · by_cases abn1 : x1 = bn
                    · have E2 : Hid (eqB (x0, x1) (bl, bn) = true) := by
                        show _ = _
                        simp [eqB, abl0, abn1]
                      have HCN : Hid (c + 1 = (ns.take (j + 1)).countP (fun y => eqB y (al, an) || eqB y (bl, bn))) := by
                        show _ = _
                        rw [HS1.out, E1.out, E2.out]
                        rfl
                      have abl0t : (x0 == bl) = true := by simp [abl0]
                      have abl0u : decide (x0 = bl) = true := by simp [abl0]
                      have abn1t : (x1 == bn) = true := by simp [abn1]
                      have abn1u : decide (x1 = bn) = true := by simp [abn1]
                      clear abl0 abn1
                      clear HS1 HC
                      go_wp2_with fail
                      refine wp_region_after (by kernel_rfl) (by kernel_rfl) ?_
                      intro hneq hac
                      repeat (go_big_quiet_step (fail))
                      refine wpQuiet_nil ?_
                      rintro _ ⟨p', rfl⟩
                      have bq : Hid (Below wy.heap.size wy p'.w) := p'.bel
                      clear hac hneq
                      generalize p'.w = wq at *
                      go_wp2_with fail
                      go_roundw
                      case rel => exact ⟨j + 1, c + 1, h2, by omega, by go_num, by go_num, rfl, ⟨HCN.out, HS2.out.symm⟩, by omega, HBL2.out.trans (bq.out.mono sg2)⟩
                      case measure => simp [intOf]; omega
                    · have E2 : Hid (eqB (x0, x1) (bl, bn) = false) := by
                        show _ = _
                        simp [eqB, abl0, abn1]
                      have HCN : Hid (c = (ns.take (j + 1)).countP (fun y => eqB y (al, an) || eqB y (bl, bn))) := by
                        show _ = _
                        rw [HS1.out, E1.out, E2.out]
                        rfl
                      have abl0t : (x0 == bl) = true := by simp [abl0]
                      have abl0u : decide (x0 = bl) = true := by simp [abl0]
                      have abn1t : (x1 == bn) = false := beq_eq_false_iff_ne.2 abn1
                      have abn1u : decide (x1 = bn) = false := by simpa using abn1
                      clear abl0 abn1
                      clear HS1 HC
                      go_wp2_with fail
                      refine wp_region_after (by kernel_rfl) (by kernel_rfl) ?_
                      intro hneq hac
                      repeat (go_big_quiet_step (fail))
                      refine wpQuiet_nil ?_
                      rintro _ ⟨p', rfl⟩
                      have bq : Hid (Below wy.heap.size wy p'.w) := p'.bel
                      clear hac hneq
                      generalize p'.w = wq at *
                      go_wp2_with fail
                      go_roundw
                      case rel => exact ⟨j + 1, c, h2, by omega, by go_num, rfl, rfl, ⟨HCN.out, HS2.out.symm⟩, by omega, HBL2.out.trans (bq.out.mono sg2)⟩
                      case measure => simp [intOf]; omega
                  · have E2 : Hid (eqB (x0, x1) (bl, bn) = false) := by
                      show _ = _
                      simp [eqB, abl0]
                    have HCN : Hid (c = (ns.take (j + 1)).countP (fun y => eqB y (al, an) || eqB y (bl, bn))) := by
                      show _ = _
                      rw [HS1.out, E1.out, E2.out]
                      rfl
                    have abl0t : (x0 == bl) = false := beq_eq_false_iff_ne.2 abl0
                    have abl0u : decide (x0 = bl) = false := by simpa using abl0
                    clear abl0
                    clear HS1 HC
                    go_wp2_with fail
                    refine wp_region_after (by kernel_rfl) (by kernel_rfl) ?_
                    intro hneq hac
                    repeat (go_big_quiet_step (fail))
                    refine wpQuiet_nil ?_
                    rintro _ ⟨p', rfl⟩
                    have bq : Hid (Below wy.heap.size wy p'.w) := p'.bel
                    clear hac hneq
                    generalize p'.w = wq at *
                    go_wp2_with fail
                    go_roundw
                    case rel => exact ⟨j + 1, c, h2, by omega, by go_num, rfl, rfl, ⟨HCN.out, HS2.out.symm⟩, by omega, HBL2.out.trans (bq.out.mono sg2)⟩
                    case measure => simp [intOf]; omega
              · have E1 : Hid (eqB (x0, x1) (al, an) = false) := by
                  show _ = _
                  simp [eqB, aal0]
                have aal0t : (x0 == al) = false := beq_eq_false_iff_ne.2 aal0
                have aal0u : decide (x0 = al) = false := by simpa using aal0
                clear aal0

                by_cases abl0 : x0 = bl
                · by_cases abn1 : x1 = bn
                  · have E2 : Hid (eqB (x0, x1) (bl, bn) = true) := by
                      show _ = _
                      simp [eqB, abl0, abn1]
                    have HCN : Hid (c + 1 = (ns.take (j + 1)).countP (fun y => eqB y (al, an) || eqB y (bl, bn))) := by
                      show _ = _
                      rw [HS1.out, E1.out, E2.out]
                      rfl
                    have abl0t : (x0 == bl) = true := by simp [abl0]
                    have abl0u : decide (x0 = bl) = true := by simp [abl0]
                    have abn1t : (x1 == bn) = true := by simp [abn1]
                    have abn1u : decide (x1 = bn) = true := by simp [abn1]
                    clear abl0 abn1
                    clear HS1 HC
                    go_wp2_with fail
                    refine wp_region_after (by kernel_rfl) (by kernel_rfl) ?_
                    intro hneq hac
                    repeat (go_big_quiet_step (fail))
                    refine wpQuiet_nil ?_
                    rintro _ ⟨p', rfl⟩
                    have bq : Hid (Below wy.heap.size wy p'.w) := p'.bel
                    clear hac hneq
                    generalize p'.w = wq at *
                    go_wp2_with fail
                    go_roundw
                    case rel => exact ⟨j + 1, c + 1, h2, by omega, by go_num, by go_num, rfl, ⟨HCN.out, HS2.out.symm⟩, by omega, HBL2.out.trans (bq.out.mono sg2)⟩
                    case measure => simp [intOf]; omega
                  · have E2 : Hid (eqB (x0, x1) (bl, bn) = false) := by
                      show _ = _
                      simp [eqB, abl0, abn1]
                    have HCN : Hid (c = (ns.take (j + 1)).countP (fun y => eqB y (al, an) || eqB y (bl, bn))) := by
                      show _ = _
                      rw [HS1.out, E1.out, E2.out]
                      rfl
                    have abl0t : (x0 == bl) = true := by simp [abl0]
                    have abl0u : decide (x0 = bl) = true := by simp [abl0]
                    have abn1t : (x1 == bn) = false := beq_eq_false_iff_ne.2 abn1
                    have abn1u : decide (x1 = bn) = false := by simpa using abn1
                    clear abl0 abn1
                    clear HS1 HC
                    go_wp2_with fail
                    refine wp_region_after (by kernel_rfl) (by kernel_rfl) ?_
                    intro hneq hac
                    repeat (go_big_quiet_step (fail))
                    refine wpQuiet_nil ?_
                    rintro _ ⟨p', rfl⟩
                    have bq : Hid (Below wy.heap.size wy p'.w) := p'.bel
                    clear hac hneq
                    generalize p'.w = wq at *
                    go_wp2_with fail
                    go_roundw
                    case rel => exact ⟨j + 1, c, h2, by omega, by go_num, rfl, rfl, ⟨HCN.out, HS2.out.symm⟩, by omega, HBL2.out.trans (bq.out.mono sg2)⟩
                    case measure => simp [intOf]; omega
                · have E2 : Hid (eqB (x0, x1) (bl, bn) = false) := by
                    show _ = _
                    simp [eqB, abl0]
                  have HCN : Hid (c = (ns.take (j + 1)).countP (fun y => eqB y (al, an) || eqB y (bl, bn))) := by
                    show _ = _
                    rw [HS1.out, E1.out, E2.out]
                    rfl
                  have abl0t : (x0 == bl) = false := beq_eq_false_iff_ne.2 abl0
                  have abl0u : decide (x0 = bl) = false := by simpa using abl0
                  clear abl0
                  clear HS1 HC
                  go_wp2_with fail
                  refine wp_region_after (by kernel_rfl) (by kernel_rfl) ?_
                  intro hneq hac
                  repeat (go_big_quiet_step (fail))
                  refine wpQuiet_nil ?_
                  rintro _ ⟨p', rfl⟩
                  have bq : Hid (Below wy.heap.size wy p'.w) := p'.bel
                  clear hac hneq
                  generalize p'.w = wq at *
                  go_wp2_with fail
                  go_roundw
                  case rel => exact ⟨j + 1, c, h2, by omega, by go_num, rfl, rfl, ⟨HCN.out, HS2.out.symm⟩, by omega, HBL2.out.trans (bq.out.mono sg2)⟩
                  case measure => simp [intOf]; omega
          · have jn : ¬ ((j : Int) < (n : Int)) := by omega
            have hcj2 : c ≤ 200 := by omega
            have HNE : Hid (c = ns.countP (fun y => eqB y (al, an) || eqB y (bl, bn)) ∧ h = decide ((nl, nn) ∈ ns)) := by
              have hle : ns.length ≤ j := by rw [← HN.out.1]; omega
              refine ⟨?_, ?_⟩
              · rw [HC.out.1, List.take_of_length_le hle]
              · rw [HC.out.2, anyK_all hle]; exact decide_eq_decide.2 Iff.rfl
            clear HC HBL sg hlt hcj hj
            go_wp2_with fail
            obtain ⟨wl, hwl⟩ : ∃ t, t = wr := ⟨_, rfl⟩
            subst hwl
            clear jn
            go_loopw [12, 13] (fun b i wr => ∃ (j : Nat) (h : Bool), j ≤ m ∧ i = .int .i64 j ∧ b = .bool h ∧ Hid (h = anyK es (l, al, an, bl, bn) j) ∧ Below wl.heap.size wl wr) (fun _ i _ => m - (intOf i).toNat)
            case atStart => exact ⟨0, false, by omega, rfl, rfl, (by show _ = _; rw [anyK_zero]), Below.refl _ _⟩
            case round =>
              obtain ⟨j, he, hj, rfl, rfl, HC, hbel⟩ := hrel
              have HBL : Hid (Below wl.heap.size wl wr) := hbel
              have sg : wl.heap.size ≤ wr.heap.size := hbel.size
              have d0 : wr.cell? ⟨P0, 0, none⟩ = some (.slice ga n gc) := (Below.celz hbel _ _ _ (by omega)).trans cc0
              have d1 : wr.cell? ⟨P0, 1, none⟩ = some (.slice gb m gd) := (Below.celz hbel _ _ _ (by omega)).trans cc1
              have d2 : wr.cell? ⟨O0, 0, none⟩ = some (.int .i64 k) := (Below.celz hbel _ _ _ (by omega)).trans cc2
              have d3 : wr.cell? ⟨O0, 1, none⟩ = some (.int .i64 nl) := (Below.celz hbel _ _ _ (by omega)).trans cc3
              have d4 : wr.cell? ⟨O0, 2, none⟩ = some (.int .i64 nn) := (Below.celz hbel _ _ _ (by omega)).trans cc4
              have d5 : wr.cell? ⟨O0, 3, none⟩ = some (.int .i64 l) := (Below.celz hbel _ _ _ (by omega)).trans cc5
              have d6 : wr.cell? ⟨O0, 4, none⟩ = some (.int .i64 al) := (Below.celz hbel _ _ _ (by omega)).trans cc6
              have d7 : wr.cell? ⟨O0, 5, none⟩ = some (.int .i64 an) := (Below.celz hbel _ _ _ (by omega)).trans cc7
              have d8 : wr.cell? ⟨O0, 6, none⟩ = some (.int .i64 bl) := (Below.celz hbel _ _ _ (by omega)).trans cc8
              have d9 : wr.cell? ⟨O0, 7, none⟩ = some (.int .i64 bn) := (Below.celz hbel _ _ _ (by omega)).trans cc9
              have d10 : wr.cell? ⟨P1, 0, none⟩ = some (.slice xa1 p1 xc1) := (Below.celz hbel _ _ _ (by omega)).trans cc10
              have d11 : wr.cell? ⟨P1, 1, none⟩ = some (.slice xb1 r1 xd1) := (Below.celz hbel _ _ _ (by omega)).trans cc11
              have d12 : wr.cell? ⟨P2, 0, none⟩ = some (.slice xa2 p2 xc2) := (Below.celz hbel _ _ _ (by omega)).trans cc12
              have d13 : wr.cell? ⟨P2, 1, none⟩ = some (.slice xb2 r2 xd2) := (Below.celz hbel _ _ _ (by omega)).trans cc13
              have y0 : P0 < wr.heap.size := by have := Below.size hbel; omega
              have y1 : O0 < wr.heap.size := by have := Below.size hbel; omega
              have y2 : P1 < wr.heap.size := by have := Below.size hbel; omega
              have y3 : P2 < wr.heap.size := by have := Below.size hbel; omega
              have BB1 : Below A wa wr := BB.trans (hbel.mono (by omega))
              have sA1 : A ≤ wr.heap.size := by have := Below.size hbel; omega
              have q0 : Hid (GrAt wr (.slice xa1 p1 xc1) (.slice xb1 r1 xd1) X1N X1E) := HR1.out.keep hbel
              have q1 : Hid (GrAt wr (.slice xa2 p2 xc2) (.slice xb2 r2 xd2) X1N X1E) := HR2.out.keep hbel
              clear BB sA cc0 cc1 cc2 cc3 cc4 cc5 cc6 cc7 cc8 cc9 cc10 cc11 cc12 cc13 zz0 zz1 zz2 zz3 HR1 HR2
              have cc0 := d0
              have cc1 := d1
              have cc2 := d2
              have cc3 := d3
              have cc4 := d4
              have cc5 := d5
              have cc6 := d6
              have cc7 := d7
              have cc8 := d8
              have cc9 := d9
              have cc10 := d10
              have cc11 := d11
              have cc12 := d12
              have cc13 := d13
              have zz0 := y0
              have zz1 := y1
              have zz2 := y2
              have zz3 := y3
              have HR1 := q0
              have HR2 := q1
              have BB := BB1
              have sA := sA1
              clear BB1 sA1 d0 d1 d2 d3 d4 d5 d6 d7 d8 d9 d10 d11 d12 d13 y0 y1 y2 y3 q0 q1
              clear hbel
              by_cases hlt : j < m
              · obtain ⟨⟨x0, x1, x2, x3, x4⟩, hx⟩ : ∃ x, es[j]? = some x := ⟨_, List.getElem?_eq_getElem (by rw [← HN.out.2]; exact hlt)⟩
                obtain ⟨b, off, hla, zb, e0, e1, e2, e3, e4⟩ : ∃ b off, gb = some ⟨b, off, none⟩ ∧ b < wr.heap.size ∧ wr.cell? ⟨b, off + j * 5, none⟩ = some (.int .i64 x0) ∧ wr.cell? ⟨b, off + j * 5 + 1, none⟩ = some (.int .i64 x1) ∧ wr.cell? ⟨b, off + j * 5 + 2, none⟩ = some (.int .i64 x2) ∧ wr.cell? ⟨b, off + j * 5 + 3, none⟩ = some (.int .i64 x3) ∧ wr.cell? ⟨b, off + j * 5 + 4, none⟩ = some (.int .i64 x4) := by
                  rcases (HV.out _ BB).1.2.1 with ⟨hz0, _⟩ | ⟨_, b, off, cap', hv, hb, hc⟩
                  · rw [hz0] at hx; simp at hx
                  · simp only [Value.slice.injEq] at hv
                    exact ⟨b, off, hv.1, hb, hc j _ hx 0 _ rfl, hc j _ hx 1 _ rfl, hc j _ hx 2 _ rfl, hc j _ hx 3 _ rfl, hc j _ hx 4 _ rfl⟩
                subst hla
                have HX : Hid (es[j]? = some (x0, x1, x2, x3, x4)) := hx
                have HS2 : Hid (anyK es (l, al, an, bl, bn) (j + 1) = (he || eqB (x0, x1, x2, x3, x4) (l, al, an, bl, bn))) := by
                  show _ = _
                  rw [anyK_step HX.out, ← HC.out]
                have j0 : (0 : Int) ≤ (j : Int) := by omega
                have j1 : (j : Int) < (m : Int) := by omega
                clear hx
                cases he
                · by_cases al0 : x0 = l
                  · by_cases aal1 : x1 = al
                    · by_cases aan2 : x2 = an
                      · by_cases abl3 : x3 = bl
                        · by_cases abn4 : x4 = bn
                          · have HCN : Hid (true = anyK es (l, al, an, bl, bn) (j + 1)) := by
                              show _ = _
                              rw [HS2.out]
                              simp [eqB, al0, aal1, aan2, abl3, abn4]
                            have al0t : (x0 == l) = true := by simp [al0]
                            have al0u : decide (x0 = l) = true := by simp [al0]
                            have aal1t : (x1 == al) = true := by simp [aal1]
                            have aal1u : decide (x1 = al) = true := by simp [aal1]
                            have aan2t : (x2 == an) = true := by simp [aan2]
                            have aan2u : decide (x2 = an) = true := by simp [aan2]
                            have abl3t : (x3 == bl) = true := by simp [abl3]
                            have abl3u : decide (x3 = bl) = true := by simp [abl3]
                            have abn4t : (x4 == bn) = true := by simp [abn4]
                            have abn4u : decide (x4 = bn) = true := by simp [abn4]
                            clear al0 aal1 aan2 abl3 abn4
                            clear HS2 HC
                            go_wp2_with fail
                            refine wp_region_after (by kernel_rfl) (by kernel_rfl) ?_
                            intro hneq hac
                            repeat (go_big_quiet_step (fail))
                            refine wpQuiet_nil ?_
                            rintro _ ⟨p', rfl⟩
                            have bq : Hid (Below wr.heap.size wr p'.w) := p'.bel
                            clear hac hneq
                            generalize p'.w = wq at *
                            go_wp2_with fail
                            go_roundw
                            case rel => exact ⟨j + 1, true, by omega, by go_num, rfl, HCN.out, HBL.out.trans (bq.out.mono sg)⟩
                            case measure => simp [intOf]; omega
                          · have HCN : Hid (false = anyK es (l, al, an, bl, bn) (j + 1)) := by
                              show _ = _
                              rw [HS2.out]
                              simp [eqB, al0, aal1, aan2, abl3, abn4]
                            have al0t : (x0 == l) = true := by simp [al0]
                            have al0u : decide (x0 = l) = true := by simp [al0]
                            have aal1t : (x1 == al) = true := by simp [aal1]
                            have aal1u : decide (x1 = al) = true := by simp [aal1]
                            have aan2t : (x2 == an) = true := by simp [aan2]
                            have aan2u : decide (x2 = an) = true := by simp [aan2]
                            have abl3t : (x3 == bl) = true := by simp [abl3]
                            have abl3u : decide (x3 = bl) = true := by simp [abl3]
                            have abn4t : (x4 == bn) = false := beq_eq_false_iff_ne.2 abn4
                            have abn4u : decide (x4 = bn) = false := by simpa using abn4
                            clear al0 aal1 aan2 abl3 abn4
                            clear HS2 HC
                            go_wp2_with fail
                            refine wp_region_after (by kernel_rfl) (by kernel_rfl) ?_
                            intro hneq hac
                            repeat (go_big_quiet_step (fail))
                            refine wpQuiet_nil ?_
                            rintro _ ⟨p', rfl⟩
                            have bq : Hid (Below wr.heap.size wr p'.w) := p'.bel
                            clear hac hneq
                            generalize p'.w = wq at *
                            go_wp2_with fail
                            go_roundw
                            case rel => exact ⟨j + 1, false, by omega, by go_num, rfl, HCN.out, HBL.out.trans (bq.out.mono sg)⟩
                            case measure => simp [intOf]; omega
                        · have HCN : Hid (false = anyK es (l, al, an, bl, bn) (j + 1)) := by
                            show _ = _
                            rw [HS2.out]
                            simp [eqB, al0, aal1, aan2, abl3]
                          have al0t : (x0 == l) = true := by simp [al0]
                          have al0u : decide (x0 = l) = true := by simp [al0]
                          have aal1t : (x1 == al) = true := by simp [aal1]
                          have aal1u : decide (x1 = al) = true := by simp [aal1]
                          have aan2t : (x2 == an) = true := by simp [aan2]
                          have aan2u : decide (x2 = an) = true := by simp [aan2]
                          have abl3t : (x3 == bl) = false := beq_eq_false_iff_ne.2 abl3
                          have abl3u : decide (x3 = bl) = false := by simpa using abl3
                          clear al0 aal1 aan2 abl3
                          clear HS2 HC
                          go_wp2_with fail
                          refine wp_region_after (by kernel_rfl) (by kernel_rfl) ?_
                          intro hneq hac
                          repeat (go_big_quiet_step (fail))
                          refine wpQuiet_nil ?_
                          rintro _ ⟨p', rfl⟩
                          have bq : Hid (Below wr.heap.size wr p'.w) := p'.bel
                          clear hac hneq
                          generalize p'.w = wq at *
                          go_wp2_with fail
                          go_roundw
                          case rel => exact ⟨j + 1, false, by omega, by go_num, rfl, HCN.out, HBL.out.trans (bq.out.mono sg)⟩
                          case measure => simp [intOf]; omega
                      · have HCN : Hid (false = anyK es (l, al, an, bl, bn) (j + 1)) := by
                          show _ = _
                          rw [HS2.out]
                          simp [eqB, al0, aal1, aan2]
                        have al0t : (x0 == l) = true := by simp [al0]
                        have al0u : decide (x0 = l) = true := by simp [al0]
                        have aal1t : (x1 == al) = true := by simp [aal1]
                        have aal1u : decide (x1 = al) = true := by simp [aal1]
                        have aan2t : (x2 == an) = false := beq_eq_false_iff_ne.2 aan2
                        have aan2u : decide (x2 = an) = false := by simpa using aan2
                        clear al0 aal1 aan2
                        clear HS2 HC
                        go_wp2_with fail
                        refine wp_region_after (by kernel_rfl) (by kernel_rfl) ?_
                        intro hneq hac
                        repeat (go_big_quiet_step (fail))
                        refine wpQuiet_nil ?_
                        rintro _ ⟨p', rfl⟩
                        have bq : Hid (Below wr.heap.size wr p'.w) := p'.bel
                        clear hac hneq
                        generalize p'.w = wq at *
                        go_wp2_with fail
                        go_roundw
                        case rel => exact ⟨j + 1, false, by omega, by go_num, rfl, HCN.out, HBL.out.trans (bq.out.mono sg)⟩
                        case measure => simp [intOf]; omega
                    · have HCN : Hid (false = anyK es (l, al, an, bl, bn) (j + 1)) := by
                        show _ = _
                        rw [HS2.out]
                        simp [eqB, al0, aal1]
                      have al0t : (x0 == l) = true := by simp [al0]
                      have al0u : decide (x0 = l) = true := by simp [al0]
                      have aal1t : (x1 == al) = false := beq_eq_false_iff_ne.2 aal1
                      have aal1u : decide (x1 = al) = false := by simpa using aal1
                      clear al0 aal1
                      clear HS2 HC
                      go_wp2_with fail
                      refine wp_region_after (by kernel_rfl) (by kernel_rfl) ?_
                      intro hneq hac
                      repeat (go_big_quiet_step (fail))
                      refine wpQuiet_nil ?_
                      rintro _ ⟨p', rfl⟩
                      have bq : Hid (Below wr.heap.size wr p'.w) := p'.bel
                      clear hac hneq
                      generalize p'.w = wq at *
                      go_wp2_with fail
                      go_roundw
                      case rel => exact ⟨j + 1, false, by omega, by go_num, rfl, HCN.out, HBL.out.trans (bq.out.mono sg)⟩
                      case measure => simp [intOf]; omega
                  · have HCN : Hid (false = anyK es (l, al, an, bl, bn) (j + 1)) := by
                      show _ = _
                      rw [HS2.out]
                      simp [eqB, al0]
                    have al0t : (x0 == l) = false := beq_eq_false_iff_ne.2 al0
                    have al0u : decide (x0 = l) = false := by simpa using al0
                    clear al0
                    clear HS2 HC
                    go_wp2_with fail
                    refine wp_region_after (by kernel_rfl) (by kernel_rfl) ?_
                    intro hneq hac
                    repeat (go_big_quiet_step (fail))
                    refine wpQuiet_nil ?_
                    rintro _ ⟨p', rfl⟩
                    have bq : Hid (Below wr.heap.size wr p'.w) := p'.bel
                    clear hac hneq
                    generalize p'.w = wq at *
                    go_wp2_with fail
                    go_roundw
                    case rel => exact ⟨j + 1, false, by omega, by go_num, rfl, HCN.out, HBL.out.trans (bq.out.mono sg)⟩
                    case measure => simp [intOf]; omega
                · have HCN : Hid (true = anyK es (l, al, an, bl, bn) (j + 1)) := by
                    show _ = _
                    rw [HS2.out]
                    rfl
                  clear HS2 HC
                  go_wp2_with fail
                  refine wp_region_after (by kernel_rfl) (by kernel_rfl) ?_
                  intro hneq hac
                  repeat (go_big_quiet_step (fail))
                  refine wpQuiet_nil ?_
                  rintro _ ⟨p', rfl⟩
                  have bq : Hid (Below wr.heap.size wr p'.w) := p'.bel
                  clear hac hneq
                  generalize p'.w = wq at *
                  go_wp2_with fail
                  go_roundw
                  case rel => exact ⟨j + 1, true, by omega, by go_num, rfl, HCN.out, HBL.out.trans (bq.out.mono sg)⟩
                  case measure => simp [intOf]; omega
              · have jn : ¬ ((j : Int) < (m : Int)) := by omega
                have HEE : Hid (he = decide ((l, al, an, bl, bn) ∈ es)) := by
                  have hle : es.length ≤ j := by rw [← HN.out.2]; omega
                  show _ = _
                  rw [HC.out, anyK_all hle]; exact decide_eq_decide.2 Iff.rfl
                clear HC HBL sg hlt hj
                rcases gd_none HBG.out HX1.out.2.2.symm with ⟨rfl, -, hm, hab⟩ | ⟨rfl, hm⟩ | ⟨rfl, hm⟩
                · have hh : he = false := by rw [HEE.out]; exact decide_eq_false hm
                  have hc2 : c < 2 := by rw [HNE.out.1]; exact ends_two HBG.out hab
                  have hc3 : (c : Int) < 2 := by omega
                  have hc4 : decide ((c : Int) < 2) = true := decide_eq_true hc3
                  clear hm hab
                  subst hh
                  go_wp2_with fail
                  go_ret
                  exact ⟨rfl, (HV.out _ BB).2.2.1⟩
                · have hh : he = false := by rw [HEE.out]; exact decide_eq_false hm
                  clear hm
                  subst hh
                  go_wp2_with fail
                  go_ret
                  exact ⟨rfl, (HV.out _ BB).2.2.1⟩
                · have hh : h = false := by rw [HNE.out.2]; exact decide_eq_false hm
                  clear hm
                  subst hh
                  go_wp2_with fail
                  go_ret
                  exact ⟨rfl, (HV.out _ BB).2.2.1⟩

theorem door_met (os : Os) (args : Array Value) : laidMetH Tryz.prog Rows.fnGraphNoneRow.laid ((World.doorLaid Tryz.prog 85 os).forCall (fun _ _ => 0) ⟨#[], args, []⟩).memory :=
  laidMetH_of_parts3 (fuel := 8) (laidMet_of_run' 8 (by kernel_rfl) (by kernel_rfl)) (by kernel_rfl) (by kernel_rfl)

set_option maxRecDepth 100000 in
set_option maxHeartbeats 1000000 in
theorem lifted (os : Os) (started : os.Started) (H : Type) (enc : TypeId × Value → H) :
    ReturnsInHanded {} Tryz.checked os 3 .any (fun w args => (Rows.fnGraphNoneSpec.pre enc Tryz.prog Tryz.f3 [] false w args ∧ laidMetH Tryz.prog Rows.fnGraphNoneRow.laid w) ∧ sizedMet enc Tryz.prog Tryz.f3 (OpenSpec.ofChange Rows.fnGraphNoneSpec) false w args)
      (Rows.fnGraphNoneSpec.post enc Tryz.prog Tryz.f3 false true false false) := by
  refine returnsInHanded_of_change_and (C := Tryz.checked) (X := fun w _ => laidMetH Tryz.prog Rows.fnGraphNoneRow.laid w) (fun _ _ _ hh h => h.of_heap hh) own started (by kernel_rfl) Tryz.func3
    (ChangeSpec.witness_shaped (enc := enc) (C := Tryz.checked) (os := os) (X := fun w _ => laidMetH Tryz.prog Rows.fnGraphNoneRow.laid w) false (World.doorLaid Tryz.prog 85 os) #[.slice none 0 0] 8 rfl (World.shaped_of_RefB (by kernel_rfl) (by kernel_rfl)) (by kernel_rfl) (by kernel_rfl) (by kernel_rfl) (door_met os _)) ?_
  intro W base args ds gs before hval0 hW _ _ hL _
  have hval : ∀ (j : Nat) t v, Tryz.f3.params[j]? = some t → args[j]? = some v → Value.okWide Tryz.prog W .any base t v := hval0
  have hW' := hW
  obtain ⟨p, q, hA0, hV0, rfl, hfz, hnd⟩ := hW
  have hA : DataW.TrodAll enc Tryz.prog W 0 (fun _ => true) true Tryz.f3.params.toList args.toList ds p := hA0
  have hV : DataW.TrodVars enc Tryz.prog W (fun _ => true) ["loop.example/hagioscope/impl.errForm", "loop.example/hagioscope/impl.errThere", "loop.example/hagioscope/impl.errFull", "loop.example/hagioscope/impl.errNone"] gs q := hV0
  rw [Tryz.params3] at hA hval
  obtain ⟨v0, vs0, d0, ds0, p0, q0, hargs, rfl, rfl, h0, r0⟩ := trodAll_cons hA
  obtain ⟨rfl, rfl, rfl⟩ := trodAll_nil r0
  obtain rfl : args = #[v0] := by cases args; simp_all
  have kr0 := h0
  have lt0 : ∀ x ∈ p0, x.block < W.heap.size := by obtain ⟨m, hm⟩ := kr0; exact DataW.trod_lt m _ _ _ hm
  obtain ⟨a0, len0, cap0, rfl⟩ := okWide_slice Tryz.underlying22 (hval 0 22 v0 rfl rfl)
  obtain ⟨z0, w0⟩ : ∃ zs, IsRow .u8 W a0 len0 cap0 zs := by
    obtain ⟨fuel, hf⟩ := h0
    rcases open_ints Tryz.underlying22 Tryz.underlying5 (by kernel_rfl) hf with ⟨hcs, _⟩ | ⟨x, l, c, zs, hcs, _, hl, hm, hz, _, hcell, hwz⟩
    · simp [Value.cells] at hcs
      obtain ⟨rfl, rfl, rfl⟩ := hcs
      exact ⟨[], .inl ⟨rfl, rfl, rfl, rfl⟩⟩
    · simp [Value.cells] at hcs
      obtain ⟨rfl, rfl, rfl⟩ := hcs
      exact ⟨zs, .inr ⟨_, rfl, hl, hm, by simpa using hz, hcell, hwz⟩⟩
  have hI := held_of hL
  have hE : Errs W := errs_of hI
  obtain ⟨aF, aT, aN, aU, hF⟩ := four_of hL
  obtain ⟨g1, g2, g3, g4, rfl⟩ : ∃ g1 g2 g3 g4, gs = [g1, g2, g3, g4] := by
    have hlen := vars_len _ _ _ hV
    match gs, hlen with
    | [g1, g2, g3, g4], _ => exact ⟨g1, g2, g3, g4, rfl⟩
  clear hA0 hV0 hval0
  refine (walk a0 len0 cap0 z0 W w0 aF aT aN aU hF hE).mono fun e W' ⟨he, bel⟩ => ?_
  subst he
  exact ⟨_, rfl, _, _, _, [], _, _, hW', trodAll_mk1 (shut_bool Tryz.underlying4 _), (trodAll_cons_mk (Below.trod laidOut (by kernel_rfl) (of_decide_eq_true (by kernel_rfl)) kr0 bel lt0) trodAll_mk0), vars_keep Tryz.underlying62 bel _ _ _ hV hI, bel.frame _, fun h => by cases h⟩

theorem said : Rows.FnGraphNoneSaid :=
  OpenClaim.holds_of_wide 3 Tryz.f3 rfl rfl rfl rfl rfl rfl rfl ⟨rfl, rfl, rfl, rfl, rfl⟩ rfl rfl rfl rfl rfl (by kernel_rfl) Tryz.func3 (by kernel_rfl)
    (of_decide_eq_true (by kernel_rfl)) (by unfold Func.isWrapper; first | (rw [if_pos (by decide +kernel)]; kernel_rfl) | (rw [if_neg (by decide +kernel)]; exact ⟨rfl, rfl⟩))
    (fun os started H enc _ => lifted os started H enc)

theorem plain (f : FuncId) (fn : Func) (hf : Tryz.pinned.checked.prog.funcNamed "loop.example/hagioscope/laws.FnGraphNone" = some f) (hfn : Tryz.pinned.checked.prog.funcs[f]? = some fn) :
    true = Tryz.pinned.checked.prog.looks [] ∧ ∀ (j : Nat) t, fn.params[j]? = some t → Tryz.pinned.checked.prog.wantsStandIn t = false := by
  obtain rfl : f = 3 := Option.some.inj ((show Tryz.prog.funcNamed "loop.example/hagioscope/laws.FnGraphNone" = some 3 by kernel_rfl).symm.trans hf) |>.symm
  obtain rfl : fn = Tryz.f3 := (Option.some.inj (Tryz.func3.symm.trans hfn)).symm
  refine ⟨by kernel_rfl, fun j t ht => ?_⟩
  rw [Tryz.params3] at ht
  obtain rfl : t = 22 := by simpa using Array.mem_of_getElem? ht
  · exact (show Tryz.prog.wantsStandIn 22 = false by kernel_rfl)

end Go.Proofs.YtkhfbaggkmeahabGreatDoor.fnGraphNone
namespace Go.Proofs.YtkhfbaggkmeahabGreatDoor
theorem fnGraphNone_card : Rows.FnGraphNoneCardSaid :=
  Claim7.holds_tied_plain_at .later [] _ _ _ _ fnGraphNone.said (fun _ h => by cases h) (by kernel_rfl) (fun _ h => by cases h) fnGraphNone_row_tie rfl ⟨rfl, rfl⟩ (by kernel_rfl) rfl fnGraphNone.plain (by kernel_rfl)
#print axioms fnGraphNone_card
end Go.Proofs.YtkhfbaggkmeahabGreatDoor
