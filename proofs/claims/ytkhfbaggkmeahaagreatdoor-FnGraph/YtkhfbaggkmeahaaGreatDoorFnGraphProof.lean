/-
  Operations keep graphs right, and refused ones change nothing.
-/
import Derived.Test.YtkhfbaggkmeahaaGreatDoorCards
import Derived.Test.YtkhfbaggkmeahaaGreatDoorTie
import Derived.Test.YtkhfbaggkmeahaaGreatDoorGdl
import Derived.Test.YtkhfbaggkmeahaaGreatDoorDgr
import Derived.Test.YtkhfbaggkmeahaaGreatDoorErs
import Derived.Test.YtkhfbaggkmeahaaGreatDoorErf
import Derived.WalkKit
import Derived.ProofKit
import Derived.OpenShut
import Derived.ShutString
import Derived.ChangeOld
import Derived.Below
import Derived.Carry
import Derived.Handy
import Derived.Deep.RegionHeld3
import Derived.LaidMore
import Derived.Deep.DeepCutAuto
namespace Go.Proofs.YtkhfbaggkmeahaaGreatDoor.fnGraph
open Go.Proofs.YtkhfbaggkmeahaaGreatDoor.Lab
open Go.ChangeShapes Go.WideShapes Go.ChangeAt Go.RowKit
open Go.ChangeMaps (open_string shut_string)
set_option linter.unusedVariables false

theorem own : ownKnob Tryz.prog.godebug = none := by kernel_rfl
/-- A row of numbers that came in: nil, or so many cells. -/
def IsRow (k : IntKind) (w : World) (a : Option Addr) (len cap : Nat) (zs : List Int) : Prop :=
  (a = none ∧ len = 0 ∧ cap = 0 ∧ zs = []) ∨ ∃ x, a = some x ∧ len ≤ cap ∧ cap ≤ maxLen ∧ zs.length = cap ∧ (∀ i, i < zs.length → w.cell? (x.add i) = some (.int k (zs.getD i 0))) ∧ ∀ n ∈ zs, (Lit.int k n).wf = true

set_option maxRecDepth 16000 in
set_option maxHeartbeats 8000000 in
theorem walk (a0 : Option Addr) (len0 cap0 : Nat) (z0 : List Int) (w : World) (w0 : IsRow .u8 w a0 len0 cap0 z0) (aF aT aN aU : Addr) (hF : Four w aF aT aN aU) (hE : Errs w) :
    Calls Tryz.prog 3 #[.slice a0 len0 cap0] w fun e w' => e = .returned (.bool true) ∧ Below w.heap.size w w' := by
  have HF : Hid (Errs w) := hE
  clear hE
  by_cases hlen0 : len0 > 1048576
  · go_enter Tryz.func3, Tryz.ntmps3
    go_wp2
    go_ret
    exact ⟨rfl, Below.refl _ _⟩
  have k0 : CodeAt w a0 len0 cap0 z0 := code_of w0
  clear w0
  go_enter Tryz.func3, Tryz.ntmps3
  go_wp2_with fail
  have HFF : Hid (Four w aF aT aN aU) := hF
  clear hF
  refine (drawGraphDo _ _ _ _ _ k0).mono ?_
  rintro e wa ⟨v1, v2, ns, es, k, nl, nn, l, al, an, bl, bn, rfl, hg, ba⟩
  unfold OpVal
  obtain ⟨ga, gc, gb, gd, rfl, rfl⟩ := hg.form
  obtain ⟨n, hn⟩ : ∃ n, n = ns.length := ⟨_, rfl⟩
  obtain ⟨m, hm⟩ : ∃ m, m = es.length := ⟨_, rfl⟩
  have HN : Hid (n = ns.length ∧ m = es.length) := ⟨hn, hm⟩
  have ln : n ≤ 200 := by rw [hn]; exact hg.2.2.1
  have lm : m ≤ 200 := by rw [hm]; exact hg.2.2.2
  rw [← hn, ← hm] at hg ⊢
  obtain ⟨A, hA⟩ : ∃ t, t = wa.heap.size := ⟨_, rfl⟩
  have HA : Hid (A = wa.heap.size) := hA
  have BB : Below A wa wa := Below.refl _ _
  have sA : A ≤ wa.heap.size := by omega
  have HV : Hid (∀ W, Below A wa W → GrAt W (.slice ga n gc) (.slice gb m gd) ns es ∧ Four W aF aT aN aU ∧ Below w.heap.size w W ∧ Errs W) := fun W h => by
    rw [HA.out] at h
    exact ⟨hg.keep h, (HFF.out.keep ba).keep h, ba.trans (h.mono ba.size), (HF.out.keep ba).keep h⟩
  clear hg ba hn hm HF HFF hA
  clear k0
  go_wp2_with fail
  obtain ⟨P0, hP0⟩ : ∃ t, t = wa.heap.size := ⟨_, rfl⟩
  generalize hW : wa.alloc (.cells #[.slice ga n gc, .slice gb m gd] 26) = wb
  have nb : Below wa.heap.size wa wb := by rw [← hW]; exact (Below.refl _ _).alloc (Nat.le_refl _) _
  have k3 : wb.heap.size = P0 + 1 := by rw [← hW, hP0]; simp
  have kk0 : wb.cell? ⟨P0, 0, none⟩ = some (.slice ga n gc) := by rw [← hW, hP0]; simp [go_sem]
  have kk1 : wb.cell? ⟨P0, 1, none⟩ = some (.slice gb m gd) := by rw [← hW, hP0]; simp [go_sem]
  have oP0A : A ≤ P0 := by rw [hP0]; exact sA
  have BB1 : Below A wa wb := BB.trans (nb.mono (by omega))
  have sA1 : A ≤ wb.heap.size := by have := Below.size nb; omega
  clear BB sA   
  have BB := BB1
  have sA := sA1
  clear BB1 sA1   
  have cc0 := kk0
  have cc1 := kk1
  have zz0 : P0 < wb.heap.size := by omega
  rw [← hP0]
  have k3P0 := k3
  clear k3 hW nb hP0 kk0 kk1
  rw [k3P0.symm]
  obtain ⟨O0, hO0⟩ : ∃ t, t = wb.heap.size := ⟨_, rfl⟩
  generalize hW : wb.alloc (.cells #[.int .i64 k, .int .i64 nl, .int .i64 nn, .int .i64 l, .int .i64 al, .int .i64 an, .int .i64 bl, .int .i64 bn] 32) = wb2
  have nb : Below wb.heap.size wb wb2 := by rw [← hW]; exact (Below.refl _ _).alloc (Nat.le_refl _) _
  have k3 : wb2.heap.size = O0 + 1 := by rw [← hW, hO0]; simp
  have kk0 : wb2.cell? ⟨O0, 0, none⟩ = some (.int .i64 k) := by rw [← hW, hO0]; simp [go_sem]
  have kk1 : wb2.cell? ⟨O0, 1, none⟩ = some (.int .i64 nl) := by rw [← hW, hO0]; simp [go_sem]
  have kk2 : wb2.cell? ⟨O0, 2, none⟩ = some (.int .i64 nn) := by rw [← hW, hO0]; simp [go_sem]
  have kk3 : wb2.cell? ⟨O0, 3, none⟩ = some (.int .i64 l) := by rw [← hW, hO0]; simp [go_sem]
  have kk4 : wb2.cell? ⟨O0, 4, none⟩ = some (.int .i64 al) := by rw [← hW, hO0]; simp [go_sem]
  have kk5 : wb2.cell? ⟨O0, 5, none⟩ = some (.int .i64 an) := by rw [← hW, hO0]; simp [go_sem]
  have kk6 : wb2.cell? ⟨O0, 6, none⟩ = some (.int .i64 bl) := by rw [← hW, hO0]; simp [go_sem]
  have kk7 : wb2.cell? ⟨O0, 7, none⟩ = some (.int .i64 bn) := by rw [← hW, hO0]; simp [go_sem]
  have oO0A : A ≤ O0 := by rw [hO0]; exact sA
  have oO00 : P0 < O0 := by rw [hO0]; exact zz0
  have d0 : wb2.cell? ⟨P0, 0, none⟩ = some (.slice ga n gc) := (Below.celz nb _ _ _ (by omega)).trans cc0
  have d1 : wb2.cell? ⟨P0, 1, none⟩ = some (.slice gb m gd) := (Below.celz nb _ _ _ (by omega)).trans cc1
  have y0 : P0 < wb2.heap.size := by have := Below.size nb; omega
  have BB1 : Below A wa wb2 := BB.trans (nb.mono (by omega))
  have sA1 : A ≤ wb2.heap.size := by have := Below.size nb; omega
  clear BB sA cc0 cc1 zz0 
  have cc0 := d0
  have cc1 := d1
  have zz0 := y0
  have BB := BB1
  have sA := sA1
  clear BB1 sA1 d0 d1 y0 
  have cc2 := kk0
  have cc3 := kk1
  have cc4 := kk2
  have cc5 := kk3
  have cc6 := kk4
  have cc7 := kk5
  have cc8 := kk6
  have cc9 := kk7
  have zz1 : O0 < wb2.heap.size := by omega
  rw [← hO0]
  have k3O0 := k3
  clear k3 hW nb hO0 kk0 kk1 kk2 kk3 kk4 kk5 kk6 kk7
  clear k3P0 k3O0
  obtain ⟨X1N, hX⟩ : ∃ t, t = gdN ns es k nl nn l al an bl bn := ⟨_, rfl⟩
  obtain ⟨X1E, hY⟩ : ∃ t, t = gdE ns es k nl nn l al an bl bn := ⟨_, rfl⟩
  obtain ⟨X1C, hZ⟩ : ∃ t, t = gdC ns es k nl nn l al an bl bn := ⟨_, rfl⟩
  have HX1 : Hid (X1N = gdN ns es k nl nn l al an bl bn ∧ X1E = gdE ns es k nl nn l al an bl bn ∧ X1C = gdC ns es k nl nn l al an bl bn) := ⟨hX, hY, hZ⟩
  clear hX hY hZ
  refine (gdo_impl _ _ ns es k nl nn l al an bl bn _ (HV.out _ BB).1 (HV.out _ BB).2.1).mono ?_
  rintro e wc ⟨u1, u2, rfl, og, bwc⟩
  have d0 : wc.cell? ⟨P0, 0, none⟩ = some (.slice ga n gc) := (Below.celz bwc _ _ _ (by omega)).trans cc0
  have d1 : wc.cell? ⟨P0, 1, none⟩ = some (.slice gb m gd) := (Below.celz bwc _ _ _ (by omega)).trans cc1
  have d2 : wc.cell? ⟨O0, 0, none⟩ = some (.int .i64 k) := (Below.celz bwc _ _ _ (by omega)).trans cc2
  have d3 : wc.cell? ⟨O0, 1, none⟩ = some (.int .i64 nl) := (Below.celz bwc _ _ _ (by omega)).trans cc3
  have d4 : wc.cell? ⟨O0, 2, none⟩ = some (.int .i64 nn) := (Below.celz bwc _ _ _ (by omega)).trans cc4
  have d5 : wc.cell? ⟨O0, 3, none⟩ = some (.int .i64 l) := (Below.celz bwc _ _ _ (by omega)).trans cc5
  have d6 : wc.cell? ⟨O0, 4, none⟩ = some (.int .i64 al) := (Below.celz bwc _ _ _ (by omega)).trans cc6
  have d7 : wc.cell? ⟨O0, 5, none⟩ = some (.int .i64 an) := (Below.celz bwc _ _ _ (by omega)).trans cc7
  have d8 : wc.cell? ⟨O0, 6, none⟩ = some (.int .i64 bl) := (Below.celz bwc _ _ _ (by omega)).trans cc8
  have d9 : wc.cell? ⟨O0, 7, none⟩ = some (.int .i64 bn) := (Below.celz bwc _ _ _ (by omega)).trans cc9
  have y0 : P0 < wc.heap.size := by have := Below.size bwc; omega
  have y1 : O0 < wc.heap.size := by have := Below.size bwc; omega
  have BB1 : Below A wa wc := BB.trans (bwc.mono (by omega))
  have sA1 : A ≤ wc.heap.size := by have := Below.size bwc; omega
  clear BB sA cc0 cc1 cc2 cc3 cc4 cc5 cc6 cc7 cc8 cc9 zz0 zz1 
  have cc0 := d0
  have cc1 := d1
  have cc2 := d2
  have cc3 := d3
  have cc4 := d4
  have cc5 := d5
  have cc6 := d6
  have cc7 := d7
  have cc8 := d8
  have cc9 := d9
  have zz0 := y0
  have zz1 := y1
  have BB := BB1
  have sA := sA1
  clear BB1 sA1 d0 d1 d2 d3 d4 d5 d6 d7 d8 d9 y0 y1 
  clear bwc
  rw [← HX1.out.1, ← HX1.out.2.1] at og
  rw [← HX1.out.2.2]
  obtain ⟨xa1, xc1, xb1, xd1, rfl, rfl⟩ := og.form
  obtain ⟨p1, hp⟩ : ∃ t, t = X1N.length := ⟨_, rfl⟩
  obtain ⟨r1, hr⟩ : ∃ t, t = X1E.length := ⟨_, rfl⟩
  have HL1 : Hid (p1 = X1N.length ∧ r1 = X1E.length) := ⟨hp, hr⟩
  have lp1 : p1 ≤ 200 := by rw [hp]; exact og.2.2.1
  have lr1 : r1 ≤ 200 := by rw [hr]; exact og.2.2.2
  rw [← hp, ← hr] at og ⊢
  clear hp hr
  have HR1 : Hid (GrAt wc (.slice xa1 p1 xc1) (.slice xb1 r1 xd1) X1N X1E) := og
  clear og
  go_wp2_with fail
  obtain ⟨P1, hP1⟩ : ∃ t, t = wc.heap.size := ⟨_, rfl⟩
  generalize hW : wc.alloc (.cells #[.slice xa1 p1 xc1, .slice xb1 r1 xd1] 26) = wd
  have nb : Below wc.heap.size wc wd := by rw [← hW]; exact (Below.refl _ _).alloc (Nat.le_refl _) _
  have k3 : wd.heap.size = P1 + 1 := by rw [← hW, hP1]; simp
  have kk0 : wd.cell? ⟨P1, 0, none⟩ = some (.slice xa1 p1 xc1) := by rw [← hW, hP1]; simp [go_sem]
  have kk1 : wd.cell? ⟨P1, 1, none⟩ = some (.slice xb1 r1 xd1) := by rw [← hW, hP1]; simp [go_sem]
  have oP1A : A ≤ P1 := by rw [hP1]; exact sA
  have oP10 : P0 < P1 := by rw [hP1]; exact zz0
  have oP11 : O0 < P1 := by rw [hP1]; exact zz1
  have d0 : wd.cell? ⟨P0, 0, none⟩ = some (.slice ga n gc) := (Below.celz nb _ _ _ (by omega)).trans cc0
  have d1 : wd.cell? ⟨P0, 1, none⟩ = some (.slice gb m gd) := (Below.celz nb _ _ _ (by omega)).trans cc1
  have d2 : wd.cell? ⟨O0, 0, none⟩ = some (.int .i64 k) := (Below.celz nb _ _ _ (by omega)).trans cc2
  have d3 : wd.cell? ⟨O0, 1, none⟩ = some (.int .i64 nl) := (Below.celz nb _ _ _ (by omega)).trans cc3
  have d4 : wd.cell? ⟨O0, 2, none⟩ = some (.int .i64 nn) := (Below.celz nb _ _ _ (by omega)).trans cc4
  have d5 : wd.cell? ⟨O0, 3, none⟩ = some (.int .i64 l) := (Below.celz nb _ _ _ (by omega)).trans cc5
  have d6 : wd.cell? ⟨O0, 4, none⟩ = some (.int .i64 al) := (Below.celz nb _ _ _ (by omega)).trans cc6
  have d7 : wd.cell? ⟨O0, 5, none⟩ = some (.int .i64 an) := (Below.celz nb _ _ _ (by omega)).trans cc7
  have d8 : wd.cell? ⟨O0, 6, none⟩ = some (.int .i64 bl) := (Below.celz nb _ _ _ (by omega)).trans cc8
  have d9 : wd.cell? ⟨O0, 7, none⟩ = some (.int .i64 bn) := (Below.celz nb _ _ _ (by omega)).trans cc9
  have y0 : P0 < wd.heap.size := by have := Below.size nb; omega
  have y1 : O0 < wd.heap.size := by have := Below.size nb; omega
  have BB1 : Below A wa wd := BB.trans (nb.mono (by omega))
  have sA1 : A ≤ wd.heap.size := by have := Below.size nb; omega
  have q0 : Hid (GrAt wd (.slice xa1 p1 xc1) (.slice xb1 r1 xd1) X1N X1E) := HR1.out.keep nb
  clear BB sA cc0 cc1 cc2 cc3 cc4 cc5 cc6 cc7 cc8 cc9 zz0 zz1 HR1
  have cc0 := d0
  have cc1 := d1
  have cc2 := d2
  have cc3 := d3
  have cc4 := d4
  have cc5 := d5
  have cc6 := d6
  have cc7 := d7
  have cc8 := d8
  have cc9 := d9
  have zz0 := y0
  have zz1 := y1
  have HR1 := q0
  have BB := BB1
  have sA := sA1
  clear BB1 sA1 d0 d1 d2 d3 d4 d5 d6 d7 d8 d9 y0 y1 q0
  have cc10 := kk0
  have cc11 := kk1
  have zz2 : P1 < wd.heap.size := by omega
  rw [← hP1]
  have k3P1 := k3
  clear k3 hW nb hP1 kk0 kk1
  clear k3P1
  refine (gdo_spec _ _ ns es k nl nn l al an bl bn _ (HV.out _ BB).1).mono ?_
  rintro e we ⟨u1, u2, rfl, og, bwe⟩
  have d0 : we.cell? ⟨P0, 0, none⟩ = some (.slice ga n gc) := (Below.celz bwe _ _ _ (by omega)).trans cc0
  have d1 : we.cell? ⟨P0, 1, none⟩ = some (.slice gb m gd) := (Below.celz bwe _ _ _ (by omega)).trans cc1
  have d2 : we.cell? ⟨O0, 0, none⟩ = some (.int .i64 k) := (Below.celz bwe _ _ _ (by omega)).trans cc2
  have d3 : we.cell? ⟨O0, 1, none⟩ = some (.int .i64 nl) := (Below.celz bwe _ _ _ (by omega)).trans cc3
  have d4 : we.cell? ⟨O0, 2, none⟩ = some (.int .i64 nn) := (Below.celz bwe _ _ _ (by omega)).trans cc4
  have d5 : we.cell? ⟨O0, 3, none⟩ = some (.int .i64 l) := (Below.celz bwe _ _ _ (by omega)).trans cc5
  have d6 : we.cell? ⟨O0, 4, none⟩ = some (.int .i64 al) := (Below.celz bwe _ _ _ (by omega)).trans cc6
  have d7 : we.cell? ⟨O0, 5, none⟩ = some (.int .i64 an) := (Below.celz bwe _ _ _ (by omega)).trans cc7
  have d8 : we.cell? ⟨O0, 6, none⟩ = some (.int .i64 bl) := (Below.celz bwe _ _ _ (by omega)).trans cc8
  have d9 : we.cell? ⟨O0, 7, none⟩ = some (.int .i64 bn) := (Below.celz bwe _ _ _ (by omega)).trans cc9
  have d10 : we.cell? ⟨P1, 0, none⟩ = some (.slice xa1 p1 xc1) := (Below.celz bwe _ _ _ (by omega)).trans cc10
  have d11 : we.cell? ⟨P1, 1, none⟩ = some (.slice xb1 r1 xd1) := (Below.celz bwe _ _ _ (by omega)).trans cc11
  have y0 : P0 < we.heap.size := by have := Below.size bwe; omega
  have y1 : O0 < we.heap.size := by have := Below.size bwe; omega
  have y2 : P1 < we.heap.size := by have := Below.size bwe; omega
  have BB1 : Below A wa we := BB.trans (bwe.mono (by omega))
  have sA1 : A ≤ we.heap.size := by have := Below.size bwe; omega
  have q0 : Hid (GrAt we (.slice xa1 p1 xc1) (.slice xb1 r1 xd1) X1N X1E) := HR1.out.keep bwe
  clear BB sA cc0 cc1 cc2 cc3 cc4 cc5 cc6 cc7 cc8 cc9 cc10 cc11 zz0 zz1 zz2 HR1
  have cc0 := d0
  have cc1 := d1
  have cc2 := d2
  have cc3 := d3
  have cc4 := d4
  have cc5 := d5
  have cc6 := d6
  have cc7 := d7
  have cc8 := d8
  have cc9 := d9
  have cc10 := d10
  have cc11 := d11
  have zz0 := y0
  have zz1 := y1
  have zz2 := y2
  have HR1 := q0
  have BB := BB1
  have sA := sA1
  clear BB1 sA1 d0 d1 d2 d3 d4 d5 d6 d7 d8 d9 d10 d11 y0 y1 y2 q0
  clear bwe
  rw [← HX1.out.1, ← HX1.out.2.1] at og
  rw [← HX1.out.2.2]
  obtain ⟨xa2, xc2, xb2, xd2, rfl, rfl⟩ := og.form
  obtain ⟨p2, hp⟩ : ∃ t, t = X1N.length := ⟨_, rfl⟩
  obtain ⟨r2, hr⟩ : ∃ t, t = X1E.length := ⟨_, rfl⟩
  have HL2 : Hid (p2 = X1N.length ∧ r2 = X1E.length) := ⟨hp, hr⟩
  have lp2 : p2 ≤ 200 := by rw [hp]; exact og.2.2.1
  have lr2 : r2 ≤ 200 := by rw [hr]; exact og.2.2.2
  rw [← hp, ← hr] at og ⊢
  clear hp hr
  have HR2 : Hid (GrAt we (.slice xa2 p2 xc2) (.slice xb2 r2 xd2) X1N X1E) := og
  clear og
  go_wp2_with fail
  obtain ⟨P2, hP2⟩ : ∃ t, t = we.heap.size := ⟨_, rfl⟩
  generalize hW : we.alloc (.cells #[.slice xa2 p2 xc2, .slice xb2 r2 xd2] 26) = wf
  have nb : Below we.heap.size we wf := by rw [← hW]; exact (Below.refl _ _).alloc (Nat.le_refl _) _
  have k3 : wf.heap.size = P2 + 1 := by rw [← hW, hP2]; simp
  have kk0 : wf.cell? ⟨P2, 0, none⟩ = some (.slice xa2 p2 xc2) := by rw [← hW, hP2]; simp [go_sem]
  have kk1 : wf.cell? ⟨P2, 1, none⟩ = some (.slice xb2 r2 xd2) := by rw [← hW, hP2]; simp [go_sem]
  have oP2A : A ≤ P2 := by rw [hP2]; exact sA
  have oP20 : P0 < P2 := by rw [hP2]; exact zz0
  have oP21 : O0 < P2 := by rw [hP2]; exact zz1
  have oP22 : P1 < P2 := by rw [hP2]; exact zz2
  have d0 : wf.cell? ⟨P0, 0, none⟩ = some (.slice ga n gc) := (Below.celz nb _ _ _ (by omega)).trans cc0
  have d1 : wf.cell? ⟨P0, 1, none⟩ = some (.slice gb m gd) := (Below.celz nb _ _ _ (by omega)).trans cc1
  have d2 : wf.cell? ⟨O0, 0, none⟩ = some (.int .i64 k) := (Below.celz nb _ _ _ (by omega)).trans cc2
  have d3 : wf.cell? ⟨O0, 1, none⟩ = some (.int .i64 nl) := (Below.celz nb _ _ _ (by omega)).trans cc3
  have d4 : wf.cell? ⟨O0, 2, none⟩ = some (.int .i64 nn) := (Below.celz nb _ _ _ (by omega)).trans cc4
  have d5 : wf.cell? ⟨O0, 3, none⟩ = some (.int .i64 l) := (Below.celz nb _ _ _ (by omega)).trans cc5
  have d6 : wf.cell? ⟨O0, 4, none⟩ = some (.int .i64 al) := (Below.celz nb _ _ _ (by omega)).trans cc6
  have d7 : wf.cell? ⟨O0, 5, none⟩ = some (.int .i64 an) := (Below.celz nb _ _ _ (by omega)).trans cc7
  have d8 : wf.cell? ⟨O0, 6, none⟩ = some (.int .i64 bl) := (Below.celz nb _ _ _ (by omega)).trans cc8
  have d9 : wf.cell? ⟨O0, 7, none⟩ = some (.int .i64 bn) := (Below.celz nb _ _ _ (by omega)).trans cc9
  have d10 : wf.cell? ⟨P1, 0, none⟩ = some (.slice xa1 p1 xc1) := (Below.celz nb _ _ _ (by omega)).trans cc10
  have d11 : wf.cell? ⟨P1, 1, none⟩ = some (.slice xb1 r1 xd1) := (Below.celz nb _ _ _ (by omega)).trans cc11
  have y0 : P0 < wf.heap.size := by have := Below.size nb; omega
  have y1 : O0 < wf.heap.size := by have := Below.size nb; omega
  have y2 : P1 < wf.heap.size := by have := Below.size nb; omega
  have BB1 : Below A wa wf := BB.trans (nb.mono (by omega))
  have sA1 : A ≤ wf.heap.size := by have := Below.size nb; omega
  have q0 : Hid (GrAt wf (.slice xa1 p1 xc1) (.slice xb1 r1 xd1) X1N X1E) := HR1.out.keep nb
  have q1 : Hid (GrAt wf (.slice xa2 p2 xc2) (.slice xb2 r2 xd2) X1N X1E) := HR2.out.keep nb
  clear BB sA cc0 cc1 cc2 cc3 cc4 cc5 cc6 cc7 cc8 cc9 cc10 cc11 zz0 zz1 zz2 HR1 HR2
  have cc0 := d0
  have cc1 := d1
  have cc2 := d2
  have cc3 := d3
  have cc4 := d4
  have cc5 := d5
  have cc6 := d6
  have cc7 := d7
  have cc8 := d8
  have cc9 := d9
  have cc10 := d10
  have cc11 := d11
  have zz0 := y0
  have zz1 := y1
  have zz2 := y2
  have HR1 := q0
  have HR2 := q1
  have BB := BB1
  have sA := sA1
  clear BB1 sA1 d0 d1 d2 d3 d4 d5 d6 d7 d8 d9 d10 d11 y0 y1 y2 q0 q1
  have cc12 := kk0
  have cc13 := kk1
  have zz3 : P2 < wf.heap.size := by omega
  rw [← hP2]
  have k3P2 := k3
  clear k3 hW nb hP2 kk0 kk1
  clear k3P2
  have hnc : (X1C != X1C) = false := by simp
  obtain ⟨bg, hbg⟩ : ∃ b, gokB ns es = b := ⟨_, rfl⟩
  have HBG : Hid (gokB ns es = bg) := hbg
  have hbb : (bg != bg) = false := by cases bg <;> rfl
  obtain ⟨oi, hoi⟩ : ∃ t, opI k nl nn l al an bl bn = t := ⟨_, rfl⟩
  have HOI : Hid (opI k nl nn l al an bl bn = oi) := hoi
  have hoo : (oi != oi) = false := by simp
  have HOL : Hid (∀ (W : World), Four W aF aT aN aU → Calls Tryz.prog 15 #[.agg #[.int .i64 k, .int .i64 nl, .int .i64 nn, .int .i64 l, .int .i64 al, .int .i64 an, .int .i64 bl, .int .i64 bn]] W fun e w' => e = .returned (.int .i64 oi) ∧ Below W.heap.size W w') := fun W h => by rw [← hoi]; exact ol_impl k nl nn l al an bl bn W h
  have HSL : Hid (∀ (W : World), Calls Tryz.prog 16 #[.agg #[.int .i64 k, .int .i64 nl, .int .i64 nn, .int .i64 l, .int .i64 al, .int .i64 an, .int .i64 bl, .int .i64 bn]] W fun e w' => e = .returned (.int .i64 oi) ∧ Below W.heap.size W w') := fun W => by rw [← hoi]; exact spec_OpLabel k nl nn l al an bl bn W
  clear hbg hoi
  have HVH : Hid (∀ w', Below wf.heap.size wf w' → GrAt w' (.slice ga n gc) (.slice gb m gd) ns es ∧ Errs w' ∧ Four w' aF aT aN aU) := fun w' h => ⟨(HV.out _ (BB.trans (h.mono sA))).1, (HV.out _ (BB.trans (h.mono sA))).2.2.2, (HV.out _ (BB.trans (h.mono sA))).2.1⟩
  have hS : Hid (∀ w', Below wf.heap.size wf w' → Below wf.heap.size wf w' ∧ w'.cell? ⟨P0, 0, none⟩ = some (.slice ga n gc) ∧ w'.cell? ⟨P0, 1, none⟩ = some (.slice gb m gd) ∧ w'.cell? ⟨O0, 0, none⟩ = some (.int .i64 k) ∧ w'.cell? ⟨O0, 1, none⟩ = some (.int .i64 nl) ∧ w'.cell? ⟨O0, 2, none⟩ = some (.int .i64 nn) ∧ w'.cell? ⟨O0, 3, none⟩ = some (.int .i64 l) ∧ w'.cell? ⟨O0, 4, none⟩ = some (.int .i64 al) ∧ w'.cell? ⟨O0, 5, none⟩ = some (.int .i64 an) ∧ w'.cell? ⟨O0, 6, none⟩ = some (.int .i64 bl) ∧ w'.cell? ⟨O0, 7, none⟩ = some (.int .i64 bn) ∧ w'.cell? ⟨P1, 0, none⟩ = some (.slice xa1 p1 xc1) ∧ w'.cell? ⟨P1, 1, none⟩ = some (.slice xb1 r1 xd1) ∧ w'.cell? ⟨P2, 0, none⟩ = some (.slice xa2 p2 xc2) ∧ w'.cell? ⟨P2, 1, none⟩ = some (.slice xb2 r2 xd2)) := fun w' hn => ⟨hn, (Below.celz hn _ _ _ zz0).trans cc0, (Below.celz hn _ _ _ zz0).trans cc1, (Below.celz hn _ _ _ zz1).trans cc2, (Below.celz hn _ _ _ zz1).trans cc3, (Below.celz hn _ _ _ zz1).trans cc4, (Below.celz hn _ _ _ zz1).trans cc5, (Below.celz hn _ _ _ zz1).trans cc6, (Below.celz hn _ _ _ zz1).trans cc7, (Below.celz hn _ _ _ zz1).trans cc8, (Below.celz hn _ _ _ zz1).trans cc9, (Below.celz hn _ _ _ zz2).trans cc10, (Below.celz hn _ _ _ zz2).trans cc11, (Below.celz hn _ _ _ zz3).trans cc12, (Below.celz hn _ _ _ zz3).trans cc13⟩
  go_region_held3 (fun w' => Below wf.heap.size wf w' ∧ w'.cell? ⟨P0, 0, none⟩ = some (.slice ga n gc) ∧ w'.cell? ⟨P0, 1, none⟩ = some (.slice gb m gd) ∧ w'.cell? ⟨O0, 0, none⟩ = some (.int .i64 k) ∧ w'.cell? ⟨O0, 1, none⟩ = some (.int .i64 nl) ∧ w'.cell? ⟨O0, 2, none⟩ = some (.int .i64 nn) ∧ w'.cell? ⟨O0, 3, none⟩ = some (.int .i64 l) ∧ w'.cell? ⟨O0, 4, none⟩ = some (.int .i64 al) ∧ w'.cell? ⟨O0, 5, none⟩ = some (.int .i64 an) ∧ w'.cell? ⟨O0, 6, none⟩ = some (.int .i64 bl) ∧ w'.cell? ⟨O0, 7, none⟩ = some (.int .i64 bn) ∧ w'.cell? ⟨P1, 0, none⟩ = some (.slice xa1 p1 xc1) ∧ w'.cell? ⟨P1, 1, none⟩ = some (.slice xb1 r1 xd1) ∧ w'.cell? ⟨P2, 0, none⟩ = some (.slice xa2 p2 xc2) ∧ w'.cell? ⟨P2, 1, none⟩ = some (.slice xb2 r2 xd2))
    (first | with_reducible exact hS.out _ (Below.refl _ _).drew | (with_reducible exact hS.out _ (keep_below (And.left (by assumption)) tj5)) | (with_reducible exact hS.out _ (keep_below (And.left (by assumption)) tj4)) | (with_reducible exact hS.out _ (keep_below (And.left (by assumption)) tj3)) | (with_reducible exact hS.out _ (keep_below (And.left (by assumption)) tj2)) | (with_reducible exact hS.out _ (keep_below (And.left (by assumption)) tj1)))
    (first
      | (go_at_call 16; refine (HSL.out _).mono ?_; rintro e wg ⟨rfl, tj5⟩)
      | (go_at_call 15; refine (HOL.out _ (HVH.out _ (And.left (by assumption))).2.2).mono ?_; rintro e w64 ⟨rfl, tj4⟩)
      | (go_at_call 14; refine (gok_spec _ _ ns es bg HBG.out _ (HVH.out _ (And.left (by assumption))).1).mono ?_; rintro e w63 ⟨rfl, tj3⟩)
      | (go_at_call 13; refine (gok_impl _ _ ns es bg HBG.out _ (HVH.out _ (And.left (by assumption))).1 (HVH.out _ (And.left (by assumption))).2.1).mono ?_; rintro e w62 ⟨rfl, tj2⟩)
      | (go_at_call 12; refine (gs_same _ _ _ _ X1N _ X1E _ rfl rfl _ (HR1.out.keep (And.left (by assumption))) (HR2.out.keep (And.left (by assumption)))).mono ?_; rintro e w61 ⟨rfl, tj1⟩))
  have lb : Below wf.heap.size wf wg := And.left (show Below wf.heap.size wf wg ∧ wg.cell? ⟨P0, 0, none⟩ = some (.slice ga n gc) ∧ wg.cell? ⟨P0, 1, none⟩ = some (.slice gb m gd) ∧ wg.cell? ⟨O0, 0, none⟩ = some (.int .i64 k) ∧ wg.cell? ⟨O0, 1, none⟩ = some (.int .i64 nl) ∧ wg.cell? ⟨O0, 2, none⟩ = some (.int .i64 nn) ∧ wg.cell? ⟨O0, 3, none⟩ = some (.int .i64 l) ∧ wg.cell? ⟨O0, 4, none⟩ = some (.int .i64 al) ∧ wg.cell? ⟨O0, 5, none⟩ = some (.int .i64 an) ∧ wg.cell? ⟨O0, 6, none⟩ = some (.int .i64 bl) ∧ wg.cell? ⟨O0, 7, none⟩ = some (.int .i64 bn) ∧ wg.cell? ⟨P1, 0, none⟩ = some (.slice xa1 p1 xc1) ∧ wg.cell? ⟨P1, 1, none⟩ = some (.slice xb1 r1 xd1) ∧ wg.cell? ⟨P2, 0, none⟩ = some (.slice xa2 p2 xc2) ∧ wg.cell? ⟨P2, 1, none⟩ = some (.slice xb2 r2 xd2) by assumption)
  clear hS
  have d0 : wg.cell? ⟨P0, 0, none⟩ = some (.slice ga n gc) := (Below.celz lb _ _ _ (by omega)).trans cc0
  have d1 : wg.cell? ⟨P0, 1, none⟩ = some (.slice gb m gd) := (Below.celz lb _ _ _ (by omega)).trans cc1
  have d2 : wg.cell? ⟨O0, 0, none⟩ = some (.int .i64 k) := (Below.celz lb _ _ _ (by omega)).trans cc2
  have d3 : wg.cell? ⟨O0, 1, none⟩ = some (.int .i64 nl) := (Below.celz lb _ _ _ (by omega)).trans cc3
  have d4 : wg.cell? ⟨O0, 2, none⟩ = some (.int .i64 nn) := (Below.celz lb _ _ _ (by omega)).trans cc4
  have d5 : wg.cell? ⟨O0, 3, none⟩ = some (.int .i64 l) := (Below.celz lb _ _ _ (by omega)).trans cc5
  have d6 : wg.cell? ⟨O0, 4, none⟩ = some (.int .i64 al) := (Below.celz lb _ _ _ (by omega)).trans cc6
  have d7 : wg.cell? ⟨O0, 5, none⟩ = some (.int .i64 an) := (Below.celz lb _ _ _ (by omega)).trans cc7
  have d8 : wg.cell? ⟨O0, 6, none⟩ = some (.int .i64 bl) := (Below.celz lb _ _ _ (by omega)).trans cc8
  have d9 : wg.cell? ⟨O0, 7, none⟩ = some (.int .i64 bn) := (Below.celz lb _ _ _ (by omega)).trans cc9
  have d10 : wg.cell? ⟨P1, 0, none⟩ = some (.slice xa1 p1 xc1) := (Below.celz lb _ _ _ (by omega)).trans cc10
  have d11 : wg.cell? ⟨P1, 1, none⟩ = some (.slice xb1 r1 xd1) := (Below.celz lb _ _ _ (by omega)).trans cc11
  have d12 : wg.cell? ⟨P2, 0, none⟩ = some (.slice xa2 p2 xc2) := (Below.celz lb _ _ _ (by omega)).trans cc12
  have d13 : wg.cell? ⟨P2, 1, none⟩ = some (.slice xb2 r2 xd2) := (Below.celz lb _ _ _ (by omega)).trans cc13
  have y0 : P0 < wg.heap.size := by have := Below.size lb; omega
  have y1 : O0 < wg.heap.size := by have := Below.size lb; omega
  have y2 : P1 < wg.heap.size := by have := Below.size lb; omega
  have y3 : P2 < wg.heap.size := by have := Below.size lb; omega
  have BB1 : Below A wa wg := BB.trans (lb.mono (by omega))
  have sA1 : A ≤ wg.heap.size := by have := Below.size lb; omega
  have q0 : Hid (GrAt wg (.slice xa1 p1 xc1) (.slice xb1 r1 xd1) X1N X1E) := HR1.out.keep lb
  have q1 : Hid (GrAt wg (.slice xa2 p2 xc2) (.slice xb2 r2 xd2) X1N X1E) := HR2.out.keep lb
  clear BB sA cc0 cc1 cc2 cc3 cc4 cc5 cc6 cc7 cc8 cc9 cc10 cc11 cc12 cc13 zz0 zz1 zz2 zz3 HR1 HR2
  have cc0 := d0
  have cc1 := d1
  have cc2 := d2
  have cc3 := d3
  have cc4 := d4
  have cc5 := d5
  have cc6 := d6
  have cc7 := d7
  have cc8 := d8
  have cc9 := d9
  have cc10 := d10
  have cc11 := d11
  have cc12 := d12
  have cc13 := d13
  have zz0 := y0
  have zz1 := y1
  have zz2 := y2
  have zz3 := y3
  have HR1 := q0
  have HR2 := q1
  have BB := BB1
  have sA := sA1
  clear BB1 sA1 d0 d1 d2 d3 d4 d5 d6 d7 d8 d9 d10 d11 d12 d13 y0 y1 y2 y3 q0 q1
  clear lb
  clear tj1 tj2 tj3 tj4 tj5 HVH
  go_wp2_with fail
  refine (gok_spec _ _ ns es bg HBG.out _ (HV.out _ BB).1).mono ?_
  rintro e wh ⟨rfl, bh⟩
  have d0 : wh.cell? ⟨P0, 0, none⟩ = some (.slice ga n gc) := (Below.celz bh _ _ _ (by omega)).trans cc0
  have d1 : wh.cell? ⟨P0, 1, none⟩ = some (.slice gb m gd) := (Below.celz bh _ _ _ (by omega)).trans cc1
  have d2 : wh.cell? ⟨O0, 0, none⟩ = some (.int .i64 k) := (Below.celz bh _ _ _ (by omega)).trans cc2
  have d3 : wh.cell? ⟨O0, 1, none⟩ = some (.int .i64 nl) := (Below.celz bh _ _ _ (by omega)).trans cc3
  have d4 : wh.cell? ⟨O0, 2, none⟩ = some (.int .i64 nn) := (Below.celz bh _ _ _ (by omega)).trans cc4
  have d5 : wh.cell? ⟨O0, 3, none⟩ = some (.int .i64 l) := (Below.celz bh _ _ _ (by omega)).trans cc5
  have d6 : wh.cell? ⟨O0, 4, none⟩ = some (.int .i64 al) := (Below.celz bh _ _ _ (by omega)).trans cc6
  have d7 : wh.cell? ⟨O0, 5, none⟩ = some (.int .i64 an) := (Below.celz bh _ _ _ (by omega)).trans cc7
  have d8 : wh.cell? ⟨O0, 6, none⟩ = some (.int .i64 bl) := (Below.celz bh _ _ _ (by omega)).trans cc8
  have d9 : wh.cell? ⟨O0, 7, none⟩ = some (.int .i64 bn) := (Below.celz bh _ _ _ (by omega)).trans cc9
  have d10 : wh.cell? ⟨P1, 0, none⟩ = some (.slice xa1 p1 xc1) := (Below.celz bh _ _ _ (by omega)).trans cc10
  have d11 : wh.cell? ⟨P1, 1, none⟩ = some (.slice xb1 r1 xd1) := (Below.celz bh _ _ _ (by omega)).trans cc11
  have d12 : wh.cell? ⟨P2, 0, none⟩ = some (.slice xa2 p2 xc2) := (Below.celz bh _ _ _ (by omega)).trans cc12
  have d13 : wh.cell? ⟨P2, 1, none⟩ = some (.slice xb2 r2 xd2) := (Below.celz bh _ _ _ (by omega)).trans cc13
  have y0 : P0 < wh.heap.size := by have := Below.size bh; omega
  have y1 : O0 < wh.heap.size := by have := Below.size bh; omega
  have y2 : P1 < wh.heap.size := by have := Below.size bh; omega
  have y3 : P2 < wh.heap.size := by have := Below.size bh; omega
  have BB1 : Below A wa wh := BB.trans (bh.mono (by omega))
  have sA1 : A ≤ wh.heap.size := by have := Below.size bh; omega
  have q0 : Hid (GrAt wh (.slice xa1 p1 xc1) (.slice xb1 r1 xd1) X1N X1E) := HR1.out.keep bh
  have q1 : Hid (GrAt wh (.slice xa2 p2 xc2) (.slice xb2 r2 xd2) X1N X1E) := HR2.out.keep bh
  clear BB sA cc0 cc1 cc2 cc3 cc4 cc5 cc6 cc7 cc8 cc9 cc10 cc11 cc12 cc13 zz0 zz1 zz2 zz3 HR1 HR2
  have cc0 := d0
  have cc1 := d1
  have cc2 := d2
  have cc3 := d3
  have cc4 := d4
  have cc5 := d5
  have cc6 := d6
  have cc7 := d7
  have cc8 := d8
  have cc9 := d9
  have cc10 := d10
  have cc11 := d11
  have cc12 := d12
  have cc13 := d13
  have zz0 := y0
  have zz1 := y1
  have zz2 := y2
  have zz3 := y3
  have HR1 := q0
  have HR2 := q1
  have BB := BB1
  have sA := sA1
  clear BB1 sA1 d0 d1 d2 d3 d4 d5 d6 d7 d8 d9 d10 d11 d12 d13 y0 y1 y2 y3 q0 q1
  clear bh
  cases bg
  · have hgb := gd_bad (k := k) (nl := nl) (nn := nn) (l := l) (al := al) (an := an) (bl := bl) (bn := bn) HBG.out
    have hc1 : X1C = 1 := by rw [HX1.out.2.2]; exact hgb.2.2
    have HNE : Hid (X1N = [] ∧ X1E = []) := ⟨by rw [HX1.out.1]; exact hgb.1, by rw [HX1.out.2.1]; exact hgb.2.1⟩
    clear hgb
    subst hc1
    go_wp2_with fail
    refine (gs_same _ _ _ _ X1N [] X1E [] HNE.out.1 HNE.out.2 _ HR1.out (GrAt.nil _)).mono ?_
    rintro e wi ⟨rfl, bi⟩
    have d0 : wi.cell? ⟨P0, 0, none⟩ = some (.slice ga n gc) := (Below.celz bi _ _ _ (by omega)).trans cc0
    have d1 : wi.cell? ⟨P0, 1, none⟩ = some (.slice gb m gd) := (Below.celz bi _ _ _ (by omega)).trans cc1
    have d2 : wi.cell? ⟨O0, 0, none⟩ = some (.int .i64 k) := (Below.celz bi _ _ _ (by omega)).trans cc2
    have d3 : wi.cell? ⟨O0, 1, none⟩ = some (.int .i64 nl) := (Below.celz bi _ _ _ (by omega)).trans cc3
    have d4 : wi.cell? ⟨O0, 2, none⟩ = some (.int .i64 nn) := (Below.celz bi _ _ _ (by omega)).trans cc4
    have d5 : wi.cell? ⟨O0, 3, none⟩ = some (.int .i64 l) := (Below.celz bi _ _ _ (by omega)).trans cc5
    have d6 : wi.cell? ⟨O0, 4, none⟩ = some (.int .i64 al) := (Below.celz bi _ _ _ (by omega)).trans cc6
    have d7 : wi.cell? ⟨O0, 5, none⟩ = some (.int .i64 an) := (Below.celz bi _ _ _ (by omega)).trans cc7
    have d8 : wi.cell? ⟨O0, 6, none⟩ = some (.int .i64 bl) := (Below.celz bi _ _ _ (by omega)).trans cc8
    have d9 : wi.cell? ⟨O0, 7, none⟩ = some (.int .i64 bn) := (Below.celz bi _ _ _ (by omega)).trans cc9
    have d10 : wi.cell? ⟨P1, 0, none⟩ = some (.slice xa1 p1 xc1) := (Below.celz bi _ _ _ (by omega)).trans cc10
    have d11 : wi.cell? ⟨P1, 1, none⟩ = some (.slice xb1 r1 xd1) := (Below.celz bi _ _ _ (by omega)).trans cc11
    have d12 : wi.cell? ⟨P2, 0, none⟩ = some (.slice xa2 p2 xc2) := (Below.celz bi _ _ _ (by omega)).trans cc12
    have d13 : wi.cell? ⟨P2, 1, none⟩ = some (.slice xb2 r2 xd2) := (Below.celz bi _ _ _ (by omega)).trans cc13
    have y0 : P0 < wi.heap.size := by have := Below.size bi; omega
    have y1 : O0 < wi.heap.size := by have := Below.size bi; omega
    have y2 : P1 < wi.heap.size := by have := Below.size bi; omega
    have y3 : P2 < wi.heap.size := by have := Below.size bi; omega
    have BB1 : Below A wa wi := BB.trans (bi.mono (by omega))
    have sA1 : A ≤ wi.heap.size := by have := Below.size bi; omega
    have q0 : Hid (GrAt wi (.slice xa1 p1 xc1) (.slice xb1 r1 xd1) X1N X1E) := HR1.out.keep bi
    have q1 : Hid (GrAt wi (.slice xa2 p2 xc2) (.slice xb2 r2 xd2) X1N X1E) := HR2.out.keep bi
    clear BB sA cc0 cc1 cc2 cc3 cc4 cc5 cc6 cc7 cc8 cc9 cc10 cc11 cc12 cc13 zz0 zz1 zz2 zz3 HR1 HR2
    have cc0 := d0
    have cc1 := d1
    have cc2 := d2
    have cc3 := d3
    have cc4 := d4
    have cc5 := d5
    have cc6 := d6
    have cc7 := d7
    have cc8 := d8
    have cc9 := d9
    have cc10 := d10
    have cc11 := d11
    have cc12 := d12
    have cc13 := d13
    have zz0 := y0
    have zz1 := y1
    have zz2 := y2
    have zz3 := y3
    have HR1 := q0
    have HR2 := q1
    have BB := BB1
    have sA := sA1
    clear BB1 sA1 d0 d1 d2 d3 d4 d5 d6 d7 d8 d9 d10 d11 d12 d13 y0 y1 y2 y3 q0 q1
    clear bi
    go_wp2_with fail
    go_ret
    exact ⟨rfl, (HV.out _ BB).2.2.1⟩
  · by_cases hc0 : X1C = 0
    rotate_left
    · have hcb : (X1C != 0) = true := by simpa using hc0
      have HNE : Hid (X1N = ns ∧ X1E = es) := by
        have h := gd_not HBG.out (by rw [← HX1.out.2.2]; exact hc0)
        exact ⟨by rw [HX1.out.1]; exact h.1, by rw [HX1.out.2.1]; exact h.2⟩
      clear hc0
      go_wp2_with fail
      refine (gs_same _ _ _ _ X1N ns X1E es HNE.out.1 HNE.out.2 _ HR1.out (HV.out _ BB).1).mono ?_
      rintro e wi ⟨rfl, bi⟩
      have d0 : wi.cell? ⟨P0, 0, none⟩ = some (.slice ga n gc) := (Below.celz bi _ _ _ (by omega)).trans cc0
      have d1 : wi.cell? ⟨P0, 1, none⟩ = some (.slice gb m gd) := (Below.celz bi _ _ _ (by omega)).trans cc1
      have d2 : wi.cell? ⟨O0, 0, none⟩ = some (.int .i64 k) := (Below.celz bi _ _ _ (by omega)).trans cc2
      have d3 : wi.cell? ⟨O0, 1, none⟩ = some (.int .i64 nl) := (Below.celz bi _ _ _ (by omega)).trans cc3
      have d4 : wi.cell? ⟨O0, 2, none⟩ = some (.int .i64 nn) := (Below.celz bi _ _ _ (by omega)).trans cc4
      have d5 : wi.cell? ⟨O0, 3, none⟩ = some (.int .i64 l) := (Below.celz bi _ _ _ (by omega)).trans cc5
      have d6 : wi.cell? ⟨O0, 4, none⟩ = some (.int .i64 al) := (Below.celz bi _ _ _ (by omega)).trans cc6
      have d7 : wi.cell? ⟨O0, 5, none⟩ = some (.int .i64 an) := (Below.celz bi _ _ _ (by omega)).trans cc7
      have d8 : wi.cell? ⟨O0, 6, none⟩ = some (.int .i64 bl) := (Below.celz bi _ _ _ (by omega)).trans cc8
      have d9 : wi.cell? ⟨O0, 7, none⟩ = some (.int .i64 bn) := (Below.celz bi _ _ _ (by omega)).trans cc9
      have d10 : wi.cell? ⟨P1, 0, none⟩ = some (.slice xa1 p1 xc1) := (Below.celz bi _ _ _ (by omega)).trans cc10
      have d11 : wi.cell? ⟨P1, 1, none⟩ = some (.slice xb1 r1 xd1) := (Below.celz bi _ _ _ (by omega)).trans cc11
      have d12 : wi.cell? ⟨P2, 0, none⟩ = some (.slice xa2 p2 xc2) := (Below.celz bi _ _ _ (by omega)).trans cc12
      have d13 : wi.cell? ⟨P2, 1, none⟩ = some (.slice xb2 r2 xd2) := (Below.celz bi _ _ _ (by omega)).trans cc13
      have y0 : P0 < wi.heap.size := by have := Below.size bi; omega
      have y1 : O0 < wi.heap.size := by have := Below.size bi; omega
      have y2 : P1 < wi.heap.size := by have := Below.size bi; omega
      have y3 : P2 < wi.heap.size := by have := Below.size bi; omega
      have BB1 : Below A wa wi := BB.trans (bi.mono (by omega))
      have sA1 : A ≤ wi.heap.size := by have := Below.size bi; omega
      have q0 : Hid (GrAt wi (.slice xa1 p1 xc1) (.slice xb1 r1 xd1) X1N X1E) := HR1.out.keep bi
      have q1 : Hid (GrAt wi (.slice xa2 p2 xc2) (.slice xb2 r2 xd2) X1N X1E) := HR2.out.keep bi
      clear BB sA cc0 cc1 cc2 cc3 cc4 cc5 cc6 cc7 cc8 cc9 cc10 cc11 cc12 cc13 zz0 zz1 zz2 zz3 HR1 HR2
      have cc0 := d0
      have cc1 := d1
      have cc2 := d2
      have cc3 := d3
      have cc4 := d4
      have cc5 := d5
      have cc6 := d6
      have cc7 := d7
      have cc8 := d8
      have cc9 := d9
      have cc10 := d10
      have cc11 := d11
      have cc12 := d12
      have cc13 := d13
      have zz0 := y0
      have zz1 := y1
      have zz2 := y2
      have zz3 := y3
      have HR1 := q0
      have HR2 := q1
      have BB := BB1
      have sA := sA1
      clear BB1 sA1 d0 d1 d2 d3 d4 d5 d6 d7 d8 d9 d10 d11 d12 d13 y0 y1 y2 y3 q0 q1
      clear bi
      go_wp2_with fail
      refine (HOL.out _ (HV.out _ BB).2.1).mono ?_
      rintro e wj ⟨rfl, bj⟩
      have d0 : wj.cell? ⟨P0, 0, none⟩ = some (.slice ga n gc) := (Below.celz bj _ _ _ (by omega)).trans cc0
      have d1 : wj.cell? ⟨P0, 1, none⟩ = some (.slice gb m gd) := (Below.celz bj _ _ _ (by omega)).trans cc1
      have d2 : wj.cell? ⟨O0, 0, none⟩ = some (.int .i64 k) := (Below.celz bj _ _ _ (by omega)).trans cc2
      have d3 : wj.cell? ⟨O0, 1, none⟩ = some (.int .i64 nl) := (Below.celz bj _ _ _ (by omega)).trans cc3
      have d4 : wj.cell? ⟨O0, 2, none⟩ = some (.int .i64 nn) := (Below.celz bj _ _ _ (by omega)).trans cc4
      have d5 : wj.cell? ⟨O0, 3, none⟩ = some (.int .i64 l) := (Below.celz bj _ _ _ (by omega)).trans cc5
      have d6 : wj.cell? ⟨O0, 4, none⟩ = some (.int .i64 al) := (Below.celz bj _ _ _ (by omega)).trans cc6
      have d7 : wj.cell? ⟨O0, 5, none⟩ = some (.int .i64 an) := (Below.celz bj _ _ _ (by omega)).trans cc7
      have d8 : wj.cell? ⟨O0, 6, none⟩ = some (.int .i64 bl) := (Below.celz bj _ _ _ (by omega)).trans cc8
      have d9 : wj.cell? ⟨O0, 7, none⟩ = some (.int .i64 bn) := (Below.celz bj _ _ _ (by omega)).trans cc9
      have d10 : wj.cell? ⟨P1, 0, none⟩ = some (.slice xa1 p1 xc1) := (Below.celz bj _ _ _ (by omega)).trans cc10
      have d11 : wj.cell? ⟨P1, 1, none⟩ = some (.slice xb1 r1 xd1) := (Below.celz bj _ _ _ (by omega)).trans cc11
      have d12 : wj.cell? ⟨P2, 0, none⟩ = some (.slice xa2 p2 xc2) := (Below.celz bj _ _ _ (by omega)).trans cc12
      have d13 : wj.cell? ⟨P2, 1, none⟩ = some (.slice xb2 r2 xd2) := (Below.celz bj _ _ _ (by omega)).trans cc13
      have y0 : P0 < wj.heap.size := by have := Below.size bj; omega
      have y1 : O0 < wj.heap.size := by have := Below.size bj; omega
      have y2 : P1 < wj.heap.size := by have := Below.size bj; omega
      have y3 : P2 < wj.heap.size := by have := Below.size bj; omega
      have BB1 : Below A wa wj := BB.trans (bj.mono (by omega))
      have sA1 : A ≤ wj.heap.size := by have := Below.size bj; omega
      have q0 : Hid (GrAt wj (.slice xa1 p1 xc1) (.slice xb1 r1 xd1) X1N X1E) := HR1.out.keep bj
      have q1 : Hid (GrAt wj (.slice xa2 p2 xc2) (.slice xb2 r2 xd2) X1N X1E) := HR2.out.keep bj
      clear BB sA cc0 cc1 cc2 cc3 cc4 cc5 cc6 cc7 cc8 cc9 cc10 cc11 cc12 cc13 zz0 zz1 zz2 zz3 HR1 HR2
      have cc0 := d0
      have cc1 := d1
      have cc2 := d2
      have cc3 := d3
      have cc4 := d4
      have cc5 := d5
      have cc6 := d6
      have cc7 := d7
      have cc8 := d8
      have cc9 := d9
      have cc10 := d10
      have cc11 := d11
      have cc12 := d12
      have cc13 := d13
      have zz0 := y0
      have zz1 := y1
      have zz2 := y2
      have zz3 := y3
      have HR1 := q0
      have HR2 := q1
      have BB := BB1
      have sA := sA1
      clear BB1 sA1 d0 d1 d2 d3 d4 d5 d6 d7 d8 d9 d10 d11 d12 d13 y0 y1 y2 y3 q0 q1
      clear bj
      have hfm : X1C = 1 ↔ oi < 0 := by rw [HX1.out.2.2, ← HOI.out]; exact gd_form HBG.out
      by_cases ho : oi < 0
      · have hc1 : X1C = 1 := hfm.2 ho
        clear hfm
        subst hc1
        go_wp2_with fail
        go_ret
        exact ⟨rfl, (HV.out _ BB).2.2.1⟩
      · have hc1 : (X1C == 1) = false := beq_eq_false_iff_ne.2 (fun h => ho (hfm.1 h))
        have hod : decide (oi < 0) = false := decide_eq_false ho
        clear hfm
        go_wp2_with fail
        go_ret
        exact ⟨rfl, (HV.out _ BB).2.2.1⟩
    · subst hc0
      have HFI : Hid (gdC ns es k nl nn l al an bl bn = 0) := HX1.out.2.2.symm
      go_wp2_with fail
      obtain ⟨X2N, hX⟩ : ∃ t, t = gdN X1N X1E k nl nn l al an bl bn := ⟨_, rfl⟩
      obtain ⟨X2E, hY⟩ : ∃ t, t = gdE X1N X1E k nl nn l al an bl bn := ⟨_, rfl⟩
      obtain ⟨X2C, hZ⟩ : ∃ t, t = gdC X1N X1E k nl nn l al an bl bn := ⟨_, rfl⟩
      have HX2 : Hid (X2N = gdN X1N X1E k nl nn l al an bl bn ∧ X2E = gdE X1N X1E k nl nn l al an bl bn ∧ X2C = gdC X1N X1E k nl nn l al an bl bn) := ⟨hX, hY, hZ⟩
      clear hX hY hZ
      refine (gdo_impl _ _ X1N X1E k nl nn l al an bl bn _ HR1.out (HV.out _ BB).2.1).mono ?_
      rintro e wi ⟨u1, u2, rfl, og, bwi⟩
      have d0 : wi.cell? ⟨P0, 0, none⟩ = some (.slice ga n gc) := (Below.celz bwi _ _ _ (by omega)).trans cc0
      have d1 : wi.cell? ⟨P0, 1, none⟩ = some (.slice gb m gd) := (Below.celz bwi _ _ _ (by omega)).trans cc1
      have d2 : wi.cell? ⟨O0, 0, none⟩ = some (.int .i64 k) := (Below.celz bwi _ _ _ (by omega)).trans cc2
      have d3 : wi.cell? ⟨O0, 1, none⟩ = some (.int .i64 nl) := (Below.celz bwi _ _ _ (by omega)).trans cc3
      have d4 : wi.cell? ⟨O0, 2, none⟩ = some (.int .i64 nn) := (Below.celz bwi _ _ _ (by omega)).trans cc4
      have d5 : wi.cell? ⟨O0, 3, none⟩ = some (.int .i64 l) := (Below.celz bwi _ _ _ (by omega)).trans cc5
      have d6 : wi.cell? ⟨O0, 4, none⟩ = some (.int .i64 al) := (Below.celz bwi _ _ _ (by omega)).trans cc6
      have d7 : wi.cell? ⟨O0, 5, none⟩ = some (.int .i64 an) := (Below.celz bwi _ _ _ (by omega)).trans cc7
      have d8 : wi.cell? ⟨O0, 6, none⟩ = some (.int .i64 bl) := (Below.celz bwi _ _ _ (by omega)).trans cc8
      have d9 : wi.cell? ⟨O0, 7, none⟩ = some (.int .i64 bn) := (Below.celz bwi _ _ _ (by omega)).trans cc9
      have d10 : wi.cell? ⟨P1, 0, none⟩ = some (.slice xa1 p1 xc1) := (Below.celz bwi _ _ _ (by omega)).trans cc10
      have d11 : wi.cell? ⟨P1, 1, none⟩ = some (.slice xb1 r1 xd1) := (Below.celz bwi _ _ _ (by omega)).trans cc11
      have d12 : wi.cell? ⟨P2, 0, none⟩ = some (.slice xa2 p2 xc2) := (Below.celz bwi _ _ _ (by omega)).trans cc12
      have d13 : wi.cell? ⟨P2, 1, none⟩ = some (.slice xb2 r2 xd2) := (Below.celz bwi _ _ _ (by omega)).trans cc13
      have y0 : P0 < wi.heap.size := by have := Below.size bwi; omega
      have y1 : O0 < wi.heap.size := by have := Below.size bwi; omega
      have y2 : P1 < wi.heap.size := by have := Below.size bwi; omega
      have y3 : P2 < wi.heap.size := by have := Below.size bwi; omega
      have BB1 : Below A wa wi := BB.trans (bwi.mono (by omega))
      have sA1 : A ≤ wi.heap.size := by have := Below.size bwi; omega
      have q0 : Hid (GrAt wi (.slice xa1 p1 xc1) (.slice xb1 r1 xd1) X1N X1E) := HR1.out.keep bwi
      have q1 : Hid (GrAt wi (.slice xa2 p2 xc2) (.slice xb2 r2 xd2) X1N X1E) := HR2.out.keep bwi
      clear BB sA cc0 cc1 cc2 cc3 cc4 cc5 cc6 cc7 cc8 cc9 cc10 cc11 cc12 cc13 zz0 zz1 zz2 zz3 HR1 HR2
      have cc0 := d0
      have cc1 := d1
      have cc2 := d2
      have cc3 := d3
      have cc4 := d4
      have cc5 := d5
      have cc6 := d6
      have cc7 := d7
      have cc8 := d8
      have cc9 := d9
      have cc10 := d10
      have cc11 := d11
      have cc12 := d12
      have cc13 := d13
      have zz0 := y0
      have zz1 := y1
      have zz2 := y2
      have zz3 := y3
      have HR1 := q0
      have HR2 := q1
      have BB := BB1
      have sA := sA1
      clear BB1 sA1 d0 d1 d2 d3 d4 d5 d6 d7 d8 d9 d10 d11 d12 d13 y0 y1 y2 y3 q0 q1
      clear bwi
      rw [← HX2.out.1, ← HX2.out.2.1] at og
      rw [← HX2.out.2.2]
      obtain ⟨xa3, xc3, xb3, xd3, rfl, rfl⟩ := og.form
      obtain ⟨p3, hp⟩ : ∃ t, t = X2N.length := ⟨_, rfl⟩
      obtain ⟨r3, hr⟩ : ∃ t, t = X2E.length := ⟨_, rfl⟩
      have HL3 : Hid (p3 = X2N.length ∧ r3 = X2E.length) := ⟨hp, hr⟩
      have lp3 : p3 ≤ 200 := by rw [hp]; exact og.2.2.1
      have lr3 : r3 ≤ 200 := by rw [hr]; exact og.2.2.2
      rw [← hp, ← hr] at og ⊢
      clear hp hr
      have HR3 : Hid (GrAt wi (.slice xa3 p3 xc3) (.slice xb3 r3 xd3) X2N X2E) := og
      clear og
      go_wp2_with fail
      obtain ⟨P3, hP3⟩ : ∃ t, t = wi.heap.size := ⟨_, rfl⟩
      generalize hW : wi.alloc (.cells #[.slice xa3 p3 xc3, .slice xb3 r3 xd3] 26) = wj
      have nb : Below wi.heap.size wi wj := by rw [← hW]; exact (Below.refl _ _).alloc (Nat.le_refl _) _
      have k3 : wj.heap.size = P3 + 1 := by rw [← hW, hP3]; simp
      have kk0 : wj.cell? ⟨P3, 0, none⟩ = some (.slice xa3 p3 xc3) := by rw [← hW, hP3]; simp [go_sem]
      have kk1 : wj.cell? ⟨P3, 1, none⟩ = some (.slice xb3 r3 xd3) := by rw [← hW, hP3]; simp [go_sem]
      have oP3A : A ≤ P3 := by rw [hP3]; exact sA
      have oP30 : P0 < P3 := by rw [hP3]; exact zz0
      have oP31 : O0 < P3 := by rw [hP3]; exact zz1
      have oP32 : P1 < P3 := by rw [hP3]; exact zz2
      have oP33 : P2 < P3 := by rw [hP3]; exact zz3
      have d0 : wj.cell? ⟨P0, 0, none⟩ = some (.slice ga n gc) := (Below.celz nb _ _ _ (by omega)).trans cc0
      have d1 : wj.cell? ⟨P0, 1, none⟩ = some (.slice gb m gd) := (Below.celz nb _ _ _ (by omega)).trans cc1
      have d2 : wj.cell? ⟨O0, 0, none⟩ = some (.int .i64 k) := (Below.celz nb _ _ _ (by omega)).trans cc2
      have d3 : wj.cell? ⟨O0, 1, none⟩ = some (.int .i64 nl) := (Below.celz nb _ _ _ (by omega)).trans cc3
      have d4 : wj.cell? ⟨O0, 2, none⟩ = some (.int .i64 nn) := (Below.celz nb _ _ _ (by omega)).trans cc4
      have d5 : wj.cell? ⟨O0, 3, none⟩ = some (.int .i64 l) := (Below.celz nb _ _ _ (by omega)).trans cc5
      have d6 : wj.cell? ⟨O0, 4, none⟩ = some (.int .i64 al) := (Below.celz nb _ _ _ (by omega)).trans cc6
      have d7 : wj.cell? ⟨O0, 5, none⟩ = some (.int .i64 an) := (Below.celz nb _ _ _ (by omega)).trans cc7
      have d8 : wj.cell? ⟨O0, 6, none⟩ = some (.int .i64 bl) := (Below.celz nb _ _ _ (by omega)).trans cc8
      have d9 : wj.cell? ⟨O0, 7, none⟩ = some (.int .i64 bn) := (Below.celz nb _ _ _ (by omega)).trans cc9
      have d10 : wj.cell? ⟨P1, 0, none⟩ = some (.slice xa1 p1 xc1) := (Below.celz nb _ _ _ (by omega)).trans cc10
      have d11 : wj.cell? ⟨P1, 1, none⟩ = some (.slice xb1 r1 xd1) := (Below.celz nb _ _ _ (by omega)).trans cc11
      have d12 : wj.cell? ⟨P2, 0, none⟩ = some (.slice xa2 p2 xc2) := (Below.celz nb _ _ _ (by omega)).trans cc12
      have d13 : wj.cell? ⟨P2, 1, none⟩ = some (.slice xb2 r2 xd2) := (Below.celz nb _ _ _ (by omega)).trans cc13
      have y0 : P0 < wj.heap.size := by have := Below.size nb; omega
      have y1 : O0 < wj.heap.size := by have := Below.size nb; omega
      have y2 : P1 < wj.heap.size := by have := Below.size nb; omega
      have y3 : P2 < wj.heap.size := by have := Below.size nb; omega
      have BB1 : Below A wa wj := BB.trans (nb.mono (by omega))
      have sA1 : A ≤ wj.heap.size := by have := Below.size nb; omega
      have q0 : Hid (GrAt wj (.slice xa1 p1 xc1) (.slice xb1 r1 xd1) X1N X1E) := HR1.out.keep nb
      have q1 : Hid (GrAt wj (.slice xa2 p2 xc2) (.slice xb2 r2 xd2) X1N X1E) := HR2.out.keep nb
      have q2 : Hid (GrAt wj (.slice xa3 p3 xc3) (.slice xb3 r3 xd3) X2N X2E) := HR3.out.keep nb
      clear BB sA cc0 cc1 cc2 cc3 cc4 cc5 cc6 cc7 cc8 cc9 cc10 cc11 cc12 cc13 zz0 zz1 zz2 zz3 HR1 HR2 HR3
      have cc0 := d0
      have cc1 := d1
      have cc2 := d2
      have cc3 := d3
      have cc4 := d4
      have cc5 := d5
      have cc6 := d6
      have cc7 := d7
      have cc8 := d8
      have cc9 := d9
      have cc10 := d10
      have cc11 := d11
      have cc12 := d12
      have cc13 := d13
      have zz0 := y0
      have zz1 := y1
      have zz2 := y2
      have zz3 := y3
      have HR1 := q0
      have HR2 := q1
      have HR3 := q2
      have BB := BB1
      have sA := sA1
      clear BB1 sA1 d0 d1 d2 d3 d4 d5 d6 d7 d8 d9 d10 d11 d12 d13 y0 y1 y2 y3 q0 q1 q2
      have cc14 := kk0
      have cc15 := kk1
      have zz4 : P3 < wj.heap.size := by omega
      rw [← hP3]
      have k3P3 := k3
      clear k3 hW nb hP3 kk0 kk1
      clear k3P3
      have HT : Hid (gokB X1N X1E = true ∧ X2N = X1N ∧ X2E = X1E ∧ ¬ (X1N = ns ∧ X1E = es)) := by
        have h1 := gd_twice HBG.out HFI.out
        have h2 := gd_gok (k := k) (nl := nl) (nn := nn) (l := l) (al := al) (an := an) (bl := bl) (bn := bn) HBG.out
        have h3 := fine_new (gokB_true.1 HBG.out) (gd_fine HBG.out HFI.out)
        rw [← HX1.out.1, ← HX1.out.2.1] at h1 h2 h3
        rw [← HX2.out.1, ← HX2.out.2.1] at h1
        exact ⟨h2, h1.2.1, h1.2.2, h3⟩
      have hag : (X2C != 0) = true := by
        have h1 := gd_twice HBG.out HFI.out
        rw [← HX1.out.1, ← HX1.out.2.1, ← HX2.out.2.2] at h1
        simpa using h1.1
      have HDI : Hid ((eqB X1N ns && eqB X1E es) = false) := by
        show (eqB X1N ns && eqB X1E es) = false
        cases h : (eqB X1N ns && eqB X1E es) with
        | false => rfl
        | true => exact absurd (by simp only [Bool.and_eq_true] at h; exact ⟨eqB_true.1 h.1, eqB_true.1 h.2⟩) HT.out.2.2.2
      go_wp2_with fail
      refine (gok_impl _ _ X1N X1E true HT.out.1 _ HR1.out (HV.out _ BB).2.2.2).mono ?_
      rintro e wk ⟨rfl, bk⟩
      have d0 : wk.cell? ⟨P0, 0, none⟩ = some (.slice ga n gc) := (Below.celz bk _ _ _ (by omega)).trans cc0
      have d1 : wk.cell? ⟨P0, 1, none⟩ = some (.slice gb m gd) := (Below.celz bk _ _ _ (by omega)).trans cc1
      have d2 : wk.cell? ⟨O0, 0, none⟩ = some (.int .i64 k) := (Below.celz bk _ _ _ (by omega)).trans cc2
      have d3 : wk.cell? ⟨O0, 1, none⟩ = some (.int .i64 nl) := (Below.celz bk _ _ _ (by omega)).trans cc3
      have d4 : wk.cell? ⟨O0, 2, none⟩ = some (.int .i64 nn) := (Below.celz bk _ _ _ (by omega)).trans cc4
      have d5 : wk.cell? ⟨O0, 3, none⟩ = some (.int .i64 l) := (Below.celz bk _ _ _ (by omega)).trans cc5
      have d6 : wk.cell? ⟨O0, 4, none⟩ = some (.int .i64 al) := (Below.celz bk _ _ _ (by omega)).trans cc6
      have d7 : wk.cell? ⟨O0, 5, none⟩ = some (.int .i64 an) := (Below.celz bk _ _ _ (by omega)).trans cc7
      have d8 : wk.cell? ⟨O0, 6, none⟩ = some (.int .i64 bl) := (Below.celz bk _ _ _ (by omega)).trans cc8
      have d9 : wk.cell? ⟨O0, 7, none⟩ = some (.int .i64 bn) := (Below.celz bk _ _ _ (by omega)).trans cc9
      have d10 : wk.cell? ⟨P1, 0, none⟩ = some (.slice xa1 p1 xc1) := (Below.celz bk _ _ _ (by omega)).trans cc10
      have d11 : wk.cell? ⟨P1, 1, none⟩ = some (.slice xb1 r1 xd1) := (Below.celz bk _ _ _ (by omega)).trans cc11
      have d12 : wk.cell? ⟨P2, 0, none⟩ = some (.slice xa2 p2 xc2) := (Below.celz bk _ _ _ (by omega)).trans cc12
      have d13 : wk.cell? ⟨P2, 1, none⟩ = some (.slice xb2 r2 xd2) := (Below.celz bk _ _ _ (by omega)).trans cc13
      have d14 : wk.cell? ⟨P3, 0, none⟩ = some (.slice xa3 p3 xc3) := (Below.celz bk _ _ _ (by omega)).trans cc14
      have d15 : wk.cell? ⟨P3, 1, none⟩ = some (.slice xb3 r3 xd3) := (Below.celz bk _ _ _ (by omega)).trans cc15
      have y0 : P0 < wk.heap.size := by have := Below.size bk; omega
      have y1 : O0 < wk.heap.size := by have := Below.size bk; omega
      have y2 : P1 < wk.heap.size := by have := Below.size bk; omega
      have y3 : P2 < wk.heap.size := by have := Below.size bk; omega
      have y4 : P3 < wk.heap.size := by have := Below.size bk; omega
      have BB1 : Below A wa wk := BB.trans (bk.mono (by omega))
      have sA1 : A ≤ wk.heap.size := by have := Below.size bk; omega
      have q0 : Hid (GrAt wk (.slice xa1 p1 xc1) (.slice xb1 r1 xd1) X1N X1E) := HR1.out.keep bk
      have q1 : Hid (GrAt wk (.slice xa2 p2 xc2) (.slice xb2 r2 xd2) X1N X1E) := HR2.out.keep bk
      have q2 : Hid (GrAt wk (.slice xa3 p3 xc3) (.slice xb3 r3 xd3) X2N X2E) := HR3.out.keep bk
      clear BB sA cc0 cc1 cc2 cc3 cc4 cc5 cc6 cc7 cc8 cc9 cc10 cc11 cc12 cc13 cc14 cc15 zz0 zz1 zz2 zz3 zz4 HR1 HR2 HR3
      have cc0 := d0
      have cc1 := d1
      have cc2 := d2
      have cc3 := d3
      have cc4 := d4
      have cc5 := d5
      have cc6 := d6
      have cc7 := d7
      have cc8 := d8
      have cc9 := d9
      have cc10 := d10
      have cc11 := d11
      have cc12 := d12
      have cc13 := d13
      have cc14 := d14
      have cc15 := d15
      have zz0 := y0
      have zz1 := y1
      have zz2 := y2
      have zz3 := y3
      have zz4 := y4
      have HR1 := q0
      have HR2 := q1
      have HR3 := q2
      have BB := BB1
      have sA := sA1
      clear BB1 sA1 d0 d1 d2 d3 d4 d5 d6 d7 d8 d9 d10 d11 d12 d13 d14 d15 y0 y1 y2 y3 y4 q0 q1 q2
      clear bk
      go_wp2_with fail
      refine (gs_b _ _ _ _ X1N ns X1E es false HDI.out _ HR1.out (HV.out _ BB).1).mono ?_
      rintro e wl ⟨rfl, bl'⟩
      have d0 : wl.cell? ⟨P0, 0, none⟩ = some (.slice ga n gc) := (Below.celz bl' _ _ _ (by omega)).trans cc0
      have d1 : wl.cell? ⟨P0, 1, none⟩ = some (.slice gb m gd) := (Below.celz bl' _ _ _ (by omega)).trans cc1
      have d2 : wl.cell? ⟨O0, 0, none⟩ = some (.int .i64 k) := (Below.celz bl' _ _ _ (by omega)).trans cc2
      have d3 : wl.cell? ⟨O0, 1, none⟩ = some (.int .i64 nl) := (Below.celz bl' _ _ _ (by omega)).trans cc3
      have d4 : wl.cell? ⟨O0, 2, none⟩ = some (.int .i64 nn) := (Below.celz bl' _ _ _ (by omega)).trans cc4
      have d5 : wl.cell? ⟨O0, 3, none⟩ = some (.int .i64 l) := (Below.celz bl' _ _ _ (by omega)).trans cc5
      have d6 : wl.cell? ⟨O0, 4, none⟩ = some (.int .i64 al) := (Below.celz bl' _ _ _ (by omega)).trans cc6
      have d7 : wl.cell? ⟨O0, 5, none⟩ = some (.int .i64 an) := (Below.celz bl' _ _ _ (by omega)).trans cc7
      have d8 : wl.cell? ⟨O0, 6, none⟩ = some (.int .i64 bl) := (Below.celz bl' _ _ _ (by omega)).trans cc8
      have d9 : wl.cell? ⟨O0, 7, none⟩ = some (.int .i64 bn) := (Below.celz bl' _ _ _ (by omega)).trans cc9
      have d10 : wl.cell? ⟨P1, 0, none⟩ = some (.slice xa1 p1 xc1) := (Below.celz bl' _ _ _ (by omega)).trans cc10
      have d11 : wl.cell? ⟨P1, 1, none⟩ = some (.slice xb1 r1 xd1) := (Below.celz bl' _ _ _ (by omega)).trans cc11
      have d12 : wl.cell? ⟨P2, 0, none⟩ = some (.slice xa2 p2 xc2) := (Below.celz bl' _ _ _ (by omega)).trans cc12
      have d13 : wl.cell? ⟨P2, 1, none⟩ = some (.slice xb2 r2 xd2) := (Below.celz bl' _ _ _ (by omega)).trans cc13
      have d14 : wl.cell? ⟨P3, 0, none⟩ = some (.slice xa3 p3 xc3) := (Below.celz bl' _ _ _ (by omega)).trans cc14
      have d15 : wl.cell? ⟨P3, 1, none⟩ = some (.slice xb3 r3 xd3) := (Below.celz bl' _ _ _ (by omega)).trans cc15
      have y0 : P0 < wl.heap.size := by have := Below.size bl'; omega
      have y1 : O0 < wl.heap.size := by have := Below.size bl'; omega
      have y2 : P1 < wl.heap.size := by have := Below.size bl'; omega
      have y3 : P2 < wl.heap.size := by have := Below.size bl'; omega
      have y4 : P3 < wl.heap.size := by have := Below.size bl'; omega
      have BB1 : Below A wa wl := BB.trans (bl'.mono (by omega))
      have sA1 : A ≤ wl.heap.size := by have := Below.size bl'; omega
      have q0 : Hid (GrAt wl (.slice xa1 p1 xc1) (.slice xb1 r1 xd1) X1N X1E) := HR1.out.keep bl'
      have q1 : Hid (GrAt wl (.slice xa2 p2 xc2) (.slice xb2 r2 xd2) X1N X1E) := HR2.out.keep bl'
      have q2 : Hid (GrAt wl (.slice xa3 p3 xc3) (.slice xb3 r3 xd3) X2N X2E) := HR3.out.keep bl'
      clear BB sA cc0 cc1 cc2 cc3 cc4 cc5 cc6 cc7 cc8 cc9 cc10 cc11 cc12 cc13 cc14 cc15 zz0 zz1 zz2 zz3 zz4 HR1 HR2 HR3
      have cc0 := d0
      have cc1 := d1
      have cc2 := d2
      have cc3 := d3
      have cc4 := d4
      have cc5 := d5
      have cc6 := d6
      have cc7 := d7
      have cc8 := d8
      have cc9 := d9
      have cc10 := d10
      have cc11 := d11
      have cc12 := d12
      have cc13 := d13
      have cc14 := d14
      have cc15 := d15
      have zz0 := y0
      have zz1 := y1
      have zz2 := y2
      have zz3 := y3
      have zz4 := y4
      have HR1 := q0
      have HR2 := q1
      have HR3 := q2
      have BB := BB1
      have sA := sA1
      clear BB1 sA1 d0 d1 d2 d3 d4 d5 d6 d7 d8 d9 d10 d11 d12 d13 d14 d15 y0 y1 y2 y3 y4 q0 q1 q2
      clear bl'
      go_wp2_with fail
      refine (gs_same _ _ _ _ X2N X1N X2E X1E HT.out.2.1 HT.out.2.2.1 _ HR3.out HR1.out).mono ?_
      rintro e wm ⟨rfl, bm⟩
      have d0 : wm.cell? ⟨P0, 0, none⟩ = some (.slice ga n gc) := (Below.celz bm _ _ _ (by omega)).trans cc0
      have d1 : wm.cell? ⟨P0, 1, none⟩ = some (.slice gb m gd) := (Below.celz bm _ _ _ (by omega)).trans cc1
      have d2 : wm.cell? ⟨O0, 0, none⟩ = some (.int .i64 k) := (Below.celz bm _ _ _ (by omega)).trans cc2
      have d3 : wm.cell? ⟨O0, 1, none⟩ = some (.int .i64 nl) := (Below.celz bm _ _ _ (by omega)).trans cc3
      have d4 : wm.cell? ⟨O0, 2, none⟩ = some (.int .i64 nn) := (Below.celz bm _ _ _ (by omega)).trans cc4
      have d5 : wm.cell? ⟨O0, 3, none⟩ = some (.int .i64 l) := (Below.celz bm _ _ _ (by omega)).trans cc5
      have d6 : wm.cell? ⟨O0, 4, none⟩ = some (.int .i64 al) := (Below.celz bm _ _ _ (by omega)).trans cc6
      have d7 : wm.cell? ⟨O0, 5, none⟩ = some (.int .i64 an) := (Below.celz bm _ _ _ (by omega)).trans cc7
      have d8 : wm.cell? ⟨O0, 6, none⟩ = some (.int .i64 bl) := (Below.celz bm _ _ _ (by omega)).trans cc8
      have d9 : wm.cell? ⟨O0, 7, none⟩ = some (.int .i64 bn) := (Below.celz bm _ _ _ (by omega)).trans cc9
      have d10 : wm.cell? ⟨P1, 0, none⟩ = some (.slice xa1 p1 xc1) := (Below.celz bm _ _ _ (by omega)).trans cc10
      have d11 : wm.cell? ⟨P1, 1, none⟩ = some (.slice xb1 r1 xd1) := (Below.celz bm _ _ _ (by omega)).trans cc11
      have d12 : wm.cell? ⟨P2, 0, none⟩ = some (.slice xa2 p2 xc2) := (Below.celz bm _ _ _ (by omega)).trans cc12
      have d13 : wm.cell? ⟨P2, 1, none⟩ = some (.slice xb2 r2 xd2) := (Below.celz bm _ _ _ (by omega)).trans cc13
      have d14 : wm.cell? ⟨P3, 0, none⟩ = some (.slice xa3 p3 xc3) := (Below.celz bm _ _ _ (by omega)).trans cc14
      have d15 : wm.cell? ⟨P3, 1, none⟩ = some (.slice xb3 r3 xd3) := (Below.celz bm _ _ _ (by omega)).trans cc15
      have y0 : P0 < wm.heap.size := by have := Below.size bm; omega
      have y1 : O0 < wm.heap.size := by have := Below.size bm; omega
      have y2 : P1 < wm.heap.size := by have := Below.size bm; omega
      have y3 : P2 < wm.heap.size := by have := Below.size bm; omega
      have y4 : P3 < wm.heap.size := by have := Below.size bm; omega
      have BB1 : Below A wa wm := BB.trans (bm.mono (by omega))
      have sA1 : A ≤ wm.heap.size := by have := Below.size bm; omega
      have q0 : Hid (GrAt wm (.slice xa1 p1 xc1) (.slice xb1 r1 xd1) X1N X1E) := HR1.out.keep bm
      have q1 : Hid (GrAt wm (.slice xa2 p2 xc2) (.slice xb2 r2 xd2) X1N X1E) := HR2.out.keep bm
      have q2 : Hid (GrAt wm (.slice xa3 p3 xc3) (.slice xb3 r3 xd3) X2N X2E) := HR3.out.keep bm
      clear BB sA cc0 cc1 cc2 cc3 cc4 cc5 cc6 cc7 cc8 cc9 cc10 cc11 cc12 cc13 cc14 cc15 zz0 zz1 zz2 zz3 zz4 HR1 HR2 HR3
      have cc0 := d0
      have cc1 := d1
      have cc2 := d2
      have cc3 := d3
      have cc4 := d4
      have cc5 := d5
      have cc6 := d6
      have cc7 := d7
      have cc8 := d8
      have cc9 := d9
      have cc10 := d10
      have cc11 := d11
      have cc12 := d12
      have cc13 := d13
      have cc14 := d14
      have cc15 := d15
      have zz0 := y0
      have zz1 := y1
      have zz2 := y2
      have zz3 := y3
      have zz4 := y4
      have HR1 := q0
      have HR2 := q1
      have HR3 := q2
      have BB := BB1
      have sA := sA1
      clear BB1 sA1 d0 d1 d2 d3 d4 d5 d6 d7 d8 d9 d10 d11 d12 d13 d14 d15 y0 y1 y2 y3 y4 q0 q1 q2
      clear bm
      go_wp2_with fail
      go_ret
      exact ⟨rfl, (HV.out _ BB).2.2.1⟩

theorem door_met (os : Os) (args : Array Value) : laidMetH Tryz.prog Rows.fnGraphRow.laid ((World.doorLaid Tryz.prog 85 os).forCall (fun _ _ => 0) ⟨#[], args, []⟩).memory :=
  laidMetH_of_parts3 (fuel := 8) (laidMet_of_run' 8 (by kernel_rfl) (by kernel_rfl)) (by kernel_rfl) (by kernel_rfl)

set_option maxRecDepth 100000 in
set_option maxHeartbeats 1000000 in
theorem lifted (os : Os) (started : os.Started) (H : Type) (enc : TypeId × Value → H) :
    ReturnsInHanded {} Tryz.checked os 3 .any (fun w args => (Rows.fnGraphSpec.pre enc Tryz.prog Tryz.f3 [] false w args ∧ laidMetH Tryz.prog Rows.fnGraphRow.laid w) ∧ sizedMet enc Tryz.prog Tryz.f3 (OpenSpec.ofChange Rows.fnGraphSpec) false w args)
      (Rows.fnGraphSpec.post enc Tryz.prog Tryz.f3 false true false false) := by
  refine returnsInHanded_of_change_and (C := Tryz.checked) (X := fun w _ => laidMetH Tryz.prog Rows.fnGraphRow.laid w) (fun _ _ _ hh h => h.of_heap hh) own started (by kernel_rfl) Tryz.func3
    (ChangeSpec.witness_shaped (enc := enc) (C := Tryz.checked) (os := os) (X := fun w _ => laidMetH Tryz.prog Rows.fnGraphRow.laid w) false (World.doorLaid Tryz.prog 85 os) #[.slice none 0 0] 8 rfl (World.shaped_of_RefB (by kernel_rfl) (by kernel_rfl)) (by kernel_rfl) (by kernel_rfl) (by kernel_rfl) (door_met os _)) ?_
  intro W base args ds gs before hval0 hW _ _ hL _
  have hval : ∀ (j : Nat) t v, Tryz.f3.params[j]? = some t → args[j]? = some v → Value.okWide Tryz.prog W .any base t v := hval0
  have hW' := hW
  obtain ⟨p, q, hA0, hV0, rfl, hfz, hnd⟩ := hW
  have hA : DataW.TrodAll enc Tryz.prog W 0 (fun _ => true) true Tryz.f3.params.toList args.toList ds p := hA0
  have hV : DataW.TrodVars enc Tryz.prog W (fun _ => true) ["loop.example/hagioscope/impl.errForm", "loop.example/hagioscope/impl.errThere", "loop.example/hagioscope/impl.errFull", "loop.example/hagioscope/impl.errNone"] gs q := hV0
  rw [Tryz.params3] at hA hval
  obtain ⟨v0, vs0, d0, ds0, p0, q0, hargs, rfl, rfl, h0, r0⟩ := trodAll_cons hA
  obtain ⟨rfl, rfl, rfl⟩ := trodAll_nil r0
  obtain rfl : args = #[v0] := by cases args; simp_all
  have kr0 := h0
  have lt0 : ∀ x ∈ p0, x.block < W.heap.size := by obtain ⟨m, hm⟩ := kr0; exact DataW.trod_lt m _ _ _ hm
  obtain ⟨a0, len0, cap0, rfl⟩ := okWide_slice Tryz.underlying22 (hval 0 22 v0 rfl rfl)
  obtain ⟨z0, w0⟩ : ∃ zs, IsRow .u8 W a0 len0 cap0 zs := by
    obtain ⟨fuel, hf⟩ := h0
    rcases open_ints Tryz.underlying22 Tryz.underlying5 (by kernel_rfl) hf with ⟨hcs, _⟩ | ⟨x, l, c, zs, hcs, _, hl, hm, hz, _, hcell, hwz⟩
    · simp [Value.cells] at hcs
      obtain ⟨rfl, rfl, rfl⟩ := hcs
      exact ⟨[], .inl ⟨rfl, rfl, rfl, rfl⟩⟩
    · simp [Value.cells] at hcs
      obtain ⟨rfl, rfl, rfl⟩ := hcs
      exact ⟨zs, .inr ⟨_, rfl, hl, hm, by simpa using hz, hcell, hwz⟩⟩
  have hI := held_of hL
  have hE : Errs W := errs_of hI
  obtain ⟨aF, aT, aN, aU, hF⟩ := four_of hL
  obtain ⟨g1, g2, g3, g4, rfl⟩ : ∃ g1 g2 g3 g4, gs = [g1, g2, g3, g4] := by
    have hlen := vars_len _ _ _ hV
    match gs, hlen with
    | [g1, g2, g3, g4], _ => exact ⟨g1, g2, g3, g4, rfl⟩
  clear hA0 hV0 hval0
  refine (walk a0 len0 cap0 z0 W w0 aF aT aN aU hF hE).mono fun e W' ⟨he, bel⟩ => ?_
  subst he
  exact ⟨_, rfl, _, _, _, [], _, _, hW', trodAll_mk1 (shut_bool Tryz.underlying4 _), (trodAll_cons_mk (Below.trod laidOut (by kernel_rfl) (of_decide_eq_true (by kernel_rfl)) kr0 bel lt0) trodAll_mk0), vars_keep Tryz.underlying52 bel _ _ _ hV hI, bel.frame _, fun h => by cases h⟩

theorem said : Rows.FnGraphSaid :=
  OpenClaim.holds_of_wide 3 Tryz.f3 rfl rfl rfl rfl rfl rfl rfl ⟨rfl, rfl, rfl, rfl, rfl⟩ rfl rfl rfl rfl rfl (by kernel_rfl) Tryz.func3 (by kernel_rfl)
    (of_decide_eq_true (by kernel_rfl)) (by unfold Func.isWrapper; first | (rw [if_pos (by decide +kernel)]; kernel_rfl) | (rw [if_neg (by decide +kernel)]; exact ⟨rfl, rfl⟩))
    (fun os started H enc _ => lifted os started H enc)

theorem plain (f : FuncId) (fn : Func) (hf : Tryz.pinned.checked.prog.funcNamed "loop.example/hagioscope/laws.FnGraph" = some f) (hfn : Tryz.pinned.checked.prog.funcs[f]? = some fn) :
    true = Tryz.pinned.checked.prog.looks [] ∧ ∀ (j : Nat) t, fn.params[j]? = some t → Tryz.pinned.checked.prog.wantsStandIn t = false := by
  obtain rfl : f = 3 := Option.some.inj ((show Tryz.prog.funcNamed "loop.example/hagioscope/laws.FnGraph" = some 3 by kernel_rfl).symm.trans hf) |>.symm
  obtain rfl : fn = Tryz.f3 := (Option.some.inj (Tryz.func3.symm.trans hfn)).symm
  refine ⟨by kernel_rfl, fun j t ht => ?_⟩
  rw [Tryz.params3] at ht
  obtain rfl : t = 22 := by simpa using Array.mem_of_getElem? ht
  · exact (show Tryz.prog.wantsStandIn 22 = false by kernel_rfl)

end Go.Proofs.YtkhfbaggkmeahaaGreatDoor.fnGraph
namespace Go.Proofs.YtkhfbaggkmeahaaGreatDoor
theorem fnGraph_card : Rows.FnGraphCardSaid :=
  Claim7.holds_tied_plain_at .later [] _ _ _ _ fnGraph.said (fun _ h => by cases h) (by kernel_rfl) (fun _ h => by cases h) fnGraph_row_tie rfl ⟨rfl, rfl⟩ (by kernel_rfl) rfl fnGraph.plain (by kernel_rfl)
#print axioms fnGraph_card
end Go.Proofs.YtkhfbaggkmeahaaGreatDoor
