/-
  Views commute with visible operations and ignore invisible ones.
-/
import Derived.Test.YtkhfbaggkmeahaaGreatDoorCards
import Derived.Test.YtkhfbaggkmeahaaGreatDoorTie
import Derived.Test.YtkhfbaggkmeahaaGreatDoorGdl
import Derived.Test.YtkhfbaggkmeahaaGreatDoorGds
import Derived.Test.YtkhfbaggkmeahaaGreatDoorDgr
import Derived.Test.YtkhfbaggkmeahaaGreatDoorErs
import Derived.Test.YtkhfbaggkmeahaaGreatDoorErf
import Derived.WalkKit
import Derived.ProofKit
import Derived.OpenShut
import Derived.ShutString
import Derived.ChangeOld
import Derived.Below
import Derived.Carry
import Derived.Handy
import Derived.Deep.RegionHeld3
import Derived.LaidMore
import Derived.Deep.DeepCutAuto
namespace Go.Proofs.YtkhfbaggkmeahaaGreatDoor.fnGraphSeen
open Go.Proofs.YtkhfbaggkmeahaaGreatDoor.Lab
open Go.ChangeShapes Go.WideShapes Go.ChangeAt Go.RowKit
open Go.ChangeMaps (open_string shut_string)
set_option linter.unusedVariables false

theorem own : ownKnob Tryz.prog.godebug = none := by kernel_rfl
/-- A row of numbers that came in: nil, or so many cells. -/
def IsRow (k : IntKind) (w : World) (a : Option Addr) (len cap : Nat) (zs : List Int) : Prop :=
  (a = none ∧ len = 0 ∧ cap = 0 ∧ zs = []) ∨ ∃ x, a = some x ∧ len ≤ cap ∧ cap ≤ maxLen ∧ zs.length = cap ∧ (∀ i, i < zs.length → w.cell? (x.add i) = some (.int k (zs.getD i 0))) ∧ ∀ n ∈ zs, (Lit.int k n).wf = true

set_option maxRecDepth 16000 in
set_option maxHeartbeats 8000000 in
theorem walk (a0 : Option Addr) (len0 cap0 : Nat) (z0 : List Int) (a1 : Option Addr) (len1 cap1 : Nat) (z1 : List Int) (w : World) (w0 : IsRow .u8 w a0 len0 cap0 z0) (w1 : IsRow .u8 w a1 len1 cap1 z1) (aF aT aN aU : Addr) (hF : Four w aF aT aN aU) (hE : Errs w) :
    Calls Tryz.prog 4 #[.slice a0 len0 cap0, .slice a1 len1 cap1] w fun e w' => e = .returned (.bool true) ∧ Below w.heap.size w w' := by
  have HF : Hid (Errs w) := hE
  clear hE
  by_cases hlen0 : len0 > 1048576
  · go_enter Tryz.func4, Tryz.ntmps4
    go_wp2
    go_ret
    exact ⟨rfl, Below.refl _ _⟩
  by_cases hlen1 : len1 > 1048576
  · go_enter Tryz.func4, Tryz.ntmps4
    go_wp2
    go_ret
    exact ⟨rfl, Below.refl _ _⟩
  have k0 : CodeAt w a0 len0 cap0 z0 := code_of w0
  clear w0
  have k1 : CodeAt w a1 len1 cap1 z1 := code_of w1
  clear w1
  go_enter Tryz.func4, Tryz.ntmps4
  go_wp2_with fail
  clear k1
  have HFF : Hid (Four w aF aT aN aU) := hF
  clear hF
  refine (drawGraphDo _ _ _ _ _ k0).mono ?_
  rintro e wa ⟨v1, v2, ns, es, k, nl, nn, l, al, an, bl, bn, rfl, hg, ba⟩
  unfold OpVal
  obtain ⟨ga, gc, gb, gd, rfl, rfl⟩ := hg.form
  obtain ⟨n, hn⟩ : ∃ n, n = ns.length := ⟨_, rfl⟩
  obtain ⟨m, hm⟩ : ∃ m, m = es.length := ⟨_, rfl⟩
  have HN : Hid (n = ns.length ∧ m = es.length) := ⟨hn, hm⟩
  have ln : n ≤ 200 := by rw [hn]; exact hg.2.2.1
  have lm : m ≤ 200 := by rw [hm]; exact hg.2.2.2
  rw [← hn, ← hm] at hg ⊢
  obtain ⟨A, hA⟩ : ∃ t, t = wa.heap.size := ⟨_, rfl⟩
  have HA : Hid (A = wa.heap.size) := hA
  have BB : Below A wa wa := Below.refl _ _
  have sA : A ≤ wa.heap.size := by omega
  have HV : Hid (∀ W, Below A wa W → GrAt W (.slice ga n gc) (.slice gb m gd) ns es ∧ Four W aF aT aN aU ∧ Below w.heap.size w W ∧ Errs W) := fun W h => by
    rw [HA.out] at h
    exact ⟨hg.keep h, (HFF.out.keep ba).keep h, ba.trans (h.mono ba.size), (HF.out.keep ba).keep h⟩
  clear hg ba hn hm HF HFF hA
  clear k0
  go_wp2_with fail
  obtain ⟨P0, hP0⟩ : ∃ t, t = wa.heap.size := ⟨_, rfl⟩
  generalize hW : wa.alloc (.cells #[.slice ga n gc, .slice gb m gd] 26) = wb
  have nb : Below wa.heap.size wa wb := by rw [← hW]; exact (Below.refl _ _).alloc (Nat.le_refl _) _
  have k3 : wb.heap.size = P0 + 1 := by rw [← hW, hP0]; simp
  have kk0 : wb.cell? ⟨P0, 0, none⟩ = some (.slice ga n gc) := by rw [← hW, hP0]; simp [go_sem]
  have kk1 : wb.cell? ⟨P0, 1, none⟩ = some (.slice gb m gd) := by rw [← hW, hP0]; simp [go_sem]
  have oP0A : A ≤ P0 := by rw [hP0]; exact sA
  have BB1 : Below A wa wb := BB.trans (nb.mono (by omega))
  have sA1 : A ≤ wb.heap.size := by have := Below.size nb; omega
  clear BB sA   
  have BB := BB1
  have sA := sA1
  clear BB1 sA1   
  have cc0 := kk0
  have cc1 := kk1
  have zz0 : P0 < wb.heap.size := by omega
  rw [← hP0]
  have k3P0 := k3
  clear k3 hW nb hP0 kk0 kk1
  rw [k3P0.symm]
  obtain ⟨O0, hO0⟩ : ∃ t, t = wb.heap.size := ⟨_, rfl⟩
  generalize hW : wb.alloc (.cells #[.int .i64 k, .int .i64 nl, .int .i64 nn, .int .i64 l, .int .i64 al, .int .i64 an, .int .i64 bl, .int .i64 bn] 32) = wb2
  have nb : Below wb.heap.size wb wb2 := by rw [← hW]; exact (Below.refl _ _).alloc (Nat.le_refl _) _
  have k3 : wb2.heap.size = O0 + 1 := by rw [← hW, hO0]; simp
  have kk0 : wb2.cell? ⟨O0, 0, none⟩ = some (.int .i64 k) := by rw [← hW, hO0]; simp [go_sem]
  have kk1 : wb2.cell? ⟨O0, 1, none⟩ = some (.int .i64 nl) := by rw [← hW, hO0]; simp [go_sem]
  have kk2 : wb2.cell? ⟨O0, 2, none⟩ = some (.int .i64 nn) := by rw [← hW, hO0]; simp [go_sem]
  have kk3 : wb2.cell? ⟨O0, 3, none⟩ = some (.int .i64 l) := by rw [← hW, hO0]; simp [go_sem]
  have kk4 : wb2.cell? ⟨O0, 4, none⟩ = some (.int .i64 al) := by rw [← hW, hO0]; simp [go_sem]
  have kk5 : wb2.cell? ⟨O0, 5, none⟩ = some (.int .i64 an) := by rw [← hW, hO0]; simp [go_sem]
  have kk6 : wb2.cell? ⟨O0, 6, none⟩ = some (.int .i64 bl) := by rw [← hW, hO0]; simp [go_sem]
  have kk7 : wb2.cell? ⟨O0, 7, none⟩ = some (.int .i64 bn) := by rw [← hW, hO0]; simp [go_sem]
  have oO0A : A ≤ O0 := by rw [hO0]; exact sA
  have oO00 : P0 < O0 := by rw [hO0]; exact zz0
  have d0 : wb2.cell? ⟨P0, 0, none⟩ = some (.slice ga n gc) := (Below.celz nb _ _ _ (by omega)).trans cc0
  have d1 : wb2.cell? ⟨P0, 1, none⟩ = some (.slice gb m gd) := (Below.celz nb _ _ _ (by omega)).trans cc1
  have y0 : P0 < wb2.heap.size := by have := Below.size nb; omega
  have BB1 : Below A wa wb2 := BB.trans (nb.mono (by omega))
  have sA1 : A ≤ wb2.heap.size := by have := Below.size nb; omega
  clear BB sA cc0 cc1 zz0 
  have cc0 := d0
  have cc1 := d1
  have zz0 := y0
  have BB := BB1
  have sA := sA1
  clear BB1 sA1 d0 d1 y0 
  have cc2 := kk0
  have cc3 := kk1
  have cc4 := kk2
  have cc5 := kk3
  have cc6 := kk4
  have cc7 := kk5
  have cc8 := kk6
  have cc9 := kk7
  have zz1 : O0 < wb2.heap.size := by omega
  rw [← hO0]
  have k3O0 := k3
  clear k3 hW nb hO0 kk0 kk1 kk2 kk3 kk4 kk5 kk6 kk7
  clear k3P0 k3O0
  obtain ⟨X1N, hX⟩ : ∃ t, t = gdN ns es k nl nn l al an bl bn := ⟨_, rfl⟩
  obtain ⟨X1E, hY⟩ : ∃ t, t = gdE ns es k nl nn l al an bl bn := ⟨_, rfl⟩
  obtain ⟨X1C, hZ⟩ : ∃ t, t = gdC ns es k nl nn l al an bl bn := ⟨_, rfl⟩
  have HX1 : Hid (X1N = gdN ns es k nl nn l al an bl bn ∧ X1E = gdE ns es k nl nn l al an bl bn ∧ X1C = gdC ns es k nl nn l al an bl bn) := ⟨hX, hY, hZ⟩
  clear hX hY hZ
  refine (gdo_impl _ _ ns es k nl nn l al an bl bn _ (HV.out _ BB).1 (HV.out _ BB).2.1).mono ?_
  rintro e wc ⟨u1, u2, rfl, og, bwc⟩
  have d0 : wc.cell? ⟨P0, 0, none⟩ = some (.slice ga n gc) := (Below.celz bwc _ _ _ (by omega)).trans cc0
  have d1 : wc.cell? ⟨P0, 1, none⟩ = some (.slice gb m gd) := (Below.celz bwc _ _ _ (by omega)).trans cc1
  have d2 : wc.cell? ⟨O0, 0, none⟩ = some (.int .i64 k) := (Below.celz bwc _ _ _ (by omega)).trans cc2
  have d3 : wc.cell? ⟨O0, 1, none⟩ = some (.int .i64 nl) := (Below.celz bwc _ _ _ (by omega)).trans cc3
  have d4 : wc.cell? ⟨O0, 2, none⟩ = some (.int .i64 nn) := (Below.celz bwc _ _ _ (by omega)).trans cc4
  have d5 : wc.cell? ⟨O0, 3, none⟩ = some (.int .i64 l) := (Below.celz bwc _ _ _ (by omega)).trans cc5
  have d6 : wc.cell? ⟨O0, 4, none⟩ = some (.int .i64 al) := (Below.celz bwc _ _ _ (by omega)).trans cc6
  have d7 : wc.cell? ⟨O0, 5, none⟩ = some (.int .i64 an) := (Below.celz bwc _ _ _ (by omega)).trans cc7
  have d8 : wc.cell? ⟨O0, 6, none⟩ = some (.int .i64 bl) := (Below.celz bwc _ _ _ (by omega)).trans cc8
  have d9 : wc.cell? ⟨O0, 7, none⟩ = some (.int .i64 bn) := (Below.celz bwc _ _ _ (by omega)).trans cc9
  have y0 : P0 < wc.heap.size := by have := Below.size bwc; omega
  have y1 : O0 < wc.heap.size := by have := Below.size bwc; omega
  have BB1 : Below A wa wc := BB.trans (bwc.mono (by omega))
  have sA1 : A ≤ wc.heap.size := by have := Below.size bwc; omega
  clear BB sA cc0 cc1 cc2 cc3 cc4 cc5 cc6 cc7 cc8 cc9 zz0 zz1 
  have cc0 := d0
  have cc1 := d1
  have cc2 := d2
  have cc3 := d3
  have cc4 := d4
  have cc5 := d5
  have cc6 := d6
  have cc7 := d7
  have cc8 := d8
  have cc9 := d9
  have zz0 := y0
  have zz1 := y1
  have BB := BB1
  have sA := sA1
  clear BB1 sA1 d0 d1 d2 d3 d4 d5 d6 d7 d8 d9 y0 y1 
  clear bwc
  rw [← HX1.out.1, ← HX1.out.2.1] at og
  rw [← HX1.out.2.2]
  obtain ⟨xa1, xc1, xb1, xd1, rfl, rfl⟩ := og.form
  obtain ⟨p1, hp⟩ : ∃ t, t = X1N.length := ⟨_, rfl⟩
  obtain ⟨r1, hr⟩ : ∃ t, t = X1E.length := ⟨_, rfl⟩
  have HL1 : Hid (p1 = X1N.length ∧ r1 = X1E.length) := ⟨hp, hr⟩
  have lp1 : p1 ≤ 200 := by rw [hp]; exact og.2.2.1
  have lr1 : r1 ≤ 200 := by rw [hr]; exact og.2.2.2
  rw [← hp, ← hr] at og ⊢
  clear hp hr
  have HR1 : Hid (GrAt wc (.slice xa1 p1 xc1) (.slice xb1 r1 xd1) X1N X1E) := og
  clear og
  go_wp2_with fail
  obtain ⟨P1, hP1⟩ : ∃ t, t = wc.heap.size := ⟨_, rfl⟩
  generalize hW : wc.alloc (.cells #[.slice xa1 p1 xc1, .slice xb1 r1 xd1] 26) = wd
  have nb : Below wc.heap.size wc wd := by rw [← hW]; exact (Below.refl _ _).alloc (Nat.le_refl _) _
  have k3 : wd.heap.size = P1 + 1 := by rw [← hW, hP1]; simp
  have kk0 : wd.cell? ⟨P1, 0, none⟩ = some (.slice xa1 p1 xc1) := by rw [← hW, hP1]; simp [go_sem]
  have kk1 : wd.cell? ⟨P1, 1, none⟩ = some (.slice xb1 r1 xd1) := by rw [← hW, hP1]; simp [go_sem]
  have oP1A : A ≤ P1 := by rw [hP1]; exact sA
  have oP10 : P0 < P1 := by rw [hP1]; exact zz0
  have oP11 : O0 < P1 := by rw [hP1]; exact zz1
  have d0 : wd.cell? ⟨P0, 0, none⟩ = some (.slice ga n gc) := (Below.celz nb _ _ _ (by omega)).trans cc0
  have d1 : wd.cell? ⟨P0, 1, none⟩ = some (.slice gb m gd) := (Below.celz nb _ _ _ (by omega)).trans cc1
  have d2 : wd.cell? ⟨O0, 0, none⟩ = some (.int .i64 k) := (Below.celz nb _ _ _ (by omega)).trans cc2
  have d3 : wd.cell? ⟨O0, 1, none⟩ = some (.int .i64 nl) := (Below.celz nb _ _ _ (by omega)).trans cc3
  have d4 : wd.cell? ⟨O0, 2, none⟩ = some (.int .i64 nn) := (Below.celz nb _ _ _ (by omega)).trans cc4
  have d5 : wd.cell? ⟨O0, 3, none⟩ = some (.int .i64 l) := (Below.celz nb _ _ _ (by omega)).trans cc5
  have d6 : wd.cell? ⟨O0, 4, none⟩ = some (.int .i64 al) := (Below.celz nb _ _ _ (by omega)).trans cc6
  have d7 : wd.cell? ⟨O0, 5, none⟩ = some (.int .i64 an) := (Below.celz nb _ _ _ (by omega)).trans cc7
  have d8 : wd.cell? ⟨O0, 6, none⟩ = some (.int .i64 bl) := (Below.celz nb _ _ _ (by omega)).trans cc8
  have d9 : wd.cell? ⟨O0, 7, none⟩ = some (.int .i64 bn) := (Below.celz nb _ _ _ (by omega)).trans cc9
  have y0 : P0 < wd.heap.size := by have := Below.size nb; omega
  have y1 : O0 < wd.heap.size := by have := Below.size nb; omega
  have BB1 : Below A wa wd := BB.trans (nb.mono (by omega))
  have sA1 : A ≤ wd.heap.size := by have := Below.size nb; omega
  have q0 : Hid (GrAt wd (.slice xa1 p1 xc1) (.slice xb1 r1 xd1) X1N X1E) := HR1.out.keep nb
  clear BB sA cc0 cc1 cc2 cc3 cc4 cc5 cc6 cc7 cc8 cc9 zz0 zz1 HR1
  have cc0 := d0
  have cc1 := d1
  have cc2 := d2
  have cc3 := d3
  have cc4 := d4
  have cc5 := d5
  have cc6 := d6
  have cc7 := d7
  have cc8 := d8
  have cc9 := d9
  have zz0 := y0
  have zz1 := y1
  have HR1 := q0
  have BB := BB1
  have sA := sA1
  clear BB1 sA1 d0 d1 d2 d3 d4 d5 d6 d7 d8 d9 y0 y1 q0
  have cc10 := kk0
  have cc11 := kk1
  have zz2 : P1 < wd.heap.size := by omega
  rw [← hP1]
  have k3P1 := k3
  clear k3 hW nb hP1 kk0 kk1
  clear k3P1
  refine (gdo_spec _ _ ns es k nl nn l al an bl bn _ (HV.out _ BB).1).mono ?_
  rintro e we ⟨u1, u2, rfl, og, bwe⟩
  have d0 : we.cell? ⟨P0, 0, none⟩ = some (.slice ga n gc) := (Below.celz bwe _ _ _ (by omega)).trans cc0
  have d1 : we.cell? ⟨P0, 1, none⟩ = some (.slice gb m gd) := (Below.celz bwe _ _ _ (by omega)).trans cc1
  have d2 : we.cell? ⟨O0, 0, none⟩ = some (.int .i64 k) := (Below.celz bwe _ _ _ (by omega)).trans cc2
  have d3 : we.cell? ⟨O0, 1, none⟩ = some (.int .i64 nl) := (Below.celz bwe _ _ _ (by omega)).trans cc3
  have d4 : we.cell? ⟨O0, 2, none⟩ = some (.int .i64 nn) := (Below.celz bwe _ _ _ (by omega)).trans cc4
  have d5 : we.cell? ⟨O0, 3, none⟩ = some (.int .i64 l) := (Below.celz bwe _ _ _ (by omega)).trans cc5
  have d6 : we.cell? ⟨O0, 4, none⟩ = some (.int .i64 al) := (Below.celz bwe _ _ _ (by omega)).trans cc6
  have d7 : we.cell? ⟨O0, 5, none⟩ = some (.int .i64 an) := (Below.celz bwe _ _ _ (by omega)).trans cc7
  have d8 : we.cell? ⟨O0, 6, none⟩ = some (.int .i64 bl) := (Below.celz bwe _ _ _ (by omega)).trans cc8
  have d9 : we.cell? ⟨O0, 7, none⟩ = some (.int .i64 bn) := (Below.celz bwe _ _ _ (by omega)).trans cc9
  have d10 : we.cell? ⟨P1, 0, none⟩ = some (.slice xa1 p1 xc1) := (Below.celz bwe _ _ _ (by omega)).trans cc10
  have d11 : we.cell? ⟨P1, 1, none⟩ = some (.slice xb1 r1 xd1) := (Below.celz bwe _ _ _ (by omega)).trans cc11
  have y0 : P0 < we.heap.size := by have := Below.size bwe; omega
  have y1 : O0 < we.heap.size := by have := Below.size bwe; omega
  have y2 : P1 < we.heap.size := by have := Below.size bwe; omega
  have BB1 : Below A wa we := BB.trans (bwe.mono (by omega))
  have sA1 : A ≤ we.heap.size := by have := Below.size bwe; omega
  have q0 : Hid (GrAt we (.slice xa1 p1 xc1) (.slice xb1 r1 xd1) X1N X1E) := HR1.out.keep bwe
  clear BB sA cc0 cc1 cc2 cc3 cc4 cc5 cc6 cc7 cc8 cc9 cc10 cc11 zz0 zz1 zz2 HR1
  have cc0 := d0
  have cc1 := d1
  have cc2 := d2
  have cc3 := d3
  have cc4 := d4
  have cc5 := d5
  have cc6 := d6
  have cc7 := d7
  have cc8 := d8
  have cc9 := d9
  have cc10 := d10
  have cc11 := d11
  have zz0 := y0
  have zz1 := y1
  have zz2 := y2
  have HR1 := q0
  have BB := BB1
  have sA := sA1
  clear BB1 sA1 d0 d1 d2 d3 d4 d5 d6 d7 d8 d9 d10 d11 y0 y1 y2 q0
  clear bwe
  rw [← HX1.out.1, ← HX1.out.2.1] at og
  rw [← HX1.out.2.2]
  obtain ⟨xa2, xc2, xb2, xd2, rfl, rfl⟩ := og.form
  obtain ⟨p2, hp⟩ : ∃ t, t = X1N.length := ⟨_, rfl⟩
  obtain ⟨r2, hr⟩ : ∃ t, t = X1E.length := ⟨_, rfl⟩
  have HL2 : Hid (p2 = X1N.length ∧ r2 = X1E.length) := ⟨hp, hr⟩
  have lp2 : p2 ≤ 200 := by rw [hp]; exact og.2.2.1
  have lr2 : r2 ≤ 200 := by rw [hr]; exact og.2.2.2
  rw [← hp, ← hr] at og ⊢
  clear hp hr
  have HR2 : Hid (GrAt we (.slice xa2 p2 xc2) (.slice xb2 r2 xd2) X1N X1E) := og
  clear og
  go_wp2_with fail
  obtain ⟨P2, hP2⟩ : ∃ t, t = we.heap.size := ⟨_, rfl⟩
  generalize hW : we.alloc (.cells #[.slice xa2 p2 xc2, .slice xb2 r2 xd2] 26) = wf
  have nb : Below we.heap.size we wf := by rw [← hW]; exact (Below.refl _ _).alloc (Nat.le_refl _) _
  have k3 : wf.heap.size = P2 + 1 := by rw [← hW, hP2]; simp
  have kk0 : wf.cell? ⟨P2, 0, none⟩ = some (.slice xa2 p2 xc2) := by rw [← hW, hP2]; simp [go_sem]
  have kk1 : wf.cell? ⟨P2, 1, none⟩ = some (.slice xb2 r2 xd2) := by rw [← hW, hP2]; simp [go_sem]
  have oP2A : A ≤ P2 := by rw [hP2]; exact sA
  have oP20 : P0 < P2 := by rw [hP2]; exact zz0
  have oP21 : O0 < P2 := by rw [hP2]; exact zz1
  have oP22 : P1 < P2 := by rw [hP2]; exact zz2
  have d0 : wf.cell? ⟨P0, 0, none⟩ = some (.slice ga n gc) := (Below.celz nb _ _ _ (by omega)).trans cc0
  have d1 : wf.cell? ⟨P0, 1, none⟩ = some (.slice gb m gd) := (Below.celz nb _ _ _ (by omega)).trans cc1
  have d2 : wf.cell? ⟨O0, 0, none⟩ = some (.int .i64 k) := (Below.celz nb _ _ _ (by omega)).trans cc2
  have d3 : wf.cell? ⟨O0, 1, none⟩ = some (.int .i64 nl) := (Below.celz nb _ _ _ (by omega)).trans cc3
  have d4 : wf.cell? ⟨O0, 2, none⟩ = some (.int .i64 nn) := (Below.celz nb _ _ _ (by omega)).trans cc4
  have d5 : wf.cell? ⟨O0, 3, none⟩ = some (.int .i64 l) := (Below.celz nb _ _ _ (by omega)).trans cc5
  have d6 : wf.cell? ⟨O0, 4, none⟩ = some (.int .i64 al) := (Below.celz nb _ _ _ (by omega)).trans cc6
  have d7 : wf.cell? ⟨O0, 5, none⟩ = some (.int .i64 an) := (Below.celz nb _ _ _ (by omega)).trans cc7
  have d8 : wf.cell? ⟨O0, 6, none⟩ = some (.int .i64 bl) := (Below.celz nb _ _ _ (by omega)).trans cc8
  have d9 : wf.cell? ⟨O0, 7, none⟩ = some (.int .i64 bn) := (Below.celz nb _ _ _ (by omega)).trans cc9
  have d10 : wf.cell? ⟨P1, 0, none⟩ = some (.slice xa1 p1 xc1) := (Below.celz nb _ _ _ (by omega)).trans cc10
  have d11 : wf.cell? ⟨P1, 1, none⟩ = some (.slice xb1 r1 xd1) := (Below.celz nb _ _ _ (by omega)).trans cc11
  have y0 : P0 < wf.heap.size := by have := Below.size nb; omega
  have y1 : O0 < wf.heap.size := by have := Below.size nb; omega
  have y2 : P1 < wf.heap.size := by have := Below.size nb; omega
  have BB1 : Below A wa wf := BB.trans (nb.mono (by omega))
  have sA1 : A ≤ wf.heap.size := by have := Below.size nb; omega
  have q0 : Hid (GrAt wf (.slice xa1 p1 xc1) (.slice xb1 r1 xd1) X1N X1E) := HR1.out.keep nb
  have q1 : Hid (GrAt wf (.slice xa2 p2 xc2) (.slice xb2 r2 xd2) X1N X1E) := HR2.out.keep nb
  clear BB sA cc0 cc1 cc2 cc3 cc4 cc5 cc6 cc7 cc8 cc9 cc10 cc11 zz0 zz1 zz2 HR1 HR2
  have cc0 := d0
  have cc1 := d1
  have cc2 := d2
  have cc3 := d3
  have cc4 := d4
  have cc5 := d5
  have cc6 := d6
  have cc7 := d7
  have cc8 := d8
  have cc9 := d9
  have cc10 := d10
  have cc11 := d11
  have zz0 := y0
  have zz1 := y1
  have zz2 := y2
  have HR1 := q0
  have HR2 := q1
  have BB := BB1
  have sA := sA1
  clear BB1 sA1 d0 d1 d2 d3 d4 d5 d6 d7 d8 d9 d10 d11 y0 y1 y2 q0 q1
  have cc12 := kk0
  have cc13 := kk1
  have zz3 : P2 < wf.heap.size := by omega
  rw [← hP2]
  have k3P2 := k3
  clear k3 hW nb hP2 kk0 kk1
  clear k3P2
  have hnc : (X1C != X1C) = false := by simp
  have hnd : (X1C == X1C) = true := by simp
  obtain ⟨bg, hbg⟩ : ∃ b, gokB ns es = b := ⟨_, rfl⟩
  have HBG : Hid (gokB ns es = bg) := hbg
  clear hbg
  go_wp2_with fail
  refine (gok_spec _ _ ns es bg HBG.out _ (HV.out _ BB).1).mono ?_
  rintro e wg ⟨rfl, bz⟩
  have d0 : wg.cell? ⟨P0, 0, none⟩ = some (.slice ga n gc) := (Below.celz bz _ _ _ (by omega)).trans cc0
  have d1 : wg.cell? ⟨P0, 1, none⟩ = some (.slice gb m gd) := (Below.celz bz _ _ _ (by omega)).trans cc1
  have d2 : wg.cell? ⟨O0, 0, none⟩ = some (.int .i64 k) := (Below.celz bz _ _ _ (by omega)).trans cc2
  have d3 : wg.cell? ⟨O0, 1, none⟩ = some (.int .i64 nl) := (Below.celz bz _ _ _ (by omega)).trans cc3
  have d4 : wg.cell? ⟨O0, 2, none⟩ = some (.int .i64 nn) := (Below.celz bz _ _ _ (by omega)).trans cc4
  have d5 : wg.cell? ⟨O0, 3, none⟩ = some (.int .i64 l) := (Below.celz bz _ _ _ (by omega)).trans cc5
  have d6 : wg.cell? ⟨O0, 4, none⟩ = some (.int .i64 al) := (Below.celz bz _ _ _ (by omega)).trans cc6
  have d7 : wg.cell? ⟨O0, 5, none⟩ = some (.int .i64 an) := (Below.celz bz _ _ _ (by omega)).trans cc7
  have d8 : wg.cell? ⟨O0, 6, none⟩ = some (.int .i64 bl) := (Below.celz bz _ _ _ (by omega)).trans cc8
  have d9 : wg.cell? ⟨O0, 7, none⟩ = some (.int .i64 bn) := (Below.celz bz _ _ _ (by omega)).trans cc9
  have d10 : wg.cell? ⟨P1, 0, none⟩ = some (.slice xa1 p1 xc1) := (Below.celz bz _ _ _ (by omega)).trans cc10
  have d11 : wg.cell? ⟨P1, 1, none⟩ = some (.slice xb1 r1 xd1) := (Below.celz bz _ _ _ (by omega)).trans cc11
  have d12 : wg.cell? ⟨P2, 0, none⟩ = some (.slice xa2 p2 xc2) := (Below.celz bz _ _ _ (by omega)).trans cc12
  have d13 : wg.cell? ⟨P2, 1, none⟩ = some (.slice xb2 r2 xd2) := (Below.celz bz _ _ _ (by omega)).trans cc13
  have y0 : P0 < wg.heap.size := by have := Below.size bz; omega
  have y1 : O0 < wg.heap.size := by have := Below.size bz; omega
  have y2 : P1 < wg.heap.size := by have := Below.size bz; omega
  have y3 : P2 < wg.heap.size := by have := Below.size bz; omega
  have BB1 : Below A wa wg := BB.trans (bz.mono (by omega))
  have sA1 : A ≤ wg.heap.size := by have := Below.size bz; omega
  have q0 : Hid (GrAt wg (.slice xa1 p1 xc1) (.slice xb1 r1 xd1) X1N X1E) := HR1.out.keep bz
  have q1 : Hid (GrAt wg (.slice xa2 p2 xc2) (.slice xb2 r2 xd2) X1N X1E) := HR2.out.keep bz
  clear BB sA cc0 cc1 cc2 cc3 cc4 cc5 cc6 cc7 cc8 cc9 cc10 cc11 cc12 cc13 zz0 zz1 zz2 zz3 HR1 HR2
  have cc0 := d0
  have cc1 := d1
  have cc2 := d2
  have cc3 := d3
  have cc4 := d4
  have cc5 := d5
  have cc6 := d6
  have cc7 := d7
  have cc8 := d8
  have cc9 := d9
  have cc10 := d10
  have cc11 := d11
  have cc12 := d12
  have cc13 := d13
  have zz0 := y0
  have zz1 := y1
  have zz2 := y2
  have zz3 := y3
  have HR1 := q0
  have HR2 := q1
  have BB := BB1
  have sA := sA1
  clear BB1 sA1 d0 d1 d2 d3 d4 d5 d6 d7 d8 d9 d10 d11 d12 d13 y0 y1 y2 y3 q0 q1
  clear bz
  cases bg
  · go_wp2_with fail
    go_ret
    exact ⟨rfl, (HV.out _ BB).2.2.1⟩
  · go_wp2_with fail
    have hc0 : 0 ≤ (len1 : Int) % 8 := by omega
    have hc8 : (len1 : Int) % 8 ≤ 7 := by omega
    generalize (len1 : Int) % 8 = c at hc0 hc8 ⊢
    obtain ⟨oi, hoi⟩ : ∃ t, opI k nl nn l al an bl bn = t := ⟨_, rfl⟩
    have HOI : Hid (opI k nl nn l al an bl bn = oi) := hoi
    have HOL : Hid (∀ (W : World), Four W aF aT aN aU → Calls Tryz.prog 15 #[.agg #[.int .i64 k, .int .i64 nl, .int .i64 nn, .int .i64 l, .int .i64 al, .int .i64 an, .int .i64 bl, .int .i64 bn]] W fun e w' => e = .returned (.int .i64 oi) ∧ Below W.heap.size W w') := fun W h => by rw [← hoi]; exact ol_impl k nl nn l al an bl bn W h
    clear hoi
    refine (gv_impl _ _ c ns es _ (HV.out _ BB).1 (HV.out _ BB).2.2.2).mono ?_
    rintro e wh ⟨u1, u2, rfl, og, bz⟩
    have d0 : wh.cell? ⟨P0, 0, none⟩ = some (.slice ga n gc) := (Below.celz bz _ _ _ (by omega)).trans cc0
    have d1 : wh.cell? ⟨P0, 1, none⟩ = some (.slice gb m gd) := (Below.celz bz _ _ _ (by omega)).trans cc1
    have d2 : wh.cell? ⟨O0, 0, none⟩ = some (.int .i64 k) := (Below.celz bz _ _ _ (by omega)).trans cc2
    have d3 : wh.cell? ⟨O0, 1, none⟩ = some (.int .i64 nl) := (Below.celz bz _ _ _ (by omega)).trans cc3
    have d4 : wh.cell? ⟨O0, 2, none⟩ = some (.int .i64 nn) := (Below.celz bz _ _ _ (by omega)).trans cc4
    have d5 : wh.cell? ⟨O0, 3, none⟩ = some (.int .i64 l) := (Below.celz bz _ _ _ (by omega)).trans cc5
    have d6 : wh.cell? ⟨O0, 4, none⟩ = some (.int .i64 al) := (Below.celz bz _ _ _ (by omega)).trans cc6
    have d7 : wh.cell? ⟨O0, 5, none⟩ = some (.int .i64 an) := (Below.celz bz _ _ _ (by omega)).trans cc7
    have d8 : wh.cell? ⟨O0, 6, none⟩ = some (.int .i64 bl) := (Below.celz bz _ _ _ (by omega)).trans cc8
    have d9 : wh.cell? ⟨O0, 7, none⟩ = some (.int .i64 bn) := (Below.celz bz _ _ _ (by omega)).trans cc9
    have d10 : wh.cell? ⟨P1, 0, none⟩ = some (.slice xa1 p1 xc1) := (Below.celz bz _ _ _ (by omega)).trans cc10
    have d11 : wh.cell? ⟨P1, 1, none⟩ = some (.slice xb1 r1 xd1) := (Below.celz bz _ _ _ (by omega)).trans cc11
    have d12 : wh.cell? ⟨P2, 0, none⟩ = some (.slice xa2 p2 xc2) := (Below.celz bz _ _ _ (by omega)).trans cc12
    have d13 : wh.cell? ⟨P2, 1, none⟩ = some (.slice xb2 r2 xd2) := (Below.celz bz _ _ _ (by omega)).trans cc13
    have y0 : P0 < wh.heap.size := by have := Below.size bz; omega
    have y1 : O0 < wh.heap.size := by have := Below.size bz; omega
    have y2 : P1 < wh.heap.size := by have := Below.size bz; omega
    have y3 : P2 < wh.heap.size := by have := Below.size bz; omega
    have BB1 : Below A wa wh := BB.trans (bz.mono (by omega))
    have sA1 : A ≤ wh.heap.size := by have := Below.size bz; omega
    have q0 : Hid (GrAt wh (.slice xa1 p1 xc1) (.slice xb1 r1 xd1) X1N X1E) := HR1.out.keep bz
    have q1 : Hid (GrAt wh (.slice xa2 p2 xc2) (.slice xb2 r2 xd2) X1N X1E) := HR2.out.keep bz
    clear BB sA cc0 cc1 cc2 cc3 cc4 cc5 cc6 cc7 cc8 cc9 cc10 cc11 cc12 cc13 zz0 zz1 zz2 zz3 HR1 HR2
    have cc0 := d0
    have cc1 := d1
    have cc2 := d2
    have cc3 := d3
    have cc4 := d4
    have cc5 := d5
    have cc6 := d6
    have cc7 := d7
    have cc8 := d8
    have cc9 := d9
    have cc10 := d10
    have cc11 := d11
    have cc12 := d12
    have cc13 := d13
    have zz0 := y0
    have zz1 := y1
    have zz2 := y2
    have zz3 := y3
    have HR1 := q0
    have HR2 := q1
    have BB := BB1
    have sA := sA1
    clear BB1 sA1 d0 d1 d2 d3 d4 d5 d6 d7 d8 d9 d10 d11 d12 d13 y0 y1 y2 y3 q0 q1
    clear bz
    obtain ⟨xa3, xc3, xb3, xd3, rfl, rfl⟩ := og.form
    obtain ⟨X3N, hX⟩ : ∃ t, t = seenN c ns es := ⟨_, rfl⟩
    obtain ⟨X3E, hY⟩ : ∃ t, t = seenE c ns es := ⟨_, rfl⟩
    have HX3 : Hid (X3N = seenN c ns es ∧ X3E = seenE c ns es) := ⟨hX, hY⟩
    rw [← hX, ← hY] at og ⊢
    clear hX hY
    obtain ⟨p3, hp⟩ : ∃ t, t = X3N.length := ⟨_, rfl⟩
    obtain ⟨r3, hr⟩ : ∃ t, t = X3E.length := ⟨_, rfl⟩
    have HL3 : Hid (p3 = X3N.length ∧ r3 = X3E.length) := ⟨hp, hr⟩
    rw [← hp, ← hr] at og ⊢
    clear hp hr
    have HR3 : Hid (GrAt wh (.slice xa3 p3 xc3) (.slice xb3 r3 xd3) X3N X3E) := og
    clear og
    go_wp2_with fail
    obtain ⟨P3, hP3⟩ : ∃ t, t = wh.heap.size := ⟨_, rfl⟩
    generalize hW : wh.alloc (.cells #[.slice xa3 p3 xc3, .slice xb3 r3 xd3] 26) = wi
    have nb : Below wh.heap.size wh wi := by rw [← hW]; exact (Below.refl _ _).alloc (Nat.le_refl _) _
    have k3 : wi.heap.size = P3 + 1 := by rw [← hW, hP3]; simp
    have kk0 : wi.cell? ⟨P3, 0, none⟩ = some (.slice xa3 p3 xc3) := by rw [← hW, hP3]; simp [go_sem]
    have kk1 : wi.cell? ⟨P3, 1, none⟩ = some (.slice xb3 r3 xd3) := by rw [← hW, hP3]; simp [go_sem]
    have oP3A : A ≤ P3 := by rw [hP3]; exact sA
    have oP30 : P0 < P3 := by rw [hP3]; exact zz0
    have oP31 : O0 < P3 := by rw [hP3]; exact zz1
    have oP32 : P1 < P3 := by rw [hP3]; exact zz2
    have oP33 : P2 < P3 := by rw [hP3]; exact zz3
    have d0 : wi.cell? ⟨P0, 0, none⟩ = some (.slice ga n gc) := (Below.celz nb _ _ _ (by omega)).trans cc0
    have d1 : wi.cell? ⟨P0, 1, none⟩ = some (.slice gb m gd) := (Below.celz nb _ _ _ (by omega)).trans cc1
    have d2 : wi.cell? ⟨O0, 0, none⟩ = some (.int .i64 k) := (Below.celz nb _ _ _ (by omega)).trans cc2
    have d3 : wi.cell? ⟨O0, 1, none⟩ = some (.int .i64 nl) := (Below.celz nb _ _ _ (by omega)).trans cc3
    have d4 : wi.cell? ⟨O0, 2, none⟩ = some (.int .i64 nn) := (Below.celz nb _ _ _ (by omega)).trans cc4
    have d5 : wi.cell? ⟨O0, 3, none⟩ = some (.int .i64 l) := (Below.celz nb _ _ _ (by omega)).trans cc5
    have d6 : wi.cell? ⟨O0, 4, none⟩ = some (.int .i64 al) := (Below.celz nb _ _ _ (by omega)).trans cc6
    have d7 : wi.cell? ⟨O0, 5, none⟩ = some (.int .i64 an) := (Below.celz nb _ _ _ (by omega)).trans cc7
    have d8 : wi.cell? ⟨O0, 6, none⟩ = some (.int .i64 bl) := (Below.celz nb _ _ _ (by omega)).trans cc8
    have d9 : wi.cell? ⟨O0, 7, none⟩ = some (.int .i64 bn) := (Below.celz nb _ _ _ (by omega)).trans cc9
    have d10 : wi.cell? ⟨P1, 0, none⟩ = some (.slice xa1 p1 xc1) := (Below.celz nb _ _ _ (by omega)).trans cc10
    have d11 : wi.cell? ⟨P1, 1, none⟩ = some (.slice xb1 r1 xd1) := (Below.celz nb _ _ _ (by omega)).trans cc11
    have d12 : wi.cell? ⟨P2, 0, none⟩ = some (.slice xa2 p2 xc2) := (Below.celz nb _ _ _ (by omega)).trans cc12
    have d13 : wi.cell? ⟨P2, 1, none⟩ = some (.slice xb2 r2 xd2) := (Below.celz nb _ _ _ (by omega)).trans cc13
    have y0 : P0 < wi.heap.size := by have := Below.size nb; omega
    have y1 : O0 < wi.heap.size := by have := Below.size nb; omega
    have y2 : P1 < wi.heap.size := by have := Below.size nb; omega
    have y3 : P2 < wi.heap.size := by have := Below.size nb; omega
    have BB1 : Below A wa wi := BB.trans (nb.mono (by omega))
    have sA1 : A ≤ wi.heap.size := by have := Below.size nb; omega
    have q0 : Hid (GrAt wi (.slice xa1 p1 xc1) (.slice xb1 r1 xd1) X1N X1E) := HR1.out.keep nb
    have q1 : Hid (GrAt wi (.slice xa2 p2 xc2) (.slice xb2 r2 xd2) X1N X1E) := HR2.out.keep nb
    have q2 : Hid (GrAt wi (.slice xa3 p3 xc3) (.slice xb3 r3 xd3) X3N X3E) := HR3.out.keep nb
    clear BB sA cc0 cc1 cc2 cc3 cc4 cc5 cc6 cc7 cc8 cc9 cc10 cc11 cc12 cc13 zz0 zz1 zz2 zz3 HR1 HR2 HR3
    have cc0 := d0
    have cc1 := d1
    have cc2 := d2
    have cc3 := d3
    have cc4 := d4
    have cc5 := d5
    have cc6 := d6
    have cc7 := d7
    have cc8 := d8
    have cc9 := d9
    have cc10 := d10
    have cc11 := d11
    have cc12 := d12
    have cc13 := d13
    have zz0 := y0
    have zz1 := y1
    have zz2 := y2
    have zz3 := y3
    have HR1 := q0
    have HR2 := q1
    have HR3 := q2
    have BB := BB1
    have sA := sA1
    clear BB1 sA1 d0 d1 d2 d3 d4 d5 d6 d7 d8 d9 d10 d11 d12 d13 y0 y1 y2 y3 q0 q1 q2
    have cc14 := kk0
    have cc15 := kk1
    have zz4 : P3 < wi.heap.size := by omega
    rw [← hP3]
    have k3P3 := k3
    clear k3 hW nb hP3 kk0 kk1
    clear k3P3
    refine (gv_impl _ _ c X1N X1E _ HR1.out (HV.out _ BB).2.2.2).mono ?_
    rintro e wj ⟨u1, u2, rfl, og, bz⟩
    have d0 : wj.cell? ⟨P0, 0, none⟩ = some (.slice ga n gc) := (Below.celz bz _ _ _ (by omega)).trans cc0
    have d1 : wj.cell? ⟨P0, 1, none⟩ = some (.slice gb m gd) := (Below.celz bz _ _ _ (by omega)).trans cc1
    have d2 : wj.cell? ⟨O0, 0, none⟩ = some (.int .i64 k) := (Below.celz bz _ _ _ (by omega)).trans cc2
    have d3 : wj.cell? ⟨O0, 1, none⟩ = some (.int .i64 nl) := (Below.celz bz _ _ _ (by omega)).trans cc3
    have d4 : wj.cell? ⟨O0, 2, none⟩ = some (.int .i64 nn) := (Below.celz bz _ _ _ (by omega)).trans cc4
    have d5 : wj.cell? ⟨O0, 3, none⟩ = some (.int .i64 l) := (Below.celz bz _ _ _ (by omega)).trans cc5
    have d6 : wj.cell? ⟨O0, 4, none⟩ = some (.int .i64 al) := (Below.celz bz _ _ _ (by omega)).trans cc6
    have d7 : wj.cell? ⟨O0, 5, none⟩ = some (.int .i64 an) := (Below.celz bz _ _ _ (by omega)).trans cc7
    have d8 : wj.cell? ⟨O0, 6, none⟩ = some (.int .i64 bl) := (Below.celz bz _ _ _ (by omega)).trans cc8
    have d9 : wj.cell? ⟨O0, 7, none⟩ = some (.int .i64 bn) := (Below.celz bz _ _ _ (by omega)).trans cc9
    have d10 : wj.cell? ⟨P1, 0, none⟩ = some (.slice xa1 p1 xc1) := (Below.celz bz _ _ _ (by omega)).trans cc10
    have d11 : wj.cell? ⟨P1, 1, none⟩ = some (.slice xb1 r1 xd1) := (Below.celz bz _ _ _ (by omega)).trans cc11
    have d12 : wj.cell? ⟨P2, 0, none⟩ = some (.slice xa2 p2 xc2) := (Below.celz bz _ _ _ (by omega)).trans cc12
    have d13 : wj.cell? ⟨P2, 1, none⟩ = some (.slice xb2 r2 xd2) := (Below.celz bz _ _ _ (by omega)).trans cc13
    have d14 : wj.cell? ⟨P3, 0, none⟩ = some (.slice xa3 p3 xc3) := (Below.celz bz _ _ _ (by omega)).trans cc14
    have d15 : wj.cell? ⟨P3, 1, none⟩ = some (.slice xb3 r3 xd3) := (Below.celz bz _ _ _ (by omega)).trans cc15
    have y0 : P0 < wj.heap.size := by have := Below.size bz; omega
    have y1 : O0 < wj.heap.size := by have := Below.size bz; omega
    have y2 : P1 < wj.heap.size := by have := Below.size bz; omega
    have y3 : P2 < wj.heap.size := by have := Below.size bz; omega
    have y4 : P3 < wj.heap.size := by have := Below.size bz; omega
    have BB1 : Below A wa wj := BB.trans (bz.mono (by omega))
    have sA1 : A ≤ wj.heap.size := by have := Below.size bz; omega
    have q0 : Hid (GrAt wj (.slice xa1 p1 xc1) (.slice xb1 r1 xd1) X1N X1E) := HR1.out.keep bz
    have q1 : Hid (GrAt wj (.slice xa2 p2 xc2) (.slice xb2 r2 xd2) X1N X1E) := HR2.out.keep bz
    have q2 : Hid (GrAt wj (.slice xa3 p3 xc3) (.slice xb3 r3 xd3) X3N X3E) := HR3.out.keep bz
    clear BB sA cc0 cc1 cc2 cc3 cc4 cc5 cc6 cc7 cc8 cc9 cc10 cc11 cc12 cc13 cc14 cc15 zz0 zz1 zz2 zz3 zz4 HR1 HR2 HR3
    have cc0 := d0
    have cc1 := d1
    have cc2 := d2
    have cc3 := d3
    have cc4 := d4
    have cc5 := d5
    have cc6 := d6
    have cc7 := d7
    have cc8 := d8
    have cc9 := d9
    have cc10 := d10
    have cc11 := d11
    have cc12 := d12
    have cc13 := d13
    have cc14 := d14
    have cc15 := d15
    have zz0 := y0
    have zz1 := y1
    have zz2 := y2
    have zz3 := y3
    have zz4 := y4
    have HR1 := q0
    have HR2 := q1
    have HR3 := q2
    have BB := BB1
    have sA := sA1
    clear BB1 sA1 d0 d1 d2 d3 d4 d5 d6 d7 d8 d9 d10 d11 d12 d13 d14 d15 y0 y1 y2 y3 y4 q0 q1 q2
    clear bz
    obtain ⟨xa4, xc4, xb4, xd4, rfl, rfl⟩ := og.form
    obtain ⟨X4N, hX⟩ : ∃ t, t = seenN c X1N X1E := ⟨_, rfl⟩
    obtain ⟨X4E, hY⟩ : ∃ t, t = seenE c X1N X1E := ⟨_, rfl⟩
    have HX4 : Hid (X4N = seenN c X1N X1E ∧ X4E = seenE c X1N X1E) := ⟨hX, hY⟩
    rw [← hX, ← hY] at og ⊢
    clear hX hY
    obtain ⟨p4, hp⟩ : ∃ t, t = X4N.length := ⟨_, rfl⟩
    obtain ⟨r4, hr⟩ : ∃ t, t = X4E.length := ⟨_, rfl⟩
    have HL4 : Hid (p4 = X4N.length ∧ r4 = X4E.length) := ⟨hp, hr⟩
    rw [← hp, ← hr] at og ⊢
    clear hp hr
    have HR4 : Hid (GrAt wj (.slice xa4 p4 xc4) (.slice xb4 r4 xd4) X4N X4E) := og
    clear og
    go_wp2_with fail
    obtain ⟨P4, hP4⟩ : ∃ t, t = wj.heap.size := ⟨_, rfl⟩
    generalize hW : wj.alloc (.cells #[.slice xa4 p4 xc4, .slice xb4 r4 xd4] 26) = wk
    have nb : Below wj.heap.size wj wk := by rw [← hW]; exact (Below.refl _ _).alloc (Nat.le_refl _) _
    have k3 : wk.heap.size = P4 + 1 := by rw [← hW, hP4]; simp
    have kk0 : wk.cell? ⟨P4, 0, none⟩ = some (.slice xa4 p4 xc4) := by rw [← hW, hP4]; simp [go_sem]
    have kk1 : wk.cell? ⟨P4, 1, none⟩ = some (.slice xb4 r4 xd4) := by rw [← hW, hP4]; simp [go_sem]
    have oP4A : A ≤ P4 := by rw [hP4]; exact sA
    have oP40 : P0 < P4 := by rw [hP4]; exact zz0
    have oP41 : O0 < P4 := by rw [hP4]; exact zz1
    have oP42 : P1 < P4 := by rw [hP4]; exact zz2
    have oP43 : P2 < P4 := by rw [hP4]; exact zz3
    have oP44 : P3 < P4 := by rw [hP4]; exact zz4
    have d0 : wk.cell? ⟨P0, 0, none⟩ = some (.slice ga n gc) := (Below.celz nb _ _ _ (by omega)).trans cc0
    have d1 : wk.cell? ⟨P0, 1, none⟩ = some (.slice gb m gd) := (Below.celz nb _ _ _ (by omega)).trans cc1
    have d2 : wk.cell? ⟨O0, 0, none⟩ = some (.int .i64 k) := (Below.celz nb _ _ _ (by omega)).trans cc2
    have d3 : wk.cell? ⟨O0, 1, none⟩ = some (.int .i64 nl) := (Below.celz nb _ _ _ (by omega)).trans cc3
    have d4 : wk.cell? ⟨O0, 2, none⟩ = some (.int .i64 nn) := (Below.celz nb _ _ _ (by omega)).trans cc4
    have d5 : wk.cell? ⟨O0, 3, none⟩ = some (.int .i64 l) := (Below.celz nb _ _ _ (by omega)).trans cc5
    have d6 : wk.cell? ⟨O0, 4, none⟩ = some (.int .i64 al) := (Below.celz nb _ _ _ (by omega)).trans cc6
    have d7 : wk.cell? ⟨O0, 5, none⟩ = some (.int .i64 an) := (Below.celz nb _ _ _ (by omega)).trans cc7
    have d8 : wk.cell? ⟨O0, 6, none⟩ = some (.int .i64 bl) := (Below.celz nb _ _ _ (by omega)).trans cc8
    have d9 : wk.cell? ⟨O0, 7, none⟩ = some (.int .i64 bn) := (Below.celz nb _ _ _ (by omega)).trans cc9
    have d10 : wk.cell? ⟨P1, 0, none⟩ = some (.slice xa1 p1 xc1) := (Below.celz nb _ _ _ (by omega)).trans cc10
    have d11 : wk.cell? ⟨P1, 1, none⟩ = some (.slice xb1 r1 xd1) := (Below.celz nb _ _ _ (by omega)).trans cc11
    have d12 : wk.cell? ⟨P2, 0, none⟩ = some (.slice xa2 p2 xc2) := (Below.celz nb _ _ _ (by omega)).trans cc12
    have d13 : wk.cell? ⟨P2, 1, none⟩ = some (.slice xb2 r2 xd2) := (Below.celz nb _ _ _ (by omega)).trans cc13
    have d14 : wk.cell? ⟨P3, 0, none⟩ = some (.slice xa3 p3 xc3) := (Below.celz nb _ _ _ (by omega)).trans cc14
    have d15 : wk.cell? ⟨P3, 1, none⟩ = some (.slice xb3 r3 xd3) := (Below.celz nb _ _ _ (by omega)).trans cc15
    have y0 : P0 < wk.heap.size := by have := Below.size nb; omega
    have y1 : O0 < wk.heap.size := by have := Below.size nb; omega
    have y2 : P1 < wk.heap.size := by have := Below.size nb; omega
    have y3 : P2 < wk.heap.size := by have := Below.size nb; omega
    have y4 : P3 < wk.heap.size := by have := Below.size nb; omega
    have BB1 : Below A wa wk := BB.trans (nb.mono (by omega))
    have sA1 : A ≤ wk.heap.size := by have := Below.size nb; omega
    have q0 : Hid (GrAt wk (.slice xa1 p1 xc1) (.slice xb1 r1 xd1) X1N X1E) := HR1.out.keep nb
    have q1 : Hid (GrAt wk (.slice xa2 p2 xc2) (.slice xb2 r2 xd2) X1N X1E) := HR2.out.keep nb
    have q2 : Hid (GrAt wk (.slice xa3 p3 xc3) (.slice xb3 r3 xd3) X3N X3E) := HR3.out.keep nb
    have q3 : Hid (GrAt wk (.slice xa4 p4 xc4) (.slice xb4 r4 xd4) X4N X4E) := HR4.out.keep nb
    clear BB sA cc0 cc1 cc2 cc3 cc4 cc5 cc6 cc7 cc8 cc9 cc10 cc11 cc12 cc13 cc14 cc15 zz0 zz1 zz2 zz3 zz4 HR1 HR2 HR3 HR4
    have cc0 := d0
    have cc1 := d1
    have cc2 := d2
    have cc3 := d3
    have cc4 := d4
    have cc5 := d5
    have cc6 := d6
    have cc7 := d7
    have cc8 := d8
    have cc9 := d9
    have cc10 := d10
    have cc11 := d11
    have cc12 := d12
    have cc13 := d13
    have cc14 := d14
    have cc15 := d15
    have zz0 := y0
    have zz1 := y1
    have zz2 := y2
    have zz3 := y3
    have zz4 := y4
    have HR1 := q0
    have HR2 := q1
    have HR3 := q2
    have HR4 := q3
    have BB := BB1
    have sA := sA1
    clear BB1 sA1 d0 d1 d2 d3 d4 d5 d6 d7 d8 d9 d10 d11 d12 d13 d14 d15 y0 y1 y2 y3 y4 q0 q1 q2 q3
    have cc16 := kk0
    have cc17 := kk1
    have zz5 : P4 < wk.heap.size := by omega
    rw [← hP4]
    have k3P4 := k3
    clear k3 hW nb hP4 kk0 kk1
    clear k3P4
    refine (HOL.out _ (HV.out _ BB).2.1).mono ?_
    rintro e wl ⟨rfl, bz⟩
    have d0 : wl.cell? ⟨P0, 0, none⟩ = some (.slice ga n gc) := (Below.celz bz _ _ _ (by omega)).trans cc0
    have d1 : wl.cell? ⟨P0, 1, none⟩ = some (.slice gb m gd) := (Below.celz bz _ _ _ (by omega)).trans cc1
    have d2 : wl.cell? ⟨O0, 0, none⟩ = some (.int .i64 k) := (Below.celz bz _ _ _ (by omega)).trans cc2
    have d3 : wl.cell? ⟨O0, 1, none⟩ = some (.int .i64 nl) := (Below.celz bz _ _ _ (by omega)).trans cc3
    have d4 : wl.cell? ⟨O0, 2, none⟩ = some (.int .i64 nn) := (Below.celz bz _ _ _ (by omega)).trans cc4
    have d5 : wl.cell? ⟨O0, 3, none⟩ = some (.int .i64 l) := (Below.celz bz _ _ _ (by omega)).trans cc5
    have d6 : wl.cell? ⟨O0, 4, none⟩ = some (.int .i64 al) := (Below.celz bz _ _ _ (by omega)).trans cc6
    have d7 : wl.cell? ⟨O0, 5, none⟩ = some (.int .i64 an) := (Below.celz bz _ _ _ (by omega)).trans cc7
    have d8 : wl.cell? ⟨O0, 6, none⟩ = some (.int .i64 bl) := (Below.celz bz _ _ _ (by omega)).trans cc8
    have d9 : wl.cell? ⟨O0, 7, none⟩ = some (.int .i64 bn) := (Below.celz bz _ _ _ (by omega)).trans cc9
    have d10 : wl.cell? ⟨P1, 0, none⟩ = some (.slice xa1 p1 xc1) := (Below.celz bz _ _ _ (by omega)).trans cc10
    have d11 : wl.cell? ⟨P1, 1, none⟩ = some (.slice xb1 r1 xd1) := (Below.celz bz _ _ _ (by omega)).trans cc11
    have d12 : wl.cell? ⟨P2, 0, none⟩ = some (.slice xa2 p2 xc2) := (Below.celz bz _ _ _ (by omega)).trans cc12
    have d13 : wl.cell? ⟨P2, 1, none⟩ = some (.slice xb2 r2 xd2) := (Below.celz bz _ _ _ (by omega)).trans cc13
    have d14 : wl.cell? ⟨P3, 0, none⟩ = some (.slice xa3 p3 xc3) := (Below.celz bz _ _ _ (by omega)).trans cc14
    have d15 : wl.cell? ⟨P3, 1, none⟩ = some (.slice xb3 r3 xd3) := (Below.celz bz _ _ _ (by omega)).trans cc15
    have d16 : wl.cell? ⟨P4, 0, none⟩ = some (.slice xa4 p4 xc4) := (Below.celz bz _ _ _ (by omega)).trans cc16
    have d17 : wl.cell? ⟨P4, 1, none⟩ = some (.slice xb4 r4 xd4) := (Below.celz bz _ _ _ (by omega)).trans cc17
    have y0 : P0 < wl.heap.size := by have := Below.size bz; omega
    have y1 : O0 < wl.heap.size := by have := Below.size bz; omega
    have y2 : P1 < wl.heap.size := by have := Below.size bz; omega
    have y3 : P2 < wl.heap.size := by have := Below.size bz; omega
    have y4 : P3 < wl.heap.size := by have := Below.size bz; omega
    have y5 : P4 < wl.heap.size := by have := Below.size bz; omega
    have BB1 : Below A wa wl := BB.trans (bz.mono (by omega))
    have sA1 : A ≤ wl.heap.size := by have := Below.size bz; omega
    have q0 : Hid (GrAt wl (.slice xa1 p1 xc1) (.slice xb1 r1 xd1) X1N X1E) := HR1.out.keep bz
    have q1 : Hid (GrAt wl (.slice xa2 p2 xc2) (.slice xb2 r2 xd2) X1N X1E) := HR2.out.keep bz
    have q2 : Hid (GrAt wl (.slice xa3 p3 xc3) (.slice xb3 r3 xd3) X3N X3E) := HR3.out.keep bz
    have q3 : Hid (GrAt wl (.slice xa4 p4 xc4) (.slice xb4 r4 xd4) X4N X4E) := HR4.out.keep bz
    clear BB sA cc0 cc1 cc2 cc3 cc4 cc5 cc6 cc7 cc8 cc9 cc10 cc11 cc12 cc13 cc14 cc15 cc16 cc17 zz0 zz1 zz2 zz3 zz4 zz5 HR1 HR2 HR3 HR4
    have cc0 := d0
    have cc1 := d1
    have cc2 := d2
    have cc3 := d3
    have cc4 := d4
    have cc5 := d5
    have cc6 := d6
    have cc7 := d7
    have cc8 := d8
    have cc9 := d9
    have cc10 := d10
    have cc11 := d11
    have cc12 := d12
    have cc13 := d13
    have cc14 := d14
    have cc15 := d15
    have cc16 := d16
    have cc17 := d17
    have zz0 := y0
    have zz1 := y1
    have zz2 := y2
    have zz3 := y3
    have zz4 := y4
    have zz5 := y5
    have HR1 := q0
    have HR2 := q1
    have HR3 := q2
    have HR4 := q3
    have BB := BB1
    have sA := sA1
    clear BB1 sA1 d0 d1 d2 d3 d4 d5 d6 d7 d8 d9 d10 d11 d12 d13 d14 d15 d16 d17 y0 y1 y2 y3 y4 y5 q0 q1 q2 q3
    clear bz
    go_wp2_with fail
    obtain ⟨un, hun⟩ : ∃ b, underB oi c = b := ⟨_, rfl⟩
    have HUN : Hid (underB oi c = un) := hun
    clear hun
    refine (lund2 oi c un HUN.out _).mono ?_
    rintro e wm ⟨rfl, bz⟩
    have d0 : wm.cell? ⟨P0, 0, none⟩ = some (.slice ga n gc) := (Below.celz bz _ _ _ (by omega)).trans cc0
    have d1 : wm.cell? ⟨P0, 1, none⟩ = some (.slice gb m gd) := (Below.celz bz _ _ _ (by omega)).trans cc1
    have d2 : wm.cell? ⟨O0, 0, none⟩ = some (.int .i64 k) := (Below.celz bz _ _ _ (by omega)).trans cc2
    have d3 : wm.cell? ⟨O0, 1, none⟩ = some (.int .i64 nl) := (Below.celz bz _ _ _ (by omega)).trans cc3
    have d4 : wm.cell? ⟨O0, 2, none⟩ = some (.int .i64 nn) := (Below.celz bz _ _ _ (by omega)).trans cc4
    have d5 : wm.cell? ⟨O0, 3, none⟩ = some (.int .i64 l) := (Below.celz bz _ _ _ (by omega)).trans cc5
    have d6 : wm.cell? ⟨O0, 4, none⟩ = some (.int .i64 al) := (Below.celz bz _ _ _ (by omega)).trans cc6
    have d7 : wm.cell? ⟨O0, 5, none⟩ = some (.int .i64 an) := (Below.celz bz _ _ _ (by omega)).trans cc7
    have d8 : wm.cell? ⟨O0, 6, none⟩ = some (.int .i64 bl) := (Below.celz bz _ _ _ (by omega)).trans cc8
    have d9 : wm.cell? ⟨O0, 7, none⟩ = some (.int .i64 bn) := (Below.celz bz _ _ _ (by omega)).trans cc9
    have d10 : wm.cell? ⟨P1, 0, none⟩ = some (.slice xa1 p1 xc1) := (Below.celz bz _ _ _ (by omega)).trans cc10
    have d11 : wm.cell? ⟨P1, 1, none⟩ = some (.slice xb1 r1 xd1) := (Below.celz bz _ _ _ (by omega)).trans cc11
    have d12 : wm.cell? ⟨P2, 0, none⟩ = some (.slice xa2 p2 xc2) := (Below.celz bz _ _ _ (by omega)).trans cc12
    have d13 : wm.cell? ⟨P2, 1, none⟩ = some (.slice xb2 r2 xd2) := (Below.celz bz _ _ _ (by omega)).trans cc13
    have d14 : wm.cell? ⟨P3, 0, none⟩ = some (.slice xa3 p3 xc3) := (Below.celz bz _ _ _ (by omega)).trans cc14
    have d15 : wm.cell? ⟨P3, 1, none⟩ = some (.slice xb3 r3 xd3) := (Below.celz bz _ _ _ (by omega)).trans cc15
    have d16 : wm.cell? ⟨P4, 0, none⟩ = some (.slice xa4 p4 xc4) := (Below.celz bz _ _ _ (by omega)).trans cc16
    have d17 : wm.cell? ⟨P4, 1, none⟩ = some (.slice xb4 r4 xd4) := (Below.celz bz _ _ _ (by omega)).trans cc17
    have y0 : P0 < wm.heap.size := by have := Below.size bz; omega
    have y1 : O0 < wm.heap.size := by have := Below.size bz; omega
    have y2 : P1 < wm.heap.size := by have := Below.size bz; omega
    have y3 : P2 < wm.heap.size := by have := Below.size bz; omega
    have y4 : P3 < wm.heap.size := by have := Below.size bz; omega
    have y5 : P4 < wm.heap.size := by have := Below.size bz; omega
    have BB1 : Below A wa wm := BB.trans (bz.mono (by omega))
    have sA1 : A ≤ wm.heap.size := by have := Below.size bz; omega
    have q0 : Hid (GrAt wm (.slice xa1 p1 xc1) (.slice xb1 r1 xd1) X1N X1E) := HR1.out.keep bz
    have q1 : Hid (GrAt wm (.slice xa2 p2 xc2) (.slice xb2 r2 xd2) X1N X1E) := HR2.out.keep bz
    have q2 : Hid (GrAt wm (.slice xa3 p3 xc3) (.slice xb3 r3 xd3) X3N X3E) := HR3.out.keep bz
    have q3 : Hid (GrAt wm (.slice xa4 p4 xc4) (.slice xb4 r4 xd4) X4N X4E) := HR4.out.keep bz
    clear BB sA cc0 cc1 cc2 cc3 cc4 cc5 cc6 cc7 cc8 cc9 cc10 cc11 cc12 cc13 cc14 cc15 cc16 cc17 zz0 zz1 zz2 zz3 zz4 zz5 HR1 HR2 HR3 HR4
    have cc0 := d0
    have cc1 := d1
    have cc2 := d2
    have cc3 := d3
    have cc4 := d4
    have cc5 := d5
    have cc6 := d6
    have cc7 := d7
    have cc8 := d8
    have cc9 := d9
    have cc10 := d10
    have cc11 := d11
    have cc12 := d12
    have cc13 := d13
    have cc14 := d14
    have cc15 := d15
    have cc16 := d16
    have cc17 := d17
    have zz0 := y0
    have zz1 := y1
    have zz2 := y2
    have zz3 := y3
    have zz4 := y4
    have zz5 := y5
    have HR1 := q0
    have HR2 := q1
    have HR3 := q2
    have HR4 := q3
    have BB := BB1
    have sA := sA1
    clear BB1 sA1 d0 d1 d2 d3 d4 d5 d6 d7 d8 d9 d10 d11 d12 d13 d14 d15 d16 d17 y0 y1 y2 y3 y4 y5 q0 q1 q2 q3
    clear bz
    cases un
    · have HEQ : Hid (X3N = X4N ∧ X3E = X4E) := by
        have h := gd_unseen (k := k) (nl := nl) (nn := nn) (l := l) (al := al) (an := an) (bl := bl) (bn := bn) (c := c) HBG.out (by rw [HOI.out]; exact HUN.out)
        rw [← HX1.out.1, ← HX1.out.2.1] at h
        exact ⟨by rw [HX3.out.1, HX4.out.1]; exact h.1.symm, by rw [HX3.out.2, HX4.out.2]; exact h.2.symm⟩
      go_wp2_with fail
      refine (gs_same _ _ _ _ X3N X4N X3E X4E HEQ.out.1 HEQ.out.2 _ HR3.out HR4.out).mono ?_
      rintro e wn ⟨rfl, bz⟩
      have d0 : wn.cell? ⟨P0, 0, none⟩ = some (.slice ga n gc) := (Below.celz bz _ _ _ (by omega)).trans cc0
      have d1 : wn.cell? ⟨P0, 1, none⟩ = some (.slice gb m gd) := (Below.celz bz _ _ _ (by omega)).trans cc1
      have d2 : wn.cell? ⟨O0, 0, none⟩ = some (.int .i64 k) := (Below.celz bz _ _ _ (by omega)).trans cc2
      have d3 : wn.cell? ⟨O0, 1, none⟩ = some (.int .i64 nl) := (Below.celz bz _ _ _ (by omega)).trans cc3
      have d4 : wn.cell? ⟨O0, 2, none⟩ = some (.int .i64 nn) := (Below.celz bz _ _ _ (by omega)).trans cc4
      have d5 : wn.cell? ⟨O0, 3, none⟩ = some (.int .i64 l) := (Below.celz bz _ _ _ (by omega)).trans cc5
      have d6 : wn.cell? ⟨O0, 4, none⟩ = some (.int .i64 al) := (Below.celz bz _ _ _ (by omega)).trans cc6
      have d7 : wn.cell? ⟨O0, 5, none⟩ = some (.int .i64 an) := (Below.celz bz _ _ _ (by omega)).trans cc7
      have d8 : wn.cell? ⟨O0, 6, none⟩ = some (.int .i64 bl) := (Below.celz bz _ _ _ (by omega)).trans cc8
      have d9 : wn.cell? ⟨O0, 7, none⟩ = some (.int .i64 bn) := (Below.celz bz _ _ _ (by omega)).trans cc9
      have d10 : wn.cell? ⟨P1, 0, none⟩ = some (.slice xa1 p1 xc1) := (Below.celz bz _ _ _ (by omega)).trans cc10
      have d11 : wn.cell? ⟨P1, 1, none⟩ = some (.slice xb1 r1 xd1) := (Below.celz bz _ _ _ (by omega)).trans cc11
      have d12 : wn.cell? ⟨P2, 0, none⟩ = some (.slice xa2 p2 xc2) := (Below.celz bz _ _ _ (by omega)).trans cc12
      have d13 : wn.cell? ⟨P2, 1, none⟩ = some (.slice xb2 r2 xd2) := (Below.celz bz _ _ _ (by omega)).trans cc13
      have d14 : wn.cell? ⟨P3, 0, none⟩ = some (.slice xa3 p3 xc3) := (Below.celz bz _ _ _ (by omega)).trans cc14
      have d15 : wn.cell? ⟨P3, 1, none⟩ = some (.slice xb3 r3 xd3) := (Below.celz bz _ _ _ (by omega)).trans cc15
      have d16 : wn.cell? ⟨P4, 0, none⟩ = some (.slice xa4 p4 xc4) := (Below.celz bz _ _ _ (by omega)).trans cc16
      have d17 : wn.cell? ⟨P4, 1, none⟩ = some (.slice xb4 r4 xd4) := (Below.celz bz _ _ _ (by omega)).trans cc17
      have y0 : P0 < wn.heap.size := by have := Below.size bz; omega
      have y1 : O0 < wn.heap.size := by have := Below.size bz; omega
      have y2 : P1 < wn.heap.size := by have := Below.size bz; omega
      have y3 : P2 < wn.heap.size := by have := Below.size bz; omega
      have y4 : P3 < wn.heap.size := by have := Below.size bz; omega
      have y5 : P4 < wn.heap.size := by have := Below.size bz; omega
      have BB1 : Below A wa wn := BB.trans (bz.mono (by omega))
      have sA1 : A ≤ wn.heap.size := by have := Below.size bz; omega
      have q0 : Hid (GrAt wn (.slice xa1 p1 xc1) (.slice xb1 r1 xd1) X1N X1E) := HR1.out.keep bz
      have q1 : Hid (GrAt wn (.slice xa2 p2 xc2) (.slice xb2 r2 xd2) X1N X1E) := HR2.out.keep bz
      have q2 : Hid (GrAt wn (.slice xa3 p3 xc3) (.slice xb3 r3 xd3) X3N X3E) := HR3.out.keep bz
      have q3 : Hid (GrAt wn (.slice xa4 p4 xc4) (.slice xb4 r4 xd4) X4N X4E) := HR4.out.keep bz
      clear BB sA cc0 cc1 cc2 cc3 cc4 cc5 cc6 cc7 cc8 cc9 cc10 cc11 cc12 cc13 cc14 cc15 cc16 cc17 zz0 zz1 zz2 zz3 zz4 zz5 HR1 HR2 HR3 HR4
      have cc0 := d0
      have cc1 := d1
      have cc2 := d2
      have cc3 := d3
      have cc4 := d4
      have cc5 := d5
      have cc6 := d6
      have cc7 := d7
      have cc8 := d8
      have cc9 := d9
      have cc10 := d10
      have cc11 := d11
      have cc12 := d12
      have cc13 := d13
      have cc14 := d14
      have cc15 := d15
      have cc16 := d16
      have cc17 := d17
      have zz0 := y0
      have zz1 := y1
      have zz2 := y2
      have zz3 := y3
      have zz4 := y4
      have zz5 := y5
      have HR1 := q0
      have HR2 := q1
      have HR3 := q2
      have HR4 := q3
      have BB := BB1
      have sA := sA1
      clear BB1 sA1 d0 d1 d2 d3 d4 d5 d6 d7 d8 d9 d10 d11 d12 d13 d14 d15 d16 d17 y0 y1 y2 y3 y4 y5 q0 q1 q2 q3
      clear bz
      go_wp2_with fail
      go_ret
      exact ⟨rfl, (HV.out _ BB).2.2.1⟩
    · go_wp2_with fail
      obtain ⟨X5N, hX⟩ : ∃ t, t = gdN X3N X3E k nl nn l al an bl bn := ⟨_, rfl⟩
      obtain ⟨X5E, hY⟩ : ∃ t, t = gdE X3N X3E k nl nn l al an bl bn := ⟨_, rfl⟩
      obtain ⟨X5C, hZ⟩ : ∃ t, t = gdC X3N X3E k nl nn l al an bl bn := ⟨_, rfl⟩
      have HX5 : Hid (X5N = gdN X3N X3E k nl nn l al an bl bn ∧ X5E = gdE X3N X3E k nl nn l al an bl bn ∧ X5C = gdC X3N X3E k nl nn l al an bl bn) := ⟨hX, hY, hZ⟩
      clear hX hY hZ
      have HEQ : Hid (X5N = X4N ∧ X5E = X4E ∧ X5C = X1C) := by
        have h := gd_seen (k := k) (nl := nl) (nn := nn) (l := l) (al := al) (an := an) (bl := bl) (bn := bn) (c := c) HBG.out (by rw [HOI.out]; exact HUN.out)
        rw [← HX1.out.1, ← HX1.out.2.1, ← HX1.out.2.2, ← HX3.out.1, ← HX3.out.2, ← HX5.out.1, ← HX5.out.2.1, ← HX5.out.2.2, ← HX4.out.1, ← HX4.out.2] at h
        exact h
      have hce : (X5C == X1C) = true := by rw [HEQ.out.2.2]; simp
      refine (gdo_impl _ _ X3N X3E k nl nn l al an bl bn _ HR3.out (HV.out _ BB).2.1).mono ?_
      rintro e wn ⟨u1, u2, rfl, og, bwn⟩
      have d0 : wn.cell? ⟨P0, 0, none⟩ = some (.slice ga n gc) := (Below.celz bwn _ _ _ (by omega)).trans cc0
      have d1 : wn.cell? ⟨P0, 1, none⟩ = some (.slice gb m gd) := (Below.celz bwn _ _ _ (by omega)).trans cc1
      have d2 : wn.cell? ⟨O0, 0, none⟩ = some (.int .i64 k) := (Below.celz bwn _ _ _ (by omega)).trans cc2
      have d3 : wn.cell? ⟨O0, 1, none⟩ = some (.int .i64 nl) := (Below.celz bwn _ _ _ (by omega)).trans cc3
      have d4 : wn.cell? ⟨O0, 2, none⟩ = some (.int .i64 nn) := (Below.celz bwn _ _ _ (by omega)).trans cc4
      have d5 : wn.cell? ⟨O0, 3, none⟩ = some (.int .i64 l) := (Below.celz bwn _ _ _ (by omega)).trans cc5
      have d6 : wn.cell? ⟨O0, 4, none⟩ = some (.int .i64 al) := (Below.celz bwn _ _ _ (by omega)).trans cc6
      have d7 : wn.cell? ⟨O0, 5, none⟩ = some (.int .i64 an) := (Below.celz bwn _ _ _ (by omega)).trans cc7
      have d8 : wn.cell? ⟨O0, 6, none⟩ = some (.int .i64 bl) := (Below.celz bwn _ _ _ (by omega)).trans cc8
      have d9 : wn.cell? ⟨O0, 7, none⟩ = some (.int .i64 bn) := (Below.celz bwn _ _ _ (by omega)).trans cc9
      have d10 : wn.cell? ⟨P1, 0, none⟩ = some (.slice xa1 p1 xc1) := (Below.celz bwn _ _ _ (by omega)).trans cc10
      have d11 : wn.cell? ⟨P1, 1, none⟩ = some (.slice xb1 r1 xd1) := (Below.celz bwn _ _ _ (by omega)).trans cc11
      have d12 : wn.cell? ⟨P2, 0, none⟩ = some (.slice xa2 p2 xc2) := (Below.celz bwn _ _ _ (by omega)).trans cc12
      have d13 : wn.cell? ⟨P2, 1, none⟩ = some (.slice xb2 r2 xd2) := (Below.celz bwn _ _ _ (by omega)).trans cc13
      have d14 : wn.cell? ⟨P3, 0, none⟩ = some (.slice xa3 p3 xc3) := (Below.celz bwn _ _ _ (by omega)).trans cc14
      have d15 : wn.cell? ⟨P3, 1, none⟩ = some (.slice xb3 r3 xd3) := (Below.celz bwn _ _ _ (by omega)).trans cc15
      have d16 : wn.cell? ⟨P4, 0, none⟩ = some (.slice xa4 p4 xc4) := (Below.celz bwn _ _ _ (by omega)).trans cc16
      have d17 : wn.cell? ⟨P4, 1, none⟩ = some (.slice xb4 r4 xd4) := (Below.celz bwn _ _ _ (by omega)).trans cc17
      have y0 : P0 < wn.heap.size := by have := Below.size bwn; omega
      have y1 : O0 < wn.heap.size := by have := Below.size bwn; omega
      have y2 : P1 < wn.heap.size := by have := Below.size bwn; omega
      have y3 : P2 < wn.heap.size := by have := Below.size bwn; omega
      have y4 : P3 < wn.heap.size := by have := Below.size bwn; omega
      have y5 : P4 < wn.heap.size := by have := Below.size bwn; omega
      have BB1 : Below A wa wn := BB.trans (bwn.mono (by omega))
      have sA1 : A ≤ wn.heap.size := by have := Below.size bwn; omega
      have q0 : Hid (GrAt wn (.slice xa1 p1 xc1) (.slice xb1 r1 xd1) X1N X1E) := HR1.out.keep bwn
      have q1 : Hid (GrAt wn (.slice xa2 p2 xc2) (.slice xb2 r2 xd2) X1N X1E) := HR2.out.keep bwn
      have q2 : Hid (GrAt wn (.slice xa3 p3 xc3) (.slice xb3 r3 xd3) X3N X3E) := HR3.out.keep bwn
      have q3 : Hid (GrAt wn (.slice xa4 p4 xc4) (.slice xb4 r4 xd4) X4N X4E) := HR4.out.keep bwn
      clear BB sA cc0 cc1 cc2 cc3 cc4 cc5 cc6 cc7 cc8 cc9 cc10 cc11 cc12 cc13 cc14 cc15 cc16 cc17 zz0 zz1 zz2 zz3 zz4 zz5 HR1 HR2 HR3 HR4
      have cc0 := d0
      have cc1 := d1
      have cc2 := d2
      have cc3 := d3
      have cc4 := d4
      have cc5 := d5
      have cc6 := d6
      have cc7 := d7
      have cc8 := d8
      have cc9 := d9
      have cc10 := d10
      have cc11 := d11
      have cc12 := d12
      have cc13 := d13
      have cc14 := d14
      have cc15 := d15
      have cc16 := d16
      have cc17 := d17
      have zz0 := y0
      have zz1 := y1
      have zz2 := y2
      have zz3 := y3
      have zz4 := y4
      have zz5 := y5
      have HR1 := q0
      have HR2 := q1
      have HR3 := q2
      have HR4 := q3
      have BB := BB1
      have sA := sA1
      clear BB1 sA1 d0 d1 d2 d3 d4 d5 d6 d7 d8 d9 d10 d11 d12 d13 d14 d15 d16 d17 y0 y1 y2 y3 y4 y5 q0 q1 q2 q3
      clear bwn
      rw [← HX5.out.1, ← HX5.out.2.1] at og
      rw [← HX5.out.2.2]
      obtain ⟨xa5, xc5, xb5, xd5, rfl, rfl⟩ := og.form
      obtain ⟨p5, hp⟩ : ∃ t, t = X5N.length := ⟨_, rfl⟩
      obtain ⟨r5, hr⟩ : ∃ t, t = X5E.length := ⟨_, rfl⟩
      have HL5 : Hid (p5 = X5N.length ∧ r5 = X5E.length) := ⟨hp, hr⟩
      have lp5 : p5 ≤ 200 := by rw [hp]; exact og.2.2.1
      have lr5 : r5 ≤ 200 := by rw [hr]; exact og.2.2.2
      rw [← hp, ← hr] at og ⊢
      clear hp hr
      have HR5 : Hid (GrAt wn (.slice xa5 p5 xc5) (.slice xb5 r5 xd5) X5N X5E) := og
      clear og
      go_wp2_with fail
      obtain ⟨P5, hP5⟩ : ∃ t, t = wn.heap.size := ⟨_, rfl⟩
      generalize hW : wn.alloc (.cells #[.slice xa5 p5 xc5, .slice xb5 r5 xd5] 26) = wo
      have nb : Below wn.heap.size wn wo := by rw [← hW]; exact (Below.refl _ _).alloc (Nat.le_refl _) _
      have k3 : wo.heap.size = P5 + 1 := by rw [← hW, hP5]; simp
      have kk0 : wo.cell? ⟨P5, 0, none⟩ = some (.slice xa5 p5 xc5) := by rw [← hW, hP5]; simp [go_sem]
      have kk1 : wo.cell? ⟨P5, 1, none⟩ = some (.slice xb5 r5 xd5) := by rw [← hW, hP5]; simp [go_sem]
      have oP5A : A ≤ P5 := by rw [hP5]; exact sA
      have oP50 : P0 < P5 := by rw [hP5]; exact zz0
      have oP51 : O0 < P5 := by rw [hP5]; exact zz1
      have oP52 : P1 < P5 := by rw [hP5]; exact zz2
      have oP53 : P2 < P5 := by rw [hP5]; exact zz3
      have oP54 : P3 < P5 := by rw [hP5]; exact zz4
      have oP55 : P4 < P5 := by rw [hP5]; exact zz5
      have d0 : wo.cell? ⟨P0, 0, none⟩ = some (.slice ga n gc) := (Below.celz nb _ _ _ (by omega)).trans cc0
      have d1 : wo.cell? ⟨P0, 1, none⟩ = some (.slice gb m gd) := (Below.celz nb _ _ _ (by omega)).trans cc1
      have d2 : wo.cell? ⟨O0, 0, none⟩ = some (.int .i64 k) := (Below.celz nb _ _ _ (by omega)).trans cc2
      have d3 : wo.cell? ⟨O0, 1, none⟩ = some (.int .i64 nl) := (Below.celz nb _ _ _ (by omega)).trans cc3
      have d4 : wo.cell? ⟨O0, 2, none⟩ = some (.int .i64 nn) := (Below.celz nb _ _ _ (by omega)).trans cc4
      have d5 : wo.cell? ⟨O0, 3, none⟩ = some (.int .i64 l) := (Below.celz nb _ _ _ (by omega)).trans cc5
      have d6 : wo.cell? ⟨O0, 4, none⟩ = some (.int .i64 al) := (Below.celz nb _ _ _ (by omega)).trans cc6
      have d7 : wo.cell? ⟨O0, 5, none⟩ = some (.int .i64 an) := (Below.celz nb _ _ _ (by omega)).trans cc7
      have d8 : wo.cell? ⟨O0, 6, none⟩ = some (.int .i64 bl) := (Below.celz nb _ _ _ (by omega)).trans cc8
      have d9 : wo.cell? ⟨O0, 7, none⟩ = some (.int .i64 bn) := (Below.celz nb _ _ _ (by omega)).trans cc9
      have d10 : wo.cell? ⟨P1, 0, none⟩ = some (.slice xa1 p1 xc1) := (Below.celz nb _ _ _ (by omega)).trans cc10
      have d11 : wo.cell? ⟨P1, 1, none⟩ = some (.slice xb1 r1 xd1) := (Below.celz nb _ _ _ (by omega)).trans cc11
      have d12 : wo.cell? ⟨P2, 0, none⟩ = some (.slice xa2 p2 xc2) := (Below.celz nb _ _ _ (by omega)).trans cc12
      have d13 : wo.cell? ⟨P2, 1, none⟩ = some (.slice xb2 r2 xd2) := (Below.celz nb _ _ _ (by omega)).trans cc13
      have d14 : wo.cell? ⟨P3, 0, none⟩ = some (.slice xa3 p3 xc3) := (Below.celz nb _ _ _ (by omega)).trans cc14
      have d15 : wo.cell? ⟨P3, 1, none⟩ = some (.slice xb3 r3 xd3) := (Below.celz nb _ _ _ (by omega)).trans cc15
      have d16 : wo.cell? ⟨P4, 0, none⟩ = some (.slice xa4 p4 xc4) := (Below.celz nb _ _ _ (by omega)).trans cc16
      have d17 : wo.cell? ⟨P4, 1, none⟩ = some (.slice xb4 r4 xd4) := (Below.celz nb _ _ _ (by omega)).trans cc17
      have y0 : P0 < wo.heap.size := by have := Below.size nb; omega
      have y1 : O0 < wo.heap.size := by have := Below.size nb; omega
      have y2 : P1 < wo.heap.size := by have := Below.size nb; omega
      have y3 : P2 < wo.heap.size := by have := Below.size nb; omega
      have y4 : P3 < wo.heap.size := by have := Below.size nb; omega
      have y5 : P4 < wo.heap.size := by have := Below.size nb; omega
      have BB1 : Below A wa wo := BB.trans (nb.mono (by omega))
      have sA1 : A ≤ wo.heap.size := by have := Below.size nb; omega
      have q0 : Hid (GrAt wo (.slice xa1 p1 xc1) (.slice xb1 r1 xd1) X1N X1E) := HR1.out.keep nb
      have q1 : Hid (GrAt wo (.slice xa2 p2 xc2) (.slice xb2 r2 xd2) X1N X1E) := HR2.out.keep nb
      have q2 : Hid (GrAt wo (.slice xa3 p3 xc3) (.slice xb3 r3 xd3) X3N X3E) := HR3.out.keep nb
      have q3 : Hid (GrAt wo (.slice xa4 p4 xc4) (.slice xb4 r4 xd4) X4N X4E) := HR4.out.keep nb
      have q4 : Hid (GrAt wo (.slice xa5 p5 xc5) (.slice xb5 r5 xd5) X5N X5E) := HR5.out.keep nb
      clear BB sA cc0 cc1 cc2 cc3 cc4 cc5 cc6 cc7 cc8 cc9 cc10 cc11 cc12 cc13 cc14 cc15 cc16 cc17 zz0 zz1 zz2 zz3 zz4 zz5 HR1 HR2 HR3 HR4 HR5
      have cc0 := d0
      have cc1 := d1
      have cc2 := d2
      have cc3 := d3
      have cc4 := d4
      have cc5 := d5
      have cc6 := d6
      have cc7 := d7
      have cc8 := d8
      have cc9 := d9
      have cc10 := d10
      have cc11 := d11
      have cc12 := d12
      have cc13 := d13
      have cc14 := d14
      have cc15 := d15
      have cc16 := d16
      have cc17 := d17
      have zz0 := y0
      have zz1 := y1
      have zz2 := y2
      have zz3 := y3
      have zz4 := y4
      have zz5 := y5
      have HR1 := q0
      have HR2 := q1
      have HR3 := q2
      have HR4 := q3
      have HR5 := q4
      have BB := BB1
      have sA := sA1
      clear BB1 sA1 d0 d1 d2 d3 d4 d5 d6 d7 d8 d9 d10 d11 d12 d13 d14 d15 d16 d17 y0 y1 y2 y3 y4 y5 q0 q1 q2 q3 q4
      have cc18 := kk0
      have cc19 := kk1
      have zz6 : P5 < wo.heap.size := by omega
      rw [← hP5]
      have k3P5 := k3
      clear k3 hW nb hP5 kk0 kk1
      clear k3P5
      refine (gs_same _ _ _ _ X5N X4N X5E X4E HEQ.out.1 HEQ.out.2.1 _ HR5.out HR4.out).mono ?_
      rintro e wp ⟨rfl, bz⟩
      have d0 : wp.cell? ⟨P0, 0, none⟩ = some (.slice ga n gc) := (Below.celz bz _ _ _ (by omega)).trans cc0
      have d1 : wp.cell? ⟨P0, 1, none⟩ = some (.slice gb m gd) := (Below.celz bz _ _ _ (by omega)).trans cc1
      have d2 : wp.cell? ⟨O0, 0, none⟩ = some (.int .i64 k) := (Below.celz bz _ _ _ (by omega)).trans cc2
      have d3 : wp.cell? ⟨O0, 1, none⟩ = some (.int .i64 nl) := (Below.celz bz _ _ _ (by omega)).trans cc3
      have d4 : wp.cell? ⟨O0, 2, none⟩ = some (.int .i64 nn) := (Below.celz bz _ _ _ (by omega)).trans cc4
      have d5 : wp.cell? ⟨O0, 3, none⟩ = some (.int .i64 l) := (Below.celz bz _ _ _ (by omega)).trans cc5
      have d6 : wp.cell? ⟨O0, 4, none⟩ = some (.int .i64 al) := (Below.celz bz _ _ _ (by omega)).trans cc6
      have d7 : wp.cell? ⟨O0, 5, none⟩ = some (.int .i64 an) := (Below.celz bz _ _ _ (by omega)).trans cc7
      have d8 : wp.cell? ⟨O0, 6, none⟩ = some (.int .i64 bl) := (Below.celz bz _ _ _ (by omega)).trans cc8
      have d9 : wp.cell? ⟨O0, 7, none⟩ = some (.int .i64 bn) := (Below.celz bz _ _ _ (by omega)).trans cc9
      have d10 : wp.cell? ⟨P1, 0, none⟩ = some (.slice xa1 p1 xc1) := (Below.celz bz _ _ _ (by omega)).trans cc10
      have d11 : wp.cell? ⟨P1, 1, none⟩ = some (.slice xb1 r1 xd1) := (Below.celz bz _ _ _ (by omega)).trans cc11
      have d12 : wp.cell? ⟨P2, 0, none⟩ = some (.slice xa2 p2 xc2) := (Below.celz bz _ _ _ (by omega)).trans cc12
      have d13 : wp.cell? ⟨P2, 1, none⟩ = some (.slice xb2 r2 xd2) := (Below.celz bz _ _ _ (by omega)).trans cc13
      have d14 : wp.cell? ⟨P3, 0, none⟩ = some (.slice xa3 p3 xc3) := (Below.celz bz _ _ _ (by omega)).trans cc14
      have d15 : wp.cell? ⟨P3, 1, none⟩ = some (.slice xb3 r3 xd3) := (Below.celz bz _ _ _ (by omega)).trans cc15
      have d16 : wp.cell? ⟨P4, 0, none⟩ = some (.slice xa4 p4 xc4) := (Below.celz bz _ _ _ (by omega)).trans cc16
      have d17 : wp.cell? ⟨P4, 1, none⟩ = some (.slice xb4 r4 xd4) := (Below.celz bz _ _ _ (by omega)).trans cc17
      have d18 : wp.cell? ⟨P5, 0, none⟩ = some (.slice xa5 p5 xc5) := (Below.celz bz _ _ _ (by omega)).trans cc18
      have d19 : wp.cell? ⟨P5, 1, none⟩ = some (.slice xb5 r5 xd5) := (Below.celz bz _ _ _ (by omega)).trans cc19
      have y0 : P0 < wp.heap.size := by have := Below.size bz; omega
      have y1 : O0 < wp.heap.size := by have := Below.size bz; omega
      have y2 : P1 < wp.heap.size := by have := Below.size bz; omega
      have y3 : P2 < wp.heap.size := by have := Below.size bz; omega
      have y4 : P3 < wp.heap.size := by have := Below.size bz; omega
      have y5 : P4 < wp.heap.size := by have := Below.size bz; omega
      have y6 : P5 < wp.heap.size := by have := Below.size bz; omega
      have BB1 : Below A wa wp := BB.trans (bz.mono (by omega))
      have sA1 : A ≤ wp.heap.size := by have := Below.size bz; omega
      have q0 : Hid (GrAt wp (.slice xa1 p1 xc1) (.slice xb1 r1 xd1) X1N X1E) := HR1.out.keep bz
      have q1 : Hid (GrAt wp (.slice xa2 p2 xc2) (.slice xb2 r2 xd2) X1N X1E) := HR2.out.keep bz
      have q2 : Hid (GrAt wp (.slice xa3 p3 xc3) (.slice xb3 r3 xd3) X3N X3E) := HR3.out.keep bz
      have q3 : Hid (GrAt wp (.slice xa4 p4 xc4) (.slice xb4 r4 xd4) X4N X4E) := HR4.out.keep bz
      have q4 : Hid (GrAt wp (.slice xa5 p5 xc5) (.slice xb5 r5 xd5) X5N X5E) := HR5.out.keep bz
      clear BB sA cc0 cc1 cc2 cc3 cc4 cc5 cc6 cc7 cc8 cc9 cc10 cc11 cc12 cc13 cc14 cc15 cc16 cc17 cc18 cc19 zz0 zz1 zz2 zz3 zz4 zz5 zz6 HR1 HR2 HR3 HR4 HR5
      have cc0 := d0
      have cc1 := d1
      have cc2 := d2
      have cc3 := d3
      have cc4 := d4
      have cc5 := d5
      have cc6 := d6
      have cc7 := d7
      have cc8 := d8
      have cc9 := d9
      have cc10 := d10
      have cc11 := d11
      have cc12 := d12
      have cc13 := d13
      have cc14 := d14
      have cc15 := d15
      have cc16 := d16
      have cc17 := d17
      have cc18 := d18
      have cc19 := d19
      have zz0 := y0
      have zz1 := y1
      have zz2 := y2
      have zz3 := y3
      have zz4 := y4
      have zz5 := y5
      have zz6 := y6
      have HR1 := q0
      have HR2 := q1
      have HR3 := q2
      have HR4 := q3
      have HR5 := q4
      have BB := BB1
      have sA := sA1
      clear BB1 sA1 d0 d1 d2 d3 d4 d5 d6 d7 d8 d9 d10 d11 d12 d13 d14 d15 d16 d17 d18 d19 y0 y1 y2 y3 y4 y5 y6 q0 q1 q2 q3 q4
      clear bz
      go_wp2_with fail
      go_ret
      exact ⟨rfl, (HV.out _ BB).2.2.1⟩

theorem door_met (os : Os) (args : Array Value) : laidMetH Tryz.prog Rows.fnGraphSeenRow.laid ((World.doorLaid Tryz.prog 85 os).forCall (fun _ _ => 0) ⟨#[], args, []⟩).memory :=
  laidMetH_of_parts3 (fuel := 8) (laidMet_of_run' 8 (by kernel_rfl) (by kernel_rfl)) (by kernel_rfl) (by kernel_rfl)

set_option maxRecDepth 100000 in
set_option maxHeartbeats 1000000 in
theorem lifted (os : Os) (started : os.Started) (H : Type) (enc : TypeId × Value → H) :
    ReturnsInHanded {} Tryz.checked os 4 .any (fun w args => (Rows.fnGraphSeenSpec.pre enc Tryz.prog Tryz.f4 [] false w args ∧ laidMetH Tryz.prog Rows.fnGraphSeenRow.laid w) ∧ sizedMet enc Tryz.prog Tryz.f4 (OpenSpec.ofChange Rows.fnGraphSeenSpec) false w args)
      (Rows.fnGraphSeenSpec.post enc Tryz.prog Tryz.f4 false true false false) := by
  refine returnsInHanded_of_change_and (C := Tryz.checked) (X := fun w _ => laidMetH Tryz.prog Rows.fnGraphSeenRow.laid w) (fun _ _ _ hh h => h.of_heap hh) own started (by kernel_rfl) Tryz.func4
    (ChangeSpec.witness_shaped (enc := enc) (C := Tryz.checked) (os := os) (X := fun w _ => laidMetH Tryz.prog Rows.fnGraphSeenRow.laid w) false (World.doorLaid Tryz.prog 85 os) #[.slice none 0 0, .slice none 0 0] 8 rfl (World.shaped_of_RefB (by kernel_rfl) (by kernel_rfl)) (by kernel_rfl) (by kernel_rfl) (by kernel_rfl) (door_met os _)) ?_
  intro W base args ds gs before hval0 hW _ _ hL _
  have hval : ∀ (j : Nat) t v, Tryz.f4.params[j]? = some t → args[j]? = some v → Value.okWide Tryz.prog W .any base t v := hval0
  have hW' := hW
  obtain ⟨p, q, hA0, hV0, rfl, hfz, hnd⟩ := hW
  have hA : DataW.TrodAll enc Tryz.prog W 0 (fun _ => true) true Tryz.f4.params.toList args.toList ds p := hA0
  have hV : DataW.TrodVars enc Tryz.prog W (fun _ => true) ["loop.example/hagioscope/impl.errForm", "loop.example/hagioscope/impl.errThere", "loop.example/hagioscope/impl.errFull", "loop.example/hagioscope/impl.errNone"] gs q := hV0
  rw [Tryz.params4] at hA hval
  obtain ⟨v0, vs0, d0, ds0, p0, q0, hargs, rfl, rfl, h0, r0⟩ := trodAll_cons hA
  obtain ⟨v1, vs1, d1, ds1, p1, q1, rfl, rfl, rfl, h1, r1⟩ := trodAll_cons r0
  obtain ⟨rfl, rfl, rfl⟩ := trodAll_nil r1
  obtain rfl : args = #[v0, v1] := by cases args; simp_all
  have kr0 := h0
  have lt0 : ∀ x ∈ p0, x.block < W.heap.size := by obtain ⟨m, hm⟩ := kr0; exact DataW.trod_lt m _ _ _ hm
  have kr1 := h1
  have lt1 : ∀ x ∈ p1, x.block < W.heap.size := by obtain ⟨m, hm⟩ := kr1; exact DataW.trod_lt m _ _ _ hm
  obtain ⟨a0, len0, cap0, rfl⟩ := okWide_slice Tryz.underlying22 (hval 0 22 v0 rfl rfl)
  obtain ⟨z0, w0⟩ : ∃ zs, IsRow .u8 W a0 len0 cap0 zs := by
    obtain ⟨fuel, hf⟩ := h0
    rcases open_ints Tryz.underlying22 Tryz.underlying5 (by kernel_rfl) hf with ⟨hcs, _⟩ | ⟨x, l, c, zs, hcs, _, hl, hm, hz, _, hcell, hwz⟩
    · simp [Value.cells] at hcs
      obtain ⟨rfl, rfl, rfl⟩ := hcs
      exact ⟨[], .inl ⟨rfl, rfl, rfl, rfl⟩⟩
    · simp [Value.cells] at hcs
      obtain ⟨rfl, rfl, rfl⟩ := hcs
      exact ⟨zs, .inr ⟨_, rfl, hl, hm, by simpa using hz, hcell, hwz⟩⟩
  obtain ⟨a1, len1, cap1, rfl⟩ := okWide_slice Tryz.underlying22 (hval 1 22 v1 rfl rfl)
  obtain ⟨z1, w1⟩ : ∃ zs, IsRow .u8 W a1 len1 cap1 zs := by
    obtain ⟨fuel, hf⟩ := h1
    rcases open_ints Tryz.underlying22 Tryz.underlying5 (by kernel_rfl) hf with ⟨hcs, _⟩ | ⟨x, l, c, zs, hcs, _, hl, hm, hz, _, hcell, hwz⟩
    · simp [Value.cells] at hcs
      obtain ⟨rfl, rfl, rfl⟩ := hcs
      exact ⟨[], .inl ⟨rfl, rfl, rfl, rfl⟩⟩
    · simp [Value.cells] at hcs
      obtain ⟨rfl, rfl, rfl⟩ := hcs
      exact ⟨zs, .inr ⟨_, rfl, hl, hm, by simpa using hz, hcell, hwz⟩⟩
  have hI := held_of hL
  have hE : Errs W := errs_of hI
  obtain ⟨aF, aT, aN, aU, hF⟩ := four_of hL
  obtain ⟨g1, g2, g3, g4, rfl⟩ : ∃ g1 g2 g3 g4, gs = [g1, g2, g3, g4] := by
    have hlen := vars_len _ _ _ hV
    match gs, hlen with
    | [g1, g2, g3, g4], _ => exact ⟨g1, g2, g3, g4, rfl⟩
  clear hA0 hV0 hval0
  refine (walk a0 len0 cap0 z0 a1 len1 cap1 z1 W w0 w1 aF aT aN aU hF hE).mono fun e W' ⟨he, bel⟩ => ?_
  subst he
  exact ⟨_, rfl, _, _, _, [], _, _, hW', trodAll_mk1 (shut_bool Tryz.underlying4 _), (trodAll_cons_mk (Below.trod laidOut (by kernel_rfl) (of_decide_eq_true (by kernel_rfl)) kr0 bel lt0) (trodAll_cons_mk (Below.trod laidOut (by kernel_rfl) (of_decide_eq_true (by kernel_rfl)) kr1 bel lt1) trodAll_mk0)), vars_keep Tryz.underlying52 bel _ _ _ hV hI, bel.frame _, fun h => by cases h⟩

theorem said : Rows.FnGraphSeenSaid :=
  OpenClaim.holds_of_wide 4 Tryz.f4 rfl rfl rfl rfl rfl rfl rfl ⟨rfl, rfl, rfl, rfl, rfl⟩ rfl rfl rfl rfl rfl (by kernel_rfl) Tryz.func4 (by kernel_rfl)
    (of_decide_eq_true (by kernel_rfl)) (by unfold Func.isWrapper; first | (rw [if_pos (by decide +kernel)]; kernel_rfl) | (rw [if_neg (by decide +kernel)]; exact ⟨rfl, rfl⟩))
    (fun os started H enc _ => lifted os started H enc)

theorem plain (f : FuncId) (fn : Func) (hf : Tryz.pinned.checked.prog.funcNamed "loop.example/hagioscope/laws.FnGraphSeen" = some f) (hfn : Tryz.pinned.checked.prog.funcs[f]? = some fn) :
    true = Tryz.pinned.checked.prog.looks [] ∧ ∀ (j : Nat) t, fn.params[j]? = some t → Tryz.pinned.checked.prog.wantsStandIn t = false := by
  obtain rfl : f = 4 := Option.some.inj ((show Tryz.prog.funcNamed "loop.example/hagioscope/laws.FnGraphSeen" = some 4 by kernel_rfl).symm.trans hf) |>.symm
  obtain rfl : fn = Tryz.f4 := (Option.some.inj (Tryz.func4.symm.trans hfn)).symm
  refine ⟨by kernel_rfl, fun j t ht => ?_⟩
  rw [Tryz.params4] at ht
  obtain rfl : t = 22 := by simpa using Array.mem_of_getElem? ht
  · exact (show Tryz.prog.wantsStandIn 22 = false by kernel_rfl)

end Go.Proofs.YtkhfbaggkmeahaaGreatDoor.fnGraphSeen
namespace Go.Proofs.YtkhfbaggkmeahaaGreatDoor
theorem fnGraphSeen_card : Rows.FnGraphSeenCardSaid :=
  Claim7.holds_tied_plain_at .later [] _ _ _ _ fnGraphSeen.said (fun _ h => by cases h) (by kernel_rfl) (fun _ h => by cases h) fnGraphSeen_row_tie rfl ⟨rfl, rfl⟩ (by kernel_rfl) rfl fnGraphSeen.plain (by kernel_rfl)
#print axioms fnGraphSeen_card
end Go.Proofs.YtkhfbaggkmeahaaGreatDoor
