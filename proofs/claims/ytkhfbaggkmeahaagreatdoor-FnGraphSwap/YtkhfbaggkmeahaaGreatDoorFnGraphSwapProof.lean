/-
  Independent additions commute.
-/
import Derived.Test.YtkhfbaggkmeahaaGreatDoorCards
import Derived.Test.YtkhfbaggkmeahaaGreatDoorTie
import Derived.Test.YtkhfbaggkmeahaaGreatDoorGdl
import Derived.Test.YtkhfbaggkmeahaaGreatDoorGdw
import Derived.Test.YtkhfbaggkmeahaaGreatDoorDgr
import Derived.Test.YtkhfbaggkmeahaaGreatDoorErs
import Derived.Test.YtkhfbaggkmeahaaGreatDoorErf
import Derived.WalkKit
import Derived.ProofKit
import Derived.OpenShut
import Derived.ShutString
import Derived.ChangeOld
import Derived.Below
import Derived.Carry
import Derived.Handy
import Derived.Deep.RegionHeld3
import Derived.LaidMore
import Derived.Deep.DeepCutAuto
namespace Go.Proofs.YtkhfbaggkmeahaaGreatDoor.fnGraphSwap
open Go.Proofs.YtkhfbaggkmeahaaGreatDoor.Lab
open Go.ChangeShapes Go.WideShapes Go.ChangeAt Go.RowKit
open Go.ChangeMaps (open_string shut_string)
set_option linter.unusedVariables false

theorem own : ownKnob Tryz.prog.godebug = none := by kernel_rfl
/-- A row of numbers that came in: nil, or so many cells. -/
def IsRow (k : IntKind) (w : World) (a : Option Addr) (len cap : Nat) (zs : List Int) : Prop :=
  (a = none ∧ len = 0 ∧ cap = 0 ∧ zs = []) ∨ ∃ x, a = some x ∧ len ≤ cap ∧ cap ≤ maxLen ∧ zs.length = cap ∧ (∀ i, i < zs.length → w.cell? (x.add i) = some (.int k (zs.getD i 0))) ∧ ∀ n ∈ zs, (Lit.int k n).wf = true

set_option maxRecDepth 16000 in
set_option maxHeartbeats 8000000 in
theorem walk (a0 : Option Addr) (len0 cap0 : Nat) (z0 : List Int) (a1 : Option Addr) (len1 cap1 : Nat) (z1 : List Int) (w : World) (w0 : IsRow .u8 w a0 len0 cap0 z0) (w1 : IsRow .u8 w a1 len1 cap1 z1) (aF aT aN aU : Addr) (hF : Four w aF aT aN aU) (hE : Errs w) :
    Calls Tryz.prog 7 #[.slice a0 len0 cap0, .slice a1 len1 cap1] w fun e w' => e = .returned (.bool true) ∧ Below w.heap.size w w' := by
  have HF : Hid (Errs w) := hE
  clear hE
  by_cases hlen0 : len0 > 1048576
  · go_enter Tryz.func7, Tryz.ntmps7
    go_wp2
    go_ret
    exact ⟨rfl, Below.refl _ _⟩
  by_cases hlen1 : len1 > 1048576
  · go_enter Tryz.func7, Tryz.ntmps7
    go_wp2
    go_ret
    exact ⟨rfl, Below.refl _ _⟩
  have k0 : CodeAt w a0 len0 cap0 z0 := code_of w0
  clear w0
  have k1 : CodeAt w a1 len1 cap1 z1 := code_of w1
  clear w1
  go_enter Tryz.func7, Tryz.ntmps7
  go_wp2_with fail
  have HFF : Hid (Four w aF aT aN aU) := hF
  clear hF
  refine (drawGraphDo _ _ _ _ _ k0).mono ?_
  rintro e wa ⟨v1, v2, ns, es, k, nl, nn, l, al, an, bl, bn, rfl, hg, ba⟩
  unfold OpVal
  obtain ⟨ga, gc, gb, gd, rfl, rfl⟩ := hg.form
  obtain ⟨n, hn⟩ : ∃ n, n = ns.length := ⟨_, rfl⟩
  obtain ⟨m, hm⟩ : ∃ m, m = es.length := ⟨_, rfl⟩
  have HN : Hid (n = ns.length ∧ m = es.length) := ⟨hn, hm⟩
  have ln : n ≤ 200 := by rw [hn]; exact hg.2.2.1
  have lm : m ≤ 200 := by rw [hm]; exact hg.2.2.2
  rw [← hn, ← hm] at hg ⊢
  obtain ⟨A, hA⟩ : ∃ t, t = wa.heap.size := ⟨_, rfl⟩
  have HA : Hid (A = wa.heap.size) := hA
  have BB : Below A wa wa := Below.refl _ _
  have sA : A ≤ wa.heap.size := by omega
  have HV : Hid (∀ W, Below A wa W → GrAt W (.slice ga n gc) (.slice gb m gd) ns es ∧ Four W aF aT aN aU ∧ Below w.heap.size w W ∧ Errs W ∧ CodeAt W a1 len1 cap1 z1) := fun W h => by
    rw [HA.out] at h
    exact ⟨hg.keep h, (HFF.out.keep ba).keep h, ba.trans (h.mono ba.size), (HF.out.keep ba).keep h, (k1.below ba).below h⟩
  clear hg ba hn hm HF HFF hA
  clear k0 k1
  go_wp2_with fail
  obtain ⟨P0, hP0⟩ : ∃ t, t = wa.heap.size := ⟨_, rfl⟩
  generalize hW : wa.alloc (.cells #[.slice ga n gc, .slice gb m gd] 26) = wb
  have nb : Below wa.heap.size wa wb := by rw [← hW]; exact (Below.refl _ _).alloc (Nat.le_refl _) _
  have k3 : wb.heap.size = P0 + 1 := by rw [← hW, hP0]; simp
  have kk0 : wb.cell? ⟨P0, 0, none⟩ = some (.slice ga n gc) := by rw [← hW, hP0]; simp [go_sem]
  have kk1 : wb.cell? ⟨P0, 1, none⟩ = some (.slice gb m gd) := by rw [← hW, hP0]; simp [go_sem]
  have oP0A : A ≤ P0 := by rw [hP0]; exact sA
  have BB1 : Below A wa wb := BB.trans (nb.mono (by omega))
  have sA1 : A ≤ wb.heap.size := by have := Below.size nb; omega
  clear BB sA   
  have BB := BB1
  have sA := sA1
  clear BB1 sA1   
  have cc0 := kk0
  have cc1 := kk1
  have zz0 : P0 < wb.heap.size := by omega
  rw [← hP0]
  have k3P0 := k3
  clear k3 hW nb hP0 kk0 kk1
  rw [k3P0.symm]
  obtain ⟨O0, hO0⟩ : ∃ t, t = wb.heap.size := ⟨_, rfl⟩
  generalize hW : wb.alloc (.cells #[.int .i64 k, .int .i64 nl, .int .i64 nn, .int .i64 l, .int .i64 al, .int .i64 an, .int .i64 bl, .int .i64 bn] 32) = wb2
  have nb : Below wb.heap.size wb wb2 := by rw [← hW]; exact (Below.refl _ _).alloc (Nat.le_refl _) _
  have k3 : wb2.heap.size = O0 + 1 := by rw [← hW, hO0]; simp
  have kk0 : wb2.cell? ⟨O0, 0, none⟩ = some (.int .i64 k) := by rw [← hW, hO0]; simp [go_sem]
  have kk1 : wb2.cell? ⟨O0, 1, none⟩ = some (.int .i64 nl) := by rw [← hW, hO0]; simp [go_sem]
  have kk2 : wb2.cell? ⟨O0, 2, none⟩ = some (.int .i64 nn) := by rw [← hW, hO0]; simp [go_sem]
  have kk3 : wb2.cell? ⟨O0, 3, none⟩ = some (.int .i64 l) := by rw [← hW, hO0]; simp [go_sem]
  have kk4 : wb2.cell? ⟨O0, 4, none⟩ = some (.int .i64 al) := by rw [← hW, hO0]; simp [go_sem]
  have kk5 : wb2.cell? ⟨O0, 5, none⟩ = some (.int .i64 an) := by rw [← hW, hO0]; simp [go_sem]
  have kk6 : wb2.cell? ⟨O0, 6, none⟩ = some (.int .i64 bl) := by rw [← hW, hO0]; simp [go_sem]
  have kk7 : wb2.cell? ⟨O0, 7, none⟩ = some (.int .i64 bn) := by rw [← hW, hO0]; simp [go_sem]
  have oO0A : A ≤ O0 := by rw [hO0]; exact sA
  have oO00 : P0 < O0 := by rw [hO0]; exact zz0
  have d0 : wb2.cell? ⟨P0, 0, none⟩ = some (.slice ga n gc) := (Below.celz nb _ _ _ (by omega)).trans cc0
  have d1 : wb2.cell? ⟨P0, 1, none⟩ = some (.slice gb m gd) := (Below.celz nb _ _ _ (by omega)).trans cc1
  have y0 : P0 < wb2.heap.size := by have := Below.size nb; omega
  have BB1 : Below A wa wb2 := BB.trans (nb.mono (by omega))
  have sA1 : A ≤ wb2.heap.size := by have := Below.size nb; omega
  clear BB sA cc0 cc1 zz0 
  have cc0 := d0
  have cc1 := d1
  have zz0 := y0
  have BB := BB1
  have sA := sA1
  clear BB1 sA1 d0 d1 y0 
  have cc2 := kk0
  have cc3 := kk1
  have cc4 := kk2
  have cc5 := kk3
  have cc6 := kk4
  have cc7 := kk5
  have cc8 := kk6
  have cc9 := kk7
  have zz1 : O0 < wb2.heap.size := by omega
  rw [← hO0]
  have k3O0 := k3
  clear k3 hW nb hO0 kk0 kk1 kk2 kk3 kk4 kk5 kk6 kk7
  clear k3P0 k3O0
  refine (drawGraphDo _ _ _ _ _ (HV.out _ BB).2.2.2.2).mono ?_
  rintro e wc ⟨v1, v2, ms, fs, k', nl', nn', l', al', an', bl', bn', rfl, hg, bz⟩
  have d0 : wc.cell? ⟨P0, 0, none⟩ = some (.slice ga n gc) := (Below.celz bz _ _ _ (by omega)).trans cc0
  have d1 : wc.cell? ⟨P0, 1, none⟩ = some (.slice gb m gd) := (Below.celz bz _ _ _ (by omega)).trans cc1
  have d2 : wc.cell? ⟨O0, 0, none⟩ = some (.int .i64 k) := (Below.celz bz _ _ _ (by omega)).trans cc2
  have d3 : wc.cell? ⟨O0, 1, none⟩ = some (.int .i64 nl) := (Below.celz bz _ _ _ (by omega)).trans cc3
  have d4 : wc.cell? ⟨O0, 2, none⟩ = some (.int .i64 nn) := (Below.celz bz _ _ _ (by omega)).trans cc4
  have d5 : wc.cell? ⟨O0, 3, none⟩ = some (.int .i64 l) := (Below.celz bz _ _ _ (by omega)).trans cc5
  have d6 : wc.cell? ⟨O0, 4, none⟩ = some (.int .i64 al) := (Below.celz bz _ _ _ (by omega)).trans cc6
  have d7 : wc.cell? ⟨O0, 5, none⟩ = some (.int .i64 an) := (Below.celz bz _ _ _ (by omega)).trans cc7
  have d8 : wc.cell? ⟨O0, 6, none⟩ = some (.int .i64 bl) := (Below.celz bz _ _ _ (by omega)).trans cc8
  have d9 : wc.cell? ⟨O0, 7, none⟩ = some (.int .i64 bn) := (Below.celz bz _ _ _ (by omega)).trans cc9
  have y0 : P0 < wc.heap.size := by have := Below.size bz; omega
  have y1 : O0 < wc.heap.size := by have := Below.size bz; omega
  have BB1 : Below A wa wc := BB.trans (bz.mono (by omega))
  have sA1 : A ≤ wc.heap.size := by have := Below.size bz; omega
  clear BB sA cc0 cc1 cc2 cc3 cc4 cc5 cc6 cc7 cc8 cc9 zz0 zz1 
  have cc0 := d0
  have cc1 := d1
  have cc2 := d2
  have cc3 := d3
  have cc4 := d4
  have cc5 := d5
  have cc6 := d6
  have cc7 := d7
  have cc8 := d8
  have cc9 := d9
  have zz0 := y0
  have zz1 := y1
  have BB := BB1
  have sA := sA1
  clear BB1 sA1 d0 d1 d2 d3 d4 d5 d6 d7 d8 d9 y0 y1 
  clear bz
  unfold OpVal
  obtain ⟨ha, hc, hb, hd, rfl, rfl⟩ := hg.form
  clear hg
  go_wp2_with fail
  obtain ⟨P1, hP1⟩ : ∃ t, t = wc.heap.size := ⟨_, rfl⟩
  generalize hW : wc.alloc (.cells #[.slice ha ms.length hc, .slice hb fs.length hd] 26) = wc1
  have nb : Below wc.heap.size wc wc1 := by rw [← hW]; exact (Below.refl _ _).alloc (Nat.le_refl _) _
  have k3 : wc1.heap.size = P1 + 1 := by rw [← hW, hP1]; simp
  have kk0 : wc1.cell? ⟨P1, 0, none⟩ = some (.slice ha ms.length hc) := by rw [← hW, hP1]; simp [go_sem]
  have kk1 : wc1.cell? ⟨P1, 1, none⟩ = some (.slice hb fs.length hd) := by rw [← hW, hP1]; simp [go_sem]
  have oP1A : A ≤ P1 := by rw [hP1]; exact sA
  have oP10 : P0 < P1 := by rw [hP1]; exact zz0
  have oP11 : O0 < P1 := by rw [hP1]; exact zz1
  have d0 : wc1.cell? ⟨P0, 0, none⟩ = some (.slice ga n gc) := (Below.celz nb _ _ _ (by omega)).trans cc0
  have d1 : wc1.cell? ⟨P0, 1, none⟩ = some (.slice gb m gd) := (Below.celz nb _ _ _ (by omega)).trans cc1
  have d2 : wc1.cell? ⟨O0, 0, none⟩ = some (.int .i64 k) := (Below.celz nb _ _ _ (by omega)).trans cc2
  have d3 : wc1.cell? ⟨O0, 1, none⟩ = some (.int .i64 nl) := (Below.celz nb _ _ _ (by omega)).trans cc3
  have d4 : wc1.cell? ⟨O0, 2, none⟩ = some (.int .i64 nn) := (Below.celz nb _ _ _ (by omega)).trans cc4
  have d5 : wc1.cell? ⟨O0, 3, none⟩ = some (.int .i64 l) := (Below.celz nb _ _ _ (by omega)).trans cc5
  have d6 : wc1.cell? ⟨O0, 4, none⟩ = some (.int .i64 al) := (Below.celz nb _ _ _ (by omega)).trans cc6
  have d7 : wc1.cell? ⟨O0, 5, none⟩ = some (.int .i64 an) := (Below.celz nb _ _ _ (by omega)).trans cc7
  have d8 : wc1.cell? ⟨O0, 6, none⟩ = some (.int .i64 bl) := (Below.celz nb _ _ _ (by omega)).trans cc8
  have d9 : wc1.cell? ⟨O0, 7, none⟩ = some (.int .i64 bn) := (Below.celz nb _ _ _ (by omega)).trans cc9
  have y0 : P0 < wc1.heap.size := by have := Below.size nb; omega
  have y1 : O0 < wc1.heap.size := by have := Below.size nb; omega
  have BB1 : Below A wa wc1 := BB.trans (nb.mono (by omega))
  have sA1 : A ≤ wc1.heap.size := by have := Below.size nb; omega
  clear BB sA cc0 cc1 cc2 cc3 cc4 cc5 cc6 cc7 cc8 cc9 zz0 zz1 
  have cc0 := d0
  have cc1 := d1
  have cc2 := d2
  have cc3 := d3
  have cc4 := d4
  have cc5 := d5
  have cc6 := d6
  have cc7 := d7
  have cc8 := d8
  have cc9 := d9
  have zz0 := y0
  have zz1 := y1
  have BB := BB1
  have sA := sA1
  clear BB1 sA1 d0 d1 d2 d3 d4 d5 d6 d7 d8 d9 y0 y1 
  have cc10 := kk0
  have cc11 := kk1
  have zz2 : P1 < wc1.heap.size := by omega
  rw [← hP1]
  have k3P1 := k3
  clear k3 hW nb hP1 kk0 kk1
  rw [k3P1.symm]
  obtain ⟨O1, hO1⟩ : ∃ t, t = wc1.heap.size := ⟨_, rfl⟩
  generalize hW : wc1.alloc (.cells #[.int .i64 k', .int .i64 nl', .int .i64 nn', .int .i64 l', .int .i64 al', .int .i64 an', .int .i64 bl', .int .i64 bn'] 32) = wc2
  have nb : Below wc1.heap.size wc1 wc2 := by rw [← hW]; exact (Below.refl _ _).alloc (Nat.le_refl _) _
  have k3 : wc2.heap.size = O1 + 1 := by rw [← hW, hO1]; simp
  have kk0 : wc2.cell? ⟨O1, 0, none⟩ = some (.int .i64 k') := by rw [← hW, hO1]; simp [go_sem]
  have kk1 : wc2.cell? ⟨O1, 1, none⟩ = some (.int .i64 nl') := by rw [← hW, hO1]; simp [go_sem]
  have kk2 : wc2.cell? ⟨O1, 2, none⟩ = some (.int .i64 nn') := by rw [← hW, hO1]; simp [go_sem]
  have kk3 : wc2.cell? ⟨O1, 3, none⟩ = some (.int .i64 l') := by rw [← hW, hO1]; simp [go_sem]
  have kk4 : wc2.cell? ⟨O1, 4, none⟩ = some (.int .i64 al') := by rw [← hW, hO1]; simp [go_sem]
  have kk5 : wc2.cell? ⟨O1, 5, none⟩ = some (.int .i64 an') := by rw [← hW, hO1]; simp [go_sem]
  have kk6 : wc2.cell? ⟨O1, 6, none⟩ = some (.int .i64 bl') := by rw [← hW, hO1]; simp [go_sem]
  have kk7 : wc2.cell? ⟨O1, 7, none⟩ = some (.int .i64 bn') := by rw [← hW, hO1]; simp [go_sem]
  have oO1A : A ≤ O1 := by rw [hO1]; exact sA
  have oO10 : P0 < O1 := by rw [hO1]; exact zz0
  have oO11 : O0 < O1 := by rw [hO1]; exact zz1
  have oO12 : P1 < O1 := by rw [hO1]; exact zz2
  have d0 : wc2.cell? ⟨P0, 0, none⟩ = some (.slice ga n gc) := (Below.celz nb _ _ _ (by omega)).trans cc0
  have d1 : wc2.cell? ⟨P0, 1, none⟩ = some (.slice gb m gd) := (Below.celz nb _ _ _ (by omega)).trans cc1
  have d2 : wc2.cell? ⟨O0, 0, none⟩ = some (.int .i64 k) := (Below.celz nb _ _ _ (by omega)).trans cc2
  have d3 : wc2.cell? ⟨O0, 1, none⟩ = some (.int .i64 nl) := (Below.celz nb _ _ _ (by omega)).trans cc3
  have d4 : wc2.cell? ⟨O0, 2, none⟩ = some (.int .i64 nn) := (Below.celz nb _ _ _ (by omega)).trans cc4
  have d5 : wc2.cell? ⟨O0, 3, none⟩ = some (.int .i64 l) := (Below.celz nb _ _ _ (by omega)).trans cc5
  have d6 : wc2.cell? ⟨O0, 4, none⟩ = some (.int .i64 al) := (Below.celz nb _ _ _ (by omega)).trans cc6
  have d7 : wc2.cell? ⟨O0, 5, none⟩ = some (.int .i64 an) := (Below.celz nb _ _ _ (by omega)).trans cc7
  have d8 : wc2.cell? ⟨O0, 6, none⟩ = some (.int .i64 bl) := (Below.celz nb _ _ _ (by omega)).trans cc8
  have d9 : wc2.cell? ⟨O0, 7, none⟩ = some (.int .i64 bn) := (Below.celz nb _ _ _ (by omega)).trans cc9
  have d10 : wc2.cell? ⟨P1, 0, none⟩ = some (.slice ha ms.length hc) := (Below.celz nb _ _ _ (by omega)).trans cc10
  have d11 : wc2.cell? ⟨P1, 1, none⟩ = some (.slice hb fs.length hd) := (Below.celz nb _ _ _ (by omega)).trans cc11
  have y0 : P0 < wc2.heap.size := by have := Below.size nb; omega
  have y1 : O0 < wc2.heap.size := by have := Below.size nb; omega
  have y2 : P1 < wc2.heap.size := by have := Below.size nb; omega
  have BB1 : Below A wa wc2 := BB.trans (nb.mono (by omega))
  have sA1 : A ≤ wc2.heap.size := by have := Below.size nb; omega
  clear BB sA cc0 cc1 cc2 cc3 cc4 cc5 cc6 cc7 cc8 cc9 cc10 cc11 zz0 zz1 zz2 
  have cc0 := d0
  have cc1 := d1
  have cc2 := d2
  have cc3 := d3
  have cc4 := d4
  have cc5 := d5
  have cc6 := d6
  have cc7 := d7
  have cc8 := d8
  have cc9 := d9
  have cc10 := d10
  have cc11 := d11
  have zz0 := y0
  have zz1 := y1
  have zz2 := y2
  have BB := BB1
  have sA := sA1
  clear BB1 sA1 d0 d1 d2 d3 d4 d5 d6 d7 d8 d9 d10 d11 y0 y1 y2 
  have cc12 := kk0
  have cc13 := kk1
  have cc14 := kk2
  have cc15 := kk3
  have cc16 := kk4
  have cc17 := kk5
  have cc18 := kk6
  have cc19 := kk7
  have zz3 : O1 < wc2.heap.size := by omega
  rw [← hO1]
  have k3O1 := k3
  clear k3 hW nb hO1 kk0 kk1 kk2 kk3 kk4 kk5 kk6 kk7
  clear k3P1 k3O1
  obtain ⟨X1N, hX⟩ : ∃ t, t = gdN ns es k nl nn l al an bl bn := ⟨_, rfl⟩
  obtain ⟨X1E, hY⟩ : ∃ t, t = gdE ns es k nl nn l al an bl bn := ⟨_, rfl⟩
  obtain ⟨X1C, hZ⟩ : ∃ t, t = gdC ns es k nl nn l al an bl bn := ⟨_, rfl⟩
  have HX1 : Hid (X1N = gdN ns es k nl nn l al an bl bn ∧ X1E = gdE ns es k nl nn l al an bl bn ∧ X1C = gdC ns es k nl nn l al an bl bn) := ⟨hX, hY, hZ⟩
  clear hX hY hZ
  obtain ⟨X2N, hX⟩ : ∃ t, t = gdN ns es k' nl' nn' l' al' an' bl' bn' := ⟨_, rfl⟩
  obtain ⟨X2E, hY⟩ : ∃ t, t = gdE ns es k' nl' nn' l' al' an' bl' bn' := ⟨_, rfl⟩
  obtain ⟨X2C, hZ⟩ : ∃ t, t = gdC ns es k' nl' nn' l' al' an' bl' bn' := ⟨_, rfl⟩
  have HX2 : Hid (X2N = gdN ns es k' nl' nn' l' al' an' bl' bn' ∧ X2E = gdE ns es k' nl' nn' l' al' an' bl' bn' ∧ X2C = gdC ns es k' nl' nn' l' al' an' bl' bn') := ⟨hX, hY, hZ⟩
  clear hX hY hZ
  refine (gdo_impl _ _ ns es k nl nn l al an bl bn _ (HV.out _ BB).1 (HV.out _ BB).2.1).mono ?_
  rintro e wd ⟨u1, u2, rfl, og, bwd⟩
  have d0 : wd.cell? ⟨P0, 0, none⟩ = some (.slice ga n gc) := (Below.celz bwd _ _ _ (by omega)).trans cc0
  have d1 : wd.cell? ⟨P0, 1, none⟩ = some (.slice gb m gd) := (Below.celz bwd _ _ _ (by omega)).trans cc1
  have d2 : wd.cell? ⟨O0, 0, none⟩ = some (.int .i64 k) := (Below.celz bwd _ _ _ (by omega)).trans cc2
  have d3 : wd.cell? ⟨O0, 1, none⟩ = some (.int .i64 nl) := (Below.celz bwd _ _ _ (by omega)).trans cc3
  have d4 : wd.cell? ⟨O0, 2, none⟩ = some (.int .i64 nn) := (Below.celz bwd _ _ _ (by omega)).trans cc4
  have d5 : wd.cell? ⟨O0, 3, none⟩ = some (.int .i64 l) := (Below.celz bwd _ _ _ (by omega)).trans cc5
  have d6 : wd.cell? ⟨O0, 4, none⟩ = some (.int .i64 al) := (Below.celz bwd _ _ _ (by omega)).trans cc6
  have d7 : wd.cell? ⟨O0, 5, none⟩ = some (.int .i64 an) := (Below.celz bwd _ _ _ (by omega)).trans cc7
  have d8 : wd.cell? ⟨O0, 6, none⟩ = some (.int .i64 bl) := (Below.celz bwd _ _ _ (by omega)).trans cc8
  have d9 : wd.cell? ⟨O0, 7, none⟩ = some (.int .i64 bn) := (Below.celz bwd _ _ _ (by omega)).trans cc9
  have d10 : wd.cell? ⟨P1, 0, none⟩ = some (.slice ha ms.length hc) := (Below.celz bwd _ _ _ (by omega)).trans cc10
  have d11 : wd.cell? ⟨P1, 1, none⟩ = some (.slice hb fs.length hd) := (Below.celz bwd _ _ _ (by omega)).trans cc11
  have d12 : wd.cell? ⟨O1, 0, none⟩ = some (.int .i64 k') := (Below.celz bwd _ _ _ (by omega)).trans cc12
  have d13 : wd.cell? ⟨O1, 1, none⟩ = some (.int .i64 nl') := (Below.celz bwd _ _ _ (by omega)).trans cc13
  have d14 : wd.cell? ⟨O1, 2, none⟩ = some (.int .i64 nn') := (Below.celz bwd _ _ _ (by omega)).trans cc14
  have d15 : wd.cell? ⟨O1, 3, none⟩ = some (.int .i64 l') := (Below.celz bwd _ _ _ (by omega)).trans cc15
  have d16 : wd.cell? ⟨O1, 4, none⟩ = some (.int .i64 al') := (Below.celz bwd _ _ _ (by omega)).trans cc16
  have d17 : wd.cell? ⟨O1, 5, none⟩ = some (.int .i64 an') := (Below.celz bwd _ _ _ (by omega)).trans cc17
  have d18 : wd.cell? ⟨O1, 6, none⟩ = some (.int .i64 bl') := (Below.celz bwd _ _ _ (by omega)).trans cc18
  have d19 : wd.cell? ⟨O1, 7, none⟩ = some (.int .i64 bn') := (Below.celz bwd _ _ _ (by omega)).trans cc19
  have y0 : P0 < wd.heap.size := by have := Below.size bwd; omega
  have y1 : O0 < wd.heap.size := by have := Below.size bwd; omega
  have y2 : P1 < wd.heap.size := by have := Below.size bwd; omega
  have y3 : O1 < wd.heap.size := by have := Below.size bwd; omega
  have BB1 : Below A wa wd := BB.trans (bwd.mono (by omega))
  have sA1 : A ≤ wd.heap.size := by have := Below.size bwd; omega
  clear BB sA cc0 cc1 cc2 cc3 cc4 cc5 cc6 cc7 cc8 cc9 cc10 cc11 cc12 cc13 cc14 cc15 cc16 cc17 cc18 cc19 zz0 zz1 zz2 zz3 
  have cc0 := d0
  have cc1 := d1
  have cc2 := d2
  have cc3 := d3
  have cc4 := d4
  have cc5 := d5
  have cc6 := d6
  have cc7 := d7
  have cc8 := d8
  have cc9 := d9
  have cc10 := d10
  have cc11 := d11
  have cc12 := d12
  have cc13 := d13
  have cc14 := d14
  have cc15 := d15
  have cc16 := d16
  have cc17 := d17
  have cc18 := d18
  have cc19 := d19
  have zz0 := y0
  have zz1 := y1
  have zz2 := y2
  have zz3 := y3
  have BB := BB1
  have sA := sA1
  clear BB1 sA1 d0 d1 d2 d3 d4 d5 d6 d7 d8 d9 d10 d11 d12 d13 d14 d15 d16 d17 d18 d19 y0 y1 y2 y3 
  clear bwd
  rw [← HX1.out.1, ← HX1.out.2.1] at og
  rw [← HX1.out.2.2]
  obtain ⟨xa1, xc1, xb1, xd1, rfl, rfl⟩ := og.form
  obtain ⟨p1, hp⟩ : ∃ t, t = X1N.length := ⟨_, rfl⟩
  obtain ⟨r1, hr⟩ : ∃ t, t = X1E.length := ⟨_, rfl⟩
  have HL1 : Hid (p1 = X1N.length ∧ r1 = X1E.length) := ⟨hp, hr⟩
  have lp1 : p1 ≤ 200 := by rw [hp]; exact og.2.2.1
  have lr1 : r1 ≤ 200 := by rw [hr]; exact og.2.2.2
  rw [← hp, ← hr] at og ⊢
  clear hp hr
  have HR1 : Hid (GrAt wd (.slice xa1 p1 xc1) (.slice xb1 r1 xd1) X1N X1E) := og
  clear og
  go_wp2_with fail
  obtain ⟨P2, hP2⟩ : ∃ t, t = wd.heap.size := ⟨_, rfl⟩
  generalize hW : wd.alloc (.cells #[.slice xa1 p1 xc1, .slice xb1 r1 xd1] 26) = wd1
  have nb : Below wd.heap.size wd wd1 := by rw [← hW]; exact (Below.refl _ _).alloc (Nat.le_refl _) _
  have k3 : wd1.heap.size = P2 + 1 := by rw [← hW, hP2]; simp
  have kk0 : wd1.cell? ⟨P2, 0, none⟩ = some (.slice xa1 p1 xc1) := by rw [← hW, hP2]; simp [go_sem]
  have kk1 : wd1.cell? ⟨P2, 1, none⟩ = some (.slice xb1 r1 xd1) := by rw [← hW, hP2]; simp [go_sem]
  have HZ2 : Hid (Thaw wd1 P2) := by show Thaw _ _; rw [← hW, hP2]; exact Thaw.new _ _ _
  have oP2A : A ≤ P2 := by rw [hP2]; exact sA
  have oP20 : P0 < P2 := by rw [hP2]; exact zz0
  have oP21 : O0 < P2 := by rw [hP2]; exact zz1
  have oP22 : P1 < P2 := by rw [hP2]; exact zz2
  have oP23 : O1 < P2 := by rw [hP2]; exact zz3
  have d0 : wd1.cell? ⟨P0, 0, none⟩ = some (.slice ga n gc) := (Below.celz nb _ _ _ (by omega)).trans cc0
  have d1 : wd1.cell? ⟨P0, 1, none⟩ = some (.slice gb m gd) := (Below.celz nb _ _ _ (by omega)).trans cc1
  have d2 : wd1.cell? ⟨O0, 0, none⟩ = some (.int .i64 k) := (Below.celz nb _ _ _ (by omega)).trans cc2
  have d3 : wd1.cell? ⟨O0, 1, none⟩ = some (.int .i64 nl) := (Below.celz nb _ _ _ (by omega)).trans cc3
  have d4 : wd1.cell? ⟨O0, 2, none⟩ = some (.int .i64 nn) := (Below.celz nb _ _ _ (by omega)).trans cc4
  have d5 : wd1.cell? ⟨O0, 3, none⟩ = some (.int .i64 l) := (Below.celz nb _ _ _ (by omega)).trans cc5
  have d6 : wd1.cell? ⟨O0, 4, none⟩ = some (.int .i64 al) := (Below.celz nb _ _ _ (by omega)).trans cc6
  have d7 : wd1.cell? ⟨O0, 5, none⟩ = some (.int .i64 an) := (Below.celz nb _ _ _ (by omega)).trans cc7
  have d8 : wd1.cell? ⟨O0, 6, none⟩ = some (.int .i64 bl) := (Below.celz nb _ _ _ (by omega)).trans cc8
  have d9 : wd1.cell? ⟨O0, 7, none⟩ = some (.int .i64 bn) := (Below.celz nb _ _ _ (by omega)).trans cc9
  have d10 : wd1.cell? ⟨P1, 0, none⟩ = some (.slice ha ms.length hc) := (Below.celz nb _ _ _ (by omega)).trans cc10
  have d11 : wd1.cell? ⟨P1, 1, none⟩ = some (.slice hb fs.length hd) := (Below.celz nb _ _ _ (by omega)).trans cc11
  have d12 : wd1.cell? ⟨O1, 0, none⟩ = some (.int .i64 k') := (Below.celz nb _ _ _ (by omega)).trans cc12
  have d13 : wd1.cell? ⟨O1, 1, none⟩ = some (.int .i64 nl') := (Below.celz nb _ _ _ (by omega)).trans cc13
  have d14 : wd1.cell? ⟨O1, 2, none⟩ = some (.int .i64 nn') := (Below.celz nb _ _ _ (by omega)).trans cc14
  have d15 : wd1.cell? ⟨O1, 3, none⟩ = some (.int .i64 l') := (Below.celz nb _ _ _ (by omega)).trans cc15
  have d16 : wd1.cell? ⟨O1, 4, none⟩ = some (.int .i64 al') := (Below.celz nb _ _ _ (by omega)).trans cc16
  have d17 : wd1.cell? ⟨O1, 5, none⟩ = some (.int .i64 an') := (Below.celz nb _ _ _ (by omega)).trans cc17
  have d18 : wd1.cell? ⟨O1, 6, none⟩ = some (.int .i64 bl') := (Below.celz nb _ _ _ (by omega)).trans cc18
  have d19 : wd1.cell? ⟨O1, 7, none⟩ = some (.int .i64 bn') := (Below.celz nb _ _ _ (by omega)).trans cc19
  have y0 : P0 < wd1.heap.size := by have := Below.size nb; omega
  have y1 : O0 < wd1.heap.size := by have := Below.size nb; omega
  have y2 : P1 < wd1.heap.size := by have := Below.size nb; omega
  have y3 : O1 < wd1.heap.size := by have := Below.size nb; omega
  have BB1 : Below A wa wd1 := BB.trans (nb.mono (by omega))
  have sA1 : A ≤ wd1.heap.size := by have := Below.size nb; omega
  have q0 : Hid (GrAt wd1 (.slice xa1 p1 xc1) (.slice xb1 r1 xd1) X1N X1E) := HR1.out.keep nb
  clear BB sA cc0 cc1 cc2 cc3 cc4 cc5 cc6 cc7 cc8 cc9 cc10 cc11 cc12 cc13 cc14 cc15 cc16 cc17 cc18 cc19 zz0 zz1 zz2 zz3 HR1
  have cc0 := d0
  have cc1 := d1
  have cc2 := d2
  have cc3 := d3
  have cc4 := d4
  have cc5 := d5
  have cc6 := d6
  have cc7 := d7
  have cc8 := d8
  have cc9 := d9
  have cc10 := d10
  have cc11 := d11
  have cc12 := d12
  have cc13 := d13
  have cc14 := d14
  have cc15 := d15
  have cc16 := d16
  have cc17 := d17
  have cc18 := d18
  have cc19 := d19
  have zz0 := y0
  have zz1 := y1
  have zz2 := y2
  have zz3 := y3
  have HR1 := q0
  have BB := BB1
  have sA := sA1
  clear BB1 sA1 d0 d1 d2 d3 d4 d5 d6 d7 d8 d9 d10 d11 d12 d13 d14 d15 d16 d17 d18 d19 y0 y1 y2 y3 q0
  have cc20 := kk0
  have cc21 := kk1
  have zz4 : P2 < wd1.heap.size := by omega
  rw [← hP2]
  have k3P2 := k3
  clear k3 hW nb hP2 kk0 kk1
  clear k3P2
  refine (gdo_spec _ _ ns es k nl nn l al an bl bn _ (HV.out _ BB).1).mono ?_
  rintro e we ⟨u1, u2, rfl, og, bwe⟩
  have d0 : we.cell? ⟨P0, 0, none⟩ = some (.slice ga n gc) := (Below.celz bwe _ _ _ (by omega)).trans cc0
  have d1 : we.cell? ⟨P0, 1, none⟩ = some (.slice gb m gd) := (Below.celz bwe _ _ _ (by omega)).trans cc1
  have d2 : we.cell? ⟨O0, 0, none⟩ = some (.int .i64 k) := (Below.celz bwe _ _ _ (by omega)).trans cc2
  have d3 : we.cell? ⟨O0, 1, none⟩ = some (.int .i64 nl) := (Below.celz bwe _ _ _ (by omega)).trans cc3
  have d4 : we.cell? ⟨O0, 2, none⟩ = some (.int .i64 nn) := (Below.celz bwe _ _ _ (by omega)).trans cc4
  have d5 : we.cell? ⟨O0, 3, none⟩ = some (.int .i64 l) := (Below.celz bwe _ _ _ (by omega)).trans cc5
  have d6 : we.cell? ⟨O0, 4, none⟩ = some (.int .i64 al) := (Below.celz bwe _ _ _ (by omega)).trans cc6
  have d7 : we.cell? ⟨O0, 5, none⟩ = some (.int .i64 an) := (Below.celz bwe _ _ _ (by omega)).trans cc7
  have d8 : we.cell? ⟨O0, 6, none⟩ = some (.int .i64 bl) := (Below.celz bwe _ _ _ (by omega)).trans cc8
  have d9 : we.cell? ⟨O0, 7, none⟩ = some (.int .i64 bn) := (Below.celz bwe _ _ _ (by omega)).trans cc9
  have d10 : we.cell? ⟨P1, 0, none⟩ = some (.slice ha ms.length hc) := (Below.celz bwe _ _ _ (by omega)).trans cc10
  have d11 : we.cell? ⟨P1, 1, none⟩ = some (.slice hb fs.length hd) := (Below.celz bwe _ _ _ (by omega)).trans cc11
  have d12 : we.cell? ⟨O1, 0, none⟩ = some (.int .i64 k') := (Below.celz bwe _ _ _ (by omega)).trans cc12
  have d13 : we.cell? ⟨O1, 1, none⟩ = some (.int .i64 nl') := (Below.celz bwe _ _ _ (by omega)).trans cc13
  have d14 : we.cell? ⟨O1, 2, none⟩ = some (.int .i64 nn') := (Below.celz bwe _ _ _ (by omega)).trans cc14
  have d15 : we.cell? ⟨O1, 3, none⟩ = some (.int .i64 l') := (Below.celz bwe _ _ _ (by omega)).trans cc15
  have d16 : we.cell? ⟨O1, 4, none⟩ = some (.int .i64 al') := (Below.celz bwe _ _ _ (by omega)).trans cc16
  have d17 : we.cell? ⟨O1, 5, none⟩ = some (.int .i64 an') := (Below.celz bwe _ _ _ (by omega)).trans cc17
  have d18 : we.cell? ⟨O1, 6, none⟩ = some (.int .i64 bl') := (Below.celz bwe _ _ _ (by omega)).trans cc18
  have d19 : we.cell? ⟨O1, 7, none⟩ = some (.int .i64 bn') := (Below.celz bwe _ _ _ (by omega)).trans cc19
  have d20 : we.cell? ⟨P2, 0, none⟩ = some (.slice xa1 p1 xc1) := (Below.celz bwe _ _ _ (by omega)).trans cc20
  have d21 : we.cell? ⟨P2, 1, none⟩ = some (.slice xb1 r1 xd1) := (Below.celz bwe _ _ _ (by omega)).trans cc21
  have y0 : P0 < we.heap.size := by have := Below.size bwe; omega
  have y1 : O0 < we.heap.size := by have := Below.size bwe; omega
  have y2 : P1 < we.heap.size := by have := Below.size bwe; omega
  have y3 : O1 < we.heap.size := by have := Below.size bwe; omega
  have y4 : P2 < we.heap.size := by have := Below.size bwe; omega
  have BB1 : Below A wa we := BB.trans (bwe.mono (by omega))
  have sA1 : A ≤ we.heap.size := by have := Below.size bwe; omega
  have q0 : Hid (GrAt we (.slice xa1 p1 xc1) (.slice xb1 r1 xd1) X1N X1E) := HR1.out.keep bwe
  have q1 : Hid (Thaw we P2) := HZ2.out.keep bwe
  clear BB sA cc0 cc1 cc2 cc3 cc4 cc5 cc6 cc7 cc8 cc9 cc10 cc11 cc12 cc13 cc14 cc15 cc16 cc17 cc18 cc19 cc20 cc21 zz0 zz1 zz2 zz3 zz4 HR1 HZ2
  have cc0 := d0
  have cc1 := d1
  have cc2 := d2
  have cc3 := d3
  have cc4 := d4
  have cc5 := d5
  have cc6 := d6
  have cc7 := d7
  have cc8 := d8
  have cc9 := d9
  have cc10 := d10
  have cc11 := d11
  have cc12 := d12
  have cc13 := d13
  have cc14 := d14
  have cc15 := d15
  have cc16 := d16
  have cc17 := d17
  have cc18 := d18
  have cc19 := d19
  have cc20 := d20
  have cc21 := d21
  have zz0 := y0
  have zz1 := y1
  have zz2 := y2
  have zz3 := y3
  have zz4 := y4
  have HR1 := q0
  have HZ2 := q1
  have BB := BB1
  have sA := sA1
  clear BB1 sA1 d0 d1 d2 d3 d4 d5 d6 d7 d8 d9 d10 d11 d12 d13 d14 d15 d16 d17 d18 d19 d20 d21 y0 y1 y2 y3 y4 q0 q1
  clear bwe
  rw [← HX1.out.1, ← HX1.out.2.1] at og
  rw [← HX1.out.2.2]
  obtain ⟨xa2, xc2, xb2, xd2, rfl, rfl⟩ := og.form
  obtain ⟨p2, hp⟩ : ∃ t, t = X1N.length := ⟨_, rfl⟩
  obtain ⟨r2, hr⟩ : ∃ t, t = X1E.length := ⟨_, rfl⟩
  have HL2 : Hid (p2 = X1N.length ∧ r2 = X1E.length) := ⟨hp, hr⟩
  have lp2 : p2 ≤ 200 := by rw [hp]; exact og.2.2.1
  have lr2 : r2 ≤ 200 := by rw [hr]; exact og.2.2.2
  rw [← hp, ← hr] at og ⊢
  clear hp hr
  have HR2 : Hid (GrAt we (.slice xa2 p2 xc2) (.slice xb2 r2 xd2) X1N X1E) := og
  clear og
  go_wp2_with fail
  obtain ⟨P3, hP3⟩ : ∃ t, t = we.heap.size := ⟨_, rfl⟩
  generalize hW : we.alloc (.cells #[.slice xa2 p2 xc2, .slice xb2 r2 xd2] 26) = we1
  have nb : Below we.heap.size we we1 := by rw [← hW]; exact (Below.refl _ _).alloc (Nat.le_refl _) _
  have k3 : we1.heap.size = P3 + 1 := by rw [← hW, hP3]; simp
  have kk0 : we1.cell? ⟨P3, 0, none⟩ = some (.slice xa2 p2 xc2) := by rw [← hW, hP3]; simp [go_sem]
  have kk1 : we1.cell? ⟨P3, 1, none⟩ = some (.slice xb2 r2 xd2) := by rw [← hW, hP3]; simp [go_sem]
  have oP3A : A ≤ P3 := by rw [hP3]; exact sA
  have oP30 : P0 < P3 := by rw [hP3]; exact zz0
  have oP31 : O0 < P3 := by rw [hP3]; exact zz1
  have oP32 : P1 < P3 := by rw [hP3]; exact zz2
  have oP33 : O1 < P3 := by rw [hP3]; exact zz3
  have oP34 : P2 < P3 := by rw [hP3]; exact zz4
  have d0 : we1.cell? ⟨P0, 0, none⟩ = some (.slice ga n gc) := (Below.celz nb _ _ _ (by omega)).trans cc0
  have d1 : we1.cell? ⟨P0, 1, none⟩ = some (.slice gb m gd) := (Below.celz nb _ _ _ (by omega)).trans cc1
  have d2 : we1.cell? ⟨O0, 0, none⟩ = some (.int .i64 k) := (Below.celz nb _ _ _ (by omega)).trans cc2
  have d3 : we1.cell? ⟨O0, 1, none⟩ = some (.int .i64 nl) := (Below.celz nb _ _ _ (by omega)).trans cc3
  have d4 : we1.cell? ⟨O0, 2, none⟩ = some (.int .i64 nn) := (Below.celz nb _ _ _ (by omega)).trans cc4
  have d5 : we1.cell? ⟨O0, 3, none⟩ = some (.int .i64 l) := (Below.celz nb _ _ _ (by omega)).trans cc5
  have d6 : we1.cell? ⟨O0, 4, none⟩ = some (.int .i64 al) := (Below.celz nb _ _ _ (by omega)).trans cc6
  have d7 : we1.cell? ⟨O0, 5, none⟩ = some (.int .i64 an) := (Below.celz nb _ _ _ (by omega)).trans cc7
  have d8 : we1.cell? ⟨O0, 6, none⟩ = some (.int .i64 bl) := (Below.celz nb _ _ _ (by omega)).trans cc8
  have d9 : we1.cell? ⟨O0, 7, none⟩ = some (.int .i64 bn) := (Below.celz nb _ _ _ (by omega)).trans cc9
  have d10 : we1.cell? ⟨P1, 0, none⟩ = some (.slice ha ms.length hc) := (Below.celz nb _ _ _ (by omega)).trans cc10
  have d11 : we1.cell? ⟨P1, 1, none⟩ = some (.slice hb fs.length hd) := (Below.celz nb _ _ _ (by omega)).trans cc11
  have d12 : we1.cell? ⟨O1, 0, none⟩ = some (.int .i64 k') := (Below.celz nb _ _ _ (by omega)).trans cc12
  have d13 : we1.cell? ⟨O1, 1, none⟩ = some (.int .i64 nl') := (Below.celz nb _ _ _ (by omega)).trans cc13
  have d14 : we1.cell? ⟨O1, 2, none⟩ = some (.int .i64 nn') := (Below.celz nb _ _ _ (by omega)).trans cc14
  have d15 : we1.cell? ⟨O1, 3, none⟩ = some (.int .i64 l') := (Below.celz nb _ _ _ (by omega)).trans cc15
  have d16 : we1.cell? ⟨O1, 4, none⟩ = some (.int .i64 al') := (Below.celz nb _ _ _ (by omega)).trans cc16
  have d17 : we1.cell? ⟨O1, 5, none⟩ = some (.int .i64 an') := (Below.celz nb _ _ _ (by omega)).trans cc17
  have d18 : we1.cell? ⟨O1, 6, none⟩ = some (.int .i64 bl') := (Below.celz nb _ _ _ (by omega)).trans cc18
  have d19 : we1.cell? ⟨O1, 7, none⟩ = some (.int .i64 bn') := (Below.celz nb _ _ _ (by omega)).trans cc19
  have d20 : we1.cell? ⟨P2, 0, none⟩ = some (.slice xa1 p1 xc1) := (Below.celz nb _ _ _ (by omega)).trans cc20
  have d21 : we1.cell? ⟨P2, 1, none⟩ = some (.slice xb1 r1 xd1) := (Below.celz nb _ _ _ (by omega)).trans cc21
  have y0 : P0 < we1.heap.size := by have := Below.size nb; omega
  have y1 : O0 < we1.heap.size := by have := Below.size nb; omega
  have y2 : P1 < we1.heap.size := by have := Below.size nb; omega
  have y3 : O1 < we1.heap.size := by have := Below.size nb; omega
  have y4 : P2 < we1.heap.size := by have := Below.size nb; omega
  have BB1 : Below A wa we1 := BB.trans (nb.mono (by omega))
  have sA1 : A ≤ we1.heap.size := by have := Below.size nb; omega
  have q0 : Hid (GrAt we1 (.slice xa1 p1 xc1) (.slice xb1 r1 xd1) X1N X1E) := HR1.out.keep nb
  have q1 : Hid (Thaw we1 P2) := HZ2.out.keep nb
  have q2 : Hid (GrAt we1 (.slice xa2 p2 xc2) (.slice xb2 r2 xd2) X1N X1E) := HR2.out.keep nb
  clear BB sA cc0 cc1 cc2 cc3 cc4 cc5 cc6 cc7 cc8 cc9 cc10 cc11 cc12 cc13 cc14 cc15 cc16 cc17 cc18 cc19 cc20 cc21 zz0 zz1 zz2 zz3 zz4 HR1 HZ2 HR2
  have cc0 := d0
  have cc1 := d1
  have cc2 := d2
  have cc3 := d3
  have cc4 := d4
  have cc5 := d5
  have cc6 := d6
  have cc7 := d7
  have cc8 := d8
  have cc9 := d9
  have cc10 := d10
  have cc11 := d11
  have cc12 := d12
  have cc13 := d13
  have cc14 := d14
  have cc15 := d15
  have cc16 := d16
  have cc17 := d17
  have cc18 := d18
  have cc19 := d19
  have cc20 := d20
  have cc21 := d21
  have zz0 := y0
  have zz1 := y1
  have zz2 := y2
  have zz3 := y3
  have zz4 := y4
  have HR1 := q0
  have HZ2 := q1
  have HR2 := q2
  have BB := BB1
  have sA := sA1
  clear BB1 sA1 d0 d1 d2 d3 d4 d5 d6 d7 d8 d9 d10 d11 d12 d13 d14 d15 d16 d17 d18 d19 d20 d21 y0 y1 y2 y3 y4 q0 q1 q2
  have cc22 := kk0
  have cc23 := kk1
  have zz5 : P3 < we1.heap.size := by omega
  rw [← hP3]
  have k3P3 := k3
  clear k3 hW nb hP3 kk0 kk1
  clear k3P3
  refine (gdo_impl _ _ ns es k' nl' nn' l' al' an' bl' bn' _ (HV.out _ BB).1 (HV.out _ BB).2.1).mono ?_
  rintro e wf ⟨u1, u2, rfl, og, bwf⟩
  have d0 : wf.cell? ⟨P0, 0, none⟩ = some (.slice ga n gc) := (Below.celz bwf _ _ _ (by omega)).trans cc0
  have d1 : wf.cell? ⟨P0, 1, none⟩ = some (.slice gb m gd) := (Below.celz bwf _ _ _ (by omega)).trans cc1
  have d2 : wf.cell? ⟨O0, 0, none⟩ = some (.int .i64 k) := (Below.celz bwf _ _ _ (by omega)).trans cc2
  have d3 : wf.cell? ⟨O0, 1, none⟩ = some (.int .i64 nl) := (Below.celz bwf _ _ _ (by omega)).trans cc3
  have d4 : wf.cell? ⟨O0, 2, none⟩ = some (.int .i64 nn) := (Below.celz bwf _ _ _ (by omega)).trans cc4
  have d5 : wf.cell? ⟨O0, 3, none⟩ = some (.int .i64 l) := (Below.celz bwf _ _ _ (by omega)).trans cc5
  have d6 : wf.cell? ⟨O0, 4, none⟩ = some (.int .i64 al) := (Below.celz bwf _ _ _ (by omega)).trans cc6
  have d7 : wf.cell? ⟨O0, 5, none⟩ = some (.int .i64 an) := (Below.celz bwf _ _ _ (by omega)).trans cc7
  have d8 : wf.cell? ⟨O0, 6, none⟩ = some (.int .i64 bl) := (Below.celz bwf _ _ _ (by omega)).trans cc8
  have d9 : wf.cell? ⟨O0, 7, none⟩ = some (.int .i64 bn) := (Below.celz bwf _ _ _ (by omega)).trans cc9
  have d10 : wf.cell? ⟨P1, 0, none⟩ = some (.slice ha ms.length hc) := (Below.celz bwf _ _ _ (by omega)).trans cc10
  have d11 : wf.cell? ⟨P1, 1, none⟩ = some (.slice hb fs.length hd) := (Below.celz bwf _ _ _ (by omega)).trans cc11
  have d12 : wf.cell? ⟨O1, 0, none⟩ = some (.int .i64 k') := (Below.celz bwf _ _ _ (by omega)).trans cc12
  have d13 : wf.cell? ⟨O1, 1, none⟩ = some (.int .i64 nl') := (Below.celz bwf _ _ _ (by omega)).trans cc13
  have d14 : wf.cell? ⟨O1, 2, none⟩ = some (.int .i64 nn') := (Below.celz bwf _ _ _ (by omega)).trans cc14
  have d15 : wf.cell? ⟨O1, 3, none⟩ = some (.int .i64 l') := (Below.celz bwf _ _ _ (by omega)).trans cc15
  have d16 : wf.cell? ⟨O1, 4, none⟩ = some (.int .i64 al') := (Below.celz bwf _ _ _ (by omega)).trans cc16
  have d17 : wf.cell? ⟨O1, 5, none⟩ = some (.int .i64 an') := (Below.celz bwf _ _ _ (by omega)).trans cc17
  have d18 : wf.cell? ⟨O1, 6, none⟩ = some (.int .i64 bl') := (Below.celz bwf _ _ _ (by omega)).trans cc18
  have d19 : wf.cell? ⟨O1, 7, none⟩ = some (.int .i64 bn') := (Below.celz bwf _ _ _ (by omega)).trans cc19
  have d20 : wf.cell? ⟨P2, 0, none⟩ = some (.slice xa1 p1 xc1) := (Below.celz bwf _ _ _ (by omega)).trans cc20
  have d21 : wf.cell? ⟨P2, 1, none⟩ = some (.slice xb1 r1 xd1) := (Below.celz bwf _ _ _ (by omega)).trans cc21
  have d22 : wf.cell? ⟨P3, 0, none⟩ = some (.slice xa2 p2 xc2) := (Below.celz bwf _ _ _ (by omega)).trans cc22
  have d23 : wf.cell? ⟨P3, 1, none⟩ = some (.slice xb2 r2 xd2) := (Below.celz bwf _ _ _ (by omega)).trans cc23
  have y0 : P0 < wf.heap.size := by have := Below.size bwf; omega
  have y1 : O0 < wf.heap.size := by have := Below.size bwf; omega
  have y2 : P1 < wf.heap.size := by have := Below.size bwf; omega
  have y3 : O1 < wf.heap.size := by have := Below.size bwf; omega
  have y4 : P2 < wf.heap.size := by have := Below.size bwf; omega
  have y5 : P3 < wf.heap.size := by have := Below.size bwf; omega
  have BB1 : Below A wa wf := BB.trans (bwf.mono (by omega))
  have sA1 : A ≤ wf.heap.size := by have := Below.size bwf; omega
  have q0 : Hid (GrAt wf (.slice xa1 p1 xc1) (.slice xb1 r1 xd1) X1N X1E) := HR1.out.keep bwf
  have q1 : Hid (Thaw wf P2) := HZ2.out.keep bwf
  have q2 : Hid (GrAt wf (.slice xa2 p2 xc2) (.slice xb2 r2 xd2) X1N X1E) := HR2.out.keep bwf
  clear BB sA cc0 cc1 cc2 cc3 cc4 cc5 cc6 cc7 cc8 cc9 cc10 cc11 cc12 cc13 cc14 cc15 cc16 cc17 cc18 cc19 cc20 cc21 cc22 cc23 zz0 zz1 zz2 zz3 zz4 zz5 HR1 HZ2 HR2
  have cc0 := d0
  have cc1 := d1
  have cc2 := d2
  have cc3 := d3
  have cc4 := d4
  have cc5 := d5
  have cc6 := d6
  have cc7 := d7
  have cc8 := d8
  have cc9 := d9
  have cc10 := d10
  have cc11 := d11
  have cc12 := d12
  have cc13 := d13
  have cc14 := d14
  have cc15 := d15
  have cc16 := d16
  have cc17 := d17
  have cc18 := d18
  have cc19 := d19
  have cc20 := d20
  have cc21 := d21
  have cc22 := d22
  have cc23 := d23
  have zz0 := y0
  have zz1 := y1
  have zz2 := y2
  have zz3 := y3
  have zz4 := y4
  have zz5 := y5
  have HR1 := q0
  have HZ2 := q1
  have HR2 := q2
  have BB := BB1
  have sA := sA1
  clear BB1 sA1 d0 d1 d2 d3 d4 d5 d6 d7 d8 d9 d10 d11 d12 d13 d14 d15 d16 d17 d18 d19 d20 d21 d22 d23 y0 y1 y2 y3 y4 y5 q0 q1 q2
  clear bwf
  rw [← HX2.out.1, ← HX2.out.2.1] at og
  rw [← HX2.out.2.2]
  obtain ⟨xa3, xc3, xb3, xd3, rfl, rfl⟩ := og.form
  obtain ⟨p3, hp⟩ : ∃ t, t = X2N.length := ⟨_, rfl⟩
  obtain ⟨r3, hr⟩ : ∃ t, t = X2E.length := ⟨_, rfl⟩
  have HL3 : Hid (p3 = X2N.length ∧ r3 = X2E.length) := ⟨hp, hr⟩
  have lp3 : p3 ≤ 200 := by rw [hp]; exact og.2.2.1
  have lr3 : r3 ≤ 200 := by rw [hr]; exact og.2.2.2
  rw [← hp, ← hr] at og ⊢
  clear hp hr
  have HR3 : Hid (GrAt wf (.slice xa3 p3 xc3) (.slice xb3 r3 xd3) X2N X2E) := og
  clear og
  have hnc : (X1C != X1C) = false := by simp
  have hnd : (X1C == X1C) = true := by simp
  by_cases hc0 : X1C = 0
  rotate_left
  · have hcb : (X1C != 0) = true := by simpa using hc0
    clear hc0
    go_wp2_with fail
    go_ret
    exact ⟨rfl, (HV.out _ (BB.alloc sA _)).2.2.1⟩
  · subst hc0
    by_cases hd0 : X2C = 0
    rotate_left
    · have hdb : (X2C != 0) = true := by simpa using hd0
      clear hd0
      go_wp2_with fail
      go_ret
      exact ⟨rfl, (HV.out _ (BB.alloc sA _)).2.2.1⟩
    · subst hd0
      by_cases hk : k ≤ 2
      rotate_left
      · have hkb : k > 2 := by omega
        clear hk
        go_wp2_with fail
        go_ret
        exact ⟨rfl, (HV.out _ (BB.alloc sA _)).2.2.1⟩
      · skip
        by_cases hk' : k' ≤ 2
        rotate_left
        · have hkb : k' > 2 := by omega
          clear hk'
          go_wp2_with fail
          go_ret
          exact ⟨rfl, (HV.out _ (BB.alloc sA _)).2.2.1⟩
        · skip
          have HBG : Hid (gokB ns es = true) := by
            show gokB ns es = true
            cases hb : gokB ns es with
            | true => rfl
            | false => have := (gd_bad (k := k) (nl := nl) (nn := nn) (l := l) (al := al) (an := an) (bl := bl) (bn := bn) hb).2.2; rw [← HX1.out.2.2] at this; cases this
          have hkk : ¬ k > 2 := by omega
          have hkk' : ¬ k' > 2 := by omega
          go_wp2_with fail
          obtain ⟨P4, hP4⟩ : ∃ t, t = wf.heap.size := ⟨_, rfl⟩
          generalize hW : wf.alloc (.cells #[.slice xa3 p3 xc3, .slice xb3 r3 xd3] 26) = wf1
          have nb : Below wf.heap.size wf wf1 := by rw [← hW]; exact (Below.refl _ _).alloc (Nat.le_refl _) _
          have k3 : wf1.heap.size = P4 + 1 := by rw [← hW, hP4]; simp
          have kk0 : wf1.cell? ⟨P4, 0, none⟩ = some (.slice xa3 p3 xc3) := by rw [← hW, hP4]; simp [go_sem]
          have kk1 : wf1.cell? ⟨P4, 1, none⟩ = some (.slice xb3 r3 xd3) := by rw [← hW, hP4]; simp [go_sem]
          have HZ4 : Hid (Thaw wf1 P4) := by show Thaw _ _; rw [← hW, hP4]; exact Thaw.new _ _ _
          have oP4A : A ≤ P4 := by rw [hP4]; exact sA
          have oP40 : P0 < P4 := by rw [hP4]; exact zz0
          have oP41 : O0 < P4 := by rw [hP4]; exact zz1
          have oP42 : P1 < P4 := by rw [hP4]; exact zz2
          have oP43 : O1 < P4 := by rw [hP4]; exact zz3
          have oP44 : P2 < P4 := by rw [hP4]; exact zz4
          have oP45 : P3 < P4 := by rw [hP4]; exact zz5
          have d0 : wf1.cell? ⟨P0, 0, none⟩ = some (.slice ga n gc) := (Below.celz nb _ _ _ (by omega)).trans cc0
          have d1 : wf1.cell? ⟨P0, 1, none⟩ = some (.slice gb m gd) := (Below.celz nb _ _ _ (by omega)).trans cc1
          have d2 : wf1.cell? ⟨O0, 0, none⟩ = some (.int .i64 k) := (Below.celz nb _ _ _ (by omega)).trans cc2
          have d3 : wf1.cell? ⟨O0, 1, none⟩ = some (.int .i64 nl) := (Below.celz nb _ _ _ (by omega)).trans cc3
          have d4 : wf1.cell? ⟨O0, 2, none⟩ = some (.int .i64 nn) := (Below.celz nb _ _ _ (by omega)).trans cc4
          have d5 : wf1.cell? ⟨O0, 3, none⟩ = some (.int .i64 l) := (Below.celz nb _ _ _ (by omega)).trans cc5
          have d6 : wf1.cell? ⟨O0, 4, none⟩ = some (.int .i64 al) := (Below.celz nb _ _ _ (by omega)).trans cc6
          have d7 : wf1.cell? ⟨O0, 5, none⟩ = some (.int .i64 an) := (Below.celz nb _ _ _ (by omega)).trans cc7
          have d8 : wf1.cell? ⟨O0, 6, none⟩ = some (.int .i64 bl) := (Below.celz nb _ _ _ (by omega)).trans cc8
          have d9 : wf1.cell? ⟨O0, 7, none⟩ = some (.int .i64 bn) := (Below.celz nb _ _ _ (by omega)).trans cc9
          have d10 : wf1.cell? ⟨P1, 0, none⟩ = some (.slice ha ms.length hc) := (Below.celz nb _ _ _ (by omega)).trans cc10
          have d11 : wf1.cell? ⟨P1, 1, none⟩ = some (.slice hb fs.length hd) := (Below.celz nb _ _ _ (by omega)).trans cc11
          have d12 : wf1.cell? ⟨O1, 0, none⟩ = some (.int .i64 k') := (Below.celz nb _ _ _ (by omega)).trans cc12
          have d13 : wf1.cell? ⟨O1, 1, none⟩ = some (.int .i64 nl') := (Below.celz nb _ _ _ (by omega)).trans cc13
          have d14 : wf1.cell? ⟨O1, 2, none⟩ = some (.int .i64 nn') := (Below.celz nb _ _ _ (by omega)).trans cc14
          have d15 : wf1.cell? ⟨O1, 3, none⟩ = some (.int .i64 l') := (Below.celz nb _ _ _ (by omega)).trans cc15
          have d16 : wf1.cell? ⟨O1, 4, none⟩ = some (.int .i64 al') := (Below.celz nb _ _ _ (by omega)).trans cc16
          have d17 : wf1.cell? ⟨O1, 5, none⟩ = some (.int .i64 an') := (Below.celz nb _ _ _ (by omega)).trans cc17
          have d18 : wf1.cell? ⟨O1, 6, none⟩ = some (.int .i64 bl') := (Below.celz nb _ _ _ (by omega)).trans cc18
          have d19 : wf1.cell? ⟨O1, 7, none⟩ = some (.int .i64 bn') := (Below.celz nb _ _ _ (by omega)).trans cc19
          have d20 : wf1.cell? ⟨P2, 0, none⟩ = some (.slice xa1 p1 xc1) := (Below.celz nb _ _ _ (by omega)).trans cc20
          have d21 : wf1.cell? ⟨P2, 1, none⟩ = some (.slice xb1 r1 xd1) := (Below.celz nb _ _ _ (by omega)).trans cc21
          have d22 : wf1.cell? ⟨P3, 0, none⟩ = some (.slice xa2 p2 xc2) := (Below.celz nb _ _ _ (by omega)).trans cc22
          have d23 : wf1.cell? ⟨P3, 1, none⟩ = some (.slice xb2 r2 xd2) := (Below.celz nb _ _ _ (by omega)).trans cc23
          have y0 : P0 < wf1.heap.size := by have := Below.size nb; omega
          have y1 : O0 < wf1.heap.size := by have := Below.size nb; omega
          have y2 : P1 < wf1.heap.size := by have := Below.size nb; omega
          have y3 : O1 < wf1.heap.size := by have := Below.size nb; omega
          have y4 : P2 < wf1.heap.size := by have := Below.size nb; omega
          have y5 : P3 < wf1.heap.size := by have := Below.size nb; omega
          have BB1 : Below A wa wf1 := BB.trans (nb.mono (by omega))
          have sA1 : A ≤ wf1.heap.size := by have := Below.size nb; omega
          have q0 : Hid (GrAt wf1 (.slice xa1 p1 xc1) (.slice xb1 r1 xd1) X1N X1E) := HR1.out.keep nb
          have q1 : Hid (Thaw wf1 P2) := HZ2.out.keep nb
          have q2 : Hid (GrAt wf1 (.slice xa2 p2 xc2) (.slice xb2 r2 xd2) X1N X1E) := HR2.out.keep nb
          have q3 : Hid (GrAt wf1 (.slice xa3 p3 xc3) (.slice xb3 r3 xd3) X2N X2E) := HR3.out.keep nb
          clear BB sA cc0 cc1 cc2 cc3 cc4 cc5 cc6 cc7 cc8 cc9 cc10 cc11 cc12 cc13 cc14 cc15 cc16 cc17 cc18 cc19 cc20 cc21 cc22 cc23 zz0 zz1 zz2 zz3 zz4 zz5 HR1 HZ2 HR2 HR3
          have cc0 := d0
          have cc1 := d1
          have cc2 := d2
          have cc3 := d3
          have cc4 := d4
          have cc5 := d5
          have cc6 := d6
          have cc7 := d7
          have cc8 := d8
          have cc9 := d9
          have cc10 := d10
          have cc11 := d11
          have cc12 := d12
          have cc13 := d13
          have cc14 := d14
          have cc15 := d15
          have cc16 := d16
          have cc17 := d17
          have cc18 := d18
          have cc19 := d19
          have cc20 := d20
          have cc21 := d21
          have cc22 := d22
          have cc23 := d23
          have zz0 := y0
          have zz1 := y1
          have zz2 := y2
          have zz3 := y3
          have zz4 := y4
          have zz5 := y5
          have HR1 := q0
          have HZ2 := q1
          have HR2 := q2
          have HR3 := q3
          have BB := BB1
          have sA := sA1
          clear BB1 sA1 d0 d1 d2 d3 d4 d5 d6 d7 d8 d9 d10 d11 d12 d13 d14 d15 d16 d17 d18 d19 d20 d21 d22 d23 y0 y1 y2 y3 y4 y5 q0 q1 q2 q3
          have cc24 := kk0
          have cc25 := kk1
          have zz6 : P4 < wf1.heap.size := by omega
          rw [← hP4]
          have k3P4 := k3
          clear k3 hW nb hP4 kk0 kk1
          clear k3P4
          obtain ⟨X5N, hX⟩ : ∃ t, t = gdN X1N X1E k' nl' nn' l' al' an' bl' bn' := ⟨_, rfl⟩
          obtain ⟨X5E, hY⟩ : ∃ t, t = gdE X1N X1E k' nl' nn' l' al' an' bl' bn' := ⟨_, rfl⟩
          obtain ⟨X5C, hZ⟩ : ∃ t, t = gdC X1N X1E k' nl' nn' l' al' an' bl' bn' := ⟨_, rfl⟩
          have HX5 : Hid (X5N = gdN X1N X1E k' nl' nn' l' al' an' bl' bn' ∧ X5E = gdE X1N X1E k' nl' nn' l' al' an' bl' bn' ∧ X5C = gdC X1N X1E k' nl' nn' l' al' an' bl' bn') := ⟨hX, hY, hZ⟩
          clear hX hY hZ
          obtain ⟨X6N, hX⟩ : ∃ t, t = gdN X2N X2E k nl nn l al an bl bn := ⟨_, rfl⟩
          obtain ⟨X6E, hY⟩ : ∃ t, t = gdE X2N X2E k nl nn l al an bl bn := ⟨_, rfl⟩
          obtain ⟨X6C, hZ⟩ : ∃ t, t = gdC X2N X2E k nl nn l al an bl bn := ⟨_, rfl⟩
          have HX6 : Hid (X6N = gdN X2N X2E k nl nn l al an bl bn ∧ X6E = gdE X2N X2E k nl nn l al an bl bn ∧ X6C = gdC X2N X2E k nl nn l al an bl bn) := ⟨hX, hY, hZ⟩
          clear hX hY hZ
          have HSW : Hid (SwapIs (k, nl, nn, l, al, an, bl, bn) (k', nl', nn', l', al', an', bl', bn') X5C X6C ∧ (X5C = 0 → X6C = 0 → X5N = X6N ∧ X5E = X6E)) := by
            have h := gd_swap HBG.out HX1.out.2.2.symm HX2.out.2.2.symm hk hk'
            rw [← HX1.out.1, ← HX1.out.2.1, ← HX2.out.1, ← HX2.out.2.1, ← HX5.out.1, ← HX5.out.2.1, ← HX5.out.2.2, ← HX6.out.1, ← HX6.out.2.1, ← HX6.out.2.2] at h
            exact h
          refine (gdo_impl _ _ X1N X1E k' nl' nn' l' al' an' bl' bn' _ HR1.out (HV.out _ BB).2.1).mono ?_
          rintro e wg ⟨u1, u2, rfl, og, bwg⟩
          have d0 : wg.cell? ⟨P0, 0, none⟩ = some (.slice ga n gc) := (Below.celz bwg _ _ _ (by omega)).trans cc0
          have d1 : wg.cell? ⟨P0, 1, none⟩ = some (.slice gb m gd) := (Below.celz bwg _ _ _ (by omega)).trans cc1
          have d2 : wg.cell? ⟨O0, 0, none⟩ = some (.int .i64 k) := (Below.celz bwg _ _ _ (by omega)).trans cc2
          have d3 : wg.cell? ⟨O0, 1, none⟩ = some (.int .i64 nl) := (Below.celz bwg _ _ _ (by omega)).trans cc3
          have d4 : wg.cell? ⟨O0, 2, none⟩ = some (.int .i64 nn) := (Below.celz bwg _ _ _ (by omega)).trans cc4
          have d5 : wg.cell? ⟨O0, 3, none⟩ = some (.int .i64 l) := (Below.celz bwg _ _ _ (by omega)).trans cc5
          have d6 : wg.cell? ⟨O0, 4, none⟩ = some (.int .i64 al) := (Below.celz bwg _ _ _ (by omega)).trans cc6
          have d7 : wg.cell? ⟨O0, 5, none⟩ = some (.int .i64 an) := (Below.celz bwg _ _ _ (by omega)).trans cc7
          have d8 : wg.cell? ⟨O0, 6, none⟩ = some (.int .i64 bl) := (Below.celz bwg _ _ _ (by omega)).trans cc8
          have d9 : wg.cell? ⟨O0, 7, none⟩ = some (.int .i64 bn) := (Below.celz bwg _ _ _ (by omega)).trans cc9
          have d10 : wg.cell? ⟨P1, 0, none⟩ = some (.slice ha ms.length hc) := (Below.celz bwg _ _ _ (by omega)).trans cc10
          have d11 : wg.cell? ⟨P1, 1, none⟩ = some (.slice hb fs.length hd) := (Below.celz bwg _ _ _ (by omega)).trans cc11
          have d12 : wg.cell? ⟨O1, 0, none⟩ = some (.int .i64 k') := (Below.celz bwg _ _ _ (by omega)).trans cc12
          have d13 : wg.cell? ⟨O1, 1, none⟩ = some (.int .i64 nl') := (Below.celz bwg _ _ _ (by omega)).trans cc13
          have d14 : wg.cell? ⟨O1, 2, none⟩ = some (.int .i64 nn') := (Below.celz bwg _ _ _ (by omega)).trans cc14
          have d15 : wg.cell? ⟨O1, 3, none⟩ = some (.int .i64 l') := (Below.celz bwg _ _ _ (by omega)).trans cc15
          have d16 : wg.cell? ⟨O1, 4, none⟩ = some (.int .i64 al') := (Below.celz bwg _ _ _ (by omega)).trans cc16
          have d17 : wg.cell? ⟨O1, 5, none⟩ = some (.int .i64 an') := (Below.celz bwg _ _ _ (by omega)).trans cc17
          have d18 : wg.cell? ⟨O1, 6, none⟩ = some (.int .i64 bl') := (Below.celz bwg _ _ _ (by omega)).trans cc18
          have d19 : wg.cell? ⟨O1, 7, none⟩ = some (.int .i64 bn') := (Below.celz bwg _ _ _ (by omega)).trans cc19
          have d20 : wg.cell? ⟨P2, 0, none⟩ = some (.slice xa1 p1 xc1) := (Below.celz bwg _ _ _ (by omega)).trans cc20
          have d21 : wg.cell? ⟨P2, 1, none⟩ = some (.slice xb1 r1 xd1) := (Below.celz bwg _ _ _ (by omega)).trans cc21
          have d22 : wg.cell? ⟨P3, 0, none⟩ = some (.slice xa2 p2 xc2) := (Below.celz bwg _ _ _ (by omega)).trans cc22
          have d23 : wg.cell? ⟨P3, 1, none⟩ = some (.slice xb2 r2 xd2) := (Below.celz bwg _ _ _ (by omega)).trans cc23
          have d24 : wg.cell? ⟨P4, 0, none⟩ = some (.slice xa3 p3 xc3) := (Below.celz bwg _ _ _ (by omega)).trans cc24
          have d25 : wg.cell? ⟨P4, 1, none⟩ = some (.slice xb3 r3 xd3) := (Below.celz bwg _ _ _ (by omega)).trans cc25
          have y0 : P0 < wg.heap.size := by have := Below.size bwg; omega
          have y1 : O0 < wg.heap.size := by have := Below.size bwg; omega
          have y2 : P1 < wg.heap.size := by have := Below.size bwg; omega
          have y3 : O1 < wg.heap.size := by have := Below.size bwg; omega
          have y4 : P2 < wg.heap.size := by have := Below.size bwg; omega
          have y5 : P3 < wg.heap.size := by have := Below.size bwg; omega
          have y6 : P4 < wg.heap.size := by have := Below.size bwg; omega
          have BB1 : Below A wa wg := BB.trans (bwg.mono (by omega))
          have sA1 : A ≤ wg.heap.size := by have := Below.size bwg; omega
          have q0 : Hid (GrAt wg (.slice xa1 p1 xc1) (.slice xb1 r1 xd1) X1N X1E) := HR1.out.keep bwg
          have q1 : Hid (Thaw wg P2) := HZ2.out.keep bwg
          have q2 : Hid (GrAt wg (.slice xa2 p2 xc2) (.slice xb2 r2 xd2) X1N X1E) := HR2.out.keep bwg
          have q3 : Hid (GrAt wg (.slice xa3 p3 xc3) (.slice xb3 r3 xd3) X2N X2E) := HR3.out.keep bwg
          have q4 : Hid (Thaw wg P4) := HZ4.out.keep bwg
          clear BB sA cc0 cc1 cc2 cc3 cc4 cc5 cc6 cc7 cc8 cc9 cc10 cc11 cc12 cc13 cc14 cc15 cc16 cc17 cc18 cc19 cc20 cc21 cc22 cc23 cc24 cc25 zz0 zz1 zz2 zz3 zz4 zz5 zz6 HR1 HZ2 HR2 HR3 HZ4
          have cc0 := d0
          have cc1 := d1
          have cc2 := d2
          have cc3 := d3
          have cc4 := d4
          have cc5 := d5
          have cc6 := d6
          have cc7 := d7
          have cc8 := d8
          have cc9 := d9
          have cc10 := d10
          have cc11 := d11
          have cc12 := d12
          have cc13 := d13
          have cc14 := d14
          have cc15 := d15
          have cc16 := d16
          have cc17 := d17
          have cc18 := d18
          have cc19 := d19
          have cc20 := d20
          have cc21 := d21
          have cc22 := d22
          have cc23 := d23
          have cc24 := d24
          have cc25 := d25
          have zz0 := y0
          have zz1 := y1
          have zz2 := y2
          have zz3 := y3
          have zz4 := y4
          have zz5 := y5
          have zz6 := y6
          have HR1 := q0
          have HZ2 := q1
          have HR2 := q2
          have HR3 := q3
          have HZ4 := q4
          have BB := BB1
          have sA := sA1
          clear BB1 sA1 d0 d1 d2 d3 d4 d5 d6 d7 d8 d9 d10 d11 d12 d13 d14 d15 d16 d17 d18 d19 d20 d21 d22 d23 d24 d25 y0 y1 y2 y3 y4 y5 y6 q0 q1 q2 q3 q4
          clear bwg
          rw [← HX5.out.1, ← HX5.out.2.1] at og
          rw [← HX5.out.2.2]
          obtain ⟨xa5, xc5, xb5, xd5, rfl, rfl⟩ := og.form
          obtain ⟨p5, hp⟩ : ∃ t, t = X5N.length := ⟨_, rfl⟩
          obtain ⟨r5, hr⟩ : ∃ t, t = X5E.length := ⟨_, rfl⟩
          have HL5 : Hid (p5 = X5N.length ∧ r5 = X5E.length) := ⟨hp, hr⟩
          have lp5 : p5 ≤ 200 := by rw [hp]; exact og.2.2.1
          have lr5 : r5 ≤ 200 := by rw [hr]; exact og.2.2.2
          rw [← hp, ← hr] at og ⊢
          clear hp hr
          have HR5 : Hid (GrAt wg (.slice xa5 p5 xc5) (.slice xb5 r5 xd5) X5N X5E) := og
          clear og
          have z2 := HZ2.out.2
          have z4 := HZ4.out.2
          have n24 : ¬ P2 = P4 := by omega
          have n42 : ¬ P4 = P2 := by omega
          have n20 : ¬ P2 = O0 := by omega
          have n02 : ¬ O0 = P2 := by omega
          go_wp2_with fail
          generalize hW : (wg.setCell ⟨P2, 0, none⟩ (.slice xa5 p5 xc5)).setCell ⟨P2, 1, none⟩ (.slice xb5 r5 xd5) = wg1
          have hS1 : (wg.setCell ⟨P2, 0, none⟩ (.slice xa5 p5 xc5)).cell? ⟨P2, 1, none⟩ = some (.slice xb1 r1 xd1) := (World.cell?_setCell_other _ _ _ _ (fun e => by cases e)).trans cc21
          have hsz : wg1.heap.size = wg.heap.size := by rw [← hW]; simp
          have kk0 : wg1.cell? ⟨P2, 0, none⟩ = some (.slice xa5 p5 xc5) := by
            rw [← hW]
            exact (World.cell?_setCell_other _ _ _ _ (fun e => by cases e)).trans (World.cell?_setCell_same _ _ _ cc20)
          have kk1 : wg1.cell? ⟨P2, 1, none⟩ = some (.slice xb5 r5 xd5) := by
            rw [← hW]
            exact World.cell?_setCell_same _ _ _ hS1
          have d0 : wg1.cell? ⟨P0, 0, none⟩ = some (.slice ga n gc) := (by rw [← hW, World.cell?_setCell_other _ _ _ _ (fun e => by have := congrArg Addr.block e; simp at this; omega), World.cell?_setCell_other _ _ _ _ (fun e => by have := congrArg Addr.block e; simp at this; omega)]; exact cc0)
          have d1 : wg1.cell? ⟨P0, 1, none⟩ = some (.slice gb m gd) := (by rw [← hW, World.cell?_setCell_other _ _ _ _ (fun e => by have := congrArg Addr.block e; simp at this; omega), World.cell?_setCell_other _ _ _ _ (fun e => by have := congrArg Addr.block e; simp at this; omega)]; exact cc1)
          have d2 : wg1.cell? ⟨O0, 0, none⟩ = some (.int .i64 k) := (by rw [← hW, World.cell?_setCell_other _ _ _ _ (fun e => by have := congrArg Addr.block e; simp at this; omega), World.cell?_setCell_other _ _ _ _ (fun e => by have := congrArg Addr.block e; simp at this; omega)]; exact cc2)
          have d3 : wg1.cell? ⟨O0, 1, none⟩ = some (.int .i64 nl) := (by rw [← hW, World.cell?_setCell_other _ _ _ _ (fun e => by have := congrArg Addr.block e; simp at this; omega), World.cell?_setCell_other _ _ _ _ (fun e => by have := congrArg Addr.block e; simp at this; omega)]; exact cc3)
          have d4 : wg1.cell? ⟨O0, 2, none⟩ = some (.int .i64 nn) := (by rw [← hW, World.cell?_setCell_other _ _ _ _ (fun e => by have := congrArg Addr.block e; simp at this; omega), World.cell?_setCell_other _ _ _ _ (fun e => by have := congrArg Addr.block e; simp at this; omega)]; exact cc4)
          have d5 : wg1.cell? ⟨O0, 3, none⟩ = some (.int .i64 l) := (by rw [← hW, World.cell?_setCell_other _ _ _ _ (fun e => by have := congrArg Addr.block e; simp at this; omega), World.cell?_setCell_other _ _ _ _ (fun e => by have := congrArg Addr.block e; simp at this; omega)]; exact cc5)
          have d6 : wg1.cell? ⟨O0, 4, none⟩ = some (.int .i64 al) := (by rw [← hW, World.cell?_setCell_other _ _ _ _ (fun e => by have := congrArg Addr.block e; simp at this; omega), World.cell?_setCell_other _ _ _ _ (fun e => by have := congrArg Addr.block e; simp at this; omega)]; exact cc6)
          have d7 : wg1.cell? ⟨O0, 5, none⟩ = some (.int .i64 an) := (by rw [← hW, World.cell?_setCell_other _ _ _ _ (fun e => by have := congrArg Addr.block e; simp at this; omega), World.cell?_setCell_other _ _ _ _ (fun e => by have := congrArg Addr.block e; simp at this; omega)]; exact cc7)
          have d8 : wg1.cell? ⟨O0, 6, none⟩ = some (.int .i64 bl) := (by rw [← hW, World.cell?_setCell_other _ _ _ _ (fun e => by have := congrArg Addr.block e; simp at this; omega), World.cell?_setCell_other _ _ _ _ (fun e => by have := congrArg Addr.block e; simp at this; omega)]; exact cc8)
          have d9 : wg1.cell? ⟨O0, 7, none⟩ = some (.int .i64 bn) := (by rw [← hW, World.cell?_setCell_other _ _ _ _ (fun e => by have := congrArg Addr.block e; simp at this; omega), World.cell?_setCell_other _ _ _ _ (fun e => by have := congrArg Addr.block e; simp at this; omega)]; exact cc9)
          have d10 : wg1.cell? ⟨P1, 0, none⟩ = some (.slice ha ms.length hc) := (by rw [← hW, World.cell?_setCell_other _ _ _ _ (fun e => by have := congrArg Addr.block e; simp at this; omega), World.cell?_setCell_other _ _ _ _ (fun e => by have := congrArg Addr.block e; simp at this; omega)]; exact cc10)
          have d11 : wg1.cell? ⟨P1, 1, none⟩ = some (.slice hb fs.length hd) := (by rw [← hW, World.cell?_setCell_other _ _ _ _ (fun e => by have := congrArg Addr.block e; simp at this; omega), World.cell?_setCell_other _ _ _ _ (fun e => by have := congrArg Addr.block e; simp at this; omega)]; exact cc11)
          have d12 : wg1.cell? ⟨O1, 0, none⟩ = some (.int .i64 k') := (by rw [← hW, World.cell?_setCell_other _ _ _ _ (fun e => by have := congrArg Addr.block e; simp at this; omega), World.cell?_setCell_other _ _ _ _ (fun e => by have := congrArg Addr.block e; simp at this; omega)]; exact cc12)
          have d13 : wg1.cell? ⟨O1, 1, none⟩ = some (.int .i64 nl') := (by rw [← hW, World.cell?_setCell_other _ _ _ _ (fun e => by have := congrArg Addr.block e; simp at this; omega), World.cell?_setCell_other _ _ _ _ (fun e => by have := congrArg Addr.block e; simp at this; omega)]; exact cc13)
          have d14 : wg1.cell? ⟨O1, 2, none⟩ = some (.int .i64 nn') := (by rw [← hW, World.cell?_setCell_other _ _ _ _ (fun e => by have := congrArg Addr.block e; simp at this; omega), World.cell?_setCell_other _ _ _ _ (fun e => by have := congrArg Addr.block e; simp at this; omega)]; exact cc14)
          have d15 : wg1.cell? ⟨O1, 3, none⟩ = some (.int .i64 l') := (by rw [← hW, World.cell?_setCell_other _ _ _ _ (fun e => by have := congrArg Addr.block e; simp at this; omega), World.cell?_setCell_other _ _ _ _ (fun e => by have := congrArg Addr.block e; simp at this; omega)]; exact cc15)
          have d16 : wg1.cell? ⟨O1, 4, none⟩ = some (.int .i64 al') := (by rw [← hW, World.cell?_setCell_other _ _ _ _ (fun e => by have := congrArg Addr.block e; simp at this; omega), World.cell?_setCell_other _ _ _ _ (fun e => by have := congrArg Addr.block e; simp at this; omega)]; exact cc16)
          have d17 : wg1.cell? ⟨O1, 5, none⟩ = some (.int .i64 an') := (by rw [← hW, World.cell?_setCell_other _ _ _ _ (fun e => by have := congrArg Addr.block e; simp at this; omega), World.cell?_setCell_other _ _ _ _ (fun e => by have := congrArg Addr.block e; simp at this; omega)]; exact cc17)
          have d18 : wg1.cell? ⟨O1, 6, none⟩ = some (.int .i64 bl') := (by rw [← hW, World.cell?_setCell_other _ _ _ _ (fun e => by have := congrArg Addr.block e; simp at this; omega), World.cell?_setCell_other _ _ _ _ (fun e => by have := congrArg Addr.block e; simp at this; omega)]; exact cc18)
          have d19 : wg1.cell? ⟨O1, 7, none⟩ = some (.int .i64 bn') := (by rw [← hW, World.cell?_setCell_other _ _ _ _ (fun e => by have := congrArg Addr.block e; simp at this; omega), World.cell?_setCell_other _ _ _ _ (fun e => by have := congrArg Addr.block e; simp at this; omega)]; exact cc19)
          have d20 : wg1.cell? ⟨P2, 0, none⟩ = some (.slice xa5 p5 xc5) := kk0
          have d21 : wg1.cell? ⟨P2, 1, none⟩ = some (.slice xb5 r5 xd5) := kk1
          have d22 : wg1.cell? ⟨P3, 0, none⟩ = some (.slice xa2 p2 xc2) := (by rw [← hW, World.cell?_setCell_other _ _ _ _ (fun e => by have := congrArg Addr.block e; simp at this; omega), World.cell?_setCell_other _ _ _ _ (fun e => by have := congrArg Addr.block e; simp at this; omega)]; exact cc22)
          have d23 : wg1.cell? ⟨P3, 1, none⟩ = some (.slice xb2 r2 xd2) := (by rw [← hW, World.cell?_setCell_other _ _ _ _ (fun e => by have := congrArg Addr.block e; simp at this; omega), World.cell?_setCell_other _ _ _ _ (fun e => by have := congrArg Addr.block e; simp at this; omega)]; exact cc23)
          have d24 : wg1.cell? ⟨P4, 0, none⟩ = some (.slice xa3 p3 xc3) := (by rw [← hW, World.cell?_setCell_other _ _ _ _ (fun e => by have := congrArg Addr.block e; simp at this; omega), World.cell?_setCell_other _ _ _ _ (fun e => by have := congrArg Addr.block e; simp at this; omega)]; exact cc24)
          have d25 : wg1.cell? ⟨P4, 1, none⟩ = some (.slice xb3 r3 xd3) := (by rw [← hW, World.cell?_setCell_other _ _ _ _ (fun e => by have := congrArg Addr.block e; simp at this; omega), World.cell?_setCell_other _ _ _ _ (fun e => by have := congrArg Addr.block e; simp at this; omega)]; exact cc25)
          have y0 : P0 < wg1.heap.size := by rw [hsz]; omega
          have y1 : O0 < wg1.heap.size := by rw [hsz]; omega
          have y2 : P1 < wg1.heap.size := by rw [hsz]; omega
          have y3 : O1 < wg1.heap.size := by rw [hsz]; omega
          have y4 : P2 < wg1.heap.size := by rw [hsz]; omega
          have y5 : P3 < wg1.heap.size := by rw [hsz]; omega
          have y6 : P4 < wg1.heap.size := by rw [hsz]; omega
          have BB1 : Below A wa wg1 := by rw [← hW]; exact (BB.setCell oP2A _).setCell oP2A _
          have sA1 : A ≤ wg1.heap.size := by rw [hsz]; omega
          have q0 : Hid (GrAt wg1 (.slice xa1 p1 xc1) (.slice xb1 r1 xd1) X1N X1E) := by show GrAt wg1 (.slice xa1 p1 xc1) (.slice xb1 r1 xd1) X1N X1E; rw [← hW]; exact (HR1.out.sets cc20 _).sets hS1 _
          have q1 : Hid (Thaw wg1 P2) := by show Thaw wg1 P2; rw [← hW]; exact (HZ2.out.sets cc20 _).sets hS1 _
          have q2 : Hid (GrAt wg1 (.slice xa2 p2 xc2) (.slice xb2 r2 xd2) X1N X1E) := by show GrAt wg1 (.slice xa2 p2 xc2) (.slice xb2 r2 xd2) X1N X1E; rw [← hW]; exact (HR2.out.sets cc20 _).sets hS1 _
          have q3 : Hid (GrAt wg1 (.slice xa3 p3 xc3) (.slice xb3 r3 xd3) X2N X2E) := by show GrAt wg1 (.slice xa3 p3 xc3) (.slice xb3 r3 xd3) X2N X2E; rw [← hW]; exact (HR3.out.sets cc20 _).sets hS1 _
          have q4 : Hid (Thaw wg1 P4) := by show Thaw wg1 P4; rw [← hW]; exact (HZ4.out.sets cc20 _).sets hS1 _
          have q5 : Hid (GrAt wg1 (.slice xa5 p5 xc5) (.slice xb5 r5 xd5) X5N X5E) := by show GrAt wg1 (.slice xa5 p5 xc5) (.slice xb5 r5 xd5) X5N X5E; rw [← hW]; exact (HR5.out.sets cc20 _).sets hS1 _
          clear BB sA cc0 cc1 cc2 cc3 cc4 cc5 cc6 cc7 cc8 cc9 cc10 cc11 cc12 cc13 cc14 cc15 cc16 cc17 cc18 cc19 cc20 cc21 cc22 cc23 cc24 cc25 zz0 zz1 zz2 zz3 zz4 zz5 zz6 HR1 HZ2 HR2 HR3 HZ4 HR5
          have cc0 := d0
          have cc1 := d1
          have cc2 := d2
          have cc3 := d3
          have cc4 := d4
          have cc5 := d5
          have cc6 := d6
          have cc7 := d7
          have cc8 := d8
          have cc9 := d9
          have cc10 := d10
          have cc11 := d11
          have cc12 := d12
          have cc13 := d13
          have cc14 := d14
          have cc15 := d15
          have cc16 := d16
          have cc17 := d17
          have cc18 := d18
          have cc19 := d19
          have cc20 := d20
          have cc21 := d21
          have cc22 := d22
          have cc23 := d23
          have cc24 := d24
          have cc25 := d25
          have zz0 := y0
          have zz1 := y1
          have zz2 := y2
          have zz3 := y3
          have zz4 := y4
          have zz5 := y5
          have zz6 := y6
          have HR1 := q0
          have HZ2 := q1
          have HR2 := q2
          have HR3 := q3
          have HZ4 := q4
          have HR5 := q5
          have BB := BB1
          have sA := sA1
          clear BB1 sA1 d0 d1 d2 d3 d4 d5 d6 d7 d8 d9 d10 d11 d12 d13 d14 d15 d16 d17 d18 d19 d20 d21 d22 d23 d24 d25 y0 y1 y2 y3 y4 y5 y6 q0 q1 q2 q3 q4 q5
          clear hW hS1 hsz kk0 kk1
          clear z2 z4
          refine (gdo_impl _ _ X2N X2E k nl nn l al an bl bn _ HR3.out (HV.out _ BB).2.1).mono ?_
          rintro e wh ⟨u1, u2, rfl, og, bwh⟩
          have d0 : wh.cell? ⟨P0, 0, none⟩ = some (.slice ga n gc) := (Below.celz bwh _ _ _ (by omega)).trans cc0
          have d1 : wh.cell? ⟨P0, 1, none⟩ = some (.slice gb m gd) := (Below.celz bwh _ _ _ (by omega)).trans cc1
          have d2 : wh.cell? ⟨O0, 0, none⟩ = some (.int .i64 k) := (Below.celz bwh _ _ _ (by omega)).trans cc2
          have d3 : wh.cell? ⟨O0, 1, none⟩ = some (.int .i64 nl) := (Below.celz bwh _ _ _ (by omega)).trans cc3
          have d4 : wh.cell? ⟨O0, 2, none⟩ = some (.int .i64 nn) := (Below.celz bwh _ _ _ (by omega)).trans cc4
          have d5 : wh.cell? ⟨O0, 3, none⟩ = some (.int .i64 l) := (Below.celz bwh _ _ _ (by omega)).trans cc5
          have d6 : wh.cell? ⟨O0, 4, none⟩ = some (.int .i64 al) := (Below.celz bwh _ _ _ (by omega)).trans cc6
          have d7 : wh.cell? ⟨O0, 5, none⟩ = some (.int .i64 an) := (Below.celz bwh _ _ _ (by omega)).trans cc7
          have d8 : wh.cell? ⟨O0, 6, none⟩ = some (.int .i64 bl) := (Below.celz bwh _ _ _ (by omega)).trans cc8
          have d9 : wh.cell? ⟨O0, 7, none⟩ = some (.int .i64 bn) := (Below.celz bwh _ _ _ (by omega)).trans cc9
          have d10 : wh.cell? ⟨P1, 0, none⟩ = some (.slice ha ms.length hc) := (Below.celz bwh _ _ _ (by omega)).trans cc10
          have d11 : wh.cell? ⟨P1, 1, none⟩ = some (.slice hb fs.length hd) := (Below.celz bwh _ _ _ (by omega)).trans cc11
          have d12 : wh.cell? ⟨O1, 0, none⟩ = some (.int .i64 k') := (Below.celz bwh _ _ _ (by omega)).trans cc12
          have d13 : wh.cell? ⟨O1, 1, none⟩ = some (.int .i64 nl') := (Below.celz bwh _ _ _ (by omega)).trans cc13
          have d14 : wh.cell? ⟨O1, 2, none⟩ = some (.int .i64 nn') := (Below.celz bwh _ _ _ (by omega)).trans cc14
          have d15 : wh.cell? ⟨O1, 3, none⟩ = some (.int .i64 l') := (Below.celz bwh _ _ _ (by omega)).trans cc15
          have d16 : wh.cell? ⟨O1, 4, none⟩ = some (.int .i64 al') := (Below.celz bwh _ _ _ (by omega)).trans cc16
          have d17 : wh.cell? ⟨O1, 5, none⟩ = some (.int .i64 an') := (Below.celz bwh _ _ _ (by omega)).trans cc17
          have d18 : wh.cell? ⟨O1, 6, none⟩ = some (.int .i64 bl') := (Below.celz bwh _ _ _ (by omega)).trans cc18
          have d19 : wh.cell? ⟨O1, 7, none⟩ = some (.int .i64 bn') := (Below.celz bwh _ _ _ (by omega)).trans cc19
          have d20 : wh.cell? ⟨P2, 0, none⟩ = some (.slice xa5 p5 xc5) := (Below.celz bwh _ _ _ (by omega)).trans cc20
          have d21 : wh.cell? ⟨P2, 1, none⟩ = some (.slice xb5 r5 xd5) := (Below.celz bwh _ _ _ (by omega)).trans cc21
          have d22 : wh.cell? ⟨P3, 0, none⟩ = some (.slice xa2 p2 xc2) := (Below.celz bwh _ _ _ (by omega)).trans cc22
          have d23 : wh.cell? ⟨P3, 1, none⟩ = some (.slice xb2 r2 xd2) := (Below.celz bwh _ _ _ (by omega)).trans cc23
          have d24 : wh.cell? ⟨P4, 0, none⟩ = some (.slice xa3 p3 xc3) := (Below.celz bwh _ _ _ (by omega)).trans cc24
          have d25 : wh.cell? ⟨P4, 1, none⟩ = some (.slice xb3 r3 xd3) := (Below.celz bwh _ _ _ (by omega)).trans cc25
          have y0 : P0 < wh.heap.size := by have := Below.size bwh; omega
          have y1 : O0 < wh.heap.size := by have := Below.size bwh; omega
          have y2 : P1 < wh.heap.size := by have := Below.size bwh; omega
          have y3 : O1 < wh.heap.size := by have := Below.size bwh; omega
          have y4 : P2 < wh.heap.size := by have := Below.size bwh; omega
          have y5 : P3 < wh.heap.size := by have := Below.size bwh; omega
          have y6 : P4 < wh.heap.size := by have := Below.size bwh; omega
          have BB1 : Below A wa wh := BB.trans (bwh.mono (by omega))
          have sA1 : A ≤ wh.heap.size := by have := Below.size bwh; omega
          have q0 : Hid (GrAt wh (.slice xa1 p1 xc1) (.slice xb1 r1 xd1) X1N X1E) := HR1.out.keep bwh
          have q1 : Hid (Thaw wh P2) := HZ2.out.keep bwh
          have q2 : Hid (GrAt wh (.slice xa2 p2 xc2) (.slice xb2 r2 xd2) X1N X1E) := HR2.out.keep bwh
          have q3 : Hid (GrAt wh (.slice xa3 p3 xc3) (.slice xb3 r3 xd3) X2N X2E) := HR3.out.keep bwh
          have q4 : Hid (Thaw wh P4) := HZ4.out.keep bwh
          have q5 : Hid (GrAt wh (.slice xa5 p5 xc5) (.slice xb5 r5 xd5) X5N X5E) := HR5.out.keep bwh
          clear BB sA cc0 cc1 cc2 cc3 cc4 cc5 cc6 cc7 cc8 cc9 cc10 cc11 cc12 cc13 cc14 cc15 cc16 cc17 cc18 cc19 cc20 cc21 cc22 cc23 cc24 cc25 zz0 zz1 zz2 zz3 zz4 zz5 zz6 HR1 HZ2 HR2 HR3 HZ4 HR5
          have cc0 := d0
          have cc1 := d1
          have cc2 := d2
          have cc3 := d3
          have cc4 := d4
          have cc5 := d5
          have cc6 := d6
          have cc7 := d7
          have cc8 := d8
          have cc9 := d9
          have cc10 := d10
          have cc11 := d11
          have cc12 := d12
          have cc13 := d13
          have cc14 := d14
          have cc15 := d15
          have cc16 := d16
          have cc17 := d17
          have cc18 := d18
          have cc19 := d19
          have cc20 := d20
          have cc21 := d21
          have cc22 := d22
          have cc23 := d23
          have cc24 := d24
          have cc25 := d25
          have zz0 := y0
          have zz1 := y1
          have zz2 := y2
          have zz3 := y3
          have zz4 := y4
          have zz5 := y5
          have zz6 := y6
          have HR1 := q0
          have HZ2 := q1
          have HR2 := q2
          have HR3 := q3
          have HZ4 := q4
          have HR5 := q5
          have BB := BB1
          have sA := sA1
          clear BB1 sA1 d0 d1 d2 d3 d4 d5 d6 d7 d8 d9 d10 d11 d12 d13 d14 d15 d16 d17 d18 d19 d20 d21 d22 d23 d24 d25 y0 y1 y2 y3 y4 y5 y6 q0 q1 q2 q3 q4 q5
          clear bwh
          rw [← HX6.out.1, ← HX6.out.2.1] at og
          rw [← HX6.out.2.2]
          obtain ⟨xa6, xc6, xb6, xd6, rfl, rfl⟩ := og.form
          obtain ⟨p6, hp⟩ : ∃ t, t = X6N.length := ⟨_, rfl⟩
          obtain ⟨r6, hr⟩ : ∃ t, t = X6E.length := ⟨_, rfl⟩
          have HL6 : Hid (p6 = X6N.length ∧ r6 = X6E.length) := ⟨hp, hr⟩
          have lp6 : p6 ≤ 200 := by rw [hp]; exact og.2.2.1
          have lr6 : r6 ≤ 200 := by rw [hr]; exact og.2.2.2
          rw [← hp, ← hr] at og ⊢
          clear hp hr
          have HR6 : Hid (GrAt wh (.slice xa6 p6 xc6) (.slice xb6 r6 xd6) X6N X6E) := og
          clear og
          have z4 := HZ4.out.2
          rcases HSW.out.1 with ⟨h5, h6⟩ | ⟨h5, h6, h7⟩ | ⟨h7, h8 | h8⟩
          · have HEQ : Hid (X5N = X6N ∧ X5E = X6E) := HSW.out.2 h5 h6
            clear HSW
            subst h5
            subst h6
            have n40 : ¬ P4 = O0 := by omega
            go_wp2_with fail
            generalize hW : (wh.setCell ⟨P4, 0, none⟩ (.slice xa6 p6 xc6)).setCell ⟨P4, 1, none⟩ (.slice xb6 r6 xd6) = wh1
            have hS1 : (wh.setCell ⟨P4, 0, none⟩ (.slice xa6 p6 xc6)).cell? ⟨P4, 1, none⟩ = some (.slice xb3 r3 xd3) := (World.cell?_setCell_other _ _ _ _ (fun e => by cases e)).trans cc25
            have hsz : wh1.heap.size = wh.heap.size := by rw [← hW]; simp
            have kk0 : wh1.cell? ⟨P4, 0, none⟩ = some (.slice xa6 p6 xc6) := by
              rw [← hW]
              exact (World.cell?_setCell_other _ _ _ _ (fun e => by cases e)).trans (World.cell?_setCell_same _ _ _ cc24)
            have kk1 : wh1.cell? ⟨P4, 1, none⟩ = some (.slice xb6 r6 xd6) := by
              rw [← hW]
              exact World.cell?_setCell_same _ _ _ hS1
            have d0 : wh1.cell? ⟨P0, 0, none⟩ = some (.slice ga n gc) := (by rw [← hW, World.cell?_setCell_other _ _ _ _ (fun e => by have := congrArg Addr.block e; simp at this; omega), World.cell?_setCell_other _ _ _ _ (fun e => by have := congrArg Addr.block e; simp at this; omega)]; exact cc0)
            have d1 : wh1.cell? ⟨P0, 1, none⟩ = some (.slice gb m gd) := (by rw [← hW, World.cell?_setCell_other _ _ _ _ (fun e => by have := congrArg Addr.block e; simp at this; omega), World.cell?_setCell_other _ _ _ _ (fun e => by have := congrArg Addr.block e; simp at this; omega)]; exact cc1)
            have d2 : wh1.cell? ⟨O0, 0, none⟩ = some (.int .i64 k) := (by rw [← hW, World.cell?_setCell_other _ _ _ _ (fun e => by have := congrArg Addr.block e; simp at this; omega), World.cell?_setCell_other _ _ _ _ (fun e => by have := congrArg Addr.block e; simp at this; omega)]; exact cc2)
            have d3 : wh1.cell? ⟨O0, 1, none⟩ = some (.int .i64 nl) := (by rw [← hW, World.cell?_setCell_other _ _ _ _ (fun e => by have := congrArg Addr.block e; simp at this; omega), World.cell?_setCell_other _ _ _ _ (fun e => by have := congrArg Addr.block e; simp at this; omega)]; exact cc3)
            have d4 : wh1.cell? ⟨O0, 2, none⟩ = some (.int .i64 nn) := (by rw [← hW, World.cell?_setCell_other _ _ _ _ (fun e => by have := congrArg Addr.block e; simp at this; omega), World.cell?_setCell_other _ _ _ _ (fun e => by have := congrArg Addr.block e; simp at this; omega)]; exact cc4)
            have d5 : wh1.cell? ⟨O0, 3, none⟩ = some (.int .i64 l) := (by rw [← hW, World.cell?_setCell_other _ _ _ _ (fun e => by have := congrArg Addr.block e; simp at this; omega), World.cell?_setCell_other _ _ _ _ (fun e => by have := congrArg Addr.block e; simp at this; omega)]; exact cc5)
            have d6 : wh1.cell? ⟨O0, 4, none⟩ = some (.int .i64 al) := (by rw [← hW, World.cell?_setCell_other _ _ _ _ (fun e => by have := congrArg Addr.block e; simp at this; omega), World.cell?_setCell_other _ _ _ _ (fun e => by have := congrArg Addr.block e; simp at this; omega)]; exact cc6)
            have d7 : wh1.cell? ⟨O0, 5, none⟩ = some (.int .i64 an) := (by rw [← hW, World.cell?_setCell_other _ _ _ _ (fun e => by have := congrArg Addr.block e; simp at this; omega), World.cell?_setCell_other _ _ _ _ (fun e => by have := congrArg Addr.block e; simp at this; omega)]; exact cc7)
            have d8 : wh1.cell? ⟨O0, 6, none⟩ = some (.int .i64 bl) := (by rw [← hW, World.cell?_setCell_other _ _ _ _ (fun e => by have := congrArg Addr.block e; simp at this; omega), World.cell?_setCell_other _ _ _ _ (fun e => by have := congrArg Addr.block e; simp at this; omega)]; exact cc8)
            have d9 : wh1.cell? ⟨O0, 7, none⟩ = some (.int .i64 bn) := (by rw [← hW, World.cell?_setCell_other _ _ _ _ (fun e => by have := congrArg Addr.block e; simp at this; omega), World.cell?_setCell_other _ _ _ _ (fun e => by have := congrArg Addr.block e; simp at this; omega)]; exact cc9)
            have d10 : wh1.cell? ⟨P1, 0, none⟩ = some (.slice ha ms.length hc) := (by rw [← hW, World.cell?_setCell_other _ _ _ _ (fun e => by have := congrArg Addr.block e; simp at this; omega), World.cell?_setCell_other _ _ _ _ (fun e => by have := congrArg Addr.block e; simp at this; omega)]; exact cc10)
            have d11 : wh1.cell? ⟨P1, 1, none⟩ = some (.slice hb fs.length hd) := (by rw [← hW, World.cell?_setCell_other _ _ _ _ (fun e => by have := congrArg Addr.block e; simp at this; omega), World.cell?_setCell_other _ _ _ _ (fun e => by have := congrArg Addr.block e; simp at this; omega)]; exact cc11)
            have d12 : wh1.cell? ⟨O1, 0, none⟩ = some (.int .i64 k') := (by rw [← hW, World.cell?_setCell_other _ _ _ _ (fun e => by have := congrArg Addr.block e; simp at this; omega), World.cell?_setCell_other _ _ _ _ (fun e => by have := congrArg Addr.block e; simp at this; omega)]; exact cc12)
            have d13 : wh1.cell? ⟨O1, 1, none⟩ = some (.int .i64 nl') := (by rw [← hW, World.cell?_setCell_other _ _ _ _ (fun e => by have := congrArg Addr.block e; simp at this; omega), World.cell?_setCell_other _ _ _ _ (fun e => by have := congrArg Addr.block e; simp at this; omega)]; exact cc13)
            have d14 : wh1.cell? ⟨O1, 2, none⟩ = some (.int .i64 nn') := (by rw [← hW, World.cell?_setCell_other _ _ _ _ (fun e => by have := congrArg Addr.block e; simp at this; omega), World.cell?_setCell_other _ _ _ _ (fun e => by have := congrArg Addr.block e; simp at this; omega)]; exact cc14)
            have d15 : wh1.cell? ⟨O1, 3, none⟩ = some (.int .i64 l') := (by rw [← hW, World.cell?_setCell_other _ _ _ _ (fun e => by have := congrArg Addr.block e; simp at this; omega), World.cell?_setCell_other _ _ _ _ (fun e => by have := congrArg Addr.block e; simp at this; omega)]; exact cc15)
            have d16 : wh1.cell? ⟨O1, 4, none⟩ = some (.int .i64 al') := (by rw [← hW, World.cell?_setCell_other _ _ _ _ (fun e => by have := congrArg Addr.block e; simp at this; omega), World.cell?_setCell_other _ _ _ _ (fun e => by have := congrArg Addr.block e; simp at this; omega)]; exact cc16)
            have d17 : wh1.cell? ⟨O1, 5, none⟩ = some (.int .i64 an') := (by rw [← hW, World.cell?_setCell_other _ _ _ _ (fun e => by have := congrArg Addr.block e; simp at this; omega), World.cell?_setCell_other _ _ _ _ (fun e => by have := congrArg Addr.block e; simp at this; omega)]; exact cc17)
            have d18 : wh1.cell? ⟨O1, 6, none⟩ = some (.int .i64 bl') := (by rw [← hW, World.cell?_setCell_other _ _ _ _ (fun e => by have := congrArg Addr.block e; simp at this; omega), World.cell?_setCell_other _ _ _ _ (fun e => by have := congrArg Addr.block e; simp at this; omega)]; exact cc18)
            have d19 : wh1.cell? ⟨O1, 7, none⟩ = some (.int .i64 bn') := (by rw [← hW, World.cell?_setCell_other _ _ _ _ (fun e => by have := congrArg Addr.block e; simp at this; omega), World.cell?_setCell_other _ _ _ _ (fun e => by have := congrArg Addr.block e; simp at this; omega)]; exact cc19)
            have d20 : wh1.cell? ⟨P2, 0, none⟩ = some (.slice xa5 p5 xc5) := (by rw [← hW, World.cell?_setCell_other _ _ _ _ (fun e => by have := congrArg Addr.block e; simp at this; omega), World.cell?_setCell_other _ _ _ _ (fun e => by have := congrArg Addr.block e; simp at this; omega)]; exact cc20)
            have d21 : wh1.cell? ⟨P2, 1, none⟩ = some (.slice xb5 r5 xd5) := (by rw [← hW, World.cell?_setCell_other _ _ _ _ (fun e => by have := congrArg Addr.block e; simp at this; omega), World.cell?_setCell_other _ _ _ _ (fun e => by have := congrArg Addr.block e; simp at this; omega)]; exact cc21)
            have d22 : wh1.cell? ⟨P3, 0, none⟩ = some (.slice xa2 p2 xc2) := (by rw [← hW, World.cell?_setCell_other _ _ _ _ (fun e => by have := congrArg Addr.block e; simp at this; omega), World.cell?_setCell_other _ _ _ _ (fun e => by have := congrArg Addr.block e; simp at this; omega)]; exact cc22)
            have d23 : wh1.cell? ⟨P3, 1, none⟩ = some (.slice xb2 r2 xd2) := (by rw [← hW, World.cell?_setCell_other _ _ _ _ (fun e => by have := congrArg Addr.block e; simp at this; omega), World.cell?_setCell_other _ _ _ _ (fun e => by have := congrArg Addr.block e; simp at this; omega)]; exact cc23)
            have d24 : wh1.cell? ⟨P4, 0, none⟩ = some (.slice xa6 p6 xc6) := kk0
            have d25 : wh1.cell? ⟨P4, 1, none⟩ = some (.slice xb6 r6 xd6) := kk1
            have y0 : P0 < wh1.heap.size := by rw [hsz]; omega
            have y1 : O0 < wh1.heap.size := by rw [hsz]; omega
            have y2 : P1 < wh1.heap.size := by rw [hsz]; omega
            have y3 : O1 < wh1.heap.size := by rw [hsz]; omega
            have y4 : P2 < wh1.heap.size := by rw [hsz]; omega
            have y5 : P3 < wh1.heap.size := by rw [hsz]; omega
            have y6 : P4 < wh1.heap.size := by rw [hsz]; omega
            have BB1 : Below A wa wh1 := by rw [← hW]; exact (BB.setCell oP4A _).setCell oP4A _
            have sA1 : A ≤ wh1.heap.size := by rw [hsz]; omega
            have q0 : Hid (GrAt wh1 (.slice xa1 p1 xc1) (.slice xb1 r1 xd1) X1N X1E) := by show GrAt wh1 (.slice xa1 p1 xc1) (.slice xb1 r1 xd1) X1N X1E; rw [← hW]; exact (HR1.out.sets cc24 _).sets hS1 _
            have q1 : Hid (Thaw wh1 P2) := by show Thaw wh1 P2; rw [← hW]; exact (HZ2.out.sets cc24 _).sets hS1 _
            have q2 : Hid (GrAt wh1 (.slice xa2 p2 xc2) (.slice xb2 r2 xd2) X1N X1E) := by show GrAt wh1 (.slice xa2 p2 xc2) (.slice xb2 r2 xd2) X1N X1E; rw [← hW]; exact (HR2.out.sets cc24 _).sets hS1 _
            have q3 : Hid (GrAt wh1 (.slice xa3 p3 xc3) (.slice xb3 r3 xd3) X2N X2E) := by show GrAt wh1 (.slice xa3 p3 xc3) (.slice xb3 r3 xd3) X2N X2E; rw [← hW]; exact (HR3.out.sets cc24 _).sets hS1 _
            have q4 : Hid (Thaw wh1 P4) := by show Thaw wh1 P4; rw [← hW]; exact (HZ4.out.sets cc24 _).sets hS1 _
            have q5 : Hid (GrAt wh1 (.slice xa5 p5 xc5) (.slice xb5 r5 xd5) X5N X5E) := by show GrAt wh1 (.slice xa5 p5 xc5) (.slice xb5 r5 xd5) X5N X5E; rw [← hW]; exact (HR5.out.sets cc24 _).sets hS1 _
            have q6 : Hid (GrAt wh1 (.slice xa6 p6 xc6) (.slice xb6 r6 xd6) X6N X6E) := by show GrAt wh1 (.slice xa6 p6 xc6) (.slice xb6 r6 xd6) X6N X6E; rw [← hW]; exact (HR6.out.sets cc24 _).sets hS1 _
            clear BB sA cc0 cc1 cc2 cc3 cc4 cc5 cc6 cc7 cc8 cc9 cc10 cc11 cc12 cc13 cc14 cc15 cc16 cc17 cc18 cc19 cc20 cc21 cc22 cc23 cc24 cc25 zz0 zz1 zz2 zz3 zz4 zz5 zz6 HR1 HZ2 HR2 HR3 HZ4 HR5 HR6
            have cc0 := d0
            have cc1 := d1
            have cc2 := d2
            have cc3 := d3
            have cc4 := d4
            have cc5 := d5
            have cc6 := d6
            have cc7 := d7
            have cc8 := d8
            have cc9 := d9
            have cc10 := d10
            have cc11 := d11
            have cc12 := d12
            have cc13 := d13
            have cc14 := d14
            have cc15 := d15
            have cc16 := d16
            have cc17 := d17
            have cc18 := d18
            have cc19 := d19
            have cc20 := d20
            have cc21 := d21
            have cc22 := d22
            have cc23 := d23
            have cc24 := d24
            have cc25 := d25
            have zz0 := y0
            have zz1 := y1
            have zz2 := y2
            have zz3 := y3
            have zz4 := y4
            have zz5 := y5
            have zz6 := y6
            have HR1 := q0
            have HZ2 := q1
            have HR2 := q2
            have HR3 := q3
            have HZ4 := q4
            have HR5 := q5
            have HR6 := q6
            have BB := BB1
            have sA := sA1
            clear BB1 sA1 d0 d1 d2 d3 d4 d5 d6 d7 d8 d9 d10 d11 d12 d13 d14 d15 d16 d17 d18 d19 d20 d21 d22 d23 d24 d25 y0 y1 y2 y3 y4 y5 y6 q0 q1 q2 q3 q4 q5 q6
            clear hW hS1 hsz kk0 kk1
            refine (gs_same _ _ _ _ X5N X6N X5E X6E HEQ.out.1 HEQ.out.2 _ HR5.out HR6.out).mono ?_
            rintro e wi ⟨rfl, bz⟩
            have d0 : wi.cell? ⟨P0, 0, none⟩ = some (.slice ga n gc) := (Below.celz bz _ _ _ (by omega)).trans cc0
            have d1 : wi.cell? ⟨P0, 1, none⟩ = some (.slice gb m gd) := (Below.celz bz _ _ _ (by omega)).trans cc1
            have d2 : wi.cell? ⟨O0, 0, none⟩ = some (.int .i64 k) := (Below.celz bz _ _ _ (by omega)).trans cc2
            have d3 : wi.cell? ⟨O0, 1, none⟩ = some (.int .i64 nl) := (Below.celz bz _ _ _ (by omega)).trans cc3
            have d4 : wi.cell? ⟨O0, 2, none⟩ = some (.int .i64 nn) := (Below.celz bz _ _ _ (by omega)).trans cc4
            have d5 : wi.cell? ⟨O0, 3, none⟩ = some (.int .i64 l) := (Below.celz bz _ _ _ (by omega)).trans cc5
            have d6 : wi.cell? ⟨O0, 4, none⟩ = some (.int .i64 al) := (Below.celz bz _ _ _ (by omega)).trans cc6
            have d7 : wi.cell? ⟨O0, 5, none⟩ = some (.int .i64 an) := (Below.celz bz _ _ _ (by omega)).trans cc7
            have d8 : wi.cell? ⟨O0, 6, none⟩ = some (.int .i64 bl) := (Below.celz bz _ _ _ (by omega)).trans cc8
            have d9 : wi.cell? ⟨O0, 7, none⟩ = some (.int .i64 bn) := (Below.celz bz _ _ _ (by omega)).trans cc9
            have d10 : wi.cell? ⟨P1, 0, none⟩ = some (.slice ha ms.length hc) := (Below.celz bz _ _ _ (by omega)).trans cc10
            have d11 : wi.cell? ⟨P1, 1, none⟩ = some (.slice hb fs.length hd) := (Below.celz bz _ _ _ (by omega)).trans cc11
            have d12 : wi.cell? ⟨O1, 0, none⟩ = some (.int .i64 k') := (Below.celz bz _ _ _ (by omega)).trans cc12
            have d13 : wi.cell? ⟨O1, 1, none⟩ = some (.int .i64 nl') := (Below.celz bz _ _ _ (by omega)).trans cc13
            have d14 : wi.cell? ⟨O1, 2, none⟩ = some (.int .i64 nn') := (Below.celz bz _ _ _ (by omega)).trans cc14
            have d15 : wi.cell? ⟨O1, 3, none⟩ = some (.int .i64 l') := (Below.celz bz _ _ _ (by omega)).trans cc15
            have d16 : wi.cell? ⟨O1, 4, none⟩ = some (.int .i64 al') := (Below.celz bz _ _ _ (by omega)).trans cc16
            have d17 : wi.cell? ⟨O1, 5, none⟩ = some (.int .i64 an') := (Below.celz bz _ _ _ (by omega)).trans cc17
            have d18 : wi.cell? ⟨O1, 6, none⟩ = some (.int .i64 bl') := (Below.celz bz _ _ _ (by omega)).trans cc18
            have d19 : wi.cell? ⟨O1, 7, none⟩ = some (.int .i64 bn') := (Below.celz bz _ _ _ (by omega)).trans cc19
            have d20 : wi.cell? ⟨P2, 0, none⟩ = some (.slice xa5 p5 xc5) := (Below.celz bz _ _ _ (by omega)).trans cc20
            have d21 : wi.cell? ⟨P2, 1, none⟩ = some (.slice xb5 r5 xd5) := (Below.celz bz _ _ _ (by omega)).trans cc21
            have d22 : wi.cell? ⟨P3, 0, none⟩ = some (.slice xa2 p2 xc2) := (Below.celz bz _ _ _ (by omega)).trans cc22
            have d23 : wi.cell? ⟨P3, 1, none⟩ = some (.slice xb2 r2 xd2) := (Below.celz bz _ _ _ (by omega)).trans cc23
            have d24 : wi.cell? ⟨P4, 0, none⟩ = some (.slice xa6 p6 xc6) := (Below.celz bz _ _ _ (by omega)).trans cc24
            have d25 : wi.cell? ⟨P4, 1, none⟩ = some (.slice xb6 r6 xd6) := (Below.celz bz _ _ _ (by omega)).trans cc25
            have y0 : P0 < wi.heap.size := by have := Below.size bz; omega
            have y1 : O0 < wi.heap.size := by have := Below.size bz; omega
            have y2 : P1 < wi.heap.size := by have := Below.size bz; omega
            have y3 : O1 < wi.heap.size := by have := Below.size bz; omega
            have y4 : P2 < wi.heap.size := by have := Below.size bz; omega
            have y5 : P3 < wi.heap.size := by have := Below.size bz; omega
            have y6 : P4 < wi.heap.size := by have := Below.size bz; omega
            have BB1 : Below A wa wi := BB.trans (bz.mono (by omega))
            have sA1 : A ≤ wi.heap.size := by have := Below.size bz; omega
            have q0 : Hid (GrAt wi (.slice xa1 p1 xc1) (.slice xb1 r1 xd1) X1N X1E) := HR1.out.keep bz
            have q1 : Hid (Thaw wi P2) := HZ2.out.keep bz
            have q2 : Hid (GrAt wi (.slice xa2 p2 xc2) (.slice xb2 r2 xd2) X1N X1E) := HR2.out.keep bz
            have q3 : Hid (GrAt wi (.slice xa3 p3 xc3) (.slice xb3 r3 xd3) X2N X2E) := HR3.out.keep bz
            have q4 : Hid (Thaw wi P4) := HZ4.out.keep bz
            have q5 : Hid (GrAt wi (.slice xa5 p5 xc5) (.slice xb5 r5 xd5) X5N X5E) := HR5.out.keep bz
            have q6 : Hid (GrAt wi (.slice xa6 p6 xc6) (.slice xb6 r6 xd6) X6N X6E) := HR6.out.keep bz
            clear BB sA cc0 cc1 cc2 cc3 cc4 cc5 cc6 cc7 cc8 cc9 cc10 cc11 cc12 cc13 cc14 cc15 cc16 cc17 cc18 cc19 cc20 cc21 cc22 cc23 cc24 cc25 zz0 zz1 zz2 zz3 zz4 zz5 zz6 HR1 HZ2 HR2 HR3 HZ4 HR5 HR6
            have cc0 := d0
            have cc1 := d1
            have cc2 := d2
            have cc3 := d3
            have cc4 := d4
            have cc5 := d5
            have cc6 := d6
            have cc7 := d7
            have cc8 := d8
            have cc9 := d9
            have cc10 := d10
            have cc11 := d11
            have cc12 := d12
            have cc13 := d13
            have cc14 := d14
            have cc15 := d15
            have cc16 := d16
            have cc17 := d17
            have cc18 := d18
            have cc19 := d19
            have cc20 := d20
            have cc21 := d21
            have cc22 := d22
            have cc23 := d23
            have cc24 := d24
            have cc25 := d25
            have zz0 := y0
            have zz1 := y1
            have zz2 := y2
            have zz3 := y3
            have zz4 := y4
            have zz5 := y5
            have zz6 := y6
            have HR1 := q0
            have HZ2 := q1
            have HR2 := q2
            have HR3 := q3
            have HZ4 := q4
            have HR5 := q5
            have HR6 := q6
            have BB := BB1
            have sA := sA1
            clear BB1 sA1 d0 d1 d2 d3 d4 d5 d6 d7 d8 d9 d10 d11 d12 d13 d14 d15 d16 d17 d18 d19 d20 d21 d22 d23 d24 d25 y0 y1 y2 y3 y4 y5 y6 q0 q1 q2 q3 q4 q5 q6
            clear bz
            go_wp2_with fail
            go_ret
            exact ⟨rfl, (HV.out _ BB).2.2.1⟩
          · subst h5
            subst h6
            simp only [Prod.mk.injEq] at h7
            obtain ⟨rfl, rfl, rfl, rfl, rfl, rfl, rfl, rfl⟩ := h7
            have n4O : ¬ P4 = O0 := by omega
            have n4O1 : ¬ P4 = O1 := by omega
            have nO4 : ¬ O0 = P4 := by omega
            have nO41 : ¬ O1 = P4 := by omega
            go_wp2_with fail
            go_ret
            exact ⟨rfl, (HV.out _ ((BB.setCell oP4A _).setCell oP4A _)).2.2.1⟩
          · clear HSW h7
            subst h8
            have n4O : ¬ P4 = O0 := by omega
            have n4O1 : ¬ P4 = O1 := by omega
            have nO4 : ¬ O0 = P4 := by omega
            have nO41 : ¬ O1 = P4 := by omega
            go_wp2_with fail
            all_goals (go_ret; exact ⟨rfl, (HV.out _ ((BB.setCell oP4A _).setCell oP4A _)).2.2.1⟩)
          · clear HSW h7
            subst h8
            have n4O : ¬ P4 = O0 := by omega
            have n4O1 : ¬ P4 = O1 := by omega
            have nO4 : ¬ O0 = P4 := by omega
            have nO41 : ¬ O1 = P4 := by omega
            go_wp2_with fail
            all_goals (go_ret; exact ⟨rfl, (HV.out _ ((BB.setCell oP4A _).setCell oP4A _)).2.2.1⟩)

theorem door_met (os : Os) (args : Array Value) : laidMetH Tryz.prog Rows.fnGraphSwapRow.laid ((World.doorLaid Tryz.prog 85 os).forCall (fun _ _ => 0) ⟨#[], args, []⟩).memory :=
  laidMetH_of_parts3 (fuel := 8) (laidMet_of_run' 8 (by kernel_rfl) (by kernel_rfl)) (by kernel_rfl) (by kernel_rfl)

set_option maxRecDepth 100000 in
set_option maxHeartbeats 1000000 in
theorem lifted (os : Os) (started : os.Started) (H : Type) (enc : TypeId × Value → H) :
    ReturnsInHanded {} Tryz.checked os 7 .any (fun w args => (Rows.fnGraphSwapSpec.pre enc Tryz.prog Tryz.f7 [] false w args ∧ laidMetH Tryz.prog Rows.fnGraphSwapRow.laid w) ∧ sizedMet enc Tryz.prog Tryz.f7 (OpenSpec.ofChange Rows.fnGraphSwapSpec) false w args)
      (Rows.fnGraphSwapSpec.post enc Tryz.prog Tryz.f7 false true false false) := by
  refine returnsInHanded_of_change_and (C := Tryz.checked) (X := fun w _ => laidMetH Tryz.prog Rows.fnGraphSwapRow.laid w) (fun _ _ _ hh h => h.of_heap hh) own started (by kernel_rfl) Tryz.func7
    (ChangeSpec.witness_shaped (enc := enc) (C := Tryz.checked) (os := os) (X := fun w _ => laidMetH Tryz.prog Rows.fnGraphSwapRow.laid w) false (World.doorLaid Tryz.prog 85 os) #[.slice none 0 0, .slice none 0 0] 8 rfl (World.shaped_of_RefB (by kernel_rfl) (by kernel_rfl)) (by kernel_rfl) (by kernel_rfl) (by kernel_rfl) (door_met os _)) ?_
  intro W base args ds gs before hval0 hW _ _ hL _
  have hval : ∀ (j : Nat) t v, Tryz.f7.params[j]? = some t → args[j]? = some v → Value.okWide Tryz.prog W .any base t v := hval0
  have hW' := hW
  obtain ⟨p, q, hA0, hV0, rfl, hfz, hnd⟩ := hW
  have hA : DataW.TrodAll enc Tryz.prog W 0 (fun _ => true) true Tryz.f7.params.toList args.toList ds p := hA0
  have hV : DataW.TrodVars enc Tryz.prog W (fun _ => true) ["loop.example/hagioscope/impl.errForm", "loop.example/hagioscope/impl.errThere", "loop.example/hagioscope/impl.errFull", "loop.example/hagioscope/impl.errNone"] gs q := hV0
  rw [Tryz.params7] at hA hval
  obtain ⟨v0, vs0, d0, ds0, p0, q0, hargs, rfl, rfl, h0, r0⟩ := trodAll_cons hA
  obtain ⟨v1, vs1, d1, ds1, p1, q1, rfl, rfl, rfl, h1, r1⟩ := trodAll_cons r0
  obtain ⟨rfl, rfl, rfl⟩ := trodAll_nil r1
  obtain rfl : args = #[v0, v1] := by cases args; simp_all
  have kr0 := h0
  have lt0 : ∀ x ∈ p0, x.block < W.heap.size := by obtain ⟨m, hm⟩ := kr0; exact DataW.trod_lt m _ _ _ hm
  have kr1 := h1
  have lt1 : ∀ x ∈ p1, x.block < W.heap.size := by obtain ⟨m, hm⟩ := kr1; exact DataW.trod_lt m _ _ _ hm
  obtain ⟨a0, len0, cap0, rfl⟩ := okWide_slice Tryz.underlying22 (hval 0 22 v0 rfl rfl)
  obtain ⟨z0, w0⟩ : ∃ zs, IsRow .u8 W a0 len0 cap0 zs := by
    obtain ⟨fuel, hf⟩ := h0
    rcases open_ints Tryz.underlying22 Tryz.underlying5 (by kernel_rfl) hf with ⟨hcs, _⟩ | ⟨x, l, c, zs, hcs, _, hl, hm, hz, _, hcell, hwz⟩
    · simp [Value.cells] at hcs
      obtain ⟨rfl, rfl, rfl⟩ := hcs
      exact ⟨[], .inl ⟨rfl, rfl, rfl, rfl⟩⟩
    · simp [Value.cells] at hcs
      obtain ⟨rfl, rfl, rfl⟩ := hcs
      exact ⟨zs, .inr ⟨_, rfl, hl, hm, by simpa using hz, hcell, hwz⟩⟩
  obtain ⟨a1, len1, cap1, rfl⟩ := okWide_slice Tryz.underlying22 (hval 1 22 v1 rfl rfl)
  obtain ⟨z1, w1⟩ : ∃ zs, IsRow .u8 W a1 len1 cap1 zs := by
    obtain ⟨fuel, hf⟩ := h1
    rcases open_ints Tryz.underlying22 Tryz.underlying5 (by kernel_rfl) hf with ⟨hcs, _⟩ | ⟨x, l, c, zs, hcs, _, hl, hm, hz, _, hcell, hwz⟩
    · simp [Value.cells] at hcs
      obtain ⟨rfl, rfl, rfl⟩ := hcs
      exact ⟨[], .inl ⟨rfl, rfl, rfl, rfl⟩⟩
    · simp [Value.cells] at hcs
      obtain ⟨rfl, rfl, rfl⟩ := hcs
      exact ⟨zs, .inr ⟨_, rfl, hl, hm, by simpa using hz, hcell, hwz⟩⟩
  have hI := held_of hL
  have hE : Errs W := errs_of hI
  obtain ⟨aF, aT, aN, aU, hF⟩ := four_of hL
  obtain ⟨g1, g2, g3, g4, rfl⟩ : ∃ g1 g2 g3 g4, gs = [g1, g2, g3, g4] := by
    have hlen := vars_len _ _ _ hV
    match gs, hlen with
    | [g1, g2, g3, g4], _ => exact ⟨g1, g2, g3, g4, rfl⟩
  clear hA0 hV0 hval0
  refine (walk a0 len0 cap0 z0 a1 len1 cap1 z1 W w0 w1 aF aT aN aU hF hE).mono fun e W' ⟨he, bel⟩ => ?_
  subst he
  exact ⟨_, rfl, _, _, _, [], _, _, hW', trodAll_mk1 (shut_bool Tryz.underlying4 _), (trodAll_cons_mk (Below.trod laidOut (by kernel_rfl) (of_decide_eq_true (by kernel_rfl)) kr0 bel lt0) (trodAll_cons_mk (Below.trod laidOut (by kernel_rfl) (of_decide_eq_true (by kernel_rfl)) kr1 bel lt1) trodAll_mk0)), vars_keep Tryz.underlying52 bel _ _ _ hV hI, bel.frame _, fun h => by cases h⟩

theorem said : Rows.FnGraphSwapSaid :=
  OpenClaim.holds_of_wide 7 Tryz.f7 rfl rfl rfl rfl rfl rfl rfl ⟨rfl, rfl, rfl, rfl, rfl⟩ rfl rfl rfl rfl rfl (by kernel_rfl) Tryz.func7 (by kernel_rfl)
    (of_decide_eq_true (by kernel_rfl)) (by unfold Func.isWrapper; first | (rw [if_pos (by decide +kernel)]; kernel_rfl) | (rw [if_neg (by decide +kernel)]; exact ⟨rfl, rfl⟩))
    (fun os started H enc _ => lifted os started H enc)

theorem plain (f : FuncId) (fn : Func) (hf : Tryz.pinned.checked.prog.funcNamed "loop.example/hagioscope/laws.FnGraphSwap" = some f) (hfn : Tryz.pinned.checked.prog.funcs[f]? = some fn) :
    true = Tryz.pinned.checked.prog.looks [] ∧ ∀ (j : Nat) t, fn.params[j]? = some t → Tryz.pinned.checked.prog.wantsStandIn t = false := by
  obtain rfl : f = 7 := Option.some.inj ((show Tryz.prog.funcNamed "loop.example/hagioscope/laws.FnGraphSwap" = some 7 by kernel_rfl).symm.trans hf) |>.symm
  obtain rfl : fn = Tryz.f7 := (Option.some.inj (Tryz.func7.symm.trans hfn)).symm
  refine ⟨by kernel_rfl, fun j t ht => ?_⟩
  rw [Tryz.params7] at ht
  obtain rfl : t = 22 := by simpa using Array.mem_of_getElem? ht
  · exact (show Tryz.prog.wantsStandIn 22 = false by kernel_rfl)

end Go.Proofs.YtkhfbaggkmeahaaGreatDoor.fnGraphSwap
namespace Go.Proofs.YtkhfbaggkmeahaaGreatDoor
theorem fnGraphSwap_card : Rows.FnGraphSwapCardSaid :=
  Claim7.holds_tied_plain_at .later [] _ _ _ _ fnGraphSwap.said (fun _ h => by cases h) (by kernel_rfl) (fun _ h => by cases h) fnGraphSwap_row_tie rfl ⟨rfl, rfl⟩ (by kernel_rfl) rfl fnGraphSwap.plain (by kernel_rfl)
#print axioms fnGraphSwap_card
end Go.Proofs.YtkhfbaggkmeahaaGreatDoor
