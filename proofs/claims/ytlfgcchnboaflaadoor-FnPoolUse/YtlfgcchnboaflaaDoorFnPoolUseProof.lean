/-
  
-/
import Derived.Test.YtlfgcchnboaflaaDoorCards
import Derived.Test.YtlfgcchnboaflaaDoorTie
import Derived.Test.YtlfgcchnboaflaaDoorStu
import Derived.Test.YtlfgcchnboaflaaDoorDpu
import Derived.WalkKit
import Derived.ProofKit
import Derived.OpenShut
import Derived.ShutString
import Derived.ChangeOld
import Derived.Below
import Derived.Carry
import Derived.Handy
import Derived.Deep.RegionHeld3
import Derived.LaidMore
namespace Go.Proofs.YtlfgcchnboaflaaDoor.fnPoolUse
open Go.Proofs.YtlfgcchnboaflaaDoor.Lab
open Go.ChangeShapes Go.WideShapes Go.ChangeAt Go.RowKit
open Go.ChangeMaps (open_string shut_string)
set_option linter.unusedVariables false

theorem own : ownKnob Tryd.prog.godebug = none := by kernel_rfl
/-- A row of numbers that came in: nil, or so many cells. -/
def IsRow (k : IntKind) (w : World) (a : Option Addr) (len cap : Nat) (zs : List Int) : Prop :=
  (a = none ∧ len = 0 ∧ cap = 0 ∧ zs = []) ∨ ∃ x, a = some x ∧ len ≤ cap ∧ cap ≤ maxLen ∧ zs.length = cap ∧ (∀ i, i < zs.length → w.cell? (x.add i) = some (.int k (zs.getD i 0))) ∧ ∀ n ∈ zs, (Lit.int k n).wf = true

set_option maxRecDepth 16000 in
set_option maxHeartbeats 8000000 in
theorem walk (a0 : Option Addr) (len0 cap0 : Nat) (z0 : List Int) (w : World) (w0 : IsRow .u8 w a0 len0 cap0 z0) (hform : FormAt w) :
    Calls Tryd.prog 3 #[.slice a0 len0 cap0] w fun e w' => e = .returned (.bool true) ∧ Below w.heap.size w w' := by
  have HF : Hid (FormAt w) := hform
  clear hform
  by_cases hlen0 : len0 > 1048576
  · go_enter Tryd.func3, Tryd.ntmps3
    go_wp2
    go_ret
    exact ⟨rfl, Below.refl _ _⟩
  have k0 : CodeAt w a0 len0 cap0 z0 := code_of w0
  clear w0
  go_enter Tryd.func3, Tryd.ntmps3
  go_wp2_with fail
  refine (drawPoolUse _ _ _ _ _ k0).mono ?_
  rintro e wa ⟨zz, u, xs, pl, pn, rfl, ou, lx, hz, ba⟩
  obtain ⟨ua, uc, rfl⟩ := ou.form
  obtain ⟨m, hm⟩ : ∃ m, m = xs.length := ⟨_, rfl⟩
  have HM : Hid (m = xs.length) := hm
  rw [← hm] at lx ou ⊢
  obtain ⟨A, hA⟩ : ∃ t, t = wa.heap.size := ⟨_, rfl⟩
  have HA : Hid (A = wa.heap.size) := hA
  have BB : Below A wa wa := Below.refl _ _
  have sA : A ≤ wa.heap.size := by omega
  have HV : Hid (∀ W, Below A wa W → RowC W (.slice ua m uc) xs ∧ FormAt W ∧ Below w.heap.size w W) := fun W h => by
    rw [HA.out] at h
    exact ⟨(RowC.of_own ou).keep h, (HF.out.keep ba).keep h, ba.trans (h.mono ba.size)⟩
  clear ou ba k0 hm HF hA
  go_wp2_with fail
  obtain ⟨P0, hP0⟩ : ∃ t, t = wa.heap.size := ⟨_, rfl⟩
  generalize hW : wa.alloc (.cells #[.int .i64 zz, .slice ua m uc] 25) = wb
  have nb : Below wa.heap.size wa wb := by rw [← hW]; exact (Below.refl _ _).alloc (Nat.le_refl _) _
  have k3 : wb.heap.size = P0 + 1 := by rw [← hW, hP0]; simp
  have kk0 : wb.cell? ⟨P0, 0, none⟩ = some (.int .i64 zz) := by rw [← hW, hP0]; simp [go_sem]
  have kk1 : wb.cell? ⟨P0, 1, none⟩ = some (.slice ua m uc) := by rw [← hW, hP0]; simp [go_sem]
  have oP0A : A ≤ P0 := by rw [hP0]; exact sA
  have BB1 : Below A wa wb := BB.trans (nb.mono (by omega))
  have sA1 : A ≤ wb.heap.size := by have := Below.size nb; omega
  clear BB sA   
  have BB := BB1
  have sA := sA1
  clear BB1 sA1   
  have cc0 := kk0
  have cc1 := kk1
  have zz0 : P0 < wb.heap.size := by omega
  rw [← hP0]
  have k3P0 := k3
  clear k3 hW nb hP0 kk0 kk1
  rw [k3P0.symm]
  obtain ⟨P1, hP1⟩ : ∃ t, t = wb.heap.size := ⟨_, rfl⟩
  generalize hW : wb.alloc (.cells #[.int .i64 pl, .int .i64 pn] 27) = wb2
  have nb : Below wb.heap.size wb wb2 := by rw [← hW]; exact (Below.refl _ _).alloc (Nat.le_refl _) _
  have k3 : wb2.heap.size = P1 + 1 := by rw [← hW, hP1]; simp
  have kk0 : wb2.cell? ⟨P1, 0, none⟩ = some (.int .i64 pl) := by rw [← hW, hP1]; simp [go_sem]
  have kk1 : wb2.cell? ⟨P1, 1, none⟩ = some (.int .i64 pn) := by rw [← hW, hP1]; simp [go_sem]
  have oP1A : A ≤ P1 := by rw [hP1]; exact sA
  have oP10 : P0 < P1 := by rw [hP1]; exact zz0
  have d0 : wb2.cell? ⟨P0, 0, none⟩ = some (.int .i64 zz) := (Below.celz nb _ _ _ (by omega)).trans cc0
  have d1 : wb2.cell? ⟨P0, 1, none⟩ = some (.slice ua m uc) := (Below.celz nb _ _ _ (by omega)).trans cc1
  have y0 : P0 < wb2.heap.size := by have := Below.size nb; omega
  have BB1 : Below A wa wb2 := BB.trans (nb.mono (by omega))
  have sA1 : A ≤ wb2.heap.size := by have := Below.size nb; omega
  clear BB sA cc0 cc1 zz0 
  have cc0 := d0
  have cc1 := d1
  have zz0 := y0
  have BB := BB1
  have sA := sA1
  clear BB1 sA1 d0 d1 y0 
  have cc2 := kk0
  have cc3 := kk1
  have zz1 : P1 < wb2.heap.size := by omega
  rw [← hP1]
  have k3P1 := k3
  clear k3 hW nb hP1 kk0 kk1
  clear k3P0 k3P1
  obtain ⟨Z1, X1, H1, HX, lX, HC1, HD1⟩ : ∃ (Z1 : Int) (X1 : List (Int × Int)) (H1 : Bool), Hid (Z1 = puZ zz xs (pl, pn) ∧ X1 = puL zz xs (pl, pn) ∧ H1 = puH zz xs (pl, pn)) ∧ X1.length ≤ 12
      ∧ Hid (∀ W, Below A wa W → Calls Tryd.prog 10 #[.agg #[.int .i64 zz, .slice ua m uc], .agg #[.int .i64 pl, .int .i64 pn]] W fun e w' => ∃ u, e = .returned (.tuple #[.agg #[.int .i64 Z1, u], .bool H1]) ∧ OwnPool w' W.heap.size u X1 ∧ Below W.heap.size W w')
      ∧ Hid (∀ W, Below A wa W → Calls Tryd.prog 11 #[.agg #[.int .i64 zz, .slice ua m uc], .agg #[.int .i64 pl, .int .i64 pn]] W fun e w' => ∃ u, e = .returned (.tuple #[.agg #[.int .i64 Z1, u], .bool H1]) ∧ OwnPool w' W.heap.size u X1 ∧ Below W.heap.size W w') :=
    ⟨_, _, _, ⟨rfl, rfl, rfl⟩, puL_len _ _ _, fun W h => impl_PoolUse zz _ xs pl pn W (HV.out _ h).1.1 (by rw [← HM.out]; omega) (HV.out _ h).2.1, fun W h => spec_PoolUse zz _ xs pl pn W (HV.out _ h).1 (by rw [← HM.out]; omega)⟩
  obtain ⟨x1, hx1⟩ : ∃ t, t = X1.length := ⟨_, rfl⟩
  have HL1 : Hid (x1 = X1.length) := hx1
  have lx1 : x1 ≤ 12 := by omega
  clear lX hx1
  refine (HC1.out _ BB).mono ?_
  rintro e wc ⟨u, rfl, ou, bc⟩
  have d0 : wc.cell? ⟨P0, 0, none⟩ = some (.int .i64 zz) := (Below.celz bc _ _ _ (by omega)).trans cc0
  have d1 : wc.cell? ⟨P0, 1, none⟩ = some (.slice ua m uc) := (Below.celz bc _ _ _ (by omega)).trans cc1
  have d2 : wc.cell? ⟨P1, 0, none⟩ = some (.int .i64 pl) := (Below.celz bc _ _ _ (by omega)).trans cc2
  have d3 : wc.cell? ⟨P1, 1, none⟩ = some (.int .i64 pn) := (Below.celz bc _ _ _ (by omega)).trans cc3
  have y0 : P0 < wc.heap.size := by have := Below.size bc; omega
  have y1 : P1 < wc.heap.size := by have := Below.size bc; omega
  have BB1 : Below A wa wc := BB.trans (bc.mono (by omega))
  have sA1 : A ≤ wc.heap.size := by have := Below.size bc; omega
  clear BB sA cc0 cc1 cc2 cc3 zz0 zz1 
  have cc0 := d0
  have cc1 := d1
  have cc2 := d2
  have cc3 := d3
  have zz0 := y0
  have zz1 := y1
  have BB := BB1
  have sA := sA1
  clear BB1 sA1 d0 d1 d2 d3 y0 y1 
  clear bc
  obtain ⟨pa, pb, rfl⟩ := ou.form
  rw [← HL1.out] at ou ⊢
  have HRC0 := RowC.of_own ou
  have HXX : Hid (RowC wc (.slice pa x1 pb) X1) := HRC0
  clear ou HRC0
  go_wp2_with fail
  obtain ⟨P2, hP2⟩ : ∃ t, t = wc.heap.size := ⟨_, rfl⟩
  generalize hW : wc.alloc (.cells #[.int .i64 Z1, .slice pa x1 pb] 25) = wd
  have nb : Below wc.heap.size wc wd := by rw [← hW]; exact (Below.refl _ _).alloc (Nat.le_refl _) _
  have k3 : wd.heap.size = P2 + 1 := by rw [← hW, hP2]; simp
  have kk0 : wd.cell? ⟨P2, 0, none⟩ = some (.int .i64 Z1) := by rw [← hW, hP2]; simp [go_sem]
  have kk1 : wd.cell? ⟨P2, 1, none⟩ = some (.slice pa x1 pb) := by rw [← hW, hP2]; simp [go_sem]
  have oP2A : A ≤ P2 := by rw [hP2]; exact sA
  have oP20 : P0 < P2 := by rw [hP2]; exact zz0
  have oP21 : P1 < P2 := by rw [hP2]; exact zz1
  have d0 : wd.cell? ⟨P0, 0, none⟩ = some (.int .i64 zz) := (Below.celz nb _ _ _ (by omega)).trans cc0
  have d1 : wd.cell? ⟨P0, 1, none⟩ = some (.slice ua m uc) := (Below.celz nb _ _ _ (by omega)).trans cc1
  have d2 : wd.cell? ⟨P1, 0, none⟩ = some (.int .i64 pl) := (Below.celz nb _ _ _ (by omega)).trans cc2
  have d3 : wd.cell? ⟨P1, 1, none⟩ = some (.int .i64 pn) := (Below.celz nb _ _ _ (by omega)).trans cc3
  have y0 : P0 < wd.heap.size := by have := Below.size nb; omega
  have y1 : P1 < wd.heap.size := by have := Below.size nb; omega
  have BB1 : Below A wa wd := BB.trans (nb.mono (by omega))
  have sA1 : A ≤ wd.heap.size := by have := Below.size nb; omega
  have q0 : Hid (RowC wd (.slice pa x1 pb) X1) := HXX.out.keep nb
  clear BB sA cc0 cc1 cc2 cc3 zz0 zz1 HXX
  have cc0 := d0
  have cc1 := d1
  have cc2 := d2
  have cc3 := d3
  have zz0 := y0
  have zz1 := y1
  have HXX := q0
  have BB := BB1
  have sA := sA1
  clear BB1 sA1 d0 d1 d2 d3 y0 y1 q0
  have cc4 := kk0
  have cc5 := kk1
  have zz2 : P2 < wd.heap.size := by omega
  rw [← hP2]
  have k3P2 := k3
  clear k3 hW nb hP2 kk0 kk1
  refine (HD1.out _ BB).mono ?_
  rintro e we ⟨u, rfl, ou, be⟩
  have d0 : we.cell? ⟨P0, 0, none⟩ = some (.int .i64 zz) := (Below.celz be _ _ _ (by omega)).trans cc0
  have d1 : we.cell? ⟨P0, 1, none⟩ = some (.slice ua m uc) := (Below.celz be _ _ _ (by omega)).trans cc1
  have d2 : we.cell? ⟨P1, 0, none⟩ = some (.int .i64 pl) := (Below.celz be _ _ _ (by omega)).trans cc2
  have d3 : we.cell? ⟨P1, 1, none⟩ = some (.int .i64 pn) := (Below.celz be _ _ _ (by omega)).trans cc3
  have d4 : we.cell? ⟨P2, 0, none⟩ = some (.int .i64 Z1) := (Below.celz be _ _ _ (by omega)).trans cc4
  have d5 : we.cell? ⟨P2, 1, none⟩ = some (.slice pa x1 pb) := (Below.celz be _ _ _ (by omega)).trans cc5
  have y0 : P0 < we.heap.size := by have := Below.size be; omega
  have y1 : P1 < we.heap.size := by have := Below.size be; omega
  have y2 : P2 < we.heap.size := by have := Below.size be; omega
  have BB1 : Below A wa we := BB.trans (be.mono (by omega))
  have sA1 : A ≤ we.heap.size := by have := Below.size be; omega
  have q0 : Hid (RowC we (.slice pa x1 pb) X1) := HXX.out.keep be
  clear BB sA cc0 cc1 cc2 cc3 cc4 cc5 zz0 zz1 zz2 HXX
  have cc0 := d0
  have cc1 := d1
  have cc2 := d2
  have cc3 := d3
  have cc4 := d4
  have cc5 := d5
  have zz0 := y0
  have zz1 := y1
  have zz2 := y2
  have HXX := q0
  have BB := BB1
  have sA := sA1
  clear BB1 sA1 d0 d1 d2 d3 d4 d5 y0 y1 y2 q0
  clear be
  obtain ⟨qa, qb, rfl⟩ := ou.form
  rw [← HL1.out] at ou ⊢
  have HYY : Hid (RowAt 2 encPage we (.slice qa x1 qb) X1) := by have := ou.row; exact this
  clear ou
  go_wp2_with fail
  obtain ⟨P3, hP3⟩ : ∃ t, t = we.heap.size := ⟨_, rfl⟩
  generalize hW : we.alloc (.cells #[.int .i64 Z1, .slice qa x1 qb] 25) = wf
  have nb : Below we.heap.size we wf := by rw [← hW]; exact (Below.refl _ _).alloc (Nat.le_refl _) _
  have k3 : wf.heap.size = P3 + 1 := by rw [← hW, hP3]; simp
  have kk0 : wf.cell? ⟨P3, 0, none⟩ = some (.int .i64 Z1) := by rw [← hW, hP3]; simp [go_sem]
  have kk1 : wf.cell? ⟨P3, 1, none⟩ = some (.slice qa x1 qb) := by rw [← hW, hP3]; simp [go_sem]
  have oP3A : A ≤ P3 := by rw [hP3]; exact sA
  have oP30 : P0 < P3 := by rw [hP3]; exact zz0
  have oP31 : P1 < P3 := by rw [hP3]; exact zz1
  have oP32 : P2 < P3 := by rw [hP3]; exact zz2
  have d0 : wf.cell? ⟨P0, 0, none⟩ = some (.int .i64 zz) := (Below.celz nb _ _ _ (by omega)).trans cc0
  have d1 : wf.cell? ⟨P0, 1, none⟩ = some (.slice ua m uc) := (Below.celz nb _ _ _ (by omega)).trans cc1
  have d2 : wf.cell? ⟨P1, 0, none⟩ = some (.int .i64 pl) := (Below.celz nb _ _ _ (by omega)).trans cc2
  have d3 : wf.cell? ⟨P1, 1, none⟩ = some (.int .i64 pn) := (Below.celz nb _ _ _ (by omega)).trans cc3
  have d4 : wf.cell? ⟨P2, 0, none⟩ = some (.int .i64 Z1) := (Below.celz nb _ _ _ (by omega)).trans cc4
  have d5 : wf.cell? ⟨P2, 1, none⟩ = some (.slice pa x1 pb) := (Below.celz nb _ _ _ (by omega)).trans cc5
  have y0 : P0 < wf.heap.size := by have := Below.size nb; omega
  have y1 : P1 < wf.heap.size := by have := Below.size nb; omega
  have y2 : P2 < wf.heap.size := by have := Below.size nb; omega
  have BB1 : Below A wa wf := BB.trans (nb.mono (by omega))
  have sA1 : A ≤ wf.heap.size := by have := Below.size nb; omega
  have q0 : Hid (RowC wf (.slice pa x1 pb) X1) := HXX.out.keep nb
  have q1 : Hid (RowAt 2 encPage wf (.slice qa x1 qb) X1) := HYY.out.keep nb
  clear BB sA cc0 cc1 cc2 cc3 cc4 cc5 zz0 zz1 zz2 HXX HYY
  have cc0 := d0
  have cc1 := d1
  have cc2 := d2
  have cc3 := d3
  have cc4 := d4
  have cc5 := d5
  have zz0 := y0
  have zz1 := y1
  have zz2 := y2
  have HXX := q0
  have HYY := q1
  have BB := BB1
  have sA := sA1
  clear BB1 sA1 d0 d1 d2 d3 d4 d5 y0 y1 y2 q0 q1
  have cc6 := kk0
  have cc7 := kk1
  have zz3 : P3 < wf.heap.size := by omega
  rw [← hP3]
  have k3P3 := k3
  clear k3 hW nb hP3 kk0 kk1
  have hne : (H1 != H1) = false := by cases H1 <;> rfl
  clear k3P2 k3P3
  go_wp2_with fail
  have HLX : Hid (xs.length ≤ 1048576 ∧ X1.length ≤ 1048576) := ⟨by rw [← HM.out]; omega, by rw [← HL1.out]; omega⟩
  cases hp : poolB zz xs
  · have HA1 : Hid (∀ p : After wf, RowC p.w (.slice ua m uc) xs ∧ FormAt p.w ∧ RowAt 2 encPage p.w (.slice pa x1 pb) X1 ∧ RowAt 2 encPage p.w (.slice qa x1 qb) X1) := fun p => ⟨(HV.out _ (BB.trans (p.bel.mono sA))).1, (HV.out _ (BB.trans (p.bel.mono sA))).2.1, HXX.out.1.keep p.bel, HYY.out.keep p.bel⟩
    refine wp_region_after (by kernel_rfl) (by kernel_rfl) ?_
    intro hneq hac
    repeat (go_big_quiet_step (first | (go_at_call 12; exact after_of (impl_PoolSame_same Z1 _ _ X1 _ (HA1.out _).2.2.1 (HA1.out _).2.2.2 HLX.out.2)) | (go_at_call 13; exact after_at (x := poolB zz xs) (y := false) hp (impl_PoolOk zz _ xs _ (HA1.out _).1.1 HLX.out.1 (HA1.out _).2.1)) | (go_at_call 14; exact after_at (x := poolB zz xs) (y := false) hp (spec_PoolOk zz _ xs _ (HA1.out _).1 HLX.out.1))))
    refine wpQuiet_nil ?_
    rintro _ ⟨p, rfl⟩
    have bq : Below wf.heap.size wf p.w := p.bel
    clear hac hneq
    generalize p.w = wg at *
    have d0 : wg.cell? ⟨P0, 0, none⟩ = some (.int .i64 zz) := (Below.celz bq _ _ _ (by omega)).trans cc0
    have d1 : wg.cell? ⟨P0, 1, none⟩ = some (.slice ua m uc) := (Below.celz bq _ _ _ (by omega)).trans cc1
    have d2 : wg.cell? ⟨P1, 0, none⟩ = some (.int .i64 pl) := (Below.celz bq _ _ _ (by omega)).trans cc2
    have d3 : wg.cell? ⟨P1, 1, none⟩ = some (.int .i64 pn) := (Below.celz bq _ _ _ (by omega)).trans cc3
    have d4 : wg.cell? ⟨P2, 0, none⟩ = some (.int .i64 Z1) := (Below.celz bq _ _ _ (by omega)).trans cc4
    have d5 : wg.cell? ⟨P2, 1, none⟩ = some (.slice pa x1 pb) := (Below.celz bq _ _ _ (by omega)).trans cc5
    have d6 : wg.cell? ⟨P3, 0, none⟩ = some (.int .i64 Z1) := (Below.celz bq _ _ _ (by omega)).trans cc6
    have d7 : wg.cell? ⟨P3, 1, none⟩ = some (.slice qa x1 qb) := (Below.celz bq _ _ _ (by omega)).trans cc7
    have y0 : P0 < wg.heap.size := by have := Below.size bq; omega
    have y1 : P1 < wg.heap.size := by have := Below.size bq; omega
    have y2 : P2 < wg.heap.size := by have := Below.size bq; omega
    have y3 : P3 < wg.heap.size := by have := Below.size bq; omega
    have BB1 : Below A wa wg := BB.trans (bq.mono (by omega))
    have sA1 : A ≤ wg.heap.size := by have := Below.size bq; omega
    have q0 : Hid (RowC wg (.slice pa x1 pb) X1) := HXX.out.keep bq
    have q1 : Hid (RowAt 2 encPage wg (.slice qa x1 qb) X1) := HYY.out.keep bq
    clear BB sA cc0 cc1 cc2 cc3 cc4 cc5 cc6 cc7 zz0 zz1 zz2 zz3 HXX HYY
    have cc0 := d0
    have cc1 := d1
    have cc2 := d2
    have cc3 := d3
    have cc4 := d4
    have cc5 := d5
    have cc6 := d6
    have cc7 := d7
    have zz0 := y0
    have zz1 := y1
    have zz2 := y2
    have zz3 := y3
    have HXX := q0
    have HYY := q1
    have BB := BB1
    have sA := sA1
    clear BB1 sA1 d0 d1 d2 d3 d4 d5 d6 d7 y0 y1 y2 y3 q0 q1
    clear bq
    clear HA1
    clear HYY
    go_wp2_with fail
    have CP := spec_PoolOk zz _ xs _ (HV.out _ BB).1 (by rw [← HM.out]; omega)
    rw [hp] at CP
    refine (CP).mono ?_
    rintro e wj ⟨rfl, bj⟩
    have d0 : wj.cell? ⟨P0, 0, none⟩ = some (.int .i64 zz) := (Below.celz bj _ _ _ (by omega)).trans cc0
    have d1 : wj.cell? ⟨P0, 1, none⟩ = some (.slice ua m uc) := (Below.celz bj _ _ _ (by omega)).trans cc1
    have d2 : wj.cell? ⟨P1, 0, none⟩ = some (.int .i64 pl) := (Below.celz bj _ _ _ (by omega)).trans cc2
    have d3 : wj.cell? ⟨P1, 1, none⟩ = some (.int .i64 pn) := (Below.celz bj _ _ _ (by omega)).trans cc3
    have d4 : wj.cell? ⟨P2, 0, none⟩ = some (.int .i64 Z1) := (Below.celz bj _ _ _ (by omega)).trans cc4
    have d5 : wj.cell? ⟨P2, 1, none⟩ = some (.slice pa x1 pb) := (Below.celz bj _ _ _ (by omega)).trans cc5
    have d6 : wj.cell? ⟨P3, 0, none⟩ = some (.int .i64 Z1) := (Below.celz bj _ _ _ (by omega)).trans cc6
    have d7 : wj.cell? ⟨P3, 1, none⟩ = some (.slice qa x1 qb) := (Below.celz bj _ _ _ (by omega)).trans cc7
    have y0 : P0 < wj.heap.size := by have := Below.size bj; omega
    have y1 : P1 < wj.heap.size := by have := Below.size bj; omega
    have y2 : P2 < wj.heap.size := by have := Below.size bj; omega
    have y3 : P3 < wj.heap.size := by have := Below.size bj; omega
    have BB1 : Below A wa wj := BB.trans (bj.mono (by omega))
    have sA1 : A ≤ wj.heap.size := by have := Below.size bj; omega
    have q0 : Hid (RowC wj (.slice pa x1 pb) X1) := HXX.out.keep bj
    clear BB sA cc0 cc1 cc2 cc3 cc4 cc5 cc6 cc7 zz0 zz1 zz2 zz3 HXX
    have cc0 := d0
    have cc1 := d1
    have cc2 := d2
    have cc3 := d3
    have cc4 := d4
    have cc5 := d5
    have cc6 := d6
    have cc7 := d7
    have zz0 := y0
    have zz1 := y1
    have zz2 := y2
    have zz3 := y3
    have HXX := q0
    have BB := BB1
    have sA := sA1
    clear BB1 sA1 d0 d1 d2 d3 d4 d5 d6 d7 y0 y1 y2 y3 q0
    clear bj
    clear CP
    obtain ⟨hb1, hb2, hb3⟩ := pu_bad (z := zz) (xs := xs) (x := (pl, pn)) (by simp [hp])
    obtain ⟨h1, h2, h3⟩ := HX.out
    rw [hb1] at h1
    rw [hb2] at h2
    rw [hb3] at h3
    subst h1 h2 h3
    obtain rfl : x1 = 0 := HL1.out
    clear hb1 hb2 hb3
    go_wp2_with fail
    refine (impl_PoolSame_same 0 _ _ [] _ HXX.out.1 (rowNil _) (by simp)).mono ?_
    rintro e wk ⟨rfl, bk⟩
    have d0 : wk.cell? ⟨P0, 0, none⟩ = some (.int .i64 zz) := (Below.celz bk _ _ _ (by omega)).trans cc0
    have d1 : wk.cell? ⟨P0, 1, none⟩ = some (.slice ua m uc) := (Below.celz bk _ _ _ (by omega)).trans cc1
    have d2 : wk.cell? ⟨P1, 0, none⟩ = some (.int .i64 pl) := (Below.celz bk _ _ _ (by omega)).trans cc2
    have d3 : wk.cell? ⟨P1, 1, none⟩ = some (.int .i64 pn) := (Below.celz bk _ _ _ (by omega)).trans cc3
    have d4 : wk.cell? ⟨P2, 0, none⟩ = some (.int .i64 0) := (Below.celz bk _ _ _ (by omega)).trans cc4
    have d5 : wk.cell? ⟨P2, 1, none⟩ = some (.slice pa 0 pb) := (Below.celz bk _ _ _ (by omega)).trans cc5
    have d6 : wk.cell? ⟨P3, 0, none⟩ = some (.int .i64 0) := (Below.celz bk _ _ _ (by omega)).trans cc6
    have d7 : wk.cell? ⟨P3, 1, none⟩ = some (.slice qa 0 qb) := (Below.celz bk _ _ _ (by omega)).trans cc7
    have y0 : P0 < wk.heap.size := by have := Below.size bk; omega
    have y1 : P1 < wk.heap.size := by have := Below.size bk; omega
    have y2 : P2 < wk.heap.size := by have := Below.size bk; omega
    have y3 : P3 < wk.heap.size := by have := Below.size bk; omega
    have BB1 : Below A wa wk := BB.trans (bk.mono (by omega))
    have sA1 : A ≤ wk.heap.size := by have := Below.size bk; omega
    have q0 : Hid (RowC wk (.slice pa 0 pb) []) := HXX.out.keep bk
    clear BB sA cc0 cc1 cc2 cc3 cc4 cc5 cc6 cc7 zz0 zz1 zz2 zz3 HXX
    have cc0 := d0
    have cc1 := d1
    have cc2 := d2
    have cc3 := d3
    have cc4 := d4
    have cc5 := d5
    have cc6 := d6
    have cc7 := d7
    have zz0 := y0
    have zz1 := y1
    have zz2 := y2
    have zz3 := y3
    have HXX := q0
    have BB := BB1
    have sA := sA1
    clear BB1 sA1 d0 d1 d2 d3 d4 d5 d6 d7 y0 y1 y2 y3 q0
    clear bk
    go_wp2_with fail
    go_ret
    exact ⟨rfl, (HV.out _ BB).2.2⟩
  · have HA1 : Hid (∀ p : After wf, RowC p.w (.slice ua m uc) xs ∧ FormAt p.w ∧ RowAt 2 encPage p.w (.slice pa x1 pb) X1 ∧ RowAt 2 encPage p.w (.slice qa x1 qb) X1) := fun p => ⟨(HV.out _ (BB.trans (p.bel.mono sA))).1, (HV.out _ (BB.trans (p.bel.mono sA))).2.1, HXX.out.1.keep p.bel, HYY.out.keep p.bel⟩
    refine wp_region_after (by kernel_rfl) (by kernel_rfl) ?_
    intro hneq hac
    repeat (go_big_quiet_step (first | (go_at_call 12; exact after_of (impl_PoolSame_same Z1 _ _ X1 _ (HA1.out _).2.2.1 (HA1.out _).2.2.2 HLX.out.2)) | (go_at_call 13; exact after_at (x := poolB zz xs) (y := true) hp (impl_PoolOk zz _ xs _ (HA1.out _).1.1 HLX.out.1 (HA1.out _).2.1)) | (go_at_call 14; exact after_at (x := poolB zz xs) (y := true) hp (spec_PoolOk zz _ xs _ (HA1.out _).1 HLX.out.1))))
    refine wpQuiet_nil ?_
    rintro _ ⟨p, rfl⟩
    have bq : Below wf.heap.size wf p.w := p.bel
    clear hac hneq
    generalize p.w = wg at *
    have d0 : wg.cell? ⟨P0, 0, none⟩ = some (.int .i64 zz) := (Below.celz bq _ _ _ (by omega)).trans cc0
    have d1 : wg.cell? ⟨P0, 1, none⟩ = some (.slice ua m uc) := (Below.celz bq _ _ _ (by omega)).trans cc1
    have d2 : wg.cell? ⟨P1, 0, none⟩ = some (.int .i64 pl) := (Below.celz bq _ _ _ (by omega)).trans cc2
    have d3 : wg.cell? ⟨P1, 1, none⟩ = some (.int .i64 pn) := (Below.celz bq _ _ _ (by omega)).trans cc3
    have d4 : wg.cell? ⟨P2, 0, none⟩ = some (.int .i64 Z1) := (Below.celz bq _ _ _ (by omega)).trans cc4
    have d5 : wg.cell? ⟨P2, 1, none⟩ = some (.slice pa x1 pb) := (Below.celz bq _ _ _ (by omega)).trans cc5
    have d6 : wg.cell? ⟨P3, 0, none⟩ = some (.int .i64 Z1) := (Below.celz bq _ _ _ (by omega)).trans cc6
    have d7 : wg.cell? ⟨P3, 1, none⟩ = some (.slice qa x1 qb) := (Below.celz bq _ _ _ (by omega)).trans cc7
    have y0 : P0 < wg.heap.size := by have := Below.size bq; omega
    have y1 : P1 < wg.heap.size := by have := Below.size bq; omega
    have y2 : P2 < wg.heap.size := by have := Below.size bq; omega
    have y3 : P3 < wg.heap.size := by have := Below.size bq; omega
    have BB1 : Below A wa wg := BB.trans (bq.mono (by omega))
    have sA1 : A ≤ wg.heap.size := by have := Below.size bq; omega
    have q0 : Hid (RowC wg (.slice pa x1 pb) X1) := HXX.out.keep bq
    have q1 : Hid (RowAt 2 encPage wg (.slice qa x1 qb) X1) := HYY.out.keep bq
    clear BB sA cc0 cc1 cc2 cc3 cc4 cc5 cc6 cc7 zz0 zz1 zz2 zz3 HXX HYY
    have cc0 := d0
    have cc1 := d1
    have cc2 := d2
    have cc3 := d3
    have cc4 := d4
    have cc5 := d5
    have cc6 := d6
    have cc7 := d7
    have zz0 := y0
    have zz1 := y1
    have zz2 := y2
    have zz3 := y3
    have HXX := q0
    have HYY := q1
    have BB := BB1
    have sA := sA1
    clear BB1 sA1 d0 d1 d2 d3 d4 d5 d6 d7 y0 y1 y2 y3 q0 q1
    clear bq
    clear HA1
    clear HYY
    go_wp2_with fail
    have CP := spec_PoolOk zz _ xs _ (HV.out _ BB).1 (by rw [← HM.out]; omega)
    rw [hp] at CP
    refine (CP).mono ?_
    rintro e wj ⟨rfl, bj⟩
    have d0 : wj.cell? ⟨P0, 0, none⟩ = some (.int .i64 zz) := (Below.celz bj _ _ _ (by omega)).trans cc0
    have d1 : wj.cell? ⟨P0, 1, none⟩ = some (.slice ua m uc) := (Below.celz bj _ _ _ (by omega)).trans cc1
    have d2 : wj.cell? ⟨P1, 0, none⟩ = some (.int .i64 pl) := (Below.celz bj _ _ _ (by omega)).trans cc2
    have d3 : wj.cell? ⟨P1, 1, none⟩ = some (.int .i64 pn) := (Below.celz bj _ _ _ (by omega)).trans cc3
    have d4 : wj.cell? ⟨P2, 0, none⟩ = some (.int .i64 Z1) := (Below.celz bj _ _ _ (by omega)).trans cc4
    have d5 : wj.cell? ⟨P2, 1, none⟩ = some (.slice pa x1 pb) := (Below.celz bj _ _ _ (by omega)).trans cc5
    have d6 : wj.cell? ⟨P3, 0, none⟩ = some (.int .i64 Z1) := (Below.celz bj _ _ _ (by omega)).trans cc6
    have d7 : wj.cell? ⟨P3, 1, none⟩ = some (.slice qa x1 qb) := (Below.celz bj _ _ _ (by omega)).trans cc7
    have y0 : P0 < wj.heap.size := by have := Below.size bj; omega
    have y1 : P1 < wj.heap.size := by have := Below.size bj; omega
    have y2 : P2 < wj.heap.size := by have := Below.size bj; omega
    have y3 : P3 < wj.heap.size := by have := Below.size bj; omega
    have BB1 : Below A wa wj := BB.trans (bj.mono (by omega))
    have sA1 : A ≤ wj.heap.size := by have := Below.size bj; omega
    have q0 : Hid (RowC wj (.slice pa x1 pb) X1) := HXX.out.keep bj
    clear BB sA cc0 cc1 cc2 cc3 cc4 cc5 cc6 cc7 zz0 zz1 zz2 zz3 HXX
    have cc0 := d0
    have cc1 := d1
    have cc2 := d2
    have cc3 := d3
    have cc4 := d4
    have cc5 := d5
    have cc6 := d6
    have cc7 := d7
    have zz0 := y0
    have zz1 := y1
    have zz2 := y2
    have zz3 := y3
    have HXX := q0
    have BB := BB1
    have sA := sA1
    clear BB1 sA1 d0 d1 d2 d3 d4 d5 d6 d7 y0 y1 y2 y3 q0
    clear bj
    clear CP
    go_wp2_with fail
    cases hq : pageB pl pn
    · have CP := impl_PageOk pl pn wj
      rw [hq] at CP
      refine (CP).mono ?_
      rintro e wl ⟨rfl, bl⟩
      have d0 : wl.cell? ⟨P0, 0, none⟩ = some (.int .i64 zz) := (Below.celz bl _ _ _ (by omega)).trans cc0
      have d1 : wl.cell? ⟨P0, 1, none⟩ = some (.slice ua m uc) := (Below.celz bl _ _ _ (by omega)).trans cc1
      have d2 : wl.cell? ⟨P1, 0, none⟩ = some (.int .i64 pl) := (Below.celz bl _ _ _ (by omega)).trans cc2
      have d3 : wl.cell? ⟨P1, 1, none⟩ = some (.int .i64 pn) := (Below.celz bl _ _ _ (by omega)).trans cc3
      have d4 : wl.cell? ⟨P2, 0, none⟩ = some (.int .i64 Z1) := (Below.celz bl _ _ _ (by omega)).trans cc4
      have d5 : wl.cell? ⟨P2, 1, none⟩ = some (.slice pa x1 pb) := (Below.celz bl _ _ _ (by omega)).trans cc5
      have d6 : wl.cell? ⟨P3, 0, none⟩ = some (.int .i64 Z1) := (Below.celz bl _ _ _ (by omega)).trans cc6
      have d7 : wl.cell? ⟨P3, 1, none⟩ = some (.slice qa x1 qb) := (Below.celz bl _ _ _ (by omega)).trans cc7
      have y0 : P0 < wl.heap.size := by have := Below.size bl; omega
      have y1 : P1 < wl.heap.size := by have := Below.size bl; omega
      have y2 : P2 < wl.heap.size := by have := Below.size bl; omega
      have y3 : P3 < wl.heap.size := by have := Below.size bl; omega
      have BB1 : Below A wa wl := BB.trans (bl.mono (by omega))
      have sA1 : A ≤ wl.heap.size := by have := Below.size bl; omega
      have q0 : Hid (RowC wl (.slice pa x1 pb) X1) := HXX.out.keep bl
      clear BB sA cc0 cc1 cc2 cc3 cc4 cc5 cc6 cc7 zz0 zz1 zz2 zz3 HXX
      have cc0 := d0
      have cc1 := d1
      have cc2 := d2
      have cc3 := d3
      have cc4 := d4
      have cc5 := d5
      have cc6 := d6
      have cc7 := d7
      have zz0 := y0
      have zz1 := y1
      have zz2 := y2
      have zz3 := y3
      have HXX := q0
      have BB := BB1
      have sA := sA1
      clear BB1 sA1 d0 d1 d2 d3 d4 d5 d6 d7 y0 y1 y2 y3 q0
      clear bl
      clear CP
      obtain ⟨hb1, hb2, hb3⟩ := pu_bad (z := zz) (xs := xs) (x := (pl, pn)) (by simp [hp, hq])
      obtain ⟨h1, h2, h3⟩ := HX.out
      rw [hb1] at h1
      rw [hb2] at h2
      rw [hb3] at h3
      subst h1 h2 h3
      obtain rfl : x1 = 0 := HL1.out
      clear hb1 hb2 hb3
      go_wp2_with fail
      refine (impl_PoolSame_same 0 _ _ [] _ HXX.out.1 (rowNil _) (by simp)).mono ?_
      rintro e wk ⟨rfl, bk⟩
      have d0 : wk.cell? ⟨P0, 0, none⟩ = some (.int .i64 zz) := (Below.celz bk _ _ _ (by omega)).trans cc0
      have d1 : wk.cell? ⟨P0, 1, none⟩ = some (.slice ua m uc) := (Below.celz bk _ _ _ (by omega)).trans cc1
      have d2 : wk.cell? ⟨P1, 0, none⟩ = some (.int .i64 pl) := (Below.celz bk _ _ _ (by omega)).trans cc2
      have d3 : wk.cell? ⟨P1, 1, none⟩ = some (.int .i64 pn) := (Below.celz bk _ _ _ (by omega)).trans cc3
      have d4 : wk.cell? ⟨P2, 0, none⟩ = some (.int .i64 0) := (Below.celz bk _ _ _ (by omega)).trans cc4
      have d5 : wk.cell? ⟨P2, 1, none⟩ = some (.slice pa 0 pb) := (Below.celz bk _ _ _ (by omega)).trans cc5
      have d6 : wk.cell? ⟨P3, 0, none⟩ = some (.int .i64 0) := (Below.celz bk _ _ _ (by omega)).trans cc6
      have d7 : wk.cell? ⟨P3, 1, none⟩ = some (.slice qa 0 qb) := (Below.celz bk _ _ _ (by omega)).trans cc7
      have y0 : P0 < wk.heap.size := by have := Below.size bk; omega
      have y1 : P1 < wk.heap.size := by have := Below.size bk; omega
      have y2 : P2 < wk.heap.size := by have := Below.size bk; omega
      have y3 : P3 < wk.heap.size := by have := Below.size bk; omega
      have BB1 : Below A wa wk := BB.trans (bk.mono (by omega))
      have sA1 : A ≤ wk.heap.size := by have := Below.size bk; omega
      have q0 : Hid (RowC wk (.slice pa 0 pb) []) := HXX.out.keep bk
      clear BB sA cc0 cc1 cc2 cc3 cc4 cc5 cc6 cc7 zz0 zz1 zz2 zz3 HXX
      have cc0 := d0
      have cc1 := d1
      have cc2 := d2
      have cc3 := d3
      have cc4 := d4
      have cc5 := d5
      have cc6 := d6
      have cc7 := d7
      have zz0 := y0
      have zz1 := y1
      have zz2 := y2
      have zz3 := y3
      have HXX := q0
      have BB := BB1
      have sA := sA1
      clear BB1 sA1 d0 d1 d2 d3 d4 d5 d6 d7 y0 y1 y2 y3 q0
      clear bk
      go_wp2_with fail
      go_ret
      exact ⟨rfl, (HV.out _ BB).2.2⟩
    · have CP := impl_PageOk pl pn wj
      rw [hq] at CP
      refine (CP).mono ?_
      rintro e wl ⟨rfl, bl⟩
      have d0 : wl.cell? ⟨P0, 0, none⟩ = some (.int .i64 zz) := (Below.celz bl _ _ _ (by omega)).trans cc0
      have d1 : wl.cell? ⟨P0, 1, none⟩ = some (.slice ua m uc) := (Below.celz bl _ _ _ (by omega)).trans cc1
      have d2 : wl.cell? ⟨P1, 0, none⟩ = some (.int .i64 pl) := (Below.celz bl _ _ _ (by omega)).trans cc2
      have d3 : wl.cell? ⟨P1, 1, none⟩ = some (.int .i64 pn) := (Below.celz bl _ _ _ (by omega)).trans cc3
      have d4 : wl.cell? ⟨P2, 0, none⟩ = some (.int .i64 Z1) := (Below.celz bl _ _ _ (by omega)).trans cc4
      have d5 : wl.cell? ⟨P2, 1, none⟩ = some (.slice pa x1 pb) := (Below.celz bl _ _ _ (by omega)).trans cc5
      have d6 : wl.cell? ⟨P3, 0, none⟩ = some (.int .i64 Z1) := (Below.celz bl _ _ _ (by omega)).trans cc6
      have d7 : wl.cell? ⟨P3, 1, none⟩ = some (.slice qa x1 qb) := (Below.celz bl _ _ _ (by omega)).trans cc7
      have y0 : P0 < wl.heap.size := by have := Below.size bl; omega
      have y1 : P1 < wl.heap.size := by have := Below.size bl; omega
      have y2 : P2 < wl.heap.size := by have := Below.size bl; omega
      have y3 : P3 < wl.heap.size := by have := Below.size bl; omega
      have BB1 : Below A wa wl := BB.trans (bl.mono (by omega))
      have sA1 : A ≤ wl.heap.size := by have := Below.size bl; omega
      have q0 : Hid (RowC wl (.slice pa x1 pb) X1) := HXX.out.keep bl
      clear BB sA cc0 cc1 cc2 cc3 cc4 cc5 cc6 cc7 zz0 zz1 zz2 zz3 HXX
      have cc0 := d0
      have cc1 := d1
      have cc2 := d2
      have cc3 := d3
      have cc4 := d4
      have cc5 := d5
      have cc6 := d6
      have cc7 := d7
      have zz0 := y0
      have zz1 := y1
      have zz2 := y2
      have zz3 := y3
      have HXX := q0
      have BB := BB1
      have sA := sA1
      clear BB1 sA1 d0 d1 d2 d3 d4 d5 d6 d7 y0 y1 y2 y3 q0
      clear bl
      clear CP
      obtain ⟨g1, g2, g3, g4, g5⟩ := poolB_true.1 hp
      obtain ⟨zn, rfl⟩ := Int.eq_ofNat_of_zero_le g1
      obtain ⟨hb1, hb2, hb3⟩ := pu_all (x := (pl, pn)) hp hq
      have HP : Hid (poolB zn xs = true ∧ pageB pl pn = true ∧ xs.Nodup ∧ xs.length ≤ zn ∧ X1 = useL zn xs (pl, pn) ∧ H1 = decide ((pl, pn) ∈ xs)) := by
        obtain ⟨h1, h2, h3⟩ := HX.out
        exact ⟨hp, hq, g5, by omega, by rw [h2, hb2]; rfl, by rw [h3, hb3]⟩
      obtain rfl : Z1 = (zn : Int) := by rw [HX.out.1, hb1]
      have hzn : zn ≤ 12 := by omega
      clear g4 g5 hp hq HX HC1 HD1 hb1 hb2 hb3
      by_cases hz0 : zn = 0
      · subst hz0
        have hx0 : xs = [] := List.length_eq_zero_iff.1 (by have := HP.out.2.2.2.1; omega)
        obtain rfl : x1 = 0 := by rw [HL1.out, HP.out.2.2.2.2.1]; simp [useL]
        obtain rfl : H1 = false := by rw [HP.out.2.2.2.2.2, hx0]; simp
        clear hx0
        go_wp2_with fail
        go_ret
        exact ⟨rfl, (HV.out _ BB).2.2⟩
      · obtain ⟨zk, hzk⟩ : ∃ zk, zk = zn - 1 := ⟨_, rfl⟩
        have HZK : Hid (zn = zk + 1) := by show zn = zk + 1; omega
        have hzb : ((zn : Int) == 0) = false := by simp; omega
        have hzk2 : zk < zn := by omega
        have HQ : Hid (X1 = (pl, pn) :: restJ xs (pl, pn) zk m ∧ poolB zn X1 = true ∧ useL zn X1 (pl, pn) = X1) := by
          have h1 := HP.out.2.2.2.2.1
          refine ⟨by rw [h1, HZK.out, useL_front, HM.out], by rw [h1]; exact poolB_use HP.out.1 HP.out.2.1, ?_⟩
          rw [h1, HZK.out]; exact useL_again HP.out.2.2.1
        have HC2 : Hid (∀ W, Below A wa W → RowC W (.slice pa x1 pb) X1 → Calls Tryd.prog 10 #[.agg #[.int .i64 zn, .slice pa x1 pb], .agg #[.int .i64 pl, .int .i64 pn]] W fun e w' => ∃ u, e = .returned (.tuple #[.agg #[.int .i64 zn, u], .bool true]) ∧ OwnPool w' W.heap.size u X1 ∧ Below W.heap.size W w') := fun W h hx => by
          have := impl_PoolUse (zn : Int) _ X1 pl pn W hx.1 (by rw [← HL1.out]; omega) (HV.out _ h).2.1
          obtain ⟨c1, c2, c3⟩ := pu_all (x := (pl, pn)) HQ.out.2.1 HP.out.2.1
          rw [c1, c2, c3, show Int.toNat (zn : Int) = zn from rfl, HQ.out.2.2] at this
          have hm : decide ((pl, pn) ∈ X1) = true := by rw [HQ.out.1]; simp
          rw [hm] at this
          exact this
        clear hzk
        go_wp2_with fail
        refine (HC2.out _ BB HXX.out).mono ?_
        rintro e wm ⟨u, rfl, ou, bm⟩
        have d0 : wm.cell? ⟨P0, 0, none⟩ = some (.int .i64 (zn : Int)) := (Below.celz bm _ _ _ (by omega)).trans cc0
        have d1 : wm.cell? ⟨P0, 1, none⟩ = some (.slice ua m uc) := (Below.celz bm _ _ _ (by omega)).trans cc1
        have d2 : wm.cell? ⟨P1, 0, none⟩ = some (.int .i64 pl) := (Below.celz bm _ _ _ (by omega)).trans cc2
        have d3 : wm.cell? ⟨P1, 1, none⟩ = some (.int .i64 pn) := (Below.celz bm _ _ _ (by omega)).trans cc3
        have d4 : wm.cell? ⟨P2, 0, none⟩ = some (.int .i64 (zn : Int)) := (Below.celz bm _ _ _ (by omega)).trans cc4
        have d5 : wm.cell? ⟨P2, 1, none⟩ = some (.slice pa x1 pb) := (Below.celz bm _ _ _ (by omega)).trans cc5
        have d6 : wm.cell? ⟨P3, 0, none⟩ = some (.int .i64 (zn : Int)) := (Below.celz bm _ _ _ (by omega)).trans cc6
        have d7 : wm.cell? ⟨P3, 1, none⟩ = some (.slice qa x1 qb) := (Below.celz bm _ _ _ (by omega)).trans cc7
        have y0 : P0 < wm.heap.size := by have := Below.size bm; omega
        have y1 : P1 < wm.heap.size := by have := Below.size bm; omega
        have y2 : P2 < wm.heap.size := by have := Below.size bm; omega
        have y3 : P3 < wm.heap.size := by have := Below.size bm; omega
        have BB1 : Below A wa wm := BB.trans (bm.mono (by omega))
        have sA1 : A ≤ wm.heap.size := by have := Below.size bm; omega
        have q0 : Hid (RowC wm (.slice pa x1 pb) X1) := HXX.out.keep bm
        clear BB sA cc0 cc1 cc2 cc3 cc4 cc5 cc6 cc7 zz0 zz1 zz2 zz3 HXX
        have cc0 := d0
        have cc1 := d1
        have cc2 := d2
        have cc3 := d3
        have cc4 := d4
        have cc5 := d5
        have cc6 := d6
        have cc7 := d7
        have zz0 := y0
        have zz1 := y1
        have zz2 := y2
        have zz3 := y3
        have HXX := q0
        have BB := BB1
        have sA := sA1
        clear BB1 sA1 d0 d1 d2 d3 d4 d5 d6 d7 y0 y1 y2 y3 q0
        clear bm
        obtain ⟨ra, rb, rfl⟩ := ou.form
        rw [← HL1.out] at ou ⊢
        have HZZ : Hid (RowAt 2 encPage wm (.slice ra x1 rb) X1) := by have := ou.row; exact this
        clear ou
        go_wp2_with fail
        obtain ⟨P4, hP4⟩ : ∃ t, t = wm.heap.size := ⟨_, rfl⟩
        generalize hW : wm.alloc (.cells #[.int .i64 zn, .slice ra x1 rb] 25) = wn
        have nb : Below wm.heap.size wm wn := by rw [← hW]; exact (Below.refl _ _).alloc (Nat.le_refl _) _
        have k3 : wn.heap.size = P4 + 1 := by rw [← hW, hP4]; simp
        have kk0 : wn.cell? ⟨P4, 0, none⟩ = some (.int .i64 zn) := by rw [← hW, hP4]; simp [go_sem]
        have kk1 : wn.cell? ⟨P4, 1, none⟩ = some (.slice ra x1 rb) := by rw [← hW, hP4]; simp [go_sem]
        have oP4A : A ≤ P4 := by rw [hP4]; exact sA
        have oP40 : P0 < P4 := by rw [hP4]; exact zz0
        have oP41 : P1 < P4 := by rw [hP4]; exact zz1
        have oP42 : P2 < P4 := by rw [hP4]; exact zz2
        have oP43 : P3 < P4 := by rw [hP4]; exact zz3
        have d0 : wn.cell? ⟨P0, 0, none⟩ = some (.int .i64 (zn : Int)) := (Below.celz nb _ _ _ (by omega)).trans cc0
        have d1 : wn.cell? ⟨P0, 1, none⟩ = some (.slice ua m uc) := (Below.celz nb _ _ _ (by omega)).trans cc1
        have d2 : wn.cell? ⟨P1, 0, none⟩ = some (.int .i64 pl) := (Below.celz nb _ _ _ (by omega)).trans cc2
        have d3 : wn.cell? ⟨P1, 1, none⟩ = some (.int .i64 pn) := (Below.celz nb _ _ _ (by omega)).trans cc3
        have d4 : wn.cell? ⟨P2, 0, none⟩ = some (.int .i64 (zn : Int)) := (Below.celz nb _ _ _ (by omega)).trans cc4
        have d5 : wn.cell? ⟨P2, 1, none⟩ = some (.slice pa x1 pb) := (Below.celz nb _ _ _ (by omega)).trans cc5
        have d6 : wn.cell? ⟨P3, 0, none⟩ = some (.int .i64 (zn : Int)) := (Below.celz nb _ _ _ (by omega)).trans cc6
        have d7 : wn.cell? ⟨P3, 1, none⟩ = some (.slice qa x1 qb) := (Below.celz nb _ _ _ (by omega)).trans cc7
        have y0 : P0 < wn.heap.size := by have := Below.size nb; omega
        have y1 : P1 < wn.heap.size := by have := Below.size nb; omega
        have y2 : P2 < wn.heap.size := by have := Below.size nb; omega
        have y3 : P3 < wn.heap.size := by have := Below.size nb; omega
        have BB1 : Below A wa wn := BB.trans (nb.mono (by omega))
        have sA1 : A ≤ wn.heap.size := by have := Below.size nb; omega
        have q0 : Hid (RowC wn (.slice pa x1 pb) X1) := HXX.out.keep nb
        have q1 : Hid (RowAt 2 encPage wn (.slice ra x1 rb) X1) := HZZ.out.keep nb
        clear BB sA cc0 cc1 cc2 cc3 cc4 cc5 cc6 cc7 zz0 zz1 zz2 zz3 HXX HZZ
        have cc0 := d0
        have cc1 := d1
        have cc2 := d2
        have cc3 := d3
        have cc4 := d4
        have cc5 := d5
        have cc6 := d6
        have cc7 := d7
        have zz0 := y0
        have zz1 := y1
        have zz2 := y2
        have zz3 := y3
        have HXX := q0
        have HZZ := q1
        have BB := BB1
        have sA := sA1
        clear BB1 sA1 d0 d1 d2 d3 d4 d5 d6 d7 y0 y1 y2 y3 q0 q1
        have cc8 := kk0
        have cc9 := kk1
        have zz4 : P4 < wn.heap.size := by omega
        rw [← hP4]
        have k3P4 := k3
        clear k3 hW nb hP4 kk0 kk1
        obtain ⟨i0, hi, hz0, hz1, hzz2⟩ := info_parts Tryd.infoPage
        rw [k3P4.symm]
        clear k3P4
        go_loopw [11, 12, 13] (fun rs hd i wr => ∃ k : Nat, k ≤ m ∧ i = .int .i64 k ∧ hd = .bool (hasK xs (pl, pn) k) ∧ Below wn.heap.size wn wr ∧ wr.ownsRow wn.heap.size 27 2 rs (restJ xs (pl, pn) zk k).length ((restJ xs (pl, pn) zk k).flatMap encPage)) (fun _ _ i _ => m - (intOf i).toNat)
        case atStart => exact ⟨0, by omega, rfl, by rw [hasK_zero], (Below.refl _ _).alloc (Nat.le_refl _) _, by simpa [restJ] using own_emptyP (new_block wn _) (Nat.le_refl _)⟩
        case round =>
          obtain ⟨k, hk, rfl, rfl, hbel, hown⟩ := hrel
          obtain ⟨ta, tc, rfl⟩ := own_form hown
          obtain ⟨RJ, hRJ⟩ : ∃ t, t = restJ xs (pl, pn) zk k := ⟨_, rfl⟩
          rw [← hRJ] at hown ⊢
          obtain ⟨L, hL⟩ : ∃ t, t = RJ.length := ⟨_, rfl⟩
          have HRJ : Hid (RJ = restJ xs (pl, pn) zk k ∧ L = RJ.length) := ⟨hRJ, hL⟩
          have hLz : L ≤ zk := by rw [hL, hRJ]; exact restJ_len _ _ _ _
          have HOW0 : OwnPool wr wn.heap.size (.slice ta L tc) RJ := by rw [hL]; exact hown
          rw [← hL]
          obtain ⟨h, hh⟩ : ∃ h, h = hasK xs (pl, pn) k := ⟨_, rfl⟩
          have HH : Hid (h = hasK xs (pl, pn) k) := hh
          rw [← hh]
          have HBL0 : OverB wn wr := hbel
          clear hRJ hL hown hh
          have d0 : wr.cell? ⟨P0, 0, none⟩ = some (.int .i64 (zn : Int)) := (Below.celz hbel _ _ _ (by omega)).trans cc0
          have d1 : wr.cell? ⟨P0, 1, none⟩ = some (.slice ua m uc) := (Below.celz hbel _ _ _ (by omega)).trans cc1
          have d2 : wr.cell? ⟨P1, 0, none⟩ = some (.int .i64 pl) := (Below.celz hbel _ _ _ (by omega)).trans cc2
          have d3 : wr.cell? ⟨P1, 1, none⟩ = some (.int .i64 pn) := (Below.celz hbel _ _ _ (by omega)).trans cc3
          have d4 : wr.cell? ⟨P2, 0, none⟩ = some (.int .i64 (zn : Int)) := (Below.celz hbel _ _ _ (by omega)).trans cc4
          have d5 : wr.cell? ⟨P2, 1, none⟩ = some (.slice pa x1 pb) := (Below.celz hbel _ _ _ (by omega)).trans cc5
          have d6 : wr.cell? ⟨P3, 0, none⟩ = some (.int .i64 (zn : Int)) := (Below.celz hbel _ _ _ (by omega)).trans cc6
          have d7 : wr.cell? ⟨P3, 1, none⟩ = some (.slice qa x1 qb) := (Below.celz hbel _ _ _ (by omega)).trans cc7
          have d8 : wr.cell? ⟨P4, 0, none⟩ = some (.int .i64 zn) := (Below.celz hbel _ _ _ (by omega)).trans cc8
          have d9 : wr.cell? ⟨P4, 1, none⟩ = some (.slice ra x1 rb) := (Below.celz hbel _ _ _ (by omega)).trans cc9
          have y0 : P0 < wr.heap.size := by have := Below.size hbel; omega
          have y1 : P1 < wr.heap.size := by have := Below.size hbel; omega
          have y2 : P2 < wr.heap.size := by have := Below.size hbel; omega
          have y3 : P3 < wr.heap.size := by have := Below.size hbel; omega
          have y4 : P4 < wr.heap.size := by have := Below.size hbel; omega
          have BB1 : Below A wa wr := BB.trans (hbel.mono (by omega))
          have sA1 : A ≤ wr.heap.size := by have := Below.size hbel; omega
          have q0 : Hid (RowC wr (.slice pa x1 pb) X1) := HXX.out.keep hbel
          have q1 : Hid (RowAt 2 encPage wr (.slice ra x1 rb) X1) := HZZ.out.keep hbel
          clear BB sA cc0 cc1 cc2 cc3 cc4 cc5 cc6 cc7 cc8 cc9 zz0 zz1 zz2 zz3 zz4 HXX HZZ
          have cc0 := d0
          have cc1 := d1
          have cc2 := d2
          have cc3 := d3
          have cc4 := d4
          have cc5 := d5
          have cc6 := d6
          have cc7 := d7
          have cc8 := d8
          have cc9 := d9
          have zz0 := y0
          have zz1 := y1
          have zz2 := y2
          have zz3 := y3
          have zz4 := y4
          have HXX := q0
          have HZZ := q1
          have BB := BB1
          have sA := sA1
          clear BB1 sA1 d0 d1 d2 d3 d4 d5 d6 d7 d8 d9 y0 y1 y2 y3 y4 q0 q1
          clear hbel
          have HOW : Hid (OwnPool wr wn.heap.size (.slice ta L tc) RJ) := HOW0
          have HBL : Hid (OverB wn wr) := HBL0
          clear HOW0 HBL0
          by_cases hlt : k < m
          · rcases (HV.out wa (Below.refl _ _)).1.1 with ⟨hz0, _⟩ | ⟨_, b, off, cap', hv, hb, hc⟩
            · exfalso; have := HM.out; rw [hz0] at this; simp at this; omega
            simp only [Value.slice.injEq] at hv
            obtain ⟨rfl, -, hcc⟩ := hv
            subst hcc
            have HROW : Hid (∀ W, Below A wa W → ∀ j x, xs[j]? = some x → W.cell? ⟨b, off + j * 2, none⟩ = some (.int .i64 x.1) ∧ W.cell? ⟨b, off + j * 2 + 1, none⟩ = some (.int .i64 x.2)) := fun W h j x hx => ⟨(Below.celz h _ _ _ (by rw [HA.out]; exact hb)).trans (hc j x hx 0 _ rfl), (Below.celz h _ _ _ (by rw [HA.out]; exact hb)).trans (hc j x hx 1 _ rfl)⟩
            have hbA : b < A := by rw [HA.out]; exact hb
            clear hc hb
            obtain ⟨⟨m0, m1⟩, hx⟩ : ∃ x, xs[k]? = some x := ⟨_, List.getElem?_eq_getElem (by rw [← HM.out]; exact hlt)⟩
            have e0 : wr.cell? ⟨b, off + k * 2, none⟩ = some (.int .i64 m0) := (HROW.out _ BB _ _ hx).1
            have e1 : wr.cell? ⟨b, off + k * 2 + 1, none⟩ = some (.int .i64 m1) := (HROW.out _ BB _ _ hx).2
            have HXk : Hid (xs[k]? = some (m0, m1)) := hx
            have ze : b < wr.heap.size := by omega
            clear hx
            have j0 : (0 : Int) ≤ (k : Int) := by omega
            have j1 : (k : Int) < (m : Int) := by omega
            have HS : Hid (hasK xs (pl, pn) (k + 1) = (h || eqB (m0, m1) (pl, pn))) := by rw [HH.out]; exact hasK_step HXk.out
            cases h
            · by_cases e : m0 = pl
              · subst e
                by_cases e2 : m1 = pn
                · subst e2
                  have HE : Hid (eqB (m0, m1) (m0, m1) = true) := eqB_true.2 rfl
                  have HK : Hid (restJ xs (m0, m1) zk (k + 1) = restJ xs (m0, m1) zk k) := restJ_same HXk.out rfl
                  go_wp2_with fail
                  refine wp_region_after (by kernel_rfl) (by kernel_rfl) ?_
                  intro hneq hac
                  repeat (go_big_quiet_step (first | fail))
                  refine wpQuiet_nil ?_
                  rintro _ ⟨p, rfl⟩
                  have bq : Below wr.heap.size wr p.w := p.bel
                  clear hac hneq
                  generalize p.w = wq at *
                  have d0 : wq.cell? ⟨P0, 0, none⟩ = some (.int .i64 (zn : Int)) := (Below.celz bq _ _ _ (by omega)).trans cc0
                  have d1 : wq.cell? ⟨P0, 1, none⟩ = some (.slice (some ⟨b, off, none⟩) m uc) := (Below.celz bq _ _ _ (by omega)).trans cc1
                  have d2 : wq.cell? ⟨P1, 0, none⟩ = some (.int .i64 m0) := (Below.celz bq _ _ _ (by omega)).trans cc2
                  have d3 : wq.cell? ⟨P1, 1, none⟩ = some (.int .i64 m1) := (Below.celz bq _ _ _ (by omega)).trans cc3
                  have d4 : wq.cell? ⟨P2, 0, none⟩ = some (.int .i64 (zn : Int)) := (Below.celz bq _ _ _ (by omega)).trans cc4
                  have d5 : wq.cell? ⟨P2, 1, none⟩ = some (.slice pa x1 pb) := (Below.celz bq _ _ _ (by omega)).trans cc5
                  have d6 : wq.cell? ⟨P3, 0, none⟩ = some (.int .i64 (zn : Int)) := (Below.celz bq _ _ _ (by omega)).trans cc6
                  have d7 : wq.cell? ⟨P3, 1, none⟩ = some (.slice qa x1 qb) := (Below.celz bq _ _ _ (by omega)).trans cc7
                  have d8 : wq.cell? ⟨P4, 0, none⟩ = some (.int .i64 zn) := (Below.celz bq _ _ _ (by omega)).trans cc8
                  have d9 : wq.cell? ⟨P4, 1, none⟩ = some (.slice ra x1 rb) := (Below.celz bq _ _ _ (by omega)).trans cc9
                  have y0 : P0 < wq.heap.size := by have := Below.size bq; omega
                  have y1 : P1 < wq.heap.size := by have := Below.size bq; omega
                  have y2 : P2 < wq.heap.size := by have := Below.size bq; omega
                  have y3 : P3 < wq.heap.size := by have := Below.size bq; omega
                  have y4 : P4 < wq.heap.size := by have := Below.size bq; omega
                  have BB1 : Below A wa wq := BB.trans (bq.mono (by omega))
                  have sA1 : A ≤ wq.heap.size := by have := Below.size bq; omega
                  have q0 : Hid (RowC wq (.slice pa x1 pb) X1) := HXX.out.keep bq
                  have q1 : Hid (RowAt 2 encPage wq (.slice ra x1 rb) X1) := HZZ.out.keep bq
                  have q2 : Hid (OwnPool wq wn.heap.size (.slice ta L tc) RJ) := HOW.out.keep bq
                  have q3 : Hid (OverB wn wq) := HBL.out.keep bq
                  clear BB sA cc0 cc1 cc2 cc3 cc4 cc5 cc6 cc7 cc8 cc9 zz0 zz1 zz2 zz3 zz4 HXX HZZ HOW HBL
                  have cc0 := d0
                  have cc1 := d1
                  have cc2 := d2
                  have cc3 := d3
                  have cc4 := d4
                  have cc5 := d5
                  have cc6 := d6
                  have cc7 := d7
                  have cc8 := d8
                  have cc9 := d9
                  have zz0 := y0
                  have zz1 := y1
                  have zz2 := y2
                  have zz3 := y3
                  have zz4 := y4
                  have HXX := q0
                  have HZZ := q1
                  have HOW := q2
                  have HBL := q3
                  have BB := BB1
                  have sA := sA1
                  clear BB1 sA1 d0 d1 d2 d3 d4 d5 d6 d7 d8 d9 y0 y1 y2 y3 y4 q0 q1 q2 q3
                  clear bq
                  clear e0 e1 ze
                  have e0 : wq.cell? ⟨b, off + k * 2, none⟩ = some (.int .i64 m0) := (HROW.out _ BB _ _ HXk.out).1
                  have e1 : wq.cell? ⟨b, off + k * 2 + 1, none⟩ = some (.int .i64 m1) := (HROW.out _ BB _ _ HXk.out).2
                  have ze : b < wq.heap.size := by omega
                  go_wp2_with fail
                  refine wp_region_after (by kernel_rfl) (by kernel_rfl) ?_
                  intro hneq hac
                  repeat (go_big_quiet_step (first | fail))
                  refine wpQuiet_nil ?_
                  rintro _ ⟨p, rfl⟩
                  have bq : Below wq.heap.size wq p.w := p.bel
                  clear hac hneq
                  generalize p.w = wq2 at *
                  have d0 : wq2.cell? ⟨P0, 0, none⟩ = some (.int .i64 (zn : Int)) := (Below.celz bq _ _ _ (by omega)).trans cc0
                  have d1 : wq2.cell? ⟨P0, 1, none⟩ = some (.slice (some ⟨b, off, none⟩) m uc) := (Below.celz bq _ _ _ (by omega)).trans cc1
                  have d2 : wq2.cell? ⟨P1, 0, none⟩ = some (.int .i64 m0) := (Below.celz bq _ _ _ (by omega)).trans cc2
                  have d3 : wq2.cell? ⟨P1, 1, none⟩ = some (.int .i64 m1) := (Below.celz bq _ _ _ (by omega)).trans cc3
                  have d4 : wq2.cell? ⟨P2, 0, none⟩ = some (.int .i64 (zn : Int)) := (Below.celz bq _ _ _ (by omega)).trans cc4
                  have d5 : wq2.cell? ⟨P2, 1, none⟩ = some (.slice pa x1 pb) := (Below.celz bq _ _ _ (by omega)).trans cc5
                  have d6 : wq2.cell? ⟨P3, 0, none⟩ = some (.int .i64 (zn : Int)) := (Below.celz bq _ _ _ (by omega)).trans cc6
                  have d7 : wq2.cell? ⟨P3, 1, none⟩ = some (.slice qa x1 qb) := (Below.celz bq _ _ _ (by omega)).trans cc7
                  have d8 : wq2.cell? ⟨P4, 0, none⟩ = some (.int .i64 zn) := (Below.celz bq _ _ _ (by omega)).trans cc8
                  have d9 : wq2.cell? ⟨P4, 1, none⟩ = some (.slice ra x1 rb) := (Below.celz bq _ _ _ (by omega)).trans cc9
                  have y0 : P0 < wq2.heap.size := by have := Below.size bq; omega
                  have y1 : P1 < wq2.heap.size := by have := Below.size bq; omega
                  have y2 : P2 < wq2.heap.size := by have := Below.size bq; omega
                  have y3 : P3 < wq2.heap.size := by have := Below.size bq; omega
                  have y4 : P4 < wq2.heap.size := by have := Below.size bq; omega
                  have BB1 : Below A wa wq2 := BB.trans (bq.mono (by omega))
                  have sA1 : A ≤ wq2.heap.size := by have := Below.size bq; omega
                  have q0 : Hid (RowC wq2 (.slice pa x1 pb) X1) := HXX.out.keep bq
                  have q1 : Hid (RowAt 2 encPage wq2 (.slice ra x1 rb) X1) := HZZ.out.keep bq
                  have q2 : Hid (OwnPool wq2 wn.heap.size (.slice ta L tc) RJ) := HOW.out.keep bq
                  have q3 : Hid (OverB wn wq2) := HBL.out.keep bq
                  clear BB sA cc0 cc1 cc2 cc3 cc4 cc5 cc6 cc7 cc8 cc9 zz0 zz1 zz2 zz3 zz4 HXX HZZ HOW HBL
                  have cc0 := d0
                  have cc1 := d1
                  have cc2 := d2
                  have cc3 := d3
                  have cc4 := d4
                  have cc5 := d5
                  have cc6 := d6
                  have cc7 := d7
                  have cc8 := d8
                  have cc9 := d9
                  have zz0 := y0
                  have zz1 := y1
                  have zz2 := y2
                  have zz3 := y3
                  have zz4 := y4
                  have HXX := q0
                  have HZZ := q1
                  have HOW := q2
                  have HBL := q3
                  have BB := BB1
                  have sA := sA1
                  clear BB1 sA1 d0 d1 d2 d3 d4 d5 d6 d7 d8 d9 y0 y1 y2 y3 y4 q0 q1 q2 q3
                  clear bq
                  clear e0 e1 ze
                  have e0 : wq2.cell? ⟨b, off + k * 2, none⟩ = some (.int .i64 m0) := (HROW.out _ BB _ _ HXk.out).1
                  have e1 : wq2.cell? ⟨b, off + k * 2 + 1, none⟩ = some (.int .i64 m1) := (HROW.out _ BB _ _ HXk.out).2
                  have ze : b < wq2.heap.size := by omega
                  go_wp2_with fail
                  go_roundw
                  case rel => exact ⟨k + 1, by omega, by go_num, by rw [HS.out, HE.out]; rfl, HBL.out, by rw [HK.out, ← HRJ.out.1]; have := HOW.out; unfold OwnPool at this; exact this⟩
                  case measure => simp [intOf]; omega
                · have d0 : (m1 == pn) = false := beq_eq_false_iff_ne.2 e2
                  have d1 : decide (m1 = pn) = false := by simpa using e2
                  have HE : Hid (eqB (m0, m1) (m0, pn) = false) := by show _ = _; rw [eqB_false]; simp [e2]
                  have HNE : Hid ((m0, m1) ≠ (m0, pn)) := by show (m0, m1) ≠ (m0, pn); simp [e2]
                  clear e2
                  by_cases hl : L < zk
                  · have hli : (L : Int) < (zn : Int) - 1 := by have := HZK.out; omega
                    have HK : Hid (restJ xs (m0, pn) zk (k + 1) = restJ xs (m0, pn) zk k ++ [(m0, m1)]) := restJ_more HXk.out HNE.out (by rw [← HRJ.out.1, ← HRJ.out.2]; exact hl)
                    go_wp2_with fail
                    refine wp_region_after (by kernel_rfl) (by kernel_rfl) ?_
                    intro hneq hac
                    repeat (go_big_quiet_step (first | fail))
                    refine wpQuiet_nil ?_
                    rintro _ ⟨p, rfl⟩
                    have bq : Below wr.heap.size wr p.w := p.bel
                    clear hac hneq
                    generalize p.w = wq at *
                    have d0 : wq.cell? ⟨P0, 0, none⟩ = some (.int .i64 (zn : Int)) := (Below.celz bq _ _ _ (by omega)).trans cc0
                    have d1 : wq.cell? ⟨P0, 1, none⟩ = some (.slice (some ⟨b, off, none⟩) m uc) := (Below.celz bq _ _ _ (by omega)).trans cc1
                    have d2 : wq.cell? ⟨P1, 0, none⟩ = some (.int .i64 m0) := (Below.celz bq _ _ _ (by omega)).trans cc2
                    have d3 : wq.cell? ⟨P1, 1, none⟩ = some (.int .i64 pn) := (Below.celz bq _ _ _ (by omega)).trans cc3
                    have d4 : wq.cell? ⟨P2, 0, none⟩ = some (.int .i64 (zn : Int)) := (Below.celz bq _ _ _ (by omega)).trans cc4
                    have d5 : wq.cell? ⟨P2, 1, none⟩ = some (.slice pa x1 pb) := (Below.celz bq _ _ _ (by omega)).trans cc5
                    have d6 : wq.cell? ⟨P3, 0, none⟩ = some (.int .i64 (zn : Int)) := (Below.celz bq _ _ _ (by omega)).trans cc6
                    have d7 : wq.cell? ⟨P3, 1, none⟩ = some (.slice qa x1 qb) := (Below.celz bq _ _ _ (by omega)).trans cc7
                    have d8 : wq.cell? ⟨P4, 0, none⟩ = some (.int .i64 zn) := (Below.celz bq _ _ _ (by omega)).trans cc8
                    have d9 : wq.cell? ⟨P4, 1, none⟩ = some (.slice ra x1 rb) := (Below.celz bq _ _ _ (by omega)).trans cc9
                    have y0 : P0 < wq.heap.size := by have := Below.size bq; omega
                    have y1 : P1 < wq.heap.size := by have := Below.size bq; omega
                    have y2 : P2 < wq.heap.size := by have := Below.size bq; omega
                    have y3 : P3 < wq.heap.size := by have := Below.size bq; omega
                    have y4 : P4 < wq.heap.size := by have := Below.size bq; omega
                    have BB1 : Below A wa wq := BB.trans (bq.mono (by omega))
                    have sA1 : A ≤ wq.heap.size := by have := Below.size bq; omega
                    have q0 : Hid (RowC wq (.slice pa x1 pb) X1) := HXX.out.keep bq
                    have q1 : Hid (RowAt 2 encPage wq (.slice ra x1 rb) X1) := HZZ.out.keep bq
                    have q2 : Hid (OwnPool wq wn.heap.size (.slice ta L tc) RJ) := HOW.out.keep bq
                    have q3 : Hid (OverB wn wq) := HBL.out.keep bq
                    clear BB sA cc0 cc1 cc2 cc3 cc4 cc5 cc6 cc7 cc8 cc9 zz0 zz1 zz2 zz3 zz4 HXX HZZ HOW HBL
                    have cc0 := d0
                    have cc1 := d1
                    have cc2 := d2
                    have cc3 := d3
                    have cc4 := d4
                    have cc5 := d5
                    have cc6 := d6
                    have cc7 := d7
                    have cc8 := d8
                    have cc9 := d9
                    have zz0 := y0
                    have zz1 := y1
                    have zz2 := y2
                    have zz3 := y3
                    have zz4 := y4
                    have HXX := q0
                    have HZZ := q1
                    have HOW := q2
                    have HBL := q3
                    have BB := BB1
                    have sA := sA1
                    clear BB1 sA1 d0 d1 d2 d3 d4 d5 d6 d7 d8 d9 y0 y1 y2 y3 y4 q0 q1 q2 q3
                    clear bq
                    clear e0 e1 ze
                    have e0 : wq.cell? ⟨b, off + k * 2, none⟩ = some (.int .i64 m0) := (HROW.out _ BB _ _ HXk.out).1
                    have e1 : wq.cell? ⟨b, off + k * 2 + 1, none⟩ = some (.int .i64 m1) := (HROW.out _ BB _ _ HXk.out).2
                    have ze : b < wq.heap.size := by omega
                    go_wp2_with fail
                    refine wp_region_after (by kernel_rfl) (by kernel_rfl) ?_
                    intro hneq hac
                    repeat (go_big_quiet_step (first | fail))
                    refine wpQuiet_nil ?_
                    rintro _ ⟨p, rfl⟩
                    have bq : Below wq.heap.size wq p.w := p.bel
                    clear hac hneq
                    generalize p.w = wq2 at *
                    have d0 : wq2.cell? ⟨P0, 0, none⟩ = some (.int .i64 (zn : Int)) := (Below.celz bq _ _ _ (by omega)).trans cc0
                    have d1 : wq2.cell? ⟨P0, 1, none⟩ = some (.slice (some ⟨b, off, none⟩) m uc) := (Below.celz bq _ _ _ (by omega)).trans cc1
                    have d2 : wq2.cell? ⟨P1, 0, none⟩ = some (.int .i64 m0) := (Below.celz bq _ _ _ (by omega)).trans cc2
                    have d3 : wq2.cell? ⟨P1, 1, none⟩ = some (.int .i64 pn) := (Below.celz bq _ _ _ (by omega)).trans cc3
                    have d4 : wq2.cell? ⟨P2, 0, none⟩ = some (.int .i64 (zn : Int)) := (Below.celz bq _ _ _ (by omega)).trans cc4
                    have d5 : wq2.cell? ⟨P2, 1, none⟩ = some (.slice pa x1 pb) := (Below.celz bq _ _ _ (by omega)).trans cc5
                    have d6 : wq2.cell? ⟨P3, 0, none⟩ = some (.int .i64 (zn : Int)) := (Below.celz bq _ _ _ (by omega)).trans cc6
                    have d7 : wq2.cell? ⟨P3, 1, none⟩ = some (.slice qa x1 qb) := (Below.celz bq _ _ _ (by omega)).trans cc7
                    have d8 : wq2.cell? ⟨P4, 0, none⟩ = some (.int .i64 zn) := (Below.celz bq _ _ _ (by omega)).trans cc8
                    have d9 : wq2.cell? ⟨P4, 1, none⟩ = some (.slice ra x1 rb) := (Below.celz bq _ _ _ (by omega)).trans cc9
                    have y0 : P0 < wq2.heap.size := by have := Below.size bq; omega
                    have y1 : P1 < wq2.heap.size := by have := Below.size bq; omega
                    have y2 : P2 < wq2.heap.size := by have := Below.size bq; omega
                    have y3 : P3 < wq2.heap.size := by have := Below.size bq; omega
                    have y4 : P4 < wq2.heap.size := by have := Below.size bq; omega
                    have BB1 : Below A wa wq2 := BB.trans (bq.mono (by omega))
                    have sA1 : A ≤ wq2.heap.size := by have := Below.size bq; omega
                    have q0 : Hid (RowC wq2 (.slice pa x1 pb) X1) := HXX.out.keep bq
                    have q1 : Hid (RowAt 2 encPage wq2 (.slice ra x1 rb) X1) := HZZ.out.keep bq
                    have q2 : Hid (OwnPool wq2 wn.heap.size (.slice ta L tc) RJ) := HOW.out.keep bq
                    have q3 : Hid (OverB wn wq2) := HBL.out.keep bq
                    clear BB sA cc0 cc1 cc2 cc3 cc4 cc5 cc6 cc7 cc8 cc9 zz0 zz1 zz2 zz3 zz4 HXX HZZ HOW HBL
                    have cc0 := d0
                    have cc1 := d1
                    have cc2 := d2
                    have cc3 := d3
                    have cc4 := d4
                    have cc5 := d5
                    have cc6 := d6
                    have cc7 := d7
                    have cc8 := d8
                    have cc9 := d9
                    have zz0 := y0
                    have zz1 := y1
                    have zz2 := y2
                    have zz3 := y3
                    have zz4 := y4
                    have HXX := q0
                    have HZZ := q1
                    have HOW := q2
                    have HBL := q3
                    have BB := BB1
                    have sA := sA1
                    clear BB1 sA1 d0 d1 d2 d3 d4 d5 d6 d7 d8 d9 y0 y1 y2 y3 y4 q0 q1 q2 q3
                    clear bq
                    clear e0 e1 ze
                    have e0 : wq2.cell? ⟨b, off + k * 2, none⟩ = some (.int .i64 m0) := (HROW.out _ BB _ _ HXk.out).1
                    have e1 : wq2.cell? ⟨b, off + k * 2 + 1, none⟩ = some (.int .i64 m1) := (HROW.out _ BB _ _ HXk.out).2
                    have ze : b < wq2.heap.size := by omega
                    have hown : wq2.ownsRow wn.heap.size 27 2 (.slice ta L tc) L (RJ.flatMap encPage) := by have := HOW.out; unfold OwnPool at this; rw [← HRJ.out.2] at this; exact this
                    have LT : Hid (∀ g, (Value.slice ta L tc).ownBlock = some g → wn.heap.size ≤ g) := fun g hg => (hown.lt g hg).1
                    have swn : wn.heap.size ≤ wq2.heap.size := HBL.out.size
                    go_wp2_with (at_builtin; refine wpList_append_own _ rfl _ _ 23 rfl wn.heap.size 27 i0 _ 2 16 Tryd.underlying23 hi hz0 hz1 hzz2 rfl (by decide) _ _ _ rfl (hown.alloc _) ⟨wq2.heap.size, 0, none⟩ 1 1 [.int .i64 m0, .int .i64 m1] rfl rfl ?c1 ?c2 ?c3 ?c4 ?c5 ?_)
                    case c1 =>
                      intro i u hi
                      match i, hi with
                      | 0, hi => simp at hi; subst hi; simp [Addr.add]
                      | 1, hi => simp at hi; subst hi; simp [Addr.add]
                    case c2 => intro u hu; simp at hu; rcases hu with rfl | rfl <;> rfl
                    case c3 => unfold maxLen; omega
                    case c4 => omega
                    case c5 => simp; omega
                    intro v' w3 hown' hgrow _
                    have R : Hid (Below wn.heap.size wn w3 ∧ w3.ownsRow wn.heap.size 27 2 v' (restJ xs (m0, pn) zk (k + 1)).length ((restJ xs (m0, pn) zk (k + 1)).flatMap encPage)) := by
                      refine ⟨(Below.alloc HBL.out swn _).grown hgrow (by simp; omega) (fun g hg => LT.out g hg), ?_⟩
                      rw [HK.out, ← HRJ.out.1, List.length_append, ← HRJ.out.2, List.flatMap_append]
                      simpa [encPage] using hown'
                    clear hown' hgrow hown e0 e1
                    go_wp2_with fail
                    go_roundw
                    case rel => exact ⟨k + 1, by omega, by go_num, by rw [HS.out, HE.out]; rfl, R.out⟩
                    case measure => simp [intOf]; omega
                  · have hli : ¬ (L : Int) < (zn : Int) - 1 := by have := HZK.out; omega
                    have HK : Hid (restJ xs (m0, pn) zk (k + 1) = restJ xs (m0, pn) zk k) := restJ_full HXk.out (by rw [← HRJ.out.1, ← HRJ.out.2]; exact hl)
                    go_wp2_with fail
                    refine wp_region_after (by kernel_rfl) (by kernel_rfl) ?_
                    intro hneq hac
                    repeat (go_big_quiet_step (first | fail))
                    refine wpQuiet_nil ?_
                    rintro _ ⟨p, rfl⟩
                    have bq : Below wr.heap.size wr p.w := p.bel
                    clear hac hneq
                    generalize p.w = wq at *
                    have d0 : wq.cell? ⟨P0, 0, none⟩ = some (.int .i64 (zn : Int)) := (Below.celz bq _ _ _ (by omega)).trans cc0
                    have d1 : wq.cell? ⟨P0, 1, none⟩ = some (.slice (some ⟨b, off, none⟩) m uc) := (Below.celz bq _ _ _ (by omega)).trans cc1
                    have d2 : wq.cell? ⟨P1, 0, none⟩ = some (.int .i64 m0) := (Below.celz bq _ _ _ (by omega)).trans cc2
                    have d3 : wq.cell? ⟨P1, 1, none⟩ = some (.int .i64 pn) := (Below.celz bq _ _ _ (by omega)).trans cc3
                    have d4 : wq.cell? ⟨P2, 0, none⟩ = some (.int .i64 (zn : Int)) := (Below.celz bq _ _ _ (by omega)).trans cc4
                    have d5 : wq.cell? ⟨P2, 1, none⟩ = some (.slice pa x1 pb) := (Below.celz bq _ _ _ (by omega)).trans cc5
                    have d6 : wq.cell? ⟨P3, 0, none⟩ = some (.int .i64 (zn : Int)) := (Below.celz bq _ _ _ (by omega)).trans cc6
                    have d7 : wq.cell? ⟨P3, 1, none⟩ = some (.slice qa x1 qb) := (Below.celz bq _ _ _ (by omega)).trans cc7
                    have d8 : wq.cell? ⟨P4, 0, none⟩ = some (.int .i64 zn) := (Below.celz bq _ _ _ (by omega)).trans cc8
                    have d9 : wq.cell? ⟨P4, 1, none⟩ = some (.slice ra x1 rb) := (Below.celz bq _ _ _ (by omega)).trans cc9
                    have y0 : P0 < wq.heap.size := by have := Below.size bq; omega
                    have y1 : P1 < wq.heap.size := by have := Below.size bq; omega
                    have y2 : P2 < wq.heap.size := by have := Below.size bq; omega
                    have y3 : P3 < wq.heap.size := by have := Below.size bq; omega
                    have y4 : P4 < wq.heap.size := by have := Below.size bq; omega
                    have BB1 : Below A wa wq := BB.trans (bq.mono (by omega))
                    have sA1 : A ≤ wq.heap.size := by have := Below.size bq; omega
                    have q0 : Hid (RowC wq (.slice pa x1 pb) X1) := HXX.out.keep bq
                    have q1 : Hid (RowAt 2 encPage wq (.slice ra x1 rb) X1) := HZZ.out.keep bq
                    have q2 : Hid (OwnPool wq wn.heap.size (.slice ta L tc) RJ) := HOW.out.keep bq
                    have q3 : Hid (OverB wn wq) := HBL.out.keep bq
                    clear BB sA cc0 cc1 cc2 cc3 cc4 cc5 cc6 cc7 cc8 cc9 zz0 zz1 zz2 zz3 zz4 HXX HZZ HOW HBL
                    have cc0 := d0
                    have cc1 := d1
                    have cc2 := d2
                    have cc3 := d3
                    have cc4 := d4
                    have cc5 := d5
                    have cc6 := d6
                    have cc7 := d7
                    have cc8 := d8
                    have cc9 := d9
                    have zz0 := y0
                    have zz1 := y1
                    have zz2 := y2
                    have zz3 := y3
                    have zz4 := y4
                    have HXX := q0
                    have HZZ := q1
                    have HOW := q2
                    have HBL := q3
                    have BB := BB1
                    have sA := sA1
                    clear BB1 sA1 d0 d1 d2 d3 d4 d5 d6 d7 d8 d9 y0 y1 y2 y3 y4 q0 q1 q2 q3
                    clear bq
                    clear e0 e1 ze
                    have e0 : wq.cell? ⟨b, off + k * 2, none⟩ = some (.int .i64 m0) := (HROW.out _ BB _ _ HXk.out).1
                    have e1 : wq.cell? ⟨b, off + k * 2 + 1, none⟩ = some (.int .i64 m1) := (HROW.out _ BB _ _ HXk.out).2
                    have ze : b < wq.heap.size := by omega
                    go_wp2_with fail
                    refine wp_region_after (by kernel_rfl) (by kernel_rfl) ?_
                    intro hneq hac
                    repeat (go_big_quiet_step (first | fail))
                    refine wpQuiet_nil ?_
                    rintro _ ⟨p, rfl⟩
                    have bq : Below wq.heap.size wq p.w := p.bel
                    clear hac hneq
                    generalize p.w = wq2 at *
                    have d0 : wq2.cell? ⟨P0, 0, none⟩ = some (.int .i64 (zn : Int)) := (Below.celz bq _ _ _ (by omega)).trans cc0
                    have d1 : wq2.cell? ⟨P0, 1, none⟩ = some (.slice (some ⟨b, off, none⟩) m uc) := (Below.celz bq _ _ _ (by omega)).trans cc1
                    have d2 : wq2.cell? ⟨P1, 0, none⟩ = some (.int .i64 m0) := (Below.celz bq _ _ _ (by omega)).trans cc2
                    have d3 : wq2.cell? ⟨P1, 1, none⟩ = some (.int .i64 pn) := (Below.celz bq _ _ _ (by omega)).trans cc3
                    have d4 : wq2.cell? ⟨P2, 0, none⟩ = some (.int .i64 (zn : Int)) := (Below.celz bq _ _ _ (by omega)).trans cc4
                    have d5 : wq2.cell? ⟨P2, 1, none⟩ = some (.slice pa x1 pb) := (Below.celz bq _ _ _ (by omega)).trans cc5
                    have d6 : wq2.cell? ⟨P3, 0, none⟩ = some (.int .i64 (zn : Int)) := (Below.celz bq _ _ _ (by omega)).trans cc6
                    have d7 : wq2.cell? ⟨P3, 1, none⟩ = some (.slice qa x1 qb) := (Below.celz bq _ _ _ (by omega)).trans cc7
                    have d8 : wq2.cell? ⟨P4, 0, none⟩ = some (.int .i64 zn) := (Below.celz bq _ _ _ (by omega)).trans cc8
                    have d9 : wq2.cell? ⟨P4, 1, none⟩ = some (.slice ra x1 rb) := (Below.celz bq _ _ _ (by omega)).trans cc9
                    have y0 : P0 < wq2.heap.size := by have := Below.size bq; omega
                    have y1 : P1 < wq2.heap.size := by have := Below.size bq; omega
                    have y2 : P2 < wq2.heap.size := by have := Below.size bq; omega
                    have y3 : P3 < wq2.heap.size := by have := Below.size bq; omega
                    have y4 : P4 < wq2.heap.size := by have := Below.size bq; omega
                    have BB1 : Below A wa wq2 := BB.trans (bq.mono (by omega))
                    have sA1 : A ≤ wq2.heap.size := by have := Below.size bq; omega
                    have q0 : Hid (RowC wq2 (.slice pa x1 pb) X1) := HXX.out.keep bq
                    have q1 : Hid (RowAt 2 encPage wq2 (.slice ra x1 rb) X1) := HZZ.out.keep bq
                    have q2 : Hid (OwnPool wq2 wn.heap.size (.slice ta L tc) RJ) := HOW.out.keep bq
                    have q3 : Hid (OverB wn wq2) := HBL.out.keep bq
                    clear BB sA cc0 cc1 cc2 cc3 cc4 cc5 cc6 cc7 cc8 cc9 zz0 zz1 zz2 zz3 zz4 HXX HZZ HOW HBL
                    have cc0 := d0
                    have cc1 := d1
                    have cc2 := d2
                    have cc3 := d3
                    have cc4 := d4
                    have cc5 := d5
                    have cc6 := d6
                    have cc7 := d7
                    have cc8 := d8
                    have cc9 := d9
                    have zz0 := y0
                    have zz1 := y1
                    have zz2 := y2
                    have zz3 := y3
                    have zz4 := y4
                    have HXX := q0
                    have HZZ := q1
                    have HOW := q2
                    have HBL := q3
                    have BB := BB1
                    have sA := sA1
                    clear BB1 sA1 d0 d1 d2 d3 d4 d5 d6 d7 d8 d9 y0 y1 y2 y3 y4 q0 q1 q2 q3
                    clear bq
                    clear e0 e1 ze
                    have e0 : wq2.cell? ⟨b, off + k * 2, none⟩ = some (.int .i64 m0) := (HROW.out _ BB _ _ HXk.out).1
                    have e1 : wq2.cell? ⟨b, off + k * 2 + 1, none⟩ = some (.int .i64 m1) := (HROW.out _ BB _ _ HXk.out).2
                    have ze : b < wq2.heap.size := by omega
                    go_wp2_with fail
                    go_roundw
                    case rel => exact ⟨k + 1, by omega, by go_num, by rw [HS.out, HE.out]; rfl, HBL.out, by rw [HK.out, ← HRJ.out.1]; have := HOW.out; unfold OwnPool at this; exact this⟩
                    case measure => simp [intOf]; omega
              · have d0 : (m0 == pl) = false := beq_eq_false_iff_ne.2 e
                have d1 : decide (m0 = pl) = false := by simpa using e
                have HE : Hid (eqB (m0, m1) (pl, pn) = false) := by show _ = _; rw [eqB_false]; simp [e]
                have HNE : Hid ((m0, m1) ≠ (pl, pn)) := by show (m0, m1) ≠ (pl, pn); simp [e]
                clear e
                by_cases hl : L < zk
                · have hli : (L : Int) < (zn : Int) - 1 := by have := HZK.out; omega
                  have HK : Hid (restJ xs (pl, pn) zk (k + 1) = restJ xs (pl, pn) zk k ++ [(m0, m1)]) := restJ_more HXk.out HNE.out (by rw [← HRJ.out.1, ← HRJ.out.2]; exact hl)
                  go_wp2_with fail
                  refine wp_region_after (by kernel_rfl) (by kernel_rfl) ?_
                  intro hneq hac
                  repeat (go_big_quiet_step (first | fail))
                  refine wpQuiet_nil ?_
                  rintro _ ⟨p, rfl⟩
                  have bq : Below wr.heap.size wr p.w := p.bel
                  clear hac hneq
                  generalize p.w = wq at *
                  have d0 : wq.cell? ⟨P0, 0, none⟩ = some (.int .i64 (zn : Int)) := (Below.celz bq _ _ _ (by omega)).trans cc0
                  have d1 : wq.cell? ⟨P0, 1, none⟩ = some (.slice (some ⟨b, off, none⟩) m uc) := (Below.celz bq _ _ _ (by omega)).trans cc1
                  have d2 : wq.cell? ⟨P1, 0, none⟩ = some (.int .i64 pl) := (Below.celz bq _ _ _ (by omega)).trans cc2
                  have d3 : wq.cell? ⟨P1, 1, none⟩ = some (.int .i64 pn) := (Below.celz bq _ _ _ (by omega)).trans cc3
                  have d4 : wq.cell? ⟨P2, 0, none⟩ = some (.int .i64 (zn : Int)) := (Below.celz bq _ _ _ (by omega)).trans cc4
                  have d5 : wq.cell? ⟨P2, 1, none⟩ = some (.slice pa x1 pb) := (Below.celz bq _ _ _ (by omega)).trans cc5
                  have d6 : wq.cell? ⟨P3, 0, none⟩ = some (.int .i64 (zn : Int)) := (Below.celz bq _ _ _ (by omega)).trans cc6
                  have d7 : wq.cell? ⟨P3, 1, none⟩ = some (.slice qa x1 qb) := (Below.celz bq _ _ _ (by omega)).trans cc7
                  have d8 : wq.cell? ⟨P4, 0, none⟩ = some (.int .i64 zn) := (Below.celz bq _ _ _ (by omega)).trans cc8
                  have d9 : wq.cell? ⟨P4, 1, none⟩ = some (.slice ra x1 rb) := (Below.celz bq _ _ _ (by omega)).trans cc9
                  have y0 : P0 < wq.heap.size := by have := Below.size bq; omega
                  have y1 : P1 < wq.heap.size := by have := Below.size bq; omega
                  have y2 : P2 < wq.heap.size := by have := Below.size bq; omega
                  have y3 : P3 < wq.heap.size := by have := Below.size bq; omega
                  have y4 : P4 < wq.heap.size := by have := Below.size bq; omega
                  have BB1 : Below A wa wq := BB.trans (bq.mono (by omega))
                  have sA1 : A ≤ wq.heap.size := by have := Below.size bq; omega
                  have q0 : Hid (RowC wq (.slice pa x1 pb) X1) := HXX.out.keep bq
                  have q1 : Hid (RowAt 2 encPage wq (.slice ra x1 rb) X1) := HZZ.out.keep bq
                  have q2 : Hid (OwnPool wq wn.heap.size (.slice ta L tc) RJ) := HOW.out.keep bq
                  have q3 : Hid (OverB wn wq) := HBL.out.keep bq
                  clear BB sA cc0 cc1 cc2 cc3 cc4 cc5 cc6 cc7 cc8 cc9 zz0 zz1 zz2 zz3 zz4 HXX HZZ HOW HBL
                  have cc0 := d0
                  have cc1 := d1
                  have cc2 := d2
                  have cc3 := d3
                  have cc4 := d4
                  have cc5 := d5
                  have cc6 := d6
                  have cc7 := d7
                  have cc8 := d8
                  have cc9 := d9
                  have zz0 := y0
                  have zz1 := y1
                  have zz2 := y2
                  have zz3 := y3
                  have zz4 := y4
                  have HXX := q0
                  have HZZ := q1
                  have HOW := q2
                  have HBL := q3
                  have BB := BB1
                  have sA := sA1
                  clear BB1 sA1 d0 d1 d2 d3 d4 d5 d6 d7 d8 d9 y0 y1 y2 y3 y4 q0 q1 q2 q3
                  clear bq
                  clear e0 e1 ze
                  have e0 : wq.cell? ⟨b, off + k * 2, none⟩ = some (.int .i64 m0) := (HROW.out _ BB _ _ HXk.out).1
                  have e1 : wq.cell? ⟨b, off + k * 2 + 1, none⟩ = some (.int .i64 m1) := (HROW.out _ BB _ _ HXk.out).2
                  have ze : b < wq.heap.size := by omega
                  go_wp2_with fail
                  refine wp_region_after (by kernel_rfl) (by kernel_rfl) ?_
                  intro hneq hac
                  repeat (go_big_quiet_step (first | fail))
                  refine wpQuiet_nil ?_
                  rintro _ ⟨p, rfl⟩
                  have bq : Below wq.heap.size wq p.w := p.bel
                  clear hac hneq
                  generalize p.w = wq2 at *
                  have d0 : wq2.cell? ⟨P0, 0, none⟩ = some (.int .i64 (zn : Int)) := (Below.celz bq _ _ _ (by omega)).trans cc0
                  have d1 : wq2.cell? ⟨P0, 1, none⟩ = some (.slice (some ⟨b, off, none⟩) m uc) := (Below.celz bq _ _ _ (by omega)).trans cc1
                  have d2 : wq2.cell? ⟨P1, 0, none⟩ = some (.int .i64 pl) := (Below.celz bq _ _ _ (by omega)).trans cc2
                  have d3 : wq2.cell? ⟨P1, 1, none⟩ = some (.int .i64 pn) := (Below.celz bq _ _ _ (by omega)).trans cc3
                  have d4 : wq2.cell? ⟨P2, 0, none⟩ = some (.int .i64 (zn : Int)) := (Below.celz bq _ _ _ (by omega)).trans cc4
                  have d5 : wq2.cell? ⟨P2, 1, none⟩ = some (.slice pa x1 pb) := (Below.celz bq _ _ _ (by omega)).trans cc5
                  have d6 : wq2.cell? ⟨P3, 0, none⟩ = some (.int .i64 (zn : Int)) := (Below.celz bq _ _ _ (by omega)).trans cc6
                  have d7 : wq2.cell? ⟨P3, 1, none⟩ = some (.slice qa x1 qb) := (Below.celz bq _ _ _ (by omega)).trans cc7
                  have d8 : wq2.cell? ⟨P4, 0, none⟩ = some (.int .i64 zn) := (Below.celz bq _ _ _ (by omega)).trans cc8
                  have d9 : wq2.cell? ⟨P4, 1, none⟩ = some (.slice ra x1 rb) := (Below.celz bq _ _ _ (by omega)).trans cc9
                  have y0 : P0 < wq2.heap.size := by have := Below.size bq; omega
                  have y1 : P1 < wq2.heap.size := by have := Below.size bq; omega
                  have y2 : P2 < wq2.heap.size := by have := Below.size bq; omega
                  have y3 : P3 < wq2.heap.size := by have := Below.size bq; omega
                  have y4 : P4 < wq2.heap.size := by have := Below.size bq; omega
                  have BB1 : Below A wa wq2 := BB.trans (bq.mono (by omega))
                  have sA1 : A ≤ wq2.heap.size := by have := Below.size bq; omega
                  have q0 : Hid (RowC wq2 (.slice pa x1 pb) X1) := HXX.out.keep bq
                  have q1 : Hid (RowAt 2 encPage wq2 (.slice ra x1 rb) X1) := HZZ.out.keep bq
                  have q2 : Hid (OwnPool wq2 wn.heap.size (.slice ta L tc) RJ) := HOW.out.keep bq
                  have q3 : Hid (OverB wn wq2) := HBL.out.keep bq
                  clear BB sA cc0 cc1 cc2 cc3 cc4 cc5 cc6 cc7 cc8 cc9 zz0 zz1 zz2 zz3 zz4 HXX HZZ HOW HBL
                  have cc0 := d0
                  have cc1 := d1
                  have cc2 := d2
                  have cc3 := d3
                  have cc4 := d4
                  have cc5 := d5
                  have cc6 := d6
                  have cc7 := d7
                  have cc8 := d8
                  have cc9 := d9
                  have zz0 := y0
                  have zz1 := y1
                  have zz2 := y2
                  have zz3 := y3
                  have zz4 := y4
                  have HXX := q0
                  have HZZ := q1
                  have HOW := q2
                  have HBL := q3
                  have BB := BB1
                  have sA := sA1
                  clear BB1 sA1 d0 d1 d2 d3 d4 d5 d6 d7 d8 d9 y0 y1 y2 y3 y4 q0 q1 q2 q3
                  clear bq
                  clear e0 e1 ze
                  have e0 : wq2.cell? ⟨b, off + k * 2, none⟩ = some (.int .i64 m0) := (HROW.out _ BB _ _ HXk.out).1
                  have e1 : wq2.cell? ⟨b, off + k * 2 + 1, none⟩ = some (.int .i64 m1) := (HROW.out _ BB _ _ HXk.out).2
                  have ze : b < wq2.heap.size := by omega
                  have hown : wq2.ownsRow wn.heap.size 27 2 (.slice ta L tc) L (RJ.flatMap encPage) := by have := HOW.out; unfold OwnPool at this; rw [← HRJ.out.2] at this; exact this
                  have LT : Hid (∀ g, (Value.slice ta L tc).ownBlock = some g → wn.heap.size ≤ g) := fun g hg => (hown.lt g hg).1
                  have swn : wn.heap.size ≤ wq2.heap.size := HBL.out.size
                  go_wp2_with (at_builtin; refine wpList_append_own _ rfl _ _ 23 rfl wn.heap.size 27 i0 _ 2 16 Tryd.underlying23 hi hz0 hz1 hzz2 rfl (by decide) _ _ _ rfl (hown.alloc _) ⟨wq2.heap.size, 0, none⟩ 1 1 [.int .i64 m0, .int .i64 m1] rfl rfl ?c1 ?c2 ?c3 ?c4 ?c5 ?_)
                  case c1 =>
                    intro i u hi
                    match i, hi with
                    | 0, hi => simp at hi; subst hi; simp [Addr.add]
                    | 1, hi => simp at hi; subst hi; simp [Addr.add]
                  case c2 => intro u hu; simp at hu; rcases hu with rfl | rfl <;> rfl
                  case c3 => unfold maxLen; omega
                  case c4 => omega
                  case c5 => simp; omega
                  intro v' w3 hown' hgrow _
                  have R : Hid (Below wn.heap.size wn w3 ∧ w3.ownsRow wn.heap.size 27 2 v' (restJ xs (pl, pn) zk (k + 1)).length ((restJ xs (pl, pn) zk (k + 1)).flatMap encPage)) := by
                    refine ⟨(Below.alloc HBL.out swn _).grown hgrow (by simp; omega) (fun g hg => LT.out g hg), ?_⟩
                    rw [HK.out, ← HRJ.out.1, List.length_append, ← HRJ.out.2, List.flatMap_append]
                    simpa [encPage] using hown'
                  clear hown' hgrow hown e0 e1
                  go_wp2_with fail
                  go_roundw
                  case rel => exact ⟨k + 1, by omega, by go_num, by rw [HS.out, HE.out]; rfl, R.out⟩
                  case measure => simp [intOf]; omega
                · have hli : ¬ (L : Int) < (zn : Int) - 1 := by have := HZK.out; omega
                  have HK : Hid (restJ xs (pl, pn) zk (k + 1) = restJ xs (pl, pn) zk k) := restJ_full HXk.out (by rw [← HRJ.out.1, ← HRJ.out.2]; exact hl)
                  go_wp2_with fail
                  refine wp_region_after (by kernel_rfl) (by kernel_rfl) ?_
                  intro hneq hac
                  repeat (go_big_quiet_step (first | fail))
                  refine wpQuiet_nil ?_
                  rintro _ ⟨p, rfl⟩
                  have bq : Below wr.heap.size wr p.w := p.bel
                  clear hac hneq
                  generalize p.w = wq at *
                  have d0 : wq.cell? ⟨P0, 0, none⟩ = some (.int .i64 (zn : Int)) := (Below.celz bq _ _ _ (by omega)).trans cc0
                  have d1 : wq.cell? ⟨P0, 1, none⟩ = some (.slice (some ⟨b, off, none⟩) m uc) := (Below.celz bq _ _ _ (by omega)).trans cc1
                  have d2 : wq.cell? ⟨P1, 0, none⟩ = some (.int .i64 pl) := (Below.celz bq _ _ _ (by omega)).trans cc2
                  have d3 : wq.cell? ⟨P1, 1, none⟩ = some (.int .i64 pn) := (Below.celz bq _ _ _ (by omega)).trans cc3
                  have d4 : wq.cell? ⟨P2, 0, none⟩ = some (.int .i64 (zn : Int)) := (Below.celz bq _ _ _ (by omega)).trans cc4
                  have d5 : wq.cell? ⟨P2, 1, none⟩ = some (.slice pa x1 pb) := (Below.celz bq _ _ _ (by omega)).trans cc5
                  have d6 : wq.cell? ⟨P3, 0, none⟩ = some (.int .i64 (zn : Int)) := (Below.celz bq _ _ _ (by omega)).trans cc6
                  have d7 : wq.cell? ⟨P3, 1, none⟩ = some (.slice qa x1 qb) := (Below.celz bq _ _ _ (by omega)).trans cc7
                  have d8 : wq.cell? ⟨P4, 0, none⟩ = some (.int .i64 zn) := (Below.celz bq _ _ _ (by omega)).trans cc8
                  have d9 : wq.cell? ⟨P4, 1, none⟩ = some (.slice ra x1 rb) := (Below.celz bq _ _ _ (by omega)).trans cc9
                  have y0 : P0 < wq.heap.size := by have := Below.size bq; omega
                  have y1 : P1 < wq.heap.size := by have := Below.size bq; omega
                  have y2 : P2 < wq.heap.size := by have := Below.size bq; omega
                  have y3 : P3 < wq.heap.size := by have := Below.size bq; omega
                  have y4 : P4 < wq.heap.size := by have := Below.size bq; omega
                  have BB1 : Below A wa wq := BB.trans (bq.mono (by omega))
                  have sA1 : A ≤ wq.heap.size := by have := Below.size bq; omega
                  have q0 : Hid (RowC wq (.slice pa x1 pb) X1) := HXX.out.keep bq
                  have q1 : Hid (RowAt 2 encPage wq (.slice ra x1 rb) X1) := HZZ.out.keep bq
                  have q2 : Hid (OwnPool wq wn.heap.size (.slice ta L tc) RJ) := HOW.out.keep bq
                  have q3 : Hid (OverB wn wq) := HBL.out.keep bq
                  clear BB sA cc0 cc1 cc2 cc3 cc4 cc5 cc6 cc7 cc8 cc9 zz0 zz1 zz2 zz3 zz4 HXX HZZ HOW HBL
                  have cc0 := d0
                  have cc1 := d1
                  have cc2 := d2
                  have cc3 := d3
                  have cc4 := d4
                  have cc5 := d5
                  have cc6 := d6
                  have cc7 := d7
                  have cc8 := d8
                  have cc9 := d9
                  have zz0 := y0
                  have zz1 := y1
                  have zz2 := y2
                  have zz3 := y3
                  have zz4 := y4
                  have HXX := q0
                  have HZZ := q1
                  have HOW := q2
                  have HBL := q3
                  have BB := BB1
                  have sA := sA1
                  clear BB1 sA1 d0 d1 d2 d3 d4 d5 d6 d7 d8 d9 y0 y1 y2 y3 y4 q0 q1 q2 q3
                  clear bq
                  clear e0 e1 ze
                  have e0 : wq.cell? ⟨b, off + k * 2, none⟩ = some (.int .i64 m0) := (HROW.out _ BB _ _ HXk.out).1
                  have e1 : wq.cell? ⟨b, off + k * 2 + 1, none⟩ = some (.int .i64 m1) := (HROW.out _ BB _ _ HXk.out).2
                  have ze : b < wq.heap.size := by omega
                  go_wp2_with fail
                  refine wp_region_after (by kernel_rfl) (by kernel_rfl) ?_
                  intro hneq hac
                  repeat (go_big_quiet_step (first | fail))
                  refine wpQuiet_nil ?_
                  rintro _ ⟨p, rfl⟩
                  have bq : Below wq.heap.size wq p.w := p.bel
                  clear hac hneq
                  generalize p.w = wq2 at *
                  have d0 : wq2.cell? ⟨P0, 0, none⟩ = some (.int .i64 (zn : Int)) := (Below.celz bq _ _ _ (by omega)).trans cc0
                  have d1 : wq2.cell? ⟨P0, 1, none⟩ = some (.slice (some ⟨b, off, none⟩) m uc) := (Below.celz bq _ _ _ (by omega)).trans cc1
                  have d2 : wq2.cell? ⟨P1, 0, none⟩ = some (.int .i64 pl) := (Below.celz bq _ _ _ (by omega)).trans cc2
                  have d3 : wq2.cell? ⟨P1, 1, none⟩ = some (.int .i64 pn) := (Below.celz bq _ _ _ (by omega)).trans cc3
                  have d4 : wq2.cell? ⟨P2, 0, none⟩ = some (.int .i64 (zn : Int)) := (Below.celz bq _ _ _ (by omega)).trans cc4
                  have d5 : wq2.cell? ⟨P2, 1, none⟩ = some (.slice pa x1 pb) := (Below.celz bq _ _ _ (by omega)).trans cc5
                  have d6 : wq2.cell? ⟨P3, 0, none⟩ = some (.int .i64 (zn : Int)) := (Below.celz bq _ _ _ (by omega)).trans cc6
                  have d7 : wq2.cell? ⟨P3, 1, none⟩ = some (.slice qa x1 qb) := (Below.celz bq _ _ _ (by omega)).trans cc7
                  have d8 : wq2.cell? ⟨P4, 0, none⟩ = some (.int .i64 zn) := (Below.celz bq _ _ _ (by omega)).trans cc8
                  have d9 : wq2.cell? ⟨P4, 1, none⟩ = some (.slice ra x1 rb) := (Below.celz bq _ _ _ (by omega)).trans cc9
                  have y0 : P0 < wq2.heap.size := by have := Below.size bq; omega
                  have y1 : P1 < wq2.heap.size := by have := Below.size bq; omega
                  have y2 : P2 < wq2.heap.size := by have := Below.size bq; omega
                  have y3 : P3 < wq2.heap.size := by have := Below.size bq; omega
                  have y4 : P4 < wq2.heap.size := by have := Below.size bq; omega
                  have BB1 : Below A wa wq2 := BB.trans (bq.mono (by omega))
                  have sA1 : A ≤ wq2.heap.size := by have := Below.size bq; omega
                  have q0 : Hid (RowC wq2 (.slice pa x1 pb) X1) := HXX.out.keep bq
                  have q1 : Hid (RowAt 2 encPage wq2 (.slice ra x1 rb) X1) := HZZ.out.keep bq
                  have q2 : Hid (OwnPool wq2 wn.heap.size (.slice ta L tc) RJ) := HOW.out.keep bq
                  have q3 : Hid (OverB wn wq2) := HBL.out.keep bq
                  clear BB sA cc0 cc1 cc2 cc3 cc4 cc5 cc6 cc7 cc8 cc9 zz0 zz1 zz2 zz3 zz4 HXX HZZ HOW HBL
                  have cc0 := d0
                  have cc1 := d1
                  have cc2 := d2
                  have cc3 := d3
                  have cc4 := d4
                  have cc5 := d5
                  have cc6 := d6
                  have cc7 := d7
                  have cc8 := d8
                  have cc9 := d9
                  have zz0 := y0
                  have zz1 := y1
                  have zz2 := y2
                  have zz3 := y3
                  have zz4 := y4
                  have HXX := q0
                  have HZZ := q1
                  have HOW := q2
                  have HBL := q3
                  have BB := BB1
                  have sA := sA1
                  clear BB1 sA1 d0 d1 d2 d3 d4 d5 d6 d7 d8 d9 y0 y1 y2 y3 y4 q0 q1 q2 q3
                  clear bq
                  clear e0 e1 ze
                  have e0 : wq2.cell? ⟨b, off + k * 2, none⟩ = some (.int .i64 m0) := (HROW.out _ BB _ _ HXk.out).1
                  have e1 : wq2.cell? ⟨b, off + k * 2 + 1, none⟩ = some (.int .i64 m1) := (HROW.out _ BB _ _ HXk.out).2
                  have ze : b < wq2.heap.size := by omega
                  go_wp2_with fail
                  go_roundw
                  case rel => exact ⟨k + 1, by omega, by go_num, by rw [HS.out, HE.out]; rfl, HBL.out, by rw [HK.out, ← HRJ.out.1]; have := HOW.out; unfold OwnPool at this; exact this⟩
                  case measure => simp [intOf]; omega
            · by_cases e : m0 = pl
              · subst e
                by_cases e2 : m1 = pn
                · subst e2
                  have HE : Hid (eqB (m0, m1) (m0, m1) = true) := eqB_true.2 rfl
                  have HK : Hid (restJ xs (m0, m1) zk (k + 1) = restJ xs (m0, m1) zk k) := restJ_same HXk.out rfl
                  go_wp2_with fail
                  refine wp_region_after (by kernel_rfl) (by kernel_rfl) ?_
                  intro hneq hac
                  repeat (go_big_quiet_step (first | fail))
                  refine wpQuiet_nil ?_
                  rintro _ ⟨p, rfl⟩
                  have bq : Below wr.heap.size wr p.w := p.bel
                  clear hac hneq
                  generalize p.w = wq at *
                  have d0 : wq.cell? ⟨P0, 0, none⟩ = some (.int .i64 (zn : Int)) := (Below.celz bq _ _ _ (by omega)).trans cc0
                  have d1 : wq.cell? ⟨P0, 1, none⟩ = some (.slice (some ⟨b, off, none⟩) m uc) := (Below.celz bq _ _ _ (by omega)).trans cc1
                  have d2 : wq.cell? ⟨P1, 0, none⟩ = some (.int .i64 m0) := (Below.celz bq _ _ _ (by omega)).trans cc2
                  have d3 : wq.cell? ⟨P1, 1, none⟩ = some (.int .i64 m1) := (Below.celz bq _ _ _ (by omega)).trans cc3
                  have d4 : wq.cell? ⟨P2, 0, none⟩ = some (.int .i64 (zn : Int)) := (Below.celz bq _ _ _ (by omega)).trans cc4
                  have d5 : wq.cell? ⟨P2, 1, none⟩ = some (.slice pa x1 pb) := (Below.celz bq _ _ _ (by omega)).trans cc5
                  have d6 : wq.cell? ⟨P3, 0, none⟩ = some (.int .i64 (zn : Int)) := (Below.celz bq _ _ _ (by omega)).trans cc6
                  have d7 : wq.cell? ⟨P3, 1, none⟩ = some (.slice qa x1 qb) := (Below.celz bq _ _ _ (by omega)).trans cc7
                  have d8 : wq.cell? ⟨P4, 0, none⟩ = some (.int .i64 zn) := (Below.celz bq _ _ _ (by omega)).trans cc8
                  have d9 : wq.cell? ⟨P4, 1, none⟩ = some (.slice ra x1 rb) := (Below.celz bq _ _ _ (by omega)).trans cc9
                  have y0 : P0 < wq.heap.size := by have := Below.size bq; omega
                  have y1 : P1 < wq.heap.size := by have := Below.size bq; omega
                  have y2 : P2 < wq.heap.size := by have := Below.size bq; omega
                  have y3 : P3 < wq.heap.size := by have := Below.size bq; omega
                  have y4 : P4 < wq.heap.size := by have := Below.size bq; omega
                  have BB1 : Below A wa wq := BB.trans (bq.mono (by omega))
                  have sA1 : A ≤ wq.heap.size := by have := Below.size bq; omega
                  have q0 : Hid (RowC wq (.slice pa x1 pb) X1) := HXX.out.keep bq
                  have q1 : Hid (RowAt 2 encPage wq (.slice ra x1 rb) X1) := HZZ.out.keep bq
                  have q2 : Hid (OwnPool wq wn.heap.size (.slice ta L tc) RJ) := HOW.out.keep bq
                  have q3 : Hid (OverB wn wq) := HBL.out.keep bq
                  clear BB sA cc0 cc1 cc2 cc3 cc4 cc5 cc6 cc7 cc8 cc9 zz0 zz1 zz2 zz3 zz4 HXX HZZ HOW HBL
                  have cc0 := d0
                  have cc1 := d1
                  have cc2 := d2
                  have cc3 := d3
                  have cc4 := d4
                  have cc5 := d5
                  have cc6 := d6
                  have cc7 := d7
                  have cc8 := d8
                  have cc9 := d9
                  have zz0 := y0
                  have zz1 := y1
                  have zz2 := y2
                  have zz3 := y3
                  have zz4 := y4
                  have HXX := q0
                  have HZZ := q1
                  have HOW := q2
                  have HBL := q3
                  have BB := BB1
                  have sA := sA1
                  clear BB1 sA1 d0 d1 d2 d3 d4 d5 d6 d7 d8 d9 y0 y1 y2 y3 y4 q0 q1 q2 q3
                  clear bq
                  clear e0 e1 ze
                  have e0 : wq.cell? ⟨b, off + k * 2, none⟩ = some (.int .i64 m0) := (HROW.out _ BB _ _ HXk.out).1
                  have e1 : wq.cell? ⟨b, off + k * 2 + 1, none⟩ = some (.int .i64 m1) := (HROW.out _ BB _ _ HXk.out).2
                  have ze : b < wq.heap.size := by omega
                  go_wp2_with fail
                  refine wp_region_after (by kernel_rfl) (by kernel_rfl) ?_
                  intro hneq hac
                  repeat (go_big_quiet_step (first | fail))
                  refine wpQuiet_nil ?_
                  rintro _ ⟨p, rfl⟩
                  have bq : Below wq.heap.size wq p.w := p.bel
                  clear hac hneq
                  generalize p.w = wq2 at *
                  have d0 : wq2.cell? ⟨P0, 0, none⟩ = some (.int .i64 (zn : Int)) := (Below.celz bq _ _ _ (by omega)).trans cc0
                  have d1 : wq2.cell? ⟨P0, 1, none⟩ = some (.slice (some ⟨b, off, none⟩) m uc) := (Below.celz bq _ _ _ (by omega)).trans cc1
                  have d2 : wq2.cell? ⟨P1, 0, none⟩ = some (.int .i64 m0) := (Below.celz bq _ _ _ (by omega)).trans cc2
                  have d3 : wq2.cell? ⟨P1, 1, none⟩ = some (.int .i64 m1) := (Below.celz bq _ _ _ (by omega)).trans cc3
                  have d4 : wq2.cell? ⟨P2, 0, none⟩ = some (.int .i64 (zn : Int)) := (Below.celz bq _ _ _ (by omega)).trans cc4
                  have d5 : wq2.cell? ⟨P2, 1, none⟩ = some (.slice pa x1 pb) := (Below.celz bq _ _ _ (by omega)).trans cc5
                  have d6 : wq2.cell? ⟨P3, 0, none⟩ = some (.int .i64 (zn : Int)) := (Below.celz bq _ _ _ (by omega)).trans cc6
                  have d7 : wq2.cell? ⟨P3, 1, none⟩ = some (.slice qa x1 qb) := (Below.celz bq _ _ _ (by omega)).trans cc7
                  have d8 : wq2.cell? ⟨P4, 0, none⟩ = some (.int .i64 zn) := (Below.celz bq _ _ _ (by omega)).trans cc8
                  have d9 : wq2.cell? ⟨P4, 1, none⟩ = some (.slice ra x1 rb) := (Below.celz bq _ _ _ (by omega)).trans cc9
                  have y0 : P0 < wq2.heap.size := by have := Below.size bq; omega
                  have y1 : P1 < wq2.heap.size := by have := Below.size bq; omega
                  have y2 : P2 < wq2.heap.size := by have := Below.size bq; omega
                  have y3 : P3 < wq2.heap.size := by have := Below.size bq; omega
                  have y4 : P4 < wq2.heap.size := by have := Below.size bq; omega
                  have BB1 : Below A wa wq2 := BB.trans (bq.mono (by omega))
                  have sA1 : A ≤ wq2.heap.size := by have := Below.size bq; omega
                  have q0 : Hid (RowC wq2 (.slice pa x1 pb) X1) := HXX.out.keep bq
                  have q1 : Hid (RowAt 2 encPage wq2 (.slice ra x1 rb) X1) := HZZ.out.keep bq
                  have q2 : Hid (OwnPool wq2 wn.heap.size (.slice ta L tc) RJ) := HOW.out.keep bq
                  have q3 : Hid (OverB wn wq2) := HBL.out.keep bq
                  clear BB sA cc0 cc1 cc2 cc3 cc4 cc5 cc6 cc7 cc8 cc9 zz0 zz1 zz2 zz3 zz4 HXX HZZ HOW HBL
                  have cc0 := d0
                  have cc1 := d1
                  have cc2 := d2
                  have cc3 := d3
                  have cc4 := d4
                  have cc5 := d5
                  have cc6 := d6
                  have cc7 := d7
                  have cc8 := d8
                  have cc9 := d9
                  have zz0 := y0
                  have zz1 := y1
                  have zz2 := y2
                  have zz3 := y3
                  have zz4 := y4
                  have HXX := q0
                  have HZZ := q1
                  have HOW := q2
                  have HBL := q3
                  have BB := BB1
                  have sA := sA1
                  clear BB1 sA1 d0 d1 d2 d3 d4 d5 d6 d7 d8 d9 y0 y1 y2 y3 y4 q0 q1 q2 q3
                  clear bq
                  clear e0 e1 ze
                  have e0 : wq2.cell? ⟨b, off + k * 2, none⟩ = some (.int .i64 m0) := (HROW.out _ BB _ _ HXk.out).1
                  have e1 : wq2.cell? ⟨b, off + k * 2 + 1, none⟩ = some (.int .i64 m1) := (HROW.out _ BB _ _ HXk.out).2
                  have ze : b < wq2.heap.size := by omega
                  go_wp2_with fail
                  go_roundw
                  case rel => exact ⟨k + 1, by omega, by go_num, by rw [HS.out, HE.out]; rfl, HBL.out, by rw [HK.out, ← HRJ.out.1]; have := HOW.out; unfold OwnPool at this; exact this⟩
                  case measure => simp [intOf]; omega
                · have d0 : (m1 == pn) = false := beq_eq_false_iff_ne.2 e2
                  have d1 : decide (m1 = pn) = false := by simpa using e2
                  have HE : Hid (eqB (m0, m1) (m0, pn) = false) := by show _ = _; rw [eqB_false]; simp [e2]
                  have HNE : Hid ((m0, m1) ≠ (m0, pn)) := by show (m0, m1) ≠ (m0, pn); simp [e2]
                  clear e2
                  by_cases hl : L < zk
                  · have hli : (L : Int) < (zn : Int) - 1 := by have := HZK.out; omega
                    have HK : Hid (restJ xs (m0, pn) zk (k + 1) = restJ xs (m0, pn) zk k ++ [(m0, m1)]) := restJ_more HXk.out HNE.out (by rw [← HRJ.out.1, ← HRJ.out.2]; exact hl)
                    go_wp2_with fail
                    refine wp_region_after (by kernel_rfl) (by kernel_rfl) ?_
                    intro hneq hac
                    repeat (go_big_quiet_step (first | fail))
                    refine wpQuiet_nil ?_
                    rintro _ ⟨p, rfl⟩
                    have bq : Below wr.heap.size wr p.w := p.bel
                    clear hac hneq
                    generalize p.w = wq at *
                    have d0 : wq.cell? ⟨P0, 0, none⟩ = some (.int .i64 (zn : Int)) := (Below.celz bq _ _ _ (by omega)).trans cc0
                    have d1 : wq.cell? ⟨P0, 1, none⟩ = some (.slice (some ⟨b, off, none⟩) m uc) := (Below.celz bq _ _ _ (by omega)).trans cc1
                    have d2 : wq.cell? ⟨P1, 0, none⟩ = some (.int .i64 m0) := (Below.celz bq _ _ _ (by omega)).trans cc2
                    have d3 : wq.cell? ⟨P1, 1, none⟩ = some (.int .i64 pn) := (Below.celz bq _ _ _ (by omega)).trans cc3
                    have d4 : wq.cell? ⟨P2, 0, none⟩ = some (.int .i64 (zn : Int)) := (Below.celz bq _ _ _ (by omega)).trans cc4
                    have d5 : wq.cell? ⟨P2, 1, none⟩ = some (.slice pa x1 pb) := (Below.celz bq _ _ _ (by omega)).trans cc5
                    have d6 : wq.cell? ⟨P3, 0, none⟩ = some (.int .i64 (zn : Int)) := (Below.celz bq _ _ _ (by omega)).trans cc6
                    have d7 : wq.cell? ⟨P3, 1, none⟩ = some (.slice qa x1 qb) := (Below.celz bq _ _ _ (by omega)).trans cc7
                    have d8 : wq.cell? ⟨P4, 0, none⟩ = some (.int .i64 zn) := (Below.celz bq _ _ _ (by omega)).trans cc8
                    have d9 : wq.cell? ⟨P4, 1, none⟩ = some (.slice ra x1 rb) := (Below.celz bq _ _ _ (by omega)).trans cc9
                    have y0 : P0 < wq.heap.size := by have := Below.size bq; omega
                    have y1 : P1 < wq.heap.size := by have := Below.size bq; omega
                    have y2 : P2 < wq.heap.size := by have := Below.size bq; omega
                    have y3 : P3 < wq.heap.size := by have := Below.size bq; omega
                    have y4 : P4 < wq.heap.size := by have := Below.size bq; omega
                    have BB1 : Below A wa wq := BB.trans (bq.mono (by omega))
                    have sA1 : A ≤ wq.heap.size := by have := Below.size bq; omega
                    have q0 : Hid (RowC wq (.slice pa x1 pb) X1) := HXX.out.keep bq
                    have q1 : Hid (RowAt 2 encPage wq (.slice ra x1 rb) X1) := HZZ.out.keep bq
                    have q2 : Hid (OwnPool wq wn.heap.size (.slice ta L tc) RJ) := HOW.out.keep bq
                    have q3 : Hid (OverB wn wq) := HBL.out.keep bq
                    clear BB sA cc0 cc1 cc2 cc3 cc4 cc5 cc6 cc7 cc8 cc9 zz0 zz1 zz2 zz3 zz4 HXX HZZ HOW HBL
                    have cc0 := d0
                    have cc1 := d1
                    have cc2 := d2
                    have cc3 := d3
                    have cc4 := d4
                    have cc5 := d5
                    have cc6 := d6
                    have cc7 := d7
                    have cc8 := d8
                    have cc9 := d9
                    have zz0 := y0
                    have zz1 := y1
                    have zz2 := y2
                    have zz3 := y3
                    have zz4 := y4
                    have HXX := q0
                    have HZZ := q1
                    have HOW := q2
                    have HBL := q3
                    have BB := BB1
                    have sA := sA1
                    clear BB1 sA1 d0 d1 d2 d3 d4 d5 d6 d7 d8 d9 y0 y1 y2 y3 y4 q0 q1 q2 q3
                    clear bq
                    clear e0 e1 ze
                    have e0 : wq.cell? ⟨b, off + k * 2, none⟩ = some (.int .i64 m0) := (HROW.out _ BB _ _ HXk.out).1
                    have e1 : wq.cell? ⟨b, off + k * 2 + 1, none⟩ = some (.int .i64 m1) := (HROW.out _ BB _ _ HXk.out).2
                    have ze : b < wq.heap.size := by omega
                    go_wp2_with fail
                    refine wp_region_after (by kernel_rfl) (by kernel_rfl) ?_
                    intro hneq hac
                    repeat (go_big_quiet_step (first | fail))
                    refine wpQuiet_nil ?_
                    rintro _ ⟨p, rfl⟩
                    have bq : Below wq.heap.size wq p.w := p.bel
                    clear hac hneq
                    generalize p.w = wq2 at *
                    have d0 : wq2.cell? ⟨P0, 0, none⟩ = some (.int .i64 (zn : Int)) := (Below.celz bq _ _ _ (by omega)).trans cc0
                    have d1 : wq2.cell? ⟨P0, 1, none⟩ = some (.slice (some ⟨b, off, none⟩) m uc) := (Below.celz bq _ _ _ (by omega)).trans cc1
                    have d2 : wq2.cell? ⟨P1, 0, none⟩ = some (.int .i64 m0) := (Below.celz bq _ _ _ (by omega)).trans cc2
                    have d3 : wq2.cell? ⟨P1, 1, none⟩ = some (.int .i64 pn) := (Below.celz bq _ _ _ (by omega)).trans cc3
                    have d4 : wq2.cell? ⟨P2, 0, none⟩ = some (.int .i64 (zn : Int)) := (Below.celz bq _ _ _ (by omega)).trans cc4
                    have d5 : wq2.cell? ⟨P2, 1, none⟩ = some (.slice pa x1 pb) := (Below.celz bq _ _ _ (by omega)).trans cc5
                    have d6 : wq2.cell? ⟨P3, 0, none⟩ = some (.int .i64 (zn : Int)) := (Below.celz bq _ _ _ (by omega)).trans cc6
                    have d7 : wq2.cell? ⟨P3, 1, none⟩ = some (.slice qa x1 qb) := (Below.celz bq _ _ _ (by omega)).trans cc7
                    have d8 : wq2.cell? ⟨P4, 0, none⟩ = some (.int .i64 zn) := (Below.celz bq _ _ _ (by omega)).trans cc8
                    have d9 : wq2.cell? ⟨P4, 1, none⟩ = some (.slice ra x1 rb) := (Below.celz bq _ _ _ (by omega)).trans cc9
                    have y0 : P0 < wq2.heap.size := by have := Below.size bq; omega
                    have y1 : P1 < wq2.heap.size := by have := Below.size bq; omega
                    have y2 : P2 < wq2.heap.size := by have := Below.size bq; omega
                    have y3 : P3 < wq2.heap.size := by have := Below.size bq; omega
                    have y4 : P4 < wq2.heap.size := by have := Below.size bq; omega
                    have BB1 : Below A wa wq2 := BB.trans (bq.mono (by omega))
                    have sA1 : A ≤ wq2.heap.size := by have := Below.size bq; omega
                    have q0 : Hid (RowC wq2 (.slice pa x1 pb) X1) := HXX.out.keep bq
                    have q1 : Hid (RowAt 2 encPage wq2 (.slice ra x1 rb) X1) := HZZ.out.keep bq
                    have q2 : Hid (OwnPool wq2 wn.heap.size (.slice ta L tc) RJ) := HOW.out.keep bq
                    have q3 : Hid (OverB wn wq2) := HBL.out.keep bq
                    clear BB sA cc0 cc1 cc2 cc3 cc4 cc5 cc6 cc7 cc8 cc9 zz0 zz1 zz2 zz3 zz4 HXX HZZ HOW HBL
                    have cc0 := d0
                    have cc1 := d1
                    have cc2 := d2
                    have cc3 := d3
                    have cc4 := d4
                    have cc5 := d5
                    have cc6 := d6
                    have cc7 := d7
                    have cc8 := d8
                    have cc9 := d9
                    have zz0 := y0
                    have zz1 := y1
                    have zz2 := y2
                    have zz3 := y3
                    have zz4 := y4
                    have HXX := q0
                    have HZZ := q1
                    have HOW := q2
                    have HBL := q3
                    have BB := BB1
                    have sA := sA1
                    clear BB1 sA1 d0 d1 d2 d3 d4 d5 d6 d7 d8 d9 y0 y1 y2 y3 y4 q0 q1 q2 q3
                    clear bq
                    clear e0 e1 ze
                    have e0 : wq2.cell? ⟨b, off + k * 2, none⟩ = some (.int .i64 m0) := (HROW.out _ BB _ _ HXk.out).1
                    have e1 : wq2.cell? ⟨b, off + k * 2 + 1, none⟩ = some (.int .i64 m1) := (HROW.out _ BB _ _ HXk.out).2
                    have ze : b < wq2.heap.size := by omega
                    have hown : wq2.ownsRow wn.heap.size 27 2 (.slice ta L tc) L (RJ.flatMap encPage) := by have := HOW.out; unfold OwnPool at this; rw [← HRJ.out.2] at this; exact this
                    have LT : Hid (∀ g, (Value.slice ta L tc).ownBlock = some g → wn.heap.size ≤ g) := fun g hg => (hown.lt g hg).1
                    have swn : wn.heap.size ≤ wq2.heap.size := HBL.out.size
                    go_wp2_with (at_builtin; refine wpList_append_own _ rfl _ _ 23 rfl wn.heap.size 27 i0 _ 2 16 Tryd.underlying23 hi hz0 hz1 hzz2 rfl (by decide) _ _ _ rfl (hown.alloc _) ⟨wq2.heap.size, 0, none⟩ 1 1 [.int .i64 m0, .int .i64 m1] rfl rfl ?c1 ?c2 ?c3 ?c4 ?c5 ?_)
                    case c1 =>
                      intro i u hi
                      match i, hi with
                      | 0, hi => simp at hi; subst hi; simp [Addr.add]
                      | 1, hi => simp at hi; subst hi; simp [Addr.add]
                    case c2 => intro u hu; simp at hu; rcases hu with rfl | rfl <;> rfl
                    case c3 => unfold maxLen; omega
                    case c4 => omega
                    case c5 => simp; omega
                    intro v' w3 hown' hgrow _
                    have R : Hid (Below wn.heap.size wn w3 ∧ w3.ownsRow wn.heap.size 27 2 v' (restJ xs (m0, pn) zk (k + 1)).length ((restJ xs (m0, pn) zk (k + 1)).flatMap encPage)) := by
                      refine ⟨(Below.alloc HBL.out swn _).grown hgrow (by simp; omega) (fun g hg => LT.out g hg), ?_⟩
                      rw [HK.out, ← HRJ.out.1, List.length_append, ← HRJ.out.2, List.flatMap_append]
                      simpa [encPage] using hown'
                    clear hown' hgrow hown e0 e1
                    go_wp2_with fail
                    go_roundw
                    case rel => exact ⟨k + 1, by omega, by go_num, by rw [HS.out, HE.out]; rfl, R.out⟩
                    case measure => simp [intOf]; omega
                  · have hli : ¬ (L : Int) < (zn : Int) - 1 := by have := HZK.out; omega
                    have HK : Hid (restJ xs (m0, pn) zk (k + 1) = restJ xs (m0, pn) zk k) := restJ_full HXk.out (by rw [← HRJ.out.1, ← HRJ.out.2]; exact hl)
                    go_wp2_with fail
                    refine wp_region_after (by kernel_rfl) (by kernel_rfl) ?_
                    intro hneq hac
                    repeat (go_big_quiet_step (first | fail))
                    refine wpQuiet_nil ?_
                    rintro _ ⟨p, rfl⟩
                    have bq : Below wr.heap.size wr p.w := p.bel
                    clear hac hneq
                    generalize p.w = wq at *
                    have d0 : wq.cell? ⟨P0, 0, none⟩ = some (.int .i64 (zn : Int)) := (Below.celz bq _ _ _ (by omega)).trans cc0
                    have d1 : wq.cell? ⟨P0, 1, none⟩ = some (.slice (some ⟨b, off, none⟩) m uc) := (Below.celz bq _ _ _ (by omega)).trans cc1
                    have d2 : wq.cell? ⟨P1, 0, none⟩ = some (.int .i64 m0) := (Below.celz bq _ _ _ (by omega)).trans cc2
                    have d3 : wq.cell? ⟨P1, 1, none⟩ = some (.int .i64 pn) := (Below.celz bq _ _ _ (by omega)).trans cc3
                    have d4 : wq.cell? ⟨P2, 0, none⟩ = some (.int .i64 (zn : Int)) := (Below.celz bq _ _ _ (by omega)).trans cc4
                    have d5 : wq.cell? ⟨P2, 1, none⟩ = some (.slice pa x1 pb) := (Below.celz bq _ _ _ (by omega)).trans cc5
                    have d6 : wq.cell? ⟨P3, 0, none⟩ = some (.int .i64 (zn : Int)) := (Below.celz bq _ _ _ (by omega)).trans cc6
                    have d7 : wq.cell? ⟨P3, 1, none⟩ = some (.slice qa x1 qb) := (Below.celz bq _ _ _ (by omega)).trans cc7
                    have d8 : wq.cell? ⟨P4, 0, none⟩ = some (.int .i64 zn) := (Below.celz bq _ _ _ (by omega)).trans cc8
                    have d9 : wq.cell? ⟨P4, 1, none⟩ = some (.slice ra x1 rb) := (Below.celz bq _ _ _ (by omega)).trans cc9
                    have y0 : P0 < wq.heap.size := by have := Below.size bq; omega
                    have y1 : P1 < wq.heap.size := by have := Below.size bq; omega
                    have y2 : P2 < wq.heap.size := by have := Below.size bq; omega
                    have y3 : P3 < wq.heap.size := by have := Below.size bq; omega
                    have y4 : P4 < wq.heap.size := by have := Below.size bq; omega
                    have BB1 : Below A wa wq := BB.trans (bq.mono (by omega))
                    have sA1 : A ≤ wq.heap.size := by have := Below.size bq; omega
                    have q0 : Hid (RowC wq (.slice pa x1 pb) X1) := HXX.out.keep bq
                    have q1 : Hid (RowAt 2 encPage wq (.slice ra x1 rb) X1) := HZZ.out.keep bq
                    have q2 : Hid (OwnPool wq wn.heap.size (.slice ta L tc) RJ) := HOW.out.keep bq
                    have q3 : Hid (OverB wn wq) := HBL.out.keep bq
                    clear BB sA cc0 cc1 cc2 cc3 cc4 cc5 cc6 cc7 cc8 cc9 zz0 zz1 zz2 zz3 zz4 HXX HZZ HOW HBL
                    have cc0 := d0
                    have cc1 := d1
                    have cc2 := d2
                    have cc3 := d3
                    have cc4 := d4
                    have cc5 := d5
                    have cc6 := d6
                    have cc7 := d7
                    have cc8 := d8
                    have cc9 := d9
                    have zz0 := y0
                    have zz1 := y1
                    have zz2 := y2
                    have zz3 := y3
                    have zz4 := y4
                    have HXX := q0
                    have HZZ := q1
                    have HOW := q2
                    have HBL := q3
                    have BB := BB1
                    have sA := sA1
                    clear BB1 sA1 d0 d1 d2 d3 d4 d5 d6 d7 d8 d9 y0 y1 y2 y3 y4 q0 q1 q2 q3
                    clear bq
                    clear e0 e1 ze
                    have e0 : wq.cell? ⟨b, off + k * 2, none⟩ = some (.int .i64 m0) := (HROW.out _ BB _ _ HXk.out).1
                    have e1 : wq.cell? ⟨b, off + k * 2 + 1, none⟩ = some (.int .i64 m1) := (HROW.out _ BB _ _ HXk.out).2
                    have ze : b < wq.heap.size := by omega
                    go_wp2_with fail
                    refine wp_region_after (by kernel_rfl) (by kernel_rfl) ?_
                    intro hneq hac
                    repeat (go_big_quiet_step (first | fail))
                    refine wpQuiet_nil ?_
                    rintro _ ⟨p, rfl⟩
                    have bq : Below wq.heap.size wq p.w := p.bel
                    clear hac hneq
                    generalize p.w = wq2 at *
                    have d0 : wq2.cell? ⟨P0, 0, none⟩ = some (.int .i64 (zn : Int)) := (Below.celz bq _ _ _ (by omega)).trans cc0
                    have d1 : wq2.cell? ⟨P0, 1, none⟩ = some (.slice (some ⟨b, off, none⟩) m uc) := (Below.celz bq _ _ _ (by omega)).trans cc1
                    have d2 : wq2.cell? ⟨P1, 0, none⟩ = some (.int .i64 m0) := (Below.celz bq _ _ _ (by omega)).trans cc2
                    have d3 : wq2.cell? ⟨P1, 1, none⟩ = some (.int .i64 pn) := (Below.celz bq _ _ _ (by omega)).trans cc3
                    have d4 : wq2.cell? ⟨P2, 0, none⟩ = some (.int .i64 (zn : Int)) := (Below.celz bq _ _ _ (by omega)).trans cc4
                    have d5 : wq2.cell? ⟨P2, 1, none⟩ = some (.slice pa x1 pb) := (Below.celz bq _ _ _ (by omega)).trans cc5
                    have d6 : wq2.cell? ⟨P3, 0, none⟩ = some (.int .i64 (zn : Int)) := (Below.celz bq _ _ _ (by omega)).trans cc6
                    have d7 : wq2.cell? ⟨P3, 1, none⟩ = some (.slice qa x1 qb) := (Below.celz bq _ _ _ (by omega)).trans cc7
                    have d8 : wq2.cell? ⟨P4, 0, none⟩ = some (.int .i64 zn) := (Below.celz bq _ _ _ (by omega)).trans cc8
                    have d9 : wq2.cell? ⟨P4, 1, none⟩ = some (.slice ra x1 rb) := (Below.celz bq _ _ _ (by omega)).trans cc9
                    have y0 : P0 < wq2.heap.size := by have := Below.size bq; omega
                    have y1 : P1 < wq2.heap.size := by have := Below.size bq; omega
                    have y2 : P2 < wq2.heap.size := by have := Below.size bq; omega
                    have y3 : P3 < wq2.heap.size := by have := Below.size bq; omega
                    have y4 : P4 < wq2.heap.size := by have := Below.size bq; omega
                    have BB1 : Below A wa wq2 := BB.trans (bq.mono (by omega))
                    have sA1 : A ≤ wq2.heap.size := by have := Below.size bq; omega
                    have q0 : Hid (RowC wq2 (.slice pa x1 pb) X1) := HXX.out.keep bq
                    have q1 : Hid (RowAt 2 encPage wq2 (.slice ra x1 rb) X1) := HZZ.out.keep bq
                    have q2 : Hid (OwnPool wq2 wn.heap.size (.slice ta L tc) RJ) := HOW.out.keep bq
                    have q3 : Hid (OverB wn wq2) := HBL.out.keep bq
                    clear BB sA cc0 cc1 cc2 cc3 cc4 cc5 cc6 cc7 cc8 cc9 zz0 zz1 zz2 zz3 zz4 HXX HZZ HOW HBL
                    have cc0 := d0
                    have cc1 := d1
                    have cc2 := d2
                    have cc3 := d3
                    have cc4 := d4
                    have cc5 := d5
                    have cc6 := d6
                    have cc7 := d7
                    have cc8 := d8
                    have cc9 := d9
                    have zz0 := y0
                    have zz1 := y1
                    have zz2 := y2
                    have zz3 := y3
                    have zz4 := y4
                    have HXX := q0
                    have HZZ := q1
                    have HOW := q2
                    have HBL := q3
                    have BB := BB1
                    have sA := sA1
                    clear BB1 sA1 d0 d1 d2 d3 d4 d5 d6 d7 d8 d9 y0 y1 y2 y3 y4 q0 q1 q2 q3
                    clear bq
                    clear e0 e1 ze
                    have e0 : wq2.cell? ⟨b, off + k * 2, none⟩ = some (.int .i64 m0) := (HROW.out _ BB _ _ HXk.out).1
                    have e1 : wq2.cell? ⟨b, off + k * 2 + 1, none⟩ = some (.int .i64 m1) := (HROW.out _ BB _ _ HXk.out).2
                    have ze : b < wq2.heap.size := by omega
                    go_wp2_with fail
                    go_roundw
                    case rel => exact ⟨k + 1, by omega, by go_num, by rw [HS.out, HE.out]; rfl, HBL.out, by rw [HK.out, ← HRJ.out.1]; have := HOW.out; unfold OwnPool at this; exact this⟩
                    case measure => simp [intOf]; omega
              · have d0 : (m0 == pl) = false := beq_eq_false_iff_ne.2 e
                have d1 : decide (m0 = pl) = false := by simpa using e
                have HE : Hid (eqB (m0, m1) (pl, pn) = false) := by show _ = _; rw [eqB_false]; simp [e]
                have HNE : Hid ((m0, m1) ≠ (pl, pn)) := by show (m0, m1) ≠ (pl, pn); simp [e]
                clear e
                by_cases hl : L < zk
                · have hli : (L : Int) < (zn : Int) - 1 := by have := HZK.out; omega
                  have HK : Hid (restJ xs (pl, pn) zk (k + 1) = restJ xs (pl, pn) zk k ++ [(m0, m1)]) := restJ_more HXk.out HNE.out (by rw [← HRJ.out.1, ← HRJ.out.2]; exact hl)
                  go_wp2_with fail
                  refine wp_region_after (by kernel_rfl) (by kernel_rfl) ?_
                  intro hneq hac
                  repeat (go_big_quiet_step (first | fail))
                  refine wpQuiet_nil ?_
                  rintro _ ⟨p, rfl⟩
                  have bq : Below wr.heap.size wr p.w := p.bel
                  clear hac hneq
                  generalize p.w = wq at *
                  have d0 : wq.cell? ⟨P0, 0, none⟩ = some (.int .i64 (zn : Int)) := (Below.celz bq _ _ _ (by omega)).trans cc0
                  have d1 : wq.cell? ⟨P0, 1, none⟩ = some (.slice (some ⟨b, off, none⟩) m uc) := (Below.celz bq _ _ _ (by omega)).trans cc1
                  have d2 : wq.cell? ⟨P1, 0, none⟩ = some (.int .i64 pl) := (Below.celz bq _ _ _ (by omega)).trans cc2
                  have d3 : wq.cell? ⟨P1, 1, none⟩ = some (.int .i64 pn) := (Below.celz bq _ _ _ (by omega)).trans cc3
                  have d4 : wq.cell? ⟨P2, 0, none⟩ = some (.int .i64 (zn : Int)) := (Below.celz bq _ _ _ (by omega)).trans cc4
                  have d5 : wq.cell? ⟨P2, 1, none⟩ = some (.slice pa x1 pb) := (Below.celz bq _ _ _ (by omega)).trans cc5
                  have d6 : wq.cell? ⟨P3, 0, none⟩ = some (.int .i64 (zn : Int)) := (Below.celz bq _ _ _ (by omega)).trans cc6
                  have d7 : wq.cell? ⟨P3, 1, none⟩ = some (.slice qa x1 qb) := (Below.celz bq _ _ _ (by omega)).trans cc7
                  have d8 : wq.cell? ⟨P4, 0, none⟩ = some (.int .i64 zn) := (Below.celz bq _ _ _ (by omega)).trans cc8
                  have d9 : wq.cell? ⟨P4, 1, none⟩ = some (.slice ra x1 rb) := (Below.celz bq _ _ _ (by omega)).trans cc9
                  have y0 : P0 < wq.heap.size := by have := Below.size bq; omega
                  have y1 : P1 < wq.heap.size := by have := Below.size bq; omega
                  have y2 : P2 < wq.heap.size := by have := Below.size bq; omega
                  have y3 : P3 < wq.heap.size := by have := Below.size bq; omega
                  have y4 : P4 < wq.heap.size := by have := Below.size bq; omega
                  have BB1 : Below A wa wq := BB.trans (bq.mono (by omega))
                  have sA1 : A ≤ wq.heap.size := by have := Below.size bq; omega
                  have q0 : Hid (RowC wq (.slice pa x1 pb) X1) := HXX.out.keep bq
                  have q1 : Hid (RowAt 2 encPage wq (.slice ra x1 rb) X1) := HZZ.out.keep bq
                  have q2 : Hid (OwnPool wq wn.heap.size (.slice ta L tc) RJ) := HOW.out.keep bq
                  have q3 : Hid (OverB wn wq) := HBL.out.keep bq
                  clear BB sA cc0 cc1 cc2 cc3 cc4 cc5 cc6 cc7 cc8 cc9 zz0 zz1 zz2 zz3 zz4 HXX HZZ HOW HBL
                  have cc0 := d0
                  have cc1 := d1
                  have cc2 := d2
                  have cc3 := d3
                  have cc4 := d4
                  have cc5 := d5
                  have cc6 := d6
                  have cc7 := d7
                  have cc8 := d8
                  have cc9 := d9
                  have zz0 := y0
                  have zz1 := y1
                  have zz2 := y2
                  have zz3 := y3
                  have zz4 := y4
                  have HXX := q0
                  have HZZ := q1
                  have HOW := q2
                  have HBL := q3
                  have BB := BB1
                  have sA := sA1
                  clear BB1 sA1 d0 d1 d2 d3 d4 d5 d6 d7 d8 d9 y0 y1 y2 y3 y4 q0 q1 q2 q3
                  clear bq
                  clear e0 e1 ze
                  have e0 : wq.cell? ⟨b, off + k * 2, none⟩ = some (.int .i64 m0) := (HROW.out _ BB _ _ HXk.out).1
                  have e1 : wq.cell? ⟨b, off + k * 2 + 1, none⟩ = some (.int .i64 m1) := (HROW.out _ BB _ _ HXk.out).2
                  have ze : b < wq.heap.size := by omega
                  go_wp2_with fail
                  refine wp_region_after (by kernel_rfl) (by kernel_rfl) ?_
                  intro hneq hac
                  repeat (go_big_quiet_step (first | fail))
                  refine wpQuiet_nil ?_
                  rintro _ ⟨p, rfl⟩
                  have bq : Below wq.heap.size wq p.w := p.bel
                  clear hac hneq
                  generalize p.w = wq2 at *
                  have d0 : wq2.cell? ⟨P0, 0, none⟩ = some (.int .i64 (zn : Int)) := (Below.celz bq _ _ _ (by omega)).trans cc0
                  have d1 : wq2.cell? ⟨P0, 1, none⟩ = some (.slice (some ⟨b, off, none⟩) m uc) := (Below.celz bq _ _ _ (by omega)).trans cc1
                  have d2 : wq2.cell? ⟨P1, 0, none⟩ = some (.int .i64 pl) := (Below.celz bq _ _ _ (by omega)).trans cc2
                  have d3 : wq2.cell? ⟨P1, 1, none⟩ = some (.int .i64 pn) := (Below.celz bq _ _ _ (by omega)).trans cc3
                  have d4 : wq2.cell? ⟨P2, 0, none⟩ = some (.int .i64 (zn : Int)) := (Below.celz bq _ _ _ (by omega)).trans cc4
                  have d5 : wq2.cell? ⟨P2, 1, none⟩ = some (.slice pa x1 pb) := (Below.celz bq _ _ _ (by omega)).trans cc5
                  have d6 : wq2.cell? ⟨P3, 0, none⟩ = some (.int .i64 (zn : Int)) := (Below.celz bq _ _ _ (by omega)).trans cc6
                  have d7 : wq2.cell? ⟨P3, 1, none⟩ = some (.slice qa x1 qb) := (Below.celz bq _ _ _ (by omega)).trans cc7
                  have d8 : wq2.cell? ⟨P4, 0, none⟩ = some (.int .i64 zn) := (Below.celz bq _ _ _ (by omega)).trans cc8
                  have d9 : wq2.cell? ⟨P4, 1, none⟩ = some (.slice ra x1 rb) := (Below.celz bq _ _ _ (by omega)).trans cc9
                  have y0 : P0 < wq2.heap.size := by have := Below.size bq; omega
                  have y1 : P1 < wq2.heap.size := by have := Below.size bq; omega
                  have y2 : P2 < wq2.heap.size := by have := Below.size bq; omega
                  have y3 : P3 < wq2.heap.size := by have := Below.size bq; omega
                  have y4 : P4 < wq2.heap.size := by have := Below.size bq; omega
                  have BB1 : Below A wa wq2 := BB.trans (bq.mono (by omega))
                  have sA1 : A ≤ wq2.heap.size := by have := Below.size bq; omega
                  have q0 : Hid (RowC wq2 (.slice pa x1 pb) X1) := HXX.out.keep bq
                  have q1 : Hid (RowAt 2 encPage wq2 (.slice ra x1 rb) X1) := HZZ.out.keep bq
                  have q2 : Hid (OwnPool wq2 wn.heap.size (.slice ta L tc) RJ) := HOW.out.keep bq
                  have q3 : Hid (OverB wn wq2) := HBL.out.keep bq
                  clear BB sA cc0 cc1 cc2 cc3 cc4 cc5 cc6 cc7 cc8 cc9 zz0 zz1 zz2 zz3 zz4 HXX HZZ HOW HBL
                  have cc0 := d0
                  have cc1 := d1
                  have cc2 := d2
                  have cc3 := d3
                  have cc4 := d4
                  have cc5 := d5
                  have cc6 := d6
                  have cc7 := d7
                  have cc8 := d8
                  have cc9 := d9
                  have zz0 := y0
                  have zz1 := y1
                  have zz2 := y2
                  have zz3 := y3
                  have zz4 := y4
                  have HXX := q0
                  have HZZ := q1
                  have HOW := q2
                  have HBL := q3
                  have BB := BB1
                  have sA := sA1
                  clear BB1 sA1 d0 d1 d2 d3 d4 d5 d6 d7 d8 d9 y0 y1 y2 y3 y4 q0 q1 q2 q3
                  clear bq
                  clear e0 e1 ze
                  have e0 : wq2.cell? ⟨b, off + k * 2, none⟩ = some (.int .i64 m0) := (HROW.out _ BB _ _ HXk.out).1
                  have e1 : wq2.cell? ⟨b, off + k * 2 + 1, none⟩ = some (.int .i64 m1) := (HROW.out _ BB _ _ HXk.out).2
                  have ze : b < wq2.heap.size := by omega
                  have hown : wq2.ownsRow wn.heap.size 27 2 (.slice ta L tc) L (RJ.flatMap encPage) := by have := HOW.out; unfold OwnPool at this; rw [← HRJ.out.2] at this; exact this
                  have LT : Hid (∀ g, (Value.slice ta L tc).ownBlock = some g → wn.heap.size ≤ g) := fun g hg => (hown.lt g hg).1
                  have swn : wn.heap.size ≤ wq2.heap.size := HBL.out.size
                  go_wp2_with (at_builtin; refine wpList_append_own _ rfl _ _ 23 rfl wn.heap.size 27 i0 _ 2 16 Tryd.underlying23 hi hz0 hz1 hzz2 rfl (by decide) _ _ _ rfl (hown.alloc _) ⟨wq2.heap.size, 0, none⟩ 1 1 [.int .i64 m0, .int .i64 m1] rfl rfl ?c1 ?c2 ?c3 ?c4 ?c5 ?_)
                  case c1 =>
                    intro i u hi
                    match i, hi with
                    | 0, hi => simp at hi; subst hi; simp [Addr.add]
                    | 1, hi => simp at hi; subst hi; simp [Addr.add]
                  case c2 => intro u hu; simp at hu; rcases hu with rfl | rfl <;> rfl
                  case c3 => unfold maxLen; omega
                  case c4 => omega
                  case c5 => simp; omega
                  intro v' w3 hown' hgrow _
                  have R : Hid (Below wn.heap.size wn w3 ∧ w3.ownsRow wn.heap.size 27 2 v' (restJ xs (pl, pn) zk (k + 1)).length ((restJ xs (pl, pn) zk (k + 1)).flatMap encPage)) := by
                    refine ⟨(Below.alloc HBL.out swn _).grown hgrow (by simp; omega) (fun g hg => LT.out g hg), ?_⟩
                    rw [HK.out, ← HRJ.out.1, List.length_append, ← HRJ.out.2, List.flatMap_append]
                    simpa [encPage] using hown'
                  clear hown' hgrow hown e0 e1
                  go_wp2_with fail
                  go_roundw
                  case rel => exact ⟨k + 1, by omega, by go_num, by rw [HS.out, HE.out]; rfl, R.out⟩
                  case measure => simp [intOf]; omega
                · have hli : ¬ (L : Int) < (zn : Int) - 1 := by have := HZK.out; omega
                  have HK : Hid (restJ xs (pl, pn) zk (k + 1) = restJ xs (pl, pn) zk k) := restJ_full HXk.out (by rw [← HRJ.out.1, ← HRJ.out.2]; exact hl)
                  go_wp2_with fail
                  refine wp_region_after (by kernel_rfl) (by kernel_rfl) ?_
                  intro hneq hac
                  repeat (go_big_quiet_step (first | fail))
                  refine wpQuiet_nil ?_
                  rintro _ ⟨p, rfl⟩
                  have bq : Below wr.heap.size wr p.w := p.bel
                  clear hac hneq
                  generalize p.w = wq at *
                  have d0 : wq.cell? ⟨P0, 0, none⟩ = some (.int .i64 (zn : Int)) := (Below.celz bq _ _ _ (by omega)).trans cc0
                  have d1 : wq.cell? ⟨P0, 1, none⟩ = some (.slice (some ⟨b, off, none⟩) m uc) := (Below.celz bq _ _ _ (by omega)).trans cc1
                  have d2 : wq.cell? ⟨P1, 0, none⟩ = some (.int .i64 pl) := (Below.celz bq _ _ _ (by omega)).trans cc2
                  have d3 : wq.cell? ⟨P1, 1, none⟩ = some (.int .i64 pn) := (Below.celz bq _ _ _ (by omega)).trans cc3
                  have d4 : wq.cell? ⟨P2, 0, none⟩ = some (.int .i64 (zn : Int)) := (Below.celz bq _ _ _ (by omega)).trans cc4
                  have d5 : wq.cell? ⟨P2, 1, none⟩ = some (.slice pa x1 pb) := (Below.celz bq _ _ _ (by omega)).trans cc5
                  have d6 : wq.cell? ⟨P3, 0, none⟩ = some (.int .i64 (zn : Int)) := (Below.celz bq _ _ _ (by omega)).trans cc6
                  have d7 : wq.cell? ⟨P3, 1, none⟩ = some (.slice qa x1 qb) := (Below.celz bq _ _ _ (by omega)).trans cc7
                  have d8 : wq.cell? ⟨P4, 0, none⟩ = some (.int .i64 zn) := (Below.celz bq _ _ _ (by omega)).trans cc8
                  have d9 : wq.cell? ⟨P4, 1, none⟩ = some (.slice ra x1 rb) := (Below.celz bq _ _ _ (by omega)).trans cc9
                  have y0 : P0 < wq.heap.size := by have := Below.size bq; omega
                  have y1 : P1 < wq.heap.size := by have := Below.size bq; omega
                  have y2 : P2 < wq.heap.size := by have := Below.size bq; omega
                  have y3 : P3 < wq.heap.size := by have := Below.size bq; omega
                  have y4 : P4 < wq.heap.size := by have := Below.size bq; omega
                  have BB1 : Below A wa wq := BB.trans (bq.mono (by omega))
                  have sA1 : A ≤ wq.heap.size := by have := Below.size bq; omega
                  have q0 : Hid (RowC wq (.slice pa x1 pb) X1) := HXX.out.keep bq
                  have q1 : Hid (RowAt 2 encPage wq (.slice ra x1 rb) X1) := HZZ.out.keep bq
                  have q2 : Hid (OwnPool wq wn.heap.size (.slice ta L tc) RJ) := HOW.out.keep bq
                  have q3 : Hid (OverB wn wq) := HBL.out.keep bq
                  clear BB sA cc0 cc1 cc2 cc3 cc4 cc5 cc6 cc7 cc8 cc9 zz0 zz1 zz2 zz3 zz4 HXX HZZ HOW HBL
                  have cc0 := d0
                  have cc1 := d1
                  have cc2 := d2
                  have cc3 := d3
                  have cc4 := d4
                  have cc5 := d5
                  have cc6 := d6
                  have cc7 := d7
                  have cc8 := d8
                  have cc9 := d9
                  have zz0 := y0
                  have zz1 := y1
                  have zz2 := y2
                  have zz3 := y3
                  have zz4 := y4
                  have HXX := q0
                  have HZZ := q1
                  have HOW := q2
                  have HBL := q3
                  have BB := BB1
                  have sA := sA1
                  clear BB1 sA1 d0 d1 d2 d3 d4 d5 d6 d7 d8 d9 y0 y1 y2 y3 y4 q0 q1 q2 q3
                  clear bq
                  clear e0 e1 ze
                  have e0 : wq.cell? ⟨b, off + k * 2, none⟩ = some (.int .i64 m0) := (HROW.out _ BB _ _ HXk.out).1
                  have e1 : wq.cell? ⟨b, off + k * 2 + 1, none⟩ = some (.int .i64 m1) := (HROW.out _ BB _ _ HXk.out).2
                  have ze : b < wq.heap.size := by omega
                  go_wp2_with fail
                  refine wp_region_after (by kernel_rfl) (by kernel_rfl) ?_
                  intro hneq hac
                  repeat (go_big_quiet_step (first | fail))
                  refine wpQuiet_nil ?_
                  rintro _ ⟨p, rfl⟩
                  have bq : Below wq.heap.size wq p.w := p.bel
                  clear hac hneq
                  generalize p.w = wq2 at *
                  have d0 : wq2.cell? ⟨P0, 0, none⟩ = some (.int .i64 (zn : Int)) := (Below.celz bq _ _ _ (by omega)).trans cc0
                  have d1 : wq2.cell? ⟨P0, 1, none⟩ = some (.slice (some ⟨b, off, none⟩) m uc) := (Below.celz bq _ _ _ (by omega)).trans cc1
                  have d2 : wq2.cell? ⟨P1, 0, none⟩ = some (.int .i64 pl) := (Below.celz bq _ _ _ (by omega)).trans cc2
                  have d3 : wq2.cell? ⟨P1, 1, none⟩ = some (.int .i64 pn) := (Below.celz bq _ _ _ (by omega)).trans cc3
                  have d4 : wq2.cell? ⟨P2, 0, none⟩ = some (.int .i64 (zn : Int)) := (Below.celz bq _ _ _ (by omega)).trans cc4
                  have d5 : wq2.cell? ⟨P2, 1, none⟩ = some (.slice pa x1 pb) := (Below.celz bq _ _ _ (by omega)).trans cc5
                  have d6 : wq2.cell? ⟨P3, 0, none⟩ = some (.int .i64 (zn : Int)) := (Below.celz bq _ _ _ (by omega)).trans cc6
                  have d7 : wq2.cell? ⟨P3, 1, none⟩ = some (.slice qa x1 qb) := (Below.celz bq _ _ _ (by omega)).trans cc7
                  have d8 : wq2.cell? ⟨P4, 0, none⟩ = some (.int .i64 zn) := (Below.celz bq _ _ _ (by omega)).trans cc8
                  have d9 : wq2.cell? ⟨P4, 1, none⟩ = some (.slice ra x1 rb) := (Below.celz bq _ _ _ (by omega)).trans cc9
                  have y0 : P0 < wq2.heap.size := by have := Below.size bq; omega
                  have y1 : P1 < wq2.heap.size := by have := Below.size bq; omega
                  have y2 : P2 < wq2.heap.size := by have := Below.size bq; omega
                  have y3 : P3 < wq2.heap.size := by have := Below.size bq; omega
                  have y4 : P4 < wq2.heap.size := by have := Below.size bq; omega
                  have BB1 : Below A wa wq2 := BB.trans (bq.mono (by omega))
                  have sA1 : A ≤ wq2.heap.size := by have := Below.size bq; omega
                  have q0 : Hid (RowC wq2 (.slice pa x1 pb) X1) := HXX.out.keep bq
                  have q1 : Hid (RowAt 2 encPage wq2 (.slice ra x1 rb) X1) := HZZ.out.keep bq
                  have q2 : Hid (OwnPool wq2 wn.heap.size (.slice ta L tc) RJ) := HOW.out.keep bq
                  have q3 : Hid (OverB wn wq2) := HBL.out.keep bq
                  clear BB sA cc0 cc1 cc2 cc3 cc4 cc5 cc6 cc7 cc8 cc9 zz0 zz1 zz2 zz3 zz4 HXX HZZ HOW HBL
                  have cc0 := d0
                  have cc1 := d1
                  have cc2 := d2
                  have cc3 := d3
                  have cc4 := d4
                  have cc5 := d5
                  have cc6 := d6
                  have cc7 := d7
                  have cc8 := d8
                  have cc9 := d9
                  have zz0 := y0
                  have zz1 := y1
                  have zz2 := y2
                  have zz3 := y3
                  have zz4 := y4
                  have HXX := q0
                  have HZZ := q1
                  have HOW := q2
                  have HBL := q3
                  have BB := BB1
                  have sA := sA1
                  clear BB1 sA1 d0 d1 d2 d3 d4 d5 d6 d7 d8 d9 y0 y1 y2 y3 y4 q0 q1 q2 q3
                  clear bq
                  clear e0 e1 ze
                  have e0 : wq2.cell? ⟨b, off + k * 2, none⟩ = some (.int .i64 m0) := (HROW.out _ BB _ _ HXk.out).1
                  have e1 : wq2.cell? ⟨b, off + k * 2 + 1, none⟩ = some (.int .i64 m1) := (HROW.out _ BB _ _ HXk.out).2
                  have ze : b < wq2.heap.size := by omega
                  go_wp2_with fail
                  go_roundw
                  case rel => exact ⟨k + 1, by omega, by go_num, by rw [HS.out, HE.out]; rfl, HBL.out, by rw [HK.out, ← HRJ.out.1]; have := HOW.out; unfold OwnPool at this; exact this⟩
                  case measure => simp [intOf]; omega
          · have hkm : m = k := by omega
            subst hkm
            obtain rfl : H1 = h := by rw [HP.out.2.2.2.2.2, HH.out, HM.out, hasK_all]
            have hcons : X1 = (pl, pn) :: RJ := by rw [HRJ.out.1]; exact HQ.out.1
            have hx1L : x1 = L + 1 := by rw [HL1.out, hcons, List.length_cons, HRJ.out.2]
            rcases HXX.out.1 with ⟨hz0', _⟩ | ⟨_, b2, off2, cap2, hv, hb2, hc⟩
            · exfalso; rw [hcons] at hz0'; cases hz0'
            rw [← HL1.out] at hv
            simp only [Value.slice.injEq] at hv
            obtain ⟨rfl, -, hcc⟩ := hv
            subst hcc
            have e0 : wr.cell? ⟨b2, off2, none⟩ = some (.int .i64 pl) := by have := hc 0 (pl, pn) (by rw [hcons]; rfl) 0 _ rfl; simpa using this
            have e1 : wr.cell? ⟨b2, off2 + 1, none⟩ = some (.int .i64 pn) := by have := hc 0 (pl, pn) (by rw [hcons]; rfl) 1 _ rfl; simpa using this
            have x1p : (0 : Int) < (x1 : Int) := by omega
            have x1c : (1 : Int) ≤ (x1 : Int) := by omega
            have x1d : x1 ≤ pb := by obtain ⟨a', c', h1, h2⟩ := HXX.out.2; simp only [Value.slice.injEq] at h1; have := HL1.out; omega
            have x1e : (x1 : Int) ≤ (pb : Int) := by omega
            have H1b : (H1 == H1) = true := by cases H1 <;> rfl
            have HDR : Hid (∀ (p : After wr), RowAt 2 encPage p.w (.slice (if pb = 1 then some ⟨b2, off2, none⟩ else some ⟨b2, off2 + 2, none⟩) (x1 - 1) (pb - 1)) RJ ∧ RowAt 2 encPage p.w (.slice ta L tc) RJ ∧ RowAt 2 encPage p.w (.slice (some ⟨b2, off2, none⟩) x1 pb) X1 ∧ RowAt 2 encPage p.w (.slice ra x1 rb) X1 ∧ FormAt p.w) := fun p => by
              refine ⟨?_, (HOW.out.keep p.bel).row, HXX.out.1.keep p.bel, HZZ.out.keep p.bel, (HV.out _ (BB.trans (p.bel.mono sA))).2.1⟩
              split
              · refine .inl ⟨List.length_eq_zero_iff.1 (by rw [← HRJ.out.2]; omega), some ⟨b2, off2, none⟩, pb - 1, ?_⟩
                have : x1 - 1 = 0 := by omega
                rw [this]
              · have h1 := row_drop (HXX.out.1.keep p.bel) HL1.out 1 (pb - 1)
                have h2 : X1.drop 1 = RJ := by rw [hcons]; rfl
                rw [h2] at h1
                exact h1
            have HLE : Hid (RJ.length ≤ 1048576 ∧ X1.length ≤ 1048576) := ⟨by rw [← HRJ.out.2]; omega, by rw [← HL1.out]; omega⟩
            clear hc hcons hx1L
            go_wp2_with fail
            refine wp_region_after (by kernel_rfl) (by kernel_rfl) ?_
            intro hneq hac
            repeat (go_big_quiet_step (first | (go_at_call 13; exact after_at (x := poolB zn X1) (y := true) HQ.out.2.1 (impl_PoolOk _ _ X1 _ (HDR.out _).2.2.1 HLE.out.2 (HDR.out _).2.2.2.2)) | (go_at_call 16; exact after_of (wpPages_same _ _ RJ _ (HDR.out _).1 (HDR.out _).2.1 HLE.out.1)) | (go_at_call 12; exact after_of (impl_PoolSame_same _ _ _ X1 _ (HDR.out _).2.2.2.1 (HDR.out _).2.2.1 HLE.out.2))))
            refine wpQuiet_nil ?_
            rintro _ ⟨p, rfl⟩
            have bq : Below wr.heap.size wr p.w := p.bel
            clear hac hneq
            generalize p.w = wz at *
            have d0 : wz.cell? ⟨P0, 0, none⟩ = some (.int .i64 (zn : Int)) := (Below.celz bq _ _ _ (by omega)).trans cc0
            have d1 : wz.cell? ⟨P0, 1, none⟩ = some (.slice ua m uc) := (Below.celz bq _ _ _ (by omega)).trans cc1
            have d2 : wz.cell? ⟨P1, 0, none⟩ = some (.int .i64 pl) := (Below.celz bq _ _ _ (by omega)).trans cc2
            have d3 : wz.cell? ⟨P1, 1, none⟩ = some (.int .i64 pn) := (Below.celz bq _ _ _ (by omega)).trans cc3
            have d4 : wz.cell? ⟨P2, 0, none⟩ = some (.int .i64 (zn : Int)) := (Below.celz bq _ _ _ (by omega)).trans cc4
            have d5 : wz.cell? ⟨P2, 1, none⟩ = some (.slice (some ⟨b2, off2, none⟩) x1 pb) := (Below.celz bq _ _ _ (by omega)).trans cc5
            have d6 : wz.cell? ⟨P3, 0, none⟩ = some (.int .i64 (zn : Int)) := (Below.celz bq _ _ _ (by omega)).trans cc6
            have d7 : wz.cell? ⟨P3, 1, none⟩ = some (.slice qa x1 qb) := (Below.celz bq _ _ _ (by omega)).trans cc7
            have d8 : wz.cell? ⟨P4, 0, none⟩ = some (.int .i64 zn) := (Below.celz bq _ _ _ (by omega)).trans cc8
            have d9 : wz.cell? ⟨P4, 1, none⟩ = some (.slice ra x1 rb) := (Below.celz bq _ _ _ (by omega)).trans cc9
            have y0 : P0 < wz.heap.size := by have := Below.size bq; omega
            have y1 : P1 < wz.heap.size := by have := Below.size bq; omega
            have y2 : P2 < wz.heap.size := by have := Below.size bq; omega
            have y3 : P3 < wz.heap.size := by have := Below.size bq; omega
            have y4 : P4 < wz.heap.size := by have := Below.size bq; omega
            have BB1 : Below A wa wz := BB.trans (bq.mono (by omega))
            have sA1 : A ≤ wz.heap.size := by have := Below.size bq; omega
            have q0 : Hid (RowC wz (.slice (some ⟨b2, off2, none⟩) x1 pb) X1) := HXX.out.keep bq
            have q1 : Hid (RowAt 2 encPage wz (.slice ra x1 rb) X1) := HZZ.out.keep bq
            have q2 : Hid (OwnPool wz wn.heap.size (.slice ta L tc) RJ) := HOW.out.keep bq
            have q3 : Hid (OverB wn wz) := HBL.out.keep bq
            clear BB sA cc0 cc1 cc2 cc3 cc4 cc5 cc6 cc7 cc8 cc9 zz0 zz1 zz2 zz3 zz4 HXX HZZ HOW HBL
            have cc0 := d0
            have cc1 := d1
            have cc2 := d2
            have cc3 := d3
            have cc4 := d4
            have cc5 := d5
            have cc6 := d6
            have cc7 := d7
            have cc8 := d8
            have cc9 := d9
            have zz0 := y0
            have zz1 := y1
            have zz2 := y2
            have zz3 := y3
            have zz4 := y4
            have HXX := q0
            have HZZ := q1
            have HOW := q2
            have HBL := q3
            have BB := BB1
            have sA := sA1
            clear BB1 sA1 d0 d1 d2 d3 d4 d5 d6 d7 d8 d9 y0 y1 y2 y3 y4 q0 q1 q2 q3
            clear bq
            go_wp2_with fail
            all_goals (
              go_ret
              exact ⟨rfl, (HV.out _ BB).2.2⟩)

theorem door_met (os : Os) (args : Array Value) : laidMetH Tryd.prog Rows.fnPoolUseRow.laid ((World.doorLaid Tryd.prog 28 os).forCall (fun _ _ => 0) ⟨#[], args, []⟩).memory :=
  laidMetH_of_parts3 (fuel := 8) (laidMet_of_run' 8 (by kernel_rfl) (by kernel_rfl)) (by kernel_rfl) (by kernel_rfl)

set_option maxRecDepth 100000 in
set_option maxHeartbeats 1000000 in
theorem lifted (os : Os) (started : os.Started) (H : Type) (enc : TypeId × Value → H) :
    ReturnsInHanded {} Tryd.checked os 3 .any (fun w args => (Rows.fnPoolUseSpec.pre enc Tryd.prog Tryd.f3 [] false w args ∧ laidMetH Tryd.prog Rows.fnPoolUseRow.laid w) ∧ sizedMet enc Tryd.prog Tryd.f3 (OpenSpec.ofChange Rows.fnPoolUseSpec) false w args)
      (Rows.fnPoolUseSpec.post enc Tryd.prog Tryd.f3 false true false false) := by
  refine returnsInHanded_of_change_and (C := Tryd.checked) (X := fun w _ => laidMetH Tryd.prog Rows.fnPoolUseRow.laid w) (fun _ _ _ hh h => h.of_heap hh) own started (by kernel_rfl) Tryd.func3
    (ChangeSpec.witness_shaped (enc := enc) (C := Tryd.checked) (os := os) (X := fun w _ => laidMetH Tryd.prog Rows.fnPoolUseRow.laid w) false (World.doorLaid Tryd.prog 28 os) #[.slice none 0 0] 8 rfl (World.shaped_of_RefB (by kernel_rfl) (by kernel_rfl)) (by kernel_rfl) (by kernel_rfl) (by kernel_rfl) (door_met os _)) ?_
  intro W base args ds gs before hval0 hW _ _ hL _
  have hval : ∀ (j : Nat) t v, Tryd.f3.params[j]? = some t → args[j]? = some v → Value.okWide Tryd.prog W .any base t v := hval0
  have hW' := hW
  obtain ⟨p, q, hA0, hV0, rfl, hfz, hnd⟩ := hW
  have hA : DataW.TrodAll enc Tryd.prog W 0 (fun _ => true) true Tryd.f3.params.toList args.toList ds p := hA0
  have hV : DataW.TrodVars enc Tryd.prog W (fun _ => true) ["loop.example/hagioscope/impl.errForm"] gs q := hV0
  rw [Tryd.params3] at hA hval
  obtain ⟨v0, vs0, d0, ds0, p0, q0, hargs, rfl, rfl, h0, r0⟩ := trodAll_cons hA
  obtain ⟨rfl, rfl, rfl⟩ := trodAll_nil r0
  obtain rfl : args = #[v0] := by cases args; simp_all
  have kr0 := h0
  have lt0 : ∀ x ∈ p0, x.block < W.heap.size := by obtain ⟨m, hm⟩ := kr0; exact DataW.trod_lt m _ _ _ hm
  obtain ⟨a0, len0, cap0, rfl⟩ := okWide_slice Tryd.underlying22 (hval 0 22 v0 rfl rfl)
  obtain ⟨z0, w0⟩ : ∃ zs, IsRow .u8 W a0 len0 cap0 zs := by
    obtain ⟨fuel, hf⟩ := h0
    rcases open_ints Tryd.underlying22 Tryd.underlying5 (by kernel_rfl) hf with ⟨hcs, _⟩ | ⟨x, l, c, zs, hcs, _, hl, hm, hz, _, hcell, hwz⟩
    · simp [Value.cells] at hcs
      obtain ⟨rfl, rfl, rfl⟩ := hcs
      exact ⟨[], .inl ⟨rfl, rfl, rfl, rfl⟩⟩
    · simp [Value.cells] at hcs
      obtain ⟨rfl, rfl, rfl⟩ := hcs
      exact ⟨zs, .inr ⟨_, rfl, hl, hm, by simpa using hz, hcell, hwz⟩⟩
  obtain ⟨g, t, cs, fuel, d, p', rfl, hg, ht, hvar, hd, rfl⟩ := trodVars_one hV
  obtain rfl := Option.some.inj (gForm.symm.trans hg)
  obtain rfl := Option.some.inj (tForm.symm.trans ht)
  obtain ⟨fu, fv, hff⟩ := form_of hL
  obtain rfl : cs = #[.iface fu fv] := Option.some.inj (hvar.symm.trans hff)
  have hform : FormAt W := formAt_of hff
  obtain ⟨_, _, hheap⟩ := heap_of_var gForm hff
  clear hA0 hV0 hval0
  refine (walk a0 len0 cap0 z0 W w0 hform).mono fun e W' ⟨he, bel⟩ => ?_
  subst he
  exact ⟨_, rfl, _, _, _, [], _, _, hW', trodAll_mk1 (shut_bool Tryd.underlying4 _), (trodAll_cons_mk (Below.trod laidOut (by kernel_rfl) (of_decide_eq_true (by kernel_rfl)) kr0 bel lt0) trodAll_mk0), trodVars_mk1 gForm tForm (var?_below bel gForm (lt_of_block hheap) hff) (held_again Tryd.underlying52 hd), bel.frame _, fun h => by cases h⟩

theorem said : Rows.FnPoolUseSaid :=
  OpenClaim.holds_of_wide 3 Tryd.f3 rfl rfl rfl rfl rfl rfl rfl ⟨rfl, rfl, rfl, rfl, rfl⟩ rfl rfl rfl rfl rfl (by kernel_rfl) Tryd.func3 (by kernel_rfl)
    (of_decide_eq_true (by kernel_rfl)) (by unfold Func.isWrapper; first | (rw [if_pos (by decide +kernel)]; kernel_rfl) | (rw [if_neg (by decide +kernel)]; exact ⟨rfl, rfl⟩))
    (fun os started H enc _ => lifted os started H enc)

theorem plain (f : FuncId) (fn : Func) (hf : Tryd.pinned.checked.prog.funcNamed "loop.example/hagioscope/laws.FnPoolUse" = some f) (hfn : Tryd.pinned.checked.prog.funcs[f]? = some fn) :
    false = Tryd.pinned.checked.prog.looks [] ∧ ∀ (j : Nat) t, fn.params[j]? = some t → Tryd.pinned.checked.prog.wantsStandIn t = false := by
  obtain rfl : f = 3 := Option.some.inj ((show Tryd.prog.funcNamed "loop.example/hagioscope/laws.FnPoolUse" = some 3 by kernel_rfl).symm.trans hf) |>.symm
  obtain rfl : fn = Tryd.f3 := (Option.some.inj (Tryd.func3.symm.trans hfn)).symm
  refine ⟨by kernel_rfl, fun j t ht => ?_⟩
  rw [Tryd.params3] at ht
  obtain rfl : t = 22 := by simpa using Array.mem_of_getElem? ht
  · exact (show Tryd.prog.wantsStandIn 22 = false by kernel_rfl)

end Go.Proofs.YtlfgcchnboaflaaDoor.fnPoolUse
namespace Go.Proofs.YtlfgcchnboaflaaDoor
theorem fnPoolUse_card : Rows.FnPoolUseCardSaid :=
  Claim7.holds_tied_plain_at .later [] _ _ _ _ fnPoolUse.said (fun _ h => by cases h) (by kernel_rfl) (fun _ h => by cases h) fnPoolUse_row_tie rfl ⟨rfl, rfl⟩ (by kernel_rfl) rfl fnPoolUse.plain (by kernel_rfl)
#print axioms fnPoolUse_card
end Go.Proofs.YtlfgcchnboaflaaDoor
