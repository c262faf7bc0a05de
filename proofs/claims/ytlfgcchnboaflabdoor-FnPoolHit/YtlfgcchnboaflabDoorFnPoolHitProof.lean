/-
  
-/
import Derived.Test.YtlfgcchnboaflabDoorCards
import Derived.Test.YtlfgcchnboaflabDoorTie
import Derived.Test.YtlfgcchnboaflabDoorPlw
import Derived.Test.YtlfgcchnboaflabDoorDpu
import Derived.Test.YtlfgcchnboaflabDoorBxu
import Derived.WalkKit
import Derived.ProofKit
import Derived.OpenShut
import Derived.ShutString
import Derived.ChangeOld
import Derived.Below
import Derived.Carry
import Derived.Handy
import Derived.Deep.RegionHeld3
import Derived.LaidMore
namespace Go.Proofs.YtlfgcchnboaflabDoor.fnPoolHit
open Go.Proofs.YtlfgcchnboaflabDoor.Lab
open Go.ChangeShapes Go.WideShapes Go.ChangeAt Go.RowKit
open Go.ChangeMaps (open_string shut_string)
set_option linter.unusedVariables false

theorem own : ownKnob Tryd.prog.godebug = none := by kernel_rfl
/-- A row of numbers that came in: nil, or so many cells. -/
def IsRow (k : IntKind) (w : World) (a : Option Addr) (len cap : Nat) (zs : List Int) : Prop :=
  (a = none ∧ len = 0 ∧ cap = 0 ∧ zs = []) ∨ ∃ x, a = some x ∧ len ≤ cap ∧ cap ≤ maxLen ∧ zs.length = cap ∧ (∀ i, i < zs.length → w.cell? (x.add i) = some (.int k (zs.getD i 0))) ∧ ∀ n ∈ zs, (Lit.int k n).wf = true

set_option maxHeartbeats 4000000 in
theorem walk (a0 : Option Addr) (len0 cap0 : Nat) (z0 : List Int) (w : World) (w0 : IsRow .u8 w a0 len0 cap0 z0) (hform : FormAt w) :
    Calls Tryd.prog 4 #[.slice a0 len0 cap0] w fun e w' => e = .returned (.bool true) ∧ Below w.heap.size w w' := by
  have HF : Hid (FormAt w) := hform
  clear hform
  by_cases hlen0 : len0 > 1048576
  · go_enter Tryd.func4, Tryd.ntmps4
    go_wp2
    go_ret
    exact ⟨rfl, Below.refl _ _⟩
  have k0 : CodeAt w a0 len0 cap0 z0 := code_of w0
  clear w0
  go_enter Tryd.func4, Tryd.ntmps4
  go_wp2_with fail
  refine (drawPoolUse _ _ _ _ _ k0).mono ?_
  rintro e wa ⟨zz, u, xs, pl, pn, rfl, ou, lx, hz, ba⟩
  obtain ⟨ua, uc, rfl⟩ := ou.form
  obtain ⟨m, hm⟩ : ∃ m, m = xs.length := ⟨_, rfl⟩
  have HM : Hid (m = xs.length) := hm
  rw [← hm] at lx ou ⊢
  obtain ⟨A, hA⟩ : ∃ t, t = wa.heap.size := ⟨_, rfl⟩
  have HA : Hid (A = wa.heap.size) := hA
  have BB : Below A wa wa := Below.refl _ _
  have sA : A ≤ wa.heap.size := by omega
  have HV : Hid (∀ W, Below A wa W → RowC W (.slice ua m uc) xs ∧ FormAt W ∧ Below w.heap.size w W) := fun W h => by
    rw [HA.out] at h
    exact ⟨(RowC.of_own ou).keep h, (HF.out.keep ba).keep h, ba.trans (h.mono ba.size)⟩
  clear ou ba k0 hm HF hA
  go_wp2_with fail
  obtain ⟨P0, hP0⟩ : ∃ t, t = wa.heap.size := ⟨_, rfl⟩
  generalize hW : wa.alloc (.cells #[.int .i64 zz, .slice ua m uc] 25) = wb
  have nb : Below wa.heap.size wa wb := by rw [← hW]; exact (Below.refl _ _).alloc (Nat.le_refl _) _
  have k3 : wb.heap.size = P0 + 1 := by rw [← hW, hP0]; simp
  have kk0 : wb.cell? ⟨P0, 0, none⟩ = some (.int .i64 zz) := by rw [← hW, hP0]; simp [go_sem]
  have kk1 : wb.cell? ⟨P0, 1, none⟩ = some (.slice ua m uc) := by rw [← hW, hP0]; simp [go_sem]
  have oP0A : A ≤ P0 := by rw [hP0]; exact sA
  have BB1 : Below A wa wb := BB.trans (nb.mono (by omega))
  have sA1 : A ≤ wb.heap.size := by have := Below.size nb; omega
  clear BB sA   
  have BB := BB1
  have sA := sA1
  clear BB1 sA1   
  have cc0 := kk0
  have cc1 := kk1
  have zz0 : P0 < wb.heap.size := by omega
  rw [← hP0]
  have k3P0 := k3
  clear k3 hW nb hP0 kk0 kk1
  rw [k3P0.symm]
  obtain ⟨P1, hP1⟩ : ∃ t, t = wb.heap.size := ⟨_, rfl⟩
  generalize hW : wb.alloc (.cells #[.int .i64 pl, .int .i64 pn] 33) = wb2
  have nb : Below wb.heap.size wb wb2 := by rw [← hW]; exact (Below.refl _ _).alloc (Nat.le_refl _) _
  have k3 : wb2.heap.size = P1 + 1 := by rw [← hW, hP1]; simp
  have kk0 : wb2.cell? ⟨P1, 0, none⟩ = some (.int .i64 pl) := by rw [← hW, hP1]; simp [go_sem]
  have kk1 : wb2.cell? ⟨P1, 1, none⟩ = some (.int .i64 pn) := by rw [← hW, hP1]; simp [go_sem]
  have oP1A : A ≤ P1 := by rw [hP1]; exact sA
  have oP10 : P0 < P1 := by rw [hP1]; exact zz0
  have d0 : wb2.cell? ⟨P0, 0, none⟩ = some (.int .i64 zz) := (Below.celz nb _ _ _ (by omega)).trans cc0
  have d1 : wb2.cell? ⟨P0, 1, none⟩ = some (.slice ua m uc) := (Below.celz nb _ _ _ (by omega)).trans cc1
  have y0 : P0 < wb2.heap.size := by have := Below.size nb; omega
  have BB1 : Below A wa wb2 := BB.trans (nb.mono (by omega))
  have sA1 : A ≤ wb2.heap.size := by have := Below.size nb; omega
  clear BB sA cc0 cc1 zz0 
  have cc0 := d0
  have cc1 := d1
  have zz0 := y0
  have BB := BB1
  have sA := sA1
  clear BB1 sA1 d0 d1 y0 
  have cc2 := kk0
  have cc3 := kk1
  have zz1 : P1 < wb2.heap.size := by omega
  rw [← hP1]
  have k3P1 := k3
  clear k3 hW nb hP1 kk0 kk1
  clear k3P0 k3P1
  obtain ⟨Z1, X1, H1, HX, lX, HC1, HD1⟩ : ∃ (Z1 : Int) (X1 : List (Int × Int)) (H1 : Bool), Hid (Z1 = puZ zz xs (pl, pn) ∧ X1 = puL zz xs (pl, pn) ∧ H1 = puH zz xs (pl, pn)) ∧ X1.length ≤ 12
      ∧ Hid (∀ W, Below A wa W → Calls Tryd.prog 12 #[.agg #[.int .i64 zz, .slice ua m uc], .agg #[.int .i64 pl, .int .i64 pn]] W fun e w' => ∃ u, e = .returned (.tuple #[.agg #[.int .i64 Z1, u], .bool H1]) ∧ OwnPool w' W.heap.size u X1 ∧ Below W.heap.size W w')
      ∧ Hid (∀ W, Below A wa W → Calls Tryd.prog 13 #[.agg #[.int .i64 zz, .slice ua m uc], .agg #[.int .i64 pl, .int .i64 pn]] W fun e w' => ∃ u, e = .returned (.tuple #[.agg #[.int .i64 Z1, u], .bool H1]) ∧ OwnPool w' W.heap.size u X1 ∧ Below W.heap.size W w') :=
    ⟨_, _, _, ⟨rfl, rfl, rfl⟩, puL_len _ _ _, fun W h => impl_PoolUse zz _ xs pl pn W (HV.out _ h).1.1 (by rw [← HM.out]; omega) (HV.out _ h).2.1, fun W h => spec_PoolUse zz _ xs pl pn W (HV.out _ h).1 (by rw [← HM.out]; omega)⟩
  obtain ⟨x1, hx1⟩ : ∃ t, t = X1.length := ⟨_, rfl⟩
  have HL1 : Hid (x1 = X1.length) := hx1
  have lx1 : x1 ≤ 12 := by omega
  clear lX hx1
  refine (HC1.out _ BB).mono ?_
  rintro e wc ⟨u, rfl, ou, bc⟩
  have d0 : wc.cell? ⟨P0, 0, none⟩ = some (.int .i64 zz) := (Below.celz bc _ _ _ (by omega)).trans cc0
  have d1 : wc.cell? ⟨P0, 1, none⟩ = some (.slice ua m uc) := (Below.celz bc _ _ _ (by omega)).trans cc1
  have d2 : wc.cell? ⟨P1, 0, none⟩ = some (.int .i64 pl) := (Below.celz bc _ _ _ (by omega)).trans cc2
  have d3 : wc.cell? ⟨P1, 1, none⟩ = some (.int .i64 pn) := (Below.celz bc _ _ _ (by omega)).trans cc3
  have y0 : P0 < wc.heap.size := by have := Below.size bc; omega
  have y1 : P1 < wc.heap.size := by have := Below.size bc; omega
  have BB1 : Below A wa wc := BB.trans (bc.mono (by omega))
  have sA1 : A ≤ wc.heap.size := by have := Below.size bc; omega
  clear BB sA cc0 cc1 cc2 cc3 zz0 zz1 
  have cc0 := d0
  have cc1 := d1
  have cc2 := d2
  have cc3 := d3
  have zz0 := y0
  have zz1 := y1
  have BB := BB1
  have sA := sA1
  clear BB1 sA1 d0 d1 d2 d3 y0 y1 
  clear bc
  obtain ⟨pa, pb, rfl⟩ := ou.form
  rw [← HL1.out] at ou ⊢
  have HXX : Hid (RowAt 2 encPage wc (.slice pa x1 pb) X1) := by have := ou.row; exact this
  clear ou
  go_wp2_with fail
  obtain ⟨P2, hP2⟩ : ∃ t, t = wc.heap.size := ⟨_, rfl⟩
  generalize hW : wc.alloc (.cells #[.int .i64 Z1, .slice pa x1 pb] 25) = wd
  have nb : Below wc.heap.size wc wd := by rw [← hW]; exact (Below.refl _ _).alloc (Nat.le_refl _) _
  have k3 : wd.heap.size = P2 + 1 := by rw [← hW, hP2]; simp
  have kk0 : wd.cell? ⟨P2, 0, none⟩ = some (.int .i64 Z1) := by rw [← hW, hP2]; simp [go_sem]
  have kk1 : wd.cell? ⟨P2, 1, none⟩ = some (.slice pa x1 pb) := by rw [← hW, hP2]; simp [go_sem]
  have oP2A : A ≤ P2 := by rw [hP2]; exact sA
  have oP20 : P0 < P2 := by rw [hP2]; exact zz0
  have oP21 : P1 < P2 := by rw [hP2]; exact zz1
  have d0 : wd.cell? ⟨P0, 0, none⟩ = some (.int .i64 zz) := (Below.celz nb _ _ _ (by omega)).trans cc0
  have d1 : wd.cell? ⟨P0, 1, none⟩ = some (.slice ua m uc) := (Below.celz nb _ _ _ (by omega)).trans cc1
  have d2 : wd.cell? ⟨P1, 0, none⟩ = some (.int .i64 pl) := (Below.celz nb _ _ _ (by omega)).trans cc2
  have d3 : wd.cell? ⟨P1, 1, none⟩ = some (.int .i64 pn) := (Below.celz nb _ _ _ (by omega)).trans cc3
  have y0 : P0 < wd.heap.size := by have := Below.size nb; omega
  have y1 : P1 < wd.heap.size := by have := Below.size nb; omega
  have BB1 : Below A wa wd := BB.trans (nb.mono (by omega))
  have sA1 : A ≤ wd.heap.size := by have := Below.size nb; omega
  have q0 : Hid (RowAt 2 encPage wd (.slice pa x1 pb) X1) := HXX.out.keep nb
  clear BB sA cc0 cc1 cc2 cc3 zz0 zz1 HXX
  have cc0 := d0
  have cc1 := d1
  have cc2 := d2
  have cc3 := d3
  have zz0 := y0
  have zz1 := y1
  have HXX := q0
  have BB := BB1
  have sA := sA1
  clear BB1 sA1 d0 d1 d2 d3 y0 y1 q0
  have cc4 := kk0
  have cc5 := kk1
  have zz2 : P2 < wd.heap.size := by omega
  rw [← hP2]
  have k3P2 := k3
  clear k3 hW nb hP2 kk0 kk1
  refine (HD1.out _ BB).mono ?_
  rintro e we ⟨u, rfl, ou, be⟩
  have d0 : we.cell? ⟨P0, 0, none⟩ = some (.int .i64 zz) := (Below.celz be _ _ _ (by omega)).trans cc0
  have d1 : we.cell? ⟨P0, 1, none⟩ = some (.slice ua m uc) := (Below.celz be _ _ _ (by omega)).trans cc1
  have d2 : we.cell? ⟨P1, 0, none⟩ = some (.int .i64 pl) := (Below.celz be _ _ _ (by omega)).trans cc2
  have d3 : we.cell? ⟨P1, 1, none⟩ = some (.int .i64 pn) := (Below.celz be _ _ _ (by omega)).trans cc3
  have d4 : we.cell? ⟨P2, 0, none⟩ = some (.int .i64 Z1) := (Below.celz be _ _ _ (by omega)).trans cc4
  have d5 : we.cell? ⟨P2, 1, none⟩ = some (.slice pa x1 pb) := (Below.celz be _ _ _ (by omega)).trans cc5
  have y0 : P0 < we.heap.size := by have := Below.size be; omega
  have y1 : P1 < we.heap.size := by have := Below.size be; omega
  have y2 : P2 < we.heap.size := by have := Below.size be; omega
  have BB1 : Below A wa we := BB.trans (be.mono (by omega))
  have sA1 : A ≤ we.heap.size := by have := Below.size be; omega
  have q0 : Hid (RowAt 2 encPage we (.slice pa x1 pb) X1) := HXX.out.keep be
  clear BB sA cc0 cc1 cc2 cc3 cc4 cc5 zz0 zz1 zz2 HXX
  have cc0 := d0
  have cc1 := d1
  have cc2 := d2
  have cc3 := d3
  have cc4 := d4
  have cc5 := d5
  have zz0 := y0
  have zz1 := y1
  have zz2 := y2
  have HXX := q0
  have BB := BB1
  have sA := sA1
  clear BB1 sA1 d0 d1 d2 d3 d4 d5 y0 y1 y2 q0
  clear be
  obtain ⟨qa, qb, rfl⟩ := ou.form
  rw [← HL1.out] at ou ⊢
  clear ou
  go_wp2_with fail
  obtain ⟨P3, hP3⟩ : ∃ t, t = we.heap.size := ⟨_, rfl⟩
  generalize hW : we.alloc (.cells #[.int .i64 Z1, .slice qa x1 qb] 25) = wf
  have nb : Below we.heap.size we wf := by rw [← hW]; exact (Below.refl _ _).alloc (Nat.le_refl _) _
  have k3 : wf.heap.size = P3 + 1 := by rw [← hW, hP3]; simp
  have kk0 : wf.cell? ⟨P3, 0, none⟩ = some (.int .i64 Z1) := by rw [← hW, hP3]; simp [go_sem]
  have kk1 : wf.cell? ⟨P3, 1, none⟩ = some (.slice qa x1 qb) := by rw [← hW, hP3]; simp [go_sem]
  have oP3A : A ≤ P3 := by rw [hP3]; exact sA
  have oP30 : P0 < P3 := by rw [hP3]; exact zz0
  have oP31 : P1 < P3 := by rw [hP3]; exact zz1
  have oP32 : P2 < P3 := by rw [hP3]; exact zz2
  have d0 : wf.cell? ⟨P0, 0, none⟩ = some (.int .i64 zz) := (Below.celz nb _ _ _ (by omega)).trans cc0
  have d1 : wf.cell? ⟨P0, 1, none⟩ = some (.slice ua m uc) := (Below.celz nb _ _ _ (by omega)).trans cc1
  have d2 : wf.cell? ⟨P1, 0, none⟩ = some (.int .i64 pl) := (Below.celz nb _ _ _ (by omega)).trans cc2
  have d3 : wf.cell? ⟨P1, 1, none⟩ = some (.int .i64 pn) := (Below.celz nb _ _ _ (by omega)).trans cc3
  have d4 : wf.cell? ⟨P2, 0, none⟩ = some (.int .i64 Z1) := (Below.celz nb _ _ _ (by omega)).trans cc4
  have d5 : wf.cell? ⟨P2, 1, none⟩ = some (.slice pa x1 pb) := (Below.celz nb _ _ _ (by omega)).trans cc5
  have y0 : P0 < wf.heap.size := by have := Below.size nb; omega
  have y1 : P1 < wf.heap.size := by have := Below.size nb; omega
  have y2 : P2 < wf.heap.size := by have := Below.size nb; omega
  have BB1 : Below A wa wf := BB.trans (nb.mono (by omega))
  have sA1 : A ≤ wf.heap.size := by have := Below.size nb; omega
  have q0 : Hid (RowAt 2 encPage wf (.slice pa x1 pb) X1) := HXX.out.keep nb
  clear BB sA cc0 cc1 cc2 cc3 cc4 cc5 zz0 zz1 zz2 HXX
  have cc0 := d0
  have cc1 := d1
  have cc2 := d2
  have cc3 := d3
  have cc4 := d4
  have cc5 := d5
  have zz0 := y0
  have zz1 := y1
  have zz2 := y2
  have HXX := q0
  have BB := BB1
  have sA := sA1
  clear BB1 sA1 d0 d1 d2 d3 d4 d5 y0 y1 y2 q0
  have cc6 := kk0
  have cc7 := kk1
  have zz3 : P3 < wf.heap.size := by omega
  rw [← hP3]
  have k3P3 := k3
  clear k3 hW nb hP3 kk0 kk1
  have hne : (H1 != H1) = false := by cases H1 <;> rfl
  have hne2 : (H1 == H1) = true := by cases H1 <;> rfl
  clear k3P2 k3P3
  go_wp2_with fail
  cases hp : poolB zz xs
  · have CP := spec_PoolOk zz _ xs _ (HV.out _ BB).1 (by rw [← HM.out]; omega)
    rw [hp] at CP
    refine (CP).mono ?_
    rintro e wg ⟨rfl, bg⟩
    have d0 : wg.cell? ⟨P0, 0, none⟩ = some (.int .i64 zz) := (Below.celz bg _ _ _ (by omega)).trans cc0
    have d1 : wg.cell? ⟨P0, 1, none⟩ = some (.slice ua m uc) := (Below.celz bg _ _ _ (by omega)).trans cc1
    have d2 : wg.cell? ⟨P1, 0, none⟩ = some (.int .i64 pl) := (Below.celz bg _ _ _ (by omega)).trans cc2
    have d3 : wg.cell? ⟨P1, 1, none⟩ = some (.int .i64 pn) := (Below.celz bg _ _ _ (by omega)).trans cc3
    have d4 : wg.cell? ⟨P2, 0, none⟩ = some (.int .i64 Z1) := (Below.celz bg _ _ _ (by omega)).trans cc4
    have d5 : wg.cell? ⟨P2, 1, none⟩ = some (.slice pa x1 pb) := (Below.celz bg _ _ _ (by omega)).trans cc5
    have d6 : wg.cell? ⟨P3, 0, none⟩ = some (.int .i64 Z1) := (Below.celz bg _ _ _ (by omega)).trans cc6
    have d7 : wg.cell? ⟨P3, 1, none⟩ = some (.slice qa x1 qb) := (Below.celz bg _ _ _ (by omega)).trans cc7
    have y0 : P0 < wg.heap.size := by have := Below.size bg; omega
    have y1 : P1 < wg.heap.size := by have := Below.size bg; omega
    have y2 : P2 < wg.heap.size := by have := Below.size bg; omega
    have y3 : P3 < wg.heap.size := by have := Below.size bg; omega
    have BB1 : Below A wa wg := BB.trans (bg.mono (by omega))
    have sA1 : A ≤ wg.heap.size := by have := Below.size bg; omega
    have q0 : Hid (RowAt 2 encPage wg (.slice pa x1 pb) X1) := HXX.out.keep bg
    clear BB sA cc0 cc1 cc2 cc3 cc4 cc5 cc6 cc7 zz0 zz1 zz2 zz3 HXX
    have cc0 := d0
    have cc1 := d1
    have cc2 := d2
    have cc3 := d3
    have cc4 := d4
    have cc5 := d5
    have cc6 := d6
    have cc7 := d7
    have zz0 := y0
    have zz1 := y1
    have zz2 := y2
    have zz3 := y3
    have HXX := q0
    have BB := BB1
    have sA := sA1
    clear BB1 sA1 d0 d1 d2 d3 d4 d5 d6 d7 y0 y1 y2 y3 q0
    clear bg
    clear CP
    go_wp2_with fail
    go_ret
    exact ⟨rfl, (HV.out _ BB).2.2⟩
  · have CP := spec_PoolOk zz _ xs _ (HV.out _ BB).1 (by rw [← HM.out]; omega)
    rw [hp] at CP
    refine (CP).mono ?_
    rintro e wg ⟨rfl, bg⟩
    have d0 : wg.cell? ⟨P0, 0, none⟩ = some (.int .i64 zz) := (Below.celz bg _ _ _ (by omega)).trans cc0
    have d1 : wg.cell? ⟨P0, 1, none⟩ = some (.slice ua m uc) := (Below.celz bg _ _ _ (by omega)).trans cc1
    have d2 : wg.cell? ⟨P1, 0, none⟩ = some (.int .i64 pl) := (Below.celz bg _ _ _ (by omega)).trans cc2
    have d3 : wg.cell? ⟨P1, 1, none⟩ = some (.int .i64 pn) := (Below.celz bg _ _ _ (by omega)).trans cc3
    have d4 : wg.cell? ⟨P2, 0, none⟩ = some (.int .i64 Z1) := (Below.celz bg _ _ _ (by omega)).trans cc4
    have d5 : wg.cell? ⟨P2, 1, none⟩ = some (.slice pa x1 pb) := (Below.celz bg _ _ _ (by omega)).trans cc5
    have d6 : wg.cell? ⟨P3, 0, none⟩ = some (.int .i64 Z1) := (Below.celz bg _ _ _ (by omega)).trans cc6
    have d7 : wg.cell? ⟨P3, 1, none⟩ = some (.slice qa x1 qb) := (Below.celz bg _ _ _ (by omega)).trans cc7
    have y0 : P0 < wg.heap.size := by have := Below.size bg; omega
    have y1 : P1 < wg.heap.size := by have := Below.size bg; omega
    have y2 : P2 < wg.heap.size := by have := Below.size bg; omega
    have y3 : P3 < wg.heap.size := by have := Below.size bg; omega
    have BB1 : Below A wa wg := BB.trans (bg.mono (by omega))
    have sA1 : A ≤ wg.heap.size := by have := Below.size bg; omega
    have q0 : Hid (RowAt 2 encPage wg (.slice pa x1 pb) X1) := HXX.out.keep bg
    clear BB sA cc0 cc1 cc2 cc3 cc4 cc5 cc6 cc7 zz0 zz1 zz2 zz3 HXX
    have cc0 := d0
    have cc1 := d1
    have cc2 := d2
    have cc3 := d3
    have cc4 := d4
    have cc5 := d5
    have cc6 := d6
    have cc7 := d7
    have zz0 := y0
    have zz1 := y1
    have zz2 := y2
    have zz3 := y3
    have HXX := q0
    have BB := BB1
    have sA := sA1
    clear BB1 sA1 d0 d1 d2 d3 d4 d5 d6 d7 y0 y1 y2 y3 q0
    clear bg
    clear CP
    cases hq : pageB pl pn
    · go_wp2_with fail
      have CP := impl_PageOk pl pn wg
      rw [hq] at CP
      refine (CP).mono ?_
      rintro e wh ⟨rfl, bh⟩
      have d0 : wh.cell? ⟨P0, 0, none⟩ = some (.int .i64 zz) := (Below.celz bh _ _ _ (by omega)).trans cc0
      have d1 : wh.cell? ⟨P0, 1, none⟩ = some (.slice ua m uc) := (Below.celz bh _ _ _ (by omega)).trans cc1
      have d2 : wh.cell? ⟨P1, 0, none⟩ = some (.int .i64 pl) := (Below.celz bh _ _ _ (by omega)).trans cc2
      have d3 : wh.cell? ⟨P1, 1, none⟩ = some (.int .i64 pn) := (Below.celz bh _ _ _ (by omega)).trans cc3
      have d4 : wh.cell? ⟨P2, 0, none⟩ = some (.int .i64 Z1) := (Below.celz bh _ _ _ (by omega)).trans cc4
      have d5 : wh.cell? ⟨P2, 1, none⟩ = some (.slice pa x1 pb) := (Below.celz bh _ _ _ (by omega)).trans cc5
      have d6 : wh.cell? ⟨P3, 0, none⟩ = some (.int .i64 Z1) := (Below.celz bh _ _ _ (by omega)).trans cc6
      have d7 : wh.cell? ⟨P3, 1, none⟩ = some (.slice qa x1 qb) := (Below.celz bh _ _ _ (by omega)).trans cc7
      have y0 : P0 < wh.heap.size := by have := Below.size bh; omega
      have y1 : P1 < wh.heap.size := by have := Below.size bh; omega
      have y2 : P2 < wh.heap.size := by have := Below.size bh; omega
      have y3 : P3 < wh.heap.size := by have := Below.size bh; omega
      have BB1 : Below A wa wh := BB.trans (bh.mono (by omega))
      have sA1 : A ≤ wh.heap.size := by have := Below.size bh; omega
      have q0 : Hid (RowAt 2 encPage wh (.slice pa x1 pb) X1) := HXX.out.keep bh
      clear BB sA cc0 cc1 cc2 cc3 cc4 cc5 cc6 cc7 zz0 zz1 zz2 zz3 HXX
      have cc0 := d0
      have cc1 := d1
      have cc2 := d2
      have cc3 := d3
      have cc4 := d4
      have cc5 := d5
      have cc6 := d6
      have cc7 := d7
      have zz0 := y0
      have zz1 := y1
      have zz2 := y2
      have zz3 := y3
      have HXX := q0
      have BB := BB1
      have sA := sA1
      clear BB1 sA1 d0 d1 d2 d3 d4 d5 d6 d7 y0 y1 y2 y3 q0
      clear bh
      clear CP
      go_wp2_with fail
      go_ret
      exact ⟨rfl, (HV.out _ BB).2.2⟩
    · go_wp2_with fail
      have CP := impl_PageOk pl pn wg
      rw [hq] at CP
      refine (CP).mono ?_
      rintro e wh ⟨rfl, bh⟩
      have d0 : wh.cell? ⟨P0, 0, none⟩ = some (.int .i64 zz) := (Below.celz bh _ _ _ (by omega)).trans cc0
      have d1 : wh.cell? ⟨P0, 1, none⟩ = some (.slice ua m uc) := (Below.celz bh _ _ _ (by omega)).trans cc1
      have d2 : wh.cell? ⟨P1, 0, none⟩ = some (.int .i64 pl) := (Below.celz bh _ _ _ (by omega)).trans cc2
      have d3 : wh.cell? ⟨P1, 1, none⟩ = some (.int .i64 pn) := (Below.celz bh _ _ _ (by omega)).trans cc3
      have d4 : wh.cell? ⟨P2, 0, none⟩ = some (.int .i64 Z1) := (Below.celz bh _ _ _ (by omega)).trans cc4
      have d5 : wh.cell? ⟨P2, 1, none⟩ = some (.slice pa x1 pb) := (Below.celz bh _ _ _ (by omega)).trans cc5
      have d6 : wh.cell? ⟨P3, 0, none⟩ = some (.int .i64 Z1) := (Below.celz bh _ _ _ (by omega)).trans cc6
      have d7 : wh.cell? ⟨P3, 1, none⟩ = some (.slice qa x1 qb) := (Below.celz bh _ _ _ (by omega)).trans cc7
      have y0 : P0 < wh.heap.size := by have := Below.size bh; omega
      have y1 : P1 < wh.heap.size := by have := Below.size bh; omega
      have y2 : P2 < wh.heap.size := by have := Below.size bh; omega
      have y3 : P3 < wh.heap.size := by have := Below.size bh; omega
      have BB1 : Below A wa wh := BB.trans (bh.mono (by omega))
      have sA1 : A ≤ wh.heap.size := by have := Below.size bh; omega
      have q0 : Hid (RowAt 2 encPage wh (.slice pa x1 pb) X1) := HXX.out.keep bh
      clear BB sA cc0 cc1 cc2 cc3 cc4 cc5 cc6 cc7 zz0 zz1 zz2 zz3 HXX
      have cc0 := d0
      have cc1 := d1
      have cc2 := d2
      have cc3 := d3
      have cc4 := d4
      have cc5 := d5
      have cc6 := d6
      have cc7 := d7
      have zz0 := y0
      have zz1 := y1
      have zz2 := y2
      have zz3 := y3
      have HXX := q0
      have BB := BB1
      have sA := sA1
      clear BB1 sA1 d0 d1 d2 d3 d4 d5 d6 d7 y0 y1 y2 y3 q0
      clear bh
      clear CP
      by_cases hz0 : zz = 0
      · subst hz0
        go_wp2_with fail
        go_ret
        exact ⟨rfl, (HV.out _ BB).2.2⟩
      · obtain ⟨g1, g2, g3, g4, g5⟩ := poolB_true.1 hp
        obtain ⟨zn, rfl⟩ := Int.eq_ofNat_of_zero_le g1
        have hzb : ((zn : Int) == 0) = false := by simpa using hz0
        have HP : Hid (xs.Nodup ∧ xs.length ≤ zn ∧ X1 = useL zn xs (pl, pn) ∧ H1 = decide ((pl, pn) ∈ xs)) := by
          obtain ⟨h1, h2, h3⟩ := HX.out
          refine ⟨g5, by omega, ?_, ?_⟩
          · rw [h2]; simp [puL, puOk, hp, hq]
          · rw [h3]; simp [puH, puOk, hp, hq]
        have hzn : zn ≤ 12 := by omega
        clear g4 g5 hp hq HX HC1 HD1
        go_wp2_with fail
        go_loopw [9, 10] (fun s i wr => ∃ k : Nat, k ≤ m ∧ i = .int .i64 k ∧ s = .bool (hasK xs (pl, pn) k) ∧ Below wh.heap.size wh wr) (fun _ i _ => m - (intOf i).toNat)
        case atStart => exact ⟨0, by omega, rfl, by rw [hasK_zero], Below.refl _ _⟩
        case round =>
          obtain ⟨k, hk, rfl, rfl, hbel⟩ := hrel
          have HBL : Hid (Below wh.heap.size wh wr) := hbel
          have sg : wh.heap.size ≤ wr.heap.size := hbel.size
          have d0 : wr.cell? ⟨P0, 0, none⟩ = some (.int .i64 (zn : Int)) := (Below.celz hbel _ _ _ (by omega)).trans cc0
          have d1 : wr.cell? ⟨P0, 1, none⟩ = some (.slice ua m uc) := (Below.celz hbel _ _ _ (by omega)).trans cc1
          have d2 : wr.cell? ⟨P1, 0, none⟩ = some (.int .i64 pl) := (Below.celz hbel _ _ _ (by omega)).trans cc2
          have d3 : wr.cell? ⟨P1, 1, none⟩ = some (.int .i64 pn) := (Below.celz hbel _ _ _ (by omega)).trans cc3
          have d4 : wr.cell? ⟨P2, 0, none⟩ = some (.int .i64 Z1) := (Below.celz hbel _ _ _ (by omega)).trans cc4
          have d5 : wr.cell? ⟨P2, 1, none⟩ = some (.slice pa x1 pb) := (Below.celz hbel _ _ _ (by omega)).trans cc5
          have d6 : wr.cell? ⟨P3, 0, none⟩ = some (.int .i64 Z1) := (Below.celz hbel _ _ _ (by omega)).trans cc6
          have d7 : wr.cell? ⟨P3, 1, none⟩ = some (.slice qa x1 qb) := (Below.celz hbel _ _ _ (by omega)).trans cc7
          have y0 : P0 < wr.heap.size := by have := Below.size hbel; omega
          have y1 : P1 < wr.heap.size := by have := Below.size hbel; omega
          have y2 : P2 < wr.heap.size := by have := Below.size hbel; omega
          have y3 : P3 < wr.heap.size := by have := Below.size hbel; omega
          have BB1 : Below A wa wr := BB.trans (hbel.mono (by omega))
          have sA1 : A ≤ wr.heap.size := by have := Below.size hbel; omega
          have q0 : Hid (RowAt 2 encPage wr (.slice pa x1 pb) X1) := HXX.out.keep hbel
          clear BB sA cc0 cc1 cc2 cc3 cc4 cc5 cc6 cc7 zz0 zz1 zz2 zz3 HXX
          have cc0 := d0
          have cc1 := d1
          have cc2 := d2
          have cc3 := d3
          have cc4 := d4
          have cc5 := d5
          have cc6 := d6
          have cc7 := d7
          have zz0 := y0
          have zz1 := y1
          have zz2 := y2
          have zz3 := y3
          have HXX := q0
          have BB := BB1
          have sA := sA1
          clear BB1 sA1 d0 d1 d2 d3 d4 d5 d6 d7 y0 y1 y2 y3 q0
          clear hbel
          by_cases hlt : k < m
          · rcases (HV.out wr BB).1.1 with ⟨hz0, _⟩ | ⟨_, b, off, cap', hv, hb, hc⟩
            · exfalso; have := HM.out; rw [hz0] at this; simp at this; omega
            simp only [Value.slice.injEq] at hv
            obtain ⟨rfl, -, hcc⟩ := hv
            subst hcc
            obtain ⟨⟨m0, m1⟩, hx⟩ : ∃ x, xs[k]? = some x := ⟨_, List.getElem?_eq_getElem (by rw [← HM.out]; exact hlt)⟩
            have e0 : wr.cell? ⟨b, off + k * 2, none⟩ = some (.int .i64 m0) := hc k _ hx 0 _ rfl
            have e1 : wr.cell? ⟨b, off + k * 2 + 1, none⟩ = some (.int .i64 m1) := hc k _ hx 1 _ rfl
            have HXk : Hid (xs[k]? = some (m0, m1)) := hx
            clear hx hc
            have j0 : (0 : Int) ≤ (k : Int) := by omega
            have j1 : (k : Int) < (m : Int) := by omega
            have hs := hasK_step (x := (pl, pn)) HXk.out
            obtain ⟨h, hh⟩ : ∃ h, h = hasK xs (pl, pn) k := ⟨_, rfl⟩
            have HS : Hid (hasK xs (pl, pn) (k + 1) = (h || eqB (m0, m1) (pl, pn))) := by rw [hh]; exact hs
            rw [← hh]
            clear hs hh
            cases h
            · by_cases e : m0 = pl
              · subst e
                by_cases e2 : m1 = pn
                · subst e2
                  have HE : Hid (eqB (m0, m1) (m0, m1) = true) := eqB_true.2 rfl
                  go_wp2_with fail
                  refine wp_region_after (by kernel_rfl) (by kernel_rfl) ?_
                  intro hne hac
                  repeat (go_big_quiet_step (fail))
                  refine wpQuiet_nil ?_
                  rintro _ ⟨p, rfl⟩
                  have HB2 : Hid (Below wh.heap.size wh p.w) := HBL.out.trans (p.bel.mono sg)
                  have bq : Below wr.heap.size wr p.w := p.bel
                  clear hac hne
                  generalize p.w = wq at *
                  clear bq
                  go_wp2_with fail
                  go_roundw
                  case rel =>
                    refine ⟨k + 1, by omega, by go_num, ?_, HB2.out⟩
                    rw [HS.out, HE.out]
                    rfl
                  case measure => simp [intOf]; omega
                · have d0 : (m1 == pn) = false := beq_eq_false_iff_ne.2 e2
                  have d1 : decide (m1 = pn) = false := by simpa using e2
                  have HE : Hid (eqB (m0, m1) (m0, pn) = false) := by show _ = _; rw [eqB_false]; simp [e2]
                  clear e2
                  go_wp2_with fail
                  refine wp_region_after (by kernel_rfl) (by kernel_rfl) ?_
                  intro hne hac
                  repeat (go_big_quiet_step (fail))
                  refine wpQuiet_nil ?_
                  rintro _ ⟨p, rfl⟩
                  have HB2 : Hid (Below wh.heap.size wh p.w) := HBL.out.trans (p.bel.mono sg)
                  have bq : Below wr.heap.size wr p.w := p.bel
                  clear hac hne
                  generalize p.w = wq at *
                  clear bq
                  go_wp2_with fail
                  go_roundw
                  case rel =>
                    refine ⟨k + 1, by omega, by go_num, ?_, HB2.out⟩
                    rw [HS.out, HE.out]
                    rfl
                  case measure => simp [intOf]; omega
              · have d0 : (m0 == pl) = false := beq_eq_false_iff_ne.2 e
                have d1 : decide (m0 = pl) = false := by simpa using e
                have HE : Hid (eqB (m0, m1) (pl, pn) = false) := by show _ = _; rw [eqB_false]; simp [e]
                clear e
                go_wp2_with fail
                refine wp_region_after (by kernel_rfl) (by kernel_rfl) ?_
                intro hne hac
                repeat (go_big_quiet_step (fail))
                refine wpQuiet_nil ?_
                rintro _ ⟨p, rfl⟩
                have HB2 : Hid (Below wh.heap.size wh p.w) := HBL.out.trans (p.bel.mono sg)
                have bq : Below wr.heap.size wr p.w := p.bel
                clear hac hne
                generalize p.w = wq at *
                clear bq
                go_wp2_with fail
                go_roundw
                case rel =>
                  refine ⟨k + 1, by omega, by go_num, ?_, HB2.out⟩
                  rw [HS.out, HE.out]
                  rfl
                case measure => simp [intOf]; omega
            · go_wp2_with fail
              refine wp_region_after (by kernel_rfl) (by kernel_rfl) ?_
              intro hne hac
              repeat (go_big_quiet_step (fail))
              refine wpQuiet_nil ?_
              rintro _ ⟨p, rfl⟩
              have HB2 : Hid (Below wh.heap.size wh p.w) := HBL.out.trans (p.bel.mono sg)
              have bq : Below wr.heap.size wr p.w := p.bel
              clear hac hne
              generalize p.w = wq at *
              clear bq
              go_wp2_with fail
              go_roundw
              case rel =>
                refine ⟨k + 1, by omega, by go_num, ?_, HB2.out⟩
                rw [HS.out]
                rfl
              case measure => simp [intOf]; omega
          · have hkn : m = k := by omega
            subst hkn
            have hall : hasK xs (pl, pn) m = H1 := by rw [HM.out, hasK_all, HP.out.2.2.2]
            rw [hall]
            clear hall
            cases hH : H1
            · subst hH
              have hmem : (pl, pn) ∉ xs := by have := HP.out.2.2.2; intro h; simp [h] at this
              by_cases hmz : m < zn
              · obtain rfl : x1 = m + 1 := by
                  rw [HL1.out, HP.out.2.2.1, useL_out hmem, List.length_take, List.length_cons, ← HM.out]
                  omega
                have hmi : (m : Int) < (zn : Int) := by omega
                clear hmem
                go_wp2_with fail
                go_ret
                exact ⟨rfl, (HV.out _ BB).2.2⟩
              · have hmm : zn = m := by have := HP.out.2.1; rw [← HM.out] at this; omega
                obtain rfl : m = x1 := by
                  rw [HL1.out, HP.out.2.2.1, useL_out hmem, List.length_take, List.length_cons, ← HM.out]
                  omega
                have hm0 : 0 < m := by omega
                have hlast : ∃ y, xs[m - 1]? = some y := ⟨_, List.getElem?_eq_getElem (by rw [← HM.out]; omega)⟩
                obtain ⟨⟨y0, y1⟩, hy⟩ := hlast
                have HY : Hid (xs[m - 1]? = some (y0, y1) ∧ (y0, y1) ∉ X1) := ⟨hy, by
                  rw [HP.out.2.2.1, hmm, HM.out]
                  refine useL_last HP.out.1 hmem (by rw [← HM.out]; exact hm0) ?_
                  rw [← HM.out]; exact hy⟩
                clear hy hmem hmz
                have hmi : ¬ (m : Int) < (zn : Int) := by omega
                have hmi2 : ((m : Int) < (zn : Int)) = False := by simp [hmi]
                go_wp2_with fail
                go_loopw [12] (fun i wr2 => ∃ j : Nat, j ≤ m ∧ i = .int .i64 j ∧ Below wr.heap.size wr wr2) (fun i _ => m - (intOf i).toNat)
                case atStart => exact ⟨0, by omega, rfl, Below.refl _ _⟩
                case round =>
                  rename World => wr2
                  obtain ⟨j, hj, rfl, hbel⟩ := hrel
                  have HBJ : Hid (Below wr.heap.size wr wr2) := hbel
                  have sj : wr.heap.size ≤ wr2.heap.size := hbel.size
                  have d0 : wr2.cell? ⟨P0, 0, none⟩ = some (.int .i64 (zn : Int)) := (Below.celz hbel _ _ _ (by omega)).trans cc0
                  have d1 : wr2.cell? ⟨P0, 1, none⟩ = some (.slice ua m uc) := (Below.celz hbel _ _ _ (by omega)).trans cc1
                  have d2 : wr2.cell? ⟨P1, 0, none⟩ = some (.int .i64 pl) := (Below.celz hbel _ _ _ (by omega)).trans cc2
                  have d3 : wr2.cell? ⟨P1, 1, none⟩ = some (.int .i64 pn) := (Below.celz hbel _ _ _ (by omega)).trans cc3
                  have d4 : wr2.cell? ⟨P2, 0, none⟩ = some (.int .i64 Z1) := (Below.celz hbel _ _ _ (by omega)).trans cc4
                  have d5 : wr2.cell? ⟨P2, 1, none⟩ = some (.slice pa m pb) := (Below.celz hbel _ _ _ (by omega)).trans cc5
                  have d6 : wr2.cell? ⟨P3, 0, none⟩ = some (.int .i64 Z1) := (Below.celz hbel _ _ _ (by omega)).trans cc6
                  have d7 : wr2.cell? ⟨P3, 1, none⟩ = some (.slice qa m qb) := (Below.celz hbel _ _ _ (by omega)).trans cc7
                  have y0 : P0 < wr2.heap.size := by have := Below.size hbel; omega
                  have y1 : P1 < wr2.heap.size := by have := Below.size hbel; omega
                  have y2 : P2 < wr2.heap.size := by have := Below.size hbel; omega
                  have y3 : P3 < wr2.heap.size := by have := Below.size hbel; omega
                  have BB1 : Below A wa wr2 := BB.trans (hbel.mono (by omega))
                  have sA1 : A ≤ wr2.heap.size := by have := Below.size hbel; omega
                  have q0 : Hid (RowAt 2 encPage wr2 (.slice pa m pb) X1) := HXX.out.keep hbel
                  clear BB sA cc0 cc1 cc2 cc3 cc4 cc5 cc6 cc7 zz0 zz1 zz2 zz3 HXX
                  have cc0 := d0
                  have cc1 := d1
                  have cc2 := d2
                  have cc3 := d3
                  have cc4 := d4
                  have cc5 := d5
                  have cc6 := d6
                  have cc7 := d7
                  have zz0 := y0
                  have zz1 := y1
                  have zz2 := y2
                  have zz3 := y3
                  have HXX := q0
                  have BB := BB1
                  have sA := sA1
                  clear BB1 sA1 d0 d1 d2 d3 d4 d5 d6 d7 y0 y1 y2 y3 q0
                  clear hbel
                  by_cases hlt2 : j < m
                  · rcases (HV.out wr2 BB).1.1 with ⟨hz0, _⟩ | ⟨_, b, off, cap', hv, hb, hc⟩
                    · exfalso; have := HM.out; rw [hz0] at this; simp at this; omega
                    simp only [Value.slice.injEq] at hv
                    obtain ⟨rfl, -, hcc⟩ := hv
                    subst hcc
                    have f0 : wr2.cell? ⟨b, off + (m - 1) * 2, none⟩ = some (.int .i64 y0) := hc (m - 1) _ HY.out.1 0 _ rfl
                    have f1 : wr2.cell? ⟨b, off + (m - 1) * 2 + 1, none⟩ = some (.int .i64 y1) := hc (m - 1) _ HY.out.1 1 _ rfl
                    clear hc
                    rcases HXX.out with ⟨hz0, _⟩ | ⟨_, b2, off2, cap2, hv, hb2, hc⟩
                    · exfalso; have := HL1.out; rw [hz0] at this; simp at this; omega
                    rw [← HL1.out] at hv
                    simp only [Value.slice.injEq] at hv
                    obtain ⟨rfl, -, hcc⟩ := hv
                    subst hcc
                    obtain ⟨⟨m0, m1⟩, hx⟩ : ∃ x, X1[j]? = some x := ⟨_, List.getElem?_eq_getElem (by rw [← HL1.out]; exact hlt2)⟩
                    have e0 : wr2.cell? ⟨b2, off2 + j * 2, none⟩ = some (.int .i64 m0) := hc j _ hx 0 _ rfl
                    have e1 : wr2.cell? ⟨b2, off2 + j * 2 + 1, none⟩ = some (.int .i64 m1) := hc j _ hx 1 _ rfl
                    have HNE : Hid ((m0, m1) ≠ (y0, y1)) := fun e => HY.out.2 (e ▸ List.mem_of_getElem? hx)
                    clear hx hc
                    have j0 : (0 : Int) ≤ (j : Int) := by omega
                    have j1 : (j : Int) < (m : Int) := by omega
                    have jm0 : (0 : Int) ≤ (m : Int) - 1 := by omega
                    have jm1 : (m : Int) - 1 < (m : Int) := by omega
                    have jm2 : ((m : Int) - 1).toNat = m - 1 := by omega
                    by_cases e : m0 = y0
                    · subst e
                      have e2 : m1 ≠ y1 := fun h => HNE.out (by rw [h])
                      have d0 : (m1 == y1) = false := beq_eq_false_iff_ne.2 e2
                      have d1 : decide (m1 = y1) = false := by simpa using e2
                      clear e2
                      go_wp2_with fail
                      refine wp_region_after (by kernel_rfl) (by kernel_rfl) ?_
                      intro hne hac
                      repeat (go_big_quiet_step (fail))
                      refine wpQuiet_nil ?_
                      rintro _ ⟨p, rfl⟩
                      have HB2 : Hid (Below wr.heap.size wr p.w) := HBJ.out.trans (p.bel.mono sj)
                      have bq : Below wr2.heap.size wr2 p.w := p.bel
                      clear hac hne
                      generalize p.w = wq at *
                      clear bq
                      go_wp2_with fail
                      go_roundw
                      case rel => exact ⟨j + 1, by omega, by go_num, HB2.out⟩
                      case measure => simp [intOf]; omega
                    · have d0 : (m0 == y0) = false := beq_eq_false_iff_ne.2 e
                      have d1 : decide (m0 = y0) = false := by simpa using e
                      clear e
                      go_wp2_with fail
                      refine wp_region_after (by kernel_rfl) (by kernel_rfl) ?_
                      intro hne hac
                      repeat (go_big_quiet_step (fail))
                      refine wpQuiet_nil ?_
                      rintro _ ⟨p, rfl⟩
                      have HB2 : Hid (Below wr.heap.size wr p.w) := HBJ.out.trans (p.bel.mono sj)
                      have bq : Below wr2.heap.size wr2 p.w := p.bel
                      clear hac hne
                      generalize p.w = wq at *
                      clear bq
                      go_wp2_with fail
                      go_roundw
                      case rel => exact ⟨j + 1, by omega, by go_num, HB2.out⟩
                      case measure => simp [intOf]; omega
                  · have hjm : m = j := by omega
                    subst hjm
                    go_wp2_with fail
                    go_ret
                    exact ⟨rfl, (HV.out _ BB).2.2⟩
            · subst hH
              have hmem : (pl, pn) ∈ xs := by have := HP.out.2.2.2; simpa using this.symm
              obtain rfl : m = x1 := by
                rw [HL1.out, HP.out.2.2.1, useL_in HP.out.1 HP.out.2.1 hmem, ← HM.out]
              clear hmem
              go_wp2_with fail
              go_ret
              exact ⟨rfl, (HV.out _ BB).2.2⟩

theorem door_met (os : Os) (args : Array Value) : laidMetH Tryd.prog Rows.fnPoolHitRow.laid ((World.doorLaid Tryd.prog 28 os).forCall (fun _ _ => 0) ⟨#[], args, []⟩).memory :=
  laidMetH_of_parts3 (fuel := 8) (laidMet_of_run' 8 (by kernel_rfl) (by kernel_rfl)) (by kernel_rfl) (by kernel_rfl)

set_option maxRecDepth 100000 in
set_option maxHeartbeats 1000000 in
theorem lifted (os : Os) (started : os.Started) (H : Type) (enc : TypeId × Value → H) :
    ReturnsInHanded {} Tryd.checked os 4 .any (fun w args => (Rows.fnPoolHitSpec.pre enc Tryd.prog Tryd.f4 [] false w args ∧ laidMetH Tryd.prog Rows.fnPoolHitRow.laid w) ∧ sizedMet enc Tryd.prog Tryd.f4 (OpenSpec.ofChange Rows.fnPoolHitSpec) false w args)
      (Rows.fnPoolHitSpec.post enc Tryd.prog Tryd.f4 false true false false) := by
  refine returnsInHanded_of_change_and (C := Tryd.checked) (X := fun w _ => laidMetH Tryd.prog Rows.fnPoolHitRow.laid w) (fun _ _ _ hh h => h.of_heap hh) own started (by kernel_rfl) Tryd.func4
    (ChangeSpec.witness_shaped (enc := enc) (C := Tryd.checked) (os := os) (X := fun w _ => laidMetH Tryd.prog Rows.fnPoolHitRow.laid w) false (World.doorLaid Tryd.prog 28 os) #[.slice none 0 0] 8 rfl (World.shaped_of_RefB (by kernel_rfl) (by kernel_rfl)) (by kernel_rfl) (by kernel_rfl) (by kernel_rfl) (door_met os _)) ?_
  intro W base args ds gs before hval0 hW _ _ hL _
  have hval : ∀ (j : Nat) t v, Tryd.f4.params[j]? = some t → args[j]? = some v → Value.okWide Tryd.prog W .any base t v := hval0
  have hW' := hW
  obtain ⟨p, q, hA0, hV0, rfl, hfz, hnd⟩ := hW
  have hA : DataW.TrodAll enc Tryd.prog W 0 (fun _ => true) true Tryd.f4.params.toList args.toList ds p := hA0
  have hV : DataW.TrodVars enc Tryd.prog W (fun _ => true) ["loop.example/hagioscope/impl.errForm"] gs q := hV0
  rw [Tryd.params4] at hA hval
  obtain ⟨v0, vs0, d0, ds0, p0, q0, hargs, rfl, rfl, h0, r0⟩ := trodAll_cons hA
  obtain ⟨rfl, rfl, rfl⟩ := trodAll_nil r0
  obtain rfl : args = #[v0] := by cases args; simp_all
  have kr0 := h0
  have lt0 : ∀ x ∈ p0, x.block < W.heap.size := by obtain ⟨m, hm⟩ := kr0; exact DataW.trod_lt m _ _ _ hm
  obtain ⟨a0, len0, cap0, rfl⟩ := okWide_slice Tryd.underlying22 (hval 0 22 v0 rfl rfl)
  obtain ⟨z0, w0⟩ : ∃ zs, IsRow .u8 W a0 len0 cap0 zs := by
    obtain ⟨fuel, hf⟩ := h0
    rcases open_ints Tryd.underlying22 Tryd.underlying5 (by kernel_rfl) hf with ⟨hcs, _⟩ | ⟨x, l, c, zs, hcs, _, hl, hm, hz, _, hcell, hwz⟩
    · simp [Value.cells] at hcs
      obtain ⟨rfl, rfl, rfl⟩ := hcs
      exact ⟨[], .inl ⟨rfl, rfl, rfl, rfl⟩⟩
    · simp [Value.cells] at hcs
      obtain ⟨rfl, rfl, rfl⟩ := hcs
      exact ⟨zs, .inr ⟨_, rfl, hl, hm, by simpa using hz, hcell, hwz⟩⟩
  obtain ⟨g, t, cs, fuel, d, p', rfl, hg, ht, hvar, hd, rfl⟩ := trodVars_one hV
  obtain rfl := Option.some.inj (gForm.symm.trans hg)
  obtain rfl := Option.some.inj (tForm.symm.trans ht)
  obtain ⟨fu, fv, hff⟩ := form_of hL
  obtain rfl : cs = #[.iface fu fv] := Option.some.inj (hvar.symm.trans hff)
  have hform : FormAt W := formAt_of hff
  obtain ⟨_, _, hheap⟩ := heap_of_var gForm hff
  clear hA0 hV0 hval0
  refine (walk a0 len0 cap0 z0 W w0 hform).mono fun e W' ⟨he, bel⟩ => ?_
  subst he
  exact ⟨_, rfl, _, _, _, [], _, _, hW', trodAll_mk1 (shut_bool Tryd.underlying4 _), (trodAll_cons_mk (Below.trod laidOut (by kernel_rfl) (of_decide_eq_true (by kernel_rfl)) kr0 bel lt0) trodAll_mk0), trodVars_mk1 gForm tForm (var?_below bel gForm (lt_of_block hheap) hff) (held_again Tryd.underlying46 hd), bel.frame _, fun h => by cases h⟩

theorem said : Rows.FnPoolHitSaid :=
  OpenClaim.holds_of_wide 4 Tryd.f4 rfl rfl rfl rfl rfl rfl rfl ⟨rfl, rfl, rfl, rfl, rfl⟩ rfl rfl rfl rfl rfl (by kernel_rfl) Tryd.func4 (by kernel_rfl)
    (of_decide_eq_true (by kernel_rfl)) (by unfold Func.isWrapper; first | (rw [if_pos (by decide +kernel)]; kernel_rfl) | (rw [if_neg (by decide +kernel)]; exact ⟨rfl, rfl⟩))
    (fun os started H enc _ => lifted os started H enc)

theorem plain (f : FuncId) (fn : Func) (hf : Tryd.pinned.checked.prog.funcNamed "loop.example/hagioscope/laws.FnPoolHit" = some f) (hfn : Tryd.pinned.checked.prog.funcs[f]? = some fn) :
    false = Tryd.pinned.checked.prog.looks [] ∧ ∀ (j : Nat) t, fn.params[j]? = some t → Tryd.pinned.checked.prog.wantsStandIn t = false := by
  obtain rfl : f = 4 := Option.some.inj ((show Tryd.prog.funcNamed "loop.example/hagioscope/laws.FnPoolHit" = some 4 by kernel_rfl).symm.trans hf) |>.symm
  obtain rfl : fn = Tryd.f4 := (Option.some.inj (Tryd.func4.symm.trans hfn)).symm
  refine ⟨by kernel_rfl, fun j t ht => ?_⟩
  rw [Tryd.params4] at ht
  obtain rfl : t = 22 := by simpa using Array.mem_of_getElem? ht
  · exact (show Tryd.prog.wantsStandIn 22 = false by kernel_rfl)

end Go.Proofs.YtlfgcchnboaflabDoor.fnPoolHit
namespace Go.Proofs.YtlfgcchnboaflabDoor
theorem fnPoolHit_card : Rows.FnPoolHitCardSaid :=
  Claim7.holds_tied_plain_at .later [] _ _ _ _ fnPoolHit.said (fun _ h => by cases h) (by kernel_rfl) (fun _ h => by cases h) fnPoolHit_row_tie rfl ⟨rfl, rfl⟩ (by kernel_rfl) rfl fnPoolHit.plain (by kernel_rfl)
#print axioms fnPoolHit_card
end Go.Proofs.YtlfgcchnboaflabDoor
