/-
  
-/
import Derived.Test.YtlfgcchnboaflaaDoorCards
import Derived.Test.YtlfgcchnboaflaaDoorTie
import Derived.Test.YtlfgcchnboaflaaDoorSta
import Derived.Test.YtlfgcchnboaflaaDoorDpu
import Derived.WalkKit
import Derived.ProofKit
import Derived.OpenShut
import Derived.ShutString
import Derived.ChangeOld
import Derived.Below
import Derived.Carry
import Derived.Handy
import Derived.Deep.RegionHeld3
import Derived.LaidMore
namespace Go.Proofs.YtlfgcchnboaflaaDoor.fnPoolLast
open Go.Proofs.YtlfgcchnboaflaaDoor.Lab
open Go.ChangeShapes Go.WideShapes Go.ChangeAt Go.RowKit
open Go.ChangeMaps (open_string shut_string)
set_option linter.unusedVariables false

theorem own : ownKnob Tryd.prog.godebug = none := by kernel_rfl
/-- A row of numbers that came in: nil, or so many cells. -/
def IsRow (k : IntKind) (w : World) (a : Option Addr) (len cap : Nat) (zs : List Int) : Prop :=
  (a = none ∧ len = 0 ∧ cap = 0 ∧ zs = []) ∨ ∃ x, a = some x ∧ len ≤ cap ∧ cap ≤ maxLen ∧ zs.length = cap ∧ (∀ i, i < zs.length → w.cell? (x.add i) = some (.int k (zs.getD i 0))) ∧ ∀ n ∈ zs, (Lit.int k n).wf = true

set_option maxRecDepth 16000 in
set_option maxHeartbeats 8000000 in
theorem walk (a0 : Option Addr) (len0 cap0 : Nat) (z0 : List Int) (w : World) (w0 : IsRow .u8 w a0 len0 cap0 z0) (hform : FormAt w) :
    Calls Tryd.prog 6 #[.slice a0 len0 cap0] w fun e w' => e = .returned (.bool true) ∧ Below w.heap.size w w' := by
  have HF : Hid (FormAt w) := hform
  clear hform
  by_cases hlen0 : len0 > 1048576
  · go_enter Tryd.func6, Tryd.ntmps6
    go_wp2
    go_ret
    exact ⟨rfl, Below.refl _ _⟩
  have k0 : CodeAt w a0 len0 cap0 z0 := code_of w0
  clear w0
  go_enter Tryd.func6, Tryd.ntmps6
  go_wp2_with fail
  refine (drawPoolAll _ _ _ _ _ k0).mono ?_
  rintro e wa ⟨zz, u, v, xs, ls, rfl, ou, ov, lx, ll, hz, ba⟩
  obtain ⟨va, vc, rfl⟩ := ov.form
  obtain ⟨ua, uc, rfl⟩ := ou.form
  obtain ⟨n, hn⟩ : ∃ n, n = ls.length := ⟨_, rfl⟩
  obtain ⟨m, hm⟩ : ∃ m, m = xs.length := ⟨_, rfl⟩
  have HN : Hid (n = ls.length ∧ m = xs.length) := ⟨hn, hm⟩
  rw [← hn] at ll ov ⊢
  rw [← hm] at lx ou ⊢
  obtain ⟨A, hA⟩ : ∃ t, t = wa.heap.size := ⟨_, rfl⟩
  have HA : Hid (A = wa.heap.size) := hA
  have BB : Below A wa wa := Below.refl _ _
  have sA : A ≤ wa.heap.size := by omega
  have HV : Hid (∀ W, Below A wa W → RowC W (.slice ua m uc) xs ∧ RowAt 2 encPage W (.slice va n vc) ls ∧ FormAt W ∧ Below w.heap.size w W) := fun W h => by
    rw [HA.out] at h
    exact ⟨(RowC.of_own ou).keep h, OwnPool.row (by rw [hn] at ov; rw [hn]; exact ov) |>.keep h, (HF.out.keep ba).keep h, ba.trans (h.mono ba.size)⟩
  clear ou ov ba k0 hn hm HF hA
  go_wp2_with fail
  obtain ⟨P0, hP0⟩ : ∃ t, t = wa.heap.size := ⟨_, rfl⟩
  generalize hW : wa.alloc (.cells #[.int .i64 zz, .slice ua m uc] 25) = wb
  have nb : Below wa.heap.size wa wb := by rw [← hW]; exact (Below.refl _ _).alloc (Nat.le_refl _) _
  have k3 : wb.heap.size = P0 + 1 := by rw [← hW, hP0]; simp
  have kk0 : wb.cell? ⟨P0, 0, none⟩ = some (.int .i64 zz) := by rw [← hW, hP0]; simp [go_sem]
  have kk1 : wb.cell? ⟨P0, 1, none⟩ = some (.slice ua m uc) := by rw [← hW, hP0]; simp [go_sem]
  have oP0A : A ≤ P0 := by rw [hP0]; exact sA
  have BB1 : Below A wa wb := BB.trans (nb.mono (by omega))
  have sA1 : A ≤ wb.heap.size := by have := Below.size nb; omega
  clear BB sA   
  have BB := BB1
  have sA := sA1
  clear BB1 sA1   
  have cc0 := kk0
  have cc1 := kk1
  have zz0 : P0 < wb.heap.size := by omega
  rw [← hP0]
  have k3P0 := k3
  clear k3 hW nb hP0 kk0 kk1
  obtain ⟨Z1, X1, N1, HX, lX, lN, HC1, HD1⟩ : ∃ (Z1 : Int) (X1 : List (Int × Int)) (N1 : Nat), Hid (Z1 = paZ zz xs ls ∧ X1 = paL zz xs ls ∧ N1 = paN zz xs ls) ∧ X1.length ≤ 12 ∧ N1 ≤ 24
      ∧ Hid (∀ W, Below A wa W → Calls Tryd.prog 18 #[.agg #[.int .i64 zz, .slice ua m uc], .slice va n vc] W fun e w' => ∃ u, e = .returned (.tuple #[.agg #[.int .i64 Z1, u], .int .i64 N1]) ∧ OwnPool w' W.heap.size u X1 ∧ Below W.heap.size W w')
      ∧ Hid (∀ W, Below A wa W → Calls Tryd.prog 19 #[.agg #[.int .i64 zz, .slice ua m uc], .slice va n vc] W fun e w' => ∃ u, e = .returned (.tuple #[.agg #[.int .i64 Z1, u], .int .i64 N1]) ∧ OwnPool w' W.heap.size u X1 ∧ Below W.heap.size W w') :=
    ⟨_, _, _, ⟨rfl, rfl, rfl⟩, paL_len _ _ _, by have := paN_le zz xs ls; rw [← HN.out.1] at this; omega, fun W h => impl_PoolAll zz _ _ xs ls W (HV.out _ h).1.1 (HV.out _ h).2.1 (by rw [← HN.out.2]; omega) (by rw [← HN.out.1]; omega) (HV.out _ h).2.2.1, fun W h => spec_PoolAll zz _ _ xs ls W (HV.out _ h).1 (HV.out _ h).2.1 (by rw [← HN.out.2]; omega) (by rw [← HN.out.1]; omega)⟩
  obtain ⟨x1, hx1⟩ : ∃ t, t = X1.length := ⟨_, rfl⟩
  have HL1 : Hid (x1 = X1.length) := hx1
  have lx1 : x1 ≤ 12 := by omega
  clear lX hx1
  refine (HC1.out _ BB).mono ?_
  rintro e wc ⟨u, rfl, ou, bc⟩
  have d0 : wc.cell? ⟨P0, 0, none⟩ = some (.int .i64 zz) := (Below.celz bc _ _ _ (by omega)).trans cc0
  have d1 : wc.cell? ⟨P0, 1, none⟩ = some (.slice ua m uc) := (Below.celz bc _ _ _ (by omega)).trans cc1
  have y0 : P0 < wc.heap.size := by have := Below.size bc; omega
  have BB1 : Below A wa wc := BB.trans (bc.mono (by omega))
  have sA1 : A ≤ wc.heap.size := by have := Below.size bc; omega
  clear BB sA cc0 cc1 zz0 
  have cc0 := d0
  have cc1 := d1
  have zz0 := y0
  have BB := BB1
  have sA := sA1
  clear BB1 sA1 d0 d1 y0 
  clear bc
  obtain ⟨pa, pb, rfl⟩ := ou.form
  rw [← HL1.out] at ou ⊢
  have HRC0 := RowC.of_own ou
  have HXX : Hid (RowC wc (.slice pa x1 pb) X1) := HRC0
  clear ou HRC0
  go_wp2_with fail
  obtain ⟨P1, hP1⟩ : ∃ t, t = wc.heap.size := ⟨_, rfl⟩
  generalize hW : wc.alloc (.cells #[.int .i64 Z1, .slice pa x1 pb] 25) = wd
  have nb : Below wc.heap.size wc wd := by rw [← hW]; exact (Below.refl _ _).alloc (Nat.le_refl _) _
  have k3 : wd.heap.size = P1 + 1 := by rw [← hW, hP1]; simp
  have kk0 : wd.cell? ⟨P1, 0, none⟩ = some (.int .i64 Z1) := by rw [← hW, hP1]; simp [go_sem]
  have kk1 : wd.cell? ⟨P1, 1, none⟩ = some (.slice pa x1 pb) := by rw [← hW, hP1]; simp [go_sem]
  have oP1A : A ≤ P1 := by rw [hP1]; exact sA
  have oP10 : P0 < P1 := by rw [hP1]; exact zz0
  have d0 : wd.cell? ⟨P0, 0, none⟩ = some (.int .i64 zz) := (Below.celz nb _ _ _ (by omega)).trans cc0
  have d1 : wd.cell? ⟨P0, 1, none⟩ = some (.slice ua m uc) := (Below.celz nb _ _ _ (by omega)).trans cc1
  have y0 : P0 < wd.heap.size := by have := Below.size nb; omega
  have BB1 : Below A wa wd := BB.trans (nb.mono (by omega))
  have sA1 : A ≤ wd.heap.size := by have := Below.size nb; omega
  have q0 : Hid (RowC wd (.slice pa x1 pb) X1) := HXX.out.keep nb
  clear BB sA cc0 cc1 zz0 HXX
  have cc0 := d0
  have cc1 := d1
  have zz0 := y0
  have HXX := q0
  have BB := BB1
  have sA := sA1
  clear BB1 sA1 d0 d1 y0 q0
  have cc2 := kk0
  have cc3 := kk1
  have zz1 : P1 < wd.heap.size := by omega
  rw [← hP1]
  have k3P1 := k3
  clear k3 hW nb hP1 kk0 kk1
  refine (HD1.out _ BB).mono ?_
  rintro e we ⟨u, rfl, ou, be⟩
  have d0 : we.cell? ⟨P0, 0, none⟩ = some (.int .i64 zz) := (Below.celz be _ _ _ (by omega)).trans cc0
  have d1 : we.cell? ⟨P0, 1, none⟩ = some (.slice ua m uc) := (Below.celz be _ _ _ (by omega)).trans cc1
  have d2 : we.cell? ⟨P1, 0, none⟩ = some (.int .i64 Z1) := (Below.celz be _ _ _ (by omega)).trans cc2
  have d3 : we.cell? ⟨P1, 1, none⟩ = some (.slice pa x1 pb) := (Below.celz be _ _ _ (by omega)).trans cc3
  have y0 : P0 < we.heap.size := by have := Below.size be; omega
  have y1 : P1 < we.heap.size := by have := Below.size be; omega
  have BB1 : Below A wa we := BB.trans (be.mono (by omega))
  have sA1 : A ≤ we.heap.size := by have := Below.size be; omega
  have q0 : Hid (RowC we (.slice pa x1 pb) X1) := HXX.out.keep be
  clear BB sA cc0 cc1 cc2 cc3 zz0 zz1 HXX
  have cc0 := d0
  have cc1 := d1
  have cc2 := d2
  have cc3 := d3
  have zz0 := y0
  have zz1 := y1
  have HXX := q0
  have BB := BB1
  have sA := sA1
  clear BB1 sA1 d0 d1 d2 d3 y0 y1 q0
  clear be
  obtain ⟨qa, qb, rfl⟩ := ou.form
  rw [← HL1.out] at ou ⊢
  have HYY : Hid (RowAt 2 encPage we (.slice qa x1 qb) X1) := by have := ou.row; exact this
  clear ou
  go_wp2_with fail
  obtain ⟨P2, hP2⟩ : ∃ t, t = we.heap.size := ⟨_, rfl⟩
  generalize hW : we.alloc (.cells #[.int .i64 Z1, .slice qa x1 qb] 25) = wf
  have nb : Below we.heap.size we wf := by rw [← hW]; exact (Below.refl _ _).alloc (Nat.le_refl _) _
  have k3 : wf.heap.size = P2 + 1 := by rw [← hW, hP2]; simp
  have kk0 : wf.cell? ⟨P2, 0, none⟩ = some (.int .i64 Z1) := by rw [← hW, hP2]; simp [go_sem]
  have kk1 : wf.cell? ⟨P2, 1, none⟩ = some (.slice qa x1 qb) := by rw [← hW, hP2]; simp [go_sem]
  have oP2A : A ≤ P2 := by rw [hP2]; exact sA
  have oP20 : P0 < P2 := by rw [hP2]; exact zz0
  have oP21 : P1 < P2 := by rw [hP2]; exact zz1
  have d0 : wf.cell? ⟨P0, 0, none⟩ = some (.int .i64 zz) := (Below.celz nb _ _ _ (by omega)).trans cc0
  have d1 : wf.cell? ⟨P0, 1, none⟩ = some (.slice ua m uc) := (Below.celz nb _ _ _ (by omega)).trans cc1
  have d2 : wf.cell? ⟨P1, 0, none⟩ = some (.int .i64 Z1) := (Below.celz nb _ _ _ (by omega)).trans cc2
  have d3 : wf.cell? ⟨P1, 1, none⟩ = some (.slice pa x1 pb) := (Below.celz nb _ _ _ (by omega)).trans cc3
  have y0 : P0 < wf.heap.size := by have := Below.size nb; omega
  have y1 : P1 < wf.heap.size := by have := Below.size nb; omega
  have BB1 : Below A wa wf := BB.trans (nb.mono (by omega))
  have sA1 : A ≤ wf.heap.size := by have := Below.size nb; omega
  have q0 : Hid (RowC wf (.slice pa x1 pb) X1) := HXX.out.keep nb
  have q1 : Hid (RowAt 2 encPage wf (.slice qa x1 qb) X1) := HYY.out.keep nb
  clear BB sA cc0 cc1 cc2 cc3 zz0 zz1 HXX HYY
  have cc0 := d0
  have cc1 := d1
  have cc2 := d2
  have cc3 := d3
  have zz0 := y0
  have zz1 := y1
  have HXX := q0
  have HYY := q1
  have BB := BB1
  have sA := sA1
  clear BB1 sA1 d0 d1 d2 d3 y0 y1 q0 q1
  have cc4 := kk0
  have cc5 := kk1
  have zz2 : P2 < wf.heap.size := by omega
  rw [← hP2]
  have k3P2 := k3
  clear k3 hW nb hP2 kk0 kk1
  have hne : ((N1 : Int) != (N1 : Int)) = false := by simp
  have hne2 : ((N1 : Int) == (N1 : Int)) = true := by simp
  clear k3P0 k3P1 k3P2
  go_wp2_with fail
  refine (impl_PoolSame_same Z1 _ _ X1 _ HXX.out.1 HYY.out (by rw [← HL1.out]; omega)).mono ?_
  rintro e wg ⟨rfl, bg⟩
  have d0 : wg.cell? ⟨P0, 0, none⟩ = some (.int .i64 zz) := (Below.celz bg _ _ _ (by omega)).trans cc0
  have d1 : wg.cell? ⟨P0, 1, none⟩ = some (.slice ua m uc) := (Below.celz bg _ _ _ (by omega)).trans cc1
  have d2 : wg.cell? ⟨P1, 0, none⟩ = some (.int .i64 Z1) := (Below.celz bg _ _ _ (by omega)).trans cc2
  have d3 : wg.cell? ⟨P1, 1, none⟩ = some (.slice pa x1 pb) := (Below.celz bg _ _ _ (by omega)).trans cc3
  have d4 : wg.cell? ⟨P2, 0, none⟩ = some (.int .i64 Z1) := (Below.celz bg _ _ _ (by omega)).trans cc4
  have d5 : wg.cell? ⟨P2, 1, none⟩ = some (.slice qa x1 qb) := (Below.celz bg _ _ _ (by omega)).trans cc5
  have y0 : P0 < wg.heap.size := by have := Below.size bg; omega
  have y1 : P1 < wg.heap.size := by have := Below.size bg; omega
  have y2 : P2 < wg.heap.size := by have := Below.size bg; omega
  have BB1 : Below A wa wg := BB.trans (bg.mono (by omega))
  have sA1 : A ≤ wg.heap.size := by have := Below.size bg; omega
  have q0 : Hid (RowC wg (.slice pa x1 pb) X1) := HXX.out.keep bg
  have q1 : Hid (RowAt 2 encPage wg (.slice qa x1 qb) X1) := HYY.out.keep bg
  clear BB sA cc0 cc1 cc2 cc3 cc4 cc5 zz0 zz1 zz2 HXX HYY
  have cc0 := d0
  have cc1 := d1
  have cc2 := d2
  have cc3 := d3
  have cc4 := d4
  have cc5 := d5
  have zz0 := y0
  have zz1 := y1
  have zz2 := y2
  have HXX := q0
  have HYY := q1
  have BB := BB1
  have sA := sA1
  clear BB1 sA1 d0 d1 d2 d3 d4 d5 y0 y1 y2 q0 q1
  clear bg
  cases hp : poolB zz xs
  · go_wp2_with fail
    have CP := spec_PoolOk zz _ xs _ (HV.out _ BB).1 (by rw [← HN.out.2]; omega)
    rw [hp] at CP
    refine (CP).mono ?_
    rintro e wh ⟨rfl, bh⟩
    have d0 : wh.cell? ⟨P0, 0, none⟩ = some (.int .i64 zz) := (Below.celz bh _ _ _ (by omega)).trans cc0
    have d1 : wh.cell? ⟨P0, 1, none⟩ = some (.slice ua m uc) := (Below.celz bh _ _ _ (by omega)).trans cc1
    have d2 : wh.cell? ⟨P1, 0, none⟩ = some (.int .i64 Z1) := (Below.celz bh _ _ _ (by omega)).trans cc2
    have d3 : wh.cell? ⟨P1, 1, none⟩ = some (.slice pa x1 pb) := (Below.celz bh _ _ _ (by omega)).trans cc3
    have d4 : wh.cell? ⟨P2, 0, none⟩ = some (.int .i64 Z1) := (Below.celz bh _ _ _ (by omega)).trans cc4
    have d5 : wh.cell? ⟨P2, 1, none⟩ = some (.slice qa x1 qb) := (Below.celz bh _ _ _ (by omega)).trans cc5
    have y0 : P0 < wh.heap.size := by have := Below.size bh; omega
    have y1 : P1 < wh.heap.size := by have := Below.size bh; omega
    have y2 : P2 < wh.heap.size := by have := Below.size bh; omega
    have BB1 : Below A wa wh := BB.trans (bh.mono (by omega))
    have sA1 : A ≤ wh.heap.size := by have := Below.size bh; omega
    have q0 : Hid (RowC wh (.slice pa x1 pb) X1) := HXX.out.keep bh
    have q1 : Hid (RowAt 2 encPage wh (.slice qa x1 qb) X1) := HYY.out.keep bh
    clear BB sA cc0 cc1 cc2 cc3 cc4 cc5 zz0 zz1 zz2 HXX HYY
    have cc0 := d0
    have cc1 := d1
    have cc2 := d2
    have cc3 := d3
    have cc4 := d4
    have cc5 := d5
    have zz0 := y0
    have zz1 := y1
    have zz2 := y2
    have HXX := q0
    have HYY := q1
    have BB := BB1
    have sA := sA1
    clear BB1 sA1 d0 d1 d2 d3 d4 d5 y0 y1 y2 q0 q1
    clear bh
    clear CP
    go_wp2_with fail
    refine (impl_PoolSame_same Z1 _ _ X1 _ HXX.out.1 HYY.out (by rw [← HL1.out]; omega)).mono ?_
    rintro e wi ⟨rfl, bi⟩
    have d0 : wi.cell? ⟨P0, 0, none⟩ = some (.int .i64 zz) := (Below.celz bi _ _ _ (by omega)).trans cc0
    have d1 : wi.cell? ⟨P0, 1, none⟩ = some (.slice ua m uc) := (Below.celz bi _ _ _ (by omega)).trans cc1
    have d2 : wi.cell? ⟨P1, 0, none⟩ = some (.int .i64 Z1) := (Below.celz bi _ _ _ (by omega)).trans cc2
    have d3 : wi.cell? ⟨P1, 1, none⟩ = some (.slice pa x1 pb) := (Below.celz bi _ _ _ (by omega)).trans cc3
    have d4 : wi.cell? ⟨P2, 0, none⟩ = some (.int .i64 Z1) := (Below.celz bi _ _ _ (by omega)).trans cc4
    have d5 : wi.cell? ⟨P2, 1, none⟩ = some (.slice qa x1 qb) := (Below.celz bi _ _ _ (by omega)).trans cc5
    have y0 : P0 < wi.heap.size := by have := Below.size bi; omega
    have y1 : P1 < wi.heap.size := by have := Below.size bi; omega
    have y2 : P2 < wi.heap.size := by have := Below.size bi; omega
    have BB1 : Below A wa wi := BB.trans (bi.mono (by omega))
    have sA1 : A ≤ wi.heap.size := by have := Below.size bi; omega
    have q0 : Hid (RowC wi (.slice pa x1 pb) X1) := HXX.out.keep bi
    have q1 : Hid (RowAt 2 encPage wi (.slice qa x1 qb) X1) := HYY.out.keep bi
    clear BB sA cc0 cc1 cc2 cc3 cc4 cc5 zz0 zz1 zz2 HXX HYY
    have cc0 := d0
    have cc1 := d1
    have cc2 := d2
    have cc3 := d3
    have cc4 := d4
    have cc5 := d5
    have zz0 := y0
    have zz1 := y1
    have zz2 := y2
    have HXX := q0
    have HYY := q1
    have BB := BB1
    have sA := sA1
    clear BB1 sA1 d0 d1 d2 d3 d4 d5 y0 y1 y2 q0 q1
    clear bi
    go_wp2_with fail
    go_ret
    exact ⟨rfl, (HV.out _ BB).2.2.2⟩
  · go_wp2_with fail
    have CP := spec_PoolOk zz _ xs _ (HV.out _ BB).1 (by rw [← HN.out.2]; omega)
    rw [hp] at CP
    refine (CP).mono ?_
    rintro e wh ⟨rfl, bh⟩
    have d0 : wh.cell? ⟨P0, 0, none⟩ = some (.int .i64 zz) := (Below.celz bh _ _ _ (by omega)).trans cc0
    have d1 : wh.cell? ⟨P0, 1, none⟩ = some (.slice ua m uc) := (Below.celz bh _ _ _ (by omega)).trans cc1
    have d2 : wh.cell? ⟨P1, 0, none⟩ = some (.int .i64 Z1) := (Below.celz bh _ _ _ (by omega)).trans cc2
    have d3 : wh.cell? ⟨P1, 1, none⟩ = some (.slice pa x1 pb) := (Below.celz bh _ _ _ (by omega)).trans cc3
    have d4 : wh.cell? ⟨P2, 0, none⟩ = some (.int .i64 Z1) := (Below.celz bh _ _ _ (by omega)).trans cc4
    have d5 : wh.cell? ⟨P2, 1, none⟩ = some (.slice qa x1 qb) := (Below.celz bh _ _ _ (by omega)).trans cc5
    have y0 : P0 < wh.heap.size := by have := Below.size bh; omega
    have y1 : P1 < wh.heap.size := by have := Below.size bh; omega
    have y2 : P2 < wh.heap.size := by have := Below.size bh; omega
    have BB1 : Below A wa wh := BB.trans (bh.mono (by omega))
    have sA1 : A ≤ wh.heap.size := by have := Below.size bh; omega
    have q0 : Hid (RowC wh (.slice pa x1 pb) X1) := HXX.out.keep bh
    have q1 : Hid (RowAt 2 encPage wh (.slice qa x1 qb) X1) := HYY.out.keep bh
    clear BB sA cc0 cc1 cc2 cc3 cc4 cc5 zz0 zz1 zz2 HXX HYY
    have cc0 := d0
    have cc1 := d1
    have cc2 := d2
    have cc3 := d3
    have cc4 := d4
    have cc5 := d5
    have zz0 := y0
    have zz1 := y1
    have zz2 := y2
    have HXX := q0
    have HYY := q1
    have BB := BB1
    have sA := sA1
    clear BB1 sA1 d0 d1 d2 d3 d4 d5 y0 y1 y2 q0 q1
    clear bh
    clear CP
    by_cases hzz : Z1 = zz
    rotate_left
    · have hzb : (Z1 != zz) = true := by simpa using hzz
      have hzc : (Z1 == zz) = false := by simpa using hzz
      clear hzz
      go_wp2_with fail
      refine (impl_PoolSame_same Z1 _ _ X1 _ HXX.out.1 HYY.out (by rw [← HL1.out]; omega)).mono ?_
      rintro e wi ⟨rfl, bi⟩
      have d0 : wi.cell? ⟨P0, 0, none⟩ = some (.int .i64 zz) := (Below.celz bi _ _ _ (by omega)).trans cc0
      have d1 : wi.cell? ⟨P0, 1, none⟩ = some (.slice ua m uc) := (Below.celz bi _ _ _ (by omega)).trans cc1
      have d2 : wi.cell? ⟨P1, 0, none⟩ = some (.int .i64 Z1) := (Below.celz bi _ _ _ (by omega)).trans cc2
      have d3 : wi.cell? ⟨P1, 1, none⟩ = some (.slice pa x1 pb) := (Below.celz bi _ _ _ (by omega)).trans cc3
      have d4 : wi.cell? ⟨P2, 0, none⟩ = some (.int .i64 Z1) := (Below.celz bi _ _ _ (by omega)).trans cc4
      have d5 : wi.cell? ⟨P2, 1, none⟩ = some (.slice qa x1 qb) := (Below.celz bi _ _ _ (by omega)).trans cc5
      have y0 : P0 < wi.heap.size := by have := Below.size bi; omega
      have y1 : P1 < wi.heap.size := by have := Below.size bi; omega
      have y2 : P2 < wi.heap.size := by have := Below.size bi; omega
      have BB1 : Below A wa wi := BB.trans (bi.mono (by omega))
      have sA1 : A ≤ wi.heap.size := by have := Below.size bi; omega
      have q0 : Hid (RowC wi (.slice pa x1 pb) X1) := HXX.out.keep bi
      have q1 : Hid (RowAt 2 encPage wi (.slice qa x1 qb) X1) := HYY.out.keep bi
      clear BB sA cc0 cc1 cc2 cc3 cc4 cc5 zz0 zz1 zz2 HXX HYY
      have cc0 := d0
      have cc1 := d1
      have cc2 := d2
      have cc3 := d3
      have cc4 := d4
      have cc5 := d5
      have zz0 := y0
      have zz1 := y1
      have zz2 := y2
      have HXX := q0
      have HYY := q1
      have BB := BB1
      have sA := sA1
      clear BB1 sA1 d0 d1 d2 d3 d4 d5 y0 y1 y2 q0 q1
      clear bi
      go_wp2_with fail
      go_ret
      exact ⟨rfl, (HV.out _ BB).2.2.2⟩
    · obtain ⟨g1, g2, g3, g4, g5⟩ := poolB_true.1 hp
      obtain ⟨zn, rfl⟩ := Int.eq_ofNat_of_zero_le g1
      subst hzz
      have HP : Hid (poolB zn xs = true ∧ xs.Nodup ∧ xs.length ≤ zn ∧ X1 = (stk xs ls).take zn) := by
        obtain ⟨h1, h2, h3⟩ := HX.out
        refine ⟨hp, g5, by omega, ?_⟩
        rw [h2]
        exact paL_stk hp h1.symm
      have hzn : zn ≤ 12 := by omega
      have hzd : ((zn : Int) != (zn : Int)) = false := by simp
      clear g4 g5 hp
      go_wp2_with fail
      obtain ⟨i0, hi, hz0, hz1, hzz2⟩ := info_parts Tryd.infoPage
      obtain ⟨rs, hrs⟩ : ∃ t, t = ls.reverse := ⟨_, rfl⟩
      have HRS : Hid (rs = ls.reverse ∧ rs.length = n) := ⟨hrs, by rw [hrs, List.length_reverse, HN.out.1]⟩
      clear hrs
      have HSV : Hid ((wh.cell? ⟨P0, 0, none⟩ = some (.int .i64 (zn : Int))) ∧ (wh.cell? ⟨P0, 1, none⟩ = some (.slice ua m uc)) ∧ (wh.cell? ⟨P1, 0, none⟩ = some (.int .i64 (zn : Int))) ∧ (wh.cell? ⟨P1, 1, none⟩ = some (.slice pa x1 pb)) ∧ (wh.cell? ⟨P2, 0, none⟩ = some (.int .i64 (zn : Int))) ∧ (wh.cell? ⟨P2, 1, none⟩ = some (.slice qa x1 qb)) ∧ (P0 < wh.heap.size) ∧ (P1 < wh.heap.size) ∧ (P2 < wh.heap.size) ∧ (Below A wa wh) ∧ (A ≤ wh.heap.size) ∧ (Hid (RowC wh (.slice pa x1 pb) X1)) ∧ (Hid (RowAt 2 encPage wh (.slice qa x1 qb) X1))) := ⟨cc0, cc1, cc2, cc3, cc4, cc5, zz0, zz1, zz2, BB, sA, HXX, HYY⟩
      go_loopw [9, 10] (fun la i wr => ∃ a : Nat, a ≤ n ∧ i = .int .i64 ((n : Int) - 1 - a) ∧ Below wh.heap.size wh wr ∧ wr.ownsRow wh.heap.size 27 2 la ((rs.take a).foldl addD []).length (((rs.take a).foldl addD []).flatMap encPage)) (fun _ i _ => (intOf i + 1).toNat)
      case atStart => exact ⟨0, by omega, by go_num, (Below.refl _ _).alloc (Nat.le_refl _) _, by simpa using own_emptyP (new_block wh _) (Nat.le_refl _)⟩
      case round =>
        rename World => wrA
        obtain ⟨aA, ha, rfl, hbel, hown⟩ := hrel
        obtain ⟨ta, tc, rfl⟩ := own_form hown
        obtain ⟨AC, hAC⟩ : ∃ t, t = (rs.take aA).foldl addD [] := ⟨_, rfl⟩
        rw [← hAC] at hown ⊢
        obtain ⟨L, hL⟩ : ∃ t, t = AC.length := ⟨_, rfl⟩
        have HAC : Hid (AC = (rs.take aA).foldl addD [] ∧ L = AC.length) := ⟨hAC, hL⟩
        have hLn : L ≤ 24 := by rw [hL, hAC]; have h1 := fold_len [] (rs.take aA); rw [List.length_take, HRS.out.2] at h1; simp at h1; omega
        have HOW0 : OwnPool wrA wh.heap.size (.slice ta L tc) AC := by rw [hL]; exact hown
        rw [← hL]
        have HBL0 : OverB wh wrA := hbel
        clear hAC hL hown
        have d0 : wrA.cell? ⟨P0, 0, none⟩ = some (.int .i64 (zn : Int)) := (Below.celz hbel _ _ _ (by omega)).trans cc0
        have d1 : wrA.cell? ⟨P0, 1, none⟩ = some (.slice ua m uc) := (Below.celz hbel _ _ _ (by omega)).trans cc1
        have d2 : wrA.cell? ⟨P1, 0, none⟩ = some (.int .i64 (zn : Int)) := (Below.celz hbel _ _ _ (by omega)).trans cc2
        have d3 : wrA.cell? ⟨P1, 1, none⟩ = some (.slice pa x1 pb) := (Below.celz hbel _ _ _ (by omega)).trans cc3
        have d4 : wrA.cell? ⟨P2, 0, none⟩ = some (.int .i64 (zn : Int)) := (Below.celz hbel _ _ _ (by omega)).trans cc4
        have d5 : wrA.cell? ⟨P2, 1, none⟩ = some (.slice qa x1 qb) := (Below.celz hbel _ _ _ (by omega)).trans cc5
        have y0 : P0 < wrA.heap.size := by have := Below.size hbel; omega
        have y1 : P1 < wrA.heap.size := by have := Below.size hbel; omega
        have y2 : P2 < wrA.heap.size := by have := Below.size hbel; omega
        have BB1 : Below A wa wrA := BB.trans (hbel.mono (by omega))
        have sA1 : A ≤ wrA.heap.size := by have := Below.size hbel; omega
        have q0 : Hid (RowC wrA (.slice pa x1 pb) X1) := HXX.out.keep hbel
        have q1 : Hid (RowAt 2 encPage wrA (.slice qa x1 qb) X1) := HYY.out.keep hbel
        clear BB sA cc0 cc1 cc2 cc3 cc4 cc5 zz0 zz1 zz2 HXX HYY
        have cc0 := d0
        have cc1 := d1
        have cc2 := d2
        have cc3 := d3
        have cc4 := d4
        have cc5 := d5
        have zz0 := y0
        have zz1 := y1
        have zz2 := y2
        have HXX := q0
        have HYY := q1
        have BB := BB1
        have sA := sA1
        clear BB1 sA1 d0 d1 d2 d3 d4 d5 y0 y1 y2 q0 q1
        clear hbel
        have HOW : Hid (OwnPool wrA wh.heap.size (.slice ta L tc) AC) := HOW0
        have HBL : Hid (OverB wh wrA) := HBL0
        clear HOW0 HBL0
        by_cases hlt : aA < n
        · rcases (HV.out wa (Below.refl _ _)).2.1 with ⟨hz0, _⟩ | ⟨_, b, off, cap', hv, hb, hc⟩
          · exfalso; have := HN.out.1; rw [hz0] at this; simp at this; omega
          simp only [Value.slice.injEq] at hv
          obtain ⟨rfl, -, hcc⟩ := hv
          subst hcc
          have HROW : Hid (∀ W, Below A wa W → ∀ j x, ls[j]? = some x → W.cell? ⟨b, off + j * 2, none⟩ = some (.int .i64 x.1) ∧ W.cell? ⟨b, off + j * 2 + 1, none⟩ = some (.int .i64 x.2)) := fun W h j x hx => ⟨(Below.celz h _ _ _ (by rw [HA.out]; exact hb)).trans (hc j x hx 0 _ rfl), (Below.celz h _ _ _ (by rw [HA.out]; exact hb)).trans (hc j x hx 1 _ rfl)⟩
          have hbA : b < A := by rw [HA.out]; exact hb
          clear hc hb
          obtain ⟨⟨y0, y1⟩, hy⟩ : ∃ x, rs[aA]? = some x := ⟨_, List.getElem?_eq_getElem (by rw [HRS.out.2]; exact hlt)⟩
          have HY : Hid (rs[aA]? = some (y0, y1)) := hy
          have HYR : Hid (ls[(n - 1 - aA)]? = some (y0, y1)) := by
            have h := hy; rw [HRS.out.1, List.getElem?_reverse (by rw [← HN.out.1]; omega)] at h; rw [HN.out.1]; exact h
          clear hy
          have i0a : (0 : Int) ≤ ((n : Int) - 1 - aA) := by omega
          have i1a : ((n : Int) - 1 - aA) < (n : Int) := by omega
          have i2a : (((n : Int) - 1 - aA)).toNat = (n - 1 - aA) := by omega
          go_wp2_with fail
          go_loopw [11, 12] (fun s i wkA => ∃ jA : Nat, jA ≤ L ∧ i = .int .i64 jA ∧ s = .bool (hasK AC (y0, y1) jA) ∧ Below wrA.heap.size wrA wkA) (fun _ i _ => L - (intOf i).toNat)
          case atStart => exact ⟨0, by omega, rfl, by rw [hasK_zero], Below.refl _ _⟩
          case round =>
            rename World => wkA
            obtain ⟨jA, hj, rfl, rfl, hbel⟩ := hrel
            have HBJ : Hid (Below wrA.heap.size wrA wkA) := hbel
            have sj : wrA.heap.size ≤ wkA.heap.size := hbel.size
            obtain ⟨h, hh⟩ : ∃ h, h = hasK AC (y0, y1) jA := ⟨_, rfl⟩
            have HH : Hid (h = hasK AC (y0, y1) jA) := hh
            rw [← hh]
            clear hh
            have d0 : wkA.cell? ⟨P0, 0, none⟩ = some (.int .i64 (zn : Int)) := (Below.celz hbel _ _ _ (by omega)).trans cc0
            have d1 : wkA.cell? ⟨P0, 1, none⟩ = some (.slice ua m uc) := (Below.celz hbel _ _ _ (by omega)).trans cc1
            have d2 : wkA.cell? ⟨P1, 0, none⟩ = some (.int .i64 (zn : Int)) := (Below.celz hbel _ _ _ (by omega)).trans cc2
            have d3 : wkA.cell? ⟨P1, 1, none⟩ = some (.slice pa x1 pb) := (Below.celz hbel _ _ _ (by omega)).trans cc3
            have d4 : wkA.cell? ⟨P2, 0, none⟩ = some (.int .i64 (zn : Int)) := (Below.celz hbel _ _ _ (by omega)).trans cc4
            have d5 : wkA.cell? ⟨P2, 1, none⟩ = some (.slice qa x1 qb) := (Below.celz hbel _ _ _ (by omega)).trans cc5
            have y0 : P0 < wkA.heap.size := by have := Below.size hbel; omega
            have y1 : P1 < wkA.heap.size := by have := Below.size hbel; omega
            have y2 : P2 < wkA.heap.size := by have := Below.size hbel; omega
            have BB1 : Below A wa wkA := BB.trans (hbel.mono (by omega))
            have sA1 : A ≤ wkA.heap.size := by have := Below.size hbel; omega
            have q0 : Hid (RowC wkA (.slice pa x1 pb) X1) := HXX.out.keep hbel
            have q1 : Hid (RowAt 2 encPage wkA (.slice qa x1 qb) X1) := HYY.out.keep hbel
            have q2 : Hid (OwnPool wkA wh.heap.size (.slice ta L tc) AC) := HOW.out.keep hbel
            have q3 : Hid (OverB wh wkA) := HBL.out.keep hbel
            clear BB sA cc0 cc1 cc2 cc3 cc4 cc5 zz0 zz1 zz2 HXX HYY HOW HBL
            have cc0 := d0
            have cc1 := d1
            have cc2 := d2
            have cc3 := d3
            have cc4 := d4
            have cc5 := d5
            have zz0 := y0
            have zz1 := y1
            have zz2 := y2
            have HXX := q0
            have HYY := q1
            have HOW := q2
            have HBL := q3
            have BB := BB1
            have sA := sA1
            clear BB1 sA1 d0 d1 d2 d3 d4 d5 y0 y1 y2 q0 q1 q2 q3
            clear hbel
            have f0 : wkA.cell? ⟨b, off + ((n - 1 - aA)) * 2, none⟩ = some (.int .i64 y0) := (HROW.out _ BB _ _ HYR.out).1
            have f1 : wkA.cell? ⟨b, off + ((n - 1 - aA)) * 2 + 1, none⟩ = some (.int .i64 y1) := (HROW.out _ BB _ _ HYR.out).2
            have zb : b < wkA.heap.size := by omega
            by_cases hlt2 : jA < L
            · rcases HOW.out.row with ⟨hzz, _⟩ | ⟨_, b3, off3, cap3, hv, hb3, hc⟩
              · exfalso; have := HAC.out.2; rw [hzz] at this; simp at this; omega
              rw [← HAC.out.2] at hv
              simp only [Value.slice.injEq] at hv
              obtain ⟨rfl, -, hcc⟩ := hv
              subst hcc
              obtain ⟨⟨m0, m1⟩, hx⟩ : ∃ x, AC[jA]? = some x := ⟨_, List.getElem?_eq_getElem (by rw [← HAC.out.2]; exact hlt2)⟩
              have e0 : wkA.cell? ⟨b3, off3 + jA * 2, none⟩ = some (.int .i64 m0) := hc jA _ hx 0 _ rfl
              have e1 : wkA.cell? ⟨b3, off3 + jA * 2 + 1, none⟩ = some (.int .i64 m1) := hc jA _ hx 1 _ rfl
              have HS : Hid (hasK AC (y0, y1) (jA + 1) = (h || eqB (m0, m1) (y0, y1))) := by rw [HH.out]; exact hasK_step hx
              clear hx hc
              have j0 : (0 : Int) ≤ (jA : Int) := by omega
              have j1 : (jA : Int) < (L : Int) := by omega
              cases h
              · by_cases e : m0 = y0
                · subst e
                  by_cases e2 : m1 = y1
                  · subst e2
                    have HE : Hid (eqB (m0, m1) (m0, m1) = true) := eqB_true.2 rfl
                    go_wp2_with fail
                    refine wp_region_after (by kernel_rfl) (by kernel_rfl) ?_
                    intro hne hac
                    repeat (go_big_quiet_step (fail))
                    refine wpQuiet_nil ?_
                    rintro _ ⟨p, rfl⟩
                    have HB2 : Hid (Below wrA.heap.size wrA p.w) := HBJ.out.trans (p.bel.mono sj)
                    have bq : Below wkA.heap.size wkA p.w := p.bel
                    clear hac hne
                    generalize p.w = wq at *
                    clear bq
                    go_wp2_with fail
                    go_roundw
                    case rel => exact ⟨jA + 1, by omega, by go_num, by rw [HS.out, HE.out]; rfl, HB2.out⟩
                    case measure => simp [intOf]; omega
                  · have d0 : (m1 == y1) = false := beq_eq_false_iff_ne.2 e2
                    have d1 : decide (m1 = y1) = false := by simpa using e2
                    have HE : Hid (eqB (m0, m1) (m0, y1) = false) := by show _ = _; rw [eqB_false]; simp [e2]
                    clear e2
                    go_wp2_with fail
                    refine wp_region_after (by kernel_rfl) (by kernel_rfl) ?_
                    intro hne hac
                    repeat (go_big_quiet_step (fail))
                    refine wpQuiet_nil ?_
                    rintro _ ⟨p, rfl⟩
                    have HB2 : Hid (Below wrA.heap.size wrA p.w) := HBJ.out.trans (p.bel.mono sj)
                    have bq : Below wkA.heap.size wkA p.w := p.bel
                    clear hac hne
                    generalize p.w = wq at *
                    clear bq
                    go_wp2_with fail
                    go_roundw
                    case rel => exact ⟨jA + 1, by omega, by go_num, by rw [HS.out, HE.out]; rfl, HB2.out⟩
                    case measure => simp [intOf]; omega
                · have d0 : (m0 == y0) = false := beq_eq_false_iff_ne.2 e
                  have d1 : decide (m0 = y0) = false := by simpa using e
                  have HE : Hid (eqB (m0, m1) (y0, y1) = false) := by show _ = _; rw [eqB_false]; simp [e]
                  clear e
                  go_wp2_with fail
                  refine wp_region_after (by kernel_rfl) (by kernel_rfl) ?_
                  intro hne hac
                  repeat (go_big_quiet_step (fail))
                  refine wpQuiet_nil ?_
                  rintro _ ⟨p, rfl⟩
                  have HB2 : Hid (Below wrA.heap.size wrA p.w) := HBJ.out.trans (p.bel.mono sj)
                  have bq : Below wkA.heap.size wkA p.w := p.bel
                  clear hac hne
                  generalize p.w = wq at *
                  clear bq
                  go_wp2_with fail
                  go_roundw
                  case rel => exact ⟨jA + 1, by omega, by go_num, by rw [HS.out, HE.out]; rfl, HB2.out⟩
                  case measure => simp [intOf]; omega
              · go_wp2_with fail
                refine wp_region_after (by kernel_rfl) (by kernel_rfl) ?_
                intro hne hac
                repeat (go_big_quiet_step (fail))
                refine wpQuiet_nil ?_
                rintro _ ⟨p, rfl⟩
                have HB2 : Hid (Below wrA.heap.size wrA p.w) := HBJ.out.trans (p.bel.mono sj)
                have bq : Below wkA.heap.size wkA p.w := p.bel
                clear hac hne
                generalize p.w = wq at *
                clear bq
                go_wp2_with fail
                go_roundw
                case rel => exact ⟨jA + 1, by omega, by go_num, by rw [HS.out]; rfl, HB2.out⟩
                case measure => simp [intOf]; omega
            · have hjL : L = jA := by omega
              have HST : Hid ((rs.take (aA + 1)).foldl addD [] = if h then AC else AC ++ [(y0, y1)]) := by
                show _ = _
                rw [fold_step HY.out, ← HAC.out.1]
                unfold addD
                rw [HH.out, ← hjL, HAC.out.2]
              subst hjL
              cases h
              · have hown : wkA.ownsRow wh.heap.size 27 2 (.slice ta L tc) L (AC.flatMap encPage) := by have := HOW.out; unfold OwnPool at this; rw [← HAC.out.2] at this; exact this
                have LT : Hid (∀ g, (Value.slice ta L tc).ownBlock = some g → wh.heap.size ≤ g) := fun g hg => (hown.lt g hg).1
                have swn : wh.heap.size ≤ wkA.heap.size := HBL.out.size
                go_wp2_with (at_builtin; refine wpList_append_own _ rfl _ _ 23 rfl wh.heap.size 27 i0 _ 2 16 Tryd.underlying23 hi hz0 hz1 hzz2 rfl (by decide) _ _ _ rfl (hown.alloc _) ⟨wkA.heap.size, 0, none⟩ 1 1 [.int .i64 y0, .int .i64 y1] rfl rfl ?c1 ?c2 ?c3 ?c4 ?c5 ?_)
                case c1 =>
                  intro i u hi
                  match i, hi with
                  | 0, hi => simp at hi; subst hi; simp [Addr.add]
                  | 1, hi => simp at hi; subst hi; simp [Addr.add]
                case c2 => intro u hu; simp at hu; rcases hu with rfl | rfl <;> rfl
                case c3 => unfold maxLen; omega
                case c4 => omega
                case c5 => simp; omega
                intro v' w3 hown' hgrow _
                have R : Hid (Below wh.heap.size wh w3 ∧ w3.ownsRow wh.heap.size 27 2 v' ((rs.take (aA + 1)).foldl addD []).length (((rs.take (aA + 1)).foldl addD []).flatMap encPage)) := by
                  refine ⟨(Below.alloc HBL.out swn _).grown hgrow (by simp; omega) (fun g hg => LT.out g hg), ?_⟩
                  rw [HST.out]
                  simp only [Bool.false_eq_true, if_false]
                  rw [List.length_append, ← HAC.out.2, List.flatMap_append]
                  simpa [encPage] using hown'
                clear hown' hgrow hown
                go_wp2_with fail
                go_roundw
                case rel => exact ⟨aA + 1, by omega, by go_num, R.out⟩
                case measure => simp [intOf]; omega
              · go_wp2_with fail
                go_roundw
                case rel => exact ⟨aA + 1, by omega, by go_num, HBL.out, by rw [HST.out]; have := HOW.out; unfold OwnPool at this; rw [← HAC.out.2] at this; simp only [if_true]; rw [← HAC.out.2]; exact this⟩
                case measure => simp [intOf]; omega
        · have hna : n = aA := by omega
          subst hna
          have HAN : Hid (AC = rs.foldl addD [] ∧ L = AC.length) := ⟨by rw [HAC.out.1, List.take_of_length_le (by rw [HRS.out.2]; exact Nat.le_refl _)], HAC.out.2⟩
          obtain ⟨AN, hAN⟩ : ∃ t, t = AC := ⟨_, rfl⟩
          obtain ⟨LN, hLN⟩ : ∃ t, t = L := ⟨_, rfl⟩
          have HBW : Hid (OverB wh wrA ∧ wrA.ownsRow wh.heap.size 27 2 (.slice ta L tc) AC.length (AC.flatMap encPage)) := ⟨HBL.out, by have := HOW.out; unfold OwnPool at this; exact this⟩
          rw [← hAN] at HAN HBW
          rw [← hLN] at HAN
          have hLn2 : LN ≤ 24 := by omega
          clear hAN hLN
          clear HOW
          clear HBL
          clear HAC
          go_wp2_with fail
          go_loopw [9, 13] (fun la i wr => ∃ a : Nat, a ≤ m ∧ i = .int .i64 a ∧ Below wh.heap.size wh wr ∧ wr.ownsRow wh.heap.size 27 2 la ((xs.take a).foldl addD AN).length (((xs.take a).foldl addD AN).flatMap encPage)) (fun _ i _ => m - (intOf i).toNat)
          case atStart => exact ⟨0, by omega, rfl, HBW.out.1, by simpa using HBW.out.2⟩
          case round =>
            rename World => wrB
            obtain ⟨aB, ha, rfl, hbel, hown⟩ := hrel
            obtain ⟨ta, tc, rfl⟩ := own_form hown
            obtain ⟨AC, hAC⟩ : ∃ t, t = (xs.take aB).foldl addD AN := ⟨_, rfl⟩
            rw [← hAC] at hown ⊢
            obtain ⟨L, hL⟩ : ∃ t, t = AC.length := ⟨_, rfl⟩
            have HAC : Hid (AC = (xs.take aB).foldl addD AN ∧ L = AC.length) := ⟨hAC, hL⟩
            have hLn : L ≤ 100 := by rw [hL, hAC]; have h1 := fold_len AN (xs.take aB); rw [List.length_take, ← HN.out.2] at h1; have := HAN.out.2; omega
            have HOW0 : OwnPool wrB wh.heap.size (.slice ta L tc) AC := by rw [hL]; exact hown
            rw [← hL]
            have HBL0 : OverB wh wrB := hbel
            clear hAC hL hown
            clear BB sA cc0 cc1 cc2 cc3 cc4 cc5 zz0 zz1 zz2 HXX HYY
            obtain ⟨cc0, cc1, cc2, cc3, cc4, cc5, zz0, zz1, zz2, BB, sA, HXX, HYY⟩ := HSV.out
            have d0 : wrB.cell? ⟨P0, 0, none⟩ = some (.int .i64 (zn : Int)) := (Below.celz hbel _ _ _ (by omega)).trans cc0
            have d1 : wrB.cell? ⟨P0, 1, none⟩ = some (.slice ua m uc) := (Below.celz hbel _ _ _ (by omega)).trans cc1
            have d2 : wrB.cell? ⟨P1, 0, none⟩ = some (.int .i64 (zn : Int)) := (Below.celz hbel _ _ _ (by omega)).trans cc2
            have d3 : wrB.cell? ⟨P1, 1, none⟩ = some (.slice pa x1 pb) := (Below.celz hbel _ _ _ (by omega)).trans cc3
            have d4 : wrB.cell? ⟨P2, 0, none⟩ = some (.int .i64 (zn : Int)) := (Below.celz hbel _ _ _ (by omega)).trans cc4
            have d5 : wrB.cell? ⟨P2, 1, none⟩ = some (.slice qa x1 qb) := (Below.celz hbel _ _ _ (by omega)).trans cc5
            have y0 : P0 < wrB.heap.size := by have := Below.size hbel; omega
            have y1 : P1 < wrB.heap.size := by have := Below.size hbel; omega
            have y2 : P2 < wrB.heap.size := by have := Below.size hbel; omega
            have BB1 : Below A wa wrB := BB.trans (hbel.mono (by omega))
            have sA1 : A ≤ wrB.heap.size := by have := Below.size hbel; omega
            have q0 : Hid (RowC wrB (.slice pa x1 pb) X1) := HXX.out.keep hbel
            have q1 : Hid (RowAt 2 encPage wrB (.slice qa x1 qb) X1) := HYY.out.keep hbel
            clear BB sA cc0 cc1 cc2 cc3 cc4 cc5 zz0 zz1 zz2 HXX HYY
            have cc0 := d0
            have cc1 := d1
            have cc2 := d2
            have cc3 := d3
            have cc4 := d4
            have cc5 := d5
            have zz0 := y0
            have zz1 := y1
            have zz2 := y2
            have HXX := q0
            have HYY := q1
            have BB := BB1
            have sA := sA1
            clear BB1 sA1 d0 d1 d2 d3 d4 d5 y0 y1 y2 q0 q1
            clear hbel
            have HOW : Hid (OwnPool wrB wh.heap.size (.slice ta L tc) AC) := HOW0
            have HBL : Hid (OverB wh wrB) := HBL0
            clear HOW0 HBL0
            by_cases hlt : aB < m
            · rcases (HV.out wa (Below.refl _ _)).1.1 with ⟨hz0, _⟩ | ⟨_, b, off, cap', hv, hb, hc⟩
              · exfalso; have := HN.out.2; rw [hz0] at this; simp at this; omega
              simp only [Value.slice.injEq] at hv
              obtain ⟨rfl, -, hcc⟩ := hv
              subst hcc
              have HROW : Hid (∀ W, Below A wa W → ∀ j x, xs[j]? = some x → W.cell? ⟨b, off + j * 2, none⟩ = some (.int .i64 x.1) ∧ W.cell? ⟨b, off + j * 2 + 1, none⟩ = some (.int .i64 x.2)) := fun W h j x hx => ⟨(Below.celz h _ _ _ (by rw [HA.out]; exact hb)).trans (hc j x hx 0 _ rfl), (Below.celz h _ _ _ (by rw [HA.out]; exact hb)).trans (hc j x hx 1 _ rfl)⟩
              have hbA : b < A := by rw [HA.out]; exact hb
              clear hc hb
              obtain ⟨⟨y0, y1⟩, hy⟩ : ∃ x, xs[aB]? = some x := ⟨_, List.getElem?_eq_getElem (by rw [← HN.out.2]; exact hlt)⟩
              have HY : Hid (xs[aB]? = some (y0, y1)) := hy
              have HYR : Hid (xs[aB]? = some (y0, y1)) := by
                exact HY.out
              clear hy
              have i0a : (0 : Int) ≤ (aB : Int) := by omega
              have i1a : (aB : Int) < (m : Int) := by omega
              have i2a : ((aB : Int)).toNat = aB := by omega
              go_wp2_with fail
              go_loopw [14, 15] (fun s i wkB => ∃ jB : Nat, jB ≤ L ∧ i = .int .i64 jB ∧ s = .bool (hasK AC (y0, y1) jB) ∧ Below wrB.heap.size wrB wkB) (fun _ i _ => L - (intOf i).toNat)
              case atStart => exact ⟨0, by omega, rfl, by rw [hasK_zero], Below.refl _ _⟩
              case round =>
                rename World => wkB
                obtain ⟨jB, hj, rfl, rfl, hbel⟩ := hrel
                have HBJ : Hid (Below wrB.heap.size wrB wkB) := hbel
                have sj : wrB.heap.size ≤ wkB.heap.size := hbel.size
                obtain ⟨h, hh⟩ : ∃ h, h = hasK AC (y0, y1) jB := ⟨_, rfl⟩
                have HH : Hid (h = hasK AC (y0, y1) jB) := hh
                rw [← hh]
                clear hh
                have d0 : wkB.cell? ⟨P0, 0, none⟩ = some (.int .i64 (zn : Int)) := (Below.celz hbel _ _ _ (by omega)).trans cc0
                have d1 : wkB.cell? ⟨P0, 1, none⟩ = some (.slice (some ⟨b, off, none⟩) m uc) := (Below.celz hbel _ _ _ (by omega)).trans cc1
                have d2 : wkB.cell? ⟨P1, 0, none⟩ = some (.int .i64 (zn : Int)) := (Below.celz hbel _ _ _ (by omega)).trans cc2
                have d3 : wkB.cell? ⟨P1, 1, none⟩ = some (.slice pa x1 pb) := (Below.celz hbel _ _ _ (by omega)).trans cc3
                have d4 : wkB.cell? ⟨P2, 0, none⟩ = some (.int .i64 (zn : Int)) := (Below.celz hbel _ _ _ (by omega)).trans cc4
                have d5 : wkB.cell? ⟨P2, 1, none⟩ = some (.slice qa x1 qb) := (Below.celz hbel _ _ _ (by omega)).trans cc5
                have y0 : P0 < wkB.heap.size := by have := Below.size hbel; omega
                have y1 : P1 < wkB.heap.size := by have := Below.size hbel; omega
                have y2 : P2 < wkB.heap.size := by have := Below.size hbel; omega
                have BB1 : Below A wa wkB := BB.trans (hbel.mono (by omega))
                have sA1 : A ≤ wkB.heap.size := by have := Below.size hbel; omega
                have q0 : Hid (RowC wkB (.slice pa x1 pb) X1) := HXX.out.keep hbel
                have q1 : Hid (RowAt 2 encPage wkB (.slice qa x1 qb) X1) := HYY.out.keep hbel
                have q2 : Hid (OwnPool wkB wh.heap.size (.slice ta L tc) AC) := HOW.out.keep hbel
                have q3 : Hid (OverB wh wkB) := HBL.out.keep hbel
                clear BB sA cc0 cc1 cc2 cc3 cc4 cc5 zz0 zz1 zz2 HXX HYY HOW HBL
                have cc0 := d0
                have cc1 := d1
                have cc2 := d2
                have cc3 := d3
                have cc4 := d4
                have cc5 := d5
                have zz0 := y0
                have zz1 := y1
                have zz2 := y2
                have HXX := q0
                have HYY := q1
                have HOW := q2
                have HBL := q3
                have BB := BB1
                have sA := sA1
                clear BB1 sA1 d0 d1 d2 d3 d4 d5 y0 y1 y2 q0 q1 q2 q3
                clear hbel
                have f0 : wkB.cell? ⟨b, off + (aB) * 2, none⟩ = some (.int .i64 y0) := (HROW.out _ BB _ _ HYR.out).1
                have f1 : wkB.cell? ⟨b, off + (aB) * 2 + 1, none⟩ = some (.int .i64 y1) := (HROW.out _ BB _ _ HYR.out).2
                have zb : b < wkB.heap.size := by omega
                by_cases hlt2 : jB < L
                · rcases HOW.out.row with ⟨hzz, _⟩ | ⟨_, b3, off3, cap3, hv, hb3, hc⟩
                  · exfalso; have := HAC.out.2; rw [hzz] at this; simp at this; omega
                  rw [← HAC.out.2] at hv
                  simp only [Value.slice.injEq] at hv
                  obtain ⟨rfl, -, hcc⟩ := hv
                  subst hcc
                  obtain ⟨⟨m0, m1⟩, hx⟩ : ∃ x, AC[jB]? = some x := ⟨_, List.getElem?_eq_getElem (by rw [← HAC.out.2]; exact hlt2)⟩
                  have e0 : wkB.cell? ⟨b3, off3 + jB * 2, none⟩ = some (.int .i64 m0) := hc jB _ hx 0 _ rfl
                  have e1 : wkB.cell? ⟨b3, off3 + jB * 2 + 1, none⟩ = some (.int .i64 m1) := hc jB _ hx 1 _ rfl
                  have HS : Hid (hasK AC (y0, y1) (jB + 1) = (h || eqB (m0, m1) (y0, y1))) := by rw [HH.out]; exact hasK_step hx
                  clear hx hc
                  have j0 : (0 : Int) ≤ (jB : Int) := by omega
                  have j1 : (jB : Int) < (L : Int) := by omega
                  cases h
                  · by_cases e : m0 = y0
                    · subst e
                      by_cases e2 : m1 = y1
                      · subst e2
                        have HE : Hid (eqB (m0, m1) (m0, m1) = true) := eqB_true.2 rfl
                        go_wp2_with fail
                        refine wp_region_after (by kernel_rfl) (by kernel_rfl) ?_
                        intro hne hac
                        repeat (go_big_quiet_step (fail))
                        refine wpQuiet_nil ?_
                        rintro _ ⟨p, rfl⟩
                        have HB2 : Hid (Below wrB.heap.size wrB p.w) := HBJ.out.trans (p.bel.mono sj)
                        have bq : Below wkB.heap.size wkB p.w := p.bel
                        clear hac hne
                        generalize p.w = wq at *
                        clear bq
                        go_wp2_with fail
                        go_roundw
                        case rel => exact ⟨jB + 1, by omega, by go_num, by rw [HS.out, HE.out]; rfl, HB2.out⟩
                        case measure => simp [intOf]; omega
                      · have d0 : (m1 == y1) = false := beq_eq_false_iff_ne.2 e2
                        have d1 : decide (m1 = y1) = false := by simpa using e2
                        have HE : Hid (eqB (m0, m1) (m0, y1) = false) := by show _ = _; rw [eqB_false]; simp [e2]
                        clear e2
                        go_wp2_with fail
                        refine wp_region_after (by kernel_rfl) (by kernel_rfl) ?_
                        intro hne hac
                        repeat (go_big_quiet_step (fail))
                        refine wpQuiet_nil ?_
                        rintro _ ⟨p, rfl⟩
                        have HB2 : Hid (Below wrB.heap.size wrB p.w) := HBJ.out.trans (p.bel.mono sj)
                        have bq : Below wkB.heap.size wkB p.w := p.bel
                        clear hac hne
                        generalize p.w = wq at *
                        clear bq
                        go_wp2_with fail
                        go_roundw
                        case rel => exact ⟨jB + 1, by omega, by go_num, by rw [HS.out, HE.out]; rfl, HB2.out⟩
                        case measure => simp [intOf]; omega
                    · have d0 : (m0 == y0) = false := beq_eq_false_iff_ne.2 e
                      have d1 : decide (m0 = y0) = false := by simpa using e
                      have HE : Hid (eqB (m0, m1) (y0, y1) = false) := by show _ = _; rw [eqB_false]; simp [e]
                      clear e
                      go_wp2_with fail
                      refine wp_region_after (by kernel_rfl) (by kernel_rfl) ?_
                      intro hne hac
                      repeat (go_big_quiet_step (fail))
                      refine wpQuiet_nil ?_
                      rintro _ ⟨p, rfl⟩
                      have HB2 : Hid (Below wrB.heap.size wrB p.w) := HBJ.out.trans (p.bel.mono sj)
                      have bq : Below wkB.heap.size wkB p.w := p.bel
                      clear hac hne
                      generalize p.w = wq at *
                      clear bq
                      go_wp2_with fail
                      go_roundw
                      case rel => exact ⟨jB + 1, by omega, by go_num, by rw [HS.out, HE.out]; rfl, HB2.out⟩
                      case measure => simp [intOf]; omega
                  · go_wp2_with fail
                    refine wp_region_after (by kernel_rfl) (by kernel_rfl) ?_
                    intro hne hac
                    repeat (go_big_quiet_step (fail))
                    refine wpQuiet_nil ?_
                    rintro _ ⟨p, rfl⟩
                    have HB2 : Hid (Below wrB.heap.size wrB p.w) := HBJ.out.trans (p.bel.mono sj)
                    have bq : Below wkB.heap.size wkB p.w := p.bel
                    clear hac hne
                    generalize p.w = wq at *
                    clear bq
                    go_wp2_with fail
                    go_roundw
                    case rel => exact ⟨jB + 1, by omega, by go_num, by rw [HS.out]; rfl, HB2.out⟩
                    case measure => simp [intOf]; omega
                · have hjL : L = jB := by omega
                  have HST : Hid ((xs.take (aB + 1)).foldl addD AN = if h then AC else AC ++ [(y0, y1)]) := by
                    show _ = _
                    rw [fold_step HY.out, ← HAC.out.1]
                    unfold addD
                    rw [HH.out, ← hjL, HAC.out.2]
                  subst hjL
                  cases h
                  · have hown : wkB.ownsRow wh.heap.size 27 2 (.slice ta L tc) L (AC.flatMap encPage) := by have := HOW.out; unfold OwnPool at this; rw [← HAC.out.2] at this; exact this
                    have LT : Hid (∀ g, (Value.slice ta L tc).ownBlock = some g → wh.heap.size ≤ g) := fun g hg => (hown.lt g hg).1
                    have swn : wh.heap.size ≤ wkB.heap.size := HBL.out.size
                    go_wp2_with (at_builtin; refine wpList_append_own _ rfl _ _ 23 rfl wh.heap.size 27 i0 _ 2 16 Tryd.underlying23 hi hz0 hz1 hzz2 rfl (by decide) _ _ _ rfl (hown.alloc _) ⟨wkB.heap.size, 0, none⟩ 1 1 [.int .i64 y0, .int .i64 y1] rfl rfl ?c1 ?c2 ?c3 ?c4 ?c5 ?_)
                    case c1 =>
                      intro i u hi
                      match i, hi with
                      | 0, hi => simp at hi; subst hi; simp [Addr.add]
                      | 1, hi => simp at hi; subst hi; simp [Addr.add]
                    case c2 => intro u hu; simp at hu; rcases hu with rfl | rfl <;> rfl
                    case c3 => unfold maxLen; omega
                    case c4 => omega
                    case c5 => simp; omega
                    intro v' w3 hown' hgrow _
                    have R : Hid (Below wh.heap.size wh w3 ∧ w3.ownsRow wh.heap.size 27 2 v' ((xs.take (aB + 1)).foldl addD AN).length (((xs.take (aB + 1)).foldl addD AN).flatMap encPage)) := by
                      refine ⟨(Below.alloc HBL.out swn _).grown hgrow (by simp; omega) (fun g hg => LT.out g hg), ?_⟩
                      rw [HST.out]
                      simp only [Bool.false_eq_true, if_false]
                      rw [List.length_append, ← HAC.out.2, List.flatMap_append]
                      simpa [encPage] using hown'
                    clear hown' hgrow hown
                    go_wp2_with fail
                    go_roundw
                    case rel => exact ⟨aB + 1, by omega, by go_num, R.out⟩
                    case measure => simp [intOf]; omega
                  · go_wp2_with fail
                    go_roundw
                    case rel => exact ⟨aB + 1, by omega, by go_num, HBL.out, by rw [HST.out]; have := HOW.out; unfold OwnPool at this; rw [← HAC.out.2] at this; simp only [if_true]; rw [← HAC.out.2]; exact this⟩
                    case measure => simp [intOf]; omega
            · have hna : m = aB := by omega
              subst hna
              have hfin : AC = stk xs ls := by
                rw [HAC.out.1, List.take_of_length_le (by rw [← HN.out.2]; exact Nat.le_refl _), HAN.out.1, ← List.foldl_append, ← stk_add HP.out.2.1, HRS.out.1, List.reverse_reverse]
              have HX1 : Hid (X1 = AC.take zn) := by rw [hfin]; exact HP.out.2.2.2
              have hLc : L ≤ tc := by
                have := HOW.out
                unfold OwnPool at this
                obtain ⟨_, ⟨hv, h0⟩ | ⟨g, cp, cur, hv, _, _, hcp, _⟩⟩ := this
                · rw [← HAC.out.2] at h0; omega
                · rw [← HAC.out.2] at hv hcp; simp only [Value.slice.injEq] at hv; omega
              clear hfin
              by_cases hbig : zn < L
              · have hbi : (zn : Int) < (L : Int) := by omega
                have hbc : (zn : Int) ≤ (tc : Int) := by omega
                have HTK : Hid (∀ W, Below wrB.heap.size wrB W → RowAt 2 encPage W (.slice ta zn tc) X1) := fun W h => by
                  have := row_take (HOW.out.keep h).row zn (by omega)
                  rw [HX1.out]; exact this
                go_wp2_with fail
                refine (wpPages_same _ _ X1 _ HXX.out.1 (HTK.out _ (Below.refl _ _)) (by rw [← HL1.out]; omega)).mono ?_
                rintro e wy ⟨rfl, by0⟩
                have d0 : wy.cell? ⟨P0, 0, none⟩ = some (.int .i64 (zn : Int)) := (Below.celz by0 _ _ _ (by omega)).trans cc0
                have d1 : wy.cell? ⟨P0, 1, none⟩ = some (.slice ua m uc) := (Below.celz by0 _ _ _ (by omega)).trans cc1
                have d2 : wy.cell? ⟨P1, 0, none⟩ = some (.int .i64 (zn : Int)) := (Below.celz by0 _ _ _ (by omega)).trans cc2
                have d3 : wy.cell? ⟨P1, 1, none⟩ = some (.slice pa x1 pb) := (Below.celz by0 _ _ _ (by omega)).trans cc3
                have d4 : wy.cell? ⟨P2, 0, none⟩ = some (.int .i64 (zn : Int)) := (Below.celz by0 _ _ _ (by omega)).trans cc4
                have d5 : wy.cell? ⟨P2, 1, none⟩ = some (.slice qa x1 qb) := (Below.celz by0 _ _ _ (by omega)).trans cc5
                have y0 : P0 < wy.heap.size := by have := Below.size by0; omega
                have y1 : P1 < wy.heap.size := by have := Below.size by0; omega
                have y2 : P2 < wy.heap.size := by have := Below.size by0; omega
                have BB1 : Below A wa wy := BB.trans (by0.mono (by omega))
                have sA1 : A ≤ wy.heap.size := by have := Below.size by0; omega
                have q0 : Hid (RowC wy (.slice pa x1 pb) X1) := HXX.out.keep by0
                have q1 : Hid (RowAt 2 encPage wy (.slice qa x1 qb) X1) := HYY.out.keep by0
                have q2 : Hid (OwnPool wy wh.heap.size (.slice ta L tc) AC) := HOW.out.keep by0
                have q3 : Hid (OverB wh wy) := HBL.out.keep by0
                clear BB sA cc0 cc1 cc2 cc3 cc4 cc5 zz0 zz1 zz2 HXX HYY HOW HBL
                have cc0 := d0
                have cc1 := d1
                have cc2 := d2
                have cc3 := d3
                have cc4 := d4
                have cc5 := d5
                have zz0 := y0
                have zz1 := y1
                have zz2 := y2
                have HXX := q0
                have HYY := q1
                have HOW := q2
                have HBL := q3
                have BB := BB1
                have sA := sA1
                clear BB1 sA1 d0 d1 d2 d3 d4 d5 y0 y1 y2 q0 q1 q2 q3
                clear by0
                go_wp2_with fail
                go_ret
                exact ⟨rfl, (HV.out _ BB).2.2.2⟩
              · have hbi : ¬ (zn : Int) < (L : Int) := by omega
                have HTK : Hid (∀ W, Below wrB.heap.size wrB W → RowAt 2 encPage W (.slice ta L tc) X1) := fun W h => by
                  have := (HOW.out.keep h).row
                  rw [HX1.out, List.take_of_length_le (by rw [← HAC.out.2]; omega)]; exact this
                go_wp2_with fail
                refine (wpPages_same _ _ X1 _ HXX.out.1 (HTK.out _ (Below.refl _ _)) (by rw [← HL1.out]; omega)).mono ?_
                rintro e wy ⟨rfl, by0⟩
                have d0 : wy.cell? ⟨P0, 0, none⟩ = some (.int .i64 (zn : Int)) := (Below.celz by0 _ _ _ (by omega)).trans cc0
                have d1 : wy.cell? ⟨P0, 1, none⟩ = some (.slice ua m uc) := (Below.celz by0 _ _ _ (by omega)).trans cc1
                have d2 : wy.cell? ⟨P1, 0, none⟩ = some (.int .i64 (zn : Int)) := (Below.celz by0 _ _ _ (by omega)).trans cc2
                have d3 : wy.cell? ⟨P1, 1, none⟩ = some (.slice pa x1 pb) := (Below.celz by0 _ _ _ (by omega)).trans cc3
                have d4 : wy.cell? ⟨P2, 0, none⟩ = some (.int .i64 (zn : Int)) := (Below.celz by0 _ _ _ (by omega)).trans cc4
                have d5 : wy.cell? ⟨P2, 1, none⟩ = some (.slice qa x1 qb) := (Below.celz by0 _ _ _ (by omega)).trans cc5
                have y0 : P0 < wy.heap.size := by have := Below.size by0; omega
                have y1 : P1 < wy.heap.size := by have := Below.size by0; omega
                have y2 : P2 < wy.heap.size := by have := Below.size by0; omega
                have BB1 : Below A wa wy := BB.trans (by0.mono (by omega))
                have sA1 : A ≤ wy.heap.size := by have := Below.size by0; omega
                have q0 : Hid (RowC wy (.slice pa x1 pb) X1) := HXX.out.keep by0
                have q1 : Hid (RowAt 2 encPage wy (.slice qa x1 qb) X1) := HYY.out.keep by0
                have q2 : Hid (OwnPool wy wh.heap.size (.slice ta L tc) AC) := HOW.out.keep by0
                have q3 : Hid (OverB wh wy) := HBL.out.keep by0
                clear BB sA cc0 cc1 cc2 cc3 cc4 cc5 zz0 zz1 zz2 HXX HYY HOW HBL
                have cc0 := d0
                have cc1 := d1
                have cc2 := d2
                have cc3 := d3
                have cc4 := d4
                have cc5 := d5
                have zz0 := y0
                have zz1 := y1
                have zz2 := y2
                have HXX := q0
                have HYY := q1
                have HOW := q2
                have HBL := q3
                have BB := BB1
                have sA := sA1
                clear BB1 sA1 d0 d1 d2 d3 d4 d5 y0 y1 y2 q0 q1 q2 q3
                clear by0
                go_wp2_with fail
                go_ret
                exact ⟨rfl, (HV.out _ BB).2.2.2⟩

theorem door_met (os : Os) (args : Array Value) : laidMetH Tryd.prog Rows.fnPoolLastRow.laid ((World.doorLaid Tryd.prog 28 os).forCall (fun _ _ => 0) ⟨#[], args, []⟩).memory :=
  laidMetH_of_parts3 (fuel := 8) (laidMet_of_run' 8 (by kernel_rfl) (by kernel_rfl)) (by kernel_rfl) (by kernel_rfl)

set_option maxRecDepth 100000 in
set_option maxHeartbeats 1000000 in
theorem lifted (os : Os) (started : os.Started) (H : Type) (enc : TypeId × Value → H) :
    ReturnsInHanded {} Tryd.checked os 6 .any (fun w args => (Rows.fnPoolLastSpec.pre enc Tryd.prog Tryd.f6 [] false w args ∧ laidMetH Tryd.prog Rows.fnPoolLastRow.laid w) ∧ sizedMet enc Tryd.prog Tryd.f6 (OpenSpec.ofChange Rows.fnPoolLastSpec) false w args)
      (Rows.fnPoolLastSpec.post enc Tryd.prog Tryd.f6 false true false false) := by
  refine returnsInHanded_of_change_and (C := Tryd.checked) (X := fun w _ => laidMetH Tryd.prog Rows.fnPoolLastRow.laid w) (fun _ _ _ hh h => h.of_heap hh) own started (by kernel_rfl) Tryd.func6
    (ChangeSpec.witness_shaped (enc := enc) (C := Tryd.checked) (os := os) (X := fun w _ => laidMetH Tryd.prog Rows.fnPoolLastRow.laid w) false (World.doorLaid Tryd.prog 28 os) #[.slice none 0 0] 8 rfl (World.shaped_of_RefB (by kernel_rfl) (by kernel_rfl)) (by kernel_rfl) (by kernel_rfl) (by kernel_rfl) (door_met os _)) ?_
  intro W base args ds gs before hval0 hW _ _ hL _
  have hval : ∀ (j : Nat) t v, Tryd.f6.params[j]? = some t → args[j]? = some v → Value.okWide Tryd.prog W .any base t v := hval0
  have hW' := hW
  obtain ⟨p, q, hA0, hV0, rfl, hfz, hnd⟩ := hW
  have hA : DataW.TrodAll enc Tryd.prog W 0 (fun _ => true) true Tryd.f6.params.toList args.toList ds p := hA0
  have hV : DataW.TrodVars enc Tryd.prog W (fun _ => true) ["loop.example/hagioscope/impl.errForm"] gs q := hV0
  rw [Tryd.params6] at hA hval
  obtain ⟨v0, vs0, d0, ds0, p0, q0, hargs, rfl, rfl, h0, r0⟩ := trodAll_cons hA
  obtain ⟨rfl, rfl, rfl⟩ := trodAll_nil r0
  obtain rfl : args = #[v0] := by cases args; simp_all
  have kr0 := h0
  have lt0 : ∀ x ∈ p0, x.block < W.heap.size := by obtain ⟨m, hm⟩ := kr0; exact DataW.trod_lt m _ _ _ hm
  obtain ⟨a0, len0, cap0, rfl⟩ := okWide_slice Tryd.underlying22 (hval 0 22 v0 rfl rfl)
  obtain ⟨z0, w0⟩ : ∃ zs, IsRow .u8 W a0 len0 cap0 zs := by
    obtain ⟨fuel, hf⟩ := h0
    rcases open_ints Tryd.underlying22 Tryd.underlying5 (by kernel_rfl) hf with ⟨hcs, _⟩ | ⟨x, l, c, zs, hcs, _, hl, hm, hz, _, hcell, hwz⟩
    · simp [Value.cells] at hcs
      obtain ⟨rfl, rfl, rfl⟩ := hcs
      exact ⟨[], .inl ⟨rfl, rfl, rfl, rfl⟩⟩
    · simp [Value.cells] at hcs
      obtain ⟨rfl, rfl, rfl⟩ := hcs
      exact ⟨zs, .inr ⟨_, rfl, hl, hm, by simpa using hz, hcell, hwz⟩⟩
  obtain ⟨g, t, cs, fuel, d, p', rfl, hg, ht, hvar, hd, rfl⟩ := trodVars_one hV
  obtain rfl := Option.some.inj (gForm.symm.trans hg)
  obtain rfl := Option.some.inj (tForm.symm.trans ht)
  obtain ⟨fu, fv, hff⟩ := form_of hL
  obtain rfl : cs = #[.iface fu fv] := Option.some.inj (hvar.symm.trans hff)
  have hform : FormAt W := formAt_of hff
  obtain ⟨_, _, hheap⟩ := heap_of_var gForm hff
  clear hA0 hV0 hval0
  refine (walk a0 len0 cap0 z0 W w0 hform).mono fun e W' ⟨he, bel⟩ => ?_
  subst he
  exact ⟨_, rfl, _, _, _, [], _, _, hW', trodAll_mk1 (shut_bool Tryd.underlying4 _), (trodAll_cons_mk (Below.trod laidOut (by kernel_rfl) (of_decide_eq_true (by kernel_rfl)) kr0 bel lt0) trodAll_mk0), trodVars_mk1 gForm tForm (var?_below bel gForm (lt_of_block hheap) hff) (held_again Tryd.underlying52 hd), bel.frame _, fun h => by cases h⟩

theorem said : Rows.FnPoolLastSaid :=
  OpenClaim.holds_of_wide 6 Tryd.f6 rfl rfl rfl rfl rfl rfl rfl ⟨rfl, rfl, rfl, rfl, rfl⟩ rfl rfl rfl rfl rfl (by kernel_rfl) Tryd.func6 (by kernel_rfl)
    (of_decide_eq_true (by kernel_rfl)) (by unfold Func.isWrapper; first | (rw [if_pos (by decide +kernel)]; kernel_rfl) | (rw [if_neg (by decide +kernel)]; exact ⟨rfl, rfl⟩))
    (fun os started H enc _ => lifted os started H enc)

theorem plain (f : FuncId) (fn : Func) (hf : Tryd.pinned.checked.prog.funcNamed "loop.example/hagioscope/laws.FnPoolLast" = some f) (hfn : Tryd.pinned.checked.prog.funcs[f]? = some fn) :
    false = Tryd.pinned.checked.prog.looks [] ∧ ∀ (j : Nat) t, fn.params[j]? = some t → Tryd.pinned.checked.prog.wantsStandIn t = false := by
  obtain rfl : f = 6 := Option.some.inj ((show Tryd.prog.funcNamed "loop.example/hagioscope/laws.FnPoolLast" = some 6 by kernel_rfl).symm.trans hf) |>.symm
  obtain rfl : fn = Tryd.f6 := (Option.some.inj (Tryd.func6.symm.trans hfn)).symm
  refine ⟨by kernel_rfl, fun j t ht => ?_⟩
  rw [Tryd.params6] at ht
  obtain rfl : t = 22 := by simpa using Array.mem_of_getElem? ht
  · exact (show Tryd.prog.wantsStandIn 22 = false by kernel_rfl)

end Go.Proofs.YtlfgcchnboaflaaDoor.fnPoolLast
namespace Go.Proofs.YtlfgcchnboaflaaDoor
theorem fnPoolLast_card : Rows.FnPoolLastCardSaid :=
  Claim7.holds_tied_plain_at .later [] _ _ _ _ fnPoolLast.said (fun _ h => by cases h) (by kernel_rfl) (fun _ h => by cases h) fnPoolLast_row_tie rfl ⟨rfl, rfl⟩ (by kernel_rfl) rfl fnPoolLast.plain (by kernel_rfl)
#print axioms fnPoolLast_card
end Go.Proofs.YtlfgcchnboaflaaDoor
