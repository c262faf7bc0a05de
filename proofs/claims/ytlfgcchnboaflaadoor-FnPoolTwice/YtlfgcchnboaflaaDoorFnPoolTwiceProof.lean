/-
  A working set that fits is read once.
-/
import Derived.Test.YtlfgcchnboaflaaDoorCards
import Derived.Test.YtlfgcchnboaflaaDoorTie
import Derived.Test.YtlfgcchnboaflaaDoorStl
import Derived.Test.YtlfgcchnboaflaaDoorDpu
import Derived.WalkKit
import Derived.ProofKit
import Derived.OpenShut
import Derived.ShutString
import Derived.ChangeOld
import Derived.Below
import Derived.Carry
import Derived.Handy
import Derived.Deep.RegionHeld3
import Derived.LaidMore
namespace Go.Proofs.YtlfgcchnboaflaaDoor.fnPoolTwice
open Go.Proofs.YtlfgcchnboaflaaDoor.Lab
open Go.ChangeShapes Go.WideShapes Go.ChangeAt Go.RowKit
open Go.ChangeMaps (open_string shut_string)
set_option linter.unusedVariables false

theorem own : ownKnob Tryd.prog.godebug = none := by kernel_rfl
/-- A row of numbers that came in: nil, or so many cells. -/
def IsRow (k : IntKind) (w : World) (a : Option Addr) (len cap : Nat) (zs : List Int) : Prop :=
  (a = none ∧ len = 0 ∧ cap = 0 ∧ zs = []) ∨ ∃ x, a = some x ∧ len ≤ cap ∧ cap ≤ maxLen ∧ zs.length = cap ∧ (∀ i, i < zs.length → w.cell? (x.add i) = some (.int k (zs.getD i 0))) ∧ ∀ n ∈ zs, (Lit.int k n).wf = true

set_option maxHeartbeats 4000000 in
theorem walk (a0 : Option Addr) (len0 cap0 : Nat) (z0 : List Int) (w : World) (w0 : IsRow .u8 w a0 len0 cap0 z0) (hform : FormAt w) :
    Calls Tryd.prog 8 #[.slice a0 len0 cap0] w fun e w' => e = .returned (.bool true) ∧ Below w.heap.size w w' := by
  have HF : Hid (FormAt w) := hform
  clear hform
  by_cases hlen0 : len0 > 1048576
  · go_enter Tryd.func8, Tryd.ntmps8
    go_wp2
    go_ret
    exact ⟨rfl, Below.refl _ _⟩
  have k0 : CodeAt w a0 len0 cap0 z0 := code_of w0
  clear w0
  go_enter Tryd.func8, Tryd.ntmps8
  go_wp2_with fail
  refine (drawPoolAll _ _ _ _ _ k0).mono ?_
  rintro e wa ⟨zz, u, v, xs, ls, rfl, ou, ov, lx, ll, hz, ba⟩
  obtain ⟨va, vc, rfl⟩ := ov.form
  obtain ⟨ua, uc, rfl⟩ := ou.form
  obtain ⟨n, hn⟩ : ∃ n, n = ls.length := ⟨_, rfl⟩
  obtain ⟨m, hm⟩ : ∃ m, m = xs.length := ⟨_, rfl⟩
  have HN : Hid (n = ls.length ∧ m = xs.length) := ⟨hn, hm⟩
  rw [← hn] at ll ov ⊢
  rw [← hm] at lx ou ⊢
  obtain ⟨A, hA⟩ : ∃ t, t = wa.heap.size := ⟨_, rfl⟩
  have HA : Hid (A = wa.heap.size) := hA
  have BB : Below A wa wa := Below.refl _ _
  have sA : A ≤ wa.heap.size := by omega
  have HV : Hid (∀ W, Below A wa W → RowC W (.slice ua m uc) xs ∧ RowAt 2 encPage W (.slice va n vc) ls ∧ FormAt W ∧ Below w.heap.size w W) := fun W h => by
    rw [HA.out] at h
    exact ⟨(RowC.of_own ou).keep h, OwnPool.row (by rw [hn] at ov; rw [hn]; exact ov) |>.keep h, (HF.out.keep ba).keep h, ba.trans (h.mono ba.size)⟩
  clear ou ov ba k0 hn hm HF hA
  go_wp2_with fail
  obtain ⟨P0, hP0⟩ : ∃ t, t = wa.heap.size := ⟨_, rfl⟩
  generalize hW : wa.alloc (.cells #[.int .i64 zz, .slice ua m uc] 25) = wb
  have nb : Below wa.heap.size wa wb := by rw [← hW]; exact (Below.refl _ _).alloc (Nat.le_refl _) _
  have k3 : wb.heap.size = P0 + 1 := by rw [← hW, hP0]; simp
  have kk0 : wb.cell? ⟨P0, 0, none⟩ = some (.int .i64 zz) := by rw [← hW, hP0]; simp [go_sem]
  have kk1 : wb.cell? ⟨P0, 1, none⟩ = some (.slice ua m uc) := by rw [← hW, hP0]; simp [go_sem]
  have oP0A : A ≤ P0 := by rw [hP0]; exact sA
  have BB1 : Below A wa wb := BB.trans (nb.mono (by omega))
  have sA1 : A ≤ wb.heap.size := by have := Below.size nb; omega
  clear BB sA   
  have BB := BB1
  have sA := sA1
  clear BB1 sA1   
  have cc0 := kk0
  have cc1 := kk1
  have zz0 : P0 < wb.heap.size := by omega
  rw [← hP0]
  have k3P0 := k3
  clear k3 hW nb hP0 kk0 kk1
  obtain ⟨Z1, X1, N1, HX, lX, lN, HC1, HD1⟩ : ∃ (Z1 : Int) (X1 : List (Int × Int)) (N1 : Nat), Hid (Z1 = paZ zz xs ls ∧ X1 = paL zz xs ls ∧ N1 = paN zz xs ls) ∧ X1.length ≤ 12 ∧ N1 ≤ 24
      ∧ Hid (∀ W, Below A wa W → Calls Tryd.prog 18 #[.agg #[.int .i64 zz, .slice ua m uc], .slice va n vc] W fun e w' => ∃ u, e = .returned (.tuple #[.agg #[.int .i64 Z1, u], .int .i64 N1]) ∧ OwnPool w' W.heap.size u X1 ∧ Below W.heap.size W w')
      ∧ Hid (∀ W, Below A wa W → Calls Tryd.prog 19 #[.agg #[.int .i64 zz, .slice ua m uc], .slice va n vc] W fun e w' => ∃ u, e = .returned (.tuple #[.agg #[.int .i64 Z1, u], .int .i64 N1]) ∧ OwnPool w' W.heap.size u X1 ∧ Below W.heap.size W w') :=
    ⟨_, _, _, ⟨rfl, rfl, rfl⟩, paL_len _ _ _, by have := paN_le zz xs ls; rw [← HN.out.1] at this; omega, fun W h => impl_PoolAll zz _ _ xs ls W (HV.out _ h).1.1 (HV.out _ h).2.1 (by rw [← HN.out.2]; omega) (by rw [← HN.out.1]; omega) (HV.out _ h).2.2.1, fun W h => spec_PoolAll zz _ _ xs ls W (HV.out _ h).1 (HV.out _ h).2.1 (by rw [← HN.out.2]; omega) (by rw [← HN.out.1]; omega)⟩
  obtain ⟨x1, hx1⟩ : ∃ t, t = X1.length := ⟨_, rfl⟩
  have HL1 : Hid (x1 = X1.length) := hx1
  have lx1 : x1 ≤ 12 := by omega
  clear lX hx1
  refine (HC1.out _ BB).mono ?_
  rintro e wc ⟨u, rfl, ou, bc⟩
  have d0 : wc.cell? ⟨P0, 0, none⟩ = some (.int .i64 zz) := (Below.celz bc _ _ _ (by omega)).trans cc0
  have d1 : wc.cell? ⟨P0, 1, none⟩ = some (.slice ua m uc) := (Below.celz bc _ _ _ (by omega)).trans cc1
  have y0 : P0 < wc.heap.size := by have := Below.size bc; omega
  have BB1 : Below A wa wc := BB.trans (bc.mono (by omega))
  have sA1 : A ≤ wc.heap.size := by have := Below.size bc; omega
  clear BB sA cc0 cc1 zz0 
  have cc0 := d0
  have cc1 := d1
  have zz0 := y0
  have BB := BB1
  have sA := sA1
  clear BB1 sA1 d0 d1 y0 
  clear bc
  obtain ⟨pa, pb, rfl⟩ := ou.form
  rw [← HL1.out] at ou ⊢
  have HRC0 := RowC.of_own ou
  have HXX : Hid (RowC wc (.slice pa x1 pb) X1) := HRC0
  clear ou HRC0
  go_wp2_with fail
  obtain ⟨P1, hP1⟩ : ∃ t, t = wc.heap.size := ⟨_, rfl⟩
  generalize hW : wc.alloc (.cells #[.int .i64 Z1, .slice pa x1 pb] 25) = wd
  have nb : Below wc.heap.size wc wd := by rw [← hW]; exact (Below.refl _ _).alloc (Nat.le_refl _) _
  have k3 : wd.heap.size = P1 + 1 := by rw [← hW, hP1]; simp
  have kk0 : wd.cell? ⟨P1, 0, none⟩ = some (.int .i64 Z1) := by rw [← hW, hP1]; simp [go_sem]
  have kk1 : wd.cell? ⟨P1, 1, none⟩ = some (.slice pa x1 pb) := by rw [← hW, hP1]; simp [go_sem]
  have oP1A : A ≤ P1 := by rw [hP1]; exact sA
  have oP10 : P0 < P1 := by rw [hP1]; exact zz0
  have d0 : wd.cell? ⟨P0, 0, none⟩ = some (.int .i64 zz) := (Below.celz nb _ _ _ (by omega)).trans cc0
  have d1 : wd.cell? ⟨P0, 1, none⟩ = some (.slice ua m uc) := (Below.celz nb _ _ _ (by omega)).trans cc1
  have y0 : P0 < wd.heap.size := by have := Below.size nb; omega
  have BB1 : Below A wa wd := BB.trans (nb.mono (by omega))
  have sA1 : A ≤ wd.heap.size := by have := Below.size nb; omega
  have q0 : Hid (RowC wd (.slice pa x1 pb) X1) := HXX.out.keep nb
  clear BB sA cc0 cc1 zz0 HXX
  have cc0 := d0
  have cc1 := d1
  have zz0 := y0
  have HXX := q0
  have BB := BB1
  have sA := sA1
  clear BB1 sA1 d0 d1 y0 q0
  have cc2 := kk0
  have cc3 := kk1
  have zz1 : P1 < wd.heap.size := by omega
  rw [← hP1]
  have k3P1 := k3
  clear k3 hW nb hP1 kk0 kk1
  refine (HD1.out _ BB).mono ?_
  rintro e we ⟨u, rfl, ou, be⟩
  have d0 : we.cell? ⟨P0, 0, none⟩ = some (.int .i64 zz) := (Below.celz be _ _ _ (by omega)).trans cc0
  have d1 : we.cell? ⟨P0, 1, none⟩ = some (.slice ua m uc) := (Below.celz be _ _ _ (by omega)).trans cc1
  have d2 : we.cell? ⟨P1, 0, none⟩ = some (.int .i64 Z1) := (Below.celz be _ _ _ (by omega)).trans cc2
  have d3 : we.cell? ⟨P1, 1, none⟩ = some (.slice pa x1 pb) := (Below.celz be _ _ _ (by omega)).trans cc3
  have y0 : P0 < we.heap.size := by have := Below.size be; omega
  have y1 : P1 < we.heap.size := by have := Below.size be; omega
  have BB1 : Below A wa we := BB.trans (be.mono (by omega))
  have sA1 : A ≤ we.heap.size := by have := Below.size be; omega
  have q0 : Hid (RowC we (.slice pa x1 pb) X1) := HXX.out.keep be
  clear BB sA cc0 cc1 cc2 cc3 zz0 zz1 HXX
  have cc0 := d0
  have cc1 := d1
  have cc2 := d2
  have cc3 := d3
  have zz0 := y0
  have zz1 := y1
  have HXX := q0
  have BB := BB1
  have sA := sA1
  clear BB1 sA1 d0 d1 d2 d3 y0 y1 q0
  clear be
  obtain ⟨qa, qb, rfl⟩ := ou.form
  rw [← HL1.out] at ou ⊢
  have HYY : Hid (RowAt 2 encPage we (.slice qa x1 qb) X1) := by have := ou.row; exact this
  clear ou
  go_wp2_with fail
  obtain ⟨P2, hP2⟩ : ∃ t, t = we.heap.size := ⟨_, rfl⟩
  generalize hW : we.alloc (.cells #[.int .i64 Z1, .slice qa x1 qb] 25) = wf
  have nb : Below we.heap.size we wf := by rw [← hW]; exact (Below.refl _ _).alloc (Nat.le_refl _) _
  have k3 : wf.heap.size = P2 + 1 := by rw [← hW, hP2]; simp
  have kk0 : wf.cell? ⟨P2, 0, none⟩ = some (.int .i64 Z1) := by rw [← hW, hP2]; simp [go_sem]
  have kk1 : wf.cell? ⟨P2, 1, none⟩ = some (.slice qa x1 qb) := by rw [← hW, hP2]; simp [go_sem]
  have oP2A : A ≤ P2 := by rw [hP2]; exact sA
  have oP20 : P0 < P2 := by rw [hP2]; exact zz0
  have oP21 : P1 < P2 := by rw [hP2]; exact zz1
  have d0 : wf.cell? ⟨P0, 0, none⟩ = some (.int .i64 zz) := (Below.celz nb _ _ _ (by omega)).trans cc0
  have d1 : wf.cell? ⟨P0, 1, none⟩ = some (.slice ua m uc) := (Below.celz nb _ _ _ (by omega)).trans cc1
  have d2 : wf.cell? ⟨P1, 0, none⟩ = some (.int .i64 Z1) := (Below.celz nb _ _ _ (by omega)).trans cc2
  have d3 : wf.cell? ⟨P1, 1, none⟩ = some (.slice pa x1 pb) := (Below.celz nb _ _ _ (by omega)).trans cc3
  have y0 : P0 < wf.heap.size := by have := Below.size nb; omega
  have y1 : P1 < wf.heap.size := by have := Below.size nb; omega
  have BB1 : Below A wa wf := BB.trans (nb.mono (by omega))
  have sA1 : A ≤ wf.heap.size := by have := Below.size nb; omega
  have q0 : Hid (RowC wf (.slice pa x1 pb) X1) := HXX.out.keep nb
  have q1 : Hid (RowAt 2 encPage wf (.slice qa x1 qb) X1) := HYY.out.keep nb
  clear BB sA cc0 cc1 cc2 cc3 zz0 zz1 HXX HYY
  have cc0 := d0
  have cc1 := d1
  have cc2 := d2
  have cc3 := d3
  have zz0 := y0
  have zz1 := y1
  have HXX := q0
  have HYY := q1
  have BB := BB1
  have sA := sA1
  clear BB1 sA1 d0 d1 d2 d3 y0 y1 q0 q1
  have cc4 := kk0
  have cc5 := kk1
  have zz2 : P2 < wf.heap.size := by omega
  rw [← hP2]
  have k3P2 := k3
  clear k3 hW nb hP2 kk0 kk1
  have hne : ((N1 : Int) != (N1 : Int)) = false := by simp
  have hne2 : ((N1 : Int) == (N1 : Int)) = true := by simp
  clear k3P0 k3P1 k3P2
  go_wp2_with fail
  refine (impl_PoolSame_same Z1 _ _ X1 _ HXX.out.1 HYY.out (by rw [← HL1.out]; omega)).mono ?_
  rintro e wg ⟨rfl, bg⟩
  have d0 : wg.cell? ⟨P0, 0, none⟩ = some (.int .i64 zz) := (Below.celz bg _ _ _ (by omega)).trans cc0
  have d1 : wg.cell? ⟨P0, 1, none⟩ = some (.slice ua m uc) := (Below.celz bg _ _ _ (by omega)).trans cc1
  have d2 : wg.cell? ⟨P1, 0, none⟩ = some (.int .i64 Z1) := (Below.celz bg _ _ _ (by omega)).trans cc2
  have d3 : wg.cell? ⟨P1, 1, none⟩ = some (.slice pa x1 pb) := (Below.celz bg _ _ _ (by omega)).trans cc3
  have d4 : wg.cell? ⟨P2, 0, none⟩ = some (.int .i64 Z1) := (Below.celz bg _ _ _ (by omega)).trans cc4
  have d5 : wg.cell? ⟨P2, 1, none⟩ = some (.slice qa x1 qb) := (Below.celz bg _ _ _ (by omega)).trans cc5
  have y0 : P0 < wg.heap.size := by have := Below.size bg; omega
  have y1 : P1 < wg.heap.size := by have := Below.size bg; omega
  have y2 : P2 < wg.heap.size := by have := Below.size bg; omega
  have BB1 : Below A wa wg := BB.trans (bg.mono (by omega))
  have sA1 : A ≤ wg.heap.size := by have := Below.size bg; omega
  have q0 : Hid (RowC wg (.slice pa x1 pb) X1) := HXX.out.keep bg
  have q1 : Hid (RowAt 2 encPage wg (.slice qa x1 qb) X1) := HYY.out.keep bg
  clear BB sA cc0 cc1 cc2 cc3 cc4 cc5 zz0 zz1 zz2 HXX HYY
  have cc0 := d0
  have cc1 := d1
  have cc2 := d2
  have cc3 := d3
  have cc4 := d4
  have cc5 := d5
  have zz0 := y0
  have zz1 := y1
  have zz2 := y2
  have HXX := q0
  have HYY := q1
  have BB := BB1
  have sA := sA1
  clear BB1 sA1 d0 d1 d2 d3 d4 d5 y0 y1 y2 q0 q1
  clear bg
  cases hp : poolB zz xs
  · go_wp2_with fail
    have CP := spec_PoolOk zz _ xs _ (HV.out _ BB).1 (by rw [← HN.out.2]; omega)
    rw [hp] at CP
    refine (CP).mono ?_
    rintro e wh ⟨rfl, bh⟩
    have d0 : wh.cell? ⟨P0, 0, none⟩ = some (.int .i64 zz) := (Below.celz bh _ _ _ (by omega)).trans cc0
    have d1 : wh.cell? ⟨P0, 1, none⟩ = some (.slice ua m uc) := (Below.celz bh _ _ _ (by omega)).trans cc1
    have d2 : wh.cell? ⟨P1, 0, none⟩ = some (.int .i64 Z1) := (Below.celz bh _ _ _ (by omega)).trans cc2
    have d3 : wh.cell? ⟨P1, 1, none⟩ = some (.slice pa x1 pb) := (Below.celz bh _ _ _ (by omega)).trans cc3
    have d4 : wh.cell? ⟨P2, 0, none⟩ = some (.int .i64 Z1) := (Below.celz bh _ _ _ (by omega)).trans cc4
    have d5 : wh.cell? ⟨P2, 1, none⟩ = some (.slice qa x1 qb) := (Below.celz bh _ _ _ (by omega)).trans cc5
    have y0 : P0 < wh.heap.size := by have := Below.size bh; omega
    have y1 : P1 < wh.heap.size := by have := Below.size bh; omega
    have y2 : P2 < wh.heap.size := by have := Below.size bh; omega
    have BB1 : Below A wa wh := BB.trans (bh.mono (by omega))
    have sA1 : A ≤ wh.heap.size := by have := Below.size bh; omega
    have q0 : Hid (RowC wh (.slice pa x1 pb) X1) := HXX.out.keep bh
    have q1 : Hid (RowAt 2 encPage wh (.slice qa x1 qb) X1) := HYY.out.keep bh
    clear BB sA cc0 cc1 cc2 cc3 cc4 cc5 zz0 zz1 zz2 HXX HYY
    have cc0 := d0
    have cc1 := d1
    have cc2 := d2
    have cc3 := d3
    have cc4 := d4
    have cc5 := d5
    have zz0 := y0
    have zz1 := y1
    have zz2 := y2
    have HXX := q0
    have HYY := q1
    have BB := BB1
    have sA := sA1
    clear BB1 sA1 d0 d1 d2 d3 d4 d5 y0 y1 y2 q0 q1
    clear bh
    clear CP
    go_wp2_with fail
    refine (impl_PoolSame_same Z1 _ _ X1 _ HXX.out.1 HYY.out (by rw [← HL1.out]; omega)).mono ?_
    rintro e wi ⟨rfl, bi⟩
    have d0 : wi.cell? ⟨P0, 0, none⟩ = some (.int .i64 zz) := (Below.celz bi _ _ _ (by omega)).trans cc0
    have d1 : wi.cell? ⟨P0, 1, none⟩ = some (.slice ua m uc) := (Below.celz bi _ _ _ (by omega)).trans cc1
    have d2 : wi.cell? ⟨P1, 0, none⟩ = some (.int .i64 Z1) := (Below.celz bi _ _ _ (by omega)).trans cc2
    have d3 : wi.cell? ⟨P1, 1, none⟩ = some (.slice pa x1 pb) := (Below.celz bi _ _ _ (by omega)).trans cc3
    have d4 : wi.cell? ⟨P2, 0, none⟩ = some (.int .i64 Z1) := (Below.celz bi _ _ _ (by omega)).trans cc4
    have d5 : wi.cell? ⟨P2, 1, none⟩ = some (.slice qa x1 qb) := (Below.celz bi _ _ _ (by omega)).trans cc5
    have y0 : P0 < wi.heap.size := by have := Below.size bi; omega
    have y1 : P1 < wi.heap.size := by have := Below.size bi; omega
    have y2 : P2 < wi.heap.size := by have := Below.size bi; omega
    have BB1 : Below A wa wi := BB.trans (bi.mono (by omega))
    have sA1 : A ≤ wi.heap.size := by have := Below.size bi; omega
    have q0 : Hid (RowC wi (.slice pa x1 pb) X1) := HXX.out.keep bi
    have q1 : Hid (RowAt 2 encPage wi (.slice qa x1 qb) X1) := HYY.out.keep bi
    clear BB sA cc0 cc1 cc2 cc3 cc4 cc5 zz0 zz1 zz2 HXX HYY
    have cc0 := d0
    have cc1 := d1
    have cc2 := d2
    have cc3 := d3
    have cc4 := d4
    have cc5 := d5
    have zz0 := y0
    have zz1 := y1
    have zz2 := y2
    have HXX := q0
    have HYY := q1
    have BB := BB1
    have sA := sA1
    clear BB1 sA1 d0 d1 d2 d3 d4 d5 y0 y1 y2 q0 q1
    clear bi
    go_wp2_with fail
    go_ret
    exact ⟨rfl, (HV.out _ BB).2.2.2⟩
  · go_wp2_with fail
    have CP := spec_PoolOk zz _ xs _ (HV.out _ BB).1 (by rw [← HN.out.2]; omega)
    rw [hp] at CP
    refine (CP).mono ?_
    rintro e wh ⟨rfl, bh⟩
    have d0 : wh.cell? ⟨P0, 0, none⟩ = some (.int .i64 zz) := (Below.celz bh _ _ _ (by omega)).trans cc0
    have d1 : wh.cell? ⟨P0, 1, none⟩ = some (.slice ua m uc) := (Below.celz bh _ _ _ (by omega)).trans cc1
    have d2 : wh.cell? ⟨P1, 0, none⟩ = some (.int .i64 Z1) := (Below.celz bh _ _ _ (by omega)).trans cc2
    have d3 : wh.cell? ⟨P1, 1, none⟩ = some (.slice pa x1 pb) := (Below.celz bh _ _ _ (by omega)).trans cc3
    have d4 : wh.cell? ⟨P2, 0, none⟩ = some (.int .i64 Z1) := (Below.celz bh _ _ _ (by omega)).trans cc4
    have d5 : wh.cell? ⟨P2, 1, none⟩ = some (.slice qa x1 qb) := (Below.celz bh _ _ _ (by omega)).trans cc5
    have y0 : P0 < wh.heap.size := by have := Below.size bh; omega
    have y1 : P1 < wh.heap.size := by have := Below.size bh; omega
    have y2 : P2 < wh.heap.size := by have := Below.size bh; omega
    have BB1 : Below A wa wh := BB.trans (bh.mono (by omega))
    have sA1 : A ≤ wh.heap.size := by have := Below.size bh; omega
    have q0 : Hid (RowC wh (.slice pa x1 pb) X1) := HXX.out.keep bh
    have q1 : Hid (RowAt 2 encPage wh (.slice qa x1 qb) X1) := HYY.out.keep bh
    clear BB sA cc0 cc1 cc2 cc3 cc4 cc5 zz0 zz1 zz2 HXX HYY
    have cc0 := d0
    have cc1 := d1
    have cc2 := d2
    have cc3 := d3
    have cc4 := d4
    have cc5 := d5
    have zz0 := y0
    have zz1 := y1
    have zz2 := y2
    have HXX := q0
    have HYY := q1
    have BB := BB1
    have sA := sA1
    clear BB1 sA1 d0 d1 d2 d3 d4 d5 y0 y1 y2 q0 q1
    clear bh
    clear CP
    by_cases hzz : Z1 = zz
    rotate_left
    · have hzb : (Z1 != zz) = true := by simpa using hzz
      have hzc : (Z1 == zz) = false := by simpa using hzz
      clear hzz
      go_wp2_with fail
      refine (impl_PoolSame_same Z1 _ _ X1 _ HXX.out.1 HYY.out (by rw [← HL1.out]; omega)).mono ?_
      rintro e wi ⟨rfl, bi⟩
      have d0 : wi.cell? ⟨P0, 0, none⟩ = some (.int .i64 zz) := (Below.celz bi _ _ _ (by omega)).trans cc0
      have d1 : wi.cell? ⟨P0, 1, none⟩ = some (.slice ua m uc) := (Below.celz bi _ _ _ (by omega)).trans cc1
      have d2 : wi.cell? ⟨P1, 0, none⟩ = some (.int .i64 Z1) := (Below.celz bi _ _ _ (by omega)).trans cc2
      have d3 : wi.cell? ⟨P1, 1, none⟩ = some (.slice pa x1 pb) := (Below.celz bi _ _ _ (by omega)).trans cc3
      have d4 : wi.cell? ⟨P2, 0, none⟩ = some (.int .i64 Z1) := (Below.celz bi _ _ _ (by omega)).trans cc4
      have d5 : wi.cell? ⟨P2, 1, none⟩ = some (.slice qa x1 qb) := (Below.celz bi _ _ _ (by omega)).trans cc5
      have y0 : P0 < wi.heap.size := by have := Below.size bi; omega
      have y1 : P1 < wi.heap.size := by have := Below.size bi; omega
      have y2 : P2 < wi.heap.size := by have := Below.size bi; omega
      have BB1 : Below A wa wi := BB.trans (bi.mono (by omega))
      have sA1 : A ≤ wi.heap.size := by have := Below.size bi; omega
      have q0 : Hid (RowC wi (.slice pa x1 pb) X1) := HXX.out.keep bi
      have q1 : Hid (RowAt 2 encPage wi (.slice qa x1 qb) X1) := HYY.out.keep bi
      clear BB sA cc0 cc1 cc2 cc3 cc4 cc5 zz0 zz1 zz2 HXX HYY
      have cc0 := d0
      have cc1 := d1
      have cc2 := d2
      have cc3 := d3
      have cc4 := d4
      have cc5 := d5
      have zz0 := y0
      have zz1 := y1
      have zz2 := y2
      have HXX := q0
      have HYY := q1
      have BB := BB1
      have sA := sA1
      clear BB1 sA1 d0 d1 d2 d3 d4 d5 y0 y1 y2 q0 q1
      clear bi
      go_wp2_with fail
      go_ret
      exact ⟨rfl, (HV.out _ BB).2.2.2⟩
    · obtain ⟨g1, g2, g3, g4, g5⟩ := poolB_true.1 hp
      obtain ⟨zn, rfl⟩ := Int.eq_ofNat_of_zero_le g1
      subst hzz
      have HP : Hid (poolB zn xs = true ∧ xs.Nodup ∧ xs.length ≤ zn ∧ X1 = (stk xs ls).take zn) := by
        obtain ⟨h1, h2, h3⟩ := HX.out
        refine ⟨hp, g5, by omega, ?_⟩
        rw [h2]
        exact paL_stk hp h1.symm
      have hzn : zn ≤ 12 := by omega
      have hzd : ((zn : Int) != (zn : Int)) = false := by simp
      clear g4 g5 hp
      go_wp2_with fail
      go_loopw [9, 10] (fun u i wr => ∃ a : Nat, a ≤ n ∧ i = .int .i64 a ∧ u = .int .i64 (unl ls a : Nat) ∧ Below wh.heap.size wh wr) (fun _ i _ => n - (intOf i).toNat)
      case atStart => exact ⟨0, by omega, rfl, rfl, Below.refl _ _⟩
      case round =>
        obtain ⟨a, ha, rfl, rfl, hbel⟩ := hrel
        have HBL : Hid (Below wh.heap.size wh wr) := hbel
        have sg : wh.heap.size ≤ wr.heap.size := hbel.size
        have hul := unl_le ls a
        obtain ⟨u, hu⟩ : ∃ u, u = unl ls a := ⟨_, rfl⟩
        have HU : Hid (u = unl ls a) := hu
        rw [← hu] at hul ⊢
        clear hu
        have d0 : wr.cell? ⟨P0, 0, none⟩ = some (.int .i64 (zn : Int)) := (Below.celz hbel _ _ _ (by omega)).trans cc0
        have d1 : wr.cell? ⟨P0, 1, none⟩ = some (.slice ua m uc) := (Below.celz hbel _ _ _ (by omega)).trans cc1
        have d2 : wr.cell? ⟨P1, 0, none⟩ = some (.int .i64 (zn : Int)) := (Below.celz hbel _ _ _ (by omega)).trans cc2
        have d3 : wr.cell? ⟨P1, 1, none⟩ = some (.slice pa x1 pb) := (Below.celz hbel _ _ _ (by omega)).trans cc3
        have d4 : wr.cell? ⟨P2, 0, none⟩ = some (.int .i64 (zn : Int)) := (Below.celz hbel _ _ _ (by omega)).trans cc4
        have d5 : wr.cell? ⟨P2, 1, none⟩ = some (.slice qa x1 qb) := (Below.celz hbel _ _ _ (by omega)).trans cc5
        have y0 : P0 < wr.heap.size := by have := Below.size hbel; omega
        have y1 : P1 < wr.heap.size := by have := Below.size hbel; omega
        have y2 : P2 < wr.heap.size := by have := Below.size hbel; omega
        have BB1 : Below A wa wr := BB.trans (hbel.mono (by omega))
        have sA1 : A ≤ wr.heap.size := by have := Below.size hbel; omega
        have q0 : Hid (RowC wr (.slice pa x1 pb) X1) := HXX.out.keep hbel
        have q1 : Hid (RowAt 2 encPage wr (.slice qa x1 qb) X1) := HYY.out.keep hbel
        clear BB sA cc0 cc1 cc2 cc3 cc4 cc5 zz0 zz1 zz2 HXX HYY
        have cc0 := d0
        have cc1 := d1
        have cc2 := d2
        have cc3 := d3
        have cc4 := d4
        have cc5 := d5
        have zz0 := y0
        have zz1 := y1
        have zz2 := y2
        have HXX := q0
        have HYY := q1
        have BB := BB1
        have sA := sA1
        clear BB1 sA1 d0 d1 d2 d3 d4 d5 y0 y1 y2 q0 q1
        clear hbel
        by_cases hlt : a < n
        · rcases (HV.out wa (Below.refl _ _)).2.1 with ⟨hz0, _⟩ | ⟨_, b, off, cap', hv, hb, hc⟩
          · exfalso; have := HN.out.1; rw [hz0] at this; simp at this; omega
          simp only [Value.slice.injEq] at hv
          obtain ⟨rfl, -, hcc⟩ := hv
          subst hcc
          have HROW : Hid (∀ W, Below A wa W → ∀ j x, ls[j]? = some x → W.cell? ⟨b, off + j * 2, none⟩ = some (.int .i64 x.1) ∧ W.cell? ⟨b, off + j * 2 + 1, none⟩ = some (.int .i64 x.2)) := fun W h j x hx => ⟨(Below.celz h _ _ _ (by rw [HA.out]; exact hb)).trans (hc j x hx 0 _ rfl), (Below.celz h _ _ _ (by rw [HA.out]; exact hb)).trans (hc j x hx 1 _ rfl)⟩
          have hbA : b < A := by rw [HA.out]; exact hb
          clear hc hb
          have hxa : ∃ x, ls[a]? = some x := ⟨_, List.getElem?_eq_getElem (by rw [← HN.out.1]; exact hlt)⟩
          obtain ⟨⟨x0, y0⟩, hxa⟩ := hxa
          have HXA : Hid (ls[a]? = some (x0, y0)) := hxa
          clear hxa
          have a0 : (0 : Int) ≤ (a : Int) := by omega
          have a1 : (a : Int) < (n : Int) := by omega
          go_wp2_with fail
          go_loopw [11, 12] (fun s i wr2 => ∃ j : Nat, j ≤ a ∧ i = .int .i64 j ∧ s = .bool (hasK ls (x0, y0) j) ∧ Below wr.heap.size wr wr2) (fun _ i _ => a - (intOf i).toNat)
          case atStart => exact ⟨0, by omega, rfl, by rw [hasK_zero], Below.refl _ _⟩
          case round =>
            rename World => wr2
            obtain ⟨j, hj, rfl, rfl, hbel⟩ := hrel
            have HBJ : Hid (Below wr.heap.size wr wr2) := hbel
            have sj : wr.heap.size ≤ wr2.heap.size := hbel.size
            obtain ⟨h, hh⟩ : ∃ h, h = hasK ls (x0, y0) j := ⟨_, rfl⟩
            have HH : Hid (h = hasK ls (x0, y0) j) := hh
            rw [← hh]
            clear hh
            have d0 : wr2.cell? ⟨P0, 0, none⟩ = some (.int .i64 (zn : Int)) := (Below.celz hbel _ _ _ (by omega)).trans cc0
            have d1 : wr2.cell? ⟨P0, 1, none⟩ = some (.slice ua m uc) := (Below.celz hbel _ _ _ (by omega)).trans cc1
            have d2 : wr2.cell? ⟨P1, 0, none⟩ = some (.int .i64 (zn : Int)) := (Below.celz hbel _ _ _ (by omega)).trans cc2
            have d3 : wr2.cell? ⟨P1, 1, none⟩ = some (.slice pa x1 pb) := (Below.celz hbel _ _ _ (by omega)).trans cc3
            have d4 : wr2.cell? ⟨P2, 0, none⟩ = some (.int .i64 (zn : Int)) := (Below.celz hbel _ _ _ (by omega)).trans cc4
            have d5 : wr2.cell? ⟨P2, 1, none⟩ = some (.slice qa x1 qb) := (Below.celz hbel _ _ _ (by omega)).trans cc5
            have y0 : P0 < wr2.heap.size := by have := Below.size hbel; omega
            have y1 : P1 < wr2.heap.size := by have := Below.size hbel; omega
            have y2 : P2 < wr2.heap.size := by have := Below.size hbel; omega
            have BB1 : Below A wa wr2 := BB.trans (hbel.mono (by omega))
            have sA1 : A ≤ wr2.heap.size := by have := Below.size hbel; omega
            have q0 : Hid (RowC wr2 (.slice pa x1 pb) X1) := HXX.out.keep hbel
            have q1 : Hid (RowAt 2 encPage wr2 (.slice qa x1 qb) X1) := HYY.out.keep hbel
            clear BB sA cc0 cc1 cc2 cc3 cc4 cc5 zz0 zz1 zz2 HXX HYY
            have cc0 := d0
            have cc1 := d1
            have cc2 := d2
            have cc3 := d3
            have cc4 := d4
            have cc5 := d5
            have zz0 := y0
            have zz1 := y1
            have zz2 := y2
            have HXX := q0
            have HYY := q1
            have BB := BB1
            have sA := sA1
            clear BB1 sA1 d0 d1 d2 d3 d4 d5 y0 y1 y2 q0 q1
            clear hbel
            by_cases hlt2 : j < a
            · obtain ⟨⟨m0, m1⟩, hx⟩ : ∃ x, ls[j]? = some x := ⟨_, List.getElem?_eq_getElem (by rw [← HN.out.1]; omega)⟩
              have e0 : wr2.cell? ⟨b, off + j * 2, none⟩ = some (.int .i64 m0) := (HROW.out _ BB _ _ hx).1
              have e1 : wr2.cell? ⟨b, off + j * 2 + 1, none⟩ = some (.int .i64 m1) := (HROW.out _ BB _ _ hx).2
              have HXk : Hid (ls[j]? = some (m0, m1)) := hx
              have ze : b < wr2.heap.size := by omega
              clear hx
              have f0 : wr2.cell? ⟨b, off + a * 2, none⟩ = some (.int .i64 x0) := (HROW.out _ BB _ _ HXA.out).1
              have f1 : wr2.cell? ⟨b, off + a * 2 + 1, none⟩ = some (.int .i64 y0) := (HROW.out _ BB _ _ HXA.out).2
              have j0 : (0 : Int) ≤ (j : Int) := by omega
              have j1 : (j : Int) < (n : Int) := by omega
              have j2 : (j : Int) < (a : Int) := by omega
              have HS : Hid (hasK ls (x0, y0) (j + 1) = (h || eqB (m0, m1) (x0, y0))) := by rw [HH.out]; exact hasK_step HXk.out
              cases h
              · by_cases e : m0 = x0
                · subst e
                  by_cases e2 : m1 = y0
                  · subst e2
                    have HE : Hid (eqB (m0, m1) (m0, m1) = true) := eqB_true.2 rfl
                    go_wp2_with fail
                    refine wp_region_after (by kernel_rfl) (by kernel_rfl) ?_
                    intro hne hac
                    repeat (go_big_quiet_step (fail))
                    refine wpQuiet_nil ?_
                    rintro _ ⟨p, rfl⟩
                    have HB2 : Hid (Below wr.heap.size wr p.w) := HBJ.out.trans (p.bel.mono sj)
                    have bq : Below wr2.heap.size wr2 p.w := p.bel
                    clear hac hne
                    generalize p.w = wq at *
                    clear bq
                    go_wp2_with fail
                    go_roundw
                    case rel => exact ⟨j + 1, by omega, by go_num, by rw [HS.out, HE.out]; rfl, HB2.out⟩
                    case measure => simp [intOf]; omega
                  · have d0 : (m1 == y0) = false := beq_eq_false_iff_ne.2 e2
                    have d1 : decide (m1 = y0) = false := by simpa using e2
                    have HE : Hid (eqB (m0, m1) (m0, y0) = false) := by show _ = _; rw [eqB_false]; simp [e2]
                    clear e2
                    go_wp2_with fail
                    refine wp_region_after (by kernel_rfl) (by kernel_rfl) ?_
                    intro hne hac
                    repeat (go_big_quiet_step (fail))
                    refine wpQuiet_nil ?_
                    rintro _ ⟨p, rfl⟩
                    have HB2 : Hid (Below wr.heap.size wr p.w) := HBJ.out.trans (p.bel.mono sj)
                    have bq : Below wr2.heap.size wr2 p.w := p.bel
                    clear hac hne
                    generalize p.w = wq at *
                    clear bq
                    go_wp2_with fail
                    go_roundw
                    case rel => exact ⟨j + 1, by omega, by go_num, by rw [HS.out, HE.out]; rfl, HB2.out⟩
                    case measure => simp [intOf]; omega
                · have d0 : (m0 == x0) = false := beq_eq_false_iff_ne.2 e
                  have d1 : decide (m0 = x0) = false := by simpa using e
                  have HE : Hid (eqB (m0, m1) (x0, y0) = false) := by show _ = _; rw [eqB_false]; simp [e]
                  clear e
                  go_wp2_with fail
                  refine wp_region_after (by kernel_rfl) (by kernel_rfl) ?_
                  intro hne hac
                  repeat (go_big_quiet_step (fail))
                  refine wpQuiet_nil ?_
                  rintro _ ⟨p, rfl⟩
                  have HB2 : Hid (Below wr.heap.size wr p.w) := HBJ.out.trans (p.bel.mono sj)
                  have bq : Below wr2.heap.size wr2 p.w := p.bel
                  clear hac hne
                  generalize p.w = wq at *
                  clear bq
                  go_wp2_with fail
                  go_roundw
                  case rel => exact ⟨j + 1, by omega, by go_num, by rw [HS.out, HE.out]; rfl, HB2.out⟩
                  case measure => simp [intOf]; omega
              · go_wp2_with fail
                refine wp_region_after (by kernel_rfl) (by kernel_rfl) ?_
                intro hne hac
                repeat (go_big_quiet_step (fail))
                refine wpQuiet_nil ?_
                rintro _ ⟨p, rfl⟩
                have HB2 : Hid (Below wr.heap.size wr p.w) := HBJ.out.trans (p.bel.mono sj)
                have bq : Below wr2.heap.size wr2 p.w := p.bel
                clear hac hne
                generalize p.w = wq at *
                clear bq
                go_wp2_with fail
                go_roundw
                case rel => exact ⟨j + 1, by omega, by go_num, by rw [HS.out]; rfl, HB2.out⟩
                case measure => simp [intOf]; omega
            · have hja : a = j := by omega
              subst hja
              have HST : Hid (unl ls (a + 1) = u + if h then 0 else 1) := by rw [HU.out, HH.out]; exact unl_step HXA.out
              cases h
              · go_wp2_with fail
                go_roundw
                case rel => exact ⟨a + 1, by omega, by go_num, by rw [HST.out]; first | rfl | go_num, HBL.out.trans (HBJ.out.mono sg)⟩
                case measure => simp [intOf]; omega
              · go_wp2_with fail
                go_roundw
                case rel => exact ⟨a + 1, by omega, by go_num, by rw [HST.out]; first | rfl | go_num, HBL.out.trans (HBJ.out.mono sg)⟩
                case measure => simp [intOf]; omega
        · have hna : n = a := by omega
          subst hna
          obtain ⟨Z2, X2, N2, HX2, lX2, HC2⟩ : ∃ (Z2 : Int) (X2 : List (Int × Int)) (N2 : Nat), Hid (Z2 = paZ zn X1 ls ∧ X2 = paL zn X1 ls ∧ N2 = paN zn X1 ls) ∧ X2.length ≤ 12
              ∧ Hid (∀ W, Below A wa W → RowC W (.slice pa x1 pb) X1 → Calls Tryd.prog 18 #[.agg #[.int .i64 zn, .slice pa x1 pb], .slice va n vc] W fun e w' => ∃ u, e = .returned (.tuple #[.agg #[.int .i64 Z2, u], .int .i64 N2]) ∧ OwnPool w' W.heap.size u X2 ∧ Below W.heap.size W w') :=
            ⟨_, _, _, ⟨rfl, rfl, rfl⟩, paL_len _ _ _, fun W h hx => impl_PoolAll zn _ _ X1 ls W hx.1 (HV.out _ h).2.1 (by rw [← HL1.out]; omega) (by rw [← HN.out.1]; omega) (HV.out _ h).2.2.1⟩
          have HFIN : Hid (zn < u ∨ (Z2 = zn ∧ X2 = X1 ∧ N2 = 0)) := by
            obtain ⟨h1, h2, h3⟩ := HX2.out
            cases hl : ls.all (fun x => pageB x.1 x.2)
            · left
              have hz := (HX.out).1
              rw [(paZ_bad hl).1] at hz
              have hz0 : zn = 0 := by omega
              have hne : 0 < ls.length := by
                rw [List.all_eq_false] at hl
                obtain ⟨x, hx, _⟩ := hl
                exact List.length_pos_of_mem hx
              have := unl_pos hne n (by rw [HN.out.1]; exact hne) (by rw [HN.out.1]; exact Nat.le_refl _)
              rw [HU.out]
              omega
            · by_cases hun : u ≤ zn
              · right
                have hp2 := poolB_stk (ls := ls) HP.out.1 hl
                rw [← HP.out.2.2.2] at hp2
                obtain ⟨a1, a2, a3⟩ := paZ_all hp2 hl
                have ht := pool_twice (zn := zn) (xs := xs) (ls := ls) HP.out.2.1 (by rw [← HN.out.1, ← HU.out]; exact hun)
                rw [← HP.out.2.2.2] at ht
                rw [show Int.toNat (zn : Int) = zn from rfl, ht] at a2 a3
                exact ⟨by rw [h1, a1], by rw [h2, a2], by rw [h3, a3]⟩
              · left; omega
          go_wp2_with fail
          refine (HC2.out _ BB HXX.out).mono ?_
          rintro e wj ⟨u2, rfl, ou, bj⟩
          have d0 : wj.cell? ⟨P0, 0, none⟩ = some (.int .i64 (zn : Int)) := (Below.celz bj _ _ _ (by omega)).trans cc0
          have d1 : wj.cell? ⟨P0, 1, none⟩ = some (.slice ua m uc) := (Below.celz bj _ _ _ (by omega)).trans cc1
          have d2 : wj.cell? ⟨P1, 0, none⟩ = some (.int .i64 (zn : Int)) := (Below.celz bj _ _ _ (by omega)).trans cc2
          have d3 : wj.cell? ⟨P1, 1, none⟩ = some (.slice pa x1 pb) := (Below.celz bj _ _ _ (by omega)).trans cc3
          have d4 : wj.cell? ⟨P2, 0, none⟩ = some (.int .i64 (zn : Int)) := (Below.celz bj _ _ _ (by omega)).trans cc4
          have d5 : wj.cell? ⟨P2, 1, none⟩ = some (.slice qa x1 qb) := (Below.celz bj _ _ _ (by omega)).trans cc5
          have y0 : P0 < wj.heap.size := by have := Below.size bj; omega
          have y1 : P1 < wj.heap.size := by have := Below.size bj; omega
          have y2 : P2 < wj.heap.size := by have := Below.size bj; omega
          have BB1 : Below A wa wj := BB.trans (bj.mono (by omega))
          have sA1 : A ≤ wj.heap.size := by have := Below.size bj; omega
          have q0 : Hid (RowC wj (.slice pa x1 pb) X1) := HXX.out.keep bj
          have q1 : Hid (RowAt 2 encPage wj (.slice qa x1 qb) X1) := HYY.out.keep bj
          clear BB sA cc0 cc1 cc2 cc3 cc4 cc5 zz0 zz1 zz2 HXX HYY
          have cc0 := d0
          have cc1 := d1
          have cc2 := d2
          have cc3 := d3
          have cc4 := d4
          have cc5 := d5
          have zz0 := y0
          have zz1 := y1
          have zz2 := y2
          have HXX := q0
          have HYY := q1
          have BB := BB1
          have sA := sA1
          clear BB1 sA1 d0 d1 d2 d3 d4 d5 y0 y1 y2 q0 q1
          clear bj
          obtain ⟨ra, rb, rfl⟩ := ou.form
          obtain ⟨x2, hx2⟩ : ∃ t, t = X2.length := ⟨_, rfl⟩
          have HL2 : Hid (x2 = X2.length) := hx2
          rw [← hx2] at ou lX2 ⊢
          clear hx2
          have HZZ : Hid (RowAt 2 encPage wj (.slice ra x2 rb) X2) := ou.row
          clear ou
          rcases HFIN.out with hun | ⟨rfl, hXX, rfl⟩
          · have hui : (zn : Int) < (u : Int) := by omega
            go_wp2_with fail
            go_ret
            exact ⟨rfl, by first | exact (HV.out _ BB).2.2.2 | exact (HV.out _ (BB.alloc sA _)).2.2.2⟩
          · have hXY := hXX.symm
            clear hXX
            subst hXY
            obtain rfl : x1 = x2 := by rw [HL1.out, HL2.out]
            by_cases hun : zn < u
            · have hui : (zn : Int) < (u : Int) := by omega
              go_wp2_with fail
              go_ret
              exact ⟨rfl, by first | exact (HV.out _ BB).2.2.2 | exact (HV.out _ (BB.alloc sA _)).2.2.2⟩
            · have hui : ¬ (zn : Int) < (u : Int) := by omega
              go_wp2_with fail
              obtain ⟨P3, hP3⟩ : ∃ t, t = wj.heap.size := ⟨_, rfl⟩
              generalize hW : wj.alloc (.cells #[.int .i64 zn, .slice ra x1 rb] 25) = wk
              have nb : Below wj.heap.size wj wk := by rw [← hW]; exact (Below.refl _ _).alloc (Nat.le_refl _) _
              have k3 : wk.heap.size = P3 + 1 := by rw [← hW, hP3]; simp
              have kk0 : wk.cell? ⟨P3, 0, none⟩ = some (.int .i64 zn) := by rw [← hW, hP3]; simp [go_sem]
              have kk1 : wk.cell? ⟨P3, 1, none⟩ = some (.slice ra x1 rb) := by rw [← hW, hP3]; simp [go_sem]
              have oP3A : A ≤ P3 := by rw [hP3]; exact sA
              have oP30 : P0 < P3 := by rw [hP3]; exact zz0
              have oP31 : P1 < P3 := by rw [hP3]; exact zz1
              have oP32 : P2 < P3 := by rw [hP3]; exact zz2
              have d0 : wk.cell? ⟨P0, 0, none⟩ = some (.int .i64 (zn : Int)) := (Below.celz nb _ _ _ (by omega)).trans cc0
              have d1 : wk.cell? ⟨P0, 1, none⟩ = some (.slice ua m uc) := (Below.celz nb _ _ _ (by omega)).trans cc1
              have d2 : wk.cell? ⟨P1, 0, none⟩ = some (.int .i64 (zn : Int)) := (Below.celz nb _ _ _ (by omega)).trans cc2
              have d3 : wk.cell? ⟨P1, 1, none⟩ = some (.slice pa x1 pb) := (Below.celz nb _ _ _ (by omega)).trans cc3
              have d4 : wk.cell? ⟨P2, 0, none⟩ = some (.int .i64 (zn : Int)) := (Below.celz nb _ _ _ (by omega)).trans cc4
              have d5 : wk.cell? ⟨P2, 1, none⟩ = some (.slice qa x1 qb) := (Below.celz nb _ _ _ (by omega)).trans cc5
              have y0 : P0 < wk.heap.size := by have := Below.size nb; omega
              have y1 : P1 < wk.heap.size := by have := Below.size nb; omega
              have y2 : P2 < wk.heap.size := by have := Below.size nb; omega
              have BB1 : Below A wa wk := BB.trans (nb.mono (by omega))
              have sA1 : A ≤ wk.heap.size := by have := Below.size nb; omega
              have q0 : Hid (RowC wk (.slice pa x1 pb) X1) := HXX.out.keep nb
              have q1 : Hid (RowAt 2 encPage wk (.slice qa x1 qb) X1) := HYY.out.keep nb
              have q2 : Hid (RowAt 2 encPage wk (.slice ra x1 rb) X1) := HZZ.out.keep nb
              clear BB sA cc0 cc1 cc2 cc3 cc4 cc5 zz0 zz1 zz2 HXX HYY HZZ
              have cc0 := d0
              have cc1 := d1
              have cc2 := d2
              have cc3 := d3
              have cc4 := d4
              have cc5 := d5
              have zz0 := y0
              have zz1 := y1
              have zz2 := y2
              have HXX := q0
              have HYY := q1
              have HZZ := q2
              have BB := BB1
              have sA := sA1
              clear BB1 sA1 d0 d1 d2 d3 d4 d5 y0 y1 y2 q0 q1 q2
              have cc6 := kk0
              have cc7 := kk1
              have zz3 : P3 < wk.heap.size := by omega
              rw [← hP3]
              have k3P3 := k3
              clear k3 hW nb hP3 kk0 kk1
              refine (impl_PoolSame_same zn _ _ X1 _ HZZ.out HXX.out.1 (by rw [← HL1.out]; omega)).mono ?_
              rintro e wl ⟨rfl, bl⟩
              have d0 : wl.cell? ⟨P0, 0, none⟩ = some (.int .i64 (zn : Int)) := (Below.celz bl _ _ _ (by omega)).trans cc0
              have d1 : wl.cell? ⟨P0, 1, none⟩ = some (.slice ua m uc) := (Below.celz bl _ _ _ (by omega)).trans cc1
              have d2 : wl.cell? ⟨P1, 0, none⟩ = some (.int .i64 (zn : Int)) := (Below.celz bl _ _ _ (by omega)).trans cc2
              have d3 : wl.cell? ⟨P1, 1, none⟩ = some (.slice pa x1 pb) := (Below.celz bl _ _ _ (by omega)).trans cc3
              have d4 : wl.cell? ⟨P2, 0, none⟩ = some (.int .i64 (zn : Int)) := (Below.celz bl _ _ _ (by omega)).trans cc4
              have d5 : wl.cell? ⟨P2, 1, none⟩ = some (.slice qa x1 qb) := (Below.celz bl _ _ _ (by omega)).trans cc5
              have d6 : wl.cell? ⟨P3, 0, none⟩ = some (.int .i64 zn) := (Below.celz bl _ _ _ (by omega)).trans cc6
              have d7 : wl.cell? ⟨P3, 1, none⟩ = some (.slice ra x1 rb) := (Below.celz bl _ _ _ (by omega)).trans cc7
              have y0 : P0 < wl.heap.size := by have := Below.size bl; omega
              have y1 : P1 < wl.heap.size := by have := Below.size bl; omega
              have y2 : P2 < wl.heap.size := by have := Below.size bl; omega
              have y3 : P3 < wl.heap.size := by have := Below.size bl; omega
              have BB1 : Below A wa wl := BB.trans (bl.mono (by omega))
              have sA1 : A ≤ wl.heap.size := by have := Below.size bl; omega
              have q0 : Hid (RowC wl (.slice pa x1 pb) X1) := HXX.out.keep bl
              have q1 : Hid (RowAt 2 encPage wl (.slice qa x1 qb) X1) := HYY.out.keep bl
              have q2 : Hid (RowAt 2 encPage wl (.slice ra x1 rb) X1) := HZZ.out.keep bl
              clear BB sA cc0 cc1 cc2 cc3 cc4 cc5 cc6 cc7 zz0 zz1 zz2 zz3 HXX HYY HZZ
              have cc0 := d0
              have cc1 := d1
              have cc2 := d2
              have cc3 := d3
              have cc4 := d4
              have cc5 := d5
              have cc6 := d6
              have cc7 := d7
              have zz0 := y0
              have zz1 := y1
              have zz2 := y2
              have zz3 := y3
              have HXX := q0
              have HYY := q1
              have HZZ := q2
              have BB := BB1
              have sA := sA1
              clear BB1 sA1 d0 d1 d2 d3 d4 d5 d6 d7 y0 y1 y2 y3 q0 q1 q2
              clear bl
              go_wp2_with fail
              go_ret
              exact ⟨rfl, (HV.out _ BB).2.2.2⟩

theorem door_met (os : Os) (args : Array Value) : laidMetH Tryd.prog Rows.fnPoolTwiceRow.laid ((World.doorLaid Tryd.prog 28 os).forCall (fun _ _ => 0) ⟨#[], args, []⟩).memory :=
  laidMetH_of_parts3 (fuel := 8) (laidMet_of_run' 8 (by kernel_rfl) (by kernel_rfl)) (by kernel_rfl) (by kernel_rfl)

set_option maxRecDepth 100000 in
set_option maxHeartbeats 1000000 in
theorem lifted (os : Os) (started : os.Started) (H : Type) (enc : TypeId × Value → H) :
    ReturnsInHanded {} Tryd.checked os 8 .any (fun w args => (Rows.fnPoolTwiceSpec.pre enc Tryd.prog Tryd.f8 [] false w args ∧ laidMetH Tryd.prog Rows.fnPoolTwiceRow.laid w) ∧ sizedMet enc Tryd.prog Tryd.f8 (OpenSpec.ofChange Rows.fnPoolTwiceSpec) false w args)
      (Rows.fnPoolTwiceSpec.post enc Tryd.prog Tryd.f8 false true false false) := by
  refine returnsInHanded_of_change_and (C := Tryd.checked) (X := fun w _ => laidMetH Tryd.prog Rows.fnPoolTwiceRow.laid w) (fun _ _ _ hh h => h.of_heap hh) own started (by kernel_rfl) Tryd.func8
    (ChangeSpec.witness_shaped (enc := enc) (C := Tryd.checked) (os := os) (X := fun w _ => laidMetH Tryd.prog Rows.fnPoolTwiceRow.laid w) false (World.doorLaid Tryd.prog 28 os) #[.slice none 0 0] 8 rfl (World.shaped_of_RefB (by kernel_rfl) (by kernel_rfl)) (by kernel_rfl) (by kernel_rfl) (by kernel_rfl) (door_met os _)) ?_
  intro W base args ds gs before hval0 hW _ _ hL _
  have hval : ∀ (j : Nat) t v, Tryd.f8.params[j]? = some t → args[j]? = some v → Value.okWide Tryd.prog W .any base t v := hval0
  have hW' := hW
  obtain ⟨p, q, hA0, hV0, rfl, hfz, hnd⟩ := hW
  have hA : DataW.TrodAll enc Tryd.prog W 0 (fun _ => true) true Tryd.f8.params.toList args.toList ds p := hA0
  have hV : DataW.TrodVars enc Tryd.prog W (fun _ => true) ["loop.example/hagioscope/impl.errForm"] gs q := hV0
  rw [Tryd.params8] at hA hval
  obtain ⟨v0, vs0, d0, ds0, p0, q0, hargs, rfl, rfl, h0, r0⟩ := trodAll_cons hA
  obtain ⟨rfl, rfl, rfl⟩ := trodAll_nil r0
  obtain rfl : args = #[v0] := by cases args; simp_all
  have kr0 := h0
  have lt0 : ∀ x ∈ p0, x.block < W.heap.size := by obtain ⟨m, hm⟩ := kr0; exact DataW.trod_lt m _ _ _ hm
  obtain ⟨a0, len0, cap0, rfl⟩ := okWide_slice Tryd.underlying22 (hval 0 22 v0 rfl rfl)
  obtain ⟨z0, w0⟩ : ∃ zs, IsRow .u8 W a0 len0 cap0 zs := by
    obtain ⟨fuel, hf⟩ := h0
    rcases open_ints Tryd.underlying22 Tryd.underlying5 (by kernel_rfl) hf with ⟨hcs, _⟩ | ⟨x, l, c, zs, hcs, _, hl, hm, hz, _, hcell, hwz⟩
    · simp [Value.cells] at hcs
      obtain ⟨rfl, rfl, rfl⟩ := hcs
      exact ⟨[], .inl ⟨rfl, rfl, rfl, rfl⟩⟩
    · simp [Value.cells] at hcs
      obtain ⟨rfl, rfl, rfl⟩ := hcs
      exact ⟨zs, .inr ⟨_, rfl, hl, hm, by simpa using hz, hcell, hwz⟩⟩
  obtain ⟨g, t, cs, fuel, d, p', rfl, hg, ht, hvar, hd, rfl⟩ := trodVars_one hV
  obtain rfl := Option.some.inj (gForm.symm.trans hg)
  obtain rfl := Option.some.inj (tForm.symm.trans ht)
  obtain ⟨fu, fv, hff⟩ := form_of hL
  obtain rfl : cs = #[.iface fu fv] := Option.some.inj (hvar.symm.trans hff)
  have hform : FormAt W := formAt_of hff
  obtain ⟨_, _, hheap⟩ := heap_of_var gForm hff
  clear hA0 hV0 hval0
  refine (walk a0 len0 cap0 z0 W w0 hform).mono fun e W' ⟨he, bel⟩ => ?_
  subst he
  exact ⟨_, rfl, _, _, _, [], _, _, hW', trodAll_mk1 (shut_bool Tryd.underlying4 _), (trodAll_cons_mk (Below.trod laidOut (by kernel_rfl) (of_decide_eq_true (by kernel_rfl)) kr0 bel lt0) trodAll_mk0), trodVars_mk1 gForm tForm (var?_below bel gForm (lt_of_block hheap) hff) (held_again Tryd.underlying52 hd), bel.frame _, fun h => by cases h⟩

theorem said : Rows.FnPoolTwiceSaid :=
  OpenClaim.holds_of_wide 8 Tryd.f8 rfl rfl rfl rfl rfl rfl rfl ⟨rfl, rfl, rfl, rfl, rfl⟩ rfl rfl rfl rfl rfl (by kernel_rfl) Tryd.func8 (by kernel_rfl)
    (of_decide_eq_true (by kernel_rfl)) (by unfold Func.isWrapper; first | (rw [if_pos (by decide +kernel)]; kernel_rfl) | (rw [if_neg (by decide +kernel)]; exact ⟨rfl, rfl⟩))
    (fun os started H enc _ => lifted os started H enc)

theorem plain (f : FuncId) (fn : Func) (hf : Tryd.pinned.checked.prog.funcNamed "loop.example/hagioscope/laws.FnPoolTwice" = some f) (hfn : Tryd.pinned.checked.prog.funcs[f]? = some fn) :
    false = Tryd.pinned.checked.prog.looks [] ∧ ∀ (j : Nat) t, fn.params[j]? = some t → Tryd.pinned.checked.prog.wantsStandIn t = false := by
  obtain rfl : f = 8 := Option.some.inj ((show Tryd.prog.funcNamed "loop.example/hagioscope/laws.FnPoolTwice" = some 8 by kernel_rfl).symm.trans hf) |>.symm
  obtain rfl : fn = Tryd.f8 := (Option.some.inj (Tryd.func8.symm.trans hfn)).symm
  refine ⟨by kernel_rfl, fun j t ht => ?_⟩
  rw [Tryd.params8] at ht
  obtain rfl : t = 22 := by simpa using Array.mem_of_getElem? ht
  · exact (show Tryd.prog.wantsStandIn 22 = false by kernel_rfl)

end Go.Proofs.YtlfgcchnboaflaaDoor.fnPoolTwice
namespace Go.Proofs.YtlfgcchnboaflaaDoor
theorem fnPoolTwice_card : Rows.FnPoolTwiceCardSaid :=
  Claim7.holds_tied_plain_at .later [] _ _ _ _ fnPoolTwice.said (fun _ h => by cases h) (by kernel_rfl) (fun _ h => by cases h) fnPoolTwice_row_tie rfl ⟨rfl, rfl⟩ (by kernel_rfl) rfl fnPoolTwice.plain (by kernel_rfl)
#print axioms fnPoolTwice_card
end Go.Proofs.YtlfgcchnboaflaaDoor
