/-
  Pools include smaller pools.
-/
import Derived.Test.YtlfgcchnboaflaaDoorCards
import Derived.Test.YtlfgcchnboaflaaDoorTie
import Derived.Test.YtlfgcchnboaflaaDoorStl
import Derived.Test.YtlfgcchnboaflaaDoorDpu
import Derived.WalkKit
import Derived.ProofKit
import Derived.OpenShut
import Derived.ShutString
import Derived.ChangeOld
import Derived.Below
import Derived.Carry
import Derived.Handy
import Derived.Deep.RegionHeld3
import Derived.LaidMore
namespace Go.Proofs.YtlfgcchnboaflaaDoor.fnPoolMore
open Go.Proofs.YtlfgcchnboaflaaDoor.Lab
open Go.ChangeShapes Go.WideShapes Go.ChangeAt Go.RowKit
open Go.ChangeMaps (open_string shut_string)
set_option linter.unusedVariables false

theorem own : ownKnob Tryd.prog.godebug = none := by kernel_rfl
/-- A row of numbers that came in: nil, or so many cells. -/
def IsRow (k : IntKind) (w : World) (a : Option Addr) (len cap : Nat) (zs : List Int) : Prop :=
  (a = none ∧ len = 0 ∧ cap = 0 ∧ zs = []) ∨ ∃ x, a = some x ∧ len ≤ cap ∧ cap ≤ maxLen ∧ zs.length = cap ∧ (∀ i, i < zs.length → w.cell? (x.add i) = some (.int k (zs.getD i 0))) ∧ ∀ n ∈ zs, (Lit.int k n).wf = true

set_option maxHeartbeats 4000000 in
theorem walk (a0 : Option Addr) (len0 cap0 : Nat) (z0 : List Int) (a1 : Option Addr) (len1 cap1 : Nat) (z1 : List Int) (w : World) (w0 : IsRow .u8 w a0 len0 cap0 z0) (w1 : IsRow .u8 w a1 len1 cap1 z1) (hform : FormAt w) :
    Calls Tryd.prog 5 #[.slice a0 len0 cap0, .slice a1 len1 cap1] w fun e w' => e = .returned (.bool true) ∧ Below w.heap.size w w' := by
  have HF : Hid (FormAt w) := hform
  clear hform
  by_cases hlen0 : len0 > 1048576
  · go_enter Tryd.func5, Tryd.ntmps5
    go_wp2
    go_ret
    exact ⟨rfl, Below.refl _ _⟩
  by_cases hlen1 : len1 > 1048576
  · go_enter Tryd.func5, Tryd.ntmps5
    go_wp2
    go_ret
    exact ⟨rfl, Below.refl _ _⟩
  have k0 : CodeAt w a0 len0 cap0 z0 := code_of w0
  clear w0
  have k1 : CodeAt w a1 len1 cap1 z1 := code_of w1
  clear w1
  go_enter Tryd.func5, Tryd.ntmps5
  go_wp2_with fail
  refine (drawPoolAll _ _ _ _ _ k0).mono ?_
  rintro e wa ⟨zz, u, v, xs, ls, rfl, ou, ov, lx, ll, hz, ba⟩
  obtain ⟨va, vc, rfl⟩ := ov.form
  obtain ⟨ua, uc, rfl⟩ := ou.form
  obtain ⟨n, hn⟩ : ∃ n, n = ls.length := ⟨_, rfl⟩
  obtain ⟨m, hm⟩ : ∃ m, m = xs.length := ⟨_, rfl⟩
  have HN : Hid (n = ls.length ∧ m = xs.length) := ⟨hn, hm⟩
  rw [← hn] at ll ov ⊢
  rw [← hm] at lx ou ⊢
  obtain ⟨A, hA⟩ : ∃ t, t = wa.heap.size := ⟨_, rfl⟩
  have HA : Hid (A = wa.heap.size) := hA
  have BB : Below A wa wa := Below.refl _ _
  have sA : A ≤ wa.heap.size := by omega
  have HV : Hid (∀ W, Below A wa W → RowC W (.slice ua m uc) xs ∧ RowAt 2 encPage W (.slice va n vc) ls ∧ FormAt W ∧ Below w.heap.size w W) := fun W h => by
    rw [HA.out] at h
    exact ⟨(RowC.of_own ou).keep h, OwnPool.row (by rw [hn] at ov; rw [hn]; exact ov) |>.keep h, (HF.out.keep ba).keep h, ba.trans (h.mono ba.size)⟩
  clear ou ov ba k0 hn hm HF hA
  clear k1
  obtain ⟨s, hs⟩ : ∃ s : Nat, s = len1 % 6 := ⟨_, rfl⟩
  obtain ⟨g, hg⟩ : ∃ g : Nat, g = len1 % 6 + 1 + len0 % 3 := ⟨_, rfl⟩
  go_wp2_with fail
  have hse : (len1 : Int) % 6 = (s : Int) := by omega
  have hge : (s : Int) + 1 + (len0 : Int) % 3 = (g : Int) := by omega
  simp only [hse, hge]
  have hsg : s ≤ g := by omega
  have hs5 : s ≤ 5 := by omega
  have hg8 : g ≤ 8 := by omega
  clear hse hge hs hg
  obtain ⟨P0, hP0⟩ : ∃ t, t = wa.heap.size := ⟨_, rfl⟩
  generalize hW : wa.alloc (.cells #[.int .i64 zz, .slice ua m uc] 25) = wb
  have nb : Below wa.heap.size wa wb := by rw [← hW]; exact (Below.refl _ _).alloc (Nat.le_refl _) _
  have k3 : wb.heap.size = P0 + 1 := by rw [← hW, hP0]; simp
  have kk0 : wb.cell? ⟨P0, 0, none⟩ = some (.int .i64 zz) := by rw [← hW, hP0]; simp [go_sem]
  have kk1 : wb.cell? ⟨P0, 1, none⟩ = some (.slice ua m uc) := by rw [← hW, hP0]; simp [go_sem]
  have oP0A : A ≤ P0 := by rw [hP0]; exact sA
  have BB1 : Below A wa wb := BB.trans (nb.mono (by omega))
  have sA1 : A ≤ wb.heap.size := by have := Below.size nb; omega
  clear BB sA   
  have BB := BB1
  have sA := sA1
  clear BB1 sA1   
  have cc0 := kk0
  have cc1 := kk1
  have zz0 : P0 < wb.heap.size := by omega
  rw [← hP0]
  have k3P0 := k3
  clear k3 hW nb hP0 kk0 kk1
  rw [k3P0.symm]
  obtain ⟨P1, hP1⟩ : ∃ t, t = wb.heap.size := ⟨_, rfl⟩
  generalize hW : wb.alloc (.cells #[.int .i64 s, .slice none 0 0] 25) = wb2
  have nb : Below wb.heap.size wb wb2 := by rw [← hW]; exact (Below.refl _ _).alloc (Nat.le_refl _) _
  have k3 : wb2.heap.size = P1 + 1 := by rw [← hW, hP1]; simp
  have kk0 : wb2.cell? ⟨P1, 0, none⟩ = some (.int .i64 s) := by rw [← hW, hP1]; simp [go_sem]
  have kk1 : wb2.cell? ⟨P1, 1, none⟩ = some (.slice none 0 0) := by rw [← hW, hP1]; simp [go_sem]
  have oP1A : A ≤ P1 := by rw [hP1]; exact sA
  have oP10 : P0 < P1 := by rw [hP1]; exact zz0
  have d0 : wb2.cell? ⟨P0, 0, none⟩ = some (.int .i64 zz) := (Below.celz nb _ _ _ (by omega)).trans cc0
  have d1 : wb2.cell? ⟨P0, 1, none⟩ = some (.slice ua m uc) := (Below.celz nb _ _ _ (by omega)).trans cc1
  have y0 : P0 < wb2.heap.size := by have := Below.size nb; omega
  have BB1 : Below A wa wb2 := BB.trans (nb.mono (by omega))
  have sA1 : A ≤ wb2.heap.size := by have := Below.size nb; omega
  clear BB sA cc0 cc1 zz0 
  have cc0 := d0
  have cc1 := d1
  have zz0 := y0
  have BB := BB1
  have sA := sA1
  clear BB1 sA1 d0 d1 y0 
  have cc2 := kk0
  have cc3 := kk1
  have zz1 : P1 < wb2.heap.size := by omega
  rw [← hP1]
  have k3P1 := k3
  clear k3 hW nb hP1 kk0 kk1
  rw [k3P1.symm]
  obtain ⟨P2, hP2⟩ : ∃ t, t = wb2.heap.size := ⟨_, rfl⟩
  generalize hW : wb2.alloc (.cells #[.int .i64 g, .slice none 0 0] 25) = wb3
  have nb : Below wb2.heap.size wb2 wb3 := by rw [← hW]; exact (Below.refl _ _).alloc (Nat.le_refl _) _
  have k3 : wb3.heap.size = P2 + 1 := by rw [← hW, hP2]; simp
  have kk0 : wb3.cell? ⟨P2, 0, none⟩ = some (.int .i64 g) := by rw [← hW, hP2]; simp [go_sem]
  have kk1 : wb3.cell? ⟨P2, 1, none⟩ = some (.slice none 0 0) := by rw [← hW, hP2]; simp [go_sem]
  have oP2A : A ≤ P2 := by rw [hP2]; exact sA
  have oP20 : P0 < P2 := by rw [hP2]; exact zz0
  have oP21 : P1 < P2 := by rw [hP2]; exact zz1
  have d0 : wb3.cell? ⟨P0, 0, none⟩ = some (.int .i64 zz) := (Below.celz nb _ _ _ (by omega)).trans cc0
  have d1 : wb3.cell? ⟨P0, 1, none⟩ = some (.slice ua m uc) := (Below.celz nb _ _ _ (by omega)).trans cc1
  have d2 : wb3.cell? ⟨P1, 0, none⟩ = some (.int .i64 s) := (Below.celz nb _ _ _ (by omega)).trans cc2
  have d3 : wb3.cell? ⟨P1, 1, none⟩ = some (.slice none 0 0) := (Below.celz nb _ _ _ (by omega)).trans cc3
  have y0 : P0 < wb3.heap.size := by have := Below.size nb; omega
  have y1 : P1 < wb3.heap.size := by have := Below.size nb; omega
  have BB1 : Below A wa wb3 := BB.trans (nb.mono (by omega))
  have sA1 : A ≤ wb3.heap.size := by have := Below.size nb; omega
  clear BB sA cc0 cc1 cc2 cc3 zz0 zz1 
  have cc0 := d0
  have cc1 := d1
  have cc2 := d2
  have cc3 := d3
  have zz0 := y0
  have zz1 := y1
  have BB := BB1
  have sA := sA1
  clear BB1 sA1 d0 d1 d2 d3 y0 y1 
  have cc4 := kk0
  have cc5 := kk1
  have zz2 : P2 < wb3.heap.size := by omega
  rw [← hP2]
  have k3P2 := k3
  clear k3 hW nb hP2 kk0 kk1
  clear k3P0 k3P1 k3P2
  obtain ⟨Z1, X1, N1, Z2, X2, N2, HX, lX1, lX2, lN1, lN2, HC1, HC2, HD1⟩ : ∃ (Z1 : Int) (X1 : List (Int × Int)) (N1 : Nat) (Z2 : Int) (X2 : List (Int × Int)) (N2 : Nat), Hid (N2 ≤ N1 ∧ X1.length ≤ X2.length ∧ X2.take X1.length = X1) ∧ X1.length ≤ 12 ∧ X2.length ≤ 12 ∧ N1 ≤ 24 ∧ N2 ≤ 24
      ∧ Hid (∀ W, Below A wa W → Calls Tryd.prog 18 #[.agg #[.int .i64 s, .slice none 0 0], .slice va n vc] W fun e w' => ∃ u, e = .returned (.tuple #[.agg #[.int .i64 Z1, u], .int .i64 N1]) ∧ OwnPool w' W.heap.size u X1 ∧ Below W.heap.size W w')
      ∧ Hid (∀ W, Below A wa W → Calls Tryd.prog 18 #[.agg #[.int .i64 g, .slice none 0 0], .slice va n vc] W fun e w' => ∃ u, e = .returned (.tuple #[.agg #[.int .i64 Z2, u], .int .i64 N2]) ∧ OwnPool w' W.heap.size u X2 ∧ Below W.heap.size W w')
      ∧ Hid (∀ W, Below A wa W → Calls Tryd.prog 19 #[.agg #[.int .i64 s, .slice none 0 0], .slice va n vc] W fun e w' => ∃ u, e = .returned (.tuple #[.agg #[.int .i64 Z1, u], .int .i64 N1]) ∧ OwnPool w' W.heap.size u X1 ∧ Below W.heap.size W w') :=
    ⟨paZ s [] ls, paL s [] ls, paN s [] ls, paZ g [] ls, paL g [] ls, paN g [] ls, pa_more hsg (by omega) (by omega) ls, paL_len _ _ _, paL_len _ _ _, by have := paN_le s [] ls; rw [← HN.out.1] at this; omega, by have := paN_le g [] ls; rw [← HN.out.1] at this; omega,
      fun W h => impl_PoolAll s _ _ [] ls W (rowNil _) (HV.out _ h).2.1 (by simp) (by rw [← HN.out.1]; omega) (HV.out _ h).2.2.1, fun W h => impl_PoolAll g _ _ [] ls W (rowNil _) (HV.out _ h).2.1 (by simp) (by rw [← HN.out.1]; omega) (HV.out _ h).2.2.1, fun W h => spec_PoolAll s _ _ [] ls W (rowCNil _) (HV.out _ h).2.1 (by simp) (by rw [← HN.out.1]; omega)⟩
  obtain ⟨x1, hx1⟩ : ∃ t, t = X1.length := ⟨_, rfl⟩
  obtain ⟨x2, hx2⟩ : ∃ t, t = X2.length := ⟨_, rfl⟩
  have HL1 : Hid (x1 = X1.length) := hx1
  have HL2 : Hid (x2 = X2.length) := hx2
  have hl12 : x1 ≤ x2 := by have := HX.out.2.1; omega
  have hn12 : N2 ≤ N1 := HX.out.1
  have lx1 : x1 ≤ 12 := by omega
  have lx2 : x2 ≤ 12 := by omega
  clear lX1 lX2 hx1 hx2
  refine (HC1.out _ BB).mono ?_
  rintro e wc ⟨u, rfl, ou, bc⟩
  have d0 : wc.cell? ⟨P0, 0, none⟩ = some (.int .i64 zz) := (Below.celz bc _ _ _ (by omega)).trans cc0
  have d1 : wc.cell? ⟨P0, 1, none⟩ = some (.slice ua m uc) := (Below.celz bc _ _ _ (by omega)).trans cc1
  have d2 : wc.cell? ⟨P1, 0, none⟩ = some (.int .i64 s) := (Below.celz bc _ _ _ (by omega)).trans cc2
  have d3 : wc.cell? ⟨P1, 1, none⟩ = some (.slice none 0 0) := (Below.celz bc _ _ _ (by omega)).trans cc3
  have d4 : wc.cell? ⟨P2, 0, none⟩ = some (.int .i64 g) := (Below.celz bc _ _ _ (by omega)).trans cc4
  have d5 : wc.cell? ⟨P2, 1, none⟩ = some (.slice none 0 0) := (Below.celz bc _ _ _ (by omega)).trans cc5
  have y0 : P0 < wc.heap.size := by have := Below.size bc; omega
  have y1 : P1 < wc.heap.size := by have := Below.size bc; omega
  have y2 : P2 < wc.heap.size := by have := Below.size bc; omega
  have BB1 : Below A wa wc := BB.trans (bc.mono (by omega))
  have sA1 : A ≤ wc.heap.size := by have := Below.size bc; omega
  clear BB sA cc0 cc1 cc2 cc3 cc4 cc5 zz0 zz1 zz2 
  have cc0 := d0
  have cc1 := d1
  have cc2 := d2
  have cc3 := d3
  have cc4 := d4
  have cc5 := d5
  have zz0 := y0
  have zz1 := y1
  have zz2 := y2
  have BB := BB1
  have sA := sA1
  clear BB1 sA1 d0 d1 d2 d3 d4 d5 y0 y1 y2 
  clear bc
  obtain ⟨pa, pb, rfl⟩ := ou.form
  rw [← HL1.out] at ou ⊢
  have HRC0 := RowC.of_own ou
  have HXX : Hid (RowC wc (.slice pa x1 pb) X1) := HRC0
  clear ou HRC0
  go_wp2_with fail
  obtain ⟨P3, hP3⟩ : ∃ t, t = wc.heap.size := ⟨_, rfl⟩
  generalize hW : wc.alloc (.cells #[.int .i64 Z1, .slice pa x1 pb] 25) = wd
  have nb : Below wc.heap.size wc wd := by rw [← hW]; exact (Below.refl _ _).alloc (Nat.le_refl _) _
  have k3 : wd.heap.size = P3 + 1 := by rw [← hW, hP3]; simp
  have kk0 : wd.cell? ⟨P3, 0, none⟩ = some (.int .i64 Z1) := by rw [← hW, hP3]; simp [go_sem]
  have kk1 : wd.cell? ⟨P3, 1, none⟩ = some (.slice pa x1 pb) := by rw [← hW, hP3]; simp [go_sem]
  have oP3A : A ≤ P3 := by rw [hP3]; exact sA
  have oP30 : P0 < P3 := by rw [hP3]; exact zz0
  have oP31 : P1 < P3 := by rw [hP3]; exact zz1
  have oP32 : P2 < P3 := by rw [hP3]; exact zz2
  have d0 : wd.cell? ⟨P0, 0, none⟩ = some (.int .i64 zz) := (Below.celz nb _ _ _ (by omega)).trans cc0
  have d1 : wd.cell? ⟨P0, 1, none⟩ = some (.slice ua m uc) := (Below.celz nb _ _ _ (by omega)).trans cc1
  have d2 : wd.cell? ⟨P1, 0, none⟩ = some (.int .i64 s) := (Below.celz nb _ _ _ (by omega)).trans cc2
  have d3 : wd.cell? ⟨P1, 1, none⟩ = some (.slice none 0 0) := (Below.celz nb _ _ _ (by omega)).trans cc3
  have d4 : wd.cell? ⟨P2, 0, none⟩ = some (.int .i64 g) := (Below.celz nb _ _ _ (by omega)).trans cc4
  have d5 : wd.cell? ⟨P2, 1, none⟩ = some (.slice none 0 0) := (Below.celz nb _ _ _ (by omega)).trans cc5
  have y0 : P0 < wd.heap.size := by have := Below.size nb; omega
  have y1 : P1 < wd.heap.size := by have := Below.size nb; omega
  have y2 : P2 < wd.heap.size := by have := Below.size nb; omega
  have BB1 : Below A wa wd := BB.trans (nb.mono (by omega))
  have sA1 : A ≤ wd.heap.size := by have := Below.size nb; omega
  have q0 : Hid (RowC wd (.slice pa x1 pb) X1) := HXX.out.keep nb
  clear BB sA cc0 cc1 cc2 cc3 cc4 cc5 zz0 zz1 zz2 HXX
  have cc0 := d0
  have cc1 := d1
  have cc2 := d2
  have cc3 := d3
  have cc4 := d4
  have cc5 := d5
  have zz0 := y0
  have zz1 := y1
  have zz2 := y2
  have HXX := q0
  have BB := BB1
  have sA := sA1
  clear BB1 sA1 d0 d1 d2 d3 d4 d5 y0 y1 y2 q0
  have cc6 := kk0
  have cc7 := kk1
  have zz3 : P3 < wd.heap.size := by omega
  rw [← hP3]
  have k3P3 := k3
  clear k3 hW nb hP3 kk0 kk1
  refine (HC2.out _ BB).mono ?_
  rintro e we ⟨u, rfl, ou, be⟩
  have d0 : we.cell? ⟨P0, 0, none⟩ = some (.int .i64 zz) := (Below.celz be _ _ _ (by omega)).trans cc0
  have d1 : we.cell? ⟨P0, 1, none⟩ = some (.slice ua m uc) := (Below.celz be _ _ _ (by omega)).trans cc1
  have d2 : we.cell? ⟨P1, 0, none⟩ = some (.int .i64 s) := (Below.celz be _ _ _ (by omega)).trans cc2
  have d3 : we.cell? ⟨P1, 1, none⟩ = some (.slice none 0 0) := (Below.celz be _ _ _ (by omega)).trans cc3
  have d4 : we.cell? ⟨P2, 0, none⟩ = some (.int .i64 g) := (Below.celz be _ _ _ (by omega)).trans cc4
  have d5 : we.cell? ⟨P2, 1, none⟩ = some (.slice none 0 0) := (Below.celz be _ _ _ (by omega)).trans cc5
  have d6 : we.cell? ⟨P3, 0, none⟩ = some (.int .i64 Z1) := (Below.celz be _ _ _ (by omega)).trans cc6
  have d7 : we.cell? ⟨P3, 1, none⟩ = some (.slice pa x1 pb) := (Below.celz be _ _ _ (by omega)).trans cc7
  have y0 : P0 < we.heap.size := by have := Below.size be; omega
  have y1 : P1 < we.heap.size := by have := Below.size be; omega
  have y2 : P2 < we.heap.size := by have := Below.size be; omega
  have y3 : P3 < we.heap.size := by have := Below.size be; omega
  have BB1 : Below A wa we := BB.trans (be.mono (by omega))
  have sA1 : A ≤ we.heap.size := by have := Below.size be; omega
  have q0 : Hid (RowC we (.slice pa x1 pb) X1) := HXX.out.keep be
  clear BB sA cc0 cc1 cc2 cc3 cc4 cc5 cc6 cc7 zz0 zz1 zz2 zz3 HXX
  have cc0 := d0
  have cc1 := d1
  have cc2 := d2
  have cc3 := d3
  have cc4 := d4
  have cc5 := d5
  have cc6 := d6
  have cc7 := d7
  have zz0 := y0
  have zz1 := y1
  have zz2 := y2
  have zz3 := y3
  have HXX := q0
  have BB := BB1
  have sA := sA1
  clear BB1 sA1 d0 d1 d2 d3 d4 d5 d6 d7 y0 y1 y2 y3 q0
  clear be
  obtain ⟨qa, qb, rfl⟩ := ou.form
  rw [← HL2.out] at ou ⊢
  have HRC0 := RowC.of_own ou
  have HYY : Hid (RowC we (.slice qa x2 qb) X2) := HRC0
  clear ou HRC0
  have hqb : x2 ≤ qb := by obtain ⟨a', c', h1, h2⟩ := HYY.out.2; simp only [Value.slice.injEq] at h1; have := HL2.out; omega
  go_wp2_with fail
  obtain ⟨P4, hP4⟩ : ∃ t, t = we.heap.size := ⟨_, rfl⟩
  generalize hW : we.alloc (.cells #[.int .i64 Z2, .slice qa x2 qb] 25) = wf
  have nb : Below we.heap.size we wf := by rw [← hW]; exact (Below.refl _ _).alloc (Nat.le_refl _) _
  have k3 : wf.heap.size = P4 + 1 := by rw [← hW, hP4]; simp
  have kk0 : wf.cell? ⟨P4, 0, none⟩ = some (.int .i64 Z2) := by rw [← hW, hP4]; simp [go_sem]
  have kk1 : wf.cell? ⟨P4, 1, none⟩ = some (.slice qa x2 qb) := by rw [← hW, hP4]; simp [go_sem]
  have oP4A : A ≤ P4 := by rw [hP4]; exact sA
  have oP40 : P0 < P4 := by rw [hP4]; exact zz0
  have oP41 : P1 < P4 := by rw [hP4]; exact zz1
  have oP42 : P2 < P4 := by rw [hP4]; exact zz2
  have oP43 : P3 < P4 := by rw [hP4]; exact zz3
  have d0 : wf.cell? ⟨P0, 0, none⟩ = some (.int .i64 zz) := (Below.celz nb _ _ _ (by omega)).trans cc0
  have d1 : wf.cell? ⟨P0, 1, none⟩ = some (.slice ua m uc) := (Below.celz nb _ _ _ (by omega)).trans cc1
  have d2 : wf.cell? ⟨P1, 0, none⟩ = some (.int .i64 s) := (Below.celz nb _ _ _ (by omega)).trans cc2
  have d3 : wf.cell? ⟨P1, 1, none⟩ = some (.slice none 0 0) := (Below.celz nb _ _ _ (by omega)).trans cc3
  have d4 : wf.cell? ⟨P2, 0, none⟩ = some (.int .i64 g) := (Below.celz nb _ _ _ (by omega)).trans cc4
  have d5 : wf.cell? ⟨P2, 1, none⟩ = some (.slice none 0 0) := (Below.celz nb _ _ _ (by omega)).trans cc5
  have d6 : wf.cell? ⟨P3, 0, none⟩ = some (.int .i64 Z1) := (Below.celz nb _ _ _ (by omega)).trans cc6
  have d7 : wf.cell? ⟨P3, 1, none⟩ = some (.slice pa x1 pb) := (Below.celz nb _ _ _ (by omega)).trans cc7
  have y0 : P0 < wf.heap.size := by have := Below.size nb; omega
  have y1 : P1 < wf.heap.size := by have := Below.size nb; omega
  have y2 : P2 < wf.heap.size := by have := Below.size nb; omega
  have y3 : P3 < wf.heap.size := by have := Below.size nb; omega
  have BB1 : Below A wa wf := BB.trans (nb.mono (by omega))
  have sA1 : A ≤ wf.heap.size := by have := Below.size nb; omega
  have q0 : Hid (RowC wf (.slice pa x1 pb) X1) := HXX.out.keep nb
  have q1 : Hid (RowC wf (.slice qa x2 qb) X2) := HYY.out.keep nb
  clear BB sA cc0 cc1 cc2 cc3 cc4 cc5 cc6 cc7 zz0 zz1 zz2 zz3 HXX HYY
  have cc0 := d0
  have cc1 := d1
  have cc2 := d2
  have cc3 := d3
  have cc4 := d4
  have cc5 := d5
  have cc6 := d6
  have cc7 := d7
  have zz0 := y0
  have zz1 := y1
  have zz2 := y2
  have zz3 := y3
  have HXX := q0
  have HYY := q1
  have BB := BB1
  have sA := sA1
  clear BB1 sA1 d0 d1 d2 d3 d4 d5 d6 d7 y0 y1 y2 y3 q0 q1
  have cc8 := kk0
  have cc9 := kk1
  have zz4 : P4 < wf.heap.size := by omega
  rw [← hP4]
  have k3P4 := k3
  clear k3 hW nb hP4 kk0 kk1
  refine (HD1.out _ BB).mono ?_
  rintro e wg ⟨u, rfl, ou, bg⟩
  have d0 : wg.cell? ⟨P0, 0, none⟩ = some (.int .i64 zz) := (Below.celz bg _ _ _ (by omega)).trans cc0
  have d1 : wg.cell? ⟨P0, 1, none⟩ = some (.slice ua m uc) := (Below.celz bg _ _ _ (by omega)).trans cc1
  have d2 : wg.cell? ⟨P1, 0, none⟩ = some (.int .i64 s) := (Below.celz bg _ _ _ (by omega)).trans cc2
  have d3 : wg.cell? ⟨P1, 1, none⟩ = some (.slice none 0 0) := (Below.celz bg _ _ _ (by omega)).trans cc3
  have d4 : wg.cell? ⟨P2, 0, none⟩ = some (.int .i64 g) := (Below.celz bg _ _ _ (by omega)).trans cc4
  have d5 : wg.cell? ⟨P2, 1, none⟩ = some (.slice none 0 0) := (Below.celz bg _ _ _ (by omega)).trans cc5
  have d6 : wg.cell? ⟨P3, 0, none⟩ = some (.int .i64 Z1) := (Below.celz bg _ _ _ (by omega)).trans cc6
  have d7 : wg.cell? ⟨P3, 1, none⟩ = some (.slice pa x1 pb) := (Below.celz bg _ _ _ (by omega)).trans cc7
  have d8 : wg.cell? ⟨P4, 0, none⟩ = some (.int .i64 Z2) := (Below.celz bg _ _ _ (by omega)).trans cc8
  have d9 : wg.cell? ⟨P4, 1, none⟩ = some (.slice qa x2 qb) := (Below.celz bg _ _ _ (by omega)).trans cc9
  have y0 : P0 < wg.heap.size := by have := Below.size bg; omega
  have y1 : P1 < wg.heap.size := by have := Below.size bg; omega
  have y2 : P2 < wg.heap.size := by have := Below.size bg; omega
  have y3 : P3 < wg.heap.size := by have := Below.size bg; omega
  have y4 : P4 < wg.heap.size := by have := Below.size bg; omega
  have BB1 : Below A wa wg := BB.trans (bg.mono (by omega))
  have sA1 : A ≤ wg.heap.size := by have := Below.size bg; omega
  have q0 : Hid (RowC wg (.slice pa x1 pb) X1) := HXX.out.keep bg
  have q1 : Hid (RowC wg (.slice qa x2 qb) X2) := HYY.out.keep bg
  clear BB sA cc0 cc1 cc2 cc3 cc4 cc5 cc6 cc7 cc8 cc9 zz0 zz1 zz2 zz3 zz4 HXX HYY
  have cc0 := d0
  have cc1 := d1
  have cc2 := d2
  have cc3 := d3
  have cc4 := d4
  have cc5 := d5
  have cc6 := d6
  have cc7 := d7
  have cc8 := d8
  have cc9 := d9
  have zz0 := y0
  have zz1 := y1
  have zz2 := y2
  have zz3 := y3
  have zz4 := y4
  have HXX := q0
  have HYY := q1
  have BB := BB1
  have sA := sA1
  clear BB1 sA1 d0 d1 d2 d3 d4 d5 d6 d7 d8 d9 y0 y1 y2 y3 y4 q0 q1
  clear bg
  obtain ⟨ra, rb, rfl⟩ := ou.form
  rw [← HL1.out] at ou ⊢
  have HZZ : Hid (RowAt 2 encPage wg (.slice ra x1 rb) X1) := by have := ou.row; exact this
  clear ou
  go_wp2_with fail
  obtain ⟨P5, hP5⟩ : ∃ t, t = wg.heap.size := ⟨_, rfl⟩
  generalize hW : wg.alloc (.cells #[.int .i64 Z1, .slice ra x1 rb] 25) = wh
  have nb : Below wg.heap.size wg wh := by rw [← hW]; exact (Below.refl _ _).alloc (Nat.le_refl _) _
  have k3 : wh.heap.size = P5 + 1 := by rw [← hW, hP5]; simp
  have kk0 : wh.cell? ⟨P5, 0, none⟩ = some (.int .i64 Z1) := by rw [← hW, hP5]; simp [go_sem]
  have kk1 : wh.cell? ⟨P5, 1, none⟩ = some (.slice ra x1 rb) := by rw [← hW, hP5]; simp [go_sem]
  have oP5A : A ≤ P5 := by rw [hP5]; exact sA
  have oP50 : P0 < P5 := by rw [hP5]; exact zz0
  have oP51 : P1 < P5 := by rw [hP5]; exact zz1
  have oP52 : P2 < P5 := by rw [hP5]; exact zz2
  have oP53 : P3 < P5 := by rw [hP5]; exact zz3
  have oP54 : P4 < P5 := by rw [hP5]; exact zz4
  have d0 : wh.cell? ⟨P0, 0, none⟩ = some (.int .i64 zz) := (Below.celz nb _ _ _ (by omega)).trans cc0
  have d1 : wh.cell? ⟨P0, 1, none⟩ = some (.slice ua m uc) := (Below.celz nb _ _ _ (by omega)).trans cc1
  have d2 : wh.cell? ⟨P1, 0, none⟩ = some (.int .i64 s) := (Below.celz nb _ _ _ (by omega)).trans cc2
  have d3 : wh.cell? ⟨P1, 1, none⟩ = some (.slice none 0 0) := (Below.celz nb _ _ _ (by omega)).trans cc3
  have d4 : wh.cell? ⟨P2, 0, none⟩ = some (.int .i64 g) := (Below.celz nb _ _ _ (by omega)).trans cc4
  have d5 : wh.cell? ⟨P2, 1, none⟩ = some (.slice none 0 0) := (Below.celz nb _ _ _ (by omega)).trans cc5
  have d6 : wh.cell? ⟨P3, 0, none⟩ = some (.int .i64 Z1) := (Below.celz nb _ _ _ (by omega)).trans cc6
  have d7 : wh.cell? ⟨P3, 1, none⟩ = some (.slice pa x1 pb) := (Below.celz nb _ _ _ (by omega)).trans cc7
  have d8 : wh.cell? ⟨P4, 0, none⟩ = some (.int .i64 Z2) := (Below.celz nb _ _ _ (by omega)).trans cc8
  have d9 : wh.cell? ⟨P4, 1, none⟩ = some (.slice qa x2 qb) := (Below.celz nb _ _ _ (by omega)).trans cc9
  have y0 : P0 < wh.heap.size := by have := Below.size nb; omega
  have y1 : P1 < wh.heap.size := by have := Below.size nb; omega
  have y2 : P2 < wh.heap.size := by have := Below.size nb; omega
  have y3 : P3 < wh.heap.size := by have := Below.size nb; omega
  have y4 : P4 < wh.heap.size := by have := Below.size nb; omega
  have BB1 : Below A wa wh := BB.trans (nb.mono (by omega))
  have sA1 : A ≤ wh.heap.size := by have := Below.size nb; omega
  have q0 : Hid (RowC wh (.slice pa x1 pb) X1) := HXX.out.keep nb
  have q1 : Hid (RowC wh (.slice qa x2 qb) X2) := HYY.out.keep nb
  have q2 : Hid (RowAt 2 encPage wh (.slice ra x1 rb) X1) := HZZ.out.keep nb
  clear BB sA cc0 cc1 cc2 cc3 cc4 cc5 cc6 cc7 cc8 cc9 zz0 zz1 zz2 zz3 zz4 HXX HYY HZZ
  have cc0 := d0
  have cc1 := d1
  have cc2 := d2
  have cc3 := d3
  have cc4 := d4
  have cc5 := d5
  have cc6 := d6
  have cc7 := d7
  have cc8 := d8
  have cc9 := d9
  have zz0 := y0
  have zz1 := y1
  have zz2 := y2
  have zz3 := y3
  have zz4 := y4
  have HXX := q0
  have HYY := q1
  have HZZ := q2
  have BB := BB1
  have sA := sA1
  clear BB1 sA1 d0 d1 d2 d3 d4 d5 d6 d7 d8 d9 y0 y1 y2 y3 y4 q0 q1 q2
  have cc10 := kk0
  have cc11 := kk1
  have zz5 : P5 < wh.heap.size := by omega
  rw [← hP5]
  have k3P5 := k3
  clear k3 hW nb hP5 kk0 kk1
  have hne : ((N1 : Int) != (N1 : Int)) = false := by simp
  clear k3P3 k3P4 k3P5
  have hi1 : ¬ (N1 : Int) < (N2 : Int) := by omega
  have hi2 : ¬ (x2 : Int) < (x1 : Int) := by omega
  have hi3 : (x1 : Int) ≤ (qb : Int) := by omega
  go_wp2_with fail
  refine (impl_PoolSame_same Z1 _ _ X1 _ HXX.out.1 HZZ.out (by rw [← HL1.out]; omega)).mono ?_
  rintro e wi ⟨rfl, bi⟩
  have d0 : wi.cell? ⟨P0, 0, none⟩ = some (.int .i64 zz) := (Below.celz bi _ _ _ (by omega)).trans cc0
  have d1 : wi.cell? ⟨P0, 1, none⟩ = some (.slice ua m uc) := (Below.celz bi _ _ _ (by omega)).trans cc1
  have d2 : wi.cell? ⟨P1, 0, none⟩ = some (.int .i64 s) := (Below.celz bi _ _ _ (by omega)).trans cc2
  have d3 : wi.cell? ⟨P1, 1, none⟩ = some (.slice none 0 0) := (Below.celz bi _ _ _ (by omega)).trans cc3
  have d4 : wi.cell? ⟨P2, 0, none⟩ = some (.int .i64 g) := (Below.celz bi _ _ _ (by omega)).trans cc4
  have d5 : wi.cell? ⟨P2, 1, none⟩ = some (.slice none 0 0) := (Below.celz bi _ _ _ (by omega)).trans cc5
  have d6 : wi.cell? ⟨P3, 0, none⟩ = some (.int .i64 Z1) := (Below.celz bi _ _ _ (by omega)).trans cc6
  have d7 : wi.cell? ⟨P3, 1, none⟩ = some (.slice pa x1 pb) := (Below.celz bi _ _ _ (by omega)).trans cc7
  have d8 : wi.cell? ⟨P4, 0, none⟩ = some (.int .i64 Z2) := (Below.celz bi _ _ _ (by omega)).trans cc8
  have d9 : wi.cell? ⟨P4, 1, none⟩ = some (.slice qa x2 qb) := (Below.celz bi _ _ _ (by omega)).trans cc9
  have d10 : wi.cell? ⟨P5, 0, none⟩ = some (.int .i64 Z1) := (Below.celz bi _ _ _ (by omega)).trans cc10
  have d11 : wi.cell? ⟨P5, 1, none⟩ = some (.slice ra x1 rb) := (Below.celz bi _ _ _ (by omega)).trans cc11
  have y0 : P0 < wi.heap.size := by have := Below.size bi; omega
  have y1 : P1 < wi.heap.size := by have := Below.size bi; omega
  have y2 : P2 < wi.heap.size := by have := Below.size bi; omega
  have y3 : P3 < wi.heap.size := by have := Below.size bi; omega
  have y4 : P4 < wi.heap.size := by have := Below.size bi; omega
  have y5 : P5 < wi.heap.size := by have := Below.size bi; omega
  have BB1 : Below A wa wi := BB.trans (bi.mono (by omega))
  have sA1 : A ≤ wi.heap.size := by have := Below.size bi; omega
  have q0 : Hid (RowC wi (.slice pa x1 pb) X1) := HXX.out.keep bi
  have q1 : Hid (RowC wi (.slice qa x2 qb) X2) := HYY.out.keep bi
  have q2 : Hid (RowAt 2 encPage wi (.slice ra x1 rb) X1) := HZZ.out.keep bi
  clear BB sA cc0 cc1 cc2 cc3 cc4 cc5 cc6 cc7 cc8 cc9 cc10 cc11 zz0 zz1 zz2 zz3 zz4 zz5 HXX HYY HZZ
  have cc0 := d0
  have cc1 := d1
  have cc2 := d2
  have cc3 := d3
  have cc4 := d4
  have cc5 := d5
  have cc6 := d6
  have cc7 := d7
  have cc8 := d8
  have cc9 := d9
  have cc10 := d10
  have cc11 := d11
  have zz0 := y0
  have zz1 := y1
  have zz2 := y2
  have zz3 := y3
  have zz4 := y4
  have zz5 := y5
  have HXX := q0
  have HYY := q1
  have HZZ := q2
  have BB := BB1
  have sA := sA1
  clear BB1 sA1 d0 d1 d2 d3 d4 d5 d6 d7 d8 d9 d10 d11 y0 y1 y2 y3 y4 y5 q0 q1 q2
  clear bi
  go_wp2_with fail
  have HTK : Hid (∀ p : After wi, RowAt 2 encPage p.w (.slice qa x1 qb) X1 ∧ RowAt 2 encPage p.w (.slice pa x1 pb) X1) := fun p => ⟨by have := row_take (HYY.out.1.keep p.bel) x1 hl12; rw [HL1.out, HX.out.2.2] at this; rw [HL1.out]; exact this, HXX.out.1.keep p.bel⟩
  have hle : X1.length ≤ 1048576 := by rw [← HL1.out]; omega
  refine wp_region_after (by kernel_rfl) (by kernel_rfl) ?_
  intro hne2 hac
  repeat (go_big_quiet_step (first | (go_at_call 16; exact after_of (wpPages_same _ _ X1 _ (HTK.out _).2 (HTK.out _).1 hle))))
  refine wpQuiet_nil ?_
  rintro _ ⟨p, rfl⟩
  have bq : Below wi.heap.size wi p.w := p.bel
  clear hac hne2 HTK hle
  generalize p.w = wq at *
  have d0 : wq.cell? ⟨P0, 0, none⟩ = some (.int .i64 zz) := (Below.celz bq _ _ _ (by omega)).trans cc0
  have d1 : wq.cell? ⟨P0, 1, none⟩ = some (.slice ua m uc) := (Below.celz bq _ _ _ (by omega)).trans cc1
  have d2 : wq.cell? ⟨P1, 0, none⟩ = some (.int .i64 s) := (Below.celz bq _ _ _ (by omega)).trans cc2
  have d3 : wq.cell? ⟨P1, 1, none⟩ = some (.slice none 0 0) := (Below.celz bq _ _ _ (by omega)).trans cc3
  have d4 : wq.cell? ⟨P2, 0, none⟩ = some (.int .i64 g) := (Below.celz bq _ _ _ (by omega)).trans cc4
  have d5 : wq.cell? ⟨P2, 1, none⟩ = some (.slice none 0 0) := (Below.celz bq _ _ _ (by omega)).trans cc5
  have d6 : wq.cell? ⟨P3, 0, none⟩ = some (.int .i64 Z1) := (Below.celz bq _ _ _ (by omega)).trans cc6
  have d7 : wq.cell? ⟨P3, 1, none⟩ = some (.slice pa x1 pb) := (Below.celz bq _ _ _ (by omega)).trans cc7
  have d8 : wq.cell? ⟨P4, 0, none⟩ = some (.int .i64 Z2) := (Below.celz bq _ _ _ (by omega)).trans cc8
  have d9 : wq.cell? ⟨P4, 1, none⟩ = some (.slice qa x2 qb) := (Below.celz bq _ _ _ (by omega)).trans cc9
  have d10 : wq.cell? ⟨P5, 0, none⟩ = some (.int .i64 Z1) := (Below.celz bq _ _ _ (by omega)).trans cc10
  have d11 : wq.cell? ⟨P5, 1, none⟩ = some (.slice ra x1 rb) := (Below.celz bq _ _ _ (by omega)).trans cc11
  have y0 : P0 < wq.heap.size := by have := Below.size bq; omega
  have y1 : P1 < wq.heap.size := by have := Below.size bq; omega
  have y2 : P2 < wq.heap.size := by have := Below.size bq; omega
  have y3 : P3 < wq.heap.size := by have := Below.size bq; omega
  have y4 : P4 < wq.heap.size := by have := Below.size bq; omega
  have y5 : P5 < wq.heap.size := by have := Below.size bq; omega
  have BB1 : Below A wa wq := BB.trans (bq.mono (by omega))
  have sA1 : A ≤ wq.heap.size := by have := Below.size bq; omega
  have q0 : Hid (RowC wq (.slice pa x1 pb) X1) := HXX.out.keep bq
  have q1 : Hid (RowC wq (.slice qa x2 qb) X2) := HYY.out.keep bq
  have q2 : Hid (RowAt 2 encPage wq (.slice ra x1 rb) X1) := HZZ.out.keep bq
  clear BB sA cc0 cc1 cc2 cc3 cc4 cc5 cc6 cc7 cc8 cc9 cc10 cc11 zz0 zz1 zz2 zz3 zz4 zz5 HXX HYY HZZ
  have cc0 := d0
  have cc1 := d1
  have cc2 := d2
  have cc3 := d3
  have cc4 := d4
  have cc5 := d5
  have cc6 := d6
  have cc7 := d7
  have cc8 := d8
  have cc9 := d9
  have cc10 := d10
  have cc11 := d11
  have zz0 := y0
  have zz1 := y1
  have zz2 := y2
  have zz3 := y3
  have zz4 := y4
  have zz5 := y5
  have HXX := q0
  have HYY := q1
  have HZZ := q2
  have BB := BB1
  have sA := sA1
  clear BB1 sA1 d0 d1 d2 d3 d4 d5 d6 d7 d8 d9 d10 d11 y0 y1 y2 y3 y4 y5 q0 q1 q2
  clear bq
  go_wp2_with fail
  go_ret
  exact ⟨rfl, (HV.out _ BB).2.2.2⟩

theorem door_met (os : Os) (args : Array Value) : laidMetH Tryd.prog Rows.fnPoolMoreRow.laid ((World.doorLaid Tryd.prog 28 os).forCall (fun _ _ => 0) ⟨#[], args, []⟩).memory :=
  laidMetH_of_parts3 (fuel := 8) (laidMet_of_run' 8 (by kernel_rfl) (by kernel_rfl)) (by kernel_rfl) (by kernel_rfl)

set_option maxRecDepth 100000 in
set_option maxHeartbeats 1000000 in
theorem lifted (os : Os) (started : os.Started) (H : Type) (enc : TypeId × Value → H) :
    ReturnsInHanded {} Tryd.checked os 5 .any (fun w args => (Rows.fnPoolMoreSpec.pre enc Tryd.prog Tryd.f5 [] false w args ∧ laidMetH Tryd.prog Rows.fnPoolMoreRow.laid w) ∧ sizedMet enc Tryd.prog Tryd.f5 (OpenSpec.ofChange Rows.fnPoolMoreSpec) false w args)
      (Rows.fnPoolMoreSpec.post enc Tryd.prog Tryd.f5 false true false false) := by
  refine returnsInHanded_of_change_and (C := Tryd.checked) (X := fun w _ => laidMetH Tryd.prog Rows.fnPoolMoreRow.laid w) (fun _ _ _ hh h => h.of_heap hh) own started (by kernel_rfl) Tryd.func5
    (ChangeSpec.witness_shaped (enc := enc) (C := Tryd.checked) (os := os) (X := fun w _ => laidMetH Tryd.prog Rows.fnPoolMoreRow.laid w) false (World.doorLaid Tryd.prog 28 os) #[.slice none 0 0, .slice none 0 0] 8 rfl (World.shaped_of_RefB (by kernel_rfl) (by kernel_rfl)) (by kernel_rfl) (by kernel_rfl) (by kernel_rfl) (door_met os _)) ?_
  intro W base args ds gs before hval0 hW _ _ hL _
  have hval : ∀ (j : Nat) t v, Tryd.f5.params[j]? = some t → args[j]? = some v → Value.okWide Tryd.prog W .any base t v := hval0
  have hW' := hW
  obtain ⟨p, q, hA0, hV0, rfl, hfz, hnd⟩ := hW
  have hA : DataW.TrodAll enc Tryd.prog W 0 (fun _ => true) true Tryd.f5.params.toList args.toList ds p := hA0
  have hV : DataW.TrodVars enc Tryd.prog W (fun _ => true) ["loop.example/hagioscope/impl.errForm"] gs q := hV0
  rw [Tryd.params5] at hA hval
  obtain ⟨v0, vs0, d0, ds0, p0, q0, hargs, rfl, rfl, h0, r0⟩ := trodAll_cons hA
  obtain ⟨v1, vs1, d1, ds1, p1, q1, rfl, rfl, rfl, h1, r1⟩ := trodAll_cons r0
  obtain ⟨rfl, rfl, rfl⟩ := trodAll_nil r1
  obtain rfl : args = #[v0, v1] := by cases args; simp_all
  have kr0 := h0
  have lt0 : ∀ x ∈ p0, x.block < W.heap.size := by obtain ⟨m, hm⟩ := kr0; exact DataW.trod_lt m _ _ _ hm
  have kr1 := h1
  have lt1 : ∀ x ∈ p1, x.block < W.heap.size := by obtain ⟨m, hm⟩ := kr1; exact DataW.trod_lt m _ _ _ hm
  obtain ⟨a0, len0, cap0, rfl⟩ := okWide_slice Tryd.underlying22 (hval 0 22 v0 rfl rfl)
  obtain ⟨z0, w0⟩ : ∃ zs, IsRow .u8 W a0 len0 cap0 zs := by
    obtain ⟨fuel, hf⟩ := h0
    rcases open_ints Tryd.underlying22 Tryd.underlying5 (by kernel_rfl) hf with ⟨hcs, _⟩ | ⟨x, l, c, zs, hcs, _, hl, hm, hz, _, hcell, hwz⟩
    · simp [Value.cells] at hcs
      obtain ⟨rfl, rfl, rfl⟩ := hcs
      exact ⟨[], .inl ⟨rfl, rfl, rfl, rfl⟩⟩
    · simp [Value.cells] at hcs
      obtain ⟨rfl, rfl, rfl⟩ := hcs
      exact ⟨zs, .inr ⟨_, rfl, hl, hm, by simpa using hz, hcell, hwz⟩⟩
  obtain ⟨a1, len1, cap1, rfl⟩ := okWide_slice Tryd.underlying22 (hval 1 22 v1 rfl rfl)
  obtain ⟨z1, w1⟩ : ∃ zs, IsRow .u8 W a1 len1 cap1 zs := by
    obtain ⟨fuel, hf⟩ := h1
    rcases open_ints Tryd.underlying22 Tryd.underlying5 (by kernel_rfl) hf with ⟨hcs, _⟩ | ⟨x, l, c, zs, hcs, _, hl, hm, hz, _, hcell, hwz⟩
    · simp [Value.cells] at hcs
      obtain ⟨rfl, rfl, rfl⟩ := hcs
      exact ⟨[], .inl ⟨rfl, rfl, rfl, rfl⟩⟩
    · simp [Value.cells] at hcs
      obtain ⟨rfl, rfl, rfl⟩ := hcs
      exact ⟨zs, .inr ⟨_, rfl, hl, hm, by simpa using hz, hcell, hwz⟩⟩
  obtain ⟨g, t, cs, fuel, d, p', rfl, hg, ht, hvar, hd, rfl⟩ := trodVars_one hV
  obtain rfl := Option.some.inj (gForm.symm.trans hg)
  obtain rfl := Option.some.inj (tForm.symm.trans ht)
  obtain ⟨fu, fv, hff⟩ := form_of hL
  obtain rfl : cs = #[.iface fu fv] := Option.some.inj (hvar.symm.trans hff)
  have hform : FormAt W := formAt_of hff
  obtain ⟨_, _, hheap⟩ := heap_of_var gForm hff
  clear hA0 hV0 hval0
  refine (walk a0 len0 cap0 z0 a1 len1 cap1 z1 W w0 w1 hform).mono fun e W' ⟨he, bel⟩ => ?_
  subst he
  exact ⟨_, rfl, _, _, _, [], _, _, hW', trodAll_mk1 (shut_bool Tryd.underlying4 _), (trodAll_cons_mk (Below.trod laidOut (by kernel_rfl) (of_decide_eq_true (by kernel_rfl)) kr0 bel lt0) (trodAll_cons_mk (Below.trod laidOut (by kernel_rfl) (of_decide_eq_true (by kernel_rfl)) kr1 bel lt1) trodAll_mk0)), trodVars_mk1 gForm tForm (var?_below bel gForm (lt_of_block hheap) hff) (held_again Tryd.underlying52 hd), bel.frame _, fun h => by cases h⟩

theorem said : Rows.FnPoolMoreSaid :=
  OpenClaim.holds_of_wide 5 Tryd.f5 rfl rfl rfl rfl rfl rfl rfl ⟨rfl, rfl, rfl, rfl, rfl⟩ rfl rfl rfl rfl rfl (by kernel_rfl) Tryd.func5 (by kernel_rfl)
    (of_decide_eq_true (by kernel_rfl)) (by unfold Func.isWrapper; first | (rw [if_pos (by decide +kernel)]; kernel_rfl) | (rw [if_neg (by decide +kernel)]; exact ⟨rfl, rfl⟩))
    (fun os started H enc _ => lifted os started H enc)

theorem plain (f : FuncId) (fn : Func) (hf : Tryd.pinned.checked.prog.funcNamed "loop.example/hagioscope/laws.FnPoolMore" = some f) (hfn : Tryd.pinned.checked.prog.funcs[f]? = some fn) :
    false = Tryd.pinned.checked.prog.looks [] ∧ ∀ (j : Nat) t, fn.params[j]? = some t → Tryd.pinned.checked.prog.wantsStandIn t = false := by
  obtain rfl : f = 5 := Option.some.inj ((show Tryd.prog.funcNamed "loop.example/hagioscope/laws.FnPoolMore" = some 5 by kernel_rfl).symm.trans hf) |>.symm
  obtain rfl : fn = Tryd.f5 := (Option.some.inj (Tryd.func5.symm.trans hfn)).symm
  refine ⟨by kernel_rfl, fun j t ht => ?_⟩
  rw [Tryd.params5] at ht
  obtain rfl : t = 22 := by simpa using Array.mem_of_getElem? ht
  · exact (show Tryd.prog.wantsStandIn 22 = false by kernel_rfl)

end Go.Proofs.YtlfgcchnboaflaaDoor.fnPoolMore
namespace Go.Proofs.YtlfgcchnboaflaaDoor
theorem fnPoolMore_card : Rows.FnPoolMoreCardSaid :=
  Claim7.holds_tied_plain_at .later [] _ _ _ _ fnPoolMore.said (fun _ h => by cases h) (by kernel_rfl) (fun _ h => by cases h) fnPoolMore_row_tie rfl ⟨rfl, rfl⟩ (by kernel_rfl) rfl fnPoolMore.plain (by kernel_rfl)
#print axioms fnPoolMore_card
end Go.Proofs.YtlfgcchnboaflaaDoor
