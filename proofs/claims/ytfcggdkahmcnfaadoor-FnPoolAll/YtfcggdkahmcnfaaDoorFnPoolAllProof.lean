/-
  Uses add up.
-/
import Derived.Test.YtfcggdkahmcnfaaDoorCards
import Derived.Test.YtfcggdkahmcnfaaDoorTie
import Derived.Test.YtfcggdkahmcnfaaDoorStp
import Derived.Test.YtfcggdkahmcnfaaDoorDpu
import Derived.Test.YtfcggdkahmcnfaaDoorBxu
import Derived.WalkKit
import Derived.ProofKit
import Derived.OpenShut
import Derived.ShutString
import Derived.ChangeOld
import Derived.Below
import Derived.Carry
import Derived.Handy
import Derived.Deep.RegionHeld3
import Derived.LaidMore
import Derived.Deep.DeepCutAuto
namespace Go.Proofs.YtfcggdkahmcnfaaDoor.fnPoolAll
open Go.Proofs.YtfcggdkahmcnfaaDoor.Lab
open Go.ChangeShapes Go.WideShapes Go.ChangeAt Go.RowKit
open Go.ChangeMaps (open_string shut_string)
set_option linter.unusedVariables false

theorem own : ownKnob Tryd.prog.godebug = none := by kernel_rfl
/-- A row of numbers that came in: nil, or so many cells. -/
def IsRow (k : IntKind) (w : World) (a : Option Addr) (len cap : Nat) (zs : List Int) : Prop :=
  (a = none ∧ len = 0 ∧ cap = 0 ∧ zs = []) ∨ ∃ x, a = some x ∧ len ≤ cap ∧ cap ≤ maxLen ∧ zs.length = cap ∧ (∀ i, i < zs.length → w.cell? (x.add i) = some (.int k (zs.getD i 0))) ∧ ∀ n ∈ zs, (Lit.int k n).wf = true

set_option maxRecDepth 16000 in
set_option maxHeartbeats 8000000 in
theorem walk (a0 : Option Addr) (len0 cap0 : Nat) (z0 : List Int) (a1 : Option Addr) (len1 cap1 : Nat) (z1 : List Int) (w : World) (w0 : IsRow .u8 w a0 len0 cap0 z0) (w1 : IsRow .u8 w a1 len1 cap1 z1) (hform : FormAt w) :
    Calls Tryd.prog 3 #[.slice a0 len0 cap0, .slice a1 len1 cap1] w fun e w' => e = .returned (.bool true) ∧ Below w.heap.size w w' := by
  have HF : Hid (FormAt w) := hform
  clear hform
  by_cases hlen0 : len0 > 1048576
  · go_enter Tryd.func3, Tryd.ntmps3
    go_wp2
    go_ret
    exact ⟨rfl, Below.refl _ _⟩
  by_cases hlen1 : len1 > 1048576
  · go_enter Tryd.func3, Tryd.ntmps3
    go_wp2
    go_ret
    exact ⟨rfl, Below.refl _ _⟩
  have k0 : CodeAt w a0 len0 cap0 z0 := code_of w0
  clear w0
  have k1 : CodeAt w a1 len1 cap1 z1 := code_of w1
  clear w1
  go_enter Tryd.func3, Tryd.ntmps3
  go_wp2_with fail
  refine (drawPoolAll _ _ _ _ _ k0).mono ?_
  rintro e wa ⟨zz, u, v, xs, ls, rfl, ou, ov, lx, ll, hz, ba⟩
  obtain ⟨va, vc, rfl⟩ := ov.form
  obtain ⟨ua, uc, rfl⟩ := ou.form
  obtain ⟨n, hn⟩ : ∃ n, n = ls.length := ⟨_, rfl⟩
  obtain ⟨m, hm⟩ : ∃ m, m = xs.length := ⟨_, rfl⟩
  have HN : Hid (n = ls.length ∧ m = xs.length) := ⟨hn, hm⟩
  rw [← hn] at ll ov ⊢
  rw [← hm] at lx ou ⊢
  have hva : (va = none ∧ n = 0 ∧ vc = 0) ∨ ∃ g, va = some ⟨g, 0, none⟩ ∧ n ≤ vc := by
    have h := ov
    unfold OwnPool at h
    rw [← hn] at h
    obtain ⟨_, ⟨hv, h0⟩ | ⟨g, cp, cur, hv, _, _, hcp, _⟩⟩ := h
    · simp only [Value.slice.injEq] at hv; exact .inl ⟨hv.1, h0, hv.2.2⟩
    · simp only [Value.slice.injEq] at hv; exact .inr ⟨g, hv.1, by omega⟩
  obtain ⟨A, hA⟩ : ∃ t, t = wa.heap.size := ⟨_, rfl⟩
  have HA : Hid (A = wa.heap.size) := hA
  have BB : Below A wa wa := Below.refl _ _
  have sA : A ≤ wa.heap.size := by omega
  have HV : Hid (∀ W, Below A wa W → RowC W (.slice ua m uc) xs ∧ RowAt 2 encPage W (.slice va n vc) ls ∧ FormAt W ∧ Below w.heap.size w W) := fun W h => by
    rw [HA.out] at h
    exact ⟨(RowC.of_own ou).keep h, OwnPool.row (by rw [hn] at ov; rw [hn]; exact ov) |>.keep h, (HF.out.keep ba).keep h, ba.trans (h.mono ba.size)⟩
  clear ou ov ba k0 hn hm HF hA
  clear k1
  go_wp2_with fail
  obtain ⟨P0, hP0⟩ : ∃ t, t = wa.heap.size := ⟨_, rfl⟩
  generalize hW : wa.alloc (.cells #[.int .i64 zz, .slice ua m uc] 25) = wb
  have nb : Below wa.heap.size wa wb := by rw [← hW]; exact (Below.refl _ _).alloc (Nat.le_refl _) _
  have k3 : wb.heap.size = P0 + 1 := by rw [← hW, hP0]; simp
  have kk0 : wb.cell? ⟨P0, 0, none⟩ = some (.int .i64 zz) := by rw [← hW, hP0]; simp [go_sem]
  have kk1 : wb.cell? ⟨P0, 1, none⟩ = some (.slice ua m uc) := by rw [← hW, hP0]; simp [go_sem]
  have oP0A : A ≤ P0 := by rw [hP0]; exact sA
  have BB1 : Below A wa wb := BB.trans (nb.mono (by omega))
  have sA1 : A ≤ wb.heap.size := by have := Below.size nb; omega
  clear BB sA   
  have BB := BB1
  have sA := sA1
  clear BB1 sA1   
  have cc0 := kk0
  have cc1 := kk1
  have zz0 : P0 < wb.heap.size := by omega
  rw [← hP0]
  have k3P0 := k3
  clear k3 hW nb hP0 kk0 kk1
  obtain ⟨Z1, X1, N1, HX, lX, lN, HC1, HD1⟩ : ∃ (Z1 : Int) (X1 : List (Int × Int)) (N1 : Nat), Hid (Z1 = paZ zz xs ls ∧ X1 = paL zz xs ls ∧ N1 = paN zz xs ls) ∧ X1.length ≤ 12 ∧ N1 ≤ n
      ∧ Hid (∀ W, Below A wa W → Calls Tryd.prog 6 #[.agg #[.int .i64 zz, .slice ua m uc], .slice va n vc] W fun e w' => ∃ u, e = .returned (.tuple #[.agg #[.int .i64 Z1, u], .int .i64 N1]) ∧ OwnPool w' W.heap.size u X1 ∧ Below W.heap.size W w')
      ∧ Hid (∀ W, Below A wa W → Calls Tryd.prog 7 #[.agg #[.int .i64 zz, .slice ua m uc], .slice va n vc] W fun e w' => ∃ u, e = .returned (.tuple #[.agg #[.int .i64 Z1, u], .int .i64 N1]) ∧ OwnPool w' W.heap.size u X1 ∧ Below W.heap.size W w') :=
    ⟨_, _, _, ⟨rfl, rfl, rfl⟩, paL_len _ _ _, by have := paN_le zz xs ls; rw [← HN.out.1] at this; omega, fun W h => impl_PoolAll zz _ _ xs ls W (HV.out _ h).1.1 (HV.out _ h).2.1 (by rw [← HN.out.2]; omega) (by rw [← HN.out.1]; omega) (HV.out _ h).2.2.1, fun W h => spec_PoolAll zz _ _ xs ls W (HV.out _ h).1 (HV.out _ h).2.1 (by rw [← HN.out.2]; omega) (by rw [← HN.out.1]; omega)⟩
  obtain ⟨x1, hx1⟩ : ∃ t, t = X1.length := ⟨_, rfl⟩
  have HL1 : Hid (x1 = X1.length) := hx1
  have lx1 : x1 ≤ 12 := by omega
  have HVA : Hid ((va = none ∧ n = 0 ∧ vc = 0) ∨ ∃ g, va = some ⟨g, 0, none⟩ ∧ n ≤ vc) := hva
  clear lX hx1 hva
  refine (HC1.out _ BB).mono ?_
  rintro e wc ⟨u, rfl, ou, bc⟩
  have d0 : wc.cell? ⟨P0, 0, none⟩ = some (.int .i64 zz) := (Below.celz bc _ _ _ (by omega)).trans cc0
  have d1 : wc.cell? ⟨P0, 1, none⟩ = some (.slice ua m uc) := (Below.celz bc _ _ _ (by omega)).trans cc1
  have y0 : P0 < wc.heap.size := by have := Below.size bc; omega
  have BB1 : Below A wa wc := BB.trans (bc.mono (by omega))
  have sA1 : A ≤ wc.heap.size := by have := Below.size bc; omega
  clear BB sA cc0 cc1 zz0 
  have cc0 := d0
  have cc1 := d1
  have zz0 := y0
  have BB := BB1
  have sA := sA1
  clear BB1 sA1 d0 d1 y0 
  clear bc
  obtain ⟨pa, pb, rfl⟩ := ou.form
  rw [← HL1.out] at ou ⊢
  have HRC0 := RowC.of_own ou
  have HXX : Hid (RowC wc (.slice pa x1 pb) X1) := HRC0
  clear ou HRC0
  go_wp2_with fail
  obtain ⟨P1, hP1⟩ : ∃ t, t = wc.heap.size := ⟨_, rfl⟩
  generalize hW : wc.alloc (.cells #[.int .i64 Z1, .slice pa x1 pb] 25) = wd
  have nb : Below wc.heap.size wc wd := by rw [← hW]; exact (Below.refl _ _).alloc (Nat.le_refl _) _
  have k3 : wd.heap.size = P1 + 1 := by rw [← hW, hP1]; simp
  have kk0 : wd.cell? ⟨P1, 0, none⟩ = some (.int .i64 Z1) := by rw [← hW, hP1]; simp [go_sem]
  have kk1 : wd.cell? ⟨P1, 1, none⟩ = some (.slice pa x1 pb) := by rw [← hW, hP1]; simp [go_sem]
  have oP1A : A ≤ P1 := by rw [hP1]; exact sA
  have oP10 : P0 < P1 := by rw [hP1]; exact zz0
  have d0 : wd.cell? ⟨P0, 0, none⟩ = some (.int .i64 zz) := (Below.celz nb _ _ _ (by omega)).trans cc0
  have d1 : wd.cell? ⟨P0, 1, none⟩ = some (.slice ua m uc) := (Below.celz nb _ _ _ (by omega)).trans cc1
  have y0 : P0 < wd.heap.size := by have := Below.size nb; omega
  have BB1 : Below A wa wd := BB.trans (nb.mono (by omega))
  have sA1 : A ≤ wd.heap.size := by have := Below.size nb; omega
  have q0 : Hid (RowC wd (.slice pa x1 pb) X1) := HXX.out.keep nb
  clear BB sA cc0 cc1 zz0 HXX
  have cc0 := d0
  have cc1 := d1
  have zz0 := y0
  have HXX := q0
  have BB := BB1
  have sA := sA1
  clear BB1 sA1 d0 d1 y0 q0
  have cc2 := kk0
  have cc3 := kk1
  have zz1 : P1 < wd.heap.size := by omega
  rw [← hP1]
  have k3P1 := k3
  clear k3 hW nb hP1 kk0 kk1
  refine (HD1.out _ BB).mono ?_
  rintro e we ⟨u, rfl, ou, be⟩
  have d0 : we.cell? ⟨P0, 0, none⟩ = some (.int .i64 zz) := (Below.celz be _ _ _ (by omega)).trans cc0
  have d1 : we.cell? ⟨P0, 1, none⟩ = some (.slice ua m uc) := (Below.celz be _ _ _ (by omega)).trans cc1
  have d2 : we.cell? ⟨P1, 0, none⟩ = some (.int .i64 Z1) := (Below.celz be _ _ _ (by omega)).trans cc2
  have d3 : we.cell? ⟨P1, 1, none⟩ = some (.slice pa x1 pb) := (Below.celz be _ _ _ (by omega)).trans cc3
  have y0 : P0 < we.heap.size := by have := Below.size be; omega
  have y1 : P1 < we.heap.size := by have := Below.size be; omega
  have BB1 : Below A wa we := BB.trans (be.mono (by omega))
  have sA1 : A ≤ we.heap.size := by have := Below.size be; omega
  have q0 : Hid (RowC we (.slice pa x1 pb) X1) := HXX.out.keep be
  clear BB sA cc0 cc1 cc2 cc3 zz0 zz1 HXX
  have cc0 := d0
  have cc1 := d1
  have cc2 := d2
  have cc3 := d3
  have zz0 := y0
  have zz1 := y1
  have HXX := q0
  have BB := BB1
  have sA := sA1
  clear BB1 sA1 d0 d1 d2 d3 y0 y1 q0
  clear be
  obtain ⟨qa, qb, rfl⟩ := ou.form
  rw [← HL1.out] at ou ⊢
  have HYY : Hid (RowAt 2 encPage we (.slice qa x1 qb) X1) := by have := ou.row; exact this
  clear ou
  go_wp2_with fail
  obtain ⟨P2, hP2⟩ : ∃ t, t = we.heap.size := ⟨_, rfl⟩
  generalize hW : we.alloc (.cells #[.int .i64 Z1, .slice qa x1 qb] 25) = wf
  have nb : Below we.heap.size we wf := by rw [← hW]; exact (Below.refl _ _).alloc (Nat.le_refl _) _
  have k3 : wf.heap.size = P2 + 1 := by rw [← hW, hP2]; simp
  have kk0 : wf.cell? ⟨P2, 0, none⟩ = some (.int .i64 Z1) := by rw [← hW, hP2]; simp [go_sem]
  have kk1 : wf.cell? ⟨P2, 1, none⟩ = some (.slice qa x1 qb) := by rw [← hW, hP2]; simp [go_sem]
  have oP2A : A ≤ P2 := by rw [hP2]; exact sA
  have oP20 : P0 < P2 := by rw [hP2]; exact zz0
  have oP21 : P1 < P2 := by rw [hP2]; exact zz1
  have d0 : wf.cell? ⟨P0, 0, none⟩ = some (.int .i64 zz) := (Below.celz nb _ _ _ (by omega)).trans cc0
  have d1 : wf.cell? ⟨P0, 1, none⟩ = some (.slice ua m uc) := (Below.celz nb _ _ _ (by omega)).trans cc1
  have d2 : wf.cell? ⟨P1, 0, none⟩ = some (.int .i64 Z1) := (Below.celz nb _ _ _ (by omega)).trans cc2
  have d3 : wf.cell? ⟨P1, 1, none⟩ = some (.slice pa x1 pb) := (Below.celz nb _ _ _ (by omega)).trans cc3
  have y0 : P0 < wf.heap.size := by have := Below.size nb; omega
  have y1 : P1 < wf.heap.size := by have := Below.size nb; omega
  have BB1 : Below A wa wf := BB.trans (nb.mono (by omega))
  have sA1 : A ≤ wf.heap.size := by have := Below.size nb; omega
  have q0 : Hid (RowC wf (.slice pa x1 pb) X1) := HXX.out.keep nb
  have q1 : Hid (RowAt 2 encPage wf (.slice qa x1 qb) X1) := HYY.out.keep nb
  clear BB sA cc0 cc1 cc2 cc3 zz0 zz1 HXX HYY
  have cc0 := d0
  have cc1 := d1
  have cc2 := d2
  have cc3 := d3
  have zz0 := y0
  have zz1 := y1
  have HXX := q0
  have HYY := q1
  have BB := BB1
  have sA := sA1
  clear BB1 sA1 d0 d1 d2 d3 y0 y1 q0 q1
  have cc4 := kk0
  have cc5 := kk1
  have zz2 : P2 < wf.heap.size := by omega
  rw [← hP2]
  have k3P2 := k3
  clear k3 hW nb hP2 kk0 kk1
  have hne : ((N1 : Int) != (N1 : Int)) = false := by simp
  have hne2 : ((N1 : Int) == (N1 : Int)) = true := by simp
  clear k3P0 k3P1 k3P2
  go_wp2_with fail
  refine (impl_PoolSame_same Z1 _ _ X1 _ HXX.out.1 HYY.out (by rw [← HL1.out]; omega)).mono ?_
  rintro e wg ⟨rfl, bg⟩
  have d0 : wg.cell? ⟨P0, 0, none⟩ = some (.int .i64 zz) := (Below.celz bg _ _ _ (by omega)).trans cc0
  have d1 : wg.cell? ⟨P0, 1, none⟩ = some (.slice ua m uc) := (Below.celz bg _ _ _ (by omega)).trans cc1
  have d2 : wg.cell? ⟨P1, 0, none⟩ = some (.int .i64 Z1) := (Below.celz bg _ _ _ (by omega)).trans cc2
  have d3 : wg.cell? ⟨P1, 1, none⟩ = some (.slice pa x1 pb) := (Below.celz bg _ _ _ (by omega)).trans cc3
  have d4 : wg.cell? ⟨P2, 0, none⟩ = some (.int .i64 Z1) := (Below.celz bg _ _ _ (by omega)).trans cc4
  have d5 : wg.cell? ⟨P2, 1, none⟩ = some (.slice qa x1 qb) := (Below.celz bg _ _ _ (by omega)).trans cc5
  have y0 : P0 < wg.heap.size := by have := Below.size bg; omega
  have y1 : P1 < wg.heap.size := by have := Below.size bg; omega
  have y2 : P2 < wg.heap.size := by have := Below.size bg; omega
  have BB1 : Below A wa wg := BB.trans (bg.mono (by omega))
  have sA1 : A ≤ wg.heap.size := by have := Below.size bg; omega
  have q0 : Hid (RowC wg (.slice pa x1 pb) X1) := HXX.out.keep bg
  have q1 : Hid (RowAt 2 encPage wg (.slice qa x1 qb) X1) := HYY.out.keep bg
  clear BB sA cc0 cc1 cc2 cc3 cc4 cc5 zz0 zz1 zz2 HXX HYY
  have cc0 := d0
  have cc1 := d1
  have cc2 := d2
  have cc3 := d3
  have cc4 := d4
  have cc5 := d5
  have zz0 := y0
  have zz1 := y1
  have zz2 := y2
  have HXX := q0
  have HYY := q1
  have BB := BB1
  have sA := sA1
  clear BB1 sA1 d0 d1 d2 d3 d4 d5 y0 y1 y2 q0 q1
  clear bg
  cases hp : poolB zz xs
  · go_wp2_with fail
    have CP := spec_PoolOk zz _ xs _ (HV.out _ BB).1 (by rw [← HN.out.2]; omega)
    rw [hp] at CP
    refine (CP).mono ?_
    rintro e wh ⟨rfl, bh⟩
    have d0 : wh.cell? ⟨P0, 0, none⟩ = some (.int .i64 zz) := (Below.celz bh _ _ _ (by omega)).trans cc0
    have d1 : wh.cell? ⟨P0, 1, none⟩ = some (.slice ua m uc) := (Below.celz bh _ _ _ (by omega)).trans cc1
    have d2 : wh.cell? ⟨P1, 0, none⟩ = some (.int .i64 Z1) := (Below.celz bh _ _ _ (by omega)).trans cc2
    have d3 : wh.cell? ⟨P1, 1, none⟩ = some (.slice pa x1 pb) := (Below.celz bh _ _ _ (by omega)).trans cc3
    have d4 : wh.cell? ⟨P2, 0, none⟩ = some (.int .i64 Z1) := (Below.celz bh _ _ _ (by omega)).trans cc4
    have d5 : wh.cell? ⟨P2, 1, none⟩ = some (.slice qa x1 qb) := (Below.celz bh _ _ _ (by omega)).trans cc5
    have y0 : P0 < wh.heap.size := by have := Below.size bh; omega
    have y1 : P1 < wh.heap.size := by have := Below.size bh; omega
    have y2 : P2 < wh.heap.size := by have := Below.size bh; omega
    have BB1 : Below A wa wh := BB.trans (bh.mono (by omega))
    have sA1 : A ≤ wh.heap.size := by have := Below.size bh; omega
    have q0 : Hid (RowC wh (.slice pa x1 pb) X1) := HXX.out.keep bh
    have q1 : Hid (RowAt 2 encPage wh (.slice qa x1 qb) X1) := HYY.out.keep bh
    clear BB sA cc0 cc1 cc2 cc3 cc4 cc5 zz0 zz1 zz2 HXX HYY
    have cc0 := d0
    have cc1 := d1
    have cc2 := d2
    have cc3 := d3
    have cc4 := d4
    have cc5 := d5
    have zz0 := y0
    have zz1 := y1
    have zz2 := y2
    have HXX := q0
    have HYY := q1
    have BB := BB1
    have sA := sA1
    clear BB1 sA1 d0 d1 d2 d3 d4 d5 y0 y1 y2 q0 q1
    clear bh
    clear CP
    go_wp2_with fail
    refine (impl_PoolSame_same Z1 _ _ X1 _ HXX.out.1 HYY.out (by rw [← HL1.out]; omega)).mono ?_
    rintro e wi ⟨rfl, bi⟩
    have d0 : wi.cell? ⟨P0, 0, none⟩ = some (.int .i64 zz) := (Below.celz bi _ _ _ (by omega)).trans cc0
    have d1 : wi.cell? ⟨P0, 1, none⟩ = some (.slice ua m uc) := (Below.celz bi _ _ _ (by omega)).trans cc1
    have d2 : wi.cell? ⟨P1, 0, none⟩ = some (.int .i64 Z1) := (Below.celz bi _ _ _ (by omega)).trans cc2
    have d3 : wi.cell? ⟨P1, 1, none⟩ = some (.slice pa x1 pb) := (Below.celz bi _ _ _ (by omega)).trans cc3
    have d4 : wi.cell? ⟨P2, 0, none⟩ = some (.int .i64 Z1) := (Below.celz bi _ _ _ (by omega)).trans cc4
    have d5 : wi.cell? ⟨P2, 1, none⟩ = some (.slice qa x1 qb) := (Below.celz bi _ _ _ (by omega)).trans cc5
    have y0 : P0 < wi.heap.size := by have := Below.size bi; omega
    have y1 : P1 < wi.heap.size := by have := Below.size bi; omega
    have y2 : P2 < wi.heap.size := by have := Below.size bi; omega
    have BB1 : Below A wa wi := BB.trans (bi.mono (by omega))
    have sA1 : A ≤ wi.heap.size := by have := Below.size bi; omega
    have q0 : Hid (RowC wi (.slice pa x1 pb) X1) := HXX.out.keep bi
    have q1 : Hid (RowAt 2 encPage wi (.slice qa x1 qb) X1) := HYY.out.keep bi
    clear BB sA cc0 cc1 cc2 cc3 cc4 cc5 zz0 zz1 zz2 HXX HYY
    have cc0 := d0
    have cc1 := d1
    have cc2 := d2
    have cc3 := d3
    have cc4 := d4
    have cc5 := d5
    have zz0 := y0
    have zz1 := y1
    have zz2 := y2
    have HXX := q0
    have HYY := q1
    have BB := BB1
    have sA := sA1
    clear BB1 sA1 d0 d1 d2 d3 d4 d5 y0 y1 y2 q0 q1
    clear bi
    go_wp2_with fail
    go_ret
    exact ⟨rfl, (HV.out _ BB).2.2.2⟩
  · go_wp2_with fail
    have CP := spec_PoolOk zz _ xs _ (HV.out _ BB).1 (by rw [← HN.out.2]; omega)
    rw [hp] at CP
    refine (CP).mono ?_
    rintro e wh ⟨rfl, bh⟩
    have d0 : wh.cell? ⟨P0, 0, none⟩ = some (.int .i64 zz) := (Below.celz bh _ _ _ (by omega)).trans cc0
    have d1 : wh.cell? ⟨P0, 1, none⟩ = some (.slice ua m uc) := (Below.celz bh _ _ _ (by omega)).trans cc1
    have d2 : wh.cell? ⟨P1, 0, none⟩ = some (.int .i64 Z1) := (Below.celz bh _ _ _ (by omega)).trans cc2
    have d3 : wh.cell? ⟨P1, 1, none⟩ = some (.slice pa x1 pb) := (Below.celz bh _ _ _ (by omega)).trans cc3
    have d4 : wh.cell? ⟨P2, 0, none⟩ = some (.int .i64 Z1) := (Below.celz bh _ _ _ (by omega)).trans cc4
    have d5 : wh.cell? ⟨P2, 1, none⟩ = some (.slice qa x1 qb) := (Below.celz bh _ _ _ (by omega)).trans cc5
    have y0 : P0 < wh.heap.size := by have := Below.size bh; omega
    have y1 : P1 < wh.heap.size := by have := Below.size bh; omega
    have y2 : P2 < wh.heap.size := by have := Below.size bh; omega
    have BB1 : Below A wa wh := BB.trans (bh.mono (by omega))
    have sA1 : A ≤ wh.heap.size := by have := Below.size bh; omega
    have q0 : Hid (RowC wh (.slice pa x1 pb) X1) := HXX.out.keep bh
    have q1 : Hid (RowAt 2 encPage wh (.slice qa x1 qb) X1) := HYY.out.keep bh
    clear BB sA cc0 cc1 cc2 cc3 cc4 cc5 zz0 zz1 zz2 HXX HYY
    have cc0 := d0
    have cc1 := d1
    have cc2 := d2
    have cc3 := d3
    have cc4 := d4
    have cc5 := d5
    have zz0 := y0
    have zz1 := y1
    have zz2 := y2
    have HXX := q0
    have HYY := q1
    have BB := BB1
    have sA := sA1
    clear BB1 sA1 d0 d1 d2 d3 d4 d5 y0 y1 y2 q0 q1
    clear bh
    clear CP
    by_cases hxz : x1 = 0
    · subst hxz
      by_cases hz0 : Z1 = 0
      · subst hz0
        go_wp2_with fail
        refine (impl_PoolSame_same 0 _ _ X1 _ HXX.out.1 HYY.out (by rw [← HL1.out]; omega)).mono ?_
        rintro e wi ⟨rfl, bi⟩
        have d0 : wi.cell? ⟨P0, 0, none⟩ = some (.int .i64 zz) := (Below.celz bi _ _ _ (by omega)).trans cc0
        have d1 : wi.cell? ⟨P0, 1, none⟩ = some (.slice ua m uc) := (Below.celz bi _ _ _ (by omega)).trans cc1
        have d2 : wi.cell? ⟨P1, 0, none⟩ = some (.int .i64 0) := (Below.celz bi _ _ _ (by omega)).trans cc2
        have d3 : wi.cell? ⟨P1, 1, none⟩ = some (.slice pa 0 pb) := (Below.celz bi _ _ _ (by omega)).trans cc3
        have d4 : wi.cell? ⟨P2, 0, none⟩ = some (.int .i64 0) := (Below.celz bi _ _ _ (by omega)).trans cc4
        have d5 : wi.cell? ⟨P2, 1, none⟩ = some (.slice qa 0 qb) := (Below.celz bi _ _ _ (by omega)).trans cc5
        have y0 : P0 < wi.heap.size := by have := Below.size bi; omega
        have y1 : P1 < wi.heap.size := by have := Below.size bi; omega
        have y2 : P2 < wi.heap.size := by have := Below.size bi; omega
        have BB1 : Below A wa wi := BB.trans (bi.mono (by omega))
        have sA1 : A ≤ wi.heap.size := by have := Below.size bi; omega
        have q0 : Hid (RowC wi (.slice pa 0 pb) X1) := HXX.out.keep bi
        have q1 : Hid (RowAt 2 encPage wi (.slice qa 0 qb) X1) := HYY.out.keep bi
        clear BB sA cc0 cc1 cc2 cc3 cc4 cc5 zz0 zz1 zz2 HXX HYY
        have cc0 := d0
        have cc1 := d1
        have cc2 := d2
        have cc3 := d3
        have cc4 := d4
        have cc5 := d5
        have zz0 := y0
        have zz1 := y1
        have zz2 := y2
        have HXX := q0
        have HYY := q1
        have BB := BB1
        have sA := sA1
        clear BB1 sA1 d0 d1 d2 d3 d4 d5 y0 y1 y2 q0 q1
        clear bi
        go_wp2_with fail
        go_ret
        exact ⟨rfl, (HV.out _ BB).2.2.2⟩
      · have hl : ls.all (fun x => pageB x.1 x.2) = true := by
          cases h : ls.all (fun x => pageB x.1 x.2)
          · exfalso
            obtain ⟨h1, h2, h3⟩ := HX.out
            obtain ⟨b1, b2, b3⟩ := paZ_bad (z := zz) (xs := xs) h
            rw [b1] at h1; exact hz0 h1
          · rfl
        obtain ⟨g1, g2, g3, g4, g5⟩ := poolB_true.1 hp
        obtain ⟨zn, rfl⟩ := Int.eq_ofNat_of_zero_le g1
        obtain rfl : Z1 = (zn : Int) := by rw [HX.out.1]; exact (paZ_all hp hl).1
        have hzn : zn ≤ 12 := by omega
        have HP : Hid (poolB zn xs = true ∧ ls.all (fun x => pageB x.1 x.2) = true ∧ poolB zn X1 = true ∧ N1 = (allU zn xs ls).2) := ⟨hp, hl, by rw [HX.out.2.1]; exact poolB_pa hp hl, by rw [HX.out.2.2]; exact (paZ_all hp hl).2.2⟩
        obtain ⟨kk, hkk⟩ : ∃ kk : Nat, kk = len1 % (n + 1) := ⟨_, rfl⟩
        have hkn : kk ≤ n := by have := Nat.mod_lt len1 (show 0 < n + 1 by omega); omega
        have hke : (len1 : Int) % ((n : Int) + 1) = (kk : Int) := by rw [hkk]; push_cast; rfl
        obtain ⟨AL, M1, O1, lA, lM, HSP⟩ : ∃ (AL : List (Int × Int)) (M1 O1 : Nat), AL.length ≤ 12 ∧ M1 + O1 = N1 ∧ Hid (paZ zn xs (ls.take kk) = zn ∧ paL zn xs (ls.take kk) = AL ∧ paN zn xs (ls.take kk) = M1 ∧ paZ zn AL (ls.drop kk) = zn ∧ paL zn AL (ls.drop kk) = X1 ∧ paN zn AL (ls.drop kk) = O1) := by
          obtain ⟨s1, s2, s3, s4⟩ := pa_split hp hl kk
          exact ⟨_, _, _, paL_len _ _ _, by rw [HX.out.2.2]; exact s4, s1, rfl, rfl, s2, by rw [HX.out.2.1]; exact s3, rfl⟩
        obtain ⟨al, hal⟩ : ∃ t, t = AL.length := ⟨_, rfl⟩
        have HLA : Hid (al = AL.length) := hal
        rw [← hal] at lA
        clear g4 g5 hp hl hal hkk
        rcases HVA.out with ⟨rfl, rfl, rfl⟩ | ⟨g, rfl, hvc⟩
        · as_aux_lemma =>
            obtain rfl : kk = 0 := by omega
            obtain rfl : N1 = 0 := by omega
            obtain rfl : M1 = 0 := by omega
            obtain rfl : O1 = 0 := by omega
            have HE1 : Hid (∀ W, Below A wa W → Calls Tryd.prog 6 #[.agg #[.int .i64 zn, .slice ua m uc], .slice none 0 0] W fun e w' => ∃ u, e = .returned (.tuple #[.agg #[.int .i64 zn, u], .int .i64 (0 : Nat)]) ∧ OwnPool w' W.heap.size u AL ∧ Below W.heap.size W w') := fun W h => by
              obtain ⟨s1, s2, s3, -⟩ := HSP.out
              have := impl_PoolAll zn (.slice ua m uc) (.slice none 0 0) xs (ls.take 0) W (HV.out _ h).1.1 (row_take (HV.out _ h).2.1 0 (by omega)) (by rw [← HN.out.2]; omega) (by rw [List.length_take, ← HN.out.1]; omega) (HV.out _ h).2.2.1
              rw [s1, s2, s3] at this
              exact this
            go_upto_region 9 with fail
            have hS : Hid (∀ w', Below wh.heap.size wh w' → Below wh.heap.size wh w' ∧ w'.cell? ⟨P0, 0, none⟩ = some (.int .i64 (zn : Int)) ∧ w'.cell? ⟨P0, 1, none⟩ = some (.slice ua m uc)) := fun w' hn => ⟨hn, (Below.celz hn _ _ _ zz0).trans cc0, (Below.celz hn _ _ _ zz0).trans cc1⟩
            have HBB : Hid (∀ w', Below wh.heap.size wh w' → Below A wa w') := fun w' hn => BB.trans (hn.mono sA)
            go_cut [12, 13] (fun sa sm wx => ∃ ra rb C, sa = .pointer (some ⟨C, 0, none⟩) ∧ sm = .int .i64 (0 : Nat) ∧ BoxU wh wx C zn (.slice ra AL.length rb) AL)
            case first =>
              go_region_held3 (fun w' => Below wh.heap.size wh w' ∧ w'.cell? ⟨P0, 0, none⟩ = some (.int .i64 (zn : Int)) ∧ w'.cell? ⟨P0, 1, none⟩ = some (.slice ua m uc))
                (first | with_reducible exact hS.out _ (Below.refl _ _).drew | (with_reducible exact hS.out _ (keep_below (And.left (by assumption)) tj1)) | (with_reducible exact hS.out _ (Below.alloc (And.left (by assumption)) (Below.size (And.left (by assumption))) _)) | exact hS.out _ (Below.alloc hs1.out hs1.out.size _) | exact hS.out _ (Below.setCell (Below.setCell hs1.out (Nat.le_refl _) _) (Nat.le_refl _) _))
                (first | (go_at_call 6; refine (HE1.out _ (HBB.out _ (And.left (by assumption)))).mono ?_; rintro e w2 ⟨p1, rfl, ogz, tj1⟩; have hs1 : Hid (Below wh.heap.size wh w2) := keep_below (And.left (by assumption)) tj1; obtain ⟨ra, rb, rfl⟩ := ogz.form; first | (have hbx : w2.heap[wh.heap.size]? = some (.cells #[.int .i64 0, .slice none 0 0] 25 (0, 0)) := (by rw [tj1.block _ (by have h0 := tj1.size; (try simp at h0); (first | omega | (simp; done) | (simp; omega)))]; exact new_block _ _); have qb0 : w2.cell? ⟨wh.heap.size, 0, none⟩ = some (.int .i64 0) := (by rw [cell_block hbx]; rfl); have qb1 : w2.cell? ⟨wh.heap.size, 1, none⟩ = some (.slice none 0 0) := (by rw [cell_block hbx]; rfl); have qb2 : ∀ o, w2.frozen? ⟨wh.heap.size, o, none⟩ = false := (fun o => free_block hbx)) | skip))
              all_goals (
                go_wp2_with fail
                go_meet
                first
                  | exact ⟨_, _, _, rfl, rfl, box_last hs1.out ogz (by have h0 := tj1.size; (try simp at h0); (first | omega | (simp; done) | (simp; omega)))⟩
                  | exact ⟨_, _, _, rfl, rfl, box_set hs1.out ogz (Nat.le_refl _) (by have h0 := tj1.size; (try simp at h0); (first | omega | (simp; done) | (simp; omega))) hbx⟩)
            case rest =>
              obtain ⟨ra, rb, P3, rfl, rfl, hbu⟩ := hcut
              generalize wc = wj at *
              obtain ⟨lb, hC0, hblk, og, hap⟩ := hbu
              clear hS HBB hap
              have oP3A : A ≤ P3 := by omega
              have oP30 : P0 < P3 := by have := zz0; omega
              have oP31 : P1 < P3 := by have := zz1; omega
              have oP32 : P2 < P3 := by have := zz2; omega
              have d0 : wj.cell? ⟨P0, 0, none⟩ = some (.int .i64 (zn : Int)) := (Below.celz lb _ _ _ (by omega)).trans cc0
              have d1 : wj.cell? ⟨P0, 1, none⟩ = some (.slice ua m uc) := (Below.celz lb _ _ _ (by omega)).trans cc1
              have d2 : wj.cell? ⟨P1, 0, none⟩ = some (.int .i64 (zn : Int)) := (Below.celz lb _ _ _ (by omega)).trans cc2
              have d3 : wj.cell? ⟨P1, 1, none⟩ = some (.slice pa 0 pb) := (Below.celz lb _ _ _ (by omega)).trans cc3
              have d4 : wj.cell? ⟨P2, 0, none⟩ = some (.int .i64 (zn : Int)) := (Below.celz lb _ _ _ (by omega)).trans cc4
              have d5 : wj.cell? ⟨P2, 1, none⟩ = some (.slice qa 0 qb) := (Below.celz lb _ _ _ (by omega)).trans cc5
              have y0 : P0 < wj.heap.size := by have := Below.size lb; omega
              have y1 : P1 < wj.heap.size := by have := Below.size lb; omega
              have y2 : P2 < wj.heap.size := by have := Below.size lb; omega
              have BB1 : Below A wa wj := BB.trans (lb.mono (by omega))
              have sA1 : A ≤ wj.heap.size := by have := Below.size lb; omega
              have q0 : Hid (RowC wj (.slice pa 0 pb) X1) := HXX.out.keep lb
              have q1 : Hid (RowAt 2 encPage wj (.slice qa 0 qb) X1) := HYY.out.keep lb
              clear BB sA cc0 cc1 cc2 cc3 cc4 cc5 zz0 zz1 zz2 HXX HYY
              have cc0 := d0
              have cc1 := d1
              have cc2 := d2
              have cc3 := d3
              have cc4 := d4
              have cc5 := d5
              have zz0 := y0
              have zz1 := y1
              have zz2 := y2
              have HXX := q0
              have HYY := q1
              have BB := BB1
              have sA := sA1
              clear BB1 sA1 d0 d1 d2 d3 d4 d5 y0 y1 y2 q0 q1
              clear lb
              have cc6 : wj.cell? ⟨P3, 0, none⟩ = some (.int .i64 zn) := by rw [cell_block hblk]; rfl
              have cc7 : wj.cell? ⟨P3, 1, none⟩ = some (.slice ra AL.length rb) := by rw [cell_block hblk]; rfl
              have zz3 : P3 < wj.heap.size := lt_of_block hblk
              clear hC0 hblk
              rw [← HLA.out] at og
              rw [← HLA.out] at cc7
              have HAA : Hid (RowAt 2 encPage wj (.slice ra al rb) AL) := by have := og.row; exact this
              clear og
              have HDV : Hid (∀ W, Below A wa W → RowAt 2 encPage W (.slice none 0 0) (ls.drop 0)) := fun W h => by have := (HV.out _ h).2.1; simpa using this
              have HE2 : Hid (∀ W, Below A wa W → RowAt 2 encPage W (.slice ra al rb) AL → Calls Tryd.prog 6 #[.agg #[.int .i64 zn, .slice ra al rb], .slice none 0 0] W fun e w' => ∃ u, e = .returned (.tuple #[.agg #[.int .i64 zn, u], .int .i64 (0 : Nat)]) ∧ OwnPool w' W.heap.size u X1 ∧ Below W.heap.size W w') := fun W h hr => by
                obtain ⟨-, -, -, s1, s2, s3⟩ := HSP.out
                have := impl_PoolAll zn (.slice ra al rb) (.slice none 0 0) AL (ls.drop 0) W hr (HDV.out _ h) (by rw [← HLA.out]; omega) (by rw [List.length_drop, ← HN.out.1]; omega) (HV.out _ h).2.2.1
                rw [s1, s2, s3] at this
                exact this
              go_upto_region 10 with fail
              have HAK : Hid (∀ w', Below wj.heap.size wj w' → RowAt 2 encPage w' (.slice ra al rb) AL) := fun w' h => HAA.out.keep h
              have hS : Hid (∀ w', Below wj.heap.size wj w' → Below wj.heap.size wj w' ∧ w'.cell? ⟨P3, 0, none⟩ = some (.int .i64 zn) ∧ w'.cell? ⟨P3, 1, none⟩ = some (.slice ra al rb)) := fun w' hn => ⟨hn, (Below.celz hn _ _ _ zz3).trans cc6, (Below.celz hn _ _ _ zz3).trans cc7⟩
              have HBB : Hid (∀ w', Below wj.heap.size wj w' → Below A wa w') := fun w' hn => BB.trans (hn.mono sA)
              go_cut [14, 15] (fun sa sm wx => ∃ da db C, sa = .pointer (some ⟨C, 0, none⟩) ∧ sm = .int .i64 (0 : Nat) ∧ BoxU wj wx C zn (.slice da X1.length db) X1)
              case first =>
                go_region_held3 (fun w' => Below wj.heap.size wj w' ∧ w'.cell? ⟨P3, 0, none⟩ = some (.int .i64 zn) ∧ w'.cell? ⟨P3, 1, none⟩ = some (.slice ra al rb))
                  (first | with_reducible exact hS.out _ (Below.refl _ _).drew | (with_reducible exact hS.out _ (keep_below (And.left (by assumption)) tj1)) | (with_reducible exact hS.out _ (Below.alloc (And.left (by assumption)) (Below.size (And.left (by assumption))) _)) | exact hS.out _ (Below.alloc hs1.out hs1.out.size _) | exact hS.out _ (Below.setCell (Below.setCell hs1.out (Nat.le_refl _) _) (Nat.le_refl _) _))
                  (first | (go_at_call 6; refine (HE2.out _ (HBB.out _ (And.left (by assumption))) (HAK.out _ (And.left (by assumption)))).mono ?_; rintro e w2 ⟨p1, rfl, ogz, tj1⟩; have hs1 : Hid (Below wj.heap.size wj w2) := keep_below (And.left (by assumption)) tj1; obtain ⟨da, db, rfl⟩ := ogz.form; first | (have hbx : w2.heap[wj.heap.size]? = some (.cells #[.int .i64 0, .slice none 0 0] 25 (0, 0)) := (by rw [tj1.block _ (by have h0 := tj1.size; (try simp at h0); (first | omega | (simp; done) | (simp; omega)))]; exact new_block _ _); have qb0 : w2.cell? ⟨wj.heap.size, 0, none⟩ = some (.int .i64 0) := (by rw [cell_block hbx]; rfl); have qb1 : w2.cell? ⟨wj.heap.size, 1, none⟩ = some (.slice none 0 0) := (by rw [cell_block hbx]; rfl); have qb2 : ∀ o, w2.frozen? ⟨wj.heap.size, o, none⟩ = false := (fun o => free_block hbx)) | skip))
                all_goals (
                  go_wp2_with fail
                  go_meet
                  first
                    | exact ⟨_, _, _, rfl, rfl, box_last hs1.out ogz (by have h0 := tj1.size; (try simp at h0); (first | omega | (simp; done) | (simp; omega)))⟩
                    | exact ⟨_, _, _, rfl, rfl, box_set hs1.out ogz (Nat.le_refl _) (by have h0 := tj1.size; (try simp at h0); (first | omega | (simp; done) | (simp; omega))) hbx⟩)
              case rest =>
                obtain ⟨da, db, P4, rfl, rfl, hbu⟩ := hcut
                generalize wc = wk at *
                obtain ⟨lb, hC0, hblk, og, hap⟩ := hbu
                clear hS HBB hap
                have oP4A : A ≤ P4 := by omega
                have oP40 : P0 < P4 := by have := zz0; omega
                have oP41 : P1 < P4 := by have := zz1; omega
                have oP42 : P2 < P4 := by have := zz2; omega
                have oP43 : P3 < P4 := by have := zz3; omega
                have d0 : wk.cell? ⟨P0, 0, none⟩ = some (.int .i64 (zn : Int)) := (Below.celz lb _ _ _ (by omega)).trans cc0
                have d1 : wk.cell? ⟨P0, 1, none⟩ = some (.slice ua m uc) := (Below.celz lb _ _ _ (by omega)).trans cc1
                have d2 : wk.cell? ⟨P1, 0, none⟩ = some (.int .i64 (zn : Int)) := (Below.celz lb _ _ _ (by omega)).trans cc2
                have d3 : wk.cell? ⟨P1, 1, none⟩ = some (.slice pa 0 pb) := (Below.celz lb _ _ _ (by omega)).trans cc3
                have d4 : wk.cell? ⟨P2, 0, none⟩ = some (.int .i64 (zn : Int)) := (Below.celz lb _ _ _ (by omega)).trans cc4
                have d5 : wk.cell? ⟨P2, 1, none⟩ = some (.slice qa 0 qb) := (Below.celz lb _ _ _ (by omega)).trans cc5
                have d6 : wk.cell? ⟨P3, 0, none⟩ = some (.int .i64 zn) := (Below.celz lb _ _ _ (by omega)).trans cc6
                have d7 : wk.cell? ⟨P3, 1, none⟩ = some (.slice ra al rb) := (Below.celz lb _ _ _ (by omega)).trans cc7
                have y0 : P0 < wk.heap.size := by have := Below.size lb; omega
                have y1 : P1 < wk.heap.size := by have := Below.size lb; omega
                have y2 : P2 < wk.heap.size := by have := Below.size lb; omega
                have y3 : P3 < wk.heap.size := by have := Below.size lb; omega
                have BB1 : Below A wa wk := BB.trans (lb.mono (by omega))
                have sA1 : A ≤ wk.heap.size := by have := Below.size lb; omega
                have q0 : Hid (RowC wk (.slice pa 0 pb) X1) := HXX.out.keep lb
                have q1 : Hid (RowAt 2 encPage wk (.slice qa 0 qb) X1) := HYY.out.keep lb
                have q2 : Hid (RowAt 2 encPage wk (.slice ra al rb) AL) := HAA.out.keep lb
                clear BB sA cc0 cc1 cc2 cc3 cc4 cc5 cc6 cc7 zz0 zz1 zz2 zz3 HXX HYY HAA
                have cc0 := d0
                have cc1 := d1
                have cc2 := d2
                have cc3 := d3
                have cc4 := d4
                have cc5 := d5
                have cc6 := d6
                have cc7 := d7
                have zz0 := y0
                have zz1 := y1
                have zz2 := y2
                have zz3 := y3
                have HXX := q0
                have HYY := q1
                have HAA := q2
                have BB := BB1
                have sA := sA1
                clear BB1 sA1 d0 d1 d2 d3 d4 d5 d6 d7 y0 y1 y2 y3 q0 q1 q2
                clear lb
                have cc8 : wk.cell? ⟨P4, 0, none⟩ = some (.int .i64 zn) := by rw [cell_block hblk]; rfl
                have cc9 : wk.cell? ⟨P4, 1, none⟩ = some (.slice da X1.length db) := by rw [cell_block hblk]; rfl
                have zz4 : P4 < wk.heap.size := lt_of_block hblk
                clear hC0 hblk
                rw [← HL1.out] at og
                rw [← HL1.out] at cc9
                clear HAK
                have HBX : Hid (RowAt 2 encPage wk (.slice da 0 db) X1) := by have := og.row; exact this
                clear og HE1 HE2 HDV
                clear HAA
                clear HSP
                go_wp2_with fail
                go_loopw [16, 17] (fun f i wr => ∃ a : Nat, a ≤ 0 ∧ i = .int .i64 a ∧ f = .int .i64 (frs xs ls a : Nat) ∧ Below wk.heap.size wk wr) (fun _ i _ => 0 - (intOf i).toNat)
                case atStart => exact ⟨0, by omega, rfl, rfl, Below.refl _ _⟩
                case round =>
                  obtain ⟨a, ha, rfl, rfl, hbel⟩ := hrel
                  have HBL : Hid (Below wk.heap.size wk wr) := hbel
                  have sg : wk.heap.size ≤ wr.heap.size := hbel.size
                  have hul := frs_le xs ls a
                  obtain ⟨u, hu⟩ : ∃ u, u = frs xs ls a := ⟨_, rfl⟩
                  have HU : Hid (u = frs xs ls a) := hu
                  rw [← hu] at hul ⊢
                  clear hu
                  have d0 : wr.cell? ⟨P0, 0, none⟩ = some (.int .i64 (zn : Int)) := (Below.celz hbel _ _ _ (by omega)).trans cc0
                  have d1 : wr.cell? ⟨P0, 1, none⟩ = some (.slice ua m uc) := (Below.celz hbel _ _ _ (by omega)).trans cc1
                  have d2 : wr.cell? ⟨P1, 0, none⟩ = some (.int .i64 (zn : Int)) := (Below.celz hbel _ _ _ (by omega)).trans cc2
                  have d3 : wr.cell? ⟨P1, 1, none⟩ = some (.slice pa 0 pb) := (Below.celz hbel _ _ _ (by omega)).trans cc3
                  have d4 : wr.cell? ⟨P2, 0, none⟩ = some (.int .i64 (zn : Int)) := (Below.celz hbel _ _ _ (by omega)).trans cc4
                  have d5 : wr.cell? ⟨P2, 1, none⟩ = some (.slice qa 0 qb) := (Below.celz hbel _ _ _ (by omega)).trans cc5
                  have d6 : wr.cell? ⟨P3, 0, none⟩ = some (.int .i64 zn) := (Below.celz hbel _ _ _ (by omega)).trans cc6
                  have d7 : wr.cell? ⟨P3, 1, none⟩ = some (.slice ra al rb) := (Below.celz hbel _ _ _ (by omega)).trans cc7
                  have d8 : wr.cell? ⟨P4, 0, none⟩ = some (.int .i64 zn) := (Below.celz hbel _ _ _ (by omega)).trans cc8
                  have d9 : wr.cell? ⟨P4, 1, none⟩ = some (.slice da 0 db) := (Below.celz hbel _ _ _ (by omega)).trans cc9
                  have y0 : P0 < wr.heap.size := by have := Below.size hbel; omega
                  have y1 : P1 < wr.heap.size := by have := Below.size hbel; omega
                  have y2 : P2 < wr.heap.size := by have := Below.size hbel; omega
                  have y3 : P3 < wr.heap.size := by have := Below.size hbel; omega
                  have y4 : P4 < wr.heap.size := by have := Below.size hbel; omega
                  have BB1 : Below A wa wr := BB.trans (hbel.mono (by omega))
                  have sA1 : A ≤ wr.heap.size := by have := Below.size hbel; omega
                  have q0 : Hid (RowC wr (.slice pa 0 pb) X1) := HXX.out.keep hbel
                  have q1 : Hid (RowAt 2 encPage wr (.slice qa 0 qb) X1) := HYY.out.keep hbel
                  have q2 : Hid (RowAt 2 encPage wr (.slice da 0 db) X1) := HBX.out.keep hbel
                  clear BB sA cc0 cc1 cc2 cc3 cc4 cc5 cc6 cc7 cc8 cc9 zz0 zz1 zz2 zz3 zz4 HXX HYY HBX
                  have cc0 := d0
                  have cc1 := d1
                  have cc2 := d2
                  have cc3 := d3
                  have cc4 := d4
                  have cc5 := d5
                  have cc6 := d6
                  have cc7 := d7
                  have cc8 := d8
                  have cc9 := d9
                  have zz0 := y0
                  have zz1 := y1
                  have zz2 := y2
                  have zz3 := y3
                  have zz4 := y4
                  have HXX := q0
                  have HYY := q1
                  have HBX := q2
                  have BB := BB1
                  have sA := sA1
                  clear BB1 sA1 d0 d1 d2 d3 d4 d5 d6 d7 d8 d9 y0 y1 y2 y3 y4 q0 q1 q2
                  clear hbel
                  by_cases hlt : a < 0
                  · exfalso; omega
                  · obtain rfl : a = 0 := by omega
                    obtain rfl : u = 0 := by omega
                    have HLE : Hid (X1.length ≤ 1048576) := by show X1.length ≤ _; rw [← HL1.out]; omega
                    go_wp2_with fail
                    have CP := impl_PoolOk zn _ X1 _ HXX.out.1 HLE.out (HV.out _ BB).2.2.1
                    rw [HP.out.2.2.1] at CP
                    refine (CP).mono ?_
                    rintro e wx ⟨rfl, bx0⟩
                    have d0 : wx.cell? ⟨P0, 0, none⟩ = some (.int .i64 (zn : Int)) := (Below.celz bx0 _ _ _ (by omega)).trans cc0
                    have d1 : wx.cell? ⟨P0, 1, none⟩ = some (.slice ua m uc) := (Below.celz bx0 _ _ _ (by omega)).trans cc1
                    have d2 : wx.cell? ⟨P1, 0, none⟩ = some (.int .i64 (zn : Int)) := (Below.celz bx0 _ _ _ (by omega)).trans cc2
                    have d3 : wx.cell? ⟨P1, 1, none⟩ = some (.slice pa 0 pb) := (Below.celz bx0 _ _ _ (by omega)).trans cc3
                    have d4 : wx.cell? ⟨P2, 0, none⟩ = some (.int .i64 (zn : Int)) := (Below.celz bx0 _ _ _ (by omega)).trans cc4
                    have d5 : wx.cell? ⟨P2, 1, none⟩ = some (.slice qa 0 qb) := (Below.celz bx0 _ _ _ (by omega)).trans cc5
                    have d6 : wx.cell? ⟨P3, 0, none⟩ = some (.int .i64 zn) := (Below.celz bx0 _ _ _ (by omega)).trans cc6
                    have d7 : wx.cell? ⟨P3, 1, none⟩ = some (.slice ra al rb) := (Below.celz bx0 _ _ _ (by omega)).trans cc7
                    have d8 : wx.cell? ⟨P4, 0, none⟩ = some (.int .i64 zn) := (Below.celz bx0 _ _ _ (by omega)).trans cc8
                    have d9 : wx.cell? ⟨P4, 1, none⟩ = some (.slice da 0 db) := (Below.celz bx0 _ _ _ (by omega)).trans cc9
                    have y0 : P0 < wx.heap.size := by have := Below.size bx0; omega
                    have y1 : P1 < wx.heap.size := by have := Below.size bx0; omega
                    have y2 : P2 < wx.heap.size := by have := Below.size bx0; omega
                    have y3 : P3 < wx.heap.size := by have := Below.size bx0; omega
                    have y4 : P4 < wx.heap.size := by have := Below.size bx0; omega
                    have BB1 : Below A wa wx := BB.trans (bx0.mono (by omega))
                    have sA1 : A ≤ wx.heap.size := by have := Below.size bx0; omega
                    have q0 : Hid (RowC wx (.slice pa 0 pb) X1) := HXX.out.keep bx0
                    have q1 : Hid (RowAt 2 encPage wx (.slice qa 0 qb) X1) := HYY.out.keep bx0
                    have q2 : Hid (RowAt 2 encPage wx (.slice da 0 db) X1) := HBX.out.keep bx0
                    clear BB sA cc0 cc1 cc2 cc3 cc4 cc5 cc6 cc7 cc8 cc9 zz0 zz1 zz2 zz3 zz4 HXX HYY HBX
                    have cc0 := d0
                    have cc1 := d1
                    have cc2 := d2
                    have cc3 := d3
                    have cc4 := d4
                    have cc5 := d5
                    have cc6 := d6
                    have cc7 := d7
                    have cc8 := d8
                    have cc9 := d9
                    have zz0 := y0
                    have zz1 := y1
                    have zz2 := y2
                    have zz3 := y3
                    have zz4 := y4
                    have HXX := q0
                    have HYY := q1
                    have HBX := q2
                    have BB := BB1
                    have sA := sA1
                    clear BB1 sA1 d0 d1 d2 d3 d4 d5 d6 d7 d8 d9 y0 y1 y2 y3 y4 q0 q1 q2
                    clear bx0
                    clear CP
                    go_wp2_with fail
                    refine (impl_PoolSame_same zn _ _ X1 _ HBX.out HXX.out.1 HLE.out).mono ?_
                    rintro e wy ⟨rfl, by0⟩
                    have d0 : wy.cell? ⟨P0, 0, none⟩ = some (.int .i64 (zn : Int)) := (Below.celz by0 _ _ _ (by omega)).trans cc0
                    have d1 : wy.cell? ⟨P0, 1, none⟩ = some (.slice ua m uc) := (Below.celz by0 _ _ _ (by omega)).trans cc1
                    have d2 : wy.cell? ⟨P1, 0, none⟩ = some (.int .i64 (zn : Int)) := (Below.celz by0 _ _ _ (by omega)).trans cc2
                    have d3 : wy.cell? ⟨P1, 1, none⟩ = some (.slice pa 0 pb) := (Below.celz by0 _ _ _ (by omega)).trans cc3
                    have d4 : wy.cell? ⟨P2, 0, none⟩ = some (.int .i64 (zn : Int)) := (Below.celz by0 _ _ _ (by omega)).trans cc4
                    have d5 : wy.cell? ⟨P2, 1, none⟩ = some (.slice qa 0 qb) := (Below.celz by0 _ _ _ (by omega)).trans cc5
                    have d6 : wy.cell? ⟨P3, 0, none⟩ = some (.int .i64 zn) := (Below.celz by0 _ _ _ (by omega)).trans cc6
                    have d7 : wy.cell? ⟨P3, 1, none⟩ = some (.slice ra al rb) := (Below.celz by0 _ _ _ (by omega)).trans cc7
                    have d8 : wy.cell? ⟨P4, 0, none⟩ = some (.int .i64 zn) := (Below.celz by0 _ _ _ (by omega)).trans cc8
                    have d9 : wy.cell? ⟨P4, 1, none⟩ = some (.slice da 0 db) := (Below.celz by0 _ _ _ (by omega)).trans cc9
                    have y0 : P0 < wy.heap.size := by have := Below.size by0; omega
                    have y1 : P1 < wy.heap.size := by have := Below.size by0; omega
                    have y2 : P2 < wy.heap.size := by have := Below.size by0; omega
                    have y3 : P3 < wy.heap.size := by have := Below.size by0; omega
                    have y4 : P4 < wy.heap.size := by have := Below.size by0; omega
                    have BB1 : Below A wa wy := BB.trans (by0.mono (by omega))
                    have sA1 : A ≤ wy.heap.size := by have := Below.size by0; omega
                    have q0 : Hid (RowC wy (.slice pa 0 pb) X1) := HXX.out.keep by0
                    have q1 : Hid (RowAt 2 encPage wy (.slice qa 0 qb) X1) := HYY.out.keep by0
                    have q2 : Hid (RowAt 2 encPage wy (.slice da 0 db) X1) := HBX.out.keep by0
                    clear BB sA cc0 cc1 cc2 cc3 cc4 cc5 cc6 cc7 cc8 cc9 zz0 zz1 zz2 zz3 zz4 HXX HYY HBX
                    have cc0 := d0
                    have cc1 := d1
                    have cc2 := d2
                    have cc3 := d3
                    have cc4 := d4
                    have cc5 := d5
                    have cc6 := d6
                    have cc7 := d7
                    have cc8 := d8
                    have cc9 := d9
                    have zz0 := y0
                    have zz1 := y1
                    have zz2 := y2
                    have zz3 := y3
                    have zz4 := y4
                    have HXX := q0
                    have HYY := q1
                    have HBX := q2
                    have BB := BB1
                    have sA := sA1
                    clear BB1 sA1 d0 d1 d2 d3 d4 d5 d6 d7 d8 d9 y0 y1 y2 y3 y4 q0 q1 q2
                    clear by0
                    go_wp2_with fail
                    go_ret
                    exact ⟨rfl, (HV.out _ BB).2.2.2⟩
        · as_aux_lemma =>
            obtain rfl : n = 0 := by
              have h1 : X1 = [] := List.length_eq_zero_iff.1 HL1.out.symm
              have h2 := HX.out.2.1
              rw [h1, paL_stk HP.out.1 (paZ_all HP.out.1 HP.out.2.1).1] at h2
              have h3 := congrArg List.length h2
              rw [List.length_take] at h3
              simp only [List.length_nil, Int.toNat_natCast] at h3
              have h4 : 0 < zn := by rcases Nat.eq_zero_or_pos zn with h | h; · exfalso; exact hz0 (by rw [h]; rfl)
                                     · exact h
              have h5 := stk_len_ge' ls xs (by omega)
              have := HN.out.1
              omega
            obtain rfl : kk = 0 := by omega
            obtain rfl : N1 = 0 := by omega
            obtain rfl : M1 = 0 := by omega
            obtain rfl : O1 = 0 := by omega
            have HE1 : Hid (∀ W, Below A wa W → Calls Tryd.prog 6 #[.agg #[.int .i64 zn, .slice ua m uc], .slice (some ⟨g, 0, none⟩) 0 vc] W fun e w' => ∃ u, e = .returned (.tuple #[.agg #[.int .i64 zn, u], .int .i64 (0 : Nat)]) ∧ OwnPool w' W.heap.size u AL ∧ Below W.heap.size W w') := fun W h => by
              obtain ⟨s1, s2, s3, -⟩ := HSP.out
              have := impl_PoolAll zn (.slice ua m uc) (.slice (some ⟨g, 0, none⟩) 0 vc) xs (ls.take 0) W (HV.out _ h).1.1 (row_take (HV.out _ h).2.1 0 (by omega)) (by rw [← HN.out.2]; omega) (by rw [List.length_take, ← HN.out.1]; omega) (HV.out _ h).2.2.1
              rw [s1, s2, s3] at this
              exact this
            go_upto_region 9 with fail
            have hS : Hid (∀ w', Below wh.heap.size wh w' → Below wh.heap.size wh w' ∧ w'.cell? ⟨P0, 0, none⟩ = some (.int .i64 (zn : Int)) ∧ w'.cell? ⟨P0, 1, none⟩ = some (.slice ua m uc)) := fun w' hn => ⟨hn, (Below.celz hn _ _ _ zz0).trans cc0, (Below.celz hn _ _ _ zz0).trans cc1⟩
            have HBB : Hid (∀ w', Below wh.heap.size wh w' → Below A wa w') := fun w' hn => BB.trans (hn.mono sA)
            go_cut [12, 13] (fun sa sm wx => ∃ ra rb C, sa = .pointer (some ⟨C, 0, none⟩) ∧ sm = .int .i64 (0 : Nat) ∧ BoxU wh wx C zn (.slice ra AL.length rb) AL)
            case first =>
              go_region_held3 (fun w' => Below wh.heap.size wh w' ∧ w'.cell? ⟨P0, 0, none⟩ = some (.int .i64 (zn : Int)) ∧ w'.cell? ⟨P0, 1, none⟩ = some (.slice ua m uc))
                (first | with_reducible exact hS.out _ (Below.refl _ _).drew | (with_reducible exact hS.out _ (keep_below (And.left (by assumption)) tj1)) | (with_reducible exact hS.out _ (Below.alloc (And.left (by assumption)) (Below.size (And.left (by assumption))) _)) | exact hS.out _ (Below.alloc hs1.out hs1.out.size _) | exact hS.out _ (Below.setCell (Below.setCell hs1.out (Nat.le_refl _) _) (Nat.le_refl _) _))
                (first | (go_at_call 6; refine (HE1.out _ (HBB.out _ (And.left (by assumption)))).mono ?_; rintro e w2 ⟨p1, rfl, ogz, tj1⟩; have hs1 : Hid (Below wh.heap.size wh w2) := keep_below (And.left (by assumption)) tj1; obtain ⟨ra, rb, rfl⟩ := ogz.form; first | (have hbx : w2.heap[wh.heap.size]? = some (.cells #[.int .i64 0, .slice none 0 0] 25 (0, 0)) := (by rw [tj1.block _ (by have h0 := tj1.size; (try simp at h0); (first | omega | (simp; done) | (simp; omega)))]; exact new_block _ _); have qb0 : w2.cell? ⟨wh.heap.size, 0, none⟩ = some (.int .i64 0) := (by rw [cell_block hbx]; rfl); have qb1 : w2.cell? ⟨wh.heap.size, 1, none⟩ = some (.slice none 0 0) := (by rw [cell_block hbx]; rfl); have qb2 : ∀ o, w2.frozen? ⟨wh.heap.size, o, none⟩ = false := (fun o => free_block hbx)) | skip))
              all_goals (
                go_wp2_with fail
                go_meet
                first
                  | exact ⟨_, _, _, rfl, rfl, box_last hs1.out ogz (by have h0 := tj1.size; (try simp at h0); (first | omega | (simp; done) | (simp; omega)))⟩
                  | exact ⟨_, _, _, rfl, rfl, box_set hs1.out ogz (Nat.le_refl _) (by have h0 := tj1.size; (try simp at h0); (first | omega | (simp; done) | (simp; omega))) hbx⟩)
            case rest =>
              obtain ⟨ra, rb, P3, rfl, rfl, hbu⟩ := hcut
              generalize wc = wj at *
              obtain ⟨lb, hC0, hblk, og, hap⟩ := hbu
              clear hS HBB hap
              have oP3A : A ≤ P3 := by omega
              have oP30 : P0 < P3 := by have := zz0; omega
              have oP31 : P1 < P3 := by have := zz1; omega
              have oP32 : P2 < P3 := by have := zz2; omega
              have d0 : wj.cell? ⟨P0, 0, none⟩ = some (.int .i64 (zn : Int)) := (Below.celz lb _ _ _ (by omega)).trans cc0
              have d1 : wj.cell? ⟨P0, 1, none⟩ = some (.slice ua m uc) := (Below.celz lb _ _ _ (by omega)).trans cc1
              have d2 : wj.cell? ⟨P1, 0, none⟩ = some (.int .i64 (zn : Int)) := (Below.celz lb _ _ _ (by omega)).trans cc2
              have d3 : wj.cell? ⟨P1, 1, none⟩ = some (.slice pa 0 pb) := (Below.celz lb _ _ _ (by omega)).trans cc3
              have d4 : wj.cell? ⟨P2, 0, none⟩ = some (.int .i64 (zn : Int)) := (Below.celz lb _ _ _ (by omega)).trans cc4
              have d5 : wj.cell? ⟨P2, 1, none⟩ = some (.slice qa 0 qb) := (Below.celz lb _ _ _ (by omega)).trans cc5
              have y0 : P0 < wj.heap.size := by have := Below.size lb; omega
              have y1 : P1 < wj.heap.size := by have := Below.size lb; omega
              have y2 : P2 < wj.heap.size := by have := Below.size lb; omega
              have BB1 : Below A wa wj := BB.trans (lb.mono (by omega))
              have sA1 : A ≤ wj.heap.size := by have := Below.size lb; omega
              have q0 : Hid (RowC wj (.slice pa 0 pb) X1) := HXX.out.keep lb
              have q1 : Hid (RowAt 2 encPage wj (.slice qa 0 qb) X1) := HYY.out.keep lb
              clear BB sA cc0 cc1 cc2 cc3 cc4 cc5 zz0 zz1 zz2 HXX HYY
              have cc0 := d0
              have cc1 := d1
              have cc2 := d2
              have cc3 := d3
              have cc4 := d4
              have cc5 := d5
              have zz0 := y0
              have zz1 := y1
              have zz2 := y2
              have HXX := q0
              have HYY := q1
              have BB := BB1
              have sA := sA1
              clear BB1 sA1 d0 d1 d2 d3 d4 d5 y0 y1 y2 q0 q1
              clear lb
              have cc6 : wj.cell? ⟨P3, 0, none⟩ = some (.int .i64 zn) := by rw [cell_block hblk]; rfl
              have cc7 : wj.cell? ⟨P3, 1, none⟩ = some (.slice ra AL.length rb) := by rw [cell_block hblk]; rfl
              have zz3 : P3 < wj.heap.size := lt_of_block hblk
              clear hC0 hblk
              rw [← HLA.out] at og
              rw [← HLA.out] at cc7
              have HAA : Hid (RowAt 2 encPage wj (.slice ra al rb) AL) := by have := og.row; exact this
              clear og
              have HDV : Hid (∀ W, Below A wa W → RowAt 2 encPage W (.slice (some ⟨g, 0, none⟩) 0 vc) (ls.drop 0)) := fun W h => by have := (HV.out _ h).2.1; simpa using this
              have HE2 : Hid (∀ W, Below A wa W → RowAt 2 encPage W (.slice ra al rb) AL → Calls Tryd.prog 6 #[.agg #[.int .i64 zn, .slice ra al rb], .slice (some ⟨g, 0, none⟩) 0 vc] W fun e w' => ∃ u, e = .returned (.tuple #[.agg #[.int .i64 zn, u], .int .i64 (0 : Nat)]) ∧ OwnPool w' W.heap.size u X1 ∧ Below W.heap.size W w') := fun W h hr => by
                obtain ⟨-, -, -, s1, s2, s3⟩ := HSP.out
                have := impl_PoolAll zn (.slice ra al rb) (.slice (some ⟨g, 0, none⟩) 0 vc) AL (ls.drop 0) W hr (HDV.out _ h) (by rw [← HLA.out]; omega) (by rw [List.length_drop, ← HN.out.1]; omega) (HV.out _ h).2.2.1
                rw [s1, s2, s3] at this
                exact this
              go_upto_region 10 with fail
              have HAK : Hid (∀ w', Below wj.heap.size wj w' → RowAt 2 encPage w' (.slice ra al rb) AL) := fun w' h => HAA.out.keep h
              have hS : Hid (∀ w', Below wj.heap.size wj w' → Below wj.heap.size wj w' ∧ w'.cell? ⟨P3, 0, none⟩ = some (.int .i64 zn) ∧ w'.cell? ⟨P3, 1, none⟩ = some (.slice ra al rb)) := fun w' hn => ⟨hn, (Below.celz hn _ _ _ zz3).trans cc6, (Below.celz hn _ _ _ zz3).trans cc7⟩
              have HBB : Hid (∀ w', Below wj.heap.size wj w' → Below A wa w') := fun w' hn => BB.trans (hn.mono sA)
              go_cut [14, 15] (fun sa sm wx => ∃ da db C, sa = .pointer (some ⟨C, 0, none⟩) ∧ sm = .int .i64 (0 : Nat) ∧ BoxU wj wx C zn (.slice da X1.length db) X1)
              case first =>
                go_region_held3 (fun w' => Below wj.heap.size wj w' ∧ w'.cell? ⟨P3, 0, none⟩ = some (.int .i64 zn) ∧ w'.cell? ⟨P3, 1, none⟩ = some (.slice ra al rb))
                  (first | with_reducible exact hS.out _ (Below.refl _ _).drew | (with_reducible exact hS.out _ (keep_below (And.left (by assumption)) tj1)) | (with_reducible exact hS.out _ (Below.alloc (And.left (by assumption)) (Below.size (And.left (by assumption))) _)) | exact hS.out _ (Below.alloc hs1.out hs1.out.size _) | exact hS.out _ (Below.setCell (Below.setCell hs1.out (Nat.le_refl _) _) (Nat.le_refl _) _))
                  (first | (go_at_call 6; refine (HE2.out _ (HBB.out _ (And.left (by assumption))) (HAK.out _ (And.left (by assumption)))).mono ?_; rintro e w2 ⟨p1, rfl, ogz, tj1⟩; have hs1 : Hid (Below wj.heap.size wj w2) := keep_below (And.left (by assumption)) tj1; obtain ⟨da, db, rfl⟩ := ogz.form; first | (have hbx : w2.heap[wj.heap.size]? = some (.cells #[.int .i64 0, .slice none 0 0] 25 (0, 0)) := (by rw [tj1.block _ (by have h0 := tj1.size; (try simp at h0); (first | omega | (simp; done) | (simp; omega)))]; exact new_block _ _); have qb0 : w2.cell? ⟨wj.heap.size, 0, none⟩ = some (.int .i64 0) := (by rw [cell_block hbx]; rfl); have qb1 : w2.cell? ⟨wj.heap.size, 1, none⟩ = some (.slice none 0 0) := (by rw [cell_block hbx]; rfl); have qb2 : ∀ o, w2.frozen? ⟨wj.heap.size, o, none⟩ = false := (fun o => free_block hbx)) | skip))
                all_goals (
                  go_wp2_with fail
                  go_meet
                  first
                    | exact ⟨_, _, _, rfl, rfl, box_last hs1.out ogz (by have h0 := tj1.size; (try simp at h0); (first | omega | (simp; done) | (simp; omega)))⟩
                    | exact ⟨_, _, _, rfl, rfl, box_set hs1.out ogz (Nat.le_refl _) (by have h0 := tj1.size; (try simp at h0); (first | omega | (simp; done) | (simp; omega))) hbx⟩)
              case rest =>
                obtain ⟨da, db, P4, rfl, rfl, hbu⟩ := hcut
                generalize wc = wk at *
                obtain ⟨lb, hC0, hblk, og, hap⟩ := hbu
                clear hS HBB hap
                have oP4A : A ≤ P4 := by omega
                have oP40 : P0 < P4 := by have := zz0; omega
                have oP41 : P1 < P4 := by have := zz1; omega
                have oP42 : P2 < P4 := by have := zz2; omega
                have oP43 : P3 < P4 := by have := zz3; omega
                have d0 : wk.cell? ⟨P0, 0, none⟩ = some (.int .i64 (zn : Int)) := (Below.celz lb _ _ _ (by omega)).trans cc0
                have d1 : wk.cell? ⟨P0, 1, none⟩ = some (.slice ua m uc) := (Below.celz lb _ _ _ (by omega)).trans cc1
                have d2 : wk.cell? ⟨P1, 0, none⟩ = some (.int .i64 (zn : Int)) := (Below.celz lb _ _ _ (by omega)).trans cc2
                have d3 : wk.cell? ⟨P1, 1, none⟩ = some (.slice pa 0 pb) := (Below.celz lb _ _ _ (by omega)).trans cc3
                have d4 : wk.cell? ⟨P2, 0, none⟩ = some (.int .i64 (zn : Int)) := (Below.celz lb _ _ _ (by omega)).trans cc4
                have d5 : wk.cell? ⟨P2, 1, none⟩ = some (.slice qa 0 qb) := (Below.celz lb _ _ _ (by omega)).trans cc5
                have d6 : wk.cell? ⟨P3, 0, none⟩ = some (.int .i64 zn) := (Below.celz lb _ _ _ (by omega)).trans cc6
                have d7 : wk.cell? ⟨P3, 1, none⟩ = some (.slice ra al rb) := (Below.celz lb _ _ _ (by omega)).trans cc7
                have y0 : P0 < wk.heap.size := by have := Below.size lb; omega
                have y1 : P1 < wk.heap.size := by have := Below.size lb; omega
                have y2 : P2 < wk.heap.size := by have := Below.size lb; omega
                have y3 : P3 < wk.heap.size := by have := Below.size lb; omega
                have BB1 : Below A wa wk := BB.trans (lb.mono (by omega))
                have sA1 : A ≤ wk.heap.size := by have := Below.size lb; omega
                have q0 : Hid (RowC wk (.slice pa 0 pb) X1) := HXX.out.keep lb
                have q1 : Hid (RowAt 2 encPage wk (.slice qa 0 qb) X1) := HYY.out.keep lb
                have q2 : Hid (RowAt 2 encPage wk (.slice ra al rb) AL) := HAA.out.keep lb
                clear BB sA cc0 cc1 cc2 cc3 cc4 cc5 cc6 cc7 zz0 zz1 zz2 zz3 HXX HYY HAA
                have cc0 := d0
                have cc1 := d1
                have cc2 := d2
                have cc3 := d3
                have cc4 := d4
                have cc5 := d5
                have cc6 := d6
                have cc7 := d7
                have zz0 := y0
                have zz1 := y1
                have zz2 := y2
                have zz3 := y3
                have HXX := q0
                have HYY := q1
                have HAA := q2
                have BB := BB1
                have sA := sA1
                clear BB1 sA1 d0 d1 d2 d3 d4 d5 d6 d7 y0 y1 y2 y3 q0 q1 q2
                clear lb
                have cc8 : wk.cell? ⟨P4, 0, none⟩ = some (.int .i64 zn) := by rw [cell_block hblk]; rfl
                have cc9 : wk.cell? ⟨P4, 1, none⟩ = some (.slice da X1.length db) := by rw [cell_block hblk]; rfl
                have zz4 : P4 < wk.heap.size := lt_of_block hblk
                clear hC0 hblk
                rw [← HL1.out] at og
                rw [← HL1.out] at cc9
                clear HAK
                have HBX : Hid (RowAt 2 encPage wk (.slice da 0 db) X1) := by have := og.row; exact this
                clear og HE1 HE2 HDV
                clear HAA
                clear HSP
                go_wp2_with fail
                go_loopw [16, 17] (fun f i wr => ∃ a : Nat, a ≤ 0 ∧ i = .int .i64 a ∧ f = .int .i64 (frs xs ls a : Nat) ∧ Below wk.heap.size wk wr) (fun _ i _ => 0 - (intOf i).toNat)
                case atStart => exact ⟨0, by omega, rfl, rfl, Below.refl _ _⟩
                case round =>
                  obtain ⟨a, ha, rfl, rfl, hbel⟩ := hrel
                  have HBL : Hid (Below wk.heap.size wk wr) := hbel
                  have sg : wk.heap.size ≤ wr.heap.size := hbel.size
                  have hul := frs_le xs ls a
                  obtain ⟨u, hu⟩ : ∃ u, u = frs xs ls a := ⟨_, rfl⟩
                  have HU : Hid (u = frs xs ls a) := hu
                  rw [← hu] at hul ⊢
                  clear hu
                  have d0 : wr.cell? ⟨P0, 0, none⟩ = some (.int .i64 (zn : Int)) := (Below.celz hbel _ _ _ (by omega)).trans cc0
                  have d1 : wr.cell? ⟨P0, 1, none⟩ = some (.slice ua m uc) := (Below.celz hbel _ _ _ (by omega)).trans cc1
                  have d2 : wr.cell? ⟨P1, 0, none⟩ = some (.int .i64 (zn : Int)) := (Below.celz hbel _ _ _ (by omega)).trans cc2
                  have d3 : wr.cell? ⟨P1, 1, none⟩ = some (.slice pa 0 pb) := (Below.celz hbel _ _ _ (by omega)).trans cc3
                  have d4 : wr.cell? ⟨P2, 0, none⟩ = some (.int .i64 (zn : Int)) := (Below.celz hbel _ _ _ (by omega)).trans cc4
                  have d5 : wr.cell? ⟨P2, 1, none⟩ = some (.slice qa 0 qb) := (Below.celz hbel _ _ _ (by omega)).trans cc5
                  have d6 : wr.cell? ⟨P3, 0, none⟩ = some (.int .i64 zn) := (Below.celz hbel _ _ _ (by omega)).trans cc6
                  have d7 : wr.cell? ⟨P3, 1, none⟩ = some (.slice ra al rb) := (Below.celz hbel _ _ _ (by omega)).trans cc7
                  have d8 : wr.cell? ⟨P4, 0, none⟩ = some (.int .i64 zn) := (Below.celz hbel _ _ _ (by omega)).trans cc8
                  have d9 : wr.cell? ⟨P4, 1, none⟩ = some (.slice da 0 db) := (Below.celz hbel _ _ _ (by omega)).trans cc9
                  have y0 : P0 < wr.heap.size := by have := Below.size hbel; omega
                  have y1 : P1 < wr.heap.size := by have := Below.size hbel; omega
                  have y2 : P2 < wr.heap.size := by have := Below.size hbel; omega
                  have y3 : P3 < wr.heap.size := by have := Below.size hbel; omega
                  have y4 : P4 < wr.heap.size := by have := Below.size hbel; omega
                  have BB1 : Below A wa wr := BB.trans (hbel.mono (by omega))
                  have sA1 : A ≤ wr.heap.size := by have := Below.size hbel; omega
                  have q0 : Hid (RowC wr (.slice pa 0 pb) X1) := HXX.out.keep hbel
                  have q1 : Hid (RowAt 2 encPage wr (.slice qa 0 qb) X1) := HYY.out.keep hbel
                  have q2 : Hid (RowAt 2 encPage wr (.slice da 0 db) X1) := HBX.out.keep hbel
                  clear BB sA cc0 cc1 cc2 cc3 cc4 cc5 cc6 cc7 cc8 cc9 zz0 zz1 zz2 zz3 zz4 HXX HYY HBX
                  have cc0 := d0
                  have cc1 := d1
                  have cc2 := d2
                  have cc3 := d3
                  have cc4 := d4
                  have cc5 := d5
                  have cc6 := d6
                  have cc7 := d7
                  have cc8 := d8
                  have cc9 := d9
                  have zz0 := y0
                  have zz1 := y1
                  have zz2 := y2
                  have zz3 := y3
                  have zz4 := y4
                  have HXX := q0
                  have HYY := q1
                  have HBX := q2
                  have BB := BB1
                  have sA := sA1
                  clear BB1 sA1 d0 d1 d2 d3 d4 d5 d6 d7 d8 d9 y0 y1 y2 y3 y4 q0 q1 q2
                  clear hbel
                  by_cases hlt : a < 0
                  · exfalso; omega
                  · obtain rfl : a = 0 := by omega
                    obtain rfl : u = 0 := by omega
                    have HLE : Hid (X1.length ≤ 1048576) := by show X1.length ≤ _; rw [← HL1.out]; omega
                    go_wp2_with fail
                    have CP := impl_PoolOk zn _ X1 _ HXX.out.1 HLE.out (HV.out _ BB).2.2.1
                    rw [HP.out.2.2.1] at CP
                    refine (CP).mono ?_
                    rintro e wx ⟨rfl, bx0⟩
                    have d0 : wx.cell? ⟨P0, 0, none⟩ = some (.int .i64 (zn : Int)) := (Below.celz bx0 _ _ _ (by omega)).trans cc0
                    have d1 : wx.cell? ⟨P0, 1, none⟩ = some (.slice ua m uc) := (Below.celz bx0 _ _ _ (by omega)).trans cc1
                    have d2 : wx.cell? ⟨P1, 0, none⟩ = some (.int .i64 (zn : Int)) := (Below.celz bx0 _ _ _ (by omega)).trans cc2
                    have d3 : wx.cell? ⟨P1, 1, none⟩ = some (.slice pa 0 pb) := (Below.celz bx0 _ _ _ (by omega)).trans cc3
                    have d4 : wx.cell? ⟨P2, 0, none⟩ = some (.int .i64 (zn : Int)) := (Below.celz bx0 _ _ _ (by omega)).trans cc4
                    have d5 : wx.cell? ⟨P2, 1, none⟩ = some (.slice qa 0 qb) := (Below.celz bx0 _ _ _ (by omega)).trans cc5
                    have d6 : wx.cell? ⟨P3, 0, none⟩ = some (.int .i64 zn) := (Below.celz bx0 _ _ _ (by omega)).trans cc6
                    have d7 : wx.cell? ⟨P3, 1, none⟩ = some (.slice ra al rb) := (Below.celz bx0 _ _ _ (by omega)).trans cc7
                    have d8 : wx.cell? ⟨P4, 0, none⟩ = some (.int .i64 zn) := (Below.celz bx0 _ _ _ (by omega)).trans cc8
                    have d9 : wx.cell? ⟨P4, 1, none⟩ = some (.slice da 0 db) := (Below.celz bx0 _ _ _ (by omega)).trans cc9
                    have y0 : P0 < wx.heap.size := by have := Below.size bx0; omega
                    have y1 : P1 < wx.heap.size := by have := Below.size bx0; omega
                    have y2 : P2 < wx.heap.size := by have := Below.size bx0; omega
                    have y3 : P3 < wx.heap.size := by have := Below.size bx0; omega
                    have y4 : P4 < wx.heap.size := by have := Below.size bx0; omega
                    have BB1 : Below A wa wx := BB.trans (bx0.mono (by omega))
                    have sA1 : A ≤ wx.heap.size := by have := Below.size bx0; omega
                    have q0 : Hid (RowC wx (.slice pa 0 pb) X1) := HXX.out.keep bx0
                    have q1 : Hid (RowAt 2 encPage wx (.slice qa 0 qb) X1) := HYY.out.keep bx0
                    have q2 : Hid (RowAt 2 encPage wx (.slice da 0 db) X1) := HBX.out.keep bx0
                    clear BB sA cc0 cc1 cc2 cc3 cc4 cc5 cc6 cc7 cc8 cc9 zz0 zz1 zz2 zz3 zz4 HXX HYY HBX
                    have cc0 := d0
                    have cc1 := d1
                    have cc2 := d2
                    have cc3 := d3
                    have cc4 := d4
                    have cc5 := d5
                    have cc6 := d6
                    have cc7 := d7
                    have cc8 := d8
                    have cc9 := d9
                    have zz0 := y0
                    have zz1 := y1
                    have zz2 := y2
                    have zz3 := y3
                    have zz4 := y4
                    have HXX := q0
                    have HYY := q1
                    have HBX := q2
                    have BB := BB1
                    have sA := sA1
                    clear BB1 sA1 d0 d1 d2 d3 d4 d5 d6 d7 d8 d9 y0 y1 y2 y3 y4 q0 q1 q2
                    clear bx0
                    clear CP
                    go_wp2_with fail
                    refine (impl_PoolSame_same zn _ _ X1 _ HBX.out HXX.out.1 HLE.out).mono ?_
                    rintro e wy ⟨rfl, by0⟩
                    have d0 : wy.cell? ⟨P0, 0, none⟩ = some (.int .i64 (zn : Int)) := (Below.celz by0 _ _ _ (by omega)).trans cc0
                    have d1 : wy.cell? ⟨P0, 1, none⟩ = some (.slice ua m uc) := (Below.celz by0 _ _ _ (by omega)).trans cc1
                    have d2 : wy.cell? ⟨P1, 0, none⟩ = some (.int .i64 (zn : Int)) := (Below.celz by0 _ _ _ (by omega)).trans cc2
                    have d3 : wy.cell? ⟨P1, 1, none⟩ = some (.slice pa 0 pb) := (Below.celz by0 _ _ _ (by omega)).trans cc3
                    have d4 : wy.cell? ⟨P2, 0, none⟩ = some (.int .i64 (zn : Int)) := (Below.celz by0 _ _ _ (by omega)).trans cc4
                    have d5 : wy.cell? ⟨P2, 1, none⟩ = some (.slice qa 0 qb) := (Below.celz by0 _ _ _ (by omega)).trans cc5
                    have d6 : wy.cell? ⟨P3, 0, none⟩ = some (.int .i64 zn) := (Below.celz by0 _ _ _ (by omega)).trans cc6
                    have d7 : wy.cell? ⟨P3, 1, none⟩ = some (.slice ra al rb) := (Below.celz by0 _ _ _ (by omega)).trans cc7
                    have d8 : wy.cell? ⟨P4, 0, none⟩ = some (.int .i64 zn) := (Below.celz by0 _ _ _ (by omega)).trans cc8
                    have d9 : wy.cell? ⟨P4, 1, none⟩ = some (.slice da 0 db) := (Below.celz by0 _ _ _ (by omega)).trans cc9
                    have y0 : P0 < wy.heap.size := by have := Below.size by0; omega
                    have y1 : P1 < wy.heap.size := by have := Below.size by0; omega
                    have y2 : P2 < wy.heap.size := by have := Below.size by0; omega
                    have y3 : P3 < wy.heap.size := by have := Below.size by0; omega
                    have y4 : P4 < wy.heap.size := by have := Below.size by0; omega
                    have BB1 : Below A wa wy := BB.trans (by0.mono (by omega))
                    have sA1 : A ≤ wy.heap.size := by have := Below.size by0; omega
                    have q0 : Hid (RowC wy (.slice pa 0 pb) X1) := HXX.out.keep by0
                    have q1 : Hid (RowAt 2 encPage wy (.slice qa 0 qb) X1) := HYY.out.keep by0
                    have q2 : Hid (RowAt 2 encPage wy (.slice da 0 db) X1) := HBX.out.keep by0
                    clear BB sA cc0 cc1 cc2 cc3 cc4 cc5 cc6 cc7 cc8 cc9 zz0 zz1 zz2 zz3 zz4 HXX HYY HBX
                    have cc0 := d0
                    have cc1 := d1
                    have cc2 := d2
                    have cc3 := d3
                    have cc4 := d4
                    have cc5 := d5
                    have cc6 := d6
                    have cc7 := d7
                    have cc8 := d8
                    have cc9 := d9
                    have zz0 := y0
                    have zz1 := y1
                    have zz2 := y2
                    have zz3 := y3
                    have zz4 := y4
                    have HXX := q0
                    have HYY := q1
                    have HBX := q2
                    have BB := BB1
                    have sA := sA1
                    clear BB1 sA1 d0 d1 d2 d3 d4 d5 d6 d7 d8 d9 y0 y1 y2 y3 y4 q0 q1 q2
                    clear by0
                    go_wp2_with fail
                    go_ret
                    exact ⟨rfl, (HV.out _ BB).2.2.2⟩
    · have hl : ls.all (fun x => pageB x.1 x.2) = true := by
        cases h : ls.all (fun x => pageB x.1 x.2)
        · exfalso
          obtain ⟨h1, h2, h3⟩ := HX.out
          obtain ⟨b1, b2, b3⟩ := paZ_bad (z := zz) (xs := xs) h
          rw [b2] at h2; have := HL1.out; rw [h2] at this; simp at this; exact hxz this
        · rfl
      obtain ⟨g1, g2, g3, g4, g5⟩ := poolB_true.1 hp
      obtain ⟨zn, rfl⟩ := Int.eq_ofNat_of_zero_le g1
      obtain rfl : Z1 = (zn : Int) := by rw [HX.out.1]; exact (paZ_all hp hl).1
      have hzn : zn ≤ 12 := by omega
      have HP : Hid (poolB zn xs = true ∧ ls.all (fun x => pageB x.1 x.2) = true ∧ poolB zn X1 = true ∧ N1 = (allU zn xs ls).2) := ⟨hp, hl, by rw [HX.out.2.1]; exact poolB_pa hp hl, by rw [HX.out.2.2]; exact (paZ_all hp hl).2.2⟩
      obtain ⟨kk, hkk⟩ : ∃ kk : Nat, kk = len1 % (n + 1) := ⟨_, rfl⟩
      have hkn : kk ≤ n := by have := Nat.mod_lt len1 (show 0 < n + 1 by omega); omega
      have hke : (len1 : Int) % ((n : Int) + 1) = (kk : Int) := by rw [hkk]; push_cast; rfl
      obtain ⟨AL, M1, O1, lA, lM, HSP⟩ : ∃ (AL : List (Int × Int)) (M1 O1 : Nat), AL.length ≤ 12 ∧ M1 + O1 = N1 ∧ Hid (paZ zn xs (ls.take kk) = zn ∧ paL zn xs (ls.take kk) = AL ∧ paN zn xs (ls.take kk) = M1 ∧ paZ zn AL (ls.drop kk) = zn ∧ paL zn AL (ls.drop kk) = X1 ∧ paN zn AL (ls.drop kk) = O1) := by
        obtain ⟨s1, s2, s3, s4⟩ := pa_split hp hl kk
        exact ⟨_, _, _, paL_len _ _ _, by rw [HX.out.2.2]; exact s4, s1, rfl, rfl, s2, by rw [HX.out.2.1]; exact s3, rfl⟩
      obtain ⟨al, hal⟩ : ∃ t, t = AL.length := ⟨_, rfl⟩
      have HLA : Hid (al = AL.length) := hal
      rw [← hal] at lA
      clear g4 g5 hp hl hal hkk
      rcases HVA.out with ⟨rfl, rfl, rfl⟩ | ⟨g, rfl, hvc⟩
      · as_aux_lemma =>
          obtain rfl : kk = 0 := by omega
          obtain rfl : N1 = 0 := by omega
          obtain rfl : M1 = 0 := by omega
          obtain rfl : O1 = 0 := by omega
          have HE1 : Hid (∀ W, Below A wa W → Calls Tryd.prog 6 #[.agg #[.int .i64 zn, .slice ua m uc], .slice none 0 0] W fun e w' => ∃ u, e = .returned (.tuple #[.agg #[.int .i64 zn, u], .int .i64 (0 : Nat)]) ∧ OwnPool w' W.heap.size u AL ∧ Below W.heap.size W w') := fun W h => by
            obtain ⟨s1, s2, s3, -⟩ := HSP.out
            have := impl_PoolAll zn (.slice ua m uc) (.slice none 0 0) xs (ls.take 0) W (HV.out _ h).1.1 (row_take (HV.out _ h).2.1 0 (by omega)) (by rw [← HN.out.2]; omega) (by rw [List.length_take, ← HN.out.1]; omega) (HV.out _ h).2.2.1
            rw [s1, s2, s3] at this
            exact this
          go_upto_region 9 with fail
          have hS : Hid (∀ w', Below wh.heap.size wh w' → Below wh.heap.size wh w' ∧ w'.cell? ⟨P0, 0, none⟩ = some (.int .i64 (zn : Int)) ∧ w'.cell? ⟨P0, 1, none⟩ = some (.slice ua m uc)) := fun w' hn => ⟨hn, (Below.celz hn _ _ _ zz0).trans cc0, (Below.celz hn _ _ _ zz0).trans cc1⟩
          have HBB : Hid (∀ w', Below wh.heap.size wh w' → Below A wa w') := fun w' hn => BB.trans (hn.mono sA)
          go_cut [12, 13] (fun sa sm wx => ∃ ra rb C, sa = .pointer (some ⟨C, 0, none⟩) ∧ sm = .int .i64 (0 : Nat) ∧ BoxU wh wx C zn (.slice ra AL.length rb) AL)
          case first =>
            go_region_held3 (fun w' => Below wh.heap.size wh w' ∧ w'.cell? ⟨P0, 0, none⟩ = some (.int .i64 (zn : Int)) ∧ w'.cell? ⟨P0, 1, none⟩ = some (.slice ua m uc))
              (first | with_reducible exact hS.out _ (Below.refl _ _).drew | (with_reducible exact hS.out _ (keep_below (And.left (by assumption)) tj1)) | (with_reducible exact hS.out _ (Below.alloc (And.left (by assumption)) (Below.size (And.left (by assumption))) _)) | exact hS.out _ (Below.alloc hs1.out hs1.out.size _) | exact hS.out _ (Below.setCell (Below.setCell hs1.out (Nat.le_refl _) _) (Nat.le_refl _) _))
              (first | (go_at_call 6; refine (HE1.out _ (HBB.out _ (And.left (by assumption)))).mono ?_; rintro e w2 ⟨p1, rfl, ogz, tj1⟩; have hs1 : Hid (Below wh.heap.size wh w2) := keep_below (And.left (by assumption)) tj1; obtain ⟨ra, rb, rfl⟩ := ogz.form; first | (have hbx : w2.heap[wh.heap.size]? = some (.cells #[.int .i64 0, .slice none 0 0] 25 (0, 0)) := (by rw [tj1.block _ (by have h0 := tj1.size; (try simp at h0); (first | omega | (simp; done) | (simp; omega)))]; exact new_block _ _); have qb0 : w2.cell? ⟨wh.heap.size, 0, none⟩ = some (.int .i64 0) := (by rw [cell_block hbx]; rfl); have qb1 : w2.cell? ⟨wh.heap.size, 1, none⟩ = some (.slice none 0 0) := (by rw [cell_block hbx]; rfl); have qb2 : ∀ o, w2.frozen? ⟨wh.heap.size, o, none⟩ = false := (fun o => free_block hbx)) | skip))
            all_goals (
              go_wp2_with fail
              go_meet
              first
                | exact ⟨_, _, _, rfl, rfl, box_last hs1.out ogz (by have h0 := tj1.size; (try simp at h0); (first | omega | (simp; done) | (simp; omega)))⟩
                | exact ⟨_, _, _, rfl, rfl, box_set hs1.out ogz (Nat.le_refl _) (by have h0 := tj1.size; (try simp at h0); (first | omega | (simp; done) | (simp; omega))) hbx⟩)
          case rest =>
            obtain ⟨ra, rb, P3, rfl, rfl, hbu⟩ := hcut
            generalize wc = wj at *
            obtain ⟨lb, hC0, hblk, og, hap⟩ := hbu
            clear hS HBB hap
            have oP3A : A ≤ P3 := by omega
            have oP30 : P0 < P3 := by have := zz0; omega
            have oP31 : P1 < P3 := by have := zz1; omega
            have oP32 : P2 < P3 := by have := zz2; omega
            have d0 : wj.cell? ⟨P0, 0, none⟩ = some (.int .i64 (zn : Int)) := (Below.celz lb _ _ _ (by omega)).trans cc0
            have d1 : wj.cell? ⟨P0, 1, none⟩ = some (.slice ua m uc) := (Below.celz lb _ _ _ (by omega)).trans cc1
            have d2 : wj.cell? ⟨P1, 0, none⟩ = some (.int .i64 (zn : Int)) := (Below.celz lb _ _ _ (by omega)).trans cc2
            have d3 : wj.cell? ⟨P1, 1, none⟩ = some (.slice pa x1 pb) := (Below.celz lb _ _ _ (by omega)).trans cc3
            have d4 : wj.cell? ⟨P2, 0, none⟩ = some (.int .i64 (zn : Int)) := (Below.celz lb _ _ _ (by omega)).trans cc4
            have d5 : wj.cell? ⟨P2, 1, none⟩ = some (.slice qa x1 qb) := (Below.celz lb _ _ _ (by omega)).trans cc5
            have y0 : P0 < wj.heap.size := by have := Below.size lb; omega
            have y1 : P1 < wj.heap.size := by have := Below.size lb; omega
            have y2 : P2 < wj.heap.size := by have := Below.size lb; omega
            have BB1 : Below A wa wj := BB.trans (lb.mono (by omega))
            have sA1 : A ≤ wj.heap.size := by have := Below.size lb; omega
            have q0 : Hid (RowC wj (.slice pa x1 pb) X1) := HXX.out.keep lb
            have q1 : Hid (RowAt 2 encPage wj (.slice qa x1 qb) X1) := HYY.out.keep lb
            clear BB sA cc0 cc1 cc2 cc3 cc4 cc5 zz0 zz1 zz2 HXX HYY
            have cc0 := d0
            have cc1 := d1
            have cc2 := d2
            have cc3 := d3
            have cc4 := d4
            have cc5 := d5
            have zz0 := y0
            have zz1 := y1
            have zz2 := y2
            have HXX := q0
            have HYY := q1
            have BB := BB1
            have sA := sA1
            clear BB1 sA1 d0 d1 d2 d3 d4 d5 y0 y1 y2 q0 q1
            clear lb
            have cc6 : wj.cell? ⟨P3, 0, none⟩ = some (.int .i64 zn) := by rw [cell_block hblk]; rfl
            have cc7 : wj.cell? ⟨P3, 1, none⟩ = some (.slice ra AL.length rb) := by rw [cell_block hblk]; rfl
            have zz3 : P3 < wj.heap.size := lt_of_block hblk
            clear hC0 hblk
            rw [← HLA.out] at og
            rw [← HLA.out] at cc7
            have HAA : Hid (RowAt 2 encPage wj (.slice ra al rb) AL) := by have := og.row; exact this
            clear og
            have HDV : Hid (∀ W, Below A wa W → RowAt 2 encPage W (.slice none 0 0) (ls.drop 0)) := fun W h => by have := (HV.out _ h).2.1; simpa using this
            have HE2 : Hid (∀ W, Below A wa W → RowAt 2 encPage W (.slice ra al rb) AL → Calls Tryd.prog 6 #[.agg #[.int .i64 zn, .slice ra al rb], .slice none 0 0] W fun e w' => ∃ u, e = .returned (.tuple #[.agg #[.int .i64 zn, u], .int .i64 (0 : Nat)]) ∧ OwnPool w' W.heap.size u X1 ∧ Below W.heap.size W w') := fun W h hr => by
              obtain ⟨-, -, -, s1, s2, s3⟩ := HSP.out
              have := impl_PoolAll zn (.slice ra al rb) (.slice none 0 0) AL (ls.drop 0) W hr (HDV.out _ h) (by rw [← HLA.out]; omega) (by rw [List.length_drop, ← HN.out.1]; omega) (HV.out _ h).2.2.1
              rw [s1, s2, s3] at this
              exact this
            go_upto_region 10 with fail
            have HAK : Hid (∀ w', Below wj.heap.size wj w' → RowAt 2 encPage w' (.slice ra al rb) AL) := fun w' h => HAA.out.keep h
            have hS : Hid (∀ w', Below wj.heap.size wj w' → Below wj.heap.size wj w' ∧ w'.cell? ⟨P3, 0, none⟩ = some (.int .i64 zn) ∧ w'.cell? ⟨P3, 1, none⟩ = some (.slice ra al rb)) := fun w' hn => ⟨hn, (Below.celz hn _ _ _ zz3).trans cc6, (Below.celz hn _ _ _ zz3).trans cc7⟩
            have HBB : Hid (∀ w', Below wj.heap.size wj w' → Below A wa w') := fun w' hn => BB.trans (hn.mono sA)
            go_cut [14, 15] (fun sa sm wx => ∃ da db C, sa = .pointer (some ⟨C, 0, none⟩) ∧ sm = .int .i64 (0 : Nat) ∧ BoxU wj wx C zn (.slice da X1.length db) X1)
            case first =>
              go_region_held3 (fun w' => Below wj.heap.size wj w' ∧ w'.cell? ⟨P3, 0, none⟩ = some (.int .i64 zn) ∧ w'.cell? ⟨P3, 1, none⟩ = some (.slice ra al rb))
                (first | with_reducible exact hS.out _ (Below.refl _ _).drew | (with_reducible exact hS.out _ (keep_below (And.left (by assumption)) tj1)) | (with_reducible exact hS.out _ (Below.alloc (And.left (by assumption)) (Below.size (And.left (by assumption))) _)) | exact hS.out _ (Below.alloc hs1.out hs1.out.size _) | exact hS.out _ (Below.setCell (Below.setCell hs1.out (Nat.le_refl _) _) (Nat.le_refl _) _))
                (first | (go_at_call 6; refine (HE2.out _ (HBB.out _ (And.left (by assumption))) (HAK.out _ (And.left (by assumption)))).mono ?_; rintro e w2 ⟨p1, rfl, ogz, tj1⟩; have hs1 : Hid (Below wj.heap.size wj w2) := keep_below (And.left (by assumption)) tj1; obtain ⟨da, db, rfl⟩ := ogz.form; first | (have hbx : w2.heap[wj.heap.size]? = some (.cells #[.int .i64 0, .slice none 0 0] 25 (0, 0)) := (by rw [tj1.block _ (by have h0 := tj1.size; (try simp at h0); (first | omega | (simp; done) | (simp; omega)))]; exact new_block _ _); have qb0 : w2.cell? ⟨wj.heap.size, 0, none⟩ = some (.int .i64 0) := (by rw [cell_block hbx]; rfl); have qb1 : w2.cell? ⟨wj.heap.size, 1, none⟩ = some (.slice none 0 0) := (by rw [cell_block hbx]; rfl); have qb2 : ∀ o, w2.frozen? ⟨wj.heap.size, o, none⟩ = false := (fun o => free_block hbx)) | skip))
              all_goals (
                go_wp2_with fail
                go_meet
                first
                  | exact ⟨_, _, _, rfl, rfl, box_last hs1.out ogz (by have h0 := tj1.size; (try simp at h0); (first | omega | (simp; done) | (simp; omega)))⟩
                  | exact ⟨_, _, _, rfl, rfl, box_set hs1.out ogz (Nat.le_refl _) (by have h0 := tj1.size; (try simp at h0); (first | omega | (simp; done) | (simp; omega))) hbx⟩)
            case rest =>
              obtain ⟨da, db, P4, rfl, rfl, hbu⟩ := hcut
              generalize wc = wk at *
              obtain ⟨lb, hC0, hblk, og, hap⟩ := hbu
              clear hS HBB hap
              have oP4A : A ≤ P4 := by omega
              have oP40 : P0 < P4 := by have := zz0; omega
              have oP41 : P1 < P4 := by have := zz1; omega
              have oP42 : P2 < P4 := by have := zz2; omega
              have oP43 : P3 < P4 := by have := zz3; omega
              have d0 : wk.cell? ⟨P0, 0, none⟩ = some (.int .i64 (zn : Int)) := (Below.celz lb _ _ _ (by omega)).trans cc0
              have d1 : wk.cell? ⟨P0, 1, none⟩ = some (.slice ua m uc) := (Below.celz lb _ _ _ (by omega)).trans cc1
              have d2 : wk.cell? ⟨P1, 0, none⟩ = some (.int .i64 (zn : Int)) := (Below.celz lb _ _ _ (by omega)).trans cc2
              have d3 : wk.cell? ⟨P1, 1, none⟩ = some (.slice pa x1 pb) := (Below.celz lb _ _ _ (by omega)).trans cc3
              have d4 : wk.cell? ⟨P2, 0, none⟩ = some (.int .i64 (zn : Int)) := (Below.celz lb _ _ _ (by omega)).trans cc4
              have d5 : wk.cell? ⟨P2, 1, none⟩ = some (.slice qa x1 qb) := (Below.celz lb _ _ _ (by omega)).trans cc5
              have d6 : wk.cell? ⟨P3, 0, none⟩ = some (.int .i64 zn) := (Below.celz lb _ _ _ (by omega)).trans cc6
              have d7 : wk.cell? ⟨P3, 1, none⟩ = some (.slice ra al rb) := (Below.celz lb _ _ _ (by omega)).trans cc7
              have y0 : P0 < wk.heap.size := by have := Below.size lb; omega
              have y1 : P1 < wk.heap.size := by have := Below.size lb; omega
              have y2 : P2 < wk.heap.size := by have := Below.size lb; omega
              have y3 : P3 < wk.heap.size := by have := Below.size lb; omega
              have BB1 : Below A wa wk := BB.trans (lb.mono (by omega))
              have sA1 : A ≤ wk.heap.size := by have := Below.size lb; omega
              have q0 : Hid (RowC wk (.slice pa x1 pb) X1) := HXX.out.keep lb
              have q1 : Hid (RowAt 2 encPage wk (.slice qa x1 qb) X1) := HYY.out.keep lb
              have q2 : Hid (RowAt 2 encPage wk (.slice ra al rb) AL) := HAA.out.keep lb
              clear BB sA cc0 cc1 cc2 cc3 cc4 cc5 cc6 cc7 zz0 zz1 zz2 zz3 HXX HYY HAA
              have cc0 := d0
              have cc1 := d1
              have cc2 := d2
              have cc3 := d3
              have cc4 := d4
              have cc5 := d5
              have cc6 := d6
              have cc7 := d7
              have zz0 := y0
              have zz1 := y1
              have zz2 := y2
              have zz3 := y3
              have HXX := q0
              have HYY := q1
              have HAA := q2
              have BB := BB1
              have sA := sA1
              clear BB1 sA1 d0 d1 d2 d3 d4 d5 d6 d7 y0 y1 y2 y3 q0 q1 q2
              clear lb
              have cc8 : wk.cell? ⟨P4, 0, none⟩ = some (.int .i64 zn) := by rw [cell_block hblk]; rfl
              have cc9 : wk.cell? ⟨P4, 1, none⟩ = some (.slice da X1.length db) := by rw [cell_block hblk]; rfl
              have zz4 : P4 < wk.heap.size := lt_of_block hblk
              clear hC0 hblk
              rw [← HL1.out] at og
              rw [← HL1.out] at cc9
              clear HAK
              have HBX : Hid (RowAt 2 encPage wk (.slice da x1 db) X1) := by have := og.row; exact this
              clear og HE1 HE2 HDV
              clear HAA
              clear HSP
              go_wp2_with fail
              go_loopw [16, 17] (fun f i wr => ∃ a : Nat, a ≤ 0 ∧ i = .int .i64 a ∧ f = .int .i64 (frs xs ls a : Nat) ∧ Below wk.heap.size wk wr) (fun _ i _ => 0 - (intOf i).toNat)
              case atStart => exact ⟨0, by omega, rfl, rfl, Below.refl _ _⟩
              case round =>
                obtain ⟨a, ha, rfl, rfl, hbel⟩ := hrel
                have HBL : Hid (Below wk.heap.size wk wr) := hbel
                have sg : wk.heap.size ≤ wr.heap.size := hbel.size
                have hul := frs_le xs ls a
                obtain ⟨u, hu⟩ : ∃ u, u = frs xs ls a := ⟨_, rfl⟩
                have HU : Hid (u = frs xs ls a) := hu
                rw [← hu] at hul ⊢
                clear hu
                have d0 : wr.cell? ⟨P0, 0, none⟩ = some (.int .i64 (zn : Int)) := (Below.celz hbel _ _ _ (by omega)).trans cc0
                have d1 : wr.cell? ⟨P0, 1, none⟩ = some (.slice ua m uc) := (Below.celz hbel _ _ _ (by omega)).trans cc1
                have d2 : wr.cell? ⟨P1, 0, none⟩ = some (.int .i64 (zn : Int)) := (Below.celz hbel _ _ _ (by omega)).trans cc2
                have d3 : wr.cell? ⟨P1, 1, none⟩ = some (.slice pa x1 pb) := (Below.celz hbel _ _ _ (by omega)).trans cc3
                have d4 : wr.cell? ⟨P2, 0, none⟩ = some (.int .i64 (zn : Int)) := (Below.celz hbel _ _ _ (by omega)).trans cc4
                have d5 : wr.cell? ⟨P2, 1, none⟩ = some (.slice qa x1 qb) := (Below.celz hbel _ _ _ (by omega)).trans cc5
                have d6 : wr.cell? ⟨P3, 0, none⟩ = some (.int .i64 zn) := (Below.celz hbel _ _ _ (by omega)).trans cc6
                have d7 : wr.cell? ⟨P3, 1, none⟩ = some (.slice ra al rb) := (Below.celz hbel _ _ _ (by omega)).trans cc7
                have d8 : wr.cell? ⟨P4, 0, none⟩ = some (.int .i64 zn) := (Below.celz hbel _ _ _ (by omega)).trans cc8
                have d9 : wr.cell? ⟨P4, 1, none⟩ = some (.slice da x1 db) := (Below.celz hbel _ _ _ (by omega)).trans cc9
                have y0 : P0 < wr.heap.size := by have := Below.size hbel; omega
                have y1 : P1 < wr.heap.size := by have := Below.size hbel; omega
                have y2 : P2 < wr.heap.size := by have := Below.size hbel; omega
                have y3 : P3 < wr.heap.size := by have := Below.size hbel; omega
                have y4 : P4 < wr.heap.size := by have := Below.size hbel; omega
                have BB1 : Below A wa wr := BB.trans (hbel.mono (by omega))
                have sA1 : A ≤ wr.heap.size := by have := Below.size hbel; omega
                have q0 : Hid (RowC wr (.slice pa x1 pb) X1) := HXX.out.keep hbel
                have q1 : Hid (RowAt 2 encPage wr (.slice qa x1 qb) X1) := HYY.out.keep hbel
                have q2 : Hid (RowAt 2 encPage wr (.slice da x1 db) X1) := HBX.out.keep hbel
                clear BB sA cc0 cc1 cc2 cc3 cc4 cc5 cc6 cc7 cc8 cc9 zz0 zz1 zz2 zz3 zz4 HXX HYY HBX
                have cc0 := d0
                have cc1 := d1
                have cc2 := d2
                have cc3 := d3
                have cc4 := d4
                have cc5 := d5
                have cc6 := d6
                have cc7 := d7
                have cc8 := d8
                have cc9 := d9
                have zz0 := y0
                have zz1 := y1
                have zz2 := y2
                have zz3 := y3
                have zz4 := y4
                have HXX := q0
                have HYY := q1
                have HBX := q2
                have BB := BB1
                have sA := sA1
                clear BB1 sA1 d0 d1 d2 d3 d4 d5 d6 d7 d8 d9 y0 y1 y2 y3 y4 q0 q1 q2
                clear hbel
                by_cases hlt : a < 0
                · exfalso; omega
                · obtain rfl : a = 0 := by omega
                  obtain rfl : u = 0 := by omega
                  have HLE : Hid (X1.length ≤ 1048576) := by show X1.length ≤ _; rw [← HL1.out]; omega
                  go_wp2_with fail
                  have CP := impl_PoolOk zn _ X1 _ HXX.out.1 HLE.out (HV.out _ BB).2.2.1
                  rw [HP.out.2.2.1] at CP
                  refine (CP).mono ?_
                  rintro e wx ⟨rfl, bx0⟩
                  have d0 : wx.cell? ⟨P0, 0, none⟩ = some (.int .i64 (zn : Int)) := (Below.celz bx0 _ _ _ (by omega)).trans cc0
                  have d1 : wx.cell? ⟨P0, 1, none⟩ = some (.slice ua m uc) := (Below.celz bx0 _ _ _ (by omega)).trans cc1
                  have d2 : wx.cell? ⟨P1, 0, none⟩ = some (.int .i64 (zn : Int)) := (Below.celz bx0 _ _ _ (by omega)).trans cc2
                  have d3 : wx.cell? ⟨P1, 1, none⟩ = some (.slice pa x1 pb) := (Below.celz bx0 _ _ _ (by omega)).trans cc3
                  have d4 : wx.cell? ⟨P2, 0, none⟩ = some (.int .i64 (zn : Int)) := (Below.celz bx0 _ _ _ (by omega)).trans cc4
                  have d5 : wx.cell? ⟨P2, 1, none⟩ = some (.slice qa x1 qb) := (Below.celz bx0 _ _ _ (by omega)).trans cc5
                  have d6 : wx.cell? ⟨P3, 0, none⟩ = some (.int .i64 zn) := (Below.celz bx0 _ _ _ (by omega)).trans cc6
                  have d7 : wx.cell? ⟨P3, 1, none⟩ = some (.slice ra al rb) := (Below.celz bx0 _ _ _ (by omega)).trans cc7
                  have d8 : wx.cell? ⟨P4, 0, none⟩ = some (.int .i64 zn) := (Below.celz bx0 _ _ _ (by omega)).trans cc8
                  have d9 : wx.cell? ⟨P4, 1, none⟩ = some (.slice da x1 db) := (Below.celz bx0 _ _ _ (by omega)).trans cc9
                  have y0 : P0 < wx.heap.size := by have := Below.size bx0; omega
                  have y1 : P1 < wx.heap.size := by have := Below.size bx0; omega
                  have y2 : P2 < wx.heap.size := by have := Below.size bx0; omega
                  have y3 : P3 < wx.heap.size := by have := Below.size bx0; omega
                  have y4 : P4 < wx.heap.size := by have := Below.size bx0; omega
                  have BB1 : Below A wa wx := BB.trans (bx0.mono (by omega))
                  have sA1 : A ≤ wx.heap.size := by have := Below.size bx0; omega
                  have q0 : Hid (RowC wx (.slice pa x1 pb) X1) := HXX.out.keep bx0
                  have q1 : Hid (RowAt 2 encPage wx (.slice qa x1 qb) X1) := HYY.out.keep bx0
                  have q2 : Hid (RowAt 2 encPage wx (.slice da x1 db) X1) := HBX.out.keep bx0
                  clear BB sA cc0 cc1 cc2 cc3 cc4 cc5 cc6 cc7 cc8 cc9 zz0 zz1 zz2 zz3 zz4 HXX HYY HBX
                  have cc0 := d0
                  have cc1 := d1
                  have cc2 := d2
                  have cc3 := d3
                  have cc4 := d4
                  have cc5 := d5
                  have cc6 := d6
                  have cc7 := d7
                  have cc8 := d8
                  have cc9 := d9
                  have zz0 := y0
                  have zz1 := y1
                  have zz2 := y2
                  have zz3 := y3
                  have zz4 := y4
                  have HXX := q0
                  have HYY := q1
                  have HBX := q2
                  have BB := BB1
                  have sA := sA1
                  clear BB1 sA1 d0 d1 d2 d3 d4 d5 d6 d7 d8 d9 y0 y1 y2 y3 y4 q0 q1 q2
                  clear bx0
                  clear CP
                  go_wp2_with fail
                  refine (impl_PoolSame_same zn _ _ X1 _ HBX.out HXX.out.1 HLE.out).mono ?_
                  rintro e wy ⟨rfl, by0⟩
                  have d0 : wy.cell? ⟨P0, 0, none⟩ = some (.int .i64 (zn : Int)) := (Below.celz by0 _ _ _ (by omega)).trans cc0
                  have d1 : wy.cell? ⟨P0, 1, none⟩ = some (.slice ua m uc) := (Below.celz by0 _ _ _ (by omega)).trans cc1
                  have d2 : wy.cell? ⟨P1, 0, none⟩ = some (.int .i64 (zn : Int)) := (Below.celz by0 _ _ _ (by omega)).trans cc2
                  have d3 : wy.cell? ⟨P1, 1, none⟩ = some (.slice pa x1 pb) := (Below.celz by0 _ _ _ (by omega)).trans cc3
                  have d4 : wy.cell? ⟨P2, 0, none⟩ = some (.int .i64 (zn : Int)) := (Below.celz by0 _ _ _ (by omega)).trans cc4
                  have d5 : wy.cell? ⟨P2, 1, none⟩ = some (.slice qa x1 qb) := (Below.celz by0 _ _ _ (by omega)).trans cc5
                  have d6 : wy.cell? ⟨P3, 0, none⟩ = some (.int .i64 zn) := (Below.celz by0 _ _ _ (by omega)).trans cc6
                  have d7 : wy.cell? ⟨P3, 1, none⟩ = some (.slice ra al rb) := (Below.celz by0 _ _ _ (by omega)).trans cc7
                  have d8 : wy.cell? ⟨P4, 0, none⟩ = some (.int .i64 zn) := (Below.celz by0 _ _ _ (by omega)).trans cc8
                  have d9 : wy.cell? ⟨P4, 1, none⟩ = some (.slice da x1 db) := (Below.celz by0 _ _ _ (by omega)).trans cc9
                  have y0 : P0 < wy.heap.size := by have := Below.size by0; omega
                  have y1 : P1 < wy.heap.size := by have := Below.size by0; omega
                  have y2 : P2 < wy.heap.size := by have := Below.size by0; omega
                  have y3 : P3 < wy.heap.size := by have := Below.size by0; omega
                  have y4 : P4 < wy.heap.size := by have := Below.size by0; omega
                  have BB1 : Below A wa wy := BB.trans (by0.mono (by omega))
                  have sA1 : A ≤ wy.heap.size := by have := Below.size by0; omega
                  have q0 : Hid (RowC wy (.slice pa x1 pb) X1) := HXX.out.keep by0
                  have q1 : Hid (RowAt 2 encPage wy (.slice qa x1 qb) X1) := HYY.out.keep by0
                  have q2 : Hid (RowAt 2 encPage wy (.slice da x1 db) X1) := HBX.out.keep by0
                  clear BB sA cc0 cc1 cc2 cc3 cc4 cc5 cc6 cc7 cc8 cc9 zz0 zz1 zz2 zz3 zz4 HXX HYY HBX
                  have cc0 := d0
                  have cc1 := d1
                  have cc2 := d2
                  have cc3 := d3
                  have cc4 := d4
                  have cc5 := d5
                  have cc6 := d6
                  have cc7 := d7
                  have cc8 := d8
                  have cc9 := d9
                  have zz0 := y0
                  have zz1 := y1
                  have zz2 := y2
                  have zz3 := y3
                  have zz4 := y4
                  have HXX := q0
                  have HYY := q1
                  have HBX := q2
                  have BB := BB1
                  have sA := sA1
                  clear BB1 sA1 d0 d1 d2 d3 d4 d5 d6 d7 d8 d9 y0 y1 y2 y3 y4 q0 q1 q2
                  clear by0
                  go_wp2_with fail
                  go_ret
                  exact ⟨rfl, (HV.out _ BB).2.2.2⟩
      · as_aux_lemma =>
          have hki : (kk : Int) ≤ (vc : Int) := by omega
          have hkj : (kk : Int) ≤ (n : Int) := by omega
          have HE1 : Hid (∀ W, Below A wa W → Calls Tryd.prog 6 #[.agg #[.int .i64 zn, .slice ua m uc], .slice (some ⟨g, 0, none⟩) kk vc] W fun e w' => ∃ u, e = .returned (.tuple #[.agg #[.int .i64 zn, u], .int .i64 (M1 : Nat)]) ∧ OwnPool w' W.heap.size u AL ∧ Below W.heap.size W w') := fun W h => by
            obtain ⟨s1, s2, s3, -⟩ := HSP.out
            have := impl_PoolAll zn (.slice ua m uc) (.slice (some ⟨g, 0, none⟩) kk vc) xs (ls.take kk) W (HV.out _ h).1.1 (row_take (HV.out _ h).2.1 kk (by omega)) (by rw [← HN.out.2]; omega) (by rw [List.length_take, ← HN.out.1]; omega) (HV.out _ h).2.2.1
            rw [s1, s2, s3] at this
            exact this
          go_upto_region 9 with fail
          simp only [hke]
          have hS : Hid (∀ w', Below wh.heap.size wh w' → Below wh.heap.size wh w' ∧ w'.cell? ⟨P0, 0, none⟩ = some (.int .i64 (zn : Int)) ∧ w'.cell? ⟨P0, 1, none⟩ = some (.slice ua m uc)) := fun w' hn => ⟨hn, (Below.celz hn _ _ _ zz0).trans cc0, (Below.celz hn _ _ _ zz0).trans cc1⟩
          have HBB : Hid (∀ w', Below wh.heap.size wh w' → Below A wa w') := fun w' hn => BB.trans (hn.mono sA)
          go_cut [12, 13] (fun sa sm wx => ∃ ra rb C, sa = .pointer (some ⟨C, 0, none⟩) ∧ sm = .int .i64 (M1 : Nat) ∧ BoxU wh wx C zn (.slice ra AL.length rb) AL)
          case first =>
            go_region_held3 (fun w' => Below wh.heap.size wh w' ∧ w'.cell? ⟨P0, 0, none⟩ = some (.int .i64 (zn : Int)) ∧ w'.cell? ⟨P0, 1, none⟩ = some (.slice ua m uc))
              (first | with_reducible exact hS.out _ (Below.refl _ _).drew | (with_reducible exact hS.out _ (keep_below (And.left (by assumption)) tj1)) | (with_reducible exact hS.out _ (Below.alloc (And.left (by assumption)) (Below.size (And.left (by assumption))) _)) | exact hS.out _ (Below.alloc hs1.out hs1.out.size _) | exact hS.out _ (Below.setCell (Below.setCell hs1.out (Nat.le_refl _) _) (Nat.le_refl _) _))
              (first | (go_at_call 6; refine (HE1.out _ (HBB.out _ (And.left (by assumption)))).mono ?_; rintro e w2 ⟨p1, rfl, ogz, tj1⟩; have hs1 : Hid (Below wh.heap.size wh w2) := keep_below (And.left (by assumption)) tj1; obtain ⟨ra, rb, rfl⟩ := ogz.form; first | (have hbx : w2.heap[wh.heap.size]? = some (.cells #[.int .i64 0, .slice none 0 0] 25 (0, 0)) := (by rw [tj1.block _ (by have h0 := tj1.size; (try simp at h0); (first | omega | (simp; done) | (simp; omega)))]; exact new_block _ _); have qb0 : w2.cell? ⟨wh.heap.size, 0, none⟩ = some (.int .i64 0) := (by rw [cell_block hbx]; rfl); have qb1 : w2.cell? ⟨wh.heap.size, 1, none⟩ = some (.slice none 0 0) := (by rw [cell_block hbx]; rfl); have qb2 : ∀ o, w2.frozen? ⟨wh.heap.size, o, none⟩ = false := (fun o => free_block hbx)) | skip))
            all_goals (
              go_wp2_with fail
              go_meet
              first
                | exact ⟨_, _, _, rfl, rfl, box_last hs1.out ogz (by have h0 := tj1.size; (try simp at h0); (first | omega | (simp; done) | (simp; omega)))⟩
                | exact ⟨_, _, _, rfl, rfl, box_set hs1.out ogz (Nat.le_refl _) (by have h0 := tj1.size; (try simp at h0); (first | omega | (simp; done) | (simp; omega))) hbx⟩)
          case rest =>
            obtain ⟨ra, rb, P3, rfl, rfl, hbu⟩ := hcut
            generalize wc = wj at *
            obtain ⟨lb, hC0, hblk, og, hap⟩ := hbu
            clear hS HBB hap
            have oP3A : A ≤ P3 := by omega
            have oP30 : P0 < P3 := by have := zz0; omega
            have oP31 : P1 < P3 := by have := zz1; omega
            have oP32 : P2 < P3 := by have := zz2; omega
            have d0 : wj.cell? ⟨P0, 0, none⟩ = some (.int .i64 (zn : Int)) := (Below.celz lb _ _ _ (by omega)).trans cc0
            have d1 : wj.cell? ⟨P0, 1, none⟩ = some (.slice ua m uc) := (Below.celz lb _ _ _ (by omega)).trans cc1
            have d2 : wj.cell? ⟨P1, 0, none⟩ = some (.int .i64 (zn : Int)) := (Below.celz lb _ _ _ (by omega)).trans cc2
            have d3 : wj.cell? ⟨P1, 1, none⟩ = some (.slice pa x1 pb) := (Below.celz lb _ _ _ (by omega)).trans cc3
            have d4 : wj.cell? ⟨P2, 0, none⟩ = some (.int .i64 (zn : Int)) := (Below.celz lb _ _ _ (by omega)).trans cc4
            have d5 : wj.cell? ⟨P2, 1, none⟩ = some (.slice qa x1 qb) := (Below.celz lb _ _ _ (by omega)).trans cc5
            have y0 : P0 < wj.heap.size := by have := Below.size lb; omega
            have y1 : P1 < wj.heap.size := by have := Below.size lb; omega
            have y2 : P2 < wj.heap.size := by have := Below.size lb; omega
            have BB1 : Below A wa wj := BB.trans (lb.mono (by omega))
            have sA1 : A ≤ wj.heap.size := by have := Below.size lb; omega
            have q0 : Hid (RowC wj (.slice pa x1 pb) X1) := HXX.out.keep lb
            have q1 : Hid (RowAt 2 encPage wj (.slice qa x1 qb) X1) := HYY.out.keep lb
            clear BB sA cc0 cc1 cc2 cc3 cc4 cc5 zz0 zz1 zz2 HXX HYY
            have cc0 := d0
            have cc1 := d1
            have cc2 := d2
            have cc3 := d3
            have cc4 := d4
            have cc5 := d5
            have zz0 := y0
            have zz1 := y1
            have zz2 := y2
            have HXX := q0
            have HYY := q1
            have BB := BB1
            have sA := sA1
            clear BB1 sA1 d0 d1 d2 d3 d4 d5 y0 y1 y2 q0 q1
            clear lb
            have cc6 : wj.cell? ⟨P3, 0, none⟩ = some (.int .i64 zn) := by rw [cell_block hblk]; rfl
            have cc7 : wj.cell? ⟨P3, 1, none⟩ = some (.slice ra AL.length rb) := by rw [cell_block hblk]; rfl
            have zz3 : P3 < wj.heap.size := lt_of_block hblk
            clear hC0 hblk
            rw [← HLA.out] at og
            rw [← HLA.out] at cc7
            have HAA : Hid (RowAt 2 encPage wj (.slice ra al rb) AL) := by have := og.row; exact this
            clear og
            have HDV : Hid (∀ W, Below A wa W → RowAt 2 encPage W (.slice (if vc = kk then some ⟨g, 0, none⟩ else some ⟨g, kk * 2, none⟩) (n - kk) (vc - kk)) (ls.drop kk)) := fun W h => by
              have h1 := row_drop (HV.out _ h).2.1 HN.out.1 kk (vc - kk)
              split
              · refine .inl ⟨List.drop_eq_nil_iff.2 (by rw [← HN.out.1]; omega), some ⟨g, 0, none⟩, vc - kk, ?_⟩
                have : n - kk = 0 := by omega
                rw [this]
              · rw [Nat.zero_add] at h1; exact h1
            have HE2 : Hid (∀ W, Below A wa W → RowAt 2 encPage W (.slice ra al rb) AL → Calls Tryd.prog 6 #[.agg #[.int .i64 zn, .slice ra al rb], .slice (if vc = kk then some ⟨g, 0, none⟩ else some ⟨g, kk * 2, none⟩) (n - kk) (vc - kk)] W fun e w' => ∃ u, e = .returned (.tuple #[.agg #[.int .i64 zn, u], .int .i64 (O1 : Nat)]) ∧ OwnPool w' W.heap.size u X1 ∧ Below W.heap.size W w') := fun W h hr => by
              obtain ⟨-, -, -, s1, s2, s3⟩ := HSP.out
              have := impl_PoolAll zn (.slice ra al rb) (.slice (if vc = kk then some ⟨g, 0, none⟩ else some ⟨g, kk * 2, none⟩) (n - kk) (vc - kk)) AL (ls.drop kk) W hr (HDV.out _ h) (by rw [← HLA.out]; omega) (by rw [List.length_drop, ← HN.out.1]; omega) (HV.out _ h).2.2.1
              rw [s1, s2, s3] at this
              exact this
            go_upto_region 10 with fail
            have HAK : Hid (∀ w', Below wj.heap.size wj w' → RowAt 2 encPage w' (.slice ra al rb) AL) := fun w' h => HAA.out.keep h
            have hS : Hid (∀ w', Below wj.heap.size wj w' → Below wj.heap.size wj w' ∧ w'.cell? ⟨P3, 0, none⟩ = some (.int .i64 zn) ∧ w'.cell? ⟨P3, 1, none⟩ = some (.slice ra al rb)) := fun w' hn => ⟨hn, (Below.celz hn _ _ _ zz3).trans cc6, (Below.celz hn _ _ _ zz3).trans cc7⟩
            have HBB : Hid (∀ w', Below wj.heap.size wj w' → Below A wa w') := fun w' hn => BB.trans (hn.mono sA)
            go_cut [14, 15] (fun sa sm wx => ∃ da db C, sa = .pointer (some ⟨C, 0, none⟩) ∧ sm = .int .i64 (O1 : Nat) ∧ BoxU wj wx C zn (.slice da X1.length db) X1)
            case first =>
              by_cases hvk : vc = kk
              · have hvt : (vc = kk) = True := eq_true hvk
                have HE3 : Hid (∀ W, Below A wa W → RowAt 2 encPage W (.slice ra al rb) AL → Calls Tryd.prog 6 #[.agg #[.int .i64 zn, .slice ra al rb], .slice (some ⟨g, 0, none⟩) (n - kk) (vc - kk)] W fun e w' => ∃ u, e = .returned (.tuple #[.agg #[.int .i64 zn, u], .int .i64 (O1 : Nat)]) ∧ OwnPool w' W.heap.size u X1 ∧ Below W.heap.size W w') := fun W h hr => by have := HE2.out W h hr; rw [if_pos hvk] at this; exact this
                clear hvk
                go_region_held3 (fun w' => Below wj.heap.size wj w' ∧ w'.cell? ⟨P3, 0, none⟩ = some (.int .i64 zn) ∧ w'.cell? ⟨P3, 1, none⟩ = some (.slice ra al rb))
                  (first | with_reducible exact hS.out _ (Below.refl _ _).drew | (with_reducible exact hS.out _ (keep_below (And.left (by assumption)) tj1)) | (with_reducible exact hS.out _ (Below.alloc (And.left (by assumption)) (Below.size (And.left (by assumption))) _)) | exact hS.out _ (Below.alloc hs1.out hs1.out.size _) | exact hS.out _ (Below.setCell (Below.setCell hs1.out (Nat.le_refl _) _) (Nat.le_refl _) _))
                  (first | (go_at_call 6; refine (HE3.out _ (HBB.out _ (And.left (by assumption))) (HAK.out _ (And.left (by assumption)))).mono ?_; rintro e w2 ⟨p1, rfl, ogz, tj1⟩; have hs1 : Hid (Below wj.heap.size wj w2) := keep_below (And.left (by assumption)) tj1; obtain ⟨da, db, rfl⟩ := ogz.form; first | (have hbx : w2.heap[wj.heap.size]? = some (.cells #[.int .i64 0, .slice none 0 0] 25 (0, 0)) := (by rw [tj1.block _ (by have h0 := tj1.size; (try simp at h0); (first | omega | (simp; done) | (simp; omega)))]; exact new_block _ _); have qb0 : w2.cell? ⟨wj.heap.size, 0, none⟩ = some (.int .i64 0) := (by rw [cell_block hbx]; rfl); have qb1 : w2.cell? ⟨wj.heap.size, 1, none⟩ = some (.slice none 0 0) := (by rw [cell_block hbx]; rfl); have qb2 : ∀ o, w2.frozen? ⟨wj.heap.size, o, none⟩ = false := (fun o => free_block hbx)) | skip))
                all_goals (
                  go_wp2_with fail
                  go_meet
                  first
                    | exact ⟨_, _, _, rfl, rfl, box_last hs1.out ogz (by have h0 := tj1.size; (try simp at h0); (first | omega | (simp; done) | (simp; omega)))⟩
                    | exact ⟨_, _, _, rfl, rfl, box_set hs1.out ogz (Nat.le_refl _) (by have h0 := tj1.size; (try simp at h0); (first | omega | (simp; done) | (simp; omega))) hbx⟩)
              · have hvt : (vc = kk) = False := eq_false hvk
                have HE3 : Hid (∀ W, Below A wa W → RowAt 2 encPage W (.slice ra al rb) AL → Calls Tryd.prog 6 #[.agg #[.int .i64 zn, .slice ra al rb], .slice (some ⟨g, kk * 2, none⟩) (n - kk) (vc - kk)] W fun e w' => ∃ u, e = .returned (.tuple #[.agg #[.int .i64 zn, u], .int .i64 (O1 : Nat)]) ∧ OwnPool w' W.heap.size u X1 ∧ Below W.heap.size W w') := fun W h hr => by have := HE2.out W h hr; rw [if_neg hvk] at this; exact this
                clear hvk
                go_region_held3 (fun w' => Below wj.heap.size wj w' ∧ w'.cell? ⟨P3, 0, none⟩ = some (.int .i64 zn) ∧ w'.cell? ⟨P3, 1, none⟩ = some (.slice ra al rb))
                  (first | with_reducible exact hS.out _ (Below.refl _ _).drew | (with_reducible exact hS.out _ (keep_below (And.left (by assumption)) tj1)) | (with_reducible exact hS.out _ (Below.alloc (And.left (by assumption)) (Below.size (And.left (by assumption))) _)) | exact hS.out _ (Below.alloc hs1.out hs1.out.size _) | exact hS.out _ (Below.setCell (Below.setCell hs1.out (Nat.le_refl _) _) (Nat.le_refl _) _))
                  (first | (go_at_call 6; refine (HE3.out _ (HBB.out _ (And.left (by assumption))) (HAK.out _ (And.left (by assumption)))).mono ?_; rintro e w2 ⟨p1, rfl, ogz, tj1⟩; have hs1 : Hid (Below wj.heap.size wj w2) := keep_below (And.left (by assumption)) tj1; obtain ⟨da, db, rfl⟩ := ogz.form; first | (have hbx : w2.heap[wj.heap.size]? = some (.cells #[.int .i64 0, .slice none 0 0] 25 (0, 0)) := (by rw [tj1.block _ (by have h0 := tj1.size; (try simp at h0); (first | omega | (simp; done) | (simp; omega)))]; exact new_block _ _); have qb0 : w2.cell? ⟨wj.heap.size, 0, none⟩ = some (.int .i64 0) := (by rw [cell_block hbx]; rfl); have qb1 : w2.cell? ⟨wj.heap.size, 1, none⟩ = some (.slice none 0 0) := (by rw [cell_block hbx]; rfl); have qb2 : ∀ o, w2.frozen? ⟨wj.heap.size, o, none⟩ = false := (fun o => free_block hbx)) | skip))
                all_goals (
                  go_wp2_with fail
                  go_meet
                  first
                    | exact ⟨_, _, _, rfl, rfl, box_last hs1.out ogz (by have h0 := tj1.size; (try simp at h0); (first | omega | (simp; done) | (simp; omega)))⟩
                    | exact ⟨_, _, _, rfl, rfl, box_set hs1.out ogz (Nat.le_refl _) (by have h0 := tj1.size; (try simp at h0); (first | omega | (simp; done) | (simp; omega))) hbx⟩)
            case rest =>
              obtain ⟨da, db, P4, rfl, rfl, hbu⟩ := hcut
              generalize wc = wk at *
              obtain ⟨lb, hC0, hblk, og, hap⟩ := hbu
              clear hS HBB hap
              have oP4A : A ≤ P4 := by omega
              have oP40 : P0 < P4 := by have := zz0; omega
              have oP41 : P1 < P4 := by have := zz1; omega
              have oP42 : P2 < P4 := by have := zz2; omega
              have oP43 : P3 < P4 := by have := zz3; omega
              have d0 : wk.cell? ⟨P0, 0, none⟩ = some (.int .i64 (zn : Int)) := (Below.celz lb _ _ _ (by omega)).trans cc0
              have d1 : wk.cell? ⟨P0, 1, none⟩ = some (.slice ua m uc) := (Below.celz lb _ _ _ (by omega)).trans cc1
              have d2 : wk.cell? ⟨P1, 0, none⟩ = some (.int .i64 (zn : Int)) := (Below.celz lb _ _ _ (by omega)).trans cc2
              have d3 : wk.cell? ⟨P1, 1, none⟩ = some (.slice pa x1 pb) := (Below.celz lb _ _ _ (by omega)).trans cc3
              have d4 : wk.cell? ⟨P2, 0, none⟩ = some (.int .i64 (zn : Int)) := (Below.celz lb _ _ _ (by omega)).trans cc4
              have d5 : wk.cell? ⟨P2, 1, none⟩ = some (.slice qa x1 qb) := (Below.celz lb _ _ _ (by omega)).trans cc5
              have d6 : wk.cell? ⟨P3, 0, none⟩ = some (.int .i64 zn) := (Below.celz lb _ _ _ (by omega)).trans cc6
              have d7 : wk.cell? ⟨P3, 1, none⟩ = some (.slice ra al rb) := (Below.celz lb _ _ _ (by omega)).trans cc7
              have y0 : P0 < wk.heap.size := by have := Below.size lb; omega
              have y1 : P1 < wk.heap.size := by have := Below.size lb; omega
              have y2 : P2 < wk.heap.size := by have := Below.size lb; omega
              have y3 : P3 < wk.heap.size := by have := Below.size lb; omega
              have BB1 : Below A wa wk := BB.trans (lb.mono (by omega))
              have sA1 : A ≤ wk.heap.size := by have := Below.size lb; omega
              have q0 : Hid (RowC wk (.slice pa x1 pb) X1) := HXX.out.keep lb
              have q1 : Hid (RowAt 2 encPage wk (.slice qa x1 qb) X1) := HYY.out.keep lb
              have q2 : Hid (RowAt 2 encPage wk (.slice ra al rb) AL) := HAA.out.keep lb
              clear BB sA cc0 cc1 cc2 cc3 cc4 cc5 cc6 cc7 zz0 zz1 zz2 zz3 HXX HYY HAA
              have cc0 := d0
              have cc1 := d1
              have cc2 := d2
              have cc3 := d3
              have cc4 := d4
              have cc5 := d5
              have cc6 := d6
              have cc7 := d7
              have zz0 := y0
              have zz1 := y1
              have zz2 := y2
              have zz3 := y3
              have HXX := q0
              have HYY := q1
              have HAA := q2
              have BB := BB1
              have sA := sA1
              clear BB1 sA1 d0 d1 d2 d3 d4 d5 d6 d7 y0 y1 y2 y3 q0 q1 q2
              clear lb
              have cc8 : wk.cell? ⟨P4, 0, none⟩ = some (.int .i64 zn) := by rw [cell_block hblk]; rfl
              have cc9 : wk.cell? ⟨P4, 1, none⟩ = some (.slice da X1.length db) := by rw [cell_block hblk]; rfl
              have zz4 : P4 < wk.heap.size := lt_of_block hblk
              clear hC0 hblk
              rw [← HL1.out] at og
              rw [← HL1.out] at cc9
              clear HAK
              have HBX : Hid (RowAt 2 encPage wk (.slice da x1 db) X1) := by have := og.row; exact this
              clear og HE1 HE2 HDV
              clear HAA
              clear HSP
              go_wp2_with fail
              obtain ⟨hgA, HROW⟩ : Hid (0 < n → g < A) ∧ Hid (∀ W, Below A wa W → ∀ j x, ls[j]? = some x → W.cell? ⟨g, j * 2, none⟩ = some (.int .i64 x.1) ∧ W.cell? ⟨g, j * 2 + 1, none⟩ = some (.int .i64 x.2)) := by
                rcases (HV.out wa (Below.refl _ _)).2.1 with ⟨hz0, _⟩ | ⟨_, b, off, cap', hv, hb, hc⟩
                · exact ⟨fun h => by have := HN.out.1; rw [hz0] at this; simp at this; omega, fun W h j x hx => by rw [hz0] at hx; simp at hx⟩
                · simp only [Value.slice.injEq, Option.some.injEq, Addr.mk.injEq] at hv
                  obtain ⟨⟨rfl, rfl, -⟩, -, hcc⟩ := hv
                  refine ⟨fun _ => by rw [HA.out]; exact hb, fun W h j x hx => ?_⟩
                  have h1 := (Below.celz h _ _ _ (by rw [HA.out]; exact hb)).trans (hc j x hx 0 _ rfl)
                  have h2 := (Below.celz h _ _ _ (by rw [HA.out]; exact hb)).trans (hc j x hx 1 _ rfl)
                  simp only [Nat.zero_add] at h1 h2
                  exact ⟨h1, h2⟩
              go_loopw [16, 17] (fun f i wr => ∃ a : Nat, a ≤ n ∧ i = .int .i64 a ∧ f = .int .i64 (frs xs ls a : Nat) ∧ Below wk.heap.size wk wr) (fun _ i _ => n - (intOf i).toNat)
              case atStart => exact ⟨0, by omega, rfl, rfl, Below.refl _ _⟩
              case round =>
                obtain ⟨a, ha, rfl, rfl, hbel⟩ := hrel
                have HBL : Hid (Below wk.heap.size wk wr) := hbel
                have sg : wk.heap.size ≤ wr.heap.size := hbel.size
                have hul := frs_le xs ls a
                obtain ⟨u, hu⟩ : ∃ u, u = frs xs ls a := ⟨_, rfl⟩
                have HU : Hid (u = frs xs ls a) := hu
                rw [← hu] at hul ⊢
                clear hu
                have d0 : wr.cell? ⟨P0, 0, none⟩ = some (.int .i64 (zn : Int)) := (Below.celz hbel _ _ _ (by omega)).trans cc0
                have d1 : wr.cell? ⟨P0, 1, none⟩ = some (.slice ua m uc) := (Below.celz hbel _ _ _ (by omega)).trans cc1
                have d2 : wr.cell? ⟨P1, 0, none⟩ = some (.int .i64 (zn : Int)) := (Below.celz hbel _ _ _ (by omega)).trans cc2
                have d3 : wr.cell? ⟨P1, 1, none⟩ = some (.slice pa x1 pb) := (Below.celz hbel _ _ _ (by omega)).trans cc3
                have d4 : wr.cell? ⟨P2, 0, none⟩ = some (.int .i64 (zn : Int)) := (Below.celz hbel _ _ _ (by omega)).trans cc4
                have d5 : wr.cell? ⟨P2, 1, none⟩ = some (.slice qa x1 qb) := (Below.celz hbel _ _ _ (by omega)).trans cc5
                have d6 : wr.cell? ⟨P3, 0, none⟩ = some (.int .i64 zn) := (Below.celz hbel _ _ _ (by omega)).trans cc6
                have d7 : wr.cell? ⟨P3, 1, none⟩ = some (.slice ra al rb) := (Below.celz hbel _ _ _ (by omega)).trans cc7
                have d8 : wr.cell? ⟨P4, 0, none⟩ = some (.int .i64 zn) := (Below.celz hbel _ _ _ (by omega)).trans cc8
                have d9 : wr.cell? ⟨P4, 1, none⟩ = some (.slice da x1 db) := (Below.celz hbel _ _ _ (by omega)).trans cc9
                have y0 : P0 < wr.heap.size := by have := Below.size hbel; omega
                have y1 : P1 < wr.heap.size := by have := Below.size hbel; omega
                have y2 : P2 < wr.heap.size := by have := Below.size hbel; omega
                have y3 : P3 < wr.heap.size := by have := Below.size hbel; omega
                have y4 : P4 < wr.heap.size := by have := Below.size hbel; omega
                have BB1 : Below A wa wr := BB.trans (hbel.mono (by omega))
                have sA1 : A ≤ wr.heap.size := by have := Below.size hbel; omega
                have q0 : Hid (RowC wr (.slice pa x1 pb) X1) := HXX.out.keep hbel
                have q1 : Hid (RowAt 2 encPage wr (.slice qa x1 qb) X1) := HYY.out.keep hbel
                have q2 : Hid (RowAt 2 encPage wr (.slice da x1 db) X1) := HBX.out.keep hbel
                clear BB sA cc0 cc1 cc2 cc3 cc4 cc5 cc6 cc7 cc8 cc9 zz0 zz1 zz2 zz3 zz4 HXX HYY HBX
                have cc0 := d0
                have cc1 := d1
                have cc2 := d2
                have cc3 := d3
                have cc4 := d4
                have cc5 := d5
                have cc6 := d6
                have cc7 := d7
                have cc8 := d8
                have cc9 := d9
                have zz0 := y0
                have zz1 := y1
                have zz2 := y2
                have zz3 := y3
                have zz4 := y4
                have HXX := q0
                have HYY := q1
                have HBX := q2
                have BB := BB1
                have sA := sA1
                clear BB1 sA1 d0 d1 d2 d3 d4 d5 d6 d7 d8 d9 y0 y1 y2 y3 y4 q0 q1 q2
                clear hbel
                by_cases hlt : a < n
                · have hga : g < A := hgA.out (by omega)
                  obtain ⟨⟨x0, y0⟩, hxa⟩ : ∃ x, ls[a]? = some x := ⟨_, List.getElem?_eq_getElem (by rw [← HN.out.1]; exact hlt)⟩
                  have HXA : Hid (ls[a]? = some (x0, y0)) := hxa
                  clear hxa
                  have a0 : (0 : Int) ≤ (a : Int) := by omega
                  have a1 : (a : Int) < (n : Int) := by omega
                  go_wp2_with fail
                  go_loopw [18, 19] (fun s i w5 => ∃ jw5 : Nat, jw5 ≤ a ∧ i = .int .i64 jw5 ∧ s = .bool (hasK ls (x0, y0) jw5) ∧ Below wr.heap.size wr w5) (fun _ i _ => a - (intOf i).toNat)
                  case atStart => exact ⟨0, by omega, rfl, by rw [hasK_zero], Below.refl _ _⟩
                  case round =>
                    rename World => w5
                    obtain ⟨jw5, hjw5, rfl, rfl, hbel⟩ := hrel
                    have HBJ : Hid (Below wr.heap.size wr w5) := hbel
                    have sj : wr.heap.size ≤ w5.heap.size := hbel.size
                    obtain ⟨h, hh⟩ : ∃ h, h = hasK ls (x0, y0) jw5 := ⟨_, rfl⟩
                    have HH : Hid (h = hasK ls (x0, y0) jw5) := hh
                    rw [← hh]
                    clear hh
                    have d0 : w5.cell? ⟨P0, 0, none⟩ = some (.int .i64 (zn : Int)) := (Below.celz hbel _ _ _ (by omega)).trans cc0
                    have d1 : w5.cell? ⟨P0, 1, none⟩ = some (.slice ua m uc) := (Below.celz hbel _ _ _ (by omega)).trans cc1
                    have d2 : w5.cell? ⟨P1, 0, none⟩ = some (.int .i64 (zn : Int)) := (Below.celz hbel _ _ _ (by omega)).trans cc2
                    have d3 : w5.cell? ⟨P1, 1, none⟩ = some (.slice pa x1 pb) := (Below.celz hbel _ _ _ (by omega)).trans cc3
                    have d4 : w5.cell? ⟨P2, 0, none⟩ = some (.int .i64 (zn : Int)) := (Below.celz hbel _ _ _ (by omega)).trans cc4
                    have d5 : w5.cell? ⟨P2, 1, none⟩ = some (.slice qa x1 qb) := (Below.celz hbel _ _ _ (by omega)).trans cc5
                    have d6 : w5.cell? ⟨P3, 0, none⟩ = some (.int .i64 zn) := (Below.celz hbel _ _ _ (by omega)).trans cc6
                    have d7 : w5.cell? ⟨P3, 1, none⟩ = some (.slice ra al rb) := (Below.celz hbel _ _ _ (by omega)).trans cc7
                    have d8 : w5.cell? ⟨P4, 0, none⟩ = some (.int .i64 zn) := (Below.celz hbel _ _ _ (by omega)).trans cc8
                    have d9 : w5.cell? ⟨P4, 1, none⟩ = some (.slice da x1 db) := (Below.celz hbel _ _ _ (by omega)).trans cc9
                    have y0 : P0 < w5.heap.size := by have := Below.size hbel; omega
                    have y1 : P1 < w5.heap.size := by have := Below.size hbel; omega
                    have y2 : P2 < w5.heap.size := by have := Below.size hbel; omega
                    have y3 : P3 < w5.heap.size := by have := Below.size hbel; omega
                    have y4 : P4 < w5.heap.size := by have := Below.size hbel; omega
                    have BB1 : Below A wa w5 := BB.trans (hbel.mono (by omega))
                    have sA1 : A ≤ w5.heap.size := by have := Below.size hbel; omega
                    have q0 : Hid (RowC w5 (.slice pa x1 pb) X1) := HXX.out.keep hbel
                    have q1 : Hid (RowAt 2 encPage w5 (.slice qa x1 qb) X1) := HYY.out.keep hbel
                    have q2 : Hid (RowAt 2 encPage w5 (.slice da x1 db) X1) := HBX.out.keep hbel
                    clear BB sA cc0 cc1 cc2 cc3 cc4 cc5 cc6 cc7 cc8 cc9 zz0 zz1 zz2 zz3 zz4 HXX HYY HBX
                    have cc0 := d0
                    have cc1 := d1
                    have cc2 := d2
                    have cc3 := d3
                    have cc4 := d4
                    have cc5 := d5
                    have cc6 := d6
                    have cc7 := d7
                    have cc8 := d8
                    have cc9 := d9
                    have zz0 := y0
                    have zz1 := y1
                    have zz2 := y2
                    have zz3 := y3
                    have zz4 := y4
                    have HXX := q0
                    have HYY := q1
                    have HBX := q2
                    have BB := BB1
                    have sA := sA1
                    clear BB1 sA1 d0 d1 d2 d3 d4 d5 d6 d7 d8 d9 y0 y1 y2 y3 y4 q0 q1 q2
                    clear hbel
                    by_cases hltw5 : jw5 < a
                    · obtain ⟨⟨m0, m1⟩, hx⟩ : ∃ x, ls[jw5]? = some x := ⟨_, List.getElem?_eq_getElem (by rw [← HN.out.1]; omega)⟩
                      have e0 : w5.cell? ⟨g, jw5 * 2, none⟩ = some (.int .i64 m0) := (HROW.out _ BB _ _ hx).1
                      have e1 : w5.cell? ⟨g, jw5 * 2 + 1, none⟩ = some (.int .i64 m1) := (HROW.out _ BB _ _ hx).2
                      have HXj : Hid (ls[jw5]? = some (m0, m1)) := hx
                      clear hx
                      have f0 : w5.cell? ⟨g, a * 2, none⟩ = some (.int .i64 x0) := (HROW.out _ BB _ _ HXA.out).1
                      have f1 : w5.cell? ⟨g, a * 2 + 1, none⟩ = some (.int .i64 y0) := (HROW.out _ BB _ _ HXA.out).2
                      have zg : g < w5.heap.size := by omega
                      have j0 : (0 : Int) ≤ (jw5 : Int) := by omega
                      have j1 : (jw5 : Int) < (a : Int) := by omega
                      have j2 : (jw5 : Int) < (n : Int) ∨ True := .inr trivial
                      have HS : Hid (hasK ls (x0, y0) (jw5 + 1) = (h || eqB (m0, m1) (x0, y0))) := by rw [HH.out]; exact hasK_step HXj.out
                      have j3 : (jw5 : Int) < (n : Int) := by omega
                      cases h
                      · by_cases e : m0 = x0
                        · subst e
                          by_cases e2 : m1 = y0
                          · subst e2
                            have HE : Hid (eqB (m0, m1) (m0, m1) = true) := eqB_true.2 rfl
                            go_wp2_with fail
                            refine wp_region_after (by kernel_rfl) (by kernel_rfl) ?_
                            intro hne hac
                            repeat (go_big_quiet_step (fail))
                            refine wpQuiet_nil ?_
                            rintro _ ⟨p, rfl⟩
                            have HB2 : Hid (Below wr.heap.size wr p.w) := HBJ.out.trans (p.bel.mono sj)
                            have bq : Below w5.heap.size w5 p.w := p.bel
                            clear hac hne
                            generalize p.w = wq at *
                            clear bq
                            go_wp2_with fail
                            go_roundw
                            case rel => exact ⟨jw5 + 1, by omega, by go_num, by rw [HS.out, HE.out]; rfl, HB2.out⟩
                            case measure => simp [intOf]; omega
                          · have d0 : (m1 == y0) = false := beq_eq_false_iff_ne.2 e2
                            have d1 : decide (m1 = y0) = false := by simpa using e2
                            have HE : Hid (eqB (m0, m1) (m0, y0) = false) := by show _ = _; rw [eqB_false]; simp [e2]
                            clear e2
                            go_wp2_with fail
                            refine wp_region_after (by kernel_rfl) (by kernel_rfl) ?_
                            intro hne hac
                            repeat (go_big_quiet_step (fail))
                            refine wpQuiet_nil ?_
                            rintro _ ⟨p, rfl⟩
                            have HB2 : Hid (Below wr.heap.size wr p.w) := HBJ.out.trans (p.bel.mono sj)
                            have bq : Below w5.heap.size w5 p.w := p.bel
                            clear hac hne
                            generalize p.w = wq at *
                            clear bq
                            go_wp2_with fail
                            go_roundw
                            case rel => exact ⟨jw5 + 1, by omega, by go_num, by rw [HS.out, HE.out]; rfl, HB2.out⟩
                            case measure => simp [intOf]; omega
                        · have d0 : (m0 == x0) = false := beq_eq_false_iff_ne.2 e
                          have d1 : decide (m0 = x0) = false := by simpa using e
                          have HE : Hid (eqB (m0, m1) (x0, y0) = false) := by show _ = _; rw [eqB_false]; simp [e]
                          clear e
                          go_wp2_with fail
                          refine wp_region_after (by kernel_rfl) (by kernel_rfl) ?_
                          intro hne hac
                          repeat (go_big_quiet_step (fail))
                          refine wpQuiet_nil ?_
                          rintro _ ⟨p, rfl⟩
                          have HB2 : Hid (Below wr.heap.size wr p.w) := HBJ.out.trans (p.bel.mono sj)
                          have bq : Below w5.heap.size w5 p.w := p.bel
                          clear hac hne
                          generalize p.w = wq at *
                          clear bq
                          go_wp2_with fail
                          go_roundw
                          case rel => exact ⟨jw5 + 1, by omega, by go_num, by rw [HS.out, HE.out]; rfl, HB2.out⟩
                          case measure => simp [intOf]; omega
                      · go_wp2_with fail
                        refine wp_region_after (by kernel_rfl) (by kernel_rfl) ?_
                        intro hne hac
                        repeat (go_big_quiet_step (fail))
                        refine wpQuiet_nil ?_
                        rintro _ ⟨p, rfl⟩
                        have HB2 : Hid (Below wr.heap.size wr p.w) := HBJ.out.trans (p.bel.mono sj)
                        have bq : Below w5.heap.size w5 p.w := p.bel
                        clear hac hne
                        generalize p.w = wq at *
                        clear bq
                        go_wp2_with fail
                        go_roundw
                        case rel => exact ⟨jw5 + 1, by omega, by go_num, by rw [HS.out]; rfl, HB2.out⟩
                        case measure => simp [intOf]; omega
                    · have hjbw5 : jw5 = a := by omega
                      have HB5 : Hid (Below wr.heap.size wr w5) := HBJ
                      have s5 : wr.heap.size ≤ w5.heap.size := sj
                      have HH1 : Hid (h = hasK ls (x0, y0) a) := by rw [← hjbw5]; exact HH
                      have hja : a = jw5 := hjbw5.symm
                      clear HH hjbw5
                      subst hja
                      clear HBJ sj hltw5
                      rw [HH1.out]
                      go_wp2_with fail
                      go_loopw [18, 20] (fun s i w6 => ∃ jw6 : Nat, jw6 ≤ m ∧ i = .int .i64 jw6 ∧ s = .bool ((hasK ls (x0, y0) a || hasK xs (x0, y0) jw6)) ∧ Below w5.heap.size w5 w6) (fun _ i _ => m - (intOf i).toNat)
                      case atStart => exact ⟨0, by omega, rfl, by rw [hasK_zero]; simp, Below.refl _ _⟩
                      case round =>
                        rename World => w6
                        obtain ⟨jw6, hjw6, rfl, rfl, hbel⟩ := hrel
                        have HBJ : Hid (Below w5.heap.size w5 w6) := hbel
                        have sj : w5.heap.size ≤ w6.heap.size := hbel.size
                        obtain ⟨h, hh⟩ : ∃ h, h = (hasK ls (x0, y0) a || hasK xs (x0, y0) jw6) := ⟨_, rfl⟩
                        have HH : Hid (h = (hasK ls (x0, y0) a || hasK xs (x0, y0) jw6)) := hh
                        rw [← hh]
                        clear hh
                        have d0 : w6.cell? ⟨P0, 0, none⟩ = some (.int .i64 (zn : Int)) := (Below.celz hbel _ _ _ (by omega)).trans cc0
                        have d1 : w6.cell? ⟨P0, 1, none⟩ = some (.slice ua m uc) := (Below.celz hbel _ _ _ (by omega)).trans cc1
                        have d2 : w6.cell? ⟨P1, 0, none⟩ = some (.int .i64 (zn : Int)) := (Below.celz hbel _ _ _ (by omega)).trans cc2
                        have d3 : w6.cell? ⟨P1, 1, none⟩ = some (.slice pa x1 pb) := (Below.celz hbel _ _ _ (by omega)).trans cc3
                        have d4 : w6.cell? ⟨P2, 0, none⟩ = some (.int .i64 (zn : Int)) := (Below.celz hbel _ _ _ (by omega)).trans cc4
                        have d5 : w6.cell? ⟨P2, 1, none⟩ = some (.slice qa x1 qb) := (Below.celz hbel _ _ _ (by omega)).trans cc5
                        have d6 : w6.cell? ⟨P3, 0, none⟩ = some (.int .i64 zn) := (Below.celz hbel _ _ _ (by omega)).trans cc6
                        have d7 : w6.cell? ⟨P3, 1, none⟩ = some (.slice ra al rb) := (Below.celz hbel _ _ _ (by omega)).trans cc7
                        have d8 : w6.cell? ⟨P4, 0, none⟩ = some (.int .i64 zn) := (Below.celz hbel _ _ _ (by omega)).trans cc8
                        have d9 : w6.cell? ⟨P4, 1, none⟩ = some (.slice da x1 db) := (Below.celz hbel _ _ _ (by omega)).trans cc9
                        have y0 : P0 < w6.heap.size := by have := Below.size hbel; omega
                        have y1 : P1 < w6.heap.size := by have := Below.size hbel; omega
                        have y2 : P2 < w6.heap.size := by have := Below.size hbel; omega
                        have y3 : P3 < w6.heap.size := by have := Below.size hbel; omega
                        have y4 : P4 < w6.heap.size := by have := Below.size hbel; omega
                        have BB1 : Below A wa w6 := BB.trans (hbel.mono (by omega))
                        have sA1 : A ≤ w6.heap.size := by have := Below.size hbel; omega
                        have q0 : Hid (RowC w6 (.slice pa x1 pb) X1) := HXX.out.keep hbel
                        have q1 : Hid (RowAt 2 encPage w6 (.slice qa x1 qb) X1) := HYY.out.keep hbel
                        have q2 : Hid (RowAt 2 encPage w6 (.slice da x1 db) X1) := HBX.out.keep hbel
                        clear BB sA cc0 cc1 cc2 cc3 cc4 cc5 cc6 cc7 cc8 cc9 zz0 zz1 zz2 zz3 zz4 HXX HYY HBX
                        have cc0 := d0
                        have cc1 := d1
                        have cc2 := d2
                        have cc3 := d3
                        have cc4 := d4
                        have cc5 := d5
                        have cc6 := d6
                        have cc7 := d7
                        have cc8 := d8
                        have cc9 := d9
                        have zz0 := y0
                        have zz1 := y1
                        have zz2 := y2
                        have zz3 := y3
                        have zz4 := y4
                        have HXX := q0
                        have HYY := q1
                        have HBX := q2
                        have BB := BB1
                        have sA := sA1
                        clear BB1 sA1 d0 d1 d2 d3 d4 d5 d6 d7 d8 d9 y0 y1 y2 y3 y4 q0 q1 q2
                        clear hbel
                        by_cases hltw6 : jw6 < m
                        · rcases (HV.out wa (Below.refl _ _)).1.1 with ⟨hz0, _⟩ | ⟨_, bx, ofx, cap', hv, hb, hc⟩
                          · exfalso; have := HN.out.2; rw [hz0] at this; simp at this; omega
                          simp only [Value.slice.injEq] at hv
                          obtain ⟨rfl, -, hcc⟩ := hv
                          subst hcc
                          have HROX : Hid (∀ W, Below A wa W → ∀ j x, xs[j]? = some x → W.cell? ⟨bx, ofx + j * 2, none⟩ = some (.int .i64 x.1) ∧ W.cell? ⟨bx, ofx + j * 2 + 1, none⟩ = some (.int .i64 x.2)) := fun W h j x hx => ⟨(Below.celz h _ _ _ (by rw [HA.out]; exact hb)).trans (hc j x hx 0 _ rfl), (Below.celz h _ _ _ (by rw [HA.out]; exact hb)).trans (hc j x hx 1 _ rfl)⟩
                          have hbxA : bx < A := by rw [HA.out]; exact hb
                          clear hc hb
                          obtain ⟨⟨m0, m1⟩, hx⟩ : ∃ x, xs[jw6]? = some x := ⟨_, List.getElem?_eq_getElem (by rw [← HN.out.2]; omega)⟩
                          have e0 : w6.cell? ⟨bx, ofx + jw6 * 2, none⟩ = some (.int .i64 m0) := (HROX.out _ BB _ _ hx).1
                          have e1 : w6.cell? ⟨bx, ofx + jw6 * 2 + 1, none⟩ = some (.int .i64 m1) := (HROX.out _ BB _ _ hx).2
                          have HXj : Hid (xs[jw6]? = some (m0, m1)) := hx
                          have ze : bx < w6.heap.size := by omega
                          clear hx
                          have f0 : w6.cell? ⟨g, a * 2, none⟩ = some (.int .i64 x0) := (HROW.out _ BB _ _ HXA.out).1
                          have f1 : w6.cell? ⟨g, a * 2 + 1, none⟩ = some (.int .i64 y0) := (HROW.out _ BB _ _ HXA.out).2
                          have zg : g < w6.heap.size := by omega
                          have j0 : (0 : Int) ≤ (jw6 : Int) := by omega
                          have j1 : (jw6 : Int) < (m : Int) := by omega
                          have j2 : (jw6 : Int) < (n : Int) ∨ True := .inr trivial
                          have HS : Hid ((hasK ls (x0, y0) a || hasK xs (x0, y0) (jw6 + 1)) = (h || eqB (m0, m1) (x0, y0))) := by rw [HH.out]; exact (congrArg (fun t => hasK ls (x0, y0) a || t) (hasK_step HXj.out)).trans (Bool.or_assoc _ _ _).symm
                          cases h
                          · by_cases e : m0 = x0
                            · subst e
                              by_cases e2 : m1 = y0
                              · subst e2
                                have HE : Hid (eqB (m0, m1) (m0, m1) = true) := eqB_true.2 rfl
                                go_wp2_with fail
                                refine wp_region_after (by kernel_rfl) (by kernel_rfl) ?_
                                intro hne hac
                                repeat (go_big_quiet_step (fail))
                                refine wpQuiet_nil ?_
                                rintro _ ⟨p, rfl⟩
                                have HB2 : Hid (Below w5.heap.size w5 p.w) := HBJ.out.trans (p.bel.mono sj)
                                have bq : Below w6.heap.size w6 p.w := p.bel
                                clear hac hne
                                generalize p.w = wq at *
                                clear bq
                                go_wp2_with fail
                                go_roundw
                                case rel => exact ⟨jw6 + 1, by omega, by go_num, by rw [HS.out, HE.out]; rfl, HB2.out⟩
                                case measure => simp [intOf]; omega
                              · have d0 : (m1 == y0) = false := beq_eq_false_iff_ne.2 e2
                                have d1 : decide (m1 = y0) = false := by simpa using e2
                                have HE : Hid (eqB (m0, m1) (m0, y0) = false) := by show _ = _; rw [eqB_false]; simp [e2]
                                clear e2
                                go_wp2_with fail
                                refine wp_region_after (by kernel_rfl) (by kernel_rfl) ?_
                                intro hne hac
                                repeat (go_big_quiet_step (fail))
                                refine wpQuiet_nil ?_
                                rintro _ ⟨p, rfl⟩
                                have HB2 : Hid (Below w5.heap.size w5 p.w) := HBJ.out.trans (p.bel.mono sj)
                                have bq : Below w6.heap.size w6 p.w := p.bel
                                clear hac hne
                                generalize p.w = wq at *
                                clear bq
                                go_wp2_with fail
                                go_roundw
                                case rel => exact ⟨jw6 + 1, by omega, by go_num, by rw [HS.out, HE.out]; rfl, HB2.out⟩
                                case measure => simp [intOf]; omega
                            · have d0 : (m0 == x0) = false := beq_eq_false_iff_ne.2 e
                              have d1 : decide (m0 = x0) = false := by simpa using e
                              have HE : Hid (eqB (m0, m1) (x0, y0) = false) := by show _ = _; rw [eqB_false]; simp [e]
                              clear e
                              go_wp2_with fail
                              refine wp_region_after (by kernel_rfl) (by kernel_rfl) ?_
                              intro hne hac
                              repeat (go_big_quiet_step (fail))
                              refine wpQuiet_nil ?_
                              rintro _ ⟨p, rfl⟩
                              have HB2 : Hid (Below w5.heap.size w5 p.w) := HBJ.out.trans (p.bel.mono sj)
                              have bq : Below w6.heap.size w6 p.w := p.bel
                              clear hac hne
                              generalize p.w = wq at *
                              clear bq
                              go_wp2_with fail
                              go_roundw
                              case rel => exact ⟨jw6 + 1, by omega, by go_num, by rw [HS.out, HE.out]; rfl, HB2.out⟩
                              case measure => simp [intOf]; omega
                          · go_wp2_with fail
                            refine wp_region_after (by kernel_rfl) (by kernel_rfl) ?_
                            intro hne hac
                            repeat (go_big_quiet_step (fail))
                            refine wpQuiet_nil ?_
                            rintro _ ⟨p, rfl⟩
                            have HB2 : Hid (Below w5.heap.size w5 p.w) := HBJ.out.trans (p.bel.mono sj)
                            have bq : Below w6.heap.size w6 p.w := p.bel
                            clear hac hne
                            generalize p.w = wq at *
                            clear bq
                            go_wp2_with fail
                            go_roundw
                            case rel => exact ⟨jw6 + 1, by omega, by go_num, by rw [HS.out]; rfl, HB2.out⟩
                            case measure => simp [intOf]; omega
                        · have hjbw6 : jw6 = m := by omega
                          have HST : Hid (frs xs ls (a + 1) = u + if h then 0 else 1) := by rw [HU.out, HH.out, hjbw6, HN.out.2]; exact frs_step HXA.out
                          have hjm : m = jw6 := hjbw6.symm
                          clear HH hjbw6
                          subst hjm
                          cases h
                          · go_wp2_with fail
                            go_roundw
                            case rel => exact ⟨a + 1, by omega, by go_num, by rw [HST.out]; first | rfl | go_num, (HBL.out.trans (HB5.out.mono sg)).trans (HBJ.out.mono (Nat.le_trans sg s5))⟩
                            case measure => simp [intOf]; omega
                          · go_wp2_with fail
                            go_roundw
                            case rel => exact ⟨a + 1, by omega, by go_num, by rw [HST.out]; first | rfl | go_num, (HBL.out.trans (HB5.out.mono sg)).trans (HBJ.out.mono (Nat.le_trans sg s5))⟩
                            case measure => simp [intOf]; omega
                · have hna : n = a := by omega
                  subst hna
                  have hfr : u ≤ N1 := by
                    have := frs_miss zn xs ls ls.length (Nat.le_refl _)
                    rw [List.take_length, ← HN.out.1] at this
                    have h2 := HP.out.2.2.2
                    rw [HU.out, h2]
                    exact this
                  have HLE : Hid (X1.length ≤ 1048576) := by show X1.length ≤ _; rw [← HL1.out]; omega
                  have hfi : (u : Int) ≤ ((N1 : Nat) : Int) := by omega
                  have hmo : (M1 : Int) + (O1 : Int) = (N1 : Int) := by omega
                  have hnn : (N1 : Int) ≤ (n : Int) := by omega
                  go_wp2_with fail
                  have CP := impl_PoolOk zn _ X1 _ HXX.out.1 HLE.out (HV.out _ BB).2.2.1
                  rw [HP.out.2.2.1] at CP
                  refine (CP).mono ?_
                  rintro e wx ⟨rfl, bx0⟩
                  have d0 : wx.cell? ⟨P0, 0, none⟩ = some (.int .i64 (zn : Int)) := (Below.celz bx0 _ _ _ (by omega)).trans cc0
                  have d1 : wx.cell? ⟨P0, 1, none⟩ = some (.slice ua m uc) := (Below.celz bx0 _ _ _ (by omega)).trans cc1
                  have d2 : wx.cell? ⟨P1, 0, none⟩ = some (.int .i64 (zn : Int)) := (Below.celz bx0 _ _ _ (by omega)).trans cc2
                  have d3 : wx.cell? ⟨P1, 1, none⟩ = some (.slice pa x1 pb) := (Below.celz bx0 _ _ _ (by omega)).trans cc3
                  have d4 : wx.cell? ⟨P2, 0, none⟩ = some (.int .i64 (zn : Int)) := (Below.celz bx0 _ _ _ (by omega)).trans cc4
                  have d5 : wx.cell? ⟨P2, 1, none⟩ = some (.slice qa x1 qb) := (Below.celz bx0 _ _ _ (by omega)).trans cc5
                  have d6 : wx.cell? ⟨P3, 0, none⟩ = some (.int .i64 zn) := (Below.celz bx0 _ _ _ (by omega)).trans cc6
                  have d7 : wx.cell? ⟨P3, 1, none⟩ = some (.slice ra al rb) := (Below.celz bx0 _ _ _ (by omega)).trans cc7
                  have d8 : wx.cell? ⟨P4, 0, none⟩ = some (.int .i64 zn) := (Below.celz bx0 _ _ _ (by omega)).trans cc8
                  have d9 : wx.cell? ⟨P4, 1, none⟩ = some (.slice da x1 db) := (Below.celz bx0 _ _ _ (by omega)).trans cc9
                  have y0 : P0 < wx.heap.size := by have := Below.size bx0; omega
                  have y1 : P1 < wx.heap.size := by have := Below.size bx0; omega
                  have y2 : P2 < wx.heap.size := by have := Below.size bx0; omega
                  have y3 : P3 < wx.heap.size := by have := Below.size bx0; omega
                  have y4 : P4 < wx.heap.size := by have := Below.size bx0; omega
                  have BB1 : Below A wa wx := BB.trans (bx0.mono (by omega))
                  have sA1 : A ≤ wx.heap.size := by have := Below.size bx0; omega
                  have q0 : Hid (RowC wx (.slice pa x1 pb) X1) := HXX.out.keep bx0
                  have q1 : Hid (RowAt 2 encPage wx (.slice qa x1 qb) X1) := HYY.out.keep bx0
                  have q2 : Hid (RowAt 2 encPage wx (.slice da x1 db) X1) := HBX.out.keep bx0
                  clear BB sA cc0 cc1 cc2 cc3 cc4 cc5 cc6 cc7 cc8 cc9 zz0 zz1 zz2 zz3 zz4 HXX HYY HBX
                  have cc0 := d0
                  have cc1 := d1
                  have cc2 := d2
                  have cc3 := d3
                  have cc4 := d4
                  have cc5 := d5
                  have cc6 := d6
                  have cc7 := d7
                  have cc8 := d8
                  have cc9 := d9
                  have zz0 := y0
                  have zz1 := y1
                  have zz2 := y2
                  have zz3 := y3
                  have zz4 := y4
                  have HXX := q0
                  have HYY := q1
                  have HBX := q2
                  have BB := BB1
                  have sA := sA1
                  clear BB1 sA1 d0 d1 d2 d3 d4 d5 d6 d7 d8 d9 y0 y1 y2 y3 y4 q0 q1 q2
                  clear bx0
                  clear CP
                  go_wp2_with fail
                  refine (impl_PoolSame_same zn _ _ X1 _ HBX.out HXX.out.1 HLE.out).mono ?_
                  rintro e wy ⟨rfl, by0⟩
                  have d0 : wy.cell? ⟨P0, 0, none⟩ = some (.int .i64 (zn : Int)) := (Below.celz by0 _ _ _ (by omega)).trans cc0
                  have d1 : wy.cell? ⟨P0, 1, none⟩ = some (.slice ua m uc) := (Below.celz by0 _ _ _ (by omega)).trans cc1
                  have d2 : wy.cell? ⟨P1, 0, none⟩ = some (.int .i64 (zn : Int)) := (Below.celz by0 _ _ _ (by omega)).trans cc2
                  have d3 : wy.cell? ⟨P1, 1, none⟩ = some (.slice pa x1 pb) := (Below.celz by0 _ _ _ (by omega)).trans cc3
                  have d4 : wy.cell? ⟨P2, 0, none⟩ = some (.int .i64 (zn : Int)) := (Below.celz by0 _ _ _ (by omega)).trans cc4
                  have d5 : wy.cell? ⟨P2, 1, none⟩ = some (.slice qa x1 qb) := (Below.celz by0 _ _ _ (by omega)).trans cc5
                  have d6 : wy.cell? ⟨P3, 0, none⟩ = some (.int .i64 zn) := (Below.celz by0 _ _ _ (by omega)).trans cc6
                  have d7 : wy.cell? ⟨P3, 1, none⟩ = some (.slice ra al rb) := (Below.celz by0 _ _ _ (by omega)).trans cc7
                  have d8 : wy.cell? ⟨P4, 0, none⟩ = some (.int .i64 zn) := (Below.celz by0 _ _ _ (by omega)).trans cc8
                  have d9 : wy.cell? ⟨P4, 1, none⟩ = some (.slice da x1 db) := (Below.celz by0 _ _ _ (by omega)).trans cc9
                  have y0 : P0 < wy.heap.size := by have := Below.size by0; omega
                  have y1 : P1 < wy.heap.size := by have := Below.size by0; omega
                  have y2 : P2 < wy.heap.size := by have := Below.size by0; omega
                  have y3 : P3 < wy.heap.size := by have := Below.size by0; omega
                  have y4 : P4 < wy.heap.size := by have := Below.size by0; omega
                  have BB1 : Below A wa wy := BB.trans (by0.mono (by omega))
                  have sA1 : A ≤ wy.heap.size := by have := Below.size by0; omega
                  have q0 : Hid (RowC wy (.slice pa x1 pb) X1) := HXX.out.keep by0
                  have q1 : Hid (RowAt 2 encPage wy (.slice qa x1 qb) X1) := HYY.out.keep by0
                  have q2 : Hid (RowAt 2 encPage wy (.slice da x1 db) X1) := HBX.out.keep by0
                  clear BB sA cc0 cc1 cc2 cc3 cc4 cc5 cc6 cc7 cc8 cc9 zz0 zz1 zz2 zz3 zz4 HXX HYY HBX
                  have cc0 := d0
                  have cc1 := d1
                  have cc2 := d2
                  have cc3 := d3
                  have cc4 := d4
                  have cc5 := d5
                  have cc6 := d6
                  have cc7 := d7
                  have cc8 := d8
                  have cc9 := d9
                  have zz0 := y0
                  have zz1 := y1
                  have zz2 := y2
                  have zz3 := y3
                  have zz4 := y4
                  have HXX := q0
                  have HYY := q1
                  have HBX := q2
                  have BB := BB1
                  have sA := sA1
                  clear BB1 sA1 d0 d1 d2 d3 d4 d5 d6 d7 d8 d9 y0 y1 y2 y3 y4 q0 q1 q2
                  clear by0
                  go_wp2_with fail
                  go_ret
                  exact ⟨rfl, (HV.out _ BB).2.2.2⟩

theorem door_met (os : Os) (args : Array Value) : laidMetH Tryd.prog Rows.fnPoolAllRow.laid ((World.doorLaid Tryd.prog 28 os).forCall (fun _ _ => 0) ⟨#[], args, []⟩).memory :=
  laidMetH_of_parts3 (fuel := 8) (laidMet_of_run' 8 (by kernel_rfl) (by kernel_rfl)) (by kernel_rfl) (by kernel_rfl)

set_option maxRecDepth 100000 in
set_option maxHeartbeats 1000000 in
theorem lifted (os : Os) (started : os.Started) (H : Type) (enc : TypeId × Value → H) :
    ReturnsInHanded {} Tryd.checked os 3 .any (fun w args => (Rows.fnPoolAllSpec.pre enc Tryd.prog Tryd.f3 [] false w args ∧ laidMetH Tryd.prog Rows.fnPoolAllRow.laid w) ∧ sizedMet enc Tryd.prog Tryd.f3 (OpenSpec.ofChange Rows.fnPoolAllSpec) false w args)
      (Rows.fnPoolAllSpec.post enc Tryd.prog Tryd.f3 false true false false) := by
  refine returnsInHanded_of_change_and (C := Tryd.checked) (X := fun w _ => laidMetH Tryd.prog Rows.fnPoolAllRow.laid w) (fun _ _ _ hh h => h.of_heap hh) own started (by kernel_rfl) Tryd.func3
    (ChangeSpec.witness_shaped (enc := enc) (C := Tryd.checked) (os := os) (X := fun w _ => laidMetH Tryd.prog Rows.fnPoolAllRow.laid w) false (World.doorLaid Tryd.prog 28 os) #[.slice none 0 0, .slice none 0 0] 8 rfl (World.shaped_of_RefB (by kernel_rfl) (by kernel_rfl)) (by kernel_rfl) (by kernel_rfl) (by kernel_rfl) (door_met os _)) ?_
  intro W base args ds gs before hval0 hW _ _ hL _
  have hval : ∀ (j : Nat) t v, Tryd.f3.params[j]? = some t → args[j]? = some v → Value.okWide Tryd.prog W .any base t v := hval0
  have hW' := hW
  obtain ⟨p, q, hA0, hV0, rfl, hfz, hnd⟩ := hW
  have hA : DataW.TrodAll enc Tryd.prog W 0 (fun _ => true) true Tryd.f3.params.toList args.toList ds p := hA0
  have hV : DataW.TrodVars enc Tryd.prog W (fun _ => true) ["loop.example/hagioscope/impl.errForm"] gs q := hV0
  rw [Tryd.params3] at hA hval
  obtain ⟨v0, vs0, d0, ds0, p0, q0, hargs, rfl, rfl, h0, r0⟩ := trodAll_cons hA
  obtain ⟨v1, vs1, d1, ds1, p1, q1, rfl, rfl, rfl, h1, r1⟩ := trodAll_cons r0
  obtain ⟨rfl, rfl, rfl⟩ := trodAll_nil r1
  obtain rfl : args = #[v0, v1] := by cases args; simp_all
  have kr0 := h0
  have lt0 : ∀ x ∈ p0, x.block < W.heap.size := by obtain ⟨m, hm⟩ := kr0; exact DataW.trod_lt m _ _ _ hm
  have kr1 := h1
  have lt1 : ∀ x ∈ p1, x.block < W.heap.size := by obtain ⟨m, hm⟩ := kr1; exact DataW.trod_lt m _ _ _ hm
  obtain ⟨a0, len0, cap0, rfl⟩ := okWide_slice Tryd.underlying22 (hval 0 22 v0 rfl rfl)
  obtain ⟨z0, w0⟩ : ∃ zs, IsRow .u8 W a0 len0 cap0 zs := by
    obtain ⟨fuel, hf⟩ := h0
    rcases open_ints Tryd.underlying22 Tryd.underlying5 (by kernel_rfl) hf with ⟨hcs, _⟩ | ⟨x, l, c, zs, hcs, _, hl, hm, hz, _, hcell, hwz⟩
    · simp [Value.cells] at hcs
      obtain ⟨rfl, rfl, rfl⟩ := hcs
      exact ⟨[], .inl ⟨rfl, rfl, rfl, rfl⟩⟩
    · simp [Value.cells] at hcs
      obtain ⟨rfl, rfl, rfl⟩ := hcs
      exact ⟨zs, .inr ⟨_, rfl, hl, hm, by simpa using hz, hcell, hwz⟩⟩
  obtain ⟨a1, len1, cap1, rfl⟩ := okWide_slice Tryd.underlying22 (hval 1 22 v1 rfl rfl)
  obtain ⟨z1, w1⟩ : ∃ zs, IsRow .u8 W a1 len1 cap1 zs := by
    obtain ⟨fuel, hf⟩ := h1
    rcases open_ints Tryd.underlying22 Tryd.underlying5 (by kernel_rfl) hf with ⟨hcs, _⟩ | ⟨x, l, c, zs, hcs, _, hl, hm, hz, _, hcell, hwz⟩
    · simp [Value.cells] at hcs
      obtain ⟨rfl, rfl, rfl⟩ := hcs
      exact ⟨[], .inl ⟨rfl, rfl, rfl, rfl⟩⟩
    · simp [Value.cells] at hcs
      obtain ⟨rfl, rfl, rfl⟩ := hcs
      exact ⟨zs, .inr ⟨_, rfl, hl, hm, by simpa using hz, hcell, hwz⟩⟩
  obtain ⟨g, t, cs, fuel, d, p', rfl, hg, ht, hvar, hd, rfl⟩ := trodVars_one hV
  obtain rfl := Option.some.inj (gForm.symm.trans hg)
  obtain rfl := Option.some.inj (tForm.symm.trans ht)
  obtain ⟨fu, fv, hff⟩ := form_of hL
  obtain rfl : cs = #[.iface fu fv] := Option.some.inj (hvar.symm.trans hff)
  have hform : FormAt W := formAt_of hff
  obtain ⟨_, _, hheap⟩ := heap_of_var gForm hff
  clear hA0 hV0 hval0
  refine (walk a0 len0 cap0 z0 a1 len1 cap1 z1 W w0 w1 hform).mono fun e W' ⟨he, bel⟩ => ?_
  subst he
  exact ⟨_, rfl, _, _, _, [], _, _, hW', trodAll_mk1 (shut_bool Tryd.underlying4 _), (trodAll_cons_mk (Below.trod laidOut (by kernel_rfl) (of_decide_eq_true (by kernel_rfl)) kr0 bel lt0) (trodAll_cons_mk (Below.trod laidOut (by kernel_rfl) (of_decide_eq_true (by kernel_rfl)) kr1 bel lt1) trodAll_mk0)), trodVars_mk1 gForm tForm (var?_below bel gForm (lt_of_block hheap) hff) (held_again Tryd.underlying45 hd), bel.frame _, fun h => by cases h⟩

theorem said : Rows.FnPoolAllSaid :=
  OpenClaim.holds_of_wide 3 Tryd.f3 rfl rfl rfl rfl rfl rfl rfl ⟨rfl, rfl, rfl, rfl, rfl⟩ rfl rfl rfl rfl rfl (by kernel_rfl) Tryd.func3 (by kernel_rfl)
    (of_decide_eq_true (by kernel_rfl)) (by unfold Func.isWrapper; first | (rw [if_pos (by decide +kernel)]; kernel_rfl) | (rw [if_neg (by decide +kernel)]; exact ⟨rfl, rfl⟩))
    (fun os started H enc _ => lifted os started H enc)

theorem plain (f : FuncId) (fn : Func) (hf : Tryd.pinned.checked.prog.funcNamed "loop.example/hagioscope/laws.FnPoolAll" = some f) (hfn : Tryd.pinned.checked.prog.funcs[f]? = some fn) :
    false = Tryd.pinned.checked.prog.looks [] ∧ ∀ (j : Nat) t, fn.params[j]? = some t → Tryd.pinned.checked.prog.wantsStandIn t = false := by
  obtain rfl : f = 3 := Option.some.inj ((show Tryd.prog.funcNamed "loop.example/hagioscope/laws.FnPoolAll" = some 3 by kernel_rfl).symm.trans hf) |>.symm
  obtain rfl : fn = Tryd.f3 := (Option.some.inj (Tryd.func3.symm.trans hfn)).symm
  refine ⟨by kernel_rfl, fun j t ht => ?_⟩
  rw [Tryd.params3] at ht
  obtain rfl : t = 22 := by simpa using Array.mem_of_getElem? ht
  · exact (show Tryd.prog.wantsStandIn 22 = false by kernel_rfl)

end Go.Proofs.YtfcggdkahmcnfaaDoor.fnPoolAll
namespace Go.Proofs.YtfcggdkahmcnfaaDoor
theorem fnPoolAll_card : Rows.FnPoolAllCardSaid :=
  Claim7.holds_tied_plain_at .later [] _ _ _ _ fnPoolAll.said (fun _ h => by cases h) (by kernel_rfl) (fun _ h => by cases h) fnPoolAll_row_tie rfl ⟨rfl, rfl⟩ (by kernel_rfl) rfl fnPoolAll.plain (by kernel_rfl)
#print axioms fnPoolAll_card
end Go.Proofs.YtfcggdkahmcnfaaDoor
