/-
  
-/
import Derived.Test.YtlfgcchnboaflabDoorCards
import Derived.Test.YtlfgcchnboaflabDoorTie
import Derived.Test.YtlfgcchnboaflabDoorPlw
import Derived.Test.YtlfgcchnboaflabDoorDpu
import Derived.Test.YtlfgcchnboaflabDoorBxu
import Derived.WalkKit
import Derived.ProofKit
import Derived.OpenShut
import Derived.ShutString
import Derived.ChangeOld
import Derived.Below
import Derived.Carry
import Derived.Handy
import Derived.Deep.RegionHeld3
import Derived.LaidMore
namespace Go.Proofs.YtlfgcchnboaflabDoor.fnPoolNone
open Go.Proofs.YtlfgcchnboaflabDoor.Lab
open Go.ChangeShapes Go.WideShapes Go.ChangeAt Go.RowKit
open Go.ChangeMaps (open_string shut_string)
set_option linter.unusedVariables false

theorem own : ownKnob Tryd.prog.godebug = none := by kernel_rfl
/-- A row of numbers that came in: nil, or so many cells. -/
def IsRow (k : IntKind) (w : World) (a : Option Addr) (len cap : Nat) (zs : List Int) : Prop :=
  (a = none ∧ len = 0 ∧ cap = 0 ∧ zs = []) ∨ ∃ x, a = some x ∧ len ≤ cap ∧ cap ≤ maxLen ∧ zs.length = cap ∧ (∀ i, i < zs.length → w.cell? (x.add i) = some (.int k (zs.getD i 0))) ∧ ∀ n ∈ zs, (Lit.int k n).wf = true

set_option maxHeartbeats 4000000 in
theorem walk (a0 : Option Addr) (len0 cap0 : Nat) (z0 : List Int) (w : World) (w0 : IsRow .u8 w a0 len0 cap0 z0) (hform : FormAt w) :
    Calls Tryd.prog 3 #[.slice a0 len0 cap0] w fun e w' => e = .returned (.bool true) ∧ Below w.heap.size w w' := by
  have HF : Hid (FormAt w) := hform
  clear hform
  by_cases hlen0 : len0 > 1048576
  · go_enter Tryd.func3, Tryd.ntmps3
    go_wp2
    go_ret
    exact ⟨rfl, Below.refl _ _⟩
  have k0 : CodeAt w a0 len0 cap0 z0 := code_of w0
  clear w0
  go_enter Tryd.func3, Tryd.ntmps3
  go_wp2_with fail
  refine (drawPoolAll _ _ _ _ _ k0).mono ?_
  rintro e wa ⟨zz, u, v, xs, ls, rfl, ou, ov, lx, ll, hz, ba⟩
  obtain ⟨va, vc, rfl⟩ := ov.form
  obtain ⟨ua, uc, rfl⟩ := ou.form
  obtain ⟨n, hn⟩ : ∃ n, n = ls.length := ⟨_, rfl⟩
  obtain ⟨m, hm⟩ : ∃ m, m = xs.length := ⟨_, rfl⟩
  have HN : Hid (n = ls.length ∧ m = xs.length) := ⟨hn, hm⟩
  rw [← hn] at ll ov ⊢
  rw [← hm] at lx ou ⊢
  obtain ⟨A, hA⟩ : ∃ t, t = wa.heap.size := ⟨_, rfl⟩
  have HA : Hid (A = wa.heap.size) := hA
  have BB : Below A wa wa := Below.refl _ _
  have sA : A ≤ wa.heap.size := by omega
  have HV : Hid (∀ W, Below A wa W → RowC W (.slice ua m uc) xs ∧ RowAt 2 encPage W (.slice va n vc) ls ∧ FormAt W ∧ Below w.heap.size w W) := fun W h => by
    rw [HA.out] at h
    exact ⟨(RowC.of_own ou).keep h, OwnPool.row (by rw [hn] at ov; rw [hn]; exact ov) |>.keep h, (HF.out.keep ba).keep h, ba.trans (h.mono ba.size)⟩
  clear ou ov ba k0 hn hm HF hA
  go_wp2_with fail
  obtain ⟨P0, hP0⟩ : ∃ t, t = wa.heap.size := ⟨_, rfl⟩
  generalize hW : wa.alloc (.cells #[.int .i64 zz, .slice ua m uc] 25) = wb
  have nb : Below wa.heap.size wa wb := by rw [← hW]; exact (Below.refl _ _).alloc (Nat.le_refl _) _
  have k3 : wb.heap.size = P0 + 1 := by rw [← hW, hP0]; simp
  have kk0 : wb.cell? ⟨P0, 0, none⟩ = some (.int .i64 zz) := by rw [← hW, hP0]; simp [go_sem]
  have kk1 : wb.cell? ⟨P0, 1, none⟩ = some (.slice ua m uc) := by rw [← hW, hP0]; simp [go_sem]
  have oP0A : A ≤ P0 := by rw [hP0]; exact sA
  have BB1 : Below A wa wb := BB.trans (nb.mono (by omega))
  have sA1 : A ≤ wb.heap.size := by have := Below.size nb; omega
  clear BB sA   
  have BB := BB1
  have sA := sA1
  clear BB1 sA1   
  have cc0 := kk0
  have cc1 := kk1
  have zz0 : P0 < wb.heap.size := by omega
  rw [← hP0]
  clear k3 hW nb hP0 kk0 kk1
  obtain ⟨Z1, X1, N1, HX, lX, lN, HC1, HD1⟩ : ∃ (Z1 : Int) (X1 : List (Int × Int)) (N1 : Nat), Hid (Z1 = paZ 0 [] ls ∧ X1 = paL 0 [] ls ∧ N1 = paN 0 [] ls) ∧ X1.length ≤ 12 ∧ N1 ≤ 24
      ∧ Hid (∀ W, Below A wa W → Calls Tryd.prog 7 #[.agg #[.int .i64 0, .slice none 0 0], .slice va n vc] W fun e w' => ∃ u, e = .returned (.tuple #[.agg #[.int .i64 Z1, u], .int .i64 N1]) ∧ OwnPool w' W.heap.size u X1 ∧ Below W.heap.size W w')
      ∧ Hid (∀ W, Below A wa W → Calls Tryd.prog 8 #[.agg #[.int .i64 0, .slice none 0 0], .slice va n vc] W fun e w' => ∃ u, e = .returned (.tuple #[.agg #[.int .i64 Z1, u], .int .i64 N1]) ∧ OwnPool w' W.heap.size u X1 ∧ Below W.heap.size W w') :=
    ⟨_, _, _, ⟨rfl, rfl, rfl⟩, paL_len _ _ _, by have := paN_le 0 [] ls; rw [← HN.out.1] at this; omega, fun W h => impl_PoolAll 0 _ _ [] ls W (rowNil _) (HV.out _ h).2.1 (by simp) (by rw [← HN.out.1]; omega) (HV.out _ h).2.2.1, fun W h => spec_PoolAll 0 _ _ [] ls W (rowCNil _) (HV.out _ h).2.1 (by simp) (by rw [← HN.out.1]; omega)⟩
  obtain ⟨x1, hx1⟩ : ∃ t, t = X1.length := ⟨_, rfl⟩
  have HL1 : Hid (x1 = X1.length) := hx1
  have lx1 : x1 ≤ 12 := by omega
  clear lX hx1
  refine (HC1.out _ BB).mono ?_
  rintro e wc ⟨u, rfl, ou, bc⟩
  have d0 : wc.cell? ⟨P0, 0, none⟩ = some (.int .i64 zz) := (Below.celz bc _ _ _ (by omega)).trans cc0
  have d1 : wc.cell? ⟨P0, 1, none⟩ = some (.slice ua m uc) := (Below.celz bc _ _ _ (by omega)).trans cc1
  have y0 : P0 < wc.heap.size := by have := Below.size bc; omega
  have BB1 : Below A wa wc := BB.trans (bc.mono (by omega))
  have sA1 : A ≤ wc.heap.size := by have := Below.size bc; omega
  clear BB sA cc0 cc1 zz0 
  have cc0 := d0
  have cc1 := d1
  have zz0 := y0
  have BB := BB1
  have sA := sA1
  clear BB1 sA1 d0 d1 y0 
  clear bc
  obtain ⟨pa, pb, rfl⟩ := ou.form
  rw [← HL1.out] at ou ⊢
  have HXX : Hid (RowAt 2 encPage wc (.slice pa x1 pb) X1) := by have := ou.row; exact this
  clear ou
  go_wp2_with fail
  obtain ⟨P1, hP1⟩ : ∃ t, t = wc.heap.size := ⟨_, rfl⟩
  generalize hW : wc.alloc (.cells #[.int .i64 Z1, .slice pa x1 pb] 25) = wd
  have nb : Below wc.heap.size wc wd := by rw [← hW]; exact (Below.refl _ _).alloc (Nat.le_refl _) _
  have k3 : wd.heap.size = P1 + 1 := by rw [← hW, hP1]; simp
  have kk0 : wd.cell? ⟨P1, 0, none⟩ = some (.int .i64 Z1) := by rw [← hW, hP1]; simp [go_sem]
  have kk1 : wd.cell? ⟨P1, 1, none⟩ = some (.slice pa x1 pb) := by rw [← hW, hP1]; simp [go_sem]
  have oP1A : A ≤ P1 := by rw [hP1]; exact sA
  have oP10 : P0 < P1 := by rw [hP1]; exact zz0
  have d0 : wd.cell? ⟨P0, 0, none⟩ = some (.int .i64 zz) := (Below.celz nb _ _ _ (by omega)).trans cc0
  have d1 : wd.cell? ⟨P0, 1, none⟩ = some (.slice ua m uc) := (Below.celz nb _ _ _ (by omega)).trans cc1
  have y0 : P0 < wd.heap.size := by have := Below.size nb; omega
  have BB1 : Below A wa wd := BB.trans (nb.mono (by omega))
  have sA1 : A ≤ wd.heap.size := by have := Below.size nb; omega
  have q0 : Hid (RowAt 2 encPage wd (.slice pa x1 pb) X1) := HXX.out.keep nb
  clear BB sA cc0 cc1 zz0 HXX
  have cc0 := d0
  have cc1 := d1
  have zz0 := y0
  have HXX := q0
  have BB := BB1
  have sA := sA1
  clear BB1 sA1 d0 d1 y0 q0
  have cc2 := kk0
  have cc3 := kk1
  have zz1 : P1 < wd.heap.size := by omega
  rw [← hP1]
  clear k3 hW nb hP1 kk0 kk1
  refine (HD1.out _ BB).mono ?_
  rintro e we ⟨u, rfl, ou, be⟩
  have d0 : we.cell? ⟨P0, 0, none⟩ = some (.int .i64 zz) := (Below.celz be _ _ _ (by omega)).trans cc0
  have d1 : we.cell? ⟨P0, 1, none⟩ = some (.slice ua m uc) := (Below.celz be _ _ _ (by omega)).trans cc1
  have d2 : we.cell? ⟨P1, 0, none⟩ = some (.int .i64 Z1) := (Below.celz be _ _ _ (by omega)).trans cc2
  have d3 : we.cell? ⟨P1, 1, none⟩ = some (.slice pa x1 pb) := (Below.celz be _ _ _ (by omega)).trans cc3
  have y0 : P0 < we.heap.size := by have := Below.size be; omega
  have y1 : P1 < we.heap.size := by have := Below.size be; omega
  have BB1 : Below A wa we := BB.trans (be.mono (by omega))
  have sA1 : A ≤ we.heap.size := by have := Below.size be; omega
  have q0 : Hid (RowAt 2 encPage we (.slice pa x1 pb) X1) := HXX.out.keep be
  clear BB sA cc0 cc1 cc2 cc3 zz0 zz1 HXX
  have cc0 := d0
  have cc1 := d1
  have cc2 := d2
  have cc3 := d3
  have zz0 := y0
  have zz1 := y1
  have HXX := q0
  have BB := BB1
  have sA := sA1
  clear BB1 sA1 d0 d1 d2 d3 y0 y1 q0
  clear be
  obtain ⟨qa, qb, rfl⟩ := ou.form
  rw [← HL1.out] at ou ⊢
  have HYY : Hid (RowAt 2 encPage we (.slice qa x1 qb) X1) := by have := ou.row; exact this
  clear ou
  go_wp2_with fail
  obtain ⟨P2, hP2⟩ : ∃ t, t = we.heap.size := ⟨_, rfl⟩
  generalize hW : we.alloc (.cells #[.int .i64 Z1, .slice qa x1 qb] 25) = wf
  have nb : Below we.heap.size we wf := by rw [← hW]; exact (Below.refl _ _).alloc (Nat.le_refl _) _
  have k3 : wf.heap.size = P2 + 1 := by rw [← hW, hP2]; simp
  have kk0 : wf.cell? ⟨P2, 0, none⟩ = some (.int .i64 Z1) := by rw [← hW, hP2]; simp [go_sem]
  have kk1 : wf.cell? ⟨P2, 1, none⟩ = some (.slice qa x1 qb) := by rw [← hW, hP2]; simp [go_sem]
  have oP2A : A ≤ P2 := by rw [hP2]; exact sA
  have oP20 : P0 < P2 := by rw [hP2]; exact zz0
  have oP21 : P1 < P2 := by rw [hP2]; exact zz1
  have d0 : wf.cell? ⟨P0, 0, none⟩ = some (.int .i64 zz) := (Below.celz nb _ _ _ (by omega)).trans cc0
  have d1 : wf.cell? ⟨P0, 1, none⟩ = some (.slice ua m uc) := (Below.celz nb _ _ _ (by omega)).trans cc1
  have d2 : wf.cell? ⟨P1, 0, none⟩ = some (.int .i64 Z1) := (Below.celz nb _ _ _ (by omega)).trans cc2
  have d3 : wf.cell? ⟨P1, 1, none⟩ = some (.slice pa x1 pb) := (Below.celz nb _ _ _ (by omega)).trans cc3
  have y0 : P0 < wf.heap.size := by have := Below.size nb; omega
  have y1 : P1 < wf.heap.size := by have := Below.size nb; omega
  have BB1 : Below A wa wf := BB.trans (nb.mono (by omega))
  have sA1 : A ≤ wf.heap.size := by have := Below.size nb; omega
  have q0 : Hid (RowAt 2 encPage wf (.slice pa x1 pb) X1) := HXX.out.keep nb
  have q1 : Hid (RowAt 2 encPage wf (.slice qa x1 qb) X1) := HYY.out.keep nb
  clear BB sA cc0 cc1 cc2 cc3 zz0 zz1 HXX HYY
  have cc0 := d0
  have cc1 := d1
  have cc2 := d2
  have cc3 := d3
  have zz0 := y0
  have zz1 := y1
  have HXX := q0
  have HYY := q1
  have BB := BB1
  have sA := sA1
  clear BB1 sA1 d0 d1 d2 d3 y0 y1 q0 q1
  have cc4 := kk0
  have cc5 := kk1
  have zz2 : P2 < wf.heap.size := by omega
  rw [← hP2]
  clear k3 hW nb hP2 kk0 kk1
  have hne : ((N1 : Int) != (N1 : Int)) = false := by simp
  go_wp2_with fail
  refine (impl_PoolSame_same Z1 _ _ X1 _ HXX.out HYY.out (by rw [← HL1.out]; omega)).mono ?_
  rintro e wg ⟨rfl, bg⟩
  have d0 : wg.cell? ⟨P0, 0, none⟩ = some (.int .i64 zz) := (Below.celz bg _ _ _ (by omega)).trans cc0
  have d1 : wg.cell? ⟨P0, 1, none⟩ = some (.slice ua m uc) := (Below.celz bg _ _ _ (by omega)).trans cc1
  have d2 : wg.cell? ⟨P1, 0, none⟩ = some (.int .i64 Z1) := (Below.celz bg _ _ _ (by omega)).trans cc2
  have d3 : wg.cell? ⟨P1, 1, none⟩ = some (.slice pa x1 pb) := (Below.celz bg _ _ _ (by omega)).trans cc3
  have d4 : wg.cell? ⟨P2, 0, none⟩ = some (.int .i64 Z1) := (Below.celz bg _ _ _ (by omega)).trans cc4
  have d5 : wg.cell? ⟨P2, 1, none⟩ = some (.slice qa x1 qb) := (Below.celz bg _ _ _ (by omega)).trans cc5
  have y0 : P0 < wg.heap.size := by have := Below.size bg; omega
  have y1 : P1 < wg.heap.size := by have := Below.size bg; omega
  have y2 : P2 < wg.heap.size := by have := Below.size bg; omega
  have BB1 : Below A wa wg := BB.trans (bg.mono (by omega))
  have sA1 : A ≤ wg.heap.size := by have := Below.size bg; omega
  have q0 : Hid (RowAt 2 encPage wg (.slice pa x1 pb) X1) := HXX.out.keep bg
  have q1 : Hid (RowAt 2 encPage wg (.slice qa x1 qb) X1) := HYY.out.keep bg
  clear BB sA cc0 cc1 cc2 cc3 cc4 cc5 zz0 zz1 zz2 HXX HYY
  have cc0 := d0
  have cc1 := d1
  have cc2 := d2
  have cc3 := d3
  have cc4 := d4
  have cc5 := d5
  have zz0 := y0
  have zz1 := y1
  have zz2 := y2
  have HXX := q0
  have HYY := q1
  have BB := BB1
  have sA := sA1
  clear BB1 sA1 d0 d1 d2 d3 d4 d5 y0 y1 y2 q0 q1
  clear bg
  go_wp2_with fail
  go_loopw [9] (fun i wr => ∃ k : Nat, k ≤ n ∧ i = .int .i64 k ∧ Below wg.heap.size wg wr ∧ ∀ x ∈ ls.take k, pageB x.1 x.2 = true) (fun i _ => n - (intOf i).toNat)
  case atStart => exact ⟨0, by omega, rfl, Below.refl _ _, by simp⟩
  case round =>
    obtain ⟨k, hk, rfl, hbel, hq⟩ := hrel
    have HQ : Hid (∀ x ∈ ls.take k, pageB x.1 x.2 = true) := hq
    have HBL : Hid (Below wg.heap.size wg wr) := hbel
    have sg : wg.heap.size ≤ wr.heap.size := hbel.size
    clear hq
    have d0 : wr.cell? ⟨P0, 0, none⟩ = some (.int .i64 zz) := (Below.celz hbel _ _ _ (by omega)).trans cc0
    have d1 : wr.cell? ⟨P0, 1, none⟩ = some (.slice ua m uc) := (Below.celz hbel _ _ _ (by omega)).trans cc1
    have d2 : wr.cell? ⟨P1, 0, none⟩ = some (.int .i64 Z1) := (Below.celz hbel _ _ _ (by omega)).trans cc2
    have d3 : wr.cell? ⟨P1, 1, none⟩ = some (.slice pa x1 pb) := (Below.celz hbel _ _ _ (by omega)).trans cc3
    have d4 : wr.cell? ⟨P2, 0, none⟩ = some (.int .i64 Z1) := (Below.celz hbel _ _ _ (by omega)).trans cc4
    have d5 : wr.cell? ⟨P2, 1, none⟩ = some (.slice qa x1 qb) := (Below.celz hbel _ _ _ (by omega)).trans cc5
    have y0 : P0 < wr.heap.size := by have := Below.size hbel; omega
    have y1 : P1 < wr.heap.size := by have := Below.size hbel; omega
    have y2 : P2 < wr.heap.size := by have := Below.size hbel; omega
    have BB1 : Below A wa wr := BB.trans (hbel.mono (by omega))
    have sA1 : A ≤ wr.heap.size := by have := Below.size hbel; omega
    have q0 : Hid (RowAt 2 encPage wr (.slice pa x1 pb) X1) := HXX.out.keep hbel
    have q1 : Hid (RowAt 2 encPage wr (.slice qa x1 qb) X1) := HYY.out.keep hbel
    clear BB sA cc0 cc1 cc2 cc3 cc4 cc5 zz0 zz1 zz2 HXX HYY
    have cc0 := d0
    have cc1 := d1
    have cc2 := d2
    have cc3 := d3
    have cc4 := d4
    have cc5 := d5
    have zz0 := y0
    have zz1 := y1
    have zz2 := y2
    have HXX := q0
    have HYY := q1
    have BB := BB1
    have sA := sA1
    clear BB1 sA1 d0 d1 d2 d3 d4 d5 y0 y1 y2 q0 q1
    clear hbel
    by_cases hlt : k < n
    · rcases (HV.out wr BB).2.1 with ⟨hz0, _⟩ | ⟨_, b, off, cap', hv, hb, hc⟩
      · exfalso; have := HN.out.1; rw [hz0] at this; simp at this; omega
      simp only [Value.slice.injEq] at hv
      obtain ⟨rfl, -, hcc⟩ := hv
      subst hcc
      obtain ⟨⟨m0, m1⟩, hx⟩ : ∃ x, ls[k]? = some x := ⟨_, List.getElem?_eq_getElem (by rw [← HN.out.1]; exact hlt)⟩
      have e0 : wr.cell? ⟨b, off + k * 2, none⟩ = some (.int .i64 m0) := hc k _ hx 0 _ rfl
      have e1 : wr.cell? ⟨b, off + k * 2 + 1, none⟩ = some (.int .i64 m1) := hc k _ hx 1 _ rfl
      have HXk : Hid (ls[k]? = some (m0, m1)) := hx
      clear hx hc
      have j0 : (0 : Int) ≤ (k : Int) := by omega
      have j1 : (k : Int) < (n : Int) := by omega
      cases hp : pageB m0 m1
      · obtain ⟨rfl, rfl⟩ : N1 = 0 ∧ x1 = 0 := by
          have hall : ls.all (fun x => pageB x.1 x.2) = false := by
            rw [List.all_eq_false]
            exact ⟨_, List.mem_of_getElem? HXk.out, by simp [hp]⟩
          obtain ⟨h1, h2, h3⟩ := HX.out
          refine ⟨by rw [h3]; simp [paN, paOk, hall], ?_⟩
          rw [HL1.out, h2]; simp [paL, paOk, hall]
        go_wp2_with fail
        have CP := impl_PageOk m0 m1 wr
        rw [hp] at CP
        refine (CP).mono ?_
        rintro e wq ⟨rfl, bq⟩
        have d0 : wq.cell? ⟨P0, 0, none⟩ = some (.int .i64 zz) := (Below.celz bq _ _ _ (by omega)).trans cc0
        have d1 : wq.cell? ⟨P0, 1, none⟩ = some (.slice ua m uc) := (Below.celz bq _ _ _ (by omega)).trans cc1
        have d2 : wq.cell? ⟨P1, 0, none⟩ = some (.int .i64 Z1) := (Below.celz bq _ _ _ (by omega)).trans cc2
        have d3 : wq.cell? ⟨P1, 1, none⟩ = some (.slice pa 0 pb) := (Below.celz bq _ _ _ (by omega)).trans cc3
        have d4 : wq.cell? ⟨P2, 0, none⟩ = some (.int .i64 Z1) := (Below.celz bq _ _ _ (by omega)).trans cc4
        have d5 : wq.cell? ⟨P2, 1, none⟩ = some (.slice qa 0 qb) := (Below.celz bq _ _ _ (by omega)).trans cc5
        have y0 : P0 < wq.heap.size := by have := Below.size bq; omega
        have y1 : P1 < wq.heap.size := by have := Below.size bq; omega
        have y2 : P2 < wq.heap.size := by have := Below.size bq; omega
        have BB1 : Below A wa wq := BB.trans (bq.mono (by omega))
        have sA1 : A ≤ wq.heap.size := by have := Below.size bq; omega
        have q0 : Hid (RowAt 2 encPage wq (.slice pa 0 pb) X1) := HXX.out.keep bq
        have q1 : Hid (RowAt 2 encPage wq (.slice qa 0 qb) X1) := HYY.out.keep bq
        clear BB sA cc0 cc1 cc2 cc3 cc4 cc5 zz0 zz1 zz2 HXX HYY
        have cc0 := d0
        have cc1 := d1
        have cc2 := d2
        have cc3 := d3
        have cc4 := d4
        have cc5 := d5
        have zz0 := y0
        have zz1 := y1
        have zz2 := y2
        have HXX := q0
        have HYY := q1
        have BB := BB1
        have sA := sA1
        clear BB1 sA1 d0 d1 d2 d3 d4 d5 y0 y1 y2 q0 q1
        clear bq
        clear CP e0 e1
        go_wp2_with fail
        go_ret
        exact ⟨rfl, (HV.out _ BB).2.2.2⟩
      · go_wp2_with fail
        have CP := impl_PageOk m0 m1 wr
        rw [hp] at CP
        refine CP.mono ?_
        rintro e wq ⟨rfl, bq⟩
        have HB2 : Hid (Below wg.heap.size wg wq) := HBL.out.trans (bq.mono sg)
        clear CP bq e0 e1
        go_wp2_with fail
        go_roundw
        case rel =>
          refine ⟨k + 1, by omega, by go_num, HB2.out, fun x hx => ?_⟩
          rw [List.take_add_one, HXk.out] at hx
          rcases List.mem_append.1 hx with h | h
          · exact HQ.out x h
          · simp at h; subst h; exact hp
        case measure => simp [intOf]; omega
    · have hkn : n = k := by omega
      subst hkn
      obtain ⟨HN1, rfl⟩ : Hid (N1 = n) ∧ x1 = 0 := by
        have hall : ls.all (fun x => pageB x.1 x.2) = true := by
          rw [List.all_eq_true]
          have h := HQ.out
          rw [HN.out.1, List.take_length] at h
          exact h
        have hpb : poolB 0 [] = true := by decide
        obtain ⟨h1, h2, h3⟩ := HX.out
        have e := allU_eq (n := Int.toNat 0) (xs := []) (by simp) (by simp) ls
        refine ⟨?_, ?_⟩
        · show N1 = n
          rw [h3, HN.out.1]
          simp only [paN, paOk, hall, hpb, Bool.and_self, if_true]
          rw [e]
          exact missF_zero ls []
        · rw [HL1.out, h2]
          simp only [paL, paOk, hall, hpb, Bool.and_self, if_true]
          rw [e]
          simp
      obtain rfl := HN1.out
      have hpb2 : poolB 12 [] = true := by decide
      obtain ⟨X2, M2, HX2, lX2, HC2⟩ : ∃ (X2 : List (Int × Int)) (M2 : Nat), Hid (X2.length ≤ M2 ∧ M2 ≤ N1 ∧ (0 < M2 ↔ 0 < N1)) ∧ X2.length ≤ 12
          ∧ Hid (∀ W, Below A wa W → Calls Tryd.prog 7 #[.agg #[.int .i64 12, .slice none 0 0], .slice va N1 vc] W fun e w' => ∃ u, e = .returned (.tuple #[.agg #[.int .i64 12, u], .int .i64 M2]) ∧ OwnPool w' W.heap.size u X2 ∧ Below W.heap.size W w') := by
        have hall : ls.all (fun x => pageB x.1 x.2) = true := by
          rw [List.all_eq_true]
          have h := HQ.out
          rw [HN.out.1, List.take_length] at h
          exact h
        have e := allU_eq (n := Int.toNat 12) (xs := []) (by simp) (by simp) ls
        have eL : paL 12 [] ls = (stk [] ls).take 12 := by simp only [paL, paOk, hall, hpb2, Bool.and_self, if_true]; rw [e]; rfl
        have eN : paN 12 [] ls = missF 12 [] ls := by simp only [paN, paOk, hall, hpb2, Bool.and_self, if_true]; rw [e]; rfl
        have eZ : paZ 12 [] ls = 12 := by simp only [paZ, paOk, hall, hpb2, Bool.and_self, if_true]
        refine ⟨paL 12 [] ls, paN 12 [] ls, ⟨?_, ?_, ?_⟩, paL_len _ _ _, fun W h => ?_⟩
        · rw [eL, eN]
          have := stk_len 12 ls []
          rw [List.length_take]
          simp at this
          omega
        · have := paN_le 12 [] ls; rw [← HN.out.1] at this; omega
        · rw [eN]
          have h1 := missF_le 12 ls []
          rw [HN.out.1]
          cases ls with
          | nil => simp [missF]
          | cons x ls => have := missF_pos 12 x ls; simp; omega
        · have := impl_PoolAll 12 (.slice none 0 0) (.slice va N1 vc) [] ls W (rowNil _) (HV.out _ h).2.1 (by simp) (by rw [← HN.out.1]; omega) (HV.out _ h).2.2.1
          rw [eZ] at this
          exact this
      clear hpb2
      go_wp2_with fail
      refine (HC2.out _ BB).mono ?_
      rintro e wh ⟨u, rfl, ou, bh⟩
      have d0 : wh.cell? ⟨P0, 0, none⟩ = some (.int .i64 zz) := (Below.celz bh _ _ _ (by omega)).trans cc0
      have d1 : wh.cell? ⟨P0, 1, none⟩ = some (.slice ua m uc) := (Below.celz bh _ _ _ (by omega)).trans cc1
      have d2 : wh.cell? ⟨P1, 0, none⟩ = some (.int .i64 Z1) := (Below.celz bh _ _ _ (by omega)).trans cc2
      have d3 : wh.cell? ⟨P1, 1, none⟩ = some (.slice pa 0 pb) := (Below.celz bh _ _ _ (by omega)).trans cc3
      have d4 : wh.cell? ⟨P2, 0, none⟩ = some (.int .i64 Z1) := (Below.celz bh _ _ _ (by omega)).trans cc4
      have d5 : wh.cell? ⟨P2, 1, none⟩ = some (.slice qa 0 qb) := (Below.celz bh _ _ _ (by omega)).trans cc5
      have y0 : P0 < wh.heap.size := by have := Below.size bh; omega
      have y1 : P1 < wh.heap.size := by have := Below.size bh; omega
      have y2 : P2 < wh.heap.size := by have := Below.size bh; omega
      have BB1 : Below A wa wh := BB.trans (bh.mono (by omega))
      have sA1 : A ≤ wh.heap.size := by have := Below.size bh; omega
      have q0 : Hid (RowAt 2 encPage wh (.slice pa 0 pb) X1) := HXX.out.keep bh
      have q1 : Hid (RowAt 2 encPage wh (.slice qa 0 qb) X1) := HYY.out.keep bh
      clear BB sA cc0 cc1 cc2 cc3 cc4 cc5 zz0 zz1 zz2 HXX HYY
      have cc0 := d0
      have cc1 := d1
      have cc2 := d2
      have cc3 := d3
      have cc4 := d4
      have cc5 := d5
      have zz0 := y0
      have zz1 := y1
      have zz2 := y2
      have HXX := q0
      have HYY := q1
      have BB := BB1
      have sA := sA1
      clear BB1 sA1 d0 d1 d2 d3 d4 d5 y0 y1 y2 q0 q1
      clear bh
      obtain ⟨ra, rb, rfl⟩ := ou.form
      obtain ⟨x2, hx2⟩ : ∃ t, t = X2.length := ⟨_, rfl⟩
      rw [← hx2] at ou lX2 ⊢
      have hf1 : x2 ≤ M2 := by have := HX2.out.1; omega
      have hf2 : M2 ≤ N1 := HX2.out.2.1
      have hf3 : (decide (0 < M2) == decide (0 < N1)) = true := by have := HX2.out.2.2; simp [this]
      have HX4 : Hid (0 < M2 ↔ 0 < N1) := HX2.out.2.2
      clear ou hx2
      by_cases hz0 : 0 < N1
      · have hz1 : 0 < M2 := HX4.out.2 hz0
        go_wp2_with fail
        go_ret
        exact ⟨rfl, by first | exact (HV.out _ BB).2.2.2 | exact (HV.out _ (BB.alloc sA _)).2.2.2⟩
      · obtain rfl : N1 = 0 := by omega
        obtain rfl : M2 = 0 := by omega
        obtain rfl : x2 = 0 := by omega
        go_wp2_with fail
        go_ret
        exact ⟨rfl, by first | exact (HV.out _ BB).2.2.2 | exact (HV.out _ (BB.alloc sA _)).2.2.2⟩

theorem door_met (os : Os) (args : Array Value) : laidMetH Tryd.prog Rows.fnPoolNoneRow.laid ((World.doorLaid Tryd.prog 28 os).forCall (fun _ _ => 0) ⟨#[], args, []⟩).memory :=
  laidMetH_of_parts3 (fuel := 8) (laidMet_of_run' 8 (by kernel_rfl) (by kernel_rfl)) (by kernel_rfl) (by kernel_rfl)

set_option maxRecDepth 100000 in
set_option maxHeartbeats 1000000 in
theorem lifted (os : Os) (started : os.Started) (H : Type) (enc : TypeId × Value → H) :
    ReturnsInHanded {} Tryd.checked os 3 .any (fun w args => (Rows.fnPoolNoneSpec.pre enc Tryd.prog Tryd.f3 [] false w args ∧ laidMetH Tryd.prog Rows.fnPoolNoneRow.laid w) ∧ sizedMet enc Tryd.prog Tryd.f3 (OpenSpec.ofChange Rows.fnPoolNoneSpec) false w args)
      (Rows.fnPoolNoneSpec.post enc Tryd.prog Tryd.f3 false true false false) := by
  refine returnsInHanded_of_change_and (C := Tryd.checked) (X := fun w _ => laidMetH Tryd.prog Rows.fnPoolNoneRow.laid w) (fun _ _ _ hh h => h.of_heap hh) own started (by kernel_rfl) Tryd.func3
    (ChangeSpec.witness_shaped (enc := enc) (C := Tryd.checked) (os := os) (X := fun w _ => laidMetH Tryd.prog Rows.fnPoolNoneRow.laid w) false (World.doorLaid Tryd.prog 28 os) #[.slice none 0 0] 8 rfl (World.shaped_of_RefB (by kernel_rfl) (by kernel_rfl)) (by kernel_rfl) (by kernel_rfl) (by kernel_rfl) (door_met os _)) ?_
  intro W base args ds gs before hval0 hW _ _ hL _
  have hval : ∀ (j : Nat) t v, Tryd.f3.params[j]? = some t → args[j]? = some v → Value.okWide Tryd.prog W .any base t v := hval0
  have hW' := hW
  obtain ⟨p, q, hA0, hV0, rfl, hfz, hnd⟩ := hW
  have hA : DataW.TrodAll enc Tryd.prog W 0 (fun _ => true) true Tryd.f3.params.toList args.toList ds p := hA0
  have hV : DataW.TrodVars enc Tryd.prog W (fun _ => true) ["loop.example/hagioscope/impl.errForm"] gs q := hV0
  rw [Tryd.params3] at hA hval
  obtain ⟨v0, vs0, d0, ds0, p0, q0, hargs, rfl, rfl, h0, r0⟩ := trodAll_cons hA
  obtain ⟨rfl, rfl, rfl⟩ := trodAll_nil r0
  obtain rfl : args = #[v0] := by cases args; simp_all
  have kr0 := h0
  have lt0 : ∀ x ∈ p0, x.block < W.heap.size := by obtain ⟨m, hm⟩ := kr0; exact DataW.trod_lt m _ _ _ hm
  obtain ⟨a0, len0, cap0, rfl⟩ := okWide_slice Tryd.underlying22 (hval 0 22 v0 rfl rfl)
  obtain ⟨z0, w0⟩ : ∃ zs, IsRow .u8 W a0 len0 cap0 zs := by
    obtain ⟨fuel, hf⟩ := h0
    rcases open_ints Tryd.underlying22 Tryd.underlying5 (by kernel_rfl) hf with ⟨hcs, _⟩ | ⟨x, l, c, zs, hcs, _, hl, hm, hz, _, hcell, hwz⟩
    · simp [Value.cells] at hcs
      obtain ⟨rfl, rfl, rfl⟩ := hcs
      exact ⟨[], .inl ⟨rfl, rfl, rfl, rfl⟩⟩
    · simp [Value.cells] at hcs
      obtain ⟨rfl, rfl, rfl⟩ := hcs
      exact ⟨zs, .inr ⟨_, rfl, hl, hm, by simpa using hz, hcell, hwz⟩⟩
  obtain ⟨g, t, cs, fuel, d, p', rfl, hg, ht, hvar, hd, rfl⟩ := trodVars_one hV
  obtain rfl := Option.some.inj (gForm.symm.trans hg)
  obtain rfl := Option.some.inj (tForm.symm.trans ht)
  obtain ⟨fu, fv, hff⟩ := form_of hL
  obtain rfl : cs = #[.iface fu fv] := Option.some.inj (hvar.symm.trans hff)
  have hform : FormAt W := formAt_of hff
  obtain ⟨_, _, hheap⟩ := heap_of_var gForm hff
  clear hA0 hV0 hval0
  refine (walk a0 len0 cap0 z0 W w0 hform).mono fun e W' ⟨he, bel⟩ => ?_
  subst he
  exact ⟨_, rfl, _, _, _, [], _, _, hW', trodAll_mk1 (shut_bool Tryd.underlying4 _), (trodAll_cons_mk (Below.trod laidOut (by kernel_rfl) (of_decide_eq_true (by kernel_rfl)) kr0 bel lt0) trodAll_mk0), trodVars_mk1 gForm tForm (var?_below bel gForm (lt_of_block hheap) hff) (held_again Tryd.underlying46 hd), bel.frame _, fun h => by cases h⟩

theorem said : Rows.FnPoolNoneSaid :=
  OpenClaim.holds_of_wide 3 Tryd.f3 rfl rfl rfl rfl rfl rfl rfl ⟨rfl, rfl, rfl, rfl, rfl⟩ rfl rfl rfl rfl rfl (by kernel_rfl) Tryd.func3 (by kernel_rfl)
    (of_decide_eq_true (by kernel_rfl)) (by unfold Func.isWrapper; first | (rw [if_pos (by decide +kernel)]; kernel_rfl) | (rw [if_neg (by decide +kernel)]; exact ⟨rfl, rfl⟩))
    (fun os started H enc _ => lifted os started H enc)

theorem plain (f : FuncId) (fn : Func) (hf : Tryd.pinned.checked.prog.funcNamed "loop.example/hagioscope/laws.FnPoolNone" = some f) (hfn : Tryd.pinned.checked.prog.funcs[f]? = some fn) :
    false = Tryd.pinned.checked.prog.looks [] ∧ ∀ (j : Nat) t, fn.params[j]? = some t → Tryd.pinned.checked.prog.wantsStandIn t = false := by
  obtain rfl : f = 3 := Option.some.inj ((show Tryd.prog.funcNamed "loop.example/hagioscope/laws.FnPoolNone" = some 3 by kernel_rfl).symm.trans hf) |>.symm
  obtain rfl : fn = Tryd.f3 := (Option.some.inj (Tryd.func3.symm.trans hfn)).symm
  refine ⟨by kernel_rfl, fun j t ht => ?_⟩
  rw [Tryd.params3] at ht
  obtain rfl : t = 22 := by simpa using Array.mem_of_getElem? ht
  · exact (show Tryd.prog.wantsStandIn 22 = false by kernel_rfl)

end Go.Proofs.YtlfgcchnboaflabDoor.fnPoolNone
namespace Go.Proofs.YtlfgcchnboaflabDoor
theorem fnPoolNone_card : Rows.FnPoolNoneCardSaid :=
  Claim7.holds_tied_plain_at .later [] _ _ _ _ fnPoolNone.said (fun _ h => by cases h) (by kernel_rfl) (fun _ h => by cases h) fnPoolNone_row_tie rfl ⟨rfl, rfl⟩ (by kernel_rfl) rfl fnPoolNone.plain (by kernel_rfl)
#print axioms fnPoolNone_card
end Go.Proofs.YtlfgcchnboaflabDoor
