/-
  At every pool and every row of pages PoolAll answers as the specification, writes into no argument, and its answer owns its memory.
-/
import Derived.Test.YtppaanjijffjdaaDoorCards
import Derived.Test.YtppaanjijffjdaaDoorTie
import Derived.Test.YtppaanjijffjdaaDoorIpa
import Derived.Test.YtppaanjijffjdaaDoorSaa
import Derived.Test.YtppaanjijffjdaaDoorBxu
import Derived.Test.YtppaanjijffjdaaDoorOpp
import Derived.WalkKit
import Derived.ProofKit
import Derived.OpenShut
import Derived.ShutString
import Derived.ChangeOld
import Derived.Below
import Derived.Carry
import Derived.Handy
import Derived.Deep.RegionHeld3
import Derived.LaidMore
namespace Go.Proofs.YtppaanjijffjdaaDoor.fnExactPoolAll
open Go.Proofs.YtppaanjijffjdaaDoor.Lab
open Go.ChangeShapes Go.WideShapes Go.ChangeAt Go.RowKit
open Go.ChangeMaps (open_string shut_string)
set_option linter.unusedVariables false

theorem own : ownKnob Tryd.prog.godebug = none := by kernel_rfl
/-- A row of numbers that came in: nil, or so many cells. -/
def IsRow (k : IntKind) (w : World) (a : Option Addr) (len cap : Nat) (zs : List Int) : Prop :=
  (a = none ∧ len = 0 ∧ cap = 0 ∧ zs = []) ∨ ∃ x, a = some x ∧ len ≤ cap ∧ cap ≤ maxLen ∧ zs.length = cap ∧ (∀ i, i < zs.length → w.cell? (x.add i) = some (.int k (zs.getD i 0))) ∧ ∀ n ∈ zs, (Lit.int k n).wf = true

set_option maxHeartbeats 4000000 in
theorem walk (z0 : Int) (y0 : Value) (xs0 : List (Int × Int)) (v1 : Value) (xs1 : List (Int × Int)) (w : World) (w0 : i64In z0 ∧ PagesIn w y0 xs0) (w1 : PagesIn w v1 xs1) (hform : FormAt w) :
    Calls Tryd.prog 3 #[.agg #[.int .i64 z0, y0], v1] w fun e w' => e = .returned (.bool true) ∧ Below w.heap.size w w' := by
  obtain ⟨-, r1, m1, -⟩ := w0
  obtain ⟨r2, m2, -⟩ := w1
  obtain ⟨ga, gb, rfl⟩ := r1.len
  obtain ⟨gc, gd, rfl⟩ := r2.len
  simp only [maxLen, Nat.reducePow, Nat.reduceSub] at m1 m2
  have HR : Hid (RowAt 2 encPage w (.slice ga xs0.length gb) xs0 ∧ RowAt 2 encPage w (.slice gc xs1.length gd) xs1) := ⟨r1, r2⟩
  have HE : Hid (FormAt w) := hform
  have HQ := paL_len z0 xs0 xs1
  clear r1 r2 hform
  go_enter Tryd.func3, Tryd.ntmps3
  go_wp2_with fail
  refine (szPool _ _ _ _ _ _ (by omega) (by omega) m1).mono ?_
  rintro e wa ⟨rfl, ba⟩
  obtain ⟨A, hA0⟩ : ∃ A, A = w.heap.size := ⟨_, rfl⟩
  have zz0 : A < wa.heap.size := by have := ba.size; simp at this; omega
  have Ba : Below A w wa := by rw [hA0]; exact Below.trans (by go_grown) (ba.mono (by simp))
  have cc0 : wa.cell? ⟨A, 0, none⟩ = some (.int .i64 z0) := by rw [hA0, Below.celz ba _ _ _ (by simp)]; simp [go_sem]
  have cc1 : wa.cell? ⟨A, 1, none⟩ = some (.slice ga xs0.length gb) := by rw [hA0, Below.celz ba _ _ _ (by simp)]; simp [go_sem]
  clear ba
  rw [← hA0]
  have HA0 : Hid (A = w.heap.size) := hA0
  clear hA0
  by_cases hA : (xs0.length : Int) ≤ 1048576
  rotate_left
  · rw [if_neg hA]
    go_wp2_with fail
    go_ret
    exact ⟨rfl, by rw [← HA0.out]; exact Ba⟩
  rw [if_pos hA]
  have l0 : xs0.length ≤ 1048576 := by omega
  go_wp2_with fail
  refine (szPageS _ _ _ _ _ (by omega) (by omega) m2).mono ?_
  rintro e wa' ⟨rfl, hww⟩
  have hww2 := hww.symm
  clear hww
  subst hww2
  by_cases hA2 : (xs1.length : Int) ≤ 1048576 - (xs0.length : Int)
  rotate_left
  · rw [if_neg hA2]
    go_wp2_with fail
    go_ret
    exact ⟨rfl, by rw [← HA0.out]; exact Ba⟩
  rw [if_pos hA2]
  have l1 : xs1.length ≤ 1048576 := by omega
  have HK : Hid (∀ W, Below A w W → RowAt 2 encPage W (.slice ga xs0.length gb) xs0 ∧ FormAt W ∧ RowAt 2 encPage W (.slice gc xs1.length gd) xs1) := fun W h => by rw [HA0.out] at h; exact ⟨HR.out.1.keep h, HE.out.keep h, HR.out.2.keep h⟩
  go_wp2_with fail
  refine (toPool _ _ xs0 _ (HK.out _ Ba).1 l0).mono ?_
  rintro e wb ⟨u1, rfl, o1, tj1⟩
  have Bwb : Below A w wb := Ba.trans (tj1.mono (by omega))
  have d0 : wb.cell? ⟨A, 0, none⟩ = some (.int .i64 z0) := (Below.celz tj1 _ _ _ (by omega)).trans cc0
  have d1 : wb.cell? ⟨A, 1, none⟩ = some (.slice ga xs0.length gb) := (Below.celz tj1 _ _ _ (by omega)).trans cc1
  have y0 : A < wb.heap.size := by have := Below.size tj1; omega
  clear cc0 cc1 zz0
  have cc0 := d0
  have cc1 := d1
  have zz0 := y0
  clear d0 d1 y0
  obtain ⟨t1, t2, rfl⟩ := o1.form
  have HO1 : Hid (OwnPool wb wa.heap.size (.slice t1 xs0.length t2) xs0) := o1
  clear o1 tj1 Ba
  go_wp2_with fail
  refine (toPageS _ xs1 _ (HK.out _ Bwb).2.2 l1).mono ?_
  rintro e wb2 ⟨u2, rfl, o2, tj2⟩
  have Bwb2 : Below A w wb2 := Bwb.trans (tj2.mono (by omega))
  have d0 : wb2.cell? ⟨A, 0, none⟩ = some (.int .i64 z0) := (Below.celz tj2 _ _ _ (by omega)).trans cc0
  have d1 : wb2.cell? ⟨A, 1, none⟩ = some (.slice ga xs0.length gb) := (Below.celz tj2 _ _ _ (by omega)).trans cc1
  have y0 : A < wb2.heap.size := by have := Below.size tj2; omega
  clear cc0 cc1 zz0
  have cc0 := d0
  have cc1 := d1
  have zz0 := y0
  clear d0 d1 y0
  obtain ⟨t3, t4, rfl⟩ := own_form o2
  have HO2 : Hid (OwnPool wb2 wa.heap.size (.slice t1 xs0.length t2) xs0 ∧ RowAt 2 encPage wb2 (.slice t3 xs1.length t4) xs1) := ⟨HO1.out.keep tj2, row_of_own encPage_len (by decide) o2⟩
  clear o2 tj2 HO1 Bwb
  go_wp2_with fail
  refine (spec_PoolAll _ _ _ xs0 xs1 _ (RowC.of_own HO2.out.1) HO2.out.2 l0 l1).mono ?_
  rintro e wc0 ⟨p1, rfl, og, tj3⟩
  have Bwc0 : Below A w wc0 := Bwb2.trans (tj3.mono (by omega))
  have d0 : wc0.cell? ⟨A, 0, none⟩ = some (.int .i64 z0) := (Below.celz tj3 _ _ _ (by omega)).trans cc0
  have d1 : wc0.cell? ⟨A, 1, none⟩ = some (.slice ga xs0.length gb) := (Below.celz tj3 _ _ _ (by omega)).trans cc1
  have y0 : A < wc0.heap.size := by have := Below.size tj3; omega
  clear cc0 cc1 zz0
  have cc0 := d0
  have cc1 := d1
  have zz0 := y0
  clear d0 d1 y0
  obtain ⟨pa, pb, rfl⟩ := og.form
  have HOG : Hid (OwnPool wc0 wb2.heap.size (.slice pa (paL z0 xs0 xs1).length pb) (paL z0 xs0 xs1)) := og
  clear og tj3 HO2 Bwb2
  go_wp2_with fail
  obtain ⟨C, hC⟩ : ∃ B, B = wc0.heap.size := ⟨_, rfl⟩
  generalize hW : wc0.alloc (.cells #[.int .i64 (paZ z0 xs0 xs1), .slice pa (paL z0 xs0 xs1).length pb] 29) = wc
  have nb : Below wc0.heap.size wc0 wc := by rw [← hW]; exact (Below.refl _ _).alloc (Nat.le_refl _) _
  have k1 : wc.cell? ⟨C, 0, none⟩ = some (.int .i64 (paZ z0 xs0 xs1)) := by rw [← hW, hC]; simp [go_sem]
  have k2 : wc.cell? ⟨C, 1, none⟩ = some (.slice pa (paL z0 xs0 xs1).length pb) := by rw [← hW, hC]; simp [go_sem]
  have k3 : wc.heap.size = C + 1 := by rw [← hW, hC]; simp
  have oC0 : A < C := by rw [hC]; exact zz0
  have d0 : wc.cell? ⟨A, 0, none⟩ = some (.int .i64 z0) := (Below.celz nb _ _ _ (by omega)).trans cc0
  have d1 : wc.cell? ⟨A, 1, none⟩ = some (.slice ga xs0.length gb) := (Below.celz nb _ _ _ (by omega)).trans cc1
  have y0 : A < wc.heap.size := by have := Below.size nb; omega
  clear cc0 cc1 zz0
  have cc0 := d0
  have cc1 := d1
  have zz0 := y0
  clear d0 d1 y0
  have cc2 := k1
  have cc3 := k2
  have zz1 : C < wc.heap.size := by omega
  rw [← hC]
  clear k1 k2 k3 hW
  have Bc : Below A w wc := Bwc0.trans (nb.mono (by omega))
  have hAC : A < C := by omega
  have HP : Hid (RowAt 2 encPage wc (.slice pa (paL z0 xs0 xs1).length pb) (paL z0 xs0 xs1)) := (HOG.out.keep nb).row
  clear hC nb Bwc0 HOG
  obtain ⟨M, hM⟩ : ∃ M, M = wc.heap.size := ⟨_, rfl⟩
  have hCM : C < M := by rw [hM]; exact zz1
  have HW : Hid (∀ W, Below M wc W → RowAt 2 encPage W (.slice pa (paL z0 xs0 xs1).length pb) (paL z0 xs0 xs1)) := fun W h => by rw [hM] at h; exact HP.out.keep h
  clear HP
  go_wp2_with fail
  refine (toPool _ _ xs0 _ (HK.out _ Bc).1 l0).mono ?_
  rintro e wd ⟨x1, rfl, og3, bd⟩
  have Bd : Below A w wd := Bc.trans (bd.mono (by omega))
  have Ld : Below M wc wd := by rw [hM]; exact bd
  have d0 : wd.cell? ⟨A, 0, none⟩ = some (.int .i64 z0) := (Below.celz bd _ _ _ (by omega)).trans cc0
  have d1 : wd.cell? ⟨A, 1, none⟩ = some (.slice ga xs0.length gb) := (Below.celz bd _ _ _ (by omega)).trans cc1
  have d2 : wd.cell? ⟨C, 0, none⟩ = some (.int .i64 (paZ z0 xs0 xs1)) := (Below.celz bd _ _ _ (by omega)).trans cc2
  have d3 : wd.cell? ⟨C, 1, none⟩ = some (.slice pa (paL z0 xs0 xs1).length pb) := (Below.celz bd _ _ _ (by omega)).trans cc3
  have y0 : A < wd.heap.size := by have := Below.size bd; omega
  have y1 : C < wd.heap.size := by have := Below.size bd; omega
  clear cc0 cc1 cc2 cc3 zz0 zz1
  have cc0 := d0
  have cc1 := d1
  have cc2 := d2
  have cc3 := d3
  have zz0 := y0
  have zz1 := y1
  clear d0 d1 d2 d3 y0 y1
  obtain ⟨xa, xb, rfl⟩ := og3.form
  have HX : Hid (OwnPool wd wc.heap.size (.slice xa xs0.length xb) xs0) := og3
  have hMd : M ≤ wd.heap.size := by have := bd.size; omega
  clear bd Bc og3
  go_wp2_with fail
  obtain ⟨D, hD⟩ : ∃ B, B = wd.heap.size := ⟨_, rfl⟩
  generalize hW : wd.alloc (.cells #[.int .i64 z0, .slice xa xs0.length xb] 29) = wd1
  have nb : Below wd.heap.size wd wd1 := by rw [← hW]; exact (Below.refl _ _).alloc (Nat.le_refl _) _
  have k1 : wd1.cell? ⟨D, 0, none⟩ = some (.int .i64 z0) := by rw [← hW, hD]; simp [go_sem]
  have k2 : wd1.cell? ⟨D, 1, none⟩ = some (.slice xa xs0.length xb) := by rw [← hW, hD]; simp [go_sem]
  have k3 : wd1.heap.size = D + 1 := by rw [← hW, hD]; simp
  have oD0 : A < D := by rw [hD]; exact zz0
  have oD1 : C < D := by rw [hD]; exact zz1
  have d0 : wd1.cell? ⟨A, 0, none⟩ = some (.int .i64 z0) := (Below.celz nb _ _ _ (by omega)).trans cc0
  have d1 : wd1.cell? ⟨A, 1, none⟩ = some (.slice ga xs0.length gb) := (Below.celz nb _ _ _ (by omega)).trans cc1
  have d2 : wd1.cell? ⟨C, 0, none⟩ = some (.int .i64 (paZ z0 xs0 xs1)) := (Below.celz nb _ _ _ (by omega)).trans cc2
  have d3 : wd1.cell? ⟨C, 1, none⟩ = some (.slice pa (paL z0 xs0 xs1).length pb) := (Below.celz nb _ _ _ (by omega)).trans cc3
  have y0 : A < wd1.heap.size := by have := Below.size nb; omega
  have y1 : C < wd1.heap.size := by have := Below.size nb; omega
  clear cc0 cc1 cc2 cc3 zz0 zz1
  have cc0 := d0
  have cc1 := d1
  have cc2 := d2
  have cc3 := d3
  have zz0 := y0
  have zz1 := y1
  clear d0 d1 d2 d3 y0 y1
  have cc4 := k1
  have cc5 := k2
  have zz2 : D < wd1.heap.size := by omega
  rw [← hD]
  clear k1 k2 k3 hW
  have Bd1 : Below A w wd1 := Bd.trans (nb.mono (by omega))
  have Ld1 : Below M wc wd1 := Ld.trans (nb.mono (by omega))
  have hMD : M ≤ D := by omega
  have hDw : D < wd1.heap.size := zz2
  have HX1 : Hid (OwnPool wd1 wc.heap.size (.slice xa xs0.length xb) xs0) := HX.out.keep nb
  have HAX : Hid (∀ k, (Value.slice xa xs0.length xb).ownBlock = some k → M ≤ k ∧ k < D) := fun k hk => by have := HX.out.lt k hk; omega
  clear hD nb Bd Ld HX hMd
  go_wp2_with fail
  refine (toPageS _ xs1 _ (HK.out _ Bd1).2.2 l1).mono ?_
  rintro e wd2 ⟨x2, rfl, og4, be⟩
  have Bd2 : Below A w wd2 := Bd1.trans (be.mono (by omega))
  have Ld2 : Below M wc wd2 := Ld1.trans (be.mono (by omega))
  have d0 : wd2.cell? ⟨A, 0, none⟩ = some (.int .i64 z0) := (Below.celz be _ _ _ (by omega)).trans cc0
  have d1 : wd2.cell? ⟨A, 1, none⟩ = some (.slice ga xs0.length gb) := (Below.celz be _ _ _ (by omega)).trans cc1
  have d2 : wd2.cell? ⟨C, 0, none⟩ = some (.int .i64 (paZ z0 xs0 xs1)) := (Below.celz be _ _ _ (by omega)).trans cc2
  have d3 : wd2.cell? ⟨C, 1, none⟩ = some (.slice pa (paL z0 xs0 xs1).length pb) := (Below.celz be _ _ _ (by omega)).trans cc3
  have d4 : wd2.cell? ⟨D, 0, none⟩ = some (.int .i64 z0) := (Below.celz be _ _ _ (by omega)).trans cc4
  have d5 : wd2.cell? ⟨D, 1, none⟩ = some (.slice xa xs0.length xb) := (Below.celz be _ _ _ (by omega)).trans cc5
  have y0 : A < wd2.heap.size := by have := Below.size be; omega
  have y1 : C < wd2.heap.size := by have := Below.size be; omega
  have y2 : D < wd2.heap.size := by have := Below.size be; omega
  clear cc0 cc1 cc2 cc3 cc4 cc5 zz0 zz1 zz2
  have cc0 := d0
  have cc1 := d1
  have cc2 := d2
  have cc3 := d3
  have cc4 := d4
  have cc5 := d5
  have zz0 := y0
  have zz1 := y1
  have zz2 := y2
  clear d0 d1 d2 d3 d4 d5 y0 y1 y2
  obtain ⟨ka, kb, rfl⟩ := own_form og4
  have HX2 : Hid (OwnPool wd2 wc.heap.size (.slice xa xs0.length xb) xs0) := HX1.out.keep be
  have hDd : D < wd2.heap.size := zz2
  have HAY0 : Hid (∀ k, (Value.slice ka xs1.length kb).ownBlock = some k → D < k ∧ k < wd2.heap.size) := fun k hk => by have := og4.lt k hk; have : D < wd1.heap.size := hDw; omega
  have HY2 : Hid (OwnPool wd2 wd1.heap.size (.slice ka xs1.length kb) xs1) := og4
  obtain ⟨N, hN⟩ : ∃ N, N = wd2.heap.size := ⟨_, rfl⟩
  have hDN : D < N := by omega
  have HAY : Hid (∀ k, (Value.slice ka xs1.length kb).ownBlock = some k → D < k ∧ k < N) := by rw [hN]; exact HAY0
  have HN : Hid (N = wd2.heap.size) := hN
  clear be Bd1 Ld1 HX1 og4 HAY0 hN
  go_wp2_with fail
  refine (impl_PoolAll _ _ _ xs0 xs1 _ HX2.out.row HY2.out.row l0 l1 (HK.out _ Bd2).2.1).mono ?_
  rintro e we0 ⟨g1, rfl, og, be⟩
  have Be0 : Below A w we0 := Bd2.trans (be.mono (by omega))
  have Le0 : Below M wc we0 := Ld2.trans (be.mono (by omega))
  have d0 : we0.cell? ⟨A, 0, none⟩ = some (.int .i64 z0) := (Below.celz be _ _ _ (by omega)).trans cc0
  have d1 : we0.cell? ⟨A, 1, none⟩ = some (.slice ga xs0.length gb) := (Below.celz be _ _ _ (by omega)).trans cc1
  have d2 : we0.cell? ⟨C, 0, none⟩ = some (.int .i64 (paZ z0 xs0 xs1)) := (Below.celz be _ _ _ (by omega)).trans cc2
  have d3 : we0.cell? ⟨C, 1, none⟩ = some (.slice pa (paL z0 xs0 xs1).length pb) := (Below.celz be _ _ _ (by omega)).trans cc3
  have d4 : we0.cell? ⟨D, 0, none⟩ = some (.int .i64 z0) := (Below.celz be _ _ _ (by omega)).trans cc4
  have d5 : we0.cell? ⟨D, 1, none⟩ = some (.slice xa xs0.length xb) := (Below.celz be _ _ _ (by omega)).trans cc5
  have y0 : A < we0.heap.size := by have := Below.size be; omega
  have y1 : C < we0.heap.size := by have := Below.size be; omega
  have y2 : D < we0.heap.size := by have := Below.size be; omega
  clear cc0 cc1 cc2 cc3 cc4 cc5 zz0 zz1 zz2
  have cc0 := d0
  have cc1 := d1
  have cc2 := d2
  have cc3 := d3
  have cc4 := d4
  have cc5 := d5
  have zz0 := y0
  have zz1 := y1
  have zz2 := y2
  clear d0 d1 d2 d3 d4 d5 y0 y1 y2
  obtain ⟨ya, yb, rfl⟩ := og.form
  have HX30 : Hid (OwnPool we0 wc.heap.size (.slice xa xs0.length xb) xs0) := HX2.out.keep be
  have HY30 : Hid (OwnPool we0 wd1.heap.size (.slice ka xs1.length kb) xs1) := HY2.out.keep be
  have HG30 : Hid (OwnPool we0 wd2.heap.size (.slice ya (paL z0 xs0 xs1).length yb) (paL z0 xs0 xs1)) := og
  have hNe : N ≤ we0.heap.size := by rw [HN.out]; exact be.size
  clear be og HX2 HY2 Bd2 Ld2
  go_wp2_with fail
  obtain ⟨E, hE⟩ : ∃ B, B = we0.heap.size := ⟨_, rfl⟩
  generalize hW : we0.alloc (.cells #[.int .i64 (paZ z0 xs0 xs1), .slice ya (paL z0 xs0 xs1).length yb] 29) = we
  have nb : Below we0.heap.size we0 we := by rw [← hW]; exact (Below.refl _ _).alloc (Nat.le_refl _) _
  have k1 : we.cell? ⟨E, 0, none⟩ = some (.int .i64 (paZ z0 xs0 xs1)) := by rw [← hW, hE]; simp [go_sem]
  have k2 : we.cell? ⟨E, 1, none⟩ = some (.slice ya (paL z0 xs0 xs1).length yb) := by rw [← hW, hE]; simp [go_sem]
  have k3 : we.heap.size = E + 1 := by rw [← hW, hE]; simp
  have oE0 : A < E := by rw [hE]; exact zz0
  have oE1 : C < E := by rw [hE]; exact zz1
  have oE2 : D < E := by rw [hE]; exact zz2
  have d0 : we.cell? ⟨A, 0, none⟩ = some (.int .i64 z0) := (Below.celz nb _ _ _ (by omega)).trans cc0
  have d1 : we.cell? ⟨A, 1, none⟩ = some (.slice ga xs0.length gb) := (Below.celz nb _ _ _ (by omega)).trans cc1
  have d2 : we.cell? ⟨C, 0, none⟩ = some (.int .i64 (paZ z0 xs0 xs1)) := (Below.celz nb _ _ _ (by omega)).trans cc2
  have d3 : we.cell? ⟨C, 1, none⟩ = some (.slice pa (paL z0 xs0 xs1).length pb) := (Below.celz nb _ _ _ (by omega)).trans cc3
  have d4 : we.cell? ⟨D, 0, none⟩ = some (.int .i64 z0) := (Below.celz nb _ _ _ (by omega)).trans cc4
  have d5 : we.cell? ⟨D, 1, none⟩ = some (.slice xa xs0.length xb) := (Below.celz nb _ _ _ (by omega)).trans cc5
  have y0 : A < we.heap.size := by have := Below.size nb; omega
  have y1 : C < we.heap.size := by have := Below.size nb; omega
  have y2 : D < we.heap.size := by have := Below.size nb; omega
  clear cc0 cc1 cc2 cc3 cc4 cc5 zz0 zz1 zz2
  have cc0 := d0
  have cc1 := d1
  have cc2 := d2
  have cc3 := d3
  have cc4 := d4
  have cc5 := d5
  have zz0 := y0
  have zz1 := y1
  have zz2 := y2
  clear d0 d1 d2 d3 d4 d5 y0 y1 y2
  have cc6 := k1
  have cc7 := k2
  have zz3 : E < we.heap.size := by omega
  rw [← hE]
  clear k1 k2 k3 hW
  have Be : Below A w we := Be0.trans (nb.mono (by omega))
  have Le : Below M wc we := Le0.trans (nb.mono (by omega))
  have hNE : N ≤ E := by rw [hE]; exact hNe
  have HX3 : Hid (OwnPool we wc.heap.size (.slice xa xs0.length xb) xs0) := HX30.out.keep nb
  have HY3 : Hid (OwnPool we wd1.heap.size (.slice ka xs1.length kb) xs1) := HY30.out.keep nb
  have HG3 : Hid (OwnPool we wd2.heap.size (.slice ya (paL z0 xs0 xs1).length yb) (paL z0 xs0 xs1)) := HG30.out.keep nb
  have HAG : Hid (∀ k, (Value.slice ya (paL z0 xs0 xs1).length yb).ownBlock = some k → N ≤ k ∧ k ≠ E) := fun k hk => ⟨by rw [HN.out]; exact (HG30.out.lt k hk).1, by have := (HG30.out.lt k hk).2; omega⟩
  have hne : ((paN z0 xs0 xs1 : Int) != (paN z0 xs0 xs1 : Int)) = false := by simp
  clear hE nb Be0 Le0 HX30 HY30 HG30 hNe
  go_wp2_with fail
  refine (eqPool_same (paZ z0 xs0 xs1) _ _ (paL z0 xs0 xs1) _ HG3.out.row (HW.out _ Le) (by omega)).mono ?_
  rintro e wf ⟨rfl, bf⟩
  have Bf : Below A w wf := Be.trans (bf.mono (by omega))
  have Lf : Below M wc wf := Le.trans (bf.mono (by omega))
  have d0 : wf.cell? ⟨A, 0, none⟩ = some (.int .i64 z0) := (Below.celz bf _ _ _ (by omega)).trans cc0
  have d1 : wf.cell? ⟨A, 1, none⟩ = some (.slice ga xs0.length gb) := (Below.celz bf _ _ _ (by omega)).trans cc1
  have d2 : wf.cell? ⟨C, 0, none⟩ = some (.int .i64 (paZ z0 xs0 xs1)) := (Below.celz bf _ _ _ (by omega)).trans cc2
  have d3 : wf.cell? ⟨C, 1, none⟩ = some (.slice pa (paL z0 xs0 xs1).length pb) := (Below.celz bf _ _ _ (by omega)).trans cc3
  have d4 : wf.cell? ⟨D, 0, none⟩ = some (.int .i64 z0) := (Below.celz bf _ _ _ (by omega)).trans cc4
  have d5 : wf.cell? ⟨D, 1, none⟩ = some (.slice xa xs0.length xb) := (Below.celz bf _ _ _ (by omega)).trans cc5
  have d6 : wf.cell? ⟨E, 0, none⟩ = some (.int .i64 (paZ z0 xs0 xs1)) := (Below.celz bf _ _ _ (by omega)).trans cc6
  have d7 : wf.cell? ⟨E, 1, none⟩ = some (.slice ya (paL z0 xs0 xs1).length yb) := (Below.celz bf _ _ _ (by omega)).trans cc7
  have y0 : A < wf.heap.size := by have := Below.size bf; omega
  have y1 : C < wf.heap.size := by have := Below.size bf; omega
  have y2 : D < wf.heap.size := by have := Below.size bf; omega
  have y3 : E < wf.heap.size := by have := Below.size bf; omega
  clear cc0 cc1 cc2 cc3 cc4 cc5 cc6 cc7 zz0 zz1 zz2 zz3
  have cc0 := d0
  have cc1 := d1
  have cc2 := d2
  have cc3 := d3
  have cc4 := d4
  have cc5 := d5
  have cc6 := d6
  have cc7 := d7
  have zz0 := y0
  have zz1 := y1
  have zz2 := y2
  have zz3 := y3
  clear d0 d1 d2 d3 d4 d5 d6 d7 y0 y1 y2 y3
  have HX4 : Hid (OwnPool wf wc.heap.size (.slice xa xs0.length xb) xs0) := HX3.out.keep bf
  have HY4 : Hid (OwnPool wf wd1.heap.size (.slice ka xs1.length kb) xs1) := HY3.out.keep bf
  have HG4 : Hid (OwnPool wf wd2.heap.size (.slice ya (paL z0 xs0 xs1).length yb) (paL z0 xs0 xs1)) := HG3.out.keep bf
  clear bf Be Le HX3 HY3 HG3
  go_wp2_with fail
  have hS : Hid (∀ w', Below wf.heap.size wf w' → Below wf.heap.size wf w' ∧ w'.cell? ⟨A, 0, none⟩ = some (.int .i64 z0) ∧ w'.cell? ⟨A, 1, none⟩ = some (.slice ga xs0.length gb) ∧ w'.cell? ⟨D, 0, none⟩ = some (.int .i64 z0) ∧ w'.cell? ⟨D, 1, none⟩ = some (.slice xa xs0.length xb)) := fun w' hn => ⟨hn, (Below.celz hn _ _ _ zz0).trans cc0, (Below.celz hn _ _ _ zz0).trans cc1, (Below.celz hn _ _ _ zz2).trans cc4, (Below.celz hn _ _ _ zz2).trans cc5⟩
  have HF : Hid (∀ W, Below wf.heap.size wf W → RowAt 2 encPage W (.slice ga xs0.length gb) xs0 ∧ FormAt W) := fun W h => by have h2 := HK.out W (Bf.trans (h.mono (by omega))); exact ⟨h2.1, h2.2.1⟩
  go_region_held3 (fun w' => Below wf.heap.size wf w' ∧ w'.cell? ⟨A, 0, none⟩ = some (.int .i64 z0) ∧ w'.cell? ⟨A, 1, none⟩ = some (.slice ga xs0.length gb) ∧ w'.cell? ⟨D, 0, none⟩ = some (.int .i64 z0) ∧ w'.cell? ⟨D, 1, none⟩ = some (.slice xa xs0.length xb))
    (first | with_reducible exact hS.out _ (Below.refl _ _).drew | (with_reducible exact hS.out _ (keep_below (And.left (by assumption)) tj2)) | (with_reducible exact hS.out _ (keep_below (And.left (by assumption)) tj1)))
    (first | (go_at_call 7; refine (toPool _ _ xs0 _ (HF.out _ (And.left (by assumption))).1 l0).mono ?_; rintro e wi ⟨s2, rfl, oi, tj1⟩) | (go_at_call 10; refine (eqPool_same z0 _ _ xs0 _ (HX4.out.keep (And.left (by assumption))).row oi.row l0).mono ?_; rintro e wj ⟨rfl, tj2⟩))
  have bj : Below wf.heap.size wf wj := by
    have : Below wf.heap.size wf wj ∧ wj.cell? ⟨A, 0, none⟩ = some (.int .i64 z0) ∧ wj.cell? ⟨A, 1, none⟩ = some (.slice ga xs0.length gb) ∧ wj.cell? ⟨D, 0, none⟩ = some (.int .i64 z0) ∧ wj.cell? ⟨D, 1, none⟩ = some (.slice xa xs0.length xb) := by assumption
    exact this.1
  clear tj1 tj2 hS HF
  have Bj : Below A w wj := Bf.trans (bj.mono (by omega))
  have Lj : Below M wc wj := Lf.trans (bj.mono (by omega))
  have d0 : wj.cell? ⟨A, 0, none⟩ = some (.int .i64 z0) := (Below.celz bj _ _ _ (by omega)).trans cc0
  have d1 : wj.cell? ⟨A, 1, none⟩ = some (.slice ga xs0.length gb) := (Below.celz bj _ _ _ (by omega)).trans cc1
  have d2 : wj.cell? ⟨C, 0, none⟩ = some (.int .i64 (paZ z0 xs0 xs1)) := (Below.celz bj _ _ _ (by omega)).trans cc2
  have d3 : wj.cell? ⟨C, 1, none⟩ = some (.slice pa (paL z0 xs0 xs1).length pb) := (Below.celz bj _ _ _ (by omega)).trans cc3
  have d4 : wj.cell? ⟨D, 0, none⟩ = some (.int .i64 z0) := (Below.celz bj _ _ _ (by omega)).trans cc4
  have d5 : wj.cell? ⟨D, 1, none⟩ = some (.slice xa xs0.length xb) := (Below.celz bj _ _ _ (by omega)).trans cc5
  have d6 : wj.cell? ⟨E, 0, none⟩ = some (.int .i64 (paZ z0 xs0 xs1)) := (Below.celz bj _ _ _ (by omega)).trans cc6
  have d7 : wj.cell? ⟨E, 1, none⟩ = some (.slice ya (paL z0 xs0 xs1).length yb) := (Below.celz bj _ _ _ (by omega)).trans cc7
  have y0 : A < wj.heap.size := by have := Below.size bj; omega
  have y1 : C < wj.heap.size := by have := Below.size bj; omega
  have y2 : D < wj.heap.size := by have := Below.size bj; omega
  have y3 : E < wj.heap.size := by have := Below.size bj; omega
  clear cc0 cc1 cc2 cc3 cc4 cc5 cc6 cc7 zz0 zz1 zz2 zz3
  have cc0 := d0
  have cc1 := d1
  have cc2 := d2
  have cc3 := d3
  have cc4 := d4
  have cc5 := d5
  have cc6 := d6
  have cc7 := d7
  have zz0 := y0
  have zz1 := y1
  have zz2 := y2
  have zz3 := y3
  clear d0 d1 d2 d3 d4 d5 d6 d7 y0 y1 y2 y3
  have HX5 : Hid (OwnPool wj wc.heap.size (.slice xa xs0.length xb) xs0) := HX4.out.keep bj
  have HY5 : Hid (OwnPool wj wd1.heap.size (.slice ka xs1.length kb) xs1) := HY4.out.keep bj
  have HG5 : Hid (OwnPool wj wd2.heap.size (.slice ya (paL z0 xs0 xs1).length yb) (paL z0 xs0 xs1)) := HG4.out.keep bj
  clear bj Bf Lf HX4 HY4 HG4
  go_wp2_with fail
  refine (toPageS _ xs1 _ (HK.out _ Bj).2.2 l1).mono ?_
  rintro e wj1 ⟨x9, rfl, og9, bj1⟩
  have Bj1 : Below A w wj1 := Bj.trans (bj1.mono (by omega))
  have Lj1 : Below M wc wj1 := Lj.trans (bj1.mono (by omega))
  have d0 : wj1.cell? ⟨A, 0, none⟩ = some (.int .i64 z0) := (Below.celz bj1 _ _ _ (by omega)).trans cc0
  have d1 : wj1.cell? ⟨A, 1, none⟩ = some (.slice ga xs0.length gb) := (Below.celz bj1 _ _ _ (by omega)).trans cc1
  have d2 : wj1.cell? ⟨C, 0, none⟩ = some (.int .i64 (paZ z0 xs0 xs1)) := (Below.celz bj1 _ _ _ (by omega)).trans cc2
  have d3 : wj1.cell? ⟨C, 1, none⟩ = some (.slice pa (paL z0 xs0 xs1).length pb) := (Below.celz bj1 _ _ _ (by omega)).trans cc3
  have d4 : wj1.cell? ⟨D, 0, none⟩ = some (.int .i64 z0) := (Below.celz bj1 _ _ _ (by omega)).trans cc4
  have d5 : wj1.cell? ⟨D, 1, none⟩ = some (.slice xa xs0.length xb) := (Below.celz bj1 _ _ _ (by omega)).trans cc5
  have d6 : wj1.cell? ⟨E, 0, none⟩ = some (.int .i64 (paZ z0 xs0 xs1)) := (Below.celz bj1 _ _ _ (by omega)).trans cc6
  have d7 : wj1.cell? ⟨E, 1, none⟩ = some (.slice ya (paL z0 xs0 xs1).length yb) := (Below.celz bj1 _ _ _ (by omega)).trans cc7
  have y0 : A < wj1.heap.size := by have := Below.size bj1; omega
  have y1 : C < wj1.heap.size := by have := Below.size bj1; omega
  have y2 : D < wj1.heap.size := by have := Below.size bj1; omega
  have y3 : E < wj1.heap.size := by have := Below.size bj1; omega
  clear cc0 cc1 cc2 cc3 cc4 cc5 cc6 cc7 zz0 zz1 zz2 zz3
  have cc0 := d0
  have cc1 := d1
  have cc2 := d2
  have cc3 := d3
  have cc4 := d4
  have cc5 := d5
  have cc6 := d6
  have cc7 := d7
  have zz0 := y0
  have zz1 := y1
  have zz2 := y2
  have zz3 := y3
  clear d0 d1 d2 d3 d4 d5 d6 d7 y0 y1 y2 y3
  have HX51 : Hid (OwnPool wj1 wc.heap.size (.slice xa xs0.length xb) xs0) := HX5.out.keep bj1
  have HY51 : Hid (OwnPool wj1 wd1.heap.size (.slice ka xs1.length kb) xs1) := HY5.out.keep bj1
  have HG51 : Hid (OwnPool wj1 wd2.heap.size (.slice ya (paL z0 xs0 xs1).length yb) (paL z0 xs0 xs1)) := HG5.out.keep bj1
  have H9 : Hid (RowAt 2 encPage wj1 x9 xs1) := row_of_own encPage_len (by decide) og9
  have heq1 : eqB xs1 xs1 = true := eqB_true.2 rfl
  clear bj1 Bj Lj HX5 HY5 HG5 og9
  go_wp2_with fail
  refine (eqPageS _ _ xs1 xs1 _ HY51.out.row H9.out l1 l1).mono ?_
  rw [heq1]
  rintro e wj2 ⟨rfl, bj2⟩
  have Bj2 : Below A w wj2 := Bj1.trans (bj2.mono (by omega))
  have Lj2 : Below M wc wj2 := Lj1.trans (bj2.mono (by omega))
  have d0 : wj2.cell? ⟨A, 0, none⟩ = some (.int .i64 z0) := (Below.celz bj2 _ _ _ (by omega)).trans cc0
  have d1 : wj2.cell? ⟨A, 1, none⟩ = some (.slice ga xs0.length gb) := (Below.celz bj2 _ _ _ (by omega)).trans cc1
  have d2 : wj2.cell? ⟨C, 0, none⟩ = some (.int .i64 (paZ z0 xs0 xs1)) := (Below.celz bj2 _ _ _ (by omega)).trans cc2
  have d3 : wj2.cell? ⟨C, 1, none⟩ = some (.slice pa (paL z0 xs0 xs1).length pb) := (Below.celz bj2 _ _ _ (by omega)).trans cc3
  have d4 : wj2.cell? ⟨D, 0, none⟩ = some (.int .i64 z0) := (Below.celz bj2 _ _ _ (by omega)).trans cc4
  have d5 : wj2.cell? ⟨D, 1, none⟩ = some (.slice xa xs0.length xb) := (Below.celz bj2 _ _ _ (by omega)).trans cc5
  have d6 : wj2.cell? ⟨E, 0, none⟩ = some (.int .i64 (paZ z0 xs0 xs1)) := (Below.celz bj2 _ _ _ (by omega)).trans cc6
  have d7 : wj2.cell? ⟨E, 1, none⟩ = some (.slice ya (paL z0 xs0 xs1).length yb) := (Below.celz bj2 _ _ _ (by omega)).trans cc7
  have y0 : A < wj2.heap.size := by have := Below.size bj2; omega
  have y1 : C < wj2.heap.size := by have := Below.size bj2; omega
  have y2 : D < wj2.heap.size := by have := Below.size bj2; omega
  have y3 : E < wj2.heap.size := by have := Below.size bj2; omega
  clear cc0 cc1 cc2 cc3 cc4 cc5 cc6 cc7 zz0 zz1 zz2 zz3
  have cc0 := d0
  have cc1 := d1
  have cc2 := d2
  have cc3 := d3
  have cc4 := d4
  have cc5 := d5
  have cc6 := d6
  have cc7 := d7
  have zz0 := y0
  have zz1 := y1
  have zz2 := y2
  have zz3 := y3
  clear d0 d1 d2 d3 d4 d5 d6 d7 y0 y1 y2 y3
  have HX52 : Hid (OwnPool wj2 wc.heap.size (.slice xa xs0.length xb) xs0) := HX51.out.keep bj2
  have HY52 : Hid (OwnPool wj2 wd1.heap.size (.slice ka xs1.length kb) xs1) := HY51.out.keep bj2
  have HG52 : Hid (OwnPool wj2 wd2.heap.size (.slice ya (paL z0 xs0 xs1).length yb) (paL z0 xs0 xs1)) := HG51.out.keep bj2
  clear bj2 Bj1 Lj1 HX51 HY51 HG51 H9 heq1
  go_wp2_with fail
  refine (markPool _ xs0.length _ _ _ _ _ (by omega) (by omega) l0 HX52.out).mono ?_
  rintro e wk0 ⟨rfl, _, bk⟩
  have Bk0 : Below A w wk0 := Bj2.grown bk (by omega) (fun k h => by have := HAX.out _ h; omega)
  have Lk0 : Below M wc wk0 := Lj2.grown bk (by omega) (fun k h => by have := HAX.out _ h; omega)
  have d0 : wk0.cell? ⟨A, 0, none⟩ = some (.int .i64 z0) := bk.cell cc0 (fun h => by have := HAX.out (A) h.symm; omega)
  have d1 : wk0.cell? ⟨A, 1, none⟩ = some (.slice ga xs0.length gb) := bk.cell cc1 (fun h => by have := HAX.out (A) h.symm; omega)
  have d2 : wk0.cell? ⟨C, 0, none⟩ = some (.int .i64 (paZ z0 xs0 xs1)) := bk.cell cc2 (fun h => by have := HAX.out (C) h.symm; omega)
  have d3 : wk0.cell? ⟨C, 1, none⟩ = some (.slice pa (paL z0 xs0 xs1).length pb) := bk.cell cc3 (fun h => by have := HAX.out (C) h.symm; omega)
  have d4 : wk0.cell? ⟨D, 0, none⟩ = some (.int .i64 z0) := bk.cell cc4 (fun h => by have := HAX.out (D) h.symm; omega)
  have d5 : wk0.cell? ⟨D, 1, none⟩ = some (.slice xa xs0.length xb) := bk.cell cc5 (fun h => by have := HAX.out (D) h.symm; omega)
  have d6 : wk0.cell? ⟨E, 0, none⟩ = some (.int .i64 (paZ z0 xs0 xs1)) := bk.cell cc6 (fun h => by have := HAX.out (E) h.symm; omega)
  have d7 : wk0.cell? ⟨E, 1, none⟩ = some (.slice ya (paL z0 xs0 xs1).length yb) := bk.cell cc7 (fun h => by have := HAX.out (E) h.symm; omega)
  have y0 : A < wk0.heap.size := by have := bk.size; omega
  have y1 : C < wk0.heap.size := by have := bk.size; omega
  have y2 : D < wk0.heap.size := by have := bk.size; omega
  have y3 : E < wk0.heap.size := by have := bk.size; omega
  clear cc0 cc1 cc2 cc3 cc4 cc5 cc6 cc7 zz0 zz1 zz2 zz3
  have cc0 := d0
  have cc1 := d1
  have cc2 := d2
  have cc3 := d3
  have cc4 := d4
  have cc5 := d5
  have cc6 := d6
  have cc7 := d7
  have zz0 := y0
  have zz1 := y1
  have zz2 := y2
  have zz3 := y3
  clear d0 d1 d2 d3 d4 d5 d6 d7 y0 y1 y2 y3
  have HY53 : Hid (OwnPool wk0 wd1.heap.size (.slice ka xs1.length kb) xs1) := own_grownP HY52.out bk (fun k h e => by have := HAX.out _ e; have := HAY.out _ h; omega)
  have HG53 : Hid (OwnPool wk0 wd2.heap.size (.slice ya (paL z0 xs0 xs1).length yb) (paL z0 xs0 xs1)) := own_grownP HG52.out bk (fun k h e => by have := HAX.out _ e; have := HAG.out _ h; omega)
  clear bk Bj2 Lj2 HX52 HY52 HG52
  go_wp2_with fail
  refine (markPageS _ xs1.length _ _ _ _ (by omega) (by omega) l1 HY53.out).mono ?_
  rintro e wk ⟨rfl, _, bk⟩
  have Bk : Below A w wk := Bk0.grown bk (by omega) (fun k h => by have := HAY.out _ h; omega)
  have Lk : Below M wc wk := Lk0.grown bk (by omega) (fun k h => by have := HAY.out _ h; omega)
  have d0 : wk.cell? ⟨A, 0, none⟩ = some (.int .i64 z0) := bk.cell cc0 (fun h => by have := HAY.out (A) h.symm; omega)
  have d1 : wk.cell? ⟨A, 1, none⟩ = some (.slice ga xs0.length gb) := bk.cell cc1 (fun h => by have := HAY.out (A) h.symm; omega)
  have d2 : wk.cell? ⟨C, 0, none⟩ = some (.int .i64 (paZ z0 xs0 xs1)) := bk.cell cc2 (fun h => by have := HAY.out (C) h.symm; omega)
  have d3 : wk.cell? ⟨C, 1, none⟩ = some (.slice pa (paL z0 xs0 xs1).length pb) := bk.cell cc3 (fun h => by have := HAY.out (C) h.symm; omega)
  have d4 : wk.cell? ⟨D, 0, none⟩ = some (.int .i64 z0) := bk.cell cc4 (fun h => by have := HAY.out (D) h.symm; omega)
  have d5 : wk.cell? ⟨D, 1, none⟩ = some (.slice xa xs0.length xb) := bk.cell cc5 (fun h => by have := HAY.out (D) h.symm; omega)
  have d6 : wk.cell? ⟨E, 0, none⟩ = some (.int .i64 (paZ z0 xs0 xs1)) := bk.cell cc6 (fun h => by have := HAY.out (E) h.symm; omega)
  have d7 : wk.cell? ⟨E, 1, none⟩ = some (.slice ya (paL z0 xs0 xs1).length yb) := bk.cell cc7 (fun h => by have := HAY.out (E) h.symm; omega)
  have y0 : A < wk.heap.size := by have := bk.size; omega
  have y1 : C < wk.heap.size := by have := bk.size; omega
  have y2 : D < wk.heap.size := by have := bk.size; omega
  have y3 : E < wk.heap.size := by have := bk.size; omega
  clear cc0 cc1 cc2 cc3 cc4 cc5 cc6 cc7 zz0 zz1 zz2 zz3
  have cc0 := d0
  have cc1 := d1
  have cc2 := d2
  have cc3 := d3
  have cc4 := d4
  have cc5 := d5
  have cc6 := d6
  have cc7 := d7
  have zz0 := y0
  have zz1 := y1
  have zz2 := y2
  have zz3 := y3
  clear d0 d1 d2 d3 d4 d5 d6 d7 y0 y1 y2 y3
  have HG6 : Hid (OwnPool wk wd2.heap.size (.slice ya (paL z0 xs0 xs1).length yb) (paL z0 xs0 xs1)) := own_grownP HG53.out bk (fun k h e => by have := HAY.out _ e; have := HAG.out _ h; omega)
  clear bk Bk0 Lk0 HY53 HG53
  go_wp2_with fail
  refine (eqPool_same (paZ z0 xs0 xs1) _ _ (paL z0 xs0 xs1) _ HG6.out.row (HW.out _ Lk) (by omega)).mono ?_
  rintro e wl ⟨rfl, bl⟩
  have Bl : Below A w wl := Bk.trans (bl.mono (by omega))
  have Ll : Below M wc wl := Lk.trans (bl.mono (by omega))
  have d0 : wl.cell? ⟨A, 0, none⟩ = some (.int .i64 z0) := (Below.celz bl _ _ _ (by omega)).trans cc0
  have d1 : wl.cell? ⟨A, 1, none⟩ = some (.slice ga xs0.length gb) := (Below.celz bl _ _ _ (by omega)).trans cc1
  have d2 : wl.cell? ⟨C, 0, none⟩ = some (.int .i64 (paZ z0 xs0 xs1)) := (Below.celz bl _ _ _ (by omega)).trans cc2
  have d3 : wl.cell? ⟨C, 1, none⟩ = some (.slice pa (paL z0 xs0 xs1).length pb) := (Below.celz bl _ _ _ (by omega)).trans cc3
  have d4 : wl.cell? ⟨D, 0, none⟩ = some (.int .i64 z0) := (Below.celz bl _ _ _ (by omega)).trans cc4
  have d5 : wl.cell? ⟨D, 1, none⟩ = some (.slice xa xs0.length xb) := (Below.celz bl _ _ _ (by omega)).trans cc5
  have d6 : wl.cell? ⟨E, 0, none⟩ = some (.int .i64 (paZ z0 xs0 xs1)) := (Below.celz bl _ _ _ (by omega)).trans cc6
  have d7 : wl.cell? ⟨E, 1, none⟩ = some (.slice ya (paL z0 xs0 xs1).length yb) := (Below.celz bl _ _ _ (by omega)).trans cc7
  have y0 : A < wl.heap.size := by have := Below.size bl; omega
  have y1 : C < wl.heap.size := by have := Below.size bl; omega
  have y2 : D < wl.heap.size := by have := Below.size bl; omega
  have y3 : E < wl.heap.size := by have := Below.size bl; omega
  clear cc0 cc1 cc2 cc3 cc4 cc5 cc6 cc7 zz0 zz1 zz2 zz3
  have cc0 := d0
  have cc1 := d1
  have cc2 := d2
  have cc3 := d3
  have cc4 := d4
  have cc5 := d5
  have cc6 := d6
  have cc7 := d7
  have zz0 := y0
  have zz1 := y1
  have zz2 := y2
  have zz3 := y3
  clear d0 d1 d2 d3 d4 d5 d6 d7 y0 y1 y2 y3
  have HG7 : Hid (OwnPool wl wd2.heap.size (.slice ya (paL z0 xs0 xs1).length yb) (paL z0 xs0 xs1)) := HG6.out.keep bl
  clear bl Bk Lk HG6
  go_wp2_with fail
  refine (markPool _ (paL z0 xs0 xs1).length _ _ _ _ _ (by omega) (by omega) (by omega) HG7.out).mono ?_
  rintro e wm ⟨rfl, og7, bm⟩
  have Bm : Below A w wm := Bl.grown bm (by omega) (fun k h => by have := HAG.out _ h; omega)
  have Lm : Below M wc wm := Ll.grown bm (by omega) (fun k h => by have := HAG.out _ h; omega)
  have HG8 : Hid (OwnPool wm wd2.heap.size (.slice ya (paL z0 xs0 xs1).length yb) (marksPage 1 (paL z0 xs0 xs1).length)) := by show OwnPool wm wd2.heap.size (.slice ya (paL z0 xs0 xs1).length yb) (marksPage 1 (paL z0 xs0 xs1).length); unfold OwnPool; rw [marksPage_len]; exact og7
  clear og7
  have d0 : wm.cell? ⟨A, 0, none⟩ = some (.int .i64 z0) := bm.cell cc0 (fun h => by have := HAG.out (A) h.symm; omega)
  have d1 : wm.cell? ⟨A, 1, none⟩ = some (.slice ga xs0.length gb) := bm.cell cc1 (fun h => by have := HAG.out (A) h.symm; omega)
  have d2 : wm.cell? ⟨C, 0, none⟩ = some (.int .i64 (paZ z0 xs0 xs1)) := bm.cell cc2 (fun h => by have := HAG.out (C) h.symm; omega)
  have d3 : wm.cell? ⟨C, 1, none⟩ = some (.slice pa (paL z0 xs0 xs1).length pb) := bm.cell cc3 (fun h => by have := HAG.out (C) h.symm; omega)
  have d4 : wm.cell? ⟨D, 0, none⟩ = some (.int .i64 z0) := bm.cell cc4 (fun h => by have := HAG.out (D) h.symm; omega)
  have d5 : wm.cell? ⟨D, 1, none⟩ = some (.slice xa xs0.length xb) := bm.cell cc5 (fun h => by have := HAG.out (D) h.symm; omega)
  have d6 : wm.cell? ⟨E, 0, none⟩ = some (.int .i64 (paZ z0 xs0 xs1)) := bm.cell cc6 (fun h => by have := HAG.out (E) h.symm; omega)
  have d7 : wm.cell? ⟨E, 1, none⟩ = some (.slice ya (paL z0 xs0 xs1).length yb) := bm.cell cc7 (fun h => by have := HAG.out (E) h.symm; omega)
  have y0 : A < wm.heap.size := by have := bm.size; omega
  have y1 : C < wm.heap.size := by have := bm.size; omega
  have y2 : D < wm.heap.size := by have := bm.size; omega
  have y3 : E < wm.heap.size := by have := bm.size; omega
  clear cc0 cc1 cc2 cc3 cc4 cc5 cc6 cc7 zz0 zz1 zz2 zz3
  have cc0 := d0
  have cc1 := d1
  have cc2 := d2
  have cc3 := d3
  have cc4 := d4
  have cc5 := d5
  have cc6 := d6
  have cc7 := d7
  have zz0 := y0
  have zz1 := y1
  have zz2 := y2
  have zz3 := y3
  clear d0 d1 d2 d3 d4 d5 d6 d7 y0 y1 y2 y3
  clear bm Bl Ll HG7
  go_wp2_with fail
  refine (heldPool (paL z0 xs0 xs1).length _ _ _ _ (by omega) (by omega) (by omega) HG8.out.row).mono ?_
  rintro e wn ⟨rfl, bn⟩
  have Bn : Below A w wn := Bm.trans (bn.mono (by omega))
  have Ln : Below M wc wn := Lm.trans (bn.mono (by omega))
  have d0 : wn.cell? ⟨A, 0, none⟩ = some (.int .i64 z0) := (Below.celz bn _ _ _ (by omega)).trans cc0
  have d1 : wn.cell? ⟨A, 1, none⟩ = some (.slice ga xs0.length gb) := (Below.celz bn _ _ _ (by omega)).trans cc1
  have d2 : wn.cell? ⟨C, 0, none⟩ = some (.int .i64 (paZ z0 xs0 xs1)) := (Below.celz bn _ _ _ (by omega)).trans cc2
  have d3 : wn.cell? ⟨C, 1, none⟩ = some (.slice pa (paL z0 xs0 xs1).length pb) := (Below.celz bn _ _ _ (by omega)).trans cc3
  have d4 : wn.cell? ⟨D, 0, none⟩ = some (.int .i64 z0) := (Below.celz bn _ _ _ (by omega)).trans cc4
  have d5 : wn.cell? ⟨D, 1, none⟩ = some (.slice xa xs0.length xb) := (Below.celz bn _ _ _ (by omega)).trans cc5
  have d6 : wn.cell? ⟨E, 0, none⟩ = some (.int .i64 (paZ z0 xs0 xs1)) := (Below.celz bn _ _ _ (by omega)).trans cc6
  have d7 : wn.cell? ⟨E, 1, none⟩ = some (.slice ya (paL z0 xs0 xs1).length yb) := (Below.celz bn _ _ _ (by omega)).trans cc7
  have y0 : A < wn.heap.size := by have := Below.size bn; omega
  have y1 : C < wn.heap.size := by have := Below.size bn; omega
  have y2 : D < wn.heap.size := by have := Below.size bn; omega
  have y3 : E < wn.heap.size := by have := Below.size bn; omega
  clear cc0 cc1 cc2 cc3 cc4 cc5 cc6 cc7 zz0 zz1 zz2 zz3
  have cc0 := d0
  have cc1 := d1
  have cc2 := d2
  have cc3 := d3
  have cc4 := d4
  have cc5 := d5
  have cc6 := d6
  have cc7 := d7
  have zz0 := y0
  have zz1 := y1
  have zz2 := y2
  have zz3 := y3
  clear d0 d1 d2 d3 d4 d5 d6 d7 y0 y1 y2 y3
  have HG9 : Hid (OwnPool wn wd2.heap.size (.slice ya (paL z0 xs0 xs1).length yb) (marksPage 1 (paL z0 xs0 xs1).length)) := HG8.out.keep bn
  clear bn Bm Lm HG8
  have hmm : ((1 + 2 * ((paL z0 xs0 xs1).length : Int)) != (1 + 2 * ((paL z0 xs0 xs1).length : Int))) = false := by simp
  go_wp2_with fail
  refine (toPool _ _ xs0 _ (HK.out _ Bn).1 l0).mono ?_
  rintro e wo ⟨u1, rfl, o1, tj1⟩
  have Bwo : Below A w wo := Bn.trans (tj1.mono (by omega))
  have Ln1 : Below M wc wo := Ln.trans (tj1.mono (by omega))
  have HG91 : Hid (OwnPool wo wd2.heap.size (.slice ya (paL z0 xs0 xs1).length yb) (marksPage 1 (paL z0 xs0 xs1).length)) := HG9.out.keep tj1
  have d0 : wo.cell? ⟨A, 0, none⟩ = some (.int .i64 z0) := (Below.celz tj1 _ _ _ (by omega)).trans cc0
  have d1 : wo.cell? ⟨A, 1, none⟩ = some (.slice ga xs0.length gb) := (Below.celz tj1 _ _ _ (by omega)).trans cc1
  have d2 : wo.cell? ⟨C, 0, none⟩ = some (.int .i64 (paZ z0 xs0 xs1)) := (Below.celz tj1 _ _ _ (by omega)).trans cc2
  have d3 : wo.cell? ⟨C, 1, none⟩ = some (.slice pa (paL z0 xs0 xs1).length pb) := (Below.celz tj1 _ _ _ (by omega)).trans cc3
  have d4 : wo.cell? ⟨D, 0, none⟩ = some (.int .i64 z0) := (Below.celz tj1 _ _ _ (by omega)).trans cc4
  have d5 : wo.cell? ⟨D, 1, none⟩ = some (.slice xa xs0.length xb) := (Below.celz tj1 _ _ _ (by omega)).trans cc5
  have d6 : wo.cell? ⟨E, 0, none⟩ = some (.int .i64 (paZ z0 xs0 xs1)) := (Below.celz tj1 _ _ _ (by omega)).trans cc6
  have d7 : wo.cell? ⟨E, 1, none⟩ = some (.slice ya (paL z0 xs0 xs1).length yb) := (Below.celz tj1 _ _ _ (by omega)).trans cc7
  have y0 : A < wo.heap.size := by have := Below.size tj1; omega
  have y1 : C < wo.heap.size := by have := Below.size tj1; omega
  have y2 : D < wo.heap.size := by have := Below.size tj1; omega
  have y3 : E < wo.heap.size := by have := Below.size tj1; omega
  clear cc0 cc1 cc2 cc3 cc4 cc5 cc6 cc7 zz0 zz1 zz2 zz3
  have cc0 := d0
  have cc1 := d1
  have cc2 := d2
  have cc3 := d3
  have cc4 := d4
  have cc5 := d5
  have cc6 := d6
  have cc7 := d7
  have zz0 := y0
  have zz1 := y1
  have zz2 := y2
  have zz3 := y3
  clear d0 d1 d2 d3 d4 d5 d6 d7 y0 y1 y2 y3
  obtain ⟨t1, t2, rfl⟩ := o1.form
  have HO1 : Hid (OwnPool wo wn.heap.size (.slice t1 xs0.length t2) xs0) := o1
  clear o1 tj1 Bn Ln HG9
  go_wp2_with fail
  refine (toPageS _ xs1 _ (HK.out _ Bwo).2.2 l1).mono ?_
  rintro e wo2 ⟨u2, rfl, o2, tj2⟩
  have Bwo2 : Below A w wo2 := Bwo.trans (tj2.mono (by omega))
  have Ln2 : Below M wc wo2 := Ln1.trans (tj2.mono (by omega))
  have HG92 : Hid (OwnPool wo2 wd2.heap.size (.slice ya (paL z0 xs0 xs1).length yb) (marksPage 1 (paL z0 xs0 xs1).length)) := HG91.out.keep tj2
  have d0 : wo2.cell? ⟨A, 0, none⟩ = some (.int .i64 z0) := (Below.celz tj2 _ _ _ (by omega)).trans cc0
  have d1 : wo2.cell? ⟨A, 1, none⟩ = some (.slice ga xs0.length gb) := (Below.celz tj2 _ _ _ (by omega)).trans cc1
  have d2 : wo2.cell? ⟨C, 0, none⟩ = some (.int .i64 (paZ z0 xs0 xs1)) := (Below.celz tj2 _ _ _ (by omega)).trans cc2
  have d3 : wo2.cell? ⟨C, 1, none⟩ = some (.slice pa (paL z0 xs0 xs1).length pb) := (Below.celz tj2 _ _ _ (by omega)).trans cc3
  have d4 : wo2.cell? ⟨D, 0, none⟩ = some (.int .i64 z0) := (Below.celz tj2 _ _ _ (by omega)).trans cc4
  have d5 : wo2.cell? ⟨D, 1, none⟩ = some (.slice xa xs0.length xb) := (Below.celz tj2 _ _ _ (by omega)).trans cc5
  have d6 : wo2.cell? ⟨E, 0, none⟩ = some (.int .i64 (paZ z0 xs0 xs1)) := (Below.celz tj2 _ _ _ (by omega)).trans cc6
  have d7 : wo2.cell? ⟨E, 1, none⟩ = some (.slice ya (paL z0 xs0 xs1).length yb) := (Below.celz tj2 _ _ _ (by omega)).trans cc7
  have y0 : A < wo2.heap.size := by have := Below.size tj2; omega
  have y1 : C < wo2.heap.size := by have := Below.size tj2; omega
  have y2 : D < wo2.heap.size := by have := Below.size tj2; omega
  have y3 : E < wo2.heap.size := by have := Below.size tj2; omega
  clear cc0 cc1 cc2 cc3 cc4 cc5 cc6 cc7 zz0 zz1 zz2 zz3
  have cc0 := d0
  have cc1 := d1
  have cc2 := d2
  have cc3 := d3
  have cc4 := d4
  have cc5 := d5
  have cc6 := d6
  have cc7 := d7
  have zz0 := y0
  have zz1 := y1
  have zz2 := y2
  have zz3 := y3
  clear d0 d1 d2 d3 d4 d5 d6 d7 y0 y1 y2 y3
  obtain ⟨t3, t4, rfl⟩ := own_form o2
  have HO2 : Hid (OwnPool wo2 wn.heap.size (.slice t1 xs0.length t2) xs0 ∧ RowAt 2 encPage wo2 (.slice t3 xs1.length t4) xs1) := ⟨HO1.out.keep tj2, row_of_own encPage_len (by decide) o2⟩
  clear o2 tj2 HO1 Bwo Ln1 HG91
  go_wp2_with fail
  refine (impl_PoolAll _ _ _ xs0 xs1 _ HO2.out.1.row HO2.out.2 l0 l1 (HK.out _ Bwo2).2.1).mono ?_
  rintro e wp0 ⟨p1, rfl, og, tj3⟩
  have Bwp0 : Below A w wp0 := Bwo2.trans (tj3.mono (by omega))
  have Ln3 : Below M wc wp0 := Ln2.trans (tj3.mono (by omega))
  have HG93 : Hid (OwnPool wp0 wd2.heap.size (.slice ya (paL z0 xs0 xs1).length yb) (marksPage 1 (paL z0 xs0 xs1).length)) := HG92.out.keep tj3
  have d0 : wp0.cell? ⟨A, 0, none⟩ = some (.int .i64 z0) := (Below.celz tj3 _ _ _ (by omega)).trans cc0
  have d1 : wp0.cell? ⟨A, 1, none⟩ = some (.slice ga xs0.length gb) := (Below.celz tj3 _ _ _ (by omega)).trans cc1
  have d2 : wp0.cell? ⟨C, 0, none⟩ = some (.int .i64 (paZ z0 xs0 xs1)) := (Below.celz tj3 _ _ _ (by omega)).trans cc2
  have d3 : wp0.cell? ⟨C, 1, none⟩ = some (.slice pa (paL z0 xs0 xs1).length pb) := (Below.celz tj3 _ _ _ (by omega)).trans cc3
  have d4 : wp0.cell? ⟨D, 0, none⟩ = some (.int .i64 z0) := (Below.celz tj3 _ _ _ (by omega)).trans cc4
  have d5 : wp0.cell? ⟨D, 1, none⟩ = some (.slice xa xs0.length xb) := (Below.celz tj3 _ _ _ (by omega)).trans cc5
  have d6 : wp0.cell? ⟨E, 0, none⟩ = some (.int .i64 (paZ z0 xs0 xs1)) := (Below.celz tj3 _ _ _ (by omega)).trans cc6
  have d7 : wp0.cell? ⟨E, 1, none⟩ = some (.slice ya (paL z0 xs0 xs1).length yb) := (Below.celz tj3 _ _ _ (by omega)).trans cc7
  have y0 : A < wp0.heap.size := by have := Below.size tj3; omega
  have y1 : C < wp0.heap.size := by have := Below.size tj3; omega
  have y2 : D < wp0.heap.size := by have := Below.size tj3; omega
  have y3 : E < wp0.heap.size := by have := Below.size tj3; omega
  clear cc0 cc1 cc2 cc3 cc4 cc5 cc6 cc7 zz0 zz1 zz2 zz3
  have cc0 := d0
  have cc1 := d1
  have cc2 := d2
  have cc3 := d3
  have cc4 := d4
  have cc5 := d5
  have cc6 := d6
  have cc7 := d7
  have zz0 := y0
  have zz1 := y1
  have zz2 := y2
  have zz3 := y3
  clear d0 d1 d2 d3 d4 d5 d6 d7 y0 y1 y2 y3
  obtain ⟨ha, hb, rfl⟩ := og.form
  have HOG : Hid (OwnPool wp0 wo2.heap.size (.slice ha (paL z0 xs0 xs1).length hb) (paL z0 xs0 xs1)) := og
  clear og tj3 HO2 Bwo2 Ln2 HG92
  go_wp2_with fail
  obtain ⟨F, hF⟩ : ∃ B, B = wp0.heap.size := ⟨_, rfl⟩
  generalize hW : wp0.alloc (.cells #[.int .i64 (paZ z0 xs0 xs1), .slice ha (paL z0 xs0 xs1).length hb] 29) = wp
  have nb : Below wp0.heap.size wp0 wp := by rw [← hW]; exact (Below.refl _ _).alloc (Nat.le_refl _) _
  have k1 : wp.cell? ⟨F, 0, none⟩ = some (.int .i64 (paZ z0 xs0 xs1)) := by rw [← hW, hF]; simp [go_sem]
  have k2 : wp.cell? ⟨F, 1, none⟩ = some (.slice ha (paL z0 xs0 xs1).length hb) := by rw [← hW, hF]; simp [go_sem]
  have k3 : wp.heap.size = F + 1 := by rw [← hW, hF]; simp
  have oF0 : A < F := by rw [hF]; exact zz0
  have oF1 : C < F := by rw [hF]; exact zz1
  have oF2 : D < F := by rw [hF]; exact zz2
  have oF3 : E < F := by rw [hF]; exact zz3
  have d0 : wp.cell? ⟨A, 0, none⟩ = some (.int .i64 z0) := (Below.celz nb _ _ _ (by omega)).trans cc0
  have d1 : wp.cell? ⟨A, 1, none⟩ = some (.slice ga xs0.length gb) := (Below.celz nb _ _ _ (by omega)).trans cc1
  have d2 : wp.cell? ⟨C, 0, none⟩ = some (.int .i64 (paZ z0 xs0 xs1)) := (Below.celz nb _ _ _ (by omega)).trans cc2
  have d3 : wp.cell? ⟨C, 1, none⟩ = some (.slice pa (paL z0 xs0 xs1).length pb) := (Below.celz nb _ _ _ (by omega)).trans cc3
  have d4 : wp.cell? ⟨D, 0, none⟩ = some (.int .i64 z0) := (Below.celz nb _ _ _ (by omega)).trans cc4
  have d5 : wp.cell? ⟨D, 1, none⟩ = some (.slice xa xs0.length xb) := (Below.celz nb _ _ _ (by omega)).trans cc5
  have d6 : wp.cell? ⟨E, 0, none⟩ = some (.int .i64 (paZ z0 xs0 xs1)) := (Below.celz nb _ _ _ (by omega)).trans cc6
  have d7 : wp.cell? ⟨E, 1, none⟩ = some (.slice ya (paL z0 xs0 xs1).length yb) := (Below.celz nb _ _ _ (by omega)).trans cc7
  have y0 : A < wp.heap.size := by have := Below.size nb; omega
  have y1 : C < wp.heap.size := by have := Below.size nb; omega
  have y2 : D < wp.heap.size := by have := Below.size nb; omega
  have y3 : E < wp.heap.size := by have := Below.size nb; omega
  clear cc0 cc1 cc2 cc3 cc4 cc5 cc6 cc7 zz0 zz1 zz2 zz3
  have cc0 := d0
  have cc1 := d1
  have cc2 := d2
  have cc3 := d3
  have cc4 := d4
  have cc5 := d5
  have cc6 := d6
  have cc7 := d7
  have zz0 := y0
  have zz1 := y1
  have zz2 := y2
  have zz3 := y3
  clear d0 d1 d2 d3 d4 d5 d6 d7 y0 y1 y2 y3
  have cc8 := k1
  have cc9 := k2
  have zz4 : F < wp.heap.size := by omega
  rw [← hF]
  clear k1 k2 k3 hW
  have Bp : Below A w wp := Bwp0.trans (nb.mono (by omega))
  have Lp : Below M wc wp := Ln3.trans (nb.mono (by omega))
  have HGa : Hid (OwnPool wp wd2.heap.size (.slice ya (paL z0 xs0 xs1).length yb) (marksPage 1 (paL z0 xs0 xs1).length)) := HG93.out.keep nb
  have HH : Hid (RowAt 2 encPage wp (.slice ha (paL z0 xs0 xs1).length hb) (paL z0 xs0 xs1)) := (HOG.out.keep nb).row
  clear hF nb Bwp0 Ln3 HG93 HOG
  go_wp2_with fail
  refine (eqPool_same (paZ z0 xs0 xs1) _ _ (paL z0 xs0 xs1) _ HH.out (HW.out _ Lp) (by omega)).mono ?_
  rintro e wq ⟨rfl, bq⟩
  have Bq : Below A w wq := Bp.trans (bq.mono (by omega))
  have d0 : wq.cell? ⟨A, 0, none⟩ = some (.int .i64 z0) := (Below.celz bq _ _ _ (by omega)).trans cc0
  have d1 : wq.cell? ⟨A, 1, none⟩ = some (.slice ga xs0.length gb) := (Below.celz bq _ _ _ (by omega)).trans cc1
  have d2 : wq.cell? ⟨C, 0, none⟩ = some (.int .i64 (paZ z0 xs0 xs1)) := (Below.celz bq _ _ _ (by omega)).trans cc2
  have d3 : wq.cell? ⟨C, 1, none⟩ = some (.slice pa (paL z0 xs0 xs1).length pb) := (Below.celz bq _ _ _ (by omega)).trans cc3
  have d4 : wq.cell? ⟨D, 0, none⟩ = some (.int .i64 z0) := (Below.celz bq _ _ _ (by omega)).trans cc4
  have d5 : wq.cell? ⟨D, 1, none⟩ = some (.slice xa xs0.length xb) := (Below.celz bq _ _ _ (by omega)).trans cc5
  have d6 : wq.cell? ⟨E, 0, none⟩ = some (.int .i64 (paZ z0 xs0 xs1)) := (Below.celz bq _ _ _ (by omega)).trans cc6
  have d7 : wq.cell? ⟨E, 1, none⟩ = some (.slice ya (paL z0 xs0 xs1).length yb) := (Below.celz bq _ _ _ (by omega)).trans cc7
  have d8 : wq.cell? ⟨F, 0, none⟩ = some (.int .i64 (paZ z0 xs0 xs1)) := (Below.celz bq _ _ _ (by omega)).trans cc8
  have d9 : wq.cell? ⟨F, 1, none⟩ = some (.slice ha (paL z0 xs0 xs1).length hb) := (Below.celz bq _ _ _ (by omega)).trans cc9
  have y0 : A < wq.heap.size := by have := Below.size bq; omega
  have y1 : C < wq.heap.size := by have := Below.size bq; omega
  have y2 : D < wq.heap.size := by have := Below.size bq; omega
  have y3 : E < wq.heap.size := by have := Below.size bq; omega
  have y4 : F < wq.heap.size := by have := Below.size bq; omega
  clear cc0 cc1 cc2 cc3 cc4 cc5 cc6 cc7 cc8 cc9 zz0 zz1 zz2 zz3 zz4
  have cc0 := d0
  have cc1 := d1
  have cc2 := d2
  have cc3 := d3
  have cc4 := d4
  have cc5 := d5
  have cc6 := d6
  have cc7 := d7
  have cc8 := d8
  have cc9 := d9
  have zz0 := y0
  have zz1 := y1
  have zz2 := y2
  have zz3 := y3
  have zz4 := y4
  clear d0 d1 d2 d3 d4 d5 d6 d7 d8 d9 y0 y1 y2 y3 y4
  have HGb : Hid (OwnPool wq wd2.heap.size (.slice ya (paL z0 xs0 xs1).length yb) (marksPage 1 (paL z0 xs0 xs1).length)) := HGa.out.keep bq
  clear bq Bp Lp HGa HH
  go_wp2_with fail
  refine (heldPool (paL z0 xs0 xs1).length _ _ _ _ (by omega) (by omega) (by omega) HGb.out.row).mono ?_
  rintro e wr ⟨rfl, br⟩
  have Br : Below A w wr := Bq.trans (br.mono (by omega))
  clear br Bq HGb
  go_wp2_with fail
  go_ret
  exact ⟨rfl, by rw [← HA0.out]; exact Br⟩

theorem door_met (os : Os) (args : Array Value) : laidMetH Tryd.prog Rows.fnExactPoolAllRow.laid ((World.doorLaid Tryd.prog 28 os).forCall (fun _ _ => 0) ⟨#[], args, []⟩).memory :=
  laidMetH_of_parts3 (fuel := 8) (laidMet_of_run' 8 (by kernel_rfl) (by kernel_rfl)) (by kernel_rfl) (by kernel_rfl)

set_option maxRecDepth 100000 in
set_option maxHeartbeats 1000000 in
theorem lifted (os : Os) (started : os.Started) (H : Type) (enc : TypeId × Value → H) :
    ReturnsInHanded {} Tryd.checked os 3 .any (fun w args => (Rows.fnExactPoolAllSpec.pre enc Tryd.prog Tryd.f3 [] false w args ∧ laidMetH Tryd.prog Rows.fnExactPoolAllRow.laid w) ∧ sizedMet enc Tryd.prog Tryd.f3 (OpenSpec.ofChange Rows.fnExactPoolAllSpec) false w args)
      (Rows.fnExactPoolAllSpec.post enc Tryd.prog Tryd.f3 false true false false) := by
  refine returnsInHanded_of_change_and (C := Tryd.checked) (X := fun w _ => laidMetH Tryd.prog Rows.fnExactPoolAllRow.laid w) (fun _ _ _ hh h => h.of_heap hh) own started (by kernel_rfl) Tryd.func3
    (ChangeSpec.witness_shaped (enc := enc) (C := Tryd.checked) (os := os) (X := fun w _ => laidMetH Tryd.prog Rows.fnExactPoolAllRow.laid w) false (World.doorLaid Tryd.prog 28 os) #[.agg #[.int .i64 0, .slice none 0 0], .slice none 0 0] 8 rfl (World.shaped_of_RefB (by kernel_rfl) (by kernel_rfl)) (by kernel_rfl) (by kernel_rfl) (by kernel_rfl) (door_met os _)) ?_
  intro W base args ds gs before hval0 hW _ _ hL _
  have hval : ∀ (j : Nat) t v, Tryd.f3.params[j]? = some t → args[j]? = some v → Value.okWide Tryd.prog W .any base t v := hval0
  have hW' := hW
  obtain ⟨p, q, hA0, hV0, rfl, hfz, hnd⟩ := hW
  have hA : DataW.TrodAll enc Tryd.prog W 0 (fun _ => true) true Tryd.f3.params.toList args.toList ds p := hA0
  have hV : DataW.TrodVars enc Tryd.prog W (fun _ => true) ["loop.example/hagioscope/impl.errForm"] gs q := hV0
  rw [Tryd.params3] at hA hval
  obtain ⟨v0, vs0, d0, ds0, p0, q0, hargs, rfl, rfl, h0, r0⟩ := trodAll_cons hA
  obtain ⟨v1, vs1, d1, ds1, p1, q1, rfl, rfl, rfl, h1, r1⟩ := trodAll_cons r0
  obtain ⟨rfl, rfl, rfl⟩ := trodAll_nil r1
  obtain rfl : args = #[v0, v1] := by cases args; simp_all
  have kr0 := h0
  have lt0 : ∀ x ∈ p0, x.block < W.heap.size := by obtain ⟨m, hm⟩ := kr0; exact DataW.trod_lt m _ _ _ hm
  have kr1 := h1
  have lt1 : ∀ x ∈ p1, x.block < W.heap.size := by obtain ⟨m, hm⟩ := kr1; exact DataW.trod_lt m _ _ _ hm
  obtain ⟨z0, y0, xs0, rfl, w0⟩ := open_pool (hval 0 24 v0 rfl rfl) h0
  obtain ⟨xs1, w1⟩ := open_pages (hval 1 22 v1 rfl rfl) h1
  obtain ⟨g, t, cs, fuel, d, p', rfl, hg, ht, hvar, hd, rfl⟩ := trodVars_one hV
  obtain rfl := Option.some.inj (gForm.symm.trans hg)
  obtain rfl := Option.some.inj (tForm.symm.trans ht)
  obtain ⟨fu, fv, hff⟩ := form_of hL
  obtain rfl : cs = #[.iface fu fv] := Option.some.inj (hvar.symm.trans hff)
  have hform : FormAt W := formAt_of hff
  obtain ⟨_, _, hheap⟩ := heap_of_var gForm hff
  clear hA0 hV0 hval0
  refine (walk z0 y0 xs0 v1 xs1 W w0 w1 hform).mono fun e W' ⟨he, bel⟩ => ?_
  subst he
  exact ⟨_, rfl, _, _, _, [], _, _, hW', trodAll_mk1 (shut_bool Tryd.underlying4 _), (trodAll_cons_mk (Below.trod laidOut (by kernel_rfl) (of_decide_eq_true (by kernel_rfl)) kr0 bel lt0) (trodAll_cons_mk (Below.trod laidOut (by kernel_rfl) (of_decide_eq_true (by kernel_rfl)) kr1 bel lt1) trodAll_mk0)), trodVars_mk1 gForm tForm (var?_below bel gForm (lt_of_block hheap) hff) (held_again Tryd.underlying47 hd), bel.frame _, fun h => by cases h⟩

theorem said : Rows.FnExactPoolAllSaid :=
  OpenClaim.holds_of_wide 3 Tryd.f3 rfl rfl rfl rfl rfl rfl rfl ⟨rfl, rfl, rfl, rfl, rfl⟩ rfl rfl rfl rfl rfl (by kernel_rfl) Tryd.func3 (by kernel_rfl)
    (of_decide_eq_true (by kernel_rfl)) (by unfold Func.isWrapper; first | (rw [if_pos (by decide +kernel)]; kernel_rfl) | (rw [if_neg (by decide +kernel)]; exact ⟨rfl, rfl⟩))
    (fun os started H enc _ => lifted os started H enc)

theorem plain (f : FuncId) (fn : Func) (hf : Tryd.pinned.checked.prog.funcNamed "loop.example/hagioscope/laws.FnExactPoolAll" = some f) (hfn : Tryd.pinned.checked.prog.funcs[f]? = some fn) :
    false = Tryd.pinned.checked.prog.looks [] ∧ ∀ (j : Nat) t, fn.params[j]? = some t → Tryd.pinned.checked.prog.wantsStandIn t = false := by
  obtain rfl : f = 3 := Option.some.inj ((show Tryd.prog.funcNamed "loop.example/hagioscope/laws.FnExactPoolAll" = some 3 by kernel_rfl).symm.trans hf) |>.symm
  obtain rfl : fn = Tryd.f3 := (Option.some.inj (Tryd.func3.symm.trans hfn)).symm
  refine ⟨by kernel_rfl, fun j t ht => ?_⟩
  rw [Tryd.params3] at ht
  obtain rfl | rfl : t = 24 ∨ t = 22 := by simpa using Array.mem_of_getElem? ht
  · exact (show Tryd.prog.wantsStandIn 24 = false by kernel_rfl)
  · exact (show Tryd.prog.wantsStandIn 22 = false by kernel_rfl)

end Go.Proofs.YtppaanjijffjdaaDoor.fnExactPoolAll
namespace Go.Proofs.YtppaanjijffjdaaDoor
theorem fnExactPoolAll_card : Rows.FnExactPoolAllCardSaid :=
  Claim7.holds_tied_plain_at .later [] _ _ _ _ fnExactPoolAll.said (fun _ h => by cases h) (by kernel_rfl) (fun _ h => by cases h) fnExactPoolAll_row_tie rfl ⟨rfl, rfl⟩ (by kernel_rfl) rfl fnExactPoolAll.plain (by kernel_rfl)
#print axioms fnExactPoolAll_card
end Go.Proofs.YtppaanjijffjdaaDoor
