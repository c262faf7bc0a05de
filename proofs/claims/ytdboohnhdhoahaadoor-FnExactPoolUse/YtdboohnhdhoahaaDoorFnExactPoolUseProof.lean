/-
  What is used of a pool: the answer is the model's, fresh, and the pool handed in stays as it was.
-/
import Derived.Test.YtdboohnhdhoahaaDoorCards
import Derived.Test.YtdboohnhdhoahaaDoorTie
import Derived.Test.YtdboohnhdhoahaaDoorNod
import Derived.Test.YtdboohnhdhoahaaDoorRow
import Derived.Test.YtdboohnhdhoahaaDoorPag
import Derived.Test.YtdboohnhdhoahaaDoorPol
import Derived.Test.YtdboohnhdhoahaaDoorUpl
import Derived.Test.YtdboohnhdhoahaaDoorSep
import Derived.Test.YtdboohnhdhoahaaDoorSeu
import Derived.Test.YtdboohnhdhoahaaDoorIpo
import Derived.Test.YtdboohnhdhoahaaDoorBxu
import Derived.Test.YtdboohnhdhoahaaDoorOpen
import Derived.Test.YtdboohnhdhoahaaDoorRdg
import Derived.Test.YtdboohnhdhoahaaDoorOpp
import Derived.Test.YtdboohnhdhoahaaDoorErr
import Derived.WalkKit
import Derived.ProofKit
import Derived.OpenShut
import Derived.ShutString
import Derived.ChangeOld
import Derived.Below
import Derived.Carry
import Derived.Handy
import Derived.Deep.RegionHeld3
import Derived.LaidMore
namespace Go.Proofs.YtdboohnhdhoahaaDoor.fnExactPoolUse
open Go.Proofs.YtdboohnhdhoahaaDoor.Lab
open Go.ChangeShapes Go.WideShapes Go.ChangeAt Go.RowKit
open Go.ChangeMaps (open_string shut_string)
set_option linter.unusedVariables false

theorem own : ownKnob Tryd.prog.godebug = none := by kernel_rfl
/-- A row of numbers that came in: nil, or so many cells. -/
def IsRow (k : IntKind) (w : World) (a : Option Addr) (len cap : Nat) (zs : List Int) : Prop :=
  (a = none ∧ len = 0 ∧ cap = 0 ∧ zs = []) ∨ ∃ x, a = some x ∧ len ≤ cap ∧ cap ≤ maxLen ∧ zs.length = cap ∧ (∀ i, i < zs.length → w.cell? (x.add i) = some (.int k (zs.getD i 0))) ∧ ∀ n ∈ zs, (Lit.int k n).wf = true

set_option maxHeartbeats 4000000 in
theorem walk (z0 : Int) (y0 : Value) (xs0 : List (Int × Int)) (l1 n1 : Int) (w : World) (w0 : i64In z0 ∧ PagesIn w y0 xs0) (w1 : i64In l1 ∧ i64In n1) (hform : FormAt w) :
    Calls Tryd.prog 4 #[.agg #[.int .i64 z0, y0], .agg #[.int .i64 l1, .int .i64 n1]] w fun e w' => e = .returned (.bool true) ∧ Below w.heap.size w w' := by
  obtain ⟨-, r1, m1, -⟩ := w0
  obtain ⟨ga, gb, rfl⟩ := r1.len
  simp only [maxLen, Nat.reducePow, Nat.reduceSub] at m1
  have HR : Hid (RowAt 2 encPage w (.slice ga xs0.length gb) xs0) := r1
  have HE : Hid (FormAt w) := hform
  have HQ := puL_len z0 xs0 (l1, n1)
  clear r1 hform w1
  go_enter Tryd.func4, Tryd.ntmps4
  go_wp2_with fail
  refine (szPool _ _ _ _ _ _ (by omega) (by omega) m1).mono ?_
  rintro e wa ⟨rfl, ba⟩
  obtain ⟨A, hA0⟩ : ∃ A, A = w.heap.size := ⟨_, rfl⟩
  have zz1 : A + 1 < wa.heap.size := by have := ba.size; simp at this; omega
  have zz0 : A < wa.heap.size := by omega
  have Ba : Below A w wa := by rw [hA0]; exact Below.trans (by go_grown) (ba.mono (by simp; omega))
  have cc0 : wa.cell? ⟨A, 0, none⟩ = some (.int .i64 z0) := by rw [hA0, Below.celz ba _ _ _ (by simp; omega)]; simp [go_sem]
  have cc1 : wa.cell? ⟨A, 1, none⟩ = some (.slice ga xs0.length gb) := by rw [hA0, Below.celz ba _ _ _ (by simp; omega)]; simp [go_sem]
  have cc2 : wa.cell? ⟨A + 1, 0, none⟩ = some (.int .i64 l1) := by rw [hA0, Below.celz ba _ _ _ (by simp)]; simp [go_sem]
  have cc3 : wa.cell? ⟨A + 1, 1, none⟩ = some (.int .i64 n1) := by rw [hA0, Below.celz ba _ _ _ (by simp)]; simp [go_sem]
  clear ba
  rw [← hA0]
  have HA0 : Hid (A = w.heap.size) := hA0
  clear hA0
  by_cases hA : (xs0.length : Int) ≤ 1048576
  rotate_left
  · rw [if_neg hA]
    go_wp2_with fail
    go_ret
    exact ⟨rfl, by rw [← HA0.out]; exact Ba⟩
  rw [if_pos hA]
  have l0 : xs0.length ≤ 1048576 := by omega
  have HK : Hid (∀ W, Below A w W → RowAt 2 encPage W (.slice ga xs0.length gb) xs0 ∧ FormAt W) := fun W h => by rw [HA0.out] at h; exact ⟨HR.out.keep h, HE.out.keep h⟩
  go_wp2_with fail
  have HF : Hid (∀ W, Below wa.heap.size wa W → RowAt 2 encPage W (.slice ga xs0.length gb) xs0 ∧ FormAt W) := fun W h => HK.out W (Ba.trans (h.mono (by omega)))
  rename_i K1 hK1
  have REST1 : ∀ (e16 e17 e18 e19 e20 e21 e22 e23 e24 e25 e26 e27 e28 : Value) (pa : Option Addr) (pb C : Nat) (wc : World), BoxU wa wc C (puZ z0 xs0 (l1, n1)) (.slice pa (puL z0 xs0 (l1, n1)).length pb) (puL z0 xs0 (l1, n1)) → K1 { tmps := #[(.agg #[.int .i64 z0, .slice ga xs0.length gb]), (.agg #[.int .i64 l1, .int .i64 n1]), (.pointer (some ⟨A, 0, none⟩)), (.pointer (some ⟨A + 1, 0, none⟩)), (.bool false), (.int .i64 (1048576 - (xs0.length : Int))), (.pointer (some ⟨C, 0, none⟩)), (.bool (puH z0 xs0 (l1, n1))), undef, undef, undef, undef, undef, undef, undef, undef, e16, e17, e18, e19, e20, e21, e22, e23, e24, e25, e26, e27, e28, undef, undef, undef, undef, undef, undef, undef, undef, undef, undef, undef, undef, undef, undef, undef, undef, undef, undef, undef, undef, undef, undef, undef, undef, undef, undef, undef, undef, undef, undef, undef, undef, undef, undef, undef, undef, undef, undef, undef, undef, undef, undef, undef, undef, undef, undef, undef, undef, undef, undef, undef, undef, undef, undef, undef, undef, undef, undef, undef, undef, undef, undef, undef, undef, undef, undef, undef, undef, undef, undef, undef, undef, undef, undef, undef], defers := [] } wc := by
    intro e16 e17 e18 e19 e20 e21 e22 e23 e24 e25 e26 e27 e28 pa pb C wc hbu
    obtain ⟨lb, hC0, hblk, og, hap⟩ := hbu
    apply hK1
    clear hK1
    have Bc : Below A w wc := Ba.trans (lb.mono (by omega))
    have hAC : A + 1 < C := by omega
    have d0 : wc.cell? ⟨A, 0, none⟩ = some (.int .i64 z0) := (Below.celz lb _ _ _ (by omega)).trans cc0
    have d1 : wc.cell? ⟨A, 1, none⟩ = some (.slice ga xs0.length gb) := (Below.celz lb _ _ _ (by omega)).trans cc1
    have d2 : wc.cell? ⟨A + 1, 0, none⟩ = some (.int .i64 l1) := (Below.celz lb _ _ _ (by omega)).trans cc2
    have d3 : wc.cell? ⟨A + 1, 1, none⟩ = some (.int .i64 n1) := (Below.celz lb _ _ _ (by omega)).trans cc3
    have y0 : A < wc.heap.size := by have := Below.size lb; omega
    have y1 : A + 1 < wc.heap.size := by have := Below.size lb; omega
    clear cc0 cc1 cc2 cc3 zz0 zz1
    have cc0 := d0
    have cc1 := d1
    have cc2 := d2
    have cc3 := d3
    have zz0 := y0
    have zz1 := y1
    clear d0 d1 d2 d3 y0 y1
    have cc4 : wc.cell? ⟨C, 0, none⟩ = some (.int .i64 (puZ z0 xs0 (l1, n1))) := by rw [cell_block hblk]; rfl
    have cc5 : wc.cell? ⟨C, 1, none⟩ = some (.slice pa (puL z0 xs0 (l1, n1)).length pb) := by rw [cell_block hblk]; rfl
    have zz2 : C < wc.heap.size := lt_of_block hblk
    obtain ⟨M, hM⟩ : ∃ M, M = wc.heap.size := ⟨_, rfl⟩
    have hCM : C < M := by rw [hM]; exact zz2
    have HP : Hid (RowAt 2 encPage wc (.slice pa (puL z0 xs0 (l1, n1)).length pb) (puL z0 xs0 (l1, n1))) := og.row
    have HW : Hid (∀ W, Below M wc W → RowAt 2 encPage W (.slice pa (puL z0 xs0 (l1, n1)).length pb) (puL z0 xs0 (l1, n1))) := fun W h => by rw [hM] at h; exact HP.out.keep h
    clear lb hC0 hblk og hap HP HF Ba
    go_wp2_with fail
    refine (toPool _ _ xs0 _ (HK.out _ Bc).1 l0).mono ?_
    rintro e wd ⟨x1, rfl, og3, bd⟩
    have Bd : Below A w wd := Bc.trans (bd.mono (by omega))
    have Ld : Below M wc wd := by rw [hM]; exact bd
    have d0 : wd.cell? ⟨A, 0, none⟩ = some (.int .i64 z0) := (Below.celz bd _ _ _ (by omega)).trans cc0
    have d1 : wd.cell? ⟨A, 1, none⟩ = some (.slice ga xs0.length gb) := (Below.celz bd _ _ _ (by omega)).trans cc1
    have d2 : wd.cell? ⟨A + 1, 0, none⟩ = some (.int .i64 l1) := (Below.celz bd _ _ _ (by omega)).trans cc2
    have d3 : wd.cell? ⟨A + 1, 1, none⟩ = some (.int .i64 n1) := (Below.celz bd _ _ _ (by omega)).trans cc3
    have d4 : wd.cell? ⟨C, 0, none⟩ = some (.int .i64 (puZ z0 xs0 (l1, n1))) := (Below.celz bd _ _ _ (by omega)).trans cc4
    have d5 : wd.cell? ⟨C, 1, none⟩ = some (.slice pa (puL z0 xs0 (l1, n1)).length pb) := (Below.celz bd _ _ _ (by omega)).trans cc5
    have y0 : A < wd.heap.size := by have := Below.size bd; omega
    have y1 : A + 1 < wd.heap.size := by have := Below.size bd; omega
    have y2 : C < wd.heap.size := by have := Below.size bd; omega
    clear cc0 cc1 cc2 cc3 cc4 cc5 zz0 zz1 zz2
    have cc0 := d0
    have cc1 := d1
    have cc2 := d2
    have cc3 := d3
    have cc4 := d4
    have cc5 := d5
    have zz0 := y0
    have zz1 := y1
    have zz2 := y2
    clear d0 d1 d2 d3 d4 d5 y0 y1 y2
    obtain ⟨xa, xb, rfl⟩ := og3.form
    have HX : Hid (OwnPool wd wc.heap.size (.slice xa xs0.length xb) xs0) := og3
    have hMd : M ≤ wd.heap.size := by have := bd.size; omega
    clear bd Bc og3
    go_wp2_with fail
    obtain ⟨D, hD⟩ : ∃ B, B = wd.heap.size := ⟨_, rfl⟩
    generalize hW : wd.alloc (.cells #[.int .i64 z0, .slice xa xs0.length xb] 29) = wd2
    have nb : Below wd.heap.size wd wd2 := by rw [← hW]; exact (Below.refl _ _).alloc (Nat.le_refl _) _
    have k1 : wd2.cell? ⟨D, 0, none⟩ = some (.int .i64 z0) := by rw [← hW, hD]; simp [go_sem]
    have k2 : wd2.cell? ⟨D, 1, none⟩ = some (.slice xa xs0.length xb) := by rw [← hW, hD]; simp [go_sem]
    have k3 : wd2.heap.size = D + 1 := by rw [← hW, hD]; simp
    have oD0 : A < D := by rw [hD]; exact zz0
    have oD1 : A + 1 < D := by rw [hD]; exact zz1
    have oD2 : C < D := by rw [hD]; exact zz2
    have d0 : wd2.cell? ⟨A, 0, none⟩ = some (.int .i64 z0) := (Below.celz nb _ _ _ (by omega)).trans cc0
    have d1 : wd2.cell? ⟨A, 1, none⟩ = some (.slice ga xs0.length gb) := (Below.celz nb _ _ _ (by omega)).trans cc1
    have d2 : wd2.cell? ⟨A + 1, 0, none⟩ = some (.int .i64 l1) := (Below.celz nb _ _ _ (by omega)).trans cc2
    have d3 : wd2.cell? ⟨A + 1, 1, none⟩ = some (.int .i64 n1) := (Below.celz nb _ _ _ (by omega)).trans cc3
    have d4 : wd2.cell? ⟨C, 0, none⟩ = some (.int .i64 (puZ z0 xs0 (l1, n1))) := (Below.celz nb _ _ _ (by omega)).trans cc4
    have d5 : wd2.cell? ⟨C, 1, none⟩ = some (.slice pa (puL z0 xs0 (l1, n1)).length pb) := (Below.celz nb _ _ _ (by omega)).trans cc5
    have y0 : A < wd2.heap.size := by have := Below.size nb; omega
    have y1 : A + 1 < wd2.heap.size := by have := Below.size nb; omega
    have y2 : C < wd2.heap.size := by have := Below.size nb; omega
    clear cc0 cc1 cc2 cc3 cc4 cc5 zz0 zz1 zz2
    have cc0 := d0
    have cc1 := d1
    have cc2 := d2
    have cc3 := d3
    have cc4 := d4
    have cc5 := d5
    have zz0 := y0
    have zz1 := y1
    have zz2 := y2
    clear d0 d1 d2 d3 d4 d5 y0 y1 y2
    have cc6 := k1
    have cc7 := k2
    have zz3 : D < wd2.heap.size := by omega
    rw [← hD]
    clear k1 k2 k3 hW
    have Bd2 : Below A w wd2 := Bd.trans (nb.mono (by omega))
    have Ld2 : Below M wc wd2 := Ld.trans (nb.mono (by omega))
    have hMD : M ≤ D := by omega
    have hDd : D < wd2.heap.size := zz3
    have HX2 : Hid (OwnPool wd2 wc.heap.size (.slice xa xs0.length xb) xs0) := HX.out.keep nb
    have HAX : Hid (∀ k, (Value.slice xa xs0.length xb).ownBlock = some k → M ≤ k ∧ k < D) := fun k hk => by have := HX.out.lt k hk; omega
    clear hD nb Bd Ld HX hMd
    have HF2 : Hid (∀ W, Below wd2.heap.size wd2 W → RowAt 2 encPage W (.slice ga xs0.length gb) xs0 ∧ FormAt W) := fun W h => HK.out W (Bd2.trans (h.mono (by omega)))
    rename_i K2 hK2
    have REST2 : ∀ (e16 e17 e18 e19 e20 e21 e22 e23 e24 e25 e26 e27 e28 e29 e30 e31 e32 e33 e34 e35 e36 e37 : Value) (ya : Option Addr) (yb E : Nat) (we : World), BoxU wd2 we E (puZ z0 xs0 (l1, n1)) (.slice ya (puL z0 xs0 (l1, n1)).length yb) (puL z0 xs0 (l1, n1)) → K2 { tmps := #[(.agg #[.int .i64 z0, .slice ga xs0.length gb]), (.agg #[.int .i64 l1, .int .i64 n1]), (.pointer (some ⟨A, 0, none⟩)), (.pointer (some ⟨A + 1, 0, none⟩)), (.bool false), (.int .i64 (1048576 - (xs0.length : Int))), (.pointer (some ⟨C, 0, none⟩)), (.bool (puH z0 xs0 (l1, n1))), (.pointer (some ⟨D, 0, none⟩)), (.pointer (some ⟨E, 0, none⟩)), (.bool (puH z0 xs0 (l1, n1))), undef, undef, undef, undef, undef, e16, e17, e18, e19, e20, e21, e22, e23, e24, e25, e26, e27, e28, e29, e30, e31, e32, e33, e34, e35, e36, e37, undef, undef, undef, undef, undef, undef, undef, undef, undef, undef, undef, undef, undef, undef, undef, undef, undef, undef, undef, undef, undef, undef, undef, undef, undef, undef, undef, undef, undef, undef, undef, undef, undef, undef, undef, undef, undef, undef, undef, undef, undef, undef, undef, undef, undef, undef, undef, undef, undef, undef, undef, undef, undef, undef, undef, undef, undef, undef, undef, undef, undef, undef, undef, undef, undef, undef], defers := [] } we := by
      intro e16 e17 e18 e19 e20 e21 e22 e23 e24 e25 e26 e27 e28 e29 e30 e31 e32 e33 e34 e35 e36 e37 ya yb E we hbu
      obtain ⟨lb, hC0, hblk, og, hap⟩ := hbu
      apply hK2
      clear hK2
      have Be : Below A w we := Bd2.trans (lb.mono (by omega))
      have Le : Below M wc we := Ld2.trans (lb.mono (by omega))
      have hDE : D < E := by omega
      have d0 : we.cell? ⟨A, 0, none⟩ = some (.int .i64 z0) := (Below.celz lb _ _ _ (by omega)).trans cc0
      have d1 : we.cell? ⟨A, 1, none⟩ = some (.slice ga xs0.length gb) := (Below.celz lb _ _ _ (by omega)).trans cc1
      have d2 : we.cell? ⟨A + 1, 0, none⟩ = some (.int .i64 l1) := (Below.celz lb _ _ _ (by omega)).trans cc2
      have d3 : we.cell? ⟨A + 1, 1, none⟩ = some (.int .i64 n1) := (Below.celz lb _ _ _ (by omega)).trans cc3
      have d4 : we.cell? ⟨C, 0, none⟩ = some (.int .i64 (puZ z0 xs0 (l1, n1))) := (Below.celz lb _ _ _ (by omega)).trans cc4
      have d5 : we.cell? ⟨C, 1, none⟩ = some (.slice pa (puL z0 xs0 (l1, n1)).length pb) := (Below.celz lb _ _ _ (by omega)).trans cc5
      have d6 : we.cell? ⟨D, 0, none⟩ = some (.int .i64 z0) := (Below.celz lb _ _ _ (by omega)).trans cc6
      have d7 : we.cell? ⟨D, 1, none⟩ = some (.slice xa xs0.length xb) := (Below.celz lb _ _ _ (by omega)).trans cc7
      have y0 : A < we.heap.size := by have := Below.size lb; omega
      have y1 : A + 1 < we.heap.size := by have := Below.size lb; omega
      have y2 : C < we.heap.size := by have := Below.size lb; omega
      have y3 : D < we.heap.size := by have := Below.size lb; omega
      clear cc0 cc1 cc2 cc3 cc4 cc5 cc6 cc7 zz0 zz1 zz2 zz3
      have cc0 := d0
      have cc1 := d1
      have cc2 := d2
      have cc3 := d3
      have cc4 := d4
      have cc5 := d5
      have cc6 := d6
      have cc7 := d7
      have zz0 := y0
      have zz1 := y1
      have zz2 := y2
      have zz3 := y3
      clear d0 d1 d2 d3 d4 d5 d6 d7 y0 y1 y2 y3
      have cc8 : we.cell? ⟨E, 0, none⟩ = some (.int .i64 (puZ z0 xs0 (l1, n1))) := by rw [cell_block hblk]; rfl
      have cc9 : we.cell? ⟨E, 1, none⟩ = some (.slice ya (puL z0 xs0 (l1, n1)).length yb) := by rw [cell_block hblk]; rfl
      have zz4 : E < we.heap.size := lt_of_block hblk
      have HX3 : Hid (OwnPool we wc.heap.size (.slice xa xs0.length xb) xs0) := HX2.out.keep lb
      have HG3 : Hid (OwnPool we wd2.heap.size (.slice ya (puL z0 xs0 (l1, n1)).length yb) (puL z0 xs0 (l1, n1))) := og
      have HAG : Hid (∀ k, (Value.slice ya (puL z0 xs0 (l1, n1)).length yb).ownBlock = some k → D < k ∧ k ≠ E) := fun k hk => ⟨by have := (og.lt k hk).1; omega, hap k hk⟩
      have hne : ((puH z0 xs0 (l1, n1)) != (puH z0 xs0 (l1, n1))) = false := by simp
      clear lb hC0 hblk og hap HX2 HF2 Bd2 Ld2
      go_wp2_with fail
      refine (eqPool_same (puZ z0 xs0 (l1, n1)) _ _ (puL z0 xs0 (l1, n1)) _ HG3.out.row (HW.out _ Le) (by omega)).mono ?_
      rintro e wf ⟨rfl, bf⟩
      have Bf : Below A w wf := Be.trans (bf.mono (by omega))
      have Lf : Below M wc wf := Le.trans (bf.mono (by omega))
      have d0 : wf.cell? ⟨A, 0, none⟩ = some (.int .i64 z0) := (Below.celz bf _ _ _ (by omega)).trans cc0
      have d1 : wf.cell? ⟨A, 1, none⟩ = some (.slice ga xs0.length gb) := (Below.celz bf _ _ _ (by omega)).trans cc1
      have d2 : wf.cell? ⟨A + 1, 0, none⟩ = some (.int .i64 l1) := (Below.celz bf _ _ _ (by omega)).trans cc2
      have d3 : wf.cell? ⟨A + 1, 1, none⟩ = some (.int .i64 n1) := (Below.celz bf _ _ _ (by omega)).trans cc3
      have d4 : wf.cell? ⟨C, 0, none⟩ = some (.int .i64 (puZ z0 xs0 (l1, n1))) := (Below.celz bf _ _ _ (by omega)).trans cc4
      have d5 : wf.cell? ⟨C, 1, none⟩ = some (.slice pa (puL z0 xs0 (l1, n1)).length pb) := (Below.celz bf _ _ _ (by omega)).trans cc5
      have d6 : wf.cell? ⟨D, 0, none⟩ = some (.int .i64 z0) := (Below.celz bf _ _ _ (by omega)).trans cc6
      have d7 : wf.cell? ⟨D, 1, none⟩ = some (.slice xa xs0.length xb) := (Below.celz bf _ _ _ (by omega)).trans cc7
      have d8 : wf.cell? ⟨E, 0, none⟩ = some (.int .i64 (puZ z0 xs0 (l1, n1))) := (Below.celz bf _ _ _ (by omega)).trans cc8
      have d9 : wf.cell? ⟨E, 1, none⟩ = some (.slice ya (puL z0 xs0 (l1, n1)).length yb) := (Below.celz bf _ _ _ (by omega)).trans cc9
      have y0 : A < wf.heap.size := by have := Below.size bf; omega
      have y1 : A + 1 < wf.heap.size := by have := Below.size bf; omega
      have y2 : C < wf.heap.size := by have := Below.size bf; omega
      have y3 : D < wf.heap.size := by have := Below.size bf; omega
      have y4 : E < wf.heap.size := by have := Below.size bf; omega
      clear cc0 cc1 cc2 cc3 cc4 cc5 cc6 cc7 cc8 cc9 zz0 zz1 zz2 zz3 zz4
      have cc0 := d0
      have cc1 := d1
      have cc2 := d2
      have cc3 := d3
      have cc4 := d4
      have cc5 := d5
      have cc6 := d6
      have cc7 := d7
      have cc8 := d8
      have cc9 := d9
      have zz0 := y0
      have zz1 := y1
      have zz2 := y2
      have zz3 := y3
      have zz4 := y4
      clear d0 d1 d2 d3 d4 d5 d6 d7 d8 d9 y0 y1 y2 y3 y4
      have HX4 : Hid (OwnPool wf wc.heap.size (.slice xa xs0.length xb) xs0) := HX3.out.keep bf
      have HG4 : Hid (OwnPool wf wd2.heap.size (.slice ya (puL z0 xs0 (l1, n1)).length yb) (puL z0 xs0 (l1, n1))) := HG3.out.keep bf
      clear bf Be Le HX3 HG3
      go_wp2_with fail
      have hS : Hid (∀ w', Below wf.heap.size wf w' → Below wf.heap.size wf w' ∧ w'.cell? ⟨A, 0, none⟩ = some (.int .i64 z0) ∧ w'.cell? ⟨A, 1, none⟩ = some (.slice ga xs0.length gb) ∧ w'.cell? ⟨D, 0, none⟩ = some (.int .i64 z0) ∧ w'.cell? ⟨D, 1, none⟩ = some (.slice xa xs0.length xb)) := fun w' hn => ⟨hn, (Below.celz hn _ _ _ zz0).trans cc0, (Below.celz hn _ _ _ zz0).trans cc1, (Below.celz hn _ _ _ zz3).trans cc6, (Below.celz hn _ _ _ zz3).trans cc7⟩
      have HF : Hid (∀ W, Below wf.heap.size wf W → RowAt 2 encPage W (.slice ga xs0.length gb) xs0 ∧ FormAt W) := fun W h => HK.out W (Bf.trans (h.mono (by omega)))
      go_region_held3 (fun w' => Below wf.heap.size wf w' ∧ w'.cell? ⟨A, 0, none⟩ = some (.int .i64 z0) ∧ w'.cell? ⟨A, 1, none⟩ = some (.slice ga xs0.length gb) ∧ w'.cell? ⟨D, 0, none⟩ = some (.int .i64 z0) ∧ w'.cell? ⟨D, 1, none⟩ = some (.slice xa xs0.length xb))
        (first | with_reducible exact hS.out _ (Below.refl _ _).drew | (with_reducible exact hS.out _ (keep_below (And.left (by assumption)) tj2)) | (with_reducible exact hS.out _ (keep_below (And.left (by assumption)) tj1)))
        (first | (go_at_call 8; refine (toPool _ _ xs0 _ (HF.out _ (And.left (by assumption))).1 l0).mono ?_; rintro e wi ⟨s2, rfl, oi, tj1⟩) | (go_at_call 10; refine (eqPool_same z0 _ _ xs0 _ (HX4.out.keep (And.left (by assumption))).row oi.row l0).mono ?_; rintro e wj ⟨rfl, tj2⟩))
      have bj : Below wf.heap.size wf wj := by
        have : Below wf.heap.size wf wj ∧ wj.cell? ⟨A, 0, none⟩ = some (.int .i64 z0) ∧ wj.cell? ⟨A, 1, none⟩ = some (.slice ga xs0.length gb) ∧ wj.cell? ⟨D, 0, none⟩ = some (.int .i64 z0) ∧ wj.cell? ⟨D, 1, none⟩ = some (.slice xa xs0.length xb) := by assumption
        exact this.1
      clear tj1 tj2 hS HF
      have Bj : Below A w wj := Bf.trans (bj.mono (by omega))
      have Lj : Below M wc wj := Lf.trans (bj.mono (by omega))
      have d0 : wj.cell? ⟨A, 0, none⟩ = some (.int .i64 z0) := (Below.celz bj _ _ _ (by omega)).trans cc0
      have d1 : wj.cell? ⟨A, 1, none⟩ = some (.slice ga xs0.length gb) := (Below.celz bj _ _ _ (by omega)).trans cc1
      have d2 : wj.cell? ⟨A + 1, 0, none⟩ = some (.int .i64 l1) := (Below.celz bj _ _ _ (by omega)).trans cc2
      have d3 : wj.cell? ⟨A + 1, 1, none⟩ = some (.int .i64 n1) := (Below.celz bj _ _ _ (by omega)).trans cc3
      have d4 : wj.cell? ⟨C, 0, none⟩ = some (.int .i64 (puZ z0 xs0 (l1, n1))) := (Below.celz bj _ _ _ (by omega)).trans cc4
      have d5 : wj.cell? ⟨C, 1, none⟩ = some (.slice pa (puL z0 xs0 (l1, n1)).length pb) := (Below.celz bj _ _ _ (by omega)).trans cc5
      have d6 : wj.cell? ⟨D, 0, none⟩ = some (.int .i64 z0) := (Below.celz bj _ _ _ (by omega)).trans cc6
      have d7 : wj.cell? ⟨D, 1, none⟩ = some (.slice xa xs0.length xb) := (Below.celz bj _ _ _ (by omega)).trans cc7
      have d8 : wj.cell? ⟨E, 0, none⟩ = some (.int .i64 (puZ z0 xs0 (l1, n1))) := (Below.celz bj _ _ _ (by omega)).trans cc8
      have d9 : wj.cell? ⟨E, 1, none⟩ = some (.slice ya (puL z0 xs0 (l1, n1)).length yb) := (Below.celz bj _ _ _ (by omega)).trans cc9
      have y0 : A < wj.heap.size := by have := Below.size bj; omega
      have y1 : A + 1 < wj.heap.size := by have := Below.size bj; omega
      have y2 : C < wj.heap.size := by have := Below.size bj; omega
      have y3 : D < wj.heap.size := by have := Below.size bj; omega
      have y4 : E < wj.heap.size := by have := Below.size bj; omega
      clear cc0 cc1 cc2 cc3 cc4 cc5 cc6 cc7 cc8 cc9 zz0 zz1 zz2 zz3 zz4
      have cc0 := d0
      have cc1 := d1
      have cc2 := d2
      have cc3 := d3
      have cc4 := d4
      have cc5 := d5
      have cc6 := d6
      have cc7 := d7
      have cc8 := d8
      have cc9 := d9
      have zz0 := y0
      have zz1 := y1
      have zz2 := y2
      have zz3 := y3
      have zz4 := y4
      clear d0 d1 d2 d3 d4 d5 d6 d7 d8 d9 y0 y1 y2 y3 y4
      have HX5 : Hid (OwnPool wj wc.heap.size (.slice xa xs0.length xb) xs0) := HX4.out.keep bj
      have HG5 : Hid (OwnPool wj wd2.heap.size (.slice ya (puL z0 xs0 (l1, n1)).length yb) (puL z0 xs0 (l1, n1))) := HG4.out.keep bj
      clear bj Bf Lf HX4 HG4
      go_wp2_with fail
      refine (markPool _ xs0.length _ _ _ _ _ (by omega) (by omega) l0 HX5.out).mono ?_
      rintro e wk ⟨rfl, _, bk⟩
      have Bk : Below A w wk := Bj.grown bk (by omega) (fun k h => by have := HAX.out _ h; omega)
      have Lk : Below M wc wk := Lj.grown bk (by omega) (fun k h => by have := HAX.out _ h; omega)
      have d0 : wk.cell? ⟨A, 0, none⟩ = some (.int .i64 z0) := bk.cell cc0 (fun h => by have := HAX.out (A) h.symm; omega)
      have d1 : wk.cell? ⟨A, 1, none⟩ = some (.slice ga xs0.length gb) := bk.cell cc1 (fun h => by have := HAX.out (A) h.symm; omega)
      have d2 : wk.cell? ⟨A + 1, 0, none⟩ = some (.int .i64 l1) := bk.cell cc2 (fun h => by have := HAX.out (A + 1) h.symm; omega)
      have d3 : wk.cell? ⟨A + 1, 1, none⟩ = some (.int .i64 n1) := bk.cell cc3 (fun h => by have := HAX.out (A + 1) h.symm; omega)
      have d4 : wk.cell? ⟨C, 0, none⟩ = some (.int .i64 (puZ z0 xs0 (l1, n1))) := bk.cell cc4 (fun h => by have := HAX.out (C) h.symm; omega)
      have d5 : wk.cell? ⟨C, 1, none⟩ = some (.slice pa (puL z0 xs0 (l1, n1)).length pb) := bk.cell cc5 (fun h => by have := HAX.out (C) h.symm; omega)
      have d6 : wk.cell? ⟨D, 0, none⟩ = some (.int .i64 z0) := bk.cell cc6 (fun h => by have := HAX.out (D) h.symm; omega)
      have d7 : wk.cell? ⟨D, 1, none⟩ = some (.slice xa xs0.length xb) := bk.cell cc7 (fun h => by have := HAX.out (D) h.symm; omega)
      have d8 : wk.cell? ⟨E, 0, none⟩ = some (.int .i64 (puZ z0 xs0 (l1, n1))) := bk.cell cc8 (fun h => by have := HAX.out (E) h.symm; omega)
      have d9 : wk.cell? ⟨E, 1, none⟩ = some (.slice ya (puL z0 xs0 (l1, n1)).length yb) := bk.cell cc9 (fun h => by have := HAX.out (E) h.symm; omega)
      have y0 : A < wk.heap.size := by have := bk.size; omega
      have y1 : A + 1 < wk.heap.size := by have := bk.size; omega
      have y2 : C < wk.heap.size := by have := bk.size; omega
      have y3 : D < wk.heap.size := by have := bk.size; omega
      have y4 : E < wk.heap.size := by have := bk.size; omega
      clear cc0 cc1 cc2 cc3 cc4 cc5 cc6 cc7 cc8 cc9 zz0 zz1 zz2 zz3 zz4
      have cc0 := d0
      have cc1 := d1
      have cc2 := d2
      have cc3 := d3
      have cc4 := d4
      have cc5 := d5
      have cc6 := d6
      have cc7 := d7
      have cc8 := d8
      have cc9 := d9
      have zz0 := y0
      have zz1 := y1
      have zz2 := y2
      have zz3 := y3
      have zz4 := y4
      clear d0 d1 d2 d3 d4 d5 d6 d7 d8 d9 y0 y1 y2 y3 y4
      have HG6 : Hid (OwnPool wk wd2.heap.size (.slice ya (puL z0 xs0 (l1, n1)).length yb) (puL z0 xs0 (l1, n1))) := own_grownP HG5.out bk (fun k h e => by have := HAX.out _ e; have := HAG.out _ h; omega)
      clear bk Bj Lj HX5 HG5
      go_wp2_with fail
      refine (eqPool_same (puZ z0 xs0 (l1, n1)) _ _ (puL z0 xs0 (l1, n1)) _ HG6.out.row (HW.out _ Lk) (by omega)).mono ?_
      rintro e wl ⟨rfl, bl⟩
      have Bl : Below A w wl := Bk.trans (bl.mono (by omega))
      have Ll : Below M wc wl := Lk.trans (bl.mono (by omega))
      have d0 : wl.cell? ⟨A, 0, none⟩ = some (.int .i64 z0) := (Below.celz bl _ _ _ (by omega)).trans cc0
      have d1 : wl.cell? ⟨A, 1, none⟩ = some (.slice ga xs0.length gb) := (Below.celz bl _ _ _ (by omega)).trans cc1
      have d2 : wl.cell? ⟨A + 1, 0, none⟩ = some (.int .i64 l1) := (Below.celz bl _ _ _ (by omega)).trans cc2
      have d3 : wl.cell? ⟨A + 1, 1, none⟩ = some (.int .i64 n1) := (Below.celz bl _ _ _ (by omega)).trans cc3
      have d4 : wl.cell? ⟨C, 0, none⟩ = some (.int .i64 (puZ z0 xs0 (l1, n1))) := (Below.celz bl _ _ _ (by omega)).trans cc4
      have d5 : wl.cell? ⟨C, 1, none⟩ = some (.slice pa (puL z0 xs0 (l1, n1)).length pb) := (Below.celz bl _ _ _ (by omega)).trans cc5
      have d6 : wl.cell? ⟨D, 0, none⟩ = some (.int .i64 z0) := (Below.celz bl _ _ _ (by omega)).trans cc6
      have d7 : wl.cell? ⟨D, 1, none⟩ = some (.slice xa xs0.length xb) := (Below.celz bl _ _ _ (by omega)).trans cc7
      have d8 : wl.cell? ⟨E, 0, none⟩ = some (.int .i64 (puZ z0 xs0 (l1, n1))) := (Below.celz bl _ _ _ (by omega)).trans cc8
      have d9 : wl.cell? ⟨E, 1, none⟩ = some (.slice ya (puL z0 xs0 (l1, n1)).length yb) := (Below.celz bl _ _ _ (by omega)).trans cc9
      have y0 : A < wl.heap.size := by have := Below.size bl; omega
      have y1 : A + 1 < wl.heap.size := by have := Below.size bl; omega
      have y2 : C < wl.heap.size := by have := Below.size bl; omega
      have y3 : D < wl.heap.size := by have := Below.size bl; omega
      have y4 : E < wl.heap.size := by have := Below.size bl; omega
      clear cc0 cc1 cc2 cc3 cc4 cc5 cc6 cc7 cc8 cc9 zz0 zz1 zz2 zz3 zz4
      have cc0 := d0
      have cc1 := d1
      have cc2 := d2
      have cc3 := d3
      have cc4 := d4
      have cc5 := d5
      have cc6 := d6
      have cc7 := d7
      have cc8 := d8
      have cc9 := d9
      have zz0 := y0
      have zz1 := y1
      have zz2 := y2
      have zz3 := y3
      have zz4 := y4
      clear d0 d1 d2 d3 d4 d5 d6 d7 d8 d9 y0 y1 y2 y3 y4
      have HG7 : Hid (OwnPool wl wd2.heap.size (.slice ya (puL z0 xs0 (l1, n1)).length yb) (puL z0 xs0 (l1, n1))) := HG6.out.keep bl
      clear bl Bk Lk HG6
      go_wp2_with fail
      refine (markPool _ (puL z0 xs0 (l1, n1)).length _ _ _ _ _ (by omega) (by omega) (by omega) HG7.out).mono ?_
      rintro e wm ⟨rfl, og7, bm⟩
      have Bm : Below A w wm := Bl.grown bm (by omega) (fun k h => by have := HAG.out _ h; omega)
      have Lm : Below M wc wm := Ll.grown bm (by omega) (fun k h => by have := HAG.out _ h; omega)
      have HG8 : Hid (OwnPool wm wd2.heap.size (.slice ya (puL z0 xs0 (l1, n1)).length yb) (marksPage 1 (puL z0 xs0 (l1, n1)).length)) := by show OwnPool wm wd2.heap.size (.slice ya (puL z0 xs0 (l1, n1)).length yb) (marksPage 1 (puL z0 xs0 (l1, n1)).length); unfold OwnPool; rw [marksPage_len]; exact og7
      clear og7
      have d0 : wm.cell? ⟨A, 0, none⟩ = some (.int .i64 z0) := bm.cell cc0 (fun h => by have := HAG.out (A) h.symm; omega)
      have d1 : wm.cell? ⟨A, 1, none⟩ = some (.slice ga xs0.length gb) := bm.cell cc1 (fun h => by have := HAG.out (A) h.symm; omega)
      have d2 : wm.cell? ⟨A + 1, 0, none⟩ = some (.int .i64 l1) := bm.cell cc2 (fun h => by have := HAG.out (A + 1) h.symm; omega)
      have d3 : wm.cell? ⟨A + 1, 1, none⟩ = some (.int .i64 n1) := bm.cell cc3 (fun h => by have := HAG.out (A + 1) h.symm; omega)
      have d4 : wm.cell? ⟨C, 0, none⟩ = some (.int .i64 (puZ z0 xs0 (l1, n1))) := bm.cell cc4 (fun h => by have := HAG.out (C) h.symm; omega)
      have d5 : wm.cell? ⟨C, 1, none⟩ = some (.slice pa (puL z0 xs0 (l1, n1)).length pb) := bm.cell cc5 (fun h => by have := HAG.out (C) h.symm; omega)
      have d6 : wm.cell? ⟨D, 0, none⟩ = some (.int .i64 z0) := bm.cell cc6 (fun h => by have := HAG.out (D) h.symm; omega)
      have d7 : wm.cell? ⟨D, 1, none⟩ = some (.slice xa xs0.length xb) := bm.cell cc7 (fun h => by have := HAG.out (D) h.symm; omega)
      have d8 : wm.cell? ⟨E, 0, none⟩ = some (.int .i64 (puZ z0 xs0 (l1, n1))) := bm.cell cc8 (fun h => by have := HAG.out (E) h.symm; omega)
      have d9 : wm.cell? ⟨E, 1, none⟩ = some (.slice ya (puL z0 xs0 (l1, n1)).length yb) := bm.cell cc9 (fun h => by have := HAG.out (E) h.symm; omega)
      have y0 : A < wm.heap.size := by have := bm.size; omega
      have y1 : A + 1 < wm.heap.size := by have := bm.size; omega
      have y2 : C < wm.heap.size := by have := bm.size; omega
      have y3 : D < wm.heap.size := by have := bm.size; omega
      have y4 : E < wm.heap.size := by have := bm.size; omega
      clear cc0 cc1 cc2 cc3 cc4 cc5 cc6 cc7 cc8 cc9 zz0 zz1 zz2 zz3 zz4
      have cc0 := d0
      have cc1 := d1
      have cc2 := d2
      have cc3 := d3
      have cc4 := d4
      have cc5 := d5
      have cc6 := d6
      have cc7 := d7
      have cc8 := d8
      have cc9 := d9
      have zz0 := y0
      have zz1 := y1
      have zz2 := y2
      have zz3 := y3
      have zz4 := y4
      clear d0 d1 d2 d3 d4 d5 d6 d7 d8 d9 y0 y1 y2 y3 y4
      clear bm Bl Ll HG7
      go_wp2_with fail
      refine (heldPool (puL z0 xs0 (l1, n1)).length _ _ _ _ (by omega) (by omega) (by omega) HG8.out.row).mono ?_
      rintro e wn ⟨rfl, bn⟩
      have Bn : Below A w wn := Bm.trans (bn.mono (by omega))
      have Ln : Below M wc wn := Lm.trans (bn.mono (by omega))
      have d0 : wn.cell? ⟨A, 0, none⟩ = some (.int .i64 z0) := (Below.celz bn _ _ _ (by omega)).trans cc0
      have d1 : wn.cell? ⟨A, 1, none⟩ = some (.slice ga xs0.length gb) := (Below.celz bn _ _ _ (by omega)).trans cc1
      have d2 : wn.cell? ⟨A + 1, 0, none⟩ = some (.int .i64 l1) := (Below.celz bn _ _ _ (by omega)).trans cc2
      have d3 : wn.cell? ⟨A + 1, 1, none⟩ = some (.int .i64 n1) := (Below.celz bn _ _ _ (by omega)).trans cc3
      have d4 : wn.cell? ⟨C, 0, none⟩ = some (.int .i64 (puZ z0 xs0 (l1, n1))) := (Below.celz bn _ _ _ (by omega)).trans cc4
      have d5 : wn.cell? ⟨C, 1, none⟩ = some (.slice pa (puL z0 xs0 (l1, n1)).length pb) := (Below.celz bn _ _ _ (by omega)).trans cc5
      have d6 : wn.cell? ⟨D, 0, none⟩ = some (.int .i64 z0) := (Below.celz bn _ _ _ (by omega)).trans cc6
      have d7 : wn.cell? ⟨D, 1, none⟩ = some (.slice xa xs0.length xb) := (Below.celz bn _ _ _ (by omega)).trans cc7
      have d8 : wn.cell? ⟨E, 0, none⟩ = some (.int .i64 (puZ z0 xs0 (l1, n1))) := (Below.celz bn _ _ _ (by omega)).trans cc8
      have d9 : wn.cell? ⟨E, 1, none⟩ = some (.slice ya (puL z0 xs0 (l1, n1)).length yb) := (Below.celz bn _ _ _ (by omega)).trans cc9
      have y0 : A < wn.heap.size := by have := Below.size bn; omega
      have y1 : A + 1 < wn.heap.size := by have := Below.size bn; omega
      have y2 : C < wn.heap.size := by have := Below.size bn; omega
      have y3 : D < wn.heap.size := by have := Below.size bn; omega
      have y4 : E < wn.heap.size := by have := Below.size bn; omega
      clear cc0 cc1 cc2 cc3 cc4 cc5 cc6 cc7 cc8 cc9 zz0 zz1 zz2 zz3 zz4
      have cc0 := d0
      have cc1 := d1
      have cc2 := d2
      have cc3 := d3
      have cc4 := d4
      have cc5 := d5
      have cc6 := d6
      have cc7 := d7
      have cc8 := d8
      have cc9 := d9
      have zz0 := y0
      have zz1 := y1
      have zz2 := y2
      have zz3 := y3
      have zz4 := y4
      clear d0 d1 d2 d3 d4 d5 d6 d7 d8 d9 y0 y1 y2 y3 y4
      have HG9 : Hid (OwnPool wn wd2.heap.size (.slice ya (puL z0 xs0 (l1, n1)).length yb) (marksPage 1 (puL z0 xs0 (l1, n1)).length)) := HG8.out.keep bn
      clear bn Bm Lm HG8
      have hmm : ((1 + 2 * ((puL z0 xs0 (l1, n1)).length : Int)) != (1 + 2 * ((puL z0 xs0 (l1, n1)).length : Int))) = false := by simp
      go_wp2_with fail
      have HF3 : Hid (∀ W, Below wn.heap.size wn W → RowAt 2 encPage W (.slice ga xs0.length gb) xs0 ∧ FormAt W) := fun W h => HK.out W (Bn.trans (h.mono (by omega)))
      rename_i K3 hK3
      have REST3 : ∀ (e16 e17 e18 e19 e20 e21 e22 e23 e24 e25 e26 e27 e28 e29 e30 e31 e32 e33 e34 e35 e36 e37 e38 e39 e40 e41 e42 e43 e44 e45 e46 e47 e48 e49 e50 e51 e52 e53 e54 e55 e56 e57 e58 e59 e60 e61 e62 e63 e64 e65 e66 e67 e68 e69 e70 e71 e72 e73 e74 e75 e76 e77 e78 e79 e80 e81 e82 e83 e84 e85 e86 : Value) (ha : Option Addr) (hb F : Nat) (wp : World), BoxU wn wp F (puZ z0 xs0 (l1, n1)) (.slice ha (puL z0 xs0 (l1, n1)).length hb) (puL z0 xs0 (l1, n1)) → K3 { tmps := #[(.agg #[.int .i64 z0, .slice ga xs0.length gb]), (.agg #[.int .i64 l1, .int .i64 n1]), (.pointer (some ⟨A, 0, none⟩)), (.pointer (some ⟨A + 1, 0, none⟩)), (.bool false), (.int .i64 (1048576 - (xs0.length : Int))), (.pointer (some ⟨C, 0, none⟩)), (.bool (puH z0 xs0 (l1, n1))), (.pointer (some ⟨D, 0, none⟩)), (.pointer (some ⟨E, 0, none⟩)), (.bool (puH z0 xs0 (l1, n1))), (.int .i64 (1 + 2 * (xs0.length : Int))), (.int .i64 (1 + 2 * ((puL z0 xs0 (l1, n1)).length : Int))), (.int .i64 (1 + 2 * ((puL z0 xs0 (l1, n1)).length : Int))), (.pointer (some ⟨F, 0, none⟩)), (.bool (puH z0 xs0 (l1, n1))), e16, e17, e18, e19, e20, e21, e22, e23, e24, e25, e26, e27, e28, e29, e30, e31, e32, e33, e34, e35, e36, e37, e38, e39, e40, e41, e42, e43, e44, e45, e46, e47, e48, e49, e50, e51, e52, e53, e54, e55, e56, e57, e58, e59, e60, e61, e62, e63, e64, e65, e66, e67, e68, e69, e70, e71, e72, e73, e74, e75, e76, e77, e78, e79, e80, e81, e82, e83, e84, e85, e86, undef, undef, undef, undef, undef, undef, undef, undef, undef, undef, undef, undef, undef, undef, undef, undef, undef], defers := [] } wp := by
        intro e16 e17 e18 e19 e20 e21 e22 e23 e24 e25 e26 e27 e28 e29 e30 e31 e32 e33 e34 e35 e36 e37 e38 e39 e40 e41 e42 e43 e44 e45 e46 e47 e48 e49 e50 e51 e52 e53 e54 e55 e56 e57 e58 e59 e60 e61 e62 e63 e64 e65 e66 e67 e68 e69 e70 e71 e72 e73 e74 e75 e76 e77 e78 e79 e80 e81 e82 e83 e84 e85 e86 ha hb F wp hbu
        obtain ⟨lb, hC0, hblk, og, hap⟩ := hbu
        apply hK3
        clear hK3
        have Bp : Below A w wp := Bn.trans (lb.mono (by omega))
        have Lp : Below M wc wp := Ln.trans (lb.mono (by omega))
        have d0 : wp.cell? ⟨A, 0, none⟩ = some (.int .i64 z0) := (Below.celz lb _ _ _ (by omega)).trans cc0
        have d1 : wp.cell? ⟨A, 1, none⟩ = some (.slice ga xs0.length gb) := (Below.celz lb _ _ _ (by omega)).trans cc1
        have d2 : wp.cell? ⟨A + 1, 0, none⟩ = some (.int .i64 l1) := (Below.celz lb _ _ _ (by omega)).trans cc2
        have d3 : wp.cell? ⟨A + 1, 1, none⟩ = some (.int .i64 n1) := (Below.celz lb _ _ _ (by omega)).trans cc3
        have d4 : wp.cell? ⟨C, 0, none⟩ = some (.int .i64 (puZ z0 xs0 (l1, n1))) := (Below.celz lb _ _ _ (by omega)).trans cc4
        have d5 : wp.cell? ⟨C, 1, none⟩ = some (.slice pa (puL z0 xs0 (l1, n1)).length pb) := (Below.celz lb _ _ _ (by omega)).trans cc5
        have d6 : wp.cell? ⟨D, 0, none⟩ = some (.int .i64 z0) := (Below.celz lb _ _ _ (by omega)).trans cc6
        have d7 : wp.cell? ⟨D, 1, none⟩ = some (.slice xa xs0.length xb) := (Below.celz lb _ _ _ (by omega)).trans cc7
        have d8 : wp.cell? ⟨E, 0, none⟩ = some (.int .i64 (puZ z0 xs0 (l1, n1))) := (Below.celz lb _ _ _ (by omega)).trans cc8
        have d9 : wp.cell? ⟨E, 1, none⟩ = some (.slice ya (puL z0 xs0 (l1, n1)).length yb) := (Below.celz lb _ _ _ (by omega)).trans cc9
        have y0 : A < wp.heap.size := by have := Below.size lb; omega
        have y1 : A + 1 < wp.heap.size := by have := Below.size lb; omega
        have y2 : C < wp.heap.size := by have := Below.size lb; omega
        have y3 : D < wp.heap.size := by have := Below.size lb; omega
        have y4 : E < wp.heap.size := by have := Below.size lb; omega
        clear cc0 cc1 cc2 cc3 cc4 cc5 cc6 cc7 cc8 cc9 zz0 zz1 zz2 zz3 zz4
        have cc0 := d0
        have cc1 := d1
        have cc2 := d2
        have cc3 := d3
        have cc4 := d4
        have cc5 := d5
        have cc6 := d6
        have cc7 := d7
        have cc8 := d8
        have cc9 := d9
        have zz0 := y0
        have zz1 := y1
        have zz2 := y2
        have zz3 := y3
        have zz4 := y4
        clear d0 d1 d2 d3 d4 d5 d6 d7 d8 d9 y0 y1 y2 y3 y4
        have cc10 : wp.cell? ⟨F, 0, none⟩ = some (.int .i64 (puZ z0 xs0 (l1, n1))) := by rw [cell_block hblk]; rfl
        have cc11 : wp.cell? ⟨F, 1, none⟩ = some (.slice ha (puL z0 xs0 (l1, n1)).length hb) := by rw [cell_block hblk]; rfl
        have zz5 : F < wp.heap.size := lt_of_block hblk
        have HGa : Hid (OwnPool wp wd2.heap.size (.slice ya (puL z0 xs0 (l1, n1)).length yb) (marksPage 1 (puL z0 xs0 (l1, n1)).length)) := HG9.out.keep lb
        have HH : Hid (RowAt 2 encPage wp (.slice ha (puL z0 xs0 (l1, n1)).length hb) (puL z0 xs0 (l1, n1))) := og.row
        clear lb hC0 hblk og hap HG9 HF3 Bn Ln
        go_wp2_with fail
        refine (eqPool_same (puZ z0 xs0 (l1, n1)) _ _ (puL z0 xs0 (l1, n1)) _ HH.out (HW.out _ Lp) (by omega)).mono ?_
        rintro e wq ⟨rfl, bq⟩
        have Bq : Below A w wq := Bp.trans (bq.mono (by omega))
        have d0 : wq.cell? ⟨A, 0, none⟩ = some (.int .i64 z0) := (Below.celz bq _ _ _ (by omega)).trans cc0
        have d1 : wq.cell? ⟨A, 1, none⟩ = some (.slice ga xs0.length gb) := (Below.celz bq _ _ _ (by omega)).trans cc1
        have d2 : wq.cell? ⟨A + 1, 0, none⟩ = some (.int .i64 l1) := (Below.celz bq _ _ _ (by omega)).trans cc2
        have d3 : wq.cell? ⟨A + 1, 1, none⟩ = some (.int .i64 n1) := (Below.celz bq _ _ _ (by omega)).trans cc3
        have d4 : wq.cell? ⟨C, 0, none⟩ = some (.int .i64 (puZ z0 xs0 (l1, n1))) := (Below.celz bq _ _ _ (by omega)).trans cc4
        have d5 : wq.cell? ⟨C, 1, none⟩ = some (.slice pa (puL z0 xs0 (l1, n1)).length pb) := (Below.celz bq _ _ _ (by omega)).trans cc5
        have d6 : wq.cell? ⟨D, 0, none⟩ = some (.int .i64 z0) := (Below.celz bq _ _ _ (by omega)).trans cc6
        have d7 : wq.cell? ⟨D, 1, none⟩ = some (.slice xa xs0.length xb) := (Below.celz bq _ _ _ (by omega)).trans cc7
        have d8 : wq.cell? ⟨E, 0, none⟩ = some (.int .i64 (puZ z0 xs0 (l1, n1))) := (Below.celz bq _ _ _ (by omega)).trans cc8
        have d9 : wq.cell? ⟨E, 1, none⟩ = some (.slice ya (puL z0 xs0 (l1, n1)).length yb) := (Below.celz bq _ _ _ (by omega)).trans cc9
        have d10 : wq.cell? ⟨F, 0, none⟩ = some (.int .i64 (puZ z0 xs0 (l1, n1))) := (Below.celz bq _ _ _ (by omega)).trans cc10
        have d11 : wq.cell? ⟨F, 1, none⟩ = some (.slice ha (puL z0 xs0 (l1, n1)).length hb) := (Below.celz bq _ _ _ (by omega)).trans cc11
        have y0 : A < wq.heap.size := by have := Below.size bq; omega
        have y1 : A + 1 < wq.heap.size := by have := Below.size bq; omega
        have y2 : C < wq.heap.size := by have := Below.size bq; omega
        have y3 : D < wq.heap.size := by have := Below.size bq; omega
        have y4 : E < wq.heap.size := by have := Below.size bq; omega
        have y5 : F < wq.heap.size := by have := Below.size bq; omega
        clear cc0 cc1 cc2 cc3 cc4 cc5 cc6 cc7 cc8 cc9 cc10 cc11 zz0 zz1 zz2 zz3 zz4 zz5
        have cc0 := d0
        have cc1 := d1
        have cc2 := d2
        have cc3 := d3
        have cc4 := d4
        have cc5 := d5
        have cc6 := d6
        have cc7 := d7
        have cc8 := d8
        have cc9 := d9
        have cc10 := d10
        have cc11 := d11
        have zz0 := y0
        have zz1 := y1
        have zz2 := y2
        have zz3 := y3
        have zz4 := y4
        have zz5 := y5
        clear d0 d1 d2 d3 d4 d5 d6 d7 d8 d9 d10 d11 y0 y1 y2 y3 y4 y5
        have HGb : Hid (OwnPool wq wd2.heap.size (.slice ya (puL z0 xs0 (l1, n1)).length yb) (marksPage 1 (puL z0 xs0 (l1, n1)).length)) := HGa.out.keep bq
        clear bq Bp Lp HGa HH
        go_wp2_with fail
        refine (heldPool (puL z0 xs0 (l1, n1)).length _ _ _ _ (by omega) (by omega) (by omega) HGb.out.row).mono ?_
        rintro e wr ⟨rfl, br⟩
        have Br : Below A w wr := Bq.trans (br.mono (by omega))
        clear br Bq HGb
        go_wp2_with fail
        go_ret
        exact ⟨rfl, by rw [← HA0.out]; exact Br⟩
      have hS3 : Hid (∀ w', Below wn.heap.size wn w' → Below wn.heap.size wn w' ∧ w'.cell? ⟨A, 0, none⟩ = some (.int .i64 z0) ∧ w'.cell? ⟨A, 1, none⟩ = some (.slice ga xs0.length gb) ∧ w'.cell? ⟨A + 1, 0, none⟩ = some (.int .i64 l1) ∧ w'.cell? ⟨A + 1, 1, none⟩ = some (.int .i64 n1)) := fun w' hn => ⟨hn, (Below.celz hn _ _ _ zz0).trans cc0, (Below.celz hn _ _ _ zz0).trans cc1, (Below.celz hn _ _ _ zz1).trans cc2, (Below.celz hn _ _ _ zz1).trans cc3⟩
      go_region_held3 (fun w' => Below wn.heap.size wn w' ∧ w'.cell? ⟨A, 0, none⟩ = some (.int .i64 z0) ∧ w'.cell? ⟨A, 1, none⟩ = some (.slice ga xs0.length gb) ∧ w'.cell? ⟨A + 1, 0, none⟩ = some (.int .i64 l1) ∧ w'.cell? ⟨A + 1, 1, none⟩ = some (.int .i64 n1))
        (first | with_reducible exact hS3.out _ (Below.refl _ _).drew | (with_reducible exact hS3.out _ (keep_below (And.left (by assumption)) tj3)) | (with_reducible exact hS3.out _ (keep_below (And.left (by assumption)) tj2)) | (with_reducible exact hS3.out _ (keep_below (And.left (by assumption)) tj1)) | (with_reducible exact hS3.out _ (Below.alloc (And.left (by assumption)) (Below.size (And.left (by assumption))) _)) | exact hS3.out _ (Below.alloc hs3.out hs3.out.size _) | exact hS3.out _ (Below.setCell (Below.setCell hs3.out (by first | exact hs2.out.size | exact hs1.out.size | exact Nat.le_refl _) _) (by first | exact hs2.out.size | exact hs1.out.size | exact Nat.le_refl _) _))
        (first | (go_at_call 8; refine (toPool _ _ xs0 _ (HF3.out _ (And.left (by assumption))).1 l0).mono ?_; rintro e wo ⟨u1, rfl, o1, tj1⟩; have hs1 : Hid (Below wn.heap.size wn wo) := keep_below (And.left (by assumption)) tj1) | (go_at_call 12; refine (toPage _ _ _).mono ?_; rintro e wo2 ⟨rfl, tj2⟩; have hs2 : Hid (Below wn.heap.size wn wo2) := keep_below (And.left (by assumption)) tj2) | (go_at_call 13; refine (impl_PoolUse _ _ xs0 _ _ _ ((o1.keep (by first | exact tj2 | exact tj2.alloc tj2.size _ | exact ((Below.refl _ _).alloc (Nat.le_refl _) _).trans (tj2.mono (by simp)))).row) l0 (HF3.out _ (And.left (by assumption))).2).mono ?_; rintro e wp ⟨p1, rfl, ogz, tj3⟩; have hs3 : Hid (Below wn.heap.size wn wp) := keep_below (And.left (by assumption)) tj3; obtain ⟨ha, hb, rfl⟩ := ogz.form; first | (have hbx : wp.heap[wo2.heap.size]? = some (.cells #[.int .i64 0, .slice none 0 0] 29 (0, 0)) := (by rw [tj3.block _ (by have h0 := tj3.size; (try simp at h0); (first | omega | (simp; done) | (simp; omega)))]; exact new_block _ _); have qb0 : wp.cell? ⟨wo2.heap.size, 0, none⟩ = some (.int .i64 0) := (by rw [cell_block hbx]; rfl); have qb1 : wp.cell? ⟨wo2.heap.size, 1, none⟩ = some (.slice none 0 0) := (by rw [cell_block hbx]; rfl); have qb2 : ∀ o, wp.frozen? ⟨wo2.heap.size, o, none⟩ = false := (fun o => free_block hbx)) | (have hbx : wp.heap[wo.heap.size]? = some (.cells #[.int .i64 0, .slice none 0 0] 29 (0, 0)) := (by rw [tj3.block _ (by have h0 := tj2.size; have h1 := tj3.size; (try simp at h0); (try simp at h1); (first | omega | (simp; done) | (simp; omega)))]; rw [tj2.block _ (by have h0 := tj2.size; have h1 := tj3.size; (try simp at h0); (try simp at h1); (first | omega | (simp; done) | (simp; omega)))]; exact new_block _ _); have qb0 : wp.cell? ⟨wo.heap.size, 0, none⟩ = some (.int .i64 0) := (by rw [cell_block hbx]; rfl); have qb1 : wp.cell? ⟨wo.heap.size, 1, none⟩ = some (.slice none 0 0) := (by rw [cell_block hbx]; rfl); have qb2 : ∀ o, wp.frozen? ⟨wo.heap.size, o, none⟩ = false := (fun o => free_block hbx)) | (have hbx : wp.heap[wn.heap.size]? = some (.cells #[.int .i64 0, .slice none 0 0] 29 (0, 0)) := (by rw [tj3.block _ (by have h0 := tj1.size; have h1 := tj2.size; have h2 := tj3.size; (try simp at h0); (try simp at h1); (try simp at h2); (first | omega | (simp; done) | (simp; omega)))]; rw [tj2.block _ (by have h0 := tj1.size; have h1 := tj2.size; have h2 := tj3.size; (try simp at h0); (try simp at h1); (try simp at h2); (first | omega | (simp; done) | (simp; omega)))]; rw [tj1.block _ (by have h0 := tj1.size; have h1 := tj2.size; have h2 := tj3.size; (try simp at h0); (try simp at h1); (try simp at h2); (first | omega | (simp; done) | (simp; omega)))]; exact new_block _ _); have qb0 : wp.cell? ⟨wn.heap.size, 0, none⟩ = some (.int .i64 0) := (by rw [cell_block hbx]; rfl); have qb1 : wp.cell? ⟨wn.heap.size, 1, none⟩ = some (.slice none 0 0) := (by rw [cell_block hbx]; rfl); have qb2 : ∀ o, wp.frozen? ⟨wn.heap.size, o, none⟩ = false := (fun o => free_block hbx)) | skip))
      all_goals (first | exact REST3 _ _ _ _ _ _ _ _ _ _ _ _ _ _ _ _ _ _ _ _ _ _ _ _ _ _ _ _ _ _ _ _ _ _ _ _ _ _ _ _ _ _ _ _ _ _ _ _ _ _ _ _ _ _ _ _ _ _ _ _ _ _ _ _ _ _ _ _ _ _ _ _ _ _ _ (box_last hs3.out ogz (by have h0 := tj1.size; (try simp at h0); have h1 := tj2.size; (try simp at h1); have h2 := tj3.size; (try simp at h2); (first | omega | (simp; done) | (simp; omega)))) | exact REST3 _ _ _ _ _ _ _ _ _ _ _ _ _ _ _ _ _ _ _ _ _ _ _ _ _ _ _ _ _ _ _ _ _ _ _ _ _ _ _ _ _ _ _ _ _ _ _ _ _ _ _ _ _ _ _ _ _ _ _ _ _ _ _ _ _ _ _ _ _ _ _ _ _ _ _ (box_set hs3.out ogz (by first | exact hs2.out.size | exact hs1.out.size | exact Nat.le_refl _) (by have h0 := tj1.size; (try simp at h0); have h1 := tj2.size; (try simp at h1); have h2 := tj3.size; (try simp at h2); (first | omega | (simp; done) | (simp; omega))) hbx))
    have hS2 : Hid (∀ w', Below wd2.heap.size wd2 w' → Below wd2.heap.size wd2 w' ∧ w'.cell? ⟨A + 1, 0, none⟩ = some (.int .i64 l1) ∧ w'.cell? ⟨A + 1, 1, none⟩ = some (.int .i64 n1) ∧ w'.cell? ⟨D, 0, none⟩ = some (.int .i64 z0) ∧ w'.cell? ⟨D, 1, none⟩ = some (.slice xa xs0.length xb)) := fun w' hn => ⟨hn, (Below.celz hn _ _ _ zz1).trans cc2, (Below.celz hn _ _ _ zz1).trans cc3, (Below.celz hn _ _ _ zz3).trans cc6, (Below.celz hn _ _ _ zz3).trans cc7⟩
    go_region_held3 (fun w' => Below wd2.heap.size wd2 w' ∧ w'.cell? ⟨A + 1, 0, none⟩ = some (.int .i64 l1) ∧ w'.cell? ⟨A + 1, 1, none⟩ = some (.int .i64 n1) ∧ w'.cell? ⟨D, 0, none⟩ = some (.int .i64 z0) ∧ w'.cell? ⟨D, 1, none⟩ = some (.slice xa xs0.length xb))
      (first | with_reducible exact hS2.out _ (Below.refl _ _).drew | (with_reducible exact hS2.out _ (keep_below (And.left (by assumption)) tj2)) | (with_reducible exact hS2.out _ (keep_below (And.left (by assumption)) tj1)) | (with_reducible exact hS2.out _ (Below.alloc (And.left (by assumption)) (Below.size (And.left (by assumption))) _)) | exact hS2.out _ (Below.alloc hs2.out hs2.out.size _) | exact hS2.out _ (Below.setCell (Below.setCell hs2.out (by first | exact hs1.out.size | exact Nat.le_refl _) _) (by first | exact hs1.out.size | exact Nat.le_refl _) _))
      (first | (go_at_call 12; refine (toPage _ _ _).mono ?_; rintro e we0 ⟨rfl, tj1⟩; have hs1 : Hid (Below wd2.heap.size wd2 we0) := keep_below (And.left (by assumption)) tj1) | (go_at_call 13; refine (impl_PoolUse _ _ xs0 _ _ _ (HX2.out.keep (And.left (by assumption))).row l0 (HF2.out _ (And.left (by assumption))).2).mono ?_; rintro e we ⟨g1, rfl, ogz, tj2⟩; have hs2 : Hid (Below wd2.heap.size wd2 we) := keep_below (And.left (by assumption)) tj2; obtain ⟨ya, yb, rfl⟩ := ogz.form; first | (have hbx : we.heap[we0.heap.size]? = some (.cells #[.int .i64 0, .slice none 0 0] 29 (0, 0)) := (by rw [tj2.block _ (by have h0 := tj2.size; (try simp at h0); (first | omega | (simp; done) | (simp; omega)))]; exact new_block _ _); have qb0 : we.cell? ⟨we0.heap.size, 0, none⟩ = some (.int .i64 0) := (by rw [cell_block hbx]; rfl); have qb1 : we.cell? ⟨we0.heap.size, 1, none⟩ = some (.slice none 0 0) := (by rw [cell_block hbx]; rfl); have qb2 : ∀ o, we.frozen? ⟨we0.heap.size, o, none⟩ = false := (fun o => free_block hbx)) | (have hbx : we.heap[wd2.heap.size]? = some (.cells #[.int .i64 0, .slice none 0 0] 29 (0, 0)) := (by rw [tj2.block _ (by have h0 := tj1.size; have h1 := tj2.size; (try simp at h0); (try simp at h1); (first | omega | (simp; done) | (simp; omega)))]; rw [tj1.block _ (by have h0 := tj1.size; have h1 := tj2.size; (try simp at h0); (try simp at h1); (first | omega | (simp; done) | (simp; omega)))]; exact new_block _ _); have qb0 : we.cell? ⟨wd2.heap.size, 0, none⟩ = some (.int .i64 0) := (by rw [cell_block hbx]; rfl); have qb1 : we.cell? ⟨wd2.heap.size, 1, none⟩ = some (.slice none 0 0) := (by rw [cell_block hbx]; rfl); have qb2 : ∀ o, we.frozen? ⟨wd2.heap.size, o, none⟩ = false := (fun o => free_block hbx)) | skip))
    all_goals (first | exact REST2 _ _ _ _ _ _ _ _ _ _ _ _ _ _ _ _ _ _ _ _ _ _ _ _ _ _ (box_last hs2.out ogz (by have h0 := tj1.size; (try simp at h0); have h1 := tj2.size; (try simp at h1); (first | omega | (simp; done) | (simp; omega)))) | exact REST2 _ _ _ _ _ _ _ _ _ _ _ _ _ _ _ _ _ _ _ _ _ _ _ _ _ _ (box_set hs2.out ogz (by first | exact hs1.out.size | exact Nat.le_refl _) (by have h0 := tj1.size; (try simp at h0); have h1 := tj2.size; (try simp at h1); (first | omega | (simp; done) | (simp; omega))) hbx))
  have hS1 : Hid (∀ w', Below wa.heap.size wa w' → Below wa.heap.size wa w' ∧ w'.cell? ⟨A, 0, none⟩ = some (.int .i64 z0) ∧ w'.cell? ⟨A, 1, none⟩ = some (.slice ga xs0.length gb) ∧ w'.cell? ⟨A + 1, 0, none⟩ = some (.int .i64 l1) ∧ w'.cell? ⟨A + 1, 1, none⟩ = some (.int .i64 n1)) := fun w' hn => ⟨hn, (Below.celz hn _ _ _ zz0).trans cc0, (Below.celz hn _ _ _ zz0).trans cc1, (Below.celz hn _ _ _ zz1).trans cc2, (Below.celz hn _ _ _ zz1).trans cc3⟩
  go_region_held3 (fun w' => Below wa.heap.size wa w' ∧ w'.cell? ⟨A, 0, none⟩ = some (.int .i64 z0) ∧ w'.cell? ⟨A, 1, none⟩ = some (.slice ga xs0.length gb) ∧ w'.cell? ⟨A + 1, 0, none⟩ = some (.int .i64 l1) ∧ w'.cell? ⟨A + 1, 1, none⟩ = some (.int .i64 n1))
    (first | with_reducible exact hS1.out _ (Below.refl _ _).drew | (with_reducible exact hS1.out _ (keep_below (And.left (by assumption)) tj3)) | (with_reducible exact hS1.out _ (keep_below (And.left (by assumption)) tj2)) | (with_reducible exact hS1.out _ (keep_below (And.left (by assumption)) tj1)) | (with_reducible exact hS1.out _ (Below.alloc (And.left (by assumption)) (Below.size (And.left (by assumption))) _)) | exact hS1.out _ (Below.alloc hs3.out hs3.out.size _) | exact hS1.out _ (Below.setCell (Below.setCell hs3.out (by first | exact hs2.out.size | exact hs1.out.size | exact Nat.le_refl _) _) (by first | exact hs2.out.size | exact hs1.out.size | exact Nat.le_refl _) _))
    (first | (go_at_call 8; refine (toPool _ _ xs0 _ (HF.out _ (And.left (by assumption))).1 l0).mono ?_; rintro e wb ⟨u1, rfl, o1, tj1⟩; have hs1 : Hid (Below wa.heap.size wa wb) := keep_below (And.left (by assumption)) tj1) | (go_at_call 12; refine (toPage _ _ _).mono ?_; rintro e wb2 ⟨rfl, tj2⟩; have hs2 : Hid (Below wa.heap.size wa wb2) := keep_below (And.left (by assumption)) tj2) | (go_at_call 11; refine (spec_PoolUse _ _ xs0 _ _ _ ((RowC.of_own o1).keep (by first | exact tj2 | exact tj2.alloc tj2.size _ | exact ((Below.refl _ _).alloc (Nat.le_refl _) _).trans (tj2.mono (by simp)))) l0).mono ?_; rintro e wc ⟨p1, rfl, ogz, tj3⟩; have hs3 : Hid (Below wa.heap.size wa wc) := keep_below (And.left (by assumption)) tj3; obtain ⟨pa, pb, rfl⟩ := ogz.form; first | (have hbx : wc.heap[wb2.heap.size]? = some (.cells #[.int .i64 0, .slice none 0 0] 29 (0, 0)) := (by rw [tj3.block _ (by have h0 := tj3.size; (try simp at h0); (first | omega | (simp; done) | (simp; omega)))]; exact new_block _ _); have qb0 : wc.cell? ⟨wb2.heap.size, 0, none⟩ = some (.int .i64 0) := (by rw [cell_block hbx]; rfl); have qb1 : wc.cell? ⟨wb2.heap.size, 1, none⟩ = some (.slice none 0 0) := (by rw [cell_block hbx]; rfl); have qb2 : ∀ o, wc.frozen? ⟨wb2.heap.size, o, none⟩ = false := (fun o => free_block hbx)) | (have hbx : wc.heap[wb.heap.size]? = some (.cells #[.int .i64 0, .slice none 0 0] 29 (0, 0)) := (by rw [tj3.block _ (by have h0 := tj2.size; have h1 := tj3.size; (try simp at h0); (try simp at h1); (first | omega | (simp; done) | (simp; omega)))]; rw [tj2.block _ (by have h0 := tj2.size; have h1 := tj3.size; (try simp at h0); (try simp at h1); (first | omega | (simp; done) | (simp; omega)))]; exact new_block _ _); have qb0 : wc.cell? ⟨wb.heap.size, 0, none⟩ = some (.int .i64 0) := (by rw [cell_block hbx]; rfl); have qb1 : wc.cell? ⟨wb.heap.size, 1, none⟩ = some (.slice none 0 0) := (by rw [cell_block hbx]; rfl); have qb2 : ∀ o, wc.frozen? ⟨wb.heap.size, o, none⟩ = false := (fun o => free_block hbx)) | (have hbx : wc.heap[wa.heap.size]? = some (.cells #[.int .i64 0, .slice none 0 0] 29 (0, 0)) := (by rw [tj3.block _ (by have h0 := tj1.size; have h1 := tj2.size; have h2 := tj3.size; (try simp at h0); (try simp at h1); (try simp at h2); (first | omega | (simp; done) | (simp; omega)))]; rw [tj2.block _ (by have h0 := tj1.size; have h1 := tj2.size; have h2 := tj3.size; (try simp at h0); (try simp at h1); (try simp at h2); (first | omega | (simp; done) | (simp; omega)))]; rw [tj1.block _ (by have h0 := tj1.size; have h1 := tj2.size; have h2 := tj3.size; (try simp at h0); (try simp at h1); (try simp at h2); (first | omega | (simp; done) | (simp; omega)))]; exact new_block _ _); have qb0 : wc.cell? ⟨wa.heap.size, 0, none⟩ = some (.int .i64 0) := (by rw [cell_block hbx]; rfl); have qb1 : wc.cell? ⟨wa.heap.size, 1, none⟩ = some (.slice none 0 0) := (by rw [cell_block hbx]; rfl); have qb2 : ∀ o, wc.frozen? ⟨wa.heap.size, o, none⟩ = false := (fun o => free_block hbx)) | skip))
  all_goals (first | exact REST1 _ _ _ _ _ _ _ _ _ _ _ _ _ _ _ _ _ (box_last hs3.out ogz (by have h0 := tj1.size; (try simp at h0); have h1 := tj2.size; (try simp at h1); have h2 := tj3.size; (try simp at h2); (first | omega | (simp; done) | (simp; omega)))) | exact REST1 _ _ _ _ _ _ _ _ _ _ _ _ _ _ _ _ _ (box_set hs3.out ogz (by first | exact hs2.out.size | exact hs1.out.size | exact Nat.le_refl _) (by have h0 := tj1.size; (try simp at h0); have h1 := tj2.size; (try simp at h1); have h2 := tj3.size; (try simp at h2); (first | omega | (simp; done) | (simp; omega))) hbx))

theorem door_met (os : Os) (args : Array Value) : laidMetH Tryd.prog Rows.fnExactPoolUseRow.laid ((World.doorLaid Tryd.prog 28 os).forCall (fun _ _ => 0) ⟨#[], args, []⟩).memory :=
  laidMetH_of_parts3 (fuel := 8) (laidMet_of_run' 8 (by kernel_rfl) (by kernel_rfl)) (by kernel_rfl) (by kernel_rfl)

set_option maxRecDepth 100000 in
set_option maxHeartbeats 1000000 in
theorem lifted (os : Os) (started : os.Started) (H : Type) (enc : TypeId × Value → H) :
    ReturnsInHanded {} Tryd.checked os 4 .any (fun w args => (Rows.fnExactPoolUseSpec.pre enc Tryd.prog Tryd.f4 [] false w args ∧ laidMetH Tryd.prog Rows.fnExactPoolUseRow.laid w) ∧ sizedMet enc Tryd.prog Tryd.f4 (OpenSpec.ofChange Rows.fnExactPoolUseSpec) false w args)
      (Rows.fnExactPoolUseSpec.post enc Tryd.prog Tryd.f4 false true false false) := by
  refine returnsInHanded_of_change_and (C := Tryd.checked) (X := fun w _ => laidMetH Tryd.prog Rows.fnExactPoolUseRow.laid w) (fun _ _ _ hh h => h.of_heap hh) own started (by kernel_rfl) Tryd.func4
    (ChangeSpec.witness_shaped (enc := enc) (C := Tryd.checked) (os := os) (X := fun w _ => laidMetH Tryd.prog Rows.fnExactPoolUseRow.laid w) false (World.doorLaid Tryd.prog 28 os) #[.agg #[.int .i64 0, .slice none 0 0], .agg #[.int .i64 0, .int .i64 0]] 8 rfl (World.shaped_of_RefB (by kernel_rfl) (by kernel_rfl)) (by kernel_rfl) (by kernel_rfl) (by kernel_rfl) (door_met os _)) ?_
  intro W base args ds gs before hval0 hW _ _ hL _
  have hval : ∀ (j : Nat) t v, Tryd.f4.params[j]? = some t → args[j]? = some v → Value.okWide Tryd.prog W .any base t v := hval0
  have hW' := hW
  obtain ⟨p, q, hA0, hV0, rfl, hfz, hnd⟩ := hW
  have hA : DataW.TrodAll enc Tryd.prog W 0 (fun _ => true) true Tryd.f4.params.toList args.toList ds p := hA0
  have hV : DataW.TrodVars enc Tryd.prog W (fun _ => true) ["loop.example/hagioscope/impl.errForm"] gs q := hV0
  rw [Tryd.params4] at hA hval
  obtain ⟨v0, vs0, d0, ds0, p0, q0, hargs, rfl, rfl, h0, r0⟩ := trodAll_cons hA
  obtain ⟨v1, vs1, d1, ds1, p1, q1, rfl, rfl, rfl, h1, r1⟩ := trodAll_cons r0
  obtain ⟨rfl, rfl, rfl⟩ := trodAll_nil r1
  obtain rfl : args = #[v0, v1] := by cases args; simp_all
  have kr0 := h0
  have lt0 : ∀ x ∈ p0, x.block < W.heap.size := by obtain ⟨m, hm⟩ := kr0; exact DataW.trod_lt m _ _ _ hm
  have kr1 := h1
  have lt1 : ∀ x ∈ p1, x.block < W.heap.size := by obtain ⟨m, hm⟩ := kr1; exact DataW.trod_lt m _ _ _ hm
  obtain ⟨z0, y0, xs0, rfl, w0⟩ := open_pool (hval 0 24 v0 rfl rfl) h0
  obtain ⟨l1, n1, rfl, w1⟩ := open_page (hval 1 34 v1 rfl rfl) h1
  obtain ⟨g, t, cs, fuel, d, p', rfl, hg, ht, hvar, hd, rfl⟩ := trodVars_one hV
  obtain rfl := Option.some.inj (gForm.symm.trans hg)
  obtain rfl := Option.some.inj (tForm.symm.trans ht)
  obtain ⟨fu, fv, hff⟩ := form_of hL
  obtain rfl : cs = #[.iface fu fv] := Option.some.inj (hvar.symm.trans hff)
  have hform : FormAt W := formAt_of hff
  obtain ⟨_, _, hheap⟩ := heap_of_var gForm hff
  clear hA0 hV0 hval0
  refine (walk z0 y0 xs0 l1 n1 W w0 w1 hform).mono fun e W' ⟨he, bel⟩ => ?_
  subst he
  exact ⟨_, rfl, _, _, _, [], _, _, hW', trodAll_mk1 (shut_bool Tryd.underlying4 _), (trodAll_cons_mk (Below.trod laidOut (by kernel_rfl) (of_decide_eq_true (by kernel_rfl)) kr0 bel lt0) (trodAll_cons_mk (Below.trod laidOut (by kernel_rfl) (of_decide_eq_true (by kernel_rfl)) kr1 bel lt1) trodAll_mk0)), trodVars_mk1 gForm tForm (var?_below bel gForm (lt_of_block hheap) hff) (held_again Tryd.underlying52 hd), bel.frame _, fun h => by cases h⟩

theorem said : Rows.FnExactPoolUseSaid :=
  OpenClaim.holds_of_wide 4 Tryd.f4 rfl rfl rfl rfl rfl rfl rfl ⟨rfl, rfl, rfl, rfl, rfl⟩ rfl rfl rfl rfl rfl (by kernel_rfl) Tryd.func4 (by kernel_rfl)
    (of_decide_eq_true (by kernel_rfl)) (by unfold Func.isWrapper; first | (rw [if_pos (by decide +kernel)]; kernel_rfl) | (rw [if_neg (by decide +kernel)]; exact ⟨rfl, rfl⟩))
    (fun os started H enc _ => lifted os started H enc)

theorem plain (f : FuncId) (fn : Func) (hf : Tryd.pinned.checked.prog.funcNamed "loop.example/hagioscope/laws.FnExactPoolUse" = some f) (hfn : Tryd.pinned.checked.prog.funcs[f]? = some fn) :
    false = Tryd.pinned.checked.prog.looks [] ∧ ∀ (j : Nat) t, fn.params[j]? = some t → Tryd.pinned.checked.prog.wantsStandIn t = false := by
  obtain rfl : f = 4 := Option.some.inj ((show Tryd.prog.funcNamed "loop.example/hagioscope/laws.FnExactPoolUse" = some 4 by kernel_rfl).symm.trans hf) |>.symm
  obtain rfl : fn = Tryd.f4 := (Option.some.inj (Tryd.func4.symm.trans hfn)).symm
  refine ⟨by kernel_rfl, fun j t ht => ?_⟩
  rw [Tryd.params4] at ht
  obtain rfl | rfl : t = 24 ∨ t = 34 := by simpa using Array.mem_of_getElem? ht
  · exact (show Tryd.prog.wantsStandIn 24 = false by kernel_rfl)
  · exact (show Tryd.prog.wantsStandIn 34 = false by kernel_rfl)

end Go.Proofs.YtdboohnhdhoahaaDoor.fnExactPoolUse
namespace Go.Proofs.YtdboohnhdhoahaaDoor
theorem fnExactPoolUse_card : Rows.FnExactPoolUseCardSaid :=
  Claim7.holds_tied_plain_at .later [] _ _ _ _ fnExactPoolUse.said (fun _ h => by cases h) (by kernel_rfl) (fun _ h => by cases h) fnExactPoolUse_row_tie rfl ⟨rfl, rfl⟩ (by kernel_rfl) rfl fnExactPoolUse.plain (by kernel_rfl)
#print axioms fnExactPoolUse_card
end Go.Proofs.YtdboohnhdhoahaaDoor
