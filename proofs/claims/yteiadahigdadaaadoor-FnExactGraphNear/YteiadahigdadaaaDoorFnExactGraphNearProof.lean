/-
  At every graph of at most 2^20 nodes and edges and every node impl.GraphNear answers as spec.GraphNear does, writes into no argument, and its answer owns its memory.
-/
import Derived.Test.YteiadahigdadaaaDoorCards
import Derived.Test.YteiadahigdadaaaDoorTie
import Derived.Test.YteiadahigdadaaaDoorOpg
import Derived.Test.YteiadahigdadaaaDoorMrk
import Derived.Test.YteiadahigdadaaaDoorNea
import Derived.Test.YteiadahigdadaaaDoorSpn
import Derived.Test.YteiadahigdadaaaDoorErs
import Derived.WalkKit
import Derived.ProofKit
import Derived.OpenShut
import Derived.ShutString
import Derived.ChangeOld
import Derived.Below
import Derived.Carry
import Derived.Handy
import Derived.Deep.RegionHeld3
import Derived.LaidMore
import Derived.Deep.DeepCutAuto
namespace Go.Proofs.YteiadahigdadaaaDoor.fnExactGraphNear
open Go.Proofs.YteiadahigdadaaaDoor.Lab
open Go.ChangeShapes Go.WideShapes Go.ChangeAt Go.RowKit
open Go.ChangeMaps (open_string shut_string)
set_option linter.unusedVariables false

theorem own : ownKnob Tryd.prog.godebug = none := by kernel_rfl
/-- A row of numbers that came in: nil, or so many cells. -/
def IsRow (k : IntKind) (w : World) (a : Option Addr) (len cap : Nat) (zs : List Int) : Prop :=
  (a = none ∧ len = 0 ∧ cap = 0 ∧ zs = []) ∨ ∃ x, a = some x ∧ len ≤ cap ∧ cap ≤ maxLen ∧ zs.length = cap ∧ (∀ i, i < zs.length → w.cell? (x.add i) = some (.int k (zs.getD i 0))) ∧ ∀ n ∈ zs, (Lit.int k n).wf = true
theorem eqNodeS_same (v1 v2 : Value) (xs : List (Int × Int)) (w : World) (h1 : RowAt 2 encNode w v1 xs) (h2 : RowAt 2 encNode w v2 xs) (hb : xs.length ≤ 1048576) :
    Calls Tryd.prog 15 #[v1, v2] w fun e w' => e = .returned (.bool true) ∧ Below w.heap.size w w' :=
  (eqNodeS v1 v2 xs xs w h1 h2 hb hb).mono fun e w' h => ⟨by rw [h.1, eqB_true.2 rfl], h.2⟩

set_option maxHeartbeats 4000000 in
theorem walk (x0 y0 : Value) (ns0 : List (Int × Int)) (es0 : List (Int × Int × Int × Int × Int)) (l1 n1 : Int) (w : World) (w0 : GraphIn w x0 y0 ns0 es0) (w1 : i64In l1 ∧ i64In n1) (hE : Errs w) :
    Calls Tryd.prog 4 #[.agg #[x0, y0], .agg #[.int .i64 l1, .int .i64 n1]] w fun e w' => e = .returned (.bool true) ∧ Below w.heap.size w w' := by
  obtain ⟨r1, r2, m1, m2, _, _⟩ := w0
  obtain ⟨ga, gb, rfl⟩ := r1.len
  obtain ⟨gc, gd, rfl⟩ := r2.len
  simp only [maxLen, Nat.reducePow, Nat.reduceSub] at m1 m2
  have HR : Hid (RowAt 2 encNode w (.slice ga ns0.length gb) ns0 ∧ RowAt 5 encEdge w (.slice gc es0.length gd) es0) := ⟨r1, r2⟩
  have HE : Hid (Errs w) := hE
  have q1 := nearG_len (l1, n1) ns0 es0
  clear r1 r2 hE
  go_enter Tryd.func4, Tryd.ntmps4
  go_wp2_with fail
  refine (szGraph _ _ _ _ _ _ _ _ (by omega) (by omega) m1 m2).mono ?_
  rintro e wa ⟨rfl, ba⟩
  obtain ⟨A, hA0⟩ : ∃ A, A = w.heap.size := ⟨_, rfl⟩
  have zz0 : A < wa.heap.size := by have := ba.size; simp at this; omega
  have zz1 : A + 1 < wa.heap.size := by have := ba.size; simp at this; omega
  have Ba : Below A w wa := by rw [hA0]; exact Below.trans (by go_grown) (ba.mono (by simp; omega))
  have cc0 : wa.cell? ⟨A, 0, none⟩ = some (.slice ga ns0.length gb) := by rw [hA0, Below.celz ba _ _ _ (by simp; omega)]; simp [go_sem]
  have cc1 : wa.cell? ⟨A, 1, none⟩ = some (.slice gc es0.length gd) := by rw [hA0, Below.celz ba _ _ _ (by simp; omega)]; simp [go_sem]
  have cc2 : wa.cell? ⟨A + 1, 0, none⟩ = some (.int .i64 l1) := by rw [hA0, Below.celz ba _ _ _ (by simp)]; simp [go_sem]
  have cc3 : wa.cell? ⟨A + 1, 1, none⟩ = some (.int .i64 n1) := by rw [hA0, Below.celz ba _ _ _ (by simp)]; simp [go_sem]
  clear ba
  rw [← hA0]
  have HA0 : Hid (A = w.heap.size) := hA0
  clear hA0
  by_cases hA : (ns0.length : Int) + es0.length ≤ 1048576
  · rw [if_pos hA]
    have lb1 : ns0.length ≤ 1048576 := by omega
    have lb2 : es0.length ≤ 1048576 := by omega
    have HK : Hid (∀ W, Below A w W → RowAt 2 encNode W (.slice ga ns0.length gb) ns0 ∧ RowAt 5 encEdge W (.slice gc es0.length gd) es0 ∧ Errs W) := fun W h => by rw [HA0.out] at h; exact ⟨HR.out.1.keep h, HR.out.2.keep h, HE.out.keep h⟩
    go_upto_region 5 with fail
    have hS : Hid (∀ w', Below wa.heap.size wa w' → Below wa.heap.size wa w' ∧ w'.cell? ⟨A, 0, none⟩ = some (.slice ga ns0.length gb) ∧ w'.cell? ⟨A, 1, none⟩ = some (.slice gc es0.length gd) ∧ w'.cell? ⟨A + 1, 0, none⟩ = some (.int .i64 l1) ∧ w'.cell? ⟨A + 1, 1, none⟩ = some (.int .i64 n1)) := fun w' hn => ⟨hn, (Below.celz hn _ _ _ zz0).trans cc0, (Below.celz hn _ _ _ zz0).trans cc1, (Below.celz hn _ _ _ zz1).trans cc2, (Below.celz hn _ _ _ zz1).trans cc3⟩
    have HF : Hid (∀ W, Below wa.heap.size wa W → RowAt 2 encNode W (.slice ga ns0.length gb) ns0 ∧ RowAt 5 encEdge W (.slice gc es0.length gd) es0 ∧ Errs W) := fun W h => HK.out W (Ba.trans (h.mono (by omega)))
    go_cut [0, 1, 6] (fun s0 s1 sx wx => ∃ xa xb, sx = .slice xa (nearG (l1, n1) ns0 es0).length xb ∧ wx.ownsRow wa.heap.size 39 2 (.slice xa (nearG (l1, n1) ns0 es0).length xb) (nearG (l1, n1) ns0 es0).length ((nearG (l1, n1) ns0 es0).flatMap encNode) ∧ Below wa.heap.size wa wx)
    case first =>
      go_region_held3 (fun w' => Below wa.heap.size wa w' ∧ w'.cell? ⟨A, 0, none⟩ = some (.slice ga ns0.length gb) ∧ w'.cell? ⟨A, 1, none⟩ = some (.slice gc es0.length gd) ∧ w'.cell? ⟨A + 1, 0, none⟩ = some (.int .i64 l1) ∧ w'.cell? ⟨A + 1, 1, none⟩ = some (.int .i64 n1))
        (first | with_reducible exact hS.out _ (Below.refl _ _).drew | (with_reducible exact hS.out _ (keep_below (And.left (by assumption)) tj3)) | (with_reducible exact hS.out _ (keep_below (And.left (by assumption)) tj2)) | (with_reducible exact hS.out _ (keep_below (And.left (by assumption)) tj1)))
        (first | (go_at_call_of 7 (Value.agg #[.slice ga ns0.length gb, .slice gc es0.length gd]); refine (toGraph _ _ ns0 es0 _ (HF.out _ (And.left (by assumption))).1 (HF.out _ (And.left (by assumption))).2.1 lb1 lb2).mono ?_; rintro e wi ⟨s1, s2, rfl, oi, tj1⟩) | (go_at_call 13; refine (toNode _ _ _).mono ?_; rintro e wj ⟨rfl, tj2⟩) | (go_at_call 12; first | (refine (spec_GraphNear _ _ l1 n1 ns0 es0 _ (oi.keep tj2).nodes (oi.keep tj2).edges lb1 lb2).mono ?_; rintro e wk ⟨nr, rfl, onr, tj3⟩) | (refine (spec_GraphNear _ _ l1 n1 ns0 es0 _ oi.nodes oi.edges lb1 lb2).mono ?_; rintro e wk ⟨nr, rfl, onr, tj3⟩)))
      all_goals (
        obtain ⟨xa, xb, rfl⟩ := own_form onr
        have HZ : Hid (wk.ownsRow wa.heap.size 39 2 (.slice xa (nearG (l1, n1) ns0 es0).length xb) (nearG (l1, n1) ns0 es0).length ((nearG (l1, n1) ns0 es0).flatMap encNode) ∧ Below wa.heap.size wa wk) := ⟨own_mono onr (by have h1 := Below.size tj1; have h2 := Below.size tj2; first | omega | (simp at h1 h2 ⊢; omega)), And.left (by assumption)⟩
        clear tj1 tj2 tj3 oi onr
        go_wp2_with fail
        go_meet
        exact ⟨xa, xb, rfl, HZ.out⟩)
    case rest =>
    generalize wc = wz at *
    obtain ⟨pa, pb, rfl, hpo, hpb⟩ := hcut
    have Bc : Below A w wz := Ba.trans (hpb.mono (by omega))
    have HP : Hid (RowAt 2 encNode wz (.slice pa (nearG (l1, n1) ns0 es0).length pb) (nearG (l1, n1) ns0 es0)) := row_of_own encNode_len (by decide) hpo
    clear hS HF hpo Ba
    have d0 : wz.cell? ⟨A, 0, none⟩ = some (.slice ga ns0.length gb) := by rw [Below.celz hpb _ _ _ (by omega)]; exact cc0
    have d1 : wz.cell? ⟨A, 1, none⟩ = some (.slice gc es0.length gd) := by rw [Below.celz hpb _ _ _ (by omega)]; exact cc1
    have d2 : wz.cell? ⟨A + 1, 0, none⟩ = some (.int .i64 l1) := by rw [Below.celz hpb _ _ _ (by omega)]; exact cc2
    have d3 : wz.cell? ⟨A + 1, 1, none⟩ = some (.int .i64 n1) := by rw [Below.celz hpb _ _ _ (by omega)]; exact cc3
    have y0 : A < wz.heap.size := by have := Below.size hpb; omega
    have y1 : A + 1 < wz.heap.size := by have := Below.size hpb; omega
    clear cc0 cc1 cc2 cc3 zz0 zz1
    have cc0 := d0
    have cc1 := d1
    have cc2 := d2
    have cc3 := d3
    have zz0 := y0
    have zz1 := y1
    clear d0 d1 d2 d3 y0 y1
    clear hpb
    obtain ⟨C, hC⟩ : ∃ C, C = wz.heap.size := ⟨_, rfl⟩
    have HW : Hid (∀ W, Below C wz W → RowAt 2 encNode W (.slice pa (nearG (l1, n1) ns0 es0).length pb) (nearG (l1, n1) ns0 es0)) := fun W h => by rw [hC] at h; exact HP.out.keep h
    have oC : A + 1 < C := by omega
    have HC : Hid (C = wz.heap.size) := hC
    clear hC
    go_wp2_with fail
    refine (toGraph _ _ ns0 es0 _ (HK.out _ Bc).1 (HK.out _ Bc).2.1 lb1 lb2).mono ?_
    rintro e wd ⟨x1, x2, rfl, og3, bd⟩
    have Bd : Below A w wd := Bc.trans (bd.mono (by omega))
    have Ld : Below C wz wd := by rw [HC.out]; exact bd
    have hdC : C ≤ wd.heap.size := by rw [HC.out]; exact bd.size
    have og3' : OwnGraph wd C x1 x2 ns0 es0 := by rw [HC.out]; exact og3
    clear og3
    have d0 : wd.cell? ⟨A, 0, none⟩ = some (.slice ga ns0.length gb) := by rw [Below.celz bd _ _ _ (by omega)]; exact cc0
    have d1 : wd.cell? ⟨A, 1, none⟩ = some (.slice gc es0.length gd) := by rw [Below.celz bd _ _ _ (by omega)]; exact cc1
    have d2 : wd.cell? ⟨A + 1, 0, none⟩ = some (.int .i64 l1) := by rw [Below.celz bd _ _ _ (by omega)]; exact cc2
    have d3 : wd.cell? ⟨A + 1, 1, none⟩ = some (.int .i64 n1) := by rw [Below.celz bd _ _ _ (by omega)]; exact cc3
    have y0 : A < wd.heap.size := by have := Below.size bd; omega
    have y1 : A + 1 < wd.heap.size := by have := Below.size bd; omega
    clear cc0 cc1 cc2 cc3 zz0 zz1
    have cc0 := d0
    have cc1 := d1
    have cc2 := d2
    have cc3 := d3
    have zz0 := y0
    have zz1 := y1
    clear d0 d1 d2 d3 y0 y1
    obtain ⟨xa, xb, xc, xd, rfl, rfl⟩ := og3'.form
    clear bd Bc
    go_wp2_with fail
    obtain ⟨D, hD⟩ : ∃ D, D = wd.heap.size := ⟨_, rfl⟩
    generalize hW2 : wd.alloc (.cells #[.slice xa ns0.length xb, .slice xc es0.length xd] 30) = wd2
    have nb : Below wd.heap.size wd wd2 := by rw [← hW2]; exact (Below.refl _ _).alloc (Nat.le_refl _) _
    have n1' : wd2.cell? ⟨D, 0, none⟩ = some (.slice xa ns0.length xb) := by rw [← hW2, hD]; simp [go_sem]
    have n2' : wd2.cell? ⟨D, 1, none⟩ = some (.slice xc es0.length xd) := by rw [← hW2, hD]; simp [go_sem]
    have n3 : wd2.heap.size = D + 1 := by rw [← hW2, hD]; simp
    have oD : C ≤ D := by omega
    have oD2 : A + 1 < D := by omega
    have d0 : wd2.cell? ⟨A, 0, none⟩ = some (.slice ga ns0.length gb) := by rw [Below.celz nb _ _ _ (by omega)]; exact cc0
    have d1 : wd2.cell? ⟨A, 1, none⟩ = some (.slice gc es0.length gd) := by rw [Below.celz nb _ _ _ (by omega)]; exact cc1
    have d2 : wd2.cell? ⟨A + 1, 0, none⟩ = some (.int .i64 l1) := by rw [Below.celz nb _ _ _ (by omega)]; exact cc2
    have d3 : wd2.cell? ⟨A + 1, 1, none⟩ = some (.int .i64 n1) := by rw [Below.celz nb _ _ _ (by omega)]; exact cc3
    have y0 : A < wd2.heap.size := by have := Below.size nb; omega
    have y1 : A + 1 < wd2.heap.size := by have := Below.size nb; omega
    clear cc0 cc1 cc2 cc3 zz0 zz1
    have cc0 := d0
    have cc1 := d1
    have cc2 := d2
    have cc3 := d3
    have zz0 := y0
    have zz1 := y1
    clear d0 d1 d2 d3 y0 y1
    have cc4 := n1'
    have cc5 := n2'
    have zz2 : D < wd2.heap.size := by omega
    rw [← hD]
    have Bd2 : Below A w wd2 := Bd.trans (nb.mono (by omega))
    have Ld2 : Below C wz wd2 := Ld.trans (nb.mono (by omega))
    have HX : Hid (OwnGraph wd2 C (.slice xa ns0.length xb) (.slice xc es0.length xd) ns0 es0) := og3'.keep nb
    have HAX : Hid (∀ k, ((.slice xa ns0.length xb : Value).ownBlock = some k ∨ (.slice xc es0.length xd : Value).ownBlock = some k) → C ≤ k ∧ k < D) := fun k hk => by
      rcases hk with hk | hk
      · have := og3'.1.lt k hk; omega
      · have := og3'.2.1.lt k hk; omega
    clear n1' n2' hW2 nb Bd Ld og3' hdC hD
    have hS : Hid (∀ w', Below wd2.heap.size wd2 w' → Below wd2.heap.size wd2 w' ∧ w'.cell? ⟨A, 0, none⟩ = some (.slice ga ns0.length gb) ∧ w'.cell? ⟨A, 1, none⟩ = some (.slice gc es0.length gd) ∧ w'.cell? ⟨A + 1, 0, none⟩ = some (.int .i64 l1) ∧ w'.cell? ⟨A + 1, 1, none⟩ = some (.int .i64 n1) ∧ w'.cell? ⟨D, 0, none⟩ = some (.slice xa ns0.length xb) ∧ w'.cell? ⟨D, 1, none⟩ = some (.slice xc es0.length xd)) := fun w' hn => ⟨hn, (Below.celz hn _ _ _ zz0).trans cc0, (Below.celz hn _ _ _ zz0).trans cc1, (Below.celz hn _ _ _ zz1).trans cc2, (Below.celz hn _ _ _ zz1).trans cc3, (Below.celz hn _ _ _ zz2).trans cc4, (Below.celz hn _ _ _ zz2).trans cc5⟩
    have HF : Hid (∀ W, Below wd2.heap.size wd2 W → RowAt 2 encNode W (.slice ga ns0.length gb) ns0 ∧ RowAt 5 encEdge W (.slice gc es0.length gd) es0 ∧ Errs W) := fun W h => HK.out W (Bd2.trans (h.mono (by omega)))
    go_region_held3 (fun w' => Below wd2.heap.size wd2 w' ∧ w'.cell? ⟨A, 0, none⟩ = some (.slice ga ns0.length gb) ∧ w'.cell? ⟨A, 1, none⟩ = some (.slice gc es0.length gd) ∧ w'.cell? ⟨A + 1, 0, none⟩ = some (.int .i64 l1) ∧ w'.cell? ⟨A + 1, 1, none⟩ = some (.int .i64 n1) ∧ w'.cell? ⟨D, 0, none⟩ = some (.slice xa ns0.length xb) ∧ w'.cell? ⟨D, 1, none⟩ = some (.slice xc es0.length xd))
      (first | with_reducible exact hS.out _ (Below.refl _ _).drew | (with_reducible exact hS.out _ (keep_below (And.left (by assumption)) tj3)) | (with_reducible exact hS.out _ (keep_below (And.left (by assumption)) tj2)) | (with_reducible exact hS.out _ (keep_below (And.left (by assumption)) tj1)))
      (first | (go_at_call 13; refine (toNode _ _ _).mono ?_; rintro e wj ⟨rfl, tj2⟩) | (go_at_call 14; refine (impl_GraphNear _ _ l1 n1 ns0 es0 _ (HX.out.keep (And.left (by assumption))).nodes (HX.out.keep (And.left (by assumption))).edges lb1 lb2 (HF.out _ (And.left (by assumption))).2.2).mono ?_; rintro e we ⟨nr, rfl, ogg, tj3⟩))
    have be : Below wd2.heap.size wd2 we := by have : Below wd2.heap.size wd2 we ∧ we.cell? ⟨A, 0, none⟩ = some (.slice ga ns0.length gb) ∧ we.cell? ⟨A, 1, none⟩ = some (.slice gc es0.length gd) ∧ we.cell? ⟨A + 1, 0, none⟩ = some (.int .i64 l1) ∧ we.cell? ⟨A + 1, 1, none⟩ = some (.int .i64 n1) ∧ we.cell? ⟨D, 0, none⟩ = some (.slice xa ns0.length xb) ∧ we.cell? ⟨D, 1, none⟩ = some (.slice xc es0.length xd) := by assumption
                                               exact this.1
    have ogg' := own_mono (base' := wd2.heap.size) ogg (by have h1 := Below.size tj2; first | omega | (simp at h1 ⊢; omega))
    obtain ⟨ya, yb, rfl⟩ := own_form ogg'
    have Be : Below A w we := Bd2.trans (be.mono (by omega))
    have Le : Below C wz we := Ld2.trans (be.mono (by omega))
    have HX2 : Hid (OwnGraph we C (.slice xa ns0.length xb) (.slice xc es0.length xd) ns0 es0) := HX.out.keep be
    have HG : Hid (we.ownsRow wd2.heap.size 39 2 (.slice ya (nearG (l1, n1) ns0 es0).length yb) (nearG (l1, n1) ns0 es0).length ((nearG (l1, n1) ns0 es0).flatMap encNode)) := ogg'
    clear tj2 tj3 hS HF ogg ogg'
    have d0 : we.cell? ⟨A, 0, none⟩ = some (.slice ga ns0.length gb) := by rw [Below.celz be _ _ _ (by omega)]; exact cc0
    have d1 : we.cell? ⟨A, 1, none⟩ = some (.slice gc es0.length gd) := by rw [Below.celz be _ _ _ (by omega)]; exact cc1
    have d2 : we.cell? ⟨A + 1, 0, none⟩ = some (.int .i64 l1) := by rw [Below.celz be _ _ _ (by omega)]; exact cc2
    have d3 : we.cell? ⟨A + 1, 1, none⟩ = some (.int .i64 n1) := by rw [Below.celz be _ _ _ (by omega)]; exact cc3
    have d4 : we.cell? ⟨D, 0, none⟩ = some (.slice xa ns0.length xb) := by rw [Below.celz be _ _ _ (by omega)]; exact cc4
    have d5 : we.cell? ⟨D, 1, none⟩ = some (.slice xc es0.length xd) := by rw [Below.celz be _ _ _ (by omega)]; exact cc5
    have y0 : A < we.heap.size := by have := Below.size be; omega
    have y1 : A + 1 < we.heap.size := by have := Below.size be; omega
    have y2 : D < we.heap.size := by have := Below.size be; omega
    clear cc0 cc1 cc2 cc3 cc4 cc5 zz0 zz1 zz2
    have cc0 := d0
    have cc1 := d1
    have cc2 := d2
    have cc3 := d3
    have cc4 := d4
    have cc5 := d5
    have zz0 := y0
    have zz1 := y1
    have zz2 := y2
    clear d0 d1 d2 d3 d4 d5 y0 y1 y2
    obtain ⟨E, hE'⟩ : ∃ E, E = we.heap.size := ⟨_, rfl⟩
    have HAG : Hid (∀ k, (.slice ya (nearG (l1, n1) ns0 es0).length yb : Value).ownBlock = some k → D < k ∧ k < E) := fun k hk => by have := HG.out.lt k hk; omega
    have oE : D < E := by omega
    have hEe : E ≤ we.heap.size := by omega
    clear hE' be Bd2 Ld2 HX
    go_wp2_with fail
    refine (eqNodeS_same _ _ (nearG (l1, n1) ns0 es0) _ (row_of_own encNode_len (by decide) HG.out) (HW.out _ Le) (by omega)).mono ?_
    rintro e wf ⟨rfl, bf⟩
    have Bf : Below A w wf := Be.trans (bf.mono (by omega))
    have Lf : Below C wz wf := Le.trans (bf.mono (by omega))
    have hEf : E ≤ wf.heap.size := by have := bf.size; omega
    have d0 : wf.cell? ⟨A, 0, none⟩ = some (.slice ga ns0.length gb) := by rw [Below.celz bf _ _ _ (by omega)]; exact cc0
    have d1 : wf.cell? ⟨A, 1, none⟩ = some (.slice gc es0.length gd) := by rw [Below.celz bf _ _ _ (by omega)]; exact cc1
    have d2 : wf.cell? ⟨A + 1, 0, none⟩ = some (.int .i64 l1) := by rw [Below.celz bf _ _ _ (by omega)]; exact cc2
    have d3 : wf.cell? ⟨A + 1, 1, none⟩ = some (.int .i64 n1) := by rw [Below.celz bf _ _ _ (by omega)]; exact cc3
    have d4 : wf.cell? ⟨D, 0, none⟩ = some (.slice xa ns0.length xb) := by rw [Below.celz bf _ _ _ (by omega)]; exact cc4
    have d5 : wf.cell? ⟨D, 1, none⟩ = some (.slice xc es0.length xd) := by rw [Below.celz bf _ _ _ (by omega)]; exact cc5
    have y0 : A < wf.heap.size := by have := Below.size bf; omega
    have y1 : A + 1 < wf.heap.size := by have := Below.size bf; omega
    have y2 : D < wf.heap.size := by have := Below.size bf; omega
    clear cc0 cc1 cc2 cc3 cc4 cc5 zz0 zz1 zz2
    have cc0 := d0
    have cc1 := d1
    have cc2 := d2
    have cc3 := d3
    have cc4 := d4
    have cc5 := d5
    have zz0 := y0
    have zz1 := y1
    have zz2 := y2
    clear d0 d1 d2 d3 d4 d5 y0 y1 y2
    have HX3 : Hid (OwnGraph wf C (.slice xa ns0.length xb) (.slice xc es0.length xd) ns0 es0) := HX2.out.keep bf
    have HG3 : Hid (wf.ownsRow wd2.heap.size 39 2 (.slice ya (nearG (l1, n1) ns0 es0).length yb) (nearG (l1, n1) ns0 es0).length ((nearG (l1, n1) ns0 es0).flatMap encNode)) := own_keep HG.out bf
    clear bf Be Le HX2 HG
    go_wp2_with fail
    have hS : Hid (∀ w', Below wf.heap.size wf w' → Below wf.heap.size wf w' ∧ w'.cell? ⟨A, 0, none⟩ = some (.slice ga ns0.length gb) ∧ w'.cell? ⟨A, 1, none⟩ = some (.slice gc es0.length gd) ∧ w'.cell? ⟨D, 0, none⟩ = some (.slice xa ns0.length xb) ∧ w'.cell? ⟨D, 1, none⟩ = some (.slice xc es0.length xd)) := fun w' hn => ⟨hn, (Below.celz hn _ _ _ zz0).trans cc0, (Below.celz hn _ _ _ zz0).trans cc1, (Below.celz hn _ _ _ zz2).trans cc4, (Below.celz hn _ _ _ zz2).trans cc5⟩
    have HF : Hid (∀ W, Below wf.heap.size wf W → RowAt 2 encNode W (.slice ga ns0.length gb) ns0 ∧ RowAt 5 encEdge W (.slice gc es0.length gd) es0 ∧ Errs W) := fun W h => HK.out W (Bf.trans (h.mono (by omega)))
    go_region_held3 (fun w' => Below wf.heap.size wf w' ∧ w'.cell? ⟨A, 0, none⟩ = some (.slice ga ns0.length gb) ∧ w'.cell? ⟨A, 1, none⟩ = some (.slice gc es0.length gd) ∧ w'.cell? ⟨D, 0, none⟩ = some (.slice xa ns0.length xb) ∧ w'.cell? ⟨D, 1, none⟩ = some (.slice xc es0.length xd))
      (first | with_reducible exact hS.out _ (Below.refl _ _).drew | (with_reducible exact hS.out _ (keep_below (And.left (by assumption)) tj2)) | (with_reducible exact hS.out _ (keep_below (And.left (by assumption)) tj1)))
      (first | (go_at_call_of 7 (Value.agg #[.slice ga ns0.length gb, .slice gc es0.length gd]); refine (toGraph _ _ ns0 es0 _ (HF.out _ (And.left (by assumption))).1 (HF.out _ (And.left (by assumption))).2.1 lb1 lb2).mono ?_; rintro e wi ⟨s1, s2, rfl, oi, tj1⟩) | (go_at_call 9; refine (eqGraph_same _ _ _ _ ns0 es0 _ (HX3.out.keep (And.left (by assumption))).nodes (HX3.out.keep (And.left (by assumption))).edges oi.nodes oi.edges lb1 lb2).mono ?_; rintro e wj ⟨rfl, tj2⟩))
    have bj : Below wf.heap.size wf wj := by have : Below wf.heap.size wf wj ∧ wj.cell? ⟨A, 0, none⟩ = some (.slice ga ns0.length gb) ∧ wj.cell? ⟨A, 1, none⟩ = some (.slice gc es0.length gd) ∧ wj.cell? ⟨D, 0, none⟩ = some (.slice xa ns0.length xb) ∧ wj.cell? ⟨D, 1, none⟩ = some (.slice xc es0.length xd) := by assumption
                                             exact this.1
    have Bj : Below A w wj := Bf.trans (bj.mono (by omega))
    have Lj : Below C wz wj := Lf.trans (bj.mono (by omega))
    have hEj : E ≤ wj.heap.size := by have := bj.size; omega
    clear tj1 tj2 hS HF
    have d0 : wj.cell? ⟨A, 0, none⟩ = some (.slice ga ns0.length gb) := by rw [Below.celz bj _ _ _ (by omega)]; exact cc0
    have d1 : wj.cell? ⟨A, 1, none⟩ = some (.slice gc es0.length gd) := by rw [Below.celz bj _ _ _ (by omega)]; exact cc1
    have d2 : wj.cell? ⟨A + 1, 0, none⟩ = some (.int .i64 l1) := by rw [Below.celz bj _ _ _ (by omega)]; exact cc2
    have d3 : wj.cell? ⟨A + 1, 1, none⟩ = some (.int .i64 n1) := by rw [Below.celz bj _ _ _ (by omega)]; exact cc3
    have d4 : wj.cell? ⟨D, 0, none⟩ = some (.slice xa ns0.length xb) := by rw [Below.celz bj _ _ _ (by omega)]; exact cc4
    have d5 : wj.cell? ⟨D, 1, none⟩ = some (.slice xc es0.length xd) := by rw [Below.celz bj _ _ _ (by omega)]; exact cc5
    have y0 : A < wj.heap.size := by have := Below.size bj; omega
    have y1 : A + 1 < wj.heap.size := by have := Below.size bj; omega
    have y2 : D < wj.heap.size := by have := Below.size bj; omega
    clear cc0 cc1 cc2 cc3 cc4 cc5 zz0 zz1 zz2
    have cc0 := d0
    have cc1 := d1
    have cc2 := d2
    have cc3 := d3
    have cc4 := d4
    have cc5 := d5
    have zz0 := y0
    have zz1 := y1
    have zz2 := y2
    clear d0 d1 d2 d3 d4 d5 y0 y1 y2
    have HX4 : Hid (OwnGraph wj C (.slice xa ns0.length xb) (.slice xc es0.length xd) ns0 es0) := HX3.out.keep bj
    have HG4 : Hid (wj.ownsRow wd2.heap.size 39 2 (.slice ya (nearG (l1, n1) ns0 es0).length yb) (nearG (l1, n1) ns0 es0).length ((nearG (l1, n1) ns0 es0).flatMap encNode)) := own_keep HG3.out bj
    clear bj Bf Lf HX3 HG3
    go_wp2_with fail
    refine (markGraph _ _ _ ns0 es0 _ _ (by omega) (by omega) lb1 lb2 HX4.out).mono ?_
    rintro e wk ⟨rfl, _, bk⟩
    have bk2 := bk.size
    have hEk : E ≤ wk.heap.size := by omega
    have Bk : Below A w wk := bk.below Bj (by omega) (fun k h => by have := HAX.out _ h; omega)
    have Lk : Below C wz wk := bk.below Lj (by omega) (fun k h => by have := HAX.out _ h; omega)
    have d0 : wk.cell? ⟨A, 0, none⟩ = some (.slice ga ns0.length gb) := by rw [cell_of_blk (bk.blk _ (by omega) (fun h => by have := HAX.out _ h; omega))]; exact cc0
    have d1 : wk.cell? ⟨A, 1, none⟩ = some (.slice gc es0.length gd) := by rw [cell_of_blk (bk.blk _ (by omega) (fun h => by have := HAX.out _ h; omega))]; exact cc1
    have d2 : wk.cell? ⟨A + 1, 0, none⟩ = some (.int .i64 l1) := by rw [cell_of_blk (bk.blk _ (by omega) (fun h => by have := HAX.out _ h; omega))]; exact cc2
    have d3 : wk.cell? ⟨A + 1, 1, none⟩ = some (.int .i64 n1) := by rw [cell_of_blk (bk.blk _ (by omega) (fun h => by have := HAX.out _ h; omega))]; exact cc3
    have d4 : wk.cell? ⟨D, 0, none⟩ = some (.slice xa ns0.length xb) := by rw [cell_of_blk (bk.blk _ (by omega) (fun h => by have := HAX.out _ h; omega))]; exact cc4
    have d5 : wk.cell? ⟨D, 1, none⟩ = some (.slice xc es0.length xd) := by rw [cell_of_blk (bk.blk _ (by omega) (fun h => by have := HAX.out _ h; omega))]; exact cc5
    have y0 : A < wk.heap.size := by omega
    have y1 : A + 1 < wk.heap.size := by omega
    have y2 : D < wk.heap.size := by omega
    clear cc0 cc1 cc2 cc3 cc4 cc5 zz0 zz1 zz2
    have cc0 := d0
    have cc1 := d1
    have cc2 := d2
    have cc3 := d3
    have cc4 := d4
    have cc5 := d5
    have zz0 := y0
    have zz1 := y1
    have zz2 := y2
    clear d0 d1 d2 d3 d4 d5 y0 y1 y2
    have HG5 : Hid (wk.ownsRow wd2.heap.size 39 2 (.slice ya (nearG (l1, n1) ns0 es0).length yb) (nearG (l1, n1) ns0 es0).length ((nearG (l1, n1) ns0 es0).flatMap encNode)) := bk.own HG4.out (fun k h e => by have := HAX.out _ e; have := HAG.out _ h; omega)
    clear bk bk2 Bj Lj HX4 HG4
    go_wp2_with fail
    refine (eqNodeS_same _ _ (nearG (l1, n1) ns0 es0) _ (row_of_own encNode_len (by decide) HG5.out) (HW.out _ Lk) (by omega)).mono ?_
    rintro e wl ⟨rfl, bl⟩
    have Bl : Below A w wl := Bk.trans (bl.mono (by omega))
    have Ll : Below C wz wl := Lk.trans (bl.mono (by omega))
    have hEl : E ≤ wl.heap.size := by have := bl.size; omega
    have d0 : wl.cell? ⟨A, 0, none⟩ = some (.slice ga ns0.length gb) := by rw [Below.celz bl _ _ _ (by omega)]; exact cc0
    have d1 : wl.cell? ⟨A, 1, none⟩ = some (.slice gc es0.length gd) := by rw [Below.celz bl _ _ _ (by omega)]; exact cc1
    have d2 : wl.cell? ⟨A + 1, 0, none⟩ = some (.int .i64 l1) := by rw [Below.celz bl _ _ _ (by omega)]; exact cc2
    have d3 : wl.cell? ⟨A + 1, 1, none⟩ = some (.int .i64 n1) := by rw [Below.celz bl _ _ _ (by omega)]; exact cc3
    have d4 : wl.cell? ⟨D, 0, none⟩ = some (.slice xa ns0.length xb) := by rw [Below.celz bl _ _ _ (by omega)]; exact cc4
    have d5 : wl.cell? ⟨D, 1, none⟩ = some (.slice xc es0.length xd) := by rw [Below.celz bl _ _ _ (by omega)]; exact cc5
    have y0 : A < wl.heap.size := by have := Below.size bl; omega
    have y1 : A + 1 < wl.heap.size := by have := Below.size bl; omega
    have y2 : D < wl.heap.size := by have := Below.size bl; omega
    clear cc0 cc1 cc2 cc3 cc4 cc5 zz0 zz1 zz2
    have cc0 := d0
    have cc1 := d1
    have cc2 := d2
    have cc3 := d3
    have cc4 := d4
    have cc5 := d5
    have zz0 := y0
    have zz1 := y1
    have zz2 := y2
    clear d0 d1 d2 d3 d4 d5 y0 y1 y2
    have HG6 : Hid (wl.ownsRow wd2.heap.size 39 2 (.slice ya (nearG (l1, n1) ns0 es0).length yb) (nearG (l1, n1) ns0 es0).length ((nearG (l1, n1) ns0 es0).flatMap encNode)) := own_keep HG5.out bl
    clear bl Bk Lk HG5
    go_wp2_with fail
    refine (markNodeS _ _ _ _ _ _ (by omega) (by omega) (by omega) HG6.out).mono ?_
    rintro e wm ⟨rfl, og7, bm⟩
    have bm2 := bm.size
    have Bm : Below A w wm := Bl.grown bm (by omega) (fun k h => by have := HAG.out _ h; omega)
    have Lm : Below C wz wm := Ll.grown bm (by omega) (fun k h => by have := HAG.out _ h; omega)
    have HG7 : Hid (wm.ownsRow wd2.heap.size 39 2 (.slice ya (nearG (l1, n1) ns0 es0).length yb) (nearG (l1, n1) ns0 es0).length ((marksNode 1 (nearG (l1, n1) ns0 es0).length).flatMap encNode)) := og7
    clear og7
    have d0 : wm.cell? ⟨A, 0, none⟩ = some (.slice ga ns0.length gb) := by rw [cell_of_blk (bm.block _ (by omega) (fun h => by have := HAG.out _ h.symm; omega))]; exact cc0
    have d1 : wm.cell? ⟨A, 1, none⟩ = some (.slice gc es0.length gd) := by rw [cell_of_blk (bm.block _ (by omega) (fun h => by have := HAG.out _ h.symm; omega))]; exact cc1
    have d2 : wm.cell? ⟨A + 1, 0, none⟩ = some (.int .i64 l1) := by rw [cell_of_blk (bm.block _ (by omega) (fun h => by have := HAG.out _ h.symm; omega))]; exact cc2
    have d3 : wm.cell? ⟨A + 1, 1, none⟩ = some (.int .i64 n1) := by rw [cell_of_blk (bm.block _ (by omega) (fun h => by have := HAG.out _ h.symm; omega))]; exact cc3
    have d4 : wm.cell? ⟨D, 0, none⟩ = some (.slice xa ns0.length xb) := by rw [cell_of_blk (bm.block _ (by omega) (fun h => by have := HAG.out _ h.symm; omega))]; exact cc4
    have d5 : wm.cell? ⟨D, 1, none⟩ = some (.slice xc es0.length xd) := by rw [cell_of_blk (bm.block _ (by omega) (fun h => by have := HAG.out _ h.symm; omega))]; exact cc5
    have y0 : A < wm.heap.size := by omega
    have y1 : A + 1 < wm.heap.size := by omega
    have y2 : D < wm.heap.size := by omega
    clear cc0 cc1 cc2 cc3 cc4 cc5 zz0 zz1 zz2
    have cc0 := d0
    have cc1 := d1
    have cc2 := d2
    have cc3 := d3
    have cc4 := d4
    have cc5 := d5
    have zz0 := y0
    have zz1 := y1
    have zz2 := y2
    clear d0 d1 d2 d3 d4 d5 y0 y1 y2
    clear bm bm2 Bl Ll HG6
    go_wp2_with fail
    refine use (heldNodeS _ (nearG (l1, n1) ns0 es0).length _ _ (by omega) (by omega) (by omega) (row_of_own encNode_len (by decide) (by rw [marksNode_len]; exact HG7.out))) ?_
    have hmm : ((1 + 2 * ((nearG (l1, n1) ns0 es0).length : Int)) != (1 + 2 * ((nearG (l1, n1) ns0 es0).length : Int))) = false := by simp
    go_upto_region 24 with fail
    have hS : Hid (∀ w', Below wm.heap.size wm w' → Below wm.heap.size wm w' ∧ w'.cell? ⟨A, 0, none⟩ = some (.slice ga ns0.length gb) ∧ w'.cell? ⟨A, 1, none⟩ = some (.slice gc es0.length gd) ∧ w'.cell? ⟨A + 1, 0, none⟩ = some (.int .i64 l1) ∧ w'.cell? ⟨A + 1, 1, none⟩ = some (.int .i64 n1) ∧ w'.cell? ⟨D, 0, none⟩ = some (.slice xa ns0.length xb) ∧ w'.cell? ⟨D, 1, none⟩ = some (.slice xc es0.length xd)) := fun w' hn => ⟨hn, (Below.celz hn _ _ _ zz0).trans cc0, (Below.celz hn _ _ _ zz0).trans cc1, (Below.celz hn _ _ _ zz1).trans cc2, (Below.celz hn _ _ _ zz1).trans cc3, (Below.celz hn _ _ _ zz2).trans cc4, (Below.celz hn _ _ _ zz2).trans cc5⟩
    have HF : Hid (∀ W, Below wm.heap.size wm W → RowAt 2 encNode W (.slice ga ns0.length gb) ns0 ∧ RowAt 5 encEdge W (.slice gc es0.length gd) es0 ∧ Errs W) := fun W h => HK.out W (Bm.trans (h.mono (by omega)))
    go_cut [0, 1, 12] (fun s0 s1 sx wx => ∃ xa xb, sx = .slice xa (nearG (l1, n1) ns0 es0).length xb ∧ wx.ownsRow wm.heap.size 39 2 (.slice xa (nearG (l1, n1) ns0 es0).length xb) (nearG (l1, n1) ns0 es0).length ((nearG (l1, n1) ns0 es0).flatMap encNode) ∧ Below wm.heap.size wm wx)
    case first =>
      go_region_held3 (fun w' => Below wm.heap.size wm w' ∧ w'.cell? ⟨A, 0, none⟩ = some (.slice ga ns0.length gb) ∧ w'.cell? ⟨A, 1, none⟩ = some (.slice gc es0.length gd) ∧ w'.cell? ⟨A + 1, 0, none⟩ = some (.int .i64 l1) ∧ w'.cell? ⟨A + 1, 1, none⟩ = some (.int .i64 n1) ∧ w'.cell? ⟨D, 0, none⟩ = some (.slice xa ns0.length xb) ∧ w'.cell? ⟨D, 1, none⟩ = some (.slice xc es0.length xd))
        (first | with_reducible exact hS.out _ (Below.refl _ _).drew | (with_reducible exact hS.out _ (keep_below (And.left (by assumption)) tj3)) | (with_reducible exact hS.out _ (keep_below (And.left (by assumption)) tj2)) | (with_reducible exact hS.out _ (keep_below (And.left (by assumption)) tj1)))
        (first | (go_at_call_of 7 (Value.agg #[.slice ga ns0.length gb, .slice gc es0.length gd]); refine (toGraph _ _ ns0 es0 _ (HF.out _ (And.left (by assumption))).1 (HF.out _ (And.left (by assumption))).2.1 lb1 lb2).mono ?_; rintro e wi ⟨s1, s2, rfl, oi, tj1⟩) | (go_at_call 13; refine (toNode _ _ _).mono ?_; rintro e wj ⟨rfl, tj2⟩) | (go_at_call 14; first | (refine (impl_GraphNear _ _ l1 n1 ns0 es0 _ (oi.keep tj2).nodes (oi.keep tj2).edges lb1 lb2 (HF.out _ (And.left (by assumption))).2.2).mono ?_; rintro e wk ⟨nr, rfl, onr, tj3⟩) | (refine (impl_GraphNear _ _ l1 n1 ns0 es0 _ oi.nodes oi.edges lb1 lb2 (HF.out _ (And.left (by assumption))).2.2).mono ?_; rintro e wk ⟨nr, rfl, onr, tj3⟩)))
      all_goals (
        obtain ⟨xa, xb, rfl⟩ := own_form onr
        have HZ : Hid (wk.ownsRow wm.heap.size 39 2 (.slice xa (nearG (l1, n1) ns0 es0).length xb) (nearG (l1, n1) ns0 es0).length ((nearG (l1, n1) ns0 es0).flatMap encNode) ∧ Below wm.heap.size wm wk) := ⟨own_mono onr (by have h1 := Below.size tj1; have h2 := Below.size tj2; first | omega | (simp at h1 h2 ⊢; omega)), And.left (by assumption)⟩
        clear tj1 tj2 tj3 oi onr
        go_wp2_with fail
        go_meet
        exact ⟨xa, xb, rfl, HZ.out⟩)
    case rest =>
    obtain ⟨ha, hb, rfl, hho, hhb⟩ := hcut
    have Bp : Below A w wc := Bm.trans (hhb.mono (by omega))
    have Lp : Below C wz wc := Lm.trans (hhb.mono (by omega))
    have HG8 : Hid (wc.ownsRow wd2.heap.size 39 2 (.slice ya (nearG (l1, n1) ns0 es0).length yb) (nearG (l1, n1) ns0 es0).length ((marksNode 1 (nearG (l1, n1) ns0 es0).length).flatMap encNode)) := own_keep HG7.out hhb
    have HH : Hid (wc.ownsRow wm.heap.size 39 2 (.slice ha (nearG (l1, n1) ns0 es0).length hb) (nearG (l1, n1) ns0 es0).length ((nearG (l1, n1) ns0 es0).flatMap encNode)) := hho
    clear hS HF hho Bm Lm HG7
    have d0 : wc.cell? ⟨A, 0, none⟩ = some (.slice ga ns0.length gb) := by rw [Below.celz hhb _ _ _ (by omega)]; exact cc0
    have d1 : wc.cell? ⟨A, 1, none⟩ = some (.slice gc es0.length gd) := by rw [Below.celz hhb _ _ _ (by omega)]; exact cc1
    have d2 : wc.cell? ⟨A + 1, 0, none⟩ = some (.int .i64 l1) := by rw [Below.celz hhb _ _ _ (by omega)]; exact cc2
    have d3 : wc.cell? ⟨A + 1, 1, none⟩ = some (.int .i64 n1) := by rw [Below.celz hhb _ _ _ (by omega)]; exact cc3
    have d4 : wc.cell? ⟨D, 0, none⟩ = some (.slice xa ns0.length xb) := by rw [Below.celz hhb _ _ _ (by omega)]; exact cc4
    have d5 : wc.cell? ⟨D, 1, none⟩ = some (.slice xc es0.length xd) := by rw [Below.celz hhb _ _ _ (by omega)]; exact cc5
    have y0 : A < wc.heap.size := by have := Below.size hhb; omega
    have y1 : A + 1 < wc.heap.size := by have := Below.size hhb; omega
    have y2 : D < wc.heap.size := by have := Below.size hhb; omega
    clear cc0 cc1 cc2 cc3 cc4 cc5 zz0 zz1 zz2
    have cc0 := d0
    have cc1 := d1
    have cc2 := d2
    have cc3 := d3
    have cc4 := d4
    have cc5 := d5
    have zz0 := y0
    have zz1 := y1
    have zz2 := y2
    clear d0 d1 d2 d3 d4 d5 y0 y1 y2
    clear hhb
    go_wp2_with fail
    refine (eqNodeS_same _ _ (nearG (l1, n1) ns0 es0) _ (row_of_own encNode_len (by decide) HH.out) (HW.out _ Lp) (by omega)).mono ?_
    rintro e wq ⟨rfl, bq⟩
    have Bq : Below A w wq := Bp.trans (bq.mono (by omega))
    have HG9 : Hid (wq.ownsRow wd2.heap.size 39 2 (.slice ya (nearG (l1, n1) ns0 es0).length yb) (nearG (l1, n1) ns0 es0).length ((marksNode 1 (nearG (l1, n1) ns0 es0).length).flatMap encNode)) := own_keep HG8.out bq
    clear bq Bp Lp HG8 HH
    go_wp2_with fail
    refine use (heldNodeS _ (nearG (l1, n1) ns0 es0).length _ _ (by omega) (by omega) (by omega) (row_of_own encNode_len (by decide) (by rw [marksNode_len]; exact HG9.out))) ?_
    clear HG9
    go_wp2_with fail
    go_ret
    exact ⟨rfl, by rw [← HA0.out]; exact Bq⟩
  · rw [if_neg hA]
    go_wp2_with fail
    go_ret
    exact ⟨rfl, by rw [← HA0.out]; exact Ba⟩

theorem door_met (os : Os) (args : Array Value) : laidMetH Tryd.prog Rows.fnExactGraphNearRow.laid ((World.doorLaid Tryd.prog 85 os).forCall (fun _ _ => 0) ⟨#[], args, []⟩).memory :=
  laidMetH_of_parts3 (fuel := 8) (laidMet_of_run' 8 (by kernel_rfl) (by kernel_rfl)) (by kernel_rfl) (by kernel_rfl)

set_option maxRecDepth 100000 in
set_option maxHeartbeats 1000000 in
theorem lifted (os : Os) (started : os.Started) (H : Type) (enc : TypeId × Value → H) :
    ReturnsInHanded {} Tryd.checked os 4 .any (fun w args => (Rows.fnExactGraphNearSpec.pre enc Tryd.prog Tryd.f4 [] false w args ∧ laidMetH Tryd.prog Rows.fnExactGraphNearRow.laid w) ∧ sizedMet enc Tryd.prog Tryd.f4 (OpenSpec.ofChange Rows.fnExactGraphNearSpec) false w args)
      (Rows.fnExactGraphNearSpec.post enc Tryd.prog Tryd.f4 false true false false) := by
  refine returnsInHanded_of_change_and (C := Tryd.checked) (X := fun w _ => laidMetH Tryd.prog Rows.fnExactGraphNearRow.laid w) (fun _ _ _ hh h => h.of_heap hh) own started (by kernel_rfl) Tryd.func4
    (ChangeSpec.witness_shaped (enc := enc) (C := Tryd.checked) (os := os) (X := fun w _ => laidMetH Tryd.prog Rows.fnExactGraphNearRow.laid w) false (World.doorLaid Tryd.prog 85 os) #[.agg #[.slice none 0 0, .slice none 0 0], .agg #[.int .i64 0, .int .i64 0]] 8 rfl (World.shaped_of_RefB (by kernel_rfl) (by kernel_rfl)) (by kernel_rfl) (by kernel_rfl) (by kernel_rfl) (door_met os _)) ?_
  intro W base args ds gs before hval0 hW _ _ hL _
  have hval : ∀ (j : Nat) t v, Tryd.f4.params[j]? = some t → args[j]? = some v → Value.okWide Tryd.prog W .any base t v := hval0
  have hW' := hW
  obtain ⟨p, q, hA0, hV0, rfl, hfz, hnd⟩ := hW
  have hA : DataW.TrodAll enc Tryd.prog W 0 (fun _ => true) true Tryd.f4.params.toList args.toList ds p := hA0
  have hV : DataW.TrodVars enc Tryd.prog W (fun _ => true) ["loop.example/hagioscope/impl.errForm", "loop.example/hagioscope/impl.errThere", "loop.example/hagioscope/impl.errFull", "loop.example/hagioscope/impl.errNone"] gs q := hV0
  rw [Tryd.params4] at hA hval
  obtain ⟨v0, vs0, d0, ds0, p0, q0, hargs, rfl, rfl, h0, r0⟩ := trodAll_cons hA
  obtain ⟨v1, vs1, d1, ds1, p1, q1, rfl, rfl, rfl, h1, r1⟩ := trodAll_cons r0
  obtain ⟨rfl, rfl, rfl⟩ := trodAll_nil r1
  obtain rfl : args = #[v0, v1] := by cases args; simp_all
  have kr0 := h0
  have lt0 : ∀ x ∈ p0, x.block < W.heap.size := by obtain ⟨m, hm⟩ := kr0; exact DataW.trod_lt m _ _ _ hm
  have kr1 := h1
  have lt1 : ∀ x ∈ p1, x.block < W.heap.size := by obtain ⟨m, hm⟩ := kr1; exact DataW.trod_lt m _ _ _ hm
  obtain ⟨x0, y0, ns0, es0, rfl, w0⟩ := open_graph (hval 0 25 v0 rfl rfl) h0
  obtain ⟨l1, n1, rfl, w1⟩ := open_node (hval 1 37 v1 rfl rfl) h1
  have hI := held_of hL
  have hE : Errs W := errs_of hI
  obtain ⟨g1, g2, g3, g4, rfl⟩ : ∃ g1 g2 g3 g4, gs = [g1, g2, g3, g4] := by
    have hlen := vars_len _ _ _ hV
    match gs, hlen with
    | [g1, g2, g3, g4], _ => exact ⟨g1, g2, g3, g4, rfl⟩
  clear hA0 hV0 hval0
  refine (walk x0 y0 ns0 es0 l1 n1 W w0 w1 hE).mono fun e W' ⟨he, bel⟩ => ?_
  subst he
  exact ⟨_, rfl, _, _, _, [], _, _, hW', trodAll_mk1 (shut_bool Tryd.underlying4 _), (trodAll_cons_mk (Below.trod laidOut (by kernel_rfl) (of_decide_eq_true (by kernel_rfl)) kr0 bel lt0) (trodAll_cons_mk (Below.trod laidOut (by kernel_rfl) (of_decide_eq_true (by kernel_rfl)) kr1 bel lt1) trodAll_mk0)), vars_keep Tryd.underlying57 bel _ _ _ hV hI, bel.frame _, fun h => by cases h⟩

theorem said : Rows.FnExactGraphNearSaid :=
  OpenClaim.holds_of_wide 4 Tryd.f4 rfl rfl rfl rfl rfl rfl rfl ⟨rfl, rfl, rfl, rfl, rfl⟩ rfl rfl rfl rfl rfl (by kernel_rfl) Tryd.func4 (by kernel_rfl)
    (of_decide_eq_true (by kernel_rfl)) (by unfold Func.isWrapper; first | (rw [if_pos (by decide +kernel)]; kernel_rfl) | (rw [if_neg (by decide +kernel)]; exact ⟨rfl, rfl⟩))
    (fun os started H enc _ => lifted os started H enc)

theorem plain (f : FuncId) (fn : Func) (hf : Tryd.pinned.checked.prog.funcNamed "loop.example/hagioscope/laws.FnExactGraphNear" = some f) (hfn : Tryd.pinned.checked.prog.funcs[f]? = some fn) :
    false = Tryd.pinned.checked.prog.looks [] ∧ ∀ (j : Nat) t, fn.params[j]? = some t → Tryd.pinned.checked.prog.wantsStandIn t = false := by
  obtain rfl : f = 4 := Option.some.inj ((show Tryd.prog.funcNamed "loop.example/hagioscope/laws.FnExactGraphNear" = some 4 by kernel_rfl).symm.trans hf) |>.symm
  obtain rfl : fn = Tryd.f4 := (Option.some.inj (Tryd.func4.symm.trans hfn)).symm
  refine ⟨by kernel_rfl, fun j t ht => ?_⟩
  rw [Tryd.params4] at ht
  obtain rfl | rfl : t = 25 ∨ t = 37 := by simpa using Array.mem_of_getElem? ht
  · exact (show Tryd.prog.wantsStandIn 25 = false by kernel_rfl)
  · exact (show Tryd.prog.wantsStandIn 37 = false by kernel_rfl)

end Go.Proofs.YteiadahigdadaaaDoor.fnExactGraphNear
namespace Go.Proofs.YteiadahigdadaaaDoor
theorem fnExactGraphNear_card : Rows.FnExactGraphNearCardSaid :=
  Claim7.holds_tied_plain_at .later [] _ _ _ _ fnExactGraphNear.said (fun _ h => by cases h) (by kernel_rfl) (fun _ h => by cases h) fnExactGraphNear_row_tie rfl ⟨rfl, rfl⟩ (by kernel_rfl) rfl fnExactGraphNear.plain (by kernel_rfl)
#print axioms fnExactGraphNear_card
end Go.Proofs.YteiadahigdadaaaDoor
