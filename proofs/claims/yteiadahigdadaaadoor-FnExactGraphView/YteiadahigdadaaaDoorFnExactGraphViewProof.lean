/-
  At every graph of at most 2^20 nodes and edges and every number impl.GraphView answers as spec.GraphView does, writes into no argument, and its answer owns its memory.
-/
import Derived.Test.YteiadahigdadaaaDoorCards
import Derived.Test.YteiadahigdadaaaDoorTie
import Derived.Test.YteiadahigdadaaaDoorOpg
import Derived.Test.YteiadahigdadaaaDoorMrk
import Derived.Test.YteiadahigdadaaaDoorVie
import Derived.Test.YteiadahigdadaaaDoorErs
import Derived.WalkKit
import Derived.ProofKit
import Derived.OpenShut
import Derived.ShutString
import Derived.ChangeOld
import Derived.Below
import Derived.Carry
import Derived.Handy
import Derived.Deep.RegionHeld3
import Derived.LaidMore
import Derived.Deep.DeepCutAuto
namespace Go.Proofs.YteiadahigdadaaaDoor.fnExactGraphView
open Go.Proofs.YteiadahigdadaaaDoor.Lab
open Go.ChangeShapes Go.WideShapes Go.ChangeAt Go.RowKit
open Go.ChangeMaps (open_string shut_string)
set_option linter.unusedVariables false

theorem own : ownKnob Tryd.prog.godebug = none := by kernel_rfl
/-- A row of numbers that came in: nil, or so many cells. -/
def IsRow (k : IntKind) (w : World) (a : Option Addr) (len cap : Nat) (zs : List Int) : Prop :=
  (a = none ∧ len = 0 ∧ cap = 0 ∧ zs = []) ∨ ∃ x, a = some x ∧ len ≤ cap ∧ cap ≤ maxLen ∧ zs.length = cap ∧ (∀ i, i < zs.length → w.cell? (x.add i) = some (.int k (zs.getD i 0))) ∧ ∀ n ∈ zs, (Lit.int k n).wf = true

set_option maxHeartbeats 4000000 in
theorem walk (x0 y0 : Value) (ns0 : List (Int × Int)) (es0 : List (Int × Int × Int × Int × Int)) (a1 : Int) (w : World) (w0 : GraphIn w x0 y0 ns0 es0) (w1 : (Lit.int .i64 a1).wf = true) (hE : Errs w) :
    Calls Tryd.prog 3 #[.agg #[x0, y0], .int .i64 a1] w fun e w' => e = .returned (.bool true) ∧ Below w.heap.size w w' := by
  obtain ⟨r1, r2, m1, m2, _, _⟩ := w0
  obtain ⟨ga, gb, rfl⟩ := r1.len
  obtain ⟨gc, gd, rfl⟩ := r2.len
  simp only [maxLen, Nat.reducePow, Nat.reduceSub] at m1 m2
  have HR : Hid (RowAt 2 encNode w (.slice ga ns0.length gb) ns0 ∧ RowAt 5 encEdge w (.slice gc es0.length gd) es0) := ⟨r1, r2⟩
  have HE : Hid (Errs w) := hE
  have q1 := seen_len1 a1 ns0 es0
  have q2 := seen_len2 a1 ns0 es0
  clear r1 r2 hE
  go_enter Tryd.func3, Tryd.ntmps3
  go_wp2_with fail
  refine (szGraph _ _ _ _ _ _ _ _ (by omega) (by omega) m1 m2).mono ?_
  rintro e wa ⟨rfl, ba⟩
  obtain ⟨A, hA0⟩ : ∃ A, A = w.heap.size := ⟨_, rfl⟩
  have zz0 : A < wa.heap.size := by have := ba.size; simp at this; omega
  have Ba : Below A w wa := by rw [hA0]; exact Below.trans (by go_grown) (ba.mono (by simp))
  have cc0 : wa.cell? ⟨A, 0, none⟩ = some (.slice ga ns0.length gb) := by rw [hA0, Below.celz ba _ _ _ (by simp)]; simp [go_sem]
  have cc1 : wa.cell? ⟨A, 1, none⟩ = some (.slice gc es0.length gd) := by rw [hA0, Below.celz ba _ _ _ (by simp)]; simp [go_sem]
  clear ba
  rw [← hA0]
  have HA0 : Hid (A = w.heap.size) := hA0
  clear hA0
  by_cases hA : (ns0.length : Int) + es0.length ≤ 1048576
  · rw [if_pos hA]
    have l1 : ns0.length ≤ 1048576 := by omega
    have l2 : es0.length ≤ 1048576 := by omega
    have HK : Hid (∀ W, Below A w W → RowAt 2 encNode W (.slice ga ns0.length gb) ns0 ∧ RowAt 5 encEdge W (.slice gc es0.length gd) es0 ∧ Errs W) := fun W h => by rw [HA0.out] at h; exact ⟨HR.out.1.keep h, HR.out.2.keep h, HE.out.keep h⟩
    go_wp2_with fail
    refine (toGraph _ _ ns0 es0 _ (HK.out _ Ba).1 (HK.out _ Ba).2.1 l1 l2).mono ?_
    rintro e wb ⟨u1, u2, rfl, og1, bb⟩
    have Bb : Below A w wb := Ba.trans (bb.mono (by omega))
    have d0 : wb.cell? ⟨A, 0, none⟩ = some (.slice ga ns0.length gb) := by rw [Below.celz bb _ _ _ (by omega)]; exact cc0
    have d1 : wb.cell? ⟨A, 1, none⟩ = some (.slice gc es0.length gd) := by rw [Below.celz bb _ _ _ (by omega)]; exact cc1
    have y0 : A < wb.heap.size := by have := Below.size bb; omega
    clear cc0 cc1 zz0
    have cc0 := d0
    have cc1 := d1
    have zz0 := y0
    clear d0 d1 y0
    clear bb Ba
    go_wp2_with fail
    refine (spec_GraphView _ _ a1 ns0 es0 _ og1.nodes og1.edges l1 l2).mono ?_
    rintro e wc ⟨p1, p2, rfl, og2, bc⟩
    clear og1
    have Bc : Below A w wc := Bb.trans (bc.mono (by omega))
    have d0 : wc.cell? ⟨A, 0, none⟩ = some (.slice ga ns0.length gb) := by rw [Below.celz bc _ _ _ (by omega)]; exact cc0
    have d1 : wc.cell? ⟨A, 1, none⟩ = some (.slice gc es0.length gd) := by rw [Below.celz bc _ _ _ (by omega)]; exact cc1
    have y0 : A < wc.heap.size := by have := Below.size bc; omega
    clear cc0 cc1 zz0
    have cc0 := d0
    have cc1 := d1
    have zz0 := y0
    clear d0 d1 y0
    have HP : Hid (RowAt 2 encNode wc p1 (seenN a1 ns0 es0) ∧ RowAt 5 encEdge wc p2 (seenE a1 ns0 es0)) := ⟨og2.nodes, og2.edges⟩
    obtain ⟨pa, pb, pc, pd, rfl, rfl⟩ := og2.form
    clear bc Bb og2
    go_wp2_with fail
    obtain ⟨C, hC⟩ : ∃ B, B = wc.heap.size := ⟨_, rfl⟩
    generalize hW : wc.alloc (.cells #[.slice pa (seenN a1 ns0 es0).length pb, .slice pc (seenE a1 ns0 es0).length pd] 30) = wc2
    have nb : Below wc.heap.size wc wc2 := by rw [← hW]; exact (Below.refl _ _).alloc (Nat.le_refl _) _
    have n1 : wc2.cell? ⟨C, 0, none⟩ = some (.slice pa (seenN a1 ns0 es0).length pb) := by rw [← hW, hC]; simp [go_sem]
    have n2 : wc2.cell? ⟨C, 1, none⟩ = some (.slice pc (seenE a1 ns0 es0).length pd) := by rw [← hW, hC]; simp [go_sem]
    have n3 : wc2.heap.size = C + 1 := by rw [← hW, hC]; simp
    have oC : A < C := by rw [hC]; exact zz0
    have d0 : wc2.cell? ⟨A, 0, none⟩ = some (.slice ga ns0.length gb) := by rw [Below.celz nb _ _ _ (by omega)]; exact cc0
    have d1 : wc2.cell? ⟨A, 1, none⟩ = some (.slice gc es0.length gd) := by rw [Below.celz nb _ _ _ (by omega)]; exact cc1
    have y0 : A < wc2.heap.size := by have := Below.size nb; omega
    clear cc0 cc1 zz0
    have cc0 := d0
    have cc1 := d1
    have zz0 := y0
    clear d0 d1 y0
    have cc2 := n1
    have cc3 := n2
    have zz1 : C < wc2.heap.size := by omega
    rw [← hC]
    clear n1 n2 hW
    have HW : Hid (∀ W, Below C wc W → RowAt 2 encNode W (.slice pa (seenN a1 ns0 es0).length pb) (seenN a1 ns0 es0) ∧ RowAt 5 encEdge W (.slice pc (seenE a1 ns0 es0).length pd) (seenE a1 ns0 es0)) := fun W h => by rw [hC] at h; exact ⟨HP.out.1.keep h, HP.out.2.keep h⟩
    have Bc2 : Below A w wc2 := Bc.trans (nb.mono (by omega))
    have Lc2 : Below C wc wc2 := by rw [hC]; exact nb
    clear hC nb Bc
    refine (toGraph _ _ ns0 es0 _ (HK.out _ Bc2).1 (HK.out _ Bc2).2.1 l1 l2).mono ?_
    rintro e wd ⟨x1, x2, rfl, og3, bd⟩
    have Bd : Below A w wd := Bc2.trans (bd.mono (by omega))
    have Ld : Below C wc wd := Lc2.trans (bd.mono (by omega))
    have d0 : wd.cell? ⟨A, 0, none⟩ = some (.slice ga ns0.length gb) := by rw [Below.celz bd _ _ _ (by omega)]; exact cc0
    have d1 : wd.cell? ⟨A, 1, none⟩ = some (.slice gc es0.length gd) := by rw [Below.celz bd _ _ _ (by omega)]; exact cc1
    have d2 : wd.cell? ⟨C, 0, none⟩ = some (.slice pa (seenN a1 ns0 es0).length pb) := by rw [Below.celz bd _ _ _ (by omega)]; exact cc2
    have d3 : wd.cell? ⟨C, 1, none⟩ = some (.slice pc (seenE a1 ns0 es0).length pd) := by rw [Below.celz bd _ _ _ (by omega)]; exact cc3
    have y0 : A < wd.heap.size := by have := Below.size bd; omega
    have y1 : C < wd.heap.size := by have := Below.size bd; omega
    clear cc0 cc1 cc2 cc3 zz0 zz1
    have cc0 := d0
    have cc1 := d1
    have cc2 := d2
    have cc3 := d3
    have zz0 := y0
    have zz1 := y1
    clear d0 d1 d2 d3 y0 y1
    obtain ⟨xa, xb, xc, xd, rfl, rfl⟩ := og3.form
    have HX : Hid (OwnGraph wd wc2.heap.size (.slice xa ns0.length xb) (.slice xc es0.length xd) ns0 es0) := og3
    clear bd Bc2 Lc2 og3
    go_wp2_with fail
    obtain ⟨D, hD⟩ : ∃ B, B = wd.heap.size := ⟨_, rfl⟩
    generalize hW : wd.alloc (.cells #[.slice xa ns0.length xb, .slice xc es0.length xd] 30) = wd2
    have nb : Below wd.heap.size wd wd2 := by rw [← hW]; exact (Below.refl _ _).alloc (Nat.le_refl _) _
    have n1 : wd2.cell? ⟨D, 0, none⟩ = some (.slice xa ns0.length xb) := by rw [← hW, hD]; simp [go_sem]
    have n2 : wd2.cell? ⟨D, 1, none⟩ = some (.slice xc es0.length xd) := by rw [← hW, hD]; simp [go_sem]
    have n3 : wd2.heap.size = D + 1 := by rw [← hW, hD]; simp
    have oD : C < D := by rw [hD]; exact zz1
    have d0 : wd2.cell? ⟨A, 0, none⟩ = some (.slice ga ns0.length gb) := by rw [Below.celz nb _ _ _ (by omega)]; exact cc0
    have d1 : wd2.cell? ⟨A, 1, none⟩ = some (.slice gc es0.length gd) := by rw [Below.celz nb _ _ _ (by omega)]; exact cc1
    have d2 : wd2.cell? ⟨C, 0, none⟩ = some (.slice pa (seenN a1 ns0 es0).length pb) := by rw [Below.celz nb _ _ _ (by omega)]; exact cc2
    have d3 : wd2.cell? ⟨C, 1, none⟩ = some (.slice pc (seenE a1 ns0 es0).length pd) := by rw [Below.celz nb _ _ _ (by omega)]; exact cc3
    have y0 : A < wd2.heap.size := by have := Below.size nb; omega
    have y1 : C < wd2.heap.size := by have := Below.size nb; omega
    clear cc0 cc1 cc2 cc3 zz0 zz1
    have cc0 := d0
    have cc1 := d1
    have cc2 := d2
    have cc3 := d3
    have zz0 := y0
    have zz1 := y1
    clear d0 d1 d2 d3 y0 y1
    have cc4 := n1
    have cc5 := n2
    have zz2 : D < wd2.heap.size := by omega
    rw [← hD]
    clear n1 n2 hW
    have Bd2 : Below A w wd2 := Bd.trans (nb.mono (by omega))
    have Ld2 : Below C wc wd2 := Ld.trans (nb.mono (by omega))
    have ogx : OwnGraph wd2 wc2.heap.size (.slice xa ns0.length xb) (.slice xc es0.length xd) ns0 es0 := HX.out.keep nb
    have HAX : Hid (∀ k, ((Value.slice xa ns0.length xb).ownBlock = some k ∨ (Value.slice xc es0.length xd).ownBlock = some k) → C < k ∧ k < D) := fun k hk => by
      rcases hk with hk | hk
      · have := HX.out.1.lt k hk; omega
      · have := HX.out.2.1.lt k hk; omega
    clear hD nb Bd Ld HX
    refine (impl_GraphView _ _ a1 ns0 es0 _ ogx.nodes ogx.edges l1 l2 (HK.out _ Bd2).2.2).mono ?_
    rintro e we ⟨g1, g2, rfl, ogg, be⟩
    have Be : Below A w we := Bd2.trans (be.mono (by omega))
    have Le : Below C wc we := Ld2.trans (be.mono (by omega))
    have d0 : we.cell? ⟨A, 0, none⟩ = some (.slice ga ns0.length gb) := by rw [Below.celz be _ _ _ (by omega)]; exact cc0
    have d1 : we.cell? ⟨A, 1, none⟩ = some (.slice gc es0.length gd) := by rw [Below.celz be _ _ _ (by omega)]; exact cc1
    have d2 : we.cell? ⟨C, 0, none⟩ = some (.slice pa (seenN a1 ns0 es0).length pb) := by rw [Below.celz be _ _ _ (by omega)]; exact cc2
    have d3 : we.cell? ⟨C, 1, none⟩ = some (.slice pc (seenE a1 ns0 es0).length pd) := by rw [Below.celz be _ _ _ (by omega)]; exact cc3
    have d4 : we.cell? ⟨D, 0, none⟩ = some (.slice xa ns0.length xb) := by rw [Below.celz be _ _ _ (by omega)]; exact cc4
    have d5 : we.cell? ⟨D, 1, none⟩ = some (.slice xc es0.length xd) := by rw [Below.celz be _ _ _ (by omega)]; exact cc5
    have y0 : A < we.heap.size := by have := Below.size be; omega
    have y1 : C < we.heap.size := by have := Below.size be; omega
    have y2 : D < we.heap.size := by have := Below.size be; omega
    clear cc0 cc1 cc2 cc3 cc4 cc5 zz0 zz1 zz2
    have cc0 := d0
    have cc1 := d1
    have cc2 := d2
    have cc3 := d3
    have cc4 := d4
    have cc5 := d5
    have zz0 := y0
    have zz1 := y1
    have zz2 := y2
    clear d0 d1 d2 d3 d4 d5 y0 y1 y2
    have ogx2 := ogx.keep be
    obtain ⟨ya, yb, yc, yd, rfl, rfl⟩ := ogg.form
    have HG : Hid (OwnGraph we wd2.heap.size (.slice ya (seenN a1 ns0 es0).length yb) (.slice yc (seenE a1 ns0 es0).length yd) (seenN a1 ns0 es0) (seenE a1 ns0 es0)) := ogg
    have HX : Hid (OwnGraph we wc2.heap.size (.slice xa ns0.length xb) (.slice xc es0.length xd) ns0 es0) := ogx2
    clear be Bd2 Ld2 ogx ogx2 ogg
    go_wp2_with fail
    obtain ⟨E, hE⟩ : ∃ B, B = we.heap.size := ⟨_, rfl⟩
    generalize hW : we.alloc (.cells #[.slice ya (seenN a1 ns0 es0).length yb, .slice yc (seenE a1 ns0 es0).length yd] 30) = we2
    have nb : Below we.heap.size we we2 := by rw [← hW]; exact (Below.refl _ _).alloc (Nat.le_refl _) _
    have n1 : we2.cell? ⟨E, 0, none⟩ = some (.slice ya (seenN a1 ns0 es0).length yb) := by rw [← hW, hE]; simp [go_sem]
    have n2 : we2.cell? ⟨E, 1, none⟩ = some (.slice yc (seenE a1 ns0 es0).length yd) := by rw [← hW, hE]; simp [go_sem]
    have n3 : we2.heap.size = E + 1 := by rw [← hW, hE]; simp
    have oE : D < E := by rw [hE]; exact zz2
    have d0 : we2.cell? ⟨A, 0, none⟩ = some (.slice ga ns0.length gb) := by rw [Below.celz nb _ _ _ (by omega)]; exact cc0
    have d1 : we2.cell? ⟨A, 1, none⟩ = some (.slice gc es0.length gd) := by rw [Below.celz nb _ _ _ (by omega)]; exact cc1
    have d2 : we2.cell? ⟨C, 0, none⟩ = some (.slice pa (seenN a1 ns0 es0).length pb) := by rw [Below.celz nb _ _ _ (by omega)]; exact cc2
    have d3 : we2.cell? ⟨C, 1, none⟩ = some (.slice pc (seenE a1 ns0 es0).length pd) := by rw [Below.celz nb _ _ _ (by omega)]; exact cc3
    have d4 : we2.cell? ⟨D, 0, none⟩ = some (.slice xa ns0.length xb) := by rw [Below.celz nb _ _ _ (by omega)]; exact cc4
    have d5 : we2.cell? ⟨D, 1, none⟩ = some (.slice xc es0.length xd) := by rw [Below.celz nb _ _ _ (by omega)]; exact cc5
    have y0 : A < we2.heap.size := by have := Below.size nb; omega
    have y1 : C < we2.heap.size := by have := Below.size nb; omega
    have y2 : D < we2.heap.size := by have := Below.size nb; omega
    clear cc0 cc1 cc2 cc3 cc4 cc5 zz0 zz1 zz2
    have cc0 := d0
    have cc1 := d1
    have cc2 := d2
    have cc3 := d3
    have cc4 := d4
    have cc5 := d5
    have zz0 := y0
    have zz1 := y1
    have zz2 := y2
    clear d0 d1 d2 d3 d4 d5 y0 y1 y2
    have cc6 := n1
    have cc7 := n2
    have zz3 : E < we2.heap.size := by omega
    rw [← hE]
    clear n1 n2 hW
    have Be2 : Below A w we2 := Be.trans (nb.mono (by omega))
    have Le2 : Below C wc we2 := Le.trans (nb.mono (by omega))
    have HX2 : Hid (OwnGraph we2 wc2.heap.size (.slice xa ns0.length xb) (.slice xc es0.length xd) ns0 es0) := HX.out.keep nb
    have HG2 : Hid (OwnGraph we2 wd2.heap.size (.slice ya (seenN a1 ns0 es0).length yb) (.slice yc (seenE a1 ns0 es0).length yd) (seenN a1 ns0 es0) (seenE a1 ns0 es0)) := HG.out.keep nb
    have HAG : Hid (∀ k, ((.slice ya (seenN a1 ns0 es0).length yb : Value).ownBlock = some k ∨ (.slice yc (seenE a1 ns0 es0).length yd : Value).ownBlock = some k) → D < k ∧ k < E) := fun k hk => by
      rcases hk with hk | hk
      · have := HG.out.1.lt k hk; omega
      · have := HG.out.2.1.lt k hk; omega
    clear hE nb Be Le HX HG
    refine (eqGraph_same _ _ _ _ (seenN a1 ns0 es0) (seenE a1 ns0 es0) _ HG2.out.nodes HG2.out.edges (HW.out _ Le2).1 (HW.out _ Le2).2 (by omega) (by omega)).mono ?_
    rintro e wf ⟨rfl, bf⟩
    have Bf : Below A w wf := Be2.trans (bf.mono (by omega))
    have Lf : Below C wc wf := Le2.trans (bf.mono (by omega))
    have d0 : wf.cell? ⟨A, 0, none⟩ = some (.slice ga ns0.length gb) := by rw [Below.celz bf _ _ _ (by omega)]; exact cc0
    have d1 : wf.cell? ⟨A, 1, none⟩ = some (.slice gc es0.length gd) := by rw [Below.celz bf _ _ _ (by omega)]; exact cc1
    have d2 : wf.cell? ⟨C, 0, none⟩ = some (.slice pa (seenN a1 ns0 es0).length pb) := by rw [Below.celz bf _ _ _ (by omega)]; exact cc2
    have d3 : wf.cell? ⟨C, 1, none⟩ = some (.slice pc (seenE a1 ns0 es0).length pd) := by rw [Below.celz bf _ _ _ (by omega)]; exact cc3
    have d4 : wf.cell? ⟨D, 0, none⟩ = some (.slice xa ns0.length xb) := by rw [Below.celz bf _ _ _ (by omega)]; exact cc4
    have d5 : wf.cell? ⟨D, 1, none⟩ = some (.slice xc es0.length xd) := by rw [Below.celz bf _ _ _ (by omega)]; exact cc5
    have d6 : wf.cell? ⟨E, 0, none⟩ = some (.slice ya (seenN a1 ns0 es0).length yb) := by rw [Below.celz bf _ _ _ (by omega)]; exact cc6
    have d7 : wf.cell? ⟨E, 1, none⟩ = some (.slice yc (seenE a1 ns0 es0).length yd) := by rw [Below.celz bf _ _ _ (by omega)]; exact cc7
    have y0 : A < wf.heap.size := by have := Below.size bf; omega
    have y1 : C < wf.heap.size := by have := Below.size bf; omega
    have y2 : D < wf.heap.size := by have := Below.size bf; omega
    have y3 : E < wf.heap.size := by have := Below.size bf; omega
    clear cc0 cc1 cc2 cc3 cc4 cc5 cc6 cc7 zz0 zz1 zz2 zz3
    have cc0 := d0
    have cc1 := d1
    have cc2 := d2
    have cc3 := d3
    have cc4 := d4
    have cc5 := d5
    have cc6 := d6
    have cc7 := d7
    have zz0 := y0
    have zz1 := y1
    have zz2 := y2
    have zz3 := y3
    clear d0 d1 d2 d3 d4 d5 d6 d7 y0 y1 y2 y3
    have HX3 : Hid (OwnGraph wf wc2.heap.size (.slice xa ns0.length xb) (.slice xc es0.length xd) ns0 es0) := HX2.out.keep bf
    have HG3 : Hid (OwnGraph wf wd2.heap.size (.slice ya (seenN a1 ns0 es0).length yb) (.slice yc (seenE a1 ns0 es0).length yd) (seenN a1 ns0 es0) (seenE a1 ns0 es0)) := HG2.out.keep bf
    clear bf Be2 Le2 HX2 HG2
    go_wp2_with fail
    have hS : Hid (∀ w', Below wf.heap.size wf w' → Below wf.heap.size wf w' ∧ w'.cell? ⟨A, 0, none⟩ = some (.slice ga ns0.length gb) ∧ w'.cell? ⟨A, 1, none⟩ = some (.slice gc es0.length gd) ∧ w'.cell? ⟨D, 0, none⟩ = some (.slice xa ns0.length xb) ∧ w'.cell? ⟨D, 1, none⟩ = some (.slice xc es0.length xd)) := fun w' hn => ⟨hn, (Below.celz hn _ _ _ zz0).trans cc0, (Below.celz hn _ _ _ zz0).trans cc1, (Below.celz hn _ _ _ zz2).trans cc4, (Below.celz hn _ _ _ zz2).trans cc5⟩
    have HF : Hid (∀ W, Below wf.heap.size wf W → RowAt 2 encNode W (.slice ga ns0.length gb) ns0 ∧ RowAt 5 encEdge W (.slice gc es0.length gd) es0 ∧ Errs W) := fun W h => HK.out W (Bf.trans (h.mono (by omega)))
    go_region_held3 (fun w' => Below wf.heap.size wf w' ∧ w'.cell? ⟨A, 0, none⟩ = some (.slice ga ns0.length gb) ∧ w'.cell? ⟨A, 1, none⟩ = some (.slice gc es0.length gd) ∧ w'.cell? ⟨D, 0, none⟩ = some (.slice xa ns0.length xb) ∧ w'.cell? ⟨D, 1, none⟩ = some (.slice xc es0.length xd))
      (first | with_reducible exact hS.out _ (Below.refl _ _).drew | (with_reducible exact hS.out _ (keep_below (And.left (by assumption)) tj2)) | (with_reducible exact hS.out _ (keep_below (And.left (by assumption)) tj1)))
      (first | (go_at_call_of 7 (Value.agg #[.slice ga ns0.length gb, .slice gc es0.length gd]); refine (toGraph _ _ ns0 es0 _ (HF.out _ (And.left (by assumption))).1 (HF.out _ (And.left (by assumption))).2.1 l1 l2).mono ?_; rintro e wi ⟨s1, s2, rfl, oi, tj1⟩) | (go_at_call 9; refine (eqGraph_same _ _ _ _ ns0 es0 _ (HX3.out.keep (And.left (by assumption))).nodes (HX3.out.keep (And.left (by assumption))).edges oi.nodes oi.edges l1 l2).mono ?_; rintro e wj ⟨rfl, tj2⟩))
    have bj : Below wf.heap.size wf wj := by have : Below wf.heap.size wf wj ∧ wj.cell? ⟨A, 0, none⟩ = some (.slice ga ns0.length gb) ∧ wj.cell? ⟨A, 1, none⟩ = some (.slice gc es0.length gd) ∧ wj.cell? ⟨D, 0, none⟩ = some (.slice xa ns0.length xb) ∧ wj.cell? ⟨D, 1, none⟩ = some (.slice xc es0.length xd) := by assumption
                                             exact this.1
    clear tj1 tj2 hS HF
    have Bj : Below A w wj := Bf.trans (bj.mono (by omega))
    have Lj : Below C wc wj := Lf.trans (bj.mono (by omega))
    have d0 : wj.cell? ⟨A, 0, none⟩ = some (.slice ga ns0.length gb) := by rw [Below.celz bj _ _ _ (by omega)]; exact cc0
    have d1 : wj.cell? ⟨A, 1, none⟩ = some (.slice gc es0.length gd) := by rw [Below.celz bj _ _ _ (by omega)]; exact cc1
    have d2 : wj.cell? ⟨C, 0, none⟩ = some (.slice pa (seenN a1 ns0 es0).length pb) := by rw [Below.celz bj _ _ _ (by omega)]; exact cc2
    have d3 : wj.cell? ⟨C, 1, none⟩ = some (.slice pc (seenE a1 ns0 es0).length pd) := by rw [Below.celz bj _ _ _ (by omega)]; exact cc3
    have d4 : wj.cell? ⟨D, 0, none⟩ = some (.slice xa ns0.length xb) := by rw [Below.celz bj _ _ _ (by omega)]; exact cc4
    have d5 : wj.cell? ⟨D, 1, none⟩ = some (.slice xc es0.length xd) := by rw [Below.celz bj _ _ _ (by omega)]; exact cc5
    have d6 : wj.cell? ⟨E, 0, none⟩ = some (.slice ya (seenN a1 ns0 es0).length yb) := by rw [Below.celz bj _ _ _ (by omega)]; exact cc6
    have d7 : wj.cell? ⟨E, 1, none⟩ = some (.slice yc (seenE a1 ns0 es0).length yd) := by rw [Below.celz bj _ _ _ (by omega)]; exact cc7
    have y0 : A < wj.heap.size := by have := Below.size bj; omega
    have y1 : C < wj.heap.size := by have := Below.size bj; omega
    have y2 : D < wj.heap.size := by have := Below.size bj; omega
    have y3 : E < wj.heap.size := by have := Below.size bj; omega
    clear cc0 cc1 cc2 cc3 cc4 cc5 cc6 cc7 zz0 zz1 zz2 zz3
    have cc0 := d0
    have cc1 := d1
    have cc2 := d2
    have cc3 := d3
    have cc4 := d4
    have cc5 := d5
    have cc6 := d6
    have cc7 := d7
    have zz0 := y0
    have zz1 := y1
    have zz2 := y2
    have zz3 := y3
    clear d0 d1 d2 d3 d4 d5 d6 d7 y0 y1 y2 y3
    have HX4 : Hid (OwnGraph wj wc2.heap.size (.slice xa ns0.length xb) (.slice xc es0.length xd) ns0 es0) := HX3.out.keep bj
    have HG4 : Hid (OwnGraph wj wd2.heap.size (.slice ya (seenN a1 ns0 es0).length yb) (.slice yc (seenE a1 ns0 es0).length yd) (seenN a1 ns0 es0) (seenE a1 ns0 es0)) := HG3.out.keep bj
    clear bj Bf Lf HX3 HG3
    go_wp2_with fail
    refine (markGraph _ _ _ ns0 es0 _ _ (by omega) (by omega) l1 l2 HX4.out).mono ?_
    rintro e wk ⟨rfl, _, bk⟩
    have bk2 := bk.size
    have Bk : Below A w wk := bk.below Bj (by omega) (fun k h => by have := HAX.out _ h; omega)
    have Lk : Below C wc wk := bk.below Lj (by omega) (fun k h => by have := HAX.out _ h; omega)
    have d0 : wk.cell? ⟨A, 0, none⟩ = some (.slice ga ns0.length gb) := by rw [cell_of_blk (bk.blk _ (by omega) (fun h => by have := HAX.out _ h; omega))]; exact cc0
    have d1 : wk.cell? ⟨A, 1, none⟩ = some (.slice gc es0.length gd) := by rw [cell_of_blk (bk.blk _ (by omega) (fun h => by have := HAX.out _ h; omega))]; exact cc1
    have d2 : wk.cell? ⟨C, 0, none⟩ = some (.slice pa (seenN a1 ns0 es0).length pb) := by rw [cell_of_blk (bk.blk _ (by omega) (fun h => by have := HAX.out _ h; omega))]; exact cc2
    have d3 : wk.cell? ⟨C, 1, none⟩ = some (.slice pc (seenE a1 ns0 es0).length pd) := by rw [cell_of_blk (bk.blk _ (by omega) (fun h => by have := HAX.out _ h; omega))]; exact cc3
    have d4 : wk.cell? ⟨D, 0, none⟩ = some (.slice xa ns0.length xb) := by rw [cell_of_blk (bk.blk _ (by omega) (fun h => by have := HAX.out _ h; omega))]; exact cc4
    have d5 : wk.cell? ⟨D, 1, none⟩ = some (.slice xc es0.length xd) := by rw [cell_of_blk (bk.blk _ (by omega) (fun h => by have := HAX.out _ h; omega))]; exact cc5
    have d6 : wk.cell? ⟨E, 0, none⟩ = some (.slice ya (seenN a1 ns0 es0).length yb) := by rw [cell_of_blk (bk.blk _ (by omega) (fun h => by have := HAX.out _ h; omega))]; exact cc6
    have d7 : wk.cell? ⟨E, 1, none⟩ = some (.slice yc (seenE a1 ns0 es0).length yd) := by rw [cell_of_blk (bk.blk _ (by omega) (fun h => by have := HAX.out _ h; omega))]; exact cc7
    have y0 : A < wk.heap.size := by omega
    have y1 : C < wk.heap.size := by omega
    have y2 : D < wk.heap.size := by omega
    have y3 : E < wk.heap.size := by omega
    clear cc0 cc1 cc2 cc3 cc4 cc5 cc6 cc7 zz0 zz1 zz2 zz3
    have cc0 := d0
    have cc1 := d1
    have cc2 := d2
    have cc3 := d3
    have cc4 := d4
    have cc5 := d5
    have cc6 := d6
    have cc7 := d7
    have zz0 := y0
    have zz1 := y1
    have zz2 := y2
    have zz3 := y3
    clear d0 d1 d2 d3 d4 d5 d6 d7 y0 y1 y2 y3
    have HG5 : Hid (OwnGraph wk wd2.heap.size (.slice ya (seenN a1 ns0 es0).length yb) (.slice yc (seenE a1 ns0 es0).length yd) (seenN a1 ns0 es0) (seenE a1 ns0 es0)) := OwnGraph.but bk HG4.out (fun k h e => by have := HAX.out _ e; omega)
    clear bk bk2 Bj Lj HX4 HG4
    go_wp2_with fail
    refine (eqGraph_same _ _ _ _ (seenN a1 ns0 es0) (seenE a1 ns0 es0) _ HG5.out.nodes HG5.out.edges (HW.out _ Lk).1 (HW.out _ Lk).2 (by omega) (by omega)).mono ?_
    rintro e wl ⟨rfl, bl⟩
    have Bl : Below A w wl := Bk.trans (bl.mono (by omega))
    have Ll : Below C wc wl := Lk.trans (bl.mono (by omega))
    have d0 : wl.cell? ⟨A, 0, none⟩ = some (.slice ga ns0.length gb) := by rw [Below.celz bl _ _ _ (by omega)]; exact cc0
    have d1 : wl.cell? ⟨A, 1, none⟩ = some (.slice gc es0.length gd) := by rw [Below.celz bl _ _ _ (by omega)]; exact cc1
    have d2 : wl.cell? ⟨C, 0, none⟩ = some (.slice pa (seenN a1 ns0 es0).length pb) := by rw [Below.celz bl _ _ _ (by omega)]; exact cc2
    have d3 : wl.cell? ⟨C, 1, none⟩ = some (.slice pc (seenE a1 ns0 es0).length pd) := by rw [Below.celz bl _ _ _ (by omega)]; exact cc3
    have d4 : wl.cell? ⟨D, 0, none⟩ = some (.slice xa ns0.length xb) := by rw [Below.celz bl _ _ _ (by omega)]; exact cc4
    have d5 : wl.cell? ⟨D, 1, none⟩ = some (.slice xc es0.length xd) := by rw [Below.celz bl _ _ _ (by omega)]; exact cc5
    have d6 : wl.cell? ⟨E, 0, none⟩ = some (.slice ya (seenN a1 ns0 es0).length yb) := by rw [Below.celz bl _ _ _ (by omega)]; exact cc6
    have d7 : wl.cell? ⟨E, 1, none⟩ = some (.slice yc (seenE a1 ns0 es0).length yd) := by rw [Below.celz bl _ _ _ (by omega)]; exact cc7
    have y0 : A < wl.heap.size := by have := Below.size bl; omega
    have y1 : C < wl.heap.size := by have := Below.size bl; omega
    have y2 : D < wl.heap.size := by have := Below.size bl; omega
    have y3 : E < wl.heap.size := by have := Below.size bl; omega
    clear cc0 cc1 cc2 cc3 cc4 cc5 cc6 cc7 zz0 zz1 zz2 zz3
    have cc0 := d0
    have cc1 := d1
    have cc2 := d2
    have cc3 := d3
    have cc4 := d4
    have cc5 := d5
    have cc6 := d6
    have cc7 := d7
    have zz0 := y0
    have zz1 := y1
    have zz2 := y2
    have zz3 := y3
    clear d0 d1 d2 d3 d4 d5 d6 d7 y0 y1 y2 y3
    have HG6 : Hid (OwnGraph wl wd2.heap.size (.slice ya (seenN a1 ns0 es0).length yb) (.slice yc (seenE a1 ns0 es0).length yd) (seenN a1 ns0 es0) (seenE a1 ns0 es0)) := HG5.out.keep bl
    clear bl Bk Lk HG5
    go_wp2_with fail
    refine (markGraph _ _ _ (seenN a1 ns0 es0) (seenE a1 ns0 es0) _ _ (by omega) (by omega) (by omega) (by omega) HG6.out).mono ?_
    rintro e wm ⟨rfl, og7, bm⟩
    have bm2 := bm.size
    have Bm : Below A w wm := bm.below Bl (by omega) (fun k h => by have := HAG.out _ h; omega)
    have Lm : Below C wc wm := bm.below Ll (by omega) (fun k h => by have := HAG.out _ h; omega)
    have HG7 : Hid (OwnGraph wm wd2.heap.size (.slice ya (seenN a1 ns0 es0).length yb) (.slice yc (seenE a1 ns0 es0).length yd) (marksNode 1 (seenN a1 ns0 es0).length) (marksEdge (1 + 2 * (seenN a1 ns0 es0).length) (seenE a1 ns0 es0).length)) := og7
    clear og7
    have d0 : wm.cell? ⟨A, 0, none⟩ = some (.slice ga ns0.length gb) := by rw [cell_of_blk (bm.blk _ (by omega) (fun h => by have := HAG.out _ h; omega))]; exact cc0
    have d1 : wm.cell? ⟨A, 1, none⟩ = some (.slice gc es0.length gd) := by rw [cell_of_blk (bm.blk _ (by omega) (fun h => by have := HAG.out _ h; omega))]; exact cc1
    have d2 : wm.cell? ⟨C, 0, none⟩ = some (.slice pa (seenN a1 ns0 es0).length pb) := by rw [cell_of_blk (bm.blk _ (by omega) (fun h => by have := HAG.out _ h; omega))]; exact cc2
    have d3 : wm.cell? ⟨C, 1, none⟩ = some (.slice pc (seenE a1 ns0 es0).length pd) := by rw [cell_of_blk (bm.blk _ (by omega) (fun h => by have := HAG.out _ h; omega))]; exact cc3
    have d4 : wm.cell? ⟨D, 0, none⟩ = some (.slice xa ns0.length xb) := by rw [cell_of_blk (bm.blk _ (by omega) (fun h => by have := HAG.out _ h; omega))]; exact cc4
    have d5 : wm.cell? ⟨D, 1, none⟩ = some (.slice xc es0.length xd) := by rw [cell_of_blk (bm.blk _ (by omega) (fun h => by have := HAG.out _ h; omega))]; exact cc5
    have d6 : wm.cell? ⟨E, 0, none⟩ = some (.slice ya (seenN a1 ns0 es0).length yb) := by rw [cell_of_blk (bm.blk _ (by omega) (fun h => by have := HAG.out _ h; omega))]; exact cc6
    have d7 : wm.cell? ⟨E, 1, none⟩ = some (.slice yc (seenE a1 ns0 es0).length yd) := by rw [cell_of_blk (bm.blk _ (by omega) (fun h => by have := HAG.out _ h; omega))]; exact cc7
    have y0 : A < wm.heap.size := by omega
    have y1 : C < wm.heap.size := by omega
    have y2 : D < wm.heap.size := by omega
    have y3 : E < wm.heap.size := by omega
    clear cc0 cc1 cc2 cc3 cc4 cc5 cc6 cc7 zz0 zz1 zz2 zz3
    have cc0 := d0
    have cc1 := d1
    have cc2 := d2
    have cc3 := d3
    have cc4 := d4
    have cc5 := d5
    have cc6 := d6
    have cc7 := d7
    have zz0 := y0
    have zz1 := y1
    have zz2 := y2
    have zz3 := y3
    clear d0 d1 d2 d3 d4 d5 d6 d7 y0 y1 y2 y3
    clear bm bm2 Bl Ll HG6
    go_wp2_with fail
    refine (heldGraph _ _ (seenN a1 ns0 es0).length (seenE a1 ns0 es0).length _ _ (by omega) (by omega) (by omega) (by omega) HG7.out.nodes HG7.out.edges).mono ?_
    rintro e wn ⟨rfl, bn⟩
    have Bn : Below A w wn := Bm.trans (bn.mono (by omega))
    have Ln : Below C wc wn := Lm.trans (bn.mono (by omega))
    have d0 : wn.cell? ⟨A, 0, none⟩ = some (.slice ga ns0.length gb) := by rw [Below.celz bn _ _ _ (by omega)]; exact cc0
    have d1 : wn.cell? ⟨A, 1, none⟩ = some (.slice gc es0.length gd) := by rw [Below.celz bn _ _ _ (by omega)]; exact cc1
    have d2 : wn.cell? ⟨C, 0, none⟩ = some (.slice pa (seenN a1 ns0 es0).length pb) := by rw [Below.celz bn _ _ _ (by omega)]; exact cc2
    have d3 : wn.cell? ⟨C, 1, none⟩ = some (.slice pc (seenE a1 ns0 es0).length pd) := by rw [Below.celz bn _ _ _ (by omega)]; exact cc3
    have d4 : wn.cell? ⟨D, 0, none⟩ = some (.slice xa ns0.length xb) := by rw [Below.celz bn _ _ _ (by omega)]; exact cc4
    have d5 : wn.cell? ⟨D, 1, none⟩ = some (.slice xc es0.length xd) := by rw [Below.celz bn _ _ _ (by omega)]; exact cc5
    have d6 : wn.cell? ⟨E, 0, none⟩ = some (.slice ya (seenN a1 ns0 es0).length yb) := by rw [Below.celz bn _ _ _ (by omega)]; exact cc6
    have d7 : wn.cell? ⟨E, 1, none⟩ = some (.slice yc (seenE a1 ns0 es0).length yd) := by rw [Below.celz bn _ _ _ (by omega)]; exact cc7
    have y0 : A < wn.heap.size := by have := Below.size bn; omega
    have y1 : C < wn.heap.size := by have := Below.size bn; omega
    have y2 : D < wn.heap.size := by have := Below.size bn; omega
    have y3 : E < wn.heap.size := by have := Below.size bn; omega
    clear cc0 cc1 cc2 cc3 cc4 cc5 cc6 cc7 zz0 zz1 zz2 zz3
    have cc0 := d0
    have cc1 := d1
    have cc2 := d2
    have cc3 := d3
    have cc4 := d4
    have cc5 := d5
    have cc6 := d6
    have cc7 := d7
    have zz0 := y0
    have zz1 := y1
    have zz2 := y2
    have zz3 := y3
    clear d0 d1 d2 d3 d4 d5 d6 d7 y0 y1 y2 y3
    have HG8 : Hid (OwnGraph wn wd2.heap.size (.slice ya (seenN a1 ns0 es0).length yb) (.slice yc (seenE a1 ns0 es0).length yd) (marksNode 1 (seenN a1 ns0 es0).length) (marksEdge (1 + 2 * (seenN a1 ns0 es0).length) (seenE a1 ns0 es0).length)) := HG7.out.keep bn
    clear bn Bm Lm HG7
    have hmm : ((1 + 2 * ((seenN a1 ns0 es0).length : Int) + 5 * ((seenE a1 ns0 es0).length : Int)) != (1 + 2 * ((seenN a1 ns0 es0).length : Int) + 5 * ((seenE a1 ns0 es0).length : Int))) = false := by simp
    go_wp2_with fail
    refine (toGraph _ _ ns0 es0 _ (HK.out _ Bn).1 (HK.out _ Bn).2.1 l1 l2).mono ?_
    rintro e wo ⟨t1, t2, rfl, ogt, bo⟩
    have Bo : Below A w wo := Bn.trans (bo.mono (by omega))
    have Lo : Below C wc wo := Ln.trans (bo.mono (by omega))
    have d0 : wo.cell? ⟨A, 0, none⟩ = some (.slice ga ns0.length gb) := by rw [Below.celz bo _ _ _ (by omega)]; exact cc0
    have d1 : wo.cell? ⟨A, 1, none⟩ = some (.slice gc es0.length gd) := by rw [Below.celz bo _ _ _ (by omega)]; exact cc1
    have d2 : wo.cell? ⟨C, 0, none⟩ = some (.slice pa (seenN a1 ns0 es0).length pb) := by rw [Below.celz bo _ _ _ (by omega)]; exact cc2
    have d3 : wo.cell? ⟨C, 1, none⟩ = some (.slice pc (seenE a1 ns0 es0).length pd) := by rw [Below.celz bo _ _ _ (by omega)]; exact cc3
    have d4 : wo.cell? ⟨D, 0, none⟩ = some (.slice xa ns0.length xb) := by rw [Below.celz bo _ _ _ (by omega)]; exact cc4
    have d5 : wo.cell? ⟨D, 1, none⟩ = some (.slice xc es0.length xd) := by rw [Below.celz bo _ _ _ (by omega)]; exact cc5
    have d6 : wo.cell? ⟨E, 0, none⟩ = some (.slice ya (seenN a1 ns0 es0).length yb) := by rw [Below.celz bo _ _ _ (by omega)]; exact cc6
    have d7 : wo.cell? ⟨E, 1, none⟩ = some (.slice yc (seenE a1 ns0 es0).length yd) := by rw [Below.celz bo _ _ _ (by omega)]; exact cc7
    have y0 : A < wo.heap.size := by have := Below.size bo; omega
    have y1 : C < wo.heap.size := by have := Below.size bo; omega
    have y2 : D < wo.heap.size := by have := Below.size bo; omega
    have y3 : E < wo.heap.size := by have := Below.size bo; omega
    clear cc0 cc1 cc2 cc3 cc4 cc5 cc6 cc7 zz0 zz1 zz2 zz3
    have cc0 := d0
    have cc1 := d1
    have cc2 := d2
    have cc3 := d3
    have cc4 := d4
    have cc5 := d5
    have cc6 := d6
    have cc7 := d7
    have zz0 := y0
    have zz1 := y1
    have zz2 := y2
    have zz3 := y3
    clear d0 d1 d2 d3 d4 d5 d6 d7 y0 y1 y2 y3
    have HG9 : Hid (OwnGraph wo wd2.heap.size (.slice ya (seenN a1 ns0 es0).length yb) (.slice yc (seenE a1 ns0 es0).length yd) (marksNode 1 (seenN a1 ns0 es0).length) (marksEdge (1 + 2 * (seenN a1 ns0 es0).length) (seenE a1 ns0 es0).length)) := HG8.out.keep bo
    clear bo Bn Ln HG8
    go_wp2_with fail
    refine (impl_GraphView _ _ a1 ns0 es0 _ ogt.nodes ogt.edges l1 l2 (HK.out _ Bo).2.2).mono ?_
    rintro e wp ⟨h1, h2, rfl, ogh, bp⟩
    have Bp : Below A w wp := Bo.trans (bp.mono (by omega))
    have Lp : Below C wc wp := Lo.trans (bp.mono (by omega))
    have d0 : wp.cell? ⟨A, 0, none⟩ = some (.slice ga ns0.length gb) := by rw [Below.celz bp _ _ _ (by omega)]; exact cc0
    have d1 : wp.cell? ⟨A, 1, none⟩ = some (.slice gc es0.length gd) := by rw [Below.celz bp _ _ _ (by omega)]; exact cc1
    have d2 : wp.cell? ⟨C, 0, none⟩ = some (.slice pa (seenN a1 ns0 es0).length pb) := by rw [Below.celz bp _ _ _ (by omega)]; exact cc2
    have d3 : wp.cell? ⟨C, 1, none⟩ = some (.slice pc (seenE a1 ns0 es0).length pd) := by rw [Below.celz bp _ _ _ (by omega)]; exact cc3
    have d4 : wp.cell? ⟨D, 0, none⟩ = some (.slice xa ns0.length xb) := by rw [Below.celz bp _ _ _ (by omega)]; exact cc4
    have d5 : wp.cell? ⟨D, 1, none⟩ = some (.slice xc es0.length xd) := by rw [Below.celz bp _ _ _ (by omega)]; exact cc5
    have d6 : wp.cell? ⟨E, 0, none⟩ = some (.slice ya (seenN a1 ns0 es0).length yb) := by rw [Below.celz bp _ _ _ (by omega)]; exact cc6
    have d7 : wp.cell? ⟨E, 1, none⟩ = some (.slice yc (seenE a1 ns0 es0).length yd) := by rw [Below.celz bp _ _ _ (by omega)]; exact cc7
    have y0 : A < wp.heap.size := by have := Below.size bp; omega
    have y1 : C < wp.heap.size := by have := Below.size bp; omega
    have y2 : D < wp.heap.size := by have := Below.size bp; omega
    have y3 : E < wp.heap.size := by have := Below.size bp; omega
    clear cc0 cc1 cc2 cc3 cc4 cc5 cc6 cc7 zz0 zz1 zz2 zz3
    have cc0 := d0
    have cc1 := d1
    have cc2 := d2
    have cc3 := d3
    have cc4 := d4
    have cc5 := d5
    have cc6 := d6
    have cc7 := d7
    have zz0 := y0
    have zz1 := y1
    have zz2 := y2
    have zz3 := y3
    clear d0 d1 d2 d3 d4 d5 d6 d7 y0 y1 y2 y3
    have HGa : Hid (OwnGraph wp wd2.heap.size (.slice ya (seenN a1 ns0 es0).length yb) (.slice yc (seenE a1 ns0 es0).length yd) (marksNode 1 (seenN a1 ns0 es0).length) (marksEdge (1 + 2 * (seenN a1 ns0 es0).length) (seenE a1 ns0 es0).length)) := HG9.out.keep bp
    obtain ⟨ha, hb, hc, hd, rfl, rfl⟩ := ogh.form
    have HH : Hid (OwnGraph wp wo.heap.size (.slice ha (seenN a1 ns0 es0).length hb) (.slice hc (seenE a1 ns0 es0).length hd) (seenN a1 ns0 es0) (seenE a1 ns0 es0)) := ogh
    clear bp Bo Lo HG9 ogt ogh
    go_wp2_with fail
    obtain ⟨F, hF⟩ : ∃ B, B = wp.heap.size := ⟨_, rfl⟩
    generalize hW : wp.alloc (.cells #[.slice ha (seenN a1 ns0 es0).length hb, .slice hc (seenE a1 ns0 es0).length hd] 30) = wp2
    have nb : Below wp.heap.size wp wp2 := by rw [← hW]; exact (Below.refl _ _).alloc (Nat.le_refl _) _
    have n1 : wp2.cell? ⟨F, 0, none⟩ = some (.slice ha (seenN a1 ns0 es0).length hb) := by rw [← hW, hF]; simp [go_sem]
    have n2 : wp2.cell? ⟨F, 1, none⟩ = some (.slice hc (seenE a1 ns0 es0).length hd) := by rw [← hW, hF]; simp [go_sem]
    have n3 : wp2.heap.size = F + 1 := by rw [← hW, hF]; simp
    have oF : E < F := by rw [hF]; exact zz3
    have d0 : wp2.cell? ⟨A, 0, none⟩ = some (.slice ga ns0.length gb) := by rw [Below.celz nb _ _ _ (by omega)]; exact cc0
    have d1 : wp2.cell? ⟨A, 1, none⟩ = some (.slice gc es0.length gd) := by rw [Below.celz nb _ _ _ (by omega)]; exact cc1
    have d2 : wp2.cell? ⟨C, 0, none⟩ = some (.slice pa (seenN a1 ns0 es0).length pb) := by rw [Below.celz nb _ _ _ (by omega)]; exact cc2
    have d3 : wp2.cell? ⟨C, 1, none⟩ = some (.slice pc (seenE a1 ns0 es0).length pd) := by rw [Below.celz nb _ _ _ (by omega)]; exact cc3
    have d4 : wp2.cell? ⟨D, 0, none⟩ = some (.slice xa ns0.length xb) := by rw [Below.celz nb _ _ _ (by omega)]; exact cc4
    have d5 : wp2.cell? ⟨D, 1, none⟩ = some (.slice xc es0.length xd) := by rw [Below.celz nb _ _ _ (by omega)]; exact cc5
    have d6 : wp2.cell? ⟨E, 0, none⟩ = some (.slice ya (seenN a1 ns0 es0).length yb) := by rw [Below.celz nb _ _ _ (by omega)]; exact cc6
    have d7 : wp2.cell? ⟨E, 1, none⟩ = some (.slice yc (seenE a1 ns0 es0).length yd) := by rw [Below.celz nb _ _ _ (by omega)]; exact cc7
    have y0 : A < wp2.heap.size := by have := Below.size nb; omega
    have y1 : C < wp2.heap.size := by have := Below.size nb; omega
    have y2 : D < wp2.heap.size := by have := Below.size nb; omega
    have y3 : E < wp2.heap.size := by have := Below.size nb; omega
    clear cc0 cc1 cc2 cc3 cc4 cc5 cc6 cc7 zz0 zz1 zz2 zz3
    have cc0 := d0
    have cc1 := d1
    have cc2 := d2
    have cc3 := d3
    have cc4 := d4
    have cc5 := d5
    have cc6 := d6
    have cc7 := d7
    have zz0 := y0
    have zz1 := y1
    have zz2 := y2
    have zz3 := y3
    clear d0 d1 d2 d3 d4 d5 d6 d7 y0 y1 y2 y3
    have cc8 := n1
    have cc9 := n2
    have zz4 : F < wp2.heap.size := by omega
    rw [← hF]
    clear n1 n2 hW
    have Bp2 : Below A w wp2 := Bp.trans (nb.mono (by omega))
    have Lp2 : Below C wc wp2 := Lp.trans (nb.mono (by omega))
    have HGb : Hid (OwnGraph wp2 wd2.heap.size (.slice ya (seenN a1 ns0 es0).length yb) (.slice yc (seenE a1 ns0 es0).length yd) (marksNode 1 (seenN a1 ns0 es0).length) (marksEdge (1 + 2 * (seenN a1 ns0 es0).length) (seenE a1 ns0 es0).length)) := HGa.out.keep nb
    have ogh := HH.out.keep nb
    clear hF nb Bp Lp HGa HH
    refine (eqGraph_same _ _ _ _ (seenN a1 ns0 es0) (seenE a1 ns0 es0) _ ogh.nodes ogh.edges (HW.out _ Lp2).1 (HW.out _ Lp2).2 (by omega) (by omega)).mono ?_
    rintro e wq ⟨rfl, bq⟩
    clear ogh
    have Bq : Below A w wq := Bp2.trans (bq.mono (by omega))
    have d0 : wq.cell? ⟨A, 0, none⟩ = some (.slice ga ns0.length gb) := by rw [Below.celz bq _ _ _ (by omega)]; exact cc0
    have d1 : wq.cell? ⟨A, 1, none⟩ = some (.slice gc es0.length gd) := by rw [Below.celz bq _ _ _ (by omega)]; exact cc1
    have d2 : wq.cell? ⟨C, 0, none⟩ = some (.slice pa (seenN a1 ns0 es0).length pb) := by rw [Below.celz bq _ _ _ (by omega)]; exact cc2
    have d3 : wq.cell? ⟨C, 1, none⟩ = some (.slice pc (seenE a1 ns0 es0).length pd) := by rw [Below.celz bq _ _ _ (by omega)]; exact cc3
    have d4 : wq.cell? ⟨D, 0, none⟩ = some (.slice xa ns0.length xb) := by rw [Below.celz bq _ _ _ (by omega)]; exact cc4
    have d5 : wq.cell? ⟨D, 1, none⟩ = some (.slice xc es0.length xd) := by rw [Below.celz bq _ _ _ (by omega)]; exact cc5
    have d6 : wq.cell? ⟨E, 0, none⟩ = some (.slice ya (seenN a1 ns0 es0).length yb) := by rw [Below.celz bq _ _ _ (by omega)]; exact cc6
    have d7 : wq.cell? ⟨E, 1, none⟩ = some (.slice yc (seenE a1 ns0 es0).length yd) := by rw [Below.celz bq _ _ _ (by omega)]; exact cc7
    have d8 : wq.cell? ⟨F, 0, none⟩ = some (.slice ha (seenN a1 ns0 es0).length hb) := by rw [Below.celz bq _ _ _ (by omega)]; exact cc8
    have d9 : wq.cell? ⟨F, 1, none⟩ = some (.slice hc (seenE a1 ns0 es0).length hd) := by rw [Below.celz bq _ _ _ (by omega)]; exact cc9
    have y0 : A < wq.heap.size := by have := Below.size bq; omega
    have y1 : C < wq.heap.size := by have := Below.size bq; omega
    have y2 : D < wq.heap.size := by have := Below.size bq; omega
    have y3 : E < wq.heap.size := by have := Below.size bq; omega
    have y4 : F < wq.heap.size := by have := Below.size bq; omega
    clear cc0 cc1 cc2 cc3 cc4 cc5 cc6 cc7 cc8 cc9 zz0 zz1 zz2 zz3 zz4
    have cc0 := d0
    have cc1 := d1
    have cc2 := d2
    have cc3 := d3
    have cc4 := d4
    have cc5 := d5
    have cc6 := d6
    have cc7 := d7
    have cc8 := d8
    have cc9 := d9
    have zz0 := y0
    have zz1 := y1
    have zz2 := y2
    have zz3 := y3
    have zz4 := y4
    clear d0 d1 d2 d3 d4 d5 d6 d7 d8 d9 y0 y1 y2 y3 y4
    have HGc : Hid (OwnGraph wq wd2.heap.size (.slice ya (seenN a1 ns0 es0).length yb) (.slice yc (seenE a1 ns0 es0).length yd) (marksNode 1 (seenN a1 ns0 es0).length) (marksEdge (1 + 2 * (seenN a1 ns0 es0).length) (seenE a1 ns0 es0).length)) := HGb.out.keep bq
    clear bq Bp2 Lp2 HGb
    go_wp2_with fail
    refine (heldGraph _ _ (seenN a1 ns0 es0).length (seenE a1 ns0 es0).length _ _ (by omega) (by omega) (by omega) (by omega) HGc.out.nodes HGc.out.edges).mono ?_
    rintro e wr ⟨rfl, br⟩
    have Br : Below A w wr := Bq.trans (br.mono (by omega))
    clear br Bq HGc
    go_wp2_with fail
    go_ret
    exact ⟨rfl, by rw [← HA0.out]; exact Br⟩
  · rw [if_neg hA]
    go_wp2_with fail
    go_ret
    exact ⟨rfl, by rw [← HA0.out]; exact Ba⟩

theorem door_met (os : Os) (args : Array Value) : laidMetH Tryd.prog Rows.fnExactGraphViewRow.laid ((World.doorLaid Tryd.prog 85 os).forCall (fun _ _ => 0) ⟨#[], args, []⟩).memory :=
  laidMetH_of_parts3 (fuel := 8) (laidMet_of_run' 8 (by kernel_rfl) (by kernel_rfl)) (by kernel_rfl) (by kernel_rfl)

set_option maxRecDepth 100000 in
set_option maxHeartbeats 1000000 in
theorem lifted (os : Os) (started : os.Started) (H : Type) (enc : TypeId × Value → H) :
    ReturnsInHanded {} Tryd.checked os 3 .any (fun w args => (Rows.fnExactGraphViewSpec.pre enc Tryd.prog Tryd.f3 [] false w args ∧ laidMetH Tryd.prog Rows.fnExactGraphViewRow.laid w) ∧ sizedMet enc Tryd.prog Tryd.f3 (OpenSpec.ofChange Rows.fnExactGraphViewSpec) false w args)
      (Rows.fnExactGraphViewSpec.post enc Tryd.prog Tryd.f3 false true false false) := by
  refine returnsInHanded_of_change_and (C := Tryd.checked) (X := fun w _ => laidMetH Tryd.prog Rows.fnExactGraphViewRow.laid w) (fun _ _ _ hh h => h.of_heap hh) own started (by kernel_rfl) Tryd.func3
    (ChangeSpec.witness_shaped (enc := enc) (C := Tryd.checked) (os := os) (X := fun w _ => laidMetH Tryd.prog Rows.fnExactGraphViewRow.laid w) false (World.doorLaid Tryd.prog 85 os) #[.agg #[.slice none 0 0, .slice none 0 0], .int .i64 0] 8 rfl (World.shaped_of_RefB (by kernel_rfl) (by kernel_rfl)) (by kernel_rfl) (by kernel_rfl) (by kernel_rfl) (door_met os _)) ?_
  intro W base args ds gs before hval0 hW _ _ hL _
  have hval : ∀ (j : Nat) t v, Tryd.f3.params[j]? = some t → args[j]? = some v → Value.okWide Tryd.prog W .any base t v := hval0
  have hW' := hW
  obtain ⟨p, q, hA0, hV0, rfl, hfz, hnd⟩ := hW
  have hA : DataW.TrodAll enc Tryd.prog W 0 (fun _ => true) true Tryd.f3.params.toList args.toList ds p := hA0
  have hV : DataW.TrodVars enc Tryd.prog W (fun _ => true) ["loop.example/hagioscope/impl.errForm", "loop.example/hagioscope/impl.errThere", "loop.example/hagioscope/impl.errFull", "loop.example/hagioscope/impl.errNone"] gs q := hV0
  rw [Tryd.params3] at hA hval
  obtain ⟨v0, vs0, d0, ds0, p0, q0, hargs, rfl, rfl, h0, r0⟩ := trodAll_cons hA
  obtain ⟨v1, vs1, d1, ds1, p1, q1, rfl, rfl, rfl, h1, r1⟩ := trodAll_cons r0
  obtain ⟨rfl, rfl, rfl⟩ := trodAll_nil r1
  obtain rfl : args = #[v0, v1] := by cases args; simp_all
  have kr0 := h0
  have lt0 : ∀ x ∈ p0, x.block < W.heap.size := by obtain ⟨m, hm⟩ := kr0; exact DataW.trod_lt m _ _ _ hm
  have kr1 := h1
  have lt1 : ∀ x ∈ p1, x.block < W.heap.size := by obtain ⟨m, hm⟩ := kr1; exact DataW.trod_lt m _ _ _ hm
  obtain ⟨x0, y0, ns0, es0, rfl, w0⟩ := open_graph (hval 0 25 v0 rfl rfl) h0
  obtain ⟨a1, rfl, rfl, rfl, w1⟩ := open_int Tryd.underlying3 (hval 1 3 v1 rfl rfl) h1
  have hI := held_of hL
  have hE : Errs W := errs_of hI
  obtain ⟨g1, g2, g3, g4, rfl⟩ : ∃ g1 g2 g3 g4, gs = [g1, g2, g3, g4] := by
    have hlen := vars_len _ _ _ hV
    match gs, hlen with
    | [g1, g2, g3, g4], _ => exact ⟨g1, g2, g3, g4, rfl⟩
  clear hA0 hV0 hval0
  refine (walk x0 y0 ns0 es0 a1 W w0 w1 hE).mono fun e W' ⟨he, bel⟩ => ?_
  subst he
  exact ⟨_, rfl, _, _, _, [], _, _, hW', trodAll_mk1 (shut_bool Tryd.underlying4 _), (trodAll_cons_mk (Below.trod laidOut (by kernel_rfl) (of_decide_eq_true (by kernel_rfl)) kr0 bel lt0) (trodAll_cons_mk (Below.trod laidOut (by kernel_rfl) (of_decide_eq_true (by kernel_rfl)) kr1 bel lt1) trodAll_mk0)), vars_keep Tryd.underlying57 bel _ _ _ hV hI, bel.frame _, fun h => by cases h⟩

theorem said : Rows.FnExactGraphViewSaid :=
  OpenClaim.holds_of_wide 3 Tryd.f3 rfl rfl rfl rfl rfl rfl rfl ⟨rfl, rfl, rfl, rfl, rfl⟩ rfl rfl rfl rfl rfl (by kernel_rfl) Tryd.func3 (by kernel_rfl)
    (of_decide_eq_true (by kernel_rfl)) (by unfold Func.isWrapper; first | (rw [if_pos (by decide +kernel)]; kernel_rfl) | (rw [if_neg (by decide +kernel)]; exact ⟨rfl, rfl⟩))
    (fun os started H enc _ => lifted os started H enc)

theorem plain (f : FuncId) (fn : Func) (hf : Tryd.pinned.checked.prog.funcNamed "loop.example/hagioscope/laws.FnExactGraphView" = some f) (hfn : Tryd.pinned.checked.prog.funcs[f]? = some fn) :
    false = Tryd.pinned.checked.prog.looks [] ∧ ∀ (j : Nat) t, fn.params[j]? = some t → Tryd.pinned.checked.prog.wantsStandIn t = false := by
  obtain rfl : f = 3 := Option.some.inj ((show Tryd.prog.funcNamed "loop.example/hagioscope/laws.FnExactGraphView" = some 3 by kernel_rfl).symm.trans hf) |>.symm
  obtain rfl : fn = Tryd.f3 := (Option.some.inj (Tryd.func3.symm.trans hfn)).symm
  refine ⟨by kernel_rfl, fun j t ht => ?_⟩
  rw [Tryd.params3] at ht
  obtain rfl | rfl : t = 25 ∨ t = 3 := by simpa using Array.mem_of_getElem? ht
  · exact (show Tryd.prog.wantsStandIn 25 = false by kernel_rfl)
  · exact (show Tryd.prog.wantsStandIn 3 = false by kernel_rfl)

end Go.Proofs.YteiadahigdadaaaDoor.fnExactGraphView
namespace Go.Proofs.YteiadahigdadaaaDoor
theorem fnExactGraphView_card : Rows.FnExactGraphViewCardSaid :=
  Claim7.holds_tied_plain_at .later [] _ _ _ _ fnExactGraphView.said (fun _ h => by cases h) (by kernel_rfl) (fun _ h => by cases h) fnExactGraphView_row_tie rfl ⟨rfl, rfl⟩ (by kernel_rfl) rfl fnExactGraphView.plain (by kernel_rfl)
#print axioms fnExactGraphView_card
end Go.Proofs.YteiadahigdadaaaDoor
