/-
  WorldSame of the program answers as the model, at every argument; it writes into no argument.
-/
import Derived.Test.YtnhacflknkgfgaaRows
import Derived.Test.YtnhacflknkgfgaaWss
import Derived.Test.YtnhacflknkgfgaaWto
import Derived.Test.YtnhacflknkgfgaaOpw
import Derived.WalkKit
import Derived.ProofKit
import Derived.OpenShut
import Derived.ShutString
import Derived.ChangeOld
import Derived.Below
import Derived.Carry
import Derived.Handy
import Derived.Deep.RegionHeld3
namespace Go.Proofs.Ytnhacflknkgfgaa.fnExactWorldSame
open Go.Proofs.Ytnhacflknkgfgaa.Lab
open Go.ChangeShapes Go.WideShapes Go.ChangeAt Go.RowKit
open Go.ChangeMaps (open_string shut_string)
set_option linter.unusedVariables false

theorem own : ownKnob Try.prog.godebug = none := by kernel_rfl
theorem laidOut : laidOutB Try.prog = true := by kernel_rfl
/-- A row of numbers that came in: nil, or so many cells. -/
def IsRow (k : IntKind) (w : World) (a : Option Addr) (len cap : Nat) (zs : List Int) : Prop :=
  (a = none ∧ len = 0 ∧ cap = 0 ∧ zs = []) ∨ ∃ x, a = some x ∧ len ≤ cap ∧ cap ≤ maxLen ∧ zs.length = cap ∧ (∀ i, i < zs.length → w.cell? (x.add i) = some (.int k (zs.getD i 0))) ∧ ∀ n ∈ zs, (Lit.int k n).wf = true

set_option maxHeartbeats 4000000 in
theorem walk (v01 v02 v03 v04 v05 : Value) (x01 : List (Int × Int × Int)) (x02 : List (Int × Int)) (x03 : List (Int × Int × Int × Int × Int)) (x04 : List (Int × (Value × List (Int × Int)))) (x05 : List Int) (v11 v12 v13 v14 v15 : Value) (x11 : List (Int × Int × Int)) (x12 : List (Int × Int)) (x13 : List (Int × Int × Int × Int × Int)) (x14 : List (Int × (Value × List (Int × Int)))) (x15 : List Int) (w : World) (w0 : WorldIn w v01 v02 v03 v04 v05 x01 x02 x03 x04 x05) (w1 : WorldIn w v11 v12 v13 v14 v15 x11 x12 x13 x14 x15) :
    Calls Try.prog 5 #[.agg #[v01, v02, v03, v04, v05], .agg #[v11, v12, v13, v14, v15]] w fun e w' => e = .returned (.bool true) ∧ Below w.heap.size w w' := by
  obtain ⟨r0, m01, m02, m03, m04, m05, m06⟩ := w0
  simp only [maxLen, Nat.reducePow, Nat.reduceSub] at m01 m02 m03 m04 m05 m06
  obtain ⟨a01, c01, a02, c02, a03, c03, a04, c04, a05, c05, rfl, rfl, rfl, rfl, rfl⟩ := r0.form
  have HM0 : Hid (x01.length ≤ 9223372036854775807 ∧ x02.length ≤ 9223372036854775807 ∧ x03.length ≤ 9223372036854775807 ∧ x04.length ≤ 9223372036854775807 ∧ x05.length ≤ 9223372036854775807 ∧ ∀ x ∈ x04, x.2.2.length ≤ 9223372036854775807) := ⟨m01, m02, m03, m04, m05, m06⟩
  clear m01 m02 m03 m04 m05 m06
  generalize hh01 : x01.length = n01 at r0 ⊢
  clear hh01
  generalize hh02 : x02.length = n02 at r0 ⊢
  clear hh02
  generalize hh03 : x03.length = n03 at r0 ⊢
  clear hh03
  generalize hh04 : x04.length = n04 at r0 ⊢
  clear hh04
  generalize hh05 : x05.length = n05 at r0 ⊢
  clear hh05
  obtain ⟨r1, m11, m12, m13, m14, m15, m16⟩ := w1
  simp only [maxLen, Nat.reducePow, Nat.reduceSub] at m11 m12 m13 m14 m15 m16
  obtain ⟨a11, c11, a12, c12, a13, c13, a14, c14, a15, c15, rfl, rfl, rfl, rfl, rfl⟩ := r1.form
  have HM1 : Hid (x11.length ≤ 9223372036854775807 ∧ x12.length ≤ 9223372036854775807 ∧ x13.length ≤ 9223372036854775807 ∧ x14.length ≤ 9223372036854775807 ∧ x15.length ≤ 9223372036854775807 ∧ ∀ x ∈ x14, x.2.2.length ≤ 9223372036854775807) := ⟨m11, m12, m13, m14, m15, m16⟩
  clear m11 m12 m13 m14 m15 m16
  generalize hh11 : x11.length = n11 at r1 ⊢
  clear hh11
  generalize hh12 : x12.length = n12 at r1 ⊢
  clear hh12
  generalize hh13 : x13.length = n13 at r1 ⊢
  clear hh13
  generalize hh14 : x14.length = n14 at r1 ⊢
  clear hh14
  generalize hh15 : x15.length = n15 at r1 ⊢
  clear hh15
  obtain ⟨A, hA⟩ : ∃ t, t = w.heap.size := ⟨_, rfl⟩
  have HA : Hid (A = w.heap.size) := hA
  have BB : Below A w w := Below.refl _ _
  have sA : A ≤ w.heap.size := by omega
  clear hA
  have HX0 : Hid (AtWorld w (.slice a01 n01 c01) (.slice a02 n02 c02) (.slice a03 n03 c03) (.slice a04 n04 c04) (.slice a05 n05 c05) x01 x02 x03 x04 x05) := r0
  clear r0
  have HX1 : Hid (AtWorld w (.slice a11 n11 c11) (.slice a12 n12 c12) (.slice a13 n13 c13) (.slice a14 n14 c14) (.slice a15 n15 c15) x11 x12 x13 x14 x15) := r1
  clear r1
  go_enter Try.func5, Try.ntmps5
  go_wp2_with fail
  obtain ⟨B0, hB0⟩ : ∃ t, t = w.heap.size := ⟨_, rfl⟩
  generalize hW : w.alloc (.cells #[.slice a01 n01 c01, .slice a02 n02 c02, .slice a03 n03 c03, .slice a04 n04 c04, .slice a05 n05 c05] 52) = wa
  have nb : Below w.heap.size w wa := by rw [← hW]; exact (Below.refl _ _).alloc (Nat.le_refl _) _
  have k3 : wa.heap.size = B0 + 1 := by rw [← hW, hB0]; simp
  have kk0 : wa.cell? ⟨B0, 0, none⟩ = some (.slice a01 n01 c01) := by rw [← hW, hB0]; simp [go_sem]
  have kk1 : wa.cell? ⟨B0, 1, none⟩ = some (.slice a02 n02 c02) := by rw [← hW, hB0]; simp [go_sem]
  have kk2 : wa.cell? ⟨B0, 2, none⟩ = some (.slice a03 n03 c03) := by rw [← hW, hB0]; simp [go_sem]
  have kk3 : wa.cell? ⟨B0, 3, none⟩ = some (.slice a04 n04 c04) := by rw [← hW, hB0]; simp [go_sem]
  have kk4 : wa.cell? ⟨B0, 4, none⟩ = some (.slice a05 n05 c05) := by rw [← hW, hB0]; simp [go_sem]
  have oB0A : A ≤ B0 := by rw [hB0]; exact sA
  have BB1 : Below A w wa := BB.trans (nb.mono (by omega))
  have sA1 : A ≤ wa.heap.size := by have := Below.size nb; omega
  have q0 : Hid (AtWorld wa (.slice a01 n01 c01) (.slice a02 n02 c02) (.slice a03 n03 c03) (.slice a04 n04 c04) (.slice a05 n05 c05) x01 x02 x03 x04 x05) := HX0.out.keep nb
  have q1 : Hid (AtWorld wa (.slice a11 n11 c11) (.slice a12 n12 c12) (.slice a13 n13 c13) (.slice a14 n14 c14) (.slice a15 n15 c15) x11 x12 x13 x14 x15) := HX1.out.keep nb
  clear BB sA   HX0 HX1
  have HX0 := q0
  have HX1 := q1
  have BB := BB1
  have sA := sA1
  clear BB1 sA1   q0 q1
  have cc0 := kk0
  have cc1 := kk1
  have cc2 := kk2
  have cc3 := kk3
  have cc4 := kk4
  have zz0 : B0 < wa.heap.size := by omega
  rw [← hB0]
  have k3B0 := k3
  clear k3 hW nb hB0 kk0 kk1 kk2 kk3 kk4
  rw [k3B0.symm]
  obtain ⟨B1, hB1⟩ : ∃ t, t = wa.heap.size := ⟨_, rfl⟩
  generalize hW : wa.alloc (.cells #[.slice a11 n11 c11, .slice a12 n12 c12, .slice a13 n13 c13, .slice a14 n14 c14, .slice a15 n15 c15] 52) = wb
  have nb : Below wa.heap.size wa wb := by rw [← hW]; exact (Below.refl _ _).alloc (Nat.le_refl _) _
  have k3 : wb.heap.size = B1 + 1 := by rw [← hW, hB1]; simp
  have kk0 : wb.cell? ⟨B1, 0, none⟩ = some (.slice a11 n11 c11) := by rw [← hW, hB1]; simp [go_sem]
  have kk1 : wb.cell? ⟨B1, 1, none⟩ = some (.slice a12 n12 c12) := by rw [← hW, hB1]; simp [go_sem]
  have kk2 : wb.cell? ⟨B1, 2, none⟩ = some (.slice a13 n13 c13) := by rw [← hW, hB1]; simp [go_sem]
  have kk3 : wb.cell? ⟨B1, 3, none⟩ = some (.slice a14 n14 c14) := by rw [← hW, hB1]; simp [go_sem]
  have kk4 : wb.cell? ⟨B1, 4, none⟩ = some (.slice a15 n15 c15) := by rw [← hW, hB1]; simp [go_sem]
  have oB1A : A ≤ B1 := by rw [hB1]; exact sA
  have oB10 : B0 < B1 := by rw [hB1]; exact zz0
  have d0 : wb.cell? ⟨B0, 0, none⟩ = some (.slice a01 n01 c01) := (Below.celz nb _ _ _ (by omega)).trans cc0
  have d1 : wb.cell? ⟨B0, 1, none⟩ = some (.slice a02 n02 c02) := (Below.celz nb _ _ _ (by omega)).trans cc1
  have d2 : wb.cell? ⟨B0, 2, none⟩ = some (.slice a03 n03 c03) := (Below.celz nb _ _ _ (by omega)).trans cc2
  have d3 : wb.cell? ⟨B0, 3, none⟩ = some (.slice a04 n04 c04) := (Below.celz nb _ _ _ (by omega)).trans cc3
  have d4 : wb.cell? ⟨B0, 4, none⟩ = some (.slice a05 n05 c05) := (Below.celz nb _ _ _ (by omega)).trans cc4
  have y0 : B0 < wb.heap.size := by have := Below.size nb; omega
  have BB1 : Below A w wb := BB.trans (nb.mono (by omega))
  have sA1 : A ≤ wb.heap.size := by have := Below.size nb; omega
  have q0 : Hid (AtWorld wb (.slice a01 n01 c01) (.slice a02 n02 c02) (.slice a03 n03 c03) (.slice a04 n04 c04) (.slice a05 n05 c05) x01 x02 x03 x04 x05) := HX0.out.keep nb
  have q1 : Hid (AtWorld wb (.slice a11 n11 c11) (.slice a12 n12 c12) (.slice a13 n13 c13) (.slice a14 n14 c14) (.slice a15 n15 c15) x11 x12 x13 x14 x15) := HX1.out.keep nb
  clear BB sA cc0 cc1 cc2 cc3 cc4 zz0 HX0 HX1
  have cc0 := d0
  have cc1 := d1
  have cc2 := d2
  have cc3 := d3
  have cc4 := d4
  have zz0 := y0
  have HX0 := q0
  have HX1 := q1
  have BB := BB1
  have sA := sA1
  clear BB1 sA1 d0 d1 d2 d3 d4 y0 q0 q1
  have cc5 := kk0
  have cc6 := kk1
  have cc7 := kk2
  have cc8 := kk3
  have cc9 := kk4
  have zz1 : B1 < wb.heap.size := by omega
  rw [← hB1]
  have k3B1 := k3
  clear k3 hW nb hB1 kk0 kk1 kk2 kk3 kk4
  clear k3B0 k3B1
  refine (szWorld _ _ _ _ _ x01 x02 x03 x04 x05 1048576 _ HX0.out (by omega) (by omega) HM0.out.1 HM0.out.2.1 HM0.out.2.2.1 HM0.out.2.2.2.1 HM0.out.2.2.2.2.1 HM0.out.2.2.2.2.2).mono ?_
  rintro e wc0 ⟨⟨l0, rfl, p00, p01, p02⟩, bz⟩
  have d0 : wc0.cell? ⟨B0, 0, none⟩ = some (.slice a01 n01 c01) := (Below.celz bz _ _ _ (by omega)).trans cc0
  have d1 : wc0.cell? ⟨B0, 1, none⟩ = some (.slice a02 n02 c02) := (Below.celz bz _ _ _ (by omega)).trans cc1
  have d2 : wc0.cell? ⟨B0, 2, none⟩ = some (.slice a03 n03 c03) := (Below.celz bz _ _ _ (by omega)).trans cc2
  have d3 : wc0.cell? ⟨B0, 3, none⟩ = some (.slice a04 n04 c04) := (Below.celz bz _ _ _ (by omega)).trans cc3
  have d4 : wc0.cell? ⟨B0, 4, none⟩ = some (.slice a05 n05 c05) := (Below.celz bz _ _ _ (by omega)).trans cc4
  have d5 : wc0.cell? ⟨B1, 0, none⟩ = some (.slice a11 n11 c11) := (Below.celz bz _ _ _ (by omega)).trans cc5
  have d6 : wc0.cell? ⟨B1, 1, none⟩ = some (.slice a12 n12 c12) := (Below.celz bz _ _ _ (by omega)).trans cc6
  have d7 : wc0.cell? ⟨B1, 2, none⟩ = some (.slice a13 n13 c13) := (Below.celz bz _ _ _ (by omega)).trans cc7
  have d8 : wc0.cell? ⟨B1, 3, none⟩ = some (.slice a14 n14 c14) := (Below.celz bz _ _ _ (by omega)).trans cc8
  have d9 : wc0.cell? ⟨B1, 4, none⟩ = some (.slice a15 n15 c15) := (Below.celz bz _ _ _ (by omega)).trans cc9
  have y0 : B0 < wc0.heap.size := by have := Below.size bz; omega
  have y1 : B1 < wc0.heap.size := by have := Below.size bz; omega
  have BB1 : Below A w wc0 := BB.trans (bz.mono (by omega))
  have sA1 : A ≤ wc0.heap.size := by have := Below.size bz; omega
  have q0 : Hid (AtWorld wc0 (.slice a01 n01 c01) (.slice a02 n02 c02) (.slice a03 n03 c03) (.slice a04 n04 c04) (.slice a05 n05 c05) x01 x02 x03 x04 x05) := HX0.out.keep bz
  have q1 : Hid (AtWorld wc0 (.slice a11 n11 c11) (.slice a12 n12 c12) (.slice a13 n13 c13) (.slice a14 n14 c14) (.slice a15 n15 c15) x11 x12 x13 x14 x15) := HX1.out.keep bz
  clear BB sA cc0 cc1 cc2 cc3 cc4 cc5 cc6 cc7 cc8 cc9 zz0 zz1 HX0 HX1
  have cc0 := d0
  have cc1 := d1
  have cc2 := d2
  have cc3 := d3
  have cc4 := d4
  have cc5 := d5
  have cc6 := d6
  have cc7 := d7
  have cc8 := d8
  have cc9 := d9
  have zz0 := y0
  have zz1 := y1
  have HX0 := q0
  have HX1 := q1
  have BB := BB1
  have sA := sA1
  clear BB1 sA1 d0 d1 d2 d3 d4 d5 d6 d7 d8 d9 y0 y1 q0 q1
  clear bz
  by_cases q0 : l0 < 0
  · clear p02
    go_wp2_with fail
    go_ret
    exact ⟨rfl, (by have := BB; rw [HA.out] at this; exact this)⟩
  have F0 : Hid (FewWorld x01 x02 x03 x04 x05) := p02 (by omega)
  clear p02
  go_wp2_with fail
  refine (szWorld _ _ _ _ _ x11 x12 x13 x14 x15 l0 _ HX1.out (by omega) (by omega) HM1.out.1 HM1.out.2.1 HM1.out.2.2.1 HM1.out.2.2.2.1 HM1.out.2.2.2.2.1 HM1.out.2.2.2.2.2).mono ?_
  rintro e wc1 ⟨⟨l1, rfl, p10, p11, p12⟩, bz⟩
  have d0 : wc1.cell? ⟨B0, 0, none⟩ = some (.slice a01 n01 c01) := (Below.celz bz _ _ _ (by omega)).trans cc0
  have d1 : wc1.cell? ⟨B0, 1, none⟩ = some (.slice a02 n02 c02) := (Below.celz bz _ _ _ (by omega)).trans cc1
  have d2 : wc1.cell? ⟨B0, 2, none⟩ = some (.slice a03 n03 c03) := (Below.celz bz _ _ _ (by omega)).trans cc2
  have d3 : wc1.cell? ⟨B0, 3, none⟩ = some (.slice a04 n04 c04) := (Below.celz bz _ _ _ (by omega)).trans cc3
  have d4 : wc1.cell? ⟨B0, 4, none⟩ = some (.slice a05 n05 c05) := (Below.celz bz _ _ _ (by omega)).trans cc4
  have d5 : wc1.cell? ⟨B1, 0, none⟩ = some (.slice a11 n11 c11) := (Below.celz bz _ _ _ (by omega)).trans cc5
  have d6 : wc1.cell? ⟨B1, 1, none⟩ = some (.slice a12 n12 c12) := (Below.celz bz _ _ _ (by omega)).trans cc6
  have d7 : wc1.cell? ⟨B1, 2, none⟩ = some (.slice a13 n13 c13) := (Below.celz bz _ _ _ (by omega)).trans cc7
  have d8 : wc1.cell? ⟨B1, 3, none⟩ = some (.slice a14 n14 c14) := (Below.celz bz _ _ _ (by omega)).trans cc8
  have d9 : wc1.cell? ⟨B1, 4, none⟩ = some (.slice a15 n15 c15) := (Below.celz bz _ _ _ (by omega)).trans cc9
  have y0 : B0 < wc1.heap.size := by have := Below.size bz; omega
  have y1 : B1 < wc1.heap.size := by have := Below.size bz; omega
  have BB1 : Below A w wc1 := BB.trans (bz.mono (by omega))
  have sA1 : A ≤ wc1.heap.size := by have := Below.size bz; omega
  have q0 : Hid (AtWorld wc1 (.slice a01 n01 c01) (.slice a02 n02 c02) (.slice a03 n03 c03) (.slice a04 n04 c04) (.slice a05 n05 c05) x01 x02 x03 x04 x05) := HX0.out.keep bz
  have q1 : Hid (AtWorld wc1 (.slice a11 n11 c11) (.slice a12 n12 c12) (.slice a13 n13 c13) (.slice a14 n14 c14) (.slice a15 n15 c15) x11 x12 x13 x14 x15) := HX1.out.keep bz
  clear BB sA cc0 cc1 cc2 cc3 cc4 cc5 cc6 cc7 cc8 cc9 zz0 zz1 HX0 HX1
  have cc0 := d0
  have cc1 := d1
  have cc2 := d2
  have cc3 := d3
  have cc4 := d4
  have cc5 := d5
  have cc6 := d6
  have cc7 := d7
  have cc8 := d8
  have cc9 := d9
  have zz0 := y0
  have zz1 := y1
  have HX0 := q0
  have HX1 := q1
  have BB := BB1
  have sA := sA1
  clear BB1 sA1 d0 d1 d2 d3 d4 d5 d6 d7 d8 d9 y0 y1 q0 q1
  clear bz
  by_cases q1 : l1 < 0
  · clear p12
    go_wp2_with fail
    go_ret
    exact ⟨rfl, (by have := BB; rw [HA.out] at this; exact this)⟩
  have F1 : Hid (FewWorld x11 x12 x13 x14 x15) := p12 (by omega)
  clear p12
  go_wp2_with fail
  have HXA0 : Hid (∀ w', Below wc1.heap.size wc1 w' → AtWorld w' (.slice a01 n01 c01) (.slice a02 n02 c02) (.slice a03 n03 c03) (.slice a04 n04 c04) (.slice a05 n05 c05) x01 x02 x03 x04 x05) := fun w' h => HX0.out.keep h
  have HXA1 : Hid (∀ w', Below wc1.heap.size wc1 w' → AtWorld w' (.slice a11 n11 c11) (.slice a12 n12 c12) (.slice a13 n13 c13) (.slice a14 n14 c14) (.slice a15 n15 c15) x11 x12 x13 x14 x15) := fun w' h => HX1.out.keep h
  have hS : Hid (∀ w', Below wc1.heap.size wc1 w' → Below wc1.heap.size wc1 w' ∧ w'.cell? ⟨B0, 0, none⟩ = some (.slice a01 n01 c01) ∧ w'.cell? ⟨B0, 1, none⟩ = some (.slice a02 n02 c02) ∧ w'.cell? ⟨B0, 2, none⟩ = some (.slice a03 n03 c03) ∧ w'.cell? ⟨B0, 3, none⟩ = some (.slice a04 n04 c04) ∧ w'.cell? ⟨B0, 4, none⟩ = some (.slice a05 n05 c05) ∧ w'.cell? ⟨B1, 0, none⟩ = some (.slice a11 n11 c11) ∧ w'.cell? ⟨B1, 1, none⟩ = some (.slice a12 n12 c12) ∧ w'.cell? ⟨B1, 2, none⟩ = some (.slice a13 n13 c13) ∧ w'.cell? ⟨B1, 3, none⟩ = some (.slice a14 n14 c14) ∧ w'.cell? ⟨B1, 4, none⟩ = some (.slice a15 n15 c15)) := fun w' hn => ⟨hn, (Below.celz hn _ _ _ zz0).trans cc0, (Below.celz hn _ _ _ zz0).trans cc1, (Below.celz hn _ _ _ zz0).trans cc2, (Below.celz hn _ _ _ zz0).trans cc3, (Below.celz hn _ _ _ zz0).trans cc4, (Below.celz hn _ _ _ zz1).trans cc5, (Below.celz hn _ _ _ zz1).trans cc6, (Below.celz hn _ _ _ zz1).trans cc7, (Below.celz hn _ _ _ zz1).trans cc8, (Below.celz hn _ _ _ zz1).trans cc9⟩
  go_region_held3 (fun w' => Below wc1.heap.size wc1 w' ∧ w'.cell? ⟨B0, 0, none⟩ = some (.slice a01 n01 c01) ∧ w'.cell? ⟨B0, 1, none⟩ = some (.slice a02 n02 c02) ∧ w'.cell? ⟨B0, 2, none⟩ = some (.slice a03 n03 c03) ∧ w'.cell? ⟨B0, 3, none⟩ = some (.slice a04 n04 c04) ∧ w'.cell? ⟨B0, 4, none⟩ = some (.slice a05 n05 c05) ∧ w'.cell? ⟨B1, 0, none⟩ = some (.slice a11 n11 c11) ∧ w'.cell? ⟨B1, 1, none⟩ = some (.slice a12 n12 c12) ∧ w'.cell? ⟨B1, 2, none⟩ = some (.slice a13 n13 c13) ∧ w'.cell? ⟨B1, 3, none⟩ = some (.slice a14 n14 c14) ∧ w'.cell? ⟨B1, 4, none⟩ = some (.slice a15 n15 c15))
    (first | with_reducible exact hS.out _ (Below.refl _ _).drew | (with_reducible exact hS.out _ (keep_below (And.left (by assumption)) b3)) | (with_reducible exact hS.out _ (keep_below (And.left (by assumption)) b2)) | (with_reducible exact hS.out _ (keep_below (And.left (by assumption)) b1)))
    (first | (go_at_call_of 21 (Value.agg #[.slice a01 n01 c01, .slice a02 n02 c02, .slice a03 n03 c03, .slice a04 n04 c04, .slice a05 n05 c05]); refine (toWorld _ _ _ _ _ x01 x02 x03 x04 x05 _ (HXA0.out _ (And.left (by assumption))) F0.out).mono ?_; rintro e wx ⟨g1, g2, g3, g4, g5, ya, rfl, eya, oa, b1⟩) | (go_at_call_of 21 (Value.agg #[.slice a11 n11 c11, .slice a12 n12 c12, .slice a13 n13 c13, .slice a14 n14 c14, .slice a15 n15 c15]); refine (toWorld _ _ _ _ _ x11 x12 x13 x14 x15 _ (HXA1.out _ (And.left (by assumption))) F1.out).mono ?_; rintro e wy ⟨g1, g2, g3, g4, g5, yb, rfl, eyb, ob, b2⟩) | (go_at_call 20; refine (spec_WorldSame _ _ _ _ _ _ _ _ _ _ x01 x02 x03 ya x05 x11 x12 x13 yb x15 _ (oa.keep b2) ob ⟨F0.out.1, F0.out.2.1, F0.out.2.2.1, F0.out.2.2.2.1.same eya, F0.out.2.2.2.2⟩ ⟨F1.out.1, F1.out.2.1, F1.out.2.2.1, F1.out.2.2.2.1.same eyb, F1.out.2.2.2.2⟩).mono ?_; rintro e we1 ⟨rfl, b3⟩))
  have lb : Below wc1.heap.size wc1 we1 := And.left (show Below wc1.heap.size wc1 we1 ∧ we1.cell? ⟨B0, 0, none⟩ = some (.slice a01 n01 c01) ∧ we1.cell? ⟨B0, 1, none⟩ = some (.slice a02 n02 c02) ∧ we1.cell? ⟨B0, 2, none⟩ = some (.slice a03 n03 c03) ∧ we1.cell? ⟨B0, 3, none⟩ = some (.slice a04 n04 c04) ∧ we1.cell? ⟨B0, 4, none⟩ = some (.slice a05 n05 c05) ∧ we1.cell? ⟨B1, 0, none⟩ = some (.slice a11 n11 c11) ∧ we1.cell? ⟨B1, 1, none⟩ = some (.slice a12 n12 c12) ∧ we1.cell? ⟨B1, 2, none⟩ = some (.slice a13 n13 c13) ∧ we1.cell? ⟨B1, 3, none⟩ = some (.slice a14 n14 c14) ∧ we1.cell? ⟨B1, 4, none⟩ = some (.slice a15 n15 c15) by assumption)
  clear hS
  have d0 : we1.cell? ⟨B0, 0, none⟩ = some (.slice a01 n01 c01) := (Below.celz lb _ _ _ (by omega)).trans cc0
  have d1 : we1.cell? ⟨B0, 1, none⟩ = some (.slice a02 n02 c02) := (Below.celz lb _ _ _ (by omega)).trans cc1
  have d2 : we1.cell? ⟨B0, 2, none⟩ = some (.slice a03 n03 c03) := (Below.celz lb _ _ _ (by omega)).trans cc2
  have d3 : we1.cell? ⟨B0, 3, none⟩ = some (.slice a04 n04 c04) := (Below.celz lb _ _ _ (by omega)).trans cc3
  have d4 : we1.cell? ⟨B0, 4, none⟩ = some (.slice a05 n05 c05) := (Below.celz lb _ _ _ (by omega)).trans cc4
  have d5 : we1.cell? ⟨B1, 0, none⟩ = some (.slice a11 n11 c11) := (Below.celz lb _ _ _ (by omega)).trans cc5
  have d6 : we1.cell? ⟨B1, 1, none⟩ = some (.slice a12 n12 c12) := (Below.celz lb _ _ _ (by omega)).trans cc6
  have d7 : we1.cell? ⟨B1, 2, none⟩ = some (.slice a13 n13 c13) := (Below.celz lb _ _ _ (by omega)).trans cc7
  have d8 : we1.cell? ⟨B1, 3, none⟩ = some (.slice a14 n14 c14) := (Below.celz lb _ _ _ (by omega)).trans cc8
  have d9 : we1.cell? ⟨B1, 4, none⟩ = some (.slice a15 n15 c15) := (Below.celz lb _ _ _ (by omega)).trans cc9
  have y0 : B0 < we1.heap.size := by have := Below.size lb; omega
  have y1 : B1 < we1.heap.size := by have := Below.size lb; omega
  have BB1 : Below A w we1 := BB.trans (lb.mono (by omega))
  have sA1 : A ≤ we1.heap.size := by have := Below.size lb; omega
  have q0 : Hid (AtWorld we1 (.slice a01 n01 c01) (.slice a02 n02 c02) (.slice a03 n03 c03) (.slice a04 n04 c04) (.slice a05 n05 c05) x01 x02 x03 x04 x05) := HX0.out.keep lb
  have q1 : Hid (AtWorld we1 (.slice a11 n11 c11) (.slice a12 n12 c12) (.slice a13 n13 c13) (.slice a14 n14 c14) (.slice a15 n15 c15) x11 x12 x13 x14 x15) := HX1.out.keep lb
  clear BB sA cc0 cc1 cc2 cc3 cc4 cc5 cc6 cc7 cc8 cc9 zz0 zz1 HX0 HX1
  have cc0 := d0
  have cc1 := d1
  have cc2 := d2
  have cc3 := d3
  have cc4 := d4
  have cc5 := d5
  have cc6 := d6
  have cc7 := d7
  have cc8 := d8
  have cc9 := d9
  have zz0 := y0
  have zz1 := y1
  have HX0 := q0
  have HX1 := q1
  have BB := BB1
  have sA := sA1
  clear BB1 sA1 d0 d1 d2 d3 d4 d5 d6 d7 d8 d9 y0 y1 q0 q1
  clear lb
  rw [show sameW x01 x02 x03 ya x05 x11 x12 x13 yb x15 = sameW x01 x02 x03 x04 x05 x11 x12 x13 x14 x15 by unfold sameW; rw [eya, eyb]]
  clear eya eyb oa ob b1 b2 b3 HXA0 HXA1
  generalize hbb : sameW x01 x02 x03 x04 x05 x11 x12 x13 x14 x15 = bb
  have HBB : Hid (sameW x01 x02 x03 x04 x05 x11 x12 x13 x14 x15 = bb) := hbb
  clear hbb
  have hne : (bb != bb) = false := by simp
  go_wp2_with fail
  refine (toWorld _ _ _ _ _ x01 x02 x03 x04 x05 _ HX0.out F0.out).mono ?_
  rintro e we2 ⟨g11, g12, g13, g14, g15, y14, rfl, ey, ou, bz⟩
  have d0 : we2.cell? ⟨B0, 0, none⟩ = some (.slice a01 n01 c01) := (Below.celz bz _ _ _ (by omega)).trans cc0
  have d1 : we2.cell? ⟨B0, 1, none⟩ = some (.slice a02 n02 c02) := (Below.celz bz _ _ _ (by omega)).trans cc1
  have d2 : we2.cell? ⟨B0, 2, none⟩ = some (.slice a03 n03 c03) := (Below.celz bz _ _ _ (by omega)).trans cc2
  have d3 : we2.cell? ⟨B0, 3, none⟩ = some (.slice a04 n04 c04) := (Below.celz bz _ _ _ (by omega)).trans cc3
  have d4 : we2.cell? ⟨B0, 4, none⟩ = some (.slice a05 n05 c05) := (Below.celz bz _ _ _ (by omega)).trans cc4
  have d5 : we2.cell? ⟨B1, 0, none⟩ = some (.slice a11 n11 c11) := (Below.celz bz _ _ _ (by omega)).trans cc5
  have d6 : we2.cell? ⟨B1, 1, none⟩ = some (.slice a12 n12 c12) := (Below.celz bz _ _ _ (by omega)).trans cc6
  have d7 : we2.cell? ⟨B1, 2, none⟩ = some (.slice a13 n13 c13) := (Below.celz bz _ _ _ (by omega)).trans cc7
  have d8 : we2.cell? ⟨B1, 3, none⟩ = some (.slice a14 n14 c14) := (Below.celz bz _ _ _ (by omega)).trans cc8
  have d9 : we2.cell? ⟨B1, 4, none⟩ = some (.slice a15 n15 c15) := (Below.celz bz _ _ _ (by omega)).trans cc9
  have y0 : B0 < we2.heap.size := by have := Below.size bz; omega
  have y1 : B1 < we2.heap.size := by have := Below.size bz; omega
  have BB1 : Below A w we2 := BB.trans (bz.mono (by omega))
  have sA1 : A ≤ we2.heap.size := by have := Below.size bz; omega
  have q0 : Hid (AtWorld we2 (.slice a01 n01 c01) (.slice a02 n02 c02) (.slice a03 n03 c03) (.slice a04 n04 c04) (.slice a05 n05 c05) x01 x02 x03 x04 x05) := HX0.out.keep bz
  have q1 : Hid (AtWorld we2 (.slice a11 n11 c11) (.slice a12 n12 c12) (.slice a13 n13 c13) (.slice a14 n14 c14) (.slice a15 n15 c15) x11 x12 x13 x14 x15) := HX1.out.keep bz
  clear BB sA cc0 cc1 cc2 cc3 cc4 cc5 cc6 cc7 cc8 cc9 zz0 zz1 HX0 HX1
  have cc0 := d0
  have cc1 := d1
  have cc2 := d2
  have cc3 := d3
  have cc4 := d4
  have cc5 := d5
  have cc6 := d6
  have cc7 := d7
  have cc8 := d8
  have cc9 := d9
  have zz0 := y0
  have zz1 := y1
  have HX0 := q0
  have HX1 := q1
  have BB := BB1
  have sA := sA1
  clear BB1 sA1 d0 d1 d2 d3 d4 d5 d6 d7 d8 d9 y0 y1 q0 q1
  clear bz
  have fy : FewPool y14 := F0.out.2.2.2.1.same ey
  obtain ⟨a21, c21, a22, c22, a23, c23, a24, c24, a25, c25, rfl, rfl, rfl, rfl, rfl⟩ := ou.form
  have E1 : Hid (y14.map plPool = x04.map plPool ∧ FewWorld x01 x02 x03 y14 x05) := ⟨ey, F0.out.1, F0.out.2.1, F0.out.2.2.1, fy, F0.out.2.2.2.2⟩
  clear ey fy
  generalize hg : x01.length = o11 at ou ⊢
  clear hg
  generalize hg : x02.length = o12 at ou ⊢
  clear hg
  generalize hg : x03.length = o13 at ou ⊢
  clear hg
  generalize hg : y14.length = o14 at ou ⊢
  clear hg
  generalize hg : x05.length = o15 at ou ⊢
  clear hg
  have HT1 : Hid (AtWorld we2 (.slice a21 o11 c21) (.slice a22 o12 c22) (.slice a23 o13 c23) (.slice a24 o14 c24) (.slice a25 o15 c25) x01 x02 x03 y14 x05) := ou
  clear ou
  go_wp2_with fail
  obtain ⟨C0, hC0⟩ : ∃ t, t = we2.heap.size := ⟨_, rfl⟩
  generalize hW : we2.alloc (.cells #[.slice a21 o11 c21, .slice a22 o12 c22, .slice a23 o13 c23, .slice a24 o14 c24, .slice a25 o15 c25] 38) = we3
  have nb : Below we2.heap.size we2 we3 := by rw [← hW]; exact (Below.refl _ _).alloc (Nat.le_refl _) _
  have k3 : we3.heap.size = C0 + 1 := by rw [← hW, hC0]; simp
  have kk0 : we3.cell? ⟨C0, 0, none⟩ = some (.slice a21 o11 c21) := by rw [← hW, hC0]; simp [go_sem]
  have kk1 : we3.cell? ⟨C0, 1, none⟩ = some (.slice a22 o12 c22) := by rw [← hW, hC0]; simp [go_sem]
  have kk2 : we3.cell? ⟨C0, 2, none⟩ = some (.slice a23 o13 c23) := by rw [← hW, hC0]; simp [go_sem]
  have kk3 : we3.cell? ⟨C0, 3, none⟩ = some (.slice a24 o14 c24) := by rw [← hW, hC0]; simp [go_sem]
  have kk4 : we3.cell? ⟨C0, 4, none⟩ = some (.slice a25 o15 c25) := by rw [← hW, hC0]; simp [go_sem]
  have oC0A : A ≤ C0 := by rw [hC0]; exact sA
  have oC00 : B0 < C0 := by rw [hC0]; exact zz0
  have oC01 : B1 < C0 := by rw [hC0]; exact zz1
  have d0 : we3.cell? ⟨B0, 0, none⟩ = some (.slice a01 n01 c01) := (Below.celz nb _ _ _ (by omega)).trans cc0
  have d1 : we3.cell? ⟨B0, 1, none⟩ = some (.slice a02 n02 c02) := (Below.celz nb _ _ _ (by omega)).trans cc1
  have d2 : we3.cell? ⟨B0, 2, none⟩ = some (.slice a03 n03 c03) := (Below.celz nb _ _ _ (by omega)).trans cc2
  have d3 : we3.cell? ⟨B0, 3, none⟩ = some (.slice a04 n04 c04) := (Below.celz nb _ _ _ (by omega)).trans cc3
  have d4 : we3.cell? ⟨B0, 4, none⟩ = some (.slice a05 n05 c05) := (Below.celz nb _ _ _ (by omega)).trans cc4
  have d5 : we3.cell? ⟨B1, 0, none⟩ = some (.slice a11 n11 c11) := (Below.celz nb _ _ _ (by omega)).trans cc5
  have d6 : we3.cell? ⟨B1, 1, none⟩ = some (.slice a12 n12 c12) := (Below.celz nb _ _ _ (by omega)).trans cc6
  have d7 : we3.cell? ⟨B1, 2, none⟩ = some (.slice a13 n13 c13) := (Below.celz nb _ _ _ (by omega)).trans cc7
  have d8 : we3.cell? ⟨B1, 3, none⟩ = some (.slice a14 n14 c14) := (Below.celz nb _ _ _ (by omega)).trans cc8
  have d9 : we3.cell? ⟨B1, 4, none⟩ = some (.slice a15 n15 c15) := (Below.celz nb _ _ _ (by omega)).trans cc9
  have y0 : B0 < we3.heap.size := by have := Below.size nb; omega
  have y1 : B1 < we3.heap.size := by have := Below.size nb; omega
  have BB1 : Below A w we3 := BB.trans (nb.mono (by omega))
  have sA1 : A ≤ we3.heap.size := by have := Below.size nb; omega
  have q0 : Hid (AtWorld we3 (.slice a01 n01 c01) (.slice a02 n02 c02) (.slice a03 n03 c03) (.slice a04 n04 c04) (.slice a05 n05 c05) x01 x02 x03 x04 x05) := HX0.out.keep nb
  have q1 : Hid (AtWorld we3 (.slice a11 n11 c11) (.slice a12 n12 c12) (.slice a13 n13 c13) (.slice a14 n14 c14) (.slice a15 n15 c15) x11 x12 x13 x14 x15) := HX1.out.keep nb
  have q2 : Hid (AtWorld we3 (.slice a21 o11 c21) (.slice a22 o12 c22) (.slice a23 o13 c23) (.slice a24 o14 c24) (.slice a25 o15 c25) x01 x02 x03 y14 x05) := HT1.out.keep nb
  clear BB sA cc0 cc1 cc2 cc3 cc4 cc5 cc6 cc7 cc8 cc9 zz0 zz1 HX0 HX1 HT1
  have cc0 := d0
  have cc1 := d1
  have cc2 := d2
  have cc3 := d3
  have cc4 := d4
  have cc5 := d5
  have cc6 := d6
  have cc7 := d7
  have cc8 := d8
  have cc9 := d9
  have zz0 := y0
  have zz1 := y1
  have HX0 := q0
  have HX1 := q1
  have HT1 := q2
  have BB := BB1
  have sA := sA1
  clear BB1 sA1 d0 d1 d2 d3 d4 d5 d6 d7 d8 d9 y0 y1 q0 q1 q2
  have cc10 := kk0
  have cc11 := kk1
  have cc12 := kk2
  have cc13 := kk3
  have cc14 := kk4
  have zz2 : C0 < we3.heap.size := by omega
  rw [← hC0]
  have k3C0 := k3
  clear k3 hW nb hC0 kk0 kk1 kk2 kk3 kk4
  refine (toWorld _ _ _ _ _ x11 x12 x13 x14 x15 _ HX1.out F1.out).mono ?_
  rintro e we4 ⟨g21, g22, g23, g24, g25, y24, rfl, ey, ou, bz⟩
  have d0 : we4.cell? ⟨B0, 0, none⟩ = some (.slice a01 n01 c01) := (Below.celz bz _ _ _ (by omega)).trans cc0
  have d1 : we4.cell? ⟨B0, 1, none⟩ = some (.slice a02 n02 c02) := (Below.celz bz _ _ _ (by omega)).trans cc1
  have d2 : we4.cell? ⟨B0, 2, none⟩ = some (.slice a03 n03 c03) := (Below.celz bz _ _ _ (by omega)).trans cc2
  have d3 : we4.cell? ⟨B0, 3, none⟩ = some (.slice a04 n04 c04) := (Below.celz bz _ _ _ (by omega)).trans cc3
  have d4 : we4.cell? ⟨B0, 4, none⟩ = some (.slice a05 n05 c05) := (Below.celz bz _ _ _ (by omega)).trans cc4
  have d5 : we4.cell? ⟨B1, 0, none⟩ = some (.slice a11 n11 c11) := (Below.celz bz _ _ _ (by omega)).trans cc5
  have d6 : we4.cell? ⟨B1, 1, none⟩ = some (.slice a12 n12 c12) := (Below.celz bz _ _ _ (by omega)).trans cc6
  have d7 : we4.cell? ⟨B1, 2, none⟩ = some (.slice a13 n13 c13) := (Below.celz bz _ _ _ (by omega)).trans cc7
  have d8 : we4.cell? ⟨B1, 3, none⟩ = some (.slice a14 n14 c14) := (Below.celz bz _ _ _ (by omega)).trans cc8
  have d9 : we4.cell? ⟨B1, 4, none⟩ = some (.slice a15 n15 c15) := (Below.celz bz _ _ _ (by omega)).trans cc9
  have d10 : we4.cell? ⟨C0, 0, none⟩ = some (.slice a21 o11 c21) := (Below.celz bz _ _ _ (by omega)).trans cc10
  have d11 : we4.cell? ⟨C0, 1, none⟩ = some (.slice a22 o12 c22) := (Below.celz bz _ _ _ (by omega)).trans cc11
  have d12 : we4.cell? ⟨C0, 2, none⟩ = some (.slice a23 o13 c23) := (Below.celz bz _ _ _ (by omega)).trans cc12
  have d13 : we4.cell? ⟨C0, 3, none⟩ = some (.slice a24 o14 c24) := (Below.celz bz _ _ _ (by omega)).trans cc13
  have d14 : we4.cell? ⟨C0, 4, none⟩ = some (.slice a25 o15 c25) := (Below.celz bz _ _ _ (by omega)).trans cc14
  have y0 : B0 < we4.heap.size := by have := Below.size bz; omega
  have y1 : B1 < we4.heap.size := by have := Below.size bz; omega
  have y2 : C0 < we4.heap.size := by have := Below.size bz; omega
  have BB1 : Below A w we4 := BB.trans (bz.mono (by omega))
  have sA1 : A ≤ we4.heap.size := by have := Below.size bz; omega
  have q0 : Hid (AtWorld we4 (.slice a01 n01 c01) (.slice a02 n02 c02) (.slice a03 n03 c03) (.slice a04 n04 c04) (.slice a05 n05 c05) x01 x02 x03 x04 x05) := HX0.out.keep bz
  have q1 : Hid (AtWorld we4 (.slice a11 n11 c11) (.slice a12 n12 c12) (.slice a13 n13 c13) (.slice a14 n14 c14) (.slice a15 n15 c15) x11 x12 x13 x14 x15) := HX1.out.keep bz
  have q2 : Hid (AtWorld we4 (.slice a21 o11 c21) (.slice a22 o12 c22) (.slice a23 o13 c23) (.slice a24 o14 c24) (.slice a25 o15 c25) x01 x02 x03 y14 x05) := HT1.out.keep bz
  clear BB sA cc0 cc1 cc2 cc3 cc4 cc5 cc6 cc7 cc8 cc9 cc10 cc11 cc12 cc13 cc14 zz0 zz1 zz2 HX0 HX1 HT1
  have cc0 := d0
  have cc1 := d1
  have cc2 := d2
  have cc3 := d3
  have cc4 := d4
  have cc5 := d5
  have cc6 := d6
  have cc7 := d7
  have cc8 := d8
  have cc9 := d9
  have cc10 := d10
  have cc11 := d11
  have cc12 := d12
  have cc13 := d13
  have cc14 := d14
  have zz0 := y0
  have zz1 := y1
  have zz2 := y2
  have HX0 := q0
  have HX1 := q1
  have HT1 := q2
  have BB := BB1
  have sA := sA1
  clear BB1 sA1 d0 d1 d2 d3 d4 d5 d6 d7 d8 d9 d10 d11 d12 d13 d14 y0 y1 y2 q0 q1 q2
  clear bz
  have fy : FewPool y24 := F1.out.2.2.2.1.same ey
  obtain ⟨a31, c31, a32, c32, a33, c33, a34, c34, a35, c35, rfl, rfl, rfl, rfl, rfl⟩ := ou.form
  have E2 : Hid (y24.map plPool = x14.map plPool ∧ FewWorld x11 x12 x13 y24 x15) := ⟨ey, F1.out.1, F1.out.2.1, F1.out.2.2.1, fy, F1.out.2.2.2.2⟩
  clear ey fy
  generalize hg : x11.length = o21 at ou ⊢
  clear hg
  generalize hg : x12.length = o22 at ou ⊢
  clear hg
  generalize hg : x13.length = o23 at ou ⊢
  clear hg
  generalize hg : y24.length = o24 at ou ⊢
  clear hg
  generalize hg : x15.length = o25 at ou ⊢
  clear hg
  have HT2 : Hid (AtWorld we4 (.slice a31 o21 c31) (.slice a32 o22 c32) (.slice a33 o23 c33) (.slice a34 o24 c34) (.slice a35 o25 c35) x11 x12 x13 y24 x15) := ou
  clear ou
  go_wp2_with fail
  obtain ⟨C1, hC1⟩ : ∃ t, t = we4.heap.size := ⟨_, rfl⟩
  generalize hW : we4.alloc (.cells #[.slice a31 o21 c31, .slice a32 o22 c32, .slice a33 o23 c33, .slice a34 o24 c34, .slice a35 o25 c35] 38) = we5
  have nb : Below we4.heap.size we4 we5 := by rw [← hW]; exact (Below.refl _ _).alloc (Nat.le_refl _) _
  have k3 : we5.heap.size = C1 + 1 := by rw [← hW, hC1]; simp
  have kk0 : we5.cell? ⟨C1, 0, none⟩ = some (.slice a31 o21 c31) := by rw [← hW, hC1]; simp [go_sem]
  have kk1 : we5.cell? ⟨C1, 1, none⟩ = some (.slice a32 o22 c32) := by rw [← hW, hC1]; simp [go_sem]
  have kk2 : we5.cell? ⟨C1, 2, none⟩ = some (.slice a33 o23 c33) := by rw [← hW, hC1]; simp [go_sem]
  have kk3 : we5.cell? ⟨C1, 3, none⟩ = some (.slice a34 o24 c34) := by rw [← hW, hC1]; simp [go_sem]
  have kk4 : we5.cell? ⟨C1, 4, none⟩ = some (.slice a35 o25 c35) := by rw [← hW, hC1]; simp [go_sem]
  have oC1A : A ≤ C1 := by rw [hC1]; exact sA
  have oC10 : B0 < C1 := by rw [hC1]; exact zz0
  have oC11 : B1 < C1 := by rw [hC1]; exact zz1
  have oC12 : C0 < C1 := by rw [hC1]; exact zz2
  have d0 : we5.cell? ⟨B0, 0, none⟩ = some (.slice a01 n01 c01) := (Below.celz nb _ _ _ (by omega)).trans cc0
  have d1 : we5.cell? ⟨B0, 1, none⟩ = some (.slice a02 n02 c02) := (Below.celz nb _ _ _ (by omega)).trans cc1
  have d2 : we5.cell? ⟨B0, 2, none⟩ = some (.slice a03 n03 c03) := (Below.celz nb _ _ _ (by omega)).trans cc2
  have d3 : we5.cell? ⟨B0, 3, none⟩ = some (.slice a04 n04 c04) := (Below.celz nb _ _ _ (by omega)).trans cc3
  have d4 : we5.cell? ⟨B0, 4, none⟩ = some (.slice a05 n05 c05) := (Below.celz nb _ _ _ (by omega)).trans cc4
  have d5 : we5.cell? ⟨B1, 0, none⟩ = some (.slice a11 n11 c11) := (Below.celz nb _ _ _ (by omega)).trans cc5
  have d6 : we5.cell? ⟨B1, 1, none⟩ = some (.slice a12 n12 c12) := (Below.celz nb _ _ _ (by omega)).trans cc6
  have d7 : we5.cell? ⟨B1, 2, none⟩ = some (.slice a13 n13 c13) := (Below.celz nb _ _ _ (by omega)).trans cc7
  have d8 : we5.cell? ⟨B1, 3, none⟩ = some (.slice a14 n14 c14) := (Below.celz nb _ _ _ (by omega)).trans cc8
  have d9 : we5.cell? ⟨B1, 4, none⟩ = some (.slice a15 n15 c15) := (Below.celz nb _ _ _ (by omega)).trans cc9
  have d10 : we5.cell? ⟨C0, 0, none⟩ = some (.slice a21 o11 c21) := (Below.celz nb _ _ _ (by omega)).trans cc10
  have d11 : we5.cell? ⟨C0, 1, none⟩ = some (.slice a22 o12 c22) := (Below.celz nb _ _ _ (by omega)).trans cc11
  have d12 : we5.cell? ⟨C0, 2, none⟩ = some (.slice a23 o13 c23) := (Below.celz nb _ _ _ (by omega)).trans cc12
  have d13 : we5.cell? ⟨C0, 3, none⟩ = some (.slice a24 o14 c24) := (Below.celz nb _ _ _ (by omega)).trans cc13
  have d14 : we5.cell? ⟨C0, 4, none⟩ = some (.slice a25 o15 c25) := (Below.celz nb _ _ _ (by omega)).trans cc14
  have y0 : B0 < we5.heap.size := by have := Below.size nb; omega
  have y1 : B1 < we5.heap.size := by have := Below.size nb; omega
  have y2 : C0 < we5.heap.size := by have := Below.size nb; omega
  have BB1 : Below A w we5 := BB.trans (nb.mono (by omega))
  have sA1 : A ≤ we5.heap.size := by have := Below.size nb; omega
  have q0 : Hid (AtWorld we5 (.slice a01 n01 c01) (.slice a02 n02 c02) (.slice a03 n03 c03) (.slice a04 n04 c04) (.slice a05 n05 c05) x01 x02 x03 x04 x05) := HX0.out.keep nb
  have q1 : Hid (AtWorld we5 (.slice a11 n11 c11) (.slice a12 n12 c12) (.slice a13 n13 c13) (.slice a14 n14 c14) (.slice a15 n15 c15) x11 x12 x13 x14 x15) := HX1.out.keep nb
  have q2 : Hid (AtWorld we5 (.slice a21 o11 c21) (.slice a22 o12 c22) (.slice a23 o13 c23) (.slice a24 o14 c24) (.slice a25 o15 c25) x01 x02 x03 y14 x05) := HT1.out.keep nb
  have q3 : Hid (AtWorld we5 (.slice a31 o21 c31) (.slice a32 o22 c32) (.slice a33 o23 c33) (.slice a34 o24 c34) (.slice a35 o25 c35) x11 x12 x13 y24 x15) := HT2.out.keep nb
  clear BB sA cc0 cc1 cc2 cc3 cc4 cc5 cc6 cc7 cc8 cc9 cc10 cc11 cc12 cc13 cc14 zz0 zz1 zz2 HX0 HX1 HT1 HT2
  have cc0 := d0
  have cc1 := d1
  have cc2 := d2
  have cc3 := d3
  have cc4 := d4
  have cc5 := d5
  have cc6 := d6
  have cc7 := d7
  have cc8 := d8
  have cc9 := d9
  have cc10 := d10
  have cc11 := d11
  have cc12 := d12
  have cc13 := d13
  have cc14 := d14
  have zz0 := y0
  have zz1 := y1
  have zz2 := y2
  have HX0 := q0
  have HX1 := q1
  have HT1 := q2
  have HT2 := q3
  have BB := BB1
  have sA := sA1
  clear BB1 sA1 d0 d1 d2 d3 d4 d5 d6 d7 d8 d9 d10 d11 d12 d13 d14 y0 y1 y2 q0 q1 q2 q3
  have cc15 := kk0
  have cc16 := kk1
  have cc17 := kk2
  have cc18 := kk3
  have cc19 := kk4
  have zz3 : C1 < we5.heap.size := by omega
  rw [← hC1]
  have k3C1 := k3
  clear k3 hW nb hC1 kk0 kk1 kk2 kk3 kk4
  clear k3C0 k3C1
  refine (impl_WorldSame _ _ _ _ _ _ _ _ _ _ x01 x02 x03 y14 x05 x11 x12 x13 y24 x15 _ HT1.out HT2.out E1.out.2 E2.out.2).mono ?_
  rintro e we6 ⟨rfl, bz⟩
  have d0 : we6.cell? ⟨B0, 0, none⟩ = some (.slice a01 n01 c01) := (Below.celz bz _ _ _ (by omega)).trans cc0
  have d1 : we6.cell? ⟨B0, 1, none⟩ = some (.slice a02 n02 c02) := (Below.celz bz _ _ _ (by omega)).trans cc1
  have d2 : we6.cell? ⟨B0, 2, none⟩ = some (.slice a03 n03 c03) := (Below.celz bz _ _ _ (by omega)).trans cc2
  have d3 : we6.cell? ⟨B0, 3, none⟩ = some (.slice a04 n04 c04) := (Below.celz bz _ _ _ (by omega)).trans cc3
  have d4 : we6.cell? ⟨B0, 4, none⟩ = some (.slice a05 n05 c05) := (Below.celz bz _ _ _ (by omega)).trans cc4
  have d5 : we6.cell? ⟨B1, 0, none⟩ = some (.slice a11 n11 c11) := (Below.celz bz _ _ _ (by omega)).trans cc5
  have d6 : we6.cell? ⟨B1, 1, none⟩ = some (.slice a12 n12 c12) := (Below.celz bz _ _ _ (by omega)).trans cc6
  have d7 : we6.cell? ⟨B1, 2, none⟩ = some (.slice a13 n13 c13) := (Below.celz bz _ _ _ (by omega)).trans cc7
  have d8 : we6.cell? ⟨B1, 3, none⟩ = some (.slice a14 n14 c14) := (Below.celz bz _ _ _ (by omega)).trans cc8
  have d9 : we6.cell? ⟨B1, 4, none⟩ = some (.slice a15 n15 c15) := (Below.celz bz _ _ _ (by omega)).trans cc9
  have d10 : we6.cell? ⟨C0, 0, none⟩ = some (.slice a21 o11 c21) := (Below.celz bz _ _ _ (by omega)).trans cc10
  have d11 : we6.cell? ⟨C0, 1, none⟩ = some (.slice a22 o12 c22) := (Below.celz bz _ _ _ (by omega)).trans cc11
  have d12 : we6.cell? ⟨C0, 2, none⟩ = some (.slice a23 o13 c23) := (Below.celz bz _ _ _ (by omega)).trans cc12
  have d13 : we6.cell? ⟨C0, 3, none⟩ = some (.slice a24 o14 c24) := (Below.celz bz _ _ _ (by omega)).trans cc13
  have d14 : we6.cell? ⟨C0, 4, none⟩ = some (.slice a25 o15 c25) := (Below.celz bz _ _ _ (by omega)).trans cc14
  have d15 : we6.cell? ⟨C1, 0, none⟩ = some (.slice a31 o21 c31) := (Below.celz bz _ _ _ (by omega)).trans cc15
  have d16 : we6.cell? ⟨C1, 1, none⟩ = some (.slice a32 o22 c32) := (Below.celz bz _ _ _ (by omega)).trans cc16
  have d17 : we6.cell? ⟨C1, 2, none⟩ = some (.slice a33 o23 c33) := (Below.celz bz _ _ _ (by omega)).trans cc17
  have d18 : we6.cell? ⟨C1, 3, none⟩ = some (.slice a34 o24 c34) := (Below.celz bz _ _ _ (by omega)).trans cc18
  have d19 : we6.cell? ⟨C1, 4, none⟩ = some (.slice a35 o25 c35) := (Below.celz bz _ _ _ (by omega)).trans cc19
  have y0 : B0 < we6.heap.size := by have := Below.size bz; omega
  have y1 : B1 < we6.heap.size := by have := Below.size bz; omega
  have y2 : C0 < we6.heap.size := by have := Below.size bz; omega
  have y3 : C1 < we6.heap.size := by have := Below.size bz; omega
  have BB1 : Below A w we6 := BB.trans (bz.mono (by omega))
  have sA1 : A ≤ we6.heap.size := by have := Below.size bz; omega
  have q0 : Hid (AtWorld we6 (.slice a01 n01 c01) (.slice a02 n02 c02) (.slice a03 n03 c03) (.slice a04 n04 c04) (.slice a05 n05 c05) x01 x02 x03 x04 x05) := HX0.out.keep bz
  have q1 : Hid (AtWorld we6 (.slice a11 n11 c11) (.slice a12 n12 c12) (.slice a13 n13 c13) (.slice a14 n14 c14) (.slice a15 n15 c15) x11 x12 x13 x14 x15) := HX1.out.keep bz
  have q2 : Hid (AtWorld we6 (.slice a21 o11 c21) (.slice a22 o12 c22) (.slice a23 o13 c23) (.slice a24 o14 c24) (.slice a25 o15 c25) x01 x02 x03 y14 x05) := HT1.out.keep bz
  have q3 : Hid (AtWorld we6 (.slice a31 o21 c31) (.slice a32 o22 c32) (.slice a33 o23 c33) (.slice a34 o24 c34) (.slice a35 o25 c35) x11 x12 x13 y24 x15) := HT2.out.keep bz
  clear BB sA cc0 cc1 cc2 cc3 cc4 cc5 cc6 cc7 cc8 cc9 cc10 cc11 cc12 cc13 cc14 cc15 cc16 cc17 cc18 cc19 zz0 zz1 zz2 zz3 HX0 HX1 HT1 HT2
  have cc0 := d0
  have cc1 := d1
  have cc2 := d2
  have cc3 := d3
  have cc4 := d4
  have cc5 := d5
  have cc6 := d6
  have cc7 := d7
  have cc8 := d8
  have cc9 := d9
  have cc10 := d10
  have cc11 := d11
  have cc12 := d12
  have cc13 := d13
  have cc14 := d14
  have cc15 := d15
  have cc16 := d16
  have cc17 := d17
  have cc18 := d18
  have cc19 := d19
  have zz0 := y0
  have zz1 := y1
  have zz2 := y2
  have zz3 := y3
  have HX0 := q0
  have HX1 := q1
  have HT1 := q2
  have HT2 := q3
  have BB := BB1
  have sA := sA1
  clear BB1 sA1 d0 d1 d2 d3 d4 d5 d6 d7 d8 d9 d10 d11 d12 d13 d14 d15 d16 d17 d18 d19 y0 y1 y2 y3 q0 q1 q2 q3
  clear bz
  have hsm : sameW x01 x02 x03 y14 x05 x11 x12 x13 y24 x15 = sameW x01 x02 x03 x04 x05 x11 x12 x13 x14 x15 := by unfold sameW; rw [E1.out.1, E2.out.1]
  rw [hsm]
  clear hsm
  rw [HBB.out]
  go_wp2_with fail
  have HXA0 : Hid (∀ w', Below we6.heap.size we6 w' → AtWorld w' (.slice a01 n01 c01) (.slice a02 n02 c02) (.slice a03 n03 c03) (.slice a04 n04 c04) (.slice a05 n05 c05) x01 x02 x03 x04 x05) := fun w' h => HX0.out.keep h
  have HTA : Hid (∀ w', Below we6.heap.size we6 w' → AtWorld w' (.slice a21 o11 c21) (.slice a22 o12 c22) (.slice a23 o13 c23) (.slice a24 o14 c24) (.slice a25 o15 c25) x01 x02 x03 y14 x05) := fun w' h => HT1.out.keep h
  have hS : Hid (∀ w', Below we6.heap.size we6 w' → Below we6.heap.size we6 w' ∧ w'.cell? ⟨B0, 0, none⟩ = some (.slice a01 n01 c01) ∧ w'.cell? ⟨B0, 1, none⟩ = some (.slice a02 n02 c02) ∧ w'.cell? ⟨B0, 2, none⟩ = some (.slice a03 n03 c03) ∧ w'.cell? ⟨B0, 3, none⟩ = some (.slice a04 n04 c04) ∧ w'.cell? ⟨B0, 4, none⟩ = some (.slice a05 n05 c05) ∧ w'.cell? ⟨C0, 0, none⟩ = some (.slice a21 o11 c21) ∧ w'.cell? ⟨C0, 1, none⟩ = some (.slice a22 o12 c22) ∧ w'.cell? ⟨C0, 2, none⟩ = some (.slice a23 o13 c23) ∧ w'.cell? ⟨C0, 3, none⟩ = some (.slice a24 o14 c24) ∧ w'.cell? ⟨C0, 4, none⟩ = some (.slice a25 o15 c25)) := fun w' hn => ⟨hn, (Below.celz hn _ _ _ zz0).trans cc0, (Below.celz hn _ _ _ zz0).trans cc1, (Below.celz hn _ _ _ zz0).trans cc2, (Below.celz hn _ _ _ zz0).trans cc3, (Below.celz hn _ _ _ zz0).trans cc4, (Below.celz hn _ _ _ zz2).trans cc10, (Below.celz hn _ _ _ zz2).trans cc11, (Below.celz hn _ _ _ zz2).trans cc12, (Below.celz hn _ _ _ zz2).trans cc13, (Below.celz hn _ _ _ zz2).trans cc14⟩
  go_region_held3 (fun w' => Below we6.heap.size we6 w' ∧ w'.cell? ⟨B0, 0, none⟩ = some (.slice a01 n01 c01) ∧ w'.cell? ⟨B0, 1, none⟩ = some (.slice a02 n02 c02) ∧ w'.cell? ⟨B0, 2, none⟩ = some (.slice a03 n03 c03) ∧ w'.cell? ⟨B0, 3, none⟩ = some (.slice a04 n04 c04) ∧ w'.cell? ⟨B0, 4, none⟩ = some (.slice a05 n05 c05) ∧ w'.cell? ⟨C0, 0, none⟩ = some (.slice a21 o11 c21) ∧ w'.cell? ⟨C0, 1, none⟩ = some (.slice a22 o12 c22) ∧ w'.cell? ⟨C0, 2, none⟩ = some (.slice a23 o13 c23) ∧ w'.cell? ⟨C0, 3, none⟩ = some (.slice a24 o14 c24) ∧ w'.cell? ⟨C0, 4, none⟩ = some (.slice a25 o15 c25))
    (first | with_reducible exact hS.out _ (Below.refl _ _).drew | (with_reducible exact hS.out _ (keep_below (And.left (by assumption)) b3)) | (with_reducible exact hS.out _ (keep_below (And.left (by assumption)) b1)))
    (first | (go_at_call_of 21 (Value.agg #[.slice a01 n01 c01, .slice a02 n02 c02, .slice a03 n03 c03, .slice a04 n04 c04, .slice a05 n05 c05]); refine (toWorld _ _ _ _ _ x01 x02 x03 x04 x05 _ (HXA0.out _ (And.left (by assumption))) F0.out).mono ?_; rintro e wx ⟨g1, g2, g3, g4, g5, ya, rfl, eya, oa, b1⟩) | (go_at_call 14; refine (eqWorld _ _ _ _ _ _ _ _ _ _ x01 x02 x03 y14 x05 x01 x02 x03 ya x05 _ (HTA.out _ (And.left (by assumption))) oa E1.out.2 ⟨F0.out.1, F0.out.2.1, F0.out.2.2.1, F0.out.2.2.2.1.same eya, F0.out.2.2.2.2⟩).mono ?_; rintro e we7 ⟨rfl, b3⟩))
  have lb : Below we6.heap.size we6 we7 := And.left (show Below we6.heap.size we6 we7 ∧ we7.cell? ⟨B0, 0, none⟩ = some (.slice a01 n01 c01) ∧ we7.cell? ⟨B0, 1, none⟩ = some (.slice a02 n02 c02) ∧ we7.cell? ⟨B0, 2, none⟩ = some (.slice a03 n03 c03) ∧ we7.cell? ⟨B0, 3, none⟩ = some (.slice a04 n04 c04) ∧ we7.cell? ⟨B0, 4, none⟩ = some (.slice a05 n05 c05) ∧ we7.cell? ⟨C0, 0, none⟩ = some (.slice a21 o11 c21) ∧ we7.cell? ⟨C0, 1, none⟩ = some (.slice a22 o12 c22) ∧ we7.cell? ⟨C0, 2, none⟩ = some (.slice a23 o13 c23) ∧ we7.cell? ⟨C0, 3, none⟩ = some (.slice a24 o14 c24) ∧ we7.cell? ⟨C0, 4, none⟩ = some (.slice a25 o15 c25) by assumption)
  clear hS
  have d0 : we7.cell? ⟨B0, 0, none⟩ = some (.slice a01 n01 c01) := (Below.celz lb _ _ _ (by omega)).trans cc0
  have d1 : we7.cell? ⟨B0, 1, none⟩ = some (.slice a02 n02 c02) := (Below.celz lb _ _ _ (by omega)).trans cc1
  have d2 : we7.cell? ⟨B0, 2, none⟩ = some (.slice a03 n03 c03) := (Below.celz lb _ _ _ (by omega)).trans cc2
  have d3 : we7.cell? ⟨B0, 3, none⟩ = some (.slice a04 n04 c04) := (Below.celz lb _ _ _ (by omega)).trans cc3
  have d4 : we7.cell? ⟨B0, 4, none⟩ = some (.slice a05 n05 c05) := (Below.celz lb _ _ _ (by omega)).trans cc4
  have d5 : we7.cell? ⟨B1, 0, none⟩ = some (.slice a11 n11 c11) := (Below.celz lb _ _ _ (by omega)).trans cc5
  have d6 : we7.cell? ⟨B1, 1, none⟩ = some (.slice a12 n12 c12) := (Below.celz lb _ _ _ (by omega)).trans cc6
  have d7 : we7.cell? ⟨B1, 2, none⟩ = some (.slice a13 n13 c13) := (Below.celz lb _ _ _ (by omega)).trans cc7
  have d8 : we7.cell? ⟨B1, 3, none⟩ = some (.slice a14 n14 c14) := (Below.celz lb _ _ _ (by omega)).trans cc8
  have d9 : we7.cell? ⟨B1, 4, none⟩ = some (.slice a15 n15 c15) := (Below.celz lb _ _ _ (by omega)).trans cc9
  have d10 : we7.cell? ⟨C0, 0, none⟩ = some (.slice a21 o11 c21) := (Below.celz lb _ _ _ (by omega)).trans cc10
  have d11 : we7.cell? ⟨C0, 1, none⟩ = some (.slice a22 o12 c22) := (Below.celz lb _ _ _ (by omega)).trans cc11
  have d12 : we7.cell? ⟨C0, 2, none⟩ = some (.slice a23 o13 c23) := (Below.celz lb _ _ _ (by omega)).trans cc12
  have d13 : we7.cell? ⟨C0, 3, none⟩ = some (.slice a24 o14 c24) := (Below.celz lb _ _ _ (by omega)).trans cc13
  have d14 : we7.cell? ⟨C0, 4, none⟩ = some (.slice a25 o15 c25) := (Below.celz lb _ _ _ (by omega)).trans cc14
  have d15 : we7.cell? ⟨C1, 0, none⟩ = some (.slice a31 o21 c31) := (Below.celz lb _ _ _ (by omega)).trans cc15
  have d16 : we7.cell? ⟨C1, 1, none⟩ = some (.slice a32 o22 c32) := (Below.celz lb _ _ _ (by omega)).trans cc16
  have d17 : we7.cell? ⟨C1, 2, none⟩ = some (.slice a33 o23 c33) := (Below.celz lb _ _ _ (by omega)).trans cc17
  have d18 : we7.cell? ⟨C1, 3, none⟩ = some (.slice a34 o24 c34) := (Below.celz lb _ _ _ (by omega)).trans cc18
  have d19 : we7.cell? ⟨C1, 4, none⟩ = some (.slice a35 o25 c35) := (Below.celz lb _ _ _ (by omega)).trans cc19
  have y0 : B0 < we7.heap.size := by have := Below.size lb; omega
  have y1 : B1 < we7.heap.size := by have := Below.size lb; omega
  have y2 : C0 < we7.heap.size := by have := Below.size lb; omega
  have y3 : C1 < we7.heap.size := by have := Below.size lb; omega
  have BB1 : Below A w we7 := BB.trans (lb.mono (by omega))
  have sA1 : A ≤ we7.heap.size := by have := Below.size lb; omega
  have q0 : Hid (AtWorld we7 (.slice a01 n01 c01) (.slice a02 n02 c02) (.slice a03 n03 c03) (.slice a04 n04 c04) (.slice a05 n05 c05) x01 x02 x03 x04 x05) := HX0.out.keep lb
  have q1 : Hid (AtWorld we7 (.slice a11 n11 c11) (.slice a12 n12 c12) (.slice a13 n13 c13) (.slice a14 n14 c14) (.slice a15 n15 c15) x11 x12 x13 x14 x15) := HX1.out.keep lb
  have q2 : Hid (AtWorld we7 (.slice a21 o11 c21) (.slice a22 o12 c22) (.slice a23 o13 c23) (.slice a24 o14 c24) (.slice a25 o15 c25) x01 x02 x03 y14 x05) := HT1.out.keep lb
  have q3 : Hid (AtWorld we7 (.slice a31 o21 c31) (.slice a32 o22 c32) (.slice a33 o23 c33) (.slice a34 o24 c34) (.slice a35 o25 c35) x11 x12 x13 y24 x15) := HT2.out.keep lb
  clear BB sA cc0 cc1 cc2 cc3 cc4 cc5 cc6 cc7 cc8 cc9 cc10 cc11 cc12 cc13 cc14 cc15 cc16 cc17 cc18 cc19 zz0 zz1 zz2 zz3 HX0 HX1 HT1 HT2
  have cc0 := d0
  have cc1 := d1
  have cc2 := d2
  have cc3 := d3
  have cc4 := d4
  have cc5 := d5
  have cc6 := d6
  have cc7 := d7
  have cc8 := d8
  have cc9 := d9
  have cc10 := d10
  have cc11 := d11
  have cc12 := d12
  have cc13 := d13
  have cc14 := d14
  have cc15 := d15
  have cc16 := d16
  have cc17 := d17
  have cc18 := d18
  have cc19 := d19
  have zz0 := y0
  have zz1 := y1
  have zz2 := y2
  have zz3 := y3
  have HX0 := q0
  have HX1 := q1
  have HT1 := q2
  have HT2 := q3
  have BB := BB1
  have sA := sA1
  clear BB1 sA1 d0 d1 d2 d3 d4 d5 d6 d7 d8 d9 d10 d11 d12 d13 d14 d15 d16 d17 d18 d19 y0 y1 y2 y3 q0 q1 q2 q3
  clear lb
  rw [show sameW x01 x02 x03 y14 x05 x01 x02 x03 ya x05 = true from sameW_true.2 ⟨rfl, rfl, rfl, E1.out.1.trans eya.symm, rfl⟩]
  clear eya oa b1 b3 HXA0 HTA
  go_wp2_with fail
  have HXA1 : Hid (∀ w', Below we7.heap.size we7 w' → AtWorld w' (.slice a11 n11 c11) (.slice a12 n12 c12) (.slice a13 n13 c13) (.slice a14 n14 c14) (.slice a15 n15 c15) x11 x12 x13 x14 x15) := fun w' h => HX1.out.keep h
  have HTA : Hid (∀ w', Below we7.heap.size we7 w' → AtWorld w' (.slice a31 o21 c31) (.slice a32 o22 c32) (.slice a33 o23 c33) (.slice a34 o24 c34) (.slice a35 o25 c35) x11 x12 x13 y24 x15) := fun w' h => HT2.out.keep h
  have hS : Hid (∀ w', Below we7.heap.size we7 w' → Below we7.heap.size we7 w' ∧ w'.cell? ⟨B1, 0, none⟩ = some (.slice a11 n11 c11) ∧ w'.cell? ⟨B1, 1, none⟩ = some (.slice a12 n12 c12) ∧ w'.cell? ⟨B1, 2, none⟩ = some (.slice a13 n13 c13) ∧ w'.cell? ⟨B1, 3, none⟩ = some (.slice a14 n14 c14) ∧ w'.cell? ⟨B1, 4, none⟩ = some (.slice a15 n15 c15) ∧ w'.cell? ⟨C1, 0, none⟩ = some (.slice a31 o21 c31) ∧ w'.cell? ⟨C1, 1, none⟩ = some (.slice a32 o22 c32) ∧ w'.cell? ⟨C1, 2, none⟩ = some (.slice a33 o23 c33) ∧ w'.cell? ⟨C1, 3, none⟩ = some (.slice a34 o24 c34) ∧ w'.cell? ⟨C1, 4, none⟩ = some (.slice a35 o25 c35)) := fun w' hn => ⟨hn, (Below.celz hn _ _ _ zz1).trans cc5, (Below.celz hn _ _ _ zz1).trans cc6, (Below.celz hn _ _ _ zz1).trans cc7, (Below.celz hn _ _ _ zz1).trans cc8, (Below.celz hn _ _ _ zz1).trans cc9, (Below.celz hn _ _ _ zz3).trans cc15, (Below.celz hn _ _ _ zz3).trans cc16, (Below.celz hn _ _ _ zz3).trans cc17, (Below.celz hn _ _ _ zz3).trans cc18, (Below.celz hn _ _ _ zz3).trans cc19⟩
  go_region_held3 (fun w' => Below we7.heap.size we7 w' ∧ w'.cell? ⟨B1, 0, none⟩ = some (.slice a11 n11 c11) ∧ w'.cell? ⟨B1, 1, none⟩ = some (.slice a12 n12 c12) ∧ w'.cell? ⟨B1, 2, none⟩ = some (.slice a13 n13 c13) ∧ w'.cell? ⟨B1, 3, none⟩ = some (.slice a14 n14 c14) ∧ w'.cell? ⟨B1, 4, none⟩ = some (.slice a15 n15 c15) ∧ w'.cell? ⟨C1, 0, none⟩ = some (.slice a31 o21 c31) ∧ w'.cell? ⟨C1, 1, none⟩ = some (.slice a32 o22 c32) ∧ w'.cell? ⟨C1, 2, none⟩ = some (.slice a33 o23 c33) ∧ w'.cell? ⟨C1, 3, none⟩ = some (.slice a34 o24 c34) ∧ w'.cell? ⟨C1, 4, none⟩ = some (.slice a35 o25 c35))
    (first | with_reducible exact hS.out _ (Below.refl _ _).drew | (with_reducible exact hS.out _ (keep_below (And.left (by assumption)) b3)) | (with_reducible exact hS.out _ (keep_below (And.left (by assumption)) b1)))
    (first | (go_at_call_of 21 (Value.agg #[.slice a11 n11 c11, .slice a12 n12 c12, .slice a13 n13 c13, .slice a14 n14 c14, .slice a15 n15 c15]); refine (toWorld _ _ _ _ _ x11 x12 x13 x14 x15 _ (HXA1.out _ (And.left (by assumption))) F1.out).mono ?_; rintro e wx ⟨g1, g2, g3, g4, g5, ya, rfl, eya, oa, b1⟩) | (go_at_call 14; refine (eqWorld _ _ _ _ _ _ _ _ _ _ x11 x12 x13 y24 x15 x11 x12 x13 ya x15 _ (HTA.out _ (And.left (by assumption))) oa E2.out.2 ⟨F1.out.1, F1.out.2.1, F1.out.2.2.1, F1.out.2.2.2.1.same eya, F1.out.2.2.2.2⟩).mono ?_; rintro e we8 ⟨rfl, b3⟩))
  have lb : Below we7.heap.size we7 we8 := And.left (show Below we7.heap.size we7 we8 ∧ we8.cell? ⟨B1, 0, none⟩ = some (.slice a11 n11 c11) ∧ we8.cell? ⟨B1, 1, none⟩ = some (.slice a12 n12 c12) ∧ we8.cell? ⟨B1, 2, none⟩ = some (.slice a13 n13 c13) ∧ we8.cell? ⟨B1, 3, none⟩ = some (.slice a14 n14 c14) ∧ we8.cell? ⟨B1, 4, none⟩ = some (.slice a15 n15 c15) ∧ we8.cell? ⟨C1, 0, none⟩ = some (.slice a31 o21 c31) ∧ we8.cell? ⟨C1, 1, none⟩ = some (.slice a32 o22 c32) ∧ we8.cell? ⟨C1, 2, none⟩ = some (.slice a33 o23 c33) ∧ we8.cell? ⟨C1, 3, none⟩ = some (.slice a34 o24 c34) ∧ we8.cell? ⟨C1, 4, none⟩ = some (.slice a35 o25 c35) by assumption)
  clear hS
  have d0 : we8.cell? ⟨B0, 0, none⟩ = some (.slice a01 n01 c01) := (Below.celz lb _ _ _ (by omega)).trans cc0
  have d1 : we8.cell? ⟨B0, 1, none⟩ = some (.slice a02 n02 c02) := (Below.celz lb _ _ _ (by omega)).trans cc1
  have d2 : we8.cell? ⟨B0, 2, none⟩ = some (.slice a03 n03 c03) := (Below.celz lb _ _ _ (by omega)).trans cc2
  have d3 : we8.cell? ⟨B0, 3, none⟩ = some (.slice a04 n04 c04) := (Below.celz lb _ _ _ (by omega)).trans cc3
  have d4 : we8.cell? ⟨B0, 4, none⟩ = some (.slice a05 n05 c05) := (Below.celz lb _ _ _ (by omega)).trans cc4
  have d5 : we8.cell? ⟨B1, 0, none⟩ = some (.slice a11 n11 c11) := (Below.celz lb _ _ _ (by omega)).trans cc5
  have d6 : we8.cell? ⟨B1, 1, none⟩ = some (.slice a12 n12 c12) := (Below.celz lb _ _ _ (by omega)).trans cc6
  have d7 : we8.cell? ⟨B1, 2, none⟩ = some (.slice a13 n13 c13) := (Below.celz lb _ _ _ (by omega)).trans cc7
  have d8 : we8.cell? ⟨B1, 3, none⟩ = some (.slice a14 n14 c14) := (Below.celz lb _ _ _ (by omega)).trans cc8
  have d9 : we8.cell? ⟨B1, 4, none⟩ = some (.slice a15 n15 c15) := (Below.celz lb _ _ _ (by omega)).trans cc9
  have d10 : we8.cell? ⟨C0, 0, none⟩ = some (.slice a21 o11 c21) := (Below.celz lb _ _ _ (by omega)).trans cc10
  have d11 : we8.cell? ⟨C0, 1, none⟩ = some (.slice a22 o12 c22) := (Below.celz lb _ _ _ (by omega)).trans cc11
  have d12 : we8.cell? ⟨C0, 2, none⟩ = some (.slice a23 o13 c23) := (Below.celz lb _ _ _ (by omega)).trans cc12
  have d13 : we8.cell? ⟨C0, 3, none⟩ = some (.slice a24 o14 c24) := (Below.celz lb _ _ _ (by omega)).trans cc13
  have d14 : we8.cell? ⟨C0, 4, none⟩ = some (.slice a25 o15 c25) := (Below.celz lb _ _ _ (by omega)).trans cc14
  have d15 : we8.cell? ⟨C1, 0, none⟩ = some (.slice a31 o21 c31) := (Below.celz lb _ _ _ (by omega)).trans cc15
  have d16 : we8.cell? ⟨C1, 1, none⟩ = some (.slice a32 o22 c32) := (Below.celz lb _ _ _ (by omega)).trans cc16
  have d17 : we8.cell? ⟨C1, 2, none⟩ = some (.slice a33 o23 c33) := (Below.celz lb _ _ _ (by omega)).trans cc17
  have d18 : we8.cell? ⟨C1, 3, none⟩ = some (.slice a34 o24 c34) := (Below.celz lb _ _ _ (by omega)).trans cc18
  have d19 : we8.cell? ⟨C1, 4, none⟩ = some (.slice a35 o25 c35) := (Below.celz lb _ _ _ (by omega)).trans cc19
  have y0 : B0 < we8.heap.size := by have := Below.size lb; omega
  have y1 : B1 < we8.heap.size := by have := Below.size lb; omega
  have y2 : C0 < we8.heap.size := by have := Below.size lb; omega
  have y3 : C1 < we8.heap.size := by have := Below.size lb; omega
  have BB1 : Below A w we8 := BB.trans (lb.mono (by omega))
  have sA1 : A ≤ we8.heap.size := by have := Below.size lb; omega
  have q0 : Hid (AtWorld we8 (.slice a01 n01 c01) (.slice a02 n02 c02) (.slice a03 n03 c03) (.slice a04 n04 c04) (.slice a05 n05 c05) x01 x02 x03 x04 x05) := HX0.out.keep lb
  have q1 : Hid (AtWorld we8 (.slice a11 n11 c11) (.slice a12 n12 c12) (.slice a13 n13 c13) (.slice a14 n14 c14) (.slice a15 n15 c15) x11 x12 x13 x14 x15) := HX1.out.keep lb
  have q2 : Hid (AtWorld we8 (.slice a21 o11 c21) (.slice a22 o12 c22) (.slice a23 o13 c23) (.slice a24 o14 c24) (.slice a25 o15 c25) x01 x02 x03 y14 x05) := HT1.out.keep lb
  have q3 : Hid (AtWorld we8 (.slice a31 o21 c31) (.slice a32 o22 c32) (.slice a33 o23 c33) (.slice a34 o24 c34) (.slice a35 o25 c35) x11 x12 x13 y24 x15) := HT2.out.keep lb
  clear BB sA cc0 cc1 cc2 cc3 cc4 cc5 cc6 cc7 cc8 cc9 cc10 cc11 cc12 cc13 cc14 cc15 cc16 cc17 cc18 cc19 zz0 zz1 zz2 zz3 HX0 HX1 HT1 HT2
  have cc0 := d0
  have cc1 := d1
  have cc2 := d2
  have cc3 := d3
  have cc4 := d4
  have cc5 := d5
  have cc6 := d6
  have cc7 := d7
  have cc8 := d8
  have cc9 := d9
  have cc10 := d10
  have cc11 := d11
  have cc12 := d12
  have cc13 := d13
  have cc14 := d14
  have cc15 := d15
  have cc16 := d16
  have cc17 := d17
  have cc18 := d18
  have cc19 := d19
  have zz0 := y0
  have zz1 := y1
  have zz2 := y2
  have zz3 := y3
  have HX0 := q0
  have HX1 := q1
  have HT1 := q2
  have HT2 := q3
  have BB := BB1
  have sA := sA1
  clear BB1 sA1 d0 d1 d2 d3 d4 d5 d6 d7 d8 d9 d10 d11 d12 d13 d14 d15 d16 d17 d18 d19 y0 y1 y2 y3 q0 q1 q2 q3
  clear lb
  rw [show sameW x11 x12 x13 y24 x15 x11 x12 x13 ya x15 = true from sameW_true.2 ⟨rfl, rfl, rfl, E2.out.1.trans eya.symm, rfl⟩]
  clear eya oa b1 b3 HXA1 HTA
  go_wp2_with fail
  go_ret
  exact ⟨rfl, (by have := BB; rw [HA.out] at this; exact this)⟩

set_option maxRecDepth 100000 in
set_option maxHeartbeats 1000000 in
theorem lifted (os : Os) (started : os.Started) (H : Type) (enc : TypeId × Value → H) :
    ReturnsInHanded {} Try.checked os 5 .any (Rows.fnExactWorldSameSpec.pre6 enc Try.prog Try.f5 Rows.fnExactWorldSameRow.domain false) (Rows.fnExactWorldSameSpec.post enc Try.prog Try.f5 false true false false) := by
  refine returnsInHanded_of_change (C := Try.checked) own started (by kernel_rfl) Try.func5
    (ChangeSpec.witness6 (enc := enc) (C := Try.checked) false ⟨#[], #[.agg #[.slice none 0 0, .slice none 0 0, .slice none 0 0, .slice none 0 0, .slice none 0 0], .agg #[.slice none 0 0, .slice none 0 0, .slice none 0 0, .slice none 0 0, .slice none 0 0]], []⟩ 8 (by kernel_rfl) (by kernel_rfl) (by kernel_rfl) (by kernel_rfl)) ?_
  intro W base args ds gs before hval0 hW hcnd _
  have hval : ∀ (j : Nat) t v, Try.f5.params[j]? = some t → args[j]? = some v → Value.okWide Try.prog W .any base t v := hval0
  have hW' := hW
  obtain ⟨p, q, hA0, hV, rfl, hfz, hnd⟩ := hW
  have hA : DataW.TrodAll enc Try.prog W 0 (fun _ => true) true Try.f5.params.toList args.toList ds p := hA0
  rw [Try.params5] at hA hval
  obtain ⟨v0, vs0, d0, ds0, p0, q0, hargs, rfl, rfl, h0, r0⟩ := trodAll_cons hA
  obtain ⟨v1, vs1, d1, ds1, p1, q1, rfl, rfl, rfl, h1, r1⟩ := trodAll_cons r0
  obtain ⟨rfl, rfl, rfl⟩ := trodAll_nil r1
  obtain rfl : args = #[v0, v1] := by cases args; simp_all
  obtain ⟨rfl, rfl⟩ := trodVars_none hV
  have kr0 := h0
  have lt0 : ∀ x ∈ p0, x.block < W.heap.size := by obtain ⟨m, hm⟩ := kr0; exact DataW.trod_lt m _ _ _ hm
  have kr1 := h1
  have lt1 : ∀ x ∈ p1, x.block < W.heap.size := by obtain ⟨m, hm⟩ := kr1; exact DataW.trod_lt m _ _ _ hm
  obtain ⟨v01, v02, v03, v04, v05, x01, x02, x03, x04, x05, rfl, w0⟩ := open_world (hval 0 52 v0 rfl rfl) h0
  obtain ⟨v11, v12, v13, v14, v15, x11, x12, x13, x14, x15, rfl, w1⟩ := open_world (hval 1 52 v1 rfl rfl) h1
  clear hA0 hval0
  refine (walk v01 v02 v03 v04 v05 x01 x02 x03 x04 x05 v11 v12 v13 v14 v15 x11 x12 x13 x14 x15 W w0 w1).mono fun e W' ⟨he, bel⟩ => ?_
  subst he
  exact ⟨_, rfl, _, _, _, [], _, [], hW', trodAll_mk1 (shut_bool Try.underlying4 _), (trodAll_cons_mk (Below.trod laidOut (by kernel_rfl) (of_decide_eq_true (by kernel_rfl)) kr0 bel lt0) (trodAll_cons_mk (Below.trod laidOut (by kernel_rfl) (of_decide_eq_true (by kernel_rfl)) kr1 bel lt1) trodAll_mk0)), rfl, bel.frame _, fun h => by cases h⟩

theorem over : Rows.fnExactWorldSameRow.holds Try.pinned (OpenSpec.ofChange Rows.fnExactWorldSameSpec) :=
  OpenClaim.holds_of_wide 5 Try.f5 rfl rfl rfl rfl rfl rfl rfl ⟨rfl, rfl, rfl, rfl, rfl⟩ rfl rfl rfl rfl rfl (by kernel_rfl) Try.func5 (by kernel_rfl)
    (of_decide_eq_true (by kernel_rfl)) (by unfold Func.isWrapper; first | (rw [if_pos (by decide +kernel)]; kernel_rfl) | (rw [if_neg (by decide +kernel)]; exact ⟨rfl, rfl⟩))
    (fun os started H enc _ => lifted os started H enc)

end Go.Proofs.Ytnhacflknkgfgaa.fnExactWorldSame
namespace Go.Proofs.Ytnhacflknkgfgaa
theorem fnExactWorldSame_holds : Rows.FnExactWorldSameSaid := fnExactWorldSame.over
#print axioms fnExactWorldSame_holds
end Go.Proofs.Ytnhacflknkgfgaa
