/-
  WorldOk of the program answers as the model, at every argument; it writes into no argument.
-/
import Derived.Test.YtfnmalcjhblhhaaDoorCards
import Derived.Test.YtfnmalcjhblhhaaDoorTie
import Derived.Test.YtfnmalcjhblhhaaDoorSce
import Derived.Test.YtfnmalcjhblhhaaDoorErs
import Derived.Test.YtfnmalcjhblhhaaDoorOpw
import Derived.WalkKit
import Derived.ProofKit
import Derived.OpenShut
import Derived.ShutString
import Derived.ChangeOld
import Derived.Below
import Derived.Carry
import Derived.Handy
import Derived.Deep.RegionHeld3
import Derived.LaidMore
import Derived.Deep.DeepCutAuto
namespace Go.Proofs.YtfnmalcjhblhhaaDoor.fnExactWorldOk
open Go.Proofs.YtfnmalcjhblhhaaDoor.Lab
open Go.ChangeShapes Go.WideShapes Go.ChangeAt Go.RowKit
open Go.ChangeMaps (open_string shut_string)
set_option linter.unusedVariables false

theorem own : ownKnob Tryd.prog.godebug = none := by kernel_rfl
/-- A row of numbers that came in: nil, or so many cells. -/
def IsRow (k : IntKind) (w : World) (a : Option Addr) (len cap : Nat) (zs : List Int) : Prop :=
  (a = none ∧ len = 0 ∧ cap = 0 ∧ zs = []) ∨ ∃ x, a = some x ∧ len ≤ cap ∧ cap ≤ maxLen ∧ zs.length = cap ∧ (∀ i, i < zs.length → w.cell? (x.add i) = some (.int k (zs.getD i 0))) ∧ ∀ n ∈ zs, (Lit.int k n).wf = true

set_option maxRecDepth 16000 in
set_option maxHeartbeats 8000000 in
theorem walk (v01 v02 v03 v04 v05 : Value) (x01 : List (Int × Int × Int)) (x02 : List (Int × Int)) (x03 : List (Int × Int × Int × Int × Int)) (x04 : List (Int × (Value × List (Int × Int)))) (x05 : List Int) (w : World) (w0 : WorldIn w v01 v02 v03 v04 v05 x01 x02 x03 x04 x05) (hE : Errs w) :
    Calls Tryd.prog 3 #[.agg #[v01, v02, v03, v04, v05]] w fun e w' => e = .returned (.bool true) ∧ Below w.heap.size w w' := by
  obtain ⟨r0, m01, m02, m03, m04, m05, m06⟩ := w0
  simp only [maxLen, Nat.reducePow, Nat.reduceSub] at m01 m02 m03 m04 m05 m06
  obtain ⟨a01, c01, a02, c02, a03, c03, a04, c04, a05, c05, rfl, rfl, rfl, rfl, rfl⟩ := r0.form
  have HM : Hid (x01.length ≤ 9223372036854775807 ∧ x02.length ≤ 9223372036854775807 ∧ x03.length ≤ 9223372036854775807 ∧ x04.length ≤ 9223372036854775807 ∧ x05.length ≤ 9223372036854775807 ∧ ∀ x ∈ x04, x.2.2.length ≤ 9223372036854775807) := ⟨m01, m02, m03, m04, m05, m06⟩
  clear m01 m02 m03 m04 m05 m06
  generalize hh : x01.length = n01 at r0 ⊢
  clear hh
  generalize hh : x02.length = n02 at r0 ⊢
  clear hh
  generalize hh : x03.length = n03 at r0 ⊢
  clear hh
  generalize hh : x04.length = n04 at r0 ⊢
  clear hh
  generalize hh : x05.length = n05 at r0 ⊢
  clear hh
  obtain ⟨A, hA⟩ : ∃ t, t = w.heap.size := ⟨_, rfl⟩
  have HA : Hid (A = w.heap.size) := hA
  have BB : Below A w w := Below.refl _ _
  have sA : A ≤ w.heap.size := by omega
  clear hA
  have HX : Hid (AtWorld w (.slice a01 n01 c01) (.slice a02 n02 c02) (.slice a03 n03 c03) (.slice a04 n04 c04) (.slice a05 n05 c05) x01 x02 x03 x04 x05) := r0
  have HE : Hid (Errs w) := hE
  clear r0 hE
  go_enter Tryd.func3, Tryd.ntmps3
  go_wp2_with fail
  obtain ⟨B0, hB0⟩ : ∃ t, t = w.heap.size := ⟨_, rfl⟩
  generalize hW : w.alloc (.cells #[.slice a01 n01 c01, .slice a02 n02 c02, .slice a03 n03 c03, .slice a04 n04 c04, .slice a05 n05 c05] 30) = wa
  have nb : Below w.heap.size w wa := by rw [← hW]; exact (Below.refl _ _).alloc (Nat.le_refl _) _
  have k3 : wa.heap.size = B0 + 1 := by rw [← hW, hB0]; simp
  have kk0 : wa.cell? ⟨B0, 0, none⟩ = some (.slice a01 n01 c01) := by rw [← hW, hB0]; simp [go_sem]
  have kk1 : wa.cell? ⟨B0, 1, none⟩ = some (.slice a02 n02 c02) := by rw [← hW, hB0]; simp [go_sem]
  have kk2 : wa.cell? ⟨B0, 2, none⟩ = some (.slice a03 n03 c03) := by rw [← hW, hB0]; simp [go_sem]
  have kk3 : wa.cell? ⟨B0, 3, none⟩ = some (.slice a04 n04 c04) := by rw [← hW, hB0]; simp [go_sem]
  have kk4 : wa.cell? ⟨B0, 4, none⟩ = some (.slice a05 n05 c05) := by rw [← hW, hB0]; simp [go_sem]
  have oB0A : A ≤ B0 := by rw [hB0]; exact sA
  have BB1 : Below A w wa := BB.trans (nb.mono (by omega))
  have sA1 : A ≤ wa.heap.size := by have := Below.size nb; omega
  have q0 : Hid (AtWorld wa (.slice a01 n01 c01) (.slice a02 n02 c02) (.slice a03 n03 c03) (.slice a04 n04 c04) (.slice a05 n05 c05) x01 x02 x03 x04 x05) := HX.out.keep nb
  have q1 : Hid (Errs wa) := HE.out.keep nb
  clear BB sA   HX HE
  have HX := q0
  have HE := q1
  have BB := BB1
  have sA := sA1
  clear BB1 sA1   q0 q1
  have cc0 := kk0
  have cc1 := kk1
  have cc2 := kk2
  have cc3 := kk3
  have cc4 := kk4
  have zz0 : B0 < wa.heap.size := by omega
  rw [← hB0]
  have k3B0 := k3
  clear k3 hW nb hB0 kk0 kk1 kk2 kk3 kk4
  clear k3B0
  refine (szWorld _ _ _ _ _ x01 x02 x03 x04 x05 1048576 _ HX.out (by omega) (by omega) HM.out.1 HM.out.2.1 HM.out.2.2.1 HM.out.2.2.2.1 HM.out.2.2.2.2.1 HM.out.2.2.2.2.2).mono ?_
  rintro e wb ⟨⟨lf, rfl, p00, p01, p02⟩, bz⟩
  have d0 : wb.cell? ⟨B0, 0, none⟩ = some (.slice a01 n01 c01) := (Below.celz bz _ _ _ (by omega)).trans cc0
  have d1 : wb.cell? ⟨B0, 1, none⟩ = some (.slice a02 n02 c02) := (Below.celz bz _ _ _ (by omega)).trans cc1
  have d2 : wb.cell? ⟨B0, 2, none⟩ = some (.slice a03 n03 c03) := (Below.celz bz _ _ _ (by omega)).trans cc2
  have d3 : wb.cell? ⟨B0, 3, none⟩ = some (.slice a04 n04 c04) := (Below.celz bz _ _ _ (by omega)).trans cc3
  have d4 : wb.cell? ⟨B0, 4, none⟩ = some (.slice a05 n05 c05) := (Below.celz bz _ _ _ (by omega)).trans cc4
  have y0 : B0 < wb.heap.size := by have := Below.size bz; omega
  have BB1 : Below A w wb := BB.trans (bz.mono (by omega))
  have sA1 : A ≤ wb.heap.size := by have := Below.size bz; omega
  have q0 : Hid (AtWorld wb (.slice a01 n01 c01) (.slice a02 n02 c02) (.slice a03 n03 c03) (.slice a04 n04 c04) (.slice a05 n05 c05) x01 x02 x03 x04 x05) := HX.out.keep bz
  have q1 : Hid (Errs wb) := HE.out.keep bz
  clear BB sA cc0 cc1 cc2 cc3 cc4 zz0 HX HE
  have cc0 := d0
  have cc1 := d1
  have cc2 := d2
  have cc3 := d3
  have cc4 := d4
  have zz0 := y0
  have HX := q0
  have HE := q1
  have BB := BB1
  have sA := sA1
  clear BB1 sA1 d0 d1 d2 d3 d4 y0 q0 q1
  clear bz
  by_cases q00 : lf < 0
  · clear p02
    go_wp2_with fail
    go_ret
    exact ⟨rfl, (by have := BB; rw [HA.out] at this; exact this)⟩
  have F0 : Hid (FewWorld x01 x02 x03 x04 x05) := p02 (by omega)
  clear p02
  go_wp2_with fail
  refine (toWorldC _ _ _ _ _ x01 x02 x03 x04 x05 _ HX.out F0.out).mono ?_
  rintro e we1 ⟨g11, g12, g13, g14, g15, y14, rfl, ey, cy, ou, bz⟩
  have d0 : we1.cell? ⟨B0, 0, none⟩ = some (.slice a01 n01 c01) := (Below.celz bz _ _ _ (by omega)).trans cc0
  have d1 : we1.cell? ⟨B0, 1, none⟩ = some (.slice a02 n02 c02) := (Below.celz bz _ _ _ (by omega)).trans cc1
  have d2 : we1.cell? ⟨B0, 2, none⟩ = some (.slice a03 n03 c03) := (Below.celz bz _ _ _ (by omega)).trans cc2
  have d3 : we1.cell? ⟨B0, 3, none⟩ = some (.slice a04 n04 c04) := (Below.celz bz _ _ _ (by omega)).trans cc3
  have d4 : we1.cell? ⟨B0, 4, none⟩ = some (.slice a05 n05 c05) := (Below.celz bz _ _ _ (by omega)).trans cc4
  have y0 : B0 < we1.heap.size := by have := Below.size bz; omega
  have BB1 : Below A w we1 := BB.trans (bz.mono (by omega))
  have sA1 : A ≤ we1.heap.size := by have := Below.size bz; omega
  have q0 : Hid (AtWorld we1 (.slice a01 n01 c01) (.slice a02 n02 c02) (.slice a03 n03 c03) (.slice a04 n04 c04) (.slice a05 n05 c05) x01 x02 x03 x04 x05) := HX.out.keep bz
  have q1 : Hid (Errs we1) := HE.out.keep bz
  clear BB sA cc0 cc1 cc2 cc3 cc4 zz0 HX HE
  have cc0 := d0
  have cc1 := d1
  have cc2 := d2
  have cc3 := d3
  have cc4 := d4
  have zz0 := y0
  have HX := q0
  have HE := q1
  have BB := BB1
  have sA := sA1
  clear BB1 sA1 d0 d1 d2 d3 d4 y0 q0 q1
  clear bz
  have fy : FewPool y14 := F0.out.2.2.2.1.same ey
  obtain ⟨a11, c11, a12, c12, a13, c13, a14, c14, a15, c15, rfl, rfl, rfl, rfl, rfl⟩ := ou.form
  have E1 : Hid (y14.map plPool = x04.map plPool ∧ FewWorld x01 x02 x03 y14 x05 ∧ CapPool y14) := ⟨ey, ⟨F0.out.1, F0.out.2.1, F0.out.2.2.1, fy, F0.out.2.2.2.2⟩, cy⟩
  clear ey fy cy
  generalize hg : x01.length = o11 at ou ⊢
  clear hg
  generalize hg : x02.length = o12 at ou ⊢
  clear hg
  generalize hg : x03.length = o13 at ou ⊢
  clear hg
  generalize hg : y14.length = o14 at ou ⊢
  clear hg
  generalize hg : x05.length = o15 at ou ⊢
  clear hg
  have HT1 : Hid (AtWorld we1 (.slice a11 o11 c11) (.slice a12 o12 c12) (.slice a13 o13 c13) (.slice a14 o14 c14) (.slice a15 o15 c15) x01 x02 x03 y14 x05) := ou
  clear ou
  go_wp2_with fail
  refine (spec_WorldOk _ _ _ _ _ x01 x02 x03 y14 x05 _ HT1.out E1.out.2.1 E1.out.2.2).mono ?_
  rintro e we2 ⟨rfl, bz⟩
  have d0 : we2.cell? ⟨B0, 0, none⟩ = some (.slice a01 n01 c01) := (Below.celz bz _ _ _ (by omega)).trans cc0
  have d1 : we2.cell? ⟨B0, 1, none⟩ = some (.slice a02 n02 c02) := (Below.celz bz _ _ _ (by omega)).trans cc1
  have d2 : we2.cell? ⟨B0, 2, none⟩ = some (.slice a03 n03 c03) := (Below.celz bz _ _ _ (by omega)).trans cc2
  have d3 : we2.cell? ⟨B0, 3, none⟩ = some (.slice a04 n04 c04) := (Below.celz bz _ _ _ (by omega)).trans cc3
  have d4 : we2.cell? ⟨B0, 4, none⟩ = some (.slice a05 n05 c05) := (Below.celz bz _ _ _ (by omega)).trans cc4
  have y0 : B0 < we2.heap.size := by have := Below.size bz; omega
  have BB1 : Below A w we2 := BB.trans (bz.mono (by omega))
  have sA1 : A ≤ we2.heap.size := by have := Below.size bz; omega
  have q0 : Hid (AtWorld we2 (.slice a01 n01 c01) (.slice a02 n02 c02) (.slice a03 n03 c03) (.slice a04 n04 c04) (.slice a05 n05 c05) x01 x02 x03 x04 x05) := HX.out.keep bz
  have q1 : Hid (Errs we2) := HE.out.keep bz
  have q2 : Hid (AtWorld we2 (.slice a11 o11 c11) (.slice a12 o12 c12) (.slice a13 o13 c13) (.slice a14 o14 c14) (.slice a15 o15 c15) x01 x02 x03 y14 x05) := HT1.out.keep bz
  clear BB sA cc0 cc1 cc2 cc3 cc4 zz0 HX HE HT1
  have cc0 := d0
  have cc1 := d1
  have cc2 := d2
  have cc3 := d3
  have cc4 := d4
  have zz0 := y0
  have HX := q0
  have HE := q1
  have HT1 := q2
  have BB := BB1
  have sA := sA1
  clear BB1 sA1 d0 d1 d2 d3 d4 y0 q0 q1 q2
  clear bz
  rw [wokB_same E1.out.1]
  generalize hbb : wokB x01 x02 x03 x04 x05 = bb
  have HBB : Hid (wokB x01 x02 x03 x04 x05 = bb) := hbb
  clear hbb E1
  have hne : (bb != bb) = false := by simp
  clear HT1
  go_wp2_with fail
  refine (toWorldC _ _ _ _ _ x01 x02 x03 x04 x05 _ HX.out F0.out).mono ?_
  rintro e we3 ⟨g21, g22, g23, g24, g25, y24, rfl, ey, cy, ou, bz⟩
  have d0 : we3.cell? ⟨B0, 0, none⟩ = some (.slice a01 n01 c01) := (Below.celz bz _ _ _ (by omega)).trans cc0
  have d1 : we3.cell? ⟨B0, 1, none⟩ = some (.slice a02 n02 c02) := (Below.celz bz _ _ _ (by omega)).trans cc1
  have d2 : we3.cell? ⟨B0, 2, none⟩ = some (.slice a03 n03 c03) := (Below.celz bz _ _ _ (by omega)).trans cc2
  have d3 : we3.cell? ⟨B0, 3, none⟩ = some (.slice a04 n04 c04) := (Below.celz bz _ _ _ (by omega)).trans cc3
  have d4 : we3.cell? ⟨B0, 4, none⟩ = some (.slice a05 n05 c05) := (Below.celz bz _ _ _ (by omega)).trans cc4
  have y0 : B0 < we3.heap.size := by have := Below.size bz; omega
  have BB1 : Below A w we3 := BB.trans (bz.mono (by omega))
  have sA1 : A ≤ we3.heap.size := by have := Below.size bz; omega
  have q0 : Hid (AtWorld we3 (.slice a01 n01 c01) (.slice a02 n02 c02) (.slice a03 n03 c03) (.slice a04 n04 c04) (.slice a05 n05 c05) x01 x02 x03 x04 x05) := HX.out.keep bz
  have q1 : Hid (Errs we3) := HE.out.keep bz
  clear BB sA cc0 cc1 cc2 cc3 cc4 zz0 HX HE
  have cc0 := d0
  have cc1 := d1
  have cc2 := d2
  have cc3 := d3
  have cc4 := d4
  have zz0 := y0
  have HX := q0
  have HE := q1
  have BB := BB1
  have sA := sA1
  clear BB1 sA1 d0 d1 d2 d3 d4 y0 q0 q1
  clear bz
  have fy : FewPool y24 := F0.out.2.2.2.1.same ey
  obtain ⟨a21, c21, a22, c22, a23, c23, a24, c24, a25, c25, rfl, rfl, rfl, rfl, rfl⟩ := ou.form
  have E2 : Hid (y24.map plPool = x04.map plPool ∧ FewWorld x01 x02 x03 y24 x05 ∧ CapPool y24) := ⟨ey, ⟨F0.out.1, F0.out.2.1, F0.out.2.2.1, fy, F0.out.2.2.2.2⟩, cy⟩
  clear ey fy cy
  generalize hg : x01.length = o21 at ou ⊢
  clear hg
  generalize hg : x02.length = o22 at ou ⊢
  clear hg
  generalize hg : x03.length = o23 at ou ⊢
  clear hg
  generalize hg : y24.length = o24 at ou ⊢
  clear hg
  generalize hg : x05.length = o25 at ou ⊢
  clear hg
  have HT2 : Hid (AtWorld we3 (.slice a21 o21 c21) (.slice a22 o22 c22) (.slice a23 o23 c23) (.slice a24 o24 c24) (.slice a25 o25 c25) x01 x02 x03 y24 x05) := ou
  clear ou
  go_wp2_with fail
  obtain ⟨C0, hC0⟩ : ∃ t, t = we3.heap.size := ⟨_, rfl⟩
  generalize hW : we3.alloc (.cells #[.slice a21 o21 c21, .slice a22 o22 c22, .slice a23 o23 c23, .slice a24 o24 c24, .slice a25 o25 c25] 40) = we4
  have nb : Below we3.heap.size we3 we4 := by rw [← hW]; exact (Below.refl _ _).alloc (Nat.le_refl _) _
  have k3 : we4.heap.size = C0 + 1 := by rw [← hW, hC0]; simp
  have kk0 : we4.cell? ⟨C0, 0, none⟩ = some (.slice a21 o21 c21) := by rw [← hW, hC0]; simp [go_sem]
  have kk1 : we4.cell? ⟨C0, 1, none⟩ = some (.slice a22 o22 c22) := by rw [← hW, hC0]; simp [go_sem]
  have kk2 : we4.cell? ⟨C0, 2, none⟩ = some (.slice a23 o23 c23) := by rw [← hW, hC0]; simp [go_sem]
  have kk3 : we4.cell? ⟨C0, 3, none⟩ = some (.slice a24 o24 c24) := by rw [← hW, hC0]; simp [go_sem]
  have kk4 : we4.cell? ⟨C0, 4, none⟩ = some (.slice a25 o25 c25) := by rw [← hW, hC0]; simp [go_sem]
  have oC0A : A ≤ C0 := by rw [hC0]; exact sA
  have oC00 : B0 < C0 := by rw [hC0]; exact zz0
  have d0 : we4.cell? ⟨B0, 0, none⟩ = some (.slice a01 n01 c01) := (Below.celz nb _ _ _ (by omega)).trans cc0
  have d1 : we4.cell? ⟨B0, 1, none⟩ = some (.slice a02 n02 c02) := (Below.celz nb _ _ _ (by omega)).trans cc1
  have d2 : we4.cell? ⟨B0, 2, none⟩ = some (.slice a03 n03 c03) := (Below.celz nb _ _ _ (by omega)).trans cc2
  have d3 : we4.cell? ⟨B0, 3, none⟩ = some (.slice a04 n04 c04) := (Below.celz nb _ _ _ (by omega)).trans cc3
  have d4 : we4.cell? ⟨B0, 4, none⟩ = some (.slice a05 n05 c05) := (Below.celz nb _ _ _ (by omega)).trans cc4
  have y0 : B0 < we4.heap.size := by have := Below.size nb; omega
  have BB1 : Below A w we4 := BB.trans (nb.mono (by omega))
  have sA1 : A ≤ we4.heap.size := by have := Below.size nb; omega
  have q0 : Hid (AtWorld we4 (.slice a01 n01 c01) (.slice a02 n02 c02) (.slice a03 n03 c03) (.slice a04 n04 c04) (.slice a05 n05 c05) x01 x02 x03 x04 x05) := HX.out.keep nb
  have q1 : Hid (Errs we4) := HE.out.keep nb
  have q2 : Hid (AtWorld we4 (.slice a21 o21 c21) (.slice a22 o22 c22) (.slice a23 o23 c23) (.slice a24 o24 c24) (.slice a25 o25 c25) x01 x02 x03 y24 x05) := HT2.out.keep nb
  clear BB sA cc0 cc1 cc2 cc3 cc4 zz0 HX HE HT2
  have cc0 := d0
  have cc1 := d1
  have cc2 := d2
  have cc3 := d3
  have cc4 := d4
  have zz0 := y0
  have HX := q0
  have HE := q1
  have HT2 := q2
  have BB := BB1
  have sA := sA1
  clear BB1 sA1 d0 d1 d2 d3 d4 y0 q0 q1 q2
  have cc5 := kk0
  have cc6 := kk1
  have cc7 := kk2
  have cc8 := kk3
  have cc9 := kk4
  have zz1 : C0 < we4.heap.size := by omega
  rw [← hC0]
  have k3C0 := k3
  clear k3 hW nb hC0 kk0 kk1 kk2 kk3 kk4
  clear k3C0
  refine (impl_WorldOk _ _ _ _ _ x01 x02 x03 y24 x05 _ HT2.out E2.out.2.1 HE.out).mono ?_
  rintro e we5 ⟨rfl, bz⟩
  have d0 : we5.cell? ⟨B0, 0, none⟩ = some (.slice a01 n01 c01) := (Below.celz bz _ _ _ (by omega)).trans cc0
  have d1 : we5.cell? ⟨B0, 1, none⟩ = some (.slice a02 n02 c02) := (Below.celz bz _ _ _ (by omega)).trans cc1
  have d2 : we5.cell? ⟨B0, 2, none⟩ = some (.slice a03 n03 c03) := (Below.celz bz _ _ _ (by omega)).trans cc2
  have d3 : we5.cell? ⟨B0, 3, none⟩ = some (.slice a04 n04 c04) := (Below.celz bz _ _ _ (by omega)).trans cc3
  have d4 : we5.cell? ⟨B0, 4, none⟩ = some (.slice a05 n05 c05) := (Below.celz bz _ _ _ (by omega)).trans cc4
  have d5 : we5.cell? ⟨C0, 0, none⟩ = some (.slice a21 o21 c21) := (Below.celz bz _ _ _ (by omega)).trans cc5
  have d6 : we5.cell? ⟨C0, 1, none⟩ = some (.slice a22 o22 c22) := (Below.celz bz _ _ _ (by omega)).trans cc6
  have d7 : we5.cell? ⟨C0, 2, none⟩ = some (.slice a23 o23 c23) := (Below.celz bz _ _ _ (by omega)).trans cc7
  have d8 : we5.cell? ⟨C0, 3, none⟩ = some (.slice a24 o24 c24) := (Below.celz bz _ _ _ (by omega)).trans cc8
  have d9 : we5.cell? ⟨C0, 4, none⟩ = some (.slice a25 o25 c25) := (Below.celz bz _ _ _ (by omega)).trans cc9
  have y0 : B0 < we5.heap.size := by have := Below.size bz; omega
  have y1 : C0 < we5.heap.size := by have := Below.size bz; omega
  have BB1 : Below A w we5 := BB.trans (bz.mono (by omega))
  have sA1 : A ≤ we5.heap.size := by have := Below.size bz; omega
  have q0 : Hid (AtWorld we5 (.slice a01 n01 c01) (.slice a02 n02 c02) (.slice a03 n03 c03) (.slice a04 n04 c04) (.slice a05 n05 c05) x01 x02 x03 x04 x05) := HX.out.keep bz
  have q1 : Hid (Errs we5) := HE.out.keep bz
  have q2 : Hid (AtWorld we5 (.slice a21 o21 c21) (.slice a22 o22 c22) (.slice a23 o23 c23) (.slice a24 o24 c24) (.slice a25 o25 c25) x01 x02 x03 y24 x05) := HT2.out.keep bz
  clear BB sA cc0 cc1 cc2 cc3 cc4 cc5 cc6 cc7 cc8 cc9 zz0 zz1 HX HE HT2
  have cc0 := d0
  have cc1 := d1
  have cc2 := d2
  have cc3 := d3
  have cc4 := d4
  have cc5 := d5
  have cc6 := d6
  have cc7 := d7
  have cc8 := d8
  have cc9 := d9
  have zz0 := y0
  have zz1 := y1
  have HX := q0
  have HE := q1
  have HT2 := q2
  have BB := BB1
  have sA := sA1
  clear BB1 sA1 d0 d1 d2 d3 d4 d5 d6 d7 d8 d9 y0 y1 q0 q1 q2
  clear bz
  rw [wokB_same E2.out.1, HBB.out]
  go_wp2_with fail
  have HXA0 : Hid (∀ w', Below we5.heap.size we5 w' → AtWorld w' (.slice a01 n01 c01) (.slice a02 n02 c02) (.slice a03 n03 c03) (.slice a04 n04 c04) (.slice a05 n05 c05) x01 x02 x03 x04 x05) := fun w' h => HX.out.keep h
  have HTA : Hid (∀ w', Below we5.heap.size we5 w' → AtWorld w' (.slice a21 o21 c21) (.slice a22 o22 c22) (.slice a23 o23 c23) (.slice a24 o24 c24) (.slice a25 o25 c25) x01 x02 x03 y24 x05) := fun w' h => HT2.out.keep h
  have hS : Hid (∀ w', Below we5.heap.size we5 w' → Below we5.heap.size we5 w' ∧ w'.cell? ⟨B0, 0, none⟩ = some (.slice a01 n01 c01) ∧ w'.cell? ⟨B0, 1, none⟩ = some (.slice a02 n02 c02) ∧ w'.cell? ⟨B0, 2, none⟩ = some (.slice a03 n03 c03) ∧ w'.cell? ⟨B0, 3, none⟩ = some (.slice a04 n04 c04) ∧ w'.cell? ⟨B0, 4, none⟩ = some (.slice a05 n05 c05) ∧ w'.cell? ⟨C0, 0, none⟩ = some (.slice a21 o21 c21) ∧ w'.cell? ⟨C0, 1, none⟩ = some (.slice a22 o22 c22) ∧ w'.cell? ⟨C0, 2, none⟩ = some (.slice a23 o23 c23) ∧ w'.cell? ⟨C0, 3, none⟩ = some (.slice a24 o24 c24) ∧ w'.cell? ⟨C0, 4, none⟩ = some (.slice a25 o25 c25)) := fun w' hn => ⟨hn, (Below.celz hn _ _ _ zz0).trans cc0, (Below.celz hn _ _ _ zz0).trans cc1, (Below.celz hn _ _ _ zz0).trans cc2, (Below.celz hn _ _ _ zz0).trans cc3, (Below.celz hn _ _ _ zz0).trans cc4, (Below.celz hn _ _ _ zz1).trans cc5, (Below.celz hn _ _ _ zz1).trans cc6, (Below.celz hn _ _ _ zz1).trans cc7, (Below.celz hn _ _ _ zz1).trans cc8, (Below.celz hn _ _ _ zz1).trans cc9⟩
  go_region_held3 (fun w' => Below we5.heap.size we5 w' ∧ w'.cell? ⟨B0, 0, none⟩ = some (.slice a01 n01 c01) ∧ w'.cell? ⟨B0, 1, none⟩ = some (.slice a02 n02 c02) ∧ w'.cell? ⟨B0, 2, none⟩ = some (.slice a03 n03 c03) ∧ w'.cell? ⟨B0, 3, none⟩ = some (.slice a04 n04 c04) ∧ w'.cell? ⟨B0, 4, none⟩ = some (.slice a05 n05 c05) ∧ w'.cell? ⟨C0, 0, none⟩ = some (.slice a21 o21 c21) ∧ w'.cell? ⟨C0, 1, none⟩ = some (.slice a22 o22 c22) ∧ w'.cell? ⟨C0, 2, none⟩ = some (.slice a23 o23 c23) ∧ w'.cell? ⟨C0, 3, none⟩ = some (.slice a24 o24 c24) ∧ w'.cell? ⟨C0, 4, none⟩ = some (.slice a25 o25 c25))
    (first | with_reducible exact hS.out _ (Below.refl _ _).drew | (with_reducible exact hS.out _ (keep_below (And.left (by assumption)) b3)) | (with_reducible exact hS.out _ (keep_below (And.left (by assumption)) b1)))
    (first | (go_at_call_of 6 (Value.agg #[.slice a01 n01 c01, .slice a02 n02 c02, .slice a03 n03 c03, .slice a04 n04 c04, .slice a05 n05 c05]); refine (toWorld _ _ _ _ _ x01 x02 x03 x04 x05 _ (HXA0.out _ (And.left (by assumption))) F0.out).mono ?_; rintro e wx ⟨g1, g2, g3, g4, g5, ya, rfl, eya, oa, b1⟩) | (go_at_call 8; refine (eqWorld _ _ _ _ _ _ _ _ _ _ x01 x02 x03 y24 x05 x01 x02 x03 ya x05 _ (HTA.out _ (And.left (by assumption))) oa E2.out.2.1 ⟨F0.out.1, F0.out.2.1, F0.out.2.2.1, F0.out.2.2.2.1.same eya, F0.out.2.2.2.2⟩).mono ?_; rintro e we6 ⟨rfl, b3⟩))
  have lb : Below we5.heap.size we5 we6 := And.left (show Below we5.heap.size we5 we6 ∧ we6.cell? ⟨B0, 0, none⟩ = some (.slice a01 n01 c01) ∧ we6.cell? ⟨B0, 1, none⟩ = some (.slice a02 n02 c02) ∧ we6.cell? ⟨B0, 2, none⟩ = some (.slice a03 n03 c03) ∧ we6.cell? ⟨B0, 3, none⟩ = some (.slice a04 n04 c04) ∧ we6.cell? ⟨B0, 4, none⟩ = some (.slice a05 n05 c05) ∧ we6.cell? ⟨C0, 0, none⟩ = some (.slice a21 o21 c21) ∧ we6.cell? ⟨C0, 1, none⟩ = some (.slice a22 o22 c22) ∧ we6.cell? ⟨C0, 2, none⟩ = some (.slice a23 o23 c23) ∧ we6.cell? ⟨C0, 3, none⟩ = some (.slice a24 o24 c24) ∧ we6.cell? ⟨C0, 4, none⟩ = some (.slice a25 o25 c25) by assumption)
  clear hS
  have d0 : we6.cell? ⟨B0, 0, none⟩ = some (.slice a01 n01 c01) := (Below.celz lb _ _ _ (by omega)).trans cc0
  have d1 : we6.cell? ⟨B0, 1, none⟩ = some (.slice a02 n02 c02) := (Below.celz lb _ _ _ (by omega)).trans cc1
  have d2 : we6.cell? ⟨B0, 2, none⟩ = some (.slice a03 n03 c03) := (Below.celz lb _ _ _ (by omega)).trans cc2
  have d3 : we6.cell? ⟨B0, 3, none⟩ = some (.slice a04 n04 c04) := (Below.celz lb _ _ _ (by omega)).trans cc3
  have d4 : we6.cell? ⟨B0, 4, none⟩ = some (.slice a05 n05 c05) := (Below.celz lb _ _ _ (by omega)).trans cc4
  have d5 : we6.cell? ⟨C0, 0, none⟩ = some (.slice a21 o21 c21) := (Below.celz lb _ _ _ (by omega)).trans cc5
  have d6 : we6.cell? ⟨C0, 1, none⟩ = some (.slice a22 o22 c22) := (Below.celz lb _ _ _ (by omega)).trans cc6
  have d7 : we6.cell? ⟨C0, 2, none⟩ = some (.slice a23 o23 c23) := (Below.celz lb _ _ _ (by omega)).trans cc7
  have d8 : we6.cell? ⟨C0, 3, none⟩ = some (.slice a24 o24 c24) := (Below.celz lb _ _ _ (by omega)).trans cc8
  have d9 : we6.cell? ⟨C0, 4, none⟩ = some (.slice a25 o25 c25) := (Below.celz lb _ _ _ (by omega)).trans cc9
  have y0 : B0 < we6.heap.size := by have := Below.size lb; omega
  have y1 : C0 < we6.heap.size := by have := Below.size lb; omega
  have BB1 : Below A w we6 := BB.trans (lb.mono (by omega))
  have sA1 : A ≤ we6.heap.size := by have := Below.size lb; omega
  have q0 : Hid (AtWorld we6 (.slice a01 n01 c01) (.slice a02 n02 c02) (.slice a03 n03 c03) (.slice a04 n04 c04) (.slice a05 n05 c05) x01 x02 x03 x04 x05) := HX.out.keep lb
  have q1 : Hid (Errs we6) := HE.out.keep lb
  have q2 : Hid (AtWorld we6 (.slice a21 o21 c21) (.slice a22 o22 c22) (.slice a23 o23 c23) (.slice a24 o24 c24) (.slice a25 o25 c25) x01 x02 x03 y24 x05) := HT2.out.keep lb
  clear BB sA cc0 cc1 cc2 cc3 cc4 cc5 cc6 cc7 cc8 cc9 zz0 zz1 HX HE HT2
  have cc0 := d0
  have cc1 := d1
  have cc2 := d2
  have cc3 := d3
  have cc4 := d4
  have cc5 := d5
  have cc6 := d6
  have cc7 := d7
  have cc8 := d8
  have cc9 := d9
  have zz0 := y0
  have zz1 := y1
  have HX := q0
  have HE := q1
  have HT2 := q2
  have BB := BB1
  have sA := sA1
  clear BB1 sA1 d0 d1 d2 d3 d4 d5 d6 d7 d8 d9 y0 y1 q0 q1 q2
  clear lb
  rw [show sameW x01 x02 x03 y24 x05 x01 x02 x03 ya x05 = true from sameW_true.2 ⟨rfl, rfl, rfl, E2.out.1.trans eya.symm, rfl⟩]
  clear eya oa b1 b3 HXA0 HTA
  go_wp2_with fail
  go_ret
  exact ⟨rfl, (by have := BB; rw [HA.out] at this; exact this)⟩

theorem door_met (os : Os) (args : Array Value) : laidMetH Tryd.prog Rows.fnExactWorldOkRow.laid ((World.doorLaid Tryd.prog 85 os).forCall (fun _ _ => 0) ⟨#[], args, []⟩).memory :=
  laidMetH_of_parts3 (fuel := 8) (laidMet_of_run' 8 (by kernel_rfl) (by kernel_rfl)) (by kernel_rfl) (by kernel_rfl)

set_option maxRecDepth 100000 in
set_option maxHeartbeats 1000000 in
theorem lifted (os : Os) (started : os.Started) (H : Type) (enc : TypeId × Value → H) :
    ReturnsInHanded {} Tryd.checked os 3 .any (fun w args => (Rows.fnExactWorldOkSpec.pre enc Tryd.prog Tryd.f3 [] false w args ∧ laidMetH Tryd.prog Rows.fnExactWorldOkRow.laid w) ∧ sizedMet enc Tryd.prog Tryd.f3 (OpenSpec.ofChange Rows.fnExactWorldOkSpec) false w args)
      (Rows.fnExactWorldOkSpec.post enc Tryd.prog Tryd.f3 false true false false) := by
  refine returnsInHanded_of_change_and (C := Tryd.checked) (X := fun w _ => laidMetH Tryd.prog Rows.fnExactWorldOkRow.laid w) (fun _ _ _ hh h => h.of_heap hh) own started (by kernel_rfl) Tryd.func3
    (ChangeSpec.witness_shaped (enc := enc) (C := Tryd.checked) (os := os) (X := fun w _ => laidMetH Tryd.prog Rows.fnExactWorldOkRow.laid w) false (World.doorLaid Tryd.prog 85 os) #[.agg #[.slice none 0 0, .slice none 0 0, .slice none 0 0, .slice none 0 0, .slice none 0 0]] 8 rfl (World.shaped_of_RefB (by kernel_rfl) (by kernel_rfl)) (by kernel_rfl) (by kernel_rfl) (by kernel_rfl) (door_met os _)) ?_
  intro W base args ds gs before hval0 hW _ _ hL _
  have hval : ∀ (j : Nat) t v, Tryd.f3.params[j]? = some t → args[j]? = some v → Value.okWide Tryd.prog W .any base t v := hval0
  have hW' := hW
  obtain ⟨p, q, hA0, hV0, rfl, hfz, hnd⟩ := hW
  have hA : DataW.TrodAll enc Tryd.prog W 0 (fun _ => true) true Tryd.f3.params.toList args.toList ds p := hA0
  have hV : DataW.TrodVars enc Tryd.prog W (fun _ => true) ["loop.example/hagioscope/impl.errForm", "loop.example/hagioscope/impl.errThere", "loop.example/hagioscope/impl.errFull", "loop.example/hagioscope/impl.errNone"] gs q := hV0
  rw [Tryd.params3] at hA hval
  obtain ⟨v0, vs0, d0, ds0, p0, q0, hargs, rfl, rfl, h0, r0⟩ := trodAll_cons hA
  obtain ⟨rfl, rfl, rfl⟩ := trodAll_nil r0
  obtain rfl : args = #[v0] := by cases args; simp_all
  have kr0 := h0
  have lt0 : ∀ x ∈ p0, x.block < W.heap.size := by obtain ⟨m, hm⟩ := kr0; exact DataW.trod_lt m _ _ _ hm
  obtain ⟨v01, v02, v03, v04, v05, x01, x02, x03, x04, x05, rfl, w0⟩ := open_world (hval 0 30 v0 rfl rfl) h0
  have hI := held_of hL
  have hE : Errs W := errs_of hI
  obtain ⟨g1, g2, g3, g4, rfl⟩ : ∃ g1 g2 g3 g4, gs = [g1, g2, g3, g4] := by
    have hlen := vars_len _ _ _ hV
    match gs, hlen with
    | [g1, g2, g3, g4], _ => exact ⟨g1, g2, g3, g4, rfl⟩
  clear hA0 hV0 hval0
  refine (walk v01 v02 v03 v04 v05 x01 x02 x03 x04 x05 W w0 hE).mono fun e W' ⟨he, bel⟩ => ?_
  subst he
  exact ⟨_, rfl, _, _, _, [], _, _, hW', trodAll_mk1 (shut_bool Tryd.underlying4 _), (trodAll_cons_mk (Below.trod laidOut (by kernel_rfl) (of_decide_eq_true (by kernel_rfl)) kr0 bel lt0) trodAll_mk0), vars_keep Tryd.underlying62 bel _ _ _ hV hI, bel.frame _, fun h => by cases h⟩

theorem said : Rows.FnExactWorldOkSaid :=
  OpenClaim.holds_of_wide 3 Tryd.f3 rfl rfl rfl rfl rfl rfl rfl ⟨rfl, rfl, rfl, rfl, rfl⟩ rfl rfl rfl rfl rfl (by kernel_rfl) Tryd.func3 (by kernel_rfl)
    (of_decide_eq_true (by kernel_rfl)) (by unfold Func.isWrapper; first | (rw [if_pos (by decide +kernel)]; kernel_rfl) | (rw [if_neg (by decide +kernel)]; exact ⟨rfl, rfl⟩))
    (fun os started H enc _ => lifted os started H enc)

theorem plain (f : FuncId) (fn : Func) (hf : Tryd.pinned.checked.prog.funcNamed "loop.example/hagioscope/laws.FnExactWorldOk" = some f) (hfn : Tryd.pinned.checked.prog.funcs[f]? = some fn) :
    false = Tryd.pinned.checked.prog.looks [] ∧ ∀ (j : Nat) t, fn.params[j]? = some t → Tryd.pinned.checked.prog.wantsStandIn t = false := by
  obtain rfl : f = 3 := Option.some.inj ((show Tryd.prog.funcNamed "loop.example/hagioscope/laws.FnExactWorldOk" = some 3 by kernel_rfl).symm.trans hf) |>.symm
  obtain rfl : fn = Tryd.f3 := (Option.some.inj (Tryd.func3.symm.trans hfn)).symm
  refine ⟨by kernel_rfl, fun j t ht => ?_⟩
  rw [Tryd.params3] at ht
  obtain rfl : t = 30 := by simpa using Array.mem_of_getElem? ht
  · exact (show Tryd.prog.wantsStandIn 30 = false by kernel_rfl)

end Go.Proofs.YtfnmalcjhblhhaaDoor.fnExactWorldOk
namespace Go.Proofs.YtfnmalcjhblhhaaDoor
theorem fnExactWorldOk_card : Rows.FnExactWorldOkCardSaid :=
  Claim7.holds_tied_plain_at .later [] _ _ _ _ fnExactWorldOk.said (fun _ h => by cases h) (by kernel_rfl) (fun _ h => by cases h) fnExactWorldOk_row_tie rfl ⟨rfl, rfl⟩ (by kernel_rfl) rfl fnExactWorldOk.plain (by kernel_rfl)
#print axioms fnExactWorldOk_card
end Go.Proofs.YtfnmalcjhblhhaaDoor
