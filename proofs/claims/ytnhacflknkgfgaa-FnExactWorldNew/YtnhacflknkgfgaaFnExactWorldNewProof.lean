/-
  WorldNew of the program answers as the model, at every argument; it writes into no argument, and its answer owns its memory.
-/
import Derived.Test.YtnhacflknkgfgaaRows
import Derived.Test.YtnhacflknkgfgaaWnl
import Derived.Test.YtnhacflknkgfgaaOpr
import Derived.WalkKit
import Derived.ProofKit
import Derived.OpenShut
import Derived.ShutString
import Derived.ChangeOld
import Derived.Below
import Derived.Carry
import Derived.Handy
import Derived.Deep.RegionHeld3
namespace Go.Proofs.Ytnhacflknkgfgaa.fnExactWorldNew
open Go.Proofs.Ytnhacflknkgfgaa.Lab
open Go.ChangeShapes Go.WideShapes Go.ChangeAt Go.RowKit
open Go.ChangeMaps (open_string shut_string)
set_option linter.unusedVariables false

theorem own : ownKnob Try.prog.godebug = none := by kernel_rfl
theorem laidOut : laidOutB Try.prog = true := by kernel_rfl
/-- A row of numbers that came in: nil, or so many cells. -/
def IsRow (k : IntKind) (w : World) (a : Option Addr) (len cap : Nat) (zs : List Int) : Prop :=
  (a = none ∧ len = 0 ∧ cap = 0 ∧ zs = []) ∨ ∃ x, a = some x ∧ len ≤ cap ∧ cap ≤ maxLen ∧ zs.length = cap ∧ (∀ i, i < zs.length → w.cell? (x.add i) = some (.int k (zs.getD i 0))) ∧ ∀ n ∈ zs, (Lit.int k n).wf = true

set_option maxHeartbeats 4000000 in
theorem walk (v0 : Value) (xs0 : List (Int × Int × Int)) (w : World) (w0 : PeopleIn w v0 xs0) :
    Calls Try.prog 4 #[v0] w fun e w' => e = .returned (.bool true) ∧ Below w.heap.size w w' := by
  obtain ⟨r0, m0, g0⟩ := w0
  simp only [maxLen, Nat.reducePow, Nat.reduceSub] at m0
  obtain ⟨aa, ac, rfl⟩ := r0.len
  obtain ⟨n, hn⟩ : ∃ t, t = xs0.length := ⟨_, rfl⟩
  have HN : Hid (n = xs0.length) := hn
  rw [← hn] at r0 m0 ⊢
  clear g0 hn
  obtain ⟨A, hA⟩ : ∃ t, t = w.heap.size := ⟨_, rfl⟩
  have HA : Hid (A = w.heap.size) := hA
  have BB : Below A w w := Below.refl _ _
  have sA : A ≤ w.heap.size := by omega
  clear hA
  have HR0 : Hid (RowAt 3 encPerson w (.slice aa n ac) xs0) := r0
  have HR : Hid (RowAt 3 encPerson w (.slice aa n ac) xs0) := r0
  clear r0
  go_enter Try.func4, Try.ntmps4
  go_wp2_with fail
  refine use (szPersonS aa n ac 1048576 _ (by omega) (by omega) m0) ?_
  by_cases hsz : ¬ (n : Int) ≤ 1048576
  · rw [if_neg hsz]
    go_wp2_with fail
    go_ret
    exact ⟨rfl, (by have := BB; rw [HA.out] at this; exact this)⟩
  rw [if_pos (by omega)]
  have ln : n ≤ 1048576 := by omega
  go_wp2_with fail
  obtain ⟨ys, HYS, ly⟩ : ∃ ys, Hid (newL xs0 = ys) ∧ ys.length ≤ 4 := ⟨_, rfl, newL_len _⟩
  refine (toPersonS _ xs0 _ HR.out (by rw [← HN.out]; exact ln)).mono ?_
  rintro e wa ⟨t1, rfl, ot, bz⟩
  have BB1 : Below A w wa := BB.trans (bz.mono (by omega))
  have sA1 : A ≤ wa.heap.size := by have := Below.size bz; omega
  have q0 : Hid (RowAt 3 encPerson wa (.slice aa n ac) xs0) := HR.out.keep bz
  clear BB sA   HR
  have HR := q0
  have BB := BB1
  have sA := sA1
  clear BB1 sA1   q0
  clear bz
  have rt := row_of_own encPerson_len (by decide) ot
  clear ot
  have HT : Hid (RowAt 3 encPerson wa t1 xs0) := rt
  clear rt
  go_wp2_with fail
  obtain ⟨b1, hb1⟩ : ∃ t, t = wa.heap.size := ⟨_, rfl⟩
  refine (spec_WorldNew _ xs0 _ HT.out (by rw [← HN.out]; exact ln)).mono ?_
  rintro e wb ⟨u1, u4, u5, rfl, ow, bz⟩
  have BB1 : Below A w wb := BB.trans (bz.mono (by omega))
  have sA1 : A ≤ wb.heap.size := by have := Below.size bz; omega
  have q0 : Hid (RowAt 3 encPerson wb (.slice aa n ac) xs0) := HR.out.keep bz
  have q1 : Hid (RowAt 3 encPerson wb t1 xs0) := HT.out.keep bz
  clear BB sA   HR HT
  have HR := q0
  have HT := q1
  have BB := BB1
  have sA := sA1
  clear BB1 sA1   q0 q1
  clear bz
  clear HT
  rw [HYS.out] at ow
  obtain ⟨u1a, u1c, rfl⟩ := own_form ow.o1
  obtain ⟨u4a, u4c, rfl⟩ := own_form ow.o4
  obtain ⟨u5a, u5c, rfl⟩ := own_form ow.o5
  generalize hl : ys.length = l at *
  have HL : Hid (ys.length = l) := hl
  clear hl
  rw [← hb1] at ow
  clear hb1
  have HW0 : Hid (NewW wb b1 (.slice u1a l u1c) (.slice u4a l u4c) (.slice u5a l u5c) ys) := ow
  clear ow
  go_wp2_with fail
  obtain ⟨B0, hB0⟩ : ∃ t, t = wb.heap.size := ⟨_, rfl⟩
  generalize hW : wb.alloc (.cells #[.slice u1a l u1c, .slice none 0 0, .slice none 0 0, .slice u4a l u4c, .slice u5a l u5c] 38) = wc
  have nb : Below wb.heap.size wb wc := by rw [← hW]; exact (Below.refl _ _).alloc (Nat.le_refl _) _
  have k3 : wc.heap.size = B0 + 1 := by rw [← hW, hB0]; simp
  have kk0 : wc.cell? ⟨B0, 0, none⟩ = some (.slice u1a l u1c) := by rw [← hW, hB0]; simp [go_sem]
  have kk1 : wc.cell? ⟨B0, 1, none⟩ = some (.slice none 0 0) := by rw [← hW, hB0]; simp [go_sem]
  have kk2 : wc.cell? ⟨B0, 2, none⟩ = some (.slice none 0 0) := by rw [← hW, hB0]; simp [go_sem]
  have kk3 : wc.cell? ⟨B0, 3, none⟩ = some (.slice u4a l u4c) := by rw [← hW, hB0]; simp [go_sem]
  have kk4 : wc.cell? ⟨B0, 4, none⟩ = some (.slice u5a l u5c) := by rw [← hW, hB0]; simp [go_sem]
  have oB0A : A ≤ B0 := by rw [hB0]; exact sA
  have BB1 : Below A w wc := BB.trans (nb.mono (by omega))
  have sA1 : A ≤ wc.heap.size := by have := Below.size nb; omega
  have q0 : Hid (RowAt 3 encPerson wc (.slice aa n ac) xs0) := HR.out.keep nb
  have q1 : Hid (NewW wc b1 (.slice u1a l u1c) (.slice u4a l u4c) (.slice u5a l u5c) ys) := HW0.out.keep nb
  clear BB sA   HR HW0
  have HR := q0
  have HW0 := q1
  have BB := BB1
  have sA := sA1
  clear BB1 sA1   q0 q1
  have cc0 := kk0
  have cc1 := kk1
  have cc2 := kk2
  have cc3 := kk3
  have cc4 := kk4
  have zz0 : B0 < wc.heap.size := by omega
  rw [← hB0]
  have k3B0 := k3
  clear k3 hW nb hB0 kk0 kk1 kk2 kk3 kk4
  clear k3B0
  obtain ⟨bx, hbx⟩ : ∃ t, t = wc.heap.size := ⟨_, rfl⟩
  have lB0 : B0 < bx := by omega
  have lbA : A ≤ bx := by omega
  have BW : Hid (∀ g, GW (.slice u1a l u1c) (.slice u4a l u4c) (.slice u5a l u5c) g → g < bx) := fun g h => by rw [hbx]; exact (HW0.out.blocks h).2
  obtain ⟨bxp, hbxp⟩ : ∃ t, wc.heap.size = t + 1 := ⟨wc.heap.size - 1, by omega⟩
  have zz1 : bxp < wc.heap.size := by omega
  have lxp : bx = bxp + 1 := by omega
  clear hbxp
  refine (toPersonS _ xs0 _ HR.out (by rw [← HN.out]; exact ln)).mono ?_
  rintro e wd ⟨t2, rfl, ot, bz⟩
  have d0 : wd.cell? ⟨B0, 0, none⟩ = some (.slice u1a l u1c) := (Below.celz bz _ _ _ (by omega)).trans cc0
  have d1 : wd.cell? ⟨B0, 1, none⟩ = some (.slice none 0 0) := (Below.celz bz _ _ _ (by omega)).trans cc1
  have d2 : wd.cell? ⟨B0, 2, none⟩ = some (.slice none 0 0) := (Below.celz bz _ _ _ (by omega)).trans cc2
  have d3 : wd.cell? ⟨B0, 3, none⟩ = some (.slice u4a l u4c) := (Below.celz bz _ _ _ (by omega)).trans cc3
  have d4 : wd.cell? ⟨B0, 4, none⟩ = some (.slice u5a l u5c) := (Below.celz bz _ _ _ (by omega)).trans cc4
  have y0 : B0 < wd.heap.size := by have := Below.size bz; omega
  have y1 : bxp < wd.heap.size := by have := Below.size bz; omega
  have BB1 : Below A w wd := BB.trans (bz.mono (by omega))
  have sA1 : A ≤ wd.heap.size := by have := Below.size bz; omega
  have q0 : Hid (RowAt 3 encPerson wd (.slice aa n ac) xs0) := HR.out.keep bz
  have q1 : Hid (NewW wd b1 (.slice u1a l u1c) (.slice u4a l u4c) (.slice u5a l u5c) ys) := HW0.out.keep bz
  clear BB sA cc0 cc1 cc2 cc3 cc4 zz0 zz1 HR HW0
  have cc0 := d0
  have cc1 := d1
  have cc2 := d2
  have cc3 := d3
  have cc4 := d4
  have zz0 := y0
  have zz1 := y1
  have HR := q0
  have HW0 := q1
  have BB := BB1
  have sA := sA1
  clear BB1 sA1 d0 d1 d2 d3 d4 y0 y1 q0 q1
  clear bz
  obtain ⟨xa, xc, rfl⟩ := own_form ot
  rw [← HN.out, ← hbx] at ot
  rw [← HN.out]
  clear hbx
  have BX : Hid (∀ g, (Value.slice xa n xc).ownBlock = some g → bx ≤ g ∧ g < wd.heap.size) := fun g h => ot.lt g h
  have HX0 : Hid (OwnP wd bx (.slice xa n xc) n xs0) := ot
  clear ot
  go_wp2_with fail
  obtain ⟨bg, hbg⟩ : ∃ t, t = wd.heap.size := ⟨_, rfl⟩
  have lbg : B0 < bg := by omega
  have lxg : bx ≤ bg := by omega
  rw [← hbg] at BX
  obtain ⟨bgp, hbgp⟩ : ∃ t, wd.heap.size = t + 1 := ⟨wd.heap.size - 1, by omega⟩
  have zz2 : bgp < wd.heap.size := by omega
  have lgp : bg = bgp + 1 := by omega
  clear hbgp
  refine (impl_WorldNew _ xs0 _ (row_of_own encPerson_len (by decide) (by have := HX0.out; unfold OwnP at this; rw [← HN.out]; exact this)) (by rw [← HN.out]; exact ln)).mono ?_
  rintro e we ⟨p1, p4, p5, rfl, og, bz⟩
  have d0 : we.cell? ⟨B0, 0, none⟩ = some (.slice u1a l u1c) := (Below.celz bz _ _ _ (by omega)).trans cc0
  have d1 : we.cell? ⟨B0, 1, none⟩ = some (.slice none 0 0) := (Below.celz bz _ _ _ (by omega)).trans cc1
  have d2 : we.cell? ⟨B0, 2, none⟩ = some (.slice none 0 0) := (Below.celz bz _ _ _ (by omega)).trans cc2
  have d3 : we.cell? ⟨B0, 3, none⟩ = some (.slice u4a l u4c) := (Below.celz bz _ _ _ (by omega)).trans cc3
  have d4 : we.cell? ⟨B0, 4, none⟩ = some (.slice u5a l u5c) := (Below.celz bz _ _ _ (by omega)).trans cc4
  have y0 : B0 < we.heap.size := by have := Below.size bz; omega
  have y1 : bxp < we.heap.size := by have := Below.size bz; omega
  have y2 : bgp < we.heap.size := by have := Below.size bz; omega
  have BB1 : Below A w we := BB.trans (bz.mono (by omega))
  have sA1 : A ≤ we.heap.size := by have := Below.size bz; omega
  have q0 : Hid (RowAt 3 encPerson we (.slice aa n ac) xs0) := HR.out.keep bz
  have q1 : Hid (NewW we b1 (.slice u1a l u1c) (.slice u4a l u4c) (.slice u5a l u5c) ys) := HW0.out.keep bz
  have q2 : Hid (OwnP we bx (.slice xa n xc) n xs0) := HX0.out.keep bz
  clear BB sA cc0 cc1 cc2 cc3 cc4 zz0 zz1 zz2 HR HW0 HX0
  have cc0 := d0
  have cc1 := d1
  have cc2 := d2
  have cc3 := d3
  have cc4 := d4
  have zz0 := y0
  have zz1 := y1
  have zz2 := y2
  have HR := q0
  have HW0 := q1
  have HX0 := q2
  have BB := BB1
  have sA := sA1
  clear BB1 sA1 d0 d1 d2 d3 d4 y0 y1 y2 q0 q1 q2
  clear bz
  rw [HYS.out] at og
  obtain ⟨p1a, p1c, rfl⟩ := own_form og.o1
  obtain ⟨p4a, p4c, rfl⟩ := own_form og.o4
  obtain ⟨p5a, p5c, rfl⟩ := own_form og.o5
  rw [← hbg] at og
  clear hbg
  rw [HL.out]
  have HG0 : Hid (NewW we bg (.slice p1a l p1c) (.slice p4a l p4c) (.slice p5a l p5c) ys) := by have := og; rw [HL.out] at this; exact this
  clear og
  obtain ⟨egp, hegp⟩ : ∃ t, we.heap.size = t + 1 := ⟨we.heap.size - 1, by omega⟩
  have zz3 : egp < we.heap.size := by omega
  have BG : Hid (∀ g, GW (.slice p1a l p1c) (.slice p4a l p4c) (.slice p5a l p5c) g → bg ≤ g ∧ g ≤ egp) := fun g h => by have h1 := HG0.out.blocks h; rw [hegp] at h1; omega
  clear hegp
  go_wp2_with fail
  obtain ⟨C0, hC0⟩ : ∃ t, t = we.heap.size := ⟨_, rfl⟩
  generalize hW : we.alloc (.cells #[.slice p1a l p1c, .slice none 0 0, .slice none 0 0, .slice p4a l p4c, .slice p5a l p5c] 38) = wf
  have nb : Below we.heap.size we wf := by rw [← hW]; exact (Below.refl _ _).alloc (Nat.le_refl _) _
  have k3 : wf.heap.size = C0 + 1 := by rw [← hW, hC0]; simp
  have kk0 : wf.cell? ⟨C0, 0, none⟩ = some (.slice p1a l p1c) := by rw [← hW, hC0]; simp [go_sem]
  have kk1 : wf.cell? ⟨C0, 1, none⟩ = some (.slice none 0 0) := by rw [← hW, hC0]; simp [go_sem]
  have kk2 : wf.cell? ⟨C0, 2, none⟩ = some (.slice none 0 0) := by rw [← hW, hC0]; simp [go_sem]
  have kk3 : wf.cell? ⟨C0, 3, none⟩ = some (.slice p4a l p4c) := by rw [← hW, hC0]; simp [go_sem]
  have kk4 : wf.cell? ⟨C0, 4, none⟩ = some (.slice p5a l p5c) := by rw [← hW, hC0]; simp [go_sem]
  have oC0A : A ≤ C0 := by rw [hC0]; exact sA
  have oC00 : B0 < C0 := by rw [hC0]; exact zz0
  have oC01 : bxp < C0 := by rw [hC0]; exact zz1
  have oC02 : bgp < C0 := by rw [hC0]; exact zz2
  have oC03 : egp < C0 := by rw [hC0]; exact zz3
  have d0 : wf.cell? ⟨B0, 0, none⟩ = some (.slice u1a l u1c) := (Below.celz nb _ _ _ (by omega)).trans cc0
  have d1 : wf.cell? ⟨B0, 1, none⟩ = some (.slice none 0 0) := (Below.celz nb _ _ _ (by omega)).trans cc1
  have d2 : wf.cell? ⟨B0, 2, none⟩ = some (.slice none 0 0) := (Below.celz nb _ _ _ (by omega)).trans cc2
  have d3 : wf.cell? ⟨B0, 3, none⟩ = some (.slice u4a l u4c) := (Below.celz nb _ _ _ (by omega)).trans cc3
  have d4 : wf.cell? ⟨B0, 4, none⟩ = some (.slice u5a l u5c) := (Below.celz nb _ _ _ (by omega)).trans cc4
  have y0 : B0 < wf.heap.size := by have := Below.size nb; omega
  have y1 : bxp < wf.heap.size := by have := Below.size nb; omega
  have y2 : bgp < wf.heap.size := by have := Below.size nb; omega
  have y3 : egp < wf.heap.size := by have := Below.size nb; omega
  have BB1 : Below A w wf := BB.trans (nb.mono (by omega))
  have sA1 : A ≤ wf.heap.size := by have := Below.size nb; omega
  have q0 : Hid (RowAt 3 encPerson wf (.slice aa n ac) xs0) := HR.out.keep nb
  have q1 : Hid (NewW wf b1 (.slice u1a l u1c) (.slice u4a l u4c) (.slice u5a l u5c) ys) := HW0.out.keep nb
  have q2 : Hid (OwnP wf bx (.slice xa n xc) n xs0) := HX0.out.keep nb
  have q3 : Hid (NewW wf bg (.slice p1a l p1c) (.slice p4a l p4c) (.slice p5a l p5c) ys) := HG0.out.keep nb
  clear BB sA cc0 cc1 cc2 cc3 cc4 zz0 zz1 zz2 zz3 HR HW0 HX0 HG0
  have cc0 := d0
  have cc1 := d1
  have cc2 := d2
  have cc3 := d3
  have cc4 := d4
  have zz0 := y0
  have zz1 := y1
  have zz2 := y2
  have zz3 := y3
  have HR := q0
  have HW0 := q1
  have HX0 := q2
  have HG0 := q3
  have BB := BB1
  have sA := sA1
  clear BB1 sA1 d0 d1 d2 d3 d4 y0 y1 y2 y3 q0 q1 q2 q3
  have cc5 := kk0
  have cc6 := kk1
  have cc7 := kk2
  have cc8 := kk3
  have cc9 := kk4
  have zz4 : C0 < wf.heap.size := by omega
  rw [← hC0]
  have k3C0 := k3
  clear k3 hW nb hC0 kk0 kk1 kk2 kk3 kk4
  clear k3C0
  have lC0 : bg ≤ C0 := by omega
  have lC1 : egp < C0 := by omega
  refine (eqWorld _ _ _ _ _ _ _ _ _ _ ys [] [] (zsOf ys) (qsOf ys) ys [] [] (zsOf ys) (qsOf ys) _ HG0.out.at HW0.out.at (few_new (by rw [HL.out]; omega)) (few_new (by rw [HL.out]; omega))).mono ?_
  rintro e wg ⟨rfl, bz⟩
  have d0 : wg.cell? ⟨B0, 0, none⟩ = some (.slice u1a l u1c) := (Below.celz bz _ _ _ (by omega)).trans cc0
  have d1 : wg.cell? ⟨B0, 1, none⟩ = some (.slice none 0 0) := (Below.celz bz _ _ _ (by omega)).trans cc1
  have d2 : wg.cell? ⟨B0, 2, none⟩ = some (.slice none 0 0) := (Below.celz bz _ _ _ (by omega)).trans cc2
  have d3 : wg.cell? ⟨B0, 3, none⟩ = some (.slice u4a l u4c) := (Below.celz bz _ _ _ (by omega)).trans cc3
  have d4 : wg.cell? ⟨B0, 4, none⟩ = some (.slice u5a l u5c) := (Below.celz bz _ _ _ (by omega)).trans cc4
  have d5 : wg.cell? ⟨C0, 0, none⟩ = some (.slice p1a l p1c) := (Below.celz bz _ _ _ (by omega)).trans cc5
  have d6 : wg.cell? ⟨C0, 1, none⟩ = some (.slice none 0 0) := (Below.celz bz _ _ _ (by omega)).trans cc6
  have d7 : wg.cell? ⟨C0, 2, none⟩ = some (.slice none 0 0) := (Below.celz bz _ _ _ (by omega)).trans cc7
  have d8 : wg.cell? ⟨C0, 3, none⟩ = some (.slice p4a l p4c) := (Below.celz bz _ _ _ (by omega)).trans cc8
  have d9 : wg.cell? ⟨C0, 4, none⟩ = some (.slice p5a l p5c) := (Below.celz bz _ _ _ (by omega)).trans cc9
  have y0 : B0 < wg.heap.size := by have := Below.size bz; omega
  have y1 : bxp < wg.heap.size := by have := Below.size bz; omega
  have y2 : bgp < wg.heap.size := by have := Below.size bz; omega
  have y3 : egp < wg.heap.size := by have := Below.size bz; omega
  have y4 : C0 < wg.heap.size := by have := Below.size bz; omega
  have BB1 : Below A w wg := BB.trans (bz.mono (by omega))
  have sA1 : A ≤ wg.heap.size := by have := Below.size bz; omega
  have q0 : Hid (RowAt 3 encPerson wg (.slice aa n ac) xs0) := HR.out.keep bz
  have q1 : Hid (NewW wg b1 (.slice u1a l u1c) (.slice u4a l u4c) (.slice u5a l u5c) ys) := HW0.out.keep bz
  have q2 : Hid (OwnP wg bx (.slice xa n xc) n xs0) := HX0.out.keep bz
  have q3 : Hid (NewW wg bg (.slice p1a l p1c) (.slice p4a l p4c) (.slice p5a l p5c) ys) := HG0.out.keep bz
  clear BB sA cc0 cc1 cc2 cc3 cc4 cc5 cc6 cc7 cc8 cc9 zz0 zz1 zz2 zz3 zz4 HR HW0 HX0 HG0
  have cc0 := d0
  have cc1 := d1
  have cc2 := d2
  have cc3 := d3
  have cc4 := d4
  have cc5 := d5
  have cc6 := d6
  have cc7 := d7
  have cc8 := d8
  have cc9 := d9
  have zz0 := y0
  have zz1 := y1
  have zz2 := y2
  have zz3 := y3
  have zz4 := y4
  have HR := q0
  have HW0 := q1
  have HX0 := q2
  have HG0 := q3
  have BB := BB1
  have sA := sA1
  clear BB1 sA1 d0 d1 d2 d3 d4 d5 d6 d7 d8 d9 y0 y1 y2 y3 y4 q0 q1 q2 q3
  clear bz
  rw [show sameW ys [] [] (zsOf ys) (qsOf ys) ys [] [] (zsOf ys) (qsOf ys) = true from sameW_true.2 ⟨rfl, rfl, rfl, rfl, rfl⟩]
  go_wp2_with fail
  refine (toPersonS _ xs0 _ HR.out (by rw [← HN.out]; exact ln)).mono ?_
  rintro e wh ⟨t3, rfl, ot, bz⟩
  have d0 : wh.cell? ⟨B0, 0, none⟩ = some (.slice u1a l u1c) := (Below.celz bz _ _ _ (by omega)).trans cc0
  have d1 : wh.cell? ⟨B0, 1, none⟩ = some (.slice none 0 0) := (Below.celz bz _ _ _ (by omega)).trans cc1
  have d2 : wh.cell? ⟨B0, 2, none⟩ = some (.slice none 0 0) := (Below.celz bz _ _ _ (by omega)).trans cc2
  have d3 : wh.cell? ⟨B0, 3, none⟩ = some (.slice u4a l u4c) := (Below.celz bz _ _ _ (by omega)).trans cc3
  have d4 : wh.cell? ⟨B0, 4, none⟩ = some (.slice u5a l u5c) := (Below.celz bz _ _ _ (by omega)).trans cc4
  have d5 : wh.cell? ⟨C0, 0, none⟩ = some (.slice p1a l p1c) := (Below.celz bz _ _ _ (by omega)).trans cc5
  have d6 : wh.cell? ⟨C0, 1, none⟩ = some (.slice none 0 0) := (Below.celz bz _ _ _ (by omega)).trans cc6
  have d7 : wh.cell? ⟨C0, 2, none⟩ = some (.slice none 0 0) := (Below.celz bz _ _ _ (by omega)).trans cc7
  have d8 : wh.cell? ⟨C0, 3, none⟩ = some (.slice p4a l p4c) := (Below.celz bz _ _ _ (by omega)).trans cc8
  have d9 : wh.cell? ⟨C0, 4, none⟩ = some (.slice p5a l p5c) := (Below.celz bz _ _ _ (by omega)).trans cc9
  have y0 : B0 < wh.heap.size := by have := Below.size bz; omega
  have y1 : bxp < wh.heap.size := by have := Below.size bz; omega
  have y2 : bgp < wh.heap.size := by have := Below.size bz; omega
  have y3 : egp < wh.heap.size := by have := Below.size bz; omega
  have y4 : C0 < wh.heap.size := by have := Below.size bz; omega
  have BB1 : Below A w wh := BB.trans (bz.mono (by omega))
  have sA1 : A ≤ wh.heap.size := by have := Below.size bz; omega
  have q0 : Hid (RowAt 3 encPerson wh (.slice aa n ac) xs0) := HR.out.keep bz
  have q1 : Hid (NewW wh b1 (.slice u1a l u1c) (.slice u4a l u4c) (.slice u5a l u5c) ys) := HW0.out.keep bz
  have q2 : Hid (OwnP wh bx (.slice xa n xc) n xs0) := HX0.out.keep bz
  have q3 : Hid (NewW wh bg (.slice p1a l p1c) (.slice p4a l p4c) (.slice p5a l p5c) ys) := HG0.out.keep bz
  clear BB sA cc0 cc1 cc2 cc3 cc4 cc5 cc6 cc7 cc8 cc9 zz0 zz1 zz2 zz3 zz4 HR HW0 HX0 HG0
  have cc0 := d0
  have cc1 := d1
  have cc2 := d2
  have cc3 := d3
  have cc4 := d4
  have cc5 := d5
  have cc6 := d6
  have cc7 := d7
  have cc8 := d8
  have cc9 := d9
  have zz0 := y0
  have zz1 := y1
  have zz2 := y2
  have zz3 := y3
  have zz4 := y4
  have HR := q0
  have HW0 := q1
  have HX0 := q2
  have HG0 := q3
  have BB := BB1
  have sA := sA1
  clear BB1 sA1 d0 d1 d2 d3 d4 d5 d6 d7 d8 d9 y0 y1 y2 y3 y4 q0 q1 q2 q3
  clear bz
  have rt := row_of_own encPerson_len (by decide) ot
  clear ot
  have HT : Hid (RowAt 3 encPerson wh t3 xs0) := rt
  clear rt
  go_wp2_with fail
  refine (eqPersonS _ _ xs0 xs0 _ (row_of_own encPerson_len (by decide) (by have := HX0.out; unfold OwnP at this; rw [← HN.out]; exact this)) HT.out (by rw [← HN.out]; exact ln) (by rw [← HN.out]; exact ln)).mono ?_
  rintro e wi ⟨rfl, bz⟩
  have d0 : wi.cell? ⟨B0, 0, none⟩ = some (.slice u1a l u1c) := (Below.celz bz _ _ _ (by omega)).trans cc0
  have d1 : wi.cell? ⟨B0, 1, none⟩ = some (.slice none 0 0) := (Below.celz bz _ _ _ (by omega)).trans cc1
  have d2 : wi.cell? ⟨B0, 2, none⟩ = some (.slice none 0 0) := (Below.celz bz _ _ _ (by omega)).trans cc2
  have d3 : wi.cell? ⟨B0, 3, none⟩ = some (.slice u4a l u4c) := (Below.celz bz _ _ _ (by omega)).trans cc3
  have d4 : wi.cell? ⟨B0, 4, none⟩ = some (.slice u5a l u5c) := (Below.celz bz _ _ _ (by omega)).trans cc4
  have d5 : wi.cell? ⟨C0, 0, none⟩ = some (.slice p1a l p1c) := (Below.celz bz _ _ _ (by omega)).trans cc5
  have d6 : wi.cell? ⟨C0, 1, none⟩ = some (.slice none 0 0) := (Below.celz bz _ _ _ (by omega)).trans cc6
  have d7 : wi.cell? ⟨C0, 2, none⟩ = some (.slice none 0 0) := (Below.celz bz _ _ _ (by omega)).trans cc7
  have d8 : wi.cell? ⟨C0, 3, none⟩ = some (.slice p4a l p4c) := (Below.celz bz _ _ _ (by omega)).trans cc8
  have d9 : wi.cell? ⟨C0, 4, none⟩ = some (.slice p5a l p5c) := (Below.celz bz _ _ _ (by omega)).trans cc9
  have y0 : B0 < wi.heap.size := by have := Below.size bz; omega
  have y1 : bxp < wi.heap.size := by have := Below.size bz; omega
  have y2 : bgp < wi.heap.size := by have := Below.size bz; omega
  have y3 : egp < wi.heap.size := by have := Below.size bz; omega
  have y4 : C0 < wi.heap.size := by have := Below.size bz; omega
  have BB1 : Below A w wi := BB.trans (bz.mono (by omega))
  have sA1 : A ≤ wi.heap.size := by have := Below.size bz; omega
  have q0 : Hid (RowAt 3 encPerson wi (.slice aa n ac) xs0) := HR.out.keep bz
  have q1 : Hid (NewW wi b1 (.slice u1a l u1c) (.slice u4a l u4c) (.slice u5a l u5c) ys) := HW0.out.keep bz
  have q2 : Hid (OwnP wi bx (.slice xa n xc) n xs0) := HX0.out.keep bz
  have q3 : Hid (NewW wi bg (.slice p1a l p1c) (.slice p4a l p4c) (.slice p5a l p5c) ys) := HG0.out.keep bz
  have q4 : Hid (RowAt 3 encPerson wi t3 xs0) := HT.out.keep bz
  clear BB sA cc0 cc1 cc2 cc3 cc4 cc5 cc6 cc7 cc8 cc9 zz0 zz1 zz2 zz3 zz4 HR HW0 HX0 HG0 HT
  have cc0 := d0
  have cc1 := d1
  have cc2 := d2
  have cc3 := d3
  have cc4 := d4
  have cc5 := d5
  have cc6 := d6
  have cc7 := d7
  have cc8 := d8
  have cc9 := d9
  have zz0 := y0
  have zz1 := y1
  have zz2 := y2
  have zz3 := y3
  have zz4 := y4
  have HR := q0
  have HW0 := q1
  have HX0 := q2
  have HG0 := q3
  have HT := q4
  have BB := BB1
  have sA := sA1
  clear BB1 sA1 d0 d1 d2 d3 d4 d5 d6 d7 d8 d9 y0 y1 y2 y3 y4 q0 q1 q2 q3 q4
  clear bz
  rw [eqB_true.2 rfl]
  clear HT
  go_wp2_with fail
  refine (markPersonS bx n _ 1 _ _ (by omega) (by omega) ln HX0.out).mono ?_
  rintro e wj ⟨rfl, _, gm⟩
  clear HX0
  have d0 : wj.cell? ⟨B0, 0, none⟩ = some (.slice u1a l u1c) := (But.gr gm).cell cc0 zz0 (fun e => by have := BX.out _ e; omega)
  have d1 : wj.cell? ⟨B0, 1, none⟩ = some (.slice none 0 0) := (But.gr gm).cell cc1 zz0 (fun e => by have := BX.out _ e; omega)
  have d2 : wj.cell? ⟨B0, 2, none⟩ = some (.slice none 0 0) := (But.gr gm).cell cc2 zz0 (fun e => by have := BX.out _ e; omega)
  have d3 : wj.cell? ⟨B0, 3, none⟩ = some (.slice u4a l u4c) := (But.gr gm).cell cc3 zz0 (fun e => by have := BX.out _ e; omega)
  have d4 : wj.cell? ⟨B0, 4, none⟩ = some (.slice u5a l u5c) := (But.gr gm).cell cc4 zz0 (fun e => by have := BX.out _ e; omega)
  have d5 : wj.cell? ⟨C0, 0, none⟩ = some (.slice p1a l p1c) := (But.gr gm).cell cc5 zz4 (fun e => by have := BX.out _ e; omega)
  have d6 : wj.cell? ⟨C0, 1, none⟩ = some (.slice none 0 0) := (But.gr gm).cell cc6 zz4 (fun e => by have := BX.out _ e; omega)
  have d7 : wj.cell? ⟨C0, 2, none⟩ = some (.slice none 0 0) := (But.gr gm).cell cc7 zz4 (fun e => by have := BX.out _ e; omega)
  have d8 : wj.cell? ⟨C0, 3, none⟩ = some (.slice p4a l p4c) := (But.gr gm).cell cc8 zz4 (fun e => by have := BX.out _ e; omega)
  have d9 : wj.cell? ⟨C0, 4, none⟩ = some (.slice p5a l p5c) := (But.gr gm).cell cc9 zz4 (fun e => by have := BX.out _ e; omega)
  have y0 : B0 < wj.heap.size := by have := gm.size; omega
  have y1 : bxp < wj.heap.size := by have := gm.size; omega
  have y2 : bgp < wj.heap.size := by have := gm.size; omega
  have y3 : egp < wj.heap.size := by have := gm.size; omega
  have y4 : C0 < wj.heap.size := by have := gm.size; omega
  have BB1 : Below A w wj := (But.gr gm).below BB sA (fun k hk => by have := BX.out k hk; omega)
  have sA1 : A ≤ wj.heap.size := by have := gm.size; omega
  have q0 : Hid (RowAt 3 encPerson wj (.slice aa n ac) xs0) := HR0.out.keep (by have := BB1; rw [HA.out] at this; exact this)
  have q1 : Hid (NewW wj b1 (.slice u1a l u1c) (.slice u4a l u4c) (.slice u5a l u5c) ys) := HW0.out.but (But.gr gm) (fun g h e => by have := BW.out g h; have := BX.out g e; omega)
  have q2 : Hid (NewW wj bg (.slice p1a l p1c) (.slice p4a l p4c) (.slice p5a l p5c) ys) := HG0.out.but (But.gr gm) (fun g h e => by have := (BG.out g h).1; have := (BX.out g e).2; omega)
  clear BB sA cc0 cc1 cc2 cc3 cc4 cc5 cc6 cc7 cc8 cc9 zz0 zz1 zz2 zz3 zz4 HR HW0 HG0
  have cc0 := d0
  have cc1 := d1
  have cc2 := d2
  have cc3 := d3
  have cc4 := d4
  have cc5 := d5
  have cc6 := d6
  have cc7 := d7
  have cc8 := d8
  have cc9 := d9
  have zz0 := y0
  have zz1 := y1
  have zz2 := y2
  have zz3 := y3
  have zz4 := y4
  have HR := q0
  have HW0 := q1
  have HG0 := q2
  have BB := BB1
  have sA := sA1
  clear BB1 sA1 d0 d1 d2 d3 d4 d5 d6 d7 d8 d9 y0 y1 y2 y3 y4 q0 q1 q2
  clear gm
  have tk : ¬ (1 + 3 * (n : Int) < 0) := by omega
  go_wp2_with fail
  refine (eqWorld _ _ _ _ _ _ _ _ _ _ ys [] [] (zsOf ys) (qsOf ys) ys [] [] (zsOf ys) (qsOf ys) _ HG0.out.at HW0.out.at (few_new (by rw [HL.out]; omega)) (few_new (by rw [HL.out]; omega))).mono ?_
  rintro e wk ⟨rfl, bz⟩
  have d0 : wk.cell? ⟨B0, 0, none⟩ = some (.slice u1a l u1c) := (Below.celz bz _ _ _ (by omega)).trans cc0
  have d1 : wk.cell? ⟨B0, 1, none⟩ = some (.slice none 0 0) := (Below.celz bz _ _ _ (by omega)).trans cc1
  have d2 : wk.cell? ⟨B0, 2, none⟩ = some (.slice none 0 0) := (Below.celz bz _ _ _ (by omega)).trans cc2
  have d3 : wk.cell? ⟨B0, 3, none⟩ = some (.slice u4a l u4c) := (Below.celz bz _ _ _ (by omega)).trans cc3
  have d4 : wk.cell? ⟨B0, 4, none⟩ = some (.slice u5a l u5c) := (Below.celz bz _ _ _ (by omega)).trans cc4
  have d5 : wk.cell? ⟨C0, 0, none⟩ = some (.slice p1a l p1c) := (Below.celz bz _ _ _ (by omega)).trans cc5
  have d6 : wk.cell? ⟨C0, 1, none⟩ = some (.slice none 0 0) := (Below.celz bz _ _ _ (by omega)).trans cc6
  have d7 : wk.cell? ⟨C0, 2, none⟩ = some (.slice none 0 0) := (Below.celz bz _ _ _ (by omega)).trans cc7
  have d8 : wk.cell? ⟨C0, 3, none⟩ = some (.slice p4a l p4c) := (Below.celz bz _ _ _ (by omega)).trans cc8
  have d9 : wk.cell? ⟨C0, 4, none⟩ = some (.slice p5a l p5c) := (Below.celz bz _ _ _ (by omega)).trans cc9
  have y0 : B0 < wk.heap.size := by have := Below.size bz; omega
  have y1 : bxp < wk.heap.size := by have := Below.size bz; omega
  have y2 : bgp < wk.heap.size := by have := Below.size bz; omega
  have y3 : egp < wk.heap.size := by have := Below.size bz; omega
  have y4 : C0 < wk.heap.size := by have := Below.size bz; omega
  have BB1 : Below A w wk := BB.trans (bz.mono (by omega))
  have sA1 : A ≤ wk.heap.size := by have := Below.size bz; omega
  have q0 : Hid (RowAt 3 encPerson wk (.slice aa n ac) xs0) := HR.out.keep bz
  have q1 : Hid (NewW wk b1 (.slice u1a l u1c) (.slice u4a l u4c) (.slice u5a l u5c) ys) := HW0.out.keep bz
  have q2 : Hid (NewW wk bg (.slice p1a l p1c) (.slice p4a l p4c) (.slice p5a l p5c) ys) := HG0.out.keep bz
  clear BB sA cc0 cc1 cc2 cc3 cc4 cc5 cc6 cc7 cc8 cc9 zz0 zz1 zz2 zz3 zz4 HR HW0 HG0
  have cc0 := d0
  have cc1 := d1
  have cc2 := d2
  have cc3 := d3
  have cc4 := d4
  have cc5 := d5
  have cc6 := d6
  have cc7 := d7
  have cc8 := d8
  have cc9 := d9
  have zz0 := y0
  have zz1 := y1
  have zz2 := y2
  have zz3 := y3
  have zz4 := y4
  have HR := q0
  have HW0 := q1
  have HG0 := q2
  have BB := BB1
  have sA := sA1
  clear BB1 sA1 d0 d1 d2 d3 d4 d5 d6 d7 d8 d9 y0 y1 y2 y3 y4 q0 q1 q2
  clear bz
  rw [show sameW ys [] [] (zsOf ys) (qsOf ys) ys [] [] (zsOf ys) (qsOf ys) = true from sameW_true.2 ⟨rfl, rfl, rfl, rfl, rfl⟩]
  go_wp2_with fail
  refine (markWorld bg l _ _ _ ys _ (by omega) HL.out HG0.out).mono ?_
  rintro e wl ⟨rfl, mk, gm⟩
  clear HG0
  have d0 : wl.cell? ⟨B0, 0, none⟩ = some (.slice u1a l u1c) := gm.cell cc0 zz0 (fun e => by have := BG.out _ e; omega)
  have d1 : wl.cell? ⟨B0, 1, none⟩ = some (.slice none 0 0) := gm.cell cc1 zz0 (fun e => by have := BG.out _ e; omega)
  have d2 : wl.cell? ⟨B0, 2, none⟩ = some (.slice none 0 0) := gm.cell cc2 zz0 (fun e => by have := BG.out _ e; omega)
  have d3 : wl.cell? ⟨B0, 3, none⟩ = some (.slice u4a l u4c) := gm.cell cc3 zz0 (fun e => by have := BG.out _ e; omega)
  have d4 : wl.cell? ⟨B0, 4, none⟩ = some (.slice u5a l u5c) := gm.cell cc4 zz0 (fun e => by have := BG.out _ e; omega)
  have d5 : wl.cell? ⟨C0, 0, none⟩ = some (.slice p1a l p1c) := gm.cell cc5 zz4 (fun e => by have := BG.out _ e; omega)
  have d6 : wl.cell? ⟨C0, 1, none⟩ = some (.slice none 0 0) := gm.cell cc6 zz4 (fun e => by have := BG.out _ e; omega)
  have d7 : wl.cell? ⟨C0, 2, none⟩ = some (.slice none 0 0) := gm.cell cc7 zz4 (fun e => by have := BG.out _ e; omega)
  have d8 : wl.cell? ⟨C0, 3, none⟩ = some (.slice p4a l p4c) := gm.cell cc8 zz4 (fun e => by have := BG.out _ e; omega)
  have d9 : wl.cell? ⟨C0, 4, none⟩ = some (.slice p5a l p5c) := gm.cell cc9 zz4 (fun e => by have := BG.out _ e; omega)
  have y0 : B0 < wl.heap.size := by have := gm.size; omega
  have y1 : bxp < wl.heap.size := by have := gm.size; omega
  have y2 : bgp < wl.heap.size := by have := gm.size; omega
  have y3 : egp < wl.heap.size := by have := gm.size; omega
  have y4 : C0 < wl.heap.size := by have := gm.size; omega
  have BB1 : Below A w wl := gm.below BB sA (fun k hk => by have := BG.out k hk; omega)
  have sA1 : A ≤ wl.heap.size := by have := gm.size; omega
  have q0 : Hid (RowAt 3 encPerson wl (.slice aa n ac) xs0) := HR0.out.keep (by have := BB1; rw [HA.out] at this; exact this)
  have q1 : Hid (NewW wl b1 (.slice u1a l u1c) (.slice u4a l u4c) (.slice u5a l u5c) ys) := HW0.out.but gm (fun g h e => by have := BW.out g h; have := BG.out g e; omega)
  clear BB sA cc0 cc1 cc2 cc3 cc4 cc5 cc6 cc7 cc8 cc9 zz0 zz1 zz2 zz3 zz4 HR HW0
  have cc0 := d0
  have cc1 := d1
  have cc2 := d2
  have cc3 := d3
  have cc4 := d4
  have cc5 := d5
  have cc6 := d6
  have cc7 := d7
  have cc8 := d8
  have cc9 := d9
  have zz0 := y0
  have zz1 := y1
  have zz2 := y2
  have zz3 := y3
  have zz4 := y4
  have HR := q0
  have HW0 := q1
  have BB := BB1
  have sA := sA1
  clear BB1 sA1 d0 d1 d2 d3 d4 d5 d6 d7 d8 d9 y0 y1 y2 y3 y4 q0 q1
  have HMK : Hid (MarkW wl bg (.slice p1a l p1c) (.slice p4a l p4c) (.slice p5a l p5c) l) := mk
  clear gm mk
  have tm : ¬ (1 + 3 * (l : Int) + l + l < 0) := by omega
  have tn : ((1 + 3 * (l : Int) + l + l) != (1 + 3 * (l : Int) + l + l)) = false := by simp
  go_wp2_with fail
  refine (heldWorld bg l _ _ _ _ (by omega) HMK.out).mono ?_
  rintro e wm ⟨rfl, bz⟩
  have d0 : wm.cell? ⟨B0, 0, none⟩ = some (.slice u1a l u1c) := (Below.celz bz _ _ _ (by omega)).trans cc0
  have d1 : wm.cell? ⟨B0, 1, none⟩ = some (.slice none 0 0) := (Below.celz bz _ _ _ (by omega)).trans cc1
  have d2 : wm.cell? ⟨B0, 2, none⟩ = some (.slice none 0 0) := (Below.celz bz _ _ _ (by omega)).trans cc2
  have d3 : wm.cell? ⟨B0, 3, none⟩ = some (.slice u4a l u4c) := (Below.celz bz _ _ _ (by omega)).trans cc3
  have d4 : wm.cell? ⟨B0, 4, none⟩ = some (.slice u5a l u5c) := (Below.celz bz _ _ _ (by omega)).trans cc4
  have d5 : wm.cell? ⟨C0, 0, none⟩ = some (.slice p1a l p1c) := (Below.celz bz _ _ _ (by omega)).trans cc5
  have d6 : wm.cell? ⟨C0, 1, none⟩ = some (.slice none 0 0) := (Below.celz bz _ _ _ (by omega)).trans cc6
  have d7 : wm.cell? ⟨C0, 2, none⟩ = some (.slice none 0 0) := (Below.celz bz _ _ _ (by omega)).trans cc7
  have d8 : wm.cell? ⟨C0, 3, none⟩ = some (.slice p4a l p4c) := (Below.celz bz _ _ _ (by omega)).trans cc8
  have d9 : wm.cell? ⟨C0, 4, none⟩ = some (.slice p5a l p5c) := (Below.celz bz _ _ _ (by omega)).trans cc9
  have y0 : B0 < wm.heap.size := by have := Below.size bz; omega
  have y1 : bxp < wm.heap.size := by have := Below.size bz; omega
  have y2 : bgp < wm.heap.size := by have := Below.size bz; omega
  have y3 : egp < wm.heap.size := by have := Below.size bz; omega
  have y4 : C0 < wm.heap.size := by have := Below.size bz; omega
  have BB1 : Below A w wm := BB.trans (bz.mono (by omega))
  have sA1 : A ≤ wm.heap.size := by have := Below.size bz; omega
  have q0 : Hid (RowAt 3 encPerson wm (.slice aa n ac) xs0) := HR.out.keep bz
  have q1 : Hid (NewW wm b1 (.slice u1a l u1c) (.slice u4a l u4c) (.slice u5a l u5c) ys) := HW0.out.keep bz
  have q2 : Hid (MarkW wm bg (.slice p1a l p1c) (.slice p4a l p4c) (.slice p5a l p5c) l) := HMK.out.keep bz
  clear BB sA cc0 cc1 cc2 cc3 cc4 cc5 cc6 cc7 cc8 cc9 zz0 zz1 zz2 zz3 zz4 HR HW0 HMK
  have cc0 := d0
  have cc1 := d1
  have cc2 := d2
  have cc3 := d3
  have cc4 := d4
  have cc5 := d5
  have cc6 := d6
  have cc7 := d7
  have cc8 := d8
  have cc9 := d9
  have zz0 := y0
  have zz1 := y1
  have zz2 := y2
  have zz3 := y3
  have zz4 := y4
  have HR := q0
  have HW0 := q1
  have HMK := q2
  have BB := BB1
  have sA := sA1
  clear BB1 sA1 d0 d1 d2 d3 d4 d5 d6 d7 d8 d9 y0 y1 y2 y3 y4 q0 q1 q2
  clear bz
  go_wp2_with fail
  refine (toPersonS _ xs0 _ HR.out (by rw [← HN.out]; exact ln)).mono ?_
  rintro e wn ⟨t4, rfl, ot, bz⟩
  have d0 : wn.cell? ⟨B0, 0, none⟩ = some (.slice u1a l u1c) := (Below.celz bz _ _ _ (by omega)).trans cc0
  have d1 : wn.cell? ⟨B0, 1, none⟩ = some (.slice none 0 0) := (Below.celz bz _ _ _ (by omega)).trans cc1
  have d2 : wn.cell? ⟨B0, 2, none⟩ = some (.slice none 0 0) := (Below.celz bz _ _ _ (by omega)).trans cc2
  have d3 : wn.cell? ⟨B0, 3, none⟩ = some (.slice u4a l u4c) := (Below.celz bz _ _ _ (by omega)).trans cc3
  have d4 : wn.cell? ⟨B0, 4, none⟩ = some (.slice u5a l u5c) := (Below.celz bz _ _ _ (by omega)).trans cc4
  have d5 : wn.cell? ⟨C0, 0, none⟩ = some (.slice p1a l p1c) := (Below.celz bz _ _ _ (by omega)).trans cc5
  have d6 : wn.cell? ⟨C0, 1, none⟩ = some (.slice none 0 0) := (Below.celz bz _ _ _ (by omega)).trans cc6
  have d7 : wn.cell? ⟨C0, 2, none⟩ = some (.slice none 0 0) := (Below.celz bz _ _ _ (by omega)).trans cc7
  have d8 : wn.cell? ⟨C0, 3, none⟩ = some (.slice p4a l p4c) := (Below.celz bz _ _ _ (by omega)).trans cc8
  have d9 : wn.cell? ⟨C0, 4, none⟩ = some (.slice p5a l p5c) := (Below.celz bz _ _ _ (by omega)).trans cc9
  have y0 : B0 < wn.heap.size := by have := Below.size bz; omega
  have y1 : bxp < wn.heap.size := by have := Below.size bz; omega
  have y2 : bgp < wn.heap.size := by have := Below.size bz; omega
  have y3 : egp < wn.heap.size := by have := Below.size bz; omega
  have y4 : C0 < wn.heap.size := by have := Below.size bz; omega
  have BB1 : Below A w wn := BB.trans (bz.mono (by omega))
  have sA1 : A ≤ wn.heap.size := by have := Below.size bz; omega
  have q0 : Hid (RowAt 3 encPerson wn (.slice aa n ac) xs0) := HR.out.keep bz
  have q1 : Hid (NewW wn b1 (.slice u1a l u1c) (.slice u4a l u4c) (.slice u5a l u5c) ys) := HW0.out.keep bz
  have q2 : Hid (MarkW wn bg (.slice p1a l p1c) (.slice p4a l p4c) (.slice p5a l p5c) l) := HMK.out.keep bz
  clear BB sA cc0 cc1 cc2 cc3 cc4 cc5 cc6 cc7 cc8 cc9 zz0 zz1 zz2 zz3 zz4 HR HW0 HMK
  have cc0 := d0
  have cc1 := d1
  have cc2 := d2
  have cc3 := d3
  have cc4 := d4
  have cc5 := d5
  have cc6 := d6
  have cc7 := d7
  have cc8 := d8
  have cc9 := d9
  have zz0 := y0
  have zz1 := y1
  have zz2 := y2
  have zz3 := y3
  have zz4 := y4
  have HR := q0
  have HW0 := q1
  have HMK := q2
  have BB := BB1
  have sA := sA1
  clear BB1 sA1 d0 d1 d2 d3 d4 d5 d6 d7 d8 d9 y0 y1 y2 y3 y4 q0 q1 q2
  clear bz
  have rt := row_of_own encPerson_len (by decide) ot
  clear ot
  have HT : Hid (RowAt 3 encPerson wn t4 xs0) := rt
  clear rt
  go_wp2_with fail
  refine (impl_WorldNew _ xs0 _ HT.out (by rw [← HN.out]; exact ln)).mono ?_
  rintro e wo ⟨h1, h4, h5, rfl, oh, bz⟩
  have d0 : wo.cell? ⟨B0, 0, none⟩ = some (.slice u1a l u1c) := (Below.celz bz _ _ _ (by omega)).trans cc0
  have d1 : wo.cell? ⟨B0, 1, none⟩ = some (.slice none 0 0) := (Below.celz bz _ _ _ (by omega)).trans cc1
  have d2 : wo.cell? ⟨B0, 2, none⟩ = some (.slice none 0 0) := (Below.celz bz _ _ _ (by omega)).trans cc2
  have d3 : wo.cell? ⟨B0, 3, none⟩ = some (.slice u4a l u4c) := (Below.celz bz _ _ _ (by omega)).trans cc3
  have d4 : wo.cell? ⟨B0, 4, none⟩ = some (.slice u5a l u5c) := (Below.celz bz _ _ _ (by omega)).trans cc4
  have d5 : wo.cell? ⟨C0, 0, none⟩ = some (.slice p1a l p1c) := (Below.celz bz _ _ _ (by omega)).trans cc5
  have d6 : wo.cell? ⟨C0, 1, none⟩ = some (.slice none 0 0) := (Below.celz bz _ _ _ (by omega)).trans cc6
  have d7 : wo.cell? ⟨C0, 2, none⟩ = some (.slice none 0 0) := (Below.celz bz _ _ _ (by omega)).trans cc7
  have d8 : wo.cell? ⟨C0, 3, none⟩ = some (.slice p4a l p4c) := (Below.celz bz _ _ _ (by omega)).trans cc8
  have d9 : wo.cell? ⟨C0, 4, none⟩ = some (.slice p5a l p5c) := (Below.celz bz _ _ _ (by omega)).trans cc9
  have y0 : B0 < wo.heap.size := by have := Below.size bz; omega
  have y1 : bxp < wo.heap.size := by have := Below.size bz; omega
  have y2 : bgp < wo.heap.size := by have := Below.size bz; omega
  have y3 : egp < wo.heap.size := by have := Below.size bz; omega
  have y4 : C0 < wo.heap.size := by have := Below.size bz; omega
  have BB1 : Below A w wo := BB.trans (bz.mono (by omega))
  have sA1 : A ≤ wo.heap.size := by have := Below.size bz; omega
  have q0 : Hid (RowAt 3 encPerson wo (.slice aa n ac) xs0) := HR.out.keep bz
  have q1 : Hid (NewW wo b1 (.slice u1a l u1c) (.slice u4a l u4c) (.slice u5a l u5c) ys) := HW0.out.keep bz
  have q2 : Hid (MarkW wo bg (.slice p1a l p1c) (.slice p4a l p4c) (.slice p5a l p5c) l) := HMK.out.keep bz
  have q3 : Hid (RowAt 3 encPerson wo t4 xs0) := HT.out.keep bz
  clear BB sA cc0 cc1 cc2 cc3 cc4 cc5 cc6 cc7 cc8 cc9 zz0 zz1 zz2 zz3 zz4 HR HW0 HMK HT
  have cc0 := d0
  have cc1 := d1
  have cc2 := d2
  have cc3 := d3
  have cc4 := d4
  have cc5 := d5
  have cc6 := d6
  have cc7 := d7
  have cc8 := d8
  have cc9 := d9
  have zz0 := y0
  have zz1 := y1
  have zz2 := y2
  have zz3 := y3
  have zz4 := y4
  have HR := q0
  have HW0 := q1
  have HMK := q2
  have HT := q3
  have BB := BB1
  have sA := sA1
  clear BB1 sA1 d0 d1 d2 d3 d4 d5 d6 d7 d8 d9 y0 y1 y2 y3 y4 q0 q1 q2 q3
  clear bz
  clear HT
  rw [HYS.out] at oh
  obtain ⟨h1a, h1c, rfl⟩ := own_form oh.o1
  obtain ⟨h4a, h4c, rfl⟩ := own_form oh.o4
  obtain ⟨h5a, h5c, rfl⟩ := own_form oh.o5
  rw [HL.out]
  obtain ⟨bh, hbh⟩ : ∃ t, t = wn.heap.size := ⟨_, rfl⟩
  rw [← hbh] at oh
  clear hbh
  have HH0 : Hid (NewW wo bh (.slice h1a l h1c) (.slice h4a l h4c) (.slice h5a l h5c) ys) := by have := oh; rw [HL.out] at this; exact this
  clear oh
  go_wp2_with fail
  obtain ⟨E0, hE0⟩ : ∃ t, t = wo.heap.size := ⟨_, rfl⟩
  generalize hW : wo.alloc (.cells #[.slice h1a l h1c, .slice none 0 0, .slice none 0 0, .slice h4a l h4c, .slice h5a l h5c] 38) = wp
  have nb : Below wo.heap.size wo wp := by rw [← hW]; exact (Below.refl _ _).alloc (Nat.le_refl _) _
  have k3 : wp.heap.size = E0 + 1 := by rw [← hW, hE0]; simp
  have kk0 : wp.cell? ⟨E0, 0, none⟩ = some (.slice h1a l h1c) := by rw [← hW, hE0]; simp [go_sem]
  have kk1 : wp.cell? ⟨E0, 1, none⟩ = some (.slice none 0 0) := by rw [← hW, hE0]; simp [go_sem]
  have kk2 : wp.cell? ⟨E0, 2, none⟩ = some (.slice none 0 0) := by rw [← hW, hE0]; simp [go_sem]
  have kk3 : wp.cell? ⟨E0, 3, none⟩ = some (.slice h4a l h4c) := by rw [← hW, hE0]; simp [go_sem]
  have kk4 : wp.cell? ⟨E0, 4, none⟩ = some (.slice h5a l h5c) := by rw [← hW, hE0]; simp [go_sem]
  have oE0A : A ≤ E0 := by rw [hE0]; exact sA
  have oE00 : B0 < E0 := by rw [hE0]; exact zz0
  have oE01 : bxp < E0 := by rw [hE0]; exact zz1
  have oE02 : bgp < E0 := by rw [hE0]; exact zz2
  have oE03 : egp < E0 := by rw [hE0]; exact zz3
  have oE04 : C0 < E0 := by rw [hE0]; exact zz4
  have d0 : wp.cell? ⟨B0, 0, none⟩ = some (.slice u1a l u1c) := (Below.celz nb _ _ _ (by omega)).trans cc0
  have d1 : wp.cell? ⟨B0, 1, none⟩ = some (.slice none 0 0) := (Below.celz nb _ _ _ (by omega)).trans cc1
  have d2 : wp.cell? ⟨B0, 2, none⟩ = some (.slice none 0 0) := (Below.celz nb _ _ _ (by omega)).trans cc2
  have d3 : wp.cell? ⟨B0, 3, none⟩ = some (.slice u4a l u4c) := (Below.celz nb _ _ _ (by omega)).trans cc3
  have d4 : wp.cell? ⟨B0, 4, none⟩ = some (.slice u5a l u5c) := (Below.celz nb _ _ _ (by omega)).trans cc4
  have d5 : wp.cell? ⟨C0, 0, none⟩ = some (.slice p1a l p1c) := (Below.celz nb _ _ _ (by omega)).trans cc5
  have d6 : wp.cell? ⟨C0, 1, none⟩ = some (.slice none 0 0) := (Below.celz nb _ _ _ (by omega)).trans cc6
  have d7 : wp.cell? ⟨C0, 2, none⟩ = some (.slice none 0 0) := (Below.celz nb _ _ _ (by omega)).trans cc7
  have d8 : wp.cell? ⟨C0, 3, none⟩ = some (.slice p4a l p4c) := (Below.celz nb _ _ _ (by omega)).trans cc8
  have d9 : wp.cell? ⟨C0, 4, none⟩ = some (.slice p5a l p5c) := (Below.celz nb _ _ _ (by omega)).trans cc9
  have y0 : B0 < wp.heap.size := by have := Below.size nb; omega
  have y1 : bxp < wp.heap.size := by have := Below.size nb; omega
  have y2 : bgp < wp.heap.size := by have := Below.size nb; omega
  have y3 : egp < wp.heap.size := by have := Below.size nb; omega
  have y4 : C0 < wp.heap.size := by have := Below.size nb; omega
  have BB1 : Below A w wp := BB.trans (nb.mono (by omega))
  have sA1 : A ≤ wp.heap.size := by have := Below.size nb; omega
  have q0 : Hid (RowAt 3 encPerson wp (.slice aa n ac) xs0) := HR.out.keep nb
  have q1 : Hid (NewW wp b1 (.slice u1a l u1c) (.slice u4a l u4c) (.slice u5a l u5c) ys) := HW0.out.keep nb
  have q2 : Hid (MarkW wp bg (.slice p1a l p1c) (.slice p4a l p4c) (.slice p5a l p5c) l) := HMK.out.keep nb
  have q3 : Hid (NewW wp bh (.slice h1a l h1c) (.slice h4a l h4c) (.slice h5a l h5c) ys) := HH0.out.keep nb
  clear BB sA cc0 cc1 cc2 cc3 cc4 cc5 cc6 cc7 cc8 cc9 zz0 zz1 zz2 zz3 zz4 HR HW0 HMK HH0
  have cc0 := d0
  have cc1 := d1
  have cc2 := d2
  have cc3 := d3
  have cc4 := d4
  have cc5 := d5
  have cc6 := d6
  have cc7 := d7
  have cc8 := d8
  have cc9 := d9
  have zz0 := y0
  have zz1 := y1
  have zz2 := y2
  have zz3 := y3
  have zz4 := y4
  have HR := q0
  have HW0 := q1
  have HMK := q2
  have HH0 := q3
  have BB := BB1
  have sA := sA1
  clear BB1 sA1 d0 d1 d2 d3 d4 d5 d6 d7 d8 d9 y0 y1 y2 y3 y4 q0 q1 q2 q3
  have cc10 := kk0
  have cc11 := kk1
  have cc12 := kk2
  have cc13 := kk3
  have cc14 := kk4
  have zz5 : E0 < wp.heap.size := by omega
  rw [← hE0]
  have k3E0 := k3
  clear k3 hW nb hE0 kk0 kk1 kk2 kk3 kk4
  clear k3E0
  refine (eqWorld _ _ _ _ _ _ _ _ _ _ ys [] [] (zsOf ys) (qsOf ys) ys [] [] (zsOf ys) (qsOf ys) _ HH0.out.at HW0.out.at (few_new (by rw [HL.out]; omega)) (few_new (by rw [HL.out]; omega))).mono ?_
  rintro e wq' ⟨rfl, bz⟩
  have d0 : wq'.cell? ⟨B0, 0, none⟩ = some (.slice u1a l u1c) := (Below.celz bz _ _ _ (by omega)).trans cc0
  have d1 : wq'.cell? ⟨B0, 1, none⟩ = some (.slice none 0 0) := (Below.celz bz _ _ _ (by omega)).trans cc1
  have d2 : wq'.cell? ⟨B0, 2, none⟩ = some (.slice none 0 0) := (Below.celz bz _ _ _ (by omega)).trans cc2
  have d3 : wq'.cell? ⟨B0, 3, none⟩ = some (.slice u4a l u4c) := (Below.celz bz _ _ _ (by omega)).trans cc3
  have d4 : wq'.cell? ⟨B0, 4, none⟩ = some (.slice u5a l u5c) := (Below.celz bz _ _ _ (by omega)).trans cc4
  have d5 : wq'.cell? ⟨C0, 0, none⟩ = some (.slice p1a l p1c) := (Below.celz bz _ _ _ (by omega)).trans cc5
  have d6 : wq'.cell? ⟨C0, 1, none⟩ = some (.slice none 0 0) := (Below.celz bz _ _ _ (by omega)).trans cc6
  have d7 : wq'.cell? ⟨C0, 2, none⟩ = some (.slice none 0 0) := (Below.celz bz _ _ _ (by omega)).trans cc7
  have d8 : wq'.cell? ⟨C0, 3, none⟩ = some (.slice p4a l p4c) := (Below.celz bz _ _ _ (by omega)).trans cc8
  have d9 : wq'.cell? ⟨C0, 4, none⟩ = some (.slice p5a l p5c) := (Below.celz bz _ _ _ (by omega)).trans cc9
  have d10 : wq'.cell? ⟨E0, 0, none⟩ = some (.slice h1a l h1c) := (Below.celz bz _ _ _ (by omega)).trans cc10
  have d11 : wq'.cell? ⟨E0, 1, none⟩ = some (.slice none 0 0) := (Below.celz bz _ _ _ (by omega)).trans cc11
  have d12 : wq'.cell? ⟨E0, 2, none⟩ = some (.slice none 0 0) := (Below.celz bz _ _ _ (by omega)).trans cc12
  have d13 : wq'.cell? ⟨E0, 3, none⟩ = some (.slice h4a l h4c) := (Below.celz bz _ _ _ (by omega)).trans cc13
  have d14 : wq'.cell? ⟨E0, 4, none⟩ = some (.slice h5a l h5c) := (Below.celz bz _ _ _ (by omega)).trans cc14
  have y0 : B0 < wq'.heap.size := by have := Below.size bz; omega
  have y1 : bxp < wq'.heap.size := by have := Below.size bz; omega
  have y2 : bgp < wq'.heap.size := by have := Below.size bz; omega
  have y3 : egp < wq'.heap.size := by have := Below.size bz; omega
  have y4 : C0 < wq'.heap.size := by have := Below.size bz; omega
  have y5 : E0 < wq'.heap.size := by have := Below.size bz; omega
  have BB1 : Below A w wq' := BB.trans (bz.mono (by omega))
  have sA1 : A ≤ wq'.heap.size := by have := Below.size bz; omega
  have q0 : Hid (RowAt 3 encPerson wq' (.slice aa n ac) xs0) := HR.out.keep bz
  have q1 : Hid (NewW wq' b1 (.slice u1a l u1c) (.slice u4a l u4c) (.slice u5a l u5c) ys) := HW0.out.keep bz
  have q2 : Hid (MarkW wq' bg (.slice p1a l p1c) (.slice p4a l p4c) (.slice p5a l p5c) l) := HMK.out.keep bz
  have q3 : Hid (NewW wq' bh (.slice h1a l h1c) (.slice h4a l h4c) (.slice h5a l h5c) ys) := HH0.out.keep bz
  clear BB sA cc0 cc1 cc2 cc3 cc4 cc5 cc6 cc7 cc8 cc9 cc10 cc11 cc12 cc13 cc14 zz0 zz1 zz2 zz3 zz4 zz5 HR HW0 HMK HH0
  have cc0 := d0
  have cc1 := d1
  have cc2 := d2
  have cc3 := d3
  have cc4 := d4
  have cc5 := d5
  have cc6 := d6
  have cc7 := d7
  have cc8 := d8
  have cc9 := d9
  have cc10 := d10
  have cc11 := d11
  have cc12 := d12
  have cc13 := d13
  have cc14 := d14
  have zz0 := y0
  have zz1 := y1
  have zz2 := y2
  have zz3 := y3
  have zz4 := y4
  have zz5 := y5
  have HR := q0
  have HW0 := q1
  have HMK := q2
  have HH0 := q3
  have BB := BB1
  have sA := sA1
  clear BB1 sA1 d0 d1 d2 d3 d4 d5 d6 d7 d8 d9 d10 d11 d12 d13 d14 y0 y1 y2 y3 y4 y5 q0 q1 q2 q3
  clear bz
  rw [show sameW ys [] [] (zsOf ys) (qsOf ys) ys [] [] (zsOf ys) (qsOf ys) = true from sameW_true.2 ⟨rfl, rfl, rfl, rfl, rfl⟩]
  go_wp2_with fail
  refine (heldWorld bg l _ _ _ _ (by omega) HMK.out).mono ?_
  rintro e wr' ⟨rfl, bz⟩
  have d0 : wr'.cell? ⟨B0, 0, none⟩ = some (.slice u1a l u1c) := (Below.celz bz _ _ _ (by omega)).trans cc0
  have d1 : wr'.cell? ⟨B0, 1, none⟩ = some (.slice none 0 0) := (Below.celz bz _ _ _ (by omega)).trans cc1
  have d2 : wr'.cell? ⟨B0, 2, none⟩ = some (.slice none 0 0) := (Below.celz bz _ _ _ (by omega)).trans cc2
  have d3 : wr'.cell? ⟨B0, 3, none⟩ = some (.slice u4a l u4c) := (Below.celz bz _ _ _ (by omega)).trans cc3
  have d4 : wr'.cell? ⟨B0, 4, none⟩ = some (.slice u5a l u5c) := (Below.celz bz _ _ _ (by omega)).trans cc4
  have d5 : wr'.cell? ⟨C0, 0, none⟩ = some (.slice p1a l p1c) := (Below.celz bz _ _ _ (by omega)).trans cc5
  have d6 : wr'.cell? ⟨C0, 1, none⟩ = some (.slice none 0 0) := (Below.celz bz _ _ _ (by omega)).trans cc6
  have d7 : wr'.cell? ⟨C0, 2, none⟩ = some (.slice none 0 0) := (Below.celz bz _ _ _ (by omega)).trans cc7
  have d8 : wr'.cell? ⟨C0, 3, none⟩ = some (.slice p4a l p4c) := (Below.celz bz _ _ _ (by omega)).trans cc8
  have d9 : wr'.cell? ⟨C0, 4, none⟩ = some (.slice p5a l p5c) := (Below.celz bz _ _ _ (by omega)).trans cc9
  have d10 : wr'.cell? ⟨E0, 0, none⟩ = some (.slice h1a l h1c) := (Below.celz bz _ _ _ (by omega)).trans cc10
  have d11 : wr'.cell? ⟨E0, 1, none⟩ = some (.slice none 0 0) := (Below.celz bz _ _ _ (by omega)).trans cc11
  have d12 : wr'.cell? ⟨E0, 2, none⟩ = some (.slice none 0 0) := (Below.celz bz _ _ _ (by omega)).trans cc12
  have d13 : wr'.cell? ⟨E0, 3, none⟩ = some (.slice h4a l h4c) := (Below.celz bz _ _ _ (by omega)).trans cc13
  have d14 : wr'.cell? ⟨E0, 4, none⟩ = some (.slice h5a l h5c) := (Below.celz bz _ _ _ (by omega)).trans cc14
  have y0 : B0 < wr'.heap.size := by have := Below.size bz; omega
  have y1 : bxp < wr'.heap.size := by have := Below.size bz; omega
  have y2 : bgp < wr'.heap.size := by have := Below.size bz; omega
  have y3 : egp < wr'.heap.size := by have := Below.size bz; omega
  have y4 : C0 < wr'.heap.size := by have := Below.size bz; omega
  have y5 : E0 < wr'.heap.size := by have := Below.size bz; omega
  have BB1 : Below A w wr' := BB.trans (bz.mono (by omega))
  have sA1 : A ≤ wr'.heap.size := by have := Below.size bz; omega
  have q0 : Hid (RowAt 3 encPerson wr' (.slice aa n ac) xs0) := HR.out.keep bz
  have q1 : Hid (NewW wr' b1 (.slice u1a l u1c) (.slice u4a l u4c) (.slice u5a l u5c) ys) := HW0.out.keep bz
  have q2 : Hid (MarkW wr' bg (.slice p1a l p1c) (.slice p4a l p4c) (.slice p5a l p5c) l) := HMK.out.keep bz
  have q3 : Hid (NewW wr' bh (.slice h1a l h1c) (.slice h4a l h4c) (.slice h5a l h5c) ys) := HH0.out.keep bz
  clear BB sA cc0 cc1 cc2 cc3 cc4 cc5 cc6 cc7 cc8 cc9 cc10 cc11 cc12 cc13 cc14 zz0 zz1 zz2 zz3 zz4 zz5 HR HW0 HMK HH0
  have cc0 := d0
  have cc1 := d1
  have cc2 := d2
  have cc3 := d3
  have cc4 := d4
  have cc5 := d5
  have cc6 := d6
  have cc7 := d7
  have cc8 := d8
  have cc9 := d9
  have cc10 := d10
  have cc11 := d11
  have cc12 := d12
  have cc13 := d13
  have cc14 := d14
  have zz0 := y0
  have zz1 := y1
  have zz2 := y2
  have zz3 := y3
  have zz4 := y4
  have zz5 := y5
  have HR := q0
  have HW0 := q1
  have HMK := q2
  have HH0 := q3
  have BB := BB1
  have sA := sA1
  clear BB1 sA1 d0 d1 d2 d3 d4 d5 d6 d7 d8 d9 d10 d11 d12 d13 d14 y0 y1 y2 y3 y4 y5 q0 q1 q2 q3
  clear bz
  go_wp2_with fail
  go_ret
  exact ⟨rfl, (by have := BB; rw [HA.out] at this; exact this)⟩

set_option maxRecDepth 100000 in
set_option maxHeartbeats 1000000 in
theorem lifted (os : Os) (started : os.Started) (H : Type) (enc : TypeId × Value → H) :
    ReturnsInHanded {} Try.checked os 4 .any (Rows.fnExactWorldNewSpec.pre6 enc Try.prog Try.f4 Rows.fnExactWorldNewRow.domain false) (Rows.fnExactWorldNewSpec.post enc Try.prog Try.f4 false true false false) := by
  refine returnsInHanded_of_change (C := Try.checked) own started (by kernel_rfl) Try.func4
    (ChangeSpec.witness6 (enc := enc) (C := Try.checked) false ⟨#[], #[.slice none 0 0], []⟩ 8 (by kernel_rfl) (by kernel_rfl) (by kernel_rfl) (by kernel_rfl)) ?_
  intro W base args ds gs before hval0 hW hcnd _
  have hval : ∀ (j : Nat) t v, Try.f4.params[j]? = some t → args[j]? = some v → Value.okWide Try.prog W .any base t v := hval0
  have hW' := hW
  obtain ⟨p, q, hA0, hV, rfl, hfz, hnd⟩ := hW
  have hA : DataW.TrodAll enc Try.prog W 0 (fun _ => true) true Try.f4.params.toList args.toList ds p := hA0
  rw [Try.params4] at hA hval
  obtain ⟨v0, vs0, d0, ds0, p0, q0, hargs, rfl, rfl, h0, r0⟩ := trodAll_cons hA
  obtain ⟨rfl, rfl, rfl⟩ := trodAll_nil r0
  obtain rfl : args = #[v0] := by cases args; simp_all
  obtain ⟨rfl, rfl⟩ := trodVars_none hV
  have kr0 := h0
  have lt0 : ∀ x ∈ p0, x.block < W.heap.size := by obtain ⟨m, hm⟩ := kr0; exact DataW.trod_lt m _ _ _ hm
  obtain ⟨xs0, w0⟩ := open_people (hval 0 28 v0 rfl rfl) h0
  clear hA0 hval0
  refine (walk v0 xs0 W w0).mono fun e W' ⟨he, bel⟩ => ?_
  subst he
  exact ⟨_, rfl, _, _, _, [], _, [], hW', trodAll_mk1 (shut_bool Try.underlying4 _), (trodAll_cons_mk (Below.trod laidOut (by kernel_rfl) (of_decide_eq_true (by kernel_rfl)) kr0 bel lt0) trodAll_mk0), rfl, bel.frame _, fun h => by cases h⟩

theorem over : Rows.fnExactWorldNewRow.holds Try.pinned (OpenSpec.ofChange Rows.fnExactWorldNewSpec) :=
  OpenClaim.holds_of_wide 4 Try.f4 rfl rfl rfl rfl rfl rfl rfl ⟨rfl, rfl, rfl, rfl, rfl⟩ rfl rfl rfl rfl rfl (by kernel_rfl) Try.func4 (by kernel_rfl)
    (of_decide_eq_true (by kernel_rfl)) (by unfold Func.isWrapper; first | (rw [if_pos (by decide +kernel)]; kernel_rfl) | (rw [if_neg (by decide +kernel)]; exact ⟨rfl, rfl⟩))
    (fun os started H enc _ => lifted os started H enc)

end Go.Proofs.Ytnhacflknkgfgaa.fnExactWorldNew
namespace Go.Proofs.Ytnhacflknkgfgaa
theorem fnExactWorldNew_holds : Rows.FnExactWorldNewSaid := fnExactWorldNew.over
#print axioms fnExactWorldNew_holds
end Go.Proofs.Ytnhacflknkgfgaa
