/-
  Views are graphs, and views of views intersect.
-/
import Derived.Test.YtcinjkpedigffaaDoorCards
import Derived.Test.YtcinjkpedigffaaDoorTie
import Derived.Test.YtcinjkpedigffaaDoorGlw
import Derived.Test.YtcinjkpedigffaaDoorGlx
import Derived.Test.YtcinjkpedigffaaDoorErs
import Derived.WalkKit
import Derived.ProofKit
import Derived.OpenShut
import Derived.ShutString
import Derived.ChangeOld
import Derived.Below
import Derived.Carry
import Derived.Handy
import Derived.Deep.RegionHeld3
import Derived.LaidMore
import Derived.Deep.DeepCutAuto
namespace Go.Proofs.YtcinjkpedigffaaDoor.fnGraphView
open Go.Proofs.YtcinjkpedigffaaDoor.Lab
open Go.ChangeShapes Go.WideShapes Go.ChangeAt Go.RowKit
open Go.ChangeMaps (open_string shut_string)
set_option linter.unusedVariables false

theorem own : ownKnob Tryd.prog.godebug = none := by kernel_rfl
/-- A row of numbers that came in: nil, or so many cells. -/
def IsRow (k : IntKind) (w : World) (a : Option Addr) (len cap : Nat) (zs : List Int) : Prop :=
  (a = none ∧ len = 0 ∧ cap = 0 ∧ zs = []) ∨ ∃ x, a = some x ∧ len ≤ cap ∧ cap ≤ maxLen ∧ zs.length = cap ∧ (∀ i, i < zs.length → w.cell? (x.add i) = some (.int k (zs.getD i 0))) ∧ ∀ n ∈ zs, (Lit.int k n).wf = true

set_option maxRecDepth 16000 in
set_option maxHeartbeats 8000000 in
theorem walk (a0 : Option Addr) (len0 cap0 : Nat) (z0 : List Int) (a1 : Option Addr) (len1 cap1 : Nat) (z1 : List Int) (w : World) (w0 : IsRow .u8 w a0 len0 cap0 z0) (w1 : IsRow .u8 w a1 len1 cap1 z1) (hE : Errs w) :
    Calls Tryd.prog 3 #[.slice a0 len0 cap0, .slice a1 len1 cap1] w fun e w' => e = .returned (.bool true) ∧ Below w.heap.size w w' := by
  have HF : Hid (Errs w) := hE
  clear hE
  by_cases hlen0 : len0 > 1048576
  · go_enter Tryd.func3, Tryd.ntmps3
    go_wp2
    go_ret
    exact ⟨rfl, Below.refl _ _⟩
  by_cases hlen1 : len1 > 1048576
  · go_enter Tryd.func3, Tryd.ntmps3
    go_wp2
    go_ret
    exact ⟨rfl, Below.refl _ _⟩
  have k0 : CodeAt w a0 len0 cap0 z0 := code_of w0
  clear w0
  have k1 : CodeAt w a1 len1 cap1 z1 := code_of w1
  clear w1
  go_enter Tryd.func3, Tryd.ntmps3
  go_wp2_with fail
  refine (drawGraphView _ _ _ _ _ k0).mono ?_
  rintro e wa ⟨v1, v2, ns, es, c, rfl, hg, ba⟩
  obtain ⟨ga, gc, gb, gd, rfl, rfl⟩ := hg.form
  obtain ⟨n, hn⟩ : ∃ n, n = ns.length := ⟨_, rfl⟩
  obtain ⟨m, hm⟩ : ∃ m, m = es.length := ⟨_, rfl⟩
  have HN : Hid (n = ns.length ∧ m = es.length) := ⟨hn, hm⟩
  have ln : n ≤ 200 := by rw [hn]; exact hg.2.2.1
  have lm : m ≤ 200 := by rw [hm]; exact hg.2.2.2
  rw [← hn, ← hm] at hg ⊢
  obtain ⟨A, hA⟩ : ∃ t, t = wa.heap.size := ⟨_, rfl⟩
  have HA : Hid (A = wa.heap.size) := hA
  have BB : Below A wa wa := Below.refl _ _
  have sA : A ≤ wa.heap.size := by omega
  have HV : Hid (∀ W, Below A wa W → GrAt W (.slice ga n gc) (.slice gb m gd) ns es ∧ Errs W ∧ Below w.heap.size w W ∧ CodeAt W a1 len1 cap1 z1) := fun W h => by
    rw [HA.out] at h
    exact ⟨hg.keep h, (HF.out.keep ba).keep h, ba.trans (h.mono ba.size), (k1.below ba).below h⟩
  clear hg ba hn hm HF hA
  clear k0 k1
  go_wp2_with fail
  obtain ⟨P0, hP0⟩ : ∃ t, t = wa.heap.size := ⟨_, rfl⟩
  generalize hW : wa.alloc (.cells #[.slice ga n gc, .slice gb m gd] 26) = wb
  have nb : Below wa.heap.size wa wb := by rw [← hW]; exact (Below.refl _ _).alloc (Nat.le_refl _) _
  have k3 : wb.heap.size = P0 + 1 := by rw [← hW, hP0]; simp
  have kk0 : wb.cell? ⟨P0, 0, none⟩ = some (.slice ga n gc) := by rw [← hW, hP0]; simp [go_sem]
  have kk1 : wb.cell? ⟨P0, 1, none⟩ = some (.slice gb m gd) := by rw [← hW, hP0]; simp [go_sem]
  have oP0A : A ≤ P0 := by rw [hP0]; exact sA
  have BB1 : Below A wa wb := BB.trans (nb.mono (by omega))
  have sA1 : A ≤ wb.heap.size := by have := Below.size nb; omega
  clear BB sA   
  have BB := BB1
  have sA := sA1
  clear BB1 sA1   
  have cc0 := kk0
  have cc1 := kk1
  have zz0 : P0 < wb.heap.size := by omega
  rw [← hP0]
  have k3P0 := k3
  clear k3 hW nb hP0 kk0 kk1
  clear k3P0
  refine (gv_impl _ _ c ns es _ (HV.out _ BB).1 (HV.out _ BB).2.1).mono ?_
  rintro e wc ⟨u1, u2, rfl, og, bwc⟩
  have d0 : wc.cell? ⟨P0, 0, none⟩ = some (.slice ga n gc) := (Below.celz bwc _ _ _ (by omega)).trans cc0
  have d1 : wc.cell? ⟨P0, 1, none⟩ = some (.slice gb m gd) := (Below.celz bwc _ _ _ (by omega)).trans cc1
  have y0 : P0 < wc.heap.size := by have := Below.size bwc; omega
  have BB1 : Below A wa wc := BB.trans (bwc.mono (by omega))
  have sA1 : A ≤ wc.heap.size := by have := Below.size bwc; omega
  clear BB sA cc0 cc1 zz0 
  have cc0 := d0
  have cc1 := d1
  have zz0 := y0
  have BB := BB1
  have sA := sA1
  clear BB1 sA1 d0 d1 y0 
  clear bwc
  obtain ⟨xa1, xc1, xb1, xd1, rfl, rfl⟩ := og.form
  obtain ⟨X1N, hX⟩ : ∃ t, t = seenN c ns es := ⟨_, rfl⟩
  obtain ⟨X1E, hY⟩ : ∃ t, t = seenE c ns es := ⟨_, rfl⟩
  rw [← hX, ← hY] at og ⊢
  obtain ⟨p1, hp⟩ : ∃ t, t = X1N.length := ⟨_, rfl⟩
  obtain ⟨r1, hr⟩ : ∃ t, t = X1E.length := ⟨_, rfl⟩
  have HX1 : Hid (X1N = seenN c ns es ∧ X1E = seenE c ns es ∧ p1 = X1N.length ∧ r1 = X1E.length) := ⟨hX, hY, hp, hr⟩
  have lp1 : p1 ≤ 200 := by rw [hp]; exact og.2.2.1
  have lr1 : r1 ≤ 200 := by rw [hr]; exact og.2.2.2
  rw [← hp, ← hr] at og ⊢
  clear hX hY hp hr
  have HR1 : Hid (GrAt wc (.slice xa1 p1 xc1) (.slice xb1 r1 xd1) X1N X1E) := og
  clear og
  go_wp2_with fail
  obtain ⟨P1, hP1⟩ : ∃ t, t = wc.heap.size := ⟨_, rfl⟩
  generalize hW : wc.alloc (.cells #[.slice xa1 p1 xc1, .slice xb1 r1 xd1] 26) = wd
  have nb : Below wc.heap.size wc wd := by rw [← hW]; exact (Below.refl _ _).alloc (Nat.le_refl _) _
  have k3 : wd.heap.size = P1 + 1 := by rw [← hW, hP1]; simp
  have kk0 : wd.cell? ⟨P1, 0, none⟩ = some (.slice xa1 p1 xc1) := by rw [← hW, hP1]; simp [go_sem]
  have kk1 : wd.cell? ⟨P1, 1, none⟩ = some (.slice xb1 r1 xd1) := by rw [← hW, hP1]; simp [go_sem]
  have oP1A : A ≤ P1 := by rw [hP1]; exact sA
  have oP10 : P0 < P1 := by rw [hP1]; exact zz0
  have d0 : wd.cell? ⟨P0, 0, none⟩ = some (.slice ga n gc) := (Below.celz nb _ _ _ (by omega)).trans cc0
  have d1 : wd.cell? ⟨P0, 1, none⟩ = some (.slice gb m gd) := (Below.celz nb _ _ _ (by omega)).trans cc1
  have y0 : P0 < wd.heap.size := by have := Below.size nb; omega
  have BB1 : Below A wa wd := BB.trans (nb.mono (by omega))
  have sA1 : A ≤ wd.heap.size := by have := Below.size nb; omega
  have q0 : Hid (GrAt wd (.slice xa1 p1 xc1) (.slice xb1 r1 xd1) X1N X1E) := HR1.out.keep nb
  clear BB sA cc0 cc1 zz0 HR1
  have cc0 := d0
  have cc1 := d1
  have zz0 := y0
  have HR1 := q0
  have BB := BB1
  have sA := sA1
  clear BB1 sA1 d0 d1 y0 q0
  have cc2 := kk0
  have cc3 := kk1
  have zz1 : P1 < wd.heap.size := by omega
  rw [← hP1]
  have k3P1 := k3
  clear k3 hW nb hP1 kk0 kk1
  clear k3P1
  have HVH : Hid (∀ w', Below wd.heap.size wd w' → GrAt w' (.slice ga n gc) (.slice gb m gd) ns es ∧ Errs w') := fun w' h => ⟨(HV.out _ (BB.trans (h.mono sA))).1, (HV.out _ (BB.trans (h.mono sA))).2.1⟩
  have hS : Hid (∀ w', Below wd.heap.size wd w' → Below wd.heap.size wd w' ∧ w'.cell? ⟨P0, 0, none⟩ = some (.slice ga n gc) ∧ w'.cell? ⟨P0, 1, none⟩ = some (.slice gb m gd) ∧ w'.cell? ⟨P1, 0, none⟩ = some (.slice xa1 p1 xc1) ∧ w'.cell? ⟨P1, 1, none⟩ = some (.slice xb1 r1 xd1)) := fun w' hn => ⟨hn, (Below.celz hn _ _ _ zz0).trans cc0, (Below.celz hn _ _ _ zz0).trans cc1, (Below.celz hn _ _ _ zz1).trans cc2, (Below.celz hn _ _ _ zz1).trans cc3⟩
  go_region_held3 (fun w' => Below wd.heap.size wd w' ∧ w'.cell? ⟨P0, 0, none⟩ = some (.slice ga n gc) ∧ w'.cell? ⟨P0, 1, none⟩ = some (.slice gb m gd) ∧ w'.cell? ⟨P1, 0, none⟩ = some (.slice xa1 p1 xc1) ∧ w'.cell? ⟨P1, 1, none⟩ = some (.slice xb1 r1 xd1))
    (first | with_reducible exact hS.out _ (Below.refl _ _).drew | (with_reducible exact hS.out _ (keep_below (And.left (by assumption)) tj2)) | (with_reducible exact hS.out _ (keep_below (And.left (by assumption)) tj1)))
    (first | (go_at_call 11; refine (gv_spec _ _ c ns es _ (HVH.out _ (And.left (by assumption))).1).mono ?_; rintro e wv1 ⟨t1, t2, rfl, ot, tj1⟩) | (go_at_call 10; refine (gs_same _ _ _ _ X1N _ X1E _ HX1.out.1 HX1.out.2.1 _ (HR1.out.keep (And.left (by assumption))) ot).mono ?_; rintro e wg ⟨rfl, tj2⟩))
  have lb : Below wd.heap.size wd wg := And.left (show Below wd.heap.size wd wg ∧ wg.cell? ⟨P0, 0, none⟩ = some (.slice ga n gc) ∧ wg.cell? ⟨P0, 1, none⟩ = some (.slice gb m gd) ∧ wg.cell? ⟨P1, 0, none⟩ = some (.slice xa1 p1 xc1) ∧ wg.cell? ⟨P1, 1, none⟩ = some (.slice xb1 r1 xd1) by assumption)
  clear hS
  have d0 : wg.cell? ⟨P0, 0, none⟩ = some (.slice ga n gc) := (Below.celz lb _ _ _ (by omega)).trans cc0
  have d1 : wg.cell? ⟨P0, 1, none⟩ = some (.slice gb m gd) := (Below.celz lb _ _ _ (by omega)).trans cc1
  have d2 : wg.cell? ⟨P1, 0, none⟩ = some (.slice xa1 p1 xc1) := (Below.celz lb _ _ _ (by omega)).trans cc2
  have d3 : wg.cell? ⟨P1, 1, none⟩ = some (.slice xb1 r1 xd1) := (Below.celz lb _ _ _ (by omega)).trans cc3
  have y0 : P0 < wg.heap.size := by have := Below.size lb; omega
  have y1 : P1 < wg.heap.size := by have := Below.size lb; omega
  have BB1 : Below A wa wg := BB.trans (lb.mono (by omega))
  have sA1 : A ≤ wg.heap.size := by have := Below.size lb; omega
  have q0 : Hid (GrAt wg (.slice xa1 p1 xc1) (.slice xb1 r1 xd1) X1N X1E) := HR1.out.keep lb
  clear BB sA cc0 cc1 cc2 cc3 zz0 zz1 HR1
  have cc0 := d0
  have cc1 := d1
  have cc2 := d2
  have cc3 := d3
  have zz0 := y0
  have zz1 := y1
  have HR1 := q0
  have BB := BB1
  have sA := sA1
  clear BB1 sA1 d0 d1 d2 d3 y0 y1 q0
  clear lb
  clear HVH
  go_wp2_with fail
  cases hgk : gokB ns es
  · refine (gok_spec _ _ ns es false hgk _ (HV.out _ BB).1).mono ?_
    rintro e wh ⟨rfl, bh⟩
    have d0 : wh.cell? ⟨P0, 0, none⟩ = some (.slice ga n gc) := (Below.celz bh _ _ _ (by omega)).trans cc0
    have d1 : wh.cell? ⟨P0, 1, none⟩ = some (.slice gb m gd) := (Below.celz bh _ _ _ (by omega)).trans cc1
    have d2 : wh.cell? ⟨P1, 0, none⟩ = some (.slice xa1 p1 xc1) := (Below.celz bh _ _ _ (by omega)).trans cc2
    have d3 : wh.cell? ⟨P1, 1, none⟩ = some (.slice xb1 r1 xd1) := (Below.celz bh _ _ _ (by omega)).trans cc3
    have y0 : P0 < wh.heap.size := by have := Below.size bh; omega
    have y1 : P1 < wh.heap.size := by have := Below.size bh; omega
    have BB1 : Below A wa wh := BB.trans (bh.mono (by omega))
    have sA1 : A ≤ wh.heap.size := by have := Below.size bh; omega
    have q0 : Hid (GrAt wh (.slice xa1 p1 xc1) (.slice xb1 r1 xd1) X1N X1E) := HR1.out.keep bh
    clear BB sA cc0 cc1 cc2 cc3 zz0 zz1 HR1
    have cc0 := d0
    have cc1 := d1
    have cc2 := d2
    have cc3 := d3
    have zz0 := y0
    have zz1 := y1
    have HR1 := q0
    have BB := BB1
    have sA := sA1
    clear BB1 sA1 d0 d1 d2 d3 y0 y1 q0
    clear bh
    have HBAD : Hid (gokB ns es = false ∨ okB c = false) := .inl hgk
    go_wp2_with fail
    refine (gs_same _ _ _ _ X1N [] X1E [] (by rw [HX1.out.1]; exact (seen_bad HBAD.out).1) (by rw [HX1.out.2.1]; exact (seen_bad HBAD.out).2) _ HR1.out (GrAt.nil _)).mono ?_
    rintro e wz ⟨rfl, bz⟩
    have d0 : wz.cell? ⟨P0, 0, none⟩ = some (.slice ga n gc) := (Below.celz bz _ _ _ (by omega)).trans cc0
    have d1 : wz.cell? ⟨P0, 1, none⟩ = some (.slice gb m gd) := (Below.celz bz _ _ _ (by omega)).trans cc1
    have d2 : wz.cell? ⟨P1, 0, none⟩ = some (.slice xa1 p1 xc1) := (Below.celz bz _ _ _ (by omega)).trans cc2
    have d3 : wz.cell? ⟨P1, 1, none⟩ = some (.slice xb1 r1 xd1) := (Below.celz bz _ _ _ (by omega)).trans cc3
    have y0 : P0 < wz.heap.size := by have := Below.size bz; omega
    have y1 : P1 < wz.heap.size := by have := Below.size bz; omega
    have BB1 : Below A wa wz := BB.trans (bz.mono (by omega))
    have sA1 : A ≤ wz.heap.size := by have := Below.size bz; omega
    have q0 : Hid (GrAt wz (.slice xa1 p1 xc1) (.slice xb1 r1 xd1) X1N X1E) := HR1.out.keep bz
    clear BB sA cc0 cc1 cc2 cc3 zz0 zz1 HR1
    have cc0 := d0
    have cc1 := d1
    have cc2 := d2
    have cc3 := d3
    have zz0 := y0
    have zz1 := y1
    have HR1 := q0
    have BB := BB1
    have sA := sA1
    clear BB1 sA1 d0 d1 d2 d3 y0 y1 q0
    clear bz
    go_wp2_with fail
    go_ret
    exact ⟨rfl, (HV.out _ BB).2.2.1⟩
  · refine (gok_spec _ _ ns es true hgk _ (HV.out _ BB).1).mono ?_
    rintro e wh ⟨rfl, bh⟩
    have d0 : wh.cell? ⟨P0, 0, none⟩ = some (.slice ga n gc) := (Below.celz bh _ _ _ (by omega)).trans cc0
    have d1 : wh.cell? ⟨P0, 1, none⟩ = some (.slice gb m gd) := (Below.celz bh _ _ _ (by omega)).trans cc1
    have d2 : wh.cell? ⟨P1, 0, none⟩ = some (.slice xa1 p1 xc1) := (Below.celz bh _ _ _ (by omega)).trans cc2
    have d3 : wh.cell? ⟨P1, 1, none⟩ = some (.slice xb1 r1 xd1) := (Below.celz bh _ _ _ (by omega)).trans cc3
    have y0 : P0 < wh.heap.size := by have := Below.size bh; omega
    have y1 : P1 < wh.heap.size := by have := Below.size bh; omega
    have BB1 : Below A wa wh := BB.trans (bh.mono (by omega))
    have sA1 : A ≤ wh.heap.size := by have := Below.size bh; omega
    have q0 : Hid (GrAt wh (.slice xa1 p1 xc1) (.slice xb1 r1 xd1) X1N X1E) := HR1.out.keep bh
    clear BB sA cc0 cc1 cc2 cc3 zz0 zz1 HR1
    have cc0 := d0
    have cc1 := d1
    have cc2 := d2
    have cc3 := d3
    have zz0 := y0
    have zz1 := y1
    have HR1 := q0
    have BB := BB1
    have sA := sA1
    clear BB1 sA1 d0 d1 d2 d3 y0 y1 q0
    clear bh
    go_wp2_with fail
    cases hck : okB c
    · refine (lok c _).mono ?_
      rintro e wi ⟨rfl, bi⟩
      rw [hck]
      have d0 : wi.cell? ⟨P0, 0, none⟩ = some (.slice ga n gc) := (Below.celz bi _ _ _ (by omega)).trans cc0
      have d1 : wi.cell? ⟨P0, 1, none⟩ = some (.slice gb m gd) := (Below.celz bi _ _ _ (by omega)).trans cc1
      have d2 : wi.cell? ⟨P1, 0, none⟩ = some (.slice xa1 p1 xc1) := (Below.celz bi _ _ _ (by omega)).trans cc2
      have d3 : wi.cell? ⟨P1, 1, none⟩ = some (.slice xb1 r1 xd1) := (Below.celz bi _ _ _ (by omega)).trans cc3
      have y0 : P0 < wi.heap.size := by have := Below.size bi; omega
      have y1 : P1 < wi.heap.size := by have := Below.size bi; omega
      have BB1 : Below A wa wi := BB.trans (bi.mono (by omega))
      have sA1 : A ≤ wi.heap.size := by have := Below.size bi; omega
      have q0 : Hid (GrAt wi (.slice xa1 p1 xc1) (.slice xb1 r1 xd1) X1N X1E) := HR1.out.keep bi
      clear BB sA cc0 cc1 cc2 cc3 zz0 zz1 HR1
      have cc0 := d0
      have cc1 := d1
      have cc2 := d2
      have cc3 := d3
      have zz0 := y0
      have zz1 := y1
      have HR1 := q0
      have BB := BB1
      have sA := sA1
      clear BB1 sA1 d0 d1 d2 d3 y0 y1 q0
      clear bi
      have HBAD : Hid (gokB ns es = false ∨ okB c = false) := .inr hck
      go_wp2_with fail
      refine (gs_same _ _ _ _ X1N [] X1E [] (by rw [HX1.out.1]; exact (seen_bad HBAD.out).1) (by rw [HX1.out.2.1]; exact (seen_bad HBAD.out).2) _ HR1.out (GrAt.nil _)).mono ?_
      rintro e wz ⟨rfl, bz⟩
      have d0 : wz.cell? ⟨P0, 0, none⟩ = some (.slice ga n gc) := (Below.celz bz _ _ _ (by omega)).trans cc0
      have d1 : wz.cell? ⟨P0, 1, none⟩ = some (.slice gb m gd) := (Below.celz bz _ _ _ (by omega)).trans cc1
      have d2 : wz.cell? ⟨P1, 0, none⟩ = some (.slice xa1 p1 xc1) := (Below.celz bz _ _ _ (by omega)).trans cc2
      have d3 : wz.cell? ⟨P1, 1, none⟩ = some (.slice xb1 r1 xd1) := (Below.celz bz _ _ _ (by omega)).trans cc3
      have y0 : P0 < wz.heap.size := by have := Below.size bz; omega
      have y1 : P1 < wz.heap.size := by have := Below.size bz; omega
      have BB1 : Below A wa wz := BB.trans (bz.mono (by omega))
      have sA1 : A ≤ wz.heap.size := by have := Below.size bz; omega
      have q0 : Hid (GrAt wz (.slice xa1 p1 xc1) (.slice xb1 r1 xd1) X1N X1E) := HR1.out.keep bz
      clear BB sA cc0 cc1 cc2 cc3 zz0 zz1 HR1
      have cc0 := d0
      have cc1 := d1
      have cc2 := d2
      have cc3 := d3
      have zz0 := y0
      have zz1 := y1
      have HR1 := q0
      have BB := BB1
      have sA := sA1
      clear BB1 sA1 d0 d1 d2 d3 y0 y1 q0
      clear bz
      go_wp2_with fail
      go_ret
      exact ⟨rfl, (HV.out _ BB).2.2.1⟩
    · refine (lok c _).mono ?_
      rintro e wi ⟨rfl, bi⟩
      rw [hck]
      have d0 : wi.cell? ⟨P0, 0, none⟩ = some (.slice ga n gc) := (Below.celz bi _ _ _ (by omega)).trans cc0
      have d1 : wi.cell? ⟨P0, 1, none⟩ = some (.slice gb m gd) := (Below.celz bi _ _ _ (by omega)).trans cc1
      have d2 : wi.cell? ⟨P1, 0, none⟩ = some (.slice xa1 p1 xc1) := (Below.celz bi _ _ _ (by omega)).trans cc2
      have d3 : wi.cell? ⟨P1, 1, none⟩ = some (.slice xb1 r1 xd1) := (Below.celz bi _ _ _ (by omega)).trans cc3
      have y0 : P0 < wi.heap.size := by have := Below.size bi; omega
      have y1 : P1 < wi.heap.size := by have := Below.size bi; omega
      have BB1 : Below A wa wi := BB.trans (bi.mono (by omega))
      have sA1 : A ≤ wi.heap.size := by have := Below.size bi; omega
      have q0 : Hid (GrAt wi (.slice xa1 p1 xc1) (.slice xb1 r1 xd1) X1N X1E) := HR1.out.keep bi
      clear BB sA cc0 cc1 cc2 cc3 zz0 zz1 HR1
      have cc0 := d0
      have cc1 := d1
      have cc2 := d2
      have cc3 := d3
      have zz0 := y0
      have zz1 := y1
      have HR1 := q0
      have BB := BB1
      have sA := sA1
      clear BB1 sA1 d0 d1 d2 d3 y0 y1 q0
      clear bi
      have HOK : Hid (gokB ns es = true ∧ okB c = true) := ⟨hgk, hck⟩
      clear hgk hck
      go_wp2_with fail
      go_loopw [8] (fun i wr => ∃ k : Nat, k ≤ p1 ∧ i = .int .i64 k ∧ Below wi.heap.size wi wr) (fun i _ => p1 - (intOf i).toNat)
      case atStart => exact ⟨0, by omega, rfl, Below.refl _ _⟩
      case round =>
        obtain ⟨k, hk, rfl, hbel⟩ := hrel
        have HBL : Hid (Below wi.heap.size wi wr) := hbel
        have sg : wi.heap.size ≤ wr.heap.size := hbel.size
        have d0 : wr.cell? ⟨P0, 0, none⟩ = some (.slice ga n gc) := (Below.celz hbel _ _ _ (by omega)).trans cc0
        have d1 : wr.cell? ⟨P0, 1, none⟩ = some (.slice gb m gd) := (Below.celz hbel _ _ _ (by omega)).trans cc1
        have d2 : wr.cell? ⟨P1, 0, none⟩ = some (.slice xa1 p1 xc1) := (Below.celz hbel _ _ _ (by omega)).trans cc2
        have d3 : wr.cell? ⟨P1, 1, none⟩ = some (.slice xb1 r1 xd1) := (Below.celz hbel _ _ _ (by omega)).trans cc3
        have y0 : P0 < wr.heap.size := by have := Below.size hbel; omega
        have y1 : P1 < wr.heap.size := by have := Below.size hbel; omega
        have BB1 : Below A wa wr := BB.trans (hbel.mono (by omega))
        have sA1 : A ≤ wr.heap.size := by have := Below.size hbel; omega
        have q0 : Hid (GrAt wr (.slice xa1 p1 xc1) (.slice xb1 r1 xd1) X1N X1E) := HR1.out.keep hbel
        clear BB sA cc0 cc1 cc2 cc3 zz0 zz1 HR1
        have cc0 := d0
        have cc1 := d1
        have cc2 := d2
        have cc3 := d3
        have zz0 := y0
        have zz1 := y1
        have HR1 := q0
        have BB := BB1
        have sA := sA1
        clear BB1 sA1 d0 d1 d2 d3 y0 y1 q0
        clear hbel
        by_cases hlt : k < p1
        · have j0 : (0 : Int) ≤ (k : Int) := by omega
          have j1 : (k : Int) < (p1 : Int) := by omega
          obtain ⟨⟨f0, f1⟩, hx⟩ : ∃ x, X1N[k]? = some x := ⟨_, List.getElem?_eq_getElem (by rw [← HX1.out.2.2.1]; exact hlt)⟩
          rcases HR1.out.1 with ⟨hz0, _⟩ | ⟨_, b, off, cap', hv, hb, hc⟩
          · exfalso; rw [hz0] at hx; simp at hx
          simp only [Value.slice.injEq] at hv
          obtain ⟨rfl, -, hcc⟩ := hv
          have e0 : wr.cell? ⟨b, off + k * 2, none⟩ = some (.int .i64 f0) := hc k _ hx 0 _ rfl
          have e1 : wr.cell? ⟨b, off + k * 2 + 1, none⟩ = some (.int .i64 f1) := hc k _ hx 1 _ rfl
          have HXk : Hid (X1N[k]? = some (f0, f1)) := hx
          clear hx hc hcc
          have HU : Hid (underB f0 c = true) := (seen_mem (x := (f0, f1)) (by rw [← HX1.out.1]; exact List.mem_of_getElem? HXk.out)).1
          go_wp2_with fail
          refine (lund f0 c true HU.out _).mono ?_
          rintro e ws ⟨rfl, bs⟩
          have HB3 : Hid (Below wi.heap.size wi ws) := HBL.out.trans (bs.mono sg)
          clear bs
          go_wp2_with fail
          go_roundw
          case rel => exact ⟨k + 1, by omega, by go_num, HB3.out⟩
          case measure => simp [intOf]; omega
        · have hkn : p1 = k := by omega
          subst hkn
          obtain ⟨wl, hwl⟩ : ∃ t, t = wr := ⟨_, rfl⟩
          subst hwl
          go_wp2_with fail
          go_loopw [9, 10] (fun s i wr => ∃ k : Nat, k ≤ n ∧ i = .int .i64 k ∧ s = .int .i64 ((ns.take k).countP (fun x => underB x.1 c) : Nat) ∧ Below wl.heap.size wl wr) (fun _ i _ => n - (intOf i).toNat)
          case atStart => exact ⟨0, by omega, rfl, rfl, Below.refl _ _⟩
          case round =>
            obtain ⟨k, hk, rfl, rfl, hbel2⟩ := hrel
            have HBL2 : Hid (Below wl.heap.size wl wr) := hbel2
            have sg2 : wl.heap.size ≤ wr.heap.size := hbel2.size
            have d0 : wr.cell? ⟨P0, 0, none⟩ = some (.slice ga n gc) := (Below.celz hbel2 _ _ _ (by omega)).trans cc0
            have d1 : wr.cell? ⟨P0, 1, none⟩ = some (.slice gb m gd) := (Below.celz hbel2 _ _ _ (by omega)).trans cc1
            have d2 : wr.cell? ⟨P1, 0, none⟩ = some (.slice xa1 p1 xc1) := (Below.celz hbel2 _ _ _ (by omega)).trans cc2
            have d3 : wr.cell? ⟨P1, 1, none⟩ = some (.slice xb1 r1 xd1) := (Below.celz hbel2 _ _ _ (by omega)).trans cc3
            have y0 : P0 < wr.heap.size := by have := Below.size hbel2; omega
            have y1 : P1 < wr.heap.size := by have := Below.size hbel2; omega
            have BB1 : Below A wa wr := BB.trans (hbel2.mono (by omega))
            have sA1 : A ≤ wr.heap.size := by have := Below.size hbel2; omega
            have q0 : Hid (GrAt wr (.slice xa1 p1 xc1) (.slice xb1 r1 xd1) X1N X1E) := HR1.out.keep hbel2
            clear BB sA cc0 cc1 cc2 cc3 zz0 zz1 HR1
            have cc0 := d0
            have cc1 := d1
            have cc2 := d2
            have cc3 := d3
            have zz0 := y0
            have zz1 := y1
            have HR1 := q0
            have BB := BB1
            have sA := sA1
            clear BB1 sA1 d0 d1 d2 d3 y0 y1 q0
            clear hbel2
            have hcl : (ns.take k).countP (fun x => underB x.1 c) ≤ k := Nat.le_trans List.countP_le_length (by rw [List.length_take]; omega)
            obtain ⟨q, hq⟩ : ∃ q, q = (ns.take k).countP (fun x => underB x.1 c) := ⟨_, rfl⟩
            have HQ : Hid (q = (ns.take k).countP (fun x => underB x.1 c)) := hq
            rw [← hq] at hcl ⊢
            clear hq
            by_cases hlt : k < n
            · have j0 : (0 : Int) ≤ (k : Int) := by omega
              have j1 : (k : Int) < (n : Int) := by omega
              obtain ⟨⟨f0, f1⟩, hx⟩ : ∃ x, ns[k]? = some x := ⟨_, List.getElem?_eq_getElem (by rw [← HN.out.1]; exact hlt)⟩
              rcases (HV.out _ BB).1.1 with ⟨hz0, _⟩ | ⟨_, b, off, cap', hv, hb, hc⟩
              · exfalso; rw [hz0] at hx; simp at hx
              simp only [Value.slice.injEq] at hv
              obtain ⟨rfl, -, hcc⟩ := hv
              have e0 : wr.cell? ⟨b, off + k * 2, none⟩ = some (.int .i64 f0) := hc k _ hx 0 _ rfl
              have e1 : wr.cell? ⟨b, off + k * 2 + 1, none⟩ = some (.int .i64 f1) := hc k _ hx 1 _ rfl
              have HXk : Hid (ns[k]? = some (f0, f1)) := hx
              clear hx hc hcc
              have hst := cntP_step (p := fun x => underB x.1 c) HXk.out
              have HST : Hid ((ns.take (k + 1)).countP (fun x => underB x.1 c) = q + if underB f0 c then 1 else 0) := by rw [HQ.out]; exact hst
              clear hst
              go_wp2_with fail
              cases hu : underB f0 c
              · rw [hu] at HST
                refine (lund f0 c false hu _).mono ?_
                rintro e ws ⟨rfl, bs⟩
                have HB3 : Hid (Below wl.heap.size wl ws) := HBL2.out.trans (bs.mono sg2)
                clear bs hu
                go_wp2_with fail
                go_roundw
                case rel => exact ⟨k + 1, by omega, by go_num, by rw [HST.out]; first | rfl | (simp; done) | go_num, HB3.out⟩
                case measure => simp [intOf]; omega
              · rw [hu] at HST
                refine (lund f0 c true hu _).mono ?_
                rintro e ws ⟨rfl, bs⟩
                have HB3 : Hid (Below wl.heap.size wl ws) := HBL2.out.trans (bs.mono sg2)
                clear bs hu
                go_wp2_with fail
                go_roundw
                case rel => exact ⟨k + 1, by omega, by go_num, by rw [HST.out]; first | rfl | (simp; done) | go_num, HB3.out⟩
                case measure => simp [intOf]; omega
            · have hkn : n = k := by omega
              subst hkn
              have hqp : q = p1 := by
                rw [HQ.out, HX1.out.2.2.1, HX1.out.1, seen_cnt c HOK.out.1, HN.out.1, List.take_length]
              subst hqp
              go_wp2_with fail
              have HOT : Hid (okB ((len1 : Int) % 8) = true) := by
                show okB _ = true
                unfold okB
                rw [decide_eq_true (p := (0 : Int) ≤ (len1 : Int) % 8) (by omega), decide_eq_true (p := (len1 : Int) % 8 ≤ 7) (by omega)]
                rfl
              generalize (len1 : Int) % 8 = ot at HOT ⊢
              have HOKV : Hid (gokB X1N X1E = true) := by show _ = _; rw [HX1.out.1, HX1.out.2.1]; exact seen_ok c HOK.out.1
              have HSM : Hid (seenN ot X1N X1E = seenN (meetI c ot) ns es ∧ seenE ot X1N X1E = seenE (meetI c ot) ns es) := by
                rw [HX1.out.1, HX1.out.2.1]; exact seen_meet HOK.out.1 HOK.out.2 HOT.out
              have HS7 : Hid (seenN 7 ns es = ns ∧ seenE 7 ns es = es) := seen_seven HOK.out.1
              have HVH : Hid (∀ w', Below wr.heap.size wr w' → GrAt w' (.slice ga n gc) (.slice gb m gd) ns es ∧ Errs w') := fun w' h => ⟨(HV.out _ (BB.trans (h.mono sA))).1, (HV.out _ (BB.trans (h.mono sA))).2.1⟩
              have hS : Hid (∀ w', Below wr.heap.size wr w' → Below wr.heap.size wr w' ∧ w'.cell? ⟨P0, 0, none⟩ = some (.slice ga n gc) ∧ w'.cell? ⟨P0, 1, none⟩ = some (.slice gb m gd) ∧ w'.cell? ⟨P1, 0, none⟩ = some (.slice xa1 q xc1) ∧ w'.cell? ⟨P1, 1, none⟩ = some (.slice xb1 r1 xd1)) := fun w' hn => ⟨hn, (Below.celz hn _ _ _ zz0).trans cc0, (Below.celz hn _ _ _ zz0).trans cc1, (Below.celz hn _ _ _ zz1).trans cc2, (Below.celz hn _ _ _ zz1).trans cc3⟩
              go_region_held3 (fun w' => Below wr.heap.size wr w' ∧ w'.cell? ⟨P0, 0, none⟩ = some (.slice ga n gc) ∧ w'.cell? ⟨P0, 1, none⟩ = some (.slice gb m gd) ∧ w'.cell? ⟨P1, 0, none⟩ = some (.slice xa1 q xc1) ∧ w'.cell? ⟨P1, 1, none⟩ = some (.slice xb1 r1 xd1))
                (first | with_reducible exact hS.out _ (Below.refl _ _).drew | (with_reducible exact hS.out _ (keep_below (And.left (by assumption)) tj7)) | (with_reducible exact hS.out _ (keep_below (And.left (by assumption)) tj5)) | (with_reducible exact hS.out _ (keep_below (And.left (by assumption)) tj4)) | (with_reducible exact hS.out _ (keep_below (And.left (by assumption)) tj3)) | (with_reducible exact hS.out _ (keep_below (And.left (by assumption)) tj2)) | (with_reducible exact hS.out _ (keep_below (And.left (by assumption)) tj1)) | (with_reducible exact hS.out _ (keep_below (And.left (by assumption)) tj6)))
                (first
                  | (go_at_call_of 10 (Value.agg #[t5, t6]); refine (gs_same _ _ _ _ _ ns _ es HS7.out.1 HS7.out.2 _ o6 (HVH.out _ (And.left (by assumption))).1).mono ?_; rintro e v7w ⟨rfl, tj7⟩)
                  | (go_at_call_of 10 (Value.agg #[t1, t2]); refine (gs_same _ _ _ _ _ _ _ _ HSM.out.1 HSM.out.2 _ o5 o4).mono ?_; rintro e v5w ⟨rfl, tj5⟩)
                  | (go_at_call_of 9 (Value.int IntKind.i64 (meetI c ot)); refine (gv_impl _ _ (meetI c ot) ns es _ (HVH.out _ (And.left (by assumption))).1 (HVH.out _ (And.left (by assumption))).2).mono ?_; rintro e v4w ⟨t3, t4, rfl, o4, tj4⟩; have o5 := o3.keep tj4)
                  | (go_at_call 16; refine (lmeet c ot _).mono ?_; rintro e v3w ⟨rfl, tj3⟩; have o3 := o2.keep tj3)
                  | (go_at_call_of 9 (Value.agg #[Value.slice xa1 q xc1, Value.slice xb1 r1 xd1]); refine (gv_impl _ _ ot X1N X1E _ (HR1.out.keep (And.left (by assumption))) (HVH.out _ (And.left (by assumption))).2).mono ?_; rintro e v2w ⟨t1, t2, rfl, o2, tj2⟩)
                  | (go_at_call 15; refine (gok_impl _ _ X1N X1E true HOKV.out _ (HR1.out.keep (And.left (by assumption))) (HVH.out _ (And.left (by assumption))).2).mono ?_; rintro e v1w ⟨rfl, tj1⟩)
                  | (go_at_call 9; refine (gv_impl _ _ 7 ns es _ (HVH.out _ (And.left (by assumption))).1 (HVH.out _ (And.left (by assumption))).2).mono ?_; rintro e v6w ⟨t5, t6, rfl, o6, tj6⟩))
              have lb : Below wr.heap.size wr v7w := And.left (show Below wr.heap.size wr v7w ∧ v7w.cell? ⟨P0, 0, none⟩ = some (.slice ga n gc) ∧ v7w.cell? ⟨P0, 1, none⟩ = some (.slice gb m gd) ∧ v7w.cell? ⟨P1, 0, none⟩ = some (.slice xa1 q xc1) ∧ v7w.cell? ⟨P1, 1, none⟩ = some (.slice xb1 r1 xd1) by assumption)
              clear hS
              have d0 : v7w.cell? ⟨P0, 0, none⟩ = some (.slice ga n gc) := (Below.celz lb _ _ _ (by omega)).trans cc0
              have d1 : v7w.cell? ⟨P0, 1, none⟩ = some (.slice gb m gd) := (Below.celz lb _ _ _ (by omega)).trans cc1
              have d2 : v7w.cell? ⟨P1, 0, none⟩ = some (.slice xa1 q xc1) := (Below.celz lb _ _ _ (by omega)).trans cc2
              have d3 : v7w.cell? ⟨P1, 1, none⟩ = some (.slice xb1 r1 xd1) := (Below.celz lb _ _ _ (by omega)).trans cc3
              have y0 : P0 < v7w.heap.size := by have := Below.size lb; omega
              have y1 : P1 < v7w.heap.size := by have := Below.size lb; omega
              have BB1 : Below A wa v7w := BB.trans (lb.mono (by omega))
              have sA1 : A ≤ v7w.heap.size := by have := Below.size lb; omega
              have q0 : Hid (GrAt v7w (.slice xa1 q xc1) (.slice xb1 r1 xd1) X1N X1E) := HR1.out.keep lb
              clear BB sA cc0 cc1 cc2 cc3 zz0 zz1 HR1
              have cc0 := d0
              have cc1 := d1
              have cc2 := d2
              have cc3 := d3
              have zz0 := y0
              have zz1 := y1
              have HR1 := q0
              have BB := BB1
              have sA := sA1
              clear BB1 sA1 d0 d1 d2 d3 y0 y1 q0
              clear lb
              clear HVH
              go_wp2_with fail
              go_ret
              exact ⟨rfl, (HV.out _ BB).2.2.1⟩

theorem door_met (os : Os) (args : Array Value) : laidMetH Tryd.prog Rows.fnGraphViewRow.laid ((World.doorLaid Tryd.prog 85 os).forCall (fun _ _ => 0) ⟨#[], args, []⟩).memory :=
  laidMetH_of_parts3 (fuel := 8) (laidMet_of_run' 8 (by kernel_rfl) (by kernel_rfl)) (by kernel_rfl) (by kernel_rfl)

set_option maxRecDepth 100000 in
set_option maxHeartbeats 1000000 in
theorem lifted (os : Os) (started : os.Started) (H : Type) (enc : TypeId × Value → H) :
    ReturnsInHanded {} Tryd.checked os 3 .any (fun w args => (Rows.fnGraphViewSpec.pre enc Tryd.prog Tryd.f3 [] false w args ∧ laidMetH Tryd.prog Rows.fnGraphViewRow.laid w) ∧ sizedMet enc Tryd.prog Tryd.f3 (OpenSpec.ofChange Rows.fnGraphViewSpec) false w args)
      (Rows.fnGraphViewSpec.post enc Tryd.prog Tryd.f3 false true false false) := by
  refine returnsInHanded_of_change_and (C := Tryd.checked) (X := fun w _ => laidMetH Tryd.prog Rows.fnGraphViewRow.laid w) (fun _ _ _ hh h => h.of_heap hh) own started (by kernel_rfl) Tryd.func3
    (ChangeSpec.witness_shaped (enc := enc) (C := Tryd.checked) (os := os) (X := fun w _ => laidMetH Tryd.prog Rows.fnGraphViewRow.laid w) false (World.doorLaid Tryd.prog 85 os) #[.slice none 0 0, .slice none 0 0] 8 rfl (World.shaped_of_RefB (by kernel_rfl) (by kernel_rfl)) (by kernel_rfl) (by kernel_rfl) (by kernel_rfl) (door_met os _)) ?_
  intro W base args ds gs before hval0 hW _ _ hL _
  have hval : ∀ (j : Nat) t v, Tryd.f3.params[j]? = some t → args[j]? = some v → Value.okWide Tryd.prog W .any base t v := hval0
  have hW' := hW
  obtain ⟨p, q, hA0, hV0, rfl, hfz, hnd⟩ := hW
  have hA : DataW.TrodAll enc Tryd.prog W 0 (fun _ => true) true Tryd.f3.params.toList args.toList ds p := hA0
  have hV : DataW.TrodVars enc Tryd.prog W (fun _ => true) ["loop.example/hagioscope/impl.errForm", "loop.example/hagioscope/impl.errThere", "loop.example/hagioscope/impl.errFull", "loop.example/hagioscope/impl.errNone"] gs q := hV0
  rw [Tryd.params3] at hA hval
  obtain ⟨v0, vs0, d0, ds0, p0, q0, hargs, rfl, rfl, h0, r0⟩ := trodAll_cons hA
  obtain ⟨v1, vs1, d1, ds1, p1, q1, rfl, rfl, rfl, h1, r1⟩ := trodAll_cons r0
  obtain ⟨rfl, rfl, rfl⟩ := trodAll_nil r1
  obtain rfl : args = #[v0, v1] := by cases args; simp_all
  have kr0 := h0
  have lt0 : ∀ x ∈ p0, x.block < W.heap.size := by obtain ⟨m, hm⟩ := kr0; exact DataW.trod_lt m _ _ _ hm
  have kr1 := h1
  have lt1 : ∀ x ∈ p1, x.block < W.heap.size := by obtain ⟨m, hm⟩ := kr1; exact DataW.trod_lt m _ _ _ hm
  obtain ⟨a0, len0, cap0, rfl⟩ := okWide_slice Tryd.underlying22 (hval 0 22 v0 rfl rfl)
  obtain ⟨z0, w0⟩ : ∃ zs, IsRow .u8 W a0 len0 cap0 zs := by
    obtain ⟨fuel, hf⟩ := h0
    rcases open_ints Tryd.underlying22 Tryd.underlying5 (by kernel_rfl) hf with ⟨hcs, _⟩ | ⟨x, l, c, zs, hcs, _, hl, hm, hz, _, hcell, hwz⟩
    · simp [Value.cells] at hcs
      obtain ⟨rfl, rfl, rfl⟩ := hcs
      exact ⟨[], .inl ⟨rfl, rfl, rfl, rfl⟩⟩
    · simp [Value.cells] at hcs
      obtain ⟨rfl, rfl, rfl⟩ := hcs
      exact ⟨zs, .inr ⟨_, rfl, hl, hm, by simpa using hz, hcell, hwz⟩⟩
  obtain ⟨a1, len1, cap1, rfl⟩ := okWide_slice Tryd.underlying22 (hval 1 22 v1 rfl rfl)
  obtain ⟨z1, w1⟩ : ∃ zs, IsRow .u8 W a1 len1 cap1 zs := by
    obtain ⟨fuel, hf⟩ := h1
    rcases open_ints Tryd.underlying22 Tryd.underlying5 (by kernel_rfl) hf with ⟨hcs, _⟩ | ⟨x, l, c, zs, hcs, _, hl, hm, hz, _, hcell, hwz⟩
    · simp [Value.cells] at hcs
      obtain ⟨rfl, rfl, rfl⟩ := hcs
      exact ⟨[], .inl ⟨rfl, rfl, rfl, rfl⟩⟩
    · simp [Value.cells] at hcs
      obtain ⟨rfl, rfl, rfl⟩ := hcs
      exact ⟨zs, .inr ⟨_, rfl, hl, hm, by simpa using hz, hcell, hwz⟩⟩
  have hI := held_of hL
  have hE : Errs W := errs_of hI
  obtain ⟨g1, g2, g3, g4, rfl⟩ : ∃ g1 g2 g3 g4, gs = [g1, g2, g3, g4] := by
    have hlen := vars_len _ _ _ hV
    match gs, hlen with
    | [g1, g2, g3, g4], _ => exact ⟨g1, g2, g3, g4, rfl⟩
  clear hA0 hV0 hval0
  refine (walk a0 len0 cap0 z0 a1 len1 cap1 z1 W w0 w1 hE).mono fun e W' ⟨he, bel⟩ => ?_
  subst he
  exact ⟨_, rfl, _, _, _, [], _, _, hW', trodAll_mk1 (shut_bool Tryd.underlying4 _), (trodAll_cons_mk (Below.trod laidOut (by kernel_rfl) (of_decide_eq_true (by kernel_rfl)) kr0 bel lt0) (trodAll_cons_mk (Below.trod laidOut (by kernel_rfl) (of_decide_eq_true (by kernel_rfl)) kr1 bel lt1) trodAll_mk0)), vars_keep Tryd.underlying72 bel _ _ _ hV hI, bel.frame _, fun h => by cases h⟩

theorem said : Rows.FnGraphViewSaid :=
  OpenClaim.holds_of_wide 3 Tryd.f3 rfl rfl rfl rfl rfl rfl rfl ⟨rfl, rfl, rfl, rfl, rfl⟩ rfl rfl rfl rfl rfl (by kernel_rfl) Tryd.func3 (by kernel_rfl)
    (of_decide_eq_true (by kernel_rfl)) (by unfold Func.isWrapper; first | (rw [if_pos (by decide +kernel)]; kernel_rfl) | (rw [if_neg (by decide +kernel)]; exact ⟨rfl, rfl⟩))
    (fun os started H enc _ => lifted os started H enc)

theorem plain (f : FuncId) (fn : Func) (hf : Tryd.pinned.checked.prog.funcNamed "loop.example/hagioscope/laws.FnGraphView" = some f) (hfn : Tryd.pinned.checked.prog.funcs[f]? = some fn) :
    false = Tryd.pinned.checked.prog.looks [] ∧ ∀ (j : Nat) t, fn.params[j]? = some t → Tryd.pinned.checked.prog.wantsStandIn t = false := by
  obtain rfl : f = 3 := Option.some.inj ((show Tryd.prog.funcNamed "loop.example/hagioscope/laws.FnGraphView" = some 3 by kernel_rfl).symm.trans hf) |>.symm
  obtain rfl : fn = Tryd.f3 := (Option.some.inj (Tryd.func3.symm.trans hfn)).symm
  refine ⟨by kernel_rfl, fun j t ht => ?_⟩
  rw [Tryd.params3] at ht
  obtain rfl : t = 22 := by simpa using Array.mem_of_getElem? ht
  · exact (show Tryd.prog.wantsStandIn 22 = false by kernel_rfl)

end Go.Proofs.YtcinjkpedigffaaDoor.fnGraphView
namespace Go.Proofs.YtcinjkpedigffaaDoor
theorem fnGraphView_card : Rows.FnGraphViewCardSaid :=
  Claim7.holds_tied_plain_at .later [] _ _ _ _ fnGraphView.said (fun _ h => by cases h) (by kernel_rfl) (fun _ h => by cases h) fnGraphView_row_tie rfl ⟨rfl, rfl⟩ (by kernel_rfl) rfl fnGraphView.plain (by kernel_rfl)
#print axioms fnGraphView_card
end Go.Proofs.YtcinjkpedigffaaDoor
