/-
  Views unite and intersect.
-/
import Derived.Test.YtcinjkpedigffaaDoorCards
import Derived.Test.YtcinjkpedigffaaDoorTie
import Derived.Test.YtcinjkpedigffaaDoorGlw
import Derived.Test.YtcinjkpedigffaaDoorGlx
import Derived.Test.YtcinjkpedigffaaDoorGlu
import Derived.Test.YtcinjkpedigffaaDoorErs
import Derived.WalkKit
import Derived.ProofKit
import Derived.OpenShut
import Derived.ShutString
import Derived.ChangeOld
import Derived.Below
import Derived.Carry
import Derived.Handy
import Derived.Deep.RegionHeld3
import Derived.LaidMore
import Derived.Deep.DeepCutAuto
namespace Go.Proofs.YtcinjkpedigffaaDoor.fnGraphUnion
open Go.Proofs.YtcinjkpedigffaaDoor.Lab
open Go.ChangeShapes Go.WideShapes Go.ChangeAt Go.RowKit
open Go.ChangeMaps (open_string shut_string)
set_option linter.unusedVariables false

theorem own : ownKnob Tryd.prog.godebug = none := by kernel_rfl
/-- A row of numbers that came in: nil, or so many cells. -/
def IsRow (k : IntKind) (w : World) (a : Option Addr) (len cap : Nat) (zs : List Int) : Prop :=
  (a = none ∧ len = 0 ∧ cap = 0 ∧ zs = []) ∨ ∃ x, a = some x ∧ len ≤ cap ∧ cap ≤ maxLen ∧ zs.length = cap ∧ (∀ i, i < zs.length → w.cell? (x.add i) = some (.int k (zs.getD i 0))) ∧ ∀ n ∈ zs, (Lit.int k n).wf = true
theorem wrap_small (x : Int) (h0 : -1000000 ≤ x) (h1 : x ≤ 1000000) : IntKind.i64.wrap x = x := by
  unfold IntKind.wrap; simp [IntKind.bits, IntKind.signed]; omega
def BoxW (w0 Wf : World) (C : Nat) (u1 u2 : Value) (N : List Nd) (E : List Ed) : Prop := Below w0.heap.size w0 Wf ∧ w0.heap.size ≤ C ∧ Wf.heap[C]? = some (.cells #[u1, u2] 26 (0, 0)) ∧ GrAt Wf u1 u2 N E
theorem boxw_last {w0 wc : World} {u1 u2 : Value} {N : List Nd} {E : List Ed} (hs : Below w0.heap.size w0 wc) (hg : GrAt wc u1 u2 N E) : BoxW w0 (wc.alloc (.cells #[u1, u2] 26)) wc.heap.size u1 u2 N E :=
  ⟨hs.alloc hs.size _, hs.size, new_block _ _, hg.keep ((Below.refl _ _).alloc (Nat.le_refl _) _)⟩
theorem boxw_set {w0 wc : World} {C : Nat} {y1 y2 : Option Addr} {n1 n2 c1 c2 : Nat} {N : List Nd} {E : List Ed} (hs : Below w0.heap.size w0 wc) (hC : w0.heap.size ≤ C) (h : wc.heap[C]? = some (.cells #[.slice none 0 0, .slice none 0 0] 26 (0, 0))) (hg : GrAt wc (.slice y1 n1 c1) (.slice y2 n2 c2) N E) :
    BoxW w0 ((wc.setCell ⟨C, 0, none⟩ (.slice y1 n1 c1)).setCell ⟨C, 1, none⟩ (.slice y2 n2 c2)) C (.slice y1 n1 c1) (.slice y2 n2 c2) N E := by
  refine ⟨(hs.setCell (p := ⟨C, 0, none⟩) hC _).setCell (p := ⟨C, 1, none⟩) hC _, hC, ?_, (hg.set h 0 _).set (set_block _ h) 1 _⟩
  rw [set_block _ (set_block _ h)]; rfl

set_option maxRecDepth 16000 in
set_option maxHeartbeats 8000000 in
theorem walk (a0 : Option Addr) (len0 cap0 : Nat) (z0 : List Int) (a1 : Option Addr) (len1 cap1 : Nat) (z1 : List Int) (w : World) (w0 : IsRow .u8 w a0 len0 cap0 z0) (w1 : IsRow .u8 w a1 len1 cap1 z1) (hE : Errs w) :
    Calls Tryd.prog 7 #[.slice a0 len0 cap0, .slice a1 len1 cap1] w fun e w' => e = .returned (.bool true) ∧ Below w.heap.size w w' := by
  have HF : Hid (Errs w) := hE
  clear hE
  by_cases hlen0 : len0 > 1048576
  · go_enter Tryd.func7, Tryd.ntmps7
    go_wp2
    go_ret
    exact ⟨rfl, Below.refl _ _⟩
  by_cases hlen1 : len1 > 1048576
  · go_enter Tryd.func7, Tryd.ntmps7
    go_wp2
    go_ret
    exact ⟨rfl, Below.refl _ _⟩
  have k0 : CodeAt w a0 len0 cap0 z0 := code_of w0
  clear w0
  have k1 : CodeAt w a1 len1 cap1 z1 := code_of w1
  clear w1
  go_enter Tryd.func7, Tryd.ntmps7
  go_wp2_with fail
  refine (drawGraphView _ _ _ _ _ k0).mono ?_
  rintro e wa ⟨v1, v2, ns, es, c, rfl, hg, ba⟩
  obtain ⟨ga, gc, gb, gd, rfl, rfl⟩ := hg.form
  obtain ⟨n, hn⟩ : ∃ n, n = ns.length := ⟨_, rfl⟩
  obtain ⟨m, hm⟩ : ∃ m, m = es.length := ⟨_, rfl⟩
  have HN : Hid (n = ns.length ∧ m = es.length) := ⟨hn, hm⟩
  have ln : n ≤ 200 := by rw [hn]; exact hg.2.2.1
  have lm : m ≤ 200 := by rw [hm]; exact hg.2.2.2
  rw [← hn, ← hm] at hg ⊢
  obtain ⟨A, hA⟩ : ∃ t, t = wa.heap.size := ⟨_, rfl⟩
  have HA : Hid (A = wa.heap.size) := hA
  have BB : Below A wa wa := Below.refl _ _
  have sA : A ≤ wa.heap.size := by omega
  have HV : Hid (∀ W, Below A wa W → GrAt W (.slice ga n gc) (.slice gb m gd) ns es ∧ Errs W ∧ Below w.heap.size w W ∧ CodeAt W a1 len1 cap1 z1) := fun W h => by
    rw [HA.out] at h
    exact ⟨hg.keep h, (HF.out.keep ba).keep h, ba.trans (h.mono ba.size), (k1.below ba).below h⟩
  clear hg ba hn hm HF hA
  clear k0 k1
  go_wp2_with fail
  obtain ⟨P0, hP0⟩ : ∃ t, t = wa.heap.size := ⟨_, rfl⟩
  generalize hW : wa.alloc (.cells #[.slice ga n gc, .slice gb m gd] 26) = wb
  have nb : Below wa.heap.size wa wb := by rw [← hW]; exact (Below.refl _ _).alloc (Nat.le_refl _) _
  have k3 : wb.heap.size = P0 + 1 := by rw [← hW, hP0]; simp
  have kk0 : wb.cell? ⟨P0, 0, none⟩ = some (.slice ga n gc) := by rw [← hW, hP0]; simp [go_sem]
  have kk1 : wb.cell? ⟨P0, 1, none⟩ = some (.slice gb m gd) := by rw [← hW, hP0]; simp [go_sem]
  have oP0A : A ≤ P0 := by rw [hP0]; exact sA
  have BB1 : Below A wa wb := BB.trans (nb.mono (by omega))
  have sA1 : A ≤ wb.heap.size := by have := Below.size nb; omega
  clear BB sA   
  have BB := BB1
  have sA := sA1
  clear BB1 sA1   
  have cc0 := kk0
  have cc1 := kk1
  have zz0 : P0 < wb.heap.size := by omega
  rw [← hP0]
  have k3P0 := k3
  clear k3 hW nb hP0 kk0 kk1
  clear k3P0
  refine (drawGraphView _ _ _ _ _ (HV.out _ BB).2.2.2).mono ?_
  rintro e wc ⟨v1, v2, ms, fs, c2, rfl, hg, bwc⟩
  have d0 : wc.cell? ⟨P0, 0, none⟩ = some (.slice ga n gc) := (Below.celz bwc _ _ _ (by omega)).trans cc0
  have d1 : wc.cell? ⟨P0, 1, none⟩ = some (.slice gb m gd) := (Below.celz bwc _ _ _ (by omega)).trans cc1
  have y0 : P0 < wc.heap.size := by have := Below.size bwc; omega
  have BB1 : Below A wa wc := BB.trans (bwc.mono (by omega))
  have sA1 : A ≤ wc.heap.size := by have := Below.size bwc; omega
  clear BB sA cc0 cc1 zz0 
  have cc0 := d0
  have cc1 := d1
  have zz0 := y0
  have BB := BB1
  have sA := sA1
  clear BB1 sA1 d0 d1 y0 
  clear bwc
  obtain ⟨ha, hc, hb, hd, rfl, rfl⟩ := hg.form
  obtain ⟨n2, hn2⟩ : ∃ t, t = ms.length := ⟨_, rfl⟩
  obtain ⟨m2, hm2⟩ : ∃ t, t = fs.length := ⟨_, rfl⟩
  rw [← hn2, ← hm2]
  clear hg hn2 hm2
  go_wp2_with fail
  obtain ⟨P1, hP1⟩ : ∃ t, t = wc.heap.size := ⟨_, rfl⟩
  generalize hW : wc.alloc (.cells #[.slice ha n2 hc, .slice hb m2 hd] 26) = wd
  have nb : Below wc.heap.size wc wd := by rw [← hW]; exact (Below.refl _ _).alloc (Nat.le_refl _) _
  have k3 : wd.heap.size = P1 + 1 := by rw [← hW, hP1]; simp
  have kk0 : wd.cell? ⟨P1, 0, none⟩ = some (.slice ha n2 hc) := by rw [← hW, hP1]; simp [go_sem]
  have kk1 : wd.cell? ⟨P1, 1, none⟩ = some (.slice hb m2 hd) := by rw [← hW, hP1]; simp [go_sem]
  have oP1A : A ≤ P1 := by rw [hP1]; exact sA
  have oP10 : P0 < P1 := by rw [hP1]; exact zz0
  have d0 : wd.cell? ⟨P0, 0, none⟩ = some (.slice ga n gc) := (Below.celz nb _ _ _ (by omega)).trans cc0
  have d1 : wd.cell? ⟨P0, 1, none⟩ = some (.slice gb m gd) := (Below.celz nb _ _ _ (by omega)).trans cc1
  have y0 : P0 < wd.heap.size := by have := Below.size nb; omega
  have BB1 : Below A wa wd := BB.trans (nb.mono (by omega))
  have sA1 : A ≤ wd.heap.size := by have := Below.size nb; omega
  clear BB sA cc0 cc1 zz0 
  have cc0 := d0
  have cc1 := d1
  have zz0 := y0
  have BB := BB1
  have sA := sA1
  clear BB1 sA1 d0 d1 y0 
  have cc2 := kk0
  have cc3 := kk1
  have zz1 : P1 < wd.heap.size := by omega
  rw [← hP1]
  have k3P1 := k3
  clear k3 hW nb hP1 kk0 kk1
  clear k3P1
  refine (gv_impl _ _ c ns es _ (HV.out _ BB).1 (HV.out _ BB).2.1).mono ?_
  rintro e we ⟨u1, u2, rfl, og, bwe⟩
  have d0 : we.cell? ⟨P0, 0, none⟩ = some (.slice ga n gc) := (Below.celz bwe _ _ _ (by omega)).trans cc0
  have d1 : we.cell? ⟨P0, 1, none⟩ = some (.slice gb m gd) := (Below.celz bwe _ _ _ (by omega)).trans cc1
  have d2 : we.cell? ⟨P1, 0, none⟩ = some (.slice ha n2 hc) := (Below.celz bwe _ _ _ (by omega)).trans cc2
  have d3 : we.cell? ⟨P1, 1, none⟩ = some (.slice hb m2 hd) := (Below.celz bwe _ _ _ (by omega)).trans cc3
  have y0 : P0 < we.heap.size := by have := Below.size bwe; omega
  have y1 : P1 < we.heap.size := by have := Below.size bwe; omega
  have BB1 : Below A wa we := BB.trans (bwe.mono (by omega))
  have sA1 : A ≤ we.heap.size := by have := Below.size bwe; omega
  clear BB sA cc0 cc1 cc2 cc3 zz0 zz1 
  have cc0 := d0
  have cc1 := d1
  have cc2 := d2
  have cc3 := d3
  have zz0 := y0
  have zz1 := y1
  have BB := BB1
  have sA := sA1
  clear BB1 sA1 d0 d1 d2 d3 y0 y1 
  clear bwe
  obtain ⟨xa1, xc1, xb1, xd1, rfl, rfl⟩ := og.form
  obtain ⟨X1N, hX⟩ : ∃ t, t = seenN c ns es := ⟨_, rfl⟩
  obtain ⟨X1E, hY⟩ : ∃ t, t = seenE c ns es := ⟨_, rfl⟩
  rw [← hX, ← hY] at og ⊢
  obtain ⟨p1, hp⟩ : ∃ t, t = X1N.length := ⟨_, rfl⟩
  obtain ⟨r1, hr⟩ : ∃ t, t = X1E.length := ⟨_, rfl⟩
  have HX1 : Hid (X1N = seenN c ns es ∧ X1E = seenE c ns es ∧ p1 = X1N.length ∧ r1 = X1E.length) := ⟨hX, hY, hp, hr⟩
  have lp1 : p1 ≤ 200 := by rw [hp]; exact og.2.2.1
  have lr1 : r1 ≤ 200 := by rw [hr]; exact og.2.2.2
  rw [← hp, ← hr] at og ⊢
  clear hX hY hp hr
  have HR1 : Hid (GrAt we (.slice xa1 p1 xc1) (.slice xb1 r1 xd1) X1N X1E) := og
  clear og
  go_wp2_with fail
  obtain ⟨P2, hP2⟩ : ∃ t, t = we.heap.size := ⟨_, rfl⟩
  generalize hW : we.alloc (.cells #[.slice xa1 p1 xc1, .slice xb1 r1 xd1] 26) = wf
  have nb : Below we.heap.size we wf := by rw [← hW]; exact (Below.refl _ _).alloc (Nat.le_refl _) _
  have k3 : wf.heap.size = P2 + 1 := by rw [← hW, hP2]; simp
  have kk0 : wf.cell? ⟨P2, 0, none⟩ = some (.slice xa1 p1 xc1) := by rw [← hW, hP2]; simp [go_sem]
  have kk1 : wf.cell? ⟨P2, 1, none⟩ = some (.slice xb1 r1 xd1) := by rw [← hW, hP2]; simp [go_sem]
  have oP2A : A ≤ P2 := by rw [hP2]; exact sA
  have oP20 : P0 < P2 := by rw [hP2]; exact zz0
  have oP21 : P1 < P2 := by rw [hP2]; exact zz1
  have d0 : wf.cell? ⟨P0, 0, none⟩ = some (.slice ga n gc) := (Below.celz nb _ _ _ (by omega)).trans cc0
  have d1 : wf.cell? ⟨P0, 1, none⟩ = some (.slice gb m gd) := (Below.celz nb _ _ _ (by omega)).trans cc1
  have d2 : wf.cell? ⟨P1, 0, none⟩ = some (.slice ha n2 hc) := (Below.celz nb _ _ _ (by omega)).trans cc2
  have d3 : wf.cell? ⟨P1, 1, none⟩ = some (.slice hb m2 hd) := (Below.celz nb _ _ _ (by omega)).trans cc3
  have y0 : P0 < wf.heap.size := by have := Below.size nb; omega
  have y1 : P1 < wf.heap.size := by have := Below.size nb; omega
  have BB1 : Below A wa wf := BB.trans (nb.mono (by omega))
  have sA1 : A ≤ wf.heap.size := by have := Below.size nb; omega
  have q0 : Hid (GrAt wf (.slice xa1 p1 xc1) (.slice xb1 r1 xd1) X1N X1E) := HR1.out.keep nb
  clear BB sA cc0 cc1 cc2 cc3 zz0 zz1 HR1
  have cc0 := d0
  have cc1 := d1
  have cc2 := d2
  have cc3 := d3
  have zz0 := y0
  have zz1 := y1
  have HR1 := q0
  have BB := BB1
  have sA := sA1
  clear BB1 sA1 d0 d1 d2 d3 y0 y1 q0
  have cc4 := kk0
  have cc5 := kk1
  have zz2 : P2 < wf.heap.size := by omega
  rw [← hP2]
  have k3P2 := k3
  clear k3 hW nb hP2 kk0 kk1
  clear k3P2
  cases hgk : gokB ns es
  · have HBAD : Hid (gokB ns es = false ∨ okB c = false) := .inl hgk
    have hck : okB c = okB c := rfl
    have HA1 : Hid (∀ p : After wf, GrAt p.w (.slice ga n gc) (.slice gb m gd) ns es ∧ GrAt p.w (.slice xa1 p1 xc1) (.slice xb1 r1 xd1) X1N X1E) := fun p => ⟨(HV.out _ (BB.trans (p.bel.mono sA))).1, HR1.out.keep p.bel⟩
    have HSB : Hid (seenN c ns es = [] ∧ seenE c ns es = []) := seen_bad HBAD.out
    refine wp_region_after (by kernel_rfl) (by kernel_rfl) ?_
    intro hneq hac
    repeat (go_big_quiet_step (first
      | (go_at_call 11; exact after_of (gv_spec_bad _ _ c ns es _ (HA1.out _).1 HBAD.out))
      | (go_at_call 10; exact after_of (gs_same _ _ _ _ X1N [] X1E [] (by rw [HX1.out.1]; exact HSB.out.1) (by rw [HX1.out.2.1]; exact HSB.out.2) _ (HA1.out _).2 (GrAt.nil _)))
      | (go_at_call 12; exact after_of (gok_spec _ _ ns es false hgk _ (HA1.out _).1))
      | (go_at_call 13; exact after_at hck (lok c _))))
    refine wpQuiet_nil ?_
    rintro _ ⟨p', rfl⟩
    have bq : Below wf.heap.size wf p'.w := p'.bel
    clear hac hneq HA1 HSB
    generalize p'.w = wg at *
    have d0 : wg.cell? ⟨P0, 0, none⟩ = some (.slice ga n gc) := (Below.celz bq _ _ _ (by omega)).trans cc0
    have d1 : wg.cell? ⟨P0, 1, none⟩ = some (.slice gb m gd) := (Below.celz bq _ _ _ (by omega)).trans cc1
    have d2 : wg.cell? ⟨P1, 0, none⟩ = some (.slice ha n2 hc) := (Below.celz bq _ _ _ (by omega)).trans cc2
    have d3 : wg.cell? ⟨P1, 1, none⟩ = some (.slice hb m2 hd) := (Below.celz bq _ _ _ (by omega)).trans cc3
    have d4 : wg.cell? ⟨P2, 0, none⟩ = some (.slice xa1 p1 xc1) := (Below.celz bq _ _ _ (by omega)).trans cc4
    have d5 : wg.cell? ⟨P2, 1, none⟩ = some (.slice xb1 r1 xd1) := (Below.celz bq _ _ _ (by omega)).trans cc5
    have y0 : P0 < wg.heap.size := by have := Below.size bq; omega
    have y1 : P1 < wg.heap.size := by have := Below.size bq; omega
    have y2 : P2 < wg.heap.size := by have := Below.size bq; omega
    have BB1 : Below A wa wg := BB.trans (bq.mono (by omega))
    have sA1 : A ≤ wg.heap.size := by have := Below.size bq; omega
    have q0 : Hid (GrAt wg (.slice xa1 p1 xc1) (.slice xb1 r1 xd1) X1N X1E) := HR1.out.keep bq
    clear BB sA cc0 cc1 cc2 cc3 cc4 cc5 zz0 zz1 zz2 HR1
    have cc0 := d0
    have cc1 := d1
    have cc2 := d2
    have cc3 := d3
    have cc4 := d4
    have cc5 := d5
    have zz0 := y0
    have zz1 := y1
    have zz2 := y2
    have HR1 := q0
    have BB := BB1
    have sA := sA1
    clear BB1 sA1 d0 d1 d2 d3 d4 d5 y0 y1 y2 q0
    clear bq
    go_wp2_with fail
    have HVH : Hid (∀ w', Below wg.heap.size wg w' → GrAt w' (.slice ga n gc) (.slice gb m gd) ns es ∧ Errs w') := fun w' h => ⟨(HV.out _ (BB.trans (h.mono sA))).1, (HV.out _ (BB.trans (h.mono sA))).2.1⟩
    have hS : Hid (∀ w', Below wg.heap.size wg w' → Below wg.heap.size wg w' ∧ w'.cell? ⟨P0, 0, none⟩ = some (.slice ga n gc) ∧ w'.cell? ⟨P0, 1, none⟩ = some (.slice gb m gd) ∧ w'.cell? ⟨P2, 0, none⟩ = some (.slice xa1 p1 xc1) ∧ w'.cell? ⟨P2, 1, none⟩ = some (.slice xb1 r1 xd1)) := fun w' hn => ⟨hn, (Below.celz hn _ _ _ zz0).trans cc0, (Below.celz hn _ _ _ zz0).trans cc1, (Below.celz hn _ _ _ zz2).trans cc4, (Below.celz hn _ _ _ zz2).trans cc5⟩
    go_region_held3 (fun w' => Below wg.heap.size wg w' ∧ w'.cell? ⟨P0, 0, none⟩ = some (.slice ga n gc) ∧ w'.cell? ⟨P0, 1, none⟩ = some (.slice gb m gd) ∧ w'.cell? ⟨P2, 0, none⟩ = some (.slice xa1 p1 xc1) ∧ w'.cell? ⟨P2, 1, none⟩ = some (.slice xb1 r1 xd1))
      (first | with_reducible exact hS.out _ (Below.refl _ _).drew | (with_reducible exact hS.out _ (keep_below (And.left (by assumption)) tj2)) | (with_reducible exact hS.out _ (keep_below (And.left (by assumption)) tj1)))
      (first
        | (go_at_call 10; refine (gs_same _ _ _ _ X1N _ X1E _ HX1.out.1 HX1.out.2.1 _ (HR1.out.keep (And.left (by assumption))) ot).mono ?_; rintro e v2w ⟨rfl, tj2⟩)
        | (go_at_call 11; refine (gv_spec _ _ c ns es _ (HVH.out _ (And.left (by assumption))).1).mono ?_; rintro e v1w ⟨t1, t2, rfl, ot, tj1⟩))
    have lb : Below wg.heap.size wg v2w := And.left (show Below wg.heap.size wg v2w ∧ v2w.cell? ⟨P0, 0, none⟩ = some (.slice ga n gc) ∧ v2w.cell? ⟨P0, 1, none⟩ = some (.slice gb m gd) ∧ v2w.cell? ⟨P2, 0, none⟩ = some (.slice xa1 p1 xc1) ∧ v2w.cell? ⟨P2, 1, none⟩ = some (.slice xb1 r1 xd1) by assumption)
    clear hS
    have d0 : v2w.cell? ⟨P0, 0, none⟩ = some (.slice ga n gc) := (Below.celz lb _ _ _ (by omega)).trans cc0
    have d1 : v2w.cell? ⟨P0, 1, none⟩ = some (.slice gb m gd) := (Below.celz lb _ _ _ (by omega)).trans cc1
    have d2 : v2w.cell? ⟨P1, 0, none⟩ = some (.slice ha n2 hc) := (Below.celz lb _ _ _ (by omega)).trans cc2
    have d3 : v2w.cell? ⟨P1, 1, none⟩ = some (.slice hb m2 hd) := (Below.celz lb _ _ _ (by omega)).trans cc3
    have d4 : v2w.cell? ⟨P2, 0, none⟩ = some (.slice xa1 p1 xc1) := (Below.celz lb _ _ _ (by omega)).trans cc4
    have d5 : v2w.cell? ⟨P2, 1, none⟩ = some (.slice xb1 r1 xd1) := (Below.celz lb _ _ _ (by omega)).trans cc5
    have y0 : P0 < v2w.heap.size := by have := Below.size lb; omega
    have y1 : P1 < v2w.heap.size := by have := Below.size lb; omega
    have y2 : P2 < v2w.heap.size := by have := Below.size lb; omega
    have BB1 : Below A wa v2w := BB.trans (lb.mono (by omega))
    have sA1 : A ≤ v2w.heap.size := by have := Below.size lb; omega
    have q0 : Hid (GrAt v2w (.slice xa1 p1 xc1) (.slice xb1 r1 xd1) X1N X1E) := HR1.out.keep lb
    clear BB sA cc0 cc1 cc2 cc3 cc4 cc5 zz0 zz1 zz2 HR1
    have cc0 := d0
    have cc1 := d1
    have cc2 := d2
    have cc3 := d3
    have cc4 := d4
    have cc5 := d5
    have zz0 := y0
    have zz1 := y1
    have zz2 := y2
    have HR1 := q0
    have BB := BB1
    have sA := sA1
    clear BB1 sA1 d0 d1 d2 d3 d4 d5 y0 y1 y2 q0
    clear lb
    clear HVH
    go_wp2_with fail
    go_ret
    exact ⟨rfl, (HV.out _ BB).2.2.1⟩
  · cases hck : okB c
    · have HBAD : Hid (gokB ns es = false ∨ okB c = false) := .inr hck
      have HA1 : Hid (∀ p : After wf, GrAt p.w (.slice ga n gc) (.slice gb m gd) ns es ∧ GrAt p.w (.slice xa1 p1 xc1) (.slice xb1 r1 xd1) X1N X1E) := fun p => ⟨(HV.out _ (BB.trans (p.bel.mono sA))).1, HR1.out.keep p.bel⟩
      have HSB : Hid (seenN c ns es = [] ∧ seenE c ns es = []) := seen_bad HBAD.out
      refine wp_region_after (by kernel_rfl) (by kernel_rfl) ?_
      intro hneq hac
      repeat (go_big_quiet_step (first
        | (go_at_call 11; exact after_of (gv_spec_bad _ _ c ns es _ (HA1.out _).1 HBAD.out))
        | (go_at_call 10; exact after_of (gs_same _ _ _ _ X1N [] X1E [] (by rw [HX1.out.1]; exact HSB.out.1) (by rw [HX1.out.2.1]; exact HSB.out.2) _ (HA1.out _).2 (GrAt.nil _)))
        | (go_at_call 12; exact after_of (gok_spec _ _ ns es true hgk _ (HA1.out _).1))
        | (go_at_call 13; exact after_at hck (lok c _))))
      refine wpQuiet_nil ?_
      rintro _ ⟨p', rfl⟩
      have bq : Below wf.heap.size wf p'.w := p'.bel
      clear hac hneq HA1 HSB
      generalize p'.w = wg at *
      have d0 : wg.cell? ⟨P0, 0, none⟩ = some (.slice ga n gc) := (Below.celz bq _ _ _ (by omega)).trans cc0
      have d1 : wg.cell? ⟨P0, 1, none⟩ = some (.slice gb m gd) := (Below.celz bq _ _ _ (by omega)).trans cc1
      have d2 : wg.cell? ⟨P1, 0, none⟩ = some (.slice ha n2 hc) := (Below.celz bq _ _ _ (by omega)).trans cc2
      have d3 : wg.cell? ⟨P1, 1, none⟩ = some (.slice hb m2 hd) := (Below.celz bq _ _ _ (by omega)).trans cc3
      have d4 : wg.cell? ⟨P2, 0, none⟩ = some (.slice xa1 p1 xc1) := (Below.celz bq _ _ _ (by omega)).trans cc4
      have d5 : wg.cell? ⟨P2, 1, none⟩ = some (.slice xb1 r1 xd1) := (Below.celz bq _ _ _ (by omega)).trans cc5
      have y0 : P0 < wg.heap.size := by have := Below.size bq; omega
      have y1 : P1 < wg.heap.size := by have := Below.size bq; omega
      have y2 : P2 < wg.heap.size := by have := Below.size bq; omega
      have BB1 : Below A wa wg := BB.trans (bq.mono (by omega))
      have sA1 : A ≤ wg.heap.size := by have := Below.size bq; omega
      have q0 : Hid (GrAt wg (.slice xa1 p1 xc1) (.slice xb1 r1 xd1) X1N X1E) := HR1.out.keep bq
      clear BB sA cc0 cc1 cc2 cc3 cc4 cc5 zz0 zz1 zz2 HR1
      have cc0 := d0
      have cc1 := d1
      have cc2 := d2
      have cc3 := d3
      have cc4 := d4
      have cc5 := d5
      have zz0 := y0
      have zz1 := y1
      have zz2 := y2
      have HR1 := q0
      have BB := BB1
      have sA := sA1
      clear BB1 sA1 d0 d1 d2 d3 d4 d5 y0 y1 y2 q0
      clear bq
      go_wp2_with fail
      have HVH : Hid (∀ w', Below wg.heap.size wg w' → GrAt w' (.slice ga n gc) (.slice gb m gd) ns es ∧ Errs w') := fun w' h => ⟨(HV.out _ (BB.trans (h.mono sA))).1, (HV.out _ (BB.trans (h.mono sA))).2.1⟩
      have hS : Hid (∀ w', Below wg.heap.size wg w' → Below wg.heap.size wg w' ∧ w'.cell? ⟨P0, 0, none⟩ = some (.slice ga n gc) ∧ w'.cell? ⟨P0, 1, none⟩ = some (.slice gb m gd) ∧ w'.cell? ⟨P2, 0, none⟩ = some (.slice xa1 p1 xc1) ∧ w'.cell? ⟨P2, 1, none⟩ = some (.slice xb1 r1 xd1)) := fun w' hn => ⟨hn, (Below.celz hn _ _ _ zz0).trans cc0, (Below.celz hn _ _ _ zz0).trans cc1, (Below.celz hn _ _ _ zz2).trans cc4, (Below.celz hn _ _ _ zz2).trans cc5⟩
      go_region_held3 (fun w' => Below wg.heap.size wg w' ∧ w'.cell? ⟨P0, 0, none⟩ = some (.slice ga n gc) ∧ w'.cell? ⟨P0, 1, none⟩ = some (.slice gb m gd) ∧ w'.cell? ⟨P2, 0, none⟩ = some (.slice xa1 p1 xc1) ∧ w'.cell? ⟨P2, 1, none⟩ = some (.slice xb1 r1 xd1))
        (first | with_reducible exact hS.out _ (Below.refl _ _).drew | (with_reducible exact hS.out _ (keep_below (And.left (by assumption)) tj2)) | (with_reducible exact hS.out _ (keep_below (And.left (by assumption)) tj1)))
        (first
          | (go_at_call 10; refine (gs_same _ _ _ _ X1N _ X1E _ HX1.out.1 HX1.out.2.1 _ (HR1.out.keep (And.left (by assumption))) ot).mono ?_; rintro e v2w ⟨rfl, tj2⟩)
          | (go_at_call 11; refine (gv_spec _ _ c ns es _ (HVH.out _ (And.left (by assumption))).1).mono ?_; rintro e v1w ⟨t1, t2, rfl, ot, tj1⟩))
      have lb : Below wg.heap.size wg v2w := And.left (show Below wg.heap.size wg v2w ∧ v2w.cell? ⟨P0, 0, none⟩ = some (.slice ga n gc) ∧ v2w.cell? ⟨P0, 1, none⟩ = some (.slice gb m gd) ∧ v2w.cell? ⟨P2, 0, none⟩ = some (.slice xa1 p1 xc1) ∧ v2w.cell? ⟨P2, 1, none⟩ = some (.slice xb1 r1 xd1) by assumption)
      clear hS
      have d0 : v2w.cell? ⟨P0, 0, none⟩ = some (.slice ga n gc) := (Below.celz lb _ _ _ (by omega)).trans cc0
      have d1 : v2w.cell? ⟨P0, 1, none⟩ = some (.slice gb m gd) := (Below.celz lb _ _ _ (by omega)).trans cc1
      have d2 : v2w.cell? ⟨P1, 0, none⟩ = some (.slice ha n2 hc) := (Below.celz lb _ _ _ (by omega)).trans cc2
      have d3 : v2w.cell? ⟨P1, 1, none⟩ = some (.slice hb m2 hd) := (Below.celz lb _ _ _ (by omega)).trans cc3
      have d4 : v2w.cell? ⟨P2, 0, none⟩ = some (.slice xa1 p1 xc1) := (Below.celz lb _ _ _ (by omega)).trans cc4
      have d5 : v2w.cell? ⟨P2, 1, none⟩ = some (.slice xb1 r1 xd1) := (Below.celz lb _ _ _ (by omega)).trans cc5
      have y0 : P0 < v2w.heap.size := by have := Below.size lb; omega
      have y1 : P1 < v2w.heap.size := by have := Below.size lb; omega
      have y2 : P2 < v2w.heap.size := by have := Below.size lb; omega
      have BB1 : Below A wa v2w := BB.trans (lb.mono (by omega))
      have sA1 : A ≤ v2w.heap.size := by have := Below.size lb; omega
      have q0 : Hid (GrAt v2w (.slice xa1 p1 xc1) (.slice xb1 r1 xd1) X1N X1E) := HR1.out.keep lb
      clear BB sA cc0 cc1 cc2 cc3 cc4 cc5 zz0 zz1 zz2 HR1
      have cc0 := d0
      have cc1 := d1
      have cc2 := d2
      have cc3 := d3
      have cc4 := d4
      have cc5 := d5
      have zz0 := y0
      have zz1 := y1
      have zz2 := y2
      have HR1 := q0
      have BB := BB1
      have sA := sA1
      clear BB1 sA1 d0 d1 d2 d3 d4 d5 y0 y1 y2 q0
      clear lb
      clear HVH
      go_wp2_with fail
      go_ret
      exact ⟨rfl, (HV.out _ BB).2.2.1⟩
    · cases hc2 : okB c2
      · have HVH : Hid (∀ w', Below wf.heap.size wf w' → GrAt w' (.slice ga n gc) (.slice gb m gd) ns es ∧ Errs w') := fun w' h => ⟨(HV.out _ (BB.trans (h.mono sA))).1, (HV.out _ (BB.trans (h.mono sA))).2.1⟩
        have hS : Hid (∀ w', Below wf.heap.size wf w' → Below wf.heap.size wf w' ∧ w'.cell? ⟨P0, 0, none⟩ = some (.slice ga n gc) ∧ w'.cell? ⟨P0, 1, none⟩ = some (.slice gb m gd) ∧ w'.cell? ⟨P2, 0, none⟩ = some (.slice xa1 p1 xc1) ∧ w'.cell? ⟨P2, 1, none⟩ = some (.slice xb1 r1 xd1)) := fun w' hn => ⟨hn, (Below.celz hn _ _ _ zz0).trans cc0, (Below.celz hn _ _ _ zz0).trans cc1, (Below.celz hn _ _ _ zz2).trans cc4, (Below.celz hn _ _ _ zz2).trans cc5⟩
        go_region_held3 (fun w' => Below wf.heap.size wf w' ∧ w'.cell? ⟨P0, 0, none⟩ = some (.slice ga n gc) ∧ w'.cell? ⟨P0, 1, none⟩ = some (.slice gb m gd) ∧ w'.cell? ⟨P2, 0, none⟩ = some (.slice xa1 p1 xc1) ∧ w'.cell? ⟨P2, 1, none⟩ = some (.slice xb1 r1 xd1))
          (first | with_reducible exact hS.out _ (Below.refl _ _).drew | (with_reducible exact hS.out _ (keep_below (And.left (by assumption)) tj4)) | (with_reducible exact hS.out _ (keep_below (And.left (by assumption)) tj3)) | (with_reducible exact hS.out _ (keep_below (And.left (by assumption)) tj2)) | (with_reducible exact hS.out _ (keep_below (And.left (by assumption)) tj1)) | (with_reducible exact hS.out _ (keep_below (And.left (by assumption)) tj5)))
          (first
            | (go_at_call_of 13 (Value.int IntKind.i64 c); refine (lokB c true hck _).mono ?_; rintro e v4w ⟨rfl, tj4⟩)
            | (go_at_call 12; refine (gok_spec _ _ ns es true hgk _ (HVH.out _ (And.left (by assumption))).1).mono ?_; rintro e v3w ⟨rfl, tj3⟩)
            | (go_at_call 10; refine (gs_same _ _ _ _ X1N _ X1E _ HX1.out.1 HX1.out.2.1 _ (HR1.out.keep (And.left (by assumption))) ot).mono ?_; rintro e v2w ⟨rfl, tj2⟩)
            | (go_at_call 11; refine (gv_spec _ _ c ns es _ (HVH.out _ (And.left (by assumption))).1).mono ?_; rintro e v1w ⟨t1, t2, rfl, ot, tj1⟩)
            | (go_at_call_of 13 (Value.int IntKind.i64 c2); refine (lokB c2 false hc2 _).mono ?_; rintro e v5w ⟨rfl, tj5⟩))
        have lb : Below wf.heap.size wf v5w := And.left (show Below wf.heap.size wf v5w ∧ v5w.cell? ⟨P0, 0, none⟩ = some (.slice ga n gc) ∧ v5w.cell? ⟨P0, 1, none⟩ = some (.slice gb m gd) ∧ v5w.cell? ⟨P2, 0, none⟩ = some (.slice xa1 p1 xc1) ∧ v5w.cell? ⟨P2, 1, none⟩ = some (.slice xb1 r1 xd1) by assumption)
        clear hS
        have d0 : v5w.cell? ⟨P0, 0, none⟩ = some (.slice ga n gc) := (Below.celz lb _ _ _ (by omega)).trans cc0
        have d1 : v5w.cell? ⟨P0, 1, none⟩ = some (.slice gb m gd) := (Below.celz lb _ _ _ (by omega)).trans cc1
        have d2 : v5w.cell? ⟨P1, 0, none⟩ = some (.slice ha n2 hc) := (Below.celz lb _ _ _ (by omega)).trans cc2
        have d3 : v5w.cell? ⟨P1, 1, none⟩ = some (.slice hb m2 hd) := (Below.celz lb _ _ _ (by omega)).trans cc3
        have d4 : v5w.cell? ⟨P2, 0, none⟩ = some (.slice xa1 p1 xc1) := (Below.celz lb _ _ _ (by omega)).trans cc4
        have d5 : v5w.cell? ⟨P2, 1, none⟩ = some (.slice xb1 r1 xd1) := (Below.celz lb _ _ _ (by omega)).trans cc5
        have y0 : P0 < v5w.heap.size := by have := Below.size lb; omega
        have y1 : P1 < v5w.heap.size := by have := Below.size lb; omega
        have y2 : P2 < v5w.heap.size := by have := Below.size lb; omega
        have BB1 : Below A wa v5w := BB.trans (lb.mono (by omega))
        have sA1 : A ≤ v5w.heap.size := by have := Below.size lb; omega
        have q0 : Hid (GrAt v5w (.slice xa1 p1 xc1) (.slice xb1 r1 xd1) X1N X1E) := HR1.out.keep lb
        clear BB sA cc0 cc1 cc2 cc3 cc4 cc5 zz0 zz1 zz2 HR1
        have cc0 := d0
        have cc1 := d1
        have cc2 := d2
        have cc3 := d3
        have cc4 := d4
        have cc5 := d5
        have zz0 := y0
        have zz1 := y1
        have zz2 := y2
        have HR1 := q0
        have BB := BB1
        have sA := sA1
        clear BB1 sA1 d0 d1 d2 d3 d4 d5 y0 y1 y2 q0
        clear lb
        clear HVH
        go_wp2_with fail
        have HVH : Hid (∀ w', Below v5w.heap.size v5w w' → GrAt w' (.slice ga n gc) (.slice gb m gd) ns es ∧ Errs w') := fun w' h => ⟨(HV.out _ (BB.trans (h.mono sA))).1, (HV.out _ (BB.trans (h.mono sA))).2.1⟩
        have hS : Hid (∀ w', Below v5w.heap.size v5w w' → Below v5w.heap.size v5w w' ∧ w'.cell? ⟨P0, 0, none⟩ = some (.slice ga n gc) ∧ w'.cell? ⟨P0, 1, none⟩ = some (.slice gb m gd) ∧ w'.cell? ⟨P2, 0, none⟩ = some (.slice xa1 p1 xc1) ∧ w'.cell? ⟨P2, 1, none⟩ = some (.slice xb1 r1 xd1)) := fun w' hn => ⟨hn, (Below.celz hn _ _ _ zz0).trans cc0, (Below.celz hn _ _ _ zz0).trans cc1, (Below.celz hn _ _ _ zz2).trans cc4, (Below.celz hn _ _ _ zz2).trans cc5⟩
        go_region_held3 (fun w' => Below v5w.heap.size v5w w' ∧ w'.cell? ⟨P0, 0, none⟩ = some (.slice ga n gc) ∧ w'.cell? ⟨P0, 1, none⟩ = some (.slice gb m gd) ∧ w'.cell? ⟨P2, 0, none⟩ = some (.slice xa1 p1 xc1) ∧ w'.cell? ⟨P2, 1, none⟩ = some (.slice xb1 r1 xd1))
          (first | with_reducible exact hS.out _ (Below.refl _ _).drew | (with_reducible exact hS.out _ (keep_below (And.left (by assumption)) tj2)) | (with_reducible exact hS.out _ (keep_below (And.left (by assumption)) tj1)))
          (first
            | (go_at_call 10; refine (gs_same _ _ _ _ X1N _ X1E _ HX1.out.1 HX1.out.2.1 _ (HR1.out.keep (And.left (by assumption))) ot).mono ?_; rintro e v2w ⟨rfl, tj2⟩)
            | (go_at_call 11; refine (gv_spec _ _ c ns es _ (HVH.out _ (And.left (by assumption))).1).mono ?_; rintro e v1w ⟨t1, t2, rfl, ot, tj1⟩))
        have lb : Below v5w.heap.size v5w v2w := And.left (show Below v5w.heap.size v5w v2w ∧ v2w.cell? ⟨P0, 0, none⟩ = some (.slice ga n gc) ∧ v2w.cell? ⟨P0, 1, none⟩ = some (.slice gb m gd) ∧ v2w.cell? ⟨P2, 0, none⟩ = some (.slice xa1 p1 xc1) ∧ v2w.cell? ⟨P2, 1, none⟩ = some (.slice xb1 r1 xd1) by assumption)
        clear hS
        have d0 : v2w.cell? ⟨P0, 0, none⟩ = some (.slice ga n gc) := (Below.celz lb _ _ _ (by omega)).trans cc0
        have d1 : v2w.cell? ⟨P0, 1, none⟩ = some (.slice gb m gd) := (Below.celz lb _ _ _ (by omega)).trans cc1
        have d2 : v2w.cell? ⟨P1, 0, none⟩ = some (.slice ha n2 hc) := (Below.celz lb _ _ _ (by omega)).trans cc2
        have d3 : v2w.cell? ⟨P1, 1, none⟩ = some (.slice hb m2 hd) := (Below.celz lb _ _ _ (by omega)).trans cc3
        have d4 : v2w.cell? ⟨P2, 0, none⟩ = some (.slice xa1 p1 xc1) := (Below.celz lb _ _ _ (by omega)).trans cc4
        have d5 : v2w.cell? ⟨P2, 1, none⟩ = some (.slice xb1 r1 xd1) := (Below.celz lb _ _ _ (by omega)).trans cc5
        have y0 : P0 < v2w.heap.size := by have := Below.size lb; omega
        have y1 : P1 < v2w.heap.size := by have := Below.size lb; omega
        have y2 : P2 < v2w.heap.size := by have := Below.size lb; omega
        have BB1 : Below A wa v2w := BB.trans (lb.mono (by omega))
        have sA1 : A ≤ v2w.heap.size := by have := Below.size lb; omega
        have q0 : Hid (GrAt v2w (.slice xa1 p1 xc1) (.slice xb1 r1 xd1) X1N X1E) := HR1.out.keep lb
        clear BB sA cc0 cc1 cc2 cc3 cc4 cc5 zz0 zz1 zz2 HR1
        have cc0 := d0
        have cc1 := d1
        have cc2 := d2
        have cc3 := d3
        have cc4 := d4
        have cc5 := d5
        have zz0 := y0
        have zz1 := y1
        have zz2 := y2
        have HR1 := q0
        have BB := BB1
        have sA := sA1
        clear BB1 sA1 d0 d1 d2 d3 d4 d5 y0 y1 y2 q0
        clear lb
        clear HVH
        go_wp2_with fail
        go_ret
        exact ⟨rfl, (HV.out _ BB).2.2.1⟩
      · have HVH : Hid (∀ w', Below wf.heap.size wf w' → GrAt w' (.slice ga n gc) (.slice gb m gd) ns es ∧ Errs w') := fun w' h => ⟨(HV.out _ (BB.trans (h.mono sA))).1, (HV.out _ (BB.trans (h.mono sA))).2.1⟩
        have hS : Hid (∀ w', Below wf.heap.size wf w' → Below wf.heap.size wf w' ∧ w'.cell? ⟨P0, 0, none⟩ = some (.slice ga n gc) ∧ w'.cell? ⟨P0, 1, none⟩ = some (.slice gb m gd) ∧ w'.cell? ⟨P2, 0, none⟩ = some (.slice xa1 p1 xc1) ∧ w'.cell? ⟨P2, 1, none⟩ = some (.slice xb1 r1 xd1)) := fun w' hn => ⟨hn, (Below.celz hn _ _ _ zz0).trans cc0, (Below.celz hn _ _ _ zz0).trans cc1, (Below.celz hn _ _ _ zz2).trans cc4, (Below.celz hn _ _ _ zz2).trans cc5⟩
        go_region_held3 (fun w' => Below wf.heap.size wf w' ∧ w'.cell? ⟨P0, 0, none⟩ = some (.slice ga n gc) ∧ w'.cell? ⟨P0, 1, none⟩ = some (.slice gb m gd) ∧ w'.cell? ⟨P2, 0, none⟩ = some (.slice xa1 p1 xc1) ∧ w'.cell? ⟨P2, 1, none⟩ = some (.slice xb1 r1 xd1))
          (first | with_reducible exact hS.out _ (Below.refl _ _).drew | (with_reducible exact hS.out _ (keep_below (And.left (by assumption)) tj4)) | (with_reducible exact hS.out _ (keep_below (And.left (by assumption)) tj3)) | (with_reducible exact hS.out _ (keep_below (And.left (by assumption)) tj2)) | (with_reducible exact hS.out _ (keep_below (And.left (by assumption)) tj1)) | (with_reducible exact hS.out _ (keep_below (And.left (by assumption)) tj5)))
          (first
            | (go_at_call_of 13 (Value.int IntKind.i64 c); refine (lokB c true hck _).mono ?_; rintro e v4w ⟨rfl, tj4⟩)
            | (go_at_call 12; refine (gok_spec _ _ ns es true hgk _ (HVH.out _ (And.left (by assumption))).1).mono ?_; rintro e v3w ⟨rfl, tj3⟩)
            | (go_at_call 10; refine (gs_same _ _ _ _ X1N _ X1E _ HX1.out.1 HX1.out.2.1 _ (HR1.out.keep (And.left (by assumption))) ot).mono ?_; rintro e v2w ⟨rfl, tj2⟩)
            | (go_at_call 11; refine (gv_spec _ _ c ns es _ (HVH.out _ (And.left (by assumption))).1).mono ?_; rintro e v1w ⟨t1, t2, rfl, ot, tj1⟩)
            | (go_at_call_of 13 (Value.int IntKind.i64 c2); refine (lokB c2 true hc2 _).mono ?_; rintro e v5w ⟨rfl, tj5⟩))
        have lb : Below wf.heap.size wf v5w := And.left (show Below wf.heap.size wf v5w ∧ v5w.cell? ⟨P0, 0, none⟩ = some (.slice ga n gc) ∧ v5w.cell? ⟨P0, 1, none⟩ = some (.slice gb m gd) ∧ v5w.cell? ⟨P2, 0, none⟩ = some (.slice xa1 p1 xc1) ∧ v5w.cell? ⟨P2, 1, none⟩ = some (.slice xb1 r1 xd1) by assumption)
        clear hS
        have d0 : v5w.cell? ⟨P0, 0, none⟩ = some (.slice ga n gc) := (Below.celz lb _ _ _ (by omega)).trans cc0
        have d1 : v5w.cell? ⟨P0, 1, none⟩ = some (.slice gb m gd) := (Below.celz lb _ _ _ (by omega)).trans cc1
        have d2 : v5w.cell? ⟨P1, 0, none⟩ = some (.slice ha n2 hc) := (Below.celz lb _ _ _ (by omega)).trans cc2
        have d3 : v5w.cell? ⟨P1, 1, none⟩ = some (.slice hb m2 hd) := (Below.celz lb _ _ _ (by omega)).trans cc3
        have d4 : v5w.cell? ⟨P2, 0, none⟩ = some (.slice xa1 p1 xc1) := (Below.celz lb _ _ _ (by omega)).trans cc4
        have d5 : v5w.cell? ⟨P2, 1, none⟩ = some (.slice xb1 r1 xd1) := (Below.celz lb _ _ _ (by omega)).trans cc5
        have y0 : P0 < v5w.heap.size := by have := Below.size lb; omega
        have y1 : P1 < v5w.heap.size := by have := Below.size lb; omega
        have y2 : P2 < v5w.heap.size := by have := Below.size lb; omega
        have BB1 : Below A wa v5w := BB.trans (lb.mono (by omega))
        have sA1 : A ≤ v5w.heap.size := by have := Below.size lb; omega
        have q0 : Hid (GrAt v5w (.slice xa1 p1 xc1) (.slice xb1 r1 xd1) X1N X1E) := HR1.out.keep lb
        clear BB sA cc0 cc1 cc2 cc3 cc4 cc5 zz0 zz1 zz2 HR1
        have cc0 := d0
        have cc1 := d1
        have cc2 := d2
        have cc3 := d3
        have cc4 := d4
        have cc5 := d5
        have zz0 := y0
        have zz1 := y1
        have zz2 := y2
        have HR1 := q0
        have BB := BB1
        have sA := sA1
        clear BB1 sA1 d0 d1 d2 d3 d4 d5 y0 y1 y2 q0
        clear lb
        clear HVH
        have HOK : Hid (gokB ns es = true ∧ okB c = true ∧ okB c2 = true) := ⟨hgk, hck, hc2⟩
        clear hgk hck hc2
        go_wp2_with fail
        refine (gv_impl _ _ c2 ns es _ (HV.out _ BB).1 (HV.out _ BB).2.1).mono ?_
        rintro e w8 ⟨u1, u2, rfl, og, bw8⟩
        have d0 : w8.cell? ⟨P0, 0, none⟩ = some (.slice ga n gc) := (Below.celz bw8 _ _ _ (by omega)).trans cc0
        have d1 : w8.cell? ⟨P0, 1, none⟩ = some (.slice gb m gd) := (Below.celz bw8 _ _ _ (by omega)).trans cc1
        have d2 : w8.cell? ⟨P1, 0, none⟩ = some (.slice ha n2 hc) := (Below.celz bw8 _ _ _ (by omega)).trans cc2
        have d3 : w8.cell? ⟨P1, 1, none⟩ = some (.slice hb m2 hd) := (Below.celz bw8 _ _ _ (by omega)).trans cc3
        have d4 : w8.cell? ⟨P2, 0, none⟩ = some (.slice xa1 p1 xc1) := (Below.celz bw8 _ _ _ (by omega)).trans cc4
        have d5 : w8.cell? ⟨P2, 1, none⟩ = some (.slice xb1 r1 xd1) := (Below.celz bw8 _ _ _ (by omega)).trans cc5
        have y0 : P0 < w8.heap.size := by have := Below.size bw8; omega
        have y1 : P1 < w8.heap.size := by have := Below.size bw8; omega
        have y2 : P2 < w8.heap.size := by have := Below.size bw8; omega
        have BB1 : Below A wa w8 := BB.trans (bw8.mono (by omega))
        have sA1 : A ≤ w8.heap.size := by have := Below.size bw8; omega
        have q0 : Hid (GrAt w8 (.slice xa1 p1 xc1) (.slice xb1 r1 xd1) X1N X1E) := HR1.out.keep bw8
        clear BB sA cc0 cc1 cc2 cc3 cc4 cc5 zz0 zz1 zz2 HR1
        have cc0 := d0
        have cc1 := d1
        have cc2 := d2
        have cc3 := d3
        have cc4 := d4
        have cc5 := d5
        have zz0 := y0
        have zz1 := y1
        have zz2 := y2
        have HR1 := q0
        have BB := BB1
        have sA := sA1
        clear BB1 sA1 d0 d1 d2 d3 d4 d5 y0 y1 y2 q0
        clear bw8
        obtain ⟨xa2, xc2, xb2, xd2, rfl, rfl⟩ := og.form
        obtain ⟨X2N, hX⟩ : ∃ t, t = seenN c2 ns es := ⟨_, rfl⟩
        obtain ⟨X2E, hY⟩ : ∃ t, t = seenE c2 ns es := ⟨_, rfl⟩
        rw [← hX, ← hY] at og ⊢
        obtain ⟨p2, hp⟩ : ∃ t, t = X2N.length := ⟨_, rfl⟩
        obtain ⟨r2, hr⟩ : ∃ t, t = X2E.length := ⟨_, rfl⟩
        have HX2 : Hid (X2N = seenN c2 ns es ∧ X2E = seenE c2 ns es ∧ p2 = X2N.length ∧ r2 = X2E.length) := ⟨hX, hY, hp, hr⟩
        have lp2 : p2 ≤ 200 := by rw [hp]; exact og.2.2.1
        have lr2 : r2 ≤ 200 := by rw [hr]; exact og.2.2.2
        rw [← hp, ← hr] at og ⊢
        clear hX hY hp hr
        have HR2 : Hid (GrAt w8 (.slice xa2 p2 xc2) (.slice xb2 r2 xd2) X2N X2E) := og
        clear og
        go_upto_region 9 with fail
        obtain ⟨P3, hP3⟩ : ∃ t, t = w8.heap.size := ⟨_, rfl⟩
        generalize hW : w8.alloc (.cells #[.slice xa2 p2 xc2, .slice xb2 r2 xd2] 26) = w9
        have nb : Below w8.heap.size w8 w9 := by rw [← hW]; exact (Below.refl _ _).alloc (Nat.le_refl _) _
        have k3 : w9.heap.size = P3 + 1 := by rw [← hW, hP3]; simp
        have kk0 : w9.cell? ⟨P3, 0, none⟩ = some (.slice xa2 p2 xc2) := by rw [← hW, hP3]; simp [go_sem]
        have kk1 : w9.cell? ⟨P3, 1, none⟩ = some (.slice xb2 r2 xd2) := by rw [← hW, hP3]; simp [go_sem]
        have oP3A : A ≤ P3 := by rw [hP3]; exact sA
        have oP30 : P0 < P3 := by rw [hP3]; exact zz0
        have oP31 : P1 < P3 := by rw [hP3]; exact zz1
        have oP32 : P2 < P3 := by rw [hP3]; exact zz2
        have d0 : w9.cell? ⟨P0, 0, none⟩ = some (.slice ga n gc) := (Below.celz nb _ _ _ (by omega)).trans cc0
        have d1 : w9.cell? ⟨P0, 1, none⟩ = some (.slice gb m gd) := (Below.celz nb _ _ _ (by omega)).trans cc1
        have d2 : w9.cell? ⟨P1, 0, none⟩ = some (.slice ha n2 hc) := (Below.celz nb _ _ _ (by omega)).trans cc2
        have d3 : w9.cell? ⟨P1, 1, none⟩ = some (.slice hb m2 hd) := (Below.celz nb _ _ _ (by omega)).trans cc3
        have d4 : w9.cell? ⟨P2, 0, none⟩ = some (.slice xa1 p1 xc1) := (Below.celz nb _ _ _ (by omega)).trans cc4
        have d5 : w9.cell? ⟨P2, 1, none⟩ = some (.slice xb1 r1 xd1) := (Below.celz nb _ _ _ (by omega)).trans cc5
        have y0 : P0 < w9.heap.size := by have := Below.size nb; omega
        have y1 : P1 < w9.heap.size := by have := Below.size nb; omega
        have y2 : P2 < w9.heap.size := by have := Below.size nb; omega
        have BB1 : Below A wa w9 := BB.trans (nb.mono (by omega))
        have sA1 : A ≤ w9.heap.size := by have := Below.size nb; omega
        have q0 : Hid (GrAt w9 (.slice xa1 p1 xc1) (.slice xb1 r1 xd1) X1N X1E) := HR1.out.keep nb
        have q1 : Hid (GrAt w9 (.slice xa2 p2 xc2) (.slice xb2 r2 xd2) X2N X2E) := HR2.out.keep nb
        clear BB sA cc0 cc1 cc2 cc3 cc4 cc5 zz0 zz1 zz2 HR1 HR2
        have cc0 := d0
        have cc1 := d1
        have cc2 := d2
        have cc3 := d3
        have cc4 := d4
        have cc5 := d5
        have zz0 := y0
        have zz1 := y1
        have zz2 := y2
        have HR1 := q0
        have HR2 := q1
        have BB := BB1
        have sA := sA1
        clear BB1 sA1 d0 d1 d2 d3 d4 d5 y0 y1 y2 q0 q1
        have cc6 := kk0
        have cc7 := kk1
        have zz3 : P3 < w9.heap.size := by omega
        rw [← hP3]
        have k3P3 := k3
        clear k3 hW nb hP3 kk0 kk1
        clear k3P3
        have HVH : Hid (∀ w', Below w9.heap.size w9 w' → GrAt w' (.slice ga n gc) (.slice gb m gd) ns es ∧ Errs w') := fun w' h => ⟨(HV.out _ (BB.trans (h.mono sA))).1, (HV.out _ (BB.trans (h.mono sA))).2.1⟩
        have hS : Hid (∀ w', Below w9.heap.size w9 w' → Below w9.heap.size w9 w' ∧ w'.cell? ⟨P0, 0, none⟩ = some (.slice ga n gc) ∧ w'.cell? ⟨P0, 1, none⟩ = some (.slice gb m gd)) := fun w' hn => ⟨hn, (Below.celz hn _ _ _ zz0).trans cc0, (Below.celz hn _ _ _ zz0).trans cc1⟩
        go_cut [11] (fun sa wx => ∃ C u1 u2, sa = .pointer (some ⟨C, 0, none⟩) ∧ BoxW w9 wx C u1 u2 (seenN (joinI c c2) ns es) (seenE (joinI c c2) ns es))
        case first =>
          go_region_held3 (fun w' => Below w9.heap.size w9 w' ∧ w'.cell? ⟨P0, 0, none⟩ = some (.slice ga n gc) ∧ w'.cell? ⟨P0, 1, none⟩ = some (.slice gb m gd))
            (first | with_reducible exact hS.out _ (Below.refl _ _).drew | (with_reducible exact hS.out _ (keep_below (And.left (by assumption)) tj2)) | (with_reducible exact hS.out _ (keep_below (And.left (by assumption)) tj1)) | (with_reducible exact hS.out _ (Below.alloc (And.left (by assumption)) (Below.size (And.left (by assumption))) _)) | (with_reducible exact hS.out _ (Below.alloc hs2.out hs2.out.size _)) | exact hS.out _ (Below.setCell (p := ⟨w9.heap.size, 1, none⟩) (Below.setCell (p := ⟨w9.heap.size, 0, none⟩) hs2.out (Nat.le_refl _) _) (Nat.le_refl _) _) | exact hS.out _ (Below.setCell (p := ⟨v1w.heap.size, 1, none⟩) (Below.setCell (p := ⟨v1w.heap.size, 0, none⟩) hs2.out hv1 _) hv1 _))
            (first
              | (go_at_call 27; refine (ljoin c c2 _).mono ?_; rintro e v1w ⟨rfl, tj1⟩; have hv1 : w9.heap.size ≤ v1w.heap.size := (by have h0 := tj1.size; (try simp at h0); omega))
              | (go_at_call 9; refine (gv_impl _ _ (joinI c c2) ns es _ (HVH.out _ (And.left (by assumption))).1 (HVH.out _ (And.left (by assumption))).2).mono ?_; rintro e v2w ⟨t1, t2, rfl, ot, tj2⟩; have hs2 : Hid (Below w9.heap.size w9 v2w) := keep_below (And.left (by assumption)) tj2; obtain ⟨ya, yc, yb, yd, rfl, rfl⟩ := ot.form; first | (have hbx : v2w.heap[w9.heap.size]? = some (.cells #[.slice none 0 0, .slice none 0 0] 26 (0, 0)) := (by rw [tj2.block _ (Nat.lt_of_lt_of_le (by simp) tj1.size), tj1.block _ (by simp)]; exact new_block _ _); have qb0 : v2w.cell? ⟨w9.heap.size, 0, none⟩ = some (.slice none 0 0) := (by rw [cell_block hbx]; rfl); have qb1 : v2w.cell? ⟨w9.heap.size, 1, none⟩ = some (.slice none 0 0) := (by rw [cell_block hbx]; rfl); have qb2 : ∀ o, v2w.frozen? ⟨w9.heap.size, o, none⟩ = false := (fun o => free_block hbx); have qb3 : w9.heap.size < v2w.heap.size := lt_of_block hbx) | (have hbx : v2w.heap[v1w.heap.size]? = some (.cells #[.slice none 0 0, .slice none 0 0] 26 (0, 0)) := (by rw [tj2.block _ (by simp)]; exact new_block _ _); have qb0 : v2w.cell? ⟨v1w.heap.size, 0, none⟩ = some (.slice none 0 0) := (by rw [cell_block hbx]; rfl); have qb1 : v2w.cell? ⟨v1w.heap.size, 1, none⟩ = some (.slice none 0 0) := (by rw [cell_block hbx]; rfl); have qb2 : ∀ o, v2w.frozen? ⟨v1w.heap.size, o, none⟩ = false := (fun o => free_block hbx); have qb3 : v1w.heap.size < v2w.heap.size := lt_of_block hbx) | skip))
          all_goals (
            go_wp2_with fail
            go_meet
            first
              | exact ⟨_, _, _, rfl, boxw_last hs2.out ot⟩
              | exact ⟨_, _, _, rfl, boxw_set (C := w9.heap.size) hs2.out (Nat.le_refl _) hbx ot⟩
              | exact ⟨_, _, _, rfl, boxw_set (C := v1w.heap.size) hs2.out hv1 hbx ot⟩)
        case rest =>
          obtain ⟨P4, u1, u2, rfl, lb, hC0, hblk, og⟩ := hcut
          obtain ⟨w10, hwy⟩ : ∃ t, t = wc := ⟨_, rfl⟩
          rw [← hwy] at lb hblk og ⊢
          clear hwy hS HVH
          have d0 : w10.cell? ⟨P0, 0, none⟩ = some (.slice ga n gc) := (Below.celz lb _ _ _ (by omega)).trans cc0
          have d1 : w10.cell? ⟨P0, 1, none⟩ = some (.slice gb m gd) := (Below.celz lb _ _ _ (by omega)).trans cc1
          have d2 : w10.cell? ⟨P1, 0, none⟩ = some (.slice ha n2 hc) := (Below.celz lb _ _ _ (by omega)).trans cc2
          have d3 : w10.cell? ⟨P1, 1, none⟩ = some (.slice hb m2 hd) := (Below.celz lb _ _ _ (by omega)).trans cc3
          have d4 : w10.cell? ⟨P2, 0, none⟩ = some (.slice xa1 p1 xc1) := (Below.celz lb _ _ _ (by omega)).trans cc4
          have d5 : w10.cell? ⟨P2, 1, none⟩ = some (.slice xb1 r1 xd1) := (Below.celz lb _ _ _ (by omega)).trans cc5
          have d6 : w10.cell? ⟨P3, 0, none⟩ = some (.slice xa2 p2 xc2) := (Below.celz lb _ _ _ (by omega)).trans cc6
          have d7 : w10.cell? ⟨P3, 1, none⟩ = some (.slice xb2 r2 xd2) := (Below.celz lb _ _ _ (by omega)).trans cc7
          have y0 : P0 < w10.heap.size := by have := Below.size lb; omega
          have y1 : P1 < w10.heap.size := by have := Below.size lb; omega
          have y2 : P2 < w10.heap.size := by have := Below.size lb; omega
          have y3 : P3 < w10.heap.size := by have := Below.size lb; omega
          have BB1 : Below A wa w10 := BB.trans (lb.mono (by omega))
          have sA1 : A ≤ w10.heap.size := by have := Below.size lb; omega
          have q0 : Hid (GrAt w10 (.slice xa1 p1 xc1) (.slice xb1 r1 xd1) X1N X1E) := HR1.out.keep lb
          have q1 : Hid (GrAt w10 (.slice xa2 p2 xc2) (.slice xb2 r2 xd2) X2N X2E) := HR2.out.keep lb
          clear BB sA cc0 cc1 cc2 cc3 cc4 cc5 cc6 cc7 zz0 zz1 zz2 zz3 HR1 HR2
          have cc0 := d0
          have cc1 := d1
          have cc2 := d2
          have cc3 := d3
          have cc4 := d4
          have cc5 := d5
          have cc6 := d6
          have cc7 := d7
          have zz0 := y0
          have zz1 := y1
          have zz2 := y2
          have zz3 := y3
          have HR1 := q0
          have HR2 := q1
          have BB := BB1
          have sA := sA1
          clear BB1 sA1 d0 d1 d2 d3 d4 d5 d6 d7 y0 y1 y2 y3 q0 q1
          clear lb
          have hzC : P4 < w10.heap.size := lt_of_block hblk
          have hBK : Hid (w10.heap[P4]? = some (.cells #[u1, u2] 26 (0, 0))) := hblk
          clear hblk hC0
          obtain ⟨xa4, xc4, xb4, xd4, rfl, rfl⟩ := og.form
          obtain ⟨X4N, hX⟩ : ∃ t, t = seenN (joinI c c2) ns es := ⟨_, rfl⟩
          obtain ⟨X4E, hY⟩ : ∃ t, t = seenE (joinI c c2) ns es := ⟨_, rfl⟩
          rw [← hX, ← hY] at og hBK
          obtain ⟨p4, hp⟩ : ∃ t, t = X4N.length := ⟨_, rfl⟩
          obtain ⟨r4, hr⟩ : ∃ t, t = X4E.length := ⟨_, rfl⟩
          have HX4 : Hid (X4N = seenN (joinI c c2) ns es ∧ X4E = seenE (joinI c c2) ns es ∧ p4 = X4N.length ∧ r4 = X4E.length) := ⟨hX, hY, hp, hr⟩
          have lp4 : p4 ≤ 200 := by rw [hp]; exact og.2.2.1
          have lr4 : r4 ≤ 200 := by rw [hr]; exact og.2.2.2
          rw [← hp, ← hr] at og hBK
          clear hX hY hp hr
          have HR4 : Hid (GrAt w10 (.slice xa4 p4 xc4) (.slice xb4 r4 xd4) X4N X4E) := og
          clear og
          have cc8 : w10.cell? ⟨P4, 0, none⟩ = some (.slice xa4 p4 xc4) := by rw [cell_block hBK.out]; rfl
          have cc9 : w10.cell? ⟨P4, 1, none⟩ = some (.slice xb4 r4 xd4) := by rw [cell_block hBK.out]; rfl
          have zz4 : P4 < w10.heap.size := hzC
          clear hBK hzC
          go_upto_region 10 with fail
          have HVH : Hid (∀ w', Below w10.heap.size w10 w' → GrAt w' (.slice ga n gc) (.slice gb m gd) ns es ∧ Errs w') := fun w' h => ⟨(HV.out _ (BB.trans (h.mono sA))).1, (HV.out _ (BB.trans (h.mono sA))).2.1⟩
          have hS : Hid (∀ w', Below w10.heap.size w10 w' → Below w10.heap.size w10 w' ∧ w'.cell? ⟨P0, 0, none⟩ = some (.slice ga n gc) ∧ w'.cell? ⟨P0, 1, none⟩ = some (.slice gb m gd)) := fun w' hn => ⟨hn, (Below.celz hn _ _ _ zz0).trans cc0, (Below.celz hn _ _ _ zz0).trans cc1⟩
          go_cut [12] (fun sa wx => ∃ C u1 u2, sa = .pointer (some ⟨C, 0, none⟩) ∧ BoxW w10 wx C u1 u2 (seenN (meetI c c2) ns es) (seenE (meetI c c2) ns es))
          case first =>
            go_region_held3 (fun w' => Below w10.heap.size w10 w' ∧ w'.cell? ⟨P0, 0, none⟩ = some (.slice ga n gc) ∧ w'.cell? ⟨P0, 1, none⟩ = some (.slice gb m gd))
              (first | with_reducible exact hS.out _ (Below.refl _ _).drew | (with_reducible exact hS.out _ (keep_below (And.left (by assumption)) tj2)) | (with_reducible exact hS.out _ (keep_below (And.left (by assumption)) tj1)) | (with_reducible exact hS.out _ (Below.alloc (And.left (by assumption)) (Below.size (And.left (by assumption))) _)) | (with_reducible exact hS.out _ (Below.alloc hs2.out hs2.out.size _)) | exact hS.out _ (Below.setCell (p := ⟨w10.heap.size, 1, none⟩) (Below.setCell (p := ⟨w10.heap.size, 0, none⟩) hs2.out (Nat.le_refl _) _) (Nat.le_refl _) _) | exact hS.out _ (Below.setCell (p := ⟨v1w.heap.size, 1, none⟩) (Below.setCell (p := ⟨v1w.heap.size, 0, none⟩) hs2.out hv1 _) hv1 _))
              (first
                | (go_at_call 16; refine (lmeet c c2 _).mono ?_; rintro e v1w ⟨rfl, tj1⟩; have hv1 : w10.heap.size ≤ v1w.heap.size := (by have h0 := tj1.size; (try simp at h0); omega))
                | (go_at_call 9; refine (gv_impl _ _ (meetI c c2) ns es _ (HVH.out _ (And.left (by assumption))).1 (HVH.out _ (And.left (by assumption))).2).mono ?_; rintro e v2w ⟨t1, t2, rfl, ot, tj2⟩; have hs2 : Hid (Below w10.heap.size w10 v2w) := keep_below (And.left (by assumption)) tj2; obtain ⟨ya, yc, yb, yd, rfl, rfl⟩ := ot.form; first | (have hbx : v2w.heap[w10.heap.size]? = some (.cells #[.slice none 0 0, .slice none 0 0] 26 (0, 0)) := (by rw [tj2.block _ (Nat.lt_of_lt_of_le (by simp) tj1.size), tj1.block _ (by simp)]; exact new_block _ _); have qb0 : v2w.cell? ⟨w10.heap.size, 0, none⟩ = some (.slice none 0 0) := (by rw [cell_block hbx]; rfl); have qb1 : v2w.cell? ⟨w10.heap.size, 1, none⟩ = some (.slice none 0 0) := (by rw [cell_block hbx]; rfl); have qb2 : ∀ o, v2w.frozen? ⟨w10.heap.size, o, none⟩ = false := (fun o => free_block hbx); have qb3 : w10.heap.size < v2w.heap.size := lt_of_block hbx) | (have hbx : v2w.heap[v1w.heap.size]? = some (.cells #[.slice none 0 0, .slice none 0 0] 26 (0, 0)) := (by rw [tj2.block _ (by simp)]; exact new_block _ _); have qb0 : v2w.cell? ⟨v1w.heap.size, 0, none⟩ = some (.slice none 0 0) := (by rw [cell_block hbx]; rfl); have qb1 : v2w.cell? ⟨v1w.heap.size, 1, none⟩ = some (.slice none 0 0) := (by rw [cell_block hbx]; rfl); have qb2 : ∀ o, v2w.frozen? ⟨v1w.heap.size, o, none⟩ = false := (fun o => free_block hbx); have qb3 : v1w.heap.size < v2w.heap.size := lt_of_block hbx) | skip))
            all_goals (
              go_wp2_with fail
              go_meet
              first
                | exact ⟨_, _, _, rfl, boxw_last hs2.out ot⟩
                | exact ⟨_, _, _, rfl, boxw_set (C := w10.heap.size) hs2.out (Nat.le_refl _) hbx ot⟩
                | exact ⟨_, _, _, rfl, boxw_set (C := v1w.heap.size) hs2.out hv1 hbx ot⟩)
          case rest =>
            obtain ⟨P5, u1, u2, rfl, lb, hC0, hblk, og⟩ := hcut
            obtain ⟨w11, hwy⟩ : ∃ t, t = wc := ⟨_, rfl⟩
            rw [← hwy] at lb hblk og ⊢
            clear hwy hS HVH
            have d0 : w11.cell? ⟨P0, 0, none⟩ = some (.slice ga n gc) := (Below.celz lb _ _ _ (by omega)).trans cc0
            have d1 : w11.cell? ⟨P0, 1, none⟩ = some (.slice gb m gd) := (Below.celz lb _ _ _ (by omega)).trans cc1
            have d2 : w11.cell? ⟨P1, 0, none⟩ = some (.slice ha n2 hc) := (Below.celz lb _ _ _ (by omega)).trans cc2
            have d3 : w11.cell? ⟨P1, 1, none⟩ = some (.slice hb m2 hd) := (Below.celz lb _ _ _ (by omega)).trans cc3
            have d4 : w11.cell? ⟨P2, 0, none⟩ = some (.slice xa1 p1 xc1) := (Below.celz lb _ _ _ (by omega)).trans cc4
            have d5 : w11.cell? ⟨P2, 1, none⟩ = some (.slice xb1 r1 xd1) := (Below.celz lb _ _ _ (by omega)).trans cc5
            have d6 : w11.cell? ⟨P3, 0, none⟩ = some (.slice xa2 p2 xc2) := (Below.celz lb _ _ _ (by omega)).trans cc6
            have d7 : w11.cell? ⟨P3, 1, none⟩ = some (.slice xb2 r2 xd2) := (Below.celz lb _ _ _ (by omega)).trans cc7
            have d8 : w11.cell? ⟨P4, 0, none⟩ = some (.slice xa4 p4 xc4) := (Below.celz lb _ _ _ (by omega)).trans cc8
            have d9 : w11.cell? ⟨P4, 1, none⟩ = some (.slice xb4 r4 xd4) := (Below.celz lb _ _ _ (by omega)).trans cc9
            have y0 : P0 < w11.heap.size := by have := Below.size lb; omega
            have y1 : P1 < w11.heap.size := by have := Below.size lb; omega
            have y2 : P2 < w11.heap.size := by have := Below.size lb; omega
            have y3 : P3 < w11.heap.size := by have := Below.size lb; omega
            have y4 : P4 < w11.heap.size := by have := Below.size lb; omega
            have BB1 : Below A wa w11 := BB.trans (lb.mono (by omega))
            have sA1 : A ≤ w11.heap.size := by have := Below.size lb; omega
            have q0 : Hid (GrAt w11 (.slice xa1 p1 xc1) (.slice xb1 r1 xd1) X1N X1E) := HR1.out.keep lb
            have q1 : Hid (GrAt w11 (.slice xa2 p2 xc2) (.slice xb2 r2 xd2) X2N X2E) := HR2.out.keep lb
            have q2 : Hid (GrAt w11 (.slice xa4 p4 xc4) (.slice xb4 r4 xd4) X4N X4E) := HR4.out.keep lb
            clear BB sA cc0 cc1 cc2 cc3 cc4 cc5 cc6 cc7 cc8 cc9 zz0 zz1 zz2 zz3 zz4 HR1 HR2 HR4
            have cc0 := d0
            have cc1 := d1
            have cc2 := d2
            have cc3 := d3
            have cc4 := d4
            have cc5 := d5
            have cc6 := d6
            have cc7 := d7
            have cc8 := d8
            have cc9 := d9
            have zz0 := y0
            have zz1 := y1
            have zz2 := y2
            have zz3 := y3
            have zz4 := y4
            have HR1 := q0
            have HR2 := q1
            have HR4 := q2
            have BB := BB1
            have sA := sA1
            clear BB1 sA1 d0 d1 d2 d3 d4 d5 d6 d7 d8 d9 y0 y1 y2 y3 y4 q0 q1 q2
            clear lb
            have hzC : P5 < w11.heap.size := lt_of_block hblk
            have hBK : Hid (w11.heap[P5]? = some (.cells #[u1, u2] 26 (0, 0))) := hblk
            clear hblk hC0
            obtain ⟨xa5, xc5, xb5, xd5, rfl, rfl⟩ := og.form
            obtain ⟨X5N, hX⟩ : ∃ t, t = seenN (meetI c c2) ns es := ⟨_, rfl⟩
            obtain ⟨X5E, hY⟩ : ∃ t, t = seenE (meetI c c2) ns es := ⟨_, rfl⟩
            rw [← hX, ← hY] at og hBK
            obtain ⟨p5, hp⟩ : ∃ t, t = X5N.length := ⟨_, rfl⟩
            obtain ⟨r5, hr⟩ : ∃ t, t = X5E.length := ⟨_, rfl⟩
            have HX5 : Hid (X5N = seenN (meetI c c2) ns es ∧ X5E = seenE (meetI c c2) ns es ∧ p5 = X5N.length ∧ r5 = X5E.length) := ⟨hX, hY, hp, hr⟩
            have lp5 : p5 ≤ 200 := by rw [hp]; exact og.2.2.1
            have lr5 : r5 ≤ 200 := by rw [hr]; exact og.2.2.2
            rw [← hp, ← hr] at og hBK
            clear hX hY hp hr
            have HR5 : Hid (GrAt w11 (.slice xa5 p5 xc5) (.slice xb5 r5 xd5) X5N X5E) := og
            clear og
            have cc10 : w11.cell? ⟨P5, 0, none⟩ = some (.slice xa5 p5 xc5) := by rw [cell_block hBK.out]; rfl
            have cc11 : w11.cell? ⟨P5, 1, none⟩ = some (.slice xb5 r5 xd5) := by rw [cell_block hBK.out]; rfl
            have zz5 : P5 < w11.heap.size := hzC
            clear hBK hzC
            go_wp2_with fail
            go_loopw [13, 14] (fun s i wr => ∃ k : Nat, k ≤ p4 ∧ i = .int .i64 k ∧ s = .int .i64 ((X4N.take k).countP (fun x : Nd => underB x.1 c || underB x.1 c2) : Nat) ∧ Below w11.heap.size w11 wr) (fun _ i _ => p4 - (intOf i).toNat)
            case atStart => exact ⟨0, by omega, rfl, rfl, Below.refl _ _⟩
            case round =>
              obtain ⟨k, hk, rfl, rfl, hbel⟩ := hrel
              have HD0 : Hid (Ov w11 wr) := ⟨hbel⟩
              have d0 : wr.cell? ⟨P0, 0, none⟩ = some (.slice ga n gc) := (Below.celz hbel _ _ _ (by omega)).trans cc0
              have d1 : wr.cell? ⟨P0, 1, none⟩ = some (.slice gb m gd) := (Below.celz hbel _ _ _ (by omega)).trans cc1
              have d2 : wr.cell? ⟨P1, 0, none⟩ = some (.slice ha n2 hc) := (Below.celz hbel _ _ _ (by omega)).trans cc2
              have d3 : wr.cell? ⟨P1, 1, none⟩ = some (.slice hb m2 hd) := (Below.celz hbel _ _ _ (by omega)).trans cc3
              have d4 : wr.cell? ⟨P2, 0, none⟩ = some (.slice xa1 p1 xc1) := (Below.celz hbel _ _ _ (by omega)).trans cc4
              have d5 : wr.cell? ⟨P2, 1, none⟩ = some (.slice xb1 r1 xd1) := (Below.celz hbel _ _ _ (by omega)).trans cc5
              have d6 : wr.cell? ⟨P3, 0, none⟩ = some (.slice xa2 p2 xc2) := (Below.celz hbel _ _ _ (by omega)).trans cc6
              have d7 : wr.cell? ⟨P3, 1, none⟩ = some (.slice xb2 r2 xd2) := (Below.celz hbel _ _ _ (by omega)).trans cc7
              have d8 : wr.cell? ⟨P4, 0, none⟩ = some (.slice xa4 p4 xc4) := (Below.celz hbel _ _ _ (by omega)).trans cc8
              have d9 : wr.cell? ⟨P4, 1, none⟩ = some (.slice xb4 r4 xd4) := (Below.celz hbel _ _ _ (by omega)).trans cc9
              have d10 : wr.cell? ⟨P5, 0, none⟩ = some (.slice xa5 p5 xc5) := (Below.celz hbel _ _ _ (by omega)).trans cc10
              have d11 : wr.cell? ⟨P5, 1, none⟩ = some (.slice xb5 r5 xd5) := (Below.celz hbel _ _ _ (by omega)).trans cc11
              have y0 : P0 < wr.heap.size := by have := Below.size hbel; omega
              have y1 : P1 < wr.heap.size := by have := Below.size hbel; omega
              have y2 : P2 < wr.heap.size := by have := Below.size hbel; omega
              have y3 : P3 < wr.heap.size := by have := Below.size hbel; omega
              have y4 : P4 < wr.heap.size := by have := Below.size hbel; omega
              have y5 : P5 < wr.heap.size := by have := Below.size hbel; omega
              have BB1 : Below A wa wr := BB.trans (hbel.mono (by omega))
              have sA1 : A ≤ wr.heap.size := by have := Below.size hbel; omega
              have q0 : Hid (GrAt wr (.slice xa1 p1 xc1) (.slice xb1 r1 xd1) X1N X1E) := HR1.out.keep hbel
              have q1 : Hid (GrAt wr (.slice xa2 p2 xc2) (.slice xb2 r2 xd2) X2N X2E) := HR2.out.keep hbel
              have q2 : Hid (GrAt wr (.slice xa4 p4 xc4) (.slice xb4 r4 xd4) X4N X4E) := HR4.out.keep hbel
              have q3 : Hid (GrAt wr (.slice xa5 p5 xc5) (.slice xb5 r5 xd5) X5N X5E) := HR5.out.keep hbel
              clear BB sA cc0 cc1 cc2 cc3 cc4 cc5 cc6 cc7 cc8 cc9 cc10 cc11 zz0 zz1 zz2 zz3 zz4 zz5 HR1 HR2 HR4 HR5
              have cc0 := d0
              have cc1 := d1
              have cc2 := d2
              have cc3 := d3
              have cc4 := d4
              have cc5 := d5
              have cc6 := d6
              have cc7 := d7
              have cc8 := d8
              have cc9 := d9
              have cc10 := d10
              have cc11 := d11
              have zz0 := y0
              have zz1 := y1
              have zz2 := y2
              have zz3 := y3
              have zz4 := y4
              have zz5 := y5
              have HR1 := q0
              have HR2 := q1
              have HR4 := q2
              have HR5 := q3
              have BB := BB1
              have sA := sA1
              clear BB1 sA1 d0 d1 d2 d3 d4 d5 d6 d7 d8 d9 d10 d11 y0 y1 y2 y3 y4 y5 q0 q1 q2 q3
              clear hbel
              have HD : Hid (Ov w11 wr) := HD0.out
              clear HD0
              have hcl : (X4N.take k).countP (fun x : Nd => underB x.1 c || underB x.1 c2) ≤ k := Nat.le_trans List.countP_le_length (by rw [List.length_take]; omega)
              obtain ⟨q, hq⟩ : ∃ q, q = (X4N.take k).countP (fun x : Nd => underB x.1 c || underB x.1 c2) := ⟨_, rfl⟩
              have HQ : Hid (q = (X4N.take k).countP (fun x : Nd => underB x.1 c || underB x.1 c2)) := hq
              rw [← hq] at hcl ⊢
              clear hq
              by_cases hlt : k < p4
              · obtain ⟨⟨f0, f1⟩, hx⟩ : ∃ x, X4N[k]? = some x := ⟨_, List.getElem?_eq_getElem (by rw [← HX4.out.2.2.1]; exact hlt)⟩
                have hmem : (f0, f1) ∈ ns := (seen_mem (x := (f0, f1)) (by rw [← HX4.out.1]; exact List.mem_of_getElem? hx)).2
                obtain ⟨b, off, hxa, zz6, cc12, cc13⟩ : ∃ b off, xa4 = some ⟨b, off, none⟩ ∧ b < wr.heap.size ∧ wr.cell? ⟨b, off + k * 2, none⟩ = some (.int .i64 f0) ∧ wr.cell? ⟨b, off + k * 2 + 1, none⟩ = some (.int .i64 f1) := by
                  rcases HR4.out.1 with ⟨hz0, _⟩ | ⟨_, b, off, cap', hv, hb, hc⟩
                  · rw [hz0] at hx; simp at hx
                  · simp only [Value.slice.injEq] at hv
                    exact ⟨b, off, hv.1, hb, hc k _ hx 0 _ rfl, hc k _ hx 1 _ rfl⟩
                subst hxa
                have j0 : (0 : Int) ≤ (k : Int) := by omega
                have j1 : (k : Int) < (p4 : Int) := by omega
                have g1 : decide ((0 : Int) ≤ atN X1N (f0, f1) 0) = underB f0 c := by rw [atN_ge, HX1.out.1]; exact seen_in HOK.out.1 hmem
                have g2 : decide ((0 : Int) ≤ atN X2N (f0, f1) 0) = underB f0 c2 := by rw [atN_ge, HX2.out.1]; exact seen_in HOK.out.1 hmem
                have g3 : decide ((0 : Int) ≤ atN X5N (f0, f1) 0) = (underB f0 c && underB f0 c2) := by rw [atN_ge, HX5.out.1, seen_in HOK.out.1 hmem]; exact meet_most _ HOK.out.2.1 HOK.out.2.2
                have hst := cntP_step (p := (fun x : Nd => underB x.1 c || underB x.1 c2)) hx
                have HST : Hid ((X4N.take (k + 1)).countP (fun x : Nd => underB x.1 c || underB x.1 c2) = q + if (underB f0 c || underB f0 c2) then 1 else 0) := by rw [HQ.out]; exact hst
                clear hst hx hmem
                generalize underB f0 c = u1 at g1 g3 HST
                generalize underB f0 c2 = u2 at g2 g3 HST
                generalize ha1 : atN X1N (f0, f1) 0 = a1v at g1
                generalize ha2 : atN X2N (f0, f1) 0 = a2v at g2
                generalize ha3 : atN X5N (f0, f1) 0 = a3v at g3
                have HAT : Hid (atN X1N (f0, f1) 0 = a1v ∧ atN X2N (f0, f1) 0 = a2v ∧ atN X5N (f0, f1) 0 = a3v) := ⟨ha1, ha2, ha3⟩
                clear ha1 ha2 ha3
                cases u1
                · cases u2
                  · have h3 : decide ((0 : Int) ≤ a3v) = false := g3
                    have HS2 : Hid ((X4N.take (k + 1)).countP (fun x : Nd => underB x.1 c || underB x.1 c2) = q + 0) := HST.out
                    clear g3 HST
                    go_wp2_with fail
                    have HW : Hid (∀ p : After wr, GrAt p.w (.slice xa1 p1 xc1) (.slice xb1 r1 xd1) X1N X1E) := fun p => HR1.out.keep p.bel
                    refine wp_region_after (by kernel_rfl) (by kernel_rfl) ?_
                    intro hneq hac
                    repeat (go_big_quiet_step (first
                      | (go_at_call 28; exact after_of ((wpAtB _ _ X1N X1E f0 f1 _ (HW.out _)).mono (fun _ _ h => ⟨by rw [h.1, HAT.out.1], h.2⟩)))))
                    refine wpQuiet_nil ?_
                    rintro _ ⟨p', rfl⟩
                    have bq : Below wr.heap.size wr p'.w := p'.bel
                    clear hac hneq HW
                    generalize p'.w = uw1 at *
                    have d0 : uw1.cell? ⟨P0, 0, none⟩ = some (.slice ga n gc) := (Below.celz bq _ _ _ (by omega)).trans cc0
                    have d1 : uw1.cell? ⟨P0, 1, none⟩ = some (.slice gb m gd) := (Below.celz bq _ _ _ (by omega)).trans cc1
                    have d2 : uw1.cell? ⟨P1, 0, none⟩ = some (.slice ha n2 hc) := (Below.celz bq _ _ _ (by omega)).trans cc2
                    have d3 : uw1.cell? ⟨P1, 1, none⟩ = some (.slice hb m2 hd) := (Below.celz bq _ _ _ (by omega)).trans cc3
                    have d4 : uw1.cell? ⟨P2, 0, none⟩ = some (.slice xa1 p1 xc1) := (Below.celz bq _ _ _ (by omega)).trans cc4
                    have d5 : uw1.cell? ⟨P2, 1, none⟩ = some (.slice xb1 r1 xd1) := (Below.celz bq _ _ _ (by omega)).trans cc5
                    have d6 : uw1.cell? ⟨P3, 0, none⟩ = some (.slice xa2 p2 xc2) := (Below.celz bq _ _ _ (by omega)).trans cc6
                    have d7 : uw1.cell? ⟨P3, 1, none⟩ = some (.slice xb2 r2 xd2) := (Below.celz bq _ _ _ (by omega)).trans cc7
                    have d8 : uw1.cell? ⟨P4, 0, none⟩ = some (.slice (some ⟨b, off, none⟩) p4 xc4) := (Below.celz bq _ _ _ (by omega)).trans cc8
                    have d9 : uw1.cell? ⟨P4, 1, none⟩ = some (.slice xb4 r4 xd4) := (Below.celz bq _ _ _ (by omega)).trans cc9
                    have d10 : uw1.cell? ⟨P5, 0, none⟩ = some (.slice xa5 p5 xc5) := (Below.celz bq _ _ _ (by omega)).trans cc10
                    have d11 : uw1.cell? ⟨P5, 1, none⟩ = some (.slice xb5 r5 xd5) := (Below.celz bq _ _ _ (by omega)).trans cc11
                    have d12 : uw1.cell? ⟨b, off + k * 2, none⟩ = some (.int .i64 f0) := (Below.celz bq _ _ _ (by omega)).trans cc12
                    have d13 : uw1.cell? ⟨b, off + k * 2 + 1, none⟩ = some (.int .i64 f1) := (Below.celz bq _ _ _ (by omega)).trans cc13
                    have y0 : P0 < uw1.heap.size := by have := Below.size bq; omega
                    have y1 : P1 < uw1.heap.size := by have := Below.size bq; omega
                    have y2 : P2 < uw1.heap.size := by have := Below.size bq; omega
                    have y3 : P3 < uw1.heap.size := by have := Below.size bq; omega
                    have y4 : P4 < uw1.heap.size := by have := Below.size bq; omega
                    have y5 : P5 < uw1.heap.size := by have := Below.size bq; omega
                    have y6 : b < uw1.heap.size := by have := Below.size bq; omega
                    have BB1 : Below A wa uw1 := BB.trans (bq.mono (by omega))
                    have sA1 : A ≤ uw1.heap.size := by have := Below.size bq; omega
                    have q0 : Hid (GrAt uw1 (.slice xa1 p1 xc1) (.slice xb1 r1 xd1) X1N X1E) := HR1.out.keep bq
                    have q1 : Hid (GrAt uw1 (.slice xa2 p2 xc2) (.slice xb2 r2 xd2) X2N X2E) := HR2.out.keep bq
                    have q2 : Hid (GrAt uw1 (.slice (some ⟨b, off, none⟩) p4 xc4) (.slice xb4 r4 xd4) X4N X4E) := HR4.out.keep bq
                    have q3 : Hid (GrAt uw1 (.slice xa5 p5 xc5) (.slice xb5 r5 xd5) X5N X5E) := HR5.out.keep bq
                    have q4 : Hid (Ov w11 uw1) := HD.out.keep bq
                    clear BB sA cc0 cc1 cc2 cc3 cc4 cc5 cc6 cc7 cc8 cc9 cc10 cc11 cc12 cc13 zz0 zz1 zz2 zz3 zz4 zz5 zz6 HR1 HR2 HR4 HR5 HD
                    have cc0 := d0
                    have cc1 := d1
                    have cc2 := d2
                    have cc3 := d3
                    have cc4 := d4
                    have cc5 := d5
                    have cc6 := d6
                    have cc7 := d7
                    have cc8 := d8
                    have cc9 := d9
                    have cc10 := d10
                    have cc11 := d11
                    have cc12 := d12
                    have cc13 := d13
                    have zz0 := y0
                    have zz1 := y1
                    have zz2 := y2
                    have zz3 := y3
                    have zz4 := y4
                    have zz5 := y5
                    have zz6 := y6
                    have HR1 := q0
                    have HR2 := q1
                    have HR4 := q2
                    have HR5 := q3
                    have HD := q4
                    have BB := BB1
                    have sA := sA1
                    clear BB1 sA1 d0 d1 d2 d3 d4 d5 d6 d7 d8 d9 d10 d11 d12 d13 y0 y1 y2 y3 y4 y5 y6 q0 q1 q2 q3 q4
                    clear bq
                    go_wp2_with fail
                    have HW : Hid (∀ p : After uw1, GrAt p.w (.slice xa2 p2 xc2) (.slice xb2 r2 xd2) X2N X2E) := fun p => HR2.out.keep p.bel
                    refine wp_region_after (by kernel_rfl) (by kernel_rfl) ?_
                    intro hneq hac
                    repeat (go_big_quiet_step (first
                      | (go_at_call 28; exact after_of ((wpAtB _ _ X2N X2E f0 f1 _ (HW.out _)).mono (fun _ _ h => ⟨by rw [h.1, HAT.out.2.1], h.2⟩)))))
                    refine wpQuiet_nil ?_
                    rintro _ ⟨p', rfl⟩
                    have bq : Below uw1.heap.size uw1 p'.w := p'.bel
                    clear hac hneq HW
                    generalize p'.w = uw2 at *
                    have d0 : uw2.cell? ⟨P0, 0, none⟩ = some (.slice ga n gc) := (Below.celz bq _ _ _ (by omega)).trans cc0
                    have d1 : uw2.cell? ⟨P0, 1, none⟩ = some (.slice gb m gd) := (Below.celz bq _ _ _ (by omega)).trans cc1
                    have d2 : uw2.cell? ⟨P1, 0, none⟩ = some (.slice ha n2 hc) := (Below.celz bq _ _ _ (by omega)).trans cc2
                    have d3 : uw2.cell? ⟨P1, 1, none⟩ = some (.slice hb m2 hd) := (Below.celz bq _ _ _ (by omega)).trans cc3
                    have d4 : uw2.cell? ⟨P2, 0, none⟩ = some (.slice xa1 p1 xc1) := (Below.celz bq _ _ _ (by omega)).trans cc4
                    have d5 : uw2.cell? ⟨P2, 1, none⟩ = some (.slice xb1 r1 xd1) := (Below.celz bq _ _ _ (by omega)).trans cc5
                    have d6 : uw2.cell? ⟨P3, 0, none⟩ = some (.slice xa2 p2 xc2) := (Below.celz bq _ _ _ (by omega)).trans cc6
                    have d7 : uw2.cell? ⟨P3, 1, none⟩ = some (.slice xb2 r2 xd2) := (Below.celz bq _ _ _ (by omega)).trans cc7
                    have d8 : uw2.cell? ⟨P4, 0, none⟩ = some (.slice (some ⟨b, off, none⟩) p4 xc4) := (Below.celz bq _ _ _ (by omega)).trans cc8
                    have d9 : uw2.cell? ⟨P4, 1, none⟩ = some (.slice xb4 r4 xd4) := (Below.celz bq _ _ _ (by omega)).trans cc9
                    have d10 : uw2.cell? ⟨P5, 0, none⟩ = some (.slice xa5 p5 xc5) := (Below.celz bq _ _ _ (by omega)).trans cc10
                    have d11 : uw2.cell? ⟨P5, 1, none⟩ = some (.slice xb5 r5 xd5) := (Below.celz bq _ _ _ (by omega)).trans cc11
                    have d12 : uw2.cell? ⟨b, off + k * 2, none⟩ = some (.int .i64 f0) := (Below.celz bq _ _ _ (by omega)).trans cc12
                    have d13 : uw2.cell? ⟨b, off + k * 2 + 1, none⟩ = some (.int .i64 f1) := (Below.celz bq _ _ _ (by omega)).trans cc13
                    have y0 : P0 < uw2.heap.size := by have := Below.size bq; omega
                    have y1 : P1 < uw2.heap.size := by have := Below.size bq; omega
                    have y2 : P2 < uw2.heap.size := by have := Below.size bq; omega
                    have y3 : P3 < uw2.heap.size := by have := Below.size bq; omega
                    have y4 : P4 < uw2.heap.size := by have := Below.size bq; omega
                    have y5 : P5 < uw2.heap.size := by have := Below.size bq; omega
                    have y6 : b < uw2.heap.size := by have := Below.size bq; omega
                    have BB1 : Below A wa uw2 := BB.trans (bq.mono (by omega))
                    have sA1 : A ≤ uw2.heap.size := by have := Below.size bq; omega
                    have q0 : Hid (GrAt uw2 (.slice xa1 p1 xc1) (.slice xb1 r1 xd1) X1N X1E) := HR1.out.keep bq
                    have q1 : Hid (GrAt uw2 (.slice xa2 p2 xc2) (.slice xb2 r2 xd2) X2N X2E) := HR2.out.keep bq
                    have q2 : Hid (GrAt uw2 (.slice (some ⟨b, off, none⟩) p4 xc4) (.slice xb4 r4 xd4) X4N X4E) := HR4.out.keep bq
                    have q3 : Hid (GrAt uw2 (.slice xa5 p5 xc5) (.slice xb5 r5 xd5) X5N X5E) := HR5.out.keep bq
                    have q4 : Hid (Ov w11 uw2) := HD.out.keep bq
                    clear BB sA cc0 cc1 cc2 cc3 cc4 cc5 cc6 cc7 cc8 cc9 cc10 cc11 cc12 cc13 zz0 zz1 zz2 zz3 zz4 zz5 zz6 HR1 HR2 HR4 HR5 HD
                    have cc0 := d0
                    have cc1 := d1
                    have cc2 := d2
                    have cc3 := d3
                    have cc4 := d4
                    have cc5 := d5
                    have cc6 := d6
                    have cc7 := d7
                    have cc8 := d8
                    have cc9 := d9
                    have cc10 := d10
                    have cc11 := d11
                    have cc12 := d12
                    have cc13 := d13
                    have zz0 := y0
                    have zz1 := y1
                    have zz2 := y2
                    have zz3 := y3
                    have zz4 := y4
                    have zz5 := y5
                    have zz6 := y6
                    have HR1 := q0
                    have HR2 := q1
                    have HR4 := q2
                    have HR5 := q3
                    have HD := q4
                    have BB := BB1
                    have sA := sA1
                    clear BB1 sA1 d0 d1 d2 d3 d4 d5 d6 d7 d8 d9 d10 d11 d12 d13 y0 y1 y2 y3 y4 y5 y6 q0 q1 q2 q3 q4
                    clear bq
                    go_wp2_with fail
                    have HW : Hid (∀ p : After uw2, GrAt p.w (.slice xa5 p5 xc5) (.slice xb5 r5 xd5) X5N X5E) := fun p => HR5.out.keep p.bel
                    refine wp_region_after (by kernel_rfl) (by kernel_rfl) ?_
                    intro hneq hac
                    repeat (go_big_quiet_step (first
                      | (go_at_call 28; exact after_of ((wpAtB _ _ X5N X5E f0 f1 _ (HW.out _)).mono (fun _ _ h => ⟨by rw [h.1, HAT.out.2.2], h.2⟩)))))
                    refine wpQuiet_nil ?_
                    rintro _ ⟨p', rfl⟩
                    have bq : Below uw2.heap.size uw2 p'.w := p'.bel
                    clear hac hneq HW
                    generalize p'.w = uw3 at *
                    have d0 : uw3.cell? ⟨P0, 0, none⟩ = some (.slice ga n gc) := (Below.celz bq _ _ _ (by omega)).trans cc0
                    have d1 : uw3.cell? ⟨P0, 1, none⟩ = some (.slice gb m gd) := (Below.celz bq _ _ _ (by omega)).trans cc1
                    have d2 : uw3.cell? ⟨P1, 0, none⟩ = some (.slice ha n2 hc) := (Below.celz bq _ _ _ (by omega)).trans cc2
                    have d3 : uw3.cell? ⟨P1, 1, none⟩ = some (.slice hb m2 hd) := (Below.celz bq _ _ _ (by omega)).trans cc3
                    have d4 : uw3.cell? ⟨P2, 0, none⟩ = some (.slice xa1 p1 xc1) := (Below.celz bq _ _ _ (by omega)).trans cc4
                    have d5 : uw3.cell? ⟨P2, 1, none⟩ = some (.slice xb1 r1 xd1) := (Below.celz bq _ _ _ (by omega)).trans cc5
                    have d6 : uw3.cell? ⟨P3, 0, none⟩ = some (.slice xa2 p2 xc2) := (Below.celz bq _ _ _ (by omega)).trans cc6
                    have d7 : uw3.cell? ⟨P3, 1, none⟩ = some (.slice xb2 r2 xd2) := (Below.celz bq _ _ _ (by omega)).trans cc7
                    have d8 : uw3.cell? ⟨P4, 0, none⟩ = some (.slice (some ⟨b, off, none⟩) p4 xc4) := (Below.celz bq _ _ _ (by omega)).trans cc8
                    have d9 : uw3.cell? ⟨P4, 1, none⟩ = some (.slice xb4 r4 xd4) := (Below.celz bq _ _ _ (by omega)).trans cc9
                    have d10 : uw3.cell? ⟨P5, 0, none⟩ = some (.slice xa5 p5 xc5) := (Below.celz bq _ _ _ (by omega)).trans cc10
                    have d11 : uw3.cell? ⟨P5, 1, none⟩ = some (.slice xb5 r5 xd5) := (Below.celz bq _ _ _ (by omega)).trans cc11
                    have d12 : uw3.cell? ⟨b, off + k * 2, none⟩ = some (.int .i64 f0) := (Below.celz bq _ _ _ (by omega)).trans cc12
                    have d13 : uw3.cell? ⟨b, off + k * 2 + 1, none⟩ = some (.int .i64 f1) := (Below.celz bq _ _ _ (by omega)).trans cc13
                    have y0 : P0 < uw3.heap.size := by have := Below.size bq; omega
                    have y1 : P1 < uw3.heap.size := by have := Below.size bq; omega
                    have y2 : P2 < uw3.heap.size := by have := Below.size bq; omega
                    have y3 : P3 < uw3.heap.size := by have := Below.size bq; omega
                    have y4 : P4 < uw3.heap.size := by have := Below.size bq; omega
                    have y5 : P5 < uw3.heap.size := by have := Below.size bq; omega
                    have y6 : b < uw3.heap.size := by have := Below.size bq; omega
                    have BB1 : Below A wa uw3 := BB.trans (bq.mono (by omega))
                    have sA1 : A ≤ uw3.heap.size := by have := Below.size bq; omega
                    have q0 : Hid (GrAt uw3 (.slice xa1 p1 xc1) (.slice xb1 r1 xd1) X1N X1E) := HR1.out.keep bq
                    have q1 : Hid (GrAt uw3 (.slice xa2 p2 xc2) (.slice xb2 r2 xd2) X2N X2E) := HR2.out.keep bq
                    have q2 : Hid (GrAt uw3 (.slice (some ⟨b, off, none⟩) p4 xc4) (.slice xb4 r4 xd4) X4N X4E) := HR4.out.keep bq
                    have q3 : Hid (GrAt uw3 (.slice xa5 p5 xc5) (.slice xb5 r5 xd5) X5N X5E) := HR5.out.keep bq
                    have q4 : Hid (Ov w11 uw3) := HD.out.keep bq
                    clear BB sA cc0 cc1 cc2 cc3 cc4 cc5 cc6 cc7 cc8 cc9 cc10 cc11 cc12 cc13 zz0 zz1 zz2 zz3 zz4 zz5 zz6 HR1 HR2 HR4 HR5 HD
                    have cc0 := d0
                    have cc1 := d1
                    have cc2 := d2
                    have cc3 := d3
                    have cc4 := d4
                    have cc5 := d5
                    have cc6 := d6
                    have cc7 := d7
                    have cc8 := d8
                    have cc9 := d9
                    have cc10 := d10
                    have cc11 := d11
                    have cc12 := d12
                    have cc13 := d13
                    have zz0 := y0
                    have zz1 := y1
                    have zz2 := y2
                    have zz3 := y3
                    have zz4 := y4
                    have zz5 := y5
                    have zz6 := y6
                    have HR1 := q0
                    have HR2 := q1
                    have HR4 := q2
                    have HR5 := q3
                    have HD := q4
                    have BB := BB1
                    have sA := sA1
                    clear BB1 sA1 d0 d1 d2 d3 d4 d5 d6 d7 d8 d9 d10 d11 d12 d13 y0 y1 y2 y3 y4 y5 y6 q0 q1 q2 q3 q4
                    clear bq
                    go_wp2_with fail
                    go_roundw
                    case rel => exact ⟨k + 1, by omega, by go_num, by rw [HS2.out]; first | rfl | go_num, HD.out.b⟩
                    case measure => simp [intOf]; omega
                  · have h3 : decide ((0 : Int) ≤ a3v) = false := g3
                    have HS2 : Hid ((X4N.take (k + 1)).countP (fun x : Nd => underB x.1 c || underB x.1 c2) = q + 1) := HST.out
                    clear g3 HST
                    go_wp2_with fail
                    have HW : Hid (∀ p : After wr, GrAt p.w (.slice xa1 p1 xc1) (.slice xb1 r1 xd1) X1N X1E) := fun p => HR1.out.keep p.bel
                    refine wp_region_after (by kernel_rfl) (by kernel_rfl) ?_
                    intro hneq hac
                    repeat (go_big_quiet_step (first
                      | (go_at_call 28; exact after_of ((wpAtB _ _ X1N X1E f0 f1 _ (HW.out _)).mono (fun _ _ h => ⟨by rw [h.1, HAT.out.1], h.2⟩)))))
                    refine wpQuiet_nil ?_
                    rintro _ ⟨p', rfl⟩
                    have bq : Below wr.heap.size wr p'.w := p'.bel
                    clear hac hneq HW
                    generalize p'.w = uw1 at *
                    have d0 : uw1.cell? ⟨P0, 0, none⟩ = some (.slice ga n gc) := (Below.celz bq _ _ _ (by omega)).trans cc0
                    have d1 : uw1.cell? ⟨P0, 1, none⟩ = some (.slice gb m gd) := (Below.celz bq _ _ _ (by omega)).trans cc1
                    have d2 : uw1.cell? ⟨P1, 0, none⟩ = some (.slice ha n2 hc) := (Below.celz bq _ _ _ (by omega)).trans cc2
                    have d3 : uw1.cell? ⟨P1, 1, none⟩ = some (.slice hb m2 hd) := (Below.celz bq _ _ _ (by omega)).trans cc3
                    have d4 : uw1.cell? ⟨P2, 0, none⟩ = some (.slice xa1 p1 xc1) := (Below.celz bq _ _ _ (by omega)).trans cc4
                    have d5 : uw1.cell? ⟨P2, 1, none⟩ = some (.slice xb1 r1 xd1) := (Below.celz bq _ _ _ (by omega)).trans cc5
                    have d6 : uw1.cell? ⟨P3, 0, none⟩ = some (.slice xa2 p2 xc2) := (Below.celz bq _ _ _ (by omega)).trans cc6
                    have d7 : uw1.cell? ⟨P3, 1, none⟩ = some (.slice xb2 r2 xd2) := (Below.celz bq _ _ _ (by omega)).trans cc7
                    have d8 : uw1.cell? ⟨P4, 0, none⟩ = some (.slice (some ⟨b, off, none⟩) p4 xc4) := (Below.celz bq _ _ _ (by omega)).trans cc8
                    have d9 : uw1.cell? ⟨P4, 1, none⟩ = some (.slice xb4 r4 xd4) := (Below.celz bq _ _ _ (by omega)).trans cc9
                    have d10 : uw1.cell? ⟨P5, 0, none⟩ = some (.slice xa5 p5 xc5) := (Below.celz bq _ _ _ (by omega)).trans cc10
                    have d11 : uw1.cell? ⟨P5, 1, none⟩ = some (.slice xb5 r5 xd5) := (Below.celz bq _ _ _ (by omega)).trans cc11
                    have d12 : uw1.cell? ⟨b, off + k * 2, none⟩ = some (.int .i64 f0) := (Below.celz bq _ _ _ (by omega)).trans cc12
                    have d13 : uw1.cell? ⟨b, off + k * 2 + 1, none⟩ = some (.int .i64 f1) := (Below.celz bq _ _ _ (by omega)).trans cc13
                    have y0 : P0 < uw1.heap.size := by have := Below.size bq; omega
                    have y1 : P1 < uw1.heap.size := by have := Below.size bq; omega
                    have y2 : P2 < uw1.heap.size := by have := Below.size bq; omega
                    have y3 : P3 < uw1.heap.size := by have := Below.size bq; omega
                    have y4 : P4 < uw1.heap.size := by have := Below.size bq; omega
                    have y5 : P5 < uw1.heap.size := by have := Below.size bq; omega
                    have y6 : b < uw1.heap.size := by have := Below.size bq; omega
                    have BB1 : Below A wa uw1 := BB.trans (bq.mono (by omega))
                    have sA1 : A ≤ uw1.heap.size := by have := Below.size bq; omega
                    have q0 : Hid (GrAt uw1 (.slice xa1 p1 xc1) (.slice xb1 r1 xd1) X1N X1E) := HR1.out.keep bq
                    have q1 : Hid (GrAt uw1 (.slice xa2 p2 xc2) (.slice xb2 r2 xd2) X2N X2E) := HR2.out.keep bq
                    have q2 : Hid (GrAt uw1 (.slice (some ⟨b, off, none⟩) p4 xc4) (.slice xb4 r4 xd4) X4N X4E) := HR4.out.keep bq
                    have q3 : Hid (GrAt uw1 (.slice xa5 p5 xc5) (.slice xb5 r5 xd5) X5N X5E) := HR5.out.keep bq
                    have q4 : Hid (Ov w11 uw1) := HD.out.keep bq
                    clear BB sA cc0 cc1 cc2 cc3 cc4 cc5 cc6 cc7 cc8 cc9 cc10 cc11 cc12 cc13 zz0 zz1 zz2 zz3 zz4 zz5 zz6 HR1 HR2 HR4 HR5 HD
                    have cc0 := d0
                    have cc1 := d1
                    have cc2 := d2
                    have cc3 := d3
                    have cc4 := d4
                    have cc5 := d5
                    have cc6 := d6
                    have cc7 := d7
                    have cc8 := d8
                    have cc9 := d9
                    have cc10 := d10
                    have cc11 := d11
                    have cc12 := d12
                    have cc13 := d13
                    have zz0 := y0
                    have zz1 := y1
                    have zz2 := y2
                    have zz3 := y3
                    have zz4 := y4
                    have zz5 := y5
                    have zz6 := y6
                    have HR1 := q0
                    have HR2 := q1
                    have HR4 := q2
                    have HR5 := q3
                    have HD := q4
                    have BB := BB1
                    have sA := sA1
                    clear BB1 sA1 d0 d1 d2 d3 d4 d5 d6 d7 d8 d9 d10 d11 d12 d13 y0 y1 y2 y3 y4 y5 y6 q0 q1 q2 q3 q4
                    clear bq
                    go_wp2_with fail
                    have HW : Hid (∀ p : After uw1, GrAt p.w (.slice xa2 p2 xc2) (.slice xb2 r2 xd2) X2N X2E) := fun p => HR2.out.keep p.bel
                    refine wp_region_after (by kernel_rfl) (by kernel_rfl) ?_
                    intro hneq hac
                    repeat (go_big_quiet_step (first
                      | (go_at_call 28; exact after_of ((wpAtB _ _ X2N X2E f0 f1 _ (HW.out _)).mono (fun _ _ h => ⟨by rw [h.1, HAT.out.2.1], h.2⟩)))))
                    refine wpQuiet_nil ?_
                    rintro _ ⟨p', rfl⟩
                    have bq : Below uw1.heap.size uw1 p'.w := p'.bel
                    clear hac hneq HW
                    generalize p'.w = uw2 at *
                    have d0 : uw2.cell? ⟨P0, 0, none⟩ = some (.slice ga n gc) := (Below.celz bq _ _ _ (by omega)).trans cc0
                    have d1 : uw2.cell? ⟨P0, 1, none⟩ = some (.slice gb m gd) := (Below.celz bq _ _ _ (by omega)).trans cc1
                    have d2 : uw2.cell? ⟨P1, 0, none⟩ = some (.slice ha n2 hc) := (Below.celz bq _ _ _ (by omega)).trans cc2
                    have d3 : uw2.cell? ⟨P1, 1, none⟩ = some (.slice hb m2 hd) := (Below.celz bq _ _ _ (by omega)).trans cc3
                    have d4 : uw2.cell? ⟨P2, 0, none⟩ = some (.slice xa1 p1 xc1) := (Below.celz bq _ _ _ (by omega)).trans cc4
                    have d5 : uw2.cell? ⟨P2, 1, none⟩ = some (.slice xb1 r1 xd1) := (Below.celz bq _ _ _ (by omega)).trans cc5
                    have d6 : uw2.cell? ⟨P3, 0, none⟩ = some (.slice xa2 p2 xc2) := (Below.celz bq _ _ _ (by omega)).trans cc6
                    have d7 : uw2.cell? ⟨P3, 1, none⟩ = some (.slice xb2 r2 xd2) := (Below.celz bq _ _ _ (by omega)).trans cc7
                    have d8 : uw2.cell? ⟨P4, 0, none⟩ = some (.slice (some ⟨b, off, none⟩) p4 xc4) := (Below.celz bq _ _ _ (by omega)).trans cc8
                    have d9 : uw2.cell? ⟨P4, 1, none⟩ = some (.slice xb4 r4 xd4) := (Below.celz bq _ _ _ (by omega)).trans cc9
                    have d10 : uw2.cell? ⟨P5, 0, none⟩ = some (.slice xa5 p5 xc5) := (Below.celz bq _ _ _ (by omega)).trans cc10
                    have d11 : uw2.cell? ⟨P5, 1, none⟩ = some (.slice xb5 r5 xd5) := (Below.celz bq _ _ _ (by omega)).trans cc11
                    have d12 : uw2.cell? ⟨b, off + k * 2, none⟩ = some (.int .i64 f0) := (Below.celz bq _ _ _ (by omega)).trans cc12
                    have d13 : uw2.cell? ⟨b, off + k * 2 + 1, none⟩ = some (.int .i64 f1) := (Below.celz bq _ _ _ (by omega)).trans cc13
                    have y0 : P0 < uw2.heap.size := by have := Below.size bq; omega
                    have y1 : P1 < uw2.heap.size := by have := Below.size bq; omega
                    have y2 : P2 < uw2.heap.size := by have := Below.size bq; omega
                    have y3 : P3 < uw2.heap.size := by have := Below.size bq; omega
                    have y4 : P4 < uw2.heap.size := by have := Below.size bq; omega
                    have y5 : P5 < uw2.heap.size := by have := Below.size bq; omega
                    have y6 : b < uw2.heap.size := by have := Below.size bq; omega
                    have BB1 : Below A wa uw2 := BB.trans (bq.mono (by omega))
                    have sA1 : A ≤ uw2.heap.size := by have := Below.size bq; omega
                    have q0 : Hid (GrAt uw2 (.slice xa1 p1 xc1) (.slice xb1 r1 xd1) X1N X1E) := HR1.out.keep bq
                    have q1 : Hid (GrAt uw2 (.slice xa2 p2 xc2) (.slice xb2 r2 xd2) X2N X2E) := HR2.out.keep bq
                    have q2 : Hid (GrAt uw2 (.slice (some ⟨b, off, none⟩) p4 xc4) (.slice xb4 r4 xd4) X4N X4E) := HR4.out.keep bq
                    have q3 : Hid (GrAt uw2 (.slice xa5 p5 xc5) (.slice xb5 r5 xd5) X5N X5E) := HR5.out.keep bq
                    have q4 : Hid (Ov w11 uw2) := HD.out.keep bq
                    clear BB sA cc0 cc1 cc2 cc3 cc4 cc5 cc6 cc7 cc8 cc9 cc10 cc11 cc12 cc13 zz0 zz1 zz2 zz3 zz4 zz5 zz6 HR1 HR2 HR4 HR5 HD
                    have cc0 := d0
                    have cc1 := d1
                    have cc2 := d2
                    have cc3 := d3
                    have cc4 := d4
                    have cc5 := d5
                    have cc6 := d6
                    have cc7 := d7
                    have cc8 := d8
                    have cc9 := d9
                    have cc10 := d10
                    have cc11 := d11
                    have cc12 := d12
                    have cc13 := d13
                    have zz0 := y0
                    have zz1 := y1
                    have zz2 := y2
                    have zz3 := y3
                    have zz4 := y4
                    have zz5 := y5
                    have zz6 := y6
                    have HR1 := q0
                    have HR2 := q1
                    have HR4 := q2
                    have HR5 := q3
                    have HD := q4
                    have BB := BB1
                    have sA := sA1
                    clear BB1 sA1 d0 d1 d2 d3 d4 d5 d6 d7 d8 d9 d10 d11 d12 d13 y0 y1 y2 y3 y4 y5 y6 q0 q1 q2 q3 q4
                    clear bq
                    go_wp2_with fail
                    have HW : Hid (∀ p : After uw2, GrAt p.w (.slice xa5 p5 xc5) (.slice xb5 r5 xd5) X5N X5E) := fun p => HR5.out.keep p.bel
                    refine wp_region_after (by kernel_rfl) (by kernel_rfl) ?_
                    intro hneq hac
                    repeat (go_big_quiet_step (first
                      | (go_at_call 28; exact after_of ((wpAtB _ _ X5N X5E f0 f1 _ (HW.out _)).mono (fun _ _ h => ⟨by rw [h.1, HAT.out.2.2], h.2⟩)))))
                    refine wpQuiet_nil ?_
                    rintro _ ⟨p', rfl⟩
                    have bq : Below uw2.heap.size uw2 p'.w := p'.bel
                    clear hac hneq HW
                    generalize p'.w = uw3 at *
                    have d0 : uw3.cell? ⟨P0, 0, none⟩ = some (.slice ga n gc) := (Below.celz bq _ _ _ (by omega)).trans cc0
                    have d1 : uw3.cell? ⟨P0, 1, none⟩ = some (.slice gb m gd) := (Below.celz bq _ _ _ (by omega)).trans cc1
                    have d2 : uw3.cell? ⟨P1, 0, none⟩ = some (.slice ha n2 hc) := (Below.celz bq _ _ _ (by omega)).trans cc2
                    have d3 : uw3.cell? ⟨P1, 1, none⟩ = some (.slice hb m2 hd) := (Below.celz bq _ _ _ (by omega)).trans cc3
                    have d4 : uw3.cell? ⟨P2, 0, none⟩ = some (.slice xa1 p1 xc1) := (Below.celz bq _ _ _ (by omega)).trans cc4
                    have d5 : uw3.cell? ⟨P2, 1, none⟩ = some (.slice xb1 r1 xd1) := (Below.celz bq _ _ _ (by omega)).trans cc5
                    have d6 : uw3.cell? ⟨P3, 0, none⟩ = some (.slice xa2 p2 xc2) := (Below.celz bq _ _ _ (by omega)).trans cc6
                    have d7 : uw3.cell? ⟨P3, 1, none⟩ = some (.slice xb2 r2 xd2) := (Below.celz bq _ _ _ (by omega)).trans cc7
                    have d8 : uw3.cell? ⟨P4, 0, none⟩ = some (.slice (some ⟨b, off, none⟩) p4 xc4) := (Below.celz bq _ _ _ (by omega)).trans cc8
                    have d9 : uw3.cell? ⟨P4, 1, none⟩ = some (.slice xb4 r4 xd4) := (Below.celz bq _ _ _ (by omega)).trans cc9
                    have d10 : uw3.cell? ⟨P5, 0, none⟩ = some (.slice xa5 p5 xc5) := (Below.celz bq _ _ _ (by omega)).trans cc10
                    have d11 : uw3.cell? ⟨P5, 1, none⟩ = some (.slice xb5 r5 xd5) := (Below.celz bq _ _ _ (by omega)).trans cc11
                    have d12 : uw3.cell? ⟨b, off + k * 2, none⟩ = some (.int .i64 f0) := (Below.celz bq _ _ _ (by omega)).trans cc12
                    have d13 : uw3.cell? ⟨b, off + k * 2 + 1, none⟩ = some (.int .i64 f1) := (Below.celz bq _ _ _ (by omega)).trans cc13
                    have y0 : P0 < uw3.heap.size := by have := Below.size bq; omega
                    have y1 : P1 < uw3.heap.size := by have := Below.size bq; omega
                    have y2 : P2 < uw3.heap.size := by have := Below.size bq; omega
                    have y3 : P3 < uw3.heap.size := by have := Below.size bq; omega
                    have y4 : P4 < uw3.heap.size := by have := Below.size bq; omega
                    have y5 : P5 < uw3.heap.size := by have := Below.size bq; omega
                    have y6 : b < uw3.heap.size := by have := Below.size bq; omega
                    have BB1 : Below A wa uw3 := BB.trans (bq.mono (by omega))
                    have sA1 : A ≤ uw3.heap.size := by have := Below.size bq; omega
                    have q0 : Hid (GrAt uw3 (.slice xa1 p1 xc1) (.slice xb1 r1 xd1) X1N X1E) := HR1.out.keep bq
                    have q1 : Hid (GrAt uw3 (.slice xa2 p2 xc2) (.slice xb2 r2 xd2) X2N X2E) := HR2.out.keep bq
                    have q2 : Hid (GrAt uw3 (.slice (some ⟨b, off, none⟩) p4 xc4) (.slice xb4 r4 xd4) X4N X4E) := HR4.out.keep bq
                    have q3 : Hid (GrAt uw3 (.slice xa5 p5 xc5) (.slice xb5 r5 xd5) X5N X5E) := HR5.out.keep bq
                    have q4 : Hid (Ov w11 uw3) := HD.out.keep bq
                    clear BB sA cc0 cc1 cc2 cc3 cc4 cc5 cc6 cc7 cc8 cc9 cc10 cc11 cc12 cc13 zz0 zz1 zz2 zz3 zz4 zz5 zz6 HR1 HR2 HR4 HR5 HD
                    have cc0 := d0
                    have cc1 := d1
                    have cc2 := d2
                    have cc3 := d3
                    have cc4 := d4
                    have cc5 := d5
                    have cc6 := d6
                    have cc7 := d7
                    have cc8 := d8
                    have cc9 := d9
                    have cc10 := d10
                    have cc11 := d11
                    have cc12 := d12
                    have cc13 := d13
                    have zz0 := y0
                    have zz1 := y1
                    have zz2 := y2
                    have zz3 := y3
                    have zz4 := y4
                    have zz5 := y5
                    have zz6 := y6
                    have HR1 := q0
                    have HR2 := q1
                    have HR4 := q2
                    have HR5 := q3
                    have HD := q4
                    have BB := BB1
                    have sA := sA1
                    clear BB1 sA1 d0 d1 d2 d3 d4 d5 d6 d7 d8 d9 d10 d11 d12 d13 y0 y1 y2 y3 y4 y5 y6 q0 q1 q2 q3 q4
                    clear bq
                    go_wp2_with fail
                    go_roundw
                    case rel => exact ⟨k + 1, by omega, by go_num, by rw [HS2.out]; first | rfl | go_num, HD.out.b⟩
                    case measure => simp [intOf]; omega
                · cases u2
                  · have h3 : decide ((0 : Int) ≤ a3v) = false := g3
                    have HS2 : Hid ((X4N.take (k + 1)).countP (fun x : Nd => underB x.1 c || underB x.1 c2) = q + 1) := HST.out
                    clear g3 HST
                    go_wp2_with fail
                    have HW : Hid (∀ p : After wr, GrAt p.w (.slice xa1 p1 xc1) (.slice xb1 r1 xd1) X1N X1E) := fun p => HR1.out.keep p.bel
                    refine wp_region_after (by kernel_rfl) (by kernel_rfl) ?_
                    intro hneq hac
                    repeat (go_big_quiet_step (first
                      | (go_at_call 28; exact after_of ((wpAtB _ _ X1N X1E f0 f1 _ (HW.out _)).mono (fun _ _ h => ⟨by rw [h.1, HAT.out.1], h.2⟩)))))
                    refine wpQuiet_nil ?_
                    rintro _ ⟨p', rfl⟩
                    have bq : Below wr.heap.size wr p'.w := p'.bel
                    clear hac hneq HW
                    generalize p'.w = uw1 at *
                    have d0 : uw1.cell? ⟨P0, 0, none⟩ = some (.slice ga n gc) := (Below.celz bq _ _ _ (by omega)).trans cc0
                    have d1 : uw1.cell? ⟨P0, 1, none⟩ = some (.slice gb m gd) := (Below.celz bq _ _ _ (by omega)).trans cc1
                    have d2 : uw1.cell? ⟨P1, 0, none⟩ = some (.slice ha n2 hc) := (Below.celz bq _ _ _ (by omega)).trans cc2
                    have d3 : uw1.cell? ⟨P1, 1, none⟩ = some (.slice hb m2 hd) := (Below.celz bq _ _ _ (by omega)).trans cc3
                    have d4 : uw1.cell? ⟨P2, 0, none⟩ = some (.slice xa1 p1 xc1) := (Below.celz bq _ _ _ (by omega)).trans cc4
                    have d5 : uw1.cell? ⟨P2, 1, none⟩ = some (.slice xb1 r1 xd1) := (Below.celz bq _ _ _ (by omega)).trans cc5
                    have d6 : uw1.cell? ⟨P3, 0, none⟩ = some (.slice xa2 p2 xc2) := (Below.celz bq _ _ _ (by omega)).trans cc6
                    have d7 : uw1.cell? ⟨P3, 1, none⟩ = some (.slice xb2 r2 xd2) := (Below.celz bq _ _ _ (by omega)).trans cc7
                    have d8 : uw1.cell? ⟨P4, 0, none⟩ = some (.slice (some ⟨b, off, none⟩) p4 xc4) := (Below.celz bq _ _ _ (by omega)).trans cc8
                    have d9 : uw1.cell? ⟨P4, 1, none⟩ = some (.slice xb4 r4 xd4) := (Below.celz bq _ _ _ (by omega)).trans cc9
                    have d10 : uw1.cell? ⟨P5, 0, none⟩ = some (.slice xa5 p5 xc5) := (Below.celz bq _ _ _ (by omega)).trans cc10
                    have d11 : uw1.cell? ⟨P5, 1, none⟩ = some (.slice xb5 r5 xd5) := (Below.celz bq _ _ _ (by omega)).trans cc11
                    have d12 : uw1.cell? ⟨b, off + k * 2, none⟩ = some (.int .i64 f0) := (Below.celz bq _ _ _ (by omega)).trans cc12
                    have d13 : uw1.cell? ⟨b, off + k * 2 + 1, none⟩ = some (.int .i64 f1) := (Below.celz bq _ _ _ (by omega)).trans cc13
                    have y0 : P0 < uw1.heap.size := by have := Below.size bq; omega
                    have y1 : P1 < uw1.heap.size := by have := Below.size bq; omega
                    have y2 : P2 < uw1.heap.size := by have := Below.size bq; omega
                    have y3 : P3 < uw1.heap.size := by have := Below.size bq; omega
                    have y4 : P4 < uw1.heap.size := by have := Below.size bq; omega
                    have y5 : P5 < uw1.heap.size := by have := Below.size bq; omega
                    have y6 : b < uw1.heap.size := by have := Below.size bq; omega
                    have BB1 : Below A wa uw1 := BB.trans (bq.mono (by omega))
                    have sA1 : A ≤ uw1.heap.size := by have := Below.size bq; omega
                    have q0 : Hid (GrAt uw1 (.slice xa1 p1 xc1) (.slice xb1 r1 xd1) X1N X1E) := HR1.out.keep bq
                    have q1 : Hid (GrAt uw1 (.slice xa2 p2 xc2) (.slice xb2 r2 xd2) X2N X2E) := HR2.out.keep bq
                    have q2 : Hid (GrAt uw1 (.slice (some ⟨b, off, none⟩) p4 xc4) (.slice xb4 r4 xd4) X4N X4E) := HR4.out.keep bq
                    have q3 : Hid (GrAt uw1 (.slice xa5 p5 xc5) (.slice xb5 r5 xd5) X5N X5E) := HR5.out.keep bq
                    have q4 : Hid (Ov w11 uw1) := HD.out.keep bq
                    clear BB sA cc0 cc1 cc2 cc3 cc4 cc5 cc6 cc7 cc8 cc9 cc10 cc11 cc12 cc13 zz0 zz1 zz2 zz3 zz4 zz5 zz6 HR1 HR2 HR4 HR5 HD
                    have cc0 := d0
                    have cc1 := d1
                    have cc2 := d2
                    have cc3 := d3
                    have cc4 := d4
                    have cc5 := d5
                    have cc6 := d6
                    have cc7 := d7
                    have cc8 := d8
                    have cc9 := d9
                    have cc10 := d10
                    have cc11 := d11
                    have cc12 := d12
                    have cc13 := d13
                    have zz0 := y0
                    have zz1 := y1
                    have zz2 := y2
                    have zz3 := y3
                    have zz4 := y4
                    have zz5 := y5
                    have zz6 := y6
                    have HR1 := q0
                    have HR2 := q1
                    have HR4 := q2
                    have HR5 := q3
                    have HD := q4
                    have BB := BB1
                    have sA := sA1
                    clear BB1 sA1 d0 d1 d2 d3 d4 d5 d6 d7 d8 d9 d10 d11 d12 d13 y0 y1 y2 y3 y4 y5 y6 q0 q1 q2 q3 q4
                    clear bq
                    go_wp2_with fail
                    have HW : Hid (∀ p : After uw1, GrAt p.w (.slice xa2 p2 xc2) (.slice xb2 r2 xd2) X2N X2E) := fun p => HR2.out.keep p.bel
                    refine wp_region_after (by kernel_rfl) (by kernel_rfl) ?_
                    intro hneq hac
                    repeat (go_big_quiet_step (first
                      | (go_at_call 28; exact after_of ((wpAtB _ _ X2N X2E f0 f1 _ (HW.out _)).mono (fun _ _ h => ⟨by rw [h.1, HAT.out.2.1], h.2⟩)))))
                    refine wpQuiet_nil ?_
                    rintro _ ⟨p', rfl⟩
                    have bq : Below uw1.heap.size uw1 p'.w := p'.bel
                    clear hac hneq HW
                    generalize p'.w = uw2 at *
                    have d0 : uw2.cell? ⟨P0, 0, none⟩ = some (.slice ga n gc) := (Below.celz bq _ _ _ (by omega)).trans cc0
                    have d1 : uw2.cell? ⟨P0, 1, none⟩ = some (.slice gb m gd) := (Below.celz bq _ _ _ (by omega)).trans cc1
                    have d2 : uw2.cell? ⟨P1, 0, none⟩ = some (.slice ha n2 hc) := (Below.celz bq _ _ _ (by omega)).trans cc2
                    have d3 : uw2.cell? ⟨P1, 1, none⟩ = some (.slice hb m2 hd) := (Below.celz bq _ _ _ (by omega)).trans cc3
                    have d4 : uw2.cell? ⟨P2, 0, none⟩ = some (.slice xa1 p1 xc1) := (Below.celz bq _ _ _ (by omega)).trans cc4
                    have d5 : uw2.cell? ⟨P2, 1, none⟩ = some (.slice xb1 r1 xd1) := (Below.celz bq _ _ _ (by omega)).trans cc5
                    have d6 : uw2.cell? ⟨P3, 0, none⟩ = some (.slice xa2 p2 xc2) := (Below.celz bq _ _ _ (by omega)).trans cc6
                    have d7 : uw2.cell? ⟨P3, 1, none⟩ = some (.slice xb2 r2 xd2) := (Below.celz bq _ _ _ (by omega)).trans cc7
                    have d8 : uw2.cell? ⟨P4, 0, none⟩ = some (.slice (some ⟨b, off, none⟩) p4 xc4) := (Below.celz bq _ _ _ (by omega)).trans cc8
                    have d9 : uw2.cell? ⟨P4, 1, none⟩ = some (.slice xb4 r4 xd4) := (Below.celz bq _ _ _ (by omega)).trans cc9
                    have d10 : uw2.cell? ⟨P5, 0, none⟩ = some (.slice xa5 p5 xc5) := (Below.celz bq _ _ _ (by omega)).trans cc10
                    have d11 : uw2.cell? ⟨P5, 1, none⟩ = some (.slice xb5 r5 xd5) := (Below.celz bq _ _ _ (by omega)).trans cc11
                    have d12 : uw2.cell? ⟨b, off + k * 2, none⟩ = some (.int .i64 f0) := (Below.celz bq _ _ _ (by omega)).trans cc12
                    have d13 : uw2.cell? ⟨b, off + k * 2 + 1, none⟩ = some (.int .i64 f1) := (Below.celz bq _ _ _ (by omega)).trans cc13
                    have y0 : P0 < uw2.heap.size := by have := Below.size bq; omega
                    have y1 : P1 < uw2.heap.size := by have := Below.size bq; omega
                    have y2 : P2 < uw2.heap.size := by have := Below.size bq; omega
                    have y3 : P3 < uw2.heap.size := by have := Below.size bq; omega
                    have y4 : P4 < uw2.heap.size := by have := Below.size bq; omega
                    have y5 : P5 < uw2.heap.size := by have := Below.size bq; omega
                    have y6 : b < uw2.heap.size := by have := Below.size bq; omega
                    have BB1 : Below A wa uw2 := BB.trans (bq.mono (by omega))
                    have sA1 : A ≤ uw2.heap.size := by have := Below.size bq; omega
                    have q0 : Hid (GrAt uw2 (.slice xa1 p1 xc1) (.slice xb1 r1 xd1) X1N X1E) := HR1.out.keep bq
                    have q1 : Hid (GrAt uw2 (.slice xa2 p2 xc2) (.slice xb2 r2 xd2) X2N X2E) := HR2.out.keep bq
                    have q2 : Hid (GrAt uw2 (.slice (some ⟨b, off, none⟩) p4 xc4) (.slice xb4 r4 xd4) X4N X4E) := HR4.out.keep bq
                    have q3 : Hid (GrAt uw2 (.slice xa5 p5 xc5) (.slice xb5 r5 xd5) X5N X5E) := HR5.out.keep bq
                    have q4 : Hid (Ov w11 uw2) := HD.out.keep bq
                    clear BB sA cc0 cc1 cc2 cc3 cc4 cc5 cc6 cc7 cc8 cc9 cc10 cc11 cc12 cc13 zz0 zz1 zz2 zz3 zz4 zz5 zz6 HR1 HR2 HR4 HR5 HD
                    have cc0 := d0
                    have cc1 := d1
                    have cc2 := d2
                    have cc3 := d3
                    have cc4 := d4
                    have cc5 := d5
                    have cc6 := d6
                    have cc7 := d7
                    have cc8 := d8
                    have cc9 := d9
                    have cc10 := d10
                    have cc11 := d11
                    have cc12 := d12
                    have cc13 := d13
                    have zz0 := y0
                    have zz1 := y1
                    have zz2 := y2
                    have zz3 := y3
                    have zz4 := y4
                    have zz5 := y5
                    have zz6 := y6
                    have HR1 := q0
                    have HR2 := q1
                    have HR4 := q2
                    have HR5 := q3
                    have HD := q4
                    have BB := BB1
                    have sA := sA1
                    clear BB1 sA1 d0 d1 d2 d3 d4 d5 d6 d7 d8 d9 d10 d11 d12 d13 y0 y1 y2 y3 y4 y5 y6 q0 q1 q2 q3 q4
                    clear bq
                    go_wp2_with fail
                    have HW : Hid (∀ p : After uw2, GrAt p.w (.slice xa5 p5 xc5) (.slice xb5 r5 xd5) X5N X5E) := fun p => HR5.out.keep p.bel
                    refine wp_region_after (by kernel_rfl) (by kernel_rfl) ?_
                    intro hneq hac
                    repeat (go_big_quiet_step (first
                      | (go_at_call 28; exact after_of ((wpAtB _ _ X5N X5E f0 f1 _ (HW.out _)).mono (fun _ _ h => ⟨by rw [h.1, HAT.out.2.2], h.2⟩)))))
                    refine wpQuiet_nil ?_
                    rintro _ ⟨p', rfl⟩
                    have bq : Below uw2.heap.size uw2 p'.w := p'.bel
                    clear hac hneq HW
                    generalize p'.w = uw3 at *
                    have d0 : uw3.cell? ⟨P0, 0, none⟩ = some (.slice ga n gc) := (Below.celz bq _ _ _ (by omega)).trans cc0
                    have d1 : uw3.cell? ⟨P0, 1, none⟩ = some (.slice gb m gd) := (Below.celz bq _ _ _ (by omega)).trans cc1
                    have d2 : uw3.cell? ⟨P1, 0, none⟩ = some (.slice ha n2 hc) := (Below.celz bq _ _ _ (by omega)).trans cc2
                    have d3 : uw3.cell? ⟨P1, 1, none⟩ = some (.slice hb m2 hd) := (Below.celz bq _ _ _ (by omega)).trans cc3
                    have d4 : uw3.cell? ⟨P2, 0, none⟩ = some (.slice xa1 p1 xc1) := (Below.celz bq _ _ _ (by omega)).trans cc4
                    have d5 : uw3.cell? ⟨P2, 1, none⟩ = some (.slice xb1 r1 xd1) := (Below.celz bq _ _ _ (by omega)).trans cc5
                    have d6 : uw3.cell? ⟨P3, 0, none⟩ = some (.slice xa2 p2 xc2) := (Below.celz bq _ _ _ (by omega)).trans cc6
                    have d7 : uw3.cell? ⟨P3, 1, none⟩ = some (.slice xb2 r2 xd2) := (Below.celz bq _ _ _ (by omega)).trans cc7
                    have d8 : uw3.cell? ⟨P4, 0, none⟩ = some (.slice (some ⟨b, off, none⟩) p4 xc4) := (Below.celz bq _ _ _ (by omega)).trans cc8
                    have d9 : uw3.cell? ⟨P4, 1, none⟩ = some (.slice xb4 r4 xd4) := (Below.celz bq _ _ _ (by omega)).trans cc9
                    have d10 : uw3.cell? ⟨P5, 0, none⟩ = some (.slice xa5 p5 xc5) := (Below.celz bq _ _ _ (by omega)).trans cc10
                    have d11 : uw3.cell? ⟨P5, 1, none⟩ = some (.slice xb5 r5 xd5) := (Below.celz bq _ _ _ (by omega)).trans cc11
                    have d12 : uw3.cell? ⟨b, off + k * 2, none⟩ = some (.int .i64 f0) := (Below.celz bq _ _ _ (by omega)).trans cc12
                    have d13 : uw3.cell? ⟨b, off + k * 2 + 1, none⟩ = some (.int .i64 f1) := (Below.celz bq _ _ _ (by omega)).trans cc13
                    have y0 : P0 < uw3.heap.size := by have := Below.size bq; omega
                    have y1 : P1 < uw3.heap.size := by have := Below.size bq; omega
                    have y2 : P2 < uw3.heap.size := by have := Below.size bq; omega
                    have y3 : P3 < uw3.heap.size := by have := Below.size bq; omega
                    have y4 : P4 < uw3.heap.size := by have := Below.size bq; omega
                    have y5 : P5 < uw3.heap.size := by have := Below.size bq; omega
                    have y6 : b < uw3.heap.size := by have := Below.size bq; omega
                    have BB1 : Below A wa uw3 := BB.trans (bq.mono (by omega))
                    have sA1 : A ≤ uw3.heap.size := by have := Below.size bq; omega
                    have q0 : Hid (GrAt uw3 (.slice xa1 p1 xc1) (.slice xb1 r1 xd1) X1N X1E) := HR1.out.keep bq
                    have q1 : Hid (GrAt uw3 (.slice xa2 p2 xc2) (.slice xb2 r2 xd2) X2N X2E) := HR2.out.keep bq
                    have q2 : Hid (GrAt uw3 (.slice (some ⟨b, off, none⟩) p4 xc4) (.slice xb4 r4 xd4) X4N X4E) := HR4.out.keep bq
                    have q3 : Hid (GrAt uw3 (.slice xa5 p5 xc5) (.slice xb5 r5 xd5) X5N X5E) := HR5.out.keep bq
                    have q4 : Hid (Ov w11 uw3) := HD.out.keep bq
                    clear BB sA cc0 cc1 cc2 cc3 cc4 cc5 cc6 cc7 cc8 cc9 cc10 cc11 cc12 cc13 zz0 zz1 zz2 zz3 zz4 zz5 zz6 HR1 HR2 HR4 HR5 HD
                    have cc0 := d0
                    have cc1 := d1
                    have cc2 := d2
                    have cc3 := d3
                    have cc4 := d4
                    have cc5 := d5
                    have cc6 := d6
                    have cc7 := d7
                    have cc8 := d8
                    have cc9 := d9
                    have cc10 := d10
                    have cc11 := d11
                    have cc12 := d12
                    have cc13 := d13
                    have zz0 := y0
                    have zz1 := y1
                    have zz2 := y2
                    have zz3 := y3
                    have zz4 := y4
                    have zz5 := y5
                    have zz6 := y6
                    have HR1 := q0
                    have HR2 := q1
                    have HR4 := q2
                    have HR5 := q3
                    have HD := q4
                    have BB := BB1
                    have sA := sA1
                    clear BB1 sA1 d0 d1 d2 d3 d4 d5 d6 d7 d8 d9 d10 d11 d12 d13 y0 y1 y2 y3 y4 y5 y6 q0 q1 q2 q3 q4
                    clear bq
                    go_wp2_with fail
                    go_roundw
                    case rel => exact ⟨k + 1, by omega, by go_num, by rw [HS2.out]; first | rfl | go_num, HD.out.b⟩
                    case measure => simp [intOf]; omega
                  · have h3 : decide ((0 : Int) ≤ a3v) = true := g3
                    have HS2 : Hid ((X4N.take (k + 1)).countP (fun x : Nd => underB x.1 c || underB x.1 c2) = q + 1) := HST.out
                    clear g3 HST
                    go_wp2_with fail
                    have HW : Hid (∀ p : After wr, GrAt p.w (.slice xa1 p1 xc1) (.slice xb1 r1 xd1) X1N X1E) := fun p => HR1.out.keep p.bel
                    refine wp_region_after (by kernel_rfl) (by kernel_rfl) ?_
                    intro hneq hac
                    repeat (go_big_quiet_step (first
                      | (go_at_call 28; exact after_of ((wpAtB _ _ X1N X1E f0 f1 _ (HW.out _)).mono (fun _ _ h => ⟨by rw [h.1, HAT.out.1], h.2⟩)))))
                    refine wpQuiet_nil ?_
                    rintro _ ⟨p', rfl⟩
                    have bq : Below wr.heap.size wr p'.w := p'.bel
                    clear hac hneq HW
                    generalize p'.w = uw1 at *
                    have d0 : uw1.cell? ⟨P0, 0, none⟩ = some (.slice ga n gc) := (Below.celz bq _ _ _ (by omega)).trans cc0
                    have d1 : uw1.cell? ⟨P0, 1, none⟩ = some (.slice gb m gd) := (Below.celz bq _ _ _ (by omega)).trans cc1
                    have d2 : uw1.cell? ⟨P1, 0, none⟩ = some (.slice ha n2 hc) := (Below.celz bq _ _ _ (by omega)).trans cc2
                    have d3 : uw1.cell? ⟨P1, 1, none⟩ = some (.slice hb m2 hd) := (Below.celz bq _ _ _ (by omega)).trans cc3
                    have d4 : uw1.cell? ⟨P2, 0, none⟩ = some (.slice xa1 p1 xc1) := (Below.celz bq _ _ _ (by omega)).trans cc4
                    have d5 : uw1.cell? ⟨P2, 1, none⟩ = some (.slice xb1 r1 xd1) := (Below.celz bq _ _ _ (by omega)).trans cc5
                    have d6 : uw1.cell? ⟨P3, 0, none⟩ = some (.slice xa2 p2 xc2) := (Below.celz bq _ _ _ (by omega)).trans cc6
                    have d7 : uw1.cell? ⟨P3, 1, none⟩ = some (.slice xb2 r2 xd2) := (Below.celz bq _ _ _ (by omega)).trans cc7
                    have d8 : uw1.cell? ⟨P4, 0, none⟩ = some (.slice (some ⟨b, off, none⟩) p4 xc4) := (Below.celz bq _ _ _ (by omega)).trans cc8
                    have d9 : uw1.cell? ⟨P4, 1, none⟩ = some (.slice xb4 r4 xd4) := (Below.celz bq _ _ _ (by omega)).trans cc9
                    have d10 : uw1.cell? ⟨P5, 0, none⟩ = some (.slice xa5 p5 xc5) := (Below.celz bq _ _ _ (by omega)).trans cc10
                    have d11 : uw1.cell? ⟨P5, 1, none⟩ = some (.slice xb5 r5 xd5) := (Below.celz bq _ _ _ (by omega)).trans cc11
                    have d12 : uw1.cell? ⟨b, off + k * 2, none⟩ = some (.int .i64 f0) := (Below.celz bq _ _ _ (by omega)).trans cc12
                    have d13 : uw1.cell? ⟨b, off + k * 2 + 1, none⟩ = some (.int .i64 f1) := (Below.celz bq _ _ _ (by omega)).trans cc13
                    have y0 : P0 < uw1.heap.size := by have := Below.size bq; omega
                    have y1 : P1 < uw1.heap.size := by have := Below.size bq; omega
                    have y2 : P2 < uw1.heap.size := by have := Below.size bq; omega
                    have y3 : P3 < uw1.heap.size := by have := Below.size bq; omega
                    have y4 : P4 < uw1.heap.size := by have := Below.size bq; omega
                    have y5 : P5 < uw1.heap.size := by have := Below.size bq; omega
                    have y6 : b < uw1.heap.size := by have := Below.size bq; omega
                    have BB1 : Below A wa uw1 := BB.trans (bq.mono (by omega))
                    have sA1 : A ≤ uw1.heap.size := by have := Below.size bq; omega
                    have q0 : Hid (GrAt uw1 (.slice xa1 p1 xc1) (.slice xb1 r1 xd1) X1N X1E) := HR1.out.keep bq
                    have q1 : Hid (GrAt uw1 (.slice xa2 p2 xc2) (.slice xb2 r2 xd2) X2N X2E) := HR2.out.keep bq
                    have q2 : Hid (GrAt uw1 (.slice (some ⟨b, off, none⟩) p4 xc4) (.slice xb4 r4 xd4) X4N X4E) := HR4.out.keep bq
                    have q3 : Hid (GrAt uw1 (.slice xa5 p5 xc5) (.slice xb5 r5 xd5) X5N X5E) := HR5.out.keep bq
                    have q4 : Hid (Ov w11 uw1) := HD.out.keep bq
                    clear BB sA cc0 cc1 cc2 cc3 cc4 cc5 cc6 cc7 cc8 cc9 cc10 cc11 cc12 cc13 zz0 zz1 zz2 zz3 zz4 zz5 zz6 HR1 HR2 HR4 HR5 HD
                    have cc0 := d0
                    have cc1 := d1
                    have cc2 := d2
                    have cc3 := d3
                    have cc4 := d4
                    have cc5 := d5
                    have cc6 := d6
                    have cc7 := d7
                    have cc8 := d8
                    have cc9 := d9
                    have cc10 := d10
                    have cc11 := d11
                    have cc12 := d12
                    have cc13 := d13
                    have zz0 := y0
                    have zz1 := y1
                    have zz2 := y2
                    have zz3 := y3
                    have zz4 := y4
                    have zz5 := y5
                    have zz6 := y6
                    have HR1 := q0
                    have HR2 := q1
                    have HR4 := q2
                    have HR5 := q3
                    have HD := q4
                    have BB := BB1
                    have sA := sA1
                    clear BB1 sA1 d0 d1 d2 d3 d4 d5 d6 d7 d8 d9 d10 d11 d12 d13 y0 y1 y2 y3 y4 y5 y6 q0 q1 q2 q3 q4
                    clear bq
                    go_wp2_with fail
                    have HW : Hid (∀ p : After uw1, GrAt p.w (.slice xa2 p2 xc2) (.slice xb2 r2 xd2) X2N X2E) := fun p => HR2.out.keep p.bel
                    refine wp_region_after (by kernel_rfl) (by kernel_rfl) ?_
                    intro hneq hac
                    repeat (go_big_quiet_step (first
                      | (go_at_call 28; exact after_of ((wpAtB _ _ X2N X2E f0 f1 _ (HW.out _)).mono (fun _ _ h => ⟨by rw [h.1, HAT.out.2.1], h.2⟩)))))
                    refine wpQuiet_nil ?_
                    rintro _ ⟨p', rfl⟩
                    have bq : Below uw1.heap.size uw1 p'.w := p'.bel
                    clear hac hneq HW
                    generalize p'.w = uw2 at *
                    have d0 : uw2.cell? ⟨P0, 0, none⟩ = some (.slice ga n gc) := (Below.celz bq _ _ _ (by omega)).trans cc0
                    have d1 : uw2.cell? ⟨P0, 1, none⟩ = some (.slice gb m gd) := (Below.celz bq _ _ _ (by omega)).trans cc1
                    have d2 : uw2.cell? ⟨P1, 0, none⟩ = some (.slice ha n2 hc) := (Below.celz bq _ _ _ (by omega)).trans cc2
                    have d3 : uw2.cell? ⟨P1, 1, none⟩ = some (.slice hb m2 hd) := (Below.celz bq _ _ _ (by omega)).trans cc3
                    have d4 : uw2.cell? ⟨P2, 0, none⟩ = some (.slice xa1 p1 xc1) := (Below.celz bq _ _ _ (by omega)).trans cc4
                    have d5 : uw2.cell? ⟨P2, 1, none⟩ = some (.slice xb1 r1 xd1) := (Below.celz bq _ _ _ (by omega)).trans cc5
                    have d6 : uw2.cell? ⟨P3, 0, none⟩ = some (.slice xa2 p2 xc2) := (Below.celz bq _ _ _ (by omega)).trans cc6
                    have d7 : uw2.cell? ⟨P3, 1, none⟩ = some (.slice xb2 r2 xd2) := (Below.celz bq _ _ _ (by omega)).trans cc7
                    have d8 : uw2.cell? ⟨P4, 0, none⟩ = some (.slice (some ⟨b, off, none⟩) p4 xc4) := (Below.celz bq _ _ _ (by omega)).trans cc8
                    have d9 : uw2.cell? ⟨P4, 1, none⟩ = some (.slice xb4 r4 xd4) := (Below.celz bq _ _ _ (by omega)).trans cc9
                    have d10 : uw2.cell? ⟨P5, 0, none⟩ = some (.slice xa5 p5 xc5) := (Below.celz bq _ _ _ (by omega)).trans cc10
                    have d11 : uw2.cell? ⟨P5, 1, none⟩ = some (.slice xb5 r5 xd5) := (Below.celz bq _ _ _ (by omega)).trans cc11
                    have d12 : uw2.cell? ⟨b, off + k * 2, none⟩ = some (.int .i64 f0) := (Below.celz bq _ _ _ (by omega)).trans cc12
                    have d13 : uw2.cell? ⟨b, off + k * 2 + 1, none⟩ = some (.int .i64 f1) := (Below.celz bq _ _ _ (by omega)).trans cc13
                    have y0 : P0 < uw2.heap.size := by have := Below.size bq; omega
                    have y1 : P1 < uw2.heap.size := by have := Below.size bq; omega
                    have y2 : P2 < uw2.heap.size := by have := Below.size bq; omega
                    have y3 : P3 < uw2.heap.size := by have := Below.size bq; omega
                    have y4 : P4 < uw2.heap.size := by have := Below.size bq; omega
                    have y5 : P5 < uw2.heap.size := by have := Below.size bq; omega
                    have y6 : b < uw2.heap.size := by have := Below.size bq; omega
                    have BB1 : Below A wa uw2 := BB.trans (bq.mono (by omega))
                    have sA1 : A ≤ uw2.heap.size := by have := Below.size bq; omega
                    have q0 : Hid (GrAt uw2 (.slice xa1 p1 xc1) (.slice xb1 r1 xd1) X1N X1E) := HR1.out.keep bq
                    have q1 : Hid (GrAt uw2 (.slice xa2 p2 xc2) (.slice xb2 r2 xd2) X2N X2E) := HR2.out.keep bq
                    have q2 : Hid (GrAt uw2 (.slice (some ⟨b, off, none⟩) p4 xc4) (.slice xb4 r4 xd4) X4N X4E) := HR4.out.keep bq
                    have q3 : Hid (GrAt uw2 (.slice xa5 p5 xc5) (.slice xb5 r5 xd5) X5N X5E) := HR5.out.keep bq
                    have q4 : Hid (Ov w11 uw2) := HD.out.keep bq
                    clear BB sA cc0 cc1 cc2 cc3 cc4 cc5 cc6 cc7 cc8 cc9 cc10 cc11 cc12 cc13 zz0 zz1 zz2 zz3 zz4 zz5 zz6 HR1 HR2 HR4 HR5 HD
                    have cc0 := d0
                    have cc1 := d1
                    have cc2 := d2
                    have cc3 := d3
                    have cc4 := d4
                    have cc5 := d5
                    have cc6 := d6
                    have cc7 := d7
                    have cc8 := d8
                    have cc9 := d9
                    have cc10 := d10
                    have cc11 := d11
                    have cc12 := d12
                    have cc13 := d13
                    have zz0 := y0
                    have zz1 := y1
                    have zz2 := y2
                    have zz3 := y3
                    have zz4 := y4
                    have zz5 := y5
                    have zz6 := y6
                    have HR1 := q0
                    have HR2 := q1
                    have HR4 := q2
                    have HR5 := q3
                    have HD := q4
                    have BB := BB1
                    have sA := sA1
                    clear BB1 sA1 d0 d1 d2 d3 d4 d5 d6 d7 d8 d9 d10 d11 d12 d13 y0 y1 y2 y3 y4 y5 y6 q0 q1 q2 q3 q4
                    clear bq
                    go_wp2_with fail
                    have HW : Hid (∀ p : After uw2, GrAt p.w (.slice xa5 p5 xc5) (.slice xb5 r5 xd5) X5N X5E) := fun p => HR5.out.keep p.bel
                    refine wp_region_after (by kernel_rfl) (by kernel_rfl) ?_
                    intro hneq hac
                    repeat (go_big_quiet_step (first
                      | (go_at_call 28; exact after_of ((wpAtB _ _ X5N X5E f0 f1 _ (HW.out _)).mono (fun _ _ h => ⟨by rw [h.1, HAT.out.2.2], h.2⟩)))))
                    refine wpQuiet_nil ?_
                    rintro _ ⟨p', rfl⟩
                    have bq : Below uw2.heap.size uw2 p'.w := p'.bel
                    clear hac hneq HW
                    generalize p'.w = uw3 at *
                    have d0 : uw3.cell? ⟨P0, 0, none⟩ = some (.slice ga n gc) := (Below.celz bq _ _ _ (by omega)).trans cc0
                    have d1 : uw3.cell? ⟨P0, 1, none⟩ = some (.slice gb m gd) := (Below.celz bq _ _ _ (by omega)).trans cc1
                    have d2 : uw3.cell? ⟨P1, 0, none⟩ = some (.slice ha n2 hc) := (Below.celz bq _ _ _ (by omega)).trans cc2
                    have d3 : uw3.cell? ⟨P1, 1, none⟩ = some (.slice hb m2 hd) := (Below.celz bq _ _ _ (by omega)).trans cc3
                    have d4 : uw3.cell? ⟨P2, 0, none⟩ = some (.slice xa1 p1 xc1) := (Below.celz bq _ _ _ (by omega)).trans cc4
                    have d5 : uw3.cell? ⟨P2, 1, none⟩ = some (.slice xb1 r1 xd1) := (Below.celz bq _ _ _ (by omega)).trans cc5
                    have d6 : uw3.cell? ⟨P3, 0, none⟩ = some (.slice xa2 p2 xc2) := (Below.celz bq _ _ _ (by omega)).trans cc6
                    have d7 : uw3.cell? ⟨P3, 1, none⟩ = some (.slice xb2 r2 xd2) := (Below.celz bq _ _ _ (by omega)).trans cc7
                    have d8 : uw3.cell? ⟨P4, 0, none⟩ = some (.slice (some ⟨b, off, none⟩) p4 xc4) := (Below.celz bq _ _ _ (by omega)).trans cc8
                    have d9 : uw3.cell? ⟨P4, 1, none⟩ = some (.slice xb4 r4 xd4) := (Below.celz bq _ _ _ (by omega)).trans cc9
                    have d10 : uw3.cell? ⟨P5, 0, none⟩ = some (.slice xa5 p5 xc5) := (Below.celz bq _ _ _ (by omega)).trans cc10
                    have d11 : uw3.cell? ⟨P5, 1, none⟩ = some (.slice xb5 r5 xd5) := (Below.celz bq _ _ _ (by omega)).trans cc11
                    have d12 : uw3.cell? ⟨b, off + k * 2, none⟩ = some (.int .i64 f0) := (Below.celz bq _ _ _ (by omega)).trans cc12
                    have d13 : uw3.cell? ⟨b, off + k * 2 + 1, none⟩ = some (.int .i64 f1) := (Below.celz bq _ _ _ (by omega)).trans cc13
                    have y0 : P0 < uw3.heap.size := by have := Below.size bq; omega
                    have y1 : P1 < uw3.heap.size := by have := Below.size bq; omega
                    have y2 : P2 < uw3.heap.size := by have := Below.size bq; omega
                    have y3 : P3 < uw3.heap.size := by have := Below.size bq; omega
                    have y4 : P4 < uw3.heap.size := by have := Below.size bq; omega
                    have y5 : P5 < uw3.heap.size := by have := Below.size bq; omega
                    have y6 : b < uw3.heap.size := by have := Below.size bq; omega
                    have BB1 : Below A wa uw3 := BB.trans (bq.mono (by omega))
                    have sA1 : A ≤ uw3.heap.size := by have := Below.size bq; omega
                    have q0 : Hid (GrAt uw3 (.slice xa1 p1 xc1) (.slice xb1 r1 xd1) X1N X1E) := HR1.out.keep bq
                    have q1 : Hid (GrAt uw3 (.slice xa2 p2 xc2) (.slice xb2 r2 xd2) X2N X2E) := HR2.out.keep bq
                    have q2 : Hid (GrAt uw3 (.slice (some ⟨b, off, none⟩) p4 xc4) (.slice xb4 r4 xd4) X4N X4E) := HR4.out.keep bq
                    have q3 : Hid (GrAt uw3 (.slice xa5 p5 xc5) (.slice xb5 r5 xd5) X5N X5E) := HR5.out.keep bq
                    have q4 : Hid (Ov w11 uw3) := HD.out.keep bq
                    clear BB sA cc0 cc1 cc2 cc3 cc4 cc5 cc6 cc7 cc8 cc9 cc10 cc11 cc12 cc13 zz0 zz1 zz2 zz3 zz4 zz5 zz6 HR1 HR2 HR4 HR5 HD
                    have cc0 := d0
                    have cc1 := d1
                    have cc2 := d2
                    have cc3 := d3
                    have cc4 := d4
                    have cc5 := d5
                    have cc6 := d6
                    have cc7 := d7
                    have cc8 := d8
                    have cc9 := d9
                    have cc10 := d10
                    have cc11 := d11
                    have cc12 := d12
                    have cc13 := d13
                    have zz0 := y0
                    have zz1 := y1
                    have zz2 := y2
                    have zz3 := y3
                    have zz4 := y4
                    have zz5 := y5
                    have zz6 := y6
                    have HR1 := q0
                    have HR2 := q1
                    have HR4 := q2
                    have HR5 := q3
                    have HD := q4
                    have BB := BB1
                    have sA := sA1
                    clear BB1 sA1 d0 d1 d2 d3 d4 d5 d6 d7 d8 d9 d10 d11 d12 d13 y0 y1 y2 y3 y4 y5 y6 q0 q1 q2 q3 q4
                    clear bq
                    go_wp2_with fail
                    go_roundw
                    case rel => exact ⟨k + 1, by omega, by go_num, by rw [HS2.out]; first | rfl | go_num, HD.out.b⟩
                    case measure => simp [intOf]; omega
              · have hkp : p4 = k := by omega
                clear hlt
                subst hkp
                have hsum := union_nodes HOK.out.1 HOK.out.2.1 HOK.out.2.2
                have hedg := union_edges HOK.out.1 HOK.out.2.1 HOK.out.2.2
                rw [← HX4.out.1, ← HX5.out.1, ← HX1.out.1, ← HX2.out.1, ← HX5.out.2.2.1, ← HX1.out.2.2.1, ← HX2.out.2.2.1] at hsum
                rw [← HX4.out.2.1, ← HX5.out.2.1, ← HX1.out.2.1, ← HX2.out.2.1, ← HX4.out.2.2.2, ← HX5.out.2.2.2, ← HX1.out.2.2.2, ← HX2.out.2.2.2] at hedg
                have hq := HQ.out
                rw [HX4.out.2.2.1, List.take_length] at hq
                rw [← hq] at hsum
                clear hq
                have hN : (p1 : Int) + (p2 : Int) - (p5 : Int) = (q : Int) := by omega
                obtain ⟨z, hz⟩ : ∃ z : Int, (r1 : Int) + (r2 : Int) - (r5 : Int) = z := ⟨_, rfl⟩
                have hzl : z ≤ (r4 : Int) := by omega
                have hwr1 : IntKind.i64.wrap ((p1 : Int) + (p2 : Int)) = (p1 : Int) + (p2 : Int) := wrap_small _ (by omega) (by omega)
                have hwr2 : IntKind.i64.wrap (q : Int) = (q : Int) := wrap_small _ (by omega) (by omega)
                have hwr3 : IntKind.i64.wrap ((r1 : Int) + (r2 : Int)) = (r1 : Int) + (r2 : Int) := wrap_small _ (by omega) (by omega)
                have hwr4 : IntKind.i64.wrap z = z := wrap_small _ (by omega) (by omega)
                clear hsum hedg
                go_wp2_with fail
                go_ret
                exact ⟨rfl, (HV.out _ BB).2.2.1⟩

theorem door_met (os : Os) (args : Array Value) : laidMetH Tryd.prog Rows.fnGraphUnionRow.laid ((World.doorLaid Tryd.prog 85 os).forCall (fun _ _ => 0) ⟨#[], args, []⟩).memory :=
  laidMetH_of_parts3 (fuel := 8) (laidMet_of_run' 8 (by kernel_rfl) (by kernel_rfl)) (by kernel_rfl) (by kernel_rfl)

set_option maxRecDepth 100000 in
set_option maxHeartbeats 1000000 in
theorem lifted (os : Os) (started : os.Started) (H : Type) (enc : TypeId × Value → H) :
    ReturnsInHanded {} Tryd.checked os 7 .any (fun w args => (Rows.fnGraphUnionSpec.pre enc Tryd.prog Tryd.f7 [] false w args ∧ laidMetH Tryd.prog Rows.fnGraphUnionRow.laid w) ∧ sizedMet enc Tryd.prog Tryd.f7 (OpenSpec.ofChange Rows.fnGraphUnionSpec) false w args)
      (Rows.fnGraphUnionSpec.post enc Tryd.prog Tryd.f7 false true false false) := by
  refine returnsInHanded_of_change_and (C := Tryd.checked) (X := fun w _ => laidMetH Tryd.prog Rows.fnGraphUnionRow.laid w) (fun _ _ _ hh h => h.of_heap hh) own started (by kernel_rfl) Tryd.func7
    (ChangeSpec.witness_shaped (enc := enc) (C := Tryd.checked) (os := os) (X := fun w _ => laidMetH Tryd.prog Rows.fnGraphUnionRow.laid w) false (World.doorLaid Tryd.prog 85 os) #[.slice none 0 0, .slice none 0 0] 8 rfl (World.shaped_of_RefB (by kernel_rfl) (by kernel_rfl)) (by kernel_rfl) (by kernel_rfl) (by kernel_rfl) (door_met os _)) ?_
  intro W base args ds gs before hval0 hW _ _ hL _
  have hval : ∀ (j : Nat) t v, Tryd.f7.params[j]? = some t → args[j]? = some v → Value.okWide Tryd.prog W .any base t v := hval0
  have hW' := hW
  obtain ⟨p, q, hA0, hV0, rfl, hfz, hnd⟩ := hW
  have hA : DataW.TrodAll enc Tryd.prog W 0 (fun _ => true) true Tryd.f7.params.toList args.toList ds p := hA0
  have hV : DataW.TrodVars enc Tryd.prog W (fun _ => true) ["loop.example/hagioscope/impl.errForm", "loop.example/hagioscope/impl.errThere", "loop.example/hagioscope/impl.errFull", "loop.example/hagioscope/impl.errNone"] gs q := hV0
  rw [Tryd.params7] at hA hval
  obtain ⟨v0, vs0, d0, ds0, p0, q0, hargs, rfl, rfl, h0, r0⟩ := trodAll_cons hA
  obtain ⟨v1, vs1, d1, ds1, p1, q1, rfl, rfl, rfl, h1, r1⟩ := trodAll_cons r0
  obtain ⟨rfl, rfl, rfl⟩ := trodAll_nil r1
  obtain rfl : args = #[v0, v1] := by cases args; simp_all
  have kr0 := h0
  have lt0 : ∀ x ∈ p0, x.block < W.heap.size := by obtain ⟨m, hm⟩ := kr0; exact DataW.trod_lt m _ _ _ hm
  have kr1 := h1
  have lt1 : ∀ x ∈ p1, x.block < W.heap.size := by obtain ⟨m, hm⟩ := kr1; exact DataW.trod_lt m _ _ _ hm
  obtain ⟨a0, len0, cap0, rfl⟩ := okWide_slice Tryd.underlying22 (hval 0 22 v0 rfl rfl)
  obtain ⟨z0, w0⟩ : ∃ zs, IsRow .u8 W a0 len0 cap0 zs := by
    obtain ⟨fuel, hf⟩ := h0
    rcases open_ints Tryd.underlying22 Tryd.underlying5 (by kernel_rfl) hf with ⟨hcs, _⟩ | ⟨x, l, c, zs, hcs, _, hl, hm, hz, _, hcell, hwz⟩
    · simp [Value.cells] at hcs
      obtain ⟨rfl, rfl, rfl⟩ := hcs
      exact ⟨[], .inl ⟨rfl, rfl, rfl, rfl⟩⟩
    · simp [Value.cells] at hcs
      obtain ⟨rfl, rfl, rfl⟩ := hcs
      exact ⟨zs, .inr ⟨_, rfl, hl, hm, by simpa using hz, hcell, hwz⟩⟩
  obtain ⟨a1, len1, cap1, rfl⟩ := okWide_slice Tryd.underlying22 (hval 1 22 v1 rfl rfl)
  obtain ⟨z1, w1⟩ : ∃ zs, IsRow .u8 W a1 len1 cap1 zs := by
    obtain ⟨fuel, hf⟩ := h1
    rcases open_ints Tryd.underlying22 Tryd.underlying5 (by kernel_rfl) hf with ⟨hcs, _⟩ | ⟨x, l, c, zs, hcs, _, hl, hm, hz, _, hcell, hwz⟩
    · simp [Value.cells] at hcs
      obtain ⟨rfl, rfl, rfl⟩ := hcs
      exact ⟨[], .inl ⟨rfl, rfl, rfl, rfl⟩⟩
    · simp [Value.cells] at hcs
      obtain ⟨rfl, rfl, rfl⟩ := hcs
      exact ⟨zs, .inr ⟨_, rfl, hl, hm, by simpa using hz, hcell, hwz⟩⟩
  have hI := held_of hL
  have hE : Errs W := errs_of hI
  obtain ⟨g1, g2, g3, g4, rfl⟩ : ∃ g1 g2 g3 g4, gs = [g1, g2, g3, g4] := by
    have hlen := vars_len _ _ _ hV
    match gs, hlen with
    | [g1, g2, g3, g4], _ => exact ⟨g1, g2, g3, g4, rfl⟩
  clear hA0 hV0 hval0
  refine (walk a0 len0 cap0 z0 a1 len1 cap1 z1 W w0 w1 hE).mono fun e W' ⟨he, bel⟩ => ?_
  subst he
  exact ⟨_, rfl, _, _, _, [], _, _, hW', trodAll_mk1 (shut_bool Tryd.underlying4 _), (trodAll_cons_mk (Below.trod laidOut (by kernel_rfl) (of_decide_eq_true (by kernel_rfl)) kr0 bel lt0) (trodAll_cons_mk (Below.trod laidOut (by kernel_rfl) (of_decide_eq_true (by kernel_rfl)) kr1 bel lt1) trodAll_mk0)), vars_keep Tryd.underlying72 bel _ _ _ hV hI, bel.frame _, fun h => by cases h⟩

theorem said : Rows.FnGraphUnionSaid :=
  OpenClaim.holds_of_wide 7 Tryd.f7 rfl rfl rfl rfl rfl rfl rfl ⟨rfl, rfl, rfl, rfl, rfl⟩ rfl rfl rfl rfl rfl (by kernel_rfl) Tryd.func7 (by kernel_rfl)
    (of_decide_eq_true (by kernel_rfl)) (by unfold Func.isWrapper; first | (rw [if_pos (by decide +kernel)]; kernel_rfl) | (rw [if_neg (by decide +kernel)]; exact ⟨rfl, rfl⟩))
    (fun os started H enc _ => lifted os started H enc)

theorem plain (f : FuncId) (fn : Func) (hf : Tryd.pinned.checked.prog.funcNamed "loop.example/hagioscope/laws.FnGraphUnion" = some f) (hfn : Tryd.pinned.checked.prog.funcs[f]? = some fn) :
    false = Tryd.pinned.checked.prog.looks [] ∧ ∀ (j : Nat) t, fn.params[j]? = some t → Tryd.pinned.checked.prog.wantsStandIn t = false := by
  obtain rfl : f = 7 := Option.some.inj ((show Tryd.prog.funcNamed "loop.example/hagioscope/laws.FnGraphUnion" = some 7 by kernel_rfl).symm.trans hf) |>.symm
  obtain rfl : fn = Tryd.f7 := (Option.some.inj (Tryd.func7.symm.trans hfn)).symm
  refine ⟨by kernel_rfl, fun j t ht => ?_⟩
  rw [Tryd.params7] at ht
  obtain rfl : t = 22 := by simpa using Array.mem_of_getElem? ht
  · exact (show Tryd.prog.wantsStandIn 22 = false by kernel_rfl)

end Go.Proofs.YtcinjkpedigffaaDoor.fnGraphUnion
namespace Go.Proofs.YtcinjkpedigffaaDoor
theorem fnGraphUnion_card : Rows.FnGraphUnionCardSaid :=
  Claim7.holds_tied_plain_at .later [] _ _ _ _ fnGraphUnion.said (fun _ h => by cases h) (by kernel_rfl) (fun _ h => by cases h) fnGraphUnion_row_tie rfl ⟨rfl, rfl⟩ (by kernel_rfl) rfl fnGraphUnion.plain (by kernel_rfl)
#print axioms fnGraphUnion_card
end Go.Proofs.YtcinjkpedigffaaDoor
