/-
  SegOf of the program answers as SegOf of the model at every graph and every label, and writes into no argument.
-/
import Derived.Test.YtlnpbfeihjfnjabDoorCards
import Derived.Test.YtlnpbfeihjfnjabDoorTie
import Derived.Test.YtlnpbfeihjfnjabDoorSgi
import Derived.Test.YtlnpbfeihjfnjabDoorSst
import Derived.Test.YtlnpbfeihjfnjabDoorOpg
import Derived.Test.YtlnpbfeihjfnjabDoorErs
import Derived.WalkKit
import Derived.ProofKit
import Derived.OpenShut
import Derived.ShutString
import Derived.ChangeOld
import Derived.Below
import Derived.Carry
import Derived.Handy
import Derived.Deep.RegionHeld3
import Derived.LaidMore
import Derived.Deep.DeepCutAuto
namespace Go.Proofs.YtlnpbfeihjfnjabDoor.fnExactSegOf
open Go.Proofs.YtlnpbfeihjfnjabDoor.Lab
open Go.ChangeShapes Go.WideShapes Go.ChangeAt Go.RowKit
open Go.ChangeMaps (open_string shut_string)
set_option linter.unusedVariables false

theorem own : ownKnob Tryd.prog.godebug = none := by kernel_rfl
/-- A row of numbers that came in: nil, or so many cells. -/
def IsRow (k : IntKind) (w : World) (a : Option Addr) (len cap : Nat) (zs : List Int) : Prop :=
  (a = none ∧ len = 0 ∧ cap = 0 ∧ zs = []) ∨ ∃ x, a = some x ∧ len ≤ cap ∧ cap ≤ maxLen ∧ zs.length = cap ∧ (∀ i, i < zs.length → w.cell? (x.add i) = some (.int k (zs.getD i 0))) ∧ ∀ n ∈ zs, (Lit.int k n).wf = true

set_option maxRecDepth 16000 in
set_option maxHeartbeats 8000000 in
theorem walk (x0 y0 : Value) (ns0 : List (Int × Int)) (es0 : List (Int × Int × Int × Int × Int)) (a1 : Int) (w : World) (w0 : GraphIn w x0 y0 ns0 es0) (w1 : (Lit.int .i64 a1).wf = true) (hE : Errs w) :
    Calls Tryd.prog 3 #[.agg #[x0, y0], .int .i64 a1] w fun e w' => e = .returned (.bool true) ∧ Below w.heap.size w w' := by
  obtain ⟨r1, r2, m1, m2, _, _⟩ := w0
  obtain ⟨ga, gb, rfl⟩ := r1.len
  obtain ⟨gc, gd, rfl⟩ := r2.len
  simp only [maxLen, Nat.reducePow, Nat.reduceSub] at m1 m2
  have HRR : Hid (RowAt 2 encNode w (.slice ga ns0.length gb) ns0 ∧ RowAt 5 encEdge w (.slice gc es0.length gd) es0) := ⟨r1, r2⟩
  have HEE : Hid (Errs w) := hE
  clear r1 r2 hE
  obtain ⟨n, hn⟩ : ∃ t, t = ns0.length := ⟨_, rfl⟩
  obtain ⟨m, hm⟩ : ∃ t, t = es0.length := ⟨_, rfl⟩
  have HN : Hid (n = ns0.length ∧ m = es0.length) := ⟨hn, hm⟩
  rw [← hn] at m1 HRR ⊢
  rw [← hm] at m2 HRR ⊢
  clear hn hm
  obtain ⟨A, hA⟩ : ∃ t, t = w.heap.size := ⟨_, rfl⟩
  have HA : Hid (A = w.heap.size) := hA
  have BB : Below A w w := Below.refl _ _
  have sA : A ≤ w.heap.size := by omega
  clear hA
  have HK : Hid (∀ W, Below A w W → RowAt 2 encNode W (.slice ga n gb) ns0 ∧ RowAt 5 encEdge W (.slice gc m gd) es0 ∧ Errs W) := fun W h => by rw [HA.out] at h; exact ⟨HRR.out.1.keep h, HRR.out.2.keep h, HEE.out.keep h⟩
  go_enter Tryd.func3, Tryd.ntmps3
  go_wp2_with fail
  obtain ⟨P0, hP0⟩ : ∃ t, t = w.heap.size := ⟨_, rfl⟩
  generalize hW : w.alloc (.cells #[.slice ga n gb, .slice gc m gd] 25) = wa
  have nb : Below w.heap.size w wa := by rw [← hW]; exact (Below.refl _ _).alloc (Nat.le_refl _) _
  have k3 : wa.heap.size = P0 + 1 := by rw [← hW, hP0]; simp
  have kk0 : wa.cell? ⟨P0, 0, none⟩ = some (.slice ga n gb) := by rw [← hW, hP0]; simp [go_sem]
  have kk1 : wa.cell? ⟨P0, 1, none⟩ = some (.slice gc m gd) := by rw [← hW, hP0]; simp [go_sem]
  have oP0A : A ≤ P0 := by rw [hP0]; exact sA
  have BB1 : Below A w wa := BB.trans (nb.mono (by omega))
  have sA1 : A ≤ wa.heap.size := by have := Below.size nb; omega
  clear BB sA   
  have BB := BB1
  have sA := sA1
  clear BB1 sA1   
  have cc0 := kk0
  have cc1 := kk1
  have zz0 : P0 < wa.heap.size := by omega
  rw [← hP0]
  have k3P0 := k3
  clear k3 hW nb hP0 kk0 kk1
  refine (szGraph _ _ _ _ _ _ _ _ (by omega) (by omega) m1 m2).mono ?_
  rintro e wb ⟨rfl, bz⟩
  have d0 : wb.cell? ⟨P0, 0, none⟩ = some (.slice ga n gb) := (Below.celz bz _ _ _ (by omega)).trans cc0
  have d1 : wb.cell? ⟨P0, 1, none⟩ = some (.slice gc m gd) := (Below.celz bz _ _ _ (by omega)).trans cc1
  have y0 : P0 < wb.heap.size := by have := Below.size bz; omega
  have BB1 : Below A w wb := BB.trans (bz.mono (by omega))
  have sA1 : A ≤ wb.heap.size := by have := Below.size bz; omega
  clear BB sA cc0 cc1 zz0 
  have cc0 := d0
  have cc1 := d1
  have zz0 := y0
  have BB := BB1
  have sA := sA1
  clear BB1 sA1 d0 d1 y0 
  clear bz
  by_cases hz : ¬ ((n : Int) + m ≤ 1048576)
  · rw [if_neg hz]
    have hz0 : (-1 : Int) < 0 := by omega
    go_wp2_with fail
    go_ret
    exact ⟨rfl, by have := BB; rw [HA.out] at this; exact this⟩
  rw [if_pos (by omega)]
  have ln : n ≤ 1048576 := by omega
  have lm : m ≤ 1048576 := by omega
  have d0 : ¬ ((1048576 : Int) - n - m < 0) := by omega
  clear hz
  go_wp2_with fail
  obtain ⟨bs, hbs⟩ : ∃ t, t = segB a1 ns0 es0 := ⟨_, rfl⟩
  have HBS : Hid (bs = segB a1 ns0 es0) := hbs
  clear hbs
  obtain ⟨bt, hbt⟩ : ∃ t, t = wb.heap.size := ⟨_, rfl⟩
  refine (toGraph _ _ ns0 es0 _ (HK.out _ BB).1 (HK.out _ BB).2.1 (by rw [← HN.out.1]; exact ln) (by rw [← HN.out.2]; exact lm)).mono ?_
  rintro e wc ⟨t1, t2, rfl, og, bz⟩
  have d0 : wc.cell? ⟨P0, 0, none⟩ = some (.slice ga n gb) := (Below.celz bz _ _ _ (by omega)).trans cc0
  have d1 : wc.cell? ⟨P0, 1, none⟩ = some (.slice gc m gd) := (Below.celz bz _ _ _ (by omega)).trans cc1
  have y0 : P0 < wc.heap.size := by have := Below.size bz; omega
  have BB1 : Below A w wc := BB.trans (bz.mono (by omega))
  have sA1 : A ≤ wc.heap.size := by have := Below.size bz; omega
  clear BB sA cc0 cc1 zz0 
  have cc0 := d0
  have cc1 := d1
  have zz0 := y0
  have BB := BB1
  have sA := sA1
  clear BB1 sA1 d0 d1 y0 
  clear bz
  obtain ⟨ta, tc, rfl⟩ := own_form og.1
  obtain ⟨tb, td, rfl⟩ := own_form og.2.1
  rw [← HN.out.1, ← HN.out.2, ← hbt] at og
  rw [← HN.out.1, ← HN.out.2]
  clear hbt
  have HT : Hid (OwnGraph wc bt (.slice ta n tc) (.slice tb m td) ns0 es0) := og
  clear og
  go_wp2_with fail
  have CP := spec_SegOf _ _ a1 ns0 es0 _ HT.out.nodes HT.out.edges (by rw [← HN.out.1]; exact ln) (by rw [← HN.out.2]; exact lm)
  rw [← HBS.out] at CP
  refine (CP).mono ?_
  rintro e wd ⟨rfl, bz⟩
  have d0 : wd.cell? ⟨P0, 0, none⟩ = some (.slice ga n gb) := (Below.celz bz _ _ _ (by omega)).trans cc0
  have d1 : wd.cell? ⟨P0, 1, none⟩ = some (.slice gc m gd) := (Below.celz bz _ _ _ (by omega)).trans cc1
  have y0 : P0 < wd.heap.size := by have := Below.size bz; omega
  have BB1 : Below A w wd := BB.trans (bz.mono (by omega))
  have sA1 : A ≤ wd.heap.size := by have := Below.size bz; omega
  have q0 : Hid (OwnGraph wd bt (.slice ta n tc) (.slice tb m td) ns0 es0) := HT.out.keep bz
  clear BB sA cc0 cc1 zz0 HT
  have cc0 := d0
  have cc1 := d1
  have zz0 := y0
  have HT := q0
  have BB := BB1
  have sA := sA1
  clear BB1 sA1 d0 d1 y0 q0
  clear bz
  clear CP
  clear HT
  go_wp2_with fail
  obtain ⟨bx, hbx⟩ : ∃ t, t = wd.heap.size := ⟨_, rfl⟩
  refine (toGraph _ _ ns0 es0 _ (HK.out _ BB).1 (HK.out _ BB).2.1 (by rw [← HN.out.1]; exact ln) (by rw [← HN.out.2]; exact lm)).mono ?_
  rintro e we ⟨x1, x2, rfl, og, bz⟩
  have d0 : we.cell? ⟨P0, 0, none⟩ = some (.slice ga n gb) := (Below.celz bz _ _ _ (by omega)).trans cc0
  have d1 : we.cell? ⟨P0, 1, none⟩ = some (.slice gc m gd) := (Below.celz bz _ _ _ (by omega)).trans cc1
  have y0 : P0 < we.heap.size := by have := Below.size bz; omega
  have BB1 : Below A w we := BB.trans (bz.mono (by omega))
  have sA1 : A ≤ we.heap.size := by have := Below.size bz; omega
  clear BB sA cc0 cc1 zz0 
  have cc0 := d0
  have cc1 := d1
  have zz0 := y0
  have BB := BB1
  have sA := sA1
  clear BB1 sA1 d0 d1 y0 
  clear bz
  obtain ⟨xa, xc, rfl⟩ := own_form og.1
  obtain ⟨xb, xd, rfl⟩ := own_form og.2.1
  rw [← HN.out.1, ← HN.out.2, ← hbx] at og
  rw [← HN.out.1, ← HN.out.2]
  clear hbx
  have HX : Hid (OwnGraph we bx (.slice xa n xc) (.slice xb m xd) ns0 es0) := og
  clear og
  go_wp2_with fail
  obtain ⟨P1, hP1⟩ : ∃ t, t = we.heap.size := ⟨_, rfl⟩
  generalize hW : we.alloc (.cells #[.slice xa n xc, .slice xb m xd] 31) = wf
  have nb : Below we.heap.size we wf := by rw [← hW]; exact (Below.refl _ _).alloc (Nat.le_refl _) _
  have k3 : wf.heap.size = P1 + 1 := by rw [← hW, hP1]; simp
  have kk0 : wf.cell? ⟨P1, 0, none⟩ = some (.slice xa n xc) := by rw [← hW, hP1]; simp [go_sem]
  have kk1 : wf.cell? ⟨P1, 1, none⟩ = some (.slice xb m xd) := by rw [← hW, hP1]; simp [go_sem]
  have oP1A : A ≤ P1 := by rw [hP1]; exact sA
  have oP10 : P0 < P1 := by rw [hP1]; exact zz0
  have d0 : wf.cell? ⟨P0, 0, none⟩ = some (.slice ga n gb) := (Below.celz nb _ _ _ (by omega)).trans cc0
  have d1 : wf.cell? ⟨P0, 1, none⟩ = some (.slice gc m gd) := (Below.celz nb _ _ _ (by omega)).trans cc1
  have y0 : P0 < wf.heap.size := by have := Below.size nb; omega
  have BB1 : Below A w wf := BB.trans (nb.mono (by omega))
  have sA1 : A ≤ wf.heap.size := by have := Below.size nb; omega
  have q0 : Hid (OwnGraph wf bx (.slice xa n xc) (.slice xb m xd) ns0 es0) := HX.out.keep nb
  clear BB sA cc0 cc1 zz0 HX
  have cc0 := d0
  have cc1 := d1
  have zz0 := y0
  have HX := q0
  have BB := BB1
  have sA := sA1
  clear BB1 sA1 d0 d1 y0 q0
  have cc2 := kk0
  have cc3 := kk1
  have zz1 : P1 < wf.heap.size := by omega
  rw [← hP1]
  have k3P1 := k3
  clear k3 hW nb hP1 kk0 kk1
  have CP := impl_SegOf _ _ a1 ns0 es0 _ HX.out.nodes HX.out.edges (by rw [← HN.out.1]; exact ln) (by rw [← HN.out.2]; exact lm) (HK.out _ BB).2.2
  rw [← HBS.out] at CP
  refine (CP).mono ?_
  rintro e wg ⟨rfl, bz⟩
  have d0 : wg.cell? ⟨P0, 0, none⟩ = some (.slice ga n gb) := (Below.celz bz _ _ _ (by omega)).trans cc0
  have d1 : wg.cell? ⟨P0, 1, none⟩ = some (.slice gc m gd) := (Below.celz bz _ _ _ (by omega)).trans cc1
  have d2 : wg.cell? ⟨P1, 0, none⟩ = some (.slice xa n xc) := (Below.celz bz _ _ _ (by omega)).trans cc2
  have d3 : wg.cell? ⟨P1, 1, none⟩ = some (.slice xb m xd) := (Below.celz bz _ _ _ (by omega)).trans cc3
  have y0 : P0 < wg.heap.size := by have := Below.size bz; omega
  have y1 : P1 < wg.heap.size := by have := Below.size bz; omega
  have BB1 : Below A w wg := BB.trans (bz.mono (by omega))
  have sA1 : A ≤ wg.heap.size := by have := Below.size bz; omega
  have q0 : Hid (OwnGraph wg bx (.slice xa n xc) (.slice xb m xd) ns0 es0) := HX.out.keep bz
  clear BB sA cc0 cc1 cc2 cc3 zz0 zz1 HX
  have cc0 := d0
  have cc1 := d1
  have cc2 := d2
  have cc3 := d3
  have zz0 := y0
  have zz1 := y1
  have HX := q0
  have BB := BB1
  have sA := sA1
  clear BB1 sA1 d0 d1 d2 d3 y0 y1 q0
  clear bz
  clear CP
  go_wp2_with fail
  have HT1 : Hid (∀ W, Below wg.heap.size wg W → Calls Tryd.prog 6 #[.agg #[.slice ga n gb, .slice gc m gd]] W fun e w' => ∃ u1 u2, e = .returned (.agg #[u1, u2]) ∧ OwnGraph w' W.heap.size u1 u2 ns0 es0 ∧ Below W.heap.size W w') := fun W h => toGraph _ _ ns0 es0 W (HK.out _ (BB.trans (h.mono sA))).1 (HK.out _ (BB.trans (h.mono sA))).2.1 (by rw [← HN.out.1]; exact ln) (by rw [← HN.out.2]; exact lm)
  have HE1 : Hid (∀ W u1 u2 B, Below wg.heap.size wg W → OwnGraph W B u1 u2 ns0 es0 → Calls Tryd.prog 8 #[.agg #[.slice xa n xc, .slice xb m xd], .agg #[u1, u2]] W fun e w' => e = .returned (.bool true) ∧ Below W.heap.size W w') := fun W u1 u2 B h hu => by
    have C := eqGraph _ _ _ _ ns0 ns0 es0 es0 W (HX.out.keep h).nodes (HX.out.keep h).edges hu.nodes hu.edges (by rw [← HN.out.1]; exact ln) (by rw [← HN.out.2]; exact lm) (by rw [← HN.out.1]; exact ln) (by rw [← HN.out.2]; exact lm)
    rw [eqB_true.2 rfl, eqB_true.2 rfl] at C
    exact C
  have hS : Hid (∀ w', Below wg.heap.size wg w' → Below wg.heap.size wg w' ∧ w'.cell? ⟨P0, 0, none⟩ = some (.slice ga n gb) ∧ w'.cell? ⟨P0, 1, none⟩ = some (.slice gc m gd) ∧ w'.cell? ⟨P1, 0, none⟩ = some (.slice xa n xc) ∧ w'.cell? ⟨P1, 1, none⟩ = some (.slice xb m xd)) := fun w' hn => ⟨hn, (Below.celz hn _ _ _ zz0).trans cc0, (Below.celz hn _ _ _ zz0).trans cc1, (Below.celz hn _ _ _ zz1).trans cc2, (Below.celz hn _ _ _ zz1).trans cc3⟩
  go_region_held3 (fun w' => Below wg.heap.size wg w' ∧ w'.cell? ⟨P0, 0, none⟩ = some (.slice ga n gb) ∧ w'.cell? ⟨P0, 1, none⟩ = some (.slice gc m gd) ∧ w'.cell? ⟨P1, 0, none⟩ = some (.slice xa n xc) ∧ w'.cell? ⟨P1, 1, none⟩ = some (.slice xb m xd))
    (first | with_reducible exact hS.out _ (Below.refl _ _).drew | (with_reducible exact hS.out _ (keep_below (And.left (by assumption)) j2)) | (with_reducible exact hS.out _ (keep_below (And.left (by assumption)) j1)))
    (first | (go_at_call 6; refine (HT1.out _ (And.left (by assumption))).mono ?_; rintro e wh ⟨u1, u2, rfl, og, j1⟩) | (go_at_call 8; refine (HE1.out _ _ _ _ (And.left (by assumption)) og).mono ?_; rintro e wi ⟨rfl, j2⟩))
  have lb : Below wg.heap.size wg wi := And.left (show Below wg.heap.size wg wi ∧ wi.cell? ⟨P0, 0, none⟩ = some (.slice ga n gb) ∧ wi.cell? ⟨P0, 1, none⟩ = some (.slice gc m gd) ∧ wi.cell? ⟨P1, 0, none⟩ = some (.slice xa n xc) ∧ wi.cell? ⟨P1, 1, none⟩ = some (.slice xb m xd) by assumption)
  clear hS
  have d0 : wi.cell? ⟨P0, 0, none⟩ = some (.slice ga n gb) := (Below.celz lb _ _ _ (by omega)).trans cc0
  have d1 : wi.cell? ⟨P0, 1, none⟩ = some (.slice gc m gd) := (Below.celz lb _ _ _ (by omega)).trans cc1
  have d2 : wi.cell? ⟨P1, 0, none⟩ = some (.slice xa n xc) := (Below.celz lb _ _ _ (by omega)).trans cc2
  have d3 : wi.cell? ⟨P1, 1, none⟩ = some (.slice xb m xd) := (Below.celz lb _ _ _ (by omega)).trans cc3
  have y0 : P0 < wi.heap.size := by have := Below.size lb; omega
  have y1 : P1 < wi.heap.size := by have := Below.size lb; omega
  have BB1 : Below A w wi := BB.trans (lb.mono (by omega))
  have sA1 : A ≤ wi.heap.size := by have := Below.size lb; omega
  have q0 : Hid (OwnGraph wi bx (.slice xa n xc) (.slice xb m xd) ns0 es0) := HX.out.keep lb
  clear BB sA cc0 cc1 cc2 cc3 zz0 zz1 HX
  have cc0 := d0
  have cc1 := d1
  have cc2 := d2
  have cc3 := d3
  have zz0 := y0
  have zz1 := y1
  have HX := q0
  have BB := BB1
  have sA := sA1
  clear BB1 sA1 d0 d1 d2 d3 y0 y1 q0
  clear lb
  go_wp2_with fail
  go_ret
  exact ⟨rfl, by have := BB; rw [HA.out] at this; exact this⟩

theorem door_met (os : Os) (args : Array Value) : laidMetH Tryd.prog Rows.fnExactSegOfRow.laid ((World.doorLaid Tryd.prog 85 os).forCall (fun _ _ => 0) ⟨#[], args, []⟩).memory :=
  laidMetH_of_parts3 (fuel := 8) (laidMet_of_run' 8 (by kernel_rfl) (by kernel_rfl)) (by kernel_rfl) (by kernel_rfl)

set_option maxRecDepth 100000 in
set_option maxHeartbeats 1000000 in
theorem lifted (os : Os) (started : os.Started) (H : Type) (enc : TypeId × Value → H) :
    ReturnsInHanded {} Tryd.checked os 3 .any (fun w args => (Rows.fnExactSegOfSpec.pre enc Tryd.prog Tryd.f3 [] false w args ∧ laidMetH Tryd.prog Rows.fnExactSegOfRow.laid w) ∧ sizedMet enc Tryd.prog Tryd.f3 (OpenSpec.ofChange Rows.fnExactSegOfSpec) false w args)
      (Rows.fnExactSegOfSpec.post enc Tryd.prog Tryd.f3 false true false false) := by
  refine returnsInHanded_of_change_and (C := Tryd.checked) (X := fun w _ => laidMetH Tryd.prog Rows.fnExactSegOfRow.laid w) (fun _ _ _ hh h => h.of_heap hh) own started (by kernel_rfl) Tryd.func3
    (ChangeSpec.witness_shaped (enc := enc) (C := Tryd.checked) (os := os) (X := fun w _ => laidMetH Tryd.prog Rows.fnExactSegOfRow.laid w) false (World.doorLaid Tryd.prog 85 os) #[.agg #[.slice none 0 0, .slice none 0 0], .int .i64 0] 8 rfl (World.shaped_of_RefB (by kernel_rfl) (by kernel_rfl)) (by kernel_rfl) (by kernel_rfl) (by kernel_rfl) (door_met os _)) ?_
  intro W base args ds gs before hval0 hW _ _ hL _
  have hval : ∀ (j : Nat) t v, Tryd.f3.params[j]? = some t → args[j]? = some v → Value.okWide Tryd.prog W .any base t v := hval0
  have hW' := hW
  obtain ⟨p, q, hA0, hV0, rfl, hfz, hnd⟩ := hW
  have hA : DataW.TrodAll enc Tryd.prog W 0 (fun _ => true) true Tryd.f3.params.toList args.toList ds p := hA0
  have hV : DataW.TrodVars enc Tryd.prog W (fun _ => true) ["loop.example/hagioscope/impl.errForm", "loop.example/hagioscope/impl.errThere", "loop.example/hagioscope/impl.errFull", "loop.example/hagioscope/impl.errNone"] gs q := hV0
  rw [Tryd.params3] at hA hval
  obtain ⟨v0, vs0, d0, ds0, p0, q0, hargs, rfl, rfl, h0, r0⟩ := trodAll_cons hA
  obtain ⟨v1, vs1, d1, ds1, p1, q1, rfl, rfl, rfl, h1, r1⟩ := trodAll_cons r0
  obtain ⟨rfl, rfl, rfl⟩ := trodAll_nil r1
  obtain rfl : args = #[v0, v1] := by cases args; simp_all
  have kr0 := h0
  have lt0 : ∀ x ∈ p0, x.block < W.heap.size := by obtain ⟨m, hm⟩ := kr0; exact DataW.trod_lt m _ _ _ hm
  have kr1 := h1
  have lt1 : ∀ x ∈ p1, x.block < W.heap.size := by obtain ⟨m, hm⟩ := kr1; exact DataW.trod_lt m _ _ _ hm
  obtain ⟨x0, y0, ns0, es0, rfl, w0⟩ := open_graph (hval 0 25 v0 rfl rfl) h0
  obtain ⟨a1, rfl, rfl, rfl, w1⟩ := open_int Tryd.underlying3 (hval 1 3 v1 rfl rfl) h1
  have hI := held_of hL
  have hE : Errs W := errs_of hI
  obtain ⟨g1, g2, g3, g4, rfl⟩ : ∃ g1 g2 g3 g4, gs = [g1, g2, g3, g4] := by
    have hlen := vars_len _ _ _ hV
    match gs, hlen with
    | [g1, g2, g3, g4], _ => exact ⟨g1, g2, g3, g4, rfl⟩
  clear hA0 hV0 hval0
  refine (walk x0 y0 ns0 es0 a1 W w0 w1 hE).mono fun e W' ⟨he, bel⟩ => ?_
  subst he
  exact ⟨_, rfl, _, _, _, [], _, _, hW', trodAll_mk1 (shut_bool Tryd.underlying4 _), (trodAll_cons_mk (Below.trod laidOut (by kernel_rfl) (of_decide_eq_true (by kernel_rfl)) kr0 bel lt0) (trodAll_cons_mk (Below.trod laidOut (by kernel_rfl) (of_decide_eq_true (by kernel_rfl)) kr1 bel lt1) trodAll_mk0)), vars_keep Tryd.underlying50 bel _ _ _ hV hI, bel.frame _, fun h => by cases h⟩

theorem said : Rows.FnExactSegOfSaid :=
  OpenClaim.holds_of_wide 3 Tryd.f3 rfl rfl rfl rfl rfl rfl rfl ⟨rfl, rfl, rfl, rfl, rfl⟩ rfl rfl rfl rfl rfl (by kernel_rfl) Tryd.func3 (by kernel_rfl)
    (of_decide_eq_true (by kernel_rfl)) (by unfold Func.isWrapper; first | (rw [if_pos (by decide +kernel)]; kernel_rfl) | (rw [if_neg (by decide +kernel)]; exact ⟨rfl, rfl⟩))
    (fun os started H enc _ => lifted os started H enc)

theorem plain (f : FuncId) (fn : Func) (hf : Tryd.pinned.checked.prog.funcNamed "loop.example/hagioscope/laws.FnExactSegOf" = some f) (hfn : Tryd.pinned.checked.prog.funcs[f]? = some fn) :
    false = Tryd.pinned.checked.prog.looks [] ∧ ∀ (j : Nat) t, fn.params[j]? = some t → Tryd.pinned.checked.prog.wantsStandIn t = false := by
  obtain rfl : f = 3 := Option.some.inj ((show Tryd.prog.funcNamed "loop.example/hagioscope/laws.FnExactSegOf" = some 3 by kernel_rfl).symm.trans hf) |>.symm
  obtain rfl : fn = Tryd.f3 := (Option.some.inj (Tryd.func3.symm.trans hfn)).symm
  refine ⟨by kernel_rfl, fun j t ht => ?_⟩
  rw [Tryd.params3] at ht
  obtain rfl | rfl : t = 25 ∨ t = 3 := by simpa using Array.mem_of_getElem? ht
  · exact (show Tryd.prog.wantsStandIn 25 = false by kernel_rfl)
  · exact (show Tryd.prog.wantsStandIn 3 = false by kernel_rfl)

end Go.Proofs.YtlnpbfeihjfnjabDoor.fnExactSegOf
namespace Go.Proofs.YtlnpbfeihjfnjabDoor
theorem fnExactSegOf_card : Rows.FnExactSegOfCardSaid :=
  Claim7.holds_tied_plain_at .later [] _ _ _ _ fnExactSegOf.said (fun _ h => by cases h) (by kernel_rfl) (fun _ h => by cases h) fnExactSegOf_row_tie rfl ⟨rfl, rfl⟩ (by kernel_rfl) rfl fnExactSegOf.plain (by kernel_rfl)
#print axioms fnExactSegOf_card
end Go.Proofs.YtlnpbfeihjfnjabDoor
