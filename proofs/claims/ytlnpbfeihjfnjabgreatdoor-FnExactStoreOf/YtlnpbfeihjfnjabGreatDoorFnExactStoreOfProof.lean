/-
  x
-/
import Derived.Test.YtlnpbfeihjfnjabGreatDoorCards
import Derived.Test.YtlnpbfeihjfnjabGreatDoorTie
import Derived.Test.YtlnpbfeihjfnjabGreatDoorStf
import Derived.Test.YtlnpbfeihjfnjabGreatDoorOsg
import Derived.Test.YtlnpbfeihjfnjabGreatDoorErs
import Derived.Test.YtlnpbfeihjfnjabGreatDoorOpg
import Derived.Test.YtlnpbfeihjfnjabGreatDoorOpen
import Derived.WalkKit
import Derived.ProofKit
import Derived.OpenShut
import Derived.ShutString
import Derived.ChangeOld
import Derived.Below
import Derived.Carry
import Derived.Handy
import Derived.Deep.RegionHeld3
import Derived.LaidMore
import Derived.Deep.DeepCutAuto
namespace Go.Proofs.YtlnpbfeihjfnjabGreatDoor.fnExactStoreOf
open Go.Proofs.YtlnpbfeihjfnjabGreatDoor.Lab
open Go.ChangeShapes Go.WideShapes Go.ChangeAt Go.RowKit
open Go.ChangeMaps (open_string shut_string)
set_option linter.unusedVariables false

theorem own : ownKnob Tryz.prog.godebug = none := by kernel_rfl
/-- A row of numbers that came in: nil, or so many cells. -/
def IsRow (k : IntKind) (w : World) (a : Option Addr) (len cap : Nat) (zs : List Int) : Prop :=
  (a = none ∧ len = 0 ∧ cap = 0 ∧ zs = []) ∨ ∃ x, a = some x ∧ len ≤ cap ∧ cap ≤ maxLen ∧ zs.length = cap ∧ (∀ i, i < zs.length → w.cell? (x.add i) = some (.int k (zs.getD i 0))) ∧ ∀ n ∈ zs, (Lit.int k n).wf = true

set_option maxRecDepth 16000 in
set_option maxHeartbeats 8000000 in
theorem walk (x0 y0 : Value) (ns0 : List (Int × Int)) (es0 : List (Int × Int × Int × Int × Int)) (w : World) (w0 : GraphIn w x0 y0 ns0 es0) (hE : Errs w) :
    Calls Tryz.prog 3 #[.agg #[x0, y0]] w fun e w' => e = .returned (.bool true) ∧ Below w.heap.size w w' := by
  obtain ⟨r1, r2, m1, m2, _, _⟩ := w0
  obtain ⟨ga, gb, rfl⟩ := r1.len
  obtain ⟨gc, gd, rfl⟩ := r2.len
  simp only [maxLen, Nat.reducePow, Nat.reduceSub] at m1 m2
  have HRR : Hid (RowAt 2 encNode w (.slice ga ns0.length gb) ns0 ∧ RowAt 5 encEdge w (.slice gc es0.length gd) es0) := ⟨r1, r2⟩
  have HEE : Hid (Errs w) := hE
  clear r1 r2 hE
  obtain ⟨n, hn⟩ : ∃ t, t = ns0.length := ⟨_, rfl⟩
  obtain ⟨m, hm⟩ : ∃ t, t = es0.length := ⟨_, rfl⟩
  have HN : Hid (n = ns0.length ∧ m = es0.length) := ⟨hn, hm⟩
  rw [← hn] at m1 HRR ⊢
  rw [← hm] at m2 HRR ⊢
  clear hn hm
  obtain ⟨A, hA⟩ : ∃ t, t = w.heap.size := ⟨_, rfl⟩
  have HA : Hid (A = w.heap.size) := hA
  have BB : Below A w w := Below.refl _ _
  have sA : A ≤ w.heap.size := by omega
  clear hA
  have HK : Hid (∀ W, Below A w W → RowAt 2 encNode W (.slice ga n gb) ns0 ∧ RowAt 5 encEdge W (.slice gc m gd) es0 ∧ Errs W) := fun W h => by rw [HA.out] at h; exact ⟨HRR.out.1.keep h, HRR.out.2.keep h, HEE.out.keep h⟩
  go_enter Tryz.func3, Tryz.ntmps3
  go_wp2_with fail
  obtain ⟨P0, hP0⟩ : ∃ t, t = w.heap.size := ⟨_, rfl⟩
  generalize hW : w.alloc (.cells #[.slice ga n gb, .slice gc m gd] 25) = wa
  have nb : Below w.heap.size w wa := by rw [← hW]; exact (Below.refl _ _).alloc (Nat.le_refl _) _
  have k3 : wa.heap.size = P0 + 1 := by rw [← hW, hP0]; simp
  have kk0 : wa.cell? ⟨P0, 0, none⟩ = some (.slice ga n gb) := by rw [← hW, hP0]; simp [go_sem]
  have kk1 : wa.cell? ⟨P0, 1, none⟩ = some (.slice gc m gd) := by rw [← hW, hP0]; simp [go_sem]
  have oP0A : A ≤ P0 := by rw [hP0]; exact sA
  have BB1 : Below A w wa := BB.trans (nb.mono (by omega))
  have sA1 : A ≤ wa.heap.size := by have := Below.size nb; omega
  clear BB sA   
  have BB := BB1
  have sA := sA1
  clear BB1 sA1   
  have cc0 := kk0
  have cc1 := kk1
  have zz0 : P0 < wa.heap.size := by omega
  rw [← hP0]
  have k3P0 := k3
  clear k3 hW nb hP0 kk0 kk1
  refine (szGraph _ _ _ _ _ _ _ _ (by omega) (by omega) m1 m2).mono ?_
  rintro e wb ⟨rfl, bz⟩
  have d0 : wb.cell? ⟨P0, 0, none⟩ = some (.slice ga n gb) := (Below.celz bz _ _ _ (by omega)).trans cc0
  have d1 : wb.cell? ⟨P0, 1, none⟩ = some (.slice gc m gd) := (Below.celz bz _ _ _ (by omega)).trans cc1
  have y0 : P0 < wb.heap.size := by have := Below.size bz; omega
  have BB1 : Below A w wb := BB.trans (bz.mono (by omega))
  have sA1 : A ≤ wb.heap.size := by have := Below.size bz; omega
  clear BB sA cc0 cc1 zz0 
  have cc0 := d0
  have cc1 := d1
  have zz0 := y0
  have BB := BB1
  have sA := sA1
  clear BB1 sA1 d0 d1 y0 
  clear bz
  by_cases hz : ¬ ((n : Int) + m ≤ 1048576)
  · rw [if_neg hz]
    have hz0 : (-1 : Int) < 0 := by omega
    go_wp2_with fail
    go_ret
    exact ⟨rfl, (by have := BB; rw [HA.out] at this; exact this)⟩
  rw [if_pos (by omega)]
  have ln : n ≤ 1048576 := by omega
  have lm : m ≤ 1048576 := by omega
  have d0 : ¬ ((1048576 : Int) - n - m < 0) := by omega
  clear hz
  go_wp2_with fail
  obtain ⟨L, HL0, HSP, HIM⟩ : ∃ L : List (Int × List UInt8), L.length ≤ 8
    ∧ Hid (∀ (W : World) (v1 v2 : Value), RowAt 2 encNode W v1 ns0 → RowAt 5 encEdge W v2 es0 → Calls Tryz.prog 6 #[.agg #[v1, v2]] W fun e w' => ∃ u, e = .returned u ∧ OwnSeg w' W.heap.size u L ∧ Below W.heap.size W w')
    ∧ Hid (∀ (W : World) (v1 v2 : Value), RowAt 2 encNode W v1 ns0 → RowAt 5 encEdge W v2 es0 → Errs W → Calls Tryz.prog 8 #[.agg #[v1, v2]] W fun e w' => ∃ u, e = .returned u ∧ OwnSeg w' W.heap.size u L ∧ Below W.heap.size W w') :=
    ⟨storeL ns0 es0, storeK_le ns0 es0 8, fun W v1 v2 h1 h2 => spec_StoreOf v1 v2 ns0 es0 W h1 h2 (by rw [← HN.out.1]; exact ln) (by rw [← HN.out.2]; exact lm), fun W v1 v2 h1 h2 h3 => impl_StoreOf v1 v2 ns0 es0 W h1 h2 (by rw [← HN.out.1]; exact ln) (by rw [← HN.out.2]; exact lm) h3⟩
  obtain ⟨p, hp⟩ : ∃ t, t = L.length := ⟨_, rfl⟩
  have HP : Hid (L.length = p) := hp.symm
  rw [← hp] at HL0
  clear hp
  obtain ⟨bt, hbt⟩ : ∃ t, t = wb.heap.size := ⟨_, rfl⟩
  have lt0 : P0 < bt := by rw [hbt]; exact zz0
  have ltA : A ≤ bt := by rw [hbt]; exact sA
  obtain ⟨btp, hbtp⟩ : ∃ t, wb.heap.size = t + 1 := ⟨wb.heap.size - 1, by omega⟩
  have et1 : bt ≤ btp + 1 := by omega
  have et2 : btp + 1 ≤ bt := by omega
  have et3 : wb.heap.size ≤ bt := by omega
  have zz1 : btp < wb.heap.size := by omega
  clear hbtp
  refine (toGraph _ _ ns0 es0 _ (HK.out _ BB).1 (HK.out _ BB).2.1 (by rw [← HN.out.1]; exact ln) (by rw [← HN.out.2]; exact lm)).mono ?_
  rintro e wc ⟨t1, t2, rfl, og, bz⟩
  have d0 : wc.cell? ⟨P0, 0, none⟩ = some (.slice ga n gb) := (Below.celz bz _ _ _ (by omega)).trans cc0
  have d1 : wc.cell? ⟨P0, 1, none⟩ = some (.slice gc m gd) := (Below.celz bz _ _ _ (by omega)).trans cc1
  have y0 : P0 < wc.heap.size := by have := Below.size bz; omega
  have y1 : btp < wc.heap.size := by have := Below.size bz; omega
  have BB1 : Below A w wc := BB.trans (bz.mono (by omega))
  have sA1 : A ≤ wc.heap.size := by have := Below.size bz; omega
  clear BB sA cc0 cc1 zz0 zz1 
  have cc0 := d0
  have cc1 := d1
  have zz0 := y0
  have zz1 := y1
  have BB := BB1
  have sA := sA1
  clear BB1 sA1 d0 d1 y0 y1 
  clear bz
  obtain ⟨ta, tc, rfl⟩ := own_form og.1
  obtain ⟨tb, td, rfl⟩ := own_form og.2.1
  rw [← HN.out.1, ← HN.out.2, ← hbt] at og
  rw [← HN.out.1, ← HN.out.2]
  clear hbt
  have Bt : Hid (∀ k, ((.slice ta n tc : Value).ownBlock = some k ∨ (.slice tb m td : Value).ownBlock = some k) → bt ≤ k ∧ k < wc.heap.size) := fun k hk => hk.elim (og.1.lt k) (og.2.1.lt k)
  have HT : Hid (OwnGraph wc bt (.slice ta n tc) (.slice tb m td) ns0 es0) := og
  clear og
  go_wp2_with fail
  obtain ⟨br, hbr⟩ : ∃ t, t = wc.heap.size := ⟨_, rfl⟩
  have lr0 : P0 < br := by rw [hbr]; exact zz0
  have lr1 : btp < br := by rw [hbr]; exact zz1
  have lrA : A ≤ br := by rw [hbr]; exact sA
  obtain ⟨brp, hbrp⟩ : ∃ t, wc.heap.size = t + 1 := ⟨wc.heap.size - 1, by omega⟩
  have er1 : br ≤ brp + 1 := by omega
  have er2 : brp + 1 ≤ br := by omega
  have er3 : wc.heap.size ≤ br := by omega
  have zz2 : brp < wc.heap.size := by omega
  clear hbrp
  refine (HSP.out _ _ _ HT.out.nodes HT.out.edges).mono ?_
  rintro e wd ⟨r1, rfl, og, bz⟩
  have d0 : wd.cell? ⟨P0, 0, none⟩ = some (.slice ga n gb) := (Below.celz bz _ _ _ (by omega)).trans cc0
  have d1 : wd.cell? ⟨P0, 1, none⟩ = some (.slice gc m gd) := (Below.celz bz _ _ _ (by omega)).trans cc1
  have y0 : P0 < wd.heap.size := by have := Below.size bz; omega
  have y1 : btp < wd.heap.size := by have := Below.size bz; omega
  have y2 : brp < wd.heap.size := by have := Below.size bz; omega
  have BB1 : Below A w wd := BB.trans (bz.mono (by omega))
  have sA1 : A ≤ wd.heap.size := by have := Below.size bz; omega
  have q0 : Hid (OwnGraph wd bt (.slice ta n tc) (.slice tb m td) ns0 es0) := HT.out.keep bz
  clear BB sA cc0 cc1 zz0 zz1 zz2 HT
  have cc0 := d0
  have cc1 := d1
  have zz0 := y0
  have zz1 := y1
  have zz2 := y2
  have HT := q0
  have BB := BB1
  have sA := sA1
  clear BB1 sA1 d0 d1 y0 y1 y2 q0
  clear bz
  obtain ⟨ra, rc, rfl⟩ := own_form og
  rw [← hbr] at og
  rw [HP.out] at og ⊢
  clear hbr
  have Br : Hid (∀ k, (.slice ra p rc : Value).ownBlock = some k → br ≤ k ∧ k < wd.heap.size) := fun k hk => og.lt k hk
  have HY : Hid (OwnSeg wd br (.slice ra p rc) L) := og
  clear og
  clear HT
  clear Bt
  go_wp2_with fail
  obtain ⟨bx, hbx⟩ : ∃ t, t = wd.heap.size := ⟨_, rfl⟩
  have lx0 : P0 < bx := by rw [hbx]; exact zz0
  have lx1 : btp < bx := by rw [hbx]; exact zz1
  have lx2 : brp < bx := by rw [hbx]; exact zz2
  have lxA : A ≤ bx := by rw [hbx]; exact sA
  obtain ⟨bxp, hbxp⟩ : ∃ t, wd.heap.size = t + 1 := ⟨wd.heap.size - 1, by omega⟩
  have ex1 : bx ≤ bxp + 1 := by omega
  have ex2 : bxp + 1 ≤ bx := by omega
  have ex3 : wd.heap.size ≤ bx := by omega
  have zz3 : bxp < wd.heap.size := by omega
  clear hbxp
  refine (toGraph _ _ ns0 es0 _ (HK.out _ BB).1 (HK.out _ BB).2.1 (by rw [← HN.out.1]; exact ln) (by rw [← HN.out.2]; exact lm)).mono ?_
  rintro e we ⟨x1, x2, rfl, og, bz⟩
  have d0 : we.cell? ⟨P0, 0, none⟩ = some (.slice ga n gb) := (Below.celz bz _ _ _ (by omega)).trans cc0
  have d1 : we.cell? ⟨P0, 1, none⟩ = some (.slice gc m gd) := (Below.celz bz _ _ _ (by omega)).trans cc1
  have y0 : P0 < we.heap.size := by have := Below.size bz; omega
  have y1 : btp < we.heap.size := by have := Below.size bz; omega
  have y2 : brp < we.heap.size := by have := Below.size bz; omega
  have y3 : bxp < we.heap.size := by have := Below.size bz; omega
  have BB1 : Below A w we := BB.trans (bz.mono (by omega))
  have sA1 : A ≤ we.heap.size := by have := Below.size bz; omega
  have q0 : Hid (OwnSeg we br (.slice ra p rc) L) := HY.out.keep bz
  clear BB sA cc0 cc1 zz0 zz1 zz2 zz3 HY
  have cc0 := d0
  have cc1 := d1
  have zz0 := y0
  have zz1 := y1
  have zz2 := y2
  have zz3 := y3
  have HY := q0
  have BB := BB1
  have sA := sA1
  clear BB1 sA1 d0 d1 y0 y1 y2 y3 q0
  clear bz
  obtain ⟨xa, xc, rfl⟩ := own_form og.1
  obtain ⟨xb, xd, rfl⟩ := own_form og.2.1
  rw [← HN.out.1, ← HN.out.2, ← hbx] at og
  rw [← HN.out.1, ← HN.out.2]
  clear hbx
  have Bx : Hid (∀ k, ((.slice xa n xc : Value).ownBlock = some k ∨ (.slice xb m xd : Value).ownBlock = some k) → bx ≤ k ∧ k < we.heap.size) := fun k hk => hk.elim (og.1.lt k) (og.2.1.lt k)
  have HX : Hid (OwnGraph we bx (.slice xa n xc) (.slice xb m xd) ns0 es0) := og
  clear og
  go_wp2_with fail
  obtain ⟨bk, hbk⟩ : ∃ t, t = we.heap.size := ⟨_, rfl⟩
  have lk0 : P0 < bk := by rw [hbk]; exact zz0
  have lk1 : btp < bk := by rw [hbk]; exact zz1
  have lk2 : brp < bk := by rw [hbk]; exact zz2
  have lk3 : bxp < bk := by rw [hbk]; exact zz3
  have lkA : A ≤ bk := by rw [hbk]; exact sA
  obtain ⟨bkp, hbkp⟩ : ∃ t, we.heap.size = t + 1 := ⟨we.heap.size - 1, by omega⟩
  have ek1 : bk ≤ bkp + 1 := by omega
  have ek2 : bkp + 1 ≤ bk := by omega
  have ek3 : we.heap.size ≤ bk := by omega
  have zz4 : bkp < we.heap.size := by omega
  clear hbkp
  clear hbk
  obtain ⟨P1, hP1⟩ : ∃ t, t = we.heap.size := ⟨_, rfl⟩
  generalize hW : we.alloc (.cells #[.slice xa n xc, .slice xb m xd] 32) = wf
  have nb : Below we.heap.size we wf := by rw [← hW]; exact (Below.refl _ _).alloc (Nat.le_refl _) _
  have k3 : wf.heap.size = P1 + 1 := by rw [← hW, hP1]; simp
  have kk0 : wf.cell? ⟨P1, 0, none⟩ = some (.slice xa n xc) := by rw [← hW, hP1]; simp [go_sem]
  have kk1 : wf.cell? ⟨P1, 1, none⟩ = some (.slice xb m xd) := by rw [← hW, hP1]; simp [go_sem]
  have oP1A : A ≤ P1 := by rw [hP1]; exact sA
  have oP10 : P0 < P1 := by rw [hP1]; exact zz0
  have oP11 : btp < P1 := by rw [hP1]; exact zz1
  have oP12 : brp < P1 := by rw [hP1]; exact zz2
  have oP13 : bxp < P1 := by rw [hP1]; exact zz3
  have oP14 : bkp < P1 := by rw [hP1]; exact zz4
  have d0 : wf.cell? ⟨P0, 0, none⟩ = some (.slice ga n gb) := (Below.celz nb _ _ _ (by omega)).trans cc0
  have d1 : wf.cell? ⟨P0, 1, none⟩ = some (.slice gc m gd) := (Below.celz nb _ _ _ (by omega)).trans cc1
  have y0 : P0 < wf.heap.size := by have := Below.size nb; omega
  have y1 : btp < wf.heap.size := by have := Below.size nb; omega
  have y2 : brp < wf.heap.size := by have := Below.size nb; omega
  have y3 : bxp < wf.heap.size := by have := Below.size nb; omega
  have y4 : bkp < wf.heap.size := by have := Below.size nb; omega
  have BB1 : Below A w wf := BB.trans (nb.mono (by omega))
  have sA1 : A ≤ wf.heap.size := by have := Below.size nb; omega
  have q0 : Hid (OwnSeg wf br (.slice ra p rc) L) := HY.out.keep nb
  have q1 : Hid (OwnGraph wf bx (.slice xa n xc) (.slice xb m xd) ns0 es0) := HX.out.keep nb
  clear BB sA cc0 cc1 zz0 zz1 zz2 zz3 zz4 HY HX
  have cc0 := d0
  have cc1 := d1
  have zz0 := y0
  have zz1 := y1
  have zz2 := y2
  have zz3 := y3
  have zz4 := y4
  have HY := q0
  have HX := q1
  have BB := BB1
  have sA := sA1
  clear BB1 sA1 d0 d1 y0 y1 y2 y3 y4 q0 q1
  have cc2 := kk0
  have cc3 := kk1
  have zz5 : P1 < wf.heap.size := by omega
  rw [← hP1]
  have k3P1 := k3
  clear k3 hW nb hP1 kk0 kk1
  have lP1 : Hid (∀ k, ((.slice xa n xc : Value).ownBlock = some k ∨ (.slice xb m xd : Value).ownBlock = some k) → k < P1) := fun k hk => by have := (Bx.out k hk).2; omega
  obtain ⟨bq, hbq⟩ : ∃ t, t = wf.heap.size := ⟨_, rfl⟩
  have lq0 : P0 < bq := by rw [hbq]; exact zz0
  have lq1 : btp < bq := by rw [hbq]; exact zz1
  have lq2 : brp < bq := by rw [hbq]; exact zz2
  have lq3 : bxp < bq := by rw [hbq]; exact zz3
  have lq4 : bkp < bq := by rw [hbq]; exact zz4
  have lq5 : P1 < bq := by rw [hbq]; exact zz5
  have lqA : A ≤ bq := by rw [hbq]; exact sA
  obtain ⟨bqp, hbqp⟩ : ∃ t, wf.heap.size = t + 1 := ⟨wf.heap.size - 1, by omega⟩
  have eq1 : bq ≤ bqp + 1 := by omega
  have eq2 : bqp + 1 ≤ bq := by omega
  have eq3 : wf.heap.size ≤ bq := by omega
  have zz6 : bqp < wf.heap.size := by omega
  clear hbqp
  refine (HIM.out _ _ _ HX.out.nodes HX.out.edges (HK.out _ BB).2.2).mono ?_
  rintro e wg ⟨q1, rfl, og, bz⟩
  have d0 : wg.cell? ⟨P0, 0, none⟩ = some (.slice ga n gb) := (Below.celz bz _ _ _ (by omega)).trans cc0
  have d1 : wg.cell? ⟨P0, 1, none⟩ = some (.slice gc m gd) := (Below.celz bz _ _ _ (by omega)).trans cc1
  have d2 : wg.cell? ⟨P1, 0, none⟩ = some (.slice xa n xc) := (Below.celz bz _ _ _ (by omega)).trans cc2
  have d3 : wg.cell? ⟨P1, 1, none⟩ = some (.slice xb m xd) := (Below.celz bz _ _ _ (by omega)).trans cc3
  have y0 : P0 < wg.heap.size := by have := Below.size bz; omega
  have y1 : btp < wg.heap.size := by have := Below.size bz; omega
  have y2 : brp < wg.heap.size := by have := Below.size bz; omega
  have y3 : bxp < wg.heap.size := by have := Below.size bz; omega
  have y4 : bkp < wg.heap.size := by have := Below.size bz; omega
  have y5 : P1 < wg.heap.size := by have := Below.size bz; omega
  have y6 : bqp < wg.heap.size := by have := Below.size bz; omega
  have BB1 : Below A w wg := BB.trans (bz.mono (by omega))
  have sA1 : A ≤ wg.heap.size := by have := Below.size bz; omega
  have q0 : Hid (OwnSeg wg br (.slice ra p rc) L) := HY.out.keep bz
  have q1 : Hid (OwnGraph wg bx (.slice xa n xc) (.slice xb m xd) ns0 es0) := HX.out.keep bz
  clear BB sA cc0 cc1 cc2 cc3 zz0 zz1 zz2 zz3 zz4 zz5 zz6 HY HX
  have cc0 := d0
  have cc1 := d1
  have cc2 := d2
  have cc3 := d3
  have zz0 := y0
  have zz1 := y1
  have zz2 := y2
  have zz3 := y3
  have zz4 := y4
  have zz5 := y5
  have zz6 := y6
  have HY := q0
  have HX := q1
  have BB := BB1
  have sA := sA1
  clear BB1 sA1 d0 d1 d2 d3 y0 y1 y2 y3 y4 y5 y6 q0 q1
  clear bz
  obtain ⟨qa, qc, rfl⟩ := own_form og
  rw [← hbq] at og
  rw [HP.out] at og ⊢
  clear hbq
  have Bq : Hid (∀ k, (.slice qa p qc : Value).ownBlock = some k → bq ≤ k ∧ k < wg.heap.size) := fun k hk => og.lt k hk
  have HG : Hid (OwnSeg wg bq (.slice qa p qc) L) := og
  clear og
  go_wp2_with fail
  refine (eqSeg_same _ _ L _ HG.out.row HY.out.row (by rw [HP.out]; omega)).mono ?_
  rintro e wh ⟨rfl, bz⟩
  have d0 : wh.cell? ⟨P0, 0, none⟩ = some (.slice ga n gb) := (Below.celz bz _ _ _ (by omega)).trans cc0
  have d1 : wh.cell? ⟨P0, 1, none⟩ = some (.slice gc m gd) := (Below.celz bz _ _ _ (by omega)).trans cc1
  have d2 : wh.cell? ⟨P1, 0, none⟩ = some (.slice xa n xc) := (Below.celz bz _ _ _ (by omega)).trans cc2
  have d3 : wh.cell? ⟨P1, 1, none⟩ = some (.slice xb m xd) := (Below.celz bz _ _ _ (by omega)).trans cc3
  have y0 : P0 < wh.heap.size := by have := Below.size bz; omega
  have y1 : btp < wh.heap.size := by have := Below.size bz; omega
  have y2 : brp < wh.heap.size := by have := Below.size bz; omega
  have y3 : bxp < wh.heap.size := by have := Below.size bz; omega
  have y4 : bkp < wh.heap.size := by have := Below.size bz; omega
  have y5 : P1 < wh.heap.size := by have := Below.size bz; omega
  have y6 : bqp < wh.heap.size := by have := Below.size bz; omega
  have BB1 : Below A w wh := BB.trans (bz.mono (by omega))
  have sA1 : A ≤ wh.heap.size := by have := Below.size bz; omega
  have q0 : Hid (OwnSeg wh br (.slice ra p rc) L) := HY.out.keep bz
  have q1 : Hid (OwnGraph wh bx (.slice xa n xc) (.slice xb m xd) ns0 es0) := HX.out.keep bz
  have q2 : Hid (OwnSeg wh bq (.slice qa p qc) L) := HG.out.keep bz
  clear BB sA cc0 cc1 cc2 cc3 zz0 zz1 zz2 zz3 zz4 zz5 zz6 HY HX HG
  have cc0 := d0
  have cc1 := d1
  have cc2 := d2
  have cc3 := d3
  have zz0 := y0
  have zz1 := y1
  have zz2 := y2
  have zz3 := y3
  have zz4 := y4
  have zz5 := y5
  have zz6 := y6
  have HY := q0
  have HX := q1
  have HG := q2
  have BB := BB1
  have sA := sA1
  clear BB1 sA1 d0 d1 d2 d3 y0 y1 y2 y3 y4 y5 y6 q0 q1 q2
  clear bz
  go_wp2_with fail
  have HT1 : Hid (∀ W, Below wh.heap.size wh W → Calls Tryz.prog 7 #[.agg #[.slice ga n gb, .slice gc m gd]] W fun e w' => ∃ u1 u2, e = .returned (.agg #[u1, u2]) ∧ OwnGraph w' W.heap.size u1 u2 ns0 es0 ∧ Below W.heap.size W w') := fun W h => toGraph _ _ ns0 es0 W (HK.out _ (BB.trans (h.mono sA))).1 (HK.out _ (BB.trans (h.mono sA))).2.1 (by rw [← HN.out.1]; exact ln) (by rw [← HN.out.2]; exact lm)
  have HE1 : Hid (∀ W u1 u2 B, Below wh.heap.size wh W → OwnGraph W B u1 u2 ns0 es0 → Calls Tryz.prog 10 #[.agg #[.slice xa n xc, .slice xb m xd], .agg #[u1, u2]] W fun e w' => e = .returned (.bool true) ∧ Below W.heap.size W w') := fun W u1 u2 B h hu => by
    have C := eqGraph _ _ _ _ ns0 ns0 es0 es0 W (HX.out.keep h).nodes (HX.out.keep h).edges hu.nodes hu.edges (by rw [← HN.out.1]; exact ln) (by rw [← HN.out.2]; exact lm) (by rw [← HN.out.1]; exact ln) (by rw [← HN.out.2]; exact lm)
    rw [eqB_true.2 rfl, eqB_true.2 rfl] at C
    exact C
  have hS : Hid (∀ w', Below wh.heap.size wh w' → Below wh.heap.size wh w' ∧ w'.cell? ⟨P0, 0, none⟩ = some (.slice ga n gb) ∧ w'.cell? ⟨P0, 1, none⟩ = some (.slice gc m gd) ∧ w'.cell? ⟨P1, 0, none⟩ = some (.slice xa n xc) ∧ w'.cell? ⟨P1, 1, none⟩ = some (.slice xb m xd)) := fun w' hn => ⟨hn, (Below.celz hn _ _ _ zz0).trans cc0, (Below.celz hn _ _ _ zz0).trans cc1, (Below.celz hn _ _ _ zz5).trans cc2, (Below.celz hn _ _ _ zz5).trans cc3⟩
  go_region_held3 (fun w' => Below wh.heap.size wh w' ∧ w'.cell? ⟨P0, 0, none⟩ = some (.slice ga n gb) ∧ w'.cell? ⟨P0, 1, none⟩ = some (.slice gc m gd) ∧ w'.cell? ⟨P1, 0, none⟩ = some (.slice xa n xc) ∧ w'.cell? ⟨P1, 1, none⟩ = some (.slice xb m xd))
    (first | with_reducible exact hS.out _ (Below.refl _ _).drew | (with_reducible exact hS.out _ (keep_below (And.left (by assumption)) j2)) | (with_reducible exact hS.out _ (keep_below (And.left (by assumption)) j1)))
    (first | (go_at_call 7; refine (HT1.out _ (And.left (by assumption))).mono ?_; rintro e wh0 ⟨u1, u2, rfl, og, j1⟩) | (go_at_call 10; refine (HE1.out _ _ _ _ (And.left (by assumption)) og).mono ?_; rintro e wi ⟨rfl, j2⟩))
  have lb : Below wh.heap.size wh wi := And.left (show Below wh.heap.size wh wi ∧ wi.cell? ⟨P0, 0, none⟩ = some (.slice ga n gb) ∧ wi.cell? ⟨P0, 1, none⟩ = some (.slice gc m gd) ∧ wi.cell? ⟨P1, 0, none⟩ = some (.slice xa n xc) ∧ wi.cell? ⟨P1, 1, none⟩ = some (.slice xb m xd) by assumption)
  clear hS
  have d0 : wi.cell? ⟨P0, 0, none⟩ = some (.slice ga n gb) := (Below.celz lb _ _ _ (by omega)).trans cc0
  have d1 : wi.cell? ⟨P0, 1, none⟩ = some (.slice gc m gd) := (Below.celz lb _ _ _ (by omega)).trans cc1
  have d2 : wi.cell? ⟨P1, 0, none⟩ = some (.slice xa n xc) := (Below.celz lb _ _ _ (by omega)).trans cc2
  have d3 : wi.cell? ⟨P1, 1, none⟩ = some (.slice xb m xd) := (Below.celz lb _ _ _ (by omega)).trans cc3
  have y0 : P0 < wi.heap.size := by have := Below.size lb; omega
  have y1 : btp < wi.heap.size := by have := Below.size lb; omega
  have y2 : brp < wi.heap.size := by have := Below.size lb; omega
  have y3 : bxp < wi.heap.size := by have := Below.size lb; omega
  have y4 : bkp < wi.heap.size := by have := Below.size lb; omega
  have y5 : P1 < wi.heap.size := by have := Below.size lb; omega
  have y6 : bqp < wi.heap.size := by have := Below.size lb; omega
  have BB1 : Below A w wi := BB.trans (lb.mono (by omega))
  have sA1 : A ≤ wi.heap.size := by have := Below.size lb; omega
  have q0 : Hid (OwnSeg wi br (.slice ra p rc) L) := HY.out.keep lb
  have q1 : Hid (OwnGraph wi bx (.slice xa n xc) (.slice xb m xd) ns0 es0) := HX.out.keep lb
  have q2 : Hid (OwnSeg wi bq (.slice qa p qc) L) := HG.out.keep lb
  clear BB sA cc0 cc1 cc2 cc3 zz0 zz1 zz2 zz3 zz4 zz5 zz6 HY HX HG
  have cc0 := d0
  have cc1 := d1
  have cc2 := d2
  have cc3 := d3
  have zz0 := y0
  have zz1 := y1
  have zz2 := y2
  have zz3 := y3
  have zz4 := y4
  have zz5 := y5
  have zz6 := y6
  have HY := q0
  have HX := q1
  have HG := q2
  have BB := BB1
  have sA := sA1
  clear BB1 sA1 d0 d1 d2 d3 y0 y1 y2 y3 y4 y5 y6 q0 q1 q2
  clear lb
  clear HT1 HE1 j1 j2 og
  go_wp2_with fail
  refine (markGraph _ _ _ ns0 es0 _ _ (by omega) (by omega) (by rw [← HN.out.1]; exact ln) (by rw [← HN.out.2]; exact lm) HX.out).mono ?_
  rintro e wj ⟨rfl, _, gm⟩
  rw [← HN.out.1, ← HN.out.2]
  clear HX
  have d0 : wj.cell? ⟨P0, 0, none⟩ = some (.slice ga n gb) := (cell_of_blk (gm.blk _ zz0 (fun e => by have := Bx.out _ e; omega))).trans cc0
  have d1 : wj.cell? ⟨P0, 1, none⟩ = some (.slice gc m gd) := (cell_of_blk (gm.blk _ zz0 (fun e => by have := Bx.out _ e; omega))).trans cc1
  have d2 : wj.cell? ⟨P1, 0, none⟩ = some (.slice xa n xc) := (cell_of_blk (gm.blk _ zz5 (fun e => by have := lP1.out _ e; omega))).trans cc2
  have d3 : wj.cell? ⟨P1, 1, none⟩ = some (.slice xb m xd) := (cell_of_blk (gm.blk _ zz5 (fun e => by have := lP1.out _ e; omega))).trans cc3
  have y0 : P0 < wj.heap.size := by have := gm.size; omega
  have y1 : btp < wj.heap.size := by have := gm.size; omega
  have y2 : brp < wj.heap.size := by have := gm.size; omega
  have y3 : bxp < wj.heap.size := by have := gm.size; omega
  have y4 : bkp < wj.heap.size := by have := gm.size; omega
  have y5 : P1 < wj.heap.size := by have := gm.size; omega
  have y6 : bqp < wj.heap.size := by have := gm.size; omega
  have BB1 : Below A w wj := gm.below BB sA (fun k hk => by have := Bx.out k hk; omega)
  have sA1 : A ≤ wj.heap.size := by have := gm.size; omega
  have q0 : Hid (OwnSeg wj br (.slice ra p rc) L) := HY.out.but gm (fun k h e => by have := Br.out k h; have := Bx.out k e; omega)
  have q1 : Hid (OwnSeg wj bq (.slice qa p qc) L) := HG.out.but gm (fun k h e => by have := Bq.out k h; have := lP1.out k e; omega)
  clear BB sA cc0 cc1 cc2 cc3 zz0 zz1 zz2 zz3 zz4 zz5 zz6 HY HG
  have cc0 := d0
  have cc1 := d1
  have cc2 := d2
  have cc3 := d3
  have zz0 := y0
  have zz1 := y1
  have zz2 := y2
  have zz3 := y3
  have zz4 := y4
  have zz5 := y5
  have zz6 := y6
  have HY := q0
  have HG := q1
  have BB := BB1
  have sA := sA1
  clear BB1 sA1 d0 d1 d2 d3 y0 y1 y2 y3 y4 y5 y6 q0 q1
  clear gm
  have tk : ¬ (1 + 2 * (n : Int) + 5 * (m : Int) < 0) := by omega
  go_wp2_with fail
  refine (eqSeg_same _ _ L _ HG.out.row HY.out.row (by rw [HP.out]; omega)).mono ?_
  rintro e wk ⟨rfl, bz⟩
  have d0 : wk.cell? ⟨P0, 0, none⟩ = some (.slice ga n gb) := (Below.celz bz _ _ _ (by omega)).trans cc0
  have d1 : wk.cell? ⟨P0, 1, none⟩ = some (.slice gc m gd) := (Below.celz bz _ _ _ (by omega)).trans cc1
  have d2 : wk.cell? ⟨P1, 0, none⟩ = some (.slice xa n xc) := (Below.celz bz _ _ _ (by omega)).trans cc2
  have d3 : wk.cell? ⟨P1, 1, none⟩ = some (.slice xb m xd) := (Below.celz bz _ _ _ (by omega)).trans cc3
  have y0 : P0 < wk.heap.size := by have := Below.size bz; omega
  have y1 : btp < wk.heap.size := by have := Below.size bz; omega
  have y2 : brp < wk.heap.size := by have := Below.size bz; omega
  have y3 : bxp < wk.heap.size := by have := Below.size bz; omega
  have y4 : bkp < wk.heap.size := by have := Below.size bz; omega
  have y5 : P1 < wk.heap.size := by have := Below.size bz; omega
  have y6 : bqp < wk.heap.size := by have := Below.size bz; omega
  have BB1 : Below A w wk := BB.trans (bz.mono (by omega))
  have sA1 : A ≤ wk.heap.size := by have := Below.size bz; omega
  have q0 : Hid (OwnSeg wk br (.slice ra p rc) L) := HY.out.keep bz
  have q1 : Hid (OwnSeg wk bq (.slice qa p qc) L) := HG.out.keep bz
  clear BB sA cc0 cc1 cc2 cc3 zz0 zz1 zz2 zz3 zz4 zz5 zz6 HY HG
  have cc0 := d0
  have cc1 := d1
  have cc2 := d2
  have cc3 := d3
  have zz0 := y0
  have zz1 := y1
  have zz2 := y2
  have zz3 := y3
  have zz4 := y4
  have zz5 := y5
  have zz6 := y6
  have HY := q0
  have HG := q1
  have BB := BB1
  have sA := sA1
  clear BB1 sA1 d0 d1 d2 d3 y0 y1 y2 y3 y4 y5 y6 q0 q1
  clear bz
  go_wp2_with fail
  refine (markSegS _ _ _ 1 _ _ (by omega) (by omega) (by rw [HP.out]; omega) HG.out).mono ?_
  rintro e wl ⟨rfl, mk, gr⟩
  have gm := But.one gr
  clear gr
  rw [HP.out] at mk ⊢
  clear HG
  have d0 : wl.cell? ⟨P0, 0, none⟩ = some (.slice ga n gb) := (cell_of_blk (gm.blk _ zz0 (fun e => by have := Bq.out _ e; omega))).trans cc0
  have d1 : wl.cell? ⟨P0, 1, none⟩ = some (.slice gc m gd) := (cell_of_blk (gm.blk _ zz0 (fun e => by have := Bq.out _ e; omega))).trans cc1
  have d2 : wl.cell? ⟨P1, 0, none⟩ = some (.slice xa n xc) := (cell_of_blk (gm.blk _ zz5 (fun e => by have := Bq.out _ e; omega))).trans cc2
  have d3 : wl.cell? ⟨P1, 1, none⟩ = some (.slice xb m xd) := (cell_of_blk (gm.blk _ zz5 (fun e => by have := Bq.out _ e; omega))).trans cc3
  have y0 : P0 < wl.heap.size := by have := gm.size; omega
  have y1 : btp < wl.heap.size := by have := gm.size; omega
  have y2 : brp < wl.heap.size := by have := gm.size; omega
  have y3 : bxp < wl.heap.size := by have := gm.size; omega
  have y4 : bkp < wl.heap.size := by have := gm.size; omega
  have y5 : P1 < wl.heap.size := by have := gm.size; omega
  have y6 : bqp < wl.heap.size := by have := gm.size; omega
  have BB1 : Below A w wl := gm.below BB sA (fun k hk => by have := Bq.out k hk; omega)
  have sA1 : A ≤ wl.heap.size := by have := gm.size; omega
  have q0 : Hid (OwnSeg wl br (.slice ra p rc) L) := HY.out.but gm (fun k h e => by have := Br.out k h; have := Bq.out k e; omega)
  clear BB sA cc0 cc1 cc2 cc3 zz0 zz1 zz2 zz3 zz4 zz5 zz6 HY
  have cc0 := d0
  have cc1 := d1
  have cc2 := d2
  have cc3 := d3
  have zz0 := y0
  have zz1 := y1
  have zz2 := y2
  have zz3 := y3
  have zz4 := y4
  have zz5 := y5
  have zz6 := y6
  have HY := q0
  have BB := BB1
  have sA := sA1
  clear BB1 sA1 d0 d1 d2 d3 y0 y1 y2 y3 y4 y5 y6 q0
  have HMK : Hid (OwnSeg wl bq (.slice qa p qc) (marksSeg 1 p)) := by show World.ownsRow _ _ _ _ _ _ _; rw [marksSeg_len]; exact mk
  clear gm mk
  have tm : ¬ (1 + 2 * (p : Int) < 0) := by omega
  have tn : ((1 + 2 * (p : Int)) != (1 + 2 * (p : Int))) = false := by simp
  go_wp2_with fail
  refine (heldSegS p _ 1 _ (by omega) (by omega) (by omega) HMK.out.row).mono ?_
  rintro e wm ⟨rfl, bz⟩
  have d0 : wm.cell? ⟨P0, 0, none⟩ = some (.slice ga n gb) := (Below.celz bz _ _ _ (by omega)).trans cc0
  have d1 : wm.cell? ⟨P0, 1, none⟩ = some (.slice gc m gd) := (Below.celz bz _ _ _ (by omega)).trans cc1
  have d2 : wm.cell? ⟨P1, 0, none⟩ = some (.slice xa n xc) := (Below.celz bz _ _ _ (by omega)).trans cc2
  have d3 : wm.cell? ⟨P1, 1, none⟩ = some (.slice xb m xd) := (Below.celz bz _ _ _ (by omega)).trans cc3
  have y0 : P0 < wm.heap.size := by have := Below.size bz; omega
  have y1 : btp < wm.heap.size := by have := Below.size bz; omega
  have y2 : brp < wm.heap.size := by have := Below.size bz; omega
  have y3 : bxp < wm.heap.size := by have := Below.size bz; omega
  have y4 : bkp < wm.heap.size := by have := Below.size bz; omega
  have y5 : P1 < wm.heap.size := by have := Below.size bz; omega
  have y6 : bqp < wm.heap.size := by have := Below.size bz; omega
  have BB1 : Below A w wm := BB.trans (bz.mono (by omega))
  have sA1 : A ≤ wm.heap.size := by have := Below.size bz; omega
  have q0 : Hid (OwnSeg wm br (.slice ra p rc) L) := HY.out.keep bz
  have q1 : Hid (OwnSeg wm bq (.slice qa p qc) (marksSeg 1 p)) := HMK.out.keep bz
  clear BB sA cc0 cc1 cc2 cc3 zz0 zz1 zz2 zz3 zz4 zz5 zz6 HY HMK
  have cc0 := d0
  have cc1 := d1
  have cc2 := d2
  have cc3 := d3
  have zz0 := y0
  have zz1 := y1
  have zz2 := y2
  have zz3 := y3
  have zz4 := y4
  have zz5 := y5
  have zz6 := y6
  have HY := q0
  have HMK := q1
  have BB := BB1
  have sA := sA1
  clear BB1 sA1 d0 d1 d2 d3 y0 y1 y2 y3 y4 y5 y6 q0 q1
  clear bz
  go_wp2_with fail
  obtain ⟨bu, hbu⟩ : ∃ t, t = wm.heap.size := ⟨_, rfl⟩
  have lu0 : P0 < bu := by rw [hbu]; exact zz0
  have lu1 : btp < bu := by rw [hbu]; exact zz1
  have lu2 : brp < bu := by rw [hbu]; exact zz2
  have lu3 : bxp < bu := by rw [hbu]; exact zz3
  have lu4 : bkp < bu := by rw [hbu]; exact zz4
  have lu5 : P1 < bu := by rw [hbu]; exact zz5
  have lu6 : bqp < bu := by rw [hbu]; exact zz6
  have luA : A ≤ bu := by rw [hbu]; exact sA
  obtain ⟨bup, hbup⟩ : ∃ t, wm.heap.size = t + 1 := ⟨wm.heap.size - 1, by omega⟩
  have eu1 : bu ≤ bup + 1 := by omega
  have eu2 : bup + 1 ≤ bu := by omega
  have eu3 : wm.heap.size ≤ bu := by omega
  have zz7 : bup < wm.heap.size := by omega
  clear hbup
  refine (toGraph _ _ ns0 es0 _ (HK.out _ BB).1 (HK.out _ BB).2.1 (by rw [← HN.out.1]; exact ln) (by rw [← HN.out.2]; exact lm)).mono ?_
  rintro e wn ⟨u1, u2, rfl, og, bz⟩
  have d0 : wn.cell? ⟨P0, 0, none⟩ = some (.slice ga n gb) := (Below.celz bz _ _ _ (by omega)).trans cc0
  have d1 : wn.cell? ⟨P0, 1, none⟩ = some (.slice gc m gd) := (Below.celz bz _ _ _ (by omega)).trans cc1
  have d2 : wn.cell? ⟨P1, 0, none⟩ = some (.slice xa n xc) := (Below.celz bz _ _ _ (by omega)).trans cc2
  have d3 : wn.cell? ⟨P1, 1, none⟩ = some (.slice xb m xd) := (Below.celz bz _ _ _ (by omega)).trans cc3
  have y0 : P0 < wn.heap.size := by have := Below.size bz; omega
  have y1 : btp < wn.heap.size := by have := Below.size bz; omega
  have y2 : brp < wn.heap.size := by have := Below.size bz; omega
  have y3 : bxp < wn.heap.size := by have := Below.size bz; omega
  have y4 : bkp < wn.heap.size := by have := Below.size bz; omega
  have y5 : P1 < wn.heap.size := by have := Below.size bz; omega
  have y6 : bqp < wn.heap.size := by have := Below.size bz; omega
  have y7 : bup < wn.heap.size := by have := Below.size bz; omega
  have BB1 : Below A w wn := BB.trans (bz.mono (by omega))
  have sA1 : A ≤ wn.heap.size := by have := Below.size bz; omega
  have q0 : Hid (OwnSeg wn br (.slice ra p rc) L) := HY.out.keep bz
  have q1 : Hid (OwnSeg wn bq (.slice qa p qc) (marksSeg 1 p)) := HMK.out.keep bz
  clear BB sA cc0 cc1 cc2 cc3 zz0 zz1 zz2 zz3 zz4 zz5 zz6 zz7 HY HMK
  have cc0 := d0
  have cc1 := d1
  have cc2 := d2
  have cc3 := d3
  have zz0 := y0
  have zz1 := y1
  have zz2 := y2
  have zz3 := y3
  have zz4 := y4
  have zz5 := y5
  have zz6 := y6
  have zz7 := y7
  have HY := q0
  have HMK := q1
  have BB := BB1
  have sA := sA1
  clear BB1 sA1 d0 d1 d2 d3 y0 y1 y2 y3 y4 y5 y6 y7 q0 q1
  clear bz
  obtain ⟨ua, uc, rfl⟩ := own_form og.1
  obtain ⟨ub, ud, rfl⟩ := own_form og.2.1
  rw [← HN.out.1, ← HN.out.2, ← hbu] at og
  rw [← HN.out.1, ← HN.out.2]
  clear hbu
  have Bu : Hid (∀ k, ((.slice ua n uc : Value).ownBlock = some k ∨ (.slice ub m ud : Value).ownBlock = some k) → bu ≤ k ∧ k < wn.heap.size) := fun k hk => hk.elim (og.1.lt k) (og.2.1.lt k)
  have HT : Hid (OwnGraph wn bu (.slice ua n uc) (.slice ub m ud) ns0 es0) := og
  clear og
  go_wp2_with fail
  obtain ⟨bh, hbh⟩ : ∃ t, t = wn.heap.size := ⟨_, rfl⟩
  have lh0 : P0 < bh := by rw [hbh]; exact zz0
  have lh1 : btp < bh := by rw [hbh]; exact zz1
  have lh2 : brp < bh := by rw [hbh]; exact zz2
  have lh3 : bxp < bh := by rw [hbh]; exact zz3
  have lh4 : bkp < bh := by rw [hbh]; exact zz4
  have lh5 : P1 < bh := by rw [hbh]; exact zz5
  have lh6 : bqp < bh := by rw [hbh]; exact zz6
  have lh7 : bup < bh := by rw [hbh]; exact zz7
  have lhA : A ≤ bh := by rw [hbh]; exact sA
  obtain ⟨bhp, hbhp⟩ : ∃ t, wn.heap.size = t + 1 := ⟨wn.heap.size - 1, by omega⟩
  have eh1 : bh ≤ bhp + 1 := by omega
  have eh2 : bhp + 1 ≤ bh := by omega
  have eh3 : wn.heap.size ≤ bh := by omega
  have zz8 : bhp < wn.heap.size := by omega
  clear hbhp
  refine (HIM.out _ _ _ HT.out.nodes HT.out.edges (HK.out _ BB).2.2).mono ?_
  rintro e wo ⟨h1, rfl, og, bz⟩
  have d0 : wo.cell? ⟨P0, 0, none⟩ = some (.slice ga n gb) := (Below.celz bz _ _ _ (by omega)).trans cc0
  have d1 : wo.cell? ⟨P0, 1, none⟩ = some (.slice gc m gd) := (Below.celz bz _ _ _ (by omega)).trans cc1
  have d2 : wo.cell? ⟨P1, 0, none⟩ = some (.slice xa n xc) := (Below.celz bz _ _ _ (by omega)).trans cc2
  have d3 : wo.cell? ⟨P1, 1, none⟩ = some (.slice xb m xd) := (Below.celz bz _ _ _ (by omega)).trans cc3
  have y0 : P0 < wo.heap.size := by have := Below.size bz; omega
  have y1 : btp < wo.heap.size := by have := Below.size bz; omega
  have y2 : brp < wo.heap.size := by have := Below.size bz; omega
  have y3 : bxp < wo.heap.size := by have := Below.size bz; omega
  have y4 : bkp < wo.heap.size := by have := Below.size bz; omega
  have y5 : P1 < wo.heap.size := by have := Below.size bz; omega
  have y6 : bqp < wo.heap.size := by have := Below.size bz; omega
  have y7 : bup < wo.heap.size := by have := Below.size bz; omega
  have y8 : bhp < wo.heap.size := by have := Below.size bz; omega
  have BB1 : Below A w wo := BB.trans (bz.mono (by omega))
  have sA1 : A ≤ wo.heap.size := by have := Below.size bz; omega
  have q0 : Hid (OwnSeg wo br (.slice ra p rc) L) := HY.out.keep bz
  have q1 : Hid (OwnSeg wo bq (.slice qa p qc) (marksSeg 1 p)) := HMK.out.keep bz
  have q2 : Hid (OwnGraph wo bu (.slice ua n uc) (.slice ub m ud) ns0 es0) := HT.out.keep bz
  clear BB sA cc0 cc1 cc2 cc3 zz0 zz1 zz2 zz3 zz4 zz5 zz6 zz7 zz8 HY HMK HT
  have cc0 := d0
  have cc1 := d1
  have cc2 := d2
  have cc3 := d3
  have zz0 := y0
  have zz1 := y1
  have zz2 := y2
  have zz3 := y3
  have zz4 := y4
  have zz5 := y5
  have zz6 := y6
  have zz7 := y7
  have zz8 := y8
  have HY := q0
  have HMK := q1
  have HT := q2
  have BB := BB1
  have sA := sA1
  clear BB1 sA1 d0 d1 d2 d3 y0 y1 y2 y3 y4 y5 y6 y7 y8 q0 q1 q2
  clear bz
  obtain ⟨ha, hc, rfl⟩ := own_form og
  rw [← hbh] at og
  rw [HP.out] at og ⊢
  clear hbh
  have Bh : Hid (∀ k, (.slice ha p hc : Value).ownBlock = some k → bh ≤ k ∧ k < wo.heap.size) := fun k hk => og.lt k hk
  have HH : Hid (OwnSeg wo bh (.slice ha p hc) L) := og
  clear og
  clear HT
  go_wp2_with fail
  refine (eqSeg_same _ _ L _ HH.out.row HY.out.row (by rw [HP.out]; omega)).mono ?_
  rintro e wp ⟨rfl, bz⟩
  have d0 : wp.cell? ⟨P0, 0, none⟩ = some (.slice ga n gb) := (Below.celz bz _ _ _ (by omega)).trans cc0
  have d1 : wp.cell? ⟨P0, 1, none⟩ = some (.slice gc m gd) := (Below.celz bz _ _ _ (by omega)).trans cc1
  have d2 : wp.cell? ⟨P1, 0, none⟩ = some (.slice xa n xc) := (Below.celz bz _ _ _ (by omega)).trans cc2
  have d3 : wp.cell? ⟨P1, 1, none⟩ = some (.slice xb m xd) := (Below.celz bz _ _ _ (by omega)).trans cc3
  have y0 : P0 < wp.heap.size := by have := Below.size bz; omega
  have y1 : btp < wp.heap.size := by have := Below.size bz; omega
  have y2 : brp < wp.heap.size := by have := Below.size bz; omega
  have y3 : bxp < wp.heap.size := by have := Below.size bz; omega
  have y4 : bkp < wp.heap.size := by have := Below.size bz; omega
  have y5 : P1 < wp.heap.size := by have := Below.size bz; omega
  have y6 : bqp < wp.heap.size := by have := Below.size bz; omega
  have y7 : bup < wp.heap.size := by have := Below.size bz; omega
  have y8 : bhp < wp.heap.size := by have := Below.size bz; omega
  have BB1 : Below A w wp := BB.trans (bz.mono (by omega))
  have sA1 : A ≤ wp.heap.size := by have := Below.size bz; omega
  have q0 : Hid (OwnSeg wp br (.slice ra p rc) L) := HY.out.keep bz
  have q1 : Hid (OwnSeg wp bq (.slice qa p qc) (marksSeg 1 p)) := HMK.out.keep bz
  have q2 : Hid (OwnSeg wp bh (.slice ha p hc) L) := HH.out.keep bz
  clear BB sA cc0 cc1 cc2 cc3 zz0 zz1 zz2 zz3 zz4 zz5 zz6 zz7 zz8 HY HMK HH
  have cc0 := d0
  have cc1 := d1
  have cc2 := d2
  have cc3 := d3
  have zz0 := y0
  have zz1 := y1
  have zz2 := y2
  have zz3 := y3
  have zz4 := y4
  have zz5 := y5
  have zz6 := y6
  have zz7 := y7
  have zz8 := y8
  have HY := q0
  have HMK := q1
  have HH := q2
  have BB := BB1
  have sA := sA1
  clear BB1 sA1 d0 d1 d2 d3 y0 y1 y2 y3 y4 y5 y6 y7 y8 q0 q1 q2
  clear bz
  go_wp2_with fail
  refine (heldSegS p _ 1 _ (by omega) (by omega) (by omega) HMK.out.row).mono ?_
  rintro e wq ⟨rfl, bz⟩
  have d0 : wq.cell? ⟨P0, 0, none⟩ = some (.slice ga n gb) := (Below.celz bz _ _ _ (by omega)).trans cc0
  have d1 : wq.cell? ⟨P0, 1, none⟩ = some (.slice gc m gd) := (Below.celz bz _ _ _ (by omega)).trans cc1
  have d2 : wq.cell? ⟨P1, 0, none⟩ = some (.slice xa n xc) := (Below.celz bz _ _ _ (by omega)).trans cc2
  have d3 : wq.cell? ⟨P1, 1, none⟩ = some (.slice xb m xd) := (Below.celz bz _ _ _ (by omega)).trans cc3
  have y0 : P0 < wq.heap.size := by have := Below.size bz; omega
  have y1 : btp < wq.heap.size := by have := Below.size bz; omega
  have y2 : brp < wq.heap.size := by have := Below.size bz; omega
  have y3 : bxp < wq.heap.size := by have := Below.size bz; omega
  have y4 : bkp < wq.heap.size := by have := Below.size bz; omega
  have y5 : P1 < wq.heap.size := by have := Below.size bz; omega
  have y6 : bqp < wq.heap.size := by have := Below.size bz; omega
  have y7 : bup < wq.heap.size := by have := Below.size bz; omega
  have y8 : bhp < wq.heap.size := by have := Below.size bz; omega
  have BB1 : Below A w wq := BB.trans (bz.mono (by omega))
  have sA1 : A ≤ wq.heap.size := by have := Below.size bz; omega
  have q0 : Hid (OwnSeg wq br (.slice ra p rc) L) := HY.out.keep bz
  have q1 : Hid (OwnSeg wq bq (.slice qa p qc) (marksSeg 1 p)) := HMK.out.keep bz
  have q2 : Hid (OwnSeg wq bh (.slice ha p hc) L) := HH.out.keep bz
  clear BB sA cc0 cc1 cc2 cc3 zz0 zz1 zz2 zz3 zz4 zz5 zz6 zz7 zz8 HY HMK HH
  have cc0 := d0
  have cc1 := d1
  have cc2 := d2
  have cc3 := d3
  have zz0 := y0
  have zz1 := y1
  have zz2 := y2
  have zz3 := y3
  have zz4 := y4
  have zz5 := y5
  have zz6 := y6
  have zz7 := y7
  have zz8 := y8
  have HY := q0
  have HMK := q1
  have HH := q2
  have BB := BB1
  have sA := sA1
  clear BB1 sA1 d0 d1 d2 d3 y0 y1 y2 y3 y4 y5 y6 y7 y8 q0 q1 q2
  clear bz
  go_wp2_with fail
  go_ret
  exact ⟨rfl, (by have := BB; rw [HA.out] at this; exact this)⟩

theorem door_met (os : Os) (args : Array Value) : laidMetH Tryz.prog Rows.fnExactStoreOfRow.laid ((World.doorLaid Tryz.prog 85 os).forCall (fun _ _ => 0) ⟨#[], args, []⟩).memory :=
  laidMetH_of_parts3 (fuel := 8) (laidMet_of_run' 8 (by kernel_rfl) (by kernel_rfl)) (by kernel_rfl) (by kernel_rfl)

set_option maxRecDepth 100000 in
set_option maxHeartbeats 1000000 in
theorem lifted (os : Os) (started : os.Started) (H : Type) (enc : TypeId × Value → H) :
    ReturnsInHanded {} Tryz.checked os 3 .any (fun w args => (Rows.fnExactStoreOfSpec.pre enc Tryz.prog Tryz.f3 [] false w args ∧ laidMetH Tryz.prog Rows.fnExactStoreOfRow.laid w) ∧ sizedMet enc Tryz.prog Tryz.f3 (OpenSpec.ofChange Rows.fnExactStoreOfSpec) false w args)
      (Rows.fnExactStoreOfSpec.post enc Tryz.prog Tryz.f3 false true false false) := by
  refine returnsInHanded_of_change_and (C := Tryz.checked) (X := fun w _ => laidMetH Tryz.prog Rows.fnExactStoreOfRow.laid w) (fun _ _ _ hh h => h.of_heap hh) own started (by kernel_rfl) Tryz.func3
    (ChangeSpec.witness_shaped (enc := enc) (C := Tryz.checked) (os := os) (X := fun w _ => laidMetH Tryz.prog Rows.fnExactStoreOfRow.laid w) false (World.doorLaid Tryz.prog 85 os) #[.agg #[.slice none 0 0, .slice none 0 0]] 8 rfl (World.shaped_of_RefB (by kernel_rfl) (by kernel_rfl)) (by kernel_rfl) (by kernel_rfl) (by kernel_rfl) (door_met os _)) ?_
  intro W base args ds gs before hval0 hW _ _ hL _
  have hval : ∀ (j : Nat) t v, Tryz.f3.params[j]? = some t → args[j]? = some v → Value.okWide Tryz.prog W .any base t v := hval0
  have hW' := hW
  obtain ⟨p, q, hA0, hV0, rfl, hfz, hnd⟩ := hW
  have hA : DataW.TrodAll enc Tryz.prog W 0 (fun _ => true) true Tryz.f3.params.toList args.toList ds p := hA0
  have hV : DataW.TrodVars enc Tryz.prog W (fun _ => true) ["loop.example/hagioscope/impl.errForm", "loop.example/hagioscope/impl.errThere", "loop.example/hagioscope/impl.errFull", "loop.example/hagioscope/impl.errNone"] gs q := hV0
  rw [Tryz.params3] at hA hval
  obtain ⟨v0, vs0, d0, ds0, p0, q0, hargs, rfl, rfl, h0, r0⟩ := trodAll_cons hA
  obtain ⟨rfl, rfl, rfl⟩ := trodAll_nil r0
  obtain rfl : args = #[v0] := by cases args; simp_all
  have kr0 := h0
  have lt0 : ∀ x ∈ p0, x.block < W.heap.size := by obtain ⟨m, hm⟩ := kr0; exact DataW.trod_lt m _ _ _ hm
  obtain ⟨x0, y0, ns0, es0, rfl, w0⟩ := open_graph (hval 0 25 v0 rfl rfl) h0
  have hI := held_of hL
  have hE : Errs W := errs_of hI
  obtain ⟨g1, g2, g3, g4, rfl⟩ : ∃ g1 g2 g3 g4, gs = [g1, g2, g3, g4] := by
    have hlen := vars_len _ _ _ hV
    match gs, hlen with
    | [g1, g2, g3, g4], _ => exact ⟨g1, g2, g3, g4, rfl⟩
  clear hA0 hV0 hval0
  refine (walk x0 y0 ns0 es0 W w0 hE).mono fun e W' ⟨he, bel⟩ => ?_
  subst he
  exact ⟨_, rfl, _, _, _, [], _, _, hW', trodAll_mk1 (shut_bool Tryz.underlying4 _), (trodAll_cons_mk (Below.trod laidOut (by kernel_rfl) (of_decide_eq_true (by kernel_rfl)) kr0 bel lt0) trodAll_mk0), vars_keep Tryz.underlying64 bel _ _ _ hV hI, bel.frame _, fun h => by cases h⟩

theorem said : Rows.FnExactStoreOfSaid :=
  OpenClaim.holds_of_wide 3 Tryz.f3 rfl rfl rfl rfl rfl rfl rfl ⟨rfl, rfl, rfl, rfl, rfl⟩ rfl rfl rfl rfl rfl (by kernel_rfl) Tryz.func3 (by kernel_rfl)
    (of_decide_eq_true (by kernel_rfl)) (by unfold Func.isWrapper; first | (rw [if_pos (by decide +kernel)]; kernel_rfl) | (rw [if_neg (by decide +kernel)]; exact ⟨rfl, rfl⟩))
    (fun os started H enc _ => lifted os started H enc)

theorem plain (f : FuncId) (fn : Func) (hf : Tryz.pinned.checked.prog.funcNamed "loop.example/hagioscope/laws.FnExactStoreOf" = some f) (hfn : Tryz.pinned.checked.prog.funcs[f]? = some fn) :
    false = Tryz.pinned.checked.prog.looks [] ∧ ∀ (j : Nat) t, fn.params[j]? = some t → Tryz.pinned.checked.prog.wantsStandIn t = false := by
  obtain rfl : f = 3 := Option.some.inj ((show Tryz.prog.funcNamed "loop.example/hagioscope/laws.FnExactStoreOf" = some 3 by kernel_rfl).symm.trans hf) |>.symm
  obtain rfl : fn = Tryz.f3 := (Option.some.inj (Tryz.func3.symm.trans hfn)).symm
  refine ⟨by kernel_rfl, fun j t ht => ?_⟩
  rw [Tryz.params3] at ht
  obtain rfl : t = 25 := by simpa using Array.mem_of_getElem? ht
  · exact (show Tryz.prog.wantsStandIn 25 = false by kernel_rfl)

end Go.Proofs.YtlnpbfeihjfnjabGreatDoor.fnExactStoreOf
namespace Go.Proofs.YtlnpbfeihjfnjabGreatDoor
theorem fnExactStoreOf_card : Rows.FnExactStoreOfCardSaid :=
  Claim7.holds_tied_plain_at .later [] _ _ _ _ fnExactStoreOf.said (fun _ h => by cases h) (by kernel_rfl) (fun _ h => by cases h) fnExactStoreOf_row_tie rfl ⟨rfl, rfl⟩ (by kernel_rfl) rfl fnExactStoreOf.plain (by kernel_rfl)
#print axioms fnExactStoreOf_card
end Go.Proofs.YtlnpbfeihjfnjabGreatDoor
