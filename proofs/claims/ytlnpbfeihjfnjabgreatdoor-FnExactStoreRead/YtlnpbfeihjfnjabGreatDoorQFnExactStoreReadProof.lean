/-
  At every store that came in, StoreRead answers as the specification does, writes into no argument, keeps nothing of one, and its answer owns its memory.
-/
import Derived.Test.YtlnpbfeihjfnjabGreatDoorCards
import Derived.Test.YtlnpbfeihjfnjabGreatDoorTie
import Derived.Test.YtlnpbfeihjfnjabGreatDoorQSrs
import Derived.Test.YtlnpbfeihjfnjabGreatDoorQRdg
import Derived.Test.YtlnpbfeihjfnjabGreatDoorQErs
import Derived.Test.YtlnpbfeihjfnjabGreatDoorQGra
import Derived.WalkKit
import Derived.ProofKit
import Derived.OpenShut
import Derived.ShutString
import Derived.ChangeOld
import Derived.Below
import Derived.Carry
import Derived.Handy
import Derived.Deep.RegionHeld3
import Derived.LaidMore
import Derived.Deep.DeepCutAuto
namespace Go.Proofs.YtlnpbfeihjfnjabGreatDoor.fnExactStoreRead
open Go.Proofs.YtlnpbfeihjfnjabGreatDoor.Lab
open Go.ChangeShapes Go.WideShapes Go.ChangeAt Go.RowKit
open Go.ChangeMaps (open_string shut_string)
set_option linter.unusedVariables false

theorem own : ownKnob Tryz.prog.godebug = none := by kernel_rfl
/-- A row of numbers that came in: nil, or so many cells. -/
def IsRow (k : IntKind) (w : World) (a : Option Addr) (len cap : Nat) (zs : List Int) : Prop :=
  (a = none ∧ len = 0 ∧ cap = 0 ∧ zs = []) ∨ ∃ x, a = some x ∧ len ≤ cap ∧ cap ≤ maxLen ∧ zs.length = cap ∧ (∀ i, i < zs.length → w.cell? (x.add i) = some (.int k (zs.getD i 0))) ∧ ∀ n ∈ zs, (Lit.int k n).wf = true

set_option maxRecDepth 16000 in
set_option maxHeartbeats 8000000 in
theorem walk (v0 : Value) (xs0 : List (Int × List UInt8)) (w : World) (w0 : SegsIn w v0 xs0) (hE : Errs w) :
    Calls Tryz.prog 4 #[v0] w fun e w' => e = .returned (.bool true) ∧ Below w.heap.size w w' := by
  obtain ⟨r1, m1, m2⟩ := w0
  simp only [maxLen, Nat.reducePow, Nat.reduceSub] at m1 m2
  obtain ⟨ga, gb, rfl⟩ := r1.len
  have HRR : Hid (RowAt 2 encSeg w (.slice ga xs0.length gb) xs0) := r1
  have HEE : Hid (Errs w) := hE
  have HM2 : Hid (∀ x ∈ xs0, x.2.length ≤ 9223372036854775807) := fun x hx => (m2 x hx).2
  clear r1 hE m2
  obtain ⟨n, hn⟩ : ∃ t, t = xs0.length := ⟨_, rfl⟩
  have HN : Hid (n = xs0.length) := hn
  rw [← hn] at m1 HRR ⊢
  clear hn
  obtain ⟨A, hA⟩ : ∃ t, t = w.heap.size := ⟨_, rfl⟩
  have HA : Hid (A = w.heap.size) := hA
  have BB : Below A w w := Below.refl _ _
  have sA : A ≤ w.heap.size := by omega
  clear hA
  have sP : 0 < A := by rw [HA.out]; have := FormAt.lt (w := w) HEE.out.1; omega
  have HK : Hid (∀ W, Below A w W → RowAt 2 encSeg W (.slice ga n gb) xs0 ∧ Errs W) := fun W h => by rw [HA.out] at h; exact ⟨HRR.out.keep h, HEE.out.keep h⟩
  go_enter Tryz.func4, Tryz.ntmps4
  go_wp2_with fail
  refine (szSegT _ xs0 _ _ (HK.out _ BB).1 (by omega) (by omega) (by rw [← HN.out]; exact m1) HM2.out).mono ?_
  rintro e wb ⟨⟨left, rfl, q0, q1, q2⟩, bz⟩
  have BB1 : Below A w wb := BB.trans (bz.mono (by omega))
  have sA1 : A ≤ wb.heap.size := by have := Below.size bz; omega
  clear BB sA   
  have BB := BB1
  have sA := sA1
  clear BB1 sA1   
  clear bz
  by_cases hz : left < 0
  · go_wp2_with fail
    go_ret
    exact ⟨rfl, (by have := BB; rw [HA.out] at this; exact this)⟩
  have q3 := q2 (by omega)
  have ln : n ≤ 1048576 := by rw [HN.out]; omega
  have HLB : Hid (lenS xs0 ≤ 1048576) := by show lenS xs0 ≤ 1048576; omega
  clear q0 q1 q2 q3 m1
  go_wp2_with fail
  obtain ⟨L1, L2, ok, HSP, HIM, lL1, lL2⟩ : ∃ (L1 : List Nd) (L2 : List Ed) (ok : Bool),
    Hid (∀ (W : World) (v : Value), RowAt 2 encSeg W v xs0 → Calls Tryz.prog 15 #[v] W fun e w' => ∃ u1 u2, e = .returned (.tuple #[.agg #[u1, u2], .bool ok]) ∧ OwnGraph w' W.heap.size u1 u2 L1 L2 ∧ Below W.heap.size W w')
    ∧ Hid (∀ (W : World) (v : Value), RowAt 2 encSeg W v xs0 → Errs W → Calls Tryz.prog 17 #[v] W fun e w' => ∃ u1 u2, e = .returned (.tuple #[.agg #[u1, u2], .bool ok]) ∧ OwnGraph w' W.heap.size u1 u2 L1 L2 ∧ Below W.heap.size W w') ∧ L1.length ≤ 40 ∧ L2.length ≤ 56 :=
    ⟨srN (srO xs0), srE (srO xs0), (srO xs0).isSome, fun W v h => spec_StoreRead v xs0 W h (by rw [← HN.out]; exact ln) HLB.out, fun W v h hE => impl_StoreRead v xs0 W h (by rw [← HN.out]; exact ln) HLB.out hE, (srO_len xs0).1, (srO_len xs0).2⟩
  obtain ⟨p, hp⟩ : ∃ t, t = L1.length := ⟨_, rfl⟩
  obtain ⟨q, hq⟩ : ∃ t, t = L2.length := ⟨_, rfl⟩
  have HP : Hid (L1.length = p ∧ L2.length = q) := ⟨hp.symm, hq.symm⟩
  rw [← hp] at lL1
  rw [← hq] at lL2
  clear hp hq
  obtain ⟨bt, hbt⟩ : ∃ t, t = wb.heap.size := ⟨_, rfl⟩
  have ltA : A ≤ bt := by rw [hbt]; exact sA
  obtain ⟨btp, hbtp⟩ : ∃ t, wb.heap.size = t + 1 := ⟨wb.heap.size - 1, by omega⟩
  have et1 : bt ≤ btp + 1 := by omega
  have et2 : btp + 1 ≤ bt := by omega
  have et3 : wb.heap.size ≤ bt := by omega
  have zz0 : btp < wb.heap.size := by omega
  clear hbtp
  refine (toSegS _ xs0 _ (HK.out _ BB).1 (by rw [← HN.out]; exact ln)).mono ?_
  rintro e wc ⟨t1, rfl, og, bz⟩
  have y0 : btp < wc.heap.size := by have := Below.size bz; omega
  have BB1 : Below A w wc := BB.trans (bz.mono (by omega))
  have sA1 : A ≤ wc.heap.size := by have := Below.size bz; omega
  clear BB sA  zz0 
  have zz0 := y0
  have BB := BB1
  have sA := sA1
  clear BB1 sA1  y0 
  clear bz
  obtain ⟨ta, tc, rfl⟩ := own_form og
  rw [← HN.out, ← hbt] at og
  rw [← HN.out]
  clear hbt
  have Bt : Hid (∀ k, (.slice ta n tc : Value).ownBlock = some k → bt ≤ k ∧ k < wc.heap.size) := fun k hk => og.lt k hk
  have HT : Hid (OwnSeg wc bt (.slice ta n tc) xs0) := (by unfold OwnSeg; rw [← HN.out]; exact og)
  clear og
  go_wp2_with fail
  obtain ⟨br, hbr⟩ : ∃ t, t = wc.heap.size := ⟨_, rfl⟩
  have lr0 : btp < br := by rw [hbr]; exact zz0
  have lrA : A ≤ br := by rw [hbr]; exact sA
  obtain ⟨brp, hbrp⟩ : ∃ t, wc.heap.size = t + 1 := ⟨wc.heap.size - 1, by omega⟩
  have er1 : br ≤ brp + 1 := by omega
  have er2 : brp + 1 ≤ br := by omega
  have er3 : wc.heap.size ≤ br := by omega
  have zz1 : brp < wc.heap.size := by omega
  clear hbrp
  refine (HSP.out _ _ HT.out.row).mono ?_
  rintro e wd ⟨r1, r2, rfl, og, bz⟩
  have y0 : btp < wd.heap.size := by have := Below.size bz; omega
  have y1 : brp < wd.heap.size := by have := Below.size bz; omega
  have BB1 : Below A w wd := BB.trans (bz.mono (by omega))
  have sA1 : A ≤ wd.heap.size := by have := Below.size bz; omega
  have q0 : Hid (OwnSeg wd bt (.slice ta n tc) xs0) := HT.out.keep bz
  clear BB sA  zz0 zz1 HT
  have zz0 := y0
  have zz1 := y1
  have HT := q0
  have BB := BB1
  have sA := sA1
  clear BB1 sA1  y0 y1 q0
  clear bz
  obtain ⟨ra, rc, rfl⟩ := own_form og.1
  obtain ⟨rb, rd, rfl⟩ := own_form og.2.1
  rw [HP.out.1, HP.out.2, ← hbr] at og
  rw [HP.out.1, HP.out.2]
  clear hbr
  have Br : Hid (∀ k, ((.slice ra p rc : Value).ownBlock = some k ∨ (.slice rb q rd : Value).ownBlock = some k) → br ≤ k ∧ k < wd.heap.size) := fun k hk => hk.elim (og.1.lt k) (og.2.1.lt k)
  have HY : Hid (OwnGraph wd br (.slice ra p rc) (.slice rb q rd) L1 L2) := og
  clear og
  clear HT
  clear Bt
  go_wp2_with fail
  obtain ⟨bk, hbk⟩ : ∃ t, t = wd.heap.size := ⟨_, rfl⟩
  have lk0 : btp < bk := by rw [hbk]; exact zz0
  have lk1 : brp < bk := by rw [hbk]; exact zz1
  have lkA : A ≤ bk := by rw [hbk]; exact sA
  obtain ⟨bkp, hbkp⟩ : ∃ t, wd.heap.size = t + 1 := ⟨wd.heap.size - 1, by omega⟩
  have ek1 : bk ≤ bkp + 1 := by omega
  have ek2 : bkp + 1 ≤ bk := by omega
  have ek3 : wd.heap.size ≤ bk := by omega
  have zz2 : bkp < wd.heap.size := by omega
  clear hbkp
  clear hbk
  obtain ⟨P1, hP1⟩ : ∃ t, t = wd.heap.size := ⟨_, rfl⟩
  generalize hW : wd.alloc (.cells #[.slice ra p rc, .slice rb q rd] 32) = we
  have nb : Below wd.heap.size wd we := by rw [← hW]; exact (Below.refl _ _).alloc (Nat.le_refl _) _
  have k3 : we.heap.size = P1 + 1 := by rw [← hW, hP1]; simp
  have kk0 : we.cell? ⟨P1, 0, none⟩ = some (.slice ra p rc) := by rw [← hW, hP1]; simp [go_sem]
  have kk1 : we.cell? ⟨P1, 1, none⟩ = some (.slice rb q rd) := by rw [← hW, hP1]; simp [go_sem]
  have oP1A : A ≤ P1 := by rw [hP1]; exact sA
  have oP10 : btp < P1 := by rw [hP1]; exact zz0
  have oP11 : brp < P1 := by rw [hP1]; exact zz1
  have oP12 : bkp < P1 := by rw [hP1]; exact zz2
  have y0 : btp < we.heap.size := by have := Below.size nb; omega
  have y1 : brp < we.heap.size := by have := Below.size nb; omega
  have y2 : bkp < we.heap.size := by have := Below.size nb; omega
  have BB1 : Below A w we := BB.trans (nb.mono (by omega))
  have sA1 : A ≤ we.heap.size := by have := Below.size nb; omega
  have q0 : Hid (OwnGraph we br (.slice ra p rc) (.slice rb q rd) L1 L2) := HY.out.keep nb
  clear BB sA  zz0 zz1 zz2 HY
  have zz0 := y0
  have zz1 := y1
  have zz2 := y2
  have HY := q0
  have BB := BB1
  have sA := sA1
  clear BB1 sA1  y0 y1 y2 q0
  have cc0 := kk0
  have cc1 := kk1
  have zz3 : P1 < we.heap.size := by omega
  rw [← hP1]
  have k3P1 := k3
  clear k3 hW nb hP1 kk0 kk1
  go_wp2_with fail
  obtain ⟨bx, hbx⟩ : ∃ t, t = we.heap.size := ⟨_, rfl⟩
  have lx0 : btp < bx := by rw [hbx]; exact zz0
  have lx1 : brp < bx := by rw [hbx]; exact zz1
  have lx2 : bkp < bx := by rw [hbx]; exact zz2
  have lx3 : P1 < bx := by rw [hbx]; exact zz3
  have lxA : A ≤ bx := by rw [hbx]; exact sA
  obtain ⟨bxp, hbxp⟩ : ∃ t, we.heap.size = t + 1 := ⟨we.heap.size - 1, by omega⟩
  have ex1 : bx ≤ bxp + 1 := by omega
  have ex2 : bxp + 1 ≤ bx := by omega
  have ex3 : we.heap.size ≤ bx := by omega
  have zz4 : bxp < we.heap.size := by omega
  clear hbxp
  refine (toSegS _ xs0 _ (HK.out _ BB).1 (by rw [← HN.out]; exact ln)).mono ?_
  rintro e wf ⟨x1, rfl, og, bz⟩
  have d0 : wf.cell? ⟨P1, 0, none⟩ = some (.slice ra p rc) := (Below.celz bz _ _ _ (by omega)).trans cc0
  have d1 : wf.cell? ⟨P1, 1, none⟩ = some (.slice rb q rd) := (Below.celz bz _ _ _ (by omega)).trans cc1
  have y0 : btp < wf.heap.size := by have := Below.size bz; omega
  have y1 : brp < wf.heap.size := by have := Below.size bz; omega
  have y2 : bkp < wf.heap.size := by have := Below.size bz; omega
  have y3 : P1 < wf.heap.size := by have := Below.size bz; omega
  have y4 : bxp < wf.heap.size := by have := Below.size bz; omega
  have BB1 : Below A w wf := BB.trans (bz.mono (by omega))
  have sA1 : A ≤ wf.heap.size := by have := Below.size bz; omega
  have q0 : Hid (OwnGraph wf br (.slice ra p rc) (.slice rb q rd) L1 L2) := HY.out.keep bz
  clear BB sA cc0 cc1 zz0 zz1 zz2 zz3 zz4 HY
  have cc0 := d0
  have cc1 := d1
  have zz0 := y0
  have zz1 := y1
  have zz2 := y2
  have zz3 := y3
  have zz4 := y4
  have HY := q0
  have BB := BB1
  have sA := sA1
  clear BB1 sA1 d0 d1 y0 y1 y2 y3 y4 q0
  clear bz
  obtain ⟨xa, xc, rfl⟩ := own_form og
  rw [← HN.out, ← hbx] at og
  rw [← HN.out]
  clear hbx
  have Bx : Hid (∀ k, (.slice xa n xc : Value).ownBlock = some k → bx ≤ k ∧ k < wf.heap.size) := fun k hk => og.lt k hk
  have HX : Hid (OwnSeg wf bx (.slice xa n xc) xs0) := (by unfold OwnSeg; rw [← HN.out]; exact og)
  clear og
  go_wp2_with fail
  obtain ⟨bq, hbq⟩ : ∃ t, t = wf.heap.size := ⟨_, rfl⟩
  have lq0 : btp < bq := by rw [hbq]; exact zz0
  have lq1 : brp < bq := by rw [hbq]; exact zz1
  have lq2 : bkp < bq := by rw [hbq]; exact zz2
  have lq3 : P1 < bq := by rw [hbq]; exact zz3
  have lq4 : bxp < bq := by rw [hbq]; exact zz4
  have lqA : A ≤ bq := by rw [hbq]; exact sA
  obtain ⟨bqp, hbqp⟩ : ∃ t, wf.heap.size = t + 1 := ⟨wf.heap.size - 1, by omega⟩
  have eq1 : bq ≤ bqp + 1 := by omega
  have eq2 : bqp + 1 ≤ bq := by omega
  have eq3 : wf.heap.size ≤ bq := by omega
  have zz5 : bqp < wf.heap.size := by omega
  clear hbqp
  refine (HIM.out _ _ HX.out.row (HK.out _ BB).2).mono ?_
  rintro e wg ⟨q1, q2, rfl, og, bz⟩
  have d0 : wg.cell? ⟨P1, 0, none⟩ = some (.slice ra p rc) := (Below.celz bz _ _ _ (by omega)).trans cc0
  have d1 : wg.cell? ⟨P1, 1, none⟩ = some (.slice rb q rd) := (Below.celz bz _ _ _ (by omega)).trans cc1
  have y0 : btp < wg.heap.size := by have := Below.size bz; omega
  have y1 : brp < wg.heap.size := by have := Below.size bz; omega
  have y2 : bkp < wg.heap.size := by have := Below.size bz; omega
  have y3 : P1 < wg.heap.size := by have := Below.size bz; omega
  have y4 : bxp < wg.heap.size := by have := Below.size bz; omega
  have y5 : bqp < wg.heap.size := by have := Below.size bz; omega
  have BB1 : Below A w wg := BB.trans (bz.mono (by omega))
  have sA1 : A ≤ wg.heap.size := by have := Below.size bz; omega
  have q0 : Hid (OwnGraph wg br (.slice ra p rc) (.slice rb q rd) L1 L2) := HY.out.keep bz
  have q1 : Hid (OwnSeg wg bx (.slice xa n xc) xs0) := HX.out.keep bz
  clear BB sA cc0 cc1 zz0 zz1 zz2 zz3 zz4 zz5 HY HX
  have cc0 := d0
  have cc1 := d1
  have zz0 := y0
  have zz1 := y1
  have zz2 := y2
  have zz3 := y3
  have zz4 := y4
  have zz5 := y5
  have HY := q0
  have HX := q1
  have BB := BB1
  have sA := sA1
  clear BB1 sA1 d0 d1 y0 y1 y2 y3 y4 y5 q0 q1
  clear bz
  obtain ⟨qa, qc, rfl⟩ := own_form og.1
  obtain ⟨qb, qd, rfl⟩ := own_form og.2.1
  rw [HP.out.1, HP.out.2, ← hbq] at og
  rw [HP.out.1, HP.out.2]
  clear hbq
  have Bq : Hid (∀ k, ((.slice qa p qc : Value).ownBlock = some k ∨ (.slice qb q qd : Value).ownBlock = some k) → bq ≤ k ∧ k < wg.heap.size) := fun k hk => hk.elim (og.1.lt k) (og.2.1.lt k)
  have HG : Hid (OwnGraph wg bq (.slice qa p qc) (.slice qb q qd) L1 L2) := og
  clear og
  go_wp2_with fail
  obtain ⟨bl, hbl⟩ : ∃ t, t = wg.heap.size := ⟨_, rfl⟩
  have ll0 : btp < bl := by rw [hbl]; exact zz0
  have ll1 : brp < bl := by rw [hbl]; exact zz1
  have ll2 : bkp < bl := by rw [hbl]; exact zz2
  have ll3 : P1 < bl := by rw [hbl]; exact zz3
  have ll4 : bxp < bl := by rw [hbl]; exact zz4
  have ll5 : bqp < bl := by rw [hbl]; exact zz5
  have llA : A ≤ bl := by rw [hbl]; exact sA
  obtain ⟨blp, hblp⟩ : ∃ t, wg.heap.size = t + 1 := ⟨wg.heap.size - 1, by omega⟩
  have el1 : bl ≤ blp + 1 := by omega
  have el2 : blp + 1 ≤ bl := by omega
  have el3 : wg.heap.size ≤ bl := by omega
  have zz6 : blp < wg.heap.size := by omega
  clear hblp
  clear hbl
  obtain ⟨P2, hP2⟩ : ∃ t, t = wg.heap.size := ⟨_, rfl⟩
  generalize hW : wg.alloc (.cells #[.slice qa p qc, .slice qb q qd] 32) = wh
  have nb : Below wg.heap.size wg wh := by rw [← hW]; exact (Below.refl _ _).alloc (Nat.le_refl _) _
  have k3 : wh.heap.size = P2 + 1 := by rw [← hW, hP2]; simp
  have kk0 : wh.cell? ⟨P2, 0, none⟩ = some (.slice qa p qc) := by rw [← hW, hP2]; simp [go_sem]
  have kk1 : wh.cell? ⟨P2, 1, none⟩ = some (.slice qb q qd) := by rw [← hW, hP2]; simp [go_sem]
  have oP2A : A ≤ P2 := by rw [hP2]; exact sA
  have oP20 : btp < P2 := by rw [hP2]; exact zz0
  have oP21 : brp < P2 := by rw [hP2]; exact zz1
  have oP22 : bkp < P2 := by rw [hP2]; exact zz2
  have oP23 : P1 < P2 := by rw [hP2]; exact zz3
  have oP24 : bxp < P2 := by rw [hP2]; exact zz4
  have oP25 : bqp < P2 := by rw [hP2]; exact zz5
  have oP26 : blp < P2 := by rw [hP2]; exact zz6
  have d0 : wh.cell? ⟨P1, 0, none⟩ = some (.slice ra p rc) := (Below.celz nb _ _ _ (by omega)).trans cc0
  have d1 : wh.cell? ⟨P1, 1, none⟩ = some (.slice rb q rd) := (Below.celz nb _ _ _ (by omega)).trans cc1
  have y0 : btp < wh.heap.size := by have := Below.size nb; omega
  have y1 : brp < wh.heap.size := by have := Below.size nb; omega
  have y2 : bkp < wh.heap.size := by have := Below.size nb; omega
  have y3 : P1 < wh.heap.size := by have := Below.size nb; omega
  have y4 : bxp < wh.heap.size := by have := Below.size nb; omega
  have y5 : bqp < wh.heap.size := by have := Below.size nb; omega
  have y6 : blp < wh.heap.size := by have := Below.size nb; omega
  have BB1 : Below A w wh := BB.trans (nb.mono (by omega))
  have sA1 : A ≤ wh.heap.size := by have := Below.size nb; omega
  have q0 : Hid (OwnGraph wh br (.slice ra p rc) (.slice rb q rd) L1 L2) := HY.out.keep nb
  have q1 : Hid (OwnSeg wh bx (.slice xa n xc) xs0) := HX.out.keep nb
  have q2 : Hid (OwnGraph wh bq (.slice qa p qc) (.slice qb q qd) L1 L2) := HG.out.keep nb
  clear BB sA cc0 cc1 zz0 zz1 zz2 zz3 zz4 zz5 zz6 HY HX HG
  have cc0 := d0
  have cc1 := d1
  have zz0 := y0
  have zz1 := y1
  have zz2 := y2
  have zz3 := y3
  have zz4 := y4
  have zz5 := y5
  have zz6 := y6
  have HY := q0
  have HX := q1
  have HG := q2
  have BB := BB1
  have sA := sA1
  clear BB1 sA1 d0 d1 y0 y1 y2 y3 y4 y5 y6 q0 q1 q2
  have cc2 := kk0
  have cc3 := kk1
  have zz7 : P2 < wh.heap.size := by omega
  rw [← hP2]
  have k3P2 := k3
  clear k3 hW nb hP2 kk0 kk1
  have lP1 : Hid (∀ k, ((.slice qa p qc : Value).ownBlock = some k ∨ (.slice qb q qd : Value).ownBlock = some k) → P1 < k ∧ k < P2) := fun k hk => by have := Bq.out k hk; omega
  go_wp2_with fail
  refine (eqGraph _ _ _ _ L1 L1 L2 L2 _ HG.out.nodes HG.out.edges HY.out.nodes HY.out.edges (by rw [HP.out.1]; omega) (by rw [HP.out.2]; omega) (by rw [HP.out.1]; omega) (by rw [HP.out.2]; omega)).mono ?_
  rintro e wi ⟨rfl, bz⟩
  rw [eqB_true.2 rfl, eqB_true.2 rfl]
  have d0 : wi.cell? ⟨P1, 0, none⟩ = some (.slice ra p rc) := (Below.celz bz _ _ _ (by omega)).trans cc0
  have d1 : wi.cell? ⟨P1, 1, none⟩ = some (.slice rb q rd) := (Below.celz bz _ _ _ (by omega)).trans cc1
  have d2 : wi.cell? ⟨P2, 0, none⟩ = some (.slice qa p qc) := (Below.celz bz _ _ _ (by omega)).trans cc2
  have d3 : wi.cell? ⟨P2, 1, none⟩ = some (.slice qb q qd) := (Below.celz bz _ _ _ (by omega)).trans cc3
  have y0 : btp < wi.heap.size := by have := Below.size bz; omega
  have y1 : brp < wi.heap.size := by have := Below.size bz; omega
  have y2 : bkp < wi.heap.size := by have := Below.size bz; omega
  have y3 : P1 < wi.heap.size := by have := Below.size bz; omega
  have y4 : bxp < wi.heap.size := by have := Below.size bz; omega
  have y5 : bqp < wi.heap.size := by have := Below.size bz; omega
  have y6 : blp < wi.heap.size := by have := Below.size bz; omega
  have y7 : P2 < wi.heap.size := by have := Below.size bz; omega
  have BB1 : Below A w wi := BB.trans (bz.mono (by omega))
  have sA1 : A ≤ wi.heap.size := by have := Below.size bz; omega
  have q0 : Hid (OwnGraph wi br (.slice ra p rc) (.slice rb q rd) L1 L2) := HY.out.keep bz
  have q1 : Hid (OwnSeg wi bx (.slice xa n xc) xs0) := HX.out.keep bz
  have q2 : Hid (OwnGraph wi bq (.slice qa p qc) (.slice qb q qd) L1 L2) := HG.out.keep bz
  clear BB sA cc0 cc1 cc2 cc3 zz0 zz1 zz2 zz3 zz4 zz5 zz6 zz7 HY HX HG
  have cc0 := d0
  have cc1 := d1
  have cc2 := d2
  have cc3 := d3
  have zz0 := y0
  have zz1 := y1
  have zz2 := y2
  have zz3 := y3
  have zz4 := y4
  have zz5 := y5
  have zz6 := y6
  have zz7 := y7
  have HY := q0
  have HX := q1
  have HG := q2
  have BB := BB1
  have sA := sA1
  clear BB1 sA1 d0 d1 d2 d3 y0 y1 y2 y3 y4 y5 y6 y7 q0 q1 q2
  clear bz
  go_wp2_with fail
  obtain ⟨bu, hbu⟩ : ∃ t, t = wi.heap.size := ⟨_, rfl⟩
  have lu0 : btp < bu := by rw [hbu]; exact zz0
  have lu1 : brp < bu := by rw [hbu]; exact zz1
  have lu2 : bkp < bu := by rw [hbu]; exact zz2
  have lu3 : P1 < bu := by rw [hbu]; exact zz3
  have lu4 : bxp < bu := by rw [hbu]; exact zz4
  have lu5 : bqp < bu := by rw [hbu]; exact zz5
  have lu6 : blp < bu := by rw [hbu]; exact zz6
  have lu7 : P2 < bu := by rw [hbu]; exact zz7
  have luA : A ≤ bu := by rw [hbu]; exact sA
  obtain ⟨bup, hbup⟩ : ∃ t, wi.heap.size = t + 1 := ⟨wi.heap.size - 1, by omega⟩
  have eu1 : bu ≤ bup + 1 := by omega
  have eu2 : bup + 1 ≤ bu := by omega
  have eu3 : wi.heap.size ≤ bu := by omega
  have zz8 : bup < wi.heap.size := by omega
  clear hbup
  refine (toSegS _ xs0 _ (HK.out _ BB).1 (by rw [← HN.out]; exact ln)).mono ?_
  rintro e wj ⟨u1, rfl, og, bz⟩
  have d0 : wj.cell? ⟨P1, 0, none⟩ = some (.slice ra p rc) := (Below.celz bz _ _ _ (by omega)).trans cc0
  have d1 : wj.cell? ⟨P1, 1, none⟩ = some (.slice rb q rd) := (Below.celz bz _ _ _ (by omega)).trans cc1
  have d2 : wj.cell? ⟨P2, 0, none⟩ = some (.slice qa p qc) := (Below.celz bz _ _ _ (by omega)).trans cc2
  have d3 : wj.cell? ⟨P2, 1, none⟩ = some (.slice qb q qd) := (Below.celz bz _ _ _ (by omega)).trans cc3
  have y0 : btp < wj.heap.size := by have := Below.size bz; omega
  have y1 : brp < wj.heap.size := by have := Below.size bz; omega
  have y2 : bkp < wj.heap.size := by have := Below.size bz; omega
  have y3 : P1 < wj.heap.size := by have := Below.size bz; omega
  have y4 : bxp < wj.heap.size := by have := Below.size bz; omega
  have y5 : bqp < wj.heap.size := by have := Below.size bz; omega
  have y6 : blp < wj.heap.size := by have := Below.size bz; omega
  have y7 : P2 < wj.heap.size := by have := Below.size bz; omega
  have y8 : bup < wj.heap.size := by have := Below.size bz; omega
  have BB1 : Below A w wj := BB.trans (bz.mono (by omega))
  have sA1 : A ≤ wj.heap.size := by have := Below.size bz; omega
  have q0 : Hid (OwnGraph wj br (.slice ra p rc) (.slice rb q rd) L1 L2) := HY.out.keep bz
  have q1 : Hid (OwnSeg wj bx (.slice xa n xc) xs0) := HX.out.keep bz
  have q2 : Hid (OwnGraph wj bq (.slice qa p qc) (.slice qb q qd) L1 L2) := HG.out.keep bz
  clear BB sA cc0 cc1 cc2 cc3 zz0 zz1 zz2 zz3 zz4 zz5 zz6 zz7 zz8 HY HX HG
  have cc0 := d0
  have cc1 := d1
  have cc2 := d2
  have cc3 := d3
  have zz0 := y0
  have zz1 := y1
  have zz2 := y2
  have zz3 := y3
  have zz4 := y4
  have zz5 := y5
  have zz6 := y6
  have zz7 := y7
  have zz8 := y8
  have HY := q0
  have HX := q1
  have HG := q2
  have BB := BB1
  have sA := sA1
  clear BB1 sA1 d0 d1 d2 d3 y0 y1 y2 y3 y4 y5 y6 y7 y8 q0 q1 q2
  clear bz
  obtain ⟨ua, uc, rfl⟩ := own_form og
  rw [← HN.out, ← hbu] at og
  rw [← HN.out]
  clear hbu
  have Bu : Hid (∀ k, (.slice ua n uc : Value).ownBlock = some k → bu ≤ k ∧ k < wj.heap.size) := fun k hk => og.lt k hk
  have HT : Hid (OwnSeg wj bu (.slice ua n uc) xs0) := (by unfold OwnSeg; rw [← HN.out]; exact og)
  clear og
  go_wp2_with fail
  refine (eqSeg_same _ _ xs0 _ HX.out.row HT.out.row (by rw [← HN.out]; exact ln)).mono ?_
  rintro e wk ⟨rfl, bz⟩
  have d0 : wk.cell? ⟨P1, 0, none⟩ = some (.slice ra p rc) := (Below.celz bz _ _ _ (by omega)).trans cc0
  have d1 : wk.cell? ⟨P1, 1, none⟩ = some (.slice rb q rd) := (Below.celz bz _ _ _ (by omega)).trans cc1
  have d2 : wk.cell? ⟨P2, 0, none⟩ = some (.slice qa p qc) := (Below.celz bz _ _ _ (by omega)).trans cc2
  have d3 : wk.cell? ⟨P2, 1, none⟩ = some (.slice qb q qd) := (Below.celz bz _ _ _ (by omega)).trans cc3
  have y0 : btp < wk.heap.size := by have := Below.size bz; omega
  have y1 : brp < wk.heap.size := by have := Below.size bz; omega
  have y2 : bkp < wk.heap.size := by have := Below.size bz; omega
  have y3 : P1 < wk.heap.size := by have := Below.size bz; omega
  have y4 : bxp < wk.heap.size := by have := Below.size bz; omega
  have y5 : bqp < wk.heap.size := by have := Below.size bz; omega
  have y6 : blp < wk.heap.size := by have := Below.size bz; omega
  have y7 : P2 < wk.heap.size := by have := Below.size bz; omega
  have y8 : bup < wk.heap.size := by have := Below.size bz; omega
  have BB1 : Below A w wk := BB.trans (bz.mono (by omega))
  have sA1 : A ≤ wk.heap.size := by have := Below.size bz; omega
  have q0 : Hid (OwnGraph wk br (.slice ra p rc) (.slice rb q rd) L1 L2) := HY.out.keep bz
  have q1 : Hid (OwnSeg wk bx (.slice xa n xc) xs0) := HX.out.keep bz
  have q2 : Hid (OwnGraph wk bq (.slice qa p qc) (.slice qb q qd) L1 L2) := HG.out.keep bz
  have q3 : Hid (OwnSeg wk bu (.slice ua n uc) xs0) := HT.out.keep bz
  clear BB sA cc0 cc1 cc2 cc3 zz0 zz1 zz2 zz3 zz4 zz5 zz6 zz7 zz8 HY HX HG HT
  have cc0 := d0
  have cc1 := d1
  have cc2 := d2
  have cc3 := d3
  have zz0 := y0
  have zz1 := y1
  have zz2 := y2
  have zz3 := y3
  have zz4 := y4
  have zz5 := y5
  have zz6 := y6
  have zz7 := y7
  have zz8 := y8
  have HY := q0
  have HX := q1
  have HG := q2
  have HT := q3
  have BB := BB1
  have sA := sA1
  clear BB1 sA1 d0 d1 d2 d3 y0 y1 y2 y3 y4 y5 y6 y7 y8 q0 q1 q2 q3
  clear bz
  clear HT
  go_wp2_with fail
  refine (markSegS _ _ _ 1 _ _ (by omega) (by omega) ln (by have := HX.out; unfold OwnSeg at this; rw [← HN.out] at this; exact this)).mono ?_
  rintro e wl ⟨rfl, mk, gr⟩
  have gm := But.one gr
  clear gr mk
  clear HX
  have d0 : wl.cell? ⟨P1, 0, none⟩ = some (.slice ra p rc) := (cell_of_blk (gm.blk _ zz3 (fun e => by have := Bx.out _ e; omega))).trans cc0
  have d1 : wl.cell? ⟨P1, 1, none⟩ = some (.slice rb q rd) := (cell_of_blk (gm.blk _ zz3 (fun e => by have := Bx.out _ e; omega))).trans cc1
  have d2 : wl.cell? ⟨P2, 0, none⟩ = some (.slice qa p qc) := (cell_of_blk (gm.blk _ zz7 (fun e => by have := Bx.out _ e; omega))).trans cc2
  have d3 : wl.cell? ⟨P2, 1, none⟩ = some (.slice qb q qd) := (cell_of_blk (gm.blk _ zz7 (fun e => by have := Bx.out _ e; omega))).trans cc3
  have y0 : btp < wl.heap.size := by have := gm.size; omega
  have y1 : brp < wl.heap.size := by have := gm.size; omega
  have y2 : bkp < wl.heap.size := by have := gm.size; omega
  have y3 : P1 < wl.heap.size := by have := gm.size; omega
  have y4 : bxp < wl.heap.size := by have := gm.size; omega
  have y5 : bqp < wl.heap.size := by have := gm.size; omega
  have y6 : blp < wl.heap.size := by have := gm.size; omega
  have y7 : P2 < wl.heap.size := by have := gm.size; omega
  have y8 : bup < wl.heap.size := by have := gm.size; omega
  have BB1 : Below A w wl := gm.below BB sA (fun k hk => by have := Bx.out k hk; omega)
  have sA1 : A ≤ wl.heap.size := by have := gm.size; omega
  have q0 : Hid (OwnGraph wl br (.slice ra p rc) (.slice rb q rd) L1 L2) := HY.out.but2 gm (fun k h e => by have := Br.out k h; have := Bx.out k e; omega)
  have q1 : Hid (OwnGraph wl bq (.slice qa p qc) (.slice qb q qd) L1 L2) := HG.out.but2 gm (fun k h e => by have := Bq.out k h; have := Bx.out k e; omega)
  clear BB sA cc0 cc1 cc2 cc3 zz0 zz1 zz2 zz3 zz4 zz5 zz6 zz7 zz8 HY HG
  have cc0 := d0
  have cc1 := d1
  have cc2 := d2
  have cc3 := d3
  have zz0 := y0
  have zz1 := y1
  have zz2 := y2
  have zz3 := y3
  have zz4 := y4
  have zz5 := y5
  have zz6 := y6
  have zz7 := y7
  have zz8 := y8
  have HY := q0
  have HG := q1
  have BB := BB1
  have sA := sA1
  clear BB1 sA1 d0 d1 d2 d3 y0 y1 y2 y3 y4 y5 y6 y7 y8 q0 q1
  clear gm
  have tk : ¬ (1 + 2 * (n : Int) < 0) := by omega
  go_wp2_with fail
  refine (eqGraph _ _ _ _ L1 L1 L2 L2 _ HG.out.nodes HG.out.edges HY.out.nodes HY.out.edges (by rw [HP.out.1]; omega) (by rw [HP.out.2]; omega) (by rw [HP.out.1]; omega) (by rw [HP.out.2]; omega)).mono ?_
  rintro e wm ⟨rfl, bz⟩
  rw [eqB_true.2 rfl, eqB_true.2 rfl]
  have d0 : wm.cell? ⟨P1, 0, none⟩ = some (.slice ra p rc) := (Below.celz bz _ _ _ (by omega)).trans cc0
  have d1 : wm.cell? ⟨P1, 1, none⟩ = some (.slice rb q rd) := (Below.celz bz _ _ _ (by omega)).trans cc1
  have d2 : wm.cell? ⟨P2, 0, none⟩ = some (.slice qa p qc) := (Below.celz bz _ _ _ (by omega)).trans cc2
  have d3 : wm.cell? ⟨P2, 1, none⟩ = some (.slice qb q qd) := (Below.celz bz _ _ _ (by omega)).trans cc3
  have y0 : btp < wm.heap.size := by have := Below.size bz; omega
  have y1 : brp < wm.heap.size := by have := Below.size bz; omega
  have y2 : bkp < wm.heap.size := by have := Below.size bz; omega
  have y3 : P1 < wm.heap.size := by have := Below.size bz; omega
  have y4 : bxp < wm.heap.size := by have := Below.size bz; omega
  have y5 : bqp < wm.heap.size := by have := Below.size bz; omega
  have y6 : blp < wm.heap.size := by have := Below.size bz; omega
  have y7 : P2 < wm.heap.size := by have := Below.size bz; omega
  have y8 : bup < wm.heap.size := by have := Below.size bz; omega
  have BB1 : Below A w wm := BB.trans (bz.mono (by omega))
  have sA1 : A ≤ wm.heap.size := by have := Below.size bz; omega
  have q0 : Hid (OwnGraph wm br (.slice ra p rc) (.slice rb q rd) L1 L2) := HY.out.keep bz
  have q1 : Hid (OwnGraph wm bq (.slice qa p qc) (.slice qb q qd) L1 L2) := HG.out.keep bz
  clear BB sA cc0 cc1 cc2 cc3 zz0 zz1 zz2 zz3 zz4 zz5 zz6 zz7 zz8 HY HG
  have cc0 := d0
  have cc1 := d1
  have cc2 := d2
  have cc3 := d3
  have zz0 := y0
  have zz1 := y1
  have zz2 := y2
  have zz3 := y3
  have zz4 := y4
  have zz5 := y5
  have zz6 := y6
  have zz7 := y7
  have zz8 := y8
  have HY := q0
  have HG := q1
  have BB := BB1
  have sA := sA1
  clear BB1 sA1 d0 d1 d2 d3 y0 y1 y2 y3 y4 y5 y6 y7 y8 q0 q1
  clear bz
  go_wp2_with fail
  refine (markGraph _ _ _ L1 L2 1 _ (by omega) (by omega) (by rw [HP.out.1]; omega) (by rw [HP.out.2]; omega) HG.out).mono ?_
  rintro e wn ⟨rfl, mk, gm⟩
  rw [HP.out.1, HP.out.2] at mk ⊢
  clear HG
  have d0 : wn.cell? ⟨P1, 0, none⟩ = some (.slice ra p rc) := (cell_of_blk (gm.blk _ zz3 (fun e => by have := lP1.out _ e; have := Bq.out _ e; omega))).trans cc0
  have d1 : wn.cell? ⟨P1, 1, none⟩ = some (.slice rb q rd) := (cell_of_blk (gm.blk _ zz3 (fun e => by have := lP1.out _ e; have := Bq.out _ e; omega))).trans cc1
  have d2 : wn.cell? ⟨P2, 0, none⟩ = some (.slice qa p qc) := (cell_of_blk (gm.blk _ zz7 (fun e => by have := lP1.out _ e; have := Bq.out _ e; omega))).trans cc2
  have d3 : wn.cell? ⟨P2, 1, none⟩ = some (.slice qb q qd) := (cell_of_blk (gm.blk _ zz7 (fun e => by have := lP1.out _ e; have := Bq.out _ e; omega))).trans cc3
  have y0 : btp < wn.heap.size := by have := gm.size; omega
  have y1 : brp < wn.heap.size := by have := gm.size; omega
  have y2 : bkp < wn.heap.size := by have := gm.size; omega
  have y3 : P1 < wn.heap.size := by have := gm.size; omega
  have y4 : bxp < wn.heap.size := by have := gm.size; omega
  have y5 : bqp < wn.heap.size := by have := gm.size; omega
  have y6 : blp < wn.heap.size := by have := gm.size; omega
  have y7 : P2 < wn.heap.size := by have := gm.size; omega
  have y8 : bup < wn.heap.size := by have := gm.size; omega
  have BB1 : Below A w wn := gm.below BB sA (fun k hk => by have := Bq.out k hk; omega)
  have sA1 : A ≤ wn.heap.size := by have := gm.size; omega
  have q0 : Hid (OwnGraph wn br (.slice ra p rc) (.slice rb q rd) L1 L2) := HY.out.but2 gm (fun k h e => by have := Br.out k h; have := Bq.out k e; omega)
  clear BB sA cc0 cc1 cc2 cc3 zz0 zz1 zz2 zz3 zz4 zz5 zz6 zz7 zz8 HY
  have cc0 := d0
  have cc1 := d1
  have cc2 := d2
  have cc3 := d3
  have zz0 := y0
  have zz1 := y1
  have zz2 := y2
  have zz3 := y3
  have zz4 := y4
  have zz5 := y5
  have zz6 := y6
  have zz7 := y7
  have zz8 := y8
  have HY := q0
  have BB := BB1
  have sA := sA1
  clear BB1 sA1 d0 d1 d2 d3 y0 y1 y2 y3 y4 y5 y6 y7 y8 q0
  have HMK : Hid (OwnGraph wn bq (.slice qa p qc) (.slice qb q qd) (marksNode 1 p) (marksEdge (1 + 2 * p) q)) := mk
  clear gm mk
  have tm : ¬ (1 + 2 * (p : Int) + 5 * (q : Int) < 0) := by omega
  have tn : ((1 + 2 * (p : Int) + 5 * (q : Int)) != (1 + 2 * (p : Int) + 5 * (q : Int))) = false := by simp
  go_wp2_with fail
  refine (heldGraph _ _ p q 1 _ (by omega) (by omega) (by omega) (by omega) HMK.out.nodes HMK.out.edges).mono ?_
  rintro e wo ⟨rfl, bz⟩
  have d0 : wo.cell? ⟨P1, 0, none⟩ = some (.slice ra p rc) := (Below.celz bz _ _ _ (by omega)).trans cc0
  have d1 : wo.cell? ⟨P1, 1, none⟩ = some (.slice rb q rd) := (Below.celz bz _ _ _ (by omega)).trans cc1
  have d2 : wo.cell? ⟨P2, 0, none⟩ = some (.slice qa p qc) := (Below.celz bz _ _ _ (by omega)).trans cc2
  have d3 : wo.cell? ⟨P2, 1, none⟩ = some (.slice qb q qd) := (Below.celz bz _ _ _ (by omega)).trans cc3
  have y0 : btp < wo.heap.size := by have := Below.size bz; omega
  have y1 : brp < wo.heap.size := by have := Below.size bz; omega
  have y2 : bkp < wo.heap.size := by have := Below.size bz; omega
  have y3 : P1 < wo.heap.size := by have := Below.size bz; omega
  have y4 : bxp < wo.heap.size := by have := Below.size bz; omega
  have y5 : bqp < wo.heap.size := by have := Below.size bz; omega
  have y6 : blp < wo.heap.size := by have := Below.size bz; omega
  have y7 : P2 < wo.heap.size := by have := Below.size bz; omega
  have y8 : bup < wo.heap.size := by have := Below.size bz; omega
  have BB1 : Below A w wo := BB.trans (bz.mono (by omega))
  have sA1 : A ≤ wo.heap.size := by have := Below.size bz; omega
  have q0 : Hid (OwnGraph wo br (.slice ra p rc) (.slice rb q rd) L1 L2) := HY.out.keep bz
  have q1 : Hid (OwnGraph wo bq (.slice qa p qc) (.slice qb q qd) (marksNode 1 p) (marksEdge (1 + 2 * p) q)) := HMK.out.keep bz
  clear BB sA cc0 cc1 cc2 cc3 zz0 zz1 zz2 zz3 zz4 zz5 zz6 zz7 zz8 HY HMK
  have cc0 := d0
  have cc1 := d1
  have cc2 := d2
  have cc3 := d3
  have zz0 := y0
  have zz1 := y1
  have zz2 := y2
  have zz3 := y3
  have zz4 := y4
  have zz5 := y5
  have zz6 := y6
  have zz7 := y7
  have zz8 := y8
  have HY := q0
  have HMK := q1
  have BB := BB1
  have sA := sA1
  clear BB1 sA1 d0 d1 d2 d3 y0 y1 y2 y3 y4 y5 y6 y7 y8 q0 q1
  clear bz
  go_wp2_with fail
  obtain ⟨bv, hbv⟩ : ∃ t, t = wo.heap.size := ⟨_, rfl⟩
  have lv0 : btp < bv := by rw [hbv]; exact zz0
  have lv1 : brp < bv := by rw [hbv]; exact zz1
  have lv2 : bkp < bv := by rw [hbv]; exact zz2
  have lv3 : P1 < bv := by rw [hbv]; exact zz3
  have lv4 : bxp < bv := by rw [hbv]; exact zz4
  have lv5 : bqp < bv := by rw [hbv]; exact zz5
  have lv6 : blp < bv := by rw [hbv]; exact zz6
  have lv7 : P2 < bv := by rw [hbv]; exact zz7
  have lv8 : bup < bv := by rw [hbv]; exact zz8
  have lvA : A ≤ bv := by rw [hbv]; exact sA
  obtain ⟨bvp, hbvp⟩ : ∃ t, wo.heap.size = t + 1 := ⟨wo.heap.size - 1, by omega⟩
  have ev1 : bv ≤ bvp + 1 := by omega
  have ev2 : bvp + 1 ≤ bv := by omega
  have ev3 : wo.heap.size ≤ bv := by omega
  have zz9 : bvp < wo.heap.size := by omega
  clear hbvp
  refine (toSegS _ xs0 _ (HK.out _ BB).1 (by rw [← HN.out]; exact ln)).mono ?_
  rintro e wp ⟨v1, rfl, og, bz⟩
  have d0 : wp.cell? ⟨P1, 0, none⟩ = some (.slice ra p rc) := (Below.celz bz _ _ _ (by omega)).trans cc0
  have d1 : wp.cell? ⟨P1, 1, none⟩ = some (.slice rb q rd) := (Below.celz bz _ _ _ (by omega)).trans cc1
  have d2 : wp.cell? ⟨P2, 0, none⟩ = some (.slice qa p qc) := (Below.celz bz _ _ _ (by omega)).trans cc2
  have d3 : wp.cell? ⟨P2, 1, none⟩ = some (.slice qb q qd) := (Below.celz bz _ _ _ (by omega)).trans cc3
  have y0 : btp < wp.heap.size := by have := Below.size bz; omega
  have y1 : brp < wp.heap.size := by have := Below.size bz; omega
  have y2 : bkp < wp.heap.size := by have := Below.size bz; omega
  have y3 : P1 < wp.heap.size := by have := Below.size bz; omega
  have y4 : bxp < wp.heap.size := by have := Below.size bz; omega
  have y5 : bqp < wp.heap.size := by have := Below.size bz; omega
  have y6 : blp < wp.heap.size := by have := Below.size bz; omega
  have y7 : P2 < wp.heap.size := by have := Below.size bz; omega
  have y8 : bup < wp.heap.size := by have := Below.size bz; omega
  have y9 : bvp < wp.heap.size := by have := Below.size bz; omega
  have BB1 : Below A w wp := BB.trans (bz.mono (by omega))
  have sA1 : A ≤ wp.heap.size := by have := Below.size bz; omega
  have q0 : Hid (OwnGraph wp br (.slice ra p rc) (.slice rb q rd) L1 L2) := HY.out.keep bz
  have q1 : Hid (OwnGraph wp bq (.slice qa p qc) (.slice qb q qd) (marksNode 1 p) (marksEdge (1 + 2 * p) q)) := HMK.out.keep bz
  clear BB sA cc0 cc1 cc2 cc3 zz0 zz1 zz2 zz3 zz4 zz5 zz6 zz7 zz8 zz9 HY HMK
  have cc0 := d0
  have cc1 := d1
  have cc2 := d2
  have cc3 := d3
  have zz0 := y0
  have zz1 := y1
  have zz2 := y2
  have zz3 := y3
  have zz4 := y4
  have zz5 := y5
  have zz6 := y6
  have zz7 := y7
  have zz8 := y8
  have zz9 := y9
  have HY := q0
  have HMK := q1
  have BB := BB1
  have sA := sA1
  clear BB1 sA1 d0 d1 d2 d3 y0 y1 y2 y3 y4 y5 y6 y7 y8 y9 q0 q1
  clear bz
  obtain ⟨va, vc, rfl⟩ := own_form og
  rw [← HN.out, ← hbv] at og
  rw [← HN.out]
  clear hbv
  have Bv : Hid (∀ k, (.slice va n vc : Value).ownBlock = some k → bv ≤ k ∧ k < wp.heap.size) := fun k hk => og.lt k hk
  have HT : Hid (OwnSeg wp bv (.slice va n vc) xs0) := (by unfold OwnSeg; rw [← HN.out]; exact og)
  clear og
  go_wp2_with fail
  obtain ⟨bh, hbh⟩ : ∃ t, t = wp.heap.size := ⟨_, rfl⟩
  have lh0 : btp < bh := by rw [hbh]; exact zz0
  have lh1 : brp < bh := by rw [hbh]; exact zz1
  have lh2 : bkp < bh := by rw [hbh]; exact zz2
  have lh3 : P1 < bh := by rw [hbh]; exact zz3
  have lh4 : bxp < bh := by rw [hbh]; exact zz4
  have lh5 : bqp < bh := by rw [hbh]; exact zz5
  have lh6 : blp < bh := by rw [hbh]; exact zz6
  have lh7 : P2 < bh := by rw [hbh]; exact zz7
  have lh8 : bup < bh := by rw [hbh]; exact zz8
  have lh9 : bvp < bh := by rw [hbh]; exact zz9
  have lhA : A ≤ bh := by rw [hbh]; exact sA
  obtain ⟨bhp, hbhp⟩ : ∃ t, wp.heap.size = t + 1 := ⟨wp.heap.size - 1, by omega⟩
  have eh1 : bh ≤ bhp + 1 := by omega
  have eh2 : bhp + 1 ≤ bh := by omega
  have eh3 : wp.heap.size ≤ bh := by omega
  have zz10 : bhp < wp.heap.size := by omega
  clear hbhp
  refine (HIM.out _ _ HT.out.row (HK.out _ BB).2).mono ?_
  rintro e wq ⟨h1, h2, rfl, og, bz⟩
  have d0 : wq.cell? ⟨P1, 0, none⟩ = some (.slice ra p rc) := (Below.celz bz _ _ _ (by omega)).trans cc0
  have d1 : wq.cell? ⟨P1, 1, none⟩ = some (.slice rb q rd) := (Below.celz bz _ _ _ (by omega)).trans cc1
  have d2 : wq.cell? ⟨P2, 0, none⟩ = some (.slice qa p qc) := (Below.celz bz _ _ _ (by omega)).trans cc2
  have d3 : wq.cell? ⟨P2, 1, none⟩ = some (.slice qb q qd) := (Below.celz bz _ _ _ (by omega)).trans cc3
  have y0 : btp < wq.heap.size := by have := Below.size bz; omega
  have y1 : brp < wq.heap.size := by have := Below.size bz; omega
  have y2 : bkp < wq.heap.size := by have := Below.size bz; omega
  have y3 : P1 < wq.heap.size := by have := Below.size bz; omega
  have y4 : bxp < wq.heap.size := by have := Below.size bz; omega
  have y5 : bqp < wq.heap.size := by have := Below.size bz; omega
  have y6 : blp < wq.heap.size := by have := Below.size bz; omega
  have y7 : P2 < wq.heap.size := by have := Below.size bz; omega
  have y8 : bup < wq.heap.size := by have := Below.size bz; omega
  have y9 : bvp < wq.heap.size := by have := Below.size bz; omega
  have y10 : bhp < wq.heap.size := by have := Below.size bz; omega
  have BB1 : Below A w wq := BB.trans (bz.mono (by omega))
  have sA1 : A ≤ wq.heap.size := by have := Below.size bz; omega
  have q0 : Hid (OwnGraph wq br (.slice ra p rc) (.slice rb q rd) L1 L2) := HY.out.keep bz
  have q1 : Hid (OwnGraph wq bq (.slice qa p qc) (.slice qb q qd) (marksNode 1 p) (marksEdge (1 + 2 * p) q)) := HMK.out.keep bz
  have q2 : Hid (OwnSeg wq bv (.slice va n vc) xs0) := HT.out.keep bz
  clear BB sA cc0 cc1 cc2 cc3 zz0 zz1 zz2 zz3 zz4 zz5 zz6 zz7 zz8 zz9 zz10 HY HMK HT
  have cc0 := d0
  have cc1 := d1
  have cc2 := d2
  have cc3 := d3
  have zz0 := y0
  have zz1 := y1
  have zz2 := y2
  have zz3 := y3
  have zz4 := y4
  have zz5 := y5
  have zz6 := y6
  have zz7 := y7
  have zz8 := y8
  have zz9 := y9
  have zz10 := y10
  have HY := q0
  have HMK := q1
  have HT := q2
  have BB := BB1
  have sA := sA1
  clear BB1 sA1 d0 d1 d2 d3 y0 y1 y2 y3 y4 y5 y6 y7 y8 y9 y10 q0 q1 q2
  clear bz
  obtain ⟨ha, hc, rfl⟩ := own_form og.1
  obtain ⟨hb, hd, rfl⟩ := own_form og.2.1
  rw [HP.out.1, HP.out.2, ← hbh] at og
  rw [HP.out.1, HP.out.2]
  clear hbh
  have Bh : Hid (∀ k, ((.slice ha p hc : Value).ownBlock = some k ∨ (.slice hb q hd : Value).ownBlock = some k) → bh ≤ k ∧ k < wq.heap.size) := fun k hk => hk.elim (og.1.lt k) (og.2.1.lt k)
  have HH : Hid (OwnGraph wq bh (.slice ha p hc) (.slice hb q hd) L1 L2) := og
  clear og
  clear HT
  go_wp2_with fail
  obtain ⟨bm, hbm⟩ : ∃ t, t = wq.heap.size := ⟨_, rfl⟩
  have lm0 : btp < bm := by rw [hbm]; exact zz0
  have lm1 : brp < bm := by rw [hbm]; exact zz1
  have lm2 : bkp < bm := by rw [hbm]; exact zz2
  have lm3 : P1 < bm := by rw [hbm]; exact zz3
  have lm4 : bxp < bm := by rw [hbm]; exact zz4
  have lm5 : bqp < bm := by rw [hbm]; exact zz5
  have lm6 : blp < bm := by rw [hbm]; exact zz6
  have lm7 : P2 < bm := by rw [hbm]; exact zz7
  have lm8 : bup < bm := by rw [hbm]; exact zz8
  have lm9 : bvp < bm := by rw [hbm]; exact zz9
  have lm10 : bhp < bm := by rw [hbm]; exact zz10
  have lmA : A ≤ bm := by rw [hbm]; exact sA
  obtain ⟨bmp, hbmp⟩ : ∃ t, wq.heap.size = t + 1 := ⟨wq.heap.size - 1, by omega⟩
  have em1 : bm ≤ bmp + 1 := by omega
  have em2 : bmp + 1 ≤ bm := by omega
  have em3 : wq.heap.size ≤ bm := by omega
  have zz11 : bmp < wq.heap.size := by omega
  clear hbmp
  clear hbm
  obtain ⟨P3, hP3⟩ : ∃ t, t = wq.heap.size := ⟨_, rfl⟩
  generalize hW : wq.alloc (.cells #[.slice ha p hc, .slice hb q hd] 32) = wr
  have nb : Below wq.heap.size wq wr := by rw [← hW]; exact (Below.refl _ _).alloc (Nat.le_refl _) _
  have k3 : wr.heap.size = P3 + 1 := by rw [← hW, hP3]; simp
  have kk0 : wr.cell? ⟨P3, 0, none⟩ = some (.slice ha p hc) := by rw [← hW, hP3]; simp [go_sem]
  have kk1 : wr.cell? ⟨P3, 1, none⟩ = some (.slice hb q hd) := by rw [← hW, hP3]; simp [go_sem]
  have oP3A : A ≤ P3 := by rw [hP3]; exact sA
  have oP30 : btp < P3 := by rw [hP3]; exact zz0
  have oP31 : brp < P3 := by rw [hP3]; exact zz1
  have oP32 : bkp < P3 := by rw [hP3]; exact zz2
  have oP33 : P1 < P3 := by rw [hP3]; exact zz3
  have oP34 : bxp < P3 := by rw [hP3]; exact zz4
  have oP35 : bqp < P3 := by rw [hP3]; exact zz5
  have oP36 : blp < P3 := by rw [hP3]; exact zz6
  have oP37 : P2 < P3 := by rw [hP3]; exact zz7
  have oP38 : bup < P3 := by rw [hP3]; exact zz8
  have oP39 : bvp < P3 := by rw [hP3]; exact zz9
  have oP310 : bhp < P3 := by rw [hP3]; exact zz10
  have oP311 : bmp < P3 := by rw [hP3]; exact zz11
  have d0 : wr.cell? ⟨P1, 0, none⟩ = some (.slice ra p rc) := (Below.celz nb _ _ _ (by omega)).trans cc0
  have d1 : wr.cell? ⟨P1, 1, none⟩ = some (.slice rb q rd) := (Below.celz nb _ _ _ (by omega)).trans cc1
  have d2 : wr.cell? ⟨P2, 0, none⟩ = some (.slice qa p qc) := (Below.celz nb _ _ _ (by omega)).trans cc2
  have d3 : wr.cell? ⟨P2, 1, none⟩ = some (.slice qb q qd) := (Below.celz nb _ _ _ (by omega)).trans cc3
  have y0 : btp < wr.heap.size := by have := Below.size nb; omega
  have y1 : brp < wr.heap.size := by have := Below.size nb; omega
  have y2 : bkp < wr.heap.size := by have := Below.size nb; omega
  have y3 : P1 < wr.heap.size := by have := Below.size nb; omega
  have y4 : bxp < wr.heap.size := by have := Below.size nb; omega
  have y5 : bqp < wr.heap.size := by have := Below.size nb; omega
  have y6 : blp < wr.heap.size := by have := Below.size nb; omega
  have y7 : P2 < wr.heap.size := by have := Below.size nb; omega
  have y8 : bup < wr.heap.size := by have := Below.size nb; omega
  have y9 : bvp < wr.heap.size := by have := Below.size nb; omega
  have y10 : bhp < wr.heap.size := by have := Below.size nb; omega
  have y11 : bmp < wr.heap.size := by have := Below.size nb; omega
  have BB1 : Below A w wr := BB.trans (nb.mono (by omega))
  have sA1 : A ≤ wr.heap.size := by have := Below.size nb; omega
  have q0 : Hid (OwnGraph wr br (.slice ra p rc) (.slice rb q rd) L1 L2) := HY.out.keep nb
  have q1 : Hid (OwnGraph wr bq (.slice qa p qc) (.slice qb q qd) (marksNode 1 p) (marksEdge (1 + 2 * p) q)) := HMK.out.keep nb
  have q2 : Hid (OwnGraph wr bh (.slice ha p hc) (.slice hb q hd) L1 L2) := HH.out.keep nb
  clear BB sA cc0 cc1 cc2 cc3 zz0 zz1 zz2 zz3 zz4 zz5 zz6 zz7 zz8 zz9 zz10 zz11 HY HMK HH
  have cc0 := d0
  have cc1 := d1
  have cc2 := d2
  have cc3 := d3
  have zz0 := y0
  have zz1 := y1
  have zz2 := y2
  have zz3 := y3
  have zz4 := y4
  have zz5 := y5
  have zz6 := y6
  have zz7 := y7
  have zz8 := y8
  have zz9 := y9
  have zz10 := y10
  have zz11 := y11
  have HY := q0
  have HMK := q1
  have HH := q2
  have BB := BB1
  have sA := sA1
  clear BB1 sA1 d0 d1 d2 d3 y0 y1 y2 y3 y4 y5 y6 y7 y8 y9 y10 y11 q0 q1 q2
  have cc4 := kk0
  have cc5 := kk1
  have zz12 : P3 < wr.heap.size := by omega
  rw [← hP3]
  have k3P3 := k3
  clear k3 hW nb hP3 kk0 kk1
  go_wp2_with fail
  refine (eqGraph _ _ _ _ L1 L1 L2 L2 _ HH.out.nodes HH.out.edges HY.out.nodes HY.out.edges (by rw [HP.out.1]; omega) (by rw [HP.out.2]; omega) (by rw [HP.out.1]; omega) (by rw [HP.out.2]; omega)).mono ?_
  rintro e ws ⟨rfl, bz⟩
  rw [eqB_true.2 rfl, eqB_true.2 rfl]
  have d0 : ws.cell? ⟨P1, 0, none⟩ = some (.slice ra p rc) := (Below.celz bz _ _ _ (by omega)).trans cc0
  have d1 : ws.cell? ⟨P1, 1, none⟩ = some (.slice rb q rd) := (Below.celz bz _ _ _ (by omega)).trans cc1
  have d2 : ws.cell? ⟨P2, 0, none⟩ = some (.slice qa p qc) := (Below.celz bz _ _ _ (by omega)).trans cc2
  have d3 : ws.cell? ⟨P2, 1, none⟩ = some (.slice qb q qd) := (Below.celz bz _ _ _ (by omega)).trans cc3
  have d4 : ws.cell? ⟨P3, 0, none⟩ = some (.slice ha p hc) := (Below.celz bz _ _ _ (by omega)).trans cc4
  have d5 : ws.cell? ⟨P3, 1, none⟩ = some (.slice hb q hd) := (Below.celz bz _ _ _ (by omega)).trans cc5
  have y0 : btp < ws.heap.size := by have := Below.size bz; omega
  have y1 : brp < ws.heap.size := by have := Below.size bz; omega
  have y2 : bkp < ws.heap.size := by have := Below.size bz; omega
  have y3 : P1 < ws.heap.size := by have := Below.size bz; omega
  have y4 : bxp < ws.heap.size := by have := Below.size bz; omega
  have y5 : bqp < ws.heap.size := by have := Below.size bz; omega
  have y6 : blp < ws.heap.size := by have := Below.size bz; omega
  have y7 : P2 < ws.heap.size := by have := Below.size bz; omega
  have y8 : bup < ws.heap.size := by have := Below.size bz; omega
  have y9 : bvp < ws.heap.size := by have := Below.size bz; omega
  have y10 : bhp < ws.heap.size := by have := Below.size bz; omega
  have y11 : bmp < ws.heap.size := by have := Below.size bz; omega
  have y12 : P3 < ws.heap.size := by have := Below.size bz; omega
  have BB1 : Below A w ws := BB.trans (bz.mono (by omega))
  have sA1 : A ≤ ws.heap.size := by have := Below.size bz; omega
  have q0 : Hid (OwnGraph ws br (.slice ra p rc) (.slice rb q rd) L1 L2) := HY.out.keep bz
  have q1 : Hid (OwnGraph ws bq (.slice qa p qc) (.slice qb q qd) (marksNode 1 p) (marksEdge (1 + 2 * p) q)) := HMK.out.keep bz
  have q2 : Hid (OwnGraph ws bh (.slice ha p hc) (.slice hb q hd) L1 L2) := HH.out.keep bz
  clear BB sA cc0 cc1 cc2 cc3 cc4 cc5 zz0 zz1 zz2 zz3 zz4 zz5 zz6 zz7 zz8 zz9 zz10 zz11 zz12 HY HMK HH
  have cc0 := d0
  have cc1 := d1
  have cc2 := d2
  have cc3 := d3
  have cc4 := d4
  have cc5 := d5
  have zz0 := y0
  have zz1 := y1
  have zz2 := y2
  have zz3 := y3
  have zz4 := y4
  have zz5 := y5
  have zz6 := y6
  have zz7 := y7
  have zz8 := y8
  have zz9 := y9
  have zz10 := y10
  have zz11 := y11
  have zz12 := y12
  have HY := q0
  have HMK := q1
  have HH := q2
  have BB := BB1
  have sA := sA1
  clear BB1 sA1 d0 d1 d2 d3 d4 d5 y0 y1 y2 y3 y4 y5 y6 y7 y8 y9 y10 y11 y12 q0 q1 q2
  clear bz
  go_wp2_with fail
  refine (heldGraph _ _ p q 1 _ (by omega) (by omega) (by omega) (by omega) HMK.out.nodes HMK.out.edges).mono ?_
  rintro e wt ⟨rfl, bz⟩
  have d0 : wt.cell? ⟨P1, 0, none⟩ = some (.slice ra p rc) := (Below.celz bz _ _ _ (by omega)).trans cc0
  have d1 : wt.cell? ⟨P1, 1, none⟩ = some (.slice rb q rd) := (Below.celz bz _ _ _ (by omega)).trans cc1
  have d2 : wt.cell? ⟨P2, 0, none⟩ = some (.slice qa p qc) := (Below.celz bz _ _ _ (by omega)).trans cc2
  have d3 : wt.cell? ⟨P2, 1, none⟩ = some (.slice qb q qd) := (Below.celz bz _ _ _ (by omega)).trans cc3
  have d4 : wt.cell? ⟨P3, 0, none⟩ = some (.slice ha p hc) := (Below.celz bz _ _ _ (by omega)).trans cc4
  have d5 : wt.cell? ⟨P3, 1, none⟩ = some (.slice hb q hd) := (Below.celz bz _ _ _ (by omega)).trans cc5
  have y0 : btp < wt.heap.size := by have := Below.size bz; omega
  have y1 : brp < wt.heap.size := by have := Below.size bz; omega
  have y2 : bkp < wt.heap.size := by have := Below.size bz; omega
  have y3 : P1 < wt.heap.size := by have := Below.size bz; omega
  have y4 : bxp < wt.heap.size := by have := Below.size bz; omega
  have y5 : bqp < wt.heap.size := by have := Below.size bz; omega
  have y6 : blp < wt.heap.size := by have := Below.size bz; omega
  have y7 : P2 < wt.heap.size := by have := Below.size bz; omega
  have y8 : bup < wt.heap.size := by have := Below.size bz; omega
  have y9 : bvp < wt.heap.size := by have := Below.size bz; omega
  have y10 : bhp < wt.heap.size := by have := Below.size bz; omega
  have y11 : bmp < wt.heap.size := by have := Below.size bz; omega
  have y12 : P3 < wt.heap.size := by have := Below.size bz; omega
  have BB1 : Below A w wt := BB.trans (bz.mono (by omega))
  have sA1 : A ≤ wt.heap.size := by have := Below.size bz; omega
  have q0 : Hid (OwnGraph wt br (.slice ra p rc) (.slice rb q rd) L1 L2) := HY.out.keep bz
  have q1 : Hid (OwnGraph wt bq (.slice qa p qc) (.slice qb q qd) (marksNode 1 p) (marksEdge (1 + 2 * p) q)) := HMK.out.keep bz
  have q2 : Hid (OwnGraph wt bh (.slice ha p hc) (.slice hb q hd) L1 L2) := HH.out.keep bz
  clear BB sA cc0 cc1 cc2 cc3 cc4 cc5 zz0 zz1 zz2 zz3 zz4 zz5 zz6 zz7 zz8 zz9 zz10 zz11 zz12 HY HMK HH
  have cc0 := d0
  have cc1 := d1
  have cc2 := d2
  have cc3 := d3
  have cc4 := d4
  have cc5 := d5
  have zz0 := y0
  have zz1 := y1
  have zz2 := y2
  have zz3 := y3
  have zz4 := y4
  have zz5 := y5
  have zz6 := y6
  have zz7 := y7
  have zz8 := y8
  have zz9 := y9
  have zz10 := y10
  have zz11 := y11
  have zz12 := y12
  have HY := q0
  have HMK := q1
  have HH := q2
  have BB := BB1
  have sA := sA1
  clear BB1 sA1 d0 d1 d2 d3 d4 d5 y0 y1 y2 y3 y4 y5 y6 y7 y8 y9 y10 y11 y12 q0 q1 q2
  clear bz
  go_wp2_with fail
  go_ret
  exact ⟨rfl, (by have := BB; rw [HA.out] at this; exact this)⟩

theorem door_met (os : Os) (args : Array Value) : laidMetH Tryz.prog Rows.fnExactStoreReadRow.laid ((World.doorLaid Tryz.prog 85 os).forCall (fun _ _ => 0) ⟨#[], args, []⟩).memory :=
  laidMetH_of_parts3 (fuel := 8) (laidMet_of_run' 8 (by kernel_rfl) (by kernel_rfl)) (by kernel_rfl) (by kernel_rfl)

set_option maxRecDepth 100000 in
set_option maxHeartbeats 1000000 in
theorem lifted (os : Os) (started : os.Started) (H : Type) (enc : TypeId × Value → H) :
    ReturnsInHanded {} Tryz.checked os 4 .any (fun w args => (Rows.fnExactStoreReadSpec.pre enc Tryz.prog Tryz.f4 [] false w args ∧ laidMetH Tryz.prog Rows.fnExactStoreReadRow.laid w) ∧ sizedMet enc Tryz.prog Tryz.f4 (OpenSpec.ofChange Rows.fnExactStoreReadSpec) false w args)
      (Rows.fnExactStoreReadSpec.post enc Tryz.prog Tryz.f4 false true false false) := by
  refine returnsInHanded_of_change_and (C := Tryz.checked) (X := fun w _ => laidMetH Tryz.prog Rows.fnExactStoreReadRow.laid w) (fun _ _ _ hh h => h.of_heap hh) own started (by kernel_rfl) Tryz.func4
    (ChangeSpec.witness_shaped (enc := enc) (C := Tryz.checked) (os := os) (X := fun w _ => laidMetH Tryz.prog Rows.fnExactStoreReadRow.laid w) false (World.doorLaid Tryz.prog 85 os) #[.slice none 0 0] 8 rfl (World.shaped_of_RefB (by kernel_rfl) (by kernel_rfl)) (by kernel_rfl) (by kernel_rfl) (by kernel_rfl) (door_met os _)) ?_
  intro W base args ds gs before hval0 hW _ _ hL _
  have hval : ∀ (j : Nat) t v, Tryz.f4.params[j]? = some t → args[j]? = some v → Value.okWide Tryz.prog W .any base t v := hval0
  have hW' := hW
  obtain ⟨p, q, hA0, hV0, rfl, hfz, hnd⟩ := hW
  have hA : DataW.TrodAll enc Tryz.prog W 0 (fun _ => true) true Tryz.f4.params.toList args.toList ds p := hA0
  have hV : DataW.TrodVars enc Tryz.prog W (fun _ => true) ["loop.example/hagioscope/impl.errForm", "loop.example/hagioscope/impl.errThere", "loop.example/hagioscope/impl.errFull", "loop.example/hagioscope/impl.errNone"] gs q := hV0
  rw [Tryz.params4] at hA hval
  obtain ⟨v0, vs0, d0, ds0, p0, q0, hargs, rfl, rfl, h0, r0⟩ := trodAll_cons hA
  obtain ⟨rfl, rfl, rfl⟩ := trodAll_nil r0
  obtain rfl : args = #[v0] := by cases args; simp_all
  have kr0 := h0
  have lt0 : ∀ x ∈ p0, x.block < W.heap.size := by obtain ⟨m, hm⟩ := kr0; exact DataW.trod_lt m _ _ _ hm
  obtain ⟨xs0, w0⟩ := open_segs (hval 0 39 v0 rfl rfl) h0
  have hI := held_of hL
  have hE : Errs W := errs_of hI
  obtain ⟨g1, g2, g3, g4, rfl⟩ : ∃ g1 g2 g3 g4, gs = [g1, g2, g3, g4] := by
    have hlen := vars_len _ _ _ hV
    match gs, hlen with
    | [g1, g2, g3, g4], _ => exact ⟨g1, g2, g3, g4, rfl⟩
  clear hA0 hV0 hval0
  refine (walk v0 xs0 W w0 hE).mono fun e W' ⟨he, bel⟩ => ?_
  subst he
  exact ⟨_, rfl, _, _, _, [], _, _, hW', trodAll_mk1 (shut_bool Tryz.underlying4 _), (trodAll_cons_mk (Below.trod laidOut (by kernel_rfl) (of_decide_eq_true (by kernel_rfl)) kr0 bel lt0) trodAll_mk0), vars_keep Tryz.underlying64 bel _ _ _ hV hI, bel.frame _, fun h => by cases h⟩

theorem said : Rows.FnExactStoreReadSaid :=
  OpenClaim.holds_of_wide 4 Tryz.f4 rfl rfl rfl rfl rfl rfl rfl ⟨rfl, rfl, rfl, rfl, rfl⟩ rfl rfl rfl rfl rfl (by kernel_rfl) Tryz.func4 (by kernel_rfl)
    (of_decide_eq_true (by kernel_rfl)) (by unfold Func.isWrapper; first | (rw [if_pos (by decide +kernel)]; kernel_rfl) | (rw [if_neg (by decide +kernel)]; exact ⟨rfl, rfl⟩))
    (fun os started H enc _ => lifted os started H enc)

theorem plain (f : FuncId) (fn : Func) (hf : Tryz.pinned.checked.prog.funcNamed "loop.example/hagioscope/laws.FnExactStoreRead" = some f) (hfn : Tryz.pinned.checked.prog.funcs[f]? = some fn) :
    false = Tryz.pinned.checked.prog.looks [] ∧ ∀ (j : Nat) t, fn.params[j]? = some t → Tryz.pinned.checked.prog.wantsStandIn t = false := by
  obtain rfl : f = 4 := Option.some.inj ((show Tryz.prog.funcNamed "loop.example/hagioscope/laws.FnExactStoreRead" = some 4 by kernel_rfl).symm.trans hf) |>.symm
  obtain rfl : fn = Tryz.f4 := (Option.some.inj (Tryz.func4.symm.trans hfn)).symm
  refine ⟨by kernel_rfl, fun j t ht => ?_⟩
  rw [Tryz.params4] at ht
  obtain rfl : t = 39 := by simpa using Array.mem_of_getElem? ht
  · exact (show Tryz.prog.wantsStandIn 39 = false by kernel_rfl)

end Go.Proofs.YtlnpbfeihjfnjabGreatDoor.fnExactStoreRead
namespace Go.Proofs.YtlnpbfeihjfnjabGreatDoor
theorem fnExactStoreRead_card : Rows.FnExactStoreReadCardSaid :=
  Claim7.holds_tied_plain_at .later [] _ _ _ _ fnExactStoreRead.said (fun _ h => by cases h) (by kernel_rfl) (fun _ h => by cases h) fnExactStoreRead_row_tie rfl ⟨rfl, rfl⟩ (by kernel_rfl) rfl fnExactStoreRead.plain (by kernel_rfl)
#print axioms fnExactStoreRead_card
end Go.Proofs.YtlnpbfeihjfnjabGreatDoor
