/-
  Something done to a graph: spec.l2Do, spec.GraphDo. (Written by tools/mkldo.py.)
-/
import Derived.Test.YtlnpbfeihjfnjaaGreatDoorOpl
import Derived.Test.YtlnpbfeihjfnjaaGreatDoorEnd
import Derived.Test.YtlnpbfeihjfnjaaGreatDoorCpy
import Derived.Test.YtlnpbfeihjfnjaaGreatDoorPue
import Derived.Test.YtlnpbfeihjfnjaaGreatDoorCut
import Derived.Test.YtlnpbfeihjfnjaaGreatDoorOff
import Derived.Deep.RegionHeld3
namespace Go.Proofs.YtlnpbfeihjfnjaaGreatDoor.Lab
open Go.RowKit Go.ChangeMaps
set_option linter.unusedVariables false
/-- What comes of it: the nodes, the edges, how it ended. -/
def doN (ns : List Nd) (es : List Ed) (k nl nn l al an bl bn : Int) : List Nd :=
  if opI k nl nn l al an bl bn < 0 then ns else if endsI ns es k nl nn l al an bl bn ≠ 0 then ns else if k = 1 then insW (nl, nn) ns else if k = 2 then ns else if k = 3 then ns else offN (nl, nn) ns
def doE (ns : List Nd) (es : List Ed) (k nl nn l al an bl bn : Int) : List Ed :=
  if opI k nl nn l al an bl bn < 0 then es else if endsI ns es k nl nn l al an bl bn ≠ 0 then es else if k = 1 then es else if k = 2 then insE (l, al, an, bl, bn) es else if k = 3 then offE (l, al, an, bl, bn) es else offG (nl, nn) es
def doC (ns : List Nd) (es : List Ed) (k nl nn l al an bl bn : Int) : Int :=
  if opI k nl nn l al an bl bn < 0 then 1 else endsI ns es k nl nn l al an bl bn
theorem und_row_but {α : Type} {s : Nat} {enc : α → List Value} {p : Nat → Prop} {w w' : World} {v : Value} {xs : List α} (h : RowAt s enc w v xs) (hb : But p w w') (hne : ∀ k, v.ownBlock = some k → ¬ p k) : RowAt s enc w' v xs := by
  rcases h with h | ⟨h0, b, off, cap, hv, hlt, hc⟩
  · exact .inl h
  · refine .inr ⟨h0, b, off, cap, hv, Nat.lt_of_lt_of_le hlt hb.size, fun j x hx i u hu => ?_⟩
    rw [World.cell?_of_block (hb.blk b hlt (hne b (by rw [hv]; rfl)))]
    exact hc j x hx i u hu
set_option maxRecDepth 8000 in
set_option maxHeartbeats 20000000 in
theorem l2Do_walk (a1 a2 : Option Addr) (n m c1 c2 : Nat) (ns : List Nd) (es : List Ed) (k nl nn l al an bl bn : Int) (w : World) (h1 : RowAt 2 encNode w (.slice a1 n c1) ns) (h2 : RowAt 5 encEdge w (.slice a2 m c2) es) (hN : n = ns.length) (hM : m = es.length) (hn : n ≤ 100000) (hm : m ≤ 100000) :
    Calls Tryz.prog 72 #[.agg #[.slice a1 n c1, .slice a2 m c2], .agg #[.int .i64 k, .int .i64 nl, .int .i64 nn, .int .i64 l, .int .i64 al, .int .i64 an, .int .i64 bl, .int .i64 bn]] w fun e w' => ∃ u1 u2, e = .returned (.tuple #[.agg #[u1, u2], .int .i64 (doC ns es k nl nn l al an bl bn)]) ∧ RowAt 2 encNode w' u1 (doN ns es k nl nn l al an bl bn) ∧ RowAt 5 encEdge w' u2 (doE ns es k nl nn l al an bl bn) ∧ Below w.heap.size w w' := by
  have H1 : Hid (RowAt 2 encNode w (.slice a1 n c1) ns) := h1
  have H2 : Hid (RowAt 5 encEdge w (.slice a2 m c2) es) := h2
  have nN : ns.length = n := hN.symm
  have nM : es.length = m := hM.symm
  have HL : Hid (ns.length = n ∧ es.length = m) := ⟨nN, nM⟩
  clear h1 h2 hN hM nN nM
  obtain ⟨W0, hW0⟩ : ∃ W0, W0 = ((w.alloc (.cells #[.slice a1 n c1, .slice a2 m c2] 26)).alloc (.cells #[.int .i64 k, .int .i64 nl, .int .i64 nn, .int .i64 l, .int .i64 al, .int .i64 an, .int .i64 bl, .int .i64 bn] 50)).alloc (.cells #[.slice none 0 0, .slice none 0 0] 26) := ⟨_, rfl⟩
  have b0 : Below w.heap.size w W0 := by rw [hW0]; go_grown
  have z0 : W0.heap.size = w.heap.size + 3 := by rw [hW0]; simp
  have G0 : W0.cell? ⟨w.heap.size, 0, none⟩ = some (.slice a1 n c1) := by rw [hW0]; simp [go_sem]
  have G1 : W0.cell? ⟨w.heap.size, 1, none⟩ = some (.slice a2 m c2) := by rw [hW0]; simp [go_sem]
  have F0 : W0.cell? ⟨w.heap.size + 1, 0, none⟩ = some (.int .i64 k) := by rw [hW0]; simp [go_sem]
  have F1 : W0.cell? ⟨w.heap.size + 1, 1, none⟩ = some (.int .i64 nl) := by rw [hW0]; simp [go_sem]
  have F2 : W0.cell? ⟨w.heap.size + 1, 2, none⟩ = some (.int .i64 nn) := by rw [hW0]; simp [go_sem]
  have F3 : W0.cell? ⟨w.heap.size + 1, 3, none⟩ = some (.int .i64 l) := by rw [hW0]; simp [go_sem]
  have F4 : W0.cell? ⟨w.heap.size + 1, 4, none⟩ = some (.int .i64 al) := by rw [hW0]; simp [go_sem]
  have F5 : W0.cell? ⟨w.heap.size + 1, 5, none⟩ = some (.int .i64 an) := by rw [hW0]; simp [go_sem]
  have F6 : W0.cell? ⟨w.heap.size + 1, 6, none⟩ = some (.int .i64 bl) := by rw [hW0]; simp [go_sem]
  have F7 : W0.cell? ⟨w.heap.size + 1, 7, none⟩ = some (.int .i64 bn) := by rw [hW0]; simp [go_sem]
  have Q0 : W0.cell? ⟨w.heap.size + 1 + 1, 0, none⟩ = some (.slice none 0 0) := by rw [hW0]; simp [go_sem]
  have Q1 : W0.cell? ⟨w.heap.size + 1 + 1, 1, none⟩ = some (.slice none 0 0) := by rw [hW0]; simp [go_sem]
  have QF : ∀ o, W0.frozen? ⟨w.heap.size + 1 + 1, o, none⟩ = false := fun o => by rw [hW0]; simp [go_sem]
  have HR : Hid (∀ W, Below (w.heap.size + 2) W0 W → RowAt 2 encNode W (.slice a1 n c1) ns ∧ RowAt 5 encEdge W (.slice a2 m c2) es) := fun W h => ⟨H1.out.keep (b0.trans (h.mono (by omega))), H2.out.keep (b0.trans (h.mono (by omega)))⟩
  have HCS : Hid (∀ W, Below (w.heap.size + 2) W0 W → W.cell? ⟨w.heap.size, 0, none⟩ = some (.slice a1 n c1) ∧ W.cell? ⟨w.heap.size, 1, none⟩ = some (.slice a2 m c2) ∧ W.cell? ⟨w.heap.size + 1, 0, none⟩ = some (.int .i64 k) ∧ W.cell? ⟨w.heap.size + 1, 1, none⟩ = some (.int .i64 nl) ∧ W.cell? ⟨w.heap.size + 1, 2, none⟩ = some (.int .i64 nn) ∧ W.cell? ⟨w.heap.size + 1, 3, none⟩ = some (.int .i64 l) ∧ W.cell? ⟨w.heap.size + 1, 4, none⟩ = some (.int .i64 al) ∧ W.cell? ⟨w.heap.size + 1, 5, none⟩ = some (.int .i64 an) ∧ W.cell? ⟨w.heap.size + 1, 6, none⟩ = some (.int .i64 bl) ∧ W.cell? ⟨w.heap.size + 1, 7, none⟩ = some (.int .i64 bn) ∧ w.heap.size < W.heap.size ∧ w.heap.size + 1 < W.heap.size ∧ w.heap.size + 1 + 1 < W.heap.size) := fun W h => ⟨(Below.celz h _ _ _ (by omega)).trans G0, (Below.celz h _ _ _ (by omega)).trans G1, (Below.celz h _ _ _ (by omega)).trans F0, (Below.celz h _ _ _ (by omega)).trans F1, (Below.celz h _ _ _ (by omega)).trans F2, (Below.celz h _ _ _ (by omega)).trans F3, (Below.celz h _ _ _ (by omega)).trans F4, (Below.celz h _ _ _ (by omega)).trans F5, (Below.celz h _ _ _ (by omega)).trans F6, (Below.celz h _ _ _ (by omega)).trans F7, by have := h.size; omega, by have := h.size; omega, by have := h.size; omega⟩
  have HCR : Hid (∀ W, Below W0.heap.size W0 W → W.cell? ⟨w.heap.size + 1 + 1, 0, none⟩ = some (.slice none 0 0) ∧ W.cell? ⟨w.heap.size + 1 + 1, 1, none⟩ = some (.slice none 0 0) ∧ (∀ o, W.frozen? ⟨w.heap.size + 1 + 1, o, none⟩ = false)) := fun W h => ⟨(Below.celz h _ _ _ (by omega)).trans Q0, (Below.celz h _ _ _ (by omega)).trans Q1, fun o => (Below.froz h _ _ _ (by omega)).trans (QF o)⟩
  have HB0 : Hid (Below w.heap.size w W0) := b0
  have HW0 : Hid (W0 = ((w.alloc (.cells #[.slice a1 n c1, .slice a2 m c2] 26)).alloc (.cells #[.int .i64 k, .int .i64 nl, .int .i64 nn, .int .i64 l, .int .i64 al, .int .i64 an, .int .i64 bl, .int .i64 bn] 50)).alloc (.cells #[.slice none 0 0, .slice none 0 0] 26)) := hW0
  have hz : w.heap.size + 2 ≤ W0.heap.size := by omega
  have HZ3 : Hid (w.heap.size + 3 ≤ W0.heap.size) := by show _ ≤ _; omega
  clear b0 hW0 z0 G0 G1 F0 F1 F2 F3 F4 F5 F6 F7 Q0 Q1 QF
  go_enter Tryz.func72, Tryz.ntmps72
  go_wp2_with fail
  rw [← HW0.out]
  clear HW0
  refine (spec_OpLabel k nl nn l al an bl bn _).mono ?_
  rintro e w1 ⟨rfl, bb⟩
  have HBw1 : Hid (Below W0.heap.size W0 w1) := bb
  obtain ⟨g0, g1, p0, p1, p2, p3, p4, p5, p6, p7, y0, y1, y2⟩ := HCS.out _ (HBw1.out.mono hz)
  obtain ⟨r0, r1, rf⟩ := HCR.out _ HBw1.out
  clear bb
  by_cases hq : opI k nl nn l al an bl bn < 0
  · have HE : Hid (doN ns es k nl nn l al an bl bn = ns ∧ doE ns es k nl nn l al an bl bn = es ∧ doC ns es k nl nn l al an bl bn = 1) := ⟨by simp [doN, hq], by simp [doE, hq], by simp [doC, hq]⟩
    generalize opI k nl nn l al an bl bn = q at *
    go_wp2_with fail
    try simp only [Exit.inBlock, Exit.then]
    refine bodyPost_ret (v := .tuple #[.agg #[.slice a1 n c1, .slice a2 m c2], .int .i64 1]) (by simp [*, results, Tryz.results72, go_sem]) rfl ?_
    rw [HE.out.1, HE.out.2.1, HE.out.2.2]
    have hb := ((HBw1.out.mono hz).setCell (p := ⟨w.heap.size + 1 + 1, 0, none⟩) (by simp) (.slice a1 n c1)).setCell (p := ⟨w.heap.size + 1 + 1, 1, none⟩) (by simp) (.slice a2 m c2)
    exact ⟨_, _, rfl, (HR.out _ hb).1, (HR.out _ hb).2, HB0.out.trans (hb.mono (by omega))⟩
  · have HQ : Hid (¬ opI k nl nn l al an bl bn < 0) := hq
    generalize hqq : opI k nl nn l al an bl bn = q at *
    have HQQ : Hid (opI k nl nn l al an bl bn = q) := hqq
    clear hqq
    go_wp2_with fail
    refine (l2Ends _ _ ns es k nl nn l al an bl bn _ (HR.out _ (HBw1.out.mono hz)).1 (HR.out _ (HBw1.out.mono hz)).2 (by have := HL.out; omega) (by have := HL.out; omega)).mono ?_
    rintro e w2 ⟨rfl, bb⟩
    have HBw2 : Hid (Below W0.heap.size W0 w2) := keep_below3 HBw1.out bb
    clear g0 g1 p0 p1 p2 p3 p4 p5 p6 p7 y0 y1 y2 r0 r1 rf
    obtain ⟨g0, g1, p0, p1, p2, p3, p4, p5, p6, p7, y0, y1, y2⟩ := HCS.out _ (HBw2.out.mono hz)
    obtain ⟨r0, r1, rf⟩ := HCR.out _ HBw2.out
    clear bb
    by_cases hc : endsI ns es k nl nn l al an bl bn = 0

    · have HC : Hid (endsI ns es k nl nn l al an bl bn = 0) := hc
      rw [hc]
      clear hc
      by_cases hk1 : k = 1
      · have HK : Hid (k = 1) := hk1
        clear hk1
        have HE : Hid (doN ns es k nl nn l al an bl bn = insW (nl, nn) ns ∧ doE ns es k nl nn l al an bl bn = es ∧ doC ns es k nl nn l al an bl bn = 0) := ⟨by rw [doN, HQQ.out, if_neg (show ¬ q < 0 by have := HQ.out; omega), if_neg (by simpa using HC.out), if_pos HK.out], by rw [doE, HQQ.out, if_neg (show ¬ q < 0 by have := HQ.out; omega), if_neg (by simpa using HC.out), if_pos HK.out], by rw [doC, HQQ.out, if_neg (show ¬ q < 0 by have := HQ.out; omega), HC.out]⟩
        have hK := HK.out
        subst hK
        clear HC HQQ
        go_wp2_with fail
        have hS : Hid (∀ w', Below (w.heap.size + 2) W0 w' → Below (w.heap.size + 2) W0 w' ∧ w'.cell? ⟨w.heap.size, 0, none⟩ = some (.slice a1 n c1) ∧ w'.cell? ⟨w.heap.size, 1, none⟩ = some (.slice a2 m c2) ∧ w'.cell? ⟨w.heap.size + 1, 1, none⟩ = some (.int .i64 nl) ∧ w'.cell? ⟨w.heap.size + 1, 2, none⟩ = some (.int .i64 nn)) := fun w' hn => ⟨hn, (HCS.out _ hn).1, (HCS.out _ hn).2.1, (HCS.out _ hn).2.2.2.1, (HCS.out _ hn).2.2.2.2.1⟩
        go_region_held3 (fun w' => Below (w.heap.size + 2) W0 w' ∧ w'.cell? ⟨w.heap.size, 0, none⟩ = some (.slice a1 n c1) ∧ w'.cell? ⟨w.heap.size, 1, none⟩ = some (.slice a2 m c2) ∧ w'.cell? ⟨w.heap.size + 1, 1, none⟩ = some (.int .i64 nl) ∧ w'.cell? ⟨w.heap.size + 1, 2, none⟩ = some (.int .i64 nn))
          (first | with_reducible exact hS.out _ (Below.drew (Below.mono HBw2.out hz)) | with_reducible exact hS.out _ (Below.mono B4 hz) | with_reducible exact hS.out _ (Below.mono B3 hz) | exact hS.out _ (Below.setCell (Below.setCell (Below.mono B4 hz) (Nat.le_refl _) _) (Nat.le_refl _) _))
          (first | (go_at_call 73; refine (l2Copy _ _ ns es _ (HR.out _ (And.left (by assumption))).1 (HR.out _ (And.left (by assumption))).2 (by have := HL.out; omega) (by have := HL.out; omega)).mono ?_; rintro e w3 ⟨u1, u2, rfl, oc0, tc⟩; have oc : OwnGraph w3 w2.heap.size u1 u2 ns es := oc0; have tc2 : Below w2.heap.size w2 w3 := keep_below (Below.refl _ w2).drew tc; have B3 : Below W0.heap.size W0 w3 := keep_below3 HBw2.out tc2; obtain ⟨z1, z2, z3, z4, rfl, rfl⟩ := oc.form) | (go_at_call 101; refine (l2PutNode w2.heap.size _ _ _ _ ns nl nn _ oc.1 (Below.size tc2) (by have := HL.out; omega)).mono ?_; rintro e w4 ⟨uu, rfl, ou, ob, oa⟩; have B4 : Below W0.heap.size W0 w4 := ob.below B3 (Below.size B3) (fun j hj => Nat.le_trans (Below.size HBw2.out) (oc.1.lt j hj).1); obtain ⟨x4, y4, rfl⟩ := own_form ou; obtain ⟨r0', r1', rf'⟩ := HCR.out _ B4))
        have HO1 : Hid (w4.ownsRow w2.heap.size 46 2 (.slice x4 (insW (nl, nn) ns).length y4) (insW (nl, nn) ns).length ((insW (nl, nn) ns).flatMap encNode)) := ou
        have HO2 : Hid (w4.ownsRow w2.heap.size 48 5 (.slice z3 es.length z4) (es).length ((es).flatMap encEdge)) := ob.own oc.2.1 (fun k hk hp => oc.2.2 k hp hk)
        have HB4 : Hid (Below W0.heap.size W0 w4) := B4
        clear g0 g1 p0 p1 p2 p3 p4 p5 p6 p7 y0 y1 y2 r0 r1 rf hS tc tc2 B3 B4 oc0 oc ob ou oa
        obtain ⟨g0, g1, p0, p1, p2, p3, p4, p5, p6, p7, y0, y1, y2⟩ := HCS.out _ (HB4.out.mono hz)
        go_wp2_with fail
        try simp only [Exit.inBlock, Exit.then]
        refine bodyPost_ret (v := .tuple #[.agg #[.slice x4 (insW (nl, nn) ns).length y4, .slice z3 es.length z4], .int .i64 0]) (by simp [*, results, Tryz.results72, go_sem]) rfl ?_
        rw [HE.out.1, HE.out.2.1, HE.out.2.2]
        have hb := (((HB4.out.mono hz).setCell (p := ⟨w.heap.size + 1 + 1, 0, none⟩) (by simp) (.slice x4 (insW (nl, nn) ns).length y4)).setCell (p := ⟨w.heap.size + 1 + 1, 1, none⟩) (by simp) (.slice z3 es.length z4))
        refine ⟨_, _, rfl, ?_, ?_, HB0.out.trans (hb.mono (by omega))⟩
        · exact row_of_own encNode_len (by decide) (ownsRow_setCell_below (ownsRow_setCell_below HO1.out (by have := HBw2.out.size; have := HZ3.out; simp; omega) _) (by have := HBw2.out.size; have := HZ3.out; simp; omega) _)
        · exact row_of_own encEdge_len (by decide) (ownsRow_setCell_below (ownsRow_setCell_below HO2.out (by have := HBw2.out.size; have := HZ3.out; simp; omega) _) (by have := HBw2.out.size; have := HZ3.out; simp; omega) _)
      · have HK1 : Hid (¬ k = 1) := hk1
        have d1 : (k == 1) = false := beq_eq_false_iff_ne.2 hk1
        clear hk1
        by_cases hk2 : k = 2
        · have HK : Hid (k = 2) := hk2
          clear hk2 d1
          have HE : Hid (doN ns es k nl nn l al an bl bn = ns ∧ doE ns es k nl nn l al an bl bn = insE (l, al, an, bl, bn) es ∧ doC ns es k nl nn l al an bl bn = 0) := ⟨by rw [doN, HQQ.out, if_neg (show ¬ q < 0 by have := HQ.out; omega), if_neg (by simpa using HC.out), if_neg HK1.out, if_pos HK.out], by rw [doE, HQQ.out, if_neg (show ¬ q < 0 by have := HQ.out; omega), if_neg (by simpa using HC.out), if_neg HK1.out, if_pos HK.out], by rw [doC, HQQ.out, if_neg (show ¬ q < 0 by have := HQ.out; omega), HC.out]⟩
          have hK := HK.out
          subst hK
          clear HC HQQ HK1
          go_wp2_with fail
          have hS : Hid (∀ w', Below (w.heap.size + 2) W0 w' → Below (w.heap.size + 2) W0 w' ∧ w'.cell? ⟨w.heap.size, 0, none⟩ = some (.slice a1 n c1) ∧ w'.cell? ⟨w.heap.size, 1, none⟩ = some (.slice a2 m c2) ∧ w'.cell? ⟨w.heap.size + 1, 3, none⟩ = some (.int .i64 l) ∧ w'.cell? ⟨w.heap.size + 1, 4, none⟩ = some (.int .i64 al) ∧ w'.cell? ⟨w.heap.size + 1, 5, none⟩ = some (.int .i64 an) ∧ w'.cell? ⟨w.heap.size + 1, 6, none⟩ = some (.int .i64 bl) ∧ w'.cell? ⟨w.heap.size + 1, 7, none⟩ = some (.int .i64 bn)) := fun w' hn => ⟨hn, (HCS.out _ hn).1, (HCS.out _ hn).2.1, (HCS.out _ hn).2.2.2.2.2.1, (HCS.out _ hn).2.2.2.2.2.2.1, (HCS.out _ hn).2.2.2.2.2.2.2.1, (HCS.out _ hn).2.2.2.2.2.2.2.2.1, (HCS.out _ hn).2.2.2.2.2.2.2.2.2.1⟩
          go_region_held3 (fun w' => Below (w.heap.size + 2) W0 w' ∧ w'.cell? ⟨w.heap.size, 0, none⟩ = some (.slice a1 n c1) ∧ w'.cell? ⟨w.heap.size, 1, none⟩ = some (.slice a2 m c2) ∧ w'.cell? ⟨w.heap.size + 1, 3, none⟩ = some (.int .i64 l) ∧ w'.cell? ⟨w.heap.size + 1, 4, none⟩ = some (.int .i64 al) ∧ w'.cell? ⟨w.heap.size + 1, 5, none⟩ = some (.int .i64 an) ∧ w'.cell? ⟨w.heap.size + 1, 6, none⟩ = some (.int .i64 bl) ∧ w'.cell? ⟨w.heap.size + 1, 7, none⟩ = some (.int .i64 bn))
            (first | with_reducible exact hS.out _ (Below.drew (Below.mono HBw2.out hz)) | with_reducible exact hS.out _ (Below.mono B4 hz) | with_reducible exact hS.out _ (Below.mono B3 hz) | exact hS.out _ (Below.setCell (Below.setCell (Below.mono B4 hz) (Nat.le_refl _) _) (Nat.le_refl _) _))
            (first | (go_at_call 73; refine (l2Copy _ _ ns es _ (HR.out _ (And.left (by assumption))).1 (HR.out _ (And.left (by assumption))).2 (by have := HL.out; omega) (by have := HL.out; omega)).mono ?_; rintro e w3 ⟨u1, u2, rfl, oc0, tc⟩; have oc : OwnGraph w3 w2.heap.size u1 u2 ns es := oc0; have tc2 : Below w2.heap.size w2 w3 := keep_below (Below.refl _ w2).drew tc; have B3 : Below W0.heap.size W0 w3 := keep_below3 HBw2.out tc2; obtain ⟨z1, z2, z3, z4, rfl, rfl⟩ := oc.form) | (go_at_call 111; refine (l2PutEdge w2.heap.size _ _ _ _ es l al an bl bn _ oc.2.1 (Below.size tc2) (by have := HL.out; omega)).mono ?_; rintro e w4 ⟨uu, rfl, ou, ob, oa⟩; have B4 : Below W0.heap.size W0 w4 := ob.below B3 (Below.size B3) (fun j hj => Nat.le_trans (Below.size HBw2.out) (oc.2.1.lt j hj).1); obtain ⟨x4, y4, rfl⟩ := own_form ou; obtain ⟨r0', r1', rf'⟩ := HCR.out _ B4))
          have HO1 : Hid (w4.ownsRow w2.heap.size 46 2 (.slice z1 ns.length z2) (ns).length ((ns).flatMap encNode)) := ob.own oc.1 (fun k hk hp => oc.2.2 k hk hp)
          have HO2 : Hid (w4.ownsRow w2.heap.size 48 5 (.slice x4 (insE (l, al, an, bl, bn) es).length y4) (insE (l, al, an, bl, bn) es).length ((insE (l, al, an, bl, bn) es).flatMap encEdge)) := ou
          have HB4 : Hid (Below W0.heap.size W0 w4) := B4
          clear g0 g1 p0 p1 p2 p3 p4 p5 p6 p7 y0 y1 y2 r0 r1 rf hS tc tc2 B3 B4 oc0 oc ob ou oa
          obtain ⟨g0, g1, p0, p1, p2, p3, p4, p5, p6, p7, y0, y1, y2⟩ := HCS.out _ (HB4.out.mono hz)
          go_wp2_with fail
          try simp only [Exit.inBlock, Exit.then]
          refine bodyPost_ret (v := .tuple #[.agg #[.slice z1 ns.length z2, .slice x4 (insE (l, al, an, bl, bn) es).length y4], .int .i64 0]) (by simp [*, results, Tryz.results72, go_sem]) rfl ?_
          rw [HE.out.1, HE.out.2.1, HE.out.2.2]
          have hb := (((HB4.out.mono hz).setCell (p := ⟨w.heap.size + 1 + 1, 0, none⟩) (by simp) (.slice z1 ns.length z2)).setCell (p := ⟨w.heap.size + 1 + 1, 1, none⟩) (by simp) (.slice x4 (insE (l, al, an, bl, bn) es).length y4))
          refine ⟨_, _, rfl, ?_, ?_, HB0.out.trans (hb.mono (by omega))⟩
          · exact row_of_own encNode_len (by decide) (ownsRow_setCell_below (ownsRow_setCell_below HO1.out (by have := HBw2.out.size; have := HZ3.out; simp; omega) _) (by have := HBw2.out.size; have := HZ3.out; simp; omega) _)
          · exact row_of_own encEdge_len (by decide) (ownsRow_setCell_below (ownsRow_setCell_below HO2.out (by have := HBw2.out.size; have := HZ3.out; simp; omega) _) (by have := HBw2.out.size; have := HZ3.out; simp; omega) _)
        · have HK2 : Hid (¬ k = 2) := hk2
          have d2 : (k == 2) = false := beq_eq_false_iff_ne.2 hk2
          clear hk2
          by_cases hk3 : k = 3
          · have HK : Hid (k = 3) := hk3
            clear hk3 d1 d2
            have HE : Hid (doN ns es k nl nn l al an bl bn = ns ∧ doE ns es k nl nn l al an bl bn = offE (l, al, an, bl, bn) es ∧ doC ns es k nl nn l al an bl bn = 0) := ⟨by rw [doN, HQQ.out, if_neg (show ¬ q < 0 by have := HQ.out; omega), if_neg (by simpa using HC.out), if_neg HK1.out, if_neg HK2.out, if_pos HK.out], by rw [doE, HQQ.out, if_neg (show ¬ q < 0 by have := HQ.out; omega), if_neg (by simpa using HC.out), if_neg HK1.out, if_neg HK2.out, if_pos HK.out], by rw [doC, HQQ.out, if_neg (show ¬ q < 0 by have := HQ.out; omega), HC.out]⟩
            have hK := HK.out
            subst hK
            clear HC HQQ HK1 HK2
            go_wp2_with fail
            refine (l2Cut _ _ n es l al an bl bn _ ⟨a1, c1, rfl⟩ (HR.out _ (HBw2.out.mono hz)).2 (by have := HL.out; omega)).mono ?_
            rintro e w3 ⟨uu, rfl, ou, tc⟩
            have HB3 : Hid (Below W0.heap.size W0 w3) := keep_below3 HBw2.out tc
            obtain ⟨x4, y4, rfl⟩ := own_form ou
            have HO : Hid (w3.ownsRow w2.heap.size 48 5 (.slice x4 (offE (l, al, an, bl, bn) es).length y4) (offE (l, al, an, bl, bn) es).length ((offE (l, al, an, bl, bn) es).flatMap encEdge)) := ou
            clear g0 g1 p0 p1 p2 p3 p4 p5 p6 p7 y0 y1 y2 r0 r1 rf ou tc
            obtain ⟨g0, g1, p0, p1, p2, p3, p4, p5, p6, p7, y0, y1, y2⟩ := HCS.out _ (HB3.out.mono hz)
            obtain ⟨r0, r1, rf⟩ := HCR.out _ HB3.out
            go_wp2_with fail
            try simp only [Exit.inBlock, Exit.then]
            refine bodyPost_ret (v := .tuple #[.agg #[.slice a1 n c1, .slice x4 (offE (l, al, an, bl, bn) es).length y4], .int .i64 0]) (by simp [*, results, Tryz.results72, go_sem]) rfl ?_
            rw [HE.out.1, HE.out.2.1, HE.out.2.2]
            have hb := (((HB3.out.mono hz).setCell (p := ⟨w.heap.size + 1 + 1, 0, none⟩) (by simp) (.slice a1 n c1)).setCell (p := ⟨w.heap.size + 1 + 1, 1, none⟩) (by simp) (.slice x4 (offE (l, al, an, bl, bn) es).length y4))
            refine ⟨_, _, rfl, (HR.out _ hb).1, ?_, HB0.out.trans (hb.mono (by omega))⟩
            exact row_of_own encEdge_len (by decide) (ownsRow_setCell_below (ownsRow_setCell_below HO.out (by have := HBw2.out.size; have := HZ3.out; simp; omega) _) (by have := HBw2.out.size; have := HZ3.out; simp; omega) _)
          · have HK3 : Hid (¬ k = 3) := hk3
            have d3 : (k == 3) = false := beq_eq_false_iff_ne.2 hk3
            clear hk3
            have HE : Hid (doN ns es k nl nn l al an bl bn = offN (nl, nn) ns ∧ doE ns es k nl nn l al an bl bn = offG (nl, nn) es ∧ doC ns es k nl nn l al an bl bn = 0) := ⟨by rw [doN, HQQ.out, if_neg (show ¬ q < 0 by have := HQ.out; omega), if_neg (by simpa using HC.out), if_neg HK1.out, if_neg HK2.out, if_neg HK3.out], by rw [doE, HQQ.out, if_neg (show ¬ q < 0 by have := HQ.out; omega), if_neg (by simpa using HC.out), if_neg HK1.out, if_neg HK2.out, if_neg HK3.out], by rw [doC, HQQ.out, if_neg (show ¬ q < 0 by have := HQ.out; omega), HC.out]⟩
            clear HC HQQ HK1 HK2 HK3
            go_wp2_with fail
            refine (l2Off _ _ nl nn ns es _ (HR.out _ (HBw2.out.mono hz)).1 (HR.out _ (HBw2.out.mono hz)).2 (by have := HL.out; omega) (by have := HL.out; omega)).mono ?_
            rintro e w3 ⟨u1, u2, rfl, oc0, tc⟩
            have HB3 : Hid (Below W0.heap.size W0 w3) := keep_below3 HBw2.out tc
            obtain ⟨x3, y3, x4, y4, rfl, rfl⟩ := oc0.form
            have HO : Hid (OwnGraph w3 w2.heap.size (.slice x3 (offN (nl, nn) ns).length y3) (.slice x4 (offG (nl, nn) es).length y4) (offN (nl, nn) ns) (offG (nl, nn) es)) := oc0
            clear g0 g1 p0 p1 p2 p3 p4 p5 p6 p7 y0 y1 y2 r0 r1 rf oc0 tc
            obtain ⟨g0, g1, p0, p1, p2, p3, p4, p5, p6, p7, y0, y1, y2⟩ := HCS.out _ (HB3.out.mono hz)
            obtain ⟨r0, r1, rf⟩ := HCR.out _ HB3.out
            go_wp2_with fail
            try simp only [Exit.inBlock, Exit.then]
            refine bodyPost_ret (v := .tuple #[.agg #[.slice x3 (offN (nl, nn) ns).length y3, .slice x4 (offG (nl, nn) es).length y4], .int .i64 0]) (by simp [*, results, Tryz.results72, go_sem]) rfl ?_
            rw [HE.out.1, HE.out.2.1, HE.out.2.2]
            have hb := (((HB3.out.mono hz).setCell (p := ⟨w.heap.size + 1 + 1, 0, none⟩) (by simp) (.slice x3 (offN (nl, nn) ns).length y3)).setCell (p := ⟨w.heap.size + 1 + 1, 1, none⟩) (by simp) (.slice x4 (offG (nl, nn) es).length y4))
            refine ⟨_, _, rfl, ?_, ?_, HB0.out.trans (hb.mono (by omega))⟩
            · exact row_of_own encNode_len (by decide) (ownsRow_setCell_below (ownsRow_setCell_below HO.out.1 (by have := HBw2.out.size; have := HZ3.out; simp; omega) _) (by have := HBw2.out.size; have := HZ3.out; simp; omega) _)
            · exact row_of_own encEdge_len (by decide) (ownsRow_setCell_below (ownsRow_setCell_below HO.out.2.1 (by have := HBw2.out.size; have := HZ3.out; simp; omega) _) (by have := HBw2.out.size; have := HZ3.out; simp; omega) _)
    · have HE : Hid (doN ns es k nl nn l al an bl bn = ns ∧ doE ns es k nl nn l al an bl bn = es ∧ doC ns es k nl nn l al an bl bn = endsI ns es k nl nn l al an bl bn) := ⟨by rw [doN, HQQ.out, if_neg (show ¬ q < 0 by have := HQ.out; omega), if_pos hc], by rw [doE, HQQ.out, if_neg (show ¬ q < 0 by have := HQ.out; omega), if_pos hc], by rw [doC, HQQ.out, if_neg (show ¬ q < 0 by have := HQ.out; omega)]⟩
      have d0 : (endsI ns es k nl nn l al an bl bn != 0) = true := by simpa using hc
      clear hc
      generalize endsI ns es k nl nn l al an bl bn = c at *
      go_wp2_with fail
      try simp only [Exit.inBlock, Exit.then]
      refine bodyPost_ret (v := .tuple #[.agg #[.slice a1 n c1, .slice a2 m c2], .int .i64 c]) (by simp [*, results, Tryz.results72, go_sem]) rfl ?_
      rw [HE.out.1, HE.out.2.1, HE.out.2.2]
      have hb := ((HBw2.out.mono hz).setCell (p := ⟨w.heap.size + 1 + 1, 0, none⟩) (by simp) (.slice a1 n c1)).setCell (p := ⟨w.heap.size + 1 + 1, 1, none⟩) (by simp) (.slice a2 m c2)
      exact ⟨_, _, rfl, (HR.out _ hb).1, (HR.out _ hb).2, HB0.out.trans (hb.mono (by omega))⟩
theorem l2Do (v1 v2 : Value) (ns : List Nd) (es : List Ed) (k nl nn l al an bl bn : Int) (w : World) (h1 : RowAt 2 encNode w v1 ns) (h2 : RowAt 5 encEdge w v2 es) (l1 : ns.length ≤ 100000) (l2 : es.length ≤ 100000) :
    Calls Tryz.prog 72 #[.agg #[v1, v2], .agg #[.int .i64 k, .int .i64 nl, .int .i64 nn, .int .i64 l, .int .i64 al, .int .i64 an, .int .i64 bl, .int .i64 bn]] w fun e w' => ∃ u1 u2, e = .returned (.tuple #[.agg #[u1, u2], .int .i64 (doC ns es k nl nn l al an bl bn)]) ∧ RowAt 2 encNode w' u1 (doN ns es k nl nn l al an bl bn) ∧ RowAt 5 encEdge w' u2 (doE ns es k nl nn l al an bl bn) ∧ Below w.heap.size w w' := by
  obtain ⟨a1, c1, rfl⟩ := h1.len
  obtain ⟨a2, c2, rfl⟩ := h2.len
  exact l2Do_walk a1 a2 _ _ c1 c2 ns es k nl nn l al an bl bn w h1 h2 rfl rfl l1 l2
end Go.Proofs.YtlnpbfeihjfnjaaGreatDoor.Lab
