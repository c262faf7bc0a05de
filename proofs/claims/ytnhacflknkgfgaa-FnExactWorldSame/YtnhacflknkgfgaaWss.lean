/-
  WorldSame of the model. (Written by tools/mkwss.py.)
-/
import Derived.Test.YtnhacflknkgfgaaWld
namespace Go.Proofs.Ytnhacflknkgfgaa.Lab
open Go.RowKit
set_option linter.unusedVariables false
set_option maxHeartbeats 8000000 in
theorem spec_WorldSame (v1 v2 v3 v4 v5 u1 u2 u3 u4 u5 : Value) (x1 : List (Int × Int × Int)) (x2 : List (Int × Int)) (x3 : List (Int × Int × Int × Int × Int)) (x4 : List (Int × (Value × List (Int × Int)))) (x5 : List Int) (t1 : List (Int × Int × Int)) (t2 : List (Int × Int)) (t3 : List (Int × Int × Int × Int × Int)) (t4 : List (Int × (Value × List (Int × Int)))) (t5 : List Int) (w : World) (h : AtWorld w v1 v2 v3 v4 v5 x1 x2 x3 x4 x5) (k : AtWorld w u1 u2 u3 u4 u5 t1 t2 t3 t4 t5) (fx : FewWorld x1 x2 x3 x4 x5) (fy : FewWorld t1 t2 t3 t4 t5) :
    Calls Try.prog 20 #[.agg #[v1, v2, v3, v4, v5], .agg #[u1, u2, u3, u4, u5]] w fun e w' => e = .returned (.bool (sameW x1 x2 x3 x4 x5 t1 t2 t3 t4 t5)) ∧ Below w.heap.size w w' := by
  obtain ⟨a1, c1, a2, c2, a3, c3, a4, c4, a5, c5, rfl, rfl, rfl, rfl, rfl⟩ := h.form
  obtain ⟨b1, w1', b2, w2', b3, w3', b4, w4', b5, w5', rfl, rfl, rfl, rfl, rfl⟩ := k.form
  have HL : Hid (True) := trivial
  generalize hn1 : x1.length = n1 at h k ⊢
  generalize hn2 : x2.length = n2 at h k ⊢
  generalize hn3 : x3.length = n3 at h k ⊢
  generalize hn4 : x4.length = n4 at h k ⊢
  generalize hn5 : x5.length = n5 at h k ⊢
  generalize hr1 : t1.length = r1 at h k ⊢
  generalize hr2 : t2.length = r2 at h k ⊢
  generalize hr3 : t3.length = r3 at h k ⊢
  generalize hr4 : t4.length = r4 at h k ⊢
  generalize hr5 : t5.length = r5 at h k ⊢
  have HN : Hid ((x1.length = n1 ∧ x2.length = n2 ∧ x3.length = n3 ∧ x4.length = n4 ∧ x5.length = n5) ∧ (t1.length = r1 ∧ t2.length = r2 ∧ t3.length = r3 ∧ t4.length = r4 ∧ t5.length = r5)) := ⟨⟨hn1, hn2, hn3, hn4, hn5⟩, ⟨hr1, hr2, hr3, hr4, hr5⟩⟩
  have l1 : n1 ≤ 1048576 := by rw [← hn1]; exact fx.1
  have l4 : n4 ≤ 1048576 := by rw [← hn4]; exact fx.2.2.2.1.1
  have l5 : n5 ≤ 1048576 := by rw [← hn5]; exact fx.2.2.2.2
  have g1 : r1 ≤ 1048576 := by rw [← hr1]; exact fy.1
  have g4 : r4 ≤ 1048576 := by rw [← hr4]; exact fy.2.2.2.1.1
  have g5 : r5 ≤ 1048576 := by rw [← hr5]; exact fy.2.2.2.2
  have HFW : Hid (FewWorld x1 x2 x3 x4 x5 ∧ FewWorld t1 t2 t3 t4 t5) := ⟨fx, fy⟩
  clear HL fx fy hn1 hn2 hn3 hn4 hn5 hr1 hr2 hr3 hr4 hr5
  obtain ⟨A, hA⟩ : ∃ t, t = w.heap.size := ⟨_, rfl⟩
  have HA : Hid (A = w.heap.size) := hA
  have BB : Below A w w := Below.refl _ _
  have sA : A ≤ w.heap.size := by omega
  clear hA
  have HX : Hid (AtWorld w (.slice a1 n1 c1) (.slice a2 n2 c2) (.slice a3 n3 c3) (.slice a4 n4 c4) (.slice a5 n5 c5) x1 x2 x3 x4 x5) := h
  have HY : Hid (AtWorld w (.slice b1 r1 w1') (.slice b2 r2 w2') (.slice b3 r3 w3') (.slice b4 r4 w4') (.slice b5 r5 w5') t1 t2 t3 t4 t5) := k
  clear h k
  by_cases q10 : n1 = r1
  rotate_left
  · have hd : ((n1 : Int) != (r1 : Int)) = true := by rw [bne_iff_ne]; omega
    have HD : Hid (¬ n1 = r1) := q10
    clear q10
    go_enter Try.func20, Try.ntmps20
    go_wp2_with fail
    go_ret
    have hs : sameW x1 x2 x3 x4 x5 t1 t2 t3 t4 t5 = false := by
      apply Bool.eq_false_iff.2
      intro hs
      obtain ⟨s1, s2, s3, s4, s5⟩ := sameW_true.1 hs
      exact HD.out (by have h1 := HN.out.1.1; have h2 := HN.out.2.1; have h3 := congrArg List.length s1; (try simp only [List.length_map] at h3); omega)
    exact ⟨by rw [hs]; rfl, by go_grown⟩
  obtain rfl := q10
  by_cases q40 : n4 = r4
  rotate_left
  · have hd : ((n4 : Int) != (r4 : Int)) = true := by rw [bne_iff_ne]; omega
    have HD : Hid (¬ n4 = r4) := q40
    clear q40
    go_enter Try.func20, Try.ntmps20
    go_wp2_with fail
    go_ret
    have hs : sameW x1 x2 x3 x4 x5 t1 t2 t3 t4 t5 = false := by
      apply Bool.eq_false_iff.2
      intro hs
      obtain ⟨s1, s2, s3, s4, s5⟩ := sameW_true.1 hs
      exact HD.out (by have h1 := HN.out.1.2.2.2.1; have h2 := HN.out.2.2.2.2.1; have h3 := congrArg List.length s4; (try simp only [List.length_map] at h3); omega)
    exact ⟨by rw [hs]; rfl, by go_grown⟩
  obtain rfl := q40
  by_cases q50 : n5 = r5
  rotate_left
  · have hd : ((n5 : Int) != (r5 : Int)) = true := by rw [bne_iff_ne]; omega
    have HD : Hid (¬ n5 = r5) := q50
    clear q50
    go_enter Try.func20, Try.ntmps20
    go_wp2_with fail
    go_ret
    have hs : sameW x1 x2 x3 x4 x5 t1 t2 t3 t4 t5 = false := by
      apply Bool.eq_false_iff.2
      intro hs
      obtain ⟨s1, s2, s3, s4, s5⟩ := sameW_true.1 hs
      exact HD.out (by have h1 := HN.out.1.2.2.2.2; have h2 := HN.out.2.2.2.2.2; have h3 := congrArg List.length s5; (try simp only [List.length_map] at h3); omega)
    exact ⟨by rw [hs]; rfl, by go_grown⟩
  obtain rfl := q50
  go_enter Try.func20, Try.ntmps20
  go_wp2_with fail
  obtain ⟨B0, hB0⟩ : ∃ t, t = w.heap.size := ⟨_, rfl⟩
  generalize hW : w.alloc (.cells #[.slice a1 n1 c1, .slice a2 n2 c2, .slice a3 n3 c3, .slice a4 n4 c4, .slice a5 n5 c5] 38) = wa
  have nb : Below w.heap.size w wa := by rw [← hW]; exact (Below.refl _ _).alloc (Nat.le_refl _) _
  have k3 : wa.heap.size = B0 + 1 := by rw [← hW, hB0]; simp
  have kk0 : wa.cell? ⟨B0, 0, none⟩ = some (.slice a1 n1 c1) := by rw [← hW, hB0]; simp [go_sem]
  have kk1 : wa.cell? ⟨B0, 1, none⟩ = some (.slice a2 n2 c2) := by rw [← hW, hB0]; simp [go_sem]
  have kk2 : wa.cell? ⟨B0, 2, none⟩ = some (.slice a3 n3 c3) := by rw [← hW, hB0]; simp [go_sem]
  have kk3 : wa.cell? ⟨B0, 3, none⟩ = some (.slice a4 n4 c4) := by rw [← hW, hB0]; simp [go_sem]
  have kk4 : wa.cell? ⟨B0, 4, none⟩ = some (.slice a5 n5 c5) := by rw [← hW, hB0]; simp [go_sem]
  have oB0A : A ≤ B0 := by rw [hB0]; exact sA
  have BB1 : Below A w wa := BB.trans (nb.mono (by omega))
  have sA1 : A ≤ wa.heap.size := by have := Below.size nb; omega
  have q0 : Hid (AtWorld wa (.slice a1 n1 c1) (.slice a2 n2 c2) (.slice a3 n3 c3) (.slice a4 n4 c4) (.slice a5 n5 c5) x1 x2 x3 x4 x5) := HX.out.keep nb
  have q1 : Hid (AtWorld wa (.slice b1 n1 w1') (.slice b2 r2 w2') (.slice b3 r3 w3') (.slice b4 n4 w4') (.slice b5 n5 w5') t1 t2 t3 t4 t5) := HY.out.keep nb
  clear BB sA   HX HY
  have HX := q0
  have HY := q1
  have BB := BB1
  have sA := sA1
  clear BB1 sA1   q0 q1
  have cc0 := kk0
  have cc1 := kk1
  have cc2 := kk2
  have cc3 := kk3
  have cc4 := kk4
  have zz0 : B0 < wa.heap.size := by omega
  rw [← hB0]
  have k3B0 := k3
  clear k3 hW nb hB0 kk0 kk1 kk2 kk3 kk4
  rw [k3B0.symm]
  obtain ⟨B1, hB1⟩ : ∃ t, t = wa.heap.size := ⟨_, rfl⟩
  generalize hW : wa.alloc (.cells #[.slice b1 n1 w1', .slice b2 r2 w2', .slice b3 r3 w3', .slice b4 n4 w4', .slice b5 n5 w5'] 38) = wb
  have nb : Below wa.heap.size wa wb := by rw [← hW]; exact (Below.refl _ _).alloc (Nat.le_refl _) _
  have k3 : wb.heap.size = B1 + 1 := by rw [← hW, hB1]; simp
  have kk0 : wb.cell? ⟨B1, 0, none⟩ = some (.slice b1 n1 w1') := by rw [← hW, hB1]; simp [go_sem]
  have kk1 : wb.cell? ⟨B1, 1, none⟩ = some (.slice b2 r2 w2') := by rw [← hW, hB1]; simp [go_sem]
  have kk2 : wb.cell? ⟨B1, 2, none⟩ = some (.slice b3 r3 w3') := by rw [← hW, hB1]; simp [go_sem]
  have kk3 : wb.cell? ⟨B1, 3, none⟩ = some (.slice b4 n4 w4') := by rw [← hW, hB1]; simp [go_sem]
  have kk4 : wb.cell? ⟨B1, 4, none⟩ = some (.slice b5 n5 w5') := by rw [← hW, hB1]; simp [go_sem]
  have oB1A : A ≤ B1 := by rw [hB1]; exact sA
  have oB10 : B0 < B1 := by rw [hB1]; exact zz0
  have d0 : wb.cell? ⟨B0, 0, none⟩ = some (.slice a1 n1 c1) := (Below.celz nb _ _ _ (by omega)).trans cc0
  have d1 : wb.cell? ⟨B0, 1, none⟩ = some (.slice a2 n2 c2) := (Below.celz nb _ _ _ (by omega)).trans cc1
  have d2 : wb.cell? ⟨B0, 2, none⟩ = some (.slice a3 n3 c3) := (Below.celz nb _ _ _ (by omega)).trans cc2
  have d3 : wb.cell? ⟨B0, 3, none⟩ = some (.slice a4 n4 c4) := (Below.celz nb _ _ _ (by omega)).trans cc3
  have d4 : wb.cell? ⟨B0, 4, none⟩ = some (.slice a5 n5 c5) := (Below.celz nb _ _ _ (by omega)).trans cc4
  have y0 : B0 < wb.heap.size := by have := Below.size nb; omega
  have BB1 : Below A w wb := BB.trans (nb.mono (by omega))
  have sA1 : A ≤ wb.heap.size := by have := Below.size nb; omega
  have q0 : Hid (AtWorld wb (.slice a1 n1 c1) (.slice a2 n2 c2) (.slice a3 n3 c3) (.slice a4 n4 c4) (.slice a5 n5 c5) x1 x2 x3 x4 x5) := HX.out.keep nb
  have q1 : Hid (AtWorld wb (.slice b1 n1 w1') (.slice b2 r2 w2') (.slice b3 r3 w3') (.slice b4 n4 w4') (.slice b5 n5 w5') t1 t2 t3 t4 t5) := HY.out.keep nb
  clear BB sA cc0 cc1 cc2 cc3 cc4 zz0 HX HY
  have cc0 := d0
  have cc1 := d1
  have cc2 := d2
  have cc3 := d3
  have cc4 := d4
  have zz0 := y0
  have HX := q0
  have HY := q1
  have BB := BB1
  have sA := sA1
  clear BB1 sA1 d0 d1 d2 d3 d4 y0 q0 q1
  have cc5 := kk0
  have cc6 := kk1
  have cc7 := kk2
  have cc8 := kk3
  have cc9 := kk4
  have zz1 : B1 < wb.heap.size := by omega
  rw [← hB1]
  have k3B1 := k3
  clear k3 hW nb hB1 kk0 kk1 kk2 kk3 kk4
  clear k3B0 k3B1
  refine (spec_GraphSame _ _ _ _ x2 t2 x3 t3 _ HX.out.2.1 HX.out.2.2.1 HY.out.2.1 HY.out.2.2.1 HFW.out.1.2.1 HFW.out.1.2.2.1 HFW.out.2.2.1 HFW.out.2.2.2.1).mono ?_
  rintro e wc ⟨rfl, bz⟩
  have d0 : wc.cell? ⟨B0, 0, none⟩ = some (.slice a1 n1 c1) := (Below.celz bz _ _ _ (by omega)).trans cc0
  have d1 : wc.cell? ⟨B0, 1, none⟩ = some (.slice a2 n2 c2) := (Below.celz bz _ _ _ (by omega)).trans cc1
  have d2 : wc.cell? ⟨B0, 2, none⟩ = some (.slice a3 n3 c3) := (Below.celz bz _ _ _ (by omega)).trans cc2
  have d3 : wc.cell? ⟨B0, 3, none⟩ = some (.slice a4 n4 c4) := (Below.celz bz _ _ _ (by omega)).trans cc3
  have d4 : wc.cell? ⟨B0, 4, none⟩ = some (.slice a5 n5 c5) := (Below.celz bz _ _ _ (by omega)).trans cc4
  have d5 : wc.cell? ⟨B1, 0, none⟩ = some (.slice b1 n1 w1') := (Below.celz bz _ _ _ (by omega)).trans cc5
  have d6 : wc.cell? ⟨B1, 1, none⟩ = some (.slice b2 r2 w2') := (Below.celz bz _ _ _ (by omega)).trans cc6
  have d7 : wc.cell? ⟨B1, 2, none⟩ = some (.slice b3 r3 w3') := (Below.celz bz _ _ _ (by omega)).trans cc7
  have d8 : wc.cell? ⟨B1, 3, none⟩ = some (.slice b4 n4 w4') := (Below.celz bz _ _ _ (by omega)).trans cc8
  have d9 : wc.cell? ⟨B1, 4, none⟩ = some (.slice b5 n5 w5') := (Below.celz bz _ _ _ (by omega)).trans cc9
  have y0 : B0 < wc.heap.size := by have := Below.size bz; omega
  have y1 : B1 < wc.heap.size := by have := Below.size bz; omega
  have BB1 : Below A w wc := BB.trans (bz.mono (by omega))
  have sA1 : A ≤ wc.heap.size := by have := Below.size bz; omega
  have q0 : Hid (AtWorld wc (.slice a1 n1 c1) (.slice a2 n2 c2) (.slice a3 n3 c3) (.slice a4 n4 c4) (.slice a5 n5 c5) x1 x2 x3 x4 x5) := HX.out.keep bz
  have q1 : Hid (AtWorld wc (.slice b1 n1 w1') (.slice b2 r2 w2') (.slice b3 r3 w3') (.slice b4 n4 w4') (.slice b5 n5 w5') t1 t2 t3 t4 t5) := HY.out.keep bz
  clear BB sA cc0 cc1 cc2 cc3 cc4 cc5 cc6 cc7 cc8 cc9 zz0 zz1 HX HY
  have cc0 := d0
  have cc1 := d1
  have cc2 := d2
  have cc3 := d3
  have cc4 := d4
  have cc5 := d5
  have cc6 := d6
  have cc7 := d7
  have cc8 := d8
  have cc9 := d9
  have zz0 := y0
  have zz1 := y1
  have HX := q0
  have HY := q1
  have BB := BB1
  have sA := sA1
  clear BB1 sA1 d0 d1 d2 d3 d4 d5 d6 d7 d8 d9 y0 y1 q0 q1
  clear bz
  cases hG : (eqB x2 t2 && eqB x3 t3)
  · go_wp2_with fail
    go_ret
    have hs : sameW x1 x2 x3 x4 x5 t1 t2 t3 t4 t5 = false := by
      apply Bool.eq_false_iff.2
      intro hs
      obtain ⟨s1, s2, s3, s4, s5⟩ := sameW_true.1 hs
      rw [s2, s3, eqB_true.2 rfl, eqB_true.2 rfl] at hG; exact absurd hG (by simp)
    exact ⟨by rw [hs]; rfl, (by have := BB; rw [HA.out] at this; exact this)⟩
  · go_wp2_with fail
    go_loopw [5] (fun i wr => ∃ k : Nat, k ≤ n1 ∧ i = .int .i64 k ∧ Below wc.heap.size wc wr ∧ ∀ j, j < k → x1[j]? = t1[j]?) (fun i _ => n1 - (intOf i).toNat)
    case atStart => exact ⟨0, by omega, rfl, Below.refl _ _, fun j hj => by omega⟩
    case round =>
      obtain ⟨k, hk, rfl, hbel, hq⟩ := hrel
      have HQ : Hid (∀ j, j < k → x1[j]? = t1[j]?) := hq
      have HBL : Hid (Below wc.heap.size wc wr) := hbel
      have sg : wc.heap.size ≤ wr.heap.size := hbel.size
      clear hq
      have d0 : wr.cell? ⟨B0, 0, none⟩ = some (.slice a1 n1 c1) := (Below.celz hbel _ _ _ (by omega)).trans cc0
      have d1 : wr.cell? ⟨B0, 1, none⟩ = some (.slice a2 n2 c2) := (Below.celz hbel _ _ _ (by omega)).trans cc1
      have d2 : wr.cell? ⟨B0, 2, none⟩ = some (.slice a3 n3 c3) := (Below.celz hbel _ _ _ (by omega)).trans cc2
      have d3 : wr.cell? ⟨B0, 3, none⟩ = some (.slice a4 n4 c4) := (Below.celz hbel _ _ _ (by omega)).trans cc3
      have d4 : wr.cell? ⟨B0, 4, none⟩ = some (.slice a5 n5 c5) := (Below.celz hbel _ _ _ (by omega)).trans cc4
      have d5 : wr.cell? ⟨B1, 0, none⟩ = some (.slice b1 n1 w1') := (Below.celz hbel _ _ _ (by omega)).trans cc5
      have d6 : wr.cell? ⟨B1, 1, none⟩ = some (.slice b2 r2 w2') := (Below.celz hbel _ _ _ (by omega)).trans cc6
      have d7 : wr.cell? ⟨B1, 2, none⟩ = some (.slice b3 r3 w3') := (Below.celz hbel _ _ _ (by omega)).trans cc7
      have d8 : wr.cell? ⟨B1, 3, none⟩ = some (.slice b4 n4 w4') := (Below.celz hbel _ _ _ (by omega)).trans cc8
      have d9 : wr.cell? ⟨B1, 4, none⟩ = some (.slice b5 n5 w5') := (Below.celz hbel _ _ _ (by omega)).trans cc9
      have y0 : B0 < wr.heap.size := by have := Below.size hbel; omega
      have y1 : B1 < wr.heap.size := by have := Below.size hbel; omega
      have BB1 : Below A w wr := BB.trans (hbel.mono (by omega))
      have sA1 : A ≤ wr.heap.size := by have := Below.size hbel; omega
      have q0 : Hid (AtWorld wr (.slice a1 n1 c1) (.slice a2 n2 c2) (.slice a3 n3 c3) (.slice a4 n4 c4) (.slice a5 n5 c5) x1 x2 x3 x4 x5) := HX.out.keep hbel
      have q1 : Hid (AtWorld wr (.slice b1 n1 w1') (.slice b2 r2 w2') (.slice b3 r3 w3') (.slice b4 n4 w4') (.slice b5 n5 w5') t1 t2 t3 t4 t5) := HY.out.keep hbel
      clear BB sA cc0 cc1 cc2 cc3 cc4 cc5 cc6 cc7 cc8 cc9 zz0 zz1 HX HY
      have cc0 := d0
      have cc1 := d1
      have cc2 := d2
      have cc3 := d3
      have cc4 := d4
      have cc5 := d5
      have cc6 := d6
      have cc7 := d7
      have cc8 := d8
      have cc9 := d9
      have zz0 := y0
      have zz1 := y1
      have HX := q0
      have HY := q1
      have BB := BB1
      have sA := sA1
      clear BB1 sA1 d0 d1 d2 d3 d4 d5 d6 d7 d8 d9 y0 y1 q0 q1
      clear hbel
      by_cases hlt : k < n1
      · have k0 : (0 : Int) ≤ (k : Int) := by omega
        have k1 : (k : Int) < (n1 : Int) := by omega
        rcases HX.out.1 with ⟨hz0, _⟩ | ⟨_, be, oe, cap', hv, hbe, hc⟩
        · exfalso; have h1 := HN.out.1.1; rw [hz0] at h1; simp at h1; omega
        simp only [Value.slice.injEq] at hv
        obtain ⟨rfl, -, -⟩ := hv
        obtain ⟨⟨m0, m1, m2⟩, hx⟩ : ∃ x, x1[k]? = some x := ⟨_, List.getElem?_eq_getElem (by have := HN.out.1.1; omega)⟩
        have e0 : wr.cell? ⟨be, oe + k * 3, none⟩ = some (.int .i64 m0) := hc k _ hx 0 _ rfl
        have e1 : wr.cell? ⟨be, oe + k * 3 + 1, none⟩ = some (.int .i64 m1) := hc k _ hx 1 _ rfl
        have e2 : wr.cell? ⟨be, oe + k * 3 + 2, none⟩ = some (.int .i64 m2) := hc k _ hx 2 _ rfl
        have ze : be < wr.heap.size := hbe
        clear hc hbe
        rcases HY.out.1 with ⟨hz0, _⟩ | ⟨_, bf, of, cap', hv, hbf, hc⟩
        · exfalso; have h1 := HN.out.2.1; rw [hz0] at h1; simp at h1; omega
        simp only [Value.slice.injEq] at hv
        obtain ⟨rfl, -, -⟩ := hv
        obtain ⟨⟨p0, p1, p2⟩, hy⟩ : ∃ x, t1[k]? = some x := ⟨_, List.getElem?_eq_getElem (by have := HN.out.2.1; omega)⟩
        have f0 : wr.cell? ⟨bf, of + k * 3, none⟩ = some (.int .i64 p0) := hc k _ hy 0 _ rfl
        have f1 : wr.cell? ⟨bf, of + k * 3 + 1, none⟩ = some (.int .i64 p1) := hc k _ hy 1 _ rfl
        have f2 : wr.cell? ⟨bf, of + k * 3 + 2, none⟩ = some (.int .i64 p2) := hc k _ hy 2 _ rfl
        have zf : bf < wr.heap.size := hbf
        clear hc hbf
        have HXk : Hid (x1[k]? = some (m0, m1, m2) ∧ t1[k]? = some (p0, p1, p2)) := ⟨hx, hy⟩
        clear hx hy
        by_cases h0' : m0 = p0
        rotate_left
        · have HD : Hid (¬ m0 = p0) := h0'
          have d1 : (m0 == p0) = false := beq_eq_false_iff_ne.2 h0'
          have t1' : (m0 != p0) = true := by simpa using h0'
          have u1' : decide (m0 = p0) = false := by simpa using h0'
          clear h0'
          go_wp2_with fail
          refine wp_region_after (by kernel_rfl) (by kernel_rfl) ?_
          intro hneq hac
          repeat (go_big_quiet_step (first | fail))
          refine wpQuiet_nil ?_
          rintro _ ⟨p, rfl⟩
          have bq : Below wr.heap.size wr p.w := p.bel
          clear hac hneq
          generalize p.w = wq at *
          have d0 : wq.cell? ⟨B0, 0, none⟩ = some (.slice (some ⟨be, oe, none⟩) n1 c1) := (Below.celz bq _ _ _ (by omega)).trans cc0
          have d1 : wq.cell? ⟨B0, 1, none⟩ = some (.slice a2 n2 c2) := (Below.celz bq _ _ _ (by omega)).trans cc1
          have d2 : wq.cell? ⟨B0, 2, none⟩ = some (.slice a3 n3 c3) := (Below.celz bq _ _ _ (by omega)).trans cc2
          have d3 : wq.cell? ⟨B0, 3, none⟩ = some (.slice a4 n4 c4) := (Below.celz bq _ _ _ (by omega)).trans cc3
          have d4 : wq.cell? ⟨B0, 4, none⟩ = some (.slice a5 n5 c5) := (Below.celz bq _ _ _ (by omega)).trans cc4
          have d5 : wq.cell? ⟨B1, 0, none⟩ = some (.slice (some ⟨bf, of, none⟩) n1 w1') := (Below.celz bq _ _ _ (by omega)).trans cc5
          have d6 : wq.cell? ⟨B1, 1, none⟩ = some (.slice b2 r2 w2') := (Below.celz bq _ _ _ (by omega)).trans cc6
          have d7 : wq.cell? ⟨B1, 2, none⟩ = some (.slice b3 r3 w3') := (Below.celz bq _ _ _ (by omega)).trans cc7
          have d8 : wq.cell? ⟨B1, 3, none⟩ = some (.slice b4 n4 w4') := (Below.celz bq _ _ _ (by omega)).trans cc8
          have d9 : wq.cell? ⟨B1, 4, none⟩ = some (.slice b5 n5 w5') := (Below.celz bq _ _ _ (by omega)).trans cc9
          have y0 : B0 < wq.heap.size := by have := Below.size bq; omega
          have y1 : B1 < wq.heap.size := by have := Below.size bq; omega
          have BB1 : Below A w wq := BB.trans (bq.mono (by omega))
          have sA1 : A ≤ wq.heap.size := by have := Below.size bq; omega
          have q0 : Hid (AtWorld wq (.slice (some ⟨be, oe, none⟩) n1 c1) (.slice a2 n2 c2) (.slice a3 n3 c3) (.slice a4 n4 c4) (.slice a5 n5 c5) x1 x2 x3 x4 x5) := HX.out.keep bq
          have q1 : Hid (AtWorld wq (.slice (some ⟨bf, of, none⟩) n1 w1') (.slice b2 r2 w2') (.slice b3 r3 w3') (.slice b4 n4 w4') (.slice b5 n5 w5') t1 t2 t3 t4 t5) := HY.out.keep bq
          clear BB sA cc0 cc1 cc2 cc3 cc4 cc5 cc6 cc7 cc8 cc9 zz0 zz1 HX HY
          have cc0 := d0
          have cc1 := d1
          have cc2 := d2
          have cc3 := d3
          have cc4 := d4
          have cc5 := d5
          have cc6 := d6
          have cc7 := d7
          have cc8 := d8
          have cc9 := d9
          have zz0 := y0
          have zz1 := y1
          have HX := q0
          have HY := q1
          have BB := BB1
          have sA := sA1
          clear BB1 sA1 d0 d1 d2 d3 d4 d5 d6 d7 d8 d9 y0 y1 q0 q1
          clear bq
          go_wp2_with fail
          go_ret
          have hs : sameW x1 x2 x3 x4 x5 t1 t2 t3 t4 t5 = false := by
            apply Bool.eq_false_iff.2
            intro hs
            obtain ⟨s1, s2, s3, s4, s5⟩ := sameW_true.1 hs
            have h3 := HXk.out.1; rw [show x1 = _ from s1] at h3; rw [HXk.out.2] at h3; have h4 := (Option.some.inj h3).symm; simp only [Prod.mk.injEq] at h4; exact HD.out h4.1
          exact ⟨by rw [hs]; rfl, (by have := BB; rw [HA.out] at this; exact this)⟩
        subst h0'
        by_cases h1' : m1 = p1
        rotate_left
        · have HD : Hid (¬ m1 = p1) := h1'
          have d1 : (m1 == p1) = false := beq_eq_false_iff_ne.2 h1'
          have t1' : (m1 != p1) = true := by simpa using h1'
          have u1' : decide (m1 = p1) = false := by simpa using h1'
          clear h1'
          go_wp2_with fail
          refine wp_region_after (by kernel_rfl) (by kernel_rfl) ?_
          intro hneq hac
          repeat (go_big_quiet_step (first | fail))
          refine wpQuiet_nil ?_
          rintro _ ⟨p, rfl⟩
          have bq : Below wr.heap.size wr p.w := p.bel
          clear hac hneq
          generalize p.w = wq at *
          have d0 : wq.cell? ⟨B0, 0, none⟩ = some (.slice (some ⟨be, oe, none⟩) n1 c1) := (Below.celz bq _ _ _ (by omega)).trans cc0
          have d1 : wq.cell? ⟨B0, 1, none⟩ = some (.slice a2 n2 c2) := (Below.celz bq _ _ _ (by omega)).trans cc1
          have d2 : wq.cell? ⟨B0, 2, none⟩ = some (.slice a3 n3 c3) := (Below.celz bq _ _ _ (by omega)).trans cc2
          have d3 : wq.cell? ⟨B0, 3, none⟩ = some (.slice a4 n4 c4) := (Below.celz bq _ _ _ (by omega)).trans cc3
          have d4 : wq.cell? ⟨B0, 4, none⟩ = some (.slice a5 n5 c5) := (Below.celz bq _ _ _ (by omega)).trans cc4
          have d5 : wq.cell? ⟨B1, 0, none⟩ = some (.slice (some ⟨bf, of, none⟩) n1 w1') := (Below.celz bq _ _ _ (by omega)).trans cc5
          have d6 : wq.cell? ⟨B1, 1, none⟩ = some (.slice b2 r2 w2') := (Below.celz bq _ _ _ (by omega)).trans cc6
          have d7 : wq.cell? ⟨B1, 2, none⟩ = some (.slice b3 r3 w3') := (Below.celz bq _ _ _ (by omega)).trans cc7
          have d8 : wq.cell? ⟨B1, 3, none⟩ = some (.slice b4 n4 w4') := (Below.celz bq _ _ _ (by omega)).trans cc8
          have d9 : wq.cell? ⟨B1, 4, none⟩ = some (.slice b5 n5 w5') := (Below.celz bq _ _ _ (by omega)).trans cc9
          have y0 : B0 < wq.heap.size := by have := Below.size bq; omega
          have y1 : B1 < wq.heap.size := by have := Below.size bq; omega
          have BB1 : Below A w wq := BB.trans (bq.mono (by omega))
          have sA1 : A ≤ wq.heap.size := by have := Below.size bq; omega
          have q0 : Hid (AtWorld wq (.slice (some ⟨be, oe, none⟩) n1 c1) (.slice a2 n2 c2) (.slice a3 n3 c3) (.slice a4 n4 c4) (.slice a5 n5 c5) x1 x2 x3 x4 x5) := HX.out.keep bq
          have q1 : Hid (AtWorld wq (.slice (some ⟨bf, of, none⟩) n1 w1') (.slice b2 r2 w2') (.slice b3 r3 w3') (.slice b4 n4 w4') (.slice b5 n5 w5') t1 t2 t3 t4 t5) := HY.out.keep bq
          clear BB sA cc0 cc1 cc2 cc3 cc4 cc5 cc6 cc7 cc8 cc9 zz0 zz1 HX HY
          have cc0 := d0
          have cc1 := d1
          have cc2 := d2
          have cc3 := d3
          have cc4 := d4
          have cc5 := d5
          have cc6 := d6
          have cc7 := d7
          have cc8 := d8
          have cc9 := d9
          have zz0 := y0
          have zz1 := y1
          have HX := q0
          have HY := q1
          have BB := BB1
          have sA := sA1
          clear BB1 sA1 d0 d1 d2 d3 d4 d5 d6 d7 d8 d9 y0 y1 q0 q1
          clear bq
          go_wp2_with fail
          go_ret
          have hs : sameW x1 x2 x3 x4 x5 t1 t2 t3 t4 t5 = false := by
            apply Bool.eq_false_iff.2
            intro hs
            obtain ⟨s1, s2, s3, s4, s5⟩ := sameW_true.1 hs
            have h3 := HXk.out.1; rw [show x1 = _ from s1] at h3; rw [HXk.out.2] at h3; have h4 := (Option.some.inj h3).symm; simp only [Prod.mk.injEq] at h4; exact HD.out h4.2.1
          exact ⟨by rw [hs]; rfl, (by have := BB; rw [HA.out] at this; exact this)⟩
        subst h1'
        by_cases h2' : m2 = p2
        rotate_left
        · have HD : Hid (¬ m2 = p2) := h2'
          have d1 : (m2 == p2) = false := beq_eq_false_iff_ne.2 h2'
          have t1' : (m2 != p2) = true := by simpa using h2'
          have u1' : decide (m2 = p2) = false := by simpa using h2'
          clear h2'
          go_wp2_with fail
          refine wp_region_after (by kernel_rfl) (by kernel_rfl) ?_
          intro hneq hac
          repeat (go_big_quiet_step (first | fail))
          refine wpQuiet_nil ?_
          rintro _ ⟨p, rfl⟩
          have bq : Below wr.heap.size wr p.w := p.bel
          clear hac hneq
          generalize p.w = wq at *
          have d0 : wq.cell? ⟨B0, 0, none⟩ = some (.slice (some ⟨be, oe, none⟩) n1 c1) := (Below.celz bq _ _ _ (by omega)).trans cc0
          have d1 : wq.cell? ⟨B0, 1, none⟩ = some (.slice a2 n2 c2) := (Below.celz bq _ _ _ (by omega)).trans cc1
          have d2 : wq.cell? ⟨B0, 2, none⟩ = some (.slice a3 n3 c3) := (Below.celz bq _ _ _ (by omega)).trans cc2
          have d3 : wq.cell? ⟨B0, 3, none⟩ = some (.slice a4 n4 c4) := (Below.celz bq _ _ _ (by omega)).trans cc3
          have d4 : wq.cell? ⟨B0, 4, none⟩ = some (.slice a5 n5 c5) := (Below.celz bq _ _ _ (by omega)).trans cc4
          have d5 : wq.cell? ⟨B1, 0, none⟩ = some (.slice (some ⟨bf, of, none⟩) n1 w1') := (Below.celz bq _ _ _ (by omega)).trans cc5
          have d6 : wq.cell? ⟨B1, 1, none⟩ = some (.slice b2 r2 w2') := (Below.celz bq _ _ _ (by omega)).trans cc6
          have d7 : wq.cell? ⟨B1, 2, none⟩ = some (.slice b3 r3 w3') := (Below.celz bq _ _ _ (by omega)).trans cc7
          have d8 : wq.cell? ⟨B1, 3, none⟩ = some (.slice b4 n4 w4') := (Below.celz bq _ _ _ (by omega)).trans cc8
          have d9 : wq.cell? ⟨B1, 4, none⟩ = some (.slice b5 n5 w5') := (Below.celz bq _ _ _ (by omega)).trans cc9
          have y0 : B0 < wq.heap.size := by have := Below.size bq; omega
          have y1 : B1 < wq.heap.size := by have := Below.size bq; omega
          have BB1 : Below A w wq := BB.trans (bq.mono (by omega))
          have sA1 : A ≤ wq.heap.size := by have := Below.size bq; omega
          have q0 : Hid (AtWorld wq (.slice (some ⟨be, oe, none⟩) n1 c1) (.slice a2 n2 c2) (.slice a3 n3 c3) (.slice a4 n4 c4) (.slice a5 n5 c5) x1 x2 x3 x4 x5) := HX.out.keep bq
          have q1 : Hid (AtWorld wq (.slice (some ⟨bf, of, none⟩) n1 w1') (.slice b2 r2 w2') (.slice b3 r3 w3') (.slice b4 n4 w4') (.slice b5 n5 w5') t1 t2 t3 t4 t5) := HY.out.keep bq
          clear BB sA cc0 cc1 cc2 cc3 cc4 cc5 cc6 cc7 cc8 cc9 zz0 zz1 HX HY
          have cc0 := d0
          have cc1 := d1
          have cc2 := d2
          have cc3 := d3
          have cc4 := d4
          have cc5 := d5
          have cc6 := d6
          have cc7 := d7
          have cc8 := d8
          have cc9 := d9
          have zz0 := y0
          have zz1 := y1
          have HX := q0
          have HY := q1
          have BB := BB1
          have sA := sA1
          clear BB1 sA1 d0 d1 d2 d3 d4 d5 d6 d7 d8 d9 y0 y1 q0 q1
          clear bq
          go_wp2_with fail
          go_ret
          have hs : sameW x1 x2 x3 x4 x5 t1 t2 t3 t4 t5 = false := by
            apply Bool.eq_false_iff.2
            intro hs
            obtain ⟨s1, s2, s3, s4, s5⟩ := sameW_true.1 hs
            have h3 := HXk.out.1; rw [show x1 = _ from s1] at h3; rw [HXk.out.2] at h3; have h4 := (Option.some.inj h3).symm; simp only [Prod.mk.injEq] at h4; exact HD.out h4.2.2
          exact ⟨by rw [hs]; rfl, (by have := BB; rw [HA.out] at this; exact this)⟩
        subst h2'
        go_wp2_with fail
        refine wp_region_after (by kernel_rfl) (by kernel_rfl) ?_
        intro hne hac
        repeat (go_big_quiet_step (fail))
        refine wpQuiet_nil ?_
        rintro _ ⟨p, rfl⟩
        have HB2 : Hid (Below wc.heap.size wc p.w) := HBL.out.trans (p.bel.mono sg)
        have bq : Below wr.heap.size wr p.w := p.bel
        clear hac hne
        generalize p.w = wq at *
        clear bq
        go_wp2_with fail
        go_roundw
        case rel =>
          refine ⟨k + 1, by omega, by go_num, HB2.out, fun j hj => ?_⟩
          rcases Nat.lt_succ_iff_lt_or_eq.1 hj with h | rfl
          · exact HQ.out j h
          · rw [HXk.out.1, HXk.out.2]
        case measure => simp [intOf]; omega
      · have hkn : n1 = k := by omega
        subst hkn
        have HE1 : Hid (x1 = t1) := by
          show x1 = t1
          apply List.ext_getElem?
          intro j
          by_cases hj : j < n1
          · exact HQ.out j hj
          · rw [List.getElem?_eq_none (by have h1 := HN.out.1; (try simp only [List.length_map]); omega), List.getElem?_eq_none (by have h1 := HN.out.2; (try simp only [List.length_map]); omega)]
        clear HQ HBL hlt hk sg
        go_wp2_with fail
        obtain ⟨wl1, rfl⟩ : ∃ t, t = wr := ⟨_, rfl⟩
        go_loopw [6] (fun i wr => ∃ k : Nat, k ≤ n4 ∧ i = .int .i64 k ∧ Below wl1.heap.size wl1 wr ∧ ∀ j, j < k → (x4.map plPool)[j]? = (t4.map plPool)[j]?) (fun i _ => n4 - (intOf i).toNat)
        case atStart => exact ⟨0, by omega, rfl, Below.refl _ _, fun j hj => by omega⟩
        case round =>
          obtain ⟨k, hk, rfl, hbel, hq⟩ := hrel
          have HQ : Hid (∀ j, j < k → (x4.map plPool)[j]? = (t4.map plPool)[j]?) := hq
          have HBL : Hid (Below wl1.heap.size wl1 wr) := hbel
          have sg : wl1.heap.size ≤ wr.heap.size := hbel.size
          clear hq
          have d0 : wr.cell? ⟨B0, 0, none⟩ = some (.slice a1 n1 c1) := (Below.celz hbel _ _ _ (by omega)).trans cc0
          have d1 : wr.cell? ⟨B0, 1, none⟩ = some (.slice a2 n2 c2) := (Below.celz hbel _ _ _ (by omega)).trans cc1
          have d2 : wr.cell? ⟨B0, 2, none⟩ = some (.slice a3 n3 c3) := (Below.celz hbel _ _ _ (by omega)).trans cc2
          have d3 : wr.cell? ⟨B0, 3, none⟩ = some (.slice a4 n4 c4) := (Below.celz hbel _ _ _ (by omega)).trans cc3
          have d4 : wr.cell? ⟨B0, 4, none⟩ = some (.slice a5 n5 c5) := (Below.celz hbel _ _ _ (by omega)).trans cc4
          have d5 : wr.cell? ⟨B1, 0, none⟩ = some (.slice b1 n1 w1') := (Below.celz hbel _ _ _ (by omega)).trans cc5
          have d6 : wr.cell? ⟨B1, 1, none⟩ = some (.slice b2 r2 w2') := (Below.celz hbel _ _ _ (by omega)).trans cc6
          have d7 : wr.cell? ⟨B1, 2, none⟩ = some (.slice b3 r3 w3') := (Below.celz hbel _ _ _ (by omega)).trans cc7
          have d8 : wr.cell? ⟨B1, 3, none⟩ = some (.slice b4 n4 w4') := (Below.celz hbel _ _ _ (by omega)).trans cc8
          have d9 : wr.cell? ⟨B1, 4, none⟩ = some (.slice b5 n5 w5') := (Below.celz hbel _ _ _ (by omega)).trans cc9
          have y0 : B0 < wr.heap.size := by have := Below.size hbel; omega
          have y1 : B1 < wr.heap.size := by have := Below.size hbel; omega
          have BB1 : Below A w wr := BB.trans (hbel.mono (by omega))
          have sA1 : A ≤ wr.heap.size := by have := Below.size hbel; omega
          have q0 : Hid (AtWorld wr (.slice a1 n1 c1) (.slice a2 n2 c2) (.slice a3 n3 c3) (.slice a4 n4 c4) (.slice a5 n5 c5) x1 x2 x3 x4 x5) := HX.out.keep hbel
          have q1 : Hid (AtWorld wr (.slice b1 n1 w1') (.slice b2 r2 w2') (.slice b3 r3 w3') (.slice b4 n4 w4') (.slice b5 n5 w5') t1 t2 t3 t4 t5) := HY.out.keep hbel
          clear BB sA cc0 cc1 cc2 cc3 cc4 cc5 cc6 cc7 cc8 cc9 zz0 zz1 HX HY
          have cc0 := d0
          have cc1 := d1
          have cc2 := d2
          have cc3 := d3
          have cc4 := d4
          have cc5 := d5
          have cc6 := d6
          have cc7 := d7
          have cc8 := d8
          have cc9 := d9
          have zz0 := y0
          have zz1 := y1
          have HX := q0
          have HY := q1
          have BB := BB1
          have sA := sA1
          clear BB1 sA1 d0 d1 d2 d3 d4 d5 d6 d7 d8 d9 y0 y1 q0 q1
          clear hbel
          by_cases hlt : k < n4
          · have k0 : (0 : Int) ≤ (k : Int) := by omega
            have k1 : (k : Int) < (n4 : Int) := by omega
            rcases HX.out.2.2.2.1.1 with ⟨hz0, _⟩ | ⟨_, be, oe, cap', hv, hbe, hc⟩
            · exfalso; have h1 := HN.out.1.2.2.2.1; rw [hz0] at h1; simp at h1; omega
            simp only [Value.slice.injEq] at hv
            obtain ⟨rfl, -, -⟩ := hv
            obtain ⟨⟨m0, ⟨mv, ml⟩⟩, hx⟩ : ∃ x, x4[k]? = some x := ⟨_, List.getElem?_eq_getElem (by have := HN.out.1.2.2.2.1; omega)⟩
            have hinm := HX.out.2.2.2.1.2 _ (List.mem_of_getElem? hx)
            have hfwm := HFW.out.1.2.2.2.1.2 _ (List.mem_of_getElem? hx)
            simp only at hinm hfwm
            obtain ⟨ma, mc, rfl⟩ := hinm.len
            have e0 : wr.cell? ⟨be, oe + k * 2, none⟩ = some (.int .i64 m0) := hc k _ hx 0 _ rfl
            have e1 : wr.cell? ⟨be, oe + k * 2 + 1, none⟩ = some (.slice ma ml.length mc) := hc k _ hx 1 _ rfl
            have ze : be < wr.heap.size := hbe
            clear hc hbe
            rcases HY.out.2.2.2.1.1 with ⟨hz0, _⟩ | ⟨_, bf, of, cap', hv, hbf, hc⟩
            · exfalso; have h1 := HN.out.2.2.2.2.1; rw [hz0] at h1; simp at h1; omega
            simp only [Value.slice.injEq] at hv
            obtain ⟨rfl, -, -⟩ := hv
            obtain ⟨⟨p0, ⟨pv, pl⟩⟩, hy⟩ : ∃ x, t4[k]? = some x := ⟨_, List.getElem?_eq_getElem (by have := HN.out.2.2.2.2.1; omega)⟩
            have hinp := HY.out.2.2.2.1.2 _ (List.mem_of_getElem? hy)
            have hfwp := HFW.out.2.2.2.2.1.2 _ (List.mem_of_getElem? hy)
            simp only at hinp hfwp
            obtain ⟨pa, pc, rfl⟩ := hinp.len
            have f0 : wr.cell? ⟨bf, of + k * 2, none⟩ = some (.int .i64 p0) := hc k _ hy 0 _ rfl
            have f1 : wr.cell? ⟨bf, of + k * 2 + 1, none⟩ = some (.slice pa pl.length pc) := hc k _ hy 1 _ rfl
            have zf : bf < wr.heap.size := hbf
            clear hc hbf
            have HXk : Hid ((x4.map plPool)[k]? = some (m0, ml) ∧ (t4.map plPool)[k]? = some (p0, pl)) := ⟨by rw [List.getElem?_map, hx]; rfl, by rw [List.getElem?_map, hy]; rfl⟩
            have HRA : Hid (∀ w', Below wr.heap.size wr w' → RowAt 2 encPage w' (.slice ma ml.length mc) ml ∧ RowAt 2 encPage w' (.slice pa pl.length pc) pl) := fun w' h => ⟨hinm.keep h, hinp.keep h⟩
            have HML : Hid (ml.length ≤ 1048576 ∧ pl.length ≤ 1048576) := ⟨hfwm, hfwp⟩
            clear hx hy hinm hinp hfwm hfwp
            generalize hmn : ml.length = mn at e1 HRA
            generalize hpn : pl.length = pn at f1 HRA
            clear hmn hpn
            cases hd : eqB (m0, ml) (p0, pl)
            · have HD : Hid (¬ (m0, ml) = (p0, pl)) := eqB_false.1 hd
              go_wp2_with fail
              refine wp_region_after (by kernel_rfl) (by kernel_rfl) ?_
              intro hneq hac
              repeat (go_big_quiet_step (first | (go_at_call 47; exact after_at (x := eqB (m0, ml) (p0, pl)) (y := false) hd (spec_PoolSameN m0 p0 _ _ ml pl _ (HRA.out _ (After.bel _)).1 (HRA.out _ (After.bel _)).2 HML.out.1 HML.out.2))))
              refine wpQuiet_nil ?_
              rintro _ ⟨p, rfl⟩
              have bq : Below wr.heap.size wr p.w := p.bel
              clear hac hneq
              generalize p.w = wq at *
              have d0 : wq.cell? ⟨B0, 0, none⟩ = some (.slice a1 n1 c1) := (Below.celz bq _ _ _ (by omega)).trans cc0
              have d1 : wq.cell? ⟨B0, 1, none⟩ = some (.slice a2 n2 c2) := (Below.celz bq _ _ _ (by omega)).trans cc1
              have d2 : wq.cell? ⟨B0, 2, none⟩ = some (.slice a3 n3 c3) := (Below.celz bq _ _ _ (by omega)).trans cc2
              have d3 : wq.cell? ⟨B0, 3, none⟩ = some (.slice (some ⟨be, oe, none⟩) n4 c4) := (Below.celz bq _ _ _ (by omega)).trans cc3
              have d4 : wq.cell? ⟨B0, 4, none⟩ = some (.slice a5 n5 c5) := (Below.celz bq _ _ _ (by omega)).trans cc4
              have d5 : wq.cell? ⟨B1, 0, none⟩ = some (.slice b1 n1 w1') := (Below.celz bq _ _ _ (by omega)).trans cc5
              have d6 : wq.cell? ⟨B1, 1, none⟩ = some (.slice b2 r2 w2') := (Below.celz bq _ _ _ (by omega)).trans cc6
              have d7 : wq.cell? ⟨B1, 2, none⟩ = some (.slice b3 r3 w3') := (Below.celz bq _ _ _ (by omega)).trans cc7
              have d8 : wq.cell? ⟨B1, 3, none⟩ = some (.slice (some ⟨bf, of, none⟩) n4 w4') := (Below.celz bq _ _ _ (by omega)).trans cc8
              have d9 : wq.cell? ⟨B1, 4, none⟩ = some (.slice b5 n5 w5') := (Below.celz bq _ _ _ (by omega)).trans cc9
              have y0 : B0 < wq.heap.size := by have := Below.size bq; omega
              have y1 : B1 < wq.heap.size := by have := Below.size bq; omega
              have BB1 : Below A w wq := BB.trans (bq.mono (by omega))
              have sA1 : A ≤ wq.heap.size := by have := Below.size bq; omega
              have q0 : Hid (AtWorld wq (.slice a1 n1 c1) (.slice a2 n2 c2) (.slice a3 n3 c3) (.slice (some ⟨be, oe, none⟩) n4 c4) (.slice a5 n5 c5) x1 x2 x3 x4 x5) := HX.out.keep bq
              have q1 : Hid (AtWorld wq (.slice b1 n1 w1') (.slice b2 r2 w2') (.slice b3 r3 w3') (.slice (some ⟨bf, of, none⟩) n4 w4') (.slice b5 n5 w5') t1 t2 t3 t4 t5) := HY.out.keep bq
              clear BB sA cc0 cc1 cc2 cc3 cc4 cc5 cc6 cc7 cc8 cc9 zz0 zz1 HX HY
              have cc0 := d0
              have cc1 := d1
              have cc2 := d2
              have cc3 := d3
              have cc4 := d4
              have cc5 := d5
              have cc6 := d6
              have cc7 := d7
              have cc8 := d8
              have cc9 := d9
              have zz0 := y0
              have zz1 := y1
              have HX := q0
              have HY := q1
              have BB := BB1
              have sA := sA1
              clear BB1 sA1 d0 d1 d2 d3 d4 d5 d6 d7 d8 d9 y0 y1 q0 q1
              clear bq
              go_wp2_with fail
              go_ret
              have hs : sameW x1 x2 x3 x4 x5 t1 t2 t3 t4 t5 = false := by
                apply Bool.eq_false_iff.2
                intro hs
                obtain ⟨s1, s2, s3, s4, s5⟩ := sameW_true.1 hs
                have h3 := HXk.out.1; rw [show x4.map plPool = _ from s4] at h3; rw [HXk.out.2] at h3; exact HD.out (Option.some.inj h3).symm
              exact ⟨by rw [hs]; rfl, (by have := BB; rw [HA.out] at this; exact this)⟩
            · obtain ⟨rfl, rfl⟩ : m0 = p0 ∧ ml = pl := by have := eqB_true.1 hd; simpa using this
              go_wp2_with fail
              refine wp_region_after (by kernel_rfl) (by kernel_rfl) ?_
              intro hneq hac
              repeat (go_big_quiet_step (first | (go_at_call 47; exact after_at (x := eqB (m0, ml) (m0, ml)) (y := true) hd (spec_PoolSameN m0 m0 _ _ ml ml _ (HRA.out _ (After.bel _)).1 (HRA.out _ (After.bel _)).2 HML.out.1 HML.out.2))))
              refine wpQuiet_nil ?_
              rintro _ ⟨p, rfl⟩
              have HB2 : Hid (Below wl1.heap.size wl1 p.w) := HBL.out.trans (p.bel.mono sg)
              clear hac hneq
              generalize p.w = wq at *
              go_wp2_with fail
              go_roundw
              case rel =>
                refine ⟨k + 1, by omega, by go_num, HB2.out, fun j hj => ?_⟩
                rcases Nat.lt_succ_iff_lt_or_eq.1 hj with h | rfl
                · exact HQ.out j h
                · rw [HXk.out.1, HXk.out.2]
              case measure => simp [intOf]; omega
          · have hkn : n4 = k := by omega
            subst hkn
            have HE4 : Hid ((x4.map plPool) = (t4.map plPool)) := by
              show (x4.map plPool) = (t4.map plPool)
              apply List.ext_getElem?
              intro j
              by_cases hj : j < n4
              · exact HQ.out j hj
              · rw [List.getElem?_eq_none (by have h1 := HN.out.1; (try simp only [List.length_map]); omega), List.getElem?_eq_none (by have h1 := HN.out.2; (try simp only [List.length_map]); omega)]
            clear HQ HBL hlt hk sg
            go_wp2_with fail
            obtain ⟨wl2, rfl⟩ : ∃ t, t = wr := ⟨_, rfl⟩
            go_loopw [7] (fun i wr => ∃ k : Nat, k ≤ n5 ∧ i = .int .i64 k ∧ Below wl2.heap.size wl2 wr ∧ ∀ j, j < k → x5[j]? = t5[j]?) (fun i _ => n5 - (intOf i).toNat)
            case atStart => exact ⟨0, by omega, rfl, Below.refl _ _, fun j hj => by omega⟩
            case round =>
              obtain ⟨k, hk, rfl, hbel, hq⟩ := hrel
              have HQ : Hid (∀ j, j < k → x5[j]? = t5[j]?) := hq
              have HBL : Hid (Below wl2.heap.size wl2 wr) := hbel
              have sg : wl2.heap.size ≤ wr.heap.size := hbel.size
              clear hq
              have d0 : wr.cell? ⟨B0, 0, none⟩ = some (.slice a1 n1 c1) := (Below.celz hbel _ _ _ (by omega)).trans cc0
              have d1 : wr.cell? ⟨B0, 1, none⟩ = some (.slice a2 n2 c2) := (Below.celz hbel _ _ _ (by omega)).trans cc1
              have d2 : wr.cell? ⟨B0, 2, none⟩ = some (.slice a3 n3 c3) := (Below.celz hbel _ _ _ (by omega)).trans cc2
              have d3 : wr.cell? ⟨B0, 3, none⟩ = some (.slice a4 n4 c4) := (Below.celz hbel _ _ _ (by omega)).trans cc3
              have d4 : wr.cell? ⟨B0, 4, none⟩ = some (.slice a5 n5 c5) := (Below.celz hbel _ _ _ (by omega)).trans cc4
              have d5 : wr.cell? ⟨B1, 0, none⟩ = some (.slice b1 n1 w1') := (Below.celz hbel _ _ _ (by omega)).trans cc5
              have d6 : wr.cell? ⟨B1, 1, none⟩ = some (.slice b2 r2 w2') := (Below.celz hbel _ _ _ (by omega)).trans cc6
              have d7 : wr.cell? ⟨B1, 2, none⟩ = some (.slice b3 r3 w3') := (Below.celz hbel _ _ _ (by omega)).trans cc7
              have d8 : wr.cell? ⟨B1, 3, none⟩ = some (.slice b4 n4 w4') := (Below.celz hbel _ _ _ (by omega)).trans cc8
              have d9 : wr.cell? ⟨B1, 4, none⟩ = some (.slice b5 n5 w5') := (Below.celz hbel _ _ _ (by omega)).trans cc9
              have y0 : B0 < wr.heap.size := by have := Below.size hbel; omega
              have y1 : B1 < wr.heap.size := by have := Below.size hbel; omega
              have BB1 : Below A w wr := BB.trans (hbel.mono (by omega))
              have sA1 : A ≤ wr.heap.size := by have := Below.size hbel; omega
              have q0 : Hid (AtWorld wr (.slice a1 n1 c1) (.slice a2 n2 c2) (.slice a3 n3 c3) (.slice a4 n4 c4) (.slice a5 n5 c5) x1 x2 x3 x4 x5) := HX.out.keep hbel
              have q1 : Hid (AtWorld wr (.slice b1 n1 w1') (.slice b2 r2 w2') (.slice b3 r3 w3') (.slice b4 n4 w4') (.slice b5 n5 w5') t1 t2 t3 t4 t5) := HY.out.keep hbel
              clear BB sA cc0 cc1 cc2 cc3 cc4 cc5 cc6 cc7 cc8 cc9 zz0 zz1 HX HY
              have cc0 := d0
              have cc1 := d1
              have cc2 := d2
              have cc3 := d3
              have cc4 := d4
              have cc5 := d5
              have cc6 := d6
              have cc7 := d7
              have cc8 := d8
              have cc9 := d9
              have zz0 := y0
              have zz1 := y1
              have HX := q0
              have HY := q1
              have BB := BB1
              have sA := sA1
              clear BB1 sA1 d0 d1 d2 d3 d4 d5 d6 d7 d8 d9 y0 y1 q0 q1
              clear hbel
              by_cases hlt : k < n5
              · have k0 : (0 : Int) ≤ (k : Int) := by omega
                have k1 : (k : Int) < (n5 : Int) := by omega
                rcases HX.out.2.2.2.2 with ⟨hz0, _⟩ | ⟨_, be, oe, cap', hv, hbe, hc⟩
                · exfalso; have h1 := HN.out.1.2.2.2.2; rw [hz0] at h1; simp at h1; omega
                simp only [Value.slice.injEq] at hv
                obtain ⟨rfl, -, -⟩ := hv
                obtain ⟨m0, hx⟩ : ∃ x, x5[k]? = some x := ⟨_, List.getElem?_eq_getElem (by have := HN.out.1.2.2.2.2; omega)⟩
                have e0 : wr.cell? ⟨be, oe + k, none⟩ = some (.int .i64 m0) := cellI hc hx
                have ze : be < wr.heap.size := hbe
                clear hc hbe
                rcases HY.out.2.2.2.2 with ⟨hz0, _⟩ | ⟨_, bf, of, cap', hv, hbf, hc⟩
                · exfalso; have h1 := HN.out.2.2.2.2.2; rw [hz0] at h1; simp at h1; omega
                simp only [Value.slice.injEq] at hv
                obtain ⟨rfl, -, -⟩ := hv
                obtain ⟨p0, hy⟩ : ∃ x, t5[k]? = some x := ⟨_, List.getElem?_eq_getElem (by have := HN.out.2.2.2.2.2; omega)⟩
                have f0 : wr.cell? ⟨bf, of + k, none⟩ = some (.int .i64 p0) := cellI hc hy
                have zf : bf < wr.heap.size := hbf
                clear hc hbf
                have HXk : Hid (x5[k]? = some m0 ∧ t5[k]? = some p0) := ⟨hx, hy⟩
                clear hx hy
                by_cases h0' : m0 = p0
                rotate_left
                · have HD : Hid (¬ m0 = p0) := h0'
                  have d1 : (m0 == p0) = false := beq_eq_false_iff_ne.2 h0'
                  have t1' : (m0 != p0) = true := by simpa using h0'
                  have u1' : decide (m0 = p0) = false := by simpa using h0'
                  clear h0'
                  go_wp2_with fail
                  refine wp_region_after (by kernel_rfl) (by kernel_rfl) ?_
                  intro hneq hac
                  repeat (go_big_quiet_step (first | fail))
                  refine wpQuiet_nil ?_
                  rintro _ ⟨p, rfl⟩
                  have bq : Below wr.heap.size wr p.w := p.bel
                  clear hac hneq
                  generalize p.w = wq at *
                  have d0 : wq.cell? ⟨B0, 0, none⟩ = some (.slice a1 n1 c1) := (Below.celz bq _ _ _ (by omega)).trans cc0
                  have d1 : wq.cell? ⟨B0, 1, none⟩ = some (.slice a2 n2 c2) := (Below.celz bq _ _ _ (by omega)).trans cc1
                  have d2 : wq.cell? ⟨B0, 2, none⟩ = some (.slice a3 n3 c3) := (Below.celz bq _ _ _ (by omega)).trans cc2
                  have d3 : wq.cell? ⟨B0, 3, none⟩ = some (.slice a4 n4 c4) := (Below.celz bq _ _ _ (by omega)).trans cc3
                  have d4 : wq.cell? ⟨B0, 4, none⟩ = some (.slice (some ⟨be, oe, none⟩) n5 c5) := (Below.celz bq _ _ _ (by omega)).trans cc4
                  have d5 : wq.cell? ⟨B1, 0, none⟩ = some (.slice b1 n1 w1') := (Below.celz bq _ _ _ (by omega)).trans cc5
                  have d6 : wq.cell? ⟨B1, 1, none⟩ = some (.slice b2 r2 w2') := (Below.celz bq _ _ _ (by omega)).trans cc6
                  have d7 : wq.cell? ⟨B1, 2, none⟩ = some (.slice b3 r3 w3') := (Below.celz bq _ _ _ (by omega)).trans cc7
                  have d8 : wq.cell? ⟨B1, 3, none⟩ = some (.slice b4 n4 w4') := (Below.celz bq _ _ _ (by omega)).trans cc8
                  have d9 : wq.cell? ⟨B1, 4, none⟩ = some (.slice (some ⟨bf, of, none⟩) n5 w5') := (Below.celz bq _ _ _ (by omega)).trans cc9
                  have y0 : B0 < wq.heap.size := by have := Below.size bq; omega
                  have y1 : B1 < wq.heap.size := by have := Below.size bq; omega
                  have BB1 : Below A w wq := BB.trans (bq.mono (by omega))
                  have sA1 : A ≤ wq.heap.size := by have := Below.size bq; omega
                  have q0 : Hid (AtWorld wq (.slice a1 n1 c1) (.slice a2 n2 c2) (.slice a3 n3 c3) (.slice a4 n4 c4) (.slice (some ⟨be, oe, none⟩) n5 c5) x1 x2 x3 x4 x5) := HX.out.keep bq
                  have q1 : Hid (AtWorld wq (.slice b1 n1 w1') (.slice b2 r2 w2') (.slice b3 r3 w3') (.slice b4 n4 w4') (.slice (some ⟨bf, of, none⟩) n5 w5') t1 t2 t3 t4 t5) := HY.out.keep bq
                  clear BB sA cc0 cc1 cc2 cc3 cc4 cc5 cc6 cc7 cc8 cc9 zz0 zz1 HX HY
                  have cc0 := d0
                  have cc1 := d1
                  have cc2 := d2
                  have cc3 := d3
                  have cc4 := d4
                  have cc5 := d5
                  have cc6 := d6
                  have cc7 := d7
                  have cc8 := d8
                  have cc9 := d9
                  have zz0 := y0
                  have zz1 := y1
                  have HX := q0
                  have HY := q1
                  have BB := BB1
                  have sA := sA1
                  clear BB1 sA1 d0 d1 d2 d3 d4 d5 d6 d7 d8 d9 y0 y1 q0 q1
                  clear bq
                  go_wp2_with fail
                  go_ret
                  have hs : sameW x1 x2 x3 x4 x5 t1 t2 t3 t4 t5 = false := by
                    apply Bool.eq_false_iff.2
                    intro hs
                    obtain ⟨s1, s2, s3, s4, s5⟩ := sameW_true.1 hs
                    have h3 := HXk.out.1; rw [show x5 = _ from s5] at h3; rw [HXk.out.2] at h3; exact HD.out (Option.some.inj h3).symm
                  exact ⟨by rw [hs]; rfl, (by have := BB; rw [HA.out] at this; exact this)⟩
                subst h0'
                go_wp2_with fail
                refine wp_region_after (by kernel_rfl) (by kernel_rfl) ?_
                intro hne hac
                repeat (go_big_quiet_step (fail))
                refine wpQuiet_nil ?_
                rintro _ ⟨p, rfl⟩
                have HB2 : Hid (Below wl2.heap.size wl2 p.w) := HBL.out.trans (p.bel.mono sg)
                have bq : Below wr.heap.size wr p.w := p.bel
                clear hac hne
                generalize p.w = wq at *
                clear bq
                go_wp2_with fail
                go_roundw
                case rel =>
                  refine ⟨k + 1, by omega, by go_num, HB2.out, fun j hj => ?_⟩
                  rcases Nat.lt_succ_iff_lt_or_eq.1 hj with h | rfl
                  · exact HQ.out j h
                  · rw [HXk.out.1, HXk.out.2]
                case measure => simp [intOf]; omega
              · have hkn : n5 = k := by omega
                subst hkn
                have HE5 : Hid (x5 = t5) := by
                  show x5 = t5
                  apply List.ext_getElem?
                  intro j
                  by_cases hj : j < n5
                  · exact HQ.out j hj
                  · rw [List.getElem?_eq_none (by have h1 := HN.out.1; (try simp only [List.length_map]); omega), List.getElem?_eq_none (by have h1 := HN.out.2; (try simp only [List.length_map]); omega)]
                clear HQ HBL hlt hk sg
                go_wp2_with fail
                obtain ⟨wl3, rfl⟩ : ∃ t, t = wr := ⟨_, rfl⟩
                go_ret
                have hs : sameW x1 x2 x3 x4 x5 t1 t2 t3 t4 t5 = true := by
                  have h2 : x2 = t2 ∧ x3 = t3 := by rw [Bool.and_eq_true, eqB_true, eqB_true] at hG; exact hG
                  exact sameW_true.2 ⟨HE1.out, h2.1, h2.2, HE4.out, HE5.out⟩
                exact ⟨by rw [hs]; rfl, (by have := BB; rw [HA.out] at this; exact this)⟩
end Go.Proofs.Ytnhacflknkgfgaa.Lab
