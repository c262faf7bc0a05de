/-
  A scene out of a world: (*seat).fits, sceneOf and WorldOk of the program. (Written by tools/mksce.py.)
-/
import Derived.Test.YtfnmalcjhblhhaaDoorWok
import Derived.Test.YtfnmalcjhblhhaaDoorGki
import Derived.Test.YtfnmalcjhblhhaaDoorIpo
namespace Go.Proofs.YtfnmalcjhblhhaaDoor.Lab
open Go.RowKit
set_option linter.unusedVariables false
set_option maxHeartbeats 4000000 in
theorem fits (S : Nat) (c s q m0 l : Int) (ma : Option Addr) (mn mc : Nat) (ml : List (Int × Int)) (w : World) (e0 : w.cell? ⟨S, 0, none⟩ = some (.int .i64 c)) (e1 : w.cell? ⟨S, 1, none⟩ = some (.int .i64 s)) (e2 : w.cell? ⟨S, 2, none⟩ = some (.int .i64 q))
    (e3 : w.cell? ⟨S, 3, none⟩ = some (.int .i64 m0)) (e4 : w.cell? ⟨S, 4, none⟩ = some (.slice ma mn mc)) (e5 : w.cell? ⟨S, 5, none⟩ = some (.int .i64 l)) (hr : RowAt 2 encPage w (.slice ma mn mc) ml) (hl : ml.length ≤ 1048576) (hf : FormAt w) (zs : S < w.heap.size) :
    Calls Tryd.prog 44 #[.pointer (some ⟨S, 0, none⟩)] w fun e w' => e = .returned (.bool (seatB (c, s, q) (m0, (.slice ma mn mc, ml)) l)) ∧ Below w.heap.size w w' := by
  have HR : Hid (RowAt 2 encPage w (.slice ma mn mc) ml ∧ FormAt w) := ⟨hr, hf⟩
  clear hr hf
  unfold seatB
  simp only
  cases hp : poolB m0 ml
  · skip
    go_enter Tryd.func44, Tryd.ntmps44
    go_wp2_with fail
    refine wp_region_after (by kernel_rfl) (by kernel_rfl) ?_
    intro hne hac
    repeat (go_big_quiet_step (first | (go_at_call 60; exact after_at (x := poolB m0 ml) (y := false) hp (impl_PoolOk m0 _ ml _ (HR.out.1.keep (After.bel _)) hl (HR.out.2.keep (After.bel _))))))
    refine wpQuiet_nil ?_
    rintro _ ⟨p, rfl⟩
    have HB : Hid (Below w.heap.size w p.w) := p.bel
    clear hac hne
    generalize p.w = wq at *
    go_wp2_with fail
    go_ret
    exact ⟨by first | rfl | (simp; done), HB.out⟩
  · by_cases h1 : m0 = s
    · subst h1
      by_cases h2 : 0 ≤ l
      · by_cases h3 : l ≤ q
        · have u2 : decide (0 ≤ l) = true := decide_eq_true h2
          have u3 : decide (l ≤ q) = true := decide_eq_true h3
          go_enter Tryd.func44, Tryd.ntmps44
          go_wp2_with fail
          refine wp_region_after (by kernel_rfl) (by kernel_rfl) ?_
          intro hne hac
          repeat (go_big_quiet_step (first | (go_at_call 60; exact after_at (x := poolB m0 ml) (y := true) hp (impl_PoolOk m0 _ ml _ (HR.out.1.keep (After.bel _)) hl (HR.out.2.keep (After.bel _))))))
          refine wpQuiet_nil ?_
          rintro _ ⟨p, rfl⟩
          have HB : Hid (Below w.heap.size w p.w) := p.bel
          clear hac hne
          generalize p.w = wq at *
          go_wp2_with fail
          go_ret
          exact ⟨by first | rfl | (simp; done) | (simp [h2, h3]; done), HB.out⟩
        · have u2 : decide (0 ≤ l) = true := decide_eq_true h2
          have u3 : decide (l ≤ q) = false := decide_eq_false h3
          go_enter Tryd.func44, Tryd.ntmps44
          go_wp2_with fail
          refine wp_region_after (by kernel_rfl) (by kernel_rfl) ?_
          intro hne hac
          repeat (go_big_quiet_step (first | (go_at_call 60; exact after_at (x := poolB m0 ml) (y := true) hp (impl_PoolOk m0 _ ml _ (HR.out.1.keep (After.bel _)) hl (HR.out.2.keep (After.bel _))))))
          refine wpQuiet_nil ?_
          rintro _ ⟨p, rfl⟩
          have HB : Hid (Below w.heap.size w p.w) := p.bel
          clear hac hne
          generalize p.w = wq at *
          go_wp2_with fail
          go_ret
          exact ⟨by first | rfl | (simp; done) | (simp [u3]; done) | (simp [u2, u3]; done), HB.out⟩
      · have u2 : decide (0 ≤ l) = false := decide_eq_false h2
        go_enter Tryd.func44, Tryd.ntmps44
        go_wp2_with fail
        refine wp_region_after (by kernel_rfl) (by kernel_rfl) ?_
        intro hne hac
        repeat (go_big_quiet_step (first | (go_at_call 60; exact after_at (x := poolB m0 ml) (y := true) hp (impl_PoolOk m0 _ ml _ (HR.out.1.keep (After.bel _)) hl (HR.out.2.keep (After.bel _))))))
        refine wpQuiet_nil ?_
        rintro _ ⟨p, rfl⟩
        have HB : Hid (Below w.heap.size w p.w) := p.bel
        clear hac hne
        generalize p.w = wq at *
        go_wp2_with fail
        go_ret
        exact ⟨by first | rfl | (simp; done) | (simp [u2]; done), HB.out⟩
    · have d1 : (m0 == s) = false := by simpa using h1
      have d2 : (m0 != s) = true := by simpa using h1
      have d3 : decide (m0 = s) = false := by simpa using h1
      clear h1
      go_enter Tryd.func44, Tryd.ntmps44
      go_wp2_with fail
      refine wp_region_after (by kernel_rfl) (by kernel_rfl) ?_
      intro hne hac
      repeat (go_big_quiet_step (first | (go_at_call 60; exact after_at (x := poolB m0 ml) (y := true) hp (impl_PoolOk m0 _ ml _ (HR.out.1.keep (After.bel _)) hl (HR.out.2.keep (After.bel _))))))
      refine wpQuiet_nil ?_
      rintro _ ⟨p, rfl⟩
      have HB : Hid (Below w.heap.size w p.w) := p.bel
      clear hac hne
      generalize p.w = wq at *
      go_wp2_with fail
      go_ret
      exact ⟨by first | rfl | (simp; done) | (simp [d3]; done), HB.out⟩
theorem Tryd.infoSeatP : (Tryd.prog.info? 102).map (fun i => (i.zero, i.size, i.bytes)) = some (some (.pointer none), 1, 8) := by kernel_rfl
/-- A world behind another. -/
def Aft (w0 w : World) : Prop := Below w0.heap.size w0 w
theorem Aft.keep {w0 w w' : World} (h : Aft w0 w) (hb : Below w.heap.size w w') : Aft w0 w' := Below.trans h (hb.mono (Below.size h))
/-- A scene under way: so many are seated. -/
def ScAt (w : World) (SC : Nat) (b mp : Value) (v : Value) (k : Nat) : Prop := w.heap[SC]? = some (.cells #[v, b, mp] 101 (0, 0)) ∧ ∃ xs, w.ownsRow (SC + 1) 102 1 v k xs
theorem ScAt.keep {w w' : World} {SC : Nat} {b mp v : Value} {k : Nat} (h : ScAt w SC b mp v k) (hb : Below w.heap.size w w') : ScAt w' SC b mp v k := ⟨(hb.block _ (lt_of_block h.1)).trans h.1, h.2.imp fun _ h => own_keep h hb⟩
set_option maxRecDepth 16000 in
set_option maxHeartbeats 8000000 in
theorem sceneOf (v1 v2 v3 v4 v5 : Value) (x1 : List (Int × Int × Int)) (x2 : List (Int × Int)) (x3 : List (Int × Int × Int × Int × Int)) (x4 : List (Int × (Value × List (Int × Int)))) (x5 : List Int) (w : World) (h : AtWorld w v1 v2 v3 v4 v5 x1 x2 x3 x4 x5) (fx : FewWorld x1 x2 x3 x4 x5) (hE : Errs w) :
    Calls Tryd.prog 20 #[.agg #[v1, v2, v3, v4, v5]] w fun e w' => ((WOk x1 x2 x3 x4 x5 ∧ ∃ b, e = .returned (.tuple #[.pointer (some b), .nilIface])) ∨ (¬ WOk x1 x2 x3 x4 x5 ∧ ∃ t v, e = .returned (.tuple #[.pointer none, .iface t v]))) ∧ Below w.heap.size w w' := by
  obtain ⟨a1, c1, a2, c2, a3, c3, a4, c4, a5, c5, rfl, rfl, rfl, rfl, rfl⟩ := h.form
  generalize hn1 : x1.length = n1 at h ⊢
  generalize hn2 : x2.length = n2 at h ⊢
  generalize hn3 : x3.length = n3 at h ⊢
  generalize hn4 : x4.length = n4 at h ⊢
  generalize hn5 : x5.length = n5 at h ⊢
  have HN : Hid (x1.length = n1 ∧ x2.length = n2 ∧ x3.length = n3 ∧ x4.length = n4 ∧ x5.length = n5) := ⟨hn1, hn2, hn3, hn4, hn5⟩
  have l1 : n1 ≤ 1048576 := by rw [← hn1]; exact fx.1
  have l4 : n4 ≤ 1048576 := by rw [← hn4]; exact fx.2.2.2.1.1
  have l5 : n5 ≤ 1048576 := by rw [← hn5]; exact fx.2.2.2.2
  have HFW : Hid (FewWorld x1 x2 x3 x4 x5) := fx
  clear fx hn1 hn2 hn3 hn4 hn5
  obtain ⟨t0, v0, hE0⟩ := hE.1
  have hgl := FormAt.lt hE.1
  obtain ⟨A, hA⟩ : ∃ t, t = w.heap.size := ⟨_, rfl⟩
  have HA : Hid (A = w.heap.size) := hA
  have BB : Below A w w := Below.refl _ _
  have sA : A ≤ w.heap.size := by omega
  have hgA : 0 < A := by rw [HA.out]; exact hgl
  clear hA hgl
  have HX : Hid (AtWorld w (.slice a1 n1 c1) (.slice a2 n2 c2) (.slice a3 n3 c3) (.slice a4 n4 c4) (.slice a5 n5 c5) x1 x2 x3 x4 x5) := h
  have HE : Hid (Errs w) := hE
  clear h hE
  have HG : Hid (∀ W, Below A w W → W.cell? ⟨0, 0, none⟩ = some (.iface t0 v0)) := fun W h => (Below.celz h _ _ _ hgA).trans hE0
  clear hE0
  go_enter Tryd.func20, Tryd.ntmps20
  go_wp2_with fail
  obtain ⟨B0, hB0⟩ : ∃ t, t = w.heap.size := ⟨_, rfl⟩
  generalize hW : w.alloc (.cells #[.slice a1 n1 c1, .slice a2 n2 c2, .slice a3 n3 c3, .slice a4 n4 c4, .slice a5 n5 c5] 40) = wa
  have nb : Below w.heap.size w wa := by rw [← hW]; exact (Below.refl _ _).alloc (Nat.le_refl _) _
  have k3 : wa.heap.size = B0 + 1 := by rw [← hW, hB0]; simp
  have kk0 : wa.cell? ⟨B0, 0, none⟩ = some (.slice a1 n1 c1) := by rw [← hW, hB0]; simp [go_sem]
  have kk1 : wa.cell? ⟨B0, 1, none⟩ = some (.slice a2 n2 c2) := by rw [← hW, hB0]; simp [go_sem]
  have kk2 : wa.cell? ⟨B0, 2, none⟩ = some (.slice a3 n3 c3) := by rw [← hW, hB0]; simp [go_sem]
  have kk3 : wa.cell? ⟨B0, 3, none⟩ = some (.slice a4 n4 c4) := by rw [← hW, hB0]; simp [go_sem]
  have kk4 : wa.cell? ⟨B0, 4, none⟩ = some (.slice a5 n5 c5) := by rw [← hW, hB0]; simp [go_sem]
  have oB0A : A ≤ B0 := by rw [hB0]; exact sA
  have BB1 : Below A w wa := BB.trans (nb.mono (by omega))
  have sA1 : A ≤ wa.heap.size := by have := Below.size nb; omega
  have q0 : Hid (AtWorld wa (.slice a1 n1 c1) (.slice a2 n2 c2) (.slice a3 n3 c3) (.slice a4 n4 c4) (.slice a5 n5 c5) x1 x2 x3 x4 x5) := HX.out.keep nb
  have q1 : Hid (Errs wa) := HE.out.keep nb
  clear BB sA   HX HE
  have HX := q0
  have HE := q1
  have BB := BB1
  have sA := sA1
  clear BB1 sA1   q0 q1
  have cc0 := kk0
  have cc1 := kk1
  have cc2 := kk2
  have cc3 := kk3
  have cc4 := kk4
  have zz0 : B0 < wa.heap.size := by omega
  rw [← hB0]
  have k3B0 := k3
  clear k3 hW nb hB0 kk0 kk1 kk2 kk3 kk4
  clear k3B0
  refine (impl_peopleOk _ x1 _ HX.out.1 HFW.out.1).mono ?_
  rintro e wb ⟨rfl, bz⟩
  have d0 : wb.cell? ⟨B0, 0, none⟩ = some (.slice a1 n1 c1) := (Below.celz bz _ _ _ (by omega)).trans cc0
  have d1 : wb.cell? ⟨B0, 1, none⟩ = some (.slice a2 n2 c2) := (Below.celz bz _ _ _ (by omega)).trans cc1
  have d2 : wb.cell? ⟨B0, 2, none⟩ = some (.slice a3 n3 c3) := (Below.celz bz _ _ _ (by omega)).trans cc2
  have d3 : wb.cell? ⟨B0, 3, none⟩ = some (.slice a4 n4 c4) := (Below.celz bz _ _ _ (by omega)).trans cc3
  have d4 : wb.cell? ⟨B0, 4, none⟩ = some (.slice a5 n5 c5) := (Below.celz bz _ _ _ (by omega)).trans cc4
  have y0 : B0 < wb.heap.size := by have := Below.size bz; omega
  have BB1 : Below A w wb := BB.trans (bz.mono (by omega))
  have sA1 : A ≤ wb.heap.size := by have := Below.size bz; omega
  have q0 : Hid (AtWorld wb (.slice a1 n1 c1) (.slice a2 n2 c2) (.slice a3 n3 c3) (.slice a4 n4 c4) (.slice a5 n5 c5) x1 x2 x3 x4 x5) := HX.out.keep bz
  have q1 : Hid (Errs wb) := HE.out.keep bz
  clear BB sA cc0 cc1 cc2 cc3 cc4 zz0 HX HE
  have cc0 := d0
  have cc1 := d1
  have cc2 := d2
  have cc3 := d3
  have cc4 := d4
  have zz0 := y0
  have HX := q0
  have HE := q1
  have BB := BB1
  have sA := sA1
  clear BB1 sA1 d0 d1 d2 d3 d4 y0 q0 q1
  clear bz
  cases hP : peopleB x1
  · have eg : wb.cell? ⟨0, 0, none⟩ = some (.iface t0 v0) := HG.out _ BB
    have zg0 : 0 < wb.heap.size := by omega
    go_wp2_with fail
    refine wp_region_after (by kernel_rfl) (by kernel_rfl) ?_
    intro hneq hac
    repeat (go_big_quiet_step (first | fail))
    refine wpQuiet_nil ?_
    rintro _ ⟨p, rfl⟩
    have bq : Below wb.heap.size wb p.w := p.bel
    clear hac hneq
    generalize p.w = wq at *
    have d0 : wq.cell? ⟨B0, 0, none⟩ = some (.slice a1 n1 c1) := (Below.celz bq _ _ _ (by omega)).trans cc0
    have d1 : wq.cell? ⟨B0, 1, none⟩ = some (.slice a2 n2 c2) := (Below.celz bq _ _ _ (by omega)).trans cc1
    have d2 : wq.cell? ⟨B0, 2, none⟩ = some (.slice a3 n3 c3) := (Below.celz bq _ _ _ (by omega)).trans cc2
    have d3 : wq.cell? ⟨B0, 3, none⟩ = some (.slice a4 n4 c4) := (Below.celz bq _ _ _ (by omega)).trans cc3
    have d4 : wq.cell? ⟨B0, 4, none⟩ = some (.slice a5 n5 c5) := (Below.celz bq _ _ _ (by omega)).trans cc4
    have y0 : B0 < wq.heap.size := by have := Below.size bq; omega
    have BB1 : Below A w wq := BB.trans (bq.mono (by omega))
    have sA1 : A ≤ wq.heap.size := by have := Below.size bq; omega
    have q0 : Hid (AtWorld wq (.slice a1 n1 c1) (.slice a2 n2 c2) (.slice a3 n3 c3) (.slice a4 n4 c4) (.slice a5 n5 c5) x1 x2 x3 x4 x5) := HX.out.keep bq
    have q1 : Hid (Errs wq) := HE.out.keep bq
    clear BB sA cc0 cc1 cc2 cc3 cc4 zz0 HX HE
    have cc0 := d0
    have cc1 := d1
    have cc2 := d2
    have cc3 := d3
    have cc4 := d4
    have zz0 := y0
    have HX := q0
    have HE := q1
    have BB := BB1
    have sA := sA1
    clear BB1 sA1 d0 d1 d2 d3 d4 y0 q0 q1
    clear bq
    clear eg zg0
    go_wp2_with fail
    try simp only [Exit.inBlock, Exit.then]
    refine bodyPost_ret (v := .tuple #[.pointer none, .iface t0 v0]) (by simp [*, results, Tryd.results20, go_sem]) rfl ?_
    exact ⟨.inr ⟨fun h => (by rw [h.1] at hP; cases hP), _, _, rfl⟩, (by have := BB; rw [HA.out] at this; exact this)⟩
  · by_cases q40 : n4 = n1
    rotate_left
    · have hd : ((n4 : Int) != (n1 : Int)) = true := by rw [bne_iff_ne]; omega
      have HD : Hid (¬ n4 = n1) := q40
      clear q40
      have eg : wb.cell? ⟨0, 0, none⟩ = some (.iface t0 v0) := HG.out _ BB
      have zg0 : 0 < wb.heap.size := by omega
      go_wp2_with fail
      refine wp_region_after (by kernel_rfl) (by kernel_rfl) ?_
      intro hneq hac
      repeat (go_big_quiet_step (first | fail))
      refine wpQuiet_nil ?_
      rintro _ ⟨p, rfl⟩
      have bq : Below wb.heap.size wb p.w := p.bel
      clear hac hneq
      generalize p.w = wq at *
      have d0 : wq.cell? ⟨B0, 0, none⟩ = some (.slice a1 n1 c1) := (Below.celz bq _ _ _ (by omega)).trans cc0
      have d1 : wq.cell? ⟨B0, 1, none⟩ = some (.slice a2 n2 c2) := (Below.celz bq _ _ _ (by omega)).trans cc1
      have d2 : wq.cell? ⟨B0, 2, none⟩ = some (.slice a3 n3 c3) := (Below.celz bq _ _ _ (by omega)).trans cc2
      have d3 : wq.cell? ⟨B0, 3, none⟩ = some (.slice a4 n4 c4) := (Below.celz bq _ _ _ (by omega)).trans cc3
      have d4 : wq.cell? ⟨B0, 4, none⟩ = some (.slice a5 n5 c5) := (Below.celz bq _ _ _ (by omega)).trans cc4
      have y0 : B0 < wq.heap.size := by have := Below.size bq; omega
      have BB1 : Below A w wq := BB.trans (bq.mono (by omega))
      have sA1 : A ≤ wq.heap.size := by have := Below.size bq; omega
      have q0 : Hid (AtWorld wq (.slice a1 n1 c1) (.slice a2 n2 c2) (.slice a3 n3 c3) (.slice a4 n4 c4) (.slice a5 n5 c5) x1 x2 x3 x4 x5) := HX.out.keep bq
      have q1 : Hid (Errs wq) := HE.out.keep bq
      clear BB sA cc0 cc1 cc2 cc3 cc4 zz0 HX HE
      have cc0 := d0
      have cc1 := d1
      have cc2 := d2
      have cc3 := d3
      have cc4 := d4
      have zz0 := y0
      have HX := q0
      have HE := q1
      have BB := BB1
      have sA := sA1
      clear BB1 sA1 d0 d1 d2 d3 d4 y0 q0 q1
      clear bq
      clear eg zg0
      go_wp2_with fail
      try simp only [Exit.inBlock, Exit.then]
      refine bodyPost_ret (v := .tuple #[.pointer none, .iface t0 v0]) (by simp [*, results, Tryd.results20, go_sem]) rfl ?_
      exact ⟨.inr ⟨fun h => (by exact HD.out (by have h1 := HN.out; have h2 := h.2.2.1; omega)), _, _, rfl⟩, (by have := BB; rw [HA.out] at this; exact this)⟩
    obtain rfl : n1 = n4 := q40.symm
    by_cases q50 : n5 = n1
    rotate_left
    · have hd : ((n5 : Int) != (n1 : Int)) = true := by rw [bne_iff_ne]; omega
      have HD : Hid (¬ n5 = n1) := q50
      clear q50
      have eg : wb.cell? ⟨0, 0, none⟩ = some (.iface t0 v0) := HG.out _ BB
      have zg0 : 0 < wb.heap.size := by omega
      go_wp2_with fail
      refine wp_region_after (by kernel_rfl) (by kernel_rfl) ?_
      intro hneq hac
      repeat (go_big_quiet_step (first | fail))
      refine wpQuiet_nil ?_
      rintro _ ⟨p, rfl⟩
      have bq : Below wb.heap.size wb p.w := p.bel
      clear hac hneq
      generalize p.w = wq at *
      have d0 : wq.cell? ⟨B0, 0, none⟩ = some (.slice a1 n1 c1) := (Below.celz bq _ _ _ (by omega)).trans cc0
      have d1 : wq.cell? ⟨B0, 1, none⟩ = some (.slice a2 n2 c2) := (Below.celz bq _ _ _ (by omega)).trans cc1
      have d2 : wq.cell? ⟨B0, 2, none⟩ = some (.slice a3 n3 c3) := (Below.celz bq _ _ _ (by omega)).trans cc2
      have d3 : wq.cell? ⟨B0, 3, none⟩ = some (.slice a4 n1 c4) := (Below.celz bq _ _ _ (by omega)).trans cc3
      have d4 : wq.cell? ⟨B0, 4, none⟩ = some (.slice a5 n5 c5) := (Below.celz bq _ _ _ (by omega)).trans cc4
      have y0 : B0 < wq.heap.size := by have := Below.size bq; omega
      have BB1 : Below A w wq := BB.trans (bq.mono (by omega))
      have sA1 : A ≤ wq.heap.size := by have := Below.size bq; omega
      have q0 : Hid (AtWorld wq (.slice a1 n1 c1) (.slice a2 n2 c2) (.slice a3 n3 c3) (.slice a4 n1 c4) (.slice a5 n5 c5) x1 x2 x3 x4 x5) := HX.out.keep bq
      have q1 : Hid (Errs wq) := HE.out.keep bq
      clear BB sA cc0 cc1 cc2 cc3 cc4 zz0 HX HE
      have cc0 := d0
      have cc1 := d1
      have cc2 := d2
      have cc3 := d3
      have cc4 := d4
      have zz0 := y0
      have HX := q0
      have HE := q1
      have BB := BB1
      have sA := sA1
      clear BB1 sA1 d0 d1 d2 d3 d4 y0 q0 q1
      clear bq
      clear eg zg0
      go_wp2_with fail
      try simp only [Exit.inBlock, Exit.then]
      refine bodyPost_ret (v := .tuple #[.pointer none, .iface t0 v0]) (by simp [*, results, Tryd.results20, go_sem]) rfl ?_
      exact ⟨.inr ⟨fun h => (by exact HD.out (by have h1 := HN.out; have h2 := h.2.2.2.1; omega)), _, _, rfl⟩, (by have := BB; rw [HA.out] at this; exact this)⟩
    obtain rfl : n1 = n5 := q50.symm
    go_wp2_with fail
    obtain ⟨t1, u1, hC⟩ := bookOf _ _ x2 x3 _ HX.out.2.1 HX.out.2.2.1 HFW.out.2.1 HFW.out.2.2.1 HE.out
    refine hC.mono ?_
    rintro e wc (⟨hg, bz, b, mn, me, rfl, _⟩ | ⟨hg, rfl, bz⟩)
    rotate_left
    · clear hC
      have d0 : wc.cell? ⟨B0, 0, none⟩ = some (.slice a1 n1 c1) := (Below.celz bz _ _ _ (by omega)).trans cc0
      have d1 : wc.cell? ⟨B0, 1, none⟩ = some (.slice a2 n2 c2) := (Below.celz bz _ _ _ (by omega)).trans cc1
      have d2 : wc.cell? ⟨B0, 2, none⟩ = some (.slice a3 n3 c3) := (Below.celz bz _ _ _ (by omega)).trans cc2
      have d3 : wc.cell? ⟨B0, 3, none⟩ = some (.slice a4 n1 c4) := (Below.celz bz _ _ _ (by omega)).trans cc3
      have d4 : wc.cell? ⟨B0, 4, none⟩ = some (.slice a5 n1 c5) := (Below.celz bz _ _ _ (by omega)).trans cc4
      have y0 : B0 < wc.heap.size := by have := Below.size bz; omega
      have BB1 : Below A w wc := BB.trans (bz.mono (by omega))
      have sA1 : A ≤ wc.heap.size := by have := Below.size bz; omega
      have q0 : Hid (AtWorld wc (.slice a1 n1 c1) (.slice a2 n2 c2) (.slice a3 n3 c3) (.slice a4 n1 c4) (.slice a5 n1 c5) x1 x2 x3 x4 x5) := HX.out.keep bz
      have q1 : Hid (Errs wc) := HE.out.keep bz
      clear BB sA cc0 cc1 cc2 cc3 cc4 zz0 HX HE
      have cc0 := d0
      have cc1 := d1
      have cc2 := d2
      have cc3 := d3
      have cc4 := d4
      have zz0 := y0
      have HX := q0
      have HE := q1
      have BB := BB1
      have sA := sA1
      clear BB1 sA1 d0 d1 d2 d3 d4 y0 q0 q1
      clear bz
      go_wp2_with fail
      try simp only [Exit.inBlock, Exit.then]
      refine bodyPost_ret (v := .tuple #[.pointer none, .iface t1 u1]) (by simp [*, results, Tryd.results20, go_sem]) rfl ?_
      exact ⟨.inr ⟨fun h => (by exact hg h.2.1), _, _, rfl⟩, (by have := BB; rw [HA.out] at this; exact this)⟩
    clear hC
    have d0 : wc.cell? ⟨B0, 0, none⟩ = some (.slice a1 n1 c1) := (Below.celz bz _ _ _ (by omega)).trans cc0
    have d1 : wc.cell? ⟨B0, 1, none⟩ = some (.slice a2 n2 c2) := (Below.celz bz _ _ _ (by omega)).trans cc1
    have d2 : wc.cell? ⟨B0, 2, none⟩ = some (.slice a3 n3 c3) := (Below.celz bz _ _ _ (by omega)).trans cc2
    have d3 : wc.cell? ⟨B0, 3, none⟩ = some (.slice a4 n1 c4) := (Below.celz bz _ _ _ (by omega)).trans cc3
    have d4 : wc.cell? ⟨B0, 4, none⟩ = some (.slice a5 n1 c5) := (Below.celz bz _ _ _ (by omega)).trans cc4
    have y0 : B0 < wc.heap.size := by have := Below.size bz; omega
    have BB1 : Below A w wc := BB.trans (bz.mono (by omega))
    have sA1 : A ≤ wc.heap.size := by have := Below.size bz; omega
    have q0 : Hid (AtWorld wc (.slice a1 n1 c1) (.slice a2 n2 c2) (.slice a3 n3 c3) (.slice a4 n1 c4) (.slice a5 n1 c5) x1 x2 x3 x4 x5) := HX.out.keep bz
    have q1 : Hid (Errs wc) := HE.out.keep bz
    clear BB sA cc0 cc1 cc2 cc3 cc4 zz0 HX HE
    have cc0 := d0
    have cc1 := d1
    have cc2 := d2
    have cc3 := d3
    have cc4 := d4
    have zz0 := y0
    have HX := q0
    have HE := q1
    have BB := BB1
    have sA := sA1
    clear BB1 sA1 d0 d1 d2 d3 d4 y0 q0 q1
    clear bz
    have mk : ∀ (t : TypeId) (w' : World), (Instr.makeMap t none).run Tryd.prog w' = .ok (.map (some w'.heap.size)) (w'.alloc (.map #[] 0)) := run_makeMap
    go_wp2_with fail
    obtain ⟨MP, hMP⟩ : ∃ t, t = wc.heap.size := ⟨_, rfl⟩
    generalize hW : wc.alloc (.map #[] 0) = wm
    have nb : Below wc.heap.size wc wm := by rw [← hW]; exact (Below.refl _ _).alloc (Nat.le_refl _) _
    have k3MP : wm.heap.size = MP + 1 := by rw [← hW, hMP]; simp
    have d0 : wm.cell? ⟨B0, 0, none⟩ = some (.slice a1 n1 c1) := (Below.celz nb _ _ _ (by omega)).trans cc0
    have d1 : wm.cell? ⟨B0, 1, none⟩ = some (.slice a2 n2 c2) := (Below.celz nb _ _ _ (by omega)).trans cc1
    have d2 : wm.cell? ⟨B0, 2, none⟩ = some (.slice a3 n3 c3) := (Below.celz nb _ _ _ (by omega)).trans cc2
    have d3 : wm.cell? ⟨B0, 3, none⟩ = some (.slice a4 n1 c4) := (Below.celz nb _ _ _ (by omega)).trans cc3
    have d4 : wm.cell? ⟨B0, 4, none⟩ = some (.slice a5 n1 c5) := (Below.celz nb _ _ _ (by omega)).trans cc4
    have y0 : B0 < wm.heap.size := by have := Below.size nb; omega
    have BB1 : Below A w wm := BB.trans (nb.mono (by omega))
    have sA1 : A ≤ wm.heap.size := by have := Below.size nb; omega
    have q0 : Hid (AtWorld wm (.slice a1 n1 c1) (.slice a2 n2 c2) (.slice a3 n3 c3) (.slice a4 n1 c4) (.slice a5 n1 c5) x1 x2 x3 x4 x5) := HX.out.keep nb
    have q1 : Hid (Errs wm) := HE.out.keep nb
    clear BB sA cc0 cc1 cc2 cc3 cc4 zz0 HX HE
    have cc0 := d0
    have cc1 := d1
    have cc2 := d2
    have cc3 := d3
    have cc4 := d4
    have zz0 := y0
    have HX := q0
    have HE := q1
    have BB := BB1
    have sA := sA1
    clear BB1 sA1 d0 d1 d2 d3 d4 y0 q0 q1
    clear nb
    rw [← hMP, ← k3MP]
    clear hW hMP k3MP mk
    obtain ⟨SC, hSC⟩ : ∃ t, t = wm.heap.size := ⟨_, rfl⟩
    generalize hW : wm.alloc (.cells #[.slice none 0 0, .pointer (some ⟨b, 0, none⟩), .map (some MP)] 101) = ws
    have nbs : Below wm.heap.size wm ws := by rw [← hW]; exact (Below.refl _ _).alloc (Nat.le_refl _) _
    have HS0 : Hid (ScAt ws SC (.pointer (some ⟨b, 0, none⟩)) (.map (some MP)) (.slice none 0 0) 0) := ⟨by rw [← hW, hSC]; exact new_block _ _, [], World.ownsRow_nil _ _ _ _⟩
    have HSC : Hid (SC = wm.heap.size) := hSC
    have lSC : wm.heap.size ≤ SC := by omega
    rw [← hSC]
    clear hW hSC
    obtain ⟨i0, hi, hz0, hz1, hz2⟩ := info_parts Tryd.infoSeatP
    go_loopw [49] (fun i wr => ∃ (k : Nat) (v : Value), k ≤ n1 ∧ i = .int .i64 k ∧ Below wm.heap.size wm wr ∧ ScAt wr SC (.pointer (some ⟨b, 0, none⟩)) (.map (some MP)) v k ∧ SeatsTo x1 x4 x5 k) (fun i _ => n1 - (intOf i).toNat)
    case atStart => exact ⟨0, _, by omega, rfl, nbs, HS0.out, fun j x p l hj => by omega⟩
    case round =>
      clear nbs HS0
      obtain ⟨k, v, hk, rfl, hbel, hsc, hq⟩ := hrel
      have HQ : Hid (SeatsTo x1 x4 x5 k) := hq
      have HBL : Hid (Below wm.heap.size wm wr) := hbel
      have sg : wm.heap.size ≤ wr.heap.size := hbel.size
      have zsc : SC < wr.heap.size := lt_of_block hsc.1
      clear hq
      have d0 : wr.cell? ⟨B0, 0, none⟩ = some (.slice a1 n1 c1) := (Below.celz hbel _ _ _ (by omega)).trans cc0
      have d1 : wr.cell? ⟨B0, 1, none⟩ = some (.slice a2 n2 c2) := (Below.celz hbel _ _ _ (by omega)).trans cc1
      have d2 : wr.cell? ⟨B0, 2, none⟩ = some (.slice a3 n3 c3) := (Below.celz hbel _ _ _ (by omega)).trans cc2
      have d3 : wr.cell? ⟨B0, 3, none⟩ = some (.slice a4 n1 c4) := (Below.celz hbel _ _ _ (by omega)).trans cc3
      have d4 : wr.cell? ⟨B0, 4, none⟩ = some (.slice a5 n1 c5) := (Below.celz hbel _ _ _ (by omega)).trans cc4
      have y0 : B0 < wr.heap.size := by have := Below.size hbel; omega
      have BB1 : Below A w wr := BB.trans (hbel.mono (by omega))
      have sA1 : A ≤ wr.heap.size := by have := Below.size hbel; omega
      have q0 : Hid (AtWorld wr (.slice a1 n1 c1) (.slice a2 n2 c2) (.slice a3 n3 c3) (.slice a4 n1 c4) (.slice a5 n1 c5) x1 x2 x3 x4 x5) := HX.out.keep hbel
      have q1 : Hid (Errs wr) := HE.out.keep hbel
      clear BB sA cc0 cc1 cc2 cc3 cc4 zz0 HX HE
      have cc0 := d0
      have cc1 := d1
      have cc2 := d2
      have cc3 := d3
      have cc4 := d4
      have zz0 := y0
      have HX := q0
      have HE := q1
      have BB := BB1
      have sA := sA1
      clear BB1 sA1 d0 d1 d2 d3 d4 y0 q0 q1
      clear hbel
      have HS : Hid (ScAt wr SC (.pointer (some ⟨b, 0, none⟩)) (.map (some MP)) v k) := hsc
      clear hsc
      have HAf : Hid (Aft wm wr) := HBL.out
      by_cases hlt : k < n1
      · have k0 : (0 : Int) ≤ (k : Int) := by omega
        have k1 : (k : Int) < (n1 : Int) := by omega
        rcases HX.out.1 with ⟨hz0', _⟩ | ⟨_, be, oe, cap', hv, hbe, hc⟩
        · exfalso; have h1 := HN.out.1; rw [hz0'] at h1; simp at h1; omega
        simp only [Value.slice.injEq] at hv
        obtain ⟨rfl, -, -⟩ := hv
        obtain ⟨⟨pc, ps, pq⟩, hx⟩ : ∃ x, x1[k]? = some x := ⟨_, List.getElem?_eq_getElem (by have := HN.out.1; omega)⟩
        have e0' : wr.cell? ⟨be, oe + k * 3, none⟩ = some (.int .i64 pc) := hc k _ hx 0 _ rfl
        have e1' : wr.cell? ⟨be, oe + k * 3 + 1, none⟩ = some (.int .i64 ps) := hc k _ hx 1 _ rfl
        have e2' : wr.cell? ⟨be, oe + k * 3 + 2, none⟩ = some (.int .i64 pq) := hc k _ hx 2 _ rfl
        have ze : be < wr.heap.size := hbe
        clear hc hbe
        rcases HX.out.2.2.2.1.1 with ⟨hz0', _⟩ | ⟨_, bf, of, cap', hv, hbf, hc⟩
        · exfalso; have h1 := HN.out.2.2.2.1; rw [hz0'] at h1; simp at h1; omega
        simp only [Value.slice.injEq] at hv
        obtain ⟨rfl, -, -⟩ := hv
        obtain ⟨⟨m0, ⟨mv, ml⟩⟩, hy⟩ : ∃ x, x4[k]? = some x := ⟨_, List.getElem?_eq_getElem (by have := HN.out.2.2.2.1; omega)⟩
        have hin := HX.out.2.2.2.1.2 _ (List.mem_of_getElem? hy)
        have hfw := HFW.out.2.2.2.1.2 _ (List.mem_of_getElem? hy)
        simp only at hin hfw
        obtain ⟨ma, mc, rfl⟩ := hin.len
        have f0' : wr.cell? ⟨bf, of + k * 2, none⟩ = some (.int .i64 m0) := hc k _ hy 0 _ rfl
        have f1' : wr.cell? ⟨bf, of + k * 2 + 1, none⟩ = some (.slice ma ml.length mc) := hc k _ hy 1 _ rfl
        have zf : bf < wr.heap.size := hbf
        clear hc hbf
        rcases HX.out.2.2.2.2 with ⟨hz0', _⟩ | ⟨_, bg, og, cap', hv, hbg, hc⟩
        · exfalso; have h1 := HN.out.2.2.2.2; rw [hz0'] at h1; simp at h1; omega
        simp only [Value.slice.injEq] at hv
        obtain ⟨rfl, -, -⟩ := hv
        obtain ⟨ll, hw⟩ : ∃ x, x5[k]? = some x := ⟨_, List.getElem?_eq_getElem (by have := HN.out.2.2.2.2; omega)⟩
        have g0' : wr.cell? ⟨bg, og + k, none⟩ = some (.int .i64 ll) := cellI hc hw
        have zg : bg < wr.heap.size := hbg
        clear hc hbg
        generalize hmn : ml.length = mn at hy f1' hin
        have HXk : Hid (x1[k]? = some (pc, ps, pq) ∧ x4[k]? = some (m0, (.slice ma mn mc, ml)) ∧ x5[k]? = some ll) := ⟨hx, hy, hw⟩
        have HML : Hid (ml.length ≤ 1048576) := hfw
        have HR : Hid (RowAt 2 encPage wr (.slice ma mn mc) ml) := hin
        clear hx hy hw hin hfw hmn
        go_wp2_with fail
        have cc5 := f0'
        clear f0'
        have cc6 := f1'
        clear f1'
        have cc7 := g0'
        clear g0'
        have zz1 := zf
        clear zf
        have zz2 := zg
        clear zg
        have zz3 := zsc
        clear zsc
        obtain ⟨PB, hPB⟩ : ∃ t, t = wr.heap.size := ⟨_, rfl⟩
        generalize hW : wr.alloc (.cells #[.int .i64 pc, .int .i64 ps, .int .i64 pq] 55) = wp
        have nb : Below wr.heap.size wr wp := by rw [← hW]; exact (Below.refl _ _).alloc (Nat.le_refl _) _
        have k3 : wp.heap.size = PB + 1 := by rw [← hW, hPB]; simp
        have kk0 : wp.cell? ⟨PB, 0, none⟩ = some (.int .i64 pc) := by rw [← hW, hPB]; simp [go_sem]
        have kk1 : wp.cell? ⟨PB, 1, none⟩ = some (.int .i64 ps) := by rw [← hW, hPB]; simp [go_sem]
        have kk2 : wp.cell? ⟨PB, 2, none⟩ = some (.int .i64 pq) := by rw [← hW, hPB]; simp [go_sem]
        have oPBA : A ≤ PB := by rw [hPB]; exact sA
        have oPB0 : B0 < PB := by rw [hPB]; exact zz0
        have oPB1 : bf < PB := by rw [hPB]; exact zz1
        have oPB2 : bg < PB := by rw [hPB]; exact zz2
        have oPB3 : SC < PB := by rw [hPB]; exact zz3
        have d0 : wp.cell? ⟨B0, 0, none⟩ = some (.slice (some ⟨be, oe, none⟩) n1 c1) := (Below.celz nb _ _ _ (by omega)).trans cc0
        have d1 : wp.cell? ⟨B0, 1, none⟩ = some (.slice a2 n2 c2) := (Below.celz nb _ _ _ (by omega)).trans cc1
        have d2 : wp.cell? ⟨B0, 2, none⟩ = some (.slice a3 n3 c3) := (Below.celz nb _ _ _ (by omega)).trans cc2
        have d3 : wp.cell? ⟨B0, 3, none⟩ = some (.slice (some ⟨bf, of, none⟩) n1 c4) := (Below.celz nb _ _ _ (by omega)).trans cc3
        have d4 : wp.cell? ⟨B0, 4, none⟩ = some (.slice (some ⟨bg, og, none⟩) n1 c5) := (Below.celz nb _ _ _ (by omega)).trans cc4
        have d5 : wp.cell? ⟨bf, of + k * 2, none⟩ = some (.int .i64 m0) := (Below.celz nb _ _ _ (by omega)).trans cc5
        have d6 : wp.cell? ⟨bf, of + k * 2 + 1, none⟩ = some (.slice ma mn mc) := (Below.celz nb _ _ _ (by omega)).trans cc6
        have d7 : wp.cell? ⟨bg, og + k, none⟩ = some (.int .i64 ll) := (Below.celz nb _ _ _ (by omega)).trans cc7
        have y0 : B0 < wp.heap.size := by have := Below.size nb; omega
        have y1 : bf < wp.heap.size := by have := Below.size nb; omega
        have y2 : bg < wp.heap.size := by have := Below.size nb; omega
        have y3 : SC < wp.heap.size := by have := Below.size nb; omega
        have BB1 : Below A w wp := BB.trans (nb.mono (by omega))
        have sA1 : A ≤ wp.heap.size := by have := Below.size nb; omega
        have q0 : Hid (AtWorld wp (.slice (some ⟨be, oe, none⟩) n1 c1) (.slice a2 n2 c2) (.slice a3 n3 c3) (.slice (some ⟨bf, of, none⟩) n1 c4) (.slice (some ⟨bg, og, none⟩) n1 c5) x1 x2 x3 x4 x5) := HX.out.keep nb
        have q1 : Hid (Errs wp) := HE.out.keep nb
        have q2 : Hid (ScAt wp SC (.pointer (some ⟨b, 0, none⟩)) (.map (some MP)) v k) := HS.out.keep nb
        have q3 : Hid (Aft wm wp) := HAf.out.keep nb
        have q4 : Hid (RowAt 2 encPage wp (.slice ma mn mc) ml) := HR.out.keep nb
        clear BB sA cc0 cc1 cc2 cc3 cc4 cc5 cc6 cc7 zz0 zz1 zz2 zz3 HX HE HS HAf HR
        have cc0 := d0
        have cc1 := d1
        have cc2 := d2
        have cc3 := d3
        have cc4 := d4
        have cc5 := d5
        have cc6 := d6
        have cc7 := d7
        have zz0 := y0
        have zz1 := y1
        have zz2 := y2
        have zz3 := y3
        have HX := q0
        have HE := q1
        have HS := q2
        have HAf := q3
        have HR := q4
        have BB := BB1
        have sA := sA1
        clear BB1 sA1 d0 d1 d2 d3 d4 d5 d6 d7 y0 y1 y2 y3 q0 q1 q2 q3 q4
        have cc8 := kk0
        have cc9 := kk1
        have cc10 := kk2
        have zz4 : PB < wp.heap.size := by omega
        rw [← hPB]
        have k3PB := k3
        clear k3 hW nb hPB kk0 kk1 kk2
        clear k3PB e0' e1' e2' ze
        have hS : Hid (∀ w', Below wp.heap.size wp w' → Below wp.heap.size wp w' ∧ w'.cell? ⟨B0, 3, none⟩ = some (.slice (some ⟨bf, of, none⟩) n1 c4) ∧ w'.cell? ⟨B0, 4, none⟩ = some (.slice (some ⟨bg, og, none⟩) n1 c5) ∧ w'.cell? ⟨bf, of + k * 2, none⟩ = some (.int .i64 m0) ∧ w'.cell? ⟨bf, of + k * 2 + 1, none⟩ = some (.slice ma mn mc) ∧ w'.cell? ⟨bg, og + k, none⟩ = some (.int .i64 ll) ∧ w'.cell? ⟨PB, 0, none⟩ = some (.int .i64 pc) ∧ w'.cell? ⟨PB, 1, none⟩ = some (.int .i64 ps) ∧ w'.cell? ⟨PB, 2, none⟩ = some (.int .i64 pq)) := fun w' hn => ⟨hn, (Below.celz hn _ _ _ zz0).trans cc3, (Below.celz hn _ _ _ zz0).trans cc4, (Below.celz hn _ _ _ zz1).trans cc5, (Below.celz hn _ _ _ zz1).trans cc6, (Below.celz hn _ _ _ zz2).trans cc7, (Below.celz hn _ _ _ zz4).trans cc8, (Below.celz hn _ _ _ zz4).trans cc9, (Below.celz hn _ _ _ zz4).trans cc10⟩
        go_region_held3 (fun w' => Below wp.heap.size wp w' ∧ w'.cell? ⟨B0, 3, none⟩ = some (.slice (some ⟨bf, of, none⟩) n1 c4) ∧ w'.cell? ⟨B0, 4, none⟩ = some (.slice (some ⟨bg, og, none⟩) n1 c5) ∧ w'.cell? ⟨bf, of + k * 2, none⟩ = some (.int .i64 m0) ∧ w'.cell? ⟨bf, of + k * 2 + 1, none⟩ = some (.slice ma mn mc) ∧ w'.cell? ⟨bg, og + k, none⟩ = some (.int .i64 ll) ∧ w'.cell? ⟨PB, 0, none⟩ = some (.int .i64 pc) ∧ w'.cell? ⟨PB, 1, none⟩ = some (.int .i64 ps) ∧ w'.cell? ⟨PB, 2, none⟩ = some (.int .i64 pq))
          (first | with_reducible exact hS.out _ (Below.refl _ _).drew | (with_reducible exact hS.out _ (Below.alloc (And.left (by assumption)) (Below.size (And.left (by assumption))) _)))
          (fail)
        rename_i hHeld
        clear hHeld hS
        obtain ⟨SB, hSB⟩ : ∃ t, t = wp.heap.size := ⟨_, rfl⟩
        generalize hW : (wp.alloc (.cells #[.int .i64 pc, .int .i64 ps, .int .i64 pq, .int .i64 m0, .slice ma mn mc, .int .i64 ll] 104)).drew = wt
        have nb : Below wp.heap.size wp wt := by rw [← hW]; exact ((Below.refl _ _).alloc (Nat.le_refl _) _).drew
        have zSB : SB < wt.heap.size := by rw [← hW, hSB]; simp
        have s0' : wt.cell? ⟨SB, 0, none⟩ = some (.int .i64 pc) := by rw [← hW, hSB]; simp [go_sem]
        have s1' : wt.cell? ⟨SB, 1, none⟩ = some (.int .i64 ps) := by rw [← hW, hSB]; simp [go_sem]
        have s2' : wt.cell? ⟨SB, 2, none⟩ = some (.int .i64 pq) := by rw [← hW, hSB]; simp [go_sem]
        have s3' : wt.cell? ⟨SB, 3, none⟩ = some (.int .i64 m0) := by rw [← hW, hSB]; simp [go_sem]
        have s4' : wt.cell? ⟨SB, 4, none⟩ = some (.slice ma mn mc) := by rw [← hW, hSB]; simp [go_sem]
        have s5' : wt.cell? ⟨SB, 5, none⟩ = some (.int .i64 ll) := by rw [← hW, hSB]; simp [go_sem]
        rw [← hSB]
        clear hW hSB
        have d0 : wt.cell? ⟨B0, 0, none⟩ = some (.slice (some ⟨be, oe, none⟩) n1 c1) := (Below.celz nb _ _ _ (by omega)).trans cc0
        have d1 : wt.cell? ⟨B0, 1, none⟩ = some (.slice a2 n2 c2) := (Below.celz nb _ _ _ (by omega)).trans cc1
        have d2 : wt.cell? ⟨B0, 2, none⟩ = some (.slice a3 n3 c3) := (Below.celz nb _ _ _ (by omega)).trans cc2
        have d3 : wt.cell? ⟨B0, 3, none⟩ = some (.slice (some ⟨bf, of, none⟩) n1 c4) := (Below.celz nb _ _ _ (by omega)).trans cc3
        have d4 : wt.cell? ⟨B0, 4, none⟩ = some (.slice (some ⟨bg, og, none⟩) n1 c5) := (Below.celz nb _ _ _ (by omega)).trans cc4
        have d5 : wt.cell? ⟨bf, of + k * 2, none⟩ = some (.int .i64 m0) := (Below.celz nb _ _ _ (by omega)).trans cc5
        have d6 : wt.cell? ⟨bf, of + k * 2 + 1, none⟩ = some (.slice ma mn mc) := (Below.celz nb _ _ _ (by omega)).trans cc6
        have d7 : wt.cell? ⟨bg, og + k, none⟩ = some (.int .i64 ll) := (Below.celz nb _ _ _ (by omega)).trans cc7
        have d8 : wt.cell? ⟨PB, 0, none⟩ = some (.int .i64 pc) := (Below.celz nb _ _ _ (by omega)).trans cc8
        have d9 : wt.cell? ⟨PB, 1, none⟩ = some (.int .i64 ps) := (Below.celz nb _ _ _ (by omega)).trans cc9
        have d10 : wt.cell? ⟨PB, 2, none⟩ = some (.int .i64 pq) := (Below.celz nb _ _ _ (by omega)).trans cc10
        have y0 : B0 < wt.heap.size := by have := Below.size nb; omega
        have y1 : bf < wt.heap.size := by have := Below.size nb; omega
        have y2 : bg < wt.heap.size := by have := Below.size nb; omega
        have y3 : SC < wt.heap.size := by have := Below.size nb; omega
        have y4 : PB < wt.heap.size := by have := Below.size nb; omega
        have BB1 : Below A w wt := BB.trans (nb.mono (by omega))
        have sA1 : A ≤ wt.heap.size := by have := Below.size nb; omega
        have q0 : Hid (AtWorld wt (.slice (some ⟨be, oe, none⟩) n1 c1) (.slice a2 n2 c2) (.slice a3 n3 c3) (.slice (some ⟨bf, of, none⟩) n1 c4) (.slice (some ⟨bg, og, none⟩) n1 c5) x1 x2 x3 x4 x5) := HX.out.keep nb
        have q1 : Hid (Errs wt) := HE.out.keep nb
        have q2 : Hid (ScAt wt SC (.pointer (some ⟨b, 0, none⟩)) (.map (some MP)) v k) := HS.out.keep nb
        have q3 : Hid (Aft wm wt) := HAf.out.keep nb
        have q4 : Hid (RowAt 2 encPage wt (.slice ma mn mc) ml) := HR.out.keep nb
        clear BB sA cc0 cc1 cc2 cc3 cc4 cc5 cc6 cc7 cc8 cc9 cc10 zz0 zz1 zz2 zz3 zz4 HX HE HS HAf HR
        have cc0 := d0
        have cc1 := d1
        have cc2 := d2
        have cc3 := d3
        have cc4 := d4
        have cc5 := d5
        have cc6 := d6
        have cc7 := d7
        have cc8 := d8
        have cc9 := d9
        have cc10 := d10
        have zz0 := y0
        have zz1 := y1
        have zz2 := y2
        have zz3 := y3
        have zz4 := y4
        have HX := q0
        have HE := q1
        have HS := q2
        have HAf := q3
        have HR := q4
        have BB := BB1
        have sA := sA1
        clear BB1 sA1 d0 d1 d2 d3 d4 d5 d6 d7 d8 d9 d10 y0 y1 y2 y3 y4 q0 q1 q2 q3 q4
        clear nb
        go_wp2_with fail
        refine (fits SB pc ps pq m0 ll ma mn mc ml _ s0' s1' s2' s3' s4' s5' HR.out HML.out HE.out.1 zSB).mono ?_
        rintro e wu ⟨rfl, bz⟩
        have d0 : wu.cell? ⟨B0, 0, none⟩ = some (.slice (some ⟨be, oe, none⟩) n1 c1) := (Below.celz bz _ _ _ (by omega)).trans cc0
        have d1 : wu.cell? ⟨B0, 1, none⟩ = some (.slice a2 n2 c2) := (Below.celz bz _ _ _ (by omega)).trans cc1
        have d2 : wu.cell? ⟨B0, 2, none⟩ = some (.slice a3 n3 c3) := (Below.celz bz _ _ _ (by omega)).trans cc2
        have d3 : wu.cell? ⟨B0, 3, none⟩ = some (.slice (some ⟨bf, of, none⟩) n1 c4) := (Below.celz bz _ _ _ (by omega)).trans cc3
        have d4 : wu.cell? ⟨B0, 4, none⟩ = some (.slice (some ⟨bg, og, none⟩) n1 c5) := (Below.celz bz _ _ _ (by omega)).trans cc4
        have d5 : wu.cell? ⟨bf, of + k * 2, none⟩ = some (.int .i64 m0) := (Below.celz bz _ _ _ (by omega)).trans cc5
        have d6 : wu.cell? ⟨bf, of + k * 2 + 1, none⟩ = some (.slice ma mn mc) := (Below.celz bz _ _ _ (by omega)).trans cc6
        have d7 : wu.cell? ⟨bg, og + k, none⟩ = some (.int .i64 ll) := (Below.celz bz _ _ _ (by omega)).trans cc7
        have d8 : wu.cell? ⟨PB, 0, none⟩ = some (.int .i64 pc) := (Below.celz bz _ _ _ (by omega)).trans cc8
        have d9 : wu.cell? ⟨PB, 1, none⟩ = some (.int .i64 ps) := (Below.celz bz _ _ _ (by omega)).trans cc9
        have d10 : wu.cell? ⟨PB, 2, none⟩ = some (.int .i64 pq) := (Below.celz bz _ _ _ (by omega)).trans cc10
        have y0 : B0 < wu.heap.size := by have := Below.size bz; omega
        have y1 : bf < wu.heap.size := by have := Below.size bz; omega
        have y2 : bg < wu.heap.size := by have := Below.size bz; omega
        have y3 : SC < wu.heap.size := by have := Below.size bz; omega
        have y4 : PB < wu.heap.size := by have := Below.size bz; omega
        have BB1 : Below A w wu := BB.trans (bz.mono (by omega))
        have sA1 : A ≤ wu.heap.size := by have := Below.size bz; omega
        have q0 : Hid (AtWorld wu (.slice (some ⟨be, oe, none⟩) n1 c1) (.slice a2 n2 c2) (.slice a3 n3 c3) (.slice (some ⟨bf, of, none⟩) n1 c4) (.slice (some ⟨bg, og, none⟩) n1 c5) x1 x2 x3 x4 x5) := HX.out.keep bz
        have q1 : Hid (Errs wu) := HE.out.keep bz
        have q2 : Hid (ScAt wu SC (.pointer (some ⟨b, 0, none⟩)) (.map (some MP)) v k) := HS.out.keep bz
        have q3 : Hid (Aft wm wu) := HAf.out.keep bz
        have q4 : Hid (RowAt 2 encPage wu (.slice ma mn mc) ml) := HR.out.keep bz
        clear BB sA cc0 cc1 cc2 cc3 cc4 cc5 cc6 cc7 cc8 cc9 cc10 zz0 zz1 zz2 zz3 zz4 HX HE HS HAf HR
        have cc0 := d0
        have cc1 := d1
        have cc2 := d2
        have cc3 := d3
        have cc4 := d4
        have cc5 := d5
        have cc6 := d6
        have cc7 := d7
        have cc8 := d8
        have cc9 := d9
        have cc10 := d10
        have zz0 := y0
        have zz1 := y1
        have zz2 := y2
        have zz3 := y3
        have zz4 := y4
        have HX := q0
        have HE := q1
        have HS := q2
        have HAf := q3
        have HR := q4
        have BB := BB1
        have sA := sA1
        clear BB1 sA1 d0 d1 d2 d3 d4 d5 d6 d7 d8 d9 d10 y0 y1 y2 y3 y4 q0 q1 q2 q3 q4
        clear bz
        clear s0' s1' s2' s3' s4' s5' zSB
        cases hf : seatB (pc, ps, pq) (m0, (.slice ma mn mc, ml)) ll
        · have eg : wu.cell? ⟨0, 0, none⟩ = some (.iface t0 v0) := HG.out _ BB
          have zg0 : 0 < wu.heap.size := by omega
          go_wp2_with fail
          refine wp_region_after (by kernel_rfl) (by kernel_rfl) ?_
          intro hneq hac
          repeat (go_big_quiet_step (first | fail))
          refine wpQuiet_nil ?_
          rintro _ ⟨p, rfl⟩
          have bq : Below wu.heap.size wu p.w := p.bel
          clear hac hneq
          generalize p.w = wq at *
          have d0 : wq.cell? ⟨B0, 0, none⟩ = some (.slice (some ⟨be, oe, none⟩) n1 c1) := (Below.celz bq _ _ _ (by omega)).trans cc0
          have d1 : wq.cell? ⟨B0, 1, none⟩ = some (.slice a2 n2 c2) := (Below.celz bq _ _ _ (by omega)).trans cc1
          have d2 : wq.cell? ⟨B0, 2, none⟩ = some (.slice a3 n3 c3) := (Below.celz bq _ _ _ (by omega)).trans cc2
          have d3 : wq.cell? ⟨B0, 3, none⟩ = some (.slice (some ⟨bf, of, none⟩) n1 c4) := (Below.celz bq _ _ _ (by omega)).trans cc3
          have d4 : wq.cell? ⟨B0, 4, none⟩ = some (.slice (some ⟨bg, og, none⟩) n1 c5) := (Below.celz bq _ _ _ (by omega)).trans cc4
          have d5 : wq.cell? ⟨bf, of + k * 2, none⟩ = some (.int .i64 m0) := (Below.celz bq _ _ _ (by omega)).trans cc5
          have d6 : wq.cell? ⟨bf, of + k * 2 + 1, none⟩ = some (.slice ma mn mc) := (Below.celz bq _ _ _ (by omega)).trans cc6
          have d7 : wq.cell? ⟨bg, og + k, none⟩ = some (.int .i64 ll) := (Below.celz bq _ _ _ (by omega)).trans cc7
          have d8 : wq.cell? ⟨PB, 0, none⟩ = some (.int .i64 pc) := (Below.celz bq _ _ _ (by omega)).trans cc8
          have d9 : wq.cell? ⟨PB, 1, none⟩ = some (.int .i64 ps) := (Below.celz bq _ _ _ (by omega)).trans cc9
          have d10 : wq.cell? ⟨PB, 2, none⟩ = some (.int .i64 pq) := (Below.celz bq _ _ _ (by omega)).trans cc10
          have y0 : B0 < wq.heap.size := by have := Below.size bq; omega
          have y1 : bf < wq.heap.size := by have := Below.size bq; omega
          have y2 : bg < wq.heap.size := by have := Below.size bq; omega
          have y3 : SC < wq.heap.size := by have := Below.size bq; omega
          have y4 : PB < wq.heap.size := by have := Below.size bq; omega
          have BB1 : Below A w wq := BB.trans (bq.mono (by omega))
          have sA1 : A ≤ wq.heap.size := by have := Below.size bq; omega
          have q0 : Hid (AtWorld wq (.slice (some ⟨be, oe, none⟩) n1 c1) (.slice a2 n2 c2) (.slice a3 n3 c3) (.slice (some ⟨bf, of, none⟩) n1 c4) (.slice (some ⟨bg, og, none⟩) n1 c5) x1 x2 x3 x4 x5) := HX.out.keep bq
          have q1 : Hid (Errs wq) := HE.out.keep bq
          have q2 : Hid (ScAt wq SC (.pointer (some ⟨b, 0, none⟩)) (.map (some MP)) v k) := HS.out.keep bq
          have q3 : Hid (Aft wm wq) := HAf.out.keep bq
          have q4 : Hid (RowAt 2 encPage wq (.slice ma mn mc) ml) := HR.out.keep bq
          clear BB sA cc0 cc1 cc2 cc3 cc4 cc5 cc6 cc7 cc8 cc9 cc10 zz0 zz1 zz2 zz3 zz4 HX HE HS HAf HR
          have cc0 := d0
          have cc1 := d1
          have cc2 := d2
          have cc3 := d3
          have cc4 := d4
          have cc5 := d5
          have cc6 := d6
          have cc7 := d7
          have cc8 := d8
          have cc9 := d9
          have cc10 := d10
          have zz0 := y0
          have zz1 := y1
          have zz2 := y2
          have zz3 := y3
          have zz4 := y4
          have HX := q0
          have HE := q1
          have HS := q2
          have HAf := q3
          have HR := q4
          have BB := BB1
          have sA := sA1
          clear BB1 sA1 d0 d1 d2 d3 d4 d5 d6 d7 d8 d9 d10 y0 y1 y2 y3 y4 q0 q1 q2 q3 q4
          clear bq
          clear eg zg0
          go_wp2_with fail
          try simp only [Exit.inBlock, Exit.then]
          refine bodyPost_ret (v := .tuple #[.pointer none, .iface t0 v0]) (by simp [*, results, Tryd.results20, go_sem]) rfl ?_
          exact ⟨.inr ⟨fun h => (by exact wokB_false.1 (SeatsTo.not (by have := HN.out.1; omega) HXk.out.1 HXk.out.2.1 HXk.out.2.2 hf) h), _, _, rfl⟩, (by have := BB; rw [HA.out] at this; exact this)⟩
        · obtain ⟨xs, hown⟩ := HS.out.2
          obtain ⟨va, vc, rfl⟩ := own_form hown
          have HOW : Hid (wu.ownsRow (SC + 1) 102 1 (.slice va k vc) k xs) := hown
          have LT : Hid (∀ z, (Value.slice va k vc).ownBlock = some z → SC + 1 ≤ z) := fun z hz => (hown.lt z hz).1
          have sc0 : wu.cell? ⟨SC, 0, none⟩ = some (.slice va k vc) := by rw [cell_block HS.out.1]; rfl
          have sf : ∀ i, wu.frozen? ⟨SC, i, none⟩ = false := fun i => free_block HS.out.1
          have zu : SC < wu.heap.size := lt_of_block HS.out.1
          clear hown
          go_wp2_with (at_builtin; refine wpList_append_own _ rfl _ _ 99 rfl (SC + 1) 102 i0 _ 1 8 Tryd.underlying99 hi hz0 hz1 hz2 rfl (by decide) _ _ _ rfl (HOW.out.alloc _) ⟨wu.heap.size, 0, none⟩ 1 1 [.pointer (some ⟨SB, 0, none⟩)] rfl rfl ?c1 ?c2 ?c3 ?c4 ?c5 ?_)
          case c1 =>
            intro j u hu
            match j, hu with
            | 0, hu => simp at hu; subst hu; simp [Addr.add]
          case c2 => intro u hu; simp at hu; subst hu; rfl
          case c3 => unfold maxLen; omega
          case c4 => omega
          case c5 => simp; omega
          intro v' w3 hown' hgrow hat
          obtain ⟨va', vc', rfl⟩ := own_form hown'
          have ba : Below wu.heap.size wu (wu.alloc (.cells #[.pointer (some ⟨SB, 0, none⟩)] 102)) := (Below.refl _ _).alloc (Nat.le_refl _) _
          have K3 : w3.heap[SC]? = some (.cells #[.slice va k vc, .pointer (some ⟨b, 0, none⟩), .map (some MP)] 101 (0, 0)) := (hgrow.block SC (by simp; omega) (fun e => by have := LT.out SC e.symm; omega)).trans ((ba.block SC zu).trans HS.out.1)
          have B3 : Below wm.heap.size wm w3 := by
            have h1 : Below wm.heap.size (wu.alloc (.cells #[.pointer (some ⟨SB, 0, none⟩)] 102)) w3 := (Below.refl _ _).grown hgrow (by simp; omega) (fun z hz => by have := LT.out z hz; omega)
            exact ((HAf.out.keep ba : Aft _ _) : Below _ _ _).trans h1
          have ob : (Value.slice va' (k + 1) vc').ownBlock ≠ some SC := fun e => by have := (hown'.lt SC e).1; omega
          have R : Hid (Below wm.heap.size wm (w3.setCell ⟨SC, 0, none⟩ (.slice va' (k + 1) vc')) ∧ ScAt (w3.setCell ⟨SC, 0, none⟩ (.slice va' (k + 1) vc')) SC (.pointer (some ⟨b, 0, none⟩)) (.map (some MP)) (.slice va' (k + 1) vc') (k + 1)) := ⟨B3.setCell lSC _, set_block _ K3, _, own_set hown' ob _⟩
          have t0' : w3.cell? ⟨SC, 0, none⟩ = some (.slice va k vc) := by rw [cell_block K3]; rfl
          have tf : ∀ i, w3.frozen? ⟨SC, i, none⟩ = false := fun i => free_block K3
          clear hown' hgrow hat ba K3 B3 ob sc0 sf
          go_wp2_with fail
          go_roundw
          case rel => exact ⟨k + 1, _, by omega, by go_num, R.out.1, R.out.2, HQ.out.step HXk.out.1 HXk.out.2.1 HXk.out.2.2 hf⟩
          case measure => simp [intOf]; omega
      · obtain rfl : n1 = k := by omega
        go_wp2_with fail
        try simp only [Exit.inBlock, Exit.then]
        refine bodyPost_ret (v := .tuple #[.pointer (some ⟨SC, 0, none⟩), .nilIface]) (by simp [*, results, Tryd.results20, go_sem]) rfl ?_
        exact ⟨.inl ⟨⟨hP, hg, by have := HN.out; omega, by have := HN.out; omega, by rw [HN.out.1]; exact HQ.out⟩, _, rfl⟩, (by have := BB; rw [HA.out] at this; exact this)⟩
set_option maxHeartbeats 1000000 in
theorem impl_WorldOk (v1 v2 v3 v4 v5 : Value) (x1 : List (Int × Int × Int)) (x2 : List (Int × Int)) (x3 : List (Int × Int × Int × Int × Int)) (x4 : List (Int × (Value × List (Int × Int)))) (x5 : List Int) (w : World) (h : AtWorld w v1 v2 v3 v4 v5 x1 x2 x3 x4 x5) (fx : FewWorld x1 x2 x3 x4 x5) (hE : Errs w) :
    Calls Tryd.prog 7 #[.agg #[v1, v2, v3, v4, v5]] w fun e w' => e = .returned (.bool (wokB x1 x2 x3 x4 x5)) ∧ Below w.heap.size w w' := by
  obtain ⟨a1, c1, a2, c2, a3, c3, a4, c4, a5, c5, rfl, rfl, rfl, rfl, rfl⟩ := h.form
  have b0 : Below w.heap.size w (w.alloc (.cells #[.slice a1 x1.length c1, .slice a2 x2.length c2, .slice a3 x3.length c3, .slice a4 x4.length c4, .slice a5 x5.length c5] 40)) := (Below.refl _ _).alloc (Nat.le_refl _) _
  have hC := sceneOf _ _ _ _ _ x1 x2 x3 x4 x5 _ (h.keep b0) fx (hE.keep b0)
  go_enter Tryd.func7, Tryd.ntmps7
  go_wp2_with fail
  refine hC.mono ?_
  rintro e w1 ⟨⟨hg, b, rfl⟩ | ⟨hg, t, v, rfl⟩, bel⟩
  · have HB : Hid (Below w.heap.size w w1) := b0.trans (bel.mono b0.size)
    clear bel hC
    go_wp2_with fail
    go_ret
    exact ⟨by rw [wokB_true.2 hg]; rfl, HB.out⟩
  · have HB : Hid (Below w.heap.size w w1) := b0.trans (bel.mono b0.size)
    clear bel hC
    go_wp2_with fail
    go_ret
    exact ⟨by rw [wokB_false.2 hg]; rfl, HB.out⟩
end Go.Proofs.YtfnmalcjhblhhaaDoor.Lab
