/-
  A right world: in plain words, and WorldOk of the model. (Written by tools/mkwok.py.)
-/
import Derived.Test.YtfnmalcjhblhhaaDoorWto
import Derived.Test.YtfnmalcjhblhhaaDoorPeo
import Derived.Test.YtfnmalcjhblhhaaDoorGok
import Derived.Test.YtfnmalcjhblhhaaDoorSep
namespace Go.Proofs.YtfnmalcjhblhhaaDoor.Lab
open Go.RowKit
set_option linter.unusedVariables false
/-- What one has at hand and may read is right. -/
def seatB (x : Int × Int × Int) (p : Int × (Value × List (Int × Int))) (l : Int) : Bool := poolB p.1 p.2.2 && (decide (p.1 = x.2.1) && (decide (0 ≤ l) && decide (l ≤ x.2.2)))
def SeatsTo (x1 : List (Int × Int × Int)) (x4 : List (Int × (Value × List (Int × Int)))) (x5 : List Int) (k : Nat) : Prop := ∀ j x p l, j < k → x1[j]? = some x → x4[j]? = some p → x5[j]? = some l → seatB x p l = true
/-- A world is right. -/
def WOk (x1 : List (Int × Int × Int)) (x2 : List (Int × Int)) (x3 : List (Int × Int × Int × Int × Int)) (x4 : List (Int × (Value × List (Int × Int)))) (x5 : List Int) : Prop := peopleB x1 = true ∧ GOk x2 x3 ∧ x4.length = x1.length ∧ x5.length = x1.length ∧ SeatsTo x1 x4 x5 x1.length
noncomputable def wokB (x1 : List (Int × Int × Int)) (x2 : List (Int × Int)) (x3 : List (Int × Int × Int × Int × Int)) (x4 : List (Int × (Value × List (Int × Int)))) (x5 : List Int) : Bool := @decide (WOk x1 x2 x3 x4 x5) (Classical.propDecidable _)
theorem wokB_true {x1 : List (Int × Int × Int)} {x2 : List (Int × Int)} {x3 : List (Int × Int × Int × Int × Int)} {x4 : List (Int × (Value × List (Int × Int)))} {x5 : List Int} : wokB x1 x2 x3 x4 x5 = true ↔ WOk x1 x2 x3 x4 x5 := by unfold wokB; exact @decide_eq_true_iff _ (Classical.propDecidable _)
theorem wokB_false {x1 : List (Int × Int × Int)} {x2 : List (Int × Int)} {x3 : List (Int × Int × Int × Int × Int)} {x4 : List (Int × (Value × List (Int × Int)))} {x5 : List Int} : wokB x1 x2 x3 x4 x5 = false ↔ ¬ WOk x1 x2 x3 x4 x5 := by unfold wokB; exact @decide_eq_false_iff_not _ (Classical.propDecidable _)
theorem SeatsTo.step {x1 : List (Int × Int × Int)} {x4 : List (Int × (Value × List (Int × Int)))} {x5 : List Int} {k : Nat} {x : Int × Int × Int} {p : Int × (Value × List (Int × Int))} {l : Int} (h : SeatsTo x1 x4 x5 k) (h1 : x1[k]? = some x) (h4 : x4[k]? = some p) (h5 : x5[k]? = some l) (hs : seatB x p l = true) : SeatsTo x1 x4 x5 (k + 1) := by
  intro j y q m hj e1 e4 e5
  rcases Nat.lt_succ_iff_lt_or_eq.1 hj with hj | rfl
  · exact h j y q m hj e1 e4 e5
  · rw [h1] at e1; rw [h4] at e4; rw [h5] at e5
    cases e1; cases e4; cases e5
    exact hs
theorem SeatsTo.not {x1 : List (Int × Int × Int)} {x2 : List (Int × Int)} {x3 : List (Int × Int × Int × Int × Int)} {x4 : List (Int × (Value × List (Int × Int)))} {x5 : List Int} {k : Nat} {x : Int × Int × Int} {p : Int × (Value × List (Int × Int))} {l : Int} (hk : k < x1.length) (h1 : x1[k]? = some x) (h4 : x4[k]? = some p) (h5 : x5[k]? = some l) (hs : seatB x p l = false) : wokB x1 x2 x3 x4 x5 = false := by
  rw [wokB_false]
  intro h
  have := h.2.2.2.2 k x p l hk h1 h4 h5
  rw [hs] at this
  cases this
/-- What it says hangs on no place. -/
theorem wokB_same {x1 : List (Int × Int × Int)} {x2 : List (Int × Int)} {x3 : List (Int × Int × Int × Int × Int)} {x4 : List (Int × (Value × List (Int × Int)))} {x5 : List Int} {y4 : List (Int × (Value × List (Int × Int)))} (he : y4.map plPool = x4.map plPool) : wokB x1 x2 x3 y4 x5 = wokB x1 x2 x3 x4 x5 := by
  have hl : y4.length = x4.length := by simpa using congrArg List.length he
  have key : ∀ (a b : List (Int × (Value × List (Int × Int)))), a.map plPool = b.map plPool → WOk x1 x2 x3 a x5 → WOk x1 x2 x3 b x5 := by
    intro a b hab ⟨h1, h2, h3, h4, h5⟩
    have hl : a.length = b.length := by simpa using congrArg List.length hab
    refine ⟨h1, h2, by omega, h4, fun j x p l hj e1 e4 e5 => ?_⟩
    have hb : (b.map plPool)[j]? = some (plPool p) := by rw [List.getElem?_map, e4]; rfl
    rw [← hab, List.getElem?_map] at hb
    obtain ⟨q, hq, hqp⟩ := Option.map_eq_some_iff.1 hb
    have h6 := h5 j x q l hj e1 hq e5
    simp only [plPool, Prod.mk.injEq] at hqp
    unfold seatB at h6 ⊢
    rw [hqp.1, hqp.2] at h6
    exact h6
  rw [Bool.eq_iff_iff, wokB_true, wokB_true]
  exact ⟨key _ _ he, key _ _ he.symm⟩
set_option maxHeartbeats 8000000 in
theorem spec_WorldOk (v1 v2 v3 v4 v5 : Value) (x1 : List (Int × Int × Int)) (x2 : List (Int × Int)) (x3 : List (Int × Int × Int × Int × Int)) (x4 : List (Int × (Value × List (Int × Int)))) (x5 : List Int) (w : World) (h : AtWorld w v1 v2 v3 v4 v5 x1 x2 x3 x4 x5) (fx : FewWorld x1 x2 x3 x4 x5) (hcap : CapPool x4) :
    Calls Tryd.prog 5 #[.agg #[v1, v2, v3, v4, v5]] w fun e w' => e = .returned (.bool (wokB x1 x2 x3 x4 x5)) ∧ Below w.heap.size w w' := by
  obtain ⟨a1, c1, a2, c2, a3, c3, a4, c4, a5, c5, rfl, rfl, rfl, rfl, rfl⟩ := h.form
  generalize hn1 : x1.length = n1 at h ⊢
  generalize hn2 : x2.length = n2 at h ⊢
  generalize hn3 : x3.length = n3 at h ⊢
  generalize hn4 : x4.length = n4 at h ⊢
  generalize hn5 : x5.length = n5 at h ⊢
  have HN : Hid (x1.length = n1 ∧ x2.length = n2 ∧ x3.length = n3 ∧ x4.length = n4 ∧ x5.length = n5) := ⟨hn1, hn2, hn3, hn4, hn5⟩
  have l1 : n1 ≤ 1048576 := by rw [← hn1]; exact fx.1
  have l4 : n4 ≤ 1048576 := by rw [← hn4]; exact fx.2.2.2.1.1
  have l5 : n5 ≤ 1048576 := by rw [← hn5]; exact fx.2.2.2.2
  have HFW : Hid (FewWorld x1 x2 x3 x4 x5 ∧ CapPool x4) := ⟨fx, hcap⟩
  clear fx hcap hn1 hn2 hn3 hn4 hn5
  obtain ⟨A, hA⟩ : ∃ t, t = w.heap.size := ⟨_, rfl⟩
  have HA : Hid (A = w.heap.size) := hA
  have BB : Below A w w := Below.refl _ _
  have sA : A ≤ w.heap.size := by omega
  clear hA
  have HX : Hid (AtWorld w (.slice a1 n1 c1) (.slice a2 n2 c2) (.slice a3 n3 c3) (.slice a4 n4 c4) (.slice a5 n5 c5) x1 x2 x3 x4 x5) := h
  clear h
  go_enter Tryd.func5, Tryd.ntmps5
  go_wp2_with fail
  obtain ⟨B0, hB0⟩ : ∃ t, t = w.heap.size := ⟨_, rfl⟩
  generalize hW : w.alloc (.cells #[.slice a1 n1 c1, .slice a2 n2 c2, .slice a3 n3 c3, .slice a4 n4 c4, .slice a5 n5 c5] 40) = wa
  have nb : Below w.heap.size w wa := by rw [← hW]; exact (Below.refl _ _).alloc (Nat.le_refl _) _
  have k3 : wa.heap.size = B0 + 1 := by rw [← hW, hB0]; simp
  have kk0 : wa.cell? ⟨B0, 0, none⟩ = some (.slice a1 n1 c1) := by rw [← hW, hB0]; simp [go_sem]
  have kk1 : wa.cell? ⟨B0, 1, none⟩ = some (.slice a2 n2 c2) := by rw [← hW, hB0]; simp [go_sem]
  have kk2 : wa.cell? ⟨B0, 2, none⟩ = some (.slice a3 n3 c3) := by rw [← hW, hB0]; simp [go_sem]
  have kk3 : wa.cell? ⟨B0, 3, none⟩ = some (.slice a4 n4 c4) := by rw [← hW, hB0]; simp [go_sem]
  have kk4 : wa.cell? ⟨B0, 4, none⟩ = some (.slice a5 n5 c5) := by rw [← hW, hB0]; simp [go_sem]
  have oB0A : A ≤ B0 := by rw [hB0]; exact sA
  have BB1 : Below A w wa := BB.trans (nb.mono (by omega))
  have sA1 : A ≤ wa.heap.size := by have := Below.size nb; omega
  have q0 : Hid (AtWorld wa (.slice a1 n1 c1) (.slice a2 n2 c2) (.slice a3 n3 c3) (.slice a4 n4 c4) (.slice a5 n5 c5) x1 x2 x3 x4 x5) := HX.out.keep nb
  clear BB sA   HX
  have HX := q0
  have BB := BB1
  have sA := sA1
  clear BB1 sA1   q0
  have cc0 := kk0
  have cc1 := kk1
  have cc2 := kk2
  have cc3 := kk3
  have cc4 := kk4
  have zz0 : B0 < wa.heap.size := by omega
  rw [← hB0]
  have k3B0 := k3
  clear k3 hW nb hB0 kk0 kk1 kk2 kk3 kk4
  clear k3B0
  refine (spec_l7People _ x1 _ HX.out.1 HFW.out.1.1).mono ?_
  rintro e wb ⟨rfl, bz⟩
  have d0 : wb.cell? ⟨B0, 0, none⟩ = some (.slice a1 n1 c1) := (Below.celz bz _ _ _ (by omega)).trans cc0
  have d1 : wb.cell? ⟨B0, 1, none⟩ = some (.slice a2 n2 c2) := (Below.celz bz _ _ _ (by omega)).trans cc1
  have d2 : wb.cell? ⟨B0, 2, none⟩ = some (.slice a3 n3 c3) := (Below.celz bz _ _ _ (by omega)).trans cc2
  have d3 : wb.cell? ⟨B0, 3, none⟩ = some (.slice a4 n4 c4) := (Below.celz bz _ _ _ (by omega)).trans cc3
  have d4 : wb.cell? ⟨B0, 4, none⟩ = some (.slice a5 n5 c5) := (Below.celz bz _ _ _ (by omega)).trans cc4
  have y0 : B0 < wb.heap.size := by have := Below.size bz; omega
  have BB1 : Below A w wb := BB.trans (bz.mono (by omega))
  have sA1 : A ≤ wb.heap.size := by have := Below.size bz; omega
  have q0 : Hid (AtWorld wb (.slice a1 n1 c1) (.slice a2 n2 c2) (.slice a3 n3 c3) (.slice a4 n4 c4) (.slice a5 n5 c5) x1 x2 x3 x4 x5) := HX.out.keep bz
  clear BB sA cc0 cc1 cc2 cc3 cc4 zz0 HX
  have cc0 := d0
  have cc1 := d1
  have cc2 := d2
  have cc3 := d3
  have cc4 := d4
  have zz0 := y0
  have HX := q0
  have BB := BB1
  have sA := sA1
  clear BB1 sA1 d0 d1 d2 d3 d4 y0 q0
  clear bz
  cases hP : peopleB x1
  · go_wp2_with fail
    go_ret
    have hs : wokB x1 x2 x3 x4 x5 = false := wokB_false.2 (fun h => by rw [h.1] at hP; cases hP)
    exact ⟨by rw [hs]; rfl, (by have := BB; rw [HA.out] at this; exact this)⟩
  · go_wp2_with fail
    refine (spec_GraphOk _ _ x2 x3 _ HX.out.2.1 HX.out.2.2.1 HFW.out.1.2.1 HFW.out.1.2.2.1).mono ?_
    rintro e wc ⟨rfl, bz⟩
    have d0 : wc.cell? ⟨B0, 0, none⟩ = some (.slice a1 n1 c1) := (Below.celz bz _ _ _ (by omega)).trans cc0
    have d1 : wc.cell? ⟨B0, 1, none⟩ = some (.slice a2 n2 c2) := (Below.celz bz _ _ _ (by omega)).trans cc1
    have d2 : wc.cell? ⟨B0, 2, none⟩ = some (.slice a3 n3 c3) := (Below.celz bz _ _ _ (by omega)).trans cc2
    have d3 : wc.cell? ⟨B0, 3, none⟩ = some (.slice a4 n4 c4) := (Below.celz bz _ _ _ (by omega)).trans cc3
    have d4 : wc.cell? ⟨B0, 4, none⟩ = some (.slice a5 n5 c5) := (Below.celz bz _ _ _ (by omega)).trans cc4
    have y0 : B0 < wc.heap.size := by have := Below.size bz; omega
    have BB1 : Below A w wc := BB.trans (bz.mono (by omega))
    have sA1 : A ≤ wc.heap.size := by have := Below.size bz; omega
    have q0 : Hid (AtWorld wc (.slice a1 n1 c1) (.slice a2 n2 c2) (.slice a3 n3 c3) (.slice a4 n4 c4) (.slice a5 n5 c5) x1 x2 x3 x4 x5) := HX.out.keep bz
    clear BB sA cc0 cc1 cc2 cc3 cc4 zz0 HX
    have cc0 := d0
    have cc1 := d1
    have cc2 := d2
    have cc3 := d3
    have cc4 := d4
    have zz0 := y0
    have HX := q0
    have BB := BB1
    have sA := sA1
    clear BB1 sA1 d0 d1 d2 d3 d4 y0 q0
    clear bz
    cases hG : gokB x2 x3
    · go_wp2_with fail
      go_ret
      have hs : wokB x1 x2 x3 x4 x5 = false := wokB_false.2 (fun h => by exact gokB_false.1 hG h.2.1)
      exact ⟨by rw [hs]; rfl, (by have := BB; rw [HA.out] at this; exact this)⟩
    · by_cases q40 : n4 = n1
      rotate_left
      · have hd : ((n4 : Int) != (n1 : Int)) = true := by rw [bne_iff_ne]; omega
        have HD : Hid (¬ n4 = n1) := q40
        clear q40
        go_wp2_with fail
        go_ret
        have hs : wokB x1 x2 x3 x4 x5 = false := wokB_false.2 (fun h => by exact HD.out (by have h1 := HN.out; have h2 := h.2.2.1; omega))
        exact ⟨by rw [hs]; rfl, (by have := BB; rw [HA.out] at this; exact this)⟩
      obtain rfl : n1 = n4 := q40.symm
      by_cases q50 : n5 = n1
      rotate_left
      · have hd : ((n5 : Int) != (n1 : Int)) = true := by rw [bne_iff_ne]; omega
        have HD : Hid (¬ n5 = n1) := q50
        clear q50
        go_wp2_with fail
        go_ret
        have hs : wokB x1 x2 x3 x4 x5 = false := wokB_false.2 (fun h => by exact HD.out (by have h1 := HN.out; have h2 := h.2.2.2.1; omega))
        exact ⟨by rw [hs]; rfl, (by have := BB; rw [HA.out] at this; exact this)⟩
      obtain rfl : n1 = n5 := q50.symm
      go_wp2_with fail
      go_loopw [4] (fun i wr => ∃ k : Nat, k ≤ n1 ∧ i = .int .i64 k ∧ Below wc.heap.size wc wr ∧ SeatsTo x1 x4 x5 k) (fun i _ => n1 - (intOf i).toNat)
      case atStart => exact ⟨0, by omega, rfl, Below.refl _ _, fun j x p l hj => by omega⟩
      case round =>
        obtain ⟨k, hk, rfl, hbel, hq⟩ := hrel
        have HQ : Hid (SeatsTo x1 x4 x5 k) := hq
        have HBL : Hid (Below wc.heap.size wc wr) := hbel
        have sg : wc.heap.size ≤ wr.heap.size := hbel.size
        clear hq
        have d0 : wr.cell? ⟨B0, 0, none⟩ = some (.slice a1 n1 c1) := (Below.celz hbel _ _ _ (by omega)).trans cc0
        have d1 : wr.cell? ⟨B0, 1, none⟩ = some (.slice a2 n2 c2) := (Below.celz hbel _ _ _ (by omega)).trans cc1
        have d2 : wr.cell? ⟨B0, 2, none⟩ = some (.slice a3 n3 c3) := (Below.celz hbel _ _ _ (by omega)).trans cc2
        have d3 : wr.cell? ⟨B0, 3, none⟩ = some (.slice a4 n1 c4) := (Below.celz hbel _ _ _ (by omega)).trans cc3
        have d4 : wr.cell? ⟨B0, 4, none⟩ = some (.slice a5 n1 c5) := (Below.celz hbel _ _ _ (by omega)).trans cc4
        have y0 : B0 < wr.heap.size := by have := Below.size hbel; omega
        have BB1 : Below A w wr := BB.trans (hbel.mono (by omega))
        have sA1 : A ≤ wr.heap.size := by have := Below.size hbel; omega
        have q0 : Hid (AtWorld wr (.slice a1 n1 c1) (.slice a2 n2 c2) (.slice a3 n3 c3) (.slice a4 n1 c4) (.slice a5 n1 c5) x1 x2 x3 x4 x5) := HX.out.keep hbel
        clear BB sA cc0 cc1 cc2 cc3 cc4 zz0 HX
        have cc0 := d0
        have cc1 := d1
        have cc2 := d2
        have cc3 := d3
        have cc4 := d4
        have zz0 := y0
        have HX := q0
        have BB := BB1
        have sA := sA1
        clear BB1 sA1 d0 d1 d2 d3 d4 y0 q0
        clear hbel
        by_cases hlt : k < n1
        · have k0 : (0 : Int) ≤ (k : Int) := by omega
          have k1 : (k : Int) < (n1 : Int) := by omega
          rcases HX.out.1 with ⟨hz0, _⟩ | ⟨_, be, oe, cap', hv, hbe, hc⟩
          · exfalso; have h1 := HN.out.1; rw [hz0] at h1; simp at h1; omega
          simp only [Value.slice.injEq] at hv
          obtain ⟨rfl, -, -⟩ := hv
          obtain ⟨⟨pc, ps, pq⟩, hx⟩ : ∃ x, x1[k]? = some x := ⟨_, List.getElem?_eq_getElem (by have := HN.out.1; omega)⟩
          have e0' : wr.cell? ⟨be, oe + k * 3, none⟩ = some (.int .i64 pc) := hc k _ hx 0 _ rfl
          have e1' : wr.cell? ⟨be, oe + k * 3 + 1, none⟩ = some (.int .i64 ps) := hc k _ hx 1 _ rfl
          have e2' : wr.cell? ⟨be, oe + k * 3 + 2, none⟩ = some (.int .i64 pq) := hc k _ hx 2 _ rfl
          have ze : be < wr.heap.size := hbe
          clear hc hbe
          rcases HX.out.2.2.2.1.1 with ⟨hz0, _⟩ | ⟨_, bf, of, cap', hv, hbf, hc⟩
          · exfalso; have h1 := HN.out.2.2.2.1; rw [hz0] at h1; simp at h1; omega
          simp only [Value.slice.injEq] at hv
          obtain ⟨rfl, -, -⟩ := hv
          obtain ⟨⟨m0, ⟨mv, ml⟩⟩, hy⟩ : ∃ x, x4[k]? = some x := ⟨_, List.getElem?_eq_getElem (by have := HN.out.2.2.2.1; omega)⟩
          have hin := HX.out.2.2.2.1.2 _ (List.mem_of_getElem? hy)
          have hfw := HFW.out.1.2.2.2.1.2 _ (List.mem_of_getElem? hy)
          have hcp := HFW.out.2 _ (List.mem_of_getElem? hy)
          simp only at hin hfw hcp
          obtain ⟨ma, mc, rfl, hcp⟩ := hcp
          have f0' : wr.cell? ⟨bf, of + k * 2, none⟩ = some (.int .i64 m0) := hc k _ hy 0 _ rfl
          have f1' : wr.cell? ⟨bf, of + k * 2 + 1, none⟩ = some (.slice ma ml.length mc) := hc k _ hy 1 _ rfl
          have zf : bf < wr.heap.size := hbf
          clear hc hbf
          rcases HX.out.2.2.2.2 with ⟨hz0, _⟩ | ⟨_, bg, og, cap', hv, hbg, hc⟩
          · exfalso; have h1 := HN.out.2.2.2.2; rw [hz0] at h1; simp at h1; omega
          simp only [Value.slice.injEq] at hv
          obtain ⟨rfl, -, -⟩ := hv
          obtain ⟨ll, hw⟩ : ∃ x, x5[k]? = some x := ⟨_, List.getElem?_eq_getElem (by have := HN.out.2.2.2.2; omega)⟩
          have g0' : wr.cell? ⟨bg, og + k, none⟩ = some (.int .i64 ll) := cellI hc hw
          have zg : bg < wr.heap.size := hbg
          clear hc hbg
          have HXk : Hid (x1[k]? = some (pc, ps, pq) ∧ x4[k]? = some (m0, (.slice ma ml.length mc, ml)) ∧ x5[k]? = some ll) := ⟨hx, hy, hw⟩
          have HRA : Hid (∀ w', Below wr.heap.size wr w' → RowC w' (.slice ma ml.length mc) ml) := fun w' h => ⟨hin.keep h, ma, mc, rfl, hcp⟩
          have HML : Hid (ml.length ≤ 1048576) := hfw
          clear hx hy hw hin hfw hcp
          generalize hmn : ml.length = mn at f1' HRA
          have HMN : Hid (ml.length = mn) := hmn
          clear hmn
          cases hd : poolB m0 ml
          · go_wp2_with fail
            refine wp_region_after (by kernel_rfl) (by kernel_rfl) ?_
            intro hneq hac
            repeat (go_big_quiet_step (first | (go_at_call 15; exact after_at (x := poolB m0 ml) (y := false) hd (spec_PoolOk m0 _ ml _ (HRA.out _ (After.bel _)) HML.out))))
            refine wpQuiet_nil ?_
            rintro _ ⟨p, rfl⟩
            have bq : Below wr.heap.size wr p.w := p.bel
            clear hac hneq
            generalize p.w = wq at *
            have d0 : wq.cell? ⟨B0, 0, none⟩ = some (.slice (some ⟨be, oe, none⟩) n1 c1) := (Below.celz bq _ _ _ (by omega)).trans cc0
            have d1 : wq.cell? ⟨B0, 1, none⟩ = some (.slice a2 n2 c2) := (Below.celz bq _ _ _ (by omega)).trans cc1
            have d2 : wq.cell? ⟨B0, 2, none⟩ = some (.slice a3 n3 c3) := (Below.celz bq _ _ _ (by omega)).trans cc2
            have d3 : wq.cell? ⟨B0, 3, none⟩ = some (.slice (some ⟨bf, of, none⟩) n1 c4) := (Below.celz bq _ _ _ (by omega)).trans cc3
            have d4 : wq.cell? ⟨B0, 4, none⟩ = some (.slice (some ⟨bg, og, none⟩) n1 c5) := (Below.celz bq _ _ _ (by omega)).trans cc4
            have y0 : B0 < wq.heap.size := by have := Below.size bq; omega
            have BB1 : Below A w wq := BB.trans (bq.mono (by omega))
            have sA1 : A ≤ wq.heap.size := by have := Below.size bq; omega
            have q0 : Hid (AtWorld wq (.slice (some ⟨be, oe, none⟩) n1 c1) (.slice a2 n2 c2) (.slice a3 n3 c3) (.slice (some ⟨bf, of, none⟩) n1 c4) (.slice (some ⟨bg, og, none⟩) n1 c5) x1 x2 x3 x4 x5) := HX.out.keep bq
            clear BB sA cc0 cc1 cc2 cc3 cc4 zz0 HX
            have cc0 := d0
            have cc1 := d1
            have cc2 := d2
            have cc3 := d3
            have cc4 := d4
            have zz0 := y0
            have HX := q0
            have BB := BB1
            have sA := sA1
            clear BB1 sA1 d0 d1 d2 d3 d4 y0 q0
            clear bq
            go_wp2_with fail
            go_ret
            have hs : wokB x1 x2 x3 x4 x5 = false := SeatsTo.not (by have := HN.out.1; omega) HXk.out.1 HXk.out.2.1 HXk.out.2.2 (by unfold seatB; simp only; rw [hd]; rfl)
            exact ⟨by rw [hs]; rfl, (by have := BB; rw [HA.out] at this; exact this)⟩
          · by_cases h2 : m0 = ps
            rotate_left
            · have HD : Hid (¬ m0 = ps) := h2
              have d1 : (m0 != ps) = true := by simpa using h2
              have d2 : (m0 == ps) = false := by simpa using h2
              clear h2
              go_wp2_with fail
              refine wp_region_after (by kernel_rfl) (by kernel_rfl) ?_
              intro hneq hac
              repeat (go_big_quiet_step (first | (go_at_call 15; exact after_at (x := poolB m0 ml) (y := true) hd (spec_PoolOk m0 _ ml _ (HRA.out _ (After.bel _)) HML.out))))
              refine wpQuiet_nil ?_
              rintro _ ⟨p, rfl⟩
              have bq : Below wr.heap.size wr p.w := p.bel
              clear hac hneq
              generalize p.w = wq at *
              have d0 : wq.cell? ⟨B0, 0, none⟩ = some (.slice (some ⟨be, oe, none⟩) n1 c1) := (Below.celz bq _ _ _ (by omega)).trans cc0
              have d1 : wq.cell? ⟨B0, 1, none⟩ = some (.slice a2 n2 c2) := (Below.celz bq _ _ _ (by omega)).trans cc1
              have d2 : wq.cell? ⟨B0, 2, none⟩ = some (.slice a3 n3 c3) := (Below.celz bq _ _ _ (by omega)).trans cc2
              have d3 : wq.cell? ⟨B0, 3, none⟩ = some (.slice (some ⟨bf, of, none⟩) n1 c4) := (Below.celz bq _ _ _ (by omega)).trans cc3
              have d4 : wq.cell? ⟨B0, 4, none⟩ = some (.slice (some ⟨bg, og, none⟩) n1 c5) := (Below.celz bq _ _ _ (by omega)).trans cc4
              have y0 : B0 < wq.heap.size := by have := Below.size bq; omega
              have BB1 : Below A w wq := BB.trans (bq.mono (by omega))
              have sA1 : A ≤ wq.heap.size := by have := Below.size bq; omega
              have q0 : Hid (AtWorld wq (.slice (some ⟨be, oe, none⟩) n1 c1) (.slice a2 n2 c2) (.slice a3 n3 c3) (.slice (some ⟨bf, of, none⟩) n1 c4) (.slice (some ⟨bg, og, none⟩) n1 c5) x1 x2 x3 x4 x5) := HX.out.keep bq
              clear BB sA cc0 cc1 cc2 cc3 cc4 zz0 HX
              have cc0 := d0
              have cc1 := d1
              have cc2 := d2
              have cc3 := d3
              have cc4 := d4
              have zz0 := y0
              have HX := q0
              have BB := BB1
              have sA := sA1
              clear BB1 sA1 d0 d1 d2 d3 d4 y0 q0
              clear bq
              go_wp2_with fail
              go_ret
              have hs : wokB x1 x2 x3 x4 x5 = false := SeatsTo.not (by have := HN.out.1; omega) HXk.out.1 HXk.out.2.1 HXk.out.2.2 (by unfold seatB; simp only; rw [decide_eq_false HD.out]; simp)
              exact ⟨by rw [hs]; rfl, (by have := BB; rw [HA.out] at this; exact this)⟩
            subst h2
            by_cases h3 : ll < 0
            · go_wp2_with fail
              refine wp_region_after (by kernel_rfl) (by kernel_rfl) ?_
              intro hneq hac
              repeat (go_big_quiet_step (first | (go_at_call 15; exact after_at (x := poolB m0 ml) (y := true) hd (spec_PoolOk m0 _ ml _ (HRA.out _ (After.bel _)) HML.out))))
              refine wpQuiet_nil ?_
              rintro _ ⟨p, rfl⟩
              have bq : Below wr.heap.size wr p.w := p.bel
              clear hac hneq
              generalize p.w = wq at *
              have d0 : wq.cell? ⟨B0, 0, none⟩ = some (.slice (some ⟨be, oe, none⟩) n1 c1) := (Below.celz bq _ _ _ (by omega)).trans cc0
              have d1 : wq.cell? ⟨B0, 1, none⟩ = some (.slice a2 n2 c2) := (Below.celz bq _ _ _ (by omega)).trans cc1
              have d2 : wq.cell? ⟨B0, 2, none⟩ = some (.slice a3 n3 c3) := (Below.celz bq _ _ _ (by omega)).trans cc2
              have d3 : wq.cell? ⟨B0, 3, none⟩ = some (.slice (some ⟨bf, of, none⟩) n1 c4) := (Below.celz bq _ _ _ (by omega)).trans cc3
              have d4 : wq.cell? ⟨B0, 4, none⟩ = some (.slice (some ⟨bg, og, none⟩) n1 c5) := (Below.celz bq _ _ _ (by omega)).trans cc4
              have y0 : B0 < wq.heap.size := by have := Below.size bq; omega
              have BB1 : Below A w wq := BB.trans (bq.mono (by omega))
              have sA1 : A ≤ wq.heap.size := by have := Below.size bq; omega
              have q0 : Hid (AtWorld wq (.slice (some ⟨be, oe, none⟩) n1 c1) (.slice a2 n2 c2) (.slice a3 n3 c3) (.slice (some ⟨bf, of, none⟩) n1 c4) (.slice (some ⟨bg, og, none⟩) n1 c5) x1 x2 x3 x4 x5) := HX.out.keep bq
              clear BB sA cc0 cc1 cc2 cc3 cc4 zz0 HX
              have cc0 := d0
              have cc1 := d1
              have cc2 := d2
              have cc3 := d3
              have cc4 := d4
              have zz0 := y0
              have HX := q0
              have BB := BB1
              have sA := sA1
              clear BB1 sA1 d0 d1 d2 d3 d4 y0 q0
              clear bq
              go_wp2_with fail
              go_ret
              have hs : wokB x1 x2 x3 x4 x5 = false := SeatsTo.not (by have := HN.out.1; omega) HXk.out.1 HXk.out.2.1 HXk.out.2.2 (by unfold seatB; simp only; rw [decide_eq_false (p := 0 ≤ ll) (by omega)]; simp)
              exact ⟨by rw [hs]; rfl, (by have := BB; rw [HA.out] at this; exact this)⟩
            · have u3 : decide (ll < 0) = false := decide_eq_false h3
              have u5 : 0 ≤ ll := by omega
              by_cases h4 : pq < ll
              · have u4 : decide (pq < ll) = true := decide_eq_true h4
                go_wp2_with fail
                refine wp_region_after (by kernel_rfl) (by kernel_rfl) ?_
                intro hneq hac
                repeat (go_big_quiet_step (first | (go_at_call 15; exact after_at (x := poolB m0 ml) (y := true) hd (spec_PoolOk m0 _ ml _ (HRA.out _ (After.bel _)) HML.out))))
                refine wpQuiet_nil ?_
                rintro _ ⟨p, rfl⟩
                have bq : Below wr.heap.size wr p.w := p.bel
                clear hac hneq
                generalize p.w = wq at *
                have d0 : wq.cell? ⟨B0, 0, none⟩ = some (.slice (some ⟨be, oe, none⟩) n1 c1) := (Below.celz bq _ _ _ (by omega)).trans cc0
                have d1 : wq.cell? ⟨B0, 1, none⟩ = some (.slice a2 n2 c2) := (Below.celz bq _ _ _ (by omega)).trans cc1
                have d2 : wq.cell? ⟨B0, 2, none⟩ = some (.slice a3 n3 c3) := (Below.celz bq _ _ _ (by omega)).trans cc2
                have d3 : wq.cell? ⟨B0, 3, none⟩ = some (.slice (some ⟨bf, of, none⟩) n1 c4) := (Below.celz bq _ _ _ (by omega)).trans cc3
                have d4 : wq.cell? ⟨B0, 4, none⟩ = some (.slice (some ⟨bg, og, none⟩) n1 c5) := (Below.celz bq _ _ _ (by omega)).trans cc4
                have y0 : B0 < wq.heap.size := by have := Below.size bq; omega
                have BB1 : Below A w wq := BB.trans (bq.mono (by omega))
                have sA1 : A ≤ wq.heap.size := by have := Below.size bq; omega
                have q0 : Hid (AtWorld wq (.slice (some ⟨be, oe, none⟩) n1 c1) (.slice a2 n2 c2) (.slice a3 n3 c3) (.slice (some ⟨bf, of, none⟩) n1 c4) (.slice (some ⟨bg, og, none⟩) n1 c5) x1 x2 x3 x4 x5) := HX.out.keep bq
                clear BB sA cc0 cc1 cc2 cc3 cc4 zz0 HX
                have cc0 := d0
                have cc1 := d1
                have cc2 := d2
                have cc3 := d3
                have cc4 := d4
                have zz0 := y0
                have HX := q0
                have BB := BB1
                have sA := sA1
                clear BB1 sA1 d0 d1 d2 d3 d4 y0 q0
                clear bq
                go_wp2_with fail
                go_ret
                have hs : wokB x1 x2 x3 x4 x5 = false := SeatsTo.not (by have := HN.out.1; omega) HXk.out.1 HXk.out.2.1 HXk.out.2.2 (by unfold seatB; simp only; rw [decide_eq_false (p := ll ≤ pq) (by omega)]; simp)
                exact ⟨by rw [hs]; rfl, (by have := BB; rw [HA.out] at this; exact this)⟩
              · have u4 : decide (pq < ll) = false := decide_eq_false h4
                have u6 : ll ≤ pq := by omega
                go_wp2_with fail
                refine wp_region_after (by kernel_rfl) (by kernel_rfl) ?_
                intro hneq hac
                repeat (go_big_quiet_step (first | (go_at_call 15; exact after_at (x := poolB m0 ml) (y := true) hd (spec_PoolOk m0 _ ml _ (HRA.out _ (After.bel _)) HML.out))))
                refine wpQuiet_nil ?_
                rintro _ ⟨p, rfl⟩
                have HB2 : Hid (Below wc.heap.size wc p.w) := HBL.out.trans (p.bel.mono sg)
                clear hac hneq
                generalize p.w = wq at *
                go_wp2_with fail
                go_roundw
                case rel => exact ⟨k + 1, by omega, by go_num, HB2.out, HQ.out.step HXk.out.1 HXk.out.2.1 HXk.out.2.2 (by unfold seatB; simp only; rw [hd, decide_eq_true (p := 0 ≤ ll) (by omega), decide_eq_true (p := ll ≤ pq) (by omega)]; simp)⟩
                case measure => simp [intOf]; omega
        · obtain rfl : n1 = k := by omega
          go_wp2_with fail
          go_ret
          have hs : wokB x1 x2 x3 x4 x5 = true := wokB_true.2 ⟨hP, gokB_true.1 hG, by have := HN.out; omega, by have := HN.out; omega, by rw [HN.out.1]; exact HQ.out⟩
          exact ⟨by rw [hs]; rfl, (by have := BB; rw [HA.out] at this; exact this)⟩
end Go.Proofs.YtfnmalcjhblhhaaDoor.Lab
