/-
  Neighbourhood is symmetric.
-/
import Derived.Test.YtcinjkpedigffaaDoorCards
import Derived.Test.YtcinjkpedigffaaDoorTie
import Derived.Test.YtcinjkpedigffaaDoorGlw
import Derived.Test.YtcinjkpedigffaaDoorGlx
import Derived.Test.YtcinjkpedigffaaDoorGln
import Derived.Test.YtcinjkpedigffaaDoorDgn
import Derived.Test.YtcinjkpedigffaaDoorErs
import Derived.WalkKit
import Derived.ProofKit
import Derived.OpenShut
import Derived.ShutString
import Derived.ChangeOld
import Derived.Below
import Derived.Carry
import Derived.Handy
import Derived.Deep.RegionHeld3
import Derived.LaidMore
import Derived.Deep.DeepCutAuto
namespace Go.Proofs.YtcinjkpedigffaaDoor.fnGraphNear
open Go.Proofs.YtcinjkpedigffaaDoor.Lab
open Go.ChangeShapes Go.WideShapes Go.ChangeAt Go.RowKit
open Go.ChangeMaps (open_string shut_string)
set_option linter.unusedVariables false

theorem own : ownKnob Tryd.prog.godebug = none := by kernel_rfl
/-- A row of numbers that came in: nil, or so many cells. -/
def IsRow (k : IntKind) (w : World) (a : Option Addr) (len cap : Nat) (zs : List Int) : Prop :=
  (a = none ∧ len = 0 ∧ cap = 0 ∧ zs = []) ∨ ∃ x, a = some x ∧ len ≤ cap ∧ cap ≤ maxLen ∧ zs.length = cap ∧ (∀ i, i < zs.length → w.cell? (x.add i) = some (.int k (zs.getD i 0))) ∧ ∀ n ∈ zs, (Lit.int k n).wf = true

set_option maxRecDepth 16000 in
set_option maxHeartbeats 8000000 in
theorem walk (a0 : Option Addr) (len0 cap0 : Nat) (z0 : List Int) (a1 : Option Addr) (len1 cap1 : Nat) (z1 : List Int) (w : World) (w0 : IsRow .u8 w a0 len0 cap0 z0) (w1 : IsRow .u8 w a1 len1 cap1 z1) (hE : Errs w) :
    Calls Tryd.prog 4 #[.slice a0 len0 cap0, .slice a1 len1 cap1] w fun e w' => e = .returned (.bool true) ∧ Below w.heap.size w w' := by
  have HF : Hid (Errs w) := hE
  clear hE
  by_cases hlen0 : len0 > 1048576
  · go_enter Tryd.func4, Tryd.ntmps4
    go_wp2
    go_ret
    exact ⟨rfl, Below.refl _ _⟩
  by_cases hlen1 : len1 > 1048576
  · go_enter Tryd.func4, Tryd.ntmps4
    go_wp2
    go_ret
    exact ⟨rfl, Below.refl _ _⟩
  have k0 : CodeAt w a0 len0 cap0 z0 := code_of w0
  clear w0
  have k1 : CodeAt w a1 len1 cap1 z1 := code_of w1
  clear w1
  go_enter Tryd.func4, Tryd.ntmps4
  go_wp2_with fail
  refine (drawGraphNear _ _ _ _ _ k0).mono ?_
  rintro e wa ⟨v1, v2, ns, es, nl, nn, rfl, hg, ba⟩
  obtain ⟨ga, gc, gb, gd, rfl, rfl⟩ := hg.form
  obtain ⟨n, hn⟩ : ∃ n, n = ns.length := ⟨_, rfl⟩
  obtain ⟨m, hm⟩ : ∃ m, m = es.length := ⟨_, rfl⟩
  have HN : Hid (n = ns.length ∧ m = es.length) := ⟨hn, hm⟩
  have ln : n ≤ 200 := by rw [hn]; exact hg.2.2.1
  have lm : m ≤ 200 := by rw [hm]; exact hg.2.2.2
  rw [← hn, ← hm] at hg ⊢
  obtain ⟨A, hA⟩ : ∃ t, t = wa.heap.size := ⟨_, rfl⟩
  have HA : Hid (A = wa.heap.size) := hA
  have BB : Below A wa wa := Below.refl _ _
  have sA : A ≤ wa.heap.size := by omega
  have HV : Hid (∀ W, Below A wa W → GrAt W (.slice ga n gc) (.slice gb m gd) ns es ∧ Errs W ∧ Below w.heap.size w W) := fun W h => by
    rw [HA.out] at h
    exact ⟨hg.keep h, (HF.out.keep ba).keep h, ba.trans (h.mono ba.size)⟩
  clear hg ba hn hm HF hA k0 k1
  go_wp2_with fail
  obtain ⟨P0, hP0⟩ : ∃ t, t = wa.heap.size := ⟨_, rfl⟩
  generalize hW : wa.alloc (.cells #[.slice ga n gc, .slice gb m gd] 26) = wb
  have nb : Below wa.heap.size wa wb := by rw [← hW]; exact (Below.refl _ _).alloc (Nat.le_refl _) _
  have k3 : wb.heap.size = P0 + 1 := by rw [← hW, hP0]; simp
  have kk0 : wb.cell? ⟨P0, 0, none⟩ = some (.slice ga n gc) := by rw [← hW, hP0]; simp [go_sem]
  have kk1 : wb.cell? ⟨P0, 1, none⟩ = some (.slice gb m gd) := by rw [← hW, hP0]; simp [go_sem]
  have oP0A : A ≤ P0 := by rw [hP0]; exact sA
  have BB1 : Below A wa wb := BB.trans (nb.mono (by omega))
  have sA1 : A ≤ wb.heap.size := by have := Below.size nb; omega
  clear BB sA   
  have BB := BB1
  have sA := sA1
  clear BB1 sA1   
  have cc0 := kk0
  have cc1 := kk1
  have zz0 : P0 < wb.heap.size := by omega
  rw [← hP0]
  have k3P0 := k3
  clear k3 hW nb hP0 kk0 kk1
  rw [k3P0.symm]
  obtain ⟨P1, hP1⟩ : ∃ t, t = wb.heap.size := ⟨_, rfl⟩
  generalize hW : wb.alloc (.cells #[.int .i64 nl, .int .i64 nn] 35) = wb2
  have nb : Below wb.heap.size wb wb2 := by rw [← hW]; exact (Below.refl _ _).alloc (Nat.le_refl _) _
  have k3 : wb2.heap.size = P1 + 1 := by rw [← hW, hP1]; simp
  have kk0 : wb2.cell? ⟨P1, 0, none⟩ = some (.int .i64 nl) := by rw [← hW, hP1]; simp [go_sem]
  have kk1 : wb2.cell? ⟨P1, 1, none⟩ = some (.int .i64 nn) := by rw [← hW, hP1]; simp [go_sem]
  have oP1A : A ≤ P1 := by rw [hP1]; exact sA
  have oP10 : P0 < P1 := by rw [hP1]; exact zz0
  have d0 : wb2.cell? ⟨P0, 0, none⟩ = some (.slice ga n gc) := (Below.celz nb _ _ _ (by omega)).trans cc0
  have d1 : wb2.cell? ⟨P0, 1, none⟩ = some (.slice gb m gd) := (Below.celz nb _ _ _ (by omega)).trans cc1
  have y0 : P0 < wb2.heap.size := by have := Below.size nb; omega
  have BB1 : Below A wa wb2 := BB.trans (nb.mono (by omega))
  have sA1 : A ≤ wb2.heap.size := by have := Below.size nb; omega
  clear BB sA cc0 cc1 zz0 
  have cc0 := d0
  have cc1 := d1
  have zz0 := y0
  have BB := BB1
  have sA := sA1
  clear BB1 sA1 d0 d1 y0 
  have cc2 := kk0
  have cc3 := kk1
  have zz1 : P1 < wb2.heap.size := by omega
  rw [← hP1]
  have k3P1 := k3
  clear k3 hW nb hP1 kk0 kk1
  clear k3P0 k3P1
  obtain ⟨X, hX⟩ : ∃ X, nearG (nl, nn) ns es = X := ⟨_, rfl⟩
  have HX : Hid (nearG (nl, nn) ns es = X) := hX
  have lX : X.length ≤ 200 := by have := nearG_le ns es (nl, nn); rw [hX, ← HN.out.1] at this; omega
  obtain ⟨p, hp⟩ : ∃ p, p = X.length := ⟨_, rfl⟩
  have HP : Hid (p = X.length) := hp
  clear hX
  refine (gn_impl _ _ nl nn ns es X HX.out _ (HV.out _ BB).1 (HV.out _ BB).2.1).mono ?_
  rintro e wc ⟨la, lc, rfl, or, bwc⟩
  have d0 : wc.cell? ⟨P0, 0, none⟩ = some (.slice ga n gc) := (Below.celz bwc _ _ _ (by omega)).trans cc0
  have d1 : wc.cell? ⟨P0, 1, none⟩ = some (.slice gb m gd) := (Below.celz bwc _ _ _ (by omega)).trans cc1
  have d2 : wc.cell? ⟨P1, 0, none⟩ = some (.int .i64 nl) := (Below.celz bwc _ _ _ (by omega)).trans cc2
  have d3 : wc.cell? ⟨P1, 1, none⟩ = some (.int .i64 nn) := (Below.celz bwc _ _ _ (by omega)).trans cc3
  have y0 : P0 < wc.heap.size := by have := Below.size bwc; omega
  have y1 : P1 < wc.heap.size := by have := Below.size bwc; omega
  have BB1 : Below A wa wc := BB.trans (bwc.mono (by omega))
  have sA1 : A ≤ wc.heap.size := by have := Below.size bwc; omega
  clear BB sA cc0 cc1 cc2 cc3 zz0 zz1 
  have cc0 := d0
  have cc1 := d1
  have cc2 := d2
  have cc3 := d3
  have zz0 := y0
  have zz1 := y1
  have BB := BB1
  have sA := sA1
  clear BB1 sA1 d0 d1 d2 d3 y0 y1 
  clear bwc
  rw [← hp] at or ⊢
  have HL : Hid (RowAt 2 encNode wc (.slice la p lc) X) := or
  clear or
  go_wp2_with fail
  refine (gn_spec _ _ nl nn ns es X HX.out _ (HV.out _ BB).1).mono ?_
  rintro e wd ⟨sa, sc, rfl, or, bwd⟩
  have d0 : wd.cell? ⟨P0, 0, none⟩ = some (.slice ga n gc) := (Below.celz bwd _ _ _ (by omega)).trans cc0
  have d1 : wd.cell? ⟨P0, 1, none⟩ = some (.slice gb m gd) := (Below.celz bwd _ _ _ (by omega)).trans cc1
  have d2 : wd.cell? ⟨P1, 0, none⟩ = some (.int .i64 nl) := (Below.celz bwd _ _ _ (by omega)).trans cc2
  have d3 : wd.cell? ⟨P1, 1, none⟩ = some (.int .i64 nn) := (Below.celz bwd _ _ _ (by omega)).trans cc3
  have y0 : P0 < wd.heap.size := by have := Below.size bwd; omega
  have y1 : P1 < wd.heap.size := by have := Below.size bwd; omega
  have BB1 : Below A wa wd := BB.trans (bwd.mono (by omega))
  have sA1 : A ≤ wd.heap.size := by have := Below.size bwd; omega
  have q0 : Hid (RowAt 2 encNode wd (.slice la p lc) X) := HL.out.keep bwd
  clear BB sA cc0 cc1 cc2 cc3 zz0 zz1 HL
  have cc0 := d0
  have cc1 := d1
  have cc2 := d2
  have cc3 := d3
  have zz0 := y0
  have zz1 := y1
  have HL := q0
  have BB := BB1
  have sA := sA1
  clear BB1 sA1 d0 d1 d2 d3 y0 y1 q0
  clear bwd
  rw [← hp] at or lX ⊢
  have HS : Hid (RowAt 2 encNode wd (.slice sa p sc) X) := or
  clear or hp
  go_wp2_with fail
  go_loopw [9] (fun i wr => ∃ k : Nat, k ≤ p ∧ i = .int .i64 k ∧ Below wd.heap.size wd wr) (fun i _ => p - (intOf i).toNat)
  case atStart => exact ⟨0, by omega, rfl, Below.refl _ _⟩
  case round =>
    obtain ⟨k, hk, rfl, hbel⟩ := hrel
    have HD0 : Hid (Ov wd wr) := ⟨hbel⟩
    have sg : wd.heap.size ≤ wr.heap.size := hbel.size
    have d0 : wr.cell? ⟨P0, 0, none⟩ = some (.slice ga n gc) := (Below.celz hbel _ _ _ (by omega)).trans cc0
    have d1 : wr.cell? ⟨P0, 1, none⟩ = some (.slice gb m gd) := (Below.celz hbel _ _ _ (by omega)).trans cc1
    have d2 : wr.cell? ⟨P1, 0, none⟩ = some (.int .i64 nl) := (Below.celz hbel _ _ _ (by omega)).trans cc2
    have d3 : wr.cell? ⟨P1, 1, none⟩ = some (.int .i64 nn) := (Below.celz hbel _ _ _ (by omega)).trans cc3
    have y0 : P0 < wr.heap.size := by have := Below.size hbel; omega
    have y1 : P1 < wr.heap.size := by have := Below.size hbel; omega
    have BB1 : Below A wa wr := BB.trans (hbel.mono (by omega))
    have sA1 : A ≤ wr.heap.size := by have := Below.size hbel; omega
    have q0 : Hid (RowAt 2 encNode wr (.slice la p lc) X) := HL.out.keep hbel
    have q1 : Hid (RowAt 2 encNode wr (.slice sa p sc) X) := HS.out.keep hbel
    clear BB sA cc0 cc1 cc2 cc3 zz0 zz1 HL HS
    have cc0 := d0
    have cc1 := d1
    have cc2 := d2
    have cc3 := d3
    have zz0 := y0
    have zz1 := y1
    have HL := q0
    have HS := q1
    have BB := BB1
    have sA := sA1
    clear BB1 sA1 d0 d1 d2 d3 y0 y1 q0 q1
    clear hbel
    have HD : Hid (Ov wd wr) := HD0.out
    clear HD0
    by_cases hlt : k < p
    · obtain ⟨⟨x0, x1⟩, hx⟩ : ∃ x, X[k]? = some x := ⟨_, List.getElem?_eq_getElem (by rw [← HP.out]; exact hlt)⟩
      have HXk : Hid (X[k]? = some (x0, x1)) := hx
      have hmem : (x0, x1) ∈ nearG (nl, nn) ns es := by rw [HX.out]; exact List.mem_of_getElem? hx
      have HT : Hid ((nl, nn) ∈ nearG (x0, x1) ns es ∧ (x0, x1) ≠ (nl, nn)) := near_turn hmem
      clear hmem
      obtain ⟨b, off, hla, zb, EL⟩ : ∃ b off, la = some ⟨b, off, none⟩ ∧ b < wr.heap.size ∧ Hid (∀ j x, X[j]? = some x → wr.cell? ⟨b, off + j * 2, none⟩ = some (.int .i64 x.1) ∧ wr.cell? ⟨b, off + j * 2 + 1, none⟩ = some (.int .i64 x.2)) := by
        rcases HL.out with ⟨hz0, _⟩ | ⟨_, b, off, cap', hv, hb, hc⟩
        · rw [hz0] at hx; simp at hx
        · simp only [Value.slice.injEq] at hv
          exact ⟨b, off, hv.1, hb, fun j x h => ⟨hc j x h 0 _ rfl, hc j x h 1 _ rfl⟩⟩
      obtain ⟨b2, off2, hsa, zb2, ES⟩ : ∃ b off, sa = some ⟨b, off, none⟩ ∧ b < wr.heap.size ∧ Hid (∀ j x, X[j]? = some x → wr.cell? ⟨b, off + j * 2, none⟩ = some (.int .i64 x.1) ∧ wr.cell? ⟨b, off + j * 2 + 1, none⟩ = some (.int .i64 x.2)) := by
        rcases HS.out with ⟨hz0, _⟩ | ⟨_, b, off, cap', hv, hb, hc⟩
        · rw [hz0] at hx; simp at hx
        · simp only [Value.slice.injEq] at hv
          exact ⟨b, off, hv.1, hb, fun j x h => ⟨hc j x h 0 _ rfl, hc j x h 1 _ rfl⟩⟩
      subst hla
      subst hsa
      have j0 : (0 : Int) ≤ (k : Int) := by omega
      have j1 : (k : Int) < (p : Int) := by omega
      clear hx
      have e0 := (EL.out k _ HXk.out).1
      have e1 := (EL.out k _ HXk.out).2
      have g0 := (ES.out k _ HXk.out).1
      have g1 := (ES.out k _ HXk.out).2
      dsimp only at e0 e1 g0 g1
      go_upto_region 11 with fail
      go_cut [82] (fun s82 wx => s82 = .bool false ∧ Below wr.heap.size wr wx)
      case first =>
        by_cases hk0 : 0 < k
        · obtain ⟨⟨y0, y1⟩, hy⟩ : ∃ x, X[k - 1]? = some x := ⟨_, List.getElem?_eq_getElem (by rw [← HP.out]; omega)⟩
          have h0 := (EL.out (k - 1) _ hy).1
          have h1 := (EL.out (k - 1) _ hy).2
          dsimp only at h0 h1
          have hcd : decide (codeI x0 x1 ≤ codeI y0 y1) = false := by
            have ha := nearG_asc ns es (nl, nn)
            rw [HX.out] at ha
            have := pw_get (f := cod) ha (show k - 1 < k by omega) hy HXk.out
            unfold cod at this
            simp only at this
            exact decide_eq_false (by omega)
          have i0 : ((k : Int) - 1).toNat = k - 1 := by omega
          have i1 : (0 : Int) ≤ (k : Int) - 1 := by omega
          have i2 : (k : Int) - 1 < (p : Int) := by omega
          have i3 : (0 : Int) < (k : Int) := by omega
          have i5 : decide (0 < k) = true := by simp; omega
          have i6 : decide ((0 : Int) < (k : Int)) = true := by simp; omega
          clear hy
          by_cases e : x0 = nl
          · have e2 : x1 ≠ nn := fun h => HT.out.2 (by rw [e, h])
            subst e
            have d0 : (x1 == nn) = false := beq_eq_false_iff_ne.2 e2
            have d1 : decide (x1 = nn) = false := by simpa using e2
            clear e2
            refine wp_region_after (by kernel_rfl) (by kernel_rfl) ?_
            intro hneq hac
            repeat (go_big_quiet_step (first | (go_at_call_of 20 (Value.agg #[.int .i64 x0, .int .i64 x1]); exact after_of (impl_NodeCode x0 x1 _)) | (go_at_call_of 20 (Value.agg #[.int .i64 y0, .int .i64 y1]); exact after_of (impl_NodeCode y0 y1 _))))
            refine wpQuiet_nil ?_
            rintro _ ⟨p', rfl⟩
            have bq : Hid (Below wr.heap.size wr p'.w) := p'.bel
            clear hac hneq
            generalize p'.w = wq at *
            go_wp2_with fail
            go_meet
            exact ⟨rfl, bq.out⟩
          · have d0 : (x0 == nl) = false := beq_eq_false_iff_ne.2 e
            have d1 : decide (x0 = nl) = false := by simpa using e
            clear e
            refine wp_region_after (by kernel_rfl) (by kernel_rfl) ?_
            intro hneq hac
            repeat (go_big_quiet_step (first | (go_at_call_of 20 (Value.agg #[.int .i64 x0, .int .i64 x1]); exact after_of (impl_NodeCode x0 x1 _)) | (go_at_call_of 20 (Value.agg #[.int .i64 y0, .int .i64 y1]); exact after_of (impl_NodeCode y0 y1 _))))
            refine wpQuiet_nil ?_
            rintro _ ⟨p', rfl⟩
            have bq : Hid (Below wr.heap.size wr p'.w) := p'.bel
            clear hac hneq
            generalize p'.w = wq at *
            go_wp2_with fail
            go_meet
            exact ⟨rfl, bq.out⟩
        · have i5 : decide (0 < k) = false := by simp; omega
          have i6 : decide ((0 : Int) < (k : Int)) = false := by simp; omega
          by_cases e : x0 = nl
          · have e2 : x1 ≠ nn := fun h => HT.out.2 (by rw [e, h])
            subst e
            have d0 : (x1 == nn) = false := beq_eq_false_iff_ne.2 e2
            have d1 : decide (x1 = nn) = false := by simpa using e2
            clear e2
            refine wp_region_after (by kernel_rfl) (by kernel_rfl) ?_
            intro hneq hac
            repeat (go_big_quiet_step (first | fail))
            refine wpQuiet_nil ?_
            rintro _ ⟨p', rfl⟩
            have bq : Hid (Below wr.heap.size wr p'.w) := p'.bel
            clear hac hneq
            generalize p'.w = wq at *
            go_wp2_with fail
            go_meet
            exact ⟨rfl, bq.out⟩
          · have d0 : (x0 == nl) = false := beq_eq_false_iff_ne.2 e
            have d1 : decide (x0 = nl) = false := by simpa using e
            clear e
            refine wp_region_after (by kernel_rfl) (by kernel_rfl) ?_
            intro hneq hac
            repeat (go_big_quiet_step (first | fail))
            refine wpQuiet_nil ?_
            rintro _ ⟨p', rfl⟩
            have bq : Hid (Below wr.heap.size wr p'.w) := p'.bel
            clear hac hneq
            generalize p'.w = wq at *
            go_wp2_with fail
            go_meet
            exact ⟨rfl, bq.out⟩
      case rest =>
        obtain ⟨rfl, hb⟩ := hcut
        obtain ⟨wy, hwy⟩ : ∃ t, t = wc := ⟨_, rfl⟩
        rw [← hwy] at hb ⊢
        clear hwy
        have cc4 : wr.cell? ⟨b, off + k * 2, none⟩ = some (.int .i64 x0) := e0
        have cc5 : wr.cell? ⟨b, off + k * 2 + 1, none⟩ = some (.int .i64 x1) := e1
        have zz2 : b < wr.heap.size := zb
        clear e0 e1 g0 g1 zb zb2 ES EL
        have d0 : wy.cell? ⟨P0, 0, none⟩ = some (.slice ga n gc) := (Below.celz hb _ _ _ (by omega)).trans cc0
        have d1 : wy.cell? ⟨P0, 1, none⟩ = some (.slice gb m gd) := (Below.celz hb _ _ _ (by omega)).trans cc1
        have d2 : wy.cell? ⟨P1, 0, none⟩ = some (.int .i64 nl) := (Below.celz hb _ _ _ (by omega)).trans cc2
        have d3 : wy.cell? ⟨P1, 1, none⟩ = some (.int .i64 nn) := (Below.celz hb _ _ _ (by omega)).trans cc3
        have d4 : wy.cell? ⟨b, off + k * 2, none⟩ = some (.int .i64 x0) := (Below.celz hb _ _ _ (by omega)).trans cc4
        have d5 : wy.cell? ⟨b, off + k * 2 + 1, none⟩ = some (.int .i64 x1) := (Below.celz hb _ _ _ (by omega)).trans cc5
        have y0 : P0 < wy.heap.size := by have := Below.size hb; omega
        have y1 : P1 < wy.heap.size := by have := Below.size hb; omega
        have y2 : b < wy.heap.size := by have := Below.size hb; omega
        have BB1 : Below A wa wy := BB.trans (hb.mono (by omega))
        have sA1 : A ≤ wy.heap.size := by have := Below.size hb; omega
        have q0 : Hid (RowAt 2 encNode wy (.slice (some ⟨b, off, none⟩) p lc) X) := HL.out.keep hb
        have q1 : Hid (RowAt 2 encNode wy (.slice (some ⟨b2, off2, none⟩) p sc) X) := HS.out.keep hb
        have q2 : Hid (Ov wd wy) := HD.out.keep hb
        clear BB sA cc0 cc1 cc2 cc3 cc4 cc5 zz0 zz1 zz2 HL HS HD
        have cc0 := d0
        have cc1 := d1
        have cc2 := d2
        have cc3 := d3
        have cc4 := d4
        have cc5 := d5
        have zz0 := y0
        have zz1 := y1
        have zz2 := y2
        have HL := q0
        have HS := q1
        have HD := q2
        have BB := BB1
        have sA := sA1
        clear BB1 sA1 d0 d1 d2 d3 d4 d5 y0 y1 y2 q0 q1 q2
        clear hb
        obtain ⟨Y, hY⟩ : ∃ Y, nearG (x0, x1) ns es = Y := ⟨_, rfl⟩
        have HY : Hid (nearG (x0, x1) ns es = Y ∧ (nl, nn) ∈ Y) := ⟨hY, by rw [← hY]; exact HT.out.1⟩
        have lY : Y.length ≤ 200 := by have := nearG_le ns es (x0, x1); rw [hY, ← HN.out.1] at this; omega
        clear hY
        have HVH : Hid (∀ w', Below wy.heap.size wy w' → GrAt w' (.slice ga n gc) (.slice gb m gd) ns es ∧ Errs w') := fun w' h => ⟨(HV.out _ (BB.trans (h.mono sA))).1, (HV.out _ (BB.trans (h.mono sA))).2.1⟩
        go_wp2_with fail
        have hS : Hid (∀ w', Below wy.heap.size wy w' → Below wy.heap.size wy w' ∧ w'.cell? ⟨P0, 0, none⟩ = some (.slice ga n gc) ∧ w'.cell? ⟨P0, 1, none⟩ = some (.slice gb m gd) ∧ w'.cell? ⟨b, off + k * 2, none⟩ = some (.int .i64 x0) ∧ w'.cell? ⟨b, off + k * 2 + 1, none⟩ = some (.int .i64 x1)) := fun w' hn => ⟨hn, (Below.celz hn _ _ _ zz0).trans cc0, (Below.celz hn _ _ _ zz0).trans cc1, (Below.celz hn _ _ _ zz2).trans cc4, (Below.celz hn _ _ _ zz2).trans cc5⟩
        go_region_held3 (fun w' => Below wy.heap.size wy w' ∧ w'.cell? ⟨P0, 0, none⟩ = some (.slice ga n gc) ∧ w'.cell? ⟨P0, 1, none⟩ = some (.slice gb m gd) ∧ w'.cell? ⟨b, off + k * 2, none⟩ = some (.int .i64 x0) ∧ w'.cell? ⟨b, off + k * 2 + 1, none⟩ = some (.int .i64 x1))
          (first | with_reducible exact hS.out _ (Below.refl _ _).drew | (with_reducible exact hS.out _ (keep_below (And.left (by assumption)) tj1)))
          (first
            | (go_at_call 18; refine (gn_impl _ _ x0 x1 ns es Y HY.out.1 _ (HVH.out _ (And.left (by assumption))).1 (HVH.out _ (And.left (by assumption))).2).mono ?_; rintro e wn ⟨ya, yc, rfl, oy, tj1⟩))
        have lb : Below wy.heap.size wy wn := And.left (show Below wy.heap.size wy wn ∧ wn.cell? ⟨P0, 0, none⟩ = some (.slice ga n gc) ∧ wn.cell? ⟨P0, 1, none⟩ = some (.slice gb m gd) ∧ wn.cell? ⟨b, off + k * 2, none⟩ = some (.int .i64 x0) ∧ wn.cell? ⟨b, off + k * 2 + 1, none⟩ = some (.int .i64 x1) by assumption)
        clear hS
        have d0 : wn.cell? ⟨P0, 0, none⟩ = some (.slice ga n gc) := (Below.celz lb _ _ _ (by omega)).trans cc0
        have d1 : wn.cell? ⟨P0, 1, none⟩ = some (.slice gb m gd) := (Below.celz lb _ _ _ (by omega)).trans cc1
        have d2 : wn.cell? ⟨P1, 0, none⟩ = some (.int .i64 nl) := (Below.celz lb _ _ _ (by omega)).trans cc2
        have d3 : wn.cell? ⟨P1, 1, none⟩ = some (.int .i64 nn) := (Below.celz lb _ _ _ (by omega)).trans cc3
        have d4 : wn.cell? ⟨b, off + k * 2, none⟩ = some (.int .i64 x0) := (Below.celz lb _ _ _ (by omega)).trans cc4
        have d5 : wn.cell? ⟨b, off + k * 2 + 1, none⟩ = some (.int .i64 x1) := (Below.celz lb _ _ _ (by omega)).trans cc5
        have y0 : P0 < wn.heap.size := by have := Below.size lb; omega
        have y1 : P1 < wn.heap.size := by have := Below.size lb; omega
        have y2 : b < wn.heap.size := by have := Below.size lb; omega
        have BB1 : Below A wa wn := BB.trans (lb.mono (by omega))
        have sA1 : A ≤ wn.heap.size := by have := Below.size lb; omega
        have q0 : Hid (RowAt 2 encNode wn (.slice (some ⟨b, off, none⟩) p lc) X) := HL.out.keep lb
        have q1 : Hid (RowAt 2 encNode wn (.slice (some ⟨b2, off2, none⟩) p sc) X) := HS.out.keep lb
        have q2 : Hid (Ov wd wn) := HD.out.keep lb
        clear BB sA cc0 cc1 cc2 cc3 cc4 cc5 zz0 zz1 zz2 HL HS HD
        have cc0 := d0
        have cc1 := d1
        have cc2 := d2
        have cc3 := d3
        have cc4 := d4
        have cc5 := d5
        have zz0 := y0
        have zz1 := y1
        have zz2 := y2
        have HL := q0
        have HS := q1
        have HD := q2
        have BB := BB1
        have sA := sA1
        clear BB1 sA1 d0 d1 d2 d3 d4 d5 y0 y1 y2 q0 q1 q2
        clear lb
        clear HVH
        have HB : Hid (RowAt 2 encNode wn (.slice ya Y.length yc) Y) := oy
        clear oy
        go_wp2_with fail
        go_loopw [11, 12] (fun s i wr => ∃ j : Nat, j ≤ Y.length ∧ i = .int .i64 j ∧ s = .bool (hasK Y (nl, nn) j) ∧ Below wn.heap.size wn wr) (fun _ i _ => Y.length - (intOf i).toNat)
        case atStart => exact ⟨0, by omega, rfl, by rw [hasK_zero], Below.refl _ _⟩
        case round =>
          obtain ⟨j, hj, rfl, rfl, hbj⟩ := hrel
          have HBJ : Hid (Below wn.heap.size wn wr) := hbj
          have sj : wn.heap.size ≤ wr.heap.size := hbj.size
          have d0 : wr.cell? ⟨P0, 0, none⟩ = some (.slice ga n gc) := (Below.celz hbj _ _ _ (by omega)).trans cc0
          have d1 : wr.cell? ⟨P0, 1, none⟩ = some (.slice gb m gd) := (Below.celz hbj _ _ _ (by omega)).trans cc1
          have d2 : wr.cell? ⟨P1, 0, none⟩ = some (.int .i64 nl) := (Below.celz hbj _ _ _ (by omega)).trans cc2
          have d3 : wr.cell? ⟨P1, 1, none⟩ = some (.int .i64 nn) := (Below.celz hbj _ _ _ (by omega)).trans cc3
          have d4 : wr.cell? ⟨b, off + k * 2, none⟩ = some (.int .i64 x0) := (Below.celz hbj _ _ _ (by omega)).trans cc4
          have d5 : wr.cell? ⟨b, off + k * 2 + 1, none⟩ = some (.int .i64 x1) := (Below.celz hbj _ _ _ (by omega)).trans cc5
          have y0 : P0 < wr.heap.size := by have := Below.size hbj; omega
          have y1 : P1 < wr.heap.size := by have := Below.size hbj; omega
          have y2 : b < wr.heap.size := by have := Below.size hbj; omega
          have BB1 : Below A wa wr := BB.trans (hbj.mono (by omega))
          have sA1 : A ≤ wr.heap.size := by have := Below.size hbj; omega
          have q0 : Hid (RowAt 2 encNode wr (.slice (some ⟨b, off, none⟩) p lc) X) := HL.out.keep hbj
          have q1 : Hid (RowAt 2 encNode wr (.slice (some ⟨b2, off2, none⟩) p sc) X) := HS.out.keep hbj
          have q2 : Hid (Ov wd wr) := HD.out.keep hbj
          have q3 : Hid (RowAt 2 encNode wr (.slice ya Y.length yc) Y) := HB.out.keep hbj
          clear BB sA cc0 cc1 cc2 cc3 cc4 cc5 zz0 zz1 zz2 HL HS HD HB
          have cc0 := d0
          have cc1 := d1
          have cc2 := d2
          have cc3 := d3
          have cc4 := d4
          have cc5 := d5
          have zz0 := y0
          have zz1 := y1
          have zz2 := y2
          have HL := q0
          have HS := q1
          have HD := q2
          have HB := q3
          have BB := BB1
          have sA := sA1
          clear BB1 sA1 d0 d1 d2 d3 d4 d5 y0 y1 y2 q0 q1 q2 q3
          clear hbj
          by_cases hlj : j < Y.length
          · obtain ⟨⟨z0', z1'⟩, hx⟩ : ∃ x, Y[j]? = some x := ⟨_, List.getElem?_eq_getElem (by exact hlj)⟩
            rcases HB.out with ⟨hz0, _⟩ | ⟨_, bj, oj, cap', hv, zbj, hc⟩
            · exfalso; rw [hz0] at hx; simp at hx
            simp only [Value.slice.injEq] at hv
            obtain ⟨rfl, -, hcc⟩ := hv
            have e0 : wr.cell? ⟨bj, oj + j * 2, none⟩ = some (.int .i64 z0') := hc j _ hx 0 _ rfl
            have e1 : wr.cell? ⟨bj, oj + j * 2 + 1, none⟩ = some (.int .i64 z1') := hc j _ hx 1 _ rfl
            have jj0 : (0 : Int) ≤ (j : Int) := by omega
            have jj1 : (j : Int) < (Y.length : Int) := by omega
            have hs := hasK_step (x := (nl, nn)) hx
            obtain ⟨h, hh⟩ : ∃ h, h = hasK Y (nl, nn) j := ⟨_, rfl⟩
            have HST : Hid (hasK Y (nl, nn) (j + 1) = (h || eqB (z0', z1') (nl, nn))) := by rw [hh]; exact hs
            rw [← hh]
            clear hs hh hx hc hcc
            cases h
            · by_cases e : z0' = nl
              · by_cases e2 : z1' = nn
                · subst e
                  subst e2
                  have HE : Hid (eqB (z0', z1') (z0', z1') = true) := eqB_true.2 rfl
                  go_wp2_with fail
                  refine wp_region_after (by kernel_rfl) (by kernel_rfl) ?_
                  intro hneq hac
                  repeat (go_big_quiet_step (fail))
                  refine wpQuiet_nil ?_
                  rintro _ ⟨p', rfl⟩
                  have HB2 : Hid (Below wn.heap.size wn p'.w) := HBJ.out.trans (p'.bel.mono sj)
                  clear hac hneq
                  generalize p'.w = wq at *
                  go_wp2_with fail
                  go_roundw
                  case rel =>
                    refine ⟨j + 1, by omega, by go_num, ?_, HB2.out⟩
                    rw [HST.out, HE.out]
                    rfl
                  case measure => simp [intOf]; omega
                · subst e
                  have d0 : (z1' == nn) = false := beq_eq_false_iff_ne.2 e2
                  have d1 : decide (z1' = nn) = false := by simpa using e2
                  have HE : Hid (eqB (z0', z1') (z0', nn) = false) := by show _ = _; rw [eqB_false]; simp [e2]
                  clear e2
                  go_wp2_with fail
                  refine wp_region_after (by kernel_rfl) (by kernel_rfl) ?_
                  intro hneq hac
                  repeat (go_big_quiet_step (fail))
                  refine wpQuiet_nil ?_
                  rintro _ ⟨p', rfl⟩
                  have HB2 : Hid (Below wn.heap.size wn p'.w) := HBJ.out.trans (p'.bel.mono sj)
                  clear hac hneq
                  generalize p'.w = wq at *
                  go_wp2_with fail
                  go_roundw
                  case rel =>
                    refine ⟨j + 1, by omega, by go_num, ?_, HB2.out⟩
                    rw [HST.out, HE.out]
                    rfl
                  case measure => simp [intOf]; omega
              · have d0 : (z0' == nl) = false := beq_eq_false_iff_ne.2 e
                have d1 : decide (z0' = nl) = false := by simpa using e
                have HE : Hid (eqB (z0', z1') (nl, nn) = false) := by show _ = _; rw [eqB_false]; simp [e]
                clear e
                go_wp2_with fail
                refine wp_region_after (by kernel_rfl) (by kernel_rfl) ?_
                intro hneq hac
                repeat (go_big_quiet_step (fail))
                refine wpQuiet_nil ?_
                rintro _ ⟨p', rfl⟩
                have HB2 : Hid (Below wn.heap.size wn p'.w) := HBJ.out.trans (p'.bel.mono sj)
                clear hac hneq
                generalize p'.w = wq at *
                go_wp2_with fail
                go_roundw
                case rel =>
                  refine ⟨j + 1, by omega, by go_num, ?_, HB2.out⟩
                  rw [HST.out, HE.out]
                  rfl
                case measure => simp [intOf]; omega
            · go_wp2_with fail
              refine wp_region_after (by kernel_rfl) (by kernel_rfl) ?_
              intro hneq hac
              repeat (go_big_quiet_step (fail))
              refine wpQuiet_nil ?_
              rintro _ ⟨p', rfl⟩
              have HB2 : Hid (Below wn.heap.size wn p'.w) := HBJ.out.trans (p'.bel.mono sj)
              clear hac hneq
              generalize p'.w = wq at *
              go_wp2_with fail
              go_roundw
              case rel =>
                refine ⟨j + 1, by omega, by go_num, ?_, HB2.out⟩
                rw [HST.out]
                rfl
              case measure => simp [intOf]; omega
          · have hjj : j = Y.length := by omega
            rw [hjj]
            have hall : hasK Y (nl, nn) Y.length = true := by rw [hasK_all]; exact decide_eq_true HY.out.2
            rw [hall]
            clear hall
            go_wp2_with fail
            go_roundw
            case rel => exact ⟨k + 1, by omega, by go_num, HD.out.b⟩
            case measure => simp [intOf]; omega
    · have hkp : k = p := by omega
      clear hlt
      subst hkp
      go_wp2_with fail
      generalize (len1 : Int) % 8 = ot
      refine (gv_impl _ _ ot ns es _ (HV.out _ BB).1 (HV.out _ BB).2.1).mono ?_
      rintro e wh ⟨u1, u2, rfl, og, bwh⟩
      have d0 : wh.cell? ⟨P0, 0, none⟩ = some (.slice ga n gc) := (Below.celz bwh _ _ _ (by omega)).trans cc0
      have d1 : wh.cell? ⟨P0, 1, none⟩ = some (.slice gb m gd) := (Below.celz bwh _ _ _ (by omega)).trans cc1
      have d2 : wh.cell? ⟨P1, 0, none⟩ = some (.int .i64 nl) := (Below.celz bwh _ _ _ (by omega)).trans cc2
      have d3 : wh.cell? ⟨P1, 1, none⟩ = some (.int .i64 nn) := (Below.celz bwh _ _ _ (by omega)).trans cc3
      have y0 : P0 < wh.heap.size := by have := Below.size bwh; omega
      have y1 : P1 < wh.heap.size := by have := Below.size bwh; omega
      have BB1 : Below A wa wh := BB.trans (bwh.mono (by omega))
      have sA1 : A ≤ wh.heap.size := by have := Below.size bwh; omega
      have q0 : Hid (RowAt 2 encNode wh (.slice la k lc) X) := HL.out.keep bwh
      have q1 : Hid (RowAt 2 encNode wh (.slice sa k sc) X) := HS.out.keep bwh
      have q2 : Hid (Ov wd wh) := HD.out.keep bwh
      clear BB sA cc0 cc1 cc2 cc3 zz0 zz1 HL HS HD
      have cc0 := d0
      have cc1 := d1
      have cc2 := d2
      have cc3 := d3
      have zz0 := y0
      have zz1 := y1
      have HL := q0
      have HS := q1
      have HD := q2
      have BB := BB1
      have sA := sA1
      clear BB1 sA1 d0 d1 d2 d3 y0 y1 q0 q1 q2
      clear bwh
      obtain ⟨xa3, xc3, xb3, xd3, rfl, rfl⟩ := og.form
      obtain ⟨X3N, hX⟩ : ∃ t, t = seenN ot ns es := ⟨_, rfl⟩
      obtain ⟨X3E, hY⟩ : ∃ t, t = seenE ot ns es := ⟨_, rfl⟩
      rw [← hX, ← hY] at og ⊢
      obtain ⟨p3, hp⟩ : ∃ t, t = X3N.length := ⟨_, rfl⟩
      obtain ⟨r3, hr⟩ : ∃ t, t = X3E.length := ⟨_, rfl⟩
      have HX3 : Hid (X3N = seenN ot ns es ∧ X3E = seenE ot ns es ∧ p3 = X3N.length ∧ r3 = X3E.length) := ⟨hX, hY, hp, hr⟩
      have lp3 : p3 ≤ 200 := by rw [hp]; exact og.2.2.1
      have lr3 : r3 ≤ 200 := by rw [hr]; exact og.2.2.2
      rw [← hp, ← hr] at og ⊢
      clear hX hY hp hr
      have HR3 : Hid (GrAt wh (.slice xa3 p3 xc3) (.slice xb3 r3 xd3) X3N X3E) := og
      clear og
      go_wp2_with fail
      obtain ⟨P2, hP2⟩ : ∃ t, t = wh.heap.size := ⟨_, rfl⟩
      generalize hW : wh.alloc (.cells #[.slice xa3 p3 xc3, .slice xb3 r3 xd3] 26) = wi
      have nb : Below wh.heap.size wh wi := by rw [← hW]; exact (Below.refl _ _).alloc (Nat.le_refl _) _
      have k3 : wi.heap.size = P2 + 1 := by rw [← hW, hP2]; simp
      have kk0 : wi.cell? ⟨P2, 0, none⟩ = some (.slice xa3 p3 xc3) := by rw [← hW, hP2]; simp [go_sem]
      have kk1 : wi.cell? ⟨P2, 1, none⟩ = some (.slice xb3 r3 xd3) := by rw [← hW, hP2]; simp [go_sem]
      have oP2A : A ≤ P2 := by rw [hP2]; exact sA
      have oP20 : P0 < P2 := by rw [hP2]; exact zz0
      have oP21 : P1 < P2 := by rw [hP2]; exact zz1
      have d0 : wi.cell? ⟨P0, 0, none⟩ = some (.slice ga n gc) := (Below.celz nb _ _ _ (by omega)).trans cc0
      have d1 : wi.cell? ⟨P0, 1, none⟩ = some (.slice gb m gd) := (Below.celz nb _ _ _ (by omega)).trans cc1
      have d2 : wi.cell? ⟨P1, 0, none⟩ = some (.int .i64 nl) := (Below.celz nb _ _ _ (by omega)).trans cc2
      have d3 : wi.cell? ⟨P1, 1, none⟩ = some (.int .i64 nn) := (Below.celz nb _ _ _ (by omega)).trans cc3
      have y0 : P0 < wi.heap.size := by have := Below.size nb; omega
      have y1 : P1 < wi.heap.size := by have := Below.size nb; omega
      have BB1 : Below A wa wi := BB.trans (nb.mono (by omega))
      have sA1 : A ≤ wi.heap.size := by have := Below.size nb; omega
      have q0 : Hid (RowAt 2 encNode wi (.slice la k lc) X) := HL.out.keep nb
      have q1 : Hid (RowAt 2 encNode wi (.slice sa k sc) X) := HS.out.keep nb
      have q2 : Hid (Ov wd wi) := HD.out.keep nb
      have q3 : Hid (GrAt wi (.slice xa3 p3 xc3) (.slice xb3 r3 xd3) X3N X3E) := HR3.out.keep nb
      clear BB sA cc0 cc1 cc2 cc3 zz0 zz1 HL HS HD HR3
      have cc0 := d0
      have cc1 := d1
      have cc2 := d2
      have cc3 := d3
      have zz0 := y0
      have zz1 := y1
      have HL := q0
      have HS := q1
      have HD := q2
      have HR3 := q3
      have BB := BB1
      have sA := sA1
      clear BB1 sA1 d0 d1 d2 d3 y0 y1 q0 q1 q2 q3
      have cc4 := kk0
      have cc5 := kk1
      have zz2 : P2 < wi.heap.size := by omega
      rw [← hP2]
      have k3P2 := k3
      clear k3 hW nb hP2 kk0 kk1
      clear k3P2
      obtain ⟨Z, hZ⟩ : ∃ Z, nearG (nl, nn) X3N X3E = Z := ⟨_, rfl⟩
      have HZ : Hid (nearG (nl, nn) X3N X3E = Z ∧ (∀ o ∈ Z, o ∈ X)) := ⟨hZ, fun o ho => by rw [← hZ, HX3.out.1, HX3.out.2.1] at ho; have h := near_seen ho; rw [HX.out] at h; exact h⟩
      have hzl : Z.length ≤ k := by have h := near_seen_len ns es (nl, nn) ot; rw [← HX3.out.1, ← HX3.out.2.1, hZ, HX.out, ← HP.out] at h; exact h
      obtain ⟨q, hq⟩ : ∃ q, q = Z.length := ⟨_, rfl⟩
      have HQ : Hid (q = Z.length) := hq
      rw [← hq] at hzl
      clear hZ
      refine (gn_impl _ _ nl nn X3N X3E Z HZ.out.1 _ HR3.out (HV.out _ BB).2.1).mono ?_
      rintro e wj ⟨qa, qc, rfl, oz, bwj⟩
      have d0 : wj.cell? ⟨P0, 0, none⟩ = some (.slice ga n gc) := (Below.celz bwj _ _ _ (by omega)).trans cc0
      have d1 : wj.cell? ⟨P0, 1, none⟩ = some (.slice gb m gd) := (Below.celz bwj _ _ _ (by omega)).trans cc1
      have d2 : wj.cell? ⟨P1, 0, none⟩ = some (.int .i64 nl) := (Below.celz bwj _ _ _ (by omega)).trans cc2
      have d3 : wj.cell? ⟨P1, 1, none⟩ = some (.int .i64 nn) := (Below.celz bwj _ _ _ (by omega)).trans cc3
      have d4 : wj.cell? ⟨P2, 0, none⟩ = some (.slice xa3 p3 xc3) := (Below.celz bwj _ _ _ (by omega)).trans cc4
      have d5 : wj.cell? ⟨P2, 1, none⟩ = some (.slice xb3 r3 xd3) := (Below.celz bwj _ _ _ (by omega)).trans cc5
      have y0 : P0 < wj.heap.size := by have := Below.size bwj; omega
      have y1 : P1 < wj.heap.size := by have := Below.size bwj; omega
      have y2 : P2 < wj.heap.size := by have := Below.size bwj; omega
      have BB1 : Below A wa wj := BB.trans (bwj.mono (by omega))
      have sA1 : A ≤ wj.heap.size := by have := Below.size bwj; omega
      have q0 : Hid (RowAt 2 encNode wj (.slice la k lc) X) := HL.out.keep bwj
      have q1 : Hid (RowAt 2 encNode wj (.slice sa k sc) X) := HS.out.keep bwj
      have q2 : Hid (Ov wd wj) := HD.out.keep bwj
      have q3 : Hid (GrAt wj (.slice xa3 p3 xc3) (.slice xb3 r3 xd3) X3N X3E) := HR3.out.keep bwj
      clear BB sA cc0 cc1 cc2 cc3 cc4 cc5 zz0 zz1 zz2 HL HS HD HR3
      have cc0 := d0
      have cc1 := d1
      have cc2 := d2
      have cc3 := d3
      have cc4 := d4
      have cc5 := d5
      have zz0 := y0
      have zz1 := y1
      have zz2 := y2
      have HL := q0
      have HS := q1
      have HD := q2
      have HR3 := q3
      have BB := BB1
      have sA := sA1
      clear BB1 sA1 d0 d1 d2 d3 d4 d5 y0 y1 y2 q0 q1 q2 q3
      clear bwj
      rw [← hq] at oz ⊢
      clear hq
      have HZR : Hid (RowAt 2 encNode wj (.slice qa q qc) Z) := oz
      clear oz
      go_wp2_with fail
      go_loopw [15] (fun i wr => ∃ k2 : Nat, k2 ≤ q ∧ i = .int .i64 k2 ∧ Below wj.heap.size wj wr) (fun i _ => q - (intOf i).toNat)
      case atStart => exact ⟨0, by omega, rfl, Below.refl _ _⟩
      case round =>
        obtain ⟨k2, hk2, rfl, hbel2⟩ := hrel
        have HD2' : Hid (Ov wj wr) := ⟨hbel2⟩
        have sg2 : wj.heap.size ≤ wr.heap.size := hbel2.size
        have d0 : wr.cell? ⟨P0, 0, none⟩ = some (.slice ga n gc) := (Below.celz hbel2 _ _ _ (by omega)).trans cc0
        have d1 : wr.cell? ⟨P0, 1, none⟩ = some (.slice gb m gd) := (Below.celz hbel2 _ _ _ (by omega)).trans cc1
        have d2 : wr.cell? ⟨P1, 0, none⟩ = some (.int .i64 nl) := (Below.celz hbel2 _ _ _ (by omega)).trans cc2
        have d3 : wr.cell? ⟨P1, 1, none⟩ = some (.int .i64 nn) := (Below.celz hbel2 _ _ _ (by omega)).trans cc3
        have d4 : wr.cell? ⟨P2, 0, none⟩ = some (.slice xa3 p3 xc3) := (Below.celz hbel2 _ _ _ (by omega)).trans cc4
        have d5 : wr.cell? ⟨P2, 1, none⟩ = some (.slice xb3 r3 xd3) := (Below.celz hbel2 _ _ _ (by omega)).trans cc5
        have y0 : P0 < wr.heap.size := by have := Below.size hbel2; omega
        have y1 : P1 < wr.heap.size := by have := Below.size hbel2; omega
        have y2 : P2 < wr.heap.size := by have := Below.size hbel2; omega
        have BB1 : Below A wa wr := BB.trans (hbel2.mono (by omega))
        have sA1 : A ≤ wr.heap.size := by have := Below.size hbel2; omega
        have q0 : Hid (RowAt 2 encNode wr (.slice la k lc) X) := HL.out.keep hbel2
        have q1 : Hid (RowAt 2 encNode wr (.slice sa k sc) X) := HS.out.keep hbel2
        have q2 : Hid (Ov wd wr) := HD.out.keep hbel2
        have q3 : Hid (GrAt wr (.slice xa3 p3 xc3) (.slice xb3 r3 xd3) X3N X3E) := HR3.out.keep hbel2
        have q4 : Hid (RowAt 2 encNode wr (.slice qa q qc) Z) := HZR.out.keep hbel2
        clear BB sA cc0 cc1 cc2 cc3 cc4 cc5 zz0 zz1 zz2 HL HS HD HR3 HZR
        have cc0 := d0
        have cc1 := d1
        have cc2 := d2
        have cc3 := d3
        have cc4 := d4
        have cc5 := d5
        have zz0 := y0
        have zz1 := y1
        have zz2 := y2
        have HL := q0
        have HS := q1
        have HD := q2
        have HR3 := q3
        have HZR := q4
        have BB := BB1
        have sA := sA1
        clear BB1 sA1 d0 d1 d2 d3 d4 d5 y0 y1 y2 q0 q1 q2 q3 q4
        clear hbel2
        have HD2 : Hid (Ov wj wr) := HD2'.out
        clear HD2'
        by_cases hlz : k2 < q
        · obtain ⟨⟨x0, x1⟩, hx⟩ : ∃ x, Z[k2]? = some x := ⟨_, List.getElem?_eq_getElem (by rw [← HQ.out]; exact hlz)⟩
          have HM : Hid ((x0, x1) ∈ X) := HZ.out.2 _ (List.mem_of_getElem? hx)
          obtain ⟨b3, off3, hqa, zz3, cc6, cc7⟩ : ∃ b off, qa = some ⟨b, off, none⟩ ∧ b < wr.heap.size ∧ wr.cell? ⟨b, off + k2 * 2, none⟩ = some (.int .i64 x0) ∧ wr.cell? ⟨b, off + k2 * 2 + 1, none⟩ = some (.int .i64 x1) := by
            rcases HZR.out with ⟨hz0, _⟩ | ⟨_, b, off, cap', hv, hb, hc⟩
            · rw [hz0] at hx; simp at hx
            · simp only [Value.slice.injEq] at hv
              exact ⟨b, off, hv.1, hb, hc k2 _ hx 0 _ rfl, hc k2 _ hx 1 _ rfl⟩
          subst hqa
          have j0 : (0 : Int) ≤ (k2 : Int) := by omega
          have j1 : (k2 : Int) < (q : Int) := by omega
          clear hx
          go_wp2_with fail
          obtain ⟨wl, hwl⟩ : ∃ t, t = wr := ⟨_, rfl⟩
          subst hwl
          go_loopw [16, 17] (fun s i wr => ∃ j : Nat, j ≤ k ∧ i = .int .i64 j ∧ s = .bool (hasK X (x0, x1) j) ∧ Below wl.heap.size wl wr) (fun _ i _ => k - (intOf i).toNat)
          case atStart => exact ⟨0, by omega, rfl, by rw [hasK_zero], Below.refl _ _⟩
          case round =>
            obtain ⟨j, hj, rfl, rfl, hbj⟩ := hrel
            have HBJ : Hid (Below wl.heap.size wl wr) := hbj
            have sj : wl.heap.size ≤ wr.heap.size := hbj.size
            have d0 : wr.cell? ⟨P0, 0, none⟩ = some (.slice ga n gc) := (Below.celz hbj _ _ _ (by omega)).trans cc0
            have d1 : wr.cell? ⟨P0, 1, none⟩ = some (.slice gb m gd) := (Below.celz hbj _ _ _ (by omega)).trans cc1
            have d2 : wr.cell? ⟨P1, 0, none⟩ = some (.int .i64 nl) := (Below.celz hbj _ _ _ (by omega)).trans cc2
            have d3 : wr.cell? ⟨P1, 1, none⟩ = some (.int .i64 nn) := (Below.celz hbj _ _ _ (by omega)).trans cc3
            have d4 : wr.cell? ⟨P2, 0, none⟩ = some (.slice xa3 p3 xc3) := (Below.celz hbj _ _ _ (by omega)).trans cc4
            have d5 : wr.cell? ⟨P2, 1, none⟩ = some (.slice xb3 r3 xd3) := (Below.celz hbj _ _ _ (by omega)).trans cc5
            have d6 : wr.cell? ⟨b3, off3 + k2 * 2, none⟩ = some (.int .i64 x0) := (Below.celz hbj _ _ _ (by omega)).trans cc6
            have d7 : wr.cell? ⟨b3, off3 + k2 * 2 + 1, none⟩ = some (.int .i64 x1) := (Below.celz hbj _ _ _ (by omega)).trans cc7
            have y0 : P0 < wr.heap.size := by have := Below.size hbj; omega
            have y1 : P1 < wr.heap.size := by have := Below.size hbj; omega
            have y2 : P2 < wr.heap.size := by have := Below.size hbj; omega
            have y3 : b3 < wr.heap.size := by have := Below.size hbj; omega
            have BB1 : Below A wa wr := BB.trans (hbj.mono (by omega))
            have sA1 : A ≤ wr.heap.size := by have := Below.size hbj; omega
            have q0 : Hid (RowAt 2 encNode wr (.slice la k lc) X) := HL.out.keep hbj
            have q1 : Hid (RowAt 2 encNode wr (.slice sa k sc) X) := HS.out.keep hbj
            have q2 : Hid (Ov wd wr) := HD.out.keep hbj
            have q3 : Hid (GrAt wr (.slice xa3 p3 xc3) (.slice xb3 r3 xd3) X3N X3E) := HR3.out.keep hbj
            have q4 : Hid (RowAt 2 encNode wr (.slice (some ⟨b3, off3, none⟩) q qc) Z) := HZR.out.keep hbj
            have q5 : Hid (Ov wj wr) := HD2.out.keep hbj
            clear BB sA cc0 cc1 cc2 cc3 cc4 cc5 cc6 cc7 zz0 zz1 zz2 zz3 HL HS HD HR3 HZR HD2
            have cc0 := d0
            have cc1 := d1
            have cc2 := d2
            have cc3 := d3
            have cc4 := d4
            have cc5 := d5
            have cc6 := d6
            have cc7 := d7
            have zz0 := y0
            have zz1 := y1
            have zz2 := y2
            have zz3 := y3
            have HL := q0
            have HS := q1
            have HD := q2
            have HR3 := q3
            have HZR := q4
            have HD2 := q5
            have BB := BB1
            have sA := sA1
            clear BB1 sA1 d0 d1 d2 d3 d4 d5 d6 d7 y0 y1 y2 y3 q0 q1 q2 q3 q4 q5
            clear hbj
            by_cases hlj : j < k
            · obtain ⟨⟨z0', z1'⟩, hx⟩ : ∃ x, X[j]? = some x := ⟨_, List.getElem?_eq_getElem (by rw [← HP.out]; exact hlj)⟩
              rcases HL.out with ⟨hz0, _⟩ | ⟨_, bj, oj, cap', hv, zbj, hc⟩
              · exfalso; rw [hz0] at hx; simp at hx
              simp only [Value.slice.injEq] at hv
              obtain ⟨rfl, -, hcc⟩ := hv
              have e0 : wr.cell? ⟨bj, oj + j * 2, none⟩ = some (.int .i64 z0') := hc j _ hx 0 _ rfl
              have e1 : wr.cell? ⟨bj, oj + j * 2 + 1, none⟩ = some (.int .i64 z1') := hc j _ hx 1 _ rfl
              have jj0 : (0 : Int) ≤ (j : Int) := by omega
              have jj1 : (j : Int) < (k : Int) := by omega
              have hs := hasK_step (x := (x0, x1)) hx
              obtain ⟨h, hh⟩ : ∃ h, h = hasK X (x0, x1) j := ⟨_, rfl⟩
              have HST : Hid (hasK X (x0, x1) (j + 1) = (h || eqB (z0', z1') (x0, x1))) := by rw [hh]; exact hs
              rw [← hh]
              clear hs hh hx hc hcc
              cases h
              · by_cases e : z0' = x0
                · by_cases e2 : z1' = x1
                  · subst e
                    subst e2
                    have HE : Hid (eqB (z0', z1') (z0', z1') = true) := eqB_true.2 rfl
                    go_wp2_with fail
                    refine wp_region_after (by kernel_rfl) (by kernel_rfl) ?_
                    intro hneq hac
                    repeat (go_big_quiet_step (fail))
                    refine wpQuiet_nil ?_
                    rintro _ ⟨p', rfl⟩
                    have HB2 : Hid (Below wl.heap.size wl p'.w) := HBJ.out.trans (p'.bel.mono sj)
                    clear hac hneq
                    generalize p'.w = wq at *
                    go_wp2_with fail
                    go_roundw
                    case rel =>
                      refine ⟨j + 1, by omega, by go_num, ?_, HB2.out⟩
                      rw [HST.out, HE.out]
                      rfl
                    case measure => simp [intOf]; omega
                  · subst e
                    have d0 : (z1' == x1) = false := beq_eq_false_iff_ne.2 e2
                    have d1 : decide (z1' = x1) = false := by simpa using e2
                    have HE : Hid (eqB (z0', z1') (z0', x1) = false) := by show _ = _; rw [eqB_false]; simp [e2]
                    clear e2
                    go_wp2_with fail
                    refine wp_region_after (by kernel_rfl) (by kernel_rfl) ?_
                    intro hneq hac
                    repeat (go_big_quiet_step (fail))
                    refine wpQuiet_nil ?_
                    rintro _ ⟨p', rfl⟩
                    have HB2 : Hid (Below wl.heap.size wl p'.w) := HBJ.out.trans (p'.bel.mono sj)
                    clear hac hneq
                    generalize p'.w = wq at *
                    go_wp2_with fail
                    go_roundw
                    case rel =>
                      refine ⟨j + 1, by omega, by go_num, ?_, HB2.out⟩
                      rw [HST.out, HE.out]
                      rfl
                    case measure => simp [intOf]; omega
                · have d0 : (z0' == x0) = false := beq_eq_false_iff_ne.2 e
                  have d1 : decide (z0' = x0) = false := by simpa using e
                  have HE : Hid (eqB (z0', z1') (x0, x1) = false) := by show _ = _; rw [eqB_false]; simp [e]
                  clear e
                  go_wp2_with fail
                  refine wp_region_after (by kernel_rfl) (by kernel_rfl) ?_
                  intro hneq hac
                  repeat (go_big_quiet_step (fail))
                  refine wpQuiet_nil ?_
                  rintro _ ⟨p', rfl⟩
                  have HB2 : Hid (Below wl.heap.size wl p'.w) := HBJ.out.trans (p'.bel.mono sj)
                  clear hac hneq
                  generalize p'.w = wq at *
                  go_wp2_with fail
                  go_roundw
                  case rel =>
                    refine ⟨j + 1, by omega, by go_num, ?_, HB2.out⟩
                    rw [HST.out, HE.out]
                    rfl
                  case measure => simp [intOf]; omega
              · go_wp2_with fail
                refine wp_region_after (by kernel_rfl) (by kernel_rfl) ?_
                intro hneq hac
                repeat (go_big_quiet_step (fail))
                refine wpQuiet_nil ?_
                rintro _ ⟨p', rfl⟩
                have HB2 : Hid (Below wl.heap.size wl p'.w) := HBJ.out.trans (p'.bel.mono sj)
                clear hac hneq
                generalize p'.w = wq at *
                go_wp2_with fail
                go_roundw
                case rel =>
                  refine ⟨j + 1, by omega, by go_num, ?_, HB2.out⟩
                  rw [HST.out]
                  rfl
                case measure => simp [intOf]; omega
            · have hjj : j = k := by omega
              rw [hjj]
              have hall : hasK X (x0, x1) k = true := by rw [HP.out, hasK_all]; exact decide_eq_true HM.out
              rw [hall]
              clear hall
              go_wp2_with fail
              go_roundw
              case rel => exact ⟨k2 + 1, by omega, by go_num, HD2.out.b⟩
              case measure => simp [intOf]; omega
        · have hkq : k2 = q := by omega
          have hzl' : (q : Int) ≤ (k : Int) := by omega
          clear hlz
          subst hkq
          go_wp2_with fail
          go_ret
          exact ⟨rfl, (HV.out _ BB).2.2⟩

theorem door_met (os : Os) (args : Array Value) : laidMetH Tryd.prog Rows.fnGraphNearRow.laid ((World.doorLaid Tryd.prog 85 os).forCall (fun _ _ => 0) ⟨#[], args, []⟩).memory :=
  laidMetH_of_parts3 (fuel := 8) (laidMet_of_run' 8 (by kernel_rfl) (by kernel_rfl)) (by kernel_rfl) (by kernel_rfl)

set_option maxRecDepth 100000 in
set_option maxHeartbeats 1000000 in
theorem lifted (os : Os) (started : os.Started) (H : Type) (enc : TypeId × Value → H) :
    ReturnsInHanded {} Tryd.checked os 4 .any (fun w args => (Rows.fnGraphNearSpec.pre enc Tryd.prog Tryd.f4 [] false w args ∧ laidMetH Tryd.prog Rows.fnGraphNearRow.laid w) ∧ sizedMet enc Tryd.prog Tryd.f4 (OpenSpec.ofChange Rows.fnGraphNearSpec) false w args)
      (Rows.fnGraphNearSpec.post enc Tryd.prog Tryd.f4 false true false false) := by
  refine returnsInHanded_of_change_and (C := Tryd.checked) (X := fun w _ => laidMetH Tryd.prog Rows.fnGraphNearRow.laid w) (fun _ _ _ hh h => h.of_heap hh) own started (by kernel_rfl) Tryd.func4
    (ChangeSpec.witness_shaped (enc := enc) (C := Tryd.checked) (os := os) (X := fun w _ => laidMetH Tryd.prog Rows.fnGraphNearRow.laid w) false (World.doorLaid Tryd.prog 85 os) #[.slice none 0 0, .slice none 0 0] 8 rfl (World.shaped_of_RefB (by kernel_rfl) (by kernel_rfl)) (by kernel_rfl) (by kernel_rfl) (by kernel_rfl) (door_met os _)) ?_
  intro W base args ds gs before hval0 hW _ _ hL _
  have hval : ∀ (j : Nat) t v, Tryd.f4.params[j]? = some t → args[j]? = some v → Value.okWide Tryd.prog W .any base t v := hval0
  have hW' := hW
  obtain ⟨p, q, hA0, hV0, rfl, hfz, hnd⟩ := hW
  have hA : DataW.TrodAll enc Tryd.prog W 0 (fun _ => true) true Tryd.f4.params.toList args.toList ds p := hA0
  have hV : DataW.TrodVars enc Tryd.prog W (fun _ => true) ["loop.example/hagioscope/impl.errForm", "loop.example/hagioscope/impl.errThere", "loop.example/hagioscope/impl.errFull", "loop.example/hagioscope/impl.errNone"] gs q := hV0
  rw [Tryd.params4] at hA hval
  obtain ⟨v0, vs0, d0, ds0, p0, q0, hargs, rfl, rfl, h0, r0⟩ := trodAll_cons hA
  obtain ⟨v1, vs1, d1, ds1, p1, q1, rfl, rfl, rfl, h1, r1⟩ := trodAll_cons r0
  obtain ⟨rfl, rfl, rfl⟩ := trodAll_nil r1
  obtain rfl : args = #[v0, v1] := by cases args; simp_all
  have kr0 := h0
  have lt0 : ∀ x ∈ p0, x.block < W.heap.size := by obtain ⟨m, hm⟩ := kr0; exact DataW.trod_lt m _ _ _ hm
  have kr1 := h1
  have lt1 : ∀ x ∈ p1, x.block < W.heap.size := by obtain ⟨m, hm⟩ := kr1; exact DataW.trod_lt m _ _ _ hm
  obtain ⟨a0, len0, cap0, rfl⟩ := okWide_slice Tryd.underlying22 (hval 0 22 v0 rfl rfl)
  obtain ⟨z0, w0⟩ : ∃ zs, IsRow .u8 W a0 len0 cap0 zs := by
    obtain ⟨fuel, hf⟩ := h0
    rcases open_ints Tryd.underlying22 Tryd.underlying5 (by kernel_rfl) hf with ⟨hcs, _⟩ | ⟨x, l, c, zs, hcs, _, hl, hm, hz, _, hcell, hwz⟩
    · simp [Value.cells] at hcs
      obtain ⟨rfl, rfl, rfl⟩ := hcs
      exact ⟨[], .inl ⟨rfl, rfl, rfl, rfl⟩⟩
    · simp [Value.cells] at hcs
      obtain ⟨rfl, rfl, rfl⟩ := hcs
      exact ⟨zs, .inr ⟨_, rfl, hl, hm, by simpa using hz, hcell, hwz⟩⟩
  obtain ⟨a1, len1, cap1, rfl⟩ := okWide_slice Tryd.underlying22 (hval 1 22 v1 rfl rfl)
  obtain ⟨z1, w1⟩ : ∃ zs, IsRow .u8 W a1 len1 cap1 zs := by
    obtain ⟨fuel, hf⟩ := h1
    rcases open_ints Tryd.underlying22 Tryd.underlying5 (by kernel_rfl) hf with ⟨hcs, _⟩ | ⟨x, l, c, zs, hcs, _, hl, hm, hz, _, hcell, hwz⟩
    · simp [Value.cells] at hcs
      obtain ⟨rfl, rfl, rfl⟩ := hcs
      exact ⟨[], .inl ⟨rfl, rfl, rfl, rfl⟩⟩
    · simp [Value.cells] at hcs
      obtain ⟨rfl, rfl, rfl⟩ := hcs
      exact ⟨zs, .inr ⟨_, rfl, hl, hm, by simpa using hz, hcell, hwz⟩⟩
  have hI := held_of hL
  have hE : Errs W := errs_of hI
  obtain ⟨g1, g2, g3, g4, rfl⟩ : ∃ g1 g2 g3 g4, gs = [g1, g2, g3, g4] := by
    have hlen := vars_len _ _ _ hV
    match gs, hlen with
    | [g1, g2, g3, g4], _ => exact ⟨g1, g2, g3, g4, rfl⟩
  clear hA0 hV0 hval0
  refine (walk a0 len0 cap0 z0 a1 len1 cap1 z1 W w0 w1 hE).mono fun e W' ⟨he, bel⟩ => ?_
  subst he
  exact ⟨_, rfl, _, _, _, [], _, _, hW', trodAll_mk1 (shut_bool Tryd.underlying4 _), (trodAll_cons_mk (Below.trod laidOut (by kernel_rfl) (of_decide_eq_true (by kernel_rfl)) kr0 bel lt0) (trodAll_cons_mk (Below.trod laidOut (by kernel_rfl) (of_decide_eq_true (by kernel_rfl)) kr1 bel lt1) trodAll_mk0)), vars_keep Tryd.underlying72 bel _ _ _ hV hI, bel.frame _, fun h => by cases h⟩

theorem said : Rows.FnGraphNearSaid :=
  OpenClaim.holds_of_wide 4 Tryd.f4 rfl rfl rfl rfl rfl rfl rfl ⟨rfl, rfl, rfl, rfl, rfl⟩ rfl rfl rfl rfl rfl (by kernel_rfl) Tryd.func4 (by kernel_rfl)
    (of_decide_eq_true (by kernel_rfl)) (by unfold Func.isWrapper; first | (rw [if_pos (by decide +kernel)]; kernel_rfl) | (rw [if_neg (by decide +kernel)]; exact ⟨rfl, rfl⟩))
    (fun os started H enc _ => lifted os started H enc)

theorem plain (f : FuncId) (fn : Func) (hf : Tryd.pinned.checked.prog.funcNamed "loop.example/hagioscope/laws.FnGraphNear" = some f) (hfn : Tryd.pinned.checked.prog.funcs[f]? = some fn) :
    false = Tryd.pinned.checked.prog.looks [] ∧ ∀ (j : Nat) t, fn.params[j]? = some t → Tryd.pinned.checked.prog.wantsStandIn t = false := by
  obtain rfl : f = 4 := Option.some.inj ((show Tryd.prog.funcNamed "loop.example/hagioscope/laws.FnGraphNear" = some 4 by kernel_rfl).symm.trans hf) |>.symm
  obtain rfl : fn = Tryd.f4 := (Option.some.inj (Tryd.func4.symm.trans hfn)).symm
  refine ⟨by kernel_rfl, fun j t ht => ?_⟩
  rw [Tryd.params4] at ht
  obtain rfl : t = 22 := by simpa using Array.mem_of_getElem? ht
  · exact (show Tryd.prog.wantsStandIn 22 = false by kernel_rfl)

end Go.Proofs.YtcinjkpedigffaaDoor.fnGraphNear
namespace Go.Proofs.YtcinjkpedigffaaDoor
theorem fnGraphNear_card : Rows.FnGraphNearCardSaid :=
  Claim7.holds_tied_plain_at .later [] _ _ _ _ fnGraphNear.said (fun _ h => by cases h) (by kernel_rfl) (fun _ h => by cases h) fnGraphNear_row_tie rfl ⟨rfl, rfl⟩ (by kernel_rfl) rfl fnGraphNear.plain (by kernel_rfl)
#print axioms fnGraphNear_card
end Go.Proofs.YtcinjkpedigffaaDoor
