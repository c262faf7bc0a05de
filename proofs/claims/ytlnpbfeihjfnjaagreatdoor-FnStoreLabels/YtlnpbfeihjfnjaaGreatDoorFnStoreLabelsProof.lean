/-
  FnStoreLabels of the program answers true at every code: a store has a part for each label that is in use, and for no other.
-/
import Derived.Test.YtlnpbfeihjfnjaaGreatDoorCards
import Derived.Test.YtlnpbfeihjfnjaaGreatDoorTie
import Derived.Test.YtlnpbfeihjfnjaaGreatDoorSlb
import Derived.Test.YtlnpbfeihjfnjaaGreatDoorErs
import Derived.WalkKit
import Derived.ProofKit
import Derived.OpenShut
import Derived.ShutString
import Derived.ChangeOld
import Derived.Below
import Derived.Carry
import Derived.Handy
import Derived.Deep.RegionHeld3
import Derived.LaidMore
import Derived.Deep.DeepCutAuto
namespace Go.Proofs.YtlnpbfeihjfnjaaGreatDoor.fnStoreLabels
open Go.Proofs.YtlnpbfeihjfnjaaGreatDoor.Lab
open Go.ChangeShapes Go.WideShapes Go.ChangeAt Go.RowKit
open Go.ChangeMaps (open_string shut_string)
set_option linter.unusedVariables false

theorem own : ownKnob Tryz.prog.godebug = none := by kernel_rfl
/-- A row of numbers that came in: nil, or so many cells. -/
def IsRow (k : IntKind) (w : World) (a : Option Addr) (len cap : Nat) (zs : List Int) : Prop :=
  (a = none ∧ len = 0 ∧ cap = 0 ∧ zs = []) ∨ ∃ x, a = some x ∧ len ≤ cap ∧ cap ≤ maxLen ∧ zs.length = cap ∧ (∀ i, i < zs.length → w.cell? (x.add i) = some (.int k (zs.getD i 0))) ∧ ∀ n ∈ zs, (Lit.int k n).wf = true

set_option maxRecDepth 16000 in
set_option maxHeartbeats 8000000 in
theorem walk (a0 : Option Addr) (len0 cap0 : Nat) (z0 : List Int) (w : World) (w0 : IsRow .u8 w a0 len0 cap0 z0) (hE : Errs w) :
    Calls Tryz.prog 8 #[.slice a0 len0 cap0] w fun e w' => e = .returned (.bool true) ∧ Below w.heap.size w w' := by
  have HF : Hid (Errs w) := hE
  clear hE
  by_cases hlen0 : len0 > 1048576
  · go_enter Tryz.func8, Tryz.ntmps8
    go_wp2
    go_ret
    exact ⟨rfl, Below.refl _ _⟩
  have k0 : CodeAt w a0 len0 cap0 z0 := code_of w0
  clear w0
  go_enter Tryz.func8, Tryz.ntmps8
  go_wp2_with fail
  refine (drawStoreOf _ _ _ _ _ k0).mono ?_
  rintro e wa ⟨v1, v2, ns, es, rfl, hg, ba⟩
  obtain ⟨ga, gc, gb, gd, rfl, rfl⟩ := hg.form
  obtain ⟨n, hn⟩ : ∃ n, n = ns.length := ⟨_, rfl⟩
  obtain ⟨m, hm⟩ : ∃ m, m = es.length := ⟨_, rfl⟩
  have HN : Hid (n = ns.length ∧ m = es.length) := ⟨hn, hm⟩
  have ln : n ≤ 200 := by rw [hn]; exact hg.2.2.1
  have lm : m ≤ 200 := by rw [hm]; exact hg.2.2.2
  rw [← hn, ← hm] at hg ⊢
  obtain ⟨A, hA⟩ : ∃ t, t = wa.heap.size := ⟨_, rfl⟩
  have HA : Hid (A = wa.heap.size) := hA
  have BB : Below A wa wa := Below.refl _ _
  have sA : A ≤ wa.heap.size := by omega
  have HV : Hid (∀ W, Below A wa W → GrAt W (.slice ga n gc) (.slice gb m gd) ns es ∧ Errs W ∧ Below w.heap.size w W) := fun W h => by
    rw [HA.out] at h
    exact ⟨hg.keep h, (HF.out.keep ba).keep h, ba.trans (h.mono ba.size)⟩
  clear hg ba hn hm HF hA k0
  go_wp2_with fail
  obtain ⟨P0, hP0⟩ : ∃ t, t = wa.heap.size := ⟨_, rfl⟩
  generalize hW : wa.alloc (.cells #[.slice ga n gc, .slice gb m gd] 26) = wb
  have nb : Below wa.heap.size wa wb := by rw [← hW]; exact (Below.refl _ _).alloc (Nat.le_refl _) _
  have k3 : wb.heap.size = P0 + 1 := by rw [← hW, hP0]; simp
  have kk0 : wb.cell? ⟨P0, 0, none⟩ = some (.slice ga n gc) := by rw [← hW, hP0]; simp [go_sem]
  have kk1 : wb.cell? ⟨P0, 1, none⟩ = some (.slice gb m gd) := by rw [← hW, hP0]; simp [go_sem]
  have oP0A : A ≤ P0 := by rw [hP0]; exact sA
  have BB1 : Below A wa wb := BB.trans (nb.mono (by omega))
  have sA1 : A ≤ wb.heap.size := by have := Below.size nb; omega
  clear BB sA   
  have BB := BB1
  have sA := sA1
  clear BB1 sA1   
  have cc0 := kk0
  have cc1 := kk1
  have zz0 : P0 < wb.heap.size := by omega
  rw [← hP0]
  have k3P0 := k3
  clear k3 hW nb hP0 kk0 kk1
  clear k3P0
  obtain ⟨bg, hbg⟩ : ∃ b, gokB ns es = b := ⟨_, rfl⟩
  obtain ⟨ST, hST⟩ : ∃ t, t = storeL ns es := ⟨_, rfl⟩
  have HST : Hid (ST = storeL ns es ∧ gokB ns es = bg) := ⟨hST, hbg⟩
  have hp8 : ST.length ≤ 8 := by rw [hST]; exact storeK_le ns es 8
  have HIO : Hid (∀ W, Below A wa W → Calls Tryz.prog 10 #[.agg #[.slice ga n gc, .slice gb m gd]] W fun e w' => ∃ u, e = .returned u ∧ RowAt 2 encSeg w' u ST ∧ Below W.heap.size W w') := fun W h =>
    (impl_StoreOf _ _ ns es W (HV.out _ h).1.1 (HV.out _ h).1.2.1 (by have := HN.out.1; omega) (by have := HN.out.2; omega) (HV.out _ h).2.1).mono (fun e w' hh => by obtain ⟨u, h1, h2, h3⟩ := hh; rw [← HST.out.1] at h2; exact ⟨u, h1, row_of_own encSeg_len (by decide) h2, h3⟩)
  have HSO : Hid (∀ W, Below A wa W → Calls Tryz.prog 13 #[.agg #[.slice ga n gc, .slice gb m gd]] W fun e w' => ∃ u, e = .returned u ∧ RowAt 2 encSeg w' u ST ∧ Below W.heap.size W w') := fun W h =>
    (spec_StoreOf _ _ ns es W (HV.out _ h).1.1 (HV.out _ h).1.2.1 (by have := HN.out.1; omega) (by have := HN.out.2; omega)).mono (fun e w' hh => by obtain ⟨u, h1, h2, h3⟩ := hh; rw [← HST.out.1] at h2; exact ⟨u, h1, row_of_own encSeg_len (by decide) h2, h3⟩)
  have HSS : Hid (∀ W u1 u2, RowAt 2 encSeg W u1 ST → RowAt 2 encSeg W u2 ST → Calls Tryz.prog 12 #[u1, u2] W fun e w' => e = .returned (.bool true) ∧ Below W.heap.size W w') := fun W u1 u2 h1 h2 => by
    have C := implStoreSame u1 u2 ST ST W h1 h2 (by omega) (by omega)
    rw [eqB_true.2 rfl] at C
    exact C
  have HGO : Hid (∀ W, Below A wa W → Calls Tryz.prog 14 #[.agg #[.slice ga n gc, .slice gb m gd]] W fun e w' => e = .returned (.bool bg) ∧ Below W.heap.size W w') := fun W h => by
    have C := spec_GraphOk _ _ ns es W (HV.out _ h).1.1 (HV.out _ h).1.2.1 (by have := HN.out.1; omega) (by have := HN.out.2; omega)
    rw [HST.out.2] at C
    exact C
  have HSG : Hid (∀ (a : Int) W, Below A wa W → Calls Tryz.prog 20 #[.agg #[.slice ga n gc, .slice gb m gd], .int .i64 a] W fun e w' => e = .returned (.string ⟨(segB a ns es).toArray⟩) ∧ Below W.heap.size W w') := fun a W h =>
    impl_SegOf _ _ a ns es W (HV.out _ h).1.1 (HV.out _ h).1.2.1 (by have := HN.out.1; omega) (by have := HN.out.2; omega) (HV.out _ h).2.1
  clear hST hbg
  obtain ⟨p, hp⟩ : ∃ t, t = ST.length := ⟨_, rfl⟩
  have HP : Hid (ST.length = p) := hp.symm
  rw [← hp] at hp8
  clear hp
  refine (HIO.out _ BB).mono ?_
  rintro e wc ⟨u, rfl, og, bz⟩
  have d0 : wc.cell? ⟨P0, 0, none⟩ = some (.slice ga n gc) := (Below.celz bz _ _ _ (by omega)).trans cc0
  have d1 : wc.cell? ⟨P0, 1, none⟩ = some (.slice gb m gd) := (Below.celz bz _ _ _ (by omega)).trans cc1
  have y0 : P0 < wc.heap.size := by have := Below.size bz; omega
  have BB1 : Below A wa wc := BB.trans (bz.mono (by omega))
  have sA1 : A ≤ wc.heap.size := by have := Below.size bz; omega
  clear BB sA cc0 cc1 zz0 
  have cc0 := d0
  have cc1 := d1
  have zz0 := y0
  have BB := BB1
  have sA := sA1
  clear BB1 sA1 d0 d1 y0 
  clear bz
  obtain ⟨sa, sc, rfl⟩ := og.len
  rw [HP.out] at og ⊢
  have HS : Hid (RowAt 2 encSeg wc (.slice sa p sc) ST) := og
  clear og
  go_wp2_with fail
  cases bg
  · refine (HSO.out _ BB).mono ?_
    rintro e wd ⟨u9, rfl, ot, bz⟩
    have d0 : wd.cell? ⟨P0, 0, none⟩ = some (.slice ga n gc) := (Below.celz bz _ _ _ (by omega)).trans cc0
    have d1 : wd.cell? ⟨P0, 1, none⟩ = some (.slice gb m gd) := (Below.celz bz _ _ _ (by omega)).trans cc1
    have y0 : P0 < wd.heap.size := by have := Below.size bz; omega
    have BB1 : Below A wa wd := BB.trans (bz.mono (by omega))
    have sA1 : A ≤ wd.heap.size := by have := Below.size bz; omega
    have q0 : Hid (RowAt 2 encSeg wd (.slice sa p sc) ST) := HS.out.keep bz
    clear BB sA cc0 cc1 zz0 HS
    have cc0 := d0
    have cc1 := d1
    have zz0 := y0
    have HS := q0
    have BB := BB1
    have sA := sA1
    clear BB1 sA1 d0 d1 y0 q0
    clear bz
    have HT : Hid (RowAt 2 encSeg wd u9 ST) := ot
    clear ot
    go_wp2_with fail
    have CP := HSS.out _ _ _ HS.out HT.out
    refine (CP).mono ?_
    rintro e wv ⟨rfl, bz⟩
    have d0 : wv.cell? ⟨P0, 0, none⟩ = some (.slice ga n gc) := (Below.celz bz _ _ _ (by omega)).trans cc0
    have d1 : wv.cell? ⟨P0, 1, none⟩ = some (.slice gb m gd) := (Below.celz bz _ _ _ (by omega)).trans cc1
    have y0 : P0 < wv.heap.size := by have := Below.size bz; omega
    have BB1 : Below A wa wv := BB.trans (bz.mono (by omega))
    have sA1 : A ≤ wv.heap.size := by have := Below.size bz; omega
    have q0 : Hid (RowAt 2 encSeg wv (.slice sa p sc) ST) := HS.out.keep bz
    have q1 : Hid (RowAt 2 encSeg wv u9 ST) := HT.out.keep bz
    clear BB sA cc0 cc1 zz0 HS HT
    have cc0 := d0
    have cc1 := d1
    have zz0 := y0
    have HS := q0
    have HT := q1
    have BB := BB1
    have sA := sA1
    clear BB1 sA1 d0 d1 y0 q0 q1
    clear bz
    clear CP
    clear HT
    go_wp2_with fail
    refine (HGO.out _ BB).mono ?_
    rintro e we ⟨rfl, bz⟩
    have d0 : we.cell? ⟨P0, 0, none⟩ = some (.slice ga n gc) := (Below.celz bz _ _ _ (by omega)).trans cc0
    have d1 : we.cell? ⟨P0, 1, none⟩ = some (.slice gb m gd) := (Below.celz bz _ _ _ (by omega)).trans cc1
    have y0 : P0 < we.heap.size := by have := Below.size bz; omega
    have BB1 : Below A wa we := BB.trans (bz.mono (by omega))
    have sA1 : A ≤ we.heap.size := by have := Below.size bz; omega
    have q0 : Hid (RowAt 2 encSeg we (.slice sa p sc) ST) := HS.out.keep bz
    clear BB sA cc0 cc1 zz0 HS
    have cc0 := d0
    have cc1 := d1
    have zz0 := y0
    have HS := q0
    have BB := BB1
    have sA := sA1
    clear BB1 sA1 d0 d1 y0 q0
    clear bz
    go_wp2_with fail
    refine (HSO.out _ BB).mono ?_
    rintro e wf ⟨u8, rfl, oy, bz⟩
    have d0 : wf.cell? ⟨P0, 0, none⟩ = some (.slice ga n gc) := (Below.celz bz _ _ _ (by omega)).trans cc0
    have d1 : wf.cell? ⟨P0, 1, none⟩ = some (.slice gb m gd) := (Below.celz bz _ _ _ (by omega)).trans cc1
    have y0 : P0 < wf.heap.size := by have := Below.size bz; omega
    have BB1 : Below A wa wf := BB.trans (bz.mono (by omega))
    have sA1 : A ≤ wf.heap.size := by have := Below.size bz; omega
    have q0 : Hid (RowAt 2 encSeg wf (.slice sa p sc) ST) := HS.out.keep bz
    clear BB sA cc0 cc1 zz0 HS
    have cc0 := d0
    have cc1 := d1
    have zz0 := y0
    have HS := q0
    have BB := BB1
    have sA := sA1
    clear BB1 sA1 d0 d1 y0 q0
    clear bz
    have HT : Hid (RowAt 2 encSeg wf u8 ST) := oy
    clear oy
    go_wp2_with fail
    have CP := HSS.out _ _ _ HS.out HT.out
    refine (CP).mono ?_
    rintro e wg ⟨rfl, bz⟩
    have d0 : wg.cell? ⟨P0, 0, none⟩ = some (.slice ga n gc) := (Below.celz bz _ _ _ (by omega)).trans cc0
    have d1 : wg.cell? ⟨P0, 1, none⟩ = some (.slice gb m gd) := (Below.celz bz _ _ _ (by omega)).trans cc1
    have y0 : P0 < wg.heap.size := by have := Below.size bz; omega
    have BB1 : Below A wa wg := BB.trans (bz.mono (by omega))
    have sA1 : A ≤ wg.heap.size := by have := Below.size bz; omega
    have q0 : Hid (RowAt 2 encSeg wg (.slice sa p sc) ST) := HS.out.keep bz
    have q1 : Hid (RowAt 2 encSeg wg u8 ST) := HT.out.keep bz
    clear BB sA cc0 cc1 zz0 HS HT
    have cc0 := d0
    have cc1 := d1
    have zz0 := y0
    have HS := q0
    have HT := q1
    have BB := BB1
    have sA := sA1
    clear BB1 sA1 d0 d1 y0 q0 q1
    clear bz
    clear CP
    go_wp2_with fail
    go_ret
    exact ⟨rfl, (HV.out _ BB).2.2⟩
  · refine (HSO.out _ BB).mono ?_
    rintro e wd ⟨u9, rfl, ot, bz⟩
    have d0 : wd.cell? ⟨P0, 0, none⟩ = some (.slice ga n gc) := (Below.celz bz _ _ _ (by omega)).trans cc0
    have d1 : wd.cell? ⟨P0, 1, none⟩ = some (.slice gb m gd) := (Below.celz bz _ _ _ (by omega)).trans cc1
    have y0 : P0 < wd.heap.size := by have := Below.size bz; omega
    have BB1 : Below A wa wd := BB.trans (bz.mono (by omega))
    have sA1 : A ≤ wd.heap.size := by have := Below.size bz; omega
    have q0 : Hid (RowAt 2 encSeg wd (.slice sa p sc) ST) := HS.out.keep bz
    clear BB sA cc0 cc1 zz0 HS
    have cc0 := d0
    have cc1 := d1
    have zz0 := y0
    have HS := q0
    have BB := BB1
    have sA := sA1
    clear BB1 sA1 d0 d1 y0 q0
    clear bz
    have HT : Hid (RowAt 2 encSeg wd u9 ST) := ot
    clear ot
    go_wp2_with fail
    have CP := HSS.out _ _ _ HS.out HT.out
    refine (CP).mono ?_
    rintro e wv ⟨rfl, bz⟩
    have d0 : wv.cell? ⟨P0, 0, none⟩ = some (.slice ga n gc) := (Below.celz bz _ _ _ (by omega)).trans cc0
    have d1 : wv.cell? ⟨P0, 1, none⟩ = some (.slice gb m gd) := (Below.celz bz _ _ _ (by omega)).trans cc1
    have y0 : P0 < wv.heap.size := by have := Below.size bz; omega
    have BB1 : Below A wa wv := BB.trans (bz.mono (by omega))
    have sA1 : A ≤ wv.heap.size := by have := Below.size bz; omega
    have q0 : Hid (RowAt 2 encSeg wv (.slice sa p sc) ST) := HS.out.keep bz
    have q1 : Hid (RowAt 2 encSeg wv u9 ST) := HT.out.keep bz
    clear BB sA cc0 cc1 zz0 HS HT
    have cc0 := d0
    have cc1 := d1
    have zz0 := y0
    have HS := q0
    have HT := q1
    have BB := BB1
    have sA := sA1
    clear BB1 sA1 d0 d1 y0 q0 q1
    clear bz
    clear CP
    clear HT
    go_wp2_with fail
    refine (HGO.out _ BB).mono ?_
    rintro e we ⟨rfl, bz⟩
    have d0 : we.cell? ⟨P0, 0, none⟩ = some (.slice ga n gc) := (Below.celz bz _ _ _ (by omega)).trans cc0
    have d1 : we.cell? ⟨P0, 1, none⟩ = some (.slice gb m gd) := (Below.celz bz _ _ _ (by omega)).trans cc1
    have y0 : P0 < we.heap.size := by have := Below.size bz; omega
    have BB1 : Below A wa we := BB.trans (bz.mono (by omega))
    have sA1 : A ≤ we.heap.size := by have := Below.size bz; omega
    have q0 : Hid (RowAt 2 encSeg we (.slice sa p sc) ST) := HS.out.keep bz
    clear BB sA cc0 cc1 zz0 HS
    have cc0 := d0
    have cc1 := d1
    have zz0 := y0
    have HS := q0
    have BB := BB1
    have sA := sA1
    clear BB1 sA1 d0 d1 y0 q0
    clear bz
    go_wp2_with fail
    go_loopw [5, 6] (fun kv i wr => ∃ a : Nat, a ≤ 8 ∧ kv = .int .i64 (((storeK ns es a).length : Nat) : Int) ∧ i = .int .i64 a ∧ (wr.cell? ⟨P0, 0, none⟩ = some (.slice ga n gc)) ∧ (wr.cell? ⟨P0, 1, none⟩ = some (.slice gb m gd)) ∧ P0 < wr.heap.size ∧ Below A wa wr ∧ A ≤ wr.heap.size ∧ Hid (RowAt 2 encSeg wr (.slice sa p sc) ST)) (fun _ i _ => 8 - (intOf i).toNat)
    case atStart => exact ⟨0, by omega, by simp [storeK], rfl, cc0, cc1, zz0, BB, sA, HS⟩
    case round =>
      clear cc0 cc1 zz0 BB sA HS
      obtain ⟨a, ha, rfl, rfl, cc0, cc1, zz0, BB, sA, HS⟩ := hrel
      obtain ⟨q, hq⟩ : ∃ t, t = (storeK ns es a).length := ⟨_, rfl⟩
      have HQ : Hid ((storeK ns es a).length = q) := hq.symm
      have hqa : q ≤ a := by rw [hq]; exact storeK_le ns es a
      rw [← hq]
      clear hq
      by_cases hlt : a < 8
      · have a1 : (a : Int) ≤ 7 := by omega
        have a2 : (a : Int) < 8 := by omega
        have a0 : (0 : Int) ≤ (a : Int) := by omega
        go_wp2_with fail
        go_loopw [7, 8] (fun hs i wi => ∃ j : Nat, j ≤ n ∧ hs = .bool (labN (a : Int) (ns.take j)) ∧ i = .int .i64 j ∧ wr = wi) (fun _ i _ => n - (intOf i).toNat)
        case atStart => exact ⟨0, by omega, rfl, rfl, rfl⟩
        case round =>
          obtain ⟨j, hj, rfl, rfl, rfl⟩ := hrel
          by_cases hjt : j < n
          · have j0 : (0 : Int) ≤ (j : Int) := by omega
            have j1 : (j : Int) < (n : Int) := by omega
            obtain ⟨⟨x0, x1⟩, hx⟩ : ∃ x, ns[j]? = some x := ⟨_, List.getElem?_eq_getElem (by have := HN.out.1; omega)⟩
            have hst := labN_step (a := (a : Int)) hx
            rcases (HV.out _ BB).1.1 with ⟨hz0, _⟩ | ⟨_, b, off, cap', hv, hb, hc⟩
            · exfalso; rw [hz0] at hx; simp at hx
            simp only [Value.slice.injEq] at hv
            obtain ⟨rfl, -, hcc⟩ := hv
            have e0 : wr.cell? ⟨b, off + j * 2, none⟩ = some (.int .i64 x0) := hc j _ hx 0 _ rfl
            clear hx hc hcc
            obtain ⟨hd, hhd⟩ : ∃ t, t = (labN (a : Int) (ns.take j)) := ⟨_, rfl⟩
            have HST1 : Hid ((labN (a : Int) (ns.take (j + 1))) = (hd || x0 == (a : Int))) := by show _ = _; rw [hst, hhd]
            rw [← hhd]
            clear hst hhd
            cases hd
            · by_cases hxa : x0 = (a : Int)
              · have hxb : (x0 == (a : Int)) = true := by simpa using hxa
                have hfin : Hid ((labN (a : Int) (ns.take (j + 1))) = true) := by show _ = _; rw [HST1.out, hxb]; rfl
                go_wp2_with fail
                go_roundw
                case rel => exact ⟨j + 1, by omega, by rw [hfin.out], by go_num, by trivial⟩
                case measure => simp [intOf]; omega
              · have hxb : (x0 == (a : Int)) = false := by simpa using hxa
                have hfin : Hid ((labN (a : Int) (ns.take (j + 1))) = false) := by show _ = _; rw [HST1.out, hxb]; rfl
                go_wp2_with fail
                go_roundw
                case rel => exact ⟨j + 1, by omega, by rw [hfin.out], by go_num, by trivial⟩
                case measure => simp [intOf]; omega
            · have hfin : Hid ((labN (a : Int) (ns.take (j + 1))) = true) := by show _ = _; rw [HST1.out]; rfl
              go_wp2_with fail
              go_roundw
              case rel => exact ⟨j + 1, by omega, by rw [hfin.out], by go_num, by trivial⟩
              case measure => simp [intOf]; omega
          · have hjn : ¬ ((j : Int) < (n : Int)) := by omega
            have hjj : ns.take j = ns := List.take_of_length_le (by have := HN.out.1; omega)
            rw [hjj]
            obtain ⟨c1, hc1⟩ : ∃ t, t = labN (a : Int) ns := ⟨_, rfl⟩
            have HC1 : Hid (c1 = labN (a : Int) ns) := hc1
            rw [← hc1]
            clear hc1 hjj hj hjt
            go_wp2_with fail
            clear hjn
            go_loopw [7, 9] (fun hs i wi => ∃ j : Nat, j ≤ m ∧ hs = .bool (c1 || labE (a : Int) (es.take j)) ∧ i = .int .i64 j ∧ wr = wi) (fun _ i _ => m - (intOf i).toNat)
            case atStart => exact ⟨0, by omega, by simp [labE], rfl, rfl⟩
            case round =>
              obtain ⟨j, hj, rfl, rfl, rfl⟩ := hrel
              by_cases hjt : j < m
              · have j0 : (0 : Int) ≤ (j : Int) := by omega
                have j1 : (j : Int) < (m : Int) := by omega
                obtain ⟨⟨x0, x1, x2, x3, x4⟩, hx⟩ : ∃ x, es[j]? = some x := ⟨_, List.getElem?_eq_getElem (by have := HN.out.2; omega)⟩
                have hst := labE_step (a := (a : Int)) hx
                rcases (HV.out _ BB).1.2.1 with ⟨hz0, _⟩ | ⟨_, b, off, cap', hv, hb, hc⟩
                · exfalso; rw [hz0] at hx; simp at hx
                simp only [Value.slice.injEq] at hv
                obtain ⟨rfl, -, hcc⟩ := hv
                have e0 : wr.cell? ⟨b, off + j * 5, none⟩ = some (.int .i64 x0) := hc j _ hx 0 _ rfl
                clear hx hc hcc
                obtain ⟨hd, hhd⟩ : ∃ t, t = (c1 || labE (a : Int) (es.take j)) := ⟨_, rfl⟩
                have HST1 : Hid ((c1 || labE (a : Int) (es.take (j + 1))) = (hd || x0 == (a : Int))) := by show _ = _; rw [hst, hhd]; simp [Bool.or_assoc]
                rw [← hhd]
                clear hst hhd
                cases hd
                · by_cases hxa : x0 = (a : Int)
                  · have hxb : (x0 == (a : Int)) = true := by simpa using hxa
                    have hfin : Hid ((c1 || labE (a : Int) (es.take (j + 1))) = true) := by show _ = _; rw [HST1.out, hxb]; rfl
                    go_wp2_with fail
                    go_roundw
                    case rel => exact ⟨j + 1, by omega, by rw [hfin.out], by go_num, by trivial⟩
                    case measure => simp [intOf]; omega
                  · have hxb : (x0 == (a : Int)) = false := by simpa using hxa
                    have hfin : Hid ((c1 || labE (a : Int) (es.take (j + 1))) = false) := by show _ = _; rw [HST1.out, hxb]; rfl
                    go_wp2_with fail
                    go_roundw
                    case rel => exact ⟨j + 1, by omega, by rw [hfin.out], by go_num, by trivial⟩
                    case measure => simp [intOf]; omega
                · have hfin : Hid ((c1 || labE (a : Int) (es.take (j + 1))) = true) := by show _ = _; rw [HST1.out]; rfl
                  go_wp2_with fail
                  go_roundw
                  case rel => exact ⟨j + 1, by omega, by rw [hfin.out], by go_num, by trivial⟩
                  case measure => simp [intOf]; omega
              · have hjn : ¬ ((j : Int) < (m : Int)) := by omega
                have hjj : es.take j = es := List.take_of_length_le (by have := HN.out.2; omega)
                rw [hjj]
                have hs0 := seg_has HST.out.2 (by have := HN.out.2; omega) (a : Int)
                obtain ⟨hd, hhd⟩ : ∃ t, t = (c1 || labE (a : Int) es) := ⟨_, rfl⟩
                rw [← HC1.out, ← hhd] at hs0
                rw [← hhd]
                obtain ⟨sg, hsg⟩ : ∃ t, t = segB (a : Int) ns es := ⟨_, rfl⟩
                rw [← hsg] at hs0
                have HSGA : Hid (sg = segB (a : Int) ns es) := hsg
                clear hhd hsg hjj hjt hj
                cases hd
                · have hs1 : sg = [] := by cases sg with | nil => rfl | cons _ _ => simp at hs0
                  subst hs1
                  have HNX : Hid ((storeK ns es (a + 1)).length = q) := by show _ = _; rw [storeK_succ, if_pos HSGA.out.symm]; exact HQ.out
                  clear hs0
                  go_wp2_with fail
                  have CP := HSG.out (a : Int) _ BB
                  rw [← HSGA.out] at CP
                  refine (CP).mono ?_
                  rintro e wg ⟨rfl, bz⟩
                  have d0 : wg.cell? ⟨P0, 0, none⟩ = some (.slice ga n gc) := (Below.celz bz _ _ _ (by omega)).trans cc0
                  have d1 : wg.cell? ⟨P0, 1, none⟩ = some (.slice gb m gd) := (Below.celz bz _ _ _ (by omega)).trans cc1
                  have y0 : P0 < wg.heap.size := by have := Below.size bz; omega
                  have BB1 : Below A wa wg := BB.trans (bz.mono (by omega))
                  have sA1 : A ≤ wg.heap.size := by have := Below.size bz; omega
                  have q0 : Hid (RowAt 2 encSeg wg (.slice sa p sc) ST) := HS.out.keep bz
                  clear BB sA cc0 cc1 zz0 HS
                  have cc0 := d0
                  have cc1 := d1
                  have zz0 := y0
                  have HS := q0
                  have BB := BB1
                  have sA := sA1
                  clear BB1 sA1 d0 d1 y0 q0
                  clear bz
                  clear CP
                  go_wp2_with fail
                  go_roundw
                  case rel => exact ⟨a + 1, by omega, by rw [HNX.out], by go_num, cc0, cc1, zz0, BB, sA, HS⟩
                  case measure => simp [intOf]; omega
                · have hs3 : sg.isEmpty = false := hs0
                  have hs2 : sg ≠ [] := by intro e; rw [e] at hs3; simp at hs3
                  have HNX : Hid ((storeK ns es (a + 1)).length = q + 1) := by show _ = _; rw [storeK_succ, if_neg (fun e => hs2 (HSGA.out.trans e)), List.length_append, HQ.out]; rfl
                  have hx := store_at (ns := ns) (es := es) hlt (fun e => hs2 (HSGA.out.trans e))
                  rw [← HSGA.out, ← HST.out.1, HQ.out] at hx
                  have hqp : q < p := by have := (List.getElem?_eq_some_iff.1 hx).1; rw [HP.out] at this; exact this
                  have q0 : (0 : Int) ≤ (q : Int) := by omega
                  have q1 : (q : Int) < (p : Int) := by omega
                  have q2 : ¬ ((p : Int) ≤ (q : Int)) := by omega
                  have q3 : ((a : Int) != (a : Int)) = false := by simp
                  have q4 : (sg != sg) = false := by simp
                  have q5 : decide ((p : Int) ≤ (q : Int)) = false := by simp; omega
                  have q6 : decide ((q : Int) ≥ (p : Int)) = false := by simp; omega
                  rcases HS.out with ⟨hz0, _⟩ | ⟨_, b, off, cap', hv, hb, hc⟩
                  · exfalso; rw [hz0] at hx; simp at hx
                  simp only [Value.slice.injEq] at hv
                  obtain ⟨rfl, -, hcc⟩ := hv
                  have cc2 : wr.cell? ⟨b, off + q * 2, none⟩ = some (.int .i64 (a : Int)) := hc q _ hx 0 _ rfl
                  have cc3 : wr.cell? ⟨b, off + q * 2 + 1, none⟩ = some (.string ⟨sg.toArray⟩) := hc q _ hx 1 _ rfl
                  have zz1 : b < wr.heap.size := hb
                  clear hs0 hs2 hx hc hcc hb
                  have HSG1 : Hid (∀ W, Below A wa W → Calls Tryz.prog 20 #[.agg #[.slice ga n gc, .slice gb m gd], .int .i64 (a : Int)] W fun e w' => e = .returned (.string ⟨sg.toArray⟩) ∧ Below W.heap.size W w') := fun W h => by
                    have C := HSG.out (a : Int) W h
                    rw [← HSGA.out] at C
                    exact C
                  go_wp2_with fail
                  have q7 : ¬ ((p : Int) ≤ (q : Int)) := by omega
                  have q8 : decide ((p : Int) ≤ (q : Int)) = false := decide_eq_false q7
                  have q9 : decide ((a : Int) = (a : Int)) = true := by simp
                  have HSG2 : Hid (∀ W, Below wr.heap.size wr W → Calls Tryz.prog 20 #[.agg #[.slice ga n gc, .slice gb m gd], .int .i64 (a : Int)] W fun e w' => e = .returned (.string ⟨sg.toArray⟩) ∧ Below W.heap.size W w') := fun W h => HSG1.out W (BB.trans (h.mono sA))
                  have hS : Hid (∀ w', Below wr.heap.size wr w' → Below wr.heap.size wr w' ∧ w'.cell? ⟨P0, 0, none⟩ = some (.slice ga n gc) ∧ w'.cell? ⟨P0, 1, none⟩ = some (.slice gb m gd) ∧ w'.cell? ⟨b, off + q * 2, none⟩ = some (.int .i64 (a : Int)) ∧ w'.cell? ⟨b, off + q * 2 + 1, none⟩ = some (.string ⟨sg.toArray⟩)) := fun w' hn => ⟨hn, (Below.celz hn _ _ _ zz0).trans cc0, (Below.celz hn _ _ _ zz0).trans cc1, (Below.celz hn _ _ _ zz1).trans cc2, (Below.celz hn _ _ _ zz1).trans cc3⟩
                  go_region_held3 (fun w' => Below wr.heap.size wr w' ∧ w'.cell? ⟨P0, 0, none⟩ = some (.slice ga n gc) ∧ w'.cell? ⟨P0, 1, none⟩ = some (.slice gb m gd) ∧ w'.cell? ⟨b, off + q * 2, none⟩ = some (.int .i64 (a : Int)) ∧ w'.cell? ⟨b, off + q * 2 + 1, none⟩ = some (.string ⟨sg.toArray⟩))
                    (first | with_reducible exact hS.out _ (Below.refl _ _).drew | (with_reducible exact hS.out _ (keep_below (And.left (by assumption)) tj1)))
                    (first | (go_at_call 20; refine (HSG2.out _ (And.left (by assumption))).mono ?_; rintro e wg ⟨rfl, tj1⟩))
                  have lb : Below wr.heap.size wr wg := And.left (show Below wr.heap.size wr wg ∧ wg.cell? ⟨P0, 0, none⟩ = some (.slice ga n gc) ∧ wg.cell? ⟨P0, 1, none⟩ = some (.slice gb m gd) ∧ wg.cell? ⟨b, off + q * 2, none⟩ = some (.int .i64 (a : Int)) ∧ wg.cell? ⟨b, off + q * 2 + 1, none⟩ = some (.string ⟨sg.toArray⟩) by assumption)
                  clear hS
                  have d0 : wg.cell? ⟨P0, 0, none⟩ = some (.slice ga n gc) := (Below.celz lb _ _ _ (by omega)).trans cc0
                  have d1 : wg.cell? ⟨P0, 1, none⟩ = some (.slice gb m gd) := (Below.celz lb _ _ _ (by omega)).trans cc1
                  have d2 : wg.cell? ⟨b, off + q * 2, none⟩ = some (.int .i64 (a : Int)) := (Below.celz lb _ _ _ (by omega)).trans cc2
                  have d3 : wg.cell? ⟨b, off + q * 2 + 1, none⟩ = some (.string ⟨sg.toArray⟩) := (Below.celz lb _ _ _ (by omega)).trans cc3
                  have y0 : P0 < wg.heap.size := by have := Below.size lb; omega
                  have y1 : b < wg.heap.size := by have := Below.size lb; omega
                  have BB1 : Below A wa wg := BB.trans (lb.mono (by omega))
                  have sA1 : A ≤ wg.heap.size := by have := Below.size lb; omega
                  have q0 : Hid (RowAt 2 encSeg wg (.slice (some ⟨b, off, none⟩) p sc) ST) := HS.out.keep lb
                  clear BB sA cc0 cc1 cc2 cc3 zz0 zz1 HS
                  have cc0 := d0
                  have cc1 := d1
                  have cc2 := d2
                  have cc3 := d3
                  have zz0 := y0
                  have zz1 := y1
                  have HS := q0
                  have BB := BB1
                  have sA := sA1
                  clear BB1 sA1 d0 d1 d2 d3 y0 y1 q0
                  clear lb
                  clear tj1 HSG2
                  go_wp2_with fail
                  refine (HSG1.out _ BB).mono ?_
                  rintro e wh ⟨rfl, bz⟩
                  have d0 : wh.cell? ⟨P0, 0, none⟩ = some (.slice ga n gc) := (Below.celz bz _ _ _ (by omega)).trans cc0
                  have d1 : wh.cell? ⟨P0, 1, none⟩ = some (.slice gb m gd) := (Below.celz bz _ _ _ (by omega)).trans cc1
                  have d2 : wh.cell? ⟨b, off + q * 2, none⟩ = some (.int .i64 (a : Int)) := (Below.celz bz _ _ _ (by omega)).trans cc2
                  have d3 : wh.cell? ⟨b, off + q * 2 + 1, none⟩ = some (.string ⟨sg.toArray⟩) := (Below.celz bz _ _ _ (by omega)).trans cc3
                  have y0 : P0 < wh.heap.size := by have := Below.size bz; omega
                  have y1 : b < wh.heap.size := by have := Below.size bz; omega
                  have BB1 : Below A wa wh := BB.trans (bz.mono (by omega))
                  have sA1 : A ≤ wh.heap.size := by have := Below.size bz; omega
                  have q0 : Hid (RowAt 2 encSeg wh (.slice (some ⟨b, off, none⟩) p sc) ST) := HS.out.keep bz
                  clear BB sA cc0 cc1 cc2 cc3 zz0 zz1 HS
                  have cc0 := d0
                  have cc1 := d1
                  have cc2 := d2
                  have cc3 := d3
                  have zz0 := y0
                  have zz1 := y1
                  have HS := q0
                  have BB := BB1
                  have sA := sA1
                  clear BB1 sA1 d0 d1 d2 d3 y0 y1 q0
                  clear bz
                  go_wp2_with fail
                  go_roundw
                  case rel => exact ⟨a + 1, by omega, by rw [HNX.out]; go_num, by go_num, cc0, cc1, zz0, BB, sA, HS⟩
                  case measure => simp [intOf]; omega
      · have ha8 : a = 8 := by omega
        subst ha8
        have hqp : p = q := by rw [← HP.out, HST.out.1, ← HQ.out]; rfl
        have h87 : ¬ (((8 : Nat) : Int) ≤ 7) := by omega
        have hqq : ((q : Int) == (p : Int)) = true := by simp [hqp]
        have hq2 : (q : Int) = (p : Int) := by omega
        clear hqp
        go_wp2_with fail
        go_ret
        exact ⟨rfl, (HV.out _ BB).2.2⟩

theorem door_met (os : Os) (args : Array Value) : laidMetH Tryz.prog Rows.fnStoreLabelsRow.laid ((World.doorLaid Tryz.prog 85 os).forCall (fun _ _ => 0) ⟨#[], args, []⟩).memory :=
  laidMetH_of_parts3 (fuel := 8) (laidMet_of_run' 8 (by kernel_rfl) (by kernel_rfl)) (by kernel_rfl) (by kernel_rfl)

set_option maxRecDepth 100000 in
set_option maxHeartbeats 1000000 in
theorem lifted (os : Os) (started : os.Started) (H : Type) (enc : TypeId × Value → H) :
    ReturnsInHanded {} Tryz.checked os 8 .any (fun w args => (Rows.fnStoreLabelsSpec.pre enc Tryz.prog Tryz.f8 [] false w args ∧ laidMetH Tryz.prog Rows.fnStoreLabelsRow.laid w) ∧ sizedMet enc Tryz.prog Tryz.f8 (OpenSpec.ofChange Rows.fnStoreLabelsSpec) false w args)
      (Rows.fnStoreLabelsSpec.post enc Tryz.prog Tryz.f8 false true false false) := by
  refine returnsInHanded_of_change_and (C := Tryz.checked) (X := fun w _ => laidMetH Tryz.prog Rows.fnStoreLabelsRow.laid w) (fun _ _ _ hh h => h.of_heap hh) own started (by kernel_rfl) Tryz.func8
    (ChangeSpec.witness_shaped (enc := enc) (C := Tryz.checked) (os := os) (X := fun w _ => laidMetH Tryz.prog Rows.fnStoreLabelsRow.laid w) false (World.doorLaid Tryz.prog 85 os) #[.slice none 0 0] 8 rfl (World.shaped_of_RefB (by kernel_rfl) (by kernel_rfl)) (by kernel_rfl) (by kernel_rfl) (by kernel_rfl) (door_met os _)) ?_
  intro W base args ds gs before hval0 hW _ _ hL _
  have hval : ∀ (j : Nat) t v, Tryz.f8.params[j]? = some t → args[j]? = some v → Value.okWide Tryz.prog W .any base t v := hval0
  have hW' := hW
  obtain ⟨p, q, hA0, hV0, rfl, hfz, hnd⟩ := hW
  have hA : DataW.TrodAll enc Tryz.prog W 0 (fun _ => true) true Tryz.f8.params.toList args.toList ds p := hA0
  have hV : DataW.TrodVars enc Tryz.prog W (fun _ => true) ["loop.example/hagioscope/impl.errForm", "loop.example/hagioscope/impl.errThere", "loop.example/hagioscope/impl.errFull", "loop.example/hagioscope/impl.errNone"] gs q := hV0
  rw [Tryz.params8] at hA hval
  obtain ⟨v0, vs0, d0, ds0, p0, q0, hargs, rfl, rfl, h0, r0⟩ := trodAll_cons hA
  obtain ⟨rfl, rfl, rfl⟩ := trodAll_nil r0
  obtain rfl : args = #[v0] := by cases args; simp_all
  have kr0 := h0
  have lt0 : ∀ x ∈ p0, x.block < W.heap.size := by obtain ⟨m, hm⟩ := kr0; exact DataW.trod_lt m _ _ _ hm
  obtain ⟨a0, len0, cap0, rfl⟩ := okWide_slice Tryz.underlying22 (hval 0 22 v0 rfl rfl)
  obtain ⟨z0, w0⟩ : ∃ zs, IsRow .u8 W a0 len0 cap0 zs := by
    obtain ⟨fuel, hf⟩ := h0
    rcases open_ints Tryz.underlying22 Tryz.underlying5 (by kernel_rfl) hf with ⟨hcs, _⟩ | ⟨x, l, c, zs, hcs, _, hl, hm, hz, _, hcell, hwz⟩
    · simp [Value.cells] at hcs
      obtain ⟨rfl, rfl, rfl⟩ := hcs
      exact ⟨[], .inl ⟨rfl, rfl, rfl, rfl⟩⟩
    · simp [Value.cells] at hcs
      obtain ⟨rfl, rfl, rfl⟩ := hcs
      exact ⟨zs, .inr ⟨_, rfl, hl, hm, by simpa using hz, hcell, hwz⟩⟩
  have hI := held_of hL
  have hE : Errs W := errs_of hI
  obtain ⟨g1, g2, g3, g4, rfl⟩ : ∃ g1 g2 g3 g4, gs = [g1, g2, g3, g4] := by
    have hlen := vars_len _ _ _ hV
    match gs, hlen with
    | [g1, g2, g3, g4], _ => exact ⟨g1, g2, g3, g4, rfl⟩
  clear hA0 hV0 hval0
  refine (walk a0 len0 cap0 z0 W w0 hE).mono fun e W' ⟨he, bel⟩ => ?_
  subst he
  exact ⟨_, rfl, _, _, _, [], _, _, hW', trodAll_mk1 (shut_bool Tryz.underlying4 _), (trodAll_cons_mk (Below.trod laidOut (by kernel_rfl) (of_decide_eq_true (by kernel_rfl)) kr0 bel lt0) trodAll_mk0), vars_keep Tryz.underlying62 bel _ _ _ hV hI, bel.frame _, fun h => by cases h⟩

theorem said : Rows.FnStoreLabelsSaid :=
  OpenClaim.holds_of_wide 8 Tryz.f8 rfl rfl rfl rfl rfl rfl rfl ⟨rfl, rfl, rfl, rfl, rfl⟩ rfl rfl rfl rfl rfl (by kernel_rfl) Tryz.func8 (by kernel_rfl)
    (of_decide_eq_true (by kernel_rfl)) (by unfold Func.isWrapper; first | (rw [if_pos (by decide +kernel)]; kernel_rfl) | (rw [if_neg (by decide +kernel)]; exact ⟨rfl, rfl⟩))
    (fun os started H enc _ => lifted os started H enc)

theorem plain (f : FuncId) (fn : Func) (hf : Tryz.pinned.checked.prog.funcNamed "loop.example/hagioscope/laws.FnStoreLabels" = some f) (hfn : Tryz.pinned.checked.prog.funcs[f]? = some fn) :
    true = Tryz.pinned.checked.prog.looks [] ∧ ∀ (j : Nat) t, fn.params[j]? = some t → Tryz.pinned.checked.prog.wantsStandIn t = false := by
  obtain rfl : f = 8 := Option.some.inj ((show Tryz.prog.funcNamed "loop.example/hagioscope/laws.FnStoreLabels" = some 8 by kernel_rfl).symm.trans hf) |>.symm
  obtain rfl : fn = Tryz.f8 := (Option.some.inj (Tryz.func8.symm.trans hfn)).symm
  refine ⟨by kernel_rfl, fun j t ht => ?_⟩
  rw [Tryz.params8] at ht
  obtain rfl : t = 22 := by simpa using Array.mem_of_getElem? ht
  · exact (show Tryz.prog.wantsStandIn 22 = false by kernel_rfl)

end Go.Proofs.YtlnpbfeihjfnjaaGreatDoor.fnStoreLabels
namespace Go.Proofs.YtlnpbfeihjfnjaaGreatDoor
theorem fnStoreLabels_card : Rows.FnStoreLabelsCardSaid :=
  Claim7.holds_tied_plain_at .later [] _ _ _ _ fnStoreLabels.said (fun _ h => by cases h) (by kernel_rfl) (fun _ h => by cases h) fnStoreLabels_row_tie rfl ⟨rfl, rfl⟩ (by kernel_rfl) rfl fnStoreLabels.plain (by kernel_rfl)
#print axioms fnStoreLabels_card
end Go.Proofs.YtlnpbfeihjfnjaaGreatDoor
