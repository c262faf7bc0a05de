/-
  At every two pools impl.PoolSame answers as the specification, and writes into none of them.
-/
import Derived.Test.YthkdadgccjilkaaRows
import Derived.Test.YthkdadgccjilkaaNod
import Derived.Test.YthkdadgccjilkaaPag
import Derived.Test.YthkdadgccjilkaaPol
import Derived.Test.YthkdadgccjilkaaOpen
import Derived.Test.YthkdadgccjilkaaRdg
import Derived.Test.YthkdadgccjilkaaOpp
import Derived.WalkKit
import Derived.ProofKit
import Derived.OpenShut
import Derived.ShutString
import Derived.ChangeOld
import Derived.Below
import Derived.Carry
import Derived.Handy
import Derived.Deep.RegionHeld3
namespace Go.Proofs.Ythkdadgccjilkaa.fnExactPoolSame
open Go.Proofs.Ythkdadgccjilkaa.Lab
open Go.ChangeShapes Go.WideShapes Go.ChangeAt Go.RowKit
open Go.ChangeMaps (open_string shut_string)
set_option linter.unusedVariables false

theorem own : ownKnob Try.prog.godebug = none := by kernel_rfl
theorem laidOut : laidOutB Try.prog = true := by kernel_rfl
/-- A row of numbers that came in: nil, or so many cells. -/
def IsRow (k : IntKind) (w : World) (a : Option Addr) (len cap : Nat) (zs : List Int) : Prop :=
  (a = none ∧ len = 0 ∧ cap = 0 ∧ zs = []) ∨ ∃ x, a = some x ∧ len ≤ cap ∧ cap ≤ maxLen ∧ zs.length = cap ∧ (∀ i, i < zs.length → w.cell? (x.add i) = some (.int k (zs.getD i 0))) ∧ ∀ n ∈ zs, (Lit.int k n).wf = true

set_option maxHeartbeats 4000000 in
theorem walk (z0 : Int) (y0 : Value) (xs0 : List (Int × Int)) (z1 : Int) (y1 : Value) (xs1 : List (Int × Int)) (w : World) (w0 : i64In z0 ∧ PagesIn w y0 xs0) (w1 : i64In z1 ∧ PagesIn w y1 xs1) :
    Calls Try.prog 7 #[.agg #[.int .i64 z0, y0], .agg #[.int .i64 z1, y1]] w fun e w' => e = .returned (.bool true) ∧ Below w.heap.size w w' := by
  obtain ⟨-, r1, m1, -⟩ := w0
  obtain ⟨-, r3, m3, -⟩ := w1
  obtain ⟨a2, c2, rfl⟩ := r1.len
  obtain ⟨a4, c4, rfl⟩ := r3.len
  simp only [maxLen, Nat.reducePow, Nat.reduceSub] at m1 m3
  have HR : Hid (RowAt 2 encPage w (.slice a2 xs0.length c2) xs0 ∧ RowAt 2 encPage w (.slice a4 xs1.length c4) xs1) := ⟨r1, r3⟩
  clear r1 r3
  go_enter Try.func7, Try.ntmps7
  go_wp2_with fail
  refine (szPool _ _ _ _ _ _ (by omega) (by omega) m1).mono ?_
  rintro e wa ⟨rfl, ba⟩
  have hca := Below.celz (ba.mono (B' := w.heap.size + 2) (by simp))
  have sa : w.heap.size + 2 ≤ wa.heap.size := by have := ba.size; simp at this; omega
  have Ba : Below w.heap.size w wa := Below.trans (by go_grown) (ba.mono (by simp; omega))
  clear ba
  by_cases hA : (xs0.length : Int) ≤ 1048576
  · rw [if_pos hA]
    go_wp2_with fail
    refine (szPool _ _ _ _ _ _ (by omega) (by omega) m3).mono ?_
    rintro e wb ⟨rfl, bb⟩
    have hcb := Below.celz (bb.mono (B' := w.heap.size + 2) (by omega))
    have sb : w.heap.size + 2 ≤ wb.heap.size := by have := bb.size; omega
    have Bb : Below w.heap.size w wb := Ba.trans (bb.mono (by omega))
    clear bb
    by_cases hB : (xs1.length : Int) ≤ 1048576 - xs0.length
    · rw [if_pos hB]
      have q0 : wb.cell? ⟨w.heap.size, 0, none⟩ = some (.int .i64 z0) := by rw [hcb _ _ _ (by omega), hca _ _ _ (by omega)]; simp [go_sem]
      have q1 : wb.cell? ⟨w.heap.size, 1, none⟩ = some (.slice a2 xs0.length c2) := by rw [hcb _ _ _ (by omega), hca _ _ _ (by omega)]; simp [go_sem]
      have q2 : wb.cell? ⟨w.heap.size + 1, 0, none⟩ = some (.int .i64 z1) := by rw [hcb _ _ _ (by omega), hca _ _ _ (by omega)]; simp [go_sem]
      have q3 : wb.cell? ⟨w.heap.size + 1, 1, none⟩ = some (.slice a4 xs1.length c4) := by rw [hcb _ _ _ (by omega), hca _ _ _ (by omega)]; simp [go_sem]
      have l1 : xs0.length ≤ 1048576 := by omega
      have l3 : xs1.length ≤ 1048576 := by omega
      have zz0 : w.heap.size < wb.heap.size := by omega
      have zz1 : w.heap.size + 1 < wb.heap.size := by omega
      clear hca hcb Ba
      go_wp2_with fail
      go_region_held3 (fun w' => Below wb.heap.size wb w' ∧ w'.cell? ⟨w.heap.size, 0, none⟩ = some (.int .i64 z0) ∧ w'.cell? ⟨w.heap.size, 1, none⟩ = some (.slice a2 xs0.length c2) ∧ w'.cell? ⟨w.heap.size + 1, 0, none⟩ = some (.int .i64 z1) ∧ w'.cell? ⟨w.heap.size + 1, 1, none⟩ = some (.slice a4 xs1.length c4))
        (first | exact ⟨(Below.refl _ _).drew, q0, q1, q2, q3⟩ | (have hn := keep_below (And.left (by assumption)) be3; exact ⟨hn, (Below.celz hn _ _ _ zz0).trans q0, (Below.celz hn _ _ _ zz0).trans q1, (Below.celz hn _ _ _ zz1).trans q2, (Below.celz hn _ _ _ zz1).trans q3⟩) | (have hn := keep_below (And.left (by assumption)) be2; exact ⟨hn, (Below.celz hn _ _ _ zz0).trans q0, (Below.celz hn _ _ _ zz0).trans q1, (Below.celz hn _ _ _ zz1).trans q2, (Below.celz hn _ _ _ zz1).trans q3⟩) | (have hn := keep_below (And.left (by assumption)) be1; exact ⟨hn, (Below.celz hn _ _ _ zz0).trans q0, (Below.celz hn _ _ _ zz0).trans q1, (Below.celz hn _ _ _ zz1).trans q2, (Below.celz hn _ _ _ zz1).trans q3⟩))
        (first | (go_at_call_of 22 (Value.agg #[.int .i64 z0, .slice a2 xs0.length c2]); refine (toPool _ _ xs0 _ (HR.out.1.keep (keep_below Bb (And.left (by assumption)))) l1).mono ?_; rintro e wc ⟨u2, rfl, og1, be1⟩) | (go_at_call_of 22 (Value.agg #[.int .i64 z1, .slice a4 xs1.length c4]); refine (toPool _ _ xs1 _ (HR.out.2.keep (keep_below Bb (And.left (by assumption)))) l3).mono ?_; rintro e wd ⟨u4, rfl, og2, be2⟩) | (go_at_call 21; refine (spec_PoolSame z0 z1 _ _ xs0 xs1 _ (og1.keep be2).row og2.row l1 l3).mono ?_; rintro e we ⟨rfl, be3⟩))
      obtain ⟨Be, t0, t1, t2, t3⟩ : Below wb.heap.size wb we ∧ we.cell? ⟨w.heap.size, 0, none⟩ = some (.int .i64 z0) ∧ we.cell? ⟨w.heap.size, 1, none⟩ = some (.slice a2 xs0.length c2) ∧ we.cell? ⟨w.heap.size + 1, 0, none⟩ = some (.int .i64 z1) ∧ we.cell? ⟨w.heap.size + 1, 1, none⟩ = some (.slice a4 xs1.length c4) := by assumption
      clear og1 og2 be1 be2 be3 q0 q1 q2 q3
      have Bw : Below w.heap.size w we := keep_below Bb Be
      have zz2 : w.heap.size < we.heap.size := by have := Be.size; omega
      have zz3 : w.heap.size + 1 < we.heap.size := by have := Be.size; omega
      clear Be
      go_wp2_with fail
      refine (toPool _ _ xs0 _ (HR.out.1.keep Bw) l1).mono ?_
      rintro e wf ⟨u6, rfl, og1, bf⟩
      obtain ⟨d3, d4, rfl⟩ := og1.form
      have hcf := Below.celz bf
      have sf := bf.size
      have Bf : Below w.heap.size w wf := keep_below Bw bf
      have f0 : wf.cell? ⟨w.heap.size, 0, none⟩ = some (.int .i64 z0) := by rw [hcf _ _ _ zz2]; exact t0
      have f1 : wf.cell? ⟨w.heap.size, 1, none⟩ = some (.slice a2 xs0.length c2) := by rw [hcf _ _ _ zz2]; exact t1
      have f2 : wf.cell? ⟨w.heap.size + 1, 0, none⟩ = some (.int .i64 z1) := by rw [hcf _ _ _ zz3]; exact t2
      have f3 : wf.cell? ⟨w.heap.size + 1, 1, none⟩ = some (.slice a4 xs1.length c4) := by rw [hcf _ _ _ zz3]; exact t3
      have zz4 : w.heap.size < wf.heap.size := by omega
      have zz5 : w.heap.size + 1 < wf.heap.size := by omega
      clear hcf bf t0 t1 t2 t3
      have HO1 : Hid (OwnPool wf we.heap.size (.slice d3 xs0.length d4) xs0) := og1
      have Bf2 : Below w.heap.size w (wf.alloc (.cells #[.int .i64 z0, .slice d3 xs0.length d4] 46)) := Bf.alloc Bf.size _
      clear og1
      go_wp2_with fail
      refine (toPool _ _ xs1 _ (HR.out.2.keep Bf2) l3).mono ?_
      rintro e wg ⟨u8, rfl, og2, bg⟩
      obtain ⟨d7, d8, rfl⟩ := og2.form
      have hcg := Below.celz bg
      have sg : wf.heap.size + 1 ≤ wg.heap.size := by have := bg.size; simp at this; omega
      have Bg : Below w.heap.size w wg := keep_below Bf2 bg
      have HO2 : Hid (OwnPool wg we.heap.size (.slice d3 xs0.length d4) xs0 ∧ ∃ base, OwnPool wg base (.slice d7 xs1.length d8) xs1) := ⟨(HO1.out.keep ((Below.refl _ _).alloc (Nat.le_refl _) _)).keep bg, _, og2⟩
      have g0 : wg.cell? ⟨w.heap.size, 0, none⟩ = some (.int .i64 z0) := by rw [hcg _ _ _ (by simp; omega), World.cell?_alloc_past _ _ _ zz4]; exact f0
      have g1 : wg.cell? ⟨w.heap.size, 1, none⟩ = some (.slice a2 xs0.length c2) := by rw [hcg _ _ _ (by simp; omega), World.cell?_alloc_past _ _ _ zz4]; exact f1
      have g2 : wg.cell? ⟨w.heap.size + 1, 0, none⟩ = some (.int .i64 z1) := by rw [hcg _ _ _ (by simp; omega), World.cell?_alloc_past _ _ _ zz5]; exact f2
      have g3 : wg.cell? ⟨w.heap.size + 1, 1, none⟩ = some (.slice a4 xs1.length c4) := by rw [hcg _ _ _ (by simp; omega), World.cell?_alloc_past _ _ _ zz5]; exact f3
      have g4 : wg.cell? ⟨wf.heap.size, 0, none⟩ = some (.int .i64 z0) := by rw [hcg _ _ _ (by simp)]; simp [go_sem]
      have g5 : wg.cell? ⟨wf.heap.size, 1, none⟩ = some (.slice d3 xs0.length d4) := by rw [hcg _ _ _ (by simp)]; simp [go_sem]
      have y0 : wf.heap.size < wg.heap.size := by omega
      have y1 : w.heap.size < wg.heap.size := by omega
      have y2 : w.heap.size + 1 < wg.heap.size := by omega
      clear hcg bg f0 f1 f2 f3 Bf Bf2 HO1 og2
      go_wp2_with fail
      obtain ⟨O1, bs, O2⟩ := HO2.out
      have bk : Below wg.heap.size wg (wg.alloc (.cells #[.int .i64 z1, .slice d7 xs1.length d8] 46)) := (Below.refl _ _).alloc (Nat.le_refl _) _
      refine (impl_PoolSame z0 z1 _ _ xs0 xs1 _ (O1.keep bk).row (O2.keep bk).row l1 l3).mono ?_
      rintro e wh ⟨rfl, bh⟩
      have hch := Below.celz bh
      have sh : wg.heap.size + 1 ≤ wh.heap.size := by have := bh.size; simp at this; omega
      have Bh : Below w.heap.size w wh := (Bg.alloc Bg.size _).trans (bh.mono (by have := Bg.size; simp; omega))
      have O1h := (O1.keep bk).keep bh
      have O2h := (O2.keep bk).keep bh
      have p0 : wh.cell? ⟨w.heap.size, 0, none⟩ = some (.int .i64 z0) := by rw [hch _ _ _ (by simp; omega), World.cell?_alloc_past _ _ _ y1]; exact g0
      have p1 : wh.cell? ⟨w.heap.size, 1, none⟩ = some (.slice a2 xs0.length c2) := by rw [hch _ _ _ (by simp; omega), World.cell?_alloc_past _ _ _ y1]; exact g1
      have p2 : wh.cell? ⟨w.heap.size + 1, 0, none⟩ = some (.int .i64 z1) := by rw [hch _ _ _ (by simp; omega), World.cell?_alloc_past _ _ _ y2]; exact g2
      have p3 : wh.cell? ⟨w.heap.size + 1, 1, none⟩ = some (.slice a4 xs1.length c4) := by rw [hch _ _ _ (by simp; omega), World.cell?_alloc_past _ _ _ y2]; exact g3
      have p4 : wh.cell? ⟨wf.heap.size, 0, none⟩ = some (.int .i64 z0) := by rw [hch _ _ _ (by simp; omega), World.cell?_alloc_past _ _ _ y0]; exact g4
      have p5 : wh.cell? ⟨wf.heap.size, 1, none⟩ = some (.slice d3 xs0.length d4) := by rw [hch _ _ _ (by simp; omega), World.cell?_alloc_past _ _ _ y0]; exact g5
      have p6 : wh.cell? ⟨wg.heap.size, 0, none⟩ = some (.int .i64 z1) := by rw [hch _ _ _ (by simp)]; simp [go_sem]
      have p7 : wh.cell? ⟨wg.heap.size, 1, none⟩ = some (.slice d7 xs1.length d8) := by rw [hch _ _ _ (by simp)]; simp [go_sem]
      have x0 : w.heap.size < wh.heap.size := by omega
      have x1 : w.heap.size + 1 < wh.heap.size := by omega
      have x2 : wf.heap.size < wh.heap.size := by omega
      have x3 : wg.heap.size < wh.heap.size := by omega
      have HO3 : Hid (OwnPool wh we.heap.size (.slice d3 xs0.length d4) xs0 ∧ OwnPool wh bs (.slice d7 xs1.length d8) xs1) := ⟨O1h, O2h⟩
      clear O1h O2h O1 O2 hch bh bk g0 g1 g2 g3 g4 g5 HO2 Bg
      generalize (decide (z0 = z1) && eqB xs0 xs1) = bb at *
      generalize wf.heap.size = V7 at *
      generalize wg.heap.size = V8 at *
      have hbb : (bb != bb) = false := by simp
      go_wp2_with fail
      go_region_held3 (fun w' => Below wh.heap.size wh w' ∧ w'.cell? ⟨V7, 0, none⟩ = some (.int .i64 z0) ∧ w'.cell? ⟨V7, 1, none⟩ = some (.slice d3 xs0.length d4) ∧ w'.cell? ⟨w.heap.size, 0, none⟩ = some (.int .i64 z0) ∧ w'.cell? ⟨w.heap.size, 1, none⟩ = some (.slice a2 xs0.length c2) ∧ w'.cell? ⟨w.heap.size + 1, 0, none⟩ = some (.int .i64 z1) ∧ w'.cell? ⟨w.heap.size + 1, 1, none⟩ = some (.slice a4 xs1.length c4) ∧ w'.cell? ⟨V8, 0, none⟩ = some (.int .i64 z1) ∧ w'.cell? ⟨V8, 1, none⟩ = some (.slice d7 xs1.length d8))
        (first | exact ⟨(Below.refl _ _).drew, p4, p5, p0, p1, p2, p3, p6, p7⟩ | (have hn := keep_below (And.left (by assumption)) tj2; exact ⟨hn, (Below.celz hn _ _ _ x2).trans p4, (Below.celz hn _ _ _ x2).trans p5, (Below.celz hn _ _ _ x0).trans p0, (Below.celz hn _ _ _ x0).trans p1, (Below.celz hn _ _ _ x1).trans p2, (Below.celz hn _ _ _ x1).trans p3, (Below.celz hn _ _ _ x3).trans p6, (Below.celz hn _ _ _ x3).trans p7⟩) | (have hn := keep_below (And.left (by assumption)) tj1; exact ⟨hn, (Below.celz hn _ _ _ x2).trans p4, (Below.celz hn _ _ _ x2).trans p5, (Below.celz hn _ _ _ x0).trans p0, (Below.celz hn _ _ _ x0).trans p1, (Below.celz hn _ _ _ x1).trans p2, (Below.celz hn _ _ _ x1).trans p3, (Below.celz hn _ _ _ x3).trans p6, (Below.celz hn _ _ _ x3).trans p7⟩))
        (first | (go_at_call_of 22 (Value.agg #[.int .i64 z0, .slice a2 xs0.length c2]); refine (toPool _ _ xs0 _ (HR.out.1.keep (keep_below Bh (And.left (by assumption)))) l1).mono ?_; rintro e wi ⟨s2, rfl, oi, tj1⟩) | (go_at_call 24; refine (eqPool_same z0 _ _ xs0 _ (HO3.out.1.keep (And.left (by assumption))).row oi.row l1).mono ?_; rintro e wj ⟨rfl, tj2⟩))
      obtain ⟨Bj, r0, r1, r2, r3, r4, r5, r6, r7⟩ : Below wh.heap.size wh wj ∧ wj.cell? ⟨V7, 0, none⟩ = some (.int .i64 z0) ∧ wj.cell? ⟨V7, 1, none⟩ = some (.slice d3 xs0.length d4) ∧ wj.cell? ⟨w.heap.size, 0, none⟩ = some (.int .i64 z0) ∧ wj.cell? ⟨w.heap.size, 1, none⟩ = some (.slice a2 xs0.length c2) ∧ wj.cell? ⟨w.heap.size + 1, 0, none⟩ = some (.int .i64 z1) ∧ wj.cell? ⟨w.heap.size + 1, 1, none⟩ = some (.slice a4 xs1.length c4) ∧ wj.cell? ⟨V8, 0, none⟩ = some (.int .i64 z1) ∧ wj.cell? ⟨V8, 1, none⟩ = some (.slice d7 xs1.length d8) := by assumption
      clear tj1 tj2
      have HO4 : Hid (OwnPool wj bs (.slice d7 xs1.length d8) xs1) := HO3.out.2.keep Bj
      have Bj2 : Below w.heap.size w wj := keep_below Bh Bj
      have v0 : w.heap.size + 1 < wj.heap.size := by have := Bj.size; omega
      have v1 : V8 < wj.heap.size := by have := Bj.size; omega
      clear p0 p1 p2 p3 p4 p5 p6 p7 HO3 Bj Bh
      go_wp2_with fail
      go_region_held3 (fun w' => Below wj.heap.size wj w' ∧ w'.cell? ⟨V8, 0, none⟩ = some (.int .i64 z1) ∧ w'.cell? ⟨V8, 1, none⟩ = some (.slice d7 xs1.length d8) ∧ w'.cell? ⟨w.heap.size + 1, 0, none⟩ = some (.int .i64 z1) ∧ w'.cell? ⟨w.heap.size + 1, 1, none⟩ = some (.slice a4 xs1.length c4))
        (first | exact ⟨(Below.refl _ _).drew, r6, r7, r4, r5⟩ | (have hn := keep_below (And.left (by assumption)) tk2; exact ⟨hn, (Below.celz hn _ _ _ v1).trans r6, (Below.celz hn _ _ _ v1).trans r7, (Below.celz hn _ _ _ v0).trans r4, (Below.celz hn _ _ _ v0).trans r5⟩) | (have hn := keep_below (And.left (by assumption)) tk1; exact ⟨hn, (Below.celz hn _ _ _ v1).trans r6, (Below.celz hn _ _ _ v1).trans r7, (Below.celz hn _ _ _ v0).trans r4, (Below.celz hn _ _ _ v0).trans r5⟩))
        (first | (go_at_call_of 22 (Value.agg #[.int .i64 z1, .slice a4 xs1.length c4]); refine (toPool _ _ xs1 _ (HR.out.2.keep (keep_below Bj2 (And.left (by assumption)))) l3).mono ?_; rintro e wi ⟨s2, rfl, oi, tk1⟩) | (go_at_call 24; refine (eqPool_same z1 _ _ xs1 _ (HO4.out.keep (And.left (by assumption))).row oi.row l3).mono ?_; rintro e wk ⟨rfl, tk2⟩))
      obtain ⟨Bk, _⟩ : Below wj.heap.size wj wk ∧ wk.cell? ⟨V8, 0, none⟩ = some (.int .i64 z1) ∧ wk.cell? ⟨V8, 1, none⟩ = some (.slice d7 xs1.length d8) ∧ wk.cell? ⟨w.heap.size + 1, 0, none⟩ = some (.int .i64 z1) ∧ wk.cell? ⟨w.heap.size + 1, 1, none⟩ = some (.slice a4 xs1.length c4) := by assumption
      have Bk2 : Below w.heap.size w wk := keep_below Bj2 Bk
      clear tk1 tk2
      go_wp2_with fail
      go_ret
      exact ⟨rfl, Bk2⟩
    · rw [if_neg hB]
      clear hca hcb
      go_wp2_with fail
      go_ret
      exact ⟨rfl, Bb⟩
  · rw [if_neg hA]
    clear hca
    go_wp2_with fail
    go_ret
    exact ⟨rfl, Ba⟩

set_option maxRecDepth 100000 in
set_option maxHeartbeats 1000000 in
theorem lifted (os : Os) (started : os.Started) (H : Type) (enc : TypeId × Value → H) :
    ReturnsInHanded {} Try.checked os 7 .any (Rows.fnExactPoolSameSpec.pre6 enc Try.prog Try.f7 Rows.fnExactPoolSameRow.domain false) (Rows.fnExactPoolSameSpec.post enc Try.prog Try.f7 false true false false) := by
  refine returnsInHanded_of_change (C := Try.checked) own started (by kernel_rfl) Try.func7
    (ChangeSpec.witness6 (enc := enc) (C := Try.checked) false ⟨#[], #[.agg #[.int .i64 0, .slice none 0 0], .agg #[.int .i64 0, .slice none 0 0]], []⟩ 8 (by kernel_rfl) (by kernel_rfl) (by kernel_rfl) (by kernel_rfl)) ?_
  intro W base args ds gs before hval0 hW hcnd _
  have hval : ∀ (j : Nat) t v, Try.f7.params[j]? = some t → args[j]? = some v → Value.okWide Try.prog W .any base t v := hval0
  have hW' := hW
  obtain ⟨p, q, hA0, hV, rfl, hfz, hnd⟩ := hW
  have hA : DataW.TrodAll enc Try.prog W 0 (fun _ => true) true Try.f7.params.toList args.toList ds p := hA0
  rw [Try.params7] at hA hval
  obtain ⟨v0, vs0, d0, ds0, p0, q0, hargs, rfl, rfl, h0, r0⟩ := trodAll_cons hA
  obtain ⟨v1, vs1, d1, ds1, p1, q1, rfl, rfl, rfl, h1, r1⟩ := trodAll_cons r0
  obtain ⟨rfl, rfl, rfl⟩ := trodAll_nil r1
  obtain rfl : args = #[v0, v1] := by cases args; simp_all
  obtain ⟨rfl, rfl⟩ := trodVars_none hV
  have kr0 := h0
  have lt0 : ∀ x ∈ p0, x.block < W.heap.size := by obtain ⟨m, hm⟩ := kr0; exact DataW.trod_lt m _ _ _ hm
  have kr1 := h1
  have lt1 : ∀ x ∈ p1, x.block < W.heap.size := by obtain ⟨m, hm⟩ := kr1; exact DataW.trod_lt m _ _ _ hm
  obtain ⟨z0, y0, xs0, rfl, w0⟩ := open_pool (hval 0 42 v0 rfl rfl) h0
  obtain ⟨z1, y1, xs1, rfl, w1⟩ := open_pool (hval 1 42 v1 rfl rfl) h1
  clear hA0 hval0
  refine (walk z0 y0 xs0 z1 y1 xs1 W w0 w1).mono fun e W' ⟨he, bel⟩ => ?_
  subst he
  exact ⟨_, rfl, _, _, _, [], _, [], hW', trodAll_mk1 (shut_bool Try.underlying4 _), (trodAll_cons_mk (Below.trod laidOut (by kernel_rfl) (of_decide_eq_true (by kernel_rfl)) kr0 bel lt0) (trodAll_cons_mk (Below.trod laidOut (by kernel_rfl) (of_decide_eq_true (by kernel_rfl)) kr1 bel lt1) trodAll_mk0)), rfl, bel.frame _, fun h => by cases h⟩

theorem over : Rows.fnExactPoolSameRow.holds Try.pinned (OpenSpec.ofChange Rows.fnExactPoolSameSpec) :=
  OpenClaim.holds_of_wide 7 Try.f7 rfl rfl rfl rfl rfl rfl rfl ⟨rfl, rfl, rfl, rfl, rfl⟩ rfl rfl rfl rfl rfl (by kernel_rfl) Try.func7 (by kernel_rfl)
    (of_decide_eq_true (by kernel_rfl)) (by unfold Func.isWrapper; first | (rw [if_pos (by decide +kernel)]; kernel_rfl) | (rw [if_neg (by decide +kernel)]; exact ⟨rfl, rfl⟩))
    (fun os started H enc _ => lifted os started H enc)

end Go.Proofs.Ythkdadgccjilkaa.fnExactPoolSame
namespace Go.Proofs.Ythkdadgccjilkaa
theorem fnExactPoolSame_holds : Rows.FnExactPoolSameSaid := fnExactPoolSame.over
#print axioms fnExactPoolSame_holds
end Go.Proofs.Ythkdadgccjilkaa
