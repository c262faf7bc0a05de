/-
  At every pool impl.PoolOk answers as the specification, and writes into no argument.
-/
import Derived.Test.YtdboohnhdhoahaaDoorCards
import Derived.Test.YtdboohnhdhoahaaDoorTie
import Derived.Test.YtdboohnhdhoahaaDoorNod
import Derived.Test.YtdboohnhdhoahaaDoorRow
import Derived.Test.YtdboohnhdhoahaaDoorPag
import Derived.Test.YtdboohnhdhoahaaDoorPol
import Derived.Test.YtdboohnhdhoahaaDoorUpl
import Derived.Test.YtdboohnhdhoahaaDoorSep
import Derived.Test.YtdboohnhdhoahaaDoorIpo
import Derived.Test.YtdboohnhdhoahaaDoorOpen
import Derived.Test.YtdboohnhdhoahaaDoorRdg
import Derived.Test.YtdboohnhdhoahaaDoorOpp
import Derived.Test.YtdboohnhdhoahaaDoorErr
import Derived.WalkKit
import Derived.ProofKit
import Derived.OpenShut
import Derived.ShutString
import Derived.ChangeOld
import Derived.Below
import Derived.Carry
import Derived.Handy
import Derived.Deep.RegionHeld3
import Derived.LaidMore
namespace Go.Proofs.YtdboohnhdhoahaaDoor.fnExactPoolOk
open Go.Proofs.YtdboohnhdhoahaaDoor.Lab
open Go.ChangeShapes Go.WideShapes Go.ChangeAt Go.RowKit
open Go.ChangeMaps (open_string shut_string)
set_option linter.unusedVariables false

theorem own : ownKnob Tryd.prog.godebug = none := by kernel_rfl
/-- A row of numbers that came in: nil, or so many cells. -/
def IsRow (k : IntKind) (w : World) (a : Option Addr) (len cap : Nat) (zs : List Int) : Prop :=
  (a = none ∧ len = 0 ∧ cap = 0 ∧ zs = []) ∨ ∃ x, a = some x ∧ len ≤ cap ∧ cap ≤ maxLen ∧ zs.length = cap ∧ (∀ i, i < zs.length → w.cell? (x.add i) = some (.int k (zs.getD i 0))) ∧ ∀ n ∈ zs, (Lit.int k n).wf = true

set_option maxHeartbeats 4000000 in
theorem walk (z0 : Int) (y0 : Value) (xs0 : List (Int × Int)) (w : World) (w0 : i64In z0 ∧ PagesIn w y0 xs0) (hform : FormAt w) :
    Calls Tryd.prog 3 #[.agg #[.int .i64 z0, y0]] w fun e w' => e = .returned (.bool true) ∧ Below w.heap.size w w' := by
  obtain ⟨-, r1, m1, -⟩ := w0
  obtain ⟨a2, c2, rfl⟩ := r1.len
  simp only [maxLen, Nat.reducePow, Nat.reduceSub] at m1
  have HR : Hid (RowAt 2 encPage w (.slice a2 xs0.length c2) xs0) := r1
  have HFM : Hid (FormAt w) := hform
  clear r1 hform
  go_enter Tryd.func3, Tryd.ntmps3
  go_wp2_with fail
  refine (szPool _ _ _ _ _ _ (by omega) (by omega) m1).mono ?_
  rintro e wa ⟨rfl, ba⟩
  have hca := Below.celz (ba.mono (B' := w.heap.size + 1) (by simp))
  have sa : w.heap.size + 1 ≤ wa.heap.size := by have := ba.size; simp at this; omega
  have Ba : Below w.heap.size w wa := Below.trans (by go_grown) (ba.mono (by simp))
  have q0 : wa.cell? ⟨w.heap.size, 0, none⟩ = some (.int .i64 z0) := by rw [hca _ _ _ (by omega)]; simp [go_sem]
  have q1 : wa.cell? ⟨w.heap.size, 1, none⟩ = some (.slice a2 xs0.length c2) := by rw [hca _ _ _ (by omega)]; simp [go_sem]
  clear ba hca
  by_cases hA : (xs0.length : Int) ≤ 1048576
  rotate_left
  · rw [if_neg hA]
    go_wp2_with fail
    go_ret
    exact ⟨rfl, Ba⟩
  rw [if_pos hA]
  have l1 : xs0.length ≤ 1048576 := by omega
  have HBa : Hid (Below w.heap.size w wa) := Ba
  clear Ba m1
  go_wp2_with fail
  refine (toPool z0 _ xs0 _ (HR.out.keep HBa.out) l1).mono ?_
  rintro e wb ⟨u1, rfl, o1, b1⟩
  have HBb : Hid (Below w.heap.size w wb) := HBa.out.trans (b1.mono HBa.out.size)
  have HC1 : Hid (RowC wb u1 xs0) := RowC.of_own o1
  have sb : w.heap.size + 1 ≤ wb.heap.size := by have := b1.size; omega
  have q0b : wb.cell? ⟨w.heap.size, 0, none⟩ = some (.int .i64 z0) := (Below.celz b1 _ _ _ (by omega)).trans q0
  have q1b : wb.cell? ⟨w.heap.size, 1, none⟩ = some (.slice a2 xs0.length c2) := (Below.celz b1 _ _ _ (by omega)).trans q1
  clear o1 b1 q0 q1
  go_wp2_with fail
  refine (spec_PoolOk z0 u1 xs0 _ HC1.out l1).mono ?_
  rintro e wc ⟨rfl, bc⟩
  have HBc : Hid (Below w.heap.size w wc) := HBb.out.trans (bc.mono HBb.out.size)
  have sc : w.heap.size + 1 ≤ wc.heap.size := by have := bc.size; omega
  have q0c : wc.cell? ⟨w.heap.size, 0, none⟩ = some (.int .i64 z0) := (Below.celz bc _ _ _ (by omega)).trans q0b
  have q1c : wc.cell? ⟨w.heap.size, 1, none⟩ = some (.slice a2 xs0.length c2) := (Below.celz bc _ _ _ (by omega)).trans q1b
  clear bc q0b q1b HC1 HBb HBa
  obtain ⟨pb, hpb⟩ : ∃ pb, pb = poolB z0 xs0 := ⟨_, rfl⟩
  have HPB : Hid (pb = poolB z0 xs0) := hpb
  have hne : (pb != pb) = false := by simp
  rw [← hpb]
  clear hpb
  go_wp2_with fail
  refine (toPool z0 _ xs0 _ (HR.out.keep HBc.out) l1).mono ?_
  rintro e wd ⟨u2, rfl, o2, b2⟩
  obtain ⟨d3, d4, hu2⟩ := o2.form
  have HBd : Hid (Below w.heap.size w wd) := HBc.out.trans (b2.mono HBc.out.size)
  have HO2 : Hid (OwnPool wd wc.heap.size u2 xs0) := o2
  have sd : w.heap.size + 1 ≤ wd.heap.size := by have := b2.size; omega
  have q0d : wd.cell? ⟨w.heap.size, 0, none⟩ = some (.int .i64 z0) := (Below.celz b2 _ _ _ (by omega)).trans q0c
  have q1d : wd.cell? ⟨w.heap.size, 1, none⟩ = some (.slice a2 xs0.length c2) := (Below.celz b2 _ _ _ (by omega)).trans q1c
  clear o2 b2 q0c q1c HBc
  subst hu2
  go_wp2_with fail
  have bn : Below wd.heap.size wd (wd.alloc (.cells #[.int .i64 z0, .slice d3 xs0.length d4] 29)) := (Below.refl _ _).alloc (Nat.le_refl _) _
  refine (impl_PoolOk z0 _ xs0 _ ((HO2.out.keep bn).row) l1 ((HFM.out.keep HBd.out).keep bn)).mono ?_
  rintro e we ⟨rfl, be⟩
  rw [← HPB.out]
  have se : wd.heap.size + 1 ≤ we.heap.size := by have := be.size; simp at this; omega
  have HBe : Hid (Below w.heap.size w we ∧ OwnPool we wc.heap.size (.slice d3 xs0.length d4) xs0) := ⟨(HBd.out.alloc (by omega) _).trans (be.mono (by simp; omega)), (HO2.out.keep bn).keep be⟩
  have q0e : we.cell? ⟨w.heap.size, 0, none⟩ = some (.int .i64 z0) := by rw [Below.celz be _ _ _ (by simp; omega), World.cell?_alloc_past _ _ _ (by omega)]; exact q0d
  have q1e : we.cell? ⟨w.heap.size, 1, none⟩ = some (.slice a2 xs0.length c2) := by rw [Below.celz be _ _ _ (by simp; omega), World.cell?_alloc_past _ _ _ (by omega)]; exact q1d
  have y0e : we.cell? ⟨wd.heap.size, 0, none⟩ = some (.int .i64 z0) := by rw [Below.celz be _ _ _ (by simp)]; simp [go_sem]
  have y1e : we.cell? ⟨wd.heap.size, 1, none⟩ = some (.slice d3 xs0.length d4) := by rw [Below.celz be _ _ _ (by simp)]; simp [go_sem]
  have x1 : w.heap.size < we.heap.size := by omega
  have x2 : wd.heap.size < we.heap.size := by omega
  clear be bn q0d q1d HO2
  generalize wd.heap.size = V at *
  go_wp2_with fail
  go_region_held3 (fun w' => Below we.heap.size we w' ∧ w'.cell? ⟨V, 0, none⟩ = some (.int .i64 z0) ∧ w'.cell? ⟨V, 1, none⟩ = some (.slice d3 xs0.length d4) ∧ w'.cell? ⟨w.heap.size, 0, none⟩ = some (.int .i64 z0) ∧ w'.cell? ⟨w.heap.size, 1, none⟩ = some (.slice a2 xs0.length c2))
    (first | exact ⟨(Below.refl _ _).drew, y0e, y1e, q0e, q1e⟩ | (have hn := keep_below (And.left (by assumption)) bg; exact ⟨hn, (Below.celz hn _ _ _ x2).trans y0e, (Below.celz hn _ _ _ x2).trans y1e, (Below.celz hn _ _ _ x1).trans q0e, (Below.celz hn _ _ _ x1).trans q1e⟩) | (have hn := keep_below (And.left (by assumption)) bf; exact ⟨hn, (Below.celz hn _ _ _ x2).trans y0e, (Below.celz hn _ _ _ x2).trans y1e, (Below.celz hn _ _ _ x1).trans q0e, (Below.celz hn _ _ _ x1).trans q1e⟩))
    (first | (go_at_call 8; refine (toPool z0 _ xs0 _ (HR.out.keep (keep_below HBe.out.1 (And.left (by assumption)))) l1).mono ?_; rintro e wf ⟨u3, rfl, o3, bf⟩) | (go_at_call 10; refine (eqPool_same z0 _ _ xs0 _ (HBe.out.2.keep (And.left (by assumption))).row o3.row l1).mono ?_; rintro e wg ⟨rfl, bg⟩))
  all_goals (
    have HBg : Hid (Below w.heap.size w wg) := keep_below HBe.out.1 (And.left (by assumption))
    clear o3 bf bg y0e y1e q0e q1e
    go_wp2_with fail
    go_ret
    exact ⟨rfl, HBg.out⟩)

theorem door_met (os : Os) (args : Array Value) : laidMetH Tryd.prog Rows.fnExactPoolOkRow.laid ((World.doorLaid Tryd.prog 28 os).forCall (fun _ _ => 0) ⟨#[], args, []⟩).memory :=
  laidMetH_of_parts3 (fuel := 8) (laidMet_of_run' 8 (by kernel_rfl) (by kernel_rfl)) (by kernel_rfl) (by kernel_rfl)

set_option maxRecDepth 100000 in
set_option maxHeartbeats 1000000 in
theorem lifted (os : Os) (started : os.Started) (H : Type) (enc : TypeId × Value → H) :
    ReturnsInHanded {} Tryd.checked os 3 .any (fun w args => (Rows.fnExactPoolOkSpec.pre enc Tryd.prog Tryd.f3 [] false w args ∧ laidMetH Tryd.prog Rows.fnExactPoolOkRow.laid w) ∧ sizedMet enc Tryd.prog Tryd.f3 (OpenSpec.ofChange Rows.fnExactPoolOkSpec) false w args)
      (Rows.fnExactPoolOkSpec.post enc Tryd.prog Tryd.f3 false true false false) := by
  refine returnsInHanded_of_change_and (C := Tryd.checked) (X := fun w _ => laidMetH Tryd.prog Rows.fnExactPoolOkRow.laid w) (fun _ _ _ hh h => h.of_heap hh) own started (by kernel_rfl) Tryd.func3
    (ChangeSpec.witness_shaped (enc := enc) (C := Tryd.checked) (os := os) (X := fun w _ => laidMetH Tryd.prog Rows.fnExactPoolOkRow.laid w) false (World.doorLaid Tryd.prog 28 os) #[.agg #[.int .i64 0, .slice none 0 0]] 8 rfl (World.shaped_of_RefB (by kernel_rfl) (by kernel_rfl)) (by kernel_rfl) (by kernel_rfl) (by kernel_rfl) (door_met os _)) ?_
  intro W base args ds gs before hval0 hW _ _ hL _
  have hval : ∀ (j : Nat) t v, Tryd.f3.params[j]? = some t → args[j]? = some v → Value.okWide Tryd.prog W .any base t v := hval0
  have hW' := hW
  obtain ⟨p, q, hA0, hV0, rfl, hfz, hnd⟩ := hW
  have hA : DataW.TrodAll enc Tryd.prog W 0 (fun _ => true) true Tryd.f3.params.toList args.toList ds p := hA0
  have hV : DataW.TrodVars enc Tryd.prog W (fun _ => true) ["loop.example/hagioscope/impl.errForm"] gs q := hV0
  rw [Tryd.params3] at hA hval
  obtain ⟨v0, vs0, d0, ds0, p0, q0, hargs, rfl, rfl, h0, r0⟩ := trodAll_cons hA
  obtain ⟨rfl, rfl, rfl⟩ := trodAll_nil r0
  obtain rfl : args = #[v0] := by cases args; simp_all
  have kr0 := h0
  have lt0 : ∀ x ∈ p0, x.block < W.heap.size := by obtain ⟨m, hm⟩ := kr0; exact DataW.trod_lt m _ _ _ hm
  obtain ⟨z0, y0, xs0, rfl, w0⟩ := open_pool (hval 0 24 v0 rfl rfl) h0
  obtain ⟨g, t, cs, fuel, d, p', rfl, hg, ht, hvar, hd, rfl⟩ := trodVars_one hV
  obtain rfl := Option.some.inj (gForm.symm.trans hg)
  obtain rfl := Option.some.inj (tForm.symm.trans ht)
  obtain ⟨fu, fv, hff⟩ := form_of hL
  obtain rfl : cs = #[.iface fu fv] := Option.some.inj (hvar.symm.trans hff)
  have hform : FormAt W := formAt_of hff
  obtain ⟨_, _, hheap⟩ := heap_of_var gForm hff
  clear hA0 hV0 hval0
  refine (walk z0 y0 xs0 W w0 hform).mono fun e W' ⟨he, bel⟩ => ?_
  subst he
  exact ⟨_, rfl, _, _, _, [], _, _, hW', trodAll_mk1 (shut_bool Tryd.underlying4 _), (trodAll_cons_mk (Below.trod laidOut (by kernel_rfl) (of_decide_eq_true (by kernel_rfl)) kr0 bel lt0) trodAll_mk0), trodVars_mk1 gForm tForm (var?_below bel gForm (lt_of_block hheap) hff) (held_again Tryd.underlying52 hd), bel.frame _, fun h => by cases h⟩

theorem said : Rows.FnExactPoolOkSaid :=
  OpenClaim.holds_of_wide 3 Tryd.f3 rfl rfl rfl rfl rfl rfl rfl ⟨rfl, rfl, rfl, rfl, rfl⟩ rfl rfl rfl rfl rfl (by kernel_rfl) Tryd.func3 (by kernel_rfl)
    (of_decide_eq_true (by kernel_rfl)) (by unfold Func.isWrapper; first | (rw [if_pos (by decide +kernel)]; kernel_rfl) | (rw [if_neg (by decide +kernel)]; exact ⟨rfl, rfl⟩))
    (fun os started H enc _ => lifted os started H enc)

theorem plain (f : FuncId) (fn : Func) (hf : Tryd.pinned.checked.prog.funcNamed "loop.example/hagioscope/laws.FnExactPoolOk" = some f) (hfn : Tryd.pinned.checked.prog.funcs[f]? = some fn) :
    false = Tryd.pinned.checked.prog.looks [] ∧ ∀ (j : Nat) t, fn.params[j]? = some t → Tryd.pinned.checked.prog.wantsStandIn t = false := by
  obtain rfl : f = 3 := Option.some.inj ((show Tryd.prog.funcNamed "loop.example/hagioscope/laws.FnExactPoolOk" = some 3 by kernel_rfl).symm.trans hf) |>.symm
  obtain rfl : fn = Tryd.f3 := (Option.some.inj (Tryd.func3.symm.trans hfn)).symm
  refine ⟨by kernel_rfl, fun j t ht => ?_⟩
  rw [Tryd.params3] at ht
  obtain rfl : t = 24 := by simpa using Array.mem_of_getElem? ht
  · exact (show Tryd.prog.wantsStandIn 24 = false by kernel_rfl)

end Go.Proofs.YtdboohnhdhoahaaDoor.fnExactPoolOk
namespace Go.Proofs.YtdboohnhdhoahaaDoor
theorem fnExactPoolOk_card : Rows.FnExactPoolOkCardSaid :=
  Claim7.holds_tied_plain_at .later [] _ _ _ _ fnExactPoolOk.said (fun _ h => by cases h) (by kernel_rfl) (fun _ h => by cases h) fnExactPoolOk_row_tie rfl ⟨rfl, rfl⟩ (by kernel_rfl) rfl fnExactPoolOk.plain (by kernel_rfl)
#print axioms fnExactPoolOk_card
end Go.Proofs.YtdboohnhdhoahaaDoor
