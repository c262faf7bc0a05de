/-
  At every graph impl.GraphOk answers as the model does, and writes into no argument; the four error variables are as the program's own text lays them.
-/
import Derived.Test.YtgaiefkgfmpjnaaDoorCards
import Derived.Test.YtgaiefkgfmpjnaaDoorTie
import Derived.Test.YtgaiefkgfmpjnaaDoorErs
import Derived.Test.YtgaiefkgfmpjnaaDoorOpg
import Derived.WalkKit
import Derived.ProofKit
import Derived.OpenShut
import Derived.ShutString
import Derived.ChangeOld
import Derived.Below
import Derived.Carry
import Derived.Handy
import Derived.Deep.RegionHeld3
import Derived.LaidMore
import Derived.Deep.DeepCutAuto
namespace Go.Proofs.YtgaiefkgfmpjnaaDoor.fnExactGraphOk
open Go.Proofs.YtgaiefkgfmpjnaaDoor.Lab
open Go.ChangeShapes Go.WideShapes Go.ChangeAt Go.RowKit
open Go.ChangeMaps (open_string shut_string)
set_option linter.unusedVariables false

theorem own : ownKnob Tryd.prog.godebug = none := by kernel_rfl
/-- A row of numbers that came in: nil, or so many cells. -/
def IsRow (k : IntKind) (w : World) (a : Option Addr) (len cap : Nat) (zs : List Int) : Prop :=
  (a = none ∧ len = 0 ∧ cap = 0 ∧ zs = []) ∨ ∃ x, a = some x ∧ len ≤ cap ∧ cap ≤ maxLen ∧ zs.length = cap ∧ (∀ i, i < zs.length → w.cell? (x.add i) = some (.int k (zs.getD i 0))) ∧ ∀ n ∈ zs, (Lit.int k n).wf = true

set_option maxHeartbeats 4000000 in
theorem walk (x0 y0 : Value) (ns0 : List (Int × Int)) (es0 : List (Int × Int × Int × Int × Int)) (w : World) (w0 : GraphIn w x0 y0 ns0 es0) (hE : Errs w) :
    Calls Tryd.prog 3 #[.agg #[x0, y0]] w fun e w' => e = .returned (.bool true) ∧ Below w.heap.size w w' := by
  obtain ⟨r1, r2, m1, m2, _, _⟩ := w0
  obtain ⟨a1, c1, rfl⟩ := r1.len
  obtain ⟨a2, c2, rfl⟩ := r2.len
  simp only [maxLen, Nat.reducePow, Nat.reduceSub] at m1 m2
  have HR : Hid (RowAt 2 encNode w (.slice a1 ns0.length c1) ns0 ∧ RowAt 5 encEdge w (.slice a2 es0.length c2) es0) := ⟨r1, r2⟩
  have HE : Hid (Errs w) := hE
  clear r1 r2 hE
  go_enter Tryd.func3, Tryd.ntmps3
  go_wp2_with fail
  refine (szGraph _ _ _ _ _ _ _ _ (by omega) (by omega) m1 m2).mono ?_
  rintro e wa ⟨rfl, ba⟩
  have sa : w.heap.size + 1 ≤ wa.heap.size := by have := ba.size; simp at this; omega
  have Ba : Below w.heap.size w wa := Below.trans (by go_grown) (ba.mono (by simp))
  have q0 : wa.cell? ⟨w.heap.size, 0, none⟩ = some (.slice a1 ns0.length c1) := by rw [Below.celz ba _ _ _ (by simp)]; simp [go_sem]
  have q1 : wa.cell? ⟨w.heap.size, 1, none⟩ = some (.slice a2 es0.length c2) := by rw [Below.celz ba _ _ _ (by simp)]; simp [go_sem]
  clear ba
  by_cases hA : (ns0.length : Int) + es0.length ≤ 1048576
  · rw [if_pos hA]
    have l1 : ns0.length ≤ 1048576 := by omega
    have l2 : es0.length ≤ 1048576 := by omega
    go_wp2_with fail
    refine (toGraph _ _ ns0 es0 _ (HR.out.1.keep Ba) (HR.out.2.keep Ba) l1 l2).mono ?_
    rintro e wb ⟨u1, u2, rfl, og1, bb⟩
    have Bb : Below w.heap.size w wb := keep_below Ba bb
    have t0 : wb.cell? ⟨w.heap.size, 0, none⟩ = some (.slice a1 ns0.length c1) := by rw [Below.celz bb _ _ _ (by omega)]; exact q0
    have t1 : wb.cell? ⟨w.heap.size, 1, none⟩ = some (.slice a2 es0.length c2) := by rw [Below.celz bb _ _ _ (by omega)]; exact q1
    have sb : w.heap.size + 1 ≤ wb.heap.size := by have := bb.size; omega
    clear bb q0 q1 Ba sa
    go_wp2_with fail
    refine (spec_GraphOk _ _ ns0 es0 _ og1.nodes og1.edges l1 l2).mono ?_
    rintro e wc ⟨rfl, bc⟩
    have Bc : Below w.heap.size w wc := keep_below Bb bc
    have q0 : wc.cell? ⟨w.heap.size, 0, none⟩ = some (.slice a1 ns0.length c1) := by rw [Below.celz bc _ _ _ (by omega)]; exact t0
    have q1 : wc.cell? ⟨w.heap.size, 1, none⟩ = some (.slice a2 es0.length c2) := by rw [Below.celz bc _ _ _ (by omega)]; exact t1
    have sc : w.heap.size + 1 ≤ wc.heap.size := by have := bc.size; omega
    clear bc t0 t1 Bb sb og1
    go_wp2_with fail
    refine (toGraph _ _ ns0 es0 _ (HR.out.1.keep Bc) (HR.out.2.keep Bc) l1 l2).mono ?_
    rintro e wf ⟨u5, u6, rfl, og1, bf⟩
    obtain ⟨d1, d2, d3, d4, rfl, rfl⟩ := og1.form
    have Bf : Below w.heap.size w wf := keep_below Bc bf
    have t0 : wf.cell? ⟨w.heap.size, 0, none⟩ = some (.slice a1 ns0.length c1) := by rw [Below.celz bf _ _ _ (by omega)]; exact q0
    have t1 : wf.cell? ⟨w.heap.size, 1, none⟩ = some (.slice a2 es0.length c2) := by rw [Below.celz bf _ _ _ (by omega)]; exact q1
    have sf : w.heap.size + 1 ≤ wf.heap.size := by have := bf.size; omega
    have b1 : Below wf.heap.size wf (wf.alloc (.cells #[.slice d1 ns0.length d2, .slice d3 es0.length d4] 31)) := (Below.refl _ _).alloc (Nat.le_refl _) _
    have O1 := og1.keep b1
    clear bf q0 q1 Bc sc og1
    go_wp2_with fail
    refine (impl_GraphOk _ _ ns0 es0 _ O1.nodes O1.edges l1 l2 ((HE.out.keep Bf).keep b1)).mono ?_
    rintro e wg ⟨rfl, bg⟩
    have HO : Hid (OwnGraph wg wc.heap.size (.slice d1 ns0.length d2) (.slice d3 es0.length d4) ns0 es0) := O1.keep bg
    have Bg : Below w.heap.size w wg := keep_below (keep_below Bf b1) bg
    have p0 : wg.cell? ⟨w.heap.size, 0, none⟩ = some (.slice a1 ns0.length c1) := by rw [Below.celz bg _ _ _ (by simp; omega), World.cell?_alloc_past _ _ _ (by omega)]; exact t0
    have p1 : wg.cell? ⟨w.heap.size, 1, none⟩ = some (.slice a2 es0.length c2) := by rw [Below.celz bg _ _ _ (by simp; omega), World.cell?_alloc_past _ _ _ (by omega)]; exact t1
    have p2 : wg.cell? ⟨wf.heap.size, 0, none⟩ = some (.slice d1 ns0.length d2) := by rw [Below.celz bg _ _ _ (by simp)]; simp [go_sem]
    have p3 : wg.cell? ⟨wf.heap.size, 1, none⟩ = some (.slice d3 es0.length d4) := by rw [Below.celz bg _ _ _ (by simp)]; simp [go_sem]
    have x0 : w.heap.size < wg.heap.size := by have := bg.size; simp at this; omega
    have x1 : wf.heap.size < wg.heap.size := by have := bg.size; simp at this; omega
    clear bg t0 t1 Bf sf O1 b1
    generalize gokB ns0 es0 = bb at *
    generalize wf.heap.size = V7 at *
    have hbb : (bb != bb) = false := by simp
    go_wp2_with fail
    go_region_held3 (fun w' => Below wg.heap.size wg w' ∧ w'.cell? ⟨V7, 0, none⟩ = some (.slice d1 ns0.length d2) ∧ w'.cell? ⟨V7, 1, none⟩ = some (.slice d3 es0.length d4) ∧ w'.cell? ⟨w.heap.size, 0, none⟩ = some (.slice a1 ns0.length c1) ∧ w'.cell? ⟨w.heap.size, 1, none⟩ = some (.slice a2 es0.length c2))
      (first | exact ⟨(Below.refl _ _).drew, p2, p3, p0, p1⟩ | (have hn := keep_below (And.left (by assumption)) tj2; exact ⟨hn, (Below.celz hn _ _ _ x1).trans p2, (Below.celz hn _ _ _ x1).trans p3, (Below.celz hn _ _ _ x0).trans p0, (Below.celz hn _ _ _ x0).trans p1⟩) | (have hn := keep_below (And.left (by assumption)) tj1; exact ⟨hn, (Below.celz hn _ _ _ x1).trans p2, (Below.celz hn _ _ _ x1).trans p3, (Below.celz hn _ _ _ x0).trans p0, (Below.celz hn _ _ _ x0).trans p1⟩))
      (first | (go_at_call_of 6 (Value.agg #[.slice a1 ns0.length c1, .slice a2 es0.length c2]); refine (toGraph _ _ ns0 es0 _ (HR.out.1.keep (keep_below Bg (And.left (by assumption)))) (HR.out.2.keep (keep_below Bg (And.left (by assumption)))) l1 l2).mono ?_; rintro e wi ⟨s1, s2, rfl, oi, tj1⟩) | (go_at_call 8; refine (eqGraph_same _ _ _ _ ns0 es0 _ (HO.out.keep (And.left (by assumption))).nodes (HO.out.keep (And.left (by assumption))).edges oi.nodes oi.edges l1 l2).mono ?_; rintro e wj ⟨rfl, tj2⟩))
    obtain ⟨Bj, _⟩ : Below wg.heap.size wg wj ∧ wj.cell? ⟨V7, 0, none⟩ = some (.slice d1 ns0.length d2) ∧ wj.cell? ⟨V7, 1, none⟩ = some (.slice d3 es0.length d4) ∧ wj.cell? ⟨w.heap.size, 0, none⟩ = some (.slice a1 ns0.length c1) ∧ wj.cell? ⟨w.heap.size, 1, none⟩ = some (.slice a2 es0.length c2) := by assumption
    have Bk : Below w.heap.size w wj := keep_below Bg Bj
    clear tj1 tj2
    go_wp2_with fail
    go_ret
    exact ⟨rfl, Bk⟩
  · rw [if_neg hA]
    go_wp2_with fail
    go_ret
    exact ⟨rfl, Ba⟩

theorem door_met (os : Os) (args : Array Value) : laidMetH Tryd.prog Rows.fnExactGraphOkRow.laid ((World.doorLaid Tryd.prog 85 os).forCall (fun _ _ => 0) ⟨#[], args, []⟩).memory :=
  laidMetH_of_parts3 (fuel := 8) (laidMet_of_run' 8 (by kernel_rfl) (by kernel_rfl)) (by kernel_rfl) (by kernel_rfl)

set_option maxRecDepth 100000 in
set_option maxHeartbeats 1000000 in
theorem lifted (os : Os) (started : os.Started) (H : Type) (enc : TypeId × Value → H) :
    ReturnsInHanded {} Tryd.checked os 3 .any (fun w args => (Rows.fnExactGraphOkSpec.pre enc Tryd.prog Tryd.f3 [] false w args ∧ laidMetH Tryd.prog Rows.fnExactGraphOkRow.laid w) ∧ sizedMet enc Tryd.prog Tryd.f3 (OpenSpec.ofChange Rows.fnExactGraphOkSpec) false w args)
      (Rows.fnExactGraphOkSpec.post enc Tryd.prog Tryd.f3 false true false false) := by
  refine returnsInHanded_of_change_and (C := Tryd.checked) (X := fun w _ => laidMetH Tryd.prog Rows.fnExactGraphOkRow.laid w) (fun _ _ _ hh h => h.of_heap hh) own started (by kernel_rfl) Tryd.func3
    (ChangeSpec.witness_shaped (enc := enc) (C := Tryd.checked) (os := os) (X := fun w _ => laidMetH Tryd.prog Rows.fnExactGraphOkRow.laid w) false (World.doorLaid Tryd.prog 85 os) #[.agg #[.slice none 0 0, .slice none 0 0]] 8 rfl (World.shaped_of_RefB (by kernel_rfl) (by kernel_rfl)) (by kernel_rfl) (by kernel_rfl) (by kernel_rfl) (door_met os _)) ?_
  intro W base args ds gs before hval0 hW _ _ hL _
  have hval : ∀ (j : Nat) t v, Tryd.f3.params[j]? = some t → args[j]? = some v → Value.okWide Tryd.prog W .any base t v := hval0
  have hW' := hW
  obtain ⟨p, q, hA0, hV0, rfl, hfz, hnd⟩ := hW
  have hA : DataW.TrodAll enc Tryd.prog W 0 (fun _ => true) true Tryd.f3.params.toList args.toList ds p := hA0
  have hV : DataW.TrodVars enc Tryd.prog W (fun _ => true) ["loop.example/hagioscope/impl.errForm", "loop.example/hagioscope/impl.errThere", "loop.example/hagioscope/impl.errFull", "loop.example/hagioscope/impl.errNone"] gs q := hV0
  rw [Tryd.params3] at hA hval
  obtain ⟨v0, vs0, d0, ds0, p0, q0, hargs, rfl, rfl, h0, r0⟩ := trodAll_cons hA
  obtain ⟨rfl, rfl, rfl⟩ := trodAll_nil r0
  obtain rfl : args = #[v0] := by cases args; simp_all
  have kr0 := h0
  have lt0 : ∀ x ∈ p0, x.block < W.heap.size := by obtain ⟨m, hm⟩ := kr0; exact DataW.trod_lt m _ _ _ hm
  obtain ⟨x0, y0, ns0, es0, rfl, w0⟩ := open_graph (hval 0 25 v0 rfl rfl) h0
  have hI := held_of hL
  have hE : Errs W := errs_of hI
  obtain ⟨g1, g2, g3, g4, rfl⟩ : ∃ g1 g2 g3 g4, gs = [g1, g2, g3, g4] := by
    have hlen := vars_len _ _ _ hV
    match gs, hlen with
    | [g1, g2, g3, g4], _ => exact ⟨g1, g2, g3, g4, rfl⟩
  clear hA0 hV0 hval0
  refine (walk x0 y0 ns0 es0 W w0 hE).mono fun e W' ⟨he, bel⟩ => ?_
  subst he
  exact ⟨_, rfl, _, _, _, [], _, _, hW', trodAll_mk1 (shut_bool Tryd.underlying4 _), (trodAll_cons_mk (Below.trod laidOut (by kernel_rfl) (of_decide_eq_true (by kernel_rfl)) kr0 bel lt0) trodAll_mk0), vars_keep Tryd.underlying51 bel _ _ _ hV hI, bel.frame _, fun h => by cases h⟩

theorem said : Rows.FnExactGraphOkSaid :=
  OpenClaim.holds_of_wide 3 Tryd.f3 rfl rfl rfl rfl rfl rfl rfl ⟨rfl, rfl, rfl, rfl, rfl⟩ rfl rfl rfl rfl rfl (by kernel_rfl) Tryd.func3 (by kernel_rfl)
    (of_decide_eq_true (by kernel_rfl)) (by unfold Func.isWrapper; first | (rw [if_pos (by decide +kernel)]; kernel_rfl) | (rw [if_neg (by decide +kernel)]; exact ⟨rfl, rfl⟩))
    (fun os started H enc _ => lifted os started H enc)

theorem plain (f : FuncId) (fn : Func) (hf : Tryd.pinned.checked.prog.funcNamed "loop.example/hagioscope/laws.FnExactGraphOk" = some f) (hfn : Tryd.pinned.checked.prog.funcs[f]? = some fn) :
    false = Tryd.pinned.checked.prog.looks [] ∧ ∀ (j : Nat) t, fn.params[j]? = some t → Tryd.pinned.checked.prog.wantsStandIn t = false := by
  obtain rfl : f = 3 := Option.some.inj ((show Tryd.prog.funcNamed "loop.example/hagioscope/laws.FnExactGraphOk" = some 3 by kernel_rfl).symm.trans hf) |>.symm
  obtain rfl : fn = Tryd.f3 := (Option.some.inj (Tryd.func3.symm.trans hfn)).symm
  refine ⟨by kernel_rfl, fun j t ht => ?_⟩
  rw [Tryd.params3] at ht
  obtain rfl : t = 25 := by simpa using Array.mem_of_getElem? ht
  · exact (show Tryd.prog.wantsStandIn 25 = false by kernel_rfl)

end Go.Proofs.YtgaiefkgfmpjnaaDoor.fnExactGraphOk
namespace Go.Proofs.YtgaiefkgfmpjnaaDoor
theorem fnExactGraphOk_card : Rows.FnExactGraphOkCardSaid :=
  Claim7.holds_tied_plain_at .later [] _ _ _ _ fnExactGraphOk.said (fun _ h => by cases h) (by kernel_rfl) (fun _ h => by cases h) fnExactGraphOk_row_tie rfl ⟨rfl, rfl⟩ (by kernel_rfl) rfl fnExactGraphOk.plain (by kernel_rfl)
#print axioms fnExactGraphOk_card
end Go.Proofs.YtgaiefkgfmpjnaaDoor
