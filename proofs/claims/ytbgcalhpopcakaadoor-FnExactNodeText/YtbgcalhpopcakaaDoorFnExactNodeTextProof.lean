/-
  At every node NodeText answers as the specification (the table of texts listed).
-/
import Derived.Test.YtbgcalhpopcakaaDoorCards
import Derived.Test.YtbgcalhpopcakaaDoorTie
import Derived.Test.YtbgcalhpopcakaaDoorNdt
import Derived.Test.YtbgcalhpopcakaaDoorOpen
import Derived.Test.YtbgcalhpopcakaaDoorDoo
import Derived.WalkKit
import Derived.ProofKit
import Derived.OpenShut
import Derived.ShutString
import Derived.ChangeOld
import Derived.Below
import Derived.Carry
import Derived.Handy
import Derived.Deep.RegionHeld3
import Derived.LaidMore
import Derived.Deep.DeepCutAuto
namespace Go.Proofs.YtbgcalhpopcakaaDoor.fnExactNodeText
open Go.Proofs.YtbgcalhpopcakaaDoor.Lab
open Go.ChangeShapes Go.WideShapes Go.ChangeAt Go.RowKit
open Go.ChangeMaps (open_string shut_string)
set_option linter.unusedVariables false

theorem own : ownKnob Tryd.prog.godebug = none := by kernel_rfl
/-- A row of numbers that came in: nil, or so many cells. -/
def IsRow (k : IntKind) (w : World) (a : Option Addr) (len cap : Nat) (zs : List Int) : Prop :=
  (a = none ∧ len = 0 ∧ cap = 0 ∧ zs = []) ∨ ∃ x, a = some x ∧ len ≤ cap ∧ cap ≤ maxLen ∧ zs.length = cap ∧ (∀ i, i < zs.length → w.cell? (x.add i) = some (.int k (zs.getD i 0))) ∧ ∀ n ∈ zs, (Lit.int k n).wf = true

set_option maxRecDepth 16000 in
set_option maxHeartbeats 8000000 in
theorem walk (l0 n0 : Int) (w : World) (w0 : i64In l0 ∧ i64In n0) (ht : Table w) :
    Calls Tryd.prog 4 #[.agg #[.int .i64 l0, .int .i64 n0]] w fun e w' => e = .returned (.bool true) ∧ Below w.heap.size w w' := by
  have HT : Hid (∀ W, Below w.heap.size w W → Table W) := fun W h => ht.later h
  obtain ⟨s, hs⟩ : ∃ s, s = ndt l0 n0 := ⟨_, rfl⟩
  have HS : Hid (s = ndt l0 n0) := hs
  clear ht hs
  have B0 : Hid (Below w.heap.size w (w.alloc (.cells #[.int .i64 l0, .int .i64 n0] 32))) := (Below.refl _ _).alloc (Nat.le_refl _) _
  have Z0 : w.heap.size < (w.alloc (.cells #[.int .i64 l0, .int .i64 n0] 32)).heap.size := by simp
  have C0 : (w.alloc (.cells #[.int .i64 l0, .int .i64 n0] 32)).cell? ⟨w.heap.size, 0, none⟩ = some (.int .i64 l0) := by simp [go_sem]
  have C1 : (w.alloc (.cells #[.int .i64 l0, .int .i64 n0] 32)).cell? ⟨w.heap.size, 1, none⟩ = some (.int .i64 n0) := by simp [go_sem]
  generalize hW0 : w.alloc (.cells #[.int .i64 l0, .int .i64 n0] 32) = W0 at *
  have HW0 : Hid (w.alloc (.cells #[.int .i64 l0, .int .i64 n0] 32) = W0) := hW0
  clear hW0
  go_enter Tryd.func4, Tryd.ntmps4
  go_wp2_with fail
  rw [HW0.out]
  clear HW0
  refine (toNode _ _ _).mono ?_
  rintro e w1 ⟨rfl, b1⟩
  have B1 : Hid (Below w.heap.size w w1) := B0.out.trans (b1.mono (Nat.le_of_lt Z0))
  have d0 : w1.cell? ⟨w.heap.size, 0, none⟩ = some (.int .i64 l0) := (Below.celz b1 _ _ _ Z0).trans C0
  have d1 : w1.cell? ⟨w.heap.size, 1, none⟩ = some (.int .i64 n0) := (Below.celz b1 _ _ _ Z0).trans C1
  have z1 : w.heap.size < w1.heap.size := Nat.lt_of_lt_of_le Z0 b1.size
  clear b1 C0 C1 Z0 B0
  go_wp2_with fail
  refine (spec_NodeText _ _ _).mono ?_
  rw [← HS.out]
  rintro e w2 ⟨rfl, b1⟩
  have B2 : Hid (Below w.heap.size w w2) := B1.out.trans (b1.mono (Nat.le_of_lt z1))
  have C0 : w2.cell? ⟨w.heap.size, 0, none⟩ = some (.int .i64 l0) := (Below.celz b1 _ _ _ z1).trans d0
  have C1 : w2.cell? ⟨w.heap.size, 1, none⟩ = some (.int .i64 n0) := (Below.celz b1 _ _ _ z1).trans d1
  have Z0 : w.heap.size < w2.heap.size := Nat.lt_of_lt_of_le z1 b1.size
  clear b1 d0 d1 z1 B1
  go_wp2_with fail
  refine (toNode _ _ _).mono ?_
  rintro e w3 ⟨rfl, b1⟩
  have B3 : Hid (Below w.heap.size w w3) := B2.out.trans (b1.mono (Nat.le_of_lt Z0))
  have z1 : w.heap.size < w3.heap.size := Nat.lt_of_lt_of_le Z0 b1.size
  clear b1 C0 C1 Z0 B2
  go_wp2_with fail
  refine (impl_NodeText _ _ _ (HT.out _ B3.out)).mono ?_
  rw [← HS.out]
  rintro e w4 ⟨rfl, b1⟩
  have B4 : Hid (Below w.heap.size w w4) := B3.out.trans (b1.mono (Nat.le_of_lt z1))
  clear b1 z1 B3
  go_wp2
  go_ret
  exact ⟨rfl, B4.out⟩

theorem door_met (os : Os) (args : Array Value) : laidMetH Tryd.prog Rows.fnExactNodeTextRow.laid ((World.doorLaid Tryd.prog 67 os).forCall (fun _ _ => 0) ⟨#[], args, []⟩).memory :=
  laidMetH_of_parts3 (fuel := 8) (laidMet_of_run' 8 (by kernel_rfl) (by kernel_rfl)) (by kernel_rfl) (by kernel_rfl)

set_option maxRecDepth 100000 in
set_option maxHeartbeats 1000000 in
theorem lifted (os : Os) (started : os.Started) (H : Type) (enc : TypeId × Value → H) :
    ReturnsInHanded {} Tryd.checked os 4 .any (fun w args => (Rows.fnExactNodeTextSpec.pre enc Tryd.prog Tryd.f4 [] false w args ∧ laidMetH Tryd.prog Rows.fnExactNodeTextRow.laid w) ∧ sizedMet enc Tryd.prog Tryd.f4 (OpenSpec.ofChange Rows.fnExactNodeTextSpec) false w args)
      (Rows.fnExactNodeTextSpec.post enc Tryd.prog Tryd.f4 false true false false) := by
  refine returnsInHanded_of_change_and (C := Tryd.checked) (X := fun w _ => laidMetH Tryd.prog Rows.fnExactNodeTextRow.laid w) (fun _ _ _ hh h => h.of_heap hh) own started (by kernel_rfl) Tryd.func4
    (ChangeSpec.witness_shaped (enc := enc) (C := Tryd.checked) (os := os) (X := fun w _ => laidMetH Tryd.prog Rows.fnExactNodeTextRow.laid w) false (World.doorLaid Tryd.prog 67 os) #[.agg #[.int .i64 0, .int .i64 0]] 8 rfl (World.shaped_of_RefB (by kernel_rfl) (by kernel_rfl)) (by kernel_rfl) (by kernel_rfl) (by kernel_rfl) (door_met os _)) ?_
  intro W base args ds gs before hval0 hW _ _ hL _
  have hval : ∀ (j : Nat) t v, Tryd.f4.params[j]? = some t → args[j]? = some v → Value.okWide Tryd.prog W .any base t v := hval0
  have hW' := hW
  obtain ⟨p, q, hA0, hV0, rfl, hfz, hnd⟩ := hW
  have hA : DataW.TrodAll enc Tryd.prog W 0 (fun _ => true) true Tryd.f4.params.toList args.toList ds p := hA0
  have hV : DataW.TrodVars enc Tryd.prog W (fun _ => true) ["loop.example/hagioscope/impl.labelTexts"] gs q := hV0
  rw [Tryd.params4] at hA hval
  obtain ⟨v0, vs0, d0, ds0, p0, q0, hargs, rfl, rfl, h0, r0⟩ := trodAll_cons hA
  obtain ⟨rfl, rfl, rfl⟩ := trodAll_nil r0
  obtain rfl : args = #[v0] := by cases args; simp_all
  have kr0 := h0
  have lt0 : ∀ x ∈ p0, x.block < W.heap.size := by obtain ⟨m, hm⟩ := kr0; exact DataW.trod_lt m _ _ _ hm
  obtain ⟨l0, n0, rfl, w0⟩ := open_node (hval 0 32 v0 rfl rfl) h0
  have hlq := DataW.TrodVars.lt hV
  obtain ⟨g, t, cs, fuel, d, p', rfl, hg, ht, hvar, hd, rfl⟩ := trodVars_one hV
  obtain rfl := Option.some.inj (gTexts.symm.trans hg)
  obtain rfl := Option.some.inj (tTexts.symm.trans ht)
  have htab : Table W := tableOf (by kernel_rfl) (by simp [Rows.fnExactNodeTextRow]) hL
  clear hA0 hV0 hval0
  refine (walk l0 n0 W w0 htab).mono fun e W' ⟨he, bel⟩ => ?_
  subst he
  exact ⟨_, rfl, _, _, _, [], _, _, hW', trodAll_mk1 (shut_bool Tryd.underlying4 _), (trodAll_cons_mk (Below.trod laidOut (by kernel_rfl) (of_decide_eq_true (by kernel_rfl)) kr0 bel lt0) trodAll_mk0), var_again gTexts tTexts (by kernel_rfl) (of_decide_eq_true (by kernel_rfl)) hvar hd (fun x hx => hlq x (List.mem_append_right _ hx)) bel, bel.frame _, fun h => by cases h⟩

theorem said : Rows.FnExactNodeTextSaid :=
  OpenClaim.holds_of_wide 4 Tryd.f4 rfl rfl rfl rfl rfl rfl rfl ⟨rfl, rfl, rfl, rfl, rfl⟩ rfl rfl rfl rfl rfl (by kernel_rfl) Tryd.func4 (by kernel_rfl)
    (of_decide_eq_true (by kernel_rfl)) (by unfold Func.isWrapper; first | (rw [if_pos (by decide +kernel)]; kernel_rfl) | (rw [if_neg (by decide +kernel)]; exact ⟨rfl, rfl⟩))
    (fun os started H enc _ => lifted os started H enc)

theorem plain (f : FuncId) (fn : Func) (hf : Tryd.pinned.checked.prog.funcNamed "loop.example/hagioscope/laws.FnExactNodeText" = some f) (hfn : Tryd.pinned.checked.prog.funcs[f]? = some fn) :
    true = Tryd.pinned.checked.prog.looks [] ∧ ∀ (j : Nat) t, fn.params[j]? = some t → Tryd.pinned.checked.prog.wantsStandIn t = false := by
  obtain rfl : f = 4 := Option.some.inj ((show Tryd.prog.funcNamed "loop.example/hagioscope/laws.FnExactNodeText" = some 4 by kernel_rfl).symm.trans hf) |>.symm
  obtain rfl : fn = Tryd.f4 := (Option.some.inj (Tryd.func4.symm.trans hfn)).symm
  refine ⟨by kernel_rfl, fun j t ht => ?_⟩
  rw [Tryd.params4] at ht
  obtain rfl : t = 32 := by simpa using Array.mem_of_getElem? ht
  · exact (show Tryd.prog.wantsStandIn 32 = false by kernel_rfl)

end Go.Proofs.YtbgcalhpopcakaaDoor.fnExactNodeText
namespace Go.Proofs.YtbgcalhpopcakaaDoor
theorem fnExactNodeText_card : Rows.FnExactNodeTextCardSaid :=
  Claim7.holds_tied_plain_at .later [] _ _ _ _ fnExactNodeText.said (fun _ h => by cases h) (by kernel_rfl) (fun _ h => by cases h) fnExactNodeText_row_tie rfl ⟨rfl, rfl⟩ (by kernel_rfl) rfl fnExactNodeText.plain (by kernel_rfl)
#print axioms fnExactNodeText_card
end Go.Proofs.YtbgcalhpopcakaaDoor
