/-
  At every text of at most 2^20 bytes and every place impl.RowAt answers as spec.RowAt does, and its answer owns its memory.
-/
import Derived.Test.YtladmjhokdgipabDoorCards
import Derived.Test.YtladmjhokdgipabDoorTie
import Derived.Test.YtladmjhokdgipabDoorRwi
import Derived.WalkKit
import Derived.ProofKit
import Derived.OpenShut
import Derived.ShutString
import Derived.ChangeOld
import Derived.Below
import Derived.Carry
import Derived.Handy
import Derived.Deep.RegionHeld3
import Derived.LaidMore
namespace Go.Proofs.YtladmjhokdgipabDoor.fnExactRowAt
open Go.Proofs.YtladmjhokdgipabDoor.Lab
open Go.ChangeShapes Go.WideShapes Go.ChangeAt Go.RowKit
open Go.ChangeMaps (open_string shut_string)
set_option linter.unusedVariables false

theorem own : ownKnob Tryd.prog.godebug = none := by kernel_rfl
/-- A row of numbers that came in: nil, or so many cells. -/
def IsRow (k : IntKind) (w : World) (a : Option Addr) (len cap : Nat) (zs : List Int) : Prop :=
  (a = none ∧ len = 0 ∧ cap = 0 ∧ zs = []) ∨ ∃ x, a = some x ∧ len ≤ cap ∧ cap ≤ maxLen ∧ zs.length = cap ∧ (∀ i, i < zs.length → w.cell? (x.add i) = some (.int k (zs.getD i 0))) ∧ ∀ n ∈ zs, (Lit.int k n).wf = true

set_option maxHeartbeats 4000000 in
theorem walk (a0 : ByteArray) (a1 : Int) (w : World) (w0 : a0.size ≤ maxLen) (w1 : (Lit.int .i64 a1).wf = true) (hform : FormAt w) :
    Calls Tryd.prog 3 #[.string a0, .int .i64 a1] w fun e w' => e = .returned (.bool true) ∧ Below w.heap.size w w' := by
  have HF : Hid (FormAt w) := hform
  unfold maxLen at w0
  clear hform
  by_cases hlen : (1048576 : Int) < (a0.size : Int)
  · go_enter Tryd.func3, Tryd.ntmps3
    go_wp2
    go_ret
    exact ⟨rfl, Below.refl _ _⟩
  have hs : a0.size ≤ 1048576 := by omega
  have HA : Hid (Below w.heap.size w w) := Below.refl _ _
  have lv : (rL (rwO a0 a1)).length ≤ 1048576 := Nat.le_trans (rL_len _ _) (by omega)
  obtain ⟨KK, hKK⟩ : ∃ KK, KK = rK (rwO a0 a1) := ⟨_, rfl⟩
  obtain ⟨BB, hBB⟩ : ∃ BB, BB = (rwO a0 a1).isSome := ⟨_, rfl⟩
  obtain ⟨M, hM⟩ : ∃ M, M = (rL (rwO a0 a1)).length := ⟨_, rfl⟩
  have HKB : Hid (KK = rK (rwO a0 a1) ∧ BB = (rwO a0 a1).isSome) := ⟨hKK, hBB⟩
  have HM : Hid (M = (rL (rwO a0 a1)).length) := hM
  have lM : M ≤ 1048576 := by omega
  have nB : (BB != BB) = false := by simp
  clear hKK hBB hM
  go_enter Tryd.func3, Tryd.ntmps3
  go_wp2_with fail
  refine (spec_RowAt a0 a1 _ hs).mono ?_
  rintro e w2 ⟨ty0, rfl, rety0, by0⟩
  obtain ⟨y0, rfl, oy0⟩ := rety0.one
  have Hw2 : Hid (Below w.heap.size w w2) := HA.out.trans (by0.mono HA.out.size)
  have Oy0_w2 : Hid (w2.ownsRow w.heap.size 3 1 y0 (rL (rwO a0 a1)).length ((rL (rwO a0 a1)).flatMap encI)) := own_mono oy0 HA.out.size
  clear oy0 by0 rety0
  rw [← HKB.out.1, ← HKB.out.2]
  go_wp2_with fail
  refine (impl_RowAt a0 a1 _ hs (HF.out.keep Hw2.out)).mono ?_
  rintro e w3 ⟨tg0, rfl, retg0, bg0⟩
  obtain ⟨g0, rfl, og0⟩ := retg0.one
  have Hw3 : Hid (Below w.heap.size w w3) := Hw2.out.trans (bg0.mono Hw2.out.size)
  have AP_g0_y0 : Hid (∀ g, Value.ownBlock g0 = some g → Value.ownBlock y0 = some g → False) := fun g h1 h2 => by have := (og0.lt g h1).1; have := (Oy0_w2.out.lt g h2).2; omega
  have Oy0_w3 : Hid (w3.ownsRow w.heap.size 3 1 y0 (rL (rwO a0 a1)).length ((rL (rwO a0 a1)).flatMap encI)) := own_keep Oy0_w2.out bg0
  have Og0_w3 : Hid (w3.ownsRow w.heap.size 3 1 g0 (rL (rwO a0 a1)).length ((rL (rwO a0 a1)).flatMap encI)) := own_mono og0 Hw2.out.size
  clear og0 bg0 retg0
  rw [← HKB.out.1, ← HKB.out.2]
  go_wp2_with fail
  refine (eqIntS g0 y0 (rL (rwO a0 a1)) (rL (rwO a0 a1)) _ (row_of_own encI_len (by decide) Og0_w3.out) (row_of_own encI_len (by decide) Oy0_w3.out) lv lv).mono ?_
  rintro e w4 ⟨rfl, bw4⟩
  have Hw4 : Hid (Below w.heap.size w w4) := Hw3.out.trans (bw4.mono Hw3.out.size)
  have Oy0_w4 : Hid (w4.ownsRow w.heap.size 3 1 y0 (rL (rwO a0 a1)).length ((rL (rwO a0 a1)).flatMap encI)) := own_keep Oy0_w3.out bw4
  have Og0_w4 : Hid (w4.ownsRow w.heap.size 3 1 g0 (rL (rwO a0 a1)).length ((rL (rwO a0 a1)).flatMap encI)) := own_keep Og0_w3.out bw4
  clear bw4
  rw [eqB_true.2 rfl]
  go_wp2_with fail
  refine (markIntS w.heap.size (rL (rwO a0 a1)).length g0 1 _ _ (by omega) (by omega) lv Og0_w4.out).mono ?_
  rintro e w5 ⟨rfl, ow5, gw5⟩
  have Hw5 : Hid (Below w.heap.size w w5) := Hw4.out.grown gw5 Hw4.out.size (fun g hg => (Og0_w4.out.lt g hg).1)
  have Oy0_w5 : Hid (w5.ownsRow w.heap.size 3 1 y0 (rL (rwO a0 a1)).length ((rL (rwO a0 a1)).flatMap encI)) := own_gr Oy0_w4.out gw5 (fun k h1 h2 => (AP_g0_y0.out k h2 h1))
  have Og0_w5 : Hid (w5.ownsRow w.heap.size 3 1 g0 (marksI 1 (rL (rwO a0 a1)).length).length ((marksI 1 (rL (rwO a0 a1)).length).flatMap encI)) := by show w5.ownsRow w.heap.size 3 1 g0 (marksI 1 (rL (rwO a0 a1)).length).length ((marksI 1 (rL (rwO a0 a1)).length).flatMap encI); rw [marksI_len]; exact ow5
  clear ow5 gw5
  rw [← HM.out]
  have nm : ¬ (1 + (M : Int)) < 0 := by omega
  have nb : ((1 + (M : Int)) != (1 + (M : Int))) = false := by simp
  go_wp2_with fail
  refine (heldIntB (rL (rwO a0 a1)).length g0 1 _ (by omega) (by omega) lv (row_of_own encI_len (by decide) Og0_w5.out)).mono ?_
  rintro e w6 ⟨rfl, bw6⟩
  have Hw6 : Hid (Below w.heap.size w w6) := Hw5.out.trans (bw6.mono Hw5.out.size)
  have Oy0_w6 : Hid (w6.ownsRow w.heap.size 3 1 y0 (rL (rwO a0 a1)).length ((rL (rwO a0 a1)).flatMap encI)) := own_keep Oy0_w5.out bw6
  have Og0_w6 : Hid (w6.ownsRow w.heap.size 3 1 g0 (marksI 1 (rL (rwO a0 a1)).length).length ((marksI 1 (rL (rwO a0 a1)).length).flatMap encI)) := own_keep Og0_w5.out bw6
  clear bw6
  rw [← HM.out]
  go_wp2_with fail
  refine (impl_RowAt a0 a1 _ hs (HF.out.keep Hw6.out)).mono ?_
  rintro e w7 ⟨th0, rfl, reth0, bh0⟩
  obtain ⟨h0, rfl, oh0⟩ := reth0.one
  have Hw7 : Hid (Below w.heap.size w w7) := Hw6.out.trans (bh0.mono Hw6.out.size)
  have AP_h0_y0 : Hid (∀ g, Value.ownBlock h0 = some g → Value.ownBlock y0 = some g → False) := fun g h1 h2 => by have := (oh0.lt g h1).1; have := (Oy0_w6.out.lt g h2).2; omega
  have AP_h0_g0 : Hid (∀ g, Value.ownBlock h0 = some g → Value.ownBlock g0 = some g → False) := fun g h1 h2 => by have := (oh0.lt g h1).1; have := (Og0_w6.out.lt g h2).2; omega
  have Oy0_w7 : Hid (w7.ownsRow w.heap.size 3 1 y0 (rL (rwO a0 a1)).length ((rL (rwO a0 a1)).flatMap encI)) := own_keep Oy0_w6.out bh0
  have Og0_w7 : Hid (w7.ownsRow w.heap.size 3 1 g0 (marksI 1 (rL (rwO a0 a1)).length).length ((marksI 1 (rL (rwO a0 a1)).length).flatMap encI)) := own_keep Og0_w6.out bh0
  have Oh0_w7 : Hid (w7.ownsRow w.heap.size 3 1 h0 (rL (rwO a0 a1)).length ((rL (rwO a0 a1)).flatMap encI)) := own_mono oh0 Hw6.out.size
  clear oh0 bh0 reth0
  rw [← HKB.out.1, ← HKB.out.2]
  go_wp2_with fail
  refine (eqIntS h0 y0 (rL (rwO a0 a1)) (rL (rwO a0 a1)) _ (row_of_own encI_len (by decide) Oh0_w7.out) (row_of_own encI_len (by decide) Oy0_w7.out) lv lv).mono ?_
  rintro e w8 ⟨rfl, bw8⟩
  have Hw8 : Hid (Below w.heap.size w w8) := Hw7.out.trans (bw8.mono Hw7.out.size)
  have Oy0_w8 : Hid (w8.ownsRow w.heap.size 3 1 y0 (rL (rwO a0 a1)).length ((rL (rwO a0 a1)).flatMap encI)) := own_keep Oy0_w7.out bw8
  have Og0_w8 : Hid (w8.ownsRow w.heap.size 3 1 g0 (marksI 1 (rL (rwO a0 a1)).length).length ((marksI 1 (rL (rwO a0 a1)).length).flatMap encI)) := own_keep Og0_w7.out bw8
  have Oh0_w8 : Hid (w8.ownsRow w.heap.size 3 1 h0 (rL (rwO a0 a1)).length ((rL (rwO a0 a1)).flatMap encI)) := own_keep Oh0_w7.out bw8
  clear bw8
  rw [eqB_true.2 rfl]
  go_wp2_with fail
  refine (heldIntB (rL (rwO a0 a1)).length g0 1 _ (by omega) (by omega) lv (row_of_own encI_len (by decide) Og0_w8.out)).mono ?_
  rintro e w9 ⟨rfl, bw9⟩
  have Hw9 : Hid (Below w.heap.size w w9) := Hw8.out.trans (bw9.mono Hw8.out.size)
  have Oy0_w9 : Hid (w9.ownsRow w.heap.size 3 1 y0 (rL (rwO a0 a1)).length ((rL (rwO a0 a1)).flatMap encI)) := own_keep Oy0_w8.out bw9
  have Og0_w9 : Hid (w9.ownsRow w.heap.size 3 1 g0 (marksI 1 (rL (rwO a0 a1)).length).length ((marksI 1 (rL (rwO a0 a1)).length).flatMap encI)) := own_keep Og0_w8.out bw9
  have Oh0_w9 : Hid (w9.ownsRow w.heap.size 3 1 h0 (rL (rwO a0 a1)).length ((rL (rwO a0 a1)).flatMap encI)) := own_keep Oh0_w8.out bw9
  clear bw9
  rw [← HM.out]
  go_wp2_with fail
  go_ret
  exact ⟨rfl, Hw9.out⟩

theorem door_met (os : Os) (args : Array Value) : laidMetH Tryd.prog Rows.fnExactRowAtRow.laid ((World.doorLaid Tryd.prog 28 os).forCall (fun _ _ => 0) ⟨#[], args, []⟩).memory :=
  laidMetH_of_parts3 (fuel := 8) (laidMet_of_run' 8 (by kernel_rfl) (by kernel_rfl)) (by kernel_rfl) (by kernel_rfl)

set_option maxRecDepth 100000 in
set_option maxHeartbeats 1000000 in
theorem lifted (os : Os) (started : os.Started) (H : Type) (enc : TypeId × Value → H) :
    ReturnsInHanded {} Tryd.checked os 3 .any (fun w args => (Rows.fnExactRowAtSpec.pre enc Tryd.prog Tryd.f3 [] false w args ∧ laidMetH Tryd.prog Rows.fnExactRowAtRow.laid w) ∧ sizedMet enc Tryd.prog Tryd.f3 (OpenSpec.ofChange Rows.fnExactRowAtSpec) false w args)
      (Rows.fnExactRowAtSpec.post enc Tryd.prog Tryd.f3 false true false false) := by
  refine returnsInHanded_of_change_and (C := Tryd.checked) (X := fun w _ => laidMetH Tryd.prog Rows.fnExactRowAtRow.laid w) (fun _ _ _ hh h => h.of_heap hh) own started (by kernel_rfl) Tryd.func3
    (ChangeSpec.witness_shaped (enc := enc) (C := Tryd.checked) (os := os) (X := fun w _ => laidMetH Tryd.prog Rows.fnExactRowAtRow.laid w) false (World.doorLaid Tryd.prog 28 os) #[.string ByteArray.empty, .int .i64 0] 8 rfl (World.shaped_of_RefB (by kernel_rfl) (by kernel_rfl)) (by kernel_rfl) (by kernel_rfl) (by kernel_rfl) (door_met os _)) ?_
  intro W base args ds gs before hval0 hW _ _ hL _
  have hval : ∀ (j : Nat) t v, Tryd.f3.params[j]? = some t → args[j]? = some v → Value.okWide Tryd.prog W .any base t v := hval0
  have hW' := hW
  obtain ⟨p, q, hA0, hV0, rfl, hfz, hnd⟩ := hW
  have hA : DataW.TrodAll enc Tryd.prog W 0 (fun _ => true) true Tryd.f3.params.toList args.toList ds p := hA0
  have hV : DataW.TrodVars enc Tryd.prog W (fun _ => true) ["loop.example/hagioscope/impl.errForm"] gs q := hV0
  rw [Tryd.params3] at hA hval
  obtain ⟨v0, vs0, d0, ds0, p0, q0, hargs, rfl, rfl, h0, r0⟩ := trodAll_cons hA
  obtain ⟨v1, vs1, d1, ds1, p1, q1, rfl, rfl, rfl, h1, r1⟩ := trodAll_cons r0
  obtain ⟨rfl, rfl, rfl⟩ := trodAll_nil r1
  obtain rfl : args = #[v0, v1] := by cases args; simp_all
  have kr0 := h0
  have lt0 : ∀ x ∈ p0, x.block < W.heap.size := by obtain ⟨m, hm⟩ := kr0; exact DataW.trod_lt m _ _ _ hm
  have kr1 := h1
  have lt1 : ∀ x ∈ p1, x.block < W.heap.size := by obtain ⟨m, hm⟩ := kr1; exact DataW.trod_lt m _ _ _ hm
  obtain ⟨a0, rfl, rfl, rfl, w0⟩ := open_string Tryd.underlying9 (hval 0 9 v0 rfl rfl) h0
  obtain ⟨a1, rfl, rfl, rfl, w1⟩ := open_int Tryd.underlying3 (hval 1 3 v1 rfl rfl) h1
  obtain ⟨g, t, cs, fuel, d, p', rfl, hg, ht, hvar, hd, rfl⟩ := trodVars_one hV
  obtain rfl := Option.some.inj (gForm.symm.trans hg)
  obtain rfl := Option.some.inj (tForm.symm.trans ht)
  obtain ⟨fu, fv, hff⟩ := form_of hL
  obtain rfl : cs = #[.iface fu fv] := Option.some.inj (hvar.symm.trans hff)
  have hform : FormAt W := formAt_of hff
  obtain ⟨_, _, hheap⟩ := heap_of_var gForm hff
  clear hA0 hV0 hval0
  refine (walk a0 a1 W w0 w1 hform).mono fun e W' ⟨he, bel⟩ => ?_
  subst he
  exact ⟨_, rfl, _, _, _, [], _, _, hW', trodAll_mk1 (shut_bool Tryd.underlying4 _), (trodAll_cons_mk (Below.trod laidOut (by kernel_rfl) (of_decide_eq_true (by kernel_rfl)) kr0 bel lt0) (trodAll_cons_mk (Below.trod laidOut (by kernel_rfl) (of_decide_eq_true (by kernel_rfl)) kr1 bel lt1) trodAll_mk0)), trodVars_mk1 gForm tForm (var?_below bel gForm (lt_of_block hheap) hff) (held_again Tryd.underlying31 hd), bel.frame _, fun h => by cases h⟩

theorem said : Rows.FnExactRowAtSaid :=
  OpenClaim.holds_of_wide 3 Tryd.f3 rfl rfl rfl rfl rfl rfl rfl ⟨rfl, rfl, rfl, rfl, rfl⟩ rfl rfl rfl rfl rfl (by kernel_rfl) Tryd.func3 (by kernel_rfl)
    (of_decide_eq_true (by kernel_rfl)) (by unfold Func.isWrapper; first | (rw [if_pos (by decide +kernel)]; kernel_rfl) | (rw [if_neg (by decide +kernel)]; exact ⟨rfl, rfl⟩))
    (fun os started H enc _ => lifted os started H enc)

theorem plain (f : FuncId) (fn : Func) (hf : Tryd.pinned.checked.prog.funcNamed "loop.example/hagioscope/laws.FnExactRowAt" = some f) (hfn : Tryd.pinned.checked.prog.funcs[f]? = some fn) :
    false = Tryd.pinned.checked.prog.looks [] ∧ ∀ (j : Nat) t, fn.params[j]? = some t → Tryd.pinned.checked.prog.wantsStandIn t = false := by
  obtain rfl : f = 3 := Option.some.inj ((show Tryd.prog.funcNamed "loop.example/hagioscope/laws.FnExactRowAt" = some 3 by kernel_rfl).symm.trans hf) |>.symm
  obtain rfl : fn = Tryd.f3 := (Option.some.inj (Tryd.func3.symm.trans hfn)).symm
  refine ⟨by kernel_rfl, fun j t ht => ?_⟩
  rw [Tryd.params3] at ht
  obtain rfl | rfl : t = 9 ∨ t = 3 := by simpa using Array.mem_of_getElem? ht
  · exact (show Tryd.prog.wantsStandIn 9 = false by kernel_rfl)
  · exact (show Tryd.prog.wantsStandIn 3 = false by kernel_rfl)

end Go.Proofs.YtladmjhokdgipabDoor.fnExactRowAt
namespace Go.Proofs.YtladmjhokdgipabDoor
theorem fnExactRowAt_card : Rows.FnExactRowAtCardSaid :=
  Claim7.holds_tied_plain_at .later [] _ _ _ _ fnExactRowAt.said (fun _ h => by cases h) (by kernel_rfl) (fun _ h => by cases h) fnExactRowAt_row_tie rfl ⟨rfl, rfl⟩ (by kernel_rfl) rfl fnExactRowAt.plain (by kernel_rfl)
#print axioms fnExactRowAt_card
end Go.Proofs.YtladmjhokdgipabDoor
