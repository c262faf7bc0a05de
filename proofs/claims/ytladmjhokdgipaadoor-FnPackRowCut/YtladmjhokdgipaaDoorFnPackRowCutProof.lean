/-
  At every two codes of at most 2^20 bytes: a row's bytes that end too early are none; two rows' bytes, one behind the other, are read one behind the other.
-/
import Derived.Test.YtladmjhokdgipaaDoorCards
import Derived.Test.YtladmjhokdgipaaDoorTie
import Derived.Test.YtladmjhokdgipaaDoorDpk
import Derived.Test.YtladmjhokdgipaaDoorRpl
import Derived.Test.YtladmjhokdgipaaDoorPri
import Derived.Test.YtladmjhokdgipaaDoorRwi
import Derived.WalkKit
import Derived.ProofKit
import Derived.OpenShut
import Derived.ShutString
import Derived.ChangeOld
import Derived.Below
import Derived.Carry
import Derived.Handy
import Derived.Deep.RegionHeld3
import Derived.LaidMore
namespace Go.Proofs.YtladmjhokdgipaaDoor.fnPackRowCut
open Go.Proofs.YtladmjhokdgipaaDoor.Lab
open Go.ChangeShapes Go.WideShapes Go.ChangeAt Go.RowKit
open Go.ChangeMaps (open_string shut_string)
set_option linter.unusedVariables false

theorem own : ownKnob Tryd.prog.godebug = none := by kernel_rfl
/-- A row of numbers that came in: nil, or so many cells. -/
def IsRow (k : IntKind) (w : World) (a : Option Addr) (len cap : Nat) (zs : List Int) : Prop :=
  (a = none ∧ len = 0 ∧ cap = 0 ∧ zs = []) ∨ ∃ x, a = some x ∧ len ≤ cap ∧ cap ≤ maxLen ∧ zs.length = cap ∧ (∀ i, i < zs.length → w.cell? (x.add i) = some (.int k (zs.getD i 0))) ∧ ∀ n ∈ zs, (Lit.int k n).wf = true

set_option maxHeartbeats 4000000 in
theorem walk (a0 : Option Addr) (len0 cap0 : Nat) (z0 : List Int) (a1 : Option Addr) (len1 cap1 : Nat) (z1 : List Int) (w : World) (w0 : IsRow .u8 w a0 len0 cap0 z0) (w1 : IsRow .u8 w a1 len1 cap1 z1) (hform : FormAt w) :
    Calls Tryd.prog 5 #[.slice a0 len0 cap0, .slice a1 len1 cap1] w fun e w' => e = .returned (.bool true) ∧ Below w.heap.size w w' := by
  have HF : Hid (FormAt w) := hform
  clear hform
  by_cases hlen : len0 > 1048576
  · go_enter Tryd.func5, Tryd.ntmps5
    go_wp2
    go_ret
    exact ⟨rfl, Below.refl _ _⟩
  by_cases hlen1 : len1 > 1048576
  · go_enter Tryd.func5, Tryd.ntmps5
    go_wp2
    go_ret
    exact ⟨rfl, Below.refl _ _⟩
  have k0 : CodeAt w a0 len0 cap0 z0 := code_of w0
  have k1 : CodeAt w a1 len1 cap1 z1 := code_of w1
  clear w0 w1
  go_enter Tryd.func5, Tryd.ntmps5
  go_wp2_with fail
  refine (drawPackRow _ _ _ _ _ k0).mono ?_
  rintro e wa ⟨u, xs, rfl, ou, lx, ba⟩
  have k1' := k1.below ba
  have HA : Hid (Below w.heap.size w wa ∧ wa.ownsRow w.heap.size 3 1 u xs.length (xs.flatMap encI)) := ⟨ba, ou⟩
  clear ba ou k0 k1
  go_wp2_with fail
  refine (drawPackRow _ _ _ _ _ k1').mono ?_
  rintro e wb ⟨v, ys, rfl, ov, ly, bb⟩
  have Rb : Hid (Below w.heap.size w wb ∧ RowAt 1 encI wb u xs ∧ RowAt 1 encI wb v ys) := ⟨HA.out.1.trans (bb.mono HA.out.1.size), (row_of_own encI_len (by decide) HA.out.2).keep bb, row_of_own encI_len (by decide) ov⟩
  clear ov bb k1' HA
  have lx2 : xs.length ≤ 1048576 := by omega
  have ly2 : ys.length ≤ 1048576 := by omega
  obtain ⟨S, hS⟩ : ∃ S, S = rowL xs := ⟨_, rfl⟩
  obtain ⟨T, hT⟩ : ∃ T, T = rowL ys := ⟨_, rfl⟩
  have HS : Hid (S = rowL xs ∧ T = rowL ys) := ⟨hS, hT⟩
  have lS : S.length ≤ 20 := by
    rw [hS]; unfold rowL; split
    · have := rowK_len xs xs.length; omega
    · simp
  have lT : T.length ≤ 20 := by
    rw [hT]; unfold rowL; split
    · have := rowK_len ys ys.length; omega
    · simp
  clear hS hT
  go_wp2_with fail
  refine (impl_PackRow u xs _ Rb.out.2.1 lx2).mono ?_
  rintro e y1 ⟨rfl, by1⟩
  have Ry1 : Hid (Below w.heap.size w y1 ∧ RowAt 1 encI y1 u xs ∧ RowAt 1 encI y1 v ys) := ⟨Rb.out.1.trans (by1.mono Rb.out.1.size), Rb.out.2.1.keep by1, Rb.out.2.2.keep by1⟩
  clear by1
  rw [← HS.out.1]
  go_wp2_with fail
  refine (impl_PackRow v ys _ Ry1.out.2.2 ly2).mono ?_
  rintro e y2 ⟨rfl, by2⟩
  have Ry2 : Hid (Below w.heap.size w y2 ∧ RowAt 1 encI y2 u xs ∧ RowAt 1 encI y2 v ys) := ⟨Ry1.out.1.trans (by2.mono Ry1.out.1.size), Ry1.out.2.1.keep by2, Ry1.out.2.2.keep by2⟩
  clear by2
  rw [← HS.out.2]
  go_wp2_with fail
  refine (spec_PackRow u xs _ Ry2.out.2.1 lx2).mono ?_
  rintro e y3 ⟨rfl, by3⟩
  have Ry3 : Hid (Below w.heap.size w y3 ∧ RowAt 1 encI y3 u xs ∧ RowAt 1 encI y3 v ys) := ⟨Ry2.out.1.trans (by3.mono Ry2.out.1.size), Ry2.out.2.1.keep by3, Ry2.out.2.2.keep by3⟩
  clear by3
  rw [← HS.out.1]
  go_wp2_with fail
  refine (spec_PackRow v ys _ Ry3.out.2.2 ly2).mono ?_
  rintro e y4 ⟨rfl, by4⟩
  have Ry4 : Hid (Below w.heap.size w y4 ∧ RowAt 1 encI y4 u xs ∧ RowAt 1 encI y4 v ys) := ⟨Ry3.out.1.trans (by4.mono Ry3.out.1.size), Ry3.out.2.1.keep by4, Ry3.out.2.2.keep by4⟩
  clear by4
  rw [← HS.out.2]
  by_cases hS0 : S = []
  · subst hS0
    go_wp2_with fail
    refine (spec_PackRow u xs _ Ry4.out.2.1 lx2).mono ?_
    rintro e y5 ⟨rfl, by5⟩
    have Ry5 : Hid (Below w.heap.size w y5 ∧ RowAt 1 encI y5 u xs ∧ RowAt 1 encI y5 v ys) := ⟨Ry4.out.1.trans (by5.mono Ry4.out.1.size), Ry4.out.2.1.keep by5, Ry4.out.2.2.keep by5⟩
    clear by5
    rw [← HS.out.1]
    go_wp2_with fail
    refine (spec_PackRow v ys _ Ry5.out.2.2 ly2).mono ?_
    rintro e y6 ⟨rfl, by6⟩
    have Ry6 : Hid (Below w.heap.size w y6 ∧ RowAt 1 encI y6 u xs ∧ RowAt 1 encI y6 v ys) := ⟨Ry5.out.1.trans (by6.mono Ry5.out.1.size), Ry5.out.2.1.keep by6, Ry5.out.2.2.keep by6⟩
    clear by6
    rw [← HS.out.2]
    go_wp2_with fail
    go_ret
    exact ⟨rfl, Ry6.out.1⟩
  have sS : S.isEmpty = false := by cases S with | nil => exact absurd rfl hS0 | cons x l => rfl
  by_cases hT0 : T = []
  · subst hT0
    go_wp2_with fail
    refine (spec_PackRow u xs _ Ry4.out.2.1 lx2).mono ?_
    rintro e y7 ⟨rfl, by7⟩
    have Ry7 : Hid (Below w.heap.size w y7 ∧ RowAt 1 encI y7 u xs ∧ RowAt 1 encI y7 v ys) := ⟨Ry4.out.1.trans (by7.mono Ry4.out.1.size), Ry4.out.2.1.keep by7, Ry4.out.2.2.keep by7⟩
    clear by7
    rw [← HS.out.1]
    go_wp2_with fail
    refine (spec_PackRow v ys _ Ry7.out.2.2 ly2).mono ?_
    rintro e y8 ⟨rfl, by8⟩
    have Ry8 : Hid (Below w.heap.size w y8 ∧ RowAt 1 encI y8 u xs ∧ RowAt 1 encI y8 v ys) := ⟨Ry7.out.1.trans (by8.mono Ry7.out.1.size), Ry7.out.2.1.keep by8, Ry7.out.2.2.keep by8⟩
    clear by8
    rw [← HS.out.2]
    go_wp2_with fail
    go_ret
    exact ⟨rfl, Ry8.out.1⟩
  have sT : T.isEmpty = false := by cases T with | nil => exact absurd rfl hT0 | cons x l => rfl
  have ux : upB xs = true := by
    cases hu : upB xs
    · exact absurd (by rw [HS.out.1]; simp [rowL, hu]) hS0
    · rfl
  have uy : upB ys = true := by
    cases hu : upB ys
    · exact absurd (by rw [HS.out.2]; simp [rowL, hu]) hT0
    · rfl
  have s1 : 0 < S.length := List.length_pos_iff.2 hS0
  have F1 : Hid (rwO ⟨S.dropLast.toArray⟩ 0 = none) := by show rwO _ _ = _; rw [HS.out.1]; exact rw_cut ux
  have F2 : Hid (rwO ⟨(S ++ T).toArray⟩ 0 = some (xs, (S.length : Int))) := by
    show rwO _ _ = _
    have := rw_at [] T ux
    rw [← HS.out.1] at this
    simpa using this
  have F3 : Hid (rwO ⟨(S ++ T).toArray⟩ (S.length : Int) = some (ys, (S.length : Int) + (T.length : Int))) := by
    show rwO _ _ = _
    have := rw_at S [] uy
    rw [← HS.out.2] at this
    simpa using this
  have hz1 : (ByteArray.mk S.toArray).size = S.length := size_mk S
  have hz2 : (ByteArray.mk T.toArray).size = T.length := size_mk T
  have hex : (ByteArray.mk S.toArray).extract 0 (S.length - 1) = ⟨S.dropLast.toArray⟩ := by
    apply ByteArray.ext
    rw [ByteArray.data_extract]
    apply Array.toList_inj.1
    rw [Array.toList_extract]
    simp [List.extract, List.dropLast_eq_take]
  have happ := app_bytes S T
  have si : (1 : Int) ≤ (S.length : Int) := by omega
  have sj : ((S.length : Int) - 1).toNat = S.length - 1 := by omega
  clear ux uy hS0 hT0
  go_wp2_with fail
  refine (impl_RowAt ⟨S.dropLast.toArray⟩ 0 _ (by rw [size_mk, List.length_dropLast]; omega) (HF.out.keep Ry4.out.1)).mono ?_
  rintro e z1 ⟨t1, rfl, ret1, b1⟩
  rw [F1.out] at ret1
  obtain ⟨u1, rfl, _⟩ := ret1
  have Rz1 : Hid (Below w.heap.size w z1 ∧ RowAt 1 encI z1 u xs ∧ RowAt 1 encI z1 v ys) := ⟨Ry4.out.1.trans (b1.mono Ry4.out.1.size), Ry4.out.2.1.keep b1, Ry4.out.2.2.keep b1⟩
  clear b1 hex sj
  go_wp2_with fail
  refine (impl_RowAt ⟨(S ++ T).toArray⟩ 0 _ (by rw [size_mk, List.length_append]; omega) (HF.out.keep Rz1.out.1)).mono ?_
  rintro e z2 ⟨t2, rfl, ret2, b2⟩
  rw [F2.out] at ret2
  obtain ⟨u2, rfl, o2⟩ := ret2
  have Rz2 : Hid (Below w.heap.size w z2 ∧ RowAt 1 encI z2 u xs ∧ RowAt 1 encI z2 v ys ∧ RowAt 1 encI z2 u2 xs) := ⟨Rz1.out.1.trans (b2.mono Rz1.out.1.size), Rz1.out.2.1.keep b2, Rz1.out.2.2.keep b2, row_of_own encI_len (by decide) o2⟩
  clear b2 o2
  go_wp2_with fail
  refine (impl_RowAt ⟨(S ++ T).toArray⟩ (S.length : Int) _ (by rw [size_mk, List.length_append]; omega) (HF.out.keep Rz2.out.1)).mono ?_
  rintro e z3 ⟨t3, rfl, ret3, b3⟩
  rw [F3.out] at ret3
  obtain ⟨u3, rfl, o3⟩ := ret3
  have Rz3 : Hid (Below w.heap.size w z3 ∧ RowAt 1 encI z3 u xs ∧ RowAt 1 encI z3 v ys ∧ RowAt 1 encI z3 u2 xs ∧ RowAt 1 encI z3 u3 ys) := ⟨Rz2.out.1.trans (b3.mono Rz2.out.1.size), Rz2.out.2.1.keep b3, Rz2.out.2.2.1.keep b3, Rz2.out.2.2.2.keep b3, row_of_own encI_len (by decide) o3⟩
  clear b3 o3
  go_wp2_with fail
  refine (wpInts u2 u xs xs _ Rz3.out.2.2.2.1 Rz3.out.2.1 lx2 lx2).mono ?_
  rintro e z4 ⟨rfl, b4⟩
  rw [eqB_true.2 rfl]
  have Rz4 : Hid (Below w.heap.size w z4 ∧ RowAt 1 encI z4 v ys ∧ RowAt 1 encI z4 u3 ys) := ⟨Rz3.out.1.trans (b4.mono Rz3.out.1.size), Rz3.out.2.2.1.keep b4, Rz3.out.2.2.2.2.keep b4⟩
  clear b4
  go_wp2_with fail
  refine (wpInts u3 v ys ys _ Rz4.out.2.2 Rz4.out.2.1 ly2 ly2).mono ?_
  rintro e z5 ⟨rfl, b5⟩
  rw [eqB_true.2 rfl]
  have Rz5 : Hid (Below w.heap.size w z5) := Rz4.out.1.trans (b5.mono Rz4.out.1.size)
  clear b5
  go_wp2_with fail
  go_ret
  exact ⟨by simp, Rz5.out⟩

theorem door_met (os : Os) (args : Array Value) : laidMetH Tryd.prog Rows.fnPackRowCutRow.laid ((World.doorLaid Tryd.prog 28 os).forCall (fun _ _ => 0) ⟨#[], args, []⟩).memory :=
  laidMetH_of_parts3 (fuel := 8) (laidMet_of_run' 8 (by kernel_rfl) (by kernel_rfl)) (by kernel_rfl) (by kernel_rfl)

set_option maxRecDepth 100000 in
set_option maxHeartbeats 1000000 in
theorem lifted (os : Os) (started : os.Started) (H : Type) (enc : TypeId × Value → H) :
    ReturnsInHanded {} Tryd.checked os 5 .any (fun w args => (Rows.fnPackRowCutSpec.pre enc Tryd.prog Tryd.f5 [] false w args ∧ laidMetH Tryd.prog Rows.fnPackRowCutRow.laid w) ∧ sizedMet enc Tryd.prog Tryd.f5 (OpenSpec.ofChange Rows.fnPackRowCutSpec) false w args)
      (Rows.fnPackRowCutSpec.post enc Tryd.prog Tryd.f5 false true false false) := by
  refine returnsInHanded_of_change_and (C := Tryd.checked) (X := fun w _ => laidMetH Tryd.prog Rows.fnPackRowCutRow.laid w) (fun _ _ _ hh h => h.of_heap hh) own started (by kernel_rfl) Tryd.func5
    (ChangeSpec.witness_shaped (enc := enc) (C := Tryd.checked) (os := os) (X := fun w _ => laidMetH Tryd.prog Rows.fnPackRowCutRow.laid w) false (World.doorLaid Tryd.prog 28 os) #[.slice none 0 0, .slice none 0 0] 8 rfl (World.shaped_of_RefB (by kernel_rfl) (by kernel_rfl)) (by kernel_rfl) (by kernel_rfl) (by kernel_rfl) (door_met os _)) ?_
  intro W base args ds gs before hval0 hW _ _ hL _
  have hval : ∀ (j : Nat) t v, Tryd.f5.params[j]? = some t → args[j]? = some v → Value.okWide Tryd.prog W .any base t v := hval0
  have hW' := hW
  obtain ⟨p, q, hA0, hV0, rfl, hfz, hnd⟩ := hW
  have hA : DataW.TrodAll enc Tryd.prog W 0 (fun _ => true) true Tryd.f5.params.toList args.toList ds p := hA0
  have hV : DataW.TrodVars enc Tryd.prog W (fun _ => true) ["loop.example/hagioscope/impl.errForm"] gs q := hV0
  rw [Tryd.params5] at hA hval
  obtain ⟨v0, vs0, d0, ds0, p0, q0, hargs, rfl, rfl, h0, r0⟩ := trodAll_cons hA
  obtain ⟨v1, vs1, d1, ds1, p1, q1, rfl, rfl, rfl, h1, r1⟩ := trodAll_cons r0
  obtain ⟨rfl, rfl, rfl⟩ := trodAll_nil r1
  obtain rfl : args = #[v0, v1] := by cases args; simp_all
  have kr0 := h0
  have lt0 : ∀ x ∈ p0, x.block < W.heap.size := by obtain ⟨m, hm⟩ := kr0; exact DataW.trod_lt m _ _ _ hm
  have kr1 := h1
  have lt1 : ∀ x ∈ p1, x.block < W.heap.size := by obtain ⟨m, hm⟩ := kr1; exact DataW.trod_lt m _ _ _ hm
  obtain ⟨a0, len0, cap0, rfl⟩ := okWide_slice Tryd.underlying22 (hval 0 22 v0 rfl rfl)
  obtain ⟨z0, w0⟩ : ∃ zs, IsRow .u8 W a0 len0 cap0 zs := by
    obtain ⟨fuel, hf⟩ := h0
    rcases open_ints Tryd.underlying22 Tryd.underlying5 (by kernel_rfl) hf with ⟨hcs, _⟩ | ⟨x, l, c, zs, hcs, _, hl, hm, hz, _, hcell, hwz⟩
    · simp [Value.cells] at hcs
      obtain ⟨rfl, rfl, rfl⟩ := hcs
      exact ⟨[], .inl ⟨rfl, rfl, rfl, rfl⟩⟩
    · simp [Value.cells] at hcs
      obtain ⟨rfl, rfl, rfl⟩ := hcs
      exact ⟨zs, .inr ⟨_, rfl, hl, hm, by simpa using hz, hcell, hwz⟩⟩
  obtain ⟨a1, len1, cap1, rfl⟩ := okWide_slice Tryd.underlying22 (hval 1 22 v1 rfl rfl)
  obtain ⟨z1, w1⟩ : ∃ zs, IsRow .u8 W a1 len1 cap1 zs := by
    obtain ⟨fuel, hf⟩ := h1
    rcases open_ints Tryd.underlying22 Tryd.underlying5 (by kernel_rfl) hf with ⟨hcs, _⟩ | ⟨x, l, c, zs, hcs, _, hl, hm, hz, _, hcell, hwz⟩
    · simp [Value.cells] at hcs
      obtain ⟨rfl, rfl, rfl⟩ := hcs
      exact ⟨[], .inl ⟨rfl, rfl, rfl, rfl⟩⟩
    · simp [Value.cells] at hcs
      obtain ⟨rfl, rfl, rfl⟩ := hcs
      exact ⟨zs, .inr ⟨_, rfl, hl, hm, by simpa using hz, hcell, hwz⟩⟩
  obtain ⟨g, t, cs, fuel, d, p', rfl, hg, ht, hvar, hd, rfl⟩ := trodVars_one hV
  obtain rfl := Option.some.inj (gForm.symm.trans hg)
  obtain rfl := Option.some.inj (tForm.symm.trans ht)
  obtain ⟨fu, fv, hff⟩ := form_of hL
  obtain rfl : cs = #[.iface fu fv] := Option.some.inj (hvar.symm.trans hff)
  have hform : FormAt W := formAt_of hff
  obtain ⟨_, _, hheap⟩ := heap_of_var gForm hff
  clear hA0 hV0 hval0
  refine (walk a0 len0 cap0 z0 a1 len1 cap1 z1 W w0 w1 hform).mono fun e W' ⟨he, bel⟩ => ?_
  subst he
  exact ⟨_, rfl, _, _, _, [], _, _, hW', trodAll_mk1 (shut_bool Tryd.underlying4 _), (trodAll_cons_mk (Below.trod laidOut (by kernel_rfl) (of_decide_eq_true (by kernel_rfl)) kr0 bel lt0) (trodAll_cons_mk (Below.trod laidOut (by kernel_rfl) (of_decide_eq_true (by kernel_rfl)) kr1 bel lt1) trodAll_mk0)), trodVars_mk1 gForm tForm (var?_below bel gForm (lt_of_block hheap) hff) (held_again Tryd.underlying42 hd), bel.frame _, fun h => by cases h⟩

theorem said : Rows.FnPackRowCutSaid :=
  OpenClaim.holds_of_wide 5 Tryd.f5 rfl rfl rfl rfl rfl rfl rfl ⟨rfl, rfl, rfl, rfl, rfl⟩ rfl rfl rfl rfl rfl (by kernel_rfl) Tryd.func5 (by kernel_rfl)
    (of_decide_eq_true (by kernel_rfl)) (by unfold Func.isWrapper; first | (rw [if_pos (by decide +kernel)]; kernel_rfl) | (rw [if_neg (by decide +kernel)]; exact ⟨rfl, rfl⟩))
    (fun os started H enc _ => lifted os started H enc)

theorem plain (f : FuncId) (fn : Func) (hf : Tryd.pinned.checked.prog.funcNamed "loop.example/hagioscope/laws.FnPackRowCut" = some f) (hfn : Tryd.pinned.checked.prog.funcs[f]? = some fn) :
    false = Tryd.pinned.checked.prog.looks [] ∧ ∀ (j : Nat) t, fn.params[j]? = some t → Tryd.pinned.checked.prog.wantsStandIn t = false := by
  obtain rfl : f = 5 := Option.some.inj ((show Tryd.prog.funcNamed "loop.example/hagioscope/laws.FnPackRowCut" = some 5 by kernel_rfl).symm.trans hf) |>.symm
  obtain rfl : fn = Tryd.f5 := (Option.some.inj (Tryd.func5.symm.trans hfn)).symm
  refine ⟨by kernel_rfl, fun j t ht => ?_⟩
  rw [Tryd.params5] at ht
  obtain rfl : t = 22 := by simpa using Array.mem_of_getElem? ht
  · exact (show Tryd.prog.wantsStandIn 22 = false by kernel_rfl)

end Go.Proofs.YtladmjhokdgipaaDoor.fnPackRowCut
namespace Go.Proofs.YtladmjhokdgipaaDoor
theorem fnPackRowCut_card : Rows.FnPackRowCutCardSaid :=
  Claim7.holds_tied_plain_at .later [] _ _ _ _ fnPackRowCut.said (fun _ h => by cases h) (by kernel_rfl) (fun _ h => by cases h) fnPackRowCut_row_tie rfl ⟨rfl, rfl⟩ (by kernel_rfl) rfl fnPackRowCut.plain (by kernel_rfl)
#print axioms fnPackRowCut_card
end Go.Proofs.YtladmjhokdgipaaDoor
