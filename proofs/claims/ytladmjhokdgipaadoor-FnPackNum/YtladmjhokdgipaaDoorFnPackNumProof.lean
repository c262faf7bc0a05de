/-
  At every two codes of at most 2^20 bytes: a number is read from its bytes, whatever is behind them; what is read has those bytes; impl answers as spec.
-/
import Derived.Test.YtladmjhokdgipaaDoorCards
import Derived.Test.YtladmjhokdgipaaDoorTie
import Derived.Test.YtladmjhokdgipaaDoorDnm
import Derived.Test.YtladmjhokdgipaaDoorNrd
import Derived.Test.YtladmjhokdgipaaDoorRwi
import Derived.WalkKit
import Derived.ProofKit
import Derived.OpenShut
import Derived.ShutString
import Derived.ChangeOld
import Derived.Below
import Derived.Carry
import Derived.Handy
import Derived.Deep.RegionHeld3
import Derived.LaidMore
namespace Go.Proofs.YtladmjhokdgipaaDoor.fnPackNum
open Go.Proofs.YtladmjhokdgipaaDoor.Lab
open Go.ChangeShapes Go.WideShapes Go.ChangeAt Go.RowKit
open Go.ChangeMaps (open_string shut_string)
set_option linter.unusedVariables false

theorem own : ownKnob Tryd.prog.godebug = none := by kernel_rfl
/-- A row of numbers that came in: nil, or so many cells. -/
def IsRow (k : IntKind) (w : World) (a : Option Addr) (len cap : Nat) (zs : List Int) : Prop :=
  (a = none ∧ len = 0 ∧ cap = 0 ∧ zs = []) ∨ ∃ x, a = some x ∧ len ≤ cap ∧ cap ≤ maxLen ∧ zs.length = cap ∧ (∀ i, i < zs.length → w.cell? (x.add i) = some (.int k (zs.getD i 0))) ∧ ∀ n ∈ zs, (Lit.int k n).wf = true

set_option maxHeartbeats 4000000 in
theorem walk (a0 : Option Addr) (len0 cap0 : Nat) (z0 : List Int) (a1 : Option Addr) (len1 cap1 : Nat) (z1 : List Int) (w : World) (w0 : IsRow .u8 w a0 len0 cap0 z0) (w1 : IsRow .u8 w a1 len1 cap1 z1) (hform : FormAt w) :
    Calls Tryd.prog 3 #[.slice a0 len0 cap0, .slice a1 len1 cap1] w fun e w' => e = .returned (.bool true) ∧ Below w.heap.size w w' := by
  have HF : Hid (FormAt w) := hform
  clear hform
  by_cases hlen : len0 > 1048576
  · go_enter Tryd.func3, Tryd.ntmps3
    go_wp2
    go_ret
    exact ⟨rfl, Below.refl _ _⟩
  by_cases hlen1 : len1 > 1048576
  · go_enter Tryd.func3, Tryd.ntmps3
    go_wp2
    go_ret
    exact ⟨rfl, Below.refl _ _⟩
  have k0 : CodeAt w a0 len0 cap0 z0 := code_of w0
  have k1 : CodeAt w a1 len1 cap1 z1 := code_of w1
  clear w0 w1
  go_enter Tryd.func3, Tryd.ntmps3
  go_wp2_with fail
  refine (drawPackNum _ _ _ _ _ k0).mono ?_
  rintro e wa ⟨n, rfl, _, ba⟩
  have k1' := k1.below ba
  have HA : Hid (Below w.heap.size w wa) := ba
  have HK : Hid (CodeAt wa a1 len1 cap1 z1) := k1'
  clear ba k0 k1 k1'
  go_wp2_with fail
  refine (impl_PackNum0 n _).mono ?_
  rintro e wb ⟨rfl, bb⟩
  have HB : Hid (Below w.heap.size w wb) := HA.out.trans (bb.mono HA.out.size)
  have HK2 : Hid (CodeAt wb a1 len1 cap1 z1) := HK.out.below bb
  clear bb HK HA
  go_wp2_with fail
  refine (drawNumAt _ _ _ _ _ HK2.out).mono ?_
  rintro e wc ⟨l, p, rfl, hl, bc⟩
  have HC : Hid (Below w.heap.size w wc) := HB.out.trans (bc.mono HB.out.size)
  have hz : (ByteArray.mk l.toArray).size = l.length := size_mk l
  clear bc HK2 HB
  obtain ⟨s, hs⟩ : ∃ s, s = pkL n := ⟨_, rfl⟩
  have es : pkB n = ⟨s.toArray⟩ := by rw [hs]; rfl
  have hsl : s.length ≤ 2 := by rw [hs]; exact pkL_len n
  have HS : Hid (s = pkL n) := hs
  have hz2 : (ByteArray.mk s.toArray).size = s.length := size_mk s
  have happ := app_bytes s l
  rw [es]
  have HES : Hid (pkB n = ⟨s.toArray⟩) := es
  clear hs es
  cases hq : nmO ⟨l.toArray⟩ p with
  | none =>
    have HQ : Hid (nmO ⟨l.toArray⟩ p = none) := hq
    clear hq
    go_wp2_with fail
    refine (impl_NumAt ⟨l.toArray⟩ p _ (by omega) (HF.out.keep HC.out)).mono ?_
    rintro e wd ⟨rfl, bd⟩
    rw [HQ.out]
    simp only [nmV]
    have HD : Hid (Below w.heap.size w wd) := HC.out.trans (bd.mono HC.out.size)
    clear bd
    go_wp2_with fail
    refine (spec_NumAt ⟨l.toArray⟩ p _ (by omega)).mono ?_
    rintro e we ⟨rfl, be⟩
    rw [HQ.out]
    simp only [nmV]
    have HE : Hid (Below w.heap.size w we) := HD.out.trans (be.mono HD.out.size)
    clear be
    go_wp2_with fail
    refine (spec_PackNum0 n _).mono ?_
    rintro e wf ⟨rfl, bf⟩
    rw [HES.out]
    have HF2 : Hid (Below w.heap.size w wf) := HE.out.trans (bf.mono HE.out.size)
    clear bf
    go_wp2_with fail
    refine (impl_NumAt ⟨(s ++ l).toArray⟩ 0 _ (by rw [size_mk, List.length_append]; omega) (HF.out.keep HF2.out)).mono ?_
    rintro e wg ⟨rfl, bg⟩
    have HG : Hid (Below w.heap.size w wg) := HF2.out.trans (bg.mono HF2.out.size)
    clear bg
    by_cases hn : n < 0 ∨ 16383 < n
    · have s0 : s = [] := by rw [HS.out]; exact pkL_out hn
      subst s0
      have hnd : (decide (0 ≤ n) && decide (n ≤ 16383)) = false := by rw [Bool.and_eq_false_iff]; simp; omega
      cases hq2 : nmO ⟨(([] : List UInt8) ++ l).toArray⟩ 0 with
      | none =>
        simp only [nmV]
        by_cases hn0 : n < 0
        ·
          go_wp2_with fail
          refine wp_region_after (by kernel_rfl) (by kernel_rfl) ?_
          intro hne hac
          repeat (go_big_quiet_step (fail))
          refine wpQuiet_nil ?_
          rintro _ ⟨pw, rfl⟩
          have HZ : Hid (Below w.heap.size w pw.w) := HG.out.trans (pw.bel.mono HG.out.size)
          clear hne hac
          generalize pw.w = wz at *
          go_wp2_with fail
          go_ret
          exact ⟨rfl, HZ.out⟩
        · have hn1 : 16383 < n := by omega
          go_wp2_with fail
          refine wp_region_after (by kernel_rfl) (by kernel_rfl) ?_
          intro hne hac
          repeat (go_big_quiet_step (fail))
          refine wpQuiet_nil ?_
          rintro _ ⟨pw, rfl⟩
          have HZ : Hid (Below w.heap.size w pw.w) := HG.out.trans (pw.bel.mono HG.out.size)
          clear hne hac
          generalize pw.w = wz at *
          go_wp2_with fail
          go_ret
          exact ⟨rfl, HZ.out⟩
      | some y2 =>
        obtain ⟨x2, q2⟩ := y2
        simp only [nmV]
        by_cases hn0 : n < 0
        ·
          go_wp2_with fail
          refine wp_region_after (by kernel_rfl) (by kernel_rfl) ?_
          intro hne hac
          repeat (go_big_quiet_step (fail))
          refine wpQuiet_nil ?_
          rintro _ ⟨pw, rfl⟩
          have HZ : Hid (Below w.heap.size w pw.w) := HG.out.trans (pw.bel.mono HG.out.size)
          clear hne hac
          generalize pw.w = wz at *
          go_wp2_with fail
          go_ret
          exact ⟨rfl, HZ.out⟩
        · have hn1 : 16383 < n := by omega
          go_wp2_with fail
          refine wp_region_after (by kernel_rfl) (by kernel_rfl) ?_
          intro hne hac
          repeat (go_big_quiet_step (fail))
          refine wpQuiet_nil ?_
          rintro _ ⟨pw, rfl⟩
          have HZ : Hid (Below w.heap.size w pw.w) := HG.out.trans (pw.bel.mono HG.out.size)
          clear hne hac
          generalize pw.w = wz at *
          go_wp2_with fail
          go_ret
          exact ⟨rfl, HZ.out⟩
    · have G1 : nmO ⟨(s ++ l).toArray⟩ 0 = some (n, (s.length : Int)) := by
        have := nm_at [] l (n := n) (by omega) (by omega)
        rw [← HS.out] at this
        simpa using this
      have s0 : s.isEmpty = false := by
        cases hs0 : s with
        | nil => exfalso; have := (pkL_nil n).1 (by rw [← HS.out]; exact hs0); omega
        | cons a b => rfl
      rw [G1]
      simp only [nmV]
      clear G1
      go_wp2_with fail
      refine wp_region_after (by kernel_rfl) (by kernel_rfl) ?_
      intro hne hac
      repeat (go_big_quiet_step (fail))
      refine wpQuiet_nil ?_
      rintro _ ⟨pw, rfl⟩
      have HZ : Hid (Below w.heap.size w pw.w) := HG.out.trans (pw.bel.mono HG.out.size)
      clear hne hac
      generalize pw.w = wz at *
      go_wp2_with fail
      go_ret
      exact ⟨rfl, HZ.out⟩
  | some y =>
    obtain ⟨x, q⟩ := y
    have bd := nmO_bd hq
    rw [hz] at bd
    have HX : Hid ((ByteArray.mk l.toArray).extract p.toNat q.toNat = pkB x) := nm_back hq
    have HQ : Hid (nmO ⟨l.toArray⟩ p = some (x, q)) := hq
    clear hq
    go_wp2_with fail
    refine (impl_NumAt ⟨l.toArray⟩ p _ (by omega) (HF.out.keep HC.out)).mono ?_
    rintro e wd ⟨rfl, bd⟩
    rw [HQ.out]
    simp only [nmV]
    have HD : Hid (Below w.heap.size w wd) := HC.out.trans (bd.mono HC.out.size)
    clear bd
    go_wp2_with fail
    refine (spec_NumAt ⟨l.toArray⟩ p _ (by omega)).mono ?_
    rintro e we ⟨rfl, be⟩
    rw [HQ.out]
    simp only [nmV]
    have HE : Hid (Below w.heap.size w we) := HD.out.trans (be.mono HD.out.size)
    clear be
    go_wp2_with fail
    refine (spec_PackNum0 n _).mono ?_
    rintro e wf ⟨rfl, bf⟩
    rw [HES.out]
    have HF2 : Hid (Below w.heap.size w wf) := HE.out.trans (bf.mono HE.out.size)
    clear bf
    go_wp2_with fail
    refine (impl_NumAt ⟨(s ++ l).toArray⟩ 0 _ (by rw [size_mk, List.length_append]; omega) (HF.out.keep HF2.out)).mono ?_
    rintro e wg ⟨rfl, bg⟩
    have HG : Hid (Below w.heap.size w wg) := HF2.out.trans (bg.mono HF2.out.size)
    clear bg
    by_cases hn : n < 0 ∨ 16383 < n
    · have s0 : s = [] := by rw [HS.out]; exact pkL_out hn
      subst s0
      have hnd : (decide (0 ≤ n) && decide (n ≤ 16383)) = false := by rw [Bool.and_eq_false_iff]; simp; omega
      cases hq2 : nmO ⟨(([] : List UInt8) ++ l).toArray⟩ 0 with
      | none =>
        simp only [nmV]
        by_cases hn0 : n < 0
        ·
          go_wp2_with fail
          refine wp_region_after (by kernel_rfl) (by kernel_rfl) ?_
          intro hne hac
          repeat (go_big_quiet_step (first | (go_at_call 8; exact after_of (impl_PackNum0 x _))))
          refine wpQuiet_nil ?_
          rintro _ ⟨pw, rfl⟩
          have HZ : Hid (Below w.heap.size w pw.w) := HG.out.trans (pw.bel.mono HG.out.size)
          clear hne hac
          generalize pw.w = wz at *
          go_wp2_with fail
          go_ret
          exact ⟨by simp [HX.out], HZ.out⟩
        · have hn1 : 16383 < n := by omega
          go_wp2_with fail
          refine wp_region_after (by kernel_rfl) (by kernel_rfl) ?_
          intro hne hac
          repeat (go_big_quiet_step (first | (go_at_call 8; exact after_of (impl_PackNum0 x _))))
          refine wpQuiet_nil ?_
          rintro _ ⟨pw, rfl⟩
          have HZ : Hid (Below w.heap.size w pw.w) := HG.out.trans (pw.bel.mono HG.out.size)
          clear hne hac
          generalize pw.w = wz at *
          go_wp2_with fail
          go_ret
          exact ⟨by simp [HX.out], HZ.out⟩
      | some y2 =>
        obtain ⟨x2, q2⟩ := y2
        simp only [nmV]
        by_cases hn0 : n < 0
        ·
          go_wp2_with fail
          refine wp_region_after (by kernel_rfl) (by kernel_rfl) ?_
          intro hne hac
          repeat (go_big_quiet_step (first | (go_at_call 8; exact after_of (impl_PackNum0 x _))))
          refine wpQuiet_nil ?_
          rintro _ ⟨pw, rfl⟩
          have HZ : Hid (Below w.heap.size w pw.w) := HG.out.trans (pw.bel.mono HG.out.size)
          clear hne hac
          generalize pw.w = wz at *
          go_wp2_with fail
          go_ret
          exact ⟨by simp [HX.out], HZ.out⟩
        · have hn1 : 16383 < n := by omega
          go_wp2_with fail
          refine wp_region_after (by kernel_rfl) (by kernel_rfl) ?_
          intro hne hac
          repeat (go_big_quiet_step (first | (go_at_call 8; exact after_of (impl_PackNum0 x _))))
          refine wpQuiet_nil ?_
          rintro _ ⟨pw, rfl⟩
          have HZ : Hid (Below w.heap.size w pw.w) := HG.out.trans (pw.bel.mono HG.out.size)
          clear hne hac
          generalize pw.w = wz at *
          go_wp2_with fail
          go_ret
          exact ⟨by simp [HX.out], HZ.out⟩
    · have G1 : nmO ⟨(s ++ l).toArray⟩ 0 = some (n, (s.length : Int)) := by
        have := nm_at [] l (n := n) (by omega) (by omega)
        rw [← HS.out] at this
        simpa using this
      have s0 : s.isEmpty = false := by
        cases hs0 : s with
        | nil => exfalso; have := (pkL_nil n).1 (by rw [← HS.out]; exact hs0); omega
        | cons a b => rfl
      rw [G1]
      simp only [nmV]
      clear G1
      go_wp2_with fail
      refine wp_region_after (by kernel_rfl) (by kernel_rfl) ?_
      intro hne hac
      repeat (go_big_quiet_step (first | (go_at_call 8; exact after_of (impl_PackNum0 x _))))
      refine wpQuiet_nil ?_
      rintro _ ⟨pw, rfl⟩
      have HZ : Hid (Below w.heap.size w pw.w) := HG.out.trans (pw.bel.mono HG.out.size)
      clear hne hac
      generalize pw.w = wz at *
      go_wp2_with fail
      go_ret
      exact ⟨by simp [HX.out], HZ.out⟩

theorem door_met (os : Os) (args : Array Value) : laidMetH Tryd.prog Rows.fnPackNumRow.laid ((World.doorLaid Tryd.prog 28 os).forCall (fun _ _ => 0) ⟨#[], args, []⟩).memory :=
  laidMetH_of_parts3 (fuel := 8) (laidMet_of_run' 8 (by kernel_rfl) (by kernel_rfl)) (by kernel_rfl) (by kernel_rfl)

set_option maxRecDepth 100000 in
set_option maxHeartbeats 1000000 in
theorem lifted (os : Os) (started : os.Started) (H : Type) (enc : TypeId × Value → H) :
    ReturnsInHanded {} Tryd.checked os 3 .any (fun w args => (Rows.fnPackNumSpec.pre enc Tryd.prog Tryd.f3 [] false w args ∧ laidMetH Tryd.prog Rows.fnPackNumRow.laid w) ∧ sizedMet enc Tryd.prog Tryd.f3 (OpenSpec.ofChange Rows.fnPackNumSpec) false w args)
      (Rows.fnPackNumSpec.post enc Tryd.prog Tryd.f3 false true false false) := by
  refine returnsInHanded_of_change_and (C := Tryd.checked) (X := fun w _ => laidMetH Tryd.prog Rows.fnPackNumRow.laid w) (fun _ _ _ hh h => h.of_heap hh) own started (by kernel_rfl) Tryd.func3
    (ChangeSpec.witness_shaped (enc := enc) (C := Tryd.checked) (os := os) (X := fun w _ => laidMetH Tryd.prog Rows.fnPackNumRow.laid w) false (World.doorLaid Tryd.prog 28 os) #[.slice none 0 0, .slice none 0 0] 8 rfl (World.shaped_of_RefB (by kernel_rfl) (by kernel_rfl)) (by kernel_rfl) (by kernel_rfl) (by kernel_rfl) (door_met os _)) ?_
  intro W base args ds gs before hval0 hW _ _ hL _
  have hval : ∀ (j : Nat) t v, Tryd.f3.params[j]? = some t → args[j]? = some v → Value.okWide Tryd.prog W .any base t v := hval0
  have hW' := hW
  obtain ⟨p, q, hA0, hV0, rfl, hfz, hnd⟩ := hW
  have hA : DataW.TrodAll enc Tryd.prog W 0 (fun _ => true) true Tryd.f3.params.toList args.toList ds p := hA0
  have hV : DataW.TrodVars enc Tryd.prog W (fun _ => true) ["loop.example/hagioscope/impl.errForm"] gs q := hV0
  rw [Tryd.params3] at hA hval
  obtain ⟨v0, vs0, d0, ds0, p0, q0, hargs, rfl, rfl, h0, r0⟩ := trodAll_cons hA
  obtain ⟨v1, vs1, d1, ds1, p1, q1, rfl, rfl, rfl, h1, r1⟩ := trodAll_cons r0
  obtain ⟨rfl, rfl, rfl⟩ := trodAll_nil r1
  obtain rfl : args = #[v0, v1] := by cases args; simp_all
  have kr0 := h0
  have lt0 : ∀ x ∈ p0, x.block < W.heap.size := by obtain ⟨m, hm⟩ := kr0; exact DataW.trod_lt m _ _ _ hm
  have kr1 := h1
  have lt1 : ∀ x ∈ p1, x.block < W.heap.size := by obtain ⟨m, hm⟩ := kr1; exact DataW.trod_lt m _ _ _ hm
  obtain ⟨a0, len0, cap0, rfl⟩ := okWide_slice Tryd.underlying22 (hval 0 22 v0 rfl rfl)
  obtain ⟨z0, w0⟩ : ∃ zs, IsRow .u8 W a0 len0 cap0 zs := by
    obtain ⟨fuel, hf⟩ := h0
    rcases open_ints Tryd.underlying22 Tryd.underlying5 (by kernel_rfl) hf with ⟨hcs, _⟩ | ⟨x, l, c, zs, hcs, _, hl, hm, hz, _, hcell, hwz⟩
    · simp [Value.cells] at hcs
      obtain ⟨rfl, rfl, rfl⟩ := hcs
      exact ⟨[], .inl ⟨rfl, rfl, rfl, rfl⟩⟩
    · simp [Value.cells] at hcs
      obtain ⟨rfl, rfl, rfl⟩ := hcs
      exact ⟨zs, .inr ⟨_, rfl, hl, hm, by simpa using hz, hcell, hwz⟩⟩
  obtain ⟨a1, len1, cap1, rfl⟩ := okWide_slice Tryd.underlying22 (hval 1 22 v1 rfl rfl)
  obtain ⟨z1, w1⟩ : ∃ zs, IsRow .u8 W a1 len1 cap1 zs := by
    obtain ⟨fuel, hf⟩ := h1
    rcases open_ints Tryd.underlying22 Tryd.underlying5 (by kernel_rfl) hf with ⟨hcs, _⟩ | ⟨x, l, c, zs, hcs, _, hl, hm, hz, _, hcell, hwz⟩
    · simp [Value.cells] at hcs
      obtain ⟨rfl, rfl, rfl⟩ := hcs
      exact ⟨[], .inl ⟨rfl, rfl, rfl, rfl⟩⟩
    · simp [Value.cells] at hcs
      obtain ⟨rfl, rfl, rfl⟩ := hcs
      exact ⟨zs, .inr ⟨_, rfl, hl, hm, by simpa using hz, hcell, hwz⟩⟩
  obtain ⟨g, t, cs, fuel, d, p', rfl, hg, ht, hvar, hd, rfl⟩ := trodVars_one hV
  obtain rfl := Option.some.inj (gForm.symm.trans hg)
  obtain rfl := Option.some.inj (tForm.symm.trans ht)
  obtain ⟨fu, fv, hff⟩ := form_of hL
  obtain rfl : cs = #[.iface fu fv] := Option.some.inj (hvar.symm.trans hff)
  have hform : FormAt W := formAt_of hff
  obtain ⟨_, _, hheap⟩ := heap_of_var gForm hff
  clear hA0 hV0 hval0
  refine (walk a0 len0 cap0 z0 a1 len1 cap1 z1 W w0 w1 hform).mono fun e W' ⟨he, bel⟩ => ?_
  subst he
  exact ⟨_, rfl, _, _, _, [], _, _, hW', trodAll_mk1 (shut_bool Tryd.underlying4 _), (trodAll_cons_mk (Below.trod laidOut (by kernel_rfl) (of_decide_eq_true (by kernel_rfl)) kr0 bel lt0) (trodAll_cons_mk (Below.trod laidOut (by kernel_rfl) (of_decide_eq_true (by kernel_rfl)) kr1 bel lt1) trodAll_mk0)), trodVars_mk1 gForm tForm (var?_below bel gForm (lt_of_block hheap) hff) (held_again Tryd.underlying42 hd), bel.frame _, fun h => by cases h⟩

theorem said : Rows.FnPackNumSaid :=
  OpenClaim.holds_of_wide 3 Tryd.f3 rfl rfl rfl rfl rfl rfl rfl ⟨rfl, rfl, rfl, rfl, rfl⟩ rfl rfl rfl rfl rfl (by kernel_rfl) Tryd.func3 (by kernel_rfl)
    (of_decide_eq_true (by kernel_rfl)) (by unfold Func.isWrapper; first | (rw [if_pos (by decide +kernel)]; kernel_rfl) | (rw [if_neg (by decide +kernel)]; exact ⟨rfl, rfl⟩))
    (fun os started H enc _ => lifted os started H enc)

theorem plain (f : FuncId) (fn : Func) (hf : Tryd.pinned.checked.prog.funcNamed "loop.example/hagioscope/laws.FnPackNum" = some f) (hfn : Tryd.pinned.checked.prog.funcs[f]? = some fn) :
    false = Tryd.pinned.checked.prog.looks [] ∧ ∀ (j : Nat) t, fn.params[j]? = some t → Tryd.pinned.checked.prog.wantsStandIn t = false := by
  obtain rfl : f = 3 := Option.some.inj ((show Tryd.prog.funcNamed "loop.example/hagioscope/laws.FnPackNum" = some 3 by kernel_rfl).symm.trans hf) |>.symm
  obtain rfl : fn = Tryd.f3 := (Option.some.inj (Tryd.func3.symm.trans hfn)).symm
  refine ⟨by kernel_rfl, fun j t ht => ?_⟩
  rw [Tryd.params3] at ht
  obtain rfl : t = 22 := by simpa using Array.mem_of_getElem? ht
  · exact (show Tryd.prog.wantsStandIn 22 = false by kernel_rfl)

end Go.Proofs.YtladmjhokdgipaaDoor.fnPackNum
namespace Go.Proofs.YtladmjhokdgipaaDoor
theorem fnPackNum_card : Rows.FnPackNumCardSaid :=
  Claim7.holds_tied_plain_at .later [] _ _ _ _ fnPackNum.said (fun _ h => by cases h) (by kernel_rfl) (fun _ h => by cases h) fnPackNum_row_tie rfl ⟨rfl, rfl⟩ (by kernel_rfl) rfl fnPackNum.plain (by kernel_rfl)
#print axioms fnPackNum_card
end Go.Proofs.YtladmjhokdgipaaDoor
