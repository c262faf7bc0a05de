/-
  At every list of at most 2^20 numbers impl.PackRow answers as spec.PackRow does, and writes into no argument.
-/
import Derived.Test.YtladmjhokdgipabRows
import Derived.Test.YtladmjhokdgipabPri
import Derived.Test.YtladmjhokdgipabRdg
import Derived.WalkKit
import Derived.ProofKit
import Derived.OpenShut
import Derived.ShutString
import Derived.ChangeOld
import Derived.Below
import Derived.Carry
import Derived.Handy
import Derived.Deep.RegionHeld3
namespace Go.Proofs.Ytladmjhokdgipab.fnExactPackRow
open Go.Proofs.Ytladmjhokdgipab.Lab
open Go.ChangeShapes Go.WideShapes Go.ChangeAt Go.RowKit
open Go.ChangeMaps (open_string shut_string)
set_option linter.unusedVariables false

theorem own : ownKnob Try.prog.godebug = none := by kernel_rfl
theorem laidOut : laidOutB Try.prog = true := by kernel_rfl
/-- A row of numbers that came in: nil, or so many cells. -/
def IsRow (k : IntKind) (w : World) (a : Option Addr) (len cap : Nat) (zs : List Int) : Prop :=
  (a = none ∧ len = 0 ∧ cap = 0 ∧ zs = []) ∨ ∃ x, a = some x ∧ len ≤ cap ∧ cap ≤ maxLen ∧ zs.length = cap ∧ (∀ i, i < zs.length → w.cell? (x.add i) = some (.int k (zs.getD i 0))) ∧ ∀ n ∈ zs, (Lit.int k n).wf = true

set_option maxHeartbeats 4000000 in
theorem walk (a0 : Option Addr) (len0 cap0 : Nat) (z0 : List Int) (w : World) (w0 : IsRow .i64 w a0 len0 cap0 z0) :
    Calls Try.prog 3 #[.slice a0 len0 cap0] w fun e w' => e = .returned (.bool true) ∧ Below w.heap.size w w' := by
  have k0 : RowAt 1 encI w (.slice a0 len0 cap0) (z0.take len0) ∧ (z0.take len0).length = len0 := by
    rcases w0 with ⟨rfl, rfl, rfl, rfl⟩ | ⟨x, rfl, h1, h2, h3, h4, h5⟩
    · exact ⟨.inl ⟨rfl, _, _, rfl⟩, rfl⟩
    · have hl : (z0.take len0).length = len0 := by rw [List.length_take]; omega
      refine ⟨?_, hl⟩
      by_cases hz : len0 = 0
      · subst hz; exact .inl ⟨by simp, _, _, rfl⟩
      · have c0 := h4 0 (by omega)
        obtain ⟨b, off, spot⟩ := x
        have hspot : spot = none := by simpa [Addr.add] using World.cell?_spot c0
        subst hspot
        refine .inr ⟨by omega, b, off, cap0, by rw [hl], by simpa [Addr.add] using cellLt c0, fun j y hy i u hu => ?_⟩
        have hj : j < len0 := by have := (List.getElem?_eq_some_iff.1 hy).1; omega
        have hy2 : z0[j]? = some y := by rw [List.getElem?_take, if_pos hj] at hy; exact hy
        have hc := h4 j (by omega)
        rw [List.getD_eq_getElem?_getD, hy2, addr_at] at hc
        match i, hu with
        | 0, hu => simp [encI] at hu; subst hu; simpa using hc
  obtain ⟨r0, hlen⟩ := k0
  obtain ⟨xs, hxs⟩ : ∃ xs, xs = z0.take len0 := ⟨_, rfl⟩
  rw [← hxs] at r0 hlen
  subst hlen
  have HR : Hid (RowAt 1 encI w (.slice a0 xs.length cap0) xs) := r0
  clear r0 w0 hxs
  by_cases hbig : (1048576 : Int) < (xs.length : Int)
  · go_enter Try.func3, Try.ntmps3
    go_wp2
    go_ret
    exact ⟨rfl, Below.refl _ _⟩
  have l0 : xs.length ≤ 1048576 := by omega
  have HA : Hid (Below w.heap.size w w) := Below.refl _ _
  go_enter Try.func3, Try.ntmps3
  go_wp2_with fail
  refine (toIntS _ xs _ (HR.out.keep HA.out) l0).mono ?_
  rintro e w1 ⟨u1, rfl, o1, b1⟩
  have H1 : Hid (Below w.heap.size w w1) := b1
  have R1 : Hid (RowAt 1 encI w1 u1 xs) := row_of_own encI_len (by decide) o1
  clear o1 b1
  go_wp2_with fail
  refine (spec_PackRow u1 xs _ R1.out l0).mono ?_
  rintro e w2 ⟨rfl, b2⟩
  have H2 : Hid (Below w.heap.size w w2) := H1.out.trans (b2.mono H1.out.size)
  clear b2
  go_wp2_with fail
  refine (toIntS _ xs _ (HR.out.keep H2.out) l0).mono ?_
  rintro e w3 ⟨u3, rfl, o3, b3⟩
  have H3 : Hid (Below w.heap.size w w3) := H2.out.trans (b3.mono H2.out.size)
  have R3 : Hid (RowAt 1 encI w3 u3 xs) := row_of_own encI_len (by decide) o3
  clear o3 b3
  go_wp2_with fail
  refine (impl_PackRow u3 xs _ R3.out l0).mono ?_
  rintro e w4 ⟨rfl, b4⟩
  have H4 : Hid (Below w.heap.size w w4) := H3.out.trans (b4.mono H3.out.size)
  have R4 : Hid (RowAt 1 encI w4 u3 xs) := R3.out.keep b4
  clear b4
  go_wp2_with fail
  refine (toIntS _ xs _ (HR.out.keep H4.out) l0).mono ?_
  rintro e w5 ⟨u5, rfl, o5, b5⟩
  have H5 : Hid (Below w.heap.size w w5) := H4.out.trans (b5.mono H4.out.size)
  have R5 : Hid (RowAt 1 encI w5 u5 xs ∧ RowAt 1 encI w5 u3 xs) := ⟨row_of_own encI_len (by decide) o5, R4.out.keep b5⟩
  clear o5 b5
  go_wp2_with fail
  refine (eqIntS u3 u5 xs xs _ R5.out.2 R5.out.1 l0 l0).mono ?_
  rintro e w6 ⟨rfl, b6⟩
  have H6 : Hid (Below w.heap.size w w6) := H5.out.trans (b6.mono H5.out.size)
  clear b6
  rw [eqB_true.2 rfl]
  go_wp2_with fail
  go_ret
  exact ⟨rfl, H6.out⟩

set_option maxRecDepth 100000 in
set_option maxHeartbeats 1000000 in
theorem lifted (os : Os) (started : os.Started) (H : Type) (enc : TypeId × Value → H) :
    ReturnsInHanded {} Try.checked os 3 .any (Rows.fnExactPackRowSpec.pre6 enc Try.prog Try.f3 Rows.fnExactPackRowRow.domain false) (Rows.fnExactPackRowSpec.post enc Try.prog Try.f3 false true false false) := by
  refine returnsInHanded_of_change (C := Try.checked) own started (by kernel_rfl) Try.func3
    (ChangeSpec.witness6 (enc := enc) (C := Try.checked) false ⟨#[], #[.slice none 0 0], []⟩ 8 (by kernel_rfl) (by kernel_rfl) (by kernel_rfl) (by kernel_rfl)) ?_
  intro W base args ds gs before hval0 hW hcnd _
  have hval : ∀ (j : Nat) t v, Try.f3.params[j]? = some t → args[j]? = some v → Value.okWide Try.prog W .any base t v := hval0
  have hW' := hW
  obtain ⟨p, q, hA0, hV, rfl, hfz, hnd⟩ := hW
  have hA : DataW.TrodAll enc Try.prog W 0 (fun _ => true) true Try.f3.params.toList args.toList ds p := hA0
  rw [Try.params3] at hA hval
  obtain ⟨v0, vs0, d0, ds0, p0, q0, hargs, rfl, rfl, h0, r0⟩ := trodAll_cons hA
  obtain ⟨rfl, rfl, rfl⟩ := trodAll_nil r0
  obtain rfl : args = #[v0] := by cases args; simp_all
  obtain ⟨rfl, rfl⟩ := trodVars_none hV
  have kr0 := h0
  have lt0 : ∀ x ∈ p0, x.block < W.heap.size := by obtain ⟨m, hm⟩ := kr0; exact DataW.trod_lt m _ _ _ hm
  obtain ⟨a0, len0, cap0, rfl⟩ := okWide_slice Try.underlying22 (hval 0 22 v0 rfl rfl)
  obtain ⟨z0, w0⟩ : ∃ zs, IsRow .i64 W a0 len0 cap0 zs := by
    obtain ⟨fuel, hf⟩ := h0
    rcases open_ints Try.underlying22 Try.underlying3 (by kernel_rfl) hf with ⟨hcs, _⟩ | ⟨x, l, c, zs, hcs, _, hl, hm, hz, _, hcell, hwz⟩
    · simp [Value.cells] at hcs
      obtain ⟨rfl, rfl, rfl⟩ := hcs
      exact ⟨[], .inl ⟨rfl, rfl, rfl, rfl⟩⟩
    · simp [Value.cells] at hcs
      obtain ⟨rfl, rfl, rfl⟩ := hcs
      exact ⟨zs, .inr ⟨_, rfl, hl, hm, by simpa using hz, hcell, hwz⟩⟩
  clear hA0 hval0
  refine (walk a0 len0 cap0 z0 W w0).mono fun e W' ⟨he, bel⟩ => ?_
  subst he
  exact ⟨_, rfl, _, _, _, [], _, [], hW', trodAll_mk1 (shut_bool Try.underlying4 _), (trodAll_cons_mk (Below.trod laidOut (by kernel_rfl) (of_decide_eq_true (by kernel_rfl)) kr0 bel lt0) trodAll_mk0), rfl, bel.frame _, fun h => by cases h⟩

theorem over : Rows.fnExactPackRowRow.holds Try.pinned (OpenSpec.ofChange Rows.fnExactPackRowSpec) :=
  OpenClaim.holds_of_wide 3 Try.f3 rfl rfl rfl rfl rfl rfl rfl ⟨rfl, rfl, rfl, rfl, rfl⟩ rfl rfl rfl rfl rfl (by kernel_rfl) Try.func3 (by kernel_rfl)
    (of_decide_eq_true (by kernel_rfl)) (by unfold Func.isWrapper; first | (rw [if_pos (by decide +kernel)]; kernel_rfl) | (rw [if_neg (by decide +kernel)]; exact ⟨rfl, rfl⟩))
    (fun os started H enc _ => lifted os started H enc)

end Go.Proofs.Ytladmjhokdgipab.fnExactPackRow
namespace Go.Proofs.Ytladmjhokdgipab
theorem fnExactPackRow_holds : Rows.FnExactPackRowSaid := fnExactPackRow.over
#print axioms fnExactPackRow_holds
end Go.Proofs.Ytladmjhokdgipab
