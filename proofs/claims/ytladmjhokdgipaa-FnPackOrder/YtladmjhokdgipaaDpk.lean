/-
  What is drawn of numbers as bytes: bounded; a code is only read.
-/
import Derived.Test.YtladmjhokdgipaaDrn
import Derived.Test.YtladmjhokdgipaaPck
namespace Go.Proofs.Ytladmjhokdgipaa.Lab
open Go.RowKit
set_option linter.unusedVariables false
set_option maxHeartbeats 400000 in
theorem drawPackNum (a : Option Addr) (len cap : Nat) (zs : List Int) (w : World) (h : CodeAt w a len cap zs) :
    Calls Try.prog 5 #[.slice a len cap] w fun e w' => ∃ x, e = .returned (.int .i64 x) ∧ (Lit.int .i64 x).wf = true ∧ Below w.heap.size w w' := by
  go_enter Try.func5, Try.ntmps5
  go_wp2_with fail
  refine (l9Open a len cap zs _ h).mono ?_
  rintro e w1 ⟨rfl, ⟨n, hr⟩, hb⟩
  go_wp2_with fail
  refine (num_lit _ _ _ _ _ _ _ [0, 1, 127, 128, 129, 255, 300, 16383, 16384, -1, 9223372036854775807] _ hr (by omega) (by decide) (by decide) (by simp)).mono ?_
  rintro e w2 ⟨x, hx, rfl, hr2, hg2⟩
  have hw : (Lit.int .i64 x).wf = true := by
    simp at hx
    rcases hx with rfl | rfl | rfl | rfl | rfl | rfl | rfl | rfl | rfl | rfl | rfl <;> decide
  have HB : Hid (Below w.heap.size w w2 ∧ (Lit.int .i64 x).wf = true) := ⟨hb.trans (below_of_grown hg2 hb.size), hw⟩
  clear h hr hb hr2 hg2 hx hw
  go_wp2_with fail
  go_ret
  exact ⟨x, rfl, HB.out.2, HB.out.1⟩
end Go.Proofs.Ytladmjhokdgipaa.Lab
