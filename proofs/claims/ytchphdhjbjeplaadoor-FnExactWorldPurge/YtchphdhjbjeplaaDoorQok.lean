/-
  What is asked, and whether it can be: QueryOk of both.
-/
import Derived.Test.YtchphdhjbjeplaaDoorNod
import Derived.Test.YtchphdhjbjeplaaDoorErr
namespace Go.Proofs.YtchphdhjbjeplaaDoor.Lab
open Go.RowKit
set_option linter.unusedVariables false
def zeroB (l n : Int) : Bool := decide (l = 0) && decide (n = 0)
/-- What is asked can be. -/
def qokB (k l n : Int) : Bool := if k = 1 ∨ k = 2 then nodeB l n else if k = 3 ∨ k = 4 then zeroB l n else false
set_option maxHeartbeats 1000000 in
theorem toQuery (k l n : Int) (w : World) :
    Calls Tryd.prog 30 #[.agg #[.int .i64 k, .int .i64 l, .int .i64 n]] w fun e w' => e = .returned (.agg #[.int .i64 k, .int .i64 l, .int .i64 n]) ∧ Below w.heap.size w w' := by
  go_enter Tryd.func30, Tryd.ntmps30
  go_wp2_with fail
  refine (toNode _ _ _).mono ?_
  rintro e w1 ⟨rfl, bel⟩
  have B1 : Below w.heap.size w w1 := Below.trans (by go_grown) (bel.mono (by simp; omega))
  have hs := bel.size
  have hc := Below.celz (bel.mono (B' := w.heap.size + 3) (by simp))
  have hf := Below.froz (bel.mono (B' := w.heap.size + 3) (by simp))
  simp only [World.size_alloc] at hs
  have HB : Hid (Below w.heap.size w w1) := B1
  clear bel B1
  go_wp2_with fail
  refine bodyPost_ret (v := .agg #[.int .i64 k, .int .i64 l, .int .i64 n]) (by simp [*, results, Tryd.results30, go_sem]) rfl ⟨rfl, ?_⟩
  have := HB.out
  go_grown
end Go.Proofs.YtchphdhjbjeplaaDoor.Lab
