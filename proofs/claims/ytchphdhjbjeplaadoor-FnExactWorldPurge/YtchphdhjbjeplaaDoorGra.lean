/-
  Graphs by value: the laws' own functions on them, and GraphSame. (Written by tools/mkgra.py.)
-/
import Derived.Test.YtchphdhjbjeplaaDoorGro
namespace Go.Proofs.YtchphdhjbjeplaaDoor.Lab
open Go.RowKit
set_option linter.unusedVariables false
/-- A graph that the call owns: two rows, in blocks of their own. -/
def OwnGraph (w : World) (base : Nat) (v1 v2 : Value) (ns : List (Int × Int)) (es : List (Int × Int × Int × Int × Int)) : Prop :=
  w.ownsRow base 38 2 v1 ns.length (ns.flatMap encNode) ∧ w.ownsRow base 40 5 v2 es.length (es.flatMap encEdge) ∧ ∀ k, v1.ownBlock = some k → v2.ownBlock ≠ some k
theorem OwnGraph.keep {w w' : World} {base : Nat} {v1 v2 : Value} {ns : List (Int × Int)} {es : List (Int × Int × Int × Int × Int)} (h : OwnGraph w base v1 v2 ns es) (hb : Below w.heap.size w w') : OwnGraph w' base v1 v2 ns es :=
  ⟨own_keep h.1 hb, own_keep h.2.1 hb, h.2.2⟩
theorem OwnGraph.nodes {w : World} {base : Nat} {v1 v2 : Value} {ns : List (Int × Int)} {es : List (Int × Int × Int × Int × Int)} (h : OwnGraph w base v1 v2 ns es) : RowAt 2 encNode w v1 ns := row_of_own encNode_len (by decide) h.1
theorem OwnGraph.edges {w : World} {base : Nat} {v1 v2 : Value} {ns : List (Int × Int)} {es : List (Int × Int × Int × Int × Int)} (h : OwnGraph w base v1 v2 ns es) : RowAt 5 encEdge w v2 es := row_of_own encEdge_len (by decide) h.2.1
theorem OwnGraph.form {w : World} {base : Nat} {v1 v2 : Value} {ns : List (Int × Int)} {es : List (Int × Int × Int × Int × Int)} (h : OwnGraph w base v1 v2 ns es) : ∃ a1 c1 a2 c2, v1 = .slice a1 ns.length c1 ∧ v2 = .slice a2 es.length c2 := by
  obtain ⟨a1, c1, h1⟩ := own_form h.1
  obtain ⟨a2, c2, h2⟩ := own_form h.2.1
  exact ⟨a1, c1, a2, c2, h1, h2⟩
end Go.Proofs.YtchphdhjbjeplaaDoor.Lab
