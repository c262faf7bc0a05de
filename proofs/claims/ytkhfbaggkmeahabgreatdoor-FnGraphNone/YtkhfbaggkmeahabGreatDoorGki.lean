/-
  Contract of impl.GraphOk: it says what a right graph is.
-/
import Derived.Test.YtkhfbaggkmeahabGreatDoorBof
namespace Go.Proofs.YtkhfbaggkmeahabGreatDoor.Lab
open Go.RowKit Go.ChangeMaps
set_option linter.unusedVariables false
/-- The four error variables hold errors. -/
def Errs (w : World) : Prop := ErrAt w 0 ∧ ErrAt w 1 ∧ ErrAt w 3 ∧ ErrAt w 2
theorem Errs.keep {w w' : World} (h : Errs w) (hb : Below w.heap.size w w') : Errs w' := ⟨h.1.keep hb, h.2.1.keep hb, h.2.2.1.keep hb, h.2.2.2.keep hb⟩
theorem bookOf (v1 v2 : Value) (ns : List Nd) (es : List Ed) (w : World) (h1 : RowAt 2 encNode w v1 ns) (h2 : RowAt 5 encEdge w v2 es) (l1 : ns.length ≤ 1048576) (l2 : es.length ≤ 1048576) (hE : Errs w) :
    ∃ t0 v0, Calls Tryz.prog 21 #[.agg #[v1, v2]] w fun e w' =>
      (GOk ns es ∧ Below w.heap.size w w' ∧ ∃ b mn me, e = .returned (.tuple #[.pointer (some ⟨b, 0, none⟩), .nilIface]) ∧ BookAt w' b mn me (nEnts ns) (eEnts es) (nCnt ns) (eCnt es) ∧ w.heap.size ≤ b ∧ w.heap.size ≤ mn ∧ w.heap.size ≤ me)
      ∨ (¬ GOk ns es ∧ e = .returned (.tuple #[.pointer none, .iface t0 v0]) ∧ Below w.heap.size w w') := by
  obtain ⟨a1, c1, rfl⟩ := h1.len
  obtain ⟨a2, c2, rfl⟩ := h2.len
  obtain ⟨⟨t0, v0, h0⟩, hE⟩ := hE
  exact ⟨t0, v0, bookOf_walk a1 a2 _ _ c1 c2 ns es w h1 h2 rfl rfl l1 l2 t0 v0 ⟨h0, hE⟩⟩
end Go.Proofs.YtkhfbaggkmeahabGreatDoor.Lab
