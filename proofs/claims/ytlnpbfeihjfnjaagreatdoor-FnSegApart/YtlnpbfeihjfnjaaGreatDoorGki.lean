/-
  Contract of impl.GraphOk: it says what a right graph is.
-/
import Derived.Test.YtlnpbfeihjfnjaaGreatDoorBof
namespace Go.Proofs.YtlnpbfeihjfnjaaGreatDoor.Lab
open Go.RowKit Go.ChangeMaps
set_option linter.unusedVariables false
/-- The four error variables hold errors. -/
def Errs (w : World) : Prop := ErrAt w 0 ∧ ErrAt w 1 ∧ ErrAt w 3 ∧ ErrAt w 2
theorem Errs.keep {w w' : World} (h : Errs w) (hb : Below w.heap.size w w') : Errs w' := ⟨h.1.keep hb, h.2.1.keep hb, h.2.2.1.keep hb, h.2.2.2.keep hb⟩
theorem bookOf (v1 v2 : Value) (ns : List Nd) (es : List Ed) (w : World) (h1 : RowAt 2 encNode w v1 ns) (h2 : RowAt 5 encEdge w v2 es) (l1 : ns.length ≤ 1048576) (l2 : es.length ≤ 1048576) (hE : Errs w) :
    ∃ t0 v0, Calls Tryz.prog 51 #[.agg #[v1, v2]] w fun e w' =>
      (GOk ns es ∧ Below w.heap.size w w' ∧ ∃ b mn me, e = .returned (.tuple #[.pointer (some ⟨b, 0, none⟩), .nilIface]) ∧ BookAt w' b mn me (nEnts ns) (eEnts es) (nCnt ns) (eCnt es) ∧ w.heap.size ≤ b ∧ w.heap.size ≤ mn ∧ w.heap.size ≤ me)
      ∨ (¬ GOk ns es ∧ e = .returned (.tuple #[.pointer none, .iface t0 v0]) ∧ Below w.heap.size w w') := by
  obtain ⟨a1, c1, rfl⟩ := h1.len
  obtain ⟨a2, c2, rfl⟩ := h2.len
  obtain ⟨⟨t0, v0, h0⟩, hE⟩ := hE
  exact ⟨t0, v0, bookOf_walk a1 a2 _ _ c1 c2 ns es w h1 h2 rfl rfl l1 l2 t0 v0 ⟨h0, hE⟩⟩
set_option maxHeartbeats 4000000 in
theorem impl_GraphOk (v1 v2 : Value) (ns : List Nd) (es : List Ed) (w : World) (h1 : RowAt 2 encNode w v1 ns) (h2 : RowAt 5 encEdge w v2 es) (l1 : ns.length ≤ 1048576) (l2 : es.length ≤ 1048576) (hE : Errs w) :
    Calls Tryz.prog 18 #[.agg #[v1, v2]] w fun e w' => e = .returned (.bool (gokB ns es)) ∧ Below w.heap.size w w' := by
  obtain ⟨a1, c1, rfl⟩ := h1.len
  obtain ⟨a2, c2, rfl⟩ := h2.len
  have b0 : Below w.heap.size w (w.alloc (.cells #[.slice a1 ns.length c1, .slice a2 es.length c2] 26)) := (Below.refl _ _).alloc (Nat.le_refl _) _
  obtain ⟨t0, v0, hC⟩ := bookOf _ _ ns es _ (h1.keep b0) (h2.keep b0) l1 l2 (hE.keep b0)
  go_enter Tryz.func18, Tryz.ntmps18
  go_wp2_with fail
  refine hC.mono ?_
  rintro e w1 (⟨hg, bel, b, mn, me, rfl, _⟩ | ⟨hg, rfl, bel⟩)
  · have HB : Hid (Below w.heap.size w w1) := b0.trans (bel.mono b0.size)
    clear bel hC
    go_wp2_with fail
    go_ret
    exact ⟨by rw [gokB_true.2 hg]; rfl, HB.out⟩
  · have HB : Hid (Below w.heap.size w w1) := b0.trans (bel.mono b0.size)
    clear bel hC
    go_wp2_with fail
    go_ret
    exact ⟨by rw [gokB_false.2 hg]; rfl, HB.out⟩
end Go.Proofs.YtlnpbfeihjfnjaaGreatDoor.Lab
