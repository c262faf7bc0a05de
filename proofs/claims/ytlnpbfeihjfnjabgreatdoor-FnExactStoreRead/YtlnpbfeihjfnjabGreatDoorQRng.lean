/-
  A range over a function whose iterator keeps state of its own in cells: one law, over a ghost state that the body and the iterator move in turn; the body never leaves the loop.
-/
import Derived.RangeFuncNested
import Derived.RangeFuncBound
import Derived.RangeFuncCalls
import Derived.RangeFuncLeaves
import Derived.Shelf.Abstract
import Derived.Shelf.RegionOpen
import Derived.WalkKit
import Derived.OwnWalkIn
import Derived.TacticsInMore
import Derived.LoopNIn
import Derived.LoopIn
import Derived.Test.YtlnpbfeihjfnjabGreatDoorRows
namespace Go.Proofs.YtlnpbfeihjfnjabGreatDoor.Lab
open Go.RowKit
/-- Behind a round: it goes on, what is no cells lies as it lay, and the state has been moved. -/
def postR {σ : Type} (B : Nat) (I : σ → World → Prop) (s' : σ) (W : World) : Exit → Act → World → Prop
  | .normal, _, W' => KeepsFrom B W W' ∧ I s' W'
  | _, _, _ => False
theorem rangeS {α σ : Type} {F : Fence} {n : Nat} {P : Program} {g : Operand} {ps : Array Tmp} {assign body : Code} {Q : Exit → Act → World → Prop} {a : Act} {w : World}
    (hro : F.round = none) (h1 : 1 ≤ n) {gf : Nat} {lb : Array Value} (hg : a.eval g = .func (.func gf) #[] lb) (hFg : F.fn gf) (eg : ∀ args w, (callFunc gf args).run P w = .ok (.enter gf args) w)
    {encs : α → Array Value} (hps : ∀ x, (encs x).size = ps.size)
    (I : σ → World → Prop) (hI : OwnFrom w.heap.size I) (R : σ → α → σ → Prop) (S : σ → Prop) (s0 : σ) (h0 : I s0 w)
    (hiter : ∀ (l : Nat) (J : σ → World → Prop) (W : World), (∀ s V, J s V → I s V) → (∀ s s' V V', J s V → I s' V' → KeepsFrom w.heap.size V V' → J s' V') →
      (∀ s x s' V, J s V → R s x s' → YieldAt F (n - 1 - 1) P l (encs x) V fun e V' => e = .returned (.bool true) ∧ J s' V') → J s0 W →
      CallsIn F (n - 1) P gf (#[.func (.yield l) #[] #[]] ++ lb) W fun e V => (∃ v, e = .returned v) ∧ ∃ s, S s ∧ J s V)
    (a₁ : α → Act)
    (hassign : ∀ (l : Nat) (x : α) (W : World) (K : Act → World → Prop), K (a₁ x) W →
      assign.wpIn (F.inRound l) (n - 1 - 1) P (Exit.then K (fun _ _ _ => False)) { tmps := (ps.zip (encs x)).foldl (fun t (p, v) => t.setIfInBounds p v) a.tmps, defers := [] } W)
    (hbody : ∀ (l : Nat) (s : σ) (x : α) (s' : σ) (W : World), R s x s' → I s W → body.wpIn (F.inRound l) (n - 1 - 1) P (postR w.heap.size I s' W) (a₁ x) W)
    (hdone : ∀ (D : Nat) (s : σ) (W : World), w.heap.size ≤ D → S s → I s W → W.heap[D]? = some (.deferred (some [])) → Q .normal { a with defers := { target := .collected D, args := #[] } :: a.defers } W) :
    (Code.rangeFunc g ps assign body).wpIn F n P Q a w := by
  refine wpIn_rangeFunc ?_
  intro fn hfn
  rw [hro]
  -- the loop's record, as it stands between two rounds
  obtain ⟨mk, hmk⟩ : ∃ mk : LoopState → Option Code → Loop, mk = fun st pe => { state := st, pending := pe, fn, tmps := a.tmps, params := ps, assign, body, defers := w.heap.size } := ⟨_, rfl⟩
  obtain ⟨L, hL⟩ : ∃ L, L = w.heap.size + 1 := ⟨_, rfl⟩
  obtain ⟨U, hU⟩ : ∃ U, U = (w.alloc (.deferred (some []))).alloc (.loop (mk .ready none)) := ⟨_, rfl⟩
  have uL : U.heap[L]? = some (.loop (mk .ready none)) := by
    have := World.alloc_heap_new (w.alloc (.deferred (some []))) (.loop (mk .ready none))
    rw [World.size_alloc] at this
    rw [hU, hL]; exact this
  have uD : U.heap[w.heap.size]? = some (.deferred (some [])) := by
    rw [hU]; exact (Below.heap_alloc _ _ _ (by simp)).trans (World.alloc_heap_new w _)
  have uI : I s0 U := by rw [hU]; exact hI.alloc _ (hI.alloc _ h0)
  refine ⟨L, [{ target := .collected w.heap.size, args := #[] }], U, { target := .fn (.func gf) lb, args := #[.func (.yield L) #[] #[]] }, U, gf, #[.func (.yield L) #[] #[]] ++ lb, U, ?_, ?_, ?_, ?_, fun _ => h1, ?_⟩
  · rw [hU, hL, hmk]; exact run_enterLoop_outer _ _ _ _ _
  · simp only [resolve, hg]
    simp [go_sem]
  · intro f' hf'; simp [Target.leads] at hf'; subst hf'; exact hFg
  · simp [invoke, go_sem, eg]
  · have sh : ∀ (pe : Option Code) (st : LoopState), (Obj.loop (mk st pe)).isCells = false := fun _ _ => rfl
    refine (hiter L (fun s V => I s V ∧ V.heap[L]? = some (.loop (mk .ready none)) ∧ V.heap[w.heap.size]? = some (.deferred (some []))) U (fun s V h => h.1)
      (fun s s' V V' h hi hk => ⟨hi, hk.same _ _ (by omega) h.2.1 rfl, hk.same _ _ (Nat.le_refl _) h.2.2 rfl⟩) ?_ ⟨uI, uL, uD⟩).mono ?_
    · rintro s x s' V ⟨hi, hl, hd⟩ hR
      have hlt : L < V.heap.size := (Array.getElem?_eq_some_iff.1 hl).1
      have hy := run_yield (P := P) (args := encs x) hl (by rw [hmk]; exact hps x)
      rw [hmk] at hy
      refine ⟨fn, _, assign, body, hy, roundIn_of_wpIn hfn (hassign _ x V _ ⟨_, run_beginRound hl (by rw [hmk]), ?_⟩)⟩
      obtain ⟨V1, hV1⟩ : ∃ V1, V1 = V.putObj L (.loop { mk .ready none with state := .busy }) := ⟨_, rfl⟩
      have l1 : V1.heap[L]? = some (.loop { mk .ready none with state := .busy }) := by rw [hV1]; exact World.putObj_heap_same hlt
      have d1 : V1.heap[w.heap.size]? = some (.deferred (some [])) := by rw [hV1]; exact (World.putObj_heap_other (by omega)).trans hd
      have i1 : I s V1 := by rw [hV1]; exact hI.putObj _ hi (by omega) hl rfl
      rw [← hV1]
      refine wpIn_mono (hbody L s x s' V1 hR i1) ?_
      rintro e a3 V3 hp
      cases e with
      | normal =>
        obtain ⟨hk, hi3⟩ := hp
        have l3 := hk.same _ _ (by omega) l1 rfl
        have d3 := hk.same _ _ (Nat.le_refl _) d1 rfl
        have hr := run_endRound (P := P) none l3
        rw [hmk] at hr l3
        refine ⟨_, _, hr, rfl, hI.putObj _ hi3 (by omega) l3 rfl, ?_, (World.putObj_heap_other (by omega)).trans d3⟩
        rw [hmk]
        exact World.putObj_heap_same (Array.getElem?_eq_some_iff.1 l3).1
      | ret => exact hp.elim
      | exit id => exact hp.elim
      | goto t => exact hp.elim
      | panic ch => exact hp.elim
      | outgrown => exact hp.elim
    · rintro e V ⟨⟨v, rfl⟩, s, hS, hi, hl, hd⟩
      have he := run_endLoop (P := P) hl (by rw [hmk]; simp)
      rw [hmk] at he hl
      exact ⟨none, _, he, hdone _ s _ (Nat.le_refl _) hS (hI.putObj _ hi (by omega) hl rfl) ((World.putObj_heap_other (by omega)).trans hd)⟩
end Go.Proofs.YtlnpbfeihjfnjabGreatDoor.Lab
