/-
  spec.GraphDo. (Written by tools/mksgd.py.)
-/
import Derived.Test.YtcinjkpedigffaaDoorLdo
import Derived.Test.YtcinjkpedigffaaDoorGok
import Derived.Deep.RegionHeld3
namespace Go.Proofs.YtcinjkpedigffaaDoor.Lab
open Go.RowKit Go.ChangeMaps
set_option linter.unusedVariables false
theorem doN_len (ns : List Nd) (es : List Ed) (k nl nn l al an bl bn : Int) : (doN ns es k nl nn l al an bl bn).length ≤ ns.length + 1 := by
  have h1 := insW_len (nl, nn) ns
  have h2 : (offN (nl, nn) ns).length ≤ ns.length := List.length_filter_le _ _
  unfold doN
  repeat' split
  all_goals omega
theorem doE_len (ns : List Nd) (es : List Ed) (k nl nn l al an bl bn : Int) : (doE ns es k nl nn l al an bl bn).length ≤ es.length + 1 := by
  have h1 := insE_len (l, al, an, bl, bn) es
  have h2 : (offE (l, al, an, bl, bn) es).length ≤ es.length := List.length_filter_le _ _
  have h3 : (offG (nl, nn) es).length ≤ es.length := List.length_filter_le _ _
  unfold doE
  repeat' split
  all_goals omega
noncomputable def gdN (ns : List Nd) (es : List Ed) (k nl nn l al an bl bn : Int) : List Nd := if gokB ns es then doN ns es k nl nn l al an bl bn else []
noncomputable def gdE (ns : List Nd) (es : List Ed) (k nl nn l al an bl bn : Int) : List Ed := if gokB ns es then doE ns es k nl nn l al an bl bn else []
noncomputable def gdC (ns : List Nd) (es : List Ed) (k nl nn l al an bl bn : Int) : Int := if gokB ns es then doC ns es k nl nn l al an bl bn else 1
/-- A variable of a graph that is not yet set. -/
def Box (w : World) (g : Nat) : Prop := g < w.heap.size ∧ w.cell? ⟨g, 0, none⟩ = some (.slice none 0 0) ∧ w.cell? ⟨g, 1, none⟩ = some (.slice none 0 0) ∧ (∀ o, w.frozen? ⟨g, o, none⟩ = false) ∧ ∀ o i, w.cell? ⟨g, o, none⟩ ≠ some (.int .i64 i)
theorem Box.new (w : World) (t : TypeId) : Box (w.alloc (.cells #[.slice none 0 0, .slice none 0 0] t)) w.heap.size := by
  refine ⟨by simp, by simp [go_sem], by simp [go_sem], fun o => by simp [go_sem], fun o i h => ?_⟩
  match o, h with
  | 0, h => simp [go_sem] at h
  | 1, h => simp [go_sem] at h
  | o + 2, h => simp [go_sem] at h
theorem Box.keep {w w' : World} {g : Nat} (h : Box w g) (hb : Below w.heap.size w w') : Box w' g :=
  ⟨Nat.lt_of_lt_of_le h.1 hb.size, (Below.celz hb _ _ _ h.1).trans h.2.1, (Below.celz hb _ _ _ h.1).trans h.2.2.1, fun o => (Below.froz hb _ _ _ h.1).trans (h.2.2.2.1 o), fun o i => by rw [Below.celz hb _ _ _ h.1]; exact h.2.2.2.2 o i⟩
theorem row_but_box {α : Type} {s : Nat} {enc : α → List Value} {w w' : World} {v : Value} {xs : List α} {g : Nat} (h : RowAt s enc w v xs) (hI : ∀ x, ∃ i, (enc x)[0]? = some (.int .i64 i)) (hg : Box w g) (hs : w.heap.size ≤ w'.heap.size) (hb : ∀ k, k < w.heap.size → k ≠ g → w'.heap[k]? = w.heap[k]?) : RowAt s enc w' v xs := by
  rcases h with h | ⟨h0, b, off, cap, hv, hlt, hc⟩
  · exact .inl h
  · refine .inr ⟨h0, b, off, cap, hv, Nat.lt_of_lt_of_le hlt hs, fun j x hx i u hu => ?_⟩
    have hne : b ≠ g := fun e => by
      obtain ⟨i, hi⟩ := hI x
      have := hc j x hx 0 _ hi
      rw [e] at this
      exact hg.2.2.2.2 _ _ this
    rw [World.cell?_of_block (hb b hlt hne)]
    exact hc j x hx i u hu
end Go.Proofs.YtcinjkpedigffaaDoor.Lab
