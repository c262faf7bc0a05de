/-
  What the laws of graphs ask, of graphs that lie somewhere; little lemmas.
-/
import Derived.Test.YtkhfbaggkmeahabGreatDoorDgr
import Derived.Test.YtkhfbaggkmeahabGreatDoorGki
import Derived.Test.YtkhfbaggkmeahabGreatDoorGpl
import Derived.Test.YtkhfbaggkmeahabGreatDoorLabb
namespace Go.Proofs.YtkhfbaggkmeahabGreatDoor.Lab
open Go.RowKit
set_option linter.unusedVariables false
theorem seenN_le (c : Int) (ns : List Nd) (es : List Ed) : (seenN c ns es).length ≤ ns.length := by
  unfold seenN; split
  · exact viewN_le c ns
  · simp
theorem seenE_le (c : Int) (ns : List Nd) (es : List Ed) : (seenE c ns es).length ≤ es.length := by
  unfold seenE; split
  · exact List.length_filter_le _ _
  · simp
theorem GrAt.nil (w : World) : GrAt w (.slice none 0 0) (.slice none 0 0) [] [] := ⟨.inl ⟨rfl, _, _, rfl⟩, .inl ⟨rfl, _, _, rfl⟩, by simp, by simp⟩
theorem GrAt.lens {w : World} {v1 v2 : Value} {ns : List Nd} {es : List Ed} (h : GrAt w v1 v2 ns es) : ns.length ≤ 1048576 ∧ es.length ≤ 1048576 := ⟨by have := h.2.2.1; omega, by have := h.2.2.2; omega⟩
theorem gok_spec (v1 v2 : Value) (ns : List Nd) (es : List Ed) (b : Bool) (hb : gokB ns es = b) (w : World) (h : GrAt w v1 v2 ns es) :
    Calls Tryz.prog 9 #[.agg #[v1, v2]] w fun e w' => e = .returned (.bool b) ∧ Below w.heap.size w w' :=
  (spec_GraphOk v1 v2 ns es w h.1 h.2.1 h.lens.1 h.lens.2).mono fun e w' h => ⟨by rw [h.1, hb], h.2⟩
theorem under_zero {a : Int} (h : underB a 0 = true) : a = 0 := by
  rcases eight (under_true h).1 with rfl | rfl | rfl | rfl | rfl | rfl | rfl | rfl <;> first | rfl | (revert h; decide)
theorem seenE_zero {ns : List Nd} {es : List Ed} {x : Ed} (h : x ∈ seenE 0 ns es) : x.1 = 0 ∧ x.2.1 = 0 := by
  cases hg : gokB ns es with
  | false => rw [(seen_bad (c := 0) (.inl hg)).2] at h; cases h
  | true =>
    have he := fun x hx => ((edgesOk_iff.1 (gokB_true.1 hg).2).1 x hx).1
    unfold seenE at h
    rw [hg, if_pos rfl] at h
    obtain ⟨hm, hu⟩ := List.mem_filter.1 h
    have h0 := under_zero hu
    have hb := he x hm
    simp only [edB, edgeB, Bool.and_eq_true] at hb
    have hu2 := hb.1.2
    rw [h0] at hu2
    exact ⟨h0, under_zero hu2⟩
theorem seen_zero_len (ns : List Nd) (es : List Ed) : (seenN 0 ns es).length ≤ 5 ∧ (seenE 0 ns es).length ≤ 7 := by
  cases hg : gokB ns es with
  | false => rw [(seen_bad (c := 0) (.inl hg)).1, (seen_bad (c := 0) (.inl hg)).2]; simp
  | true =>
    have h := gokB_true.1 hg
    have h1 := (nodesOk_iff.1 h.1).2.2 0 rfl
    have h2 := (edgesOk_iff.1 h.2).2.2 0 rfl
    simp only [seenN, seenE, hg, if_true, viewN, viewE]
    rw [← List.countP_eq_length_filter, ← List.countP_eq_length_filter]
    refine ⟨Nat.le_trans (List.countP_mono_left fun x _ hx => ?_) h1, Nat.le_trans (List.countP_mono_left fun x _ hx => ?_) h2⟩
    · simp [under_zero hx]
    · simp [under_zero hx]
theorem seen_nil (c : Int) : seenN c [] [] = [] ∧ seenE c [] [] = [] := by
  constructor
  · unfold seenN; split <;> rfl
  · unfold seenE; split <;> rfl
end Go.Proofs.YtkhfbaggkmeahabGreatDoor.Lab
