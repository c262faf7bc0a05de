/-
  What the laws of graphs ask about nodes that are near; lists that are looked through.
-/
import Derived.Test.YtcinjkpedigffaaDoorGlx
import Derived.Test.YtcinjkpedigffaaDoorGnp
import Derived.Test.YtcinjkpedigffaaDoorSpn
namespace Go.Proofs.YtcinjkpedigffaaDoor.Lab
open Go.RowKit
set_option linter.unusedVariables false
/-- Whether it is among the first k. -/
def hasK (xs : List (Int × Int)) (x : Int × Int) (k : Nat) : Bool := (xs.take k).any (fun y => eqB y x)
theorem hasK_zero (xs : List (Int × Int)) (x : Int × Int) : hasK xs x 0 = false := by simp [hasK]
theorem hasK_step {xs : List (Int × Int)} {x y : Int × Int} {k : Nat} (h : xs[k]? = some y) : hasK xs x (k + 1) = (hasK xs x k || eqB y x) := by
  unfold hasK
  rw [List.take_add_one, h, List.any_append]
  simp
theorem hasK_iff {xs : List (Int × Int)} {x : Int × Int} {k : Nat} : hasK xs x k = true ↔ x ∈ xs.take k := by
  unfold hasK
  rw [List.any_eq_true]
  constructor
  · rintro ⟨y, h1, h2⟩
    rw [eqB_true] at h2
    exact h2 ▸ h1
  · intro h
    exact ⟨x, h, eqB_true.2 rfl⟩
theorem hasK_all (xs : List (Int × Int)) (x : Int × Int) : hasK xs x xs.length = decide (x ∈ xs) := by
  cases h : hasK xs x xs.length
  · have : ¬ x ∈ xs := fun hx => by
      have := hasK_iff.2 (show x ∈ xs.take xs.length by rw [List.take_length]; exact hx)
      rw [h] at this; cases this
    simp [this]
  · have := hasK_iff.1 h
    rw [List.take_length] at this
    simp [this]
/-- A world over another. -/
structure Ov (w0 w : World) : Prop where
  b : Below w0.heap.size w0 w
theorem Ov.keep {w0 w w' : World} (h : Ov w0 w) (hb : Below w.heap.size w w') : Ov w0 w' := ⟨h.b.trans (hb.mono h.b.size)⟩
theorem nearG_in {ns : List Nd} {es : List Ed} {n o : Nd} (h : o ∈ nearG n ns es) : o ∈ ns := by
  cases hg : gokB ns es with
  | false => rw [nearG, hg] at h; cases h
  | true =>
    have hs := (edgesOk_iff.1 (gokB_true.1 hg).2).1
    have he : ∀ x ∈ es, edB x = true := fun x hx => (hs x hx).1
    rw [nearG_eq _ hg] at h
    obtain ⟨x, hx, ho⟩ := (nearF_mem he o).1 h
    have h2 := hs x hx
    unfold otherI at ho
    split at ho
    · cases ho; exact h2.2.2
    · split at ho
      · cases ho; exact h2.2.1
      · cases ho
theorem nearG_le (ns : List Nd) (es : List Ed) (n : Nd) : (nearG n ns es).length ≤ ns.length := nodup_sub_len (asc_nodup (nearG_asc _ _ _)) (fun _ h => nearG_in h)
theorem gn_impl (v1 v2 : Value) (l n : Int) (ns : List Nd) (es : List Ed) (X : List Nd) (hX : nearG (l, n) ns es = X) (w : World) (h : GrAt w v1 v2 ns es) (hE : Errs w) :
    Calls Tryd.prog 18 #[.agg #[v1, v2], .agg #[.int .i64 l, .int .i64 n]] w fun e w' => ∃ a c, e = .returned (.slice a X.length c) ∧ RowAt 2 encNode w' (.slice a X.length c) X ∧ Below w.heap.size w w' := by
  refine (impl_GraphNear v1 v2 l n ns es w h.1 h.2.1 h.lens.1 h.lens.2 hE).mono ?_
  rintro e w' ⟨v, rfl, ho, hb⟩
  rw [hX] at ho
  obtain ⟨a, c, rfl⟩ := own_form ho
  exact ⟨a, c, rfl, row_of_own encNode_len (by decide) ho, hb⟩
theorem gn_spec (v1 v2 : Value) (l n : Int) (ns : List Nd) (es : List Ed) (X : List Nd) (hX : nearG (l, n) ns es = X) (w : World) (h : GrAt w v1 v2 ns es) :
    Calls Tryd.prog 19 #[.agg #[v1, v2], .agg #[.int .i64 l, .int .i64 n]] w fun e w' => ∃ a c, e = .returned (.slice a X.length c) ∧ RowAt 2 encNode w' (.slice a X.length c) X ∧ Below w.heap.size w w' := by
  refine (spec_GraphNear v1 v2 l n ns es w h.1 h.2.1 h.lens.1 h.lens.2).mono ?_
  rintro e w' ⟨v, rfl, ho, hb⟩
  rw [hX] at ho
  obtain ⟨a, c, rfl⟩ := own_form ho
  exact ⟨a, c, rfl, row_of_own encNode_len (by decide) ho, hb⟩
end Go.Proofs.YtcinjkpedigffaaDoor.Lab
