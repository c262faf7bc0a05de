/-
  Uses of pages, in plain words: what is at hand behind a use; which pools are right.
-/
import Derived.Test.YtcifjildjiakgaaDoorRow
import Derived.Test.YtcifjildjiakgaaDoorPag
namespace Go.Proofs.YtcifjildjiakgaaDoor.Lab
set_option linter.unusedVariables false
/-- What is at hand when one more is used. -/
def useL (n : Nat) (xs : List (Int × Int)) (x : Int × Int) : List (Int × Int) := (x :: xs.filter (fun y => !eqB y x)).take n
theorem filt_split {x : Int × Int} {X1 X2 : List (Int × Int)} (h : (X1 ++ x :: X2).Nodup) : (X1 ++ x :: X2).filter (fun y => !eqB y x) = X1 ++ X2 := by
  have h1 : ∀ (l : List (Int × Int)), x ∉ l → l.filter (fun y => !eqB y x) = l := fun l hl => by
    rw [List.filter_eq_self]
    intro y hy
    have : eqB y x = false := by rw [eqB_false]; rintro rfl; exact hl hy
    simp [this]
  simp only [List.nodup_append, List.nodup_cons, List.mem_cons] at h
  rw [List.filter_append, List.filter_cons_of_neg (by simp [eqB]), h1 X1 (fun hx => h.2.2 x hx x (.inl rfl) rfl), h1 X2 h.2.1.1]
theorem filt_none {x : Int × Int} {l : List (Int × Int)} (hl : x ∉ l) : l.filter (fun y => !eqB y x) = l := by
  rw [List.filter_eq_self]
  intro y hy
  have : eqB y x = false := by rw [eqB_false]; rintro rfl; exact hl hy
  simp [this]
theorem useL_len (n : Nat) (xs : List (Int × Int)) (x : Int × Int) : (useL n xs x).length ≤ n := by unfold useL; rw [List.length_take]; omega
theorem useL_nodup {n : Nat} {xs : List (Int × Int)} {x : Int × Int} (h : xs.Nodup) : (useL n xs x).Nodup := by
  unfold useL
  refine List.Nodup.sublist (List.take_sublist _ _) ?_
  rw [List.nodup_cons]
  exact ⟨by simp [eqB], h.sublist List.filter_sublist⟩
/-- A pool is right. -/
def PoolP (z : Int) (xs : List (Int × Int)) : Prop := 0 ≤ z ∧ z ≤ 12 ∧ (xs.length : Int) ≤ z ∧ (∀ x ∈ xs, pageB x.1 x.2 = true) ∧ xs.Nodup
instance (z : Int) (xs : List (Int × Int)) : Decidable (PoolP z xs) := by unfold PoolP; infer_instance
def poolB (z : Int) (xs : List (Int × Int)) : Bool := decide (PoolP z xs)
theorem poolB_true {z : Int} {xs : List (Int × Int)} : poolB z xs = true ↔ PoolP z xs := by simp [poolB]
theorem poolB_false {z : Int} {xs : List (Int × Int)} : poolB z xs = false ↔ ¬ PoolP z xs := by simp [poolB]
/-- What a use of a page answers: whether all is right; the size; the pages; whether it was there. -/
def puOk (z : Int) (xs : List (Int × Int)) (x : Int × Int) : Bool := poolB z xs && pageB x.1 x.2
def puZ (z : Int) (xs : List (Int × Int)) (x : Int × Int) : Int := if puOk z xs x then z else 0
def puL (z : Int) (xs : List (Int × Int)) (x : Int × Int) : List (Int × Int) := if puOk z xs x then useL z.toNat xs x else []
def puH (z : Int) (xs : List (Int × Int)) (x : Int × Int) : Bool := if puOk z xs x then decide (x ∈ xs) else false
theorem puL_len (z : Int) (xs : List (Int × Int)) (x : Int × Int) : (puL z xs x).length ≤ 12 := by
  unfold puL
  split
  · rename_i h
    simp only [puOk, Bool.and_eq_true] at h
    have h2 := poolB_true.1 h.1
    have := useL_len z.toNat xs x
    have := h2.2.1
    omega
  · simp
end Go.Proofs.YtcifjildjiakgaaDoor.Lab
