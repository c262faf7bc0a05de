/-
  A row of pages cut in two, and pages that are new, in plain words.
-/
import Derived.Test.YtfcggdkahmcnfaaDoorStu
namespace Go.Proofs.YtfcggdkahmcnfaaDoor.Lab
open Go.RowKit Go.ChangeMaps
set_option linter.unusedVariables false
theorem stepU_shift (n : Nat) : ∀ (ls P : List (Int × Int)) (k : Nat), ls.foldl (stepU n) (P, k) = ((allU n P ls).1, k + (allU n P ls).2) := by
  intro ls
  induction ls with
  | nil => intro P k; simp [allU]
  | cons x ls ih =>
    intro P k
    have h1 : ∀ k, stepU n (P, k) x = (useL n P x, k + if x ∈ P then 0 else 1) := fun k => by unfold stepU; dsimp only; split <;> rfl
    unfold allU
    rw [List.foldl_cons, List.foldl_cons, h1, h1, ih, ih]
    dsimp only
    rw [Nat.zero_add, Nat.add_assoc]
theorem allU_append (n : Nat) (xs a b : List (Int × Int)) : allU n xs (a ++ b) = ((allU n (allU n xs a).1 b).1, (allU n xs a).2 + (allU n (allU n xs a).1 b).2) := by
  have := stepU_shift n b (allU n xs a).1 (allU n xs a).2
  unfold allU at this ⊢
  rw [List.foldl_append]
  exact this
theorem mem_useL {n : Nat} {P : List (Int × Int)} {x y : Int × Int} (h : y ∈ useL n P x) : y = x ∨ y ∈ P := by
  rw [useL_mv] at h
  exact mem_mv.1 (List.mem_of_mem_take h)
theorem mem_allU (n : Nat) : ∀ (ls P : List (Int × Int)) (k : Nat) {y : Int × Int}, y ∈ (ls.foldl (stepU n) (P, k)).1 → y ∈ P ∨ y ∈ ls := by
  intro ls
  induction ls with
  | nil => intro P k y h; exact .inl h
  | cons x ls ih =>
    intro P k y h
    rw [List.foldl_cons] at h
    rcases ih (useL n P x) _ h with h | h
    · rcases mem_useL h with h | h
      · exact .inr (by rw [h]; exact List.mem_cons_self ..)
      · exact .inl h
    · exact .inr (List.mem_cons_of_mem _ h)
/-- How many of the first k are neither ahead of them nor in the pool. -/
def frs (xs ls : List (Int × Int)) : Nat → Nat
  | 0 => 0
  | k + 1 => frs xs ls k + match ls[k]? with | some x => (if hasK ls x k || hasK xs x xs.length then 0 else 1) | none => 0
theorem frs_step {xs ls : List (Int × Int)} {k : Nat} {x : Int × Int} (h : ls[k]? = some x) : frs xs ls (k + 1) = frs xs ls k + if hasK ls x k || hasK xs x xs.length then 0 else 1 := by
  show frs xs ls k + _ = _
  rw [h]
theorem frs_le (xs ls : List (Int × Int)) : ∀ k, frs xs ls k ≤ k
  | 0 => Nat.le_refl _
  | k + 1 => by
    have := frs_le xs ls k
    show frs xs ls k + _ ≤ _
    split
    · split <;> omega
    · omega
theorem frs_miss (n : Nat) (xs ls : List (Int × Int)) : ∀ k, k ≤ ls.length → frs xs ls k ≤ (allU n xs (ls.take k)).2
  | 0, _ => by simp [frs]
  | k + 1, h => by
    have ih := frs_miss n xs ls k (by omega)
    have hx : ls[k]? = some ls[k] := List.getElem?_eq_getElem (by omega)
    rw [frs_step hx, allU_take hx]
    unfold stepU
    dsimp only
    by_cases e : ls[k] ∈ (allU n xs (ls.take k)).1
    · have : (hasK ls ls[k] k || hasK xs ls[k] xs.length) = true := by
        rcases mem_allU n _ _ _ e with h | h
        · have := hasK_iff.2 (show ls[k] ∈ xs.take xs.length by rw [List.take_length]; exact h)
          rw [this]; simp
        · rw [hasK_iff.2 h]; rfl
      rw [this, if_pos e]
      simp; omega
    · rw [if_neg e]
      split <;> omega
theorem pa_split {zn : Nat} {xs ls : List (Int × Int)} (hp : poolB zn xs = true) (hl : ls.all (fun x => pageB x.1 x.2) = true) (k : Nat) :
    paZ zn xs (ls.take k) = zn ∧ paZ zn (paL zn xs (ls.take k)) (ls.drop k) = zn ∧ paL zn (paL zn xs (ls.take k)) (ls.drop k) = paL zn xs ls ∧ paN zn xs (ls.take k) + paN zn (paL zn xs (ls.take k)) (ls.drop k) = paN zn xs ls := by
  have h1 : (ls.take k).all (fun x => pageB x.1 x.2) = true := List.all_eq_true.2 (fun x hx => List.all_eq_true.1 hl x (List.mem_of_mem_take hx))
  have h2 : (ls.drop k).all (fun x => pageB x.1 x.2) = true := List.all_eq_true.2 (fun x hx => List.all_eq_true.1 hl x (List.mem_of_mem_drop hx))
  obtain ⟨a1, a2, a3⟩ := paZ_all hp h1
  obtain ⟨g1, g2, g3, g4, g5⟩ := poolB_true.1 hp
  have hA : poolB zn (paL zn xs (ls.take k)) = true := by
    rw [paL_stk hp a1]
    exact poolB_stk hp h1
  obtain ⟨b1, b2, b3⟩ := paZ_all hA h2
  obtain ⟨c1, c2, c3⟩ := paZ_all hp hl
  have hap := allU_append zn xs (ls.take k) (ls.drop k)
  rw [List.take_append_drop] at hap
  have hz : Int.toNat (zn : Int) = zn := rfl
  rw [hz] at a2 a3 b2 b3 c2 c3
  refine ⟨a1, b1, ?_, ?_⟩
  · rw [b2, c2, hap, ← a2]
  · rw [a3, b3, c3, hap, ← a2]
theorem poolB_pa {zn : Nat} {xs ls : List (Int × Int)} (hp : poolB zn xs = true) (hl : ls.all (fun x => pageB x.1 x.2) = true) : poolB zn (paL zn xs ls) = true := by
  rw [paL_stk hp (paZ_all hp hl).1]
  exact poolB_stk hp hl
theorem stk_len_ge' (ls xs : List (Int × Int)) : (stk xs ls).length = 0 → ls.length = 0 := fun h => by
  cases ls with
  | nil => rfl
  | cons x ls =>
    have : x ∈ stk xs (x :: ls) := (mem_stk _).2 (.inr (List.mem_cons_self ..))
    rw [List.length_eq_zero_iff.1 h] at this
    cases this
end Go.Proofs.YtfcggdkahmcnfaaDoor.Lab
