/-
  Pools in plain words: used twice, cut in two, what was used last.
-/
import Derived.Test.YtfcggdkahmcnfaaDoorStk
import Derived.Test.YtfcggdkahmcnfaaDoorPlw
namespace Go.Proofs.YtfcggdkahmcnfaaDoor.Lab
open Go.RowKit Go.ChangeMaps
set_option linter.unusedVariables false
theorem mem_stk : ∀ (ls : List (Int × Int)) {S : List (Int × Int)} {y : Int × Int}, y ∈ stk S ls ↔ y ∈ S ∨ y ∈ ls
  | [], S, y => by simp [stk]
  | x :: ls, S, y => by
    show y ∈ stk (mv S x) ls ↔ _
    rw [mem_stk ls, mem_mv, List.mem_cons]
    constructor
    · rintro ((h | h) | h)
      · exact .inr (.inl h)
      · exact .inl h
      · exact .inr (.inr h)
    · rintro (h | h | h)
      · exact .inl (.inr h)
      · exact .inl (.inl h)
      · exact .inr h
theorem mv_append (T R : List (Int × Int)) (x : Int × Int) : mv (T ++ R) x = mv T x ++ R.filter (fun y => !eqB y x) := by
  unfold mv
  rw [List.filter_append, List.cons_append]
theorem stk_append : ∀ (ls T R : List (Int × Int)), stk (T ++ R) ls = stk T ls ++ R.filter (fun y => !(ls.any (fun z => eqB y z)))
  | [], T, R => by
    have : R.filter (fun y => !(([] : List (Int × Int)).any (fun z => eqB y z))) = R := by rw [List.filter_eq_self]; intro y _; simp
    rw [this]; rfl
  | x :: ls, T, R => by
    show stk (mv (T ++ R) x) ls = stk (mv T x) ls ++ _
    rw [mv_append, stk_append ls, List.filter_filter]
    congr 1
    apply List.filter_congr
    intro y _
    simp only [List.any_cons, Bool.not_or]
    rw [Bool.and_comm]
/-- The top of the pile hangs on what was used alone. -/
theorem stk_top (xs ls : List (Int × Int)) : stk xs ls = stk [] ls ++ xs.filter (fun y => !(ls.any (fun z => eqB y z))) := by
  have := stk_append ls [] xs
  simpa using this
theorem stk_twice (xs ls : List (Int × Int)) : stk (stk xs ls) ls = stk xs ls := by
  rw [stk_top (stk xs ls) ls, stk_top xs ls, List.filter_append, List.filter_filter]
  have h1 : (stk [] ls).filter (fun y => !(ls.any (fun z => eqB y z))) = [] := by
    rw [List.filter_eq_nil_iff]
    intro y hy
    have : y ∈ ls := by simpa using (mem_stk ls).1 hy
    have h2 : ls.any (fun z => eqB y z) = true := List.any_eq_true.2 ⟨y, this, eqB_true.2 rfl⟩
    simp [h2]
  rw [h1, List.nil_append]
  congr 1
  apply List.filter_congr
  intro y _
  simp
theorem missF_top (n : Nat) : ∀ (ls T R : List (Int × Int)), T.Nodup → T.length ≤ n → (∀ y ∈ ls, y ∈ T) → missF n (T ++ R) ls = 0
  | [], T, R, _, _, _ => rfl
  | x :: ls, T, R, hT, hn, hm => by
    have hx : x ∈ T := hm x (List.mem_cons_self ..)
    have h1 : x ∈ (T ++ R).take n := by
      rw [List.take_append, List.take_of_length_le hn]
      exact List.mem_append_left _ hx
    unfold missF
    rw [if_pos h1, mv_append, missF_top n ls (mv T x) _ (mv_nodup hT x) (by rw [mv_len_in hT hx]; exact hn) (fun y hy => mem_mv.2 (.inr (hm y (List.mem_cons_of_mem _ hy))))]
/-- How many of the first k are unlike all ahead of them. -/
def unl (ls : List (Int × Int)) : Nat → Nat
  | 0 => 0
  | k + 1 => unl ls k + match ls[k]? with | some x => (if hasK ls x k then 0 else 1) | none => 0
theorem unl_step {ls : List (Int × Int)} {k : Nat} {x : Int × Int} (h : ls[k]? = some x) : unl ls (k + 1) = unl ls k + if hasK ls x k then 0 else 1 := by
  show unl ls k + _ = _
  rw [h]
theorem unl_le (ls : List (Int × Int)) : ∀ k, unl ls k ≤ k
  | 0 => Nat.le_refl _
  | k + 1 => by
    have := unl_le ls k
    show unl ls k + _ ≤ _
    split
    · split <;> omega
    · omega
theorem stk_unl (ls : List (Int × Int)) : ∀ k, k ≤ ls.length → (stk [] (ls.take k)).length ≤ unl ls k
  | 0, _ => by simp [stk, unl]
  | k + 1, h => by
    have ih := stk_unl ls k (by omega)
    have hx : ls[k]? = some ls[k] := List.getElem?_eq_getElem (by omega)
    rw [stk_take hx, unl_step hx]
    by_cases e : ls[k] ∈ ls.take k
    · rw [hasK_iff.2 e]
      have : ls[k] ∈ stk [] (ls.take k) := (mem_stk _).2 (.inr e)
      have := mv_len this
      simp; omega
    · have hf : hasK ls ls[k] k = false := by
        cases hh : hasK ls ls[k] k
        · rfl
        · exact absurd (hasK_iff.1 hh) e
      rw [hf]
      have : (mv (stk [] (ls.take k)) ls[k]).length ≤ (stk [] (ls.take k)).length + 1 := by
        unfold mv
        have := List.length_filter_le (fun y => !eqB y ls[k]) (stk [] (ls.take k))
        rw [List.length_cons]; omega
      simp; omega
theorem unl_pos {ls : List (Int × Int)} (h : 0 < ls.length) : ∀ k, 0 < k → k ≤ ls.length → 0 < unl ls k
  | 0, h0, _ => by omega
  | k + 1, _, hk => by
    by_cases h1 : k = 0
    · subst h1
      have hx : ls[0]? = some ls[0] := List.getElem?_eq_getElem (by omega)
      rw [unl_step hx, hasK_zero]
      simp
    · have := unl_pos h k (by omega) (by omega)
      show 0 < unl ls k + _
      omega
/-- A pool into which all that is used fits is used a second time: nothing is missed, nothing turns. -/
theorem pool_twice {zn : Nat} {xs ls : List (Int × Int)} (hn : xs.Nodup) (hu : unl ls ls.length ≤ zn) : allU zn ((stk xs ls).take zn) ls = ((stk xs ls).take zn, 0) := by
  have h1 := foldl_stepU zn ls (stk xs ls) 0 (stk_nodup hn ls)
  have h2 := stk_unl ls ls.length (Nat.le_refl _)
  rw [List.take_length] at h2
  have h3 : missF zn (stk xs ls) ls = 0 := by
    rw [stk_top xs ls]
    exact missF_top zn ls _ _ (stk_nodup (by simp) ls) (by omega) (fun y hy => (mem_stk ls).2 (.inr hy))
  rw [stk_twice, h3] at h1
  exact h1
theorem poolB_stk {zn : Nat} {xs ls : List (Int × Int)} (hp : poolB zn xs = true) (hl : ls.all (fun x => pageB x.1 x.2) = true) : poolB zn ((stk xs ls).take zn) = true := by
  obtain ⟨g1, g2, g3, g4, g5⟩ := poolB_true.1 hp
  refine poolB_true.2 ⟨g1, g2, by rw [List.length_take]; omega, fun x hx => ?_, ((stk_nodup g5 ls).sublist (List.take_sublist _ _))⟩
  have := List.mem_of_mem_take hx
  rcases (mem_stk ls).1 this with h | h
  · exact g4 x h
  · exact List.all_eq_true.1 hl x h
theorem paZ_all {z : Int} {xs ls : List (Int × Int)} (hp : poolB z xs = true) (hl : ls.all (fun x => pageB x.1 x.2) = true) : paZ z xs ls = z ∧ paL z xs ls = (allU z.toNat xs ls).1 ∧ paN z xs ls = (allU z.toNat xs ls).2 := by
  simp [paZ, paL, paN, paOk, hp, hl]
theorem paZ_bad {z : Int} {xs ls : List (Int × Int)} (hl : ls.all (fun x => pageB x.1 x.2) = false) : paZ z xs ls = 0 ∧ paL z xs ls = [] ∧ paN z xs ls = 0 := by
  simp [paZ, paL, paN, paOk, hl]
/-- More room: what the lesser has the greater has, in front. -/
theorem pa_more {s g : Nat} (h : s ≤ g) (hs : s ≤ 12) (hg : g ≤ 12) (ls : List (Int × Int)) : paN g [] ls ≤ paN s [] ls ∧ (paL s [] ls).length ≤ (paL g [] ls).length ∧ (paL g [] ls).take (paL s [] ls).length = paL s [] ls := by
  have ps : poolB s [] = true := poolB_true.2 ⟨by omega, by omega, by simp, by simp, by simp⟩
  have pg : poolB g [] = true := poolB_true.2 ⟨by omega, by omega, by simp, by simp, by simp⟩
  cases hl : ls.all (fun x => pageB x.1 x.2)
  · obtain ⟨-, a2, a3⟩ := paZ_bad (z := s) (xs := []) hl
    obtain ⟨-, b2, b3⟩ := paZ_bad (z := g) (xs := []) hl
    rw [a2, a3, b2, b3]
    simp
  · obtain ⟨-, a2, a3⟩ := paZ_all ps hl
    obtain ⟨-, b2, b3⟩ := paZ_all pg hl
    rw [a2, a3, b2, b3]
    rw [show Int.toNat (s : Int) = s from rfl, show Int.toNat (g : Int) = g from rfl, allU_eq (by simp) (by simp) ls, allU_eq (by simp) (by simp) ls]
    dsimp only
    refine ⟨missF_mono h ls [], by rw [List.length_take, List.length_take]; omega, ?_⟩
    rw [List.length_take, List.take_take]
    rcases Nat.le_total s (stk [] ls).length with e | e
    · rw [Nat.min_eq_left e, Nat.min_eq_left h]
    · rw [Nat.min_eq_right e]
      rcases Nat.le_total g (stk [] ls).length with e2 | e2
      · have : (stk [] ls).length = g := by omega
        rw [this, Nat.min_self]
        rw [List.take_of_length_le (by omega), List.take_of_length_le (by omega)]
      · rw [Nat.min_eq_left e2, List.take_of_length_le (Nat.le_refl _), List.take_of_length_le e]
end Go.Proofs.YtfcggdkahmcnfaaDoor.Lab
