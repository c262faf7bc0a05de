/-
  What was used last, in plain words: gathered page by page.
-/
import Derived.Test.YtlfgcchnboaflaaDoorStu
namespace Go.Proofs.YtlfgcchnboaflaaDoor.Lab
open Go.RowKit Go.ChangeMaps
set_option linter.unusedVariables false
/-- A page more, if it is not there. -/
def addD (acc : List (Int × Int)) (y : Int × Int) : List (Int × Int) := if hasK acc y acc.length then acc else acc ++ [y]
theorem hasK_mem {acc : List (Int × Int)} {y : Int × Int} : hasK acc y acc.length = true ↔ y ∈ acc := by
  rw [hasK_iff, List.take_length]
theorem hasK_nmem {acc : List (Int × Int)} {y : Int × Int} : hasK acc y acc.length = false ↔ y ∉ acc := by
  rw [← hasK_mem]; simp
theorem addD_len (acc : List (Int × Int)) (y : Int × Int) : (addD acc y).length ≤ acc.length + 1 := by
  unfold addD; split <;> simp
theorem addD_front (x : Int × Int) : ∀ (ys acc : List (Int × Int)), ys.foldl addD (x :: acc.filter (fun y => !eqB y x)) = x :: (ys.foldl addD acc).filter (fun y => !eqB y x)
  | [], acc => rfl
  | y :: ys, acc => by
    rw [List.foldl_cons, List.foldl_cons]
    have h : addD (x :: acc.filter (fun y => !eqB y x)) y = x :: (addD acc y).filter (fun y => !eqB y x) := by
      by_cases e : y = x
      · subst e
        have h1 : y ∈ (y :: acc.filter (fun z => !eqB z y)) := List.mem_cons_self ..
        have h2 : (addD acc y).filter (fun z => !eqB z y) = acc.filter (fun z => !eqB z y) := by
          unfold addD
          split
          · rfl
          · rw [List.filter_append]
            simp [eqB_true.2 (rfl : y = y)]
        rw [h2]
        unfold addD
        rw [if_pos (hasK_mem.2 h1)]
      · have h3 : (!eqB y x) = true := neB.2 e
        by_cases hm : y ∈ acc
        · have h1 : y ∈ (x :: acc.filter (fun z => !eqB z x)) := List.mem_cons_of_mem _ (List.mem_filter.2 ⟨hm, h3⟩)
          unfold addD
          rw [if_pos (hasK_mem.2 h1), if_pos (hasK_mem.2 hm)]
        · have h1 : y ∉ (x :: acc.filter (fun z => !eqB z x)) := fun h => by
            rcases List.mem_cons.1 h with h | h
            · exact e h
            · exact hm (List.mem_filter.1 h).1
          unfold addD
          have a1 := hasK_nmem.2 h1
          have a2 := hasK_nmem.2 hm
          rw [a1, a2]
          simp only [Bool.false_eq_true, if_false]
          rw [List.filter_append, List.filter_cons, h3]
          simp
    rw [h]
    exact addD_front x ys (addD acc y)
theorem addD_nodup : ∀ (ys acc : List (Int × Int)), (acc ++ ys).Nodup → ys.foldl addD acc = acc ++ ys
  | [], acc, _ => by simp
  | y :: ys, acc, h => by
    have hy : y ∉ acc := fun hm => by
      rw [List.nodup_append] at h
      exact h.2.2 y hm y (List.mem_cons_self ..) rfl
    have h1 : addD acc y = acc ++ [y] := by unfold addD; rw [hasK_nmem.2 hy]; simp
    rw [List.foldl_cons, h1, addD_nodup ys (acc ++ [y]) (by simpa using h)]
    simp
/-- The pile is what was used, the last first, and then what was there. -/
theorem stk_add {xs : List (Int × Int)} (h : xs.Nodup) : ∀ (rs : List (Int × Int)), stk xs rs.reverse = (rs ++ xs).foldl addD []
  | [] => by
    have := addD_nodup xs [] (by simpa using h)
    simpa [stk] using this.symm
  | x :: rs => by
    rw [List.reverse_cons, stk_snoc, stk_add h rs, List.cons_append, List.foldl_cons]
    have h1 : addD [] x = x :: ([] : List (Int × Int)).filter (fun y => !eqB y x) := by simp [addD, hasK]
    rw [h1, addD_front]
    rfl
theorem fold_step {ys acc : List (Int × Int)} {k : Nat} {y : Int × Int} (h : ys[k]? = some y) : (ys.take (k + 1)).foldl addD acc = addD ((ys.take k).foldl addD acc) y := by
  rw [List.take_add_one, h, List.foldl_append]
  rfl
theorem fold_len (acc : List (Int × Int)) : ∀ (ys : List (Int × Int)), (ys.foldl addD acc).length ≤ acc.length + ys.length := by
  intro ys
  induction ys generalizing acc with
  | nil => simp
  | cons y ys ih =>
    have h1 := ih (addD acc y)
    have h2 := addD_len acc y
    rw [List.foldl_cons, List.length_cons]
    omega
end Go.Proofs.YtlfgcchnboaflaaDoor.Lab
