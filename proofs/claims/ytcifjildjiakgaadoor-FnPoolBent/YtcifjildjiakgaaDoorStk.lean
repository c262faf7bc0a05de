/-
  Pools in plain words: the pages as they were used last, the pool being the first of these.
-/
import Derived.Test.YtcifjildjiakgaaDoorApl
namespace Go.Proofs.YtcifjildjiakgaaDoor.Lab
open Go.RowKit Go.ChangeMaps
set_option linter.unusedVariables false
/-- A page comes to the front. -/
def mv (S : List (Int × Int)) (x : Int × Int) : List (Int × Int) := x :: S.filter (fun y => !eqB y x)
def stk (xs ls : List (Int × Int)) : List (Int × Int) := ls.foldl mv xs
theorem neB {x y : Int × Int} : ((!eqB y x) = true) ↔ y ≠ x := by
  rw [Bool.not_eq_true', eqB_false]
theorem useL_mv (n : Nat) (xs : List (Int × Int)) (x : Int × Int) : useL n xs x = (mv xs x).take n := rfl
theorem mem_mv {S : List (Int × Int)} {x y : Int × Int} : y ∈ mv S x ↔ y = x ∨ y ∈ S := by
  unfold mv
  rw [List.mem_cons, List.mem_filter, neB]
  constructor
  · rintro (h | ⟨h, _⟩)
    · exact .inl h
    · exact .inr h
  · intro h
    by_cases e : y = x
    · exact .inl e
    · rcases h with h | h
      · exact .inl h
      · exact .inr ⟨h, e⟩
theorem filter_id {S : List (Int × Int)} {x : Int × Int} (h : x ∉ S) : S.filter (fun y => !eqB y x) = S := by
  rw [List.filter_eq_self]
  intro y hy
  rw [neB]
  exact fun e => h (e ▸ hy)
theorem mv_nodup {S : List (Int × Int)} (h : S.Nodup) (x : Int × Int) : (mv S x).Nodup := by
  unfold mv
  rw [List.nodup_cons]
  refine ⟨fun hx => ?_, h.filter _⟩
  rw [List.mem_filter, neB] at hx
  exact hx.2 rfl
theorem stk_nodup {S : List (Int × Int)} (h : S.Nodup) (ls : List (Int × Int)) : (stk S ls).Nodup := by
  induction ls generalizing S with
  | nil => exact h
  | cons x ls ih => exact ih (mv_nodup h x)
theorem filter_take (x : Int × Int) : ∀ (n : Nat) (S : List (Int × Int)), S.Nodup → ((S.take (n + 1)).filter (fun y => !eqB y x)).take n = (S.filter (fun y => !eqB y x)).take n
  | n, [], _ => by simp
  | n, s :: S, h => by
    rw [List.nodup_cons] at h
    rw [List.take_succ_cons]
    by_cases e : s = x
    · subst e
      have h0 : (!eqB s s) = false := by rw [eqB_true.2 rfl]; rfl
      rw [List.filter_cons, List.filter_cons, h0]
      simp only [Bool.false_eq_true, if_false]
      rw [filter_id h.1, filter_id (fun hm => h.1 (List.mem_of_mem_take hm)), List.take_take, Nat.min_self]
    · have h0 : (!eqB s x) = true := neB.2 e
      rw [List.filter_cons, List.filter_cons, h0]
      simp only [if_true]
      cases n with
      | zero => simp
      | succ n => rw [List.take_succ_cons, List.take_succ_cons, filter_take x n S h.2]
theorem take_mv {n : Nat} {S : List (Int × Int)} (h : S.Nodup) (x : Int × Int) : useL n (S.take n) x = (mv S x).take n := by
  rw [useL_mv]
  unfold mv
  cases n with
  | zero => simp
  | succ n => rw [List.take_succ_cons, List.take_succ_cons, filter_take x n S h]
/-- How often a page was not among the first n. -/
def missF (n : Nat) : List (Int × Int) → List (Int × Int) → Nat
  | _, [] => 0
  | S, x :: ls => (if x ∈ S.take n then 0 else 1) + missF n (mv S x) ls
theorem foldl_stepU (n : Nat) : ∀ (ls S : List (Int × Int)) (k : Nat), S.Nodup → ls.foldl (stepU n) (S.take n, k) = ((stk S ls).take n, k + missF n S ls)
  | [], S, k, _ => by simp [stk, missF]
  | x :: ls, S, k, h => by
    have h1 : stepU n (S.take n, k) x = ((mv S x).take n, k + if x ∈ S.take n then 0 else 1) := by
      unfold stepU
      dsimp only
      rw [take_mv h]
      split <;> rfl
    rw [List.foldl_cons, h1, foldl_stepU n ls (mv S x) _ (mv_nodup h x)]
    simp only [stk, missF, List.foldl_cons]
    rw [Nat.add_assoc]
theorem allU_eq {n : Nat} {xs : List (Int × Int)} (h : xs.Nodup) (hl : xs.length ≤ n) (ls : List (Int × Int)) : allU n xs ls = ((stk xs ls).take n, missF n xs ls) := by
  have := foldl_stepU n ls xs 0 h
  rw [List.take_of_length_le hl, Nat.zero_add] at this
  exact this
theorem missF_mono {s g : Nat} (h : s ≤ g) : ∀ (ls S : List (Int × Int)), missF g S ls ≤ missF s S ls
  | [], S => Nat.le_refl _
  | x :: ls, S => by
    have ih := missF_mono h ls (mv S x)
    unfold missF
    have h1 : x ∈ S.take s → x ∈ S.take g := fun hx => by
      rw [← Nat.min_eq_left h, ← List.take_take] at hx
      exact List.mem_of_mem_take hx
    by_cases e : x ∈ S.take s
    · rw [if_pos e, if_pos (h1 e)]; omega
    · rw [if_neg e]; split <;> omega
theorem missF_zero : ∀ (ls S : List (Int × Int)), missF 0 S ls = ls.length
  | [], S => rfl
  | x :: ls, S => by unfold missF; rw [missF_zero ls]; simp; omega
theorem missF_le (n : Nat) : ∀ (ls S : List (Int × Int)), missF n S ls ≤ ls.length
  | [], S => Nat.le_refl _
  | x :: ls, S => by have := missF_le n ls (mv S x); unfold missF; rw [List.length_cons]; split <;> omega
theorem mv_len {S : List (Int × Int)} {x : Int × Int} (h : x ∈ S) : (mv S x).length ≤ S.length := by
  unfold mv
  have : (S.filter (fun y => !eqB y x)).length < S.length := by
    rw [List.length_filter_lt_length_iff_exists]
    exact ⟨x, h, by rw [eqB_true.2 rfl]; simp⟩
  rw [List.length_cons]; omega
theorem stk_len (n : Nat) : ∀ (ls S : List (Int × Int)), (stk S ls).length ≤ S.length + missF n S ls
  | [], S => by simp [stk, missF]
  | x :: ls, S => by
    have ih := stk_len n ls (mv S x)
    show (stk (mv S x) ls).length ≤ _
    unfold missF
    by_cases e : x ∈ S
    · have := mv_len e
      omega
    · rw [if_neg (fun h => e (List.mem_of_mem_take h))]
      have : (mv S x).length = S.length + 1 := by unfold mv; rw [filter_id e, List.length_cons]
      omega
theorem missF_pos (n : Nat) (x : Int × Int) (ls : List (Int × Int)) : 0 < missF n [] (x :: ls) := by
  unfold missF
  rw [if_neg (by simp)]
  omega
/-- Whether a page is among the first k. -/
def hasK (xs : List (Int × Int)) (x : Int × Int) (k : Nat) : Bool := (xs.take k).any (fun y => eqB y x)
theorem hasK_zero (xs : List (Int × Int)) (x : Int × Int) : hasK xs x 0 = false := by simp [hasK]
theorem hasK_step {xs : List (Int × Int)} {x y : Int × Int} {k : Nat} (h : xs[k]? = some y) : hasK xs x (k + 1) = (hasK xs x k || eqB y x) := by
  unfold hasK
  rw [List.take_add_one, h, List.any_append]
  simp
theorem hasK_iff {xs : List (Int × Int)} {x : Int × Int} {k : Nat} : hasK xs x k = true ↔ x ∈ xs.take k := by
  unfold hasK
  rw [List.any_eq_true]
  constructor
  · rintro ⟨y, h1, h2⟩
    rw [eqB_true] at h2
    exact h2 ▸ h1
  · intro h
    exact ⟨x, h, eqB_true.2 rfl⟩
theorem hasK_all (xs : List (Int × Int)) (x : Int × Int) : hasK xs x xs.length = decide (x ∈ xs) := by
  cases h : hasK xs x xs.length
  · have : ¬ x ∈ xs := fun hx => by
      have := hasK_iff.2 (show x ∈ xs.take xs.length by rw [List.take_length]; exact hx)
      rw [h] at this; cases this
    simp [this]
  · have := hasK_iff.1 h
    rw [List.take_length] at this
    simp [this]
theorem mv_len_in {S : List (Int × Int)} {x : Int × Int} (hn : S.Nodup) (h : x ∈ S) : (mv S x).length = S.length := by
  have h1 := mv_len h
  obtain ⟨s, t, rfl⟩ := List.append_of_mem h
  have := filt_split hn
  unfold mv
  rw [this]
  simp
  omega
theorem useL_in {n : Nat} {xs : List (Int × Int)} {x : Int × Int} (hn : xs.Nodup) (hl : xs.length ≤ n) (h : x ∈ xs) : (useL n xs x).length = xs.length := by
  rw [useL_mv, List.length_take, mv_len_in hn h]; omega
theorem useL_out {n : Nat} {xs : List (Int × Int)} {x : Int × Int} (h : x ∉ xs) : useL n xs x = (x :: xs).take n := by
  rw [useL_mv]; unfold mv; rw [filter_id h]
/-- A page that is not there pushes the last one out of a full pool. -/
theorem useL_last {xs : List (Int × Int)} {x y : Int × Int} (hn : xs.Nodup) (h : x ∉ xs) (h0 : 0 < xs.length) (hy : xs[xs.length - 1]? = some y) : y ∉ useL xs.length xs x := by
  rw [useL_out h]
  intro hm
  obtain ⟨n, hnn⟩ : ∃ n, xs.length = n + 1 := ⟨xs.length - 1, by omega⟩
  rw [hnn, List.take_succ_cons, List.mem_cons] at hm
  rw [hnn] at hy
  have hy' : xs[n]? = some y := hy
  rcases hm with rfl | hm
  · exact h (List.mem_of_getElem? hy')
  · obtain ⟨j, hj⟩ := List.getElem?_of_mem hm
    rw [List.getElem?_take] at hj
    split at hj
    · rename_i hlt
      obtain ⟨a1, a2⟩ := List.getElem?_eq_some_iff.1 hj
      obtain ⟨b1, b2⟩ := List.getElem?_eq_some_iff.1 hy'
      have := (List.getElem_inj hn).1 (a2.trans b2.symm)
      omega
    · cases hj
theorem paL_stk {z : Int} {xs ls : List (Int × Int)} (hp : poolB z xs = true) (hz : paZ z xs ls = z) : paL z xs ls = (stk xs ls).take z.toNat := by
  obtain ⟨g1, g2, g3, g4, g5⟩ := poolB_true.1 hp
  unfold paZ at hz
  unfold paL
  split
  · rw [allU_eq g5 (by omega)]
  · rename_i h
    rw [if_neg h] at hz
    subst hz
    simp
theorem mv_len_ge {S : List (Int × Int)} (hn : S.Nodup) (x : Int × Int) : S.length ≤ (mv S x).length := by
  by_cases h : x ∈ S
  · rw [mv_len_in hn h]; exact Nat.le_refl _
  · unfold mv; rw [filter_id h, List.length_cons]; omega
theorem stk_len_ge : ∀ (ls : List (Int × Int)) {S : List (Int × Int)}, S.Nodup → S.length ≤ (stk S ls).length
  | [], S, _ => Nat.le_refl _
  | x :: ls, S, h => Nat.le_trans (mv_len_ge h x) (stk_len_ge ls (mv_nodup h x))
theorem stk_snoc (xs ls : List (Int × Int)) (x : Int × Int) : stk xs (ls ++ [x]) = mv (stk xs ls) x := by simp [stk]
theorem stk_take {xs ls : List (Int × Int)} {k : Nat} {x : Int × Int} (h : ls[k]? = some x) : stk xs (ls.take (k + 1)) = mv (stk xs (ls.take k)) x := by
  rw [List.take_add_one, h]; exact stk_snoc xs _ x
/-- Pages that are all unlike lie on top, the last one first. -/
theorem stk_rev (xs ls : List (Int × Int)) : ∀ k, (ls.take k).Nodup → ∃ R, stk xs (ls.take k) = (ls.take k).reverse ++ R := by
  intro k
  induction k with
  | zero => intro _; exact ⟨xs, by simp [stk]⟩
  | succ k ih =>
    intro h
    cases hx : ls[k]? with
    | none =>
      have he : ls.take (k + 1) = ls.take k := by rw [List.take_add_one, hx]; simp
      rw [he] at h ⊢
      exact ih h
    | some x =>
      have h2 := h
      rw [List.take_add_one, hx, List.nodup_append] at h2
      obtain ⟨R, hR⟩ := ih h2.1
      have hnx : x ∉ ls.take k := fun hm => h2.2.2 x hm x (by simp) rfl
      refine ⟨R.filter (fun y => !eqB y x), ?_⟩
      rw [stk_take hx, hR]
      unfold mv
      rw [List.filter_append, filter_id (by simpa using hnx), List.take_add_one, hx]
      simp
theorem stk_get {xs ls : List (Int × Int)} (h : ls.Nodup) {i : Nat} (hi : i < ls.length) : (stk xs ls)[i]? = ls[ls.length - 1 - i]? := by
  have := stk_rev xs ls ls.length (by rw [List.take_length]; exact h)
  rw [List.take_length] at this
  obtain ⟨R, hR⟩ := this
  rw [hR, List.getElem?_append_left (by simpa using hi), List.getElem?_reverse hi]
theorem take_nodup_step {ls : List (Int × Int)} {k : Nat} {x : Int × Int} (h : ls[k]? = some x) (hn : (ls.take k).Nodup) (hx : hasK ls x k = false) : (ls.take (k + 1)).Nodup := by
  rw [List.take_add_one, h, List.nodup_append]
  refine ⟨hn, by simp, ?_⟩
  simp only [Option.toList_some, List.mem_singleton, forall_eq]
  intro y hy e
  subst e
  have := hasK_iff.2 hy
  rw [hx] at this
  cases this
end Go.Proofs.YtcifjildjiakgaaDoor.Lab
