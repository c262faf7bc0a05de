/-
  A pool used page after page, in plain words: what PoolAll answers.
-/
import Derived.Test.YtcifjildjiakgaaDoorUpl
namespace Go.Proofs.YtcifjildjiakgaaDoor.Lab
open Go.RowKit Go.ChangeMaps
set_option linter.unusedVariables false
/-- One page more: the pool, and how many were missed. -/
def stepU (n : Nat) (s : List (Int × Int) × Nat) (x : Int × Int) : List (Int × Int) × Nat := (useL n s.1 x, if x ∈ s.1 then s.2 else s.2 + 1)
def allU (n : Nat) (xs ls : List (Int × Int)) : List (Int × Int) × Nat := ls.foldl (stepU n) (xs, 0)
theorem allU_nil (n : Nat) (xs : List (Int × Int)) : allU n xs [] = (xs, 0) := rfl
theorem allU_snoc (n : Nat) (xs ls : List (Int × Int)) (x : Int × Int) : allU n xs (ls ++ [x]) = stepU n (allU n xs ls) x := by simp [allU]
theorem allU_take {n : Nat} {xs ls : List (Int × Int)} {k : Nat} {x : Int × Int} (h : ls[k]? = some x) : allU n xs (ls.take (k + 1)) = stepU n (allU n xs (ls.take k)) x := by
  rw [List.take_add_one, h]; exact allU_snoc n xs _ x
theorem allU_nodup {n : Nat} {xs : List (Int × Int)} (h : xs.Nodup) (ls : List (Int × Int)) : (allU n xs ls).1.Nodup := by
  have H : ∀ (ls : List (Int × Int)) (s : List (Int × Int) × Nat), s.1.Nodup → (ls.foldl (stepU n) s).1.Nodup := by
    intro ls
    induction ls with
    | nil => intro s hs; exact hs
    | cons x ls ih => intro s hs; exact ih _ (useL_nodup hs)
  exact H ls _ h
theorem allU_len {n : Nat} {xs : List (Int × Int)} (h : xs.length ≤ n) (ls : List (Int × Int)) : (allU n xs ls).1.length ≤ n := by
  have H : ∀ (ls : List (Int × Int)) (s : List (Int × Int) × Nat), s.1.length ≤ n → (ls.foldl (stepU n) s).1.length ≤ n := by
    intro ls
    induction ls with
    | nil => intro s hs; exact hs
    | cons x ls ih => intro s hs; exact ih _ (useL_len _ _ _)
  exact H ls _ h
theorem allU_miss (n : Nat) (xs ls : List (Int × Int)) : (allU n xs ls).2 ≤ ls.length := by
  have H : ∀ (ls : List (Int × Int)) (s : List (Int × Int) × Nat), (ls.foldl (stepU n) s).2 ≤ s.2 + ls.length := by
    intro ls
    induction ls with
    | nil => intro s; simp
    | cons x ls ih =>
      intro s
      have h1 := ih (stepU n s x)
      have h2 : (stepU n s x).2 ≤ s.2 + 1 := by unfold stepU; dsimp only; split <;> omega
      simp only [List.foldl_cons, List.length_cons]
      omega
  have h := H ls (xs, 0)
  unfold allU
  omega
/-- What PoolAll answers: the size, the pool, how many were missed. -/
def paOk (z : Int) (xs ls : List (Int × Int)) : Bool := poolB z xs && ls.all (fun x => pageB x.1 x.2)
def paZ (z : Int) (xs ls : List (Int × Int)) : Int := if paOk z xs ls then z else 0
def paL (z : Int) (xs ls : List (Int × Int)) : List (Int × Int) := if paOk z xs ls then (allU z.toNat xs ls).1 else []
def paN (z : Int) (xs ls : List (Int × Int)) : Nat := if paOk z xs ls then (allU z.toNat xs ls).2 else 0
theorem paL_len (z : Int) (xs ls : List (Int × Int)) : (paL z xs ls).length ≤ 12 := by
  unfold paL
  split
  · rename_i h
    simp only [paOk, Bool.and_eq_true] at h
    obtain ⟨h0, h1, h2, _⟩ := poolB_true.1 h.1
    have := allU_len (n := z.toNat) (xs := xs) (by omega) ls
    omega
  · simp
end Go.Proofs.YtcifjildjiakgaaDoor.Lab
