/-
  A pool used, in plain words; the tail of a row.
-/
import Derived.Test.YtfcggdkahmcnfaaDoorStl
namespace Go.Proofs.YtfcggdkahmcnfaaDoor.Lab
open Go.RowKit Go.ChangeMaps
set_option linter.unusedVariables false
/-- One world lies over another. -/
def OverB (w0 w : World) : Prop := Below w0.heap.size w0 w
theorem OverB.keep {w0 w w' : World} (h : OverB w0 w) (hb : Below w.heap.size w w') : OverB w0 w' := keep_below h hb
/-- The pages ahead of k that are others than x, no more than n. -/
def restJ (xs : List (Int × Int)) (x : Int × Int) (n k : Nat) : List (Int × Int) := ((xs.take k).filter (fun y => !eqB y x)).take n
theorem restJ_len (xs : List (Int × Int)) (x : Int × Int) (n k : Nat) : (restJ xs x n k).length ≤ n := by unfold restJ; rw [List.length_take]; omega
theorem restJ_same {xs : List (Int × Int)} {x y : Int × Int} {n k : Nat} (h : xs[k]? = some y) (hy : y = x) : restJ xs x n (k + 1) = restJ xs x n k := by
  have : eqB y x = true := eqB_true.2 hy
  unfold restJ
  rw [List.take_add_one, h, List.filter_append]
  simp [this]
theorem restJ_full {xs : List (Int × Int)} {x y : Int × Int} {n k : Nat} (h : xs[k]? = some y) (hl : ¬ (restJ xs x n k).length < n) : restJ xs x n (k + 1) = restJ xs x n k := by
  unfold restJ at hl ⊢
  rw [List.take_add_one, h, List.filter_append]
  rw [List.length_take] at hl
  rw [List.take_append_of_le_length (by omega)]
theorem restJ_more {xs : List (Int × Int)} {x y : Int × Int} {n k : Nat} (h : xs[k]? = some y) (hy : y ≠ x) (hl : (restJ xs x n k).length < n) : restJ xs x n (k + 1) = restJ xs x n k ++ [y] := by
  have : eqB y x = false := eqB_false.2 hy
  unfold restJ at hl ⊢
  rw [List.length_take] at hl
  have hl2 : ((xs.take k).filter (fun y => !eqB y x)).length < n := by omega
  rw [List.take_add_one, h, List.filter_append, List.take_of_length_le (Nat.le_of_lt hl2)]
  simp only [Option.toList_some, List.filter_cons, this, Bool.not_false, if_true, List.filter_nil]
  rw [List.take_of_length_le]
  simp; omega
theorem useL_front {n : Nat} {xs : List (Int × Int)} {x : Int × Int} : useL (n + 1) xs x = x :: restJ xs x n xs.length := by
  unfold restJ
  rw [useL_mv, List.take_length]
  unfold mv
  rw [List.take_succ_cons]
theorem useL_again {n : Nat} {xs : List (Int × Int)} {x : Int × Int} (hn : xs.Nodup) : useL (n + 1) (useL (n + 1) xs x) x = useL (n + 1) xs x := by
  have h1 : x ∉ restJ xs x n xs.length := fun h => by
    unfold restJ at h
    have := List.mem_of_mem_take h
    rw [List.mem_filter, neB] at this
    exact this.2 rfl
  have h2 : (useL (n + 1) xs x).length ≤ n + 1 := useL_len _ _ _
  rw [useL_mv (n + 1) (useL (n + 1) xs x) x]
  rw [useL_front] at h2 ⊢
  unfold mv
  rw [List.filter_cons, eqB_true.2 rfl]
  simp only [Bool.not_true, Bool.false_eq_true, if_false]
  rw [filter_id h1, List.take_of_length_le h2]
theorem poolB_use {zn : Nat} {xs : List (Int × Int)} {x : Int × Int} (hp : poolB zn xs = true) (hx : pageB x.1 x.2 = true) : poolB zn (useL zn xs x) = true := by
  obtain ⟨g1, g2, g3, g4, g5⟩ := poolB_true.1 hp
  refine poolB_true.2 ⟨g1, g2, by have := useL_len zn xs x; omega, fun y hy => ?_, useL_nodup g5⟩
  rw [useL_mv] at hy
  rcases mem_mv.1 (List.mem_of_mem_take hy) with rfl | h
  · exact hx
  · exact g4 y h
theorem pu_all {z : Int} {xs : List (Int × Int)} {x : Int × Int} (hp : poolB z xs = true) (hx : pageB x.1 x.2 = true) : puZ z xs x = z ∧ puL z xs x = useL z.toNat xs x ∧ puH z xs x = decide (x ∈ xs) := by
  simp [puZ, puL, puH, puOk, hp, hx]
theorem pu_bad {z : Int} {xs : List (Int × Int)} {x : Int × Int} (h : (poolB z xs && pageB x.1 x.2) = false) : puZ z xs x = 0 ∧ puL z xs x = [] ∧ puH z xs x = false := by
  simp [puZ, puL, puH, puOk, h]
theorem row_drop {w : World} {b off n c : Nat} {xs : List (Int × Int)} (h : RowAt 2 encPage w (.slice (some ⟨b, off, none⟩) n c) xs) (hn : n = xs.length) (k : Nat) (c' : Nat) : RowAt 2 encPage w (.slice (some ⟨b, off + k * 2, none⟩) (n - k) c') (xs.drop k) := by
  rcases h with ⟨rfl, a1, c1, hv⟩ | ⟨h0, b1, off1, cap, hv, hlt, hc⟩
  · refine .inl ⟨by simp, some ⟨b, off + k * 2, none⟩, c', ?_⟩
    simp at hn
    subst hn
    simp
  · simp only [Value.slice.injEq, Option.some.injEq, Addr.mk.injEq] at hv
    obtain ⟨⟨rfl, rfl, -⟩, -, rfl⟩ := hv
    by_cases hk : k < xs.length
    · refine .inr ⟨by simp; omega, b, off + k * 2, c', by rw [List.length_drop, hn], hlt, fun j x hx i u hu => ?_⟩
      rw [List.getElem?_drop] at hx
      have := hc (k + j) x hx i u hu
      have e : off + (k + j) * 2 + i = off + k * 2 + j * 2 + i := by omega
      rw [← e]; exact this
    · refine .inl ⟨by rw [List.drop_eq_nil_iff]; omega, some ⟨b, off + k * 2, none⟩, c', ?_⟩
      have : n - k = 0 := by omega
      rw [this]
end Go.Proofs.YtfcggdkahmcnfaaDoor.Lab
