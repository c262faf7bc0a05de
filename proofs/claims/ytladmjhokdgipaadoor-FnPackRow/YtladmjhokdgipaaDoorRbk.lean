/-
  Rows from their bytes, in plain words: what is read has those bytes, and ascends.
-/
import Derived.Test.YtladmjhokdgipaaDoorNrd
namespace Go.Proofs.YtladmjhokdgipaaDoor.Lab
open Go.RowKit
set_option linter.unusedVariables false
/-- The bytes from a place up to another. -/
def cutL (l : List UInt8) (i k : Int) : List UInt8 := (l.drop i.toNat).take (k.toNat - i.toNat)
theorem cutL_join (l : List UInt8) {i j k : Int} (h0 : 0 ≤ i) (h1 : i ≤ j) (h2 : j ≤ k) : cutL l i j ++ cutL l j k = cutL l i k := by
  unfold cutL
  have e1 : k.toNat - i.toNat = (j.toNat - i.toNat) + (k.toNat - j.toNat) := by omega
  have e2 : j.toNat = i.toNat + (j.toNat - i.toNat) := by omega
  rw [e1, List.take_add]
  congr 1
  rw [List.drop_drop]
  rw [← e2]
theorem nm_cutL {l : List UInt8} {p x q : Int} (h : nmO ⟨l.toArray⟩ p = some (x, q)) : cutL l p q = pkL x := by
  have := nm_back h
  rw [ext_mk] at this
  have h2 := congrArg (fun b => b.data.toList) this
  simpa [cutL, pkB] using h2
theorem last_take {xs acc : List Int} (h : xs.take acc.length = acc) : lastAt xs acc.length = lastAt acc acc.length := by
  unfold lastAt
  split
  · rfl
  · have : acc[acc.length - 1]? = xs[acc.length - 1]? := by
      have h2 := congrArg (fun t => t[acc.length - 1]?) h
      simp only [List.getElem?_take] at h2
      rw [if_pos (by omega)] at h2
      exact h2.symm
    rw [List.getD_eq_getElem?_getD, List.getD_eq_getElem?_getD, this]
theorem last_app (acc : List Int) (v : Int) : lastAt (acc ++ [v]) (acc ++ [v]).length = v := by
  simp [lastAt]
theorem rwK_back (l : List UInt8) : ∀ (m : Nat) (k last : Int) (acc xs : List Int) (q : Int), last = lastAt acc acc.length → -1 ≤ last → 0 ≤ k → rwK ⟨l.toArray⟩ m k last acc = some (xs, q) →
    xs.take acc.length = acc ∧ xs.length = acc.length + m ∧ (∀ j, acc.length ≤ j → j < xs.length → okAt xs j = true) ∧ k ≤ q ∧ cutL l k q = (List.range' acc.length m).flatMap (fun j => pkL (gapAt xs j)) := by
  intro m
  induction m with
  | zero =>
    intro k last acc xs q hl h0 hk h
    simp only [rwK, Option.some.injEq, Prod.mk.injEq] at h
    obtain ⟨rfl, rfl⟩ := h
    exact ⟨by simp, by simp, fun j h1 h2 => by omega, Int.le_refl _, by simp [cutL]⟩
  | succ m ih =>
    intro k last acc xs q hl h0 hk h
    rw [rwK_succ] at h
    cases hq : nmO ⟨l.toArray⟩ k with
    | none => rw [hq] at h; cases h
    | some y =>
      obtain ⟨g, k'⟩ := y
      have bd := nmO_bd hq
      rw [hq] at h
      simp only at h
      by_cases hb : 16383 < last + 1 + g
      · rw [if_pos hb] at h; cases h
      rw [if_neg hb] at h
      obtain ⟨i1, i2, i3, i4, i5⟩ := ih k' (last + 1 + g) (acc ++ [last + 1 + g]) xs q (last_app _ _).symm (by omega) (by omega) h
      simp only [List.length_append, List.length_cons, List.length_nil, Nat.zero_add] at i1 i2 i3 i5
      have t1 : xs.take acc.length = acc := by
        have := congrArg (List.take acc.length) i1
        rw [List.take_take, Nat.min_eq_left (by omega)] at this
        simpa using this
      have hlt : acc.length < xs.length := by omega
      have t2 : xs[acc.length]? = some (last + 1 + g) := by
        have : (xs.take (acc.length + 1))[acc.length]? = some (last + 1 + g) := by rw [i1]; simp
        rw [List.getElem?_take, if_pos (by omega)] at this
        exact this
      have tl : lastAt xs acc.length = last := by rw [last_take t1]; exact hl.symm
      have tg : gapAt xs acc.length = g := by unfold gapAt; rw [getD_of t2, tl]; omega
      refine ⟨t1, by omega, fun j h1 h2 => ?_, by omega, ?_⟩
      · rcases Nat.eq_or_lt_of_le h1 with rfl | h3
        · exact (okAt_iff t2).2 ⟨by omega, by omega, by rw [tl]; omega⟩
        · exact i3 j (by omega) h2
      · rw [← cutL_join l hk (show k ≤ k' by omega) i4, nm_cutL hq, i5, List.range'_succ, List.flatMap_cons, tg]
/-- What is read at a place has just the bytes that stand there, and ascends. -/
theorem rw_back {l : List UInt8} {p q : Int} {xs : List Int} (h : rwO ⟨l.toArray⟩ p = some (xs, q)) : upB xs = true ∧ 0 ≤ p ∧ p ≤ q ∧ (ByteArray.mk l.toArray).extract p.toNat q.toNat = ⟨(rowL xs).toArray⟩ := by
  unfold rwO at h
  cases hq : nmO ⟨l.toArray⟩ p with
  | none => rw [hq] at h; cases h
  | some y =>
    obtain ⟨n, k⟩ := y
    have bd := nmO_bd hq
    rw [hq] at h
    simp only at h
    by_cases hn : 127 < n
    · rw [if_pos hn] at h; cases h
    rw [if_neg hn] at h
    obtain ⟨i1, i2, i3, i4, i5⟩ := rwK_back l n.toNat k (-1) [] xs q rfl (by omega) (by omega) h
    simp only [List.length_nil, Nat.zero_add] at i2 i3 i5
    have hu : upB xs = true := by
      rw [upB_len (fun j hj => i3 j (by omega) hj)]
      simp; omega
    refine ⟨hu, bd.2.2.2.1, by omega, ?_⟩
    have hr : rowL xs = pkL n ++ (List.range' 0 n.toNat).flatMap (fun j => pkL (gapAt xs j)) := by
      have h1 : rowL xs = rowK xs xs.length := by simp [rowL, hu]
      rw [h1, rowK, i2, List.range_eq_range']
      congr 2
      omega
    rw [ext_mk, hr, ← i5, ← nm_cutL hq, cutL_join l bd.2.2.2.1 (by omega) i4]
    rfl
theorem rwK_end (s : ByteArray) : ∀ (m : Nat) (k last : Int) (acc xs : List Int) (q : Int), k ≤ s.size → rwK s m k last acc = some (xs, q) → q ≤ s.size := by
  intro m
  induction m with
  | zero => intro k last acc xs q hk h; simp only [rwK, Option.some.injEq, Prod.mk.injEq] at h; omega
  | succ m ih =>
    intro k last acc xs q hk h
    rw [rwK_succ] at h
    cases hq : nmO s k with
    | none => rw [hq] at h; cases h
    | some y =>
      obtain ⟨g, k'⟩ := y
      have bd := nmO_bd hq
      rw [hq] at h
      simp only at h
      split at h
      · cases h
      · exact ih _ _ _ _ _ bd.2.2.2.2 h
theorem rw_end {l : List UInt8} {p q : Int} {xs : List Int} (h : rwO ⟨l.toArray⟩ p = some (xs, q)) : q ≤ (l.length : Int) := by
  unfold rwO at h
  cases hq : nmO ⟨l.toArray⟩ p with
  | none => rw [hq] at h; cases h
  | some y =>
    obtain ⟨n, k⟩ := y
    have bd := nmO_bd hq
    rw [hq] at h
    simp only at h
    split at h
    · cases h
    · have := rwK_end _ _ _ _ _ _ _ bd.2.2.2.2 h
      rw [size_mk] at this; exact this
theorem up_asc {xs : List Int} (h : upB xs = true) {k : Nat} {x y : Int} (hk : xs[k + 1]? = some y) (hj : xs[k]? = some x) : x < y := by
  have hlt : k + 1 < xs.length := (List.getElem?_eq_some_iff.1 hk).1
  have := ((okAt_iff hk).1 ((upB_all h).1 (k + 1) hlt)).2.2
  simp only [lastAt, if_neg (Nat.succ_ne_zero k), Nat.add_sub_cancel] at this
  rw [getD_of hj] at this
  exact this
end Go.Proofs.YtladmjhokdgipaaDoor.Lab
