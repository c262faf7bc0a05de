/-
  Numbers as texts, in plain words: of at most seventeen digits, as they are written.
-/
import Derived.Test.YtbgcalhpopcakaaDoorPlain
import Derived.Lib.AtoiAll
import Derived.Lib.ItoaNum
import Derived.Lib.ItoaMem
namespace Go.Proofs.YtbgcalhpopcakaaDoor.Lab
open Go.RowKit
set_option linter.unusedVariables false
def isD (x : UInt8) : Bool := decide (48 ≤ x.toNat) && decide (x.toNat ≤ 57)
def valD (l : List UInt8) : Nat := l.foldl (fun n x => n * 10 + (x.toNat - 48)) 0
/-- Digits without a needless zero. -/
def canB (l : List UInt8) : Bool := !l.isEmpty && l.all isD && (!(l.head? == some 48) || l.length == 1)
theorem isD_of (u : Nat) (h : u < 10) : isD (UInt8.ofNat (48 + u)) = true ∧ (UInt8.ofNat (48 + u)).toNat - 48 = u := by
  have : (UInt8.ofNat (48 + u)).toNat = 48 + u := by simp [UInt8.toNat_ofNat']; omega
  rw [isD, this]; simp; omega
theorem isD_back {x : UInt8} (h : isD x = true) : UInt8.ofNat (48 + (x.toNat - 48)) = x ∧ x.toNat - 48 < 10 := by
  simp only [isD, Bool.and_eq_true, decide_eq_true_eq] at h
  refine ⟨?_, by omega⟩
  rw [show 48 + (x.toNat - 48) = x.toNat by omega]
  simp
theorem valD_app (l : List UInt8) (x : UInt8) : valD (l ++ [x]) = valD l * 10 + (x.toNat - 48) := by simp [valD, List.foldl_append]
theorem fold_ge (l : List UInt8) : ∀ a, a ≤ l.foldl (fun n x => n * 10 + (x.toNat - 48)) a := by
  induction l with
  | nil => intro a; exact Nat.le_refl _
  | cons x l ih => intro a; exact Nat.le_trans (show a ≤ a * 10 + (x.toNat - 48) by omega) (ih _)
theorem valD_pos {c : UInt8} {l : List UInt8} (h : isD c = true) (h0 : c ≠ 48) : 1 ≤ valD (c :: l) := by
  simp only [isD, Bool.and_eq_true, decide_eq_true_eq] at h
  have : c.toNat ≠ 48 := fun e => h0 (UInt8.toNat_inj.1 (by simpa using e))
  exact Nat.le_trans (by omega) (fold_ge l (0 * 10 + (c.toNat - 48)))
theorem canB_app {l : List UInt8} {x : UInt8} (hl : l ≠ []) : canB (l ++ [x]) = (canB l && isD x && !(l.head? == some 48)) := by
  cases l with
  | nil => exact absurd rfl hl
  | cons c l =>
    simp only [canB, List.cons_append, List.isEmpty_cons, List.all_cons, List.all_append, List.head?_cons, List.length_cons, List.length_append]
    cases isD c <;> cases l.all isD <;> cases isD x <;> simp
    intro h; exact .inl h
theorem dec_can (u : Nat) : canB (Lib.decDigits u) = true ∧ valD (Lib.decDigits u) = u ∧ (1 ≤ u → (Lib.decDigits u).head? ≠ some 48) := by
  induction u using Nat.strongRecOn with
  | ind u ih =>
    by_cases h : u < 10
    · rw [Lib.decDigits_one h]
      have := isD_of u h
      have h2 : (UInt8.ofNat (48 + u)).toNat = 48 + u := by simp [UInt8.toNat_ofNat']; omega
      generalize UInt8.ofNat (48 + u) = c at *
      refine ⟨by simp [canB, this.1], by simp only [valD, List.foldl_cons, List.foldl_nil, Nat.zero_mul, Nat.zero_add]; exact this.2, fun h1 e => ?_⟩
      simp only [List.head?_cons, Option.some.injEq] at e
      rw [e] at h2; simp at h2; omega
    · obtain ⟨i1, i2, i3⟩ := ih (u / 10) (by omega)
      have e : Lib.decDigits u = Lib.decDigits (u / 10) ++ [UInt8.ofNat (48 + u % 10)] := by conv => lhs; rw [Lib.decDigits, dif_neg h]
      have hd := isD_of (u % 10) (by omega)
      have hne : Lib.decDigits (u / 10) ≠ [] := fun e => by rw [e] at i1; simp [canB] at i1
      have h3 := i3 (by omega)
      refine ⟨?_, ?_, fun _ => ?_⟩
      · rw [e, canB_app hne, i1, hd.1]; simpa using h3
      · rw [e, valD_app, i2, hd.2]; omega
      · rw [e]
        cases hq : Lib.decDigits (u / 10) with
        | nil => exact absurd hq hne
        | cons c l => rw [hq] at h3; simpa using h3
theorem dec_back : ∀ (n : Nat) (l : List UInt8), l.length = n → canB l = true → Lib.decDigits (valD l) = l := by
  intro n
  induction n with
  | zero => intro l hl h; rw [List.length_eq_zero_iff.1 hl] at h; simp [canB] at h
  | succ n ih =>
    intro l hl h
    have hne : l ≠ [] := fun e => by rw [e] at hl; simp at hl
    obtain ⟨r, x, rfl⟩ : ∃ r x, l = r ++ [x] := ⟨_, _, (List.dropLast_concat_getLast hne).symm⟩
    by_cases hr : r = []
    · subst hr
      have hx : isD x = true := by simpa [canB] using h
      have := isD_back hx
      have hv : valD ([] ++ [x]) = x.toNat - 48 := by simp [valD]
      rw [hv, Lib.decDigits_one this.2, this.1]; rfl
    · rw [canB_app hr] at h
      simp only [Bool.and_eq_true, Bool.not_eq_true', beq_eq_false_iff_ne, ne_eq] at h
      obtain ⟨⟨h1, h2⟩, h3⟩ := h
      have hb := isD_back h2
      have hpos : 1 ≤ valD r := by
        cases r with
        | nil => exact absurd rfl hr
        | cons c r =>
          have hc : isD c = true := by simp only [canB, List.all_cons, Bool.and_eq_true] at h1; exact h1.1.2.1
          exact valD_pos hc (fun e => h3 (by simp [e]))
      have ihr := ih r (by simpa using hl) h1
      rw [valD_app, Lib.decDigits, dif_neg (by omega), show (valD r * 10 + (x.toNat - 48)) / 10 = valD r by omega, show (valD r * 10 + (x.toNat - 48)) % 10 = x.toNat - 48 by omega, ihr, hb.1]
/-- The number that a text is of. -/
def numO (l : List UInt8) : Option Int :=
  match l with
  | [] => none
  | c :: r => if c = 45 then (if canB r = true ∧ r.length ≤ 17 ∧ r.head? ≠ some 48 then some (-(valD r : Int)) else none) else if canB (c :: r) = true ∧ (c :: r).length ≤ 17 then some (valD (c :: r) : Int) else none
def numV (l : List UInt8) : Int := (numO l).getD 0
def numB (l : List UInt8) : Bool := (numO l).isSome
theorem val_lt : ∀ (l : List UInt8), l.all isD = true → valD l < 10 ^ l.length := by
  intro l
  induction hn : l.length generalizing l with
  | zero => intro h; rw [List.length_eq_zero_iff.1 hn]; simp [valD]
  | succ n ih =>
    intro h
    have hne : l ≠ [] := fun e => by rw [e] at hn; simp at hn
    obtain ⟨r, x, rfl⟩ : ∃ r x, l = r ++ [x] := ⟨_, _, (List.dropLast_concat_getLast hne).symm⟩
    simp only [List.all_append, List.all_cons, List.all_nil, Bool.and_true, Bool.and_eq_true] at h
    have := ih r (by simpa using hn) h.1
    have hb := (isD_back h.2).2
    rw [valD_app, Nat.pow_succ]
    omega
theorem pow_le17 {n : Nat} (h : n ≤ 17) : 10 ^ n ≤ 100000000000000000 := Nat.le_trans (Nat.pow_le_pow_right (by decide) h) (by decide)
theorem parse_ok : ∀ (l : List UInt8) (acc k : Nat), l.all isD = true → acc < 10 ^ k → k + l.length ≤ 17 → Lib.parseUint10 acc l = .ok (l.foldl (fun n x => n * 10 + (x.toNat - 48)) acc)
  | [], acc, k, _, _, _ => rfl
  | c :: r, acc, k, h, ha, hk => by
    simp only [List.all_cons, Bool.and_eq_true] at h
    have hb := (isD_back h.1).2
    have hc := h.1
    simp only [isD, Bool.and_eq_true, decide_eq_true_eq] at hc
    have h17 := pow_le17 (n := k) (by simp at hk; omega)
    unfold Lib.parseUint10
    rw [if_pos hc, if_neg (by omega), if_neg (by omega), parse_ok r _ (k + 1) h.2 (by rw [Nat.pow_succ]; omega) (by simp at hk; omega)]
    rfl
theorem can_all {l : List UInt8} (h : canB l = true) : l.all isD = true ∧ l ≠ [] := by
  simp only [canB, Bool.and_eq_true] at h
  exact ⟨h.1.2, fun e => by rw [e] at h; simp at h⟩
theorem mag_ok {l : List UInt8} (h : canB l = true) (h17 : l.length ≤ 17) : Lib.parseMag l = .ok (valD l) := by
  obtain ⟨h1, h2⟩ := can_all h
  unfold Lib.parseMag
  rw [if_neg h2, parse_ok l 0 0 h1 (by simp) (by omega)]; rfl
theorem numO_ok {l : List UInt8} {n : Int} (h : numO l = some n) : Lib.atoiAll l = .ok n ∧ Lib.itoa n = l := by
  cases l with
  | nil => simp [numO] at h
  | cons c r =>
    simp only [numO] at h
    split at h
    · rename_i hc
      subst hc
      split at h
      · rename_i hq
        obtain ⟨q1, q2, q3⟩ := hq
        cases h
        have hpos : 1 ≤ valD r := by
          cases r with
          | nil => simp [canB] at q1
          | cons c r =>
            have hc : isD c = true := by have := (can_all q1).1; simp only [List.all_cons, Bool.and_eq_true] at this; exact this.1
            exact valD_pos hc (fun e => q3 (by simp [e]))
        have hlt : valD r < 100000000000000000 := Nat.lt_of_lt_of_le (val_lt r (can_all q1).1) (pow_le17 q2)
        refine ⟨?_, by rw [Lib.itoa_neg _ hpos, dec_back _ r rfl q1]⟩
        have e1 : (45 : UInt8).toNat = 45 := by decide
        have m : (if (45 : UInt8).toNat = 43 ∨ (45 : UInt8).toNat = 45 then r else 45 :: r) = r := if_pos (.inr e1)
        unfold Lib.atoiAll
        simp only [m, mag_ok q1 q2]
        rw [if_neg (by omega), if_neg (by omega), if_pos e1]
      · cases h
    · rename_i hc
      split at h
      · rename_i hq
        obtain ⟨q1, q2⟩ := hq
        cases h
        have hlt : valD (c :: r) < 100000000000000000 := Nat.lt_of_lt_of_le (val_lt _ (can_all q1).1) (pow_le17 q2)
        have hd : isD c = true := by have := (can_all q1).1; simp only [List.all_cons, Bool.and_eq_true] at this; exact this.1
        simp only [isD, Bool.and_eq_true, decide_eq_true_eq] at hd
        refine ⟨?_, by rw [Lib.itoa_nonneg, dec_back _ _ rfl q1]⟩
        have n1 : ¬ (c.toNat = 43 ∨ c.toNat = 45) := by omega
        have n2 : ¬ c.toNat = 45 := by omega
        have m : (if c.toNat = 43 ∨ c.toNat = 45 then r else c :: r) = c :: r := if_neg n1
        unfold Lib.atoiAll
        simp only [m, mag_ok q1 q2]
        rw [if_neg (by omega), if_neg (by omega), if_neg n2]
      · cases h
theorem numO_of {n : Int} {l : List UInt8} (h : Lib.itoa n = l) (h17 : (if l.head? = some 45 then l.tail else l).length ≤ 17) : numO l = some n := by
  rcases Int.lt_or_le n 0 with hn | hn
  · obtain ⟨k, rfl⟩ : ∃ k : Nat, n = -(k : Int) := ⟨n.natAbs, by omega⟩
    rw [Lib.itoa_neg _ (by omega)] at h
    subst h
    obtain ⟨d1, d2, d3⟩ := dec_can k
    simp only [List.head?_cons, if_pos, List.tail_cons] at h17
    simp only [numO, if_pos]
    rw [if_pos ⟨d1, h17, d3 (by omega)⟩, d2]
  · obtain ⟨k, rfl⟩ := Int.eq_ofNat_of_zero_le hn
    rw [Lib.itoa_nonneg] at h
    subst h
    obtain ⟨d1, d2, d3⟩ := dec_can k
    cases hq : Lib.decDigits k with
    | nil => rw [hq] at d1; simp [canB] at d1
    | cons c r =>
      rw [hq] at h17 d1 d2
      have hd : isD c = true := by have := (can_all d1).1; simp only [List.all_cons, Bool.and_eq_true] at this; exact this.1
      have hc : c ≠ 45 := fun e => by rw [e] at hd; simp [isD] at hd
      rw [if_neg (by simpa using hc)] at h17
      simp only [numO, if_neg hc]
      rw [if_pos ⟨d1, h17⟩, d2]
end Go.Proofs.YtbgcalhpopcakaaDoor.Lab
