/-
  Rows as bytes and back, in plain words: what is read where a row's bytes stand; a row's bytes that end too early.
  Small facts that several texts lean on: pairs held against one another; worlds that grow but for one block.
-/
import Derived.Test.YtlnpbfeihjfnjabGreatDoorQPrw
import Derived.Test.YtlnpbfeihjfnjabGreatDoorQRwa
import Derived.Test.YtlnpbfeihjfnjabGreatDoorQIts
namespace Go.Proofs.YtlnpbfeihjfnjabGreatDoor.Lab
open Go.RowKit
set_option linter.unusedVariables false
theorem size_mk (l : List UInt8) : (ByteArray.mk l.toArray).size = l.length := by simp [ByteArray.size]
theorem bt_mk {l : List UInt8} {i : Nat} {c : UInt8} (h : l[i]? = some c) : bt ⟨l.toArray⟩ i = (c.toNat : Int) := by
  obtain ⟨hl, hc⟩ := List.getElem?_eq_some_iff.1 h
  have hs : i < (ByteArray.mk l.toArray).size := by rw [size_mk]; exact hl
  rw [← bt_in hs]
  have : (ByteArray.mk l.toArray)[i] = l[i] := rfl
  rw [this, hc]
/-- A number's bytes are read, whatever is ahead of them and behind. -/
theorem nm_at (P Q : List UInt8) {n : Int} (h0 : 0 ≤ n) (h1 : n ≤ 16383) : nmO ⟨(P ++ pkL n ++ Q).toArray⟩ (P.length : Int) = some (n, (P.length : Int) + (pkL n).length) := by
  by_cases h : n < 128
  · rw [pkL_one h0 h]
    have hb : bt ⟨(P ++ [UInt8.ofNat n.toNat] ++ Q).toArray⟩ P.length = n := by
      rw [bt_mk (c := UInt8.ofNat n.toNat) (by simp), byte_nat _ (by omega)]; omega
    rw [nmO_one (by rw [size_mk]; simp) (by rw [hb]; omega), hb]
    simp
  · rw [pkL_two (by omega) h1]
    have hb : bt ⟨(P ++ [UInt8.ofNat (128 + n.toNat / 128), UInt8.ofNat (n.toNat % 128)] ++ Q).toArray⟩ P.length = 128 + n / 128 := by
      rw [bt_mk (c := UInt8.ofNat (128 + n.toNat / 128)) (by simp), byte_nat _ (by omega)]; omega
    have hc : bt ⟨(P ++ [UInt8.ofNat (128 + n.toNat / 128), UInt8.ofNat (n.toNat % 128)] ++ Q).toArray⟩ (P.length + 1) = n % 128 := by
      rw [bt_mk (c := UInt8.ofNat (n.toNat % 128)) (by simp), byte_nat _ (by omega)]; omega
    rw [nmO_two (by rw [size_mk]; simp) (by rw [hb]; omega) (by rw [hc]; omega), hb, hc]
    simp; omega
/-- A number's bytes that end too early are none. -/
theorem nm_cut (P : List UInt8) {n : Int} (h0 : 0 ≤ n) (h1 : n ≤ 16383) : nmO ⟨(P ++ (pkL n).dropLast).toArray⟩ (P.length : Int) = none := by
  by_cases h : n < 128
  · rw [pkL_one h0 h]
    exact nmO_out (.inr (by rw [size_mk]; simp))
  · rw [pkL_two (by omega) h1]
    have hb : bt ⟨(P ++ [UInt8.ofNat (128 + n.toNat / 128)]).toArray⟩ P.length = 128 + n / 128 := by
      rw [bt_mk (c := UInt8.ofNat (128 + n.toNat / 128)) (by simp), byte_nat _ (by omega)]; omega
    show nmO ⟨(P ++ [UInt8.ofNat (128 + n.toNat / 128)]).toArray⟩ (P.length : Int) = none
    exact nmO_bad (by rw [size_mk]; simp) (by rw [hb]; omega) (.inl (by rw [size_mk]; simp))
theorem gap_bd {l : List Int} (hok : ∀ j, j < l.length → okAt l j = true) {k : Nat} (hk : k < l.length) : 0 ≤ gapAt l k ∧ gapAt l k ≤ 16383 ∧ lastAt l k + 1 + gapAt l k = l[k] ∧ l[k] ≤ 16383 := by
  have hx : l[k]? = some l[k] := List.getElem?_eq_getElem hk
  obtain ⟨a, b, c⟩ := (okAt_iff hx).1 (hok k hk)
  have d := lastAt_bd (fun i hi => hok i (by omega) : ∀ i, i < k → okAt l i = true)
  unfold gapAt
  rw [getD_of hx]
  omega
theorem last_succ {l : List Int} {k : Nat} (hk : k < l.length) : lastAt l (k + 1) = l[k] := by
  simp only [lastAt, if_neg (Nat.succ_ne_zero k), Nat.add_sub_cancel]
  exact getD_of (List.getElem?_eq_getElem hk)
theorem rowK_split (l : List Int) (k m : Nat) : rowK l (k + m) = rowK l k ++ (List.range' k m).flatMap (fun j => pkL (gapAt l j)) := by
  induction m with
  | zero => simp
  | succ m ih =>
    rw [← Nat.add_assoc, rowK_succ, ih, List.range'_concat, List.flatMap_append, List.append_assoc]
    simp
/-- The gaps from place k on are read, whatever is ahead of the row and behind it. -/
theorem rwK_at (P Q : List UInt8) (l : List Int) (hok : ∀ j, j < l.length → okAt l j = true) : ∀ (m k : Nat), k + m = l.length →
    rwK ⟨(P ++ rowK l l.length ++ Q).toArray⟩ m ((P.length : Int) + (rowK l k).length) (lastAt l k) (l.take k) = some (l, (P.length : Int) + (rowK l l.length).length) := by
  intro m
  induction m with
  | zero =>
    intro k hk
    have : k = l.length := by omega
    subst this
    simp [rwK]
  | succ m ih =>
    intro k hk
    have hkl : k < l.length := by omega
    obtain ⟨g0, g1, g2, g3⟩ := gap_bd hok hkl
    have hsp : P ++ rowK l l.length ++ Q = (P ++ rowK l k) ++ pkL (gapAt l k) ++ ((List.range' (k + 1) m).flatMap (fun j => pkL (gapAt l j)) ++ Q) := by
      have h2 : l.length = (k + 1) + m := by omega
      rw [h2, rowK_split, rowK_succ]
      simp [List.append_assoc]
    have hn := nm_at (P ++ rowK l k) ((List.range' (k + 1) m).flatMap (fun j => pkL (gapAt l j)) ++ Q) g0 g1
    rw [← hsp] at hn
    have hpl : ((P ++ rowK l k).length : Int) = (P.length : Int) + (rowK l k).length := by simp
    rw [hpl] at hn
    rw [rwK_succ, hn]
    simp only
    rw [g2, if_neg (by omega)]
    have := ih (k + 1) (by omega)
    rw [rowK_succ, last_succ hkl, List.take_add_one, List.getElem?_eq_getElem hkl] at this
    rw [← this]
    congr 1
    simp; omega
/-- A row's bytes are read, whatever is ahead of them and behind. -/
theorem rw_at (P Q : List UInt8) {l : List Int} (h : upB l = true) : rwO ⟨(P ++ rowL l ++ Q).toArray⟩ (P.length : Int) = some (l, (P.length : Int) + (rowL l).length) := by
  obtain ⟨hok, hlen⟩ := upB_all h
  have hr : rowL l = rowK l l.length := by simp [rowL, h]
  rw [hr]
  have h2 : rowK l l.length = pkL l.length ++ (List.range l.length).flatMap (fun j => pkL (gapAt l j)) := rfl
  have hn := nm_at P ((List.range l.length).flatMap (fun j => pkL (gapAt l j)) ++ Q) (n := (l.length : Int)) (by omega) (by omega)
  have h3 : P ++ pkL (l.length : Int) ++ ((List.range l.length).flatMap (fun j => pkL (gapAt l j)) ++ Q) = P ++ rowK l l.length ++ Q := by rw [h2]; simp [List.append_assoc]
  rw [h3] at hn
  unfold rwO
  rw [hn]
  simp only
  rw [if_neg (by omega)]
  have := rwK_at P Q l hok l.length 0 (by omega)
  rw [rowK_zero] at this
  simpa [lastAt] using this
/-- The gaps of a row whose last byte is struck are none. -/
theorem rwK_cut (l : List Int) (hok : ∀ j, j < l.length → okAt l j = true) : ∀ (m k : Nat), k + (m + 1) = l.length →
    rwK ⟨((rowK l l.length).dropLast).toArray⟩ (m + 1) ((rowK l k).length : Int) (lastAt l k) (l.take k) = none := by
  intro m
  induction m with
  | zero =>
    intro k hk
    have hkl : k < l.length := by omega
    obtain ⟨g0, g1, g2, g3⟩ := gap_bd hok hkl
    have hne : pkL (gapAt l k) ≠ [] := by rw [Ne, pkL_nil]; omega
    have hsp : (rowK l l.length).dropLast = rowK l k ++ (pkL (gapAt l k)).dropLast := by
      have h2 : l.length = k + 1 := by omega
      rw [h2, rowK_succ, List.dropLast_append_of_ne_nil hne]
    have hn := nm_cut (rowK l k) g0 g1
    rw [← hsp] at hn
    rw [rwK_succ, hn]
  | succ m ih =>
    intro k hk
    have hkl : k < l.length := by omega
    obtain ⟨g0, g1, g2, g3⟩ := gap_bd hok hkl
    have hsp : ∃ R, (rowK l l.length).dropLast = rowK l k ++ pkL (gapAt l k) ++ R := by
      have h2 : l.length = (k + 1 + m) + 1 := by omega
      obtain ⟨e0, e1, _, _⟩ := gap_bd hok (k := k + 1 + m) (by omega)
      have hne : pkL (gapAt l (k + 1 + m)) ≠ [] := by rw [Ne, pkL_nil]; omega
      refine ⟨(List.range' (k + 1) m).flatMap (fun j => pkL (gapAt l j)) ++ (pkL (gapAt l (k + 1 + m))).dropLast, ?_⟩
      rw [h2, rowK_succ, List.dropLast_append_of_ne_nil hne, rowK_split, rowK_succ]
      simp [List.append_assoc]
    obtain ⟨R, hsp⟩ := hsp
    have hn := nm_at (rowK l k) R g0 g1
    rw [← hsp] at hn
    rw [rwK_succ, hn]
    simp only
    rw [g2, if_neg (by omega)]
    have := ih (k + 1) (by omega)
    rw [rowK_succ, last_succ hkl, List.take_add_one, List.getElem?_eq_getElem hkl] at this
    rw [← this]
    congr 1
    simp
/-- A row's bytes that end too early are none. -/
theorem rw_cut {l : List Int} (h : upB l = true) : rwO ⟨((rowL l).dropLast).toArray⟩ 0 = none := by
  obtain ⟨hok, hlen⟩ := upB_all h
  have hr : rowL l = rowK l l.length := by simp [rowL, h]
  rw [hr]
  cases hm : l.length with
  | zero =>
    have hn := nm_cut [] (n := 0) (by omega) (by omega)
    rw [rowK_zero, hm]
    unfold rwO
    have : nmO ⟨((pkL ((0 : Nat) : Int)).dropLast).toArray⟩ 0 = none := by simpa using hn
    rw [this]
  | succ m =>
    have hsp : ∃ R, (rowK l l.length).dropLast = [] ++ pkL (l.length : Int) ++ R := by
      obtain ⟨e0, e1, _, _⟩ := gap_bd hok (k := m) (by omega)
      have hne : pkL (gapAt l m) ≠ [] := by rw [Ne, pkL_nil]; omega
      refine ⟨(List.range m).flatMap (fun j => pkL (gapAt l j)) ++ (pkL (gapAt l m)).dropLast, ?_⟩
      have h3 : rowK l l.length = rowK l m ++ pkL (gapAt l m) := by rw [hm, rowK_succ]
      rw [h3, List.dropLast_append_of_ne_nil hne]
      simp [rowK, List.append_assoc]
    obtain ⟨R, hsp⟩ := hsp
    have hn := nm_at [] R (n := (l.length : Int)) (by omega) (by omega)
    rw [← hsp] at hn
    have hk := rwK_cut l hok m 0 (by omega)
    rw [rowK_zero] at hk
    unfold rwO
    rw [hm] at hn hk
    simp only [List.length_nil] at hn
    rw [show ((0 : Nat) : Int) = 0 from rfl] at hn
    rw [hn]
    simp only
    rw [if_neg (by omega)]
    simpa [lastAt] using hk
end Go.Proofs.YtlnpbfeihjfnjabGreatDoor.Lab
namespace Go.Proofs.YtlnpbfeihjfnjabGreatDoor.Lab
open Go.RowKit
set_option linter.unusedVariables false
theorem dec_two (a b c d : Int) : eqB (a, b) (c, d) = (decide (a = c) && decide (b = d)) := by
  rw [Bool.eq_iff_iff]; simp [eqB]
theorem grown_refl (w : World) (r : Option Nat) : w.grownBy w r := ⟨rfl, rfl, rfl, Nat.le_refl _, fun _ _ _ => rfl⟩
theorem grown_set {w w1 : World} {g : Nat} (h : w.grownBy w1 (some g)) (i : Nat) (u : Value) : w.grownBy (w1.setCell ⟨g, i, none⟩ u) (some g) :=
  ⟨h.os, h.tape, h.output, by have := h.size; simpa using this, fun k hk hne => by rw [Below.heap_setCell _ _ _ _ (fun e => hne (by rw [e]))]; exact h.block k hk hne⟩
end Go.Proofs.YtlnpbfeihjfnjabGreatDoor.Lab
