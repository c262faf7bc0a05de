/-
  Numbers from their bytes, in plain words: what is read has those bytes.
-/
import Derived.Test.YtladmjhokdgipaaDoorRpl
namespace Go.Proofs.YtladmjhokdgipaaDoor.Lab
open Go.RowKit
set_option linter.unusedVariables false
theorem ext_mk (l : List UInt8) (i k : Nat) : (ByteArray.mk l.toArray).extract i k = ⟨((l.drop i).take (k - i)).toArray⟩ := by
  apply ByteArray.ext
  rw [ByteArray.data_extract]
  apply Array.toList_inj.1
  rw [Array.toList_extract]
theorem ofNat_toNat (c : UInt8) : UInt8.ofNat c.toNat = c := by simp
/-- What is read at a place has just the bytes that stand there. -/
theorem nm_back {l : List UInt8} {p x q : Int} (h : nmO ⟨l.toArray⟩ p = some (x, q)) : (ByteArray.mk l.toArray).extract p.toNat q.toNat = pkB x := by
  by_cases h1 : p < 0 ∨ ((ByteArray.mk l.toArray).size : Int) ≤ p
  · rw [nmO_out h1] at h; cases h
  obtain ⟨j, rfl⟩ := Int.eq_ofNat_of_zero_le (show 0 ≤ p by omega)
  have hj : j < (ByteArray.mk l.toArray).size := by omega
  have hjl : j < l.length := by rw [size_mk] at hj; exact hj
  have e0 : bt ⟨l.toArray⟩ j = (l[j].toNat : Int) := bt_mk (List.getElem?_eq_getElem hjl)
  have d0 : l[j].toNat < 256 := l[j].toNat_lt
  have hd : l.drop j = l[j] :: l.drop (j + 1) := List.drop_eq_getElem_cons hjl
  by_cases h2 : bt ⟨l.toArray⟩ j < 128
  · rw [nmO_one hj h2] at h
    simp only [Option.some.injEq, Prod.mk.injEq] at h
    obtain ⟨rfl, rfl⟩ := h
    rw [ext_mk, pkB, pkL_one (by omega) h2, e0]
    have t1 : (((j : Int) + 1).toNat - (j : Int).toNat) = 1 := by omega
    have t2 : (j : Int).toNat = j := rfl
    rw [t1, t2, hd, show ((l[j].toNat : Int)).toNat = l[j].toNat from rfl, ofNat_toNat]
    rfl
  · by_cases h3 : (ByteArray.mk l.toArray).size ≤ j + 1 ∨ bt ⟨l.toArray⟩ j = 128 ∨ 127 < bt ⟨l.toArray⟩ (j + 1)
    · rw [nmO_bad hj (by omega) h3] at h; cases h
    · have hj2 : j + 1 < (ByteArray.mk l.toArray).size := by omega
      have hjl2 : j + 1 < l.length := by rw [size_mk] at hj2; exact hj2
      have e1 : bt ⟨l.toArray⟩ (j + 1) = (l[j + 1].toNat : Int) := bt_mk (List.getElem?_eq_getElem hjl2)
      rw [nmO_two hj2 (by omega) (by omega)] at h
      simp only [Option.some.injEq, Prod.mk.injEq] at h
      obtain ⟨rfl, rfl⟩ := h
      have hd2 : l.drop (j + 1) = l[j + 1] :: l.drop (j + 1 + 1) := List.drop_eq_getElem_cons hjl2
      have c1 : 128 < l[j].toNat := by omega
      have c2 : l[j + 1].toNat ≤ 127 := by omega
      rw [e0, e1]
      clear h1 h2 h3 e0 e1
      have v1 : (128 + (((l[j].toNat : Int) - 128) * 128 + (l[j + 1].toNat : Int)).toNat / 128) = l[j].toNat := by omega
      have v2 : ((((l[j].toNat : Int) - 128) * 128 + (l[j + 1].toNat : Int)).toNat % 128) = l[j + 1].toNat := by omega
      rw [ext_mk, pkB, pkL_two (by omega) (by omega), v1, v2, ofNat_toNat, ofNat_toNat]
      have t1 : (((j : Int) + 2).toNat - (j : Int).toNat) = 2 := by omega
      have t2 : (j : Int).toNat = j := rfl
      rw [t1, t2, hd, hd2]
      rfl
end Go.Proofs.YtladmjhokdgipaaDoor.Lab
