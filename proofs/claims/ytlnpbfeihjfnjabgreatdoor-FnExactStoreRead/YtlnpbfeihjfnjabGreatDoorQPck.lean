/-
  Numbers as bytes: in plain words, and contracts of PackNum (impl and spec).
-/
import Derived.Test.YtlnpbfeihjfnjabGreatDoorRows
import Derived.Test.YtlnpbfeihjfnjabGreatDoorQIts
import Derived.WalkKit
import Derived.WalkSpells
import Derived.WalkLawsBesides
import Derived.Below
import Derived.Handy
namespace Go.Proofs.YtlnpbfeihjfnjabGreatDoor.Lab
open Go.RowKit
set_option linter.unusedVariables false

/-- The bytes of a number. -/
def pkL (n : Int) : List UInt8 :=
  if n < 0 ∨ 16383 < n then [] else if n < 128 then [UInt8.ofNat n.toNat] else [UInt8.ofNat (128 + n.toNat / 128), UInt8.ofNat (n.toNat % 128)]
def pkB (n : Int) : ByteArray := ⟨(pkL n).toArray⟩
theorem pkL_out {n : Int} (h : n < 0 ∨ 16383 < n) : pkL n = [] := by simp [pkL, h]
theorem pkL_one {n : Int} (h0 : 0 ≤ n) (h : n < 128) : pkL n = [UInt8.ofNat n.toNat] := by
  have : ¬ (n < 0 ∨ 16383 < n) := by omega
  simp [pkL, this, h]
theorem pkL_two {n : Int} (h0 : 128 ≤ n) (h : n ≤ 16383) : pkL n = [UInt8.ofNat (128 + n.toNat / 128), UInt8.ofNat (n.toNat % 128)] := by
  have h1 : ¬ (n < 0 ∨ 16383 < n) := by omega
  have h2 : ¬ n < 128 := by omega
  simp [pkL, h1, h2]
theorem pkL_len (n : Int) : (pkL n).length ≤ 2 := by
  unfold pkL
  split
  · simp
  · split <;> simp
theorem pkB_list (n : Int) : (pkB n).toList = pkL n := by simp [pkB]
theorem ext_list (s : ByteArray) (k : Nat) : (s.extract 0 k).toList = s.toList.take k := by
  rw [ByteArray.toList_eq, ByteArray.toList_eq, ByteArray.data_extract, Array.toList_extract]
  simp [List.extract]
theorem pkB_size (n : Int) : (pkB n).size = (pkL n).length := by simp [pkB, ByteArray.size]
theorem pkL_nil (n : Int) : pkL n = [] ↔ (n < 0 ∨ 16383 < n) := by
  refine ⟨fun h => ?_, pkL_out⟩
  by_cases hn : n < 0 ∨ 16383 < n
  · exact hn
  · exfalso
    by_cases h1 : n < 128
    · rw [pkL_one (by omega) h1] at h; simp at h
    · rw [pkL_two (by omega) (by omega)] at h; simp at h
theorem byte_nat (k : Nat) (h : k < 256) : (UInt8.ofNat k).toNat = k := by simp; omega
theorem byte_lt (j k : Nat) (hj : j < 256) (hk : k < 256) : (UInt8.ofNat j < UInt8.ofNat k) ↔ j < k := by
  rw [UInt8.lt_iff_toNat_lt, byte_nat _ hj, byte_nat _ hk]
theorem byte_eq (j k : Nat) (hj : j < 256) (hk : k < 256) : (UInt8.ofNat j = UInt8.ofNat k) ↔ j = k := by
  constructor
  · intro h
    have := congrArg UInt8.toNat h
    rwa [byte_nat _ hj, byte_nat _ hk] at this
  · rintro rfl; rfl
/-- Packed numbers keep their order. -/
theorem pk_less {x y : Int} (hx : 0 ≤ x ∧ x ≤ 16383) (hy : 0 ≤ y ∧ y ≤ 16383) : Op.bytesLess (pkL x) (pkL y) = decide (x < y) := by
  by_cases h1 : x < 128 <;> by_cases h2 : y < 128
  · rw [pkL_one hx.1 h1, pkL_one hy.1 h2]
    rw [Bool.eq_iff_iff]
    simp only [Op.bytesLess, Bool.or_eq_true, decide_eq_true_eq, Bool.and_false, Bool.false_eq_true, or_false]
    rw [byte_lt _ _ (by omega) (by omega)]; omega
  · rw [pkL_one hx.1 h1, pkL_two (by omega) hy.2]
    rw [Bool.eq_iff_iff]
    simp only [Op.bytesLess, Bool.or_eq_true, Bool.and_eq_true, decide_eq_true_eq, beq_iff_eq]
    rw [byte_lt _ _ (by omega) (by omega), byte_eq _ _ (by omega) (by omega)]; omega
  · rw [pkL_two (by omega) hx.2, pkL_one hy.1 h2]
    rw [Bool.eq_iff_iff]
    simp only [Op.bytesLess, Bool.or_eq_true, Bool.and_eq_true, decide_eq_true_eq, beq_iff_eq]
    rw [byte_lt _ _ (by omega) (by omega), byte_eq _ _ (by omega) (by omega)]
    simp; omega
  · rw [pkL_two (by omega) hx.2, pkL_two (by omega) hy.2]
    rw [Bool.eq_iff_iff]
    simp only [Op.bytesLess, Bool.or_eq_true, Bool.and_eq_true, decide_eq_true_eq, beq_iff_eq, Bool.and_false, Bool.false_eq_true, or_false]
    rw [byte_lt _ _ (by omega) (by omega), byte_eq _ _ (by omega) (by omega), byte_lt _ _ (by omega) (by omega)]
    simp; omega
theorem pk_inj {x y : Int} (hx : 0 ≤ x ∧ x ≤ 16383) (hy : 0 ≤ y ∧ y ≤ 16383) (h : pkL x = pkL y) : x = y := by
  have h1 := pk_less hx hy
  have h2 := pk_less hy hx
  rw [h] at h1 h2
  have h3 := pk_less hy hy
  rw [h3] at h1 h2
  simp at h1 h2; omega
theorem pk_lens {x : Int} (hx : 0 ≤ x ∧ x ≤ 16383) : (pkL x).length = if x < 128 then 1 else 2 := by
  split
  · rw [pkL_one hx.1 (by assumption)]; rfl
  · rw [pkL_two (by omega) hx.2]; rfl
/-- No packed number begins another. -/
theorem pk_pre {x y : Int} (hx : 0 ≤ x ∧ x ≤ 16383) (hy : 0 ≤ y ∧ y ≤ 16383) (h : (pkL x).length ≤ (pkL y).length) : (pkL y).take (pkL x).length = pkL x ↔ x = y := by
  constructor
  · intro ht
    rw [pk_lens hx, pk_lens hy] at h
    by_cases h1 : x < 128 <;> by_cases h2 : y < 128
    · rw [pk_lens hx, if_pos h1, List.take_of_length_le (by rw [pk_lens hy, if_pos h2]; omega)] at ht
      exact (pk_inj hy hx ht).symm
    · exfalso
      rw [pkL_one hx.1 h1, pkL_two (by omega) hy.2] at ht
      simp only [List.length_cons, List.length_nil, List.take_succ_cons, List.take_zero, List.cons.injEq, and_true] at ht
      rw [byte_eq _ _ (by omega) (by omega)] at ht
      omega
    · rw [if_neg h1, if_pos h2] at h; omega
    · rw [pk_lens hx, if_neg h1, List.take_of_length_le (by rw [pk_lens hy, if_neg h2]; omega)] at ht
      exact (pk_inj hy hx ht).symm
  · rintro rfl
    simp
theorem str_one (c : UInt8) (w : World) (b : Nat) (h : w.cell? ⟨b, 0, none⟩ = some (.int .u8 c.toNat)) :
    (convert 86 9 (.slice (some ⟨b, 0, none⟩) 1 1)).run Tryz.prog w = .ok (.string ⟨#[c]⟩) w :=
  run_convert_bytes_back w 86 9 5 ⟨b, 0, none⟩ 1 [c] Tryz.underlying86 Tryz.underlying5 Tryz.underlying9 (fun j hj => by
    have : j = 0 := by simpa using hj
    subst this
    simpa [Addr.add] using h)
theorem str_two (c d : UInt8) (w : World) (b : Nat) (h : w.cell? ⟨b, 0, none⟩ = some (.int .u8 c.toNat)) (h' : w.cell? ⟨b, 1, none⟩ = some (.int .u8 d.toNat)) :
    (convert 86 9 (.slice (some ⟨b, 0, none⟩) 2 2)).run Tryz.prog w = .ok (.string ⟨#[c, d]⟩) w :=
  run_convert_bytes_back w 86 9 5 ⟨b, 0, none⟩ 2 [c, d] Tryz.underlying86 Tryz.underlying5 Tryz.underlying9 (fun j hj => by
    have : j = 0 ∨ j = 1 := by simp at hj; omega
    rcases this with rfl | rfl
    · simpa [Addr.add] using h
    · simpa [Addr.add] using h')
set_option maxHeartbeats 1000000 in
theorem spec_PackNum0 (n : Int) (w : World) :
    Calls Tryz.prog 71 #[.int .i64 n] w fun e w' => e = .returned (.string (pkB n)) ∧ Below w.heap.size w w' := by
  by_cases h1 : n < 0
  · rw [pkB, pkL_out (.inl h1)]
    go_enter Tryz.func71, Tryz.ntmps71
    go_wp2
    go_ret
    exact ⟨rfl, Below.refl _ _⟩
  by_cases h2 : 16383 < n
  · rw [pkB, pkL_out (.inr h2)]
    go_enter Tryz.func71, Tryz.ntmps71
    go_wp2
    go_ret
    exact ⟨rfl, Below.refl _ _⟩
  by_cases h3 : n < 128
  · rw [pkB, pkL_one (by omega) h3]
    have e1 : ((UInt8.ofNat n.toNat).toNat : Int) = n := by rw [byte_nat _ (by omega)]; omega
    have e2 : n % 256 = n := by omega
    have ks : ∀ (w : World) (b : Nat), w.cell? ⟨b, 0, none⟩ = some (.int .u8 n) → (convert 86 9 (.slice (some ⟨b, 0, none⟩) 1 1)).run Tryz.prog w = .ok (.string ⟨#[UInt8.ofNat n.toNat]⟩) w := fun w b h => str_one _ w b (by rw [e1]; exact h)
    clear e1
    go_enter Tryz.func71, Tryz.ntmps71
    go_wp2
    go_ret
    exact ⟨rfl, by go_grown⟩
  · rw [pkB, pkL_two (by omega) (by omega)]
    have e1 : ((UInt8.ofNat (128 + n.toNat / 128)).toNat : Int) = 128 + n / 128 := by rw [byte_nat _ (by omega)]; omega
    have e2 : ((UInt8.ofNat (n.toNat % 128)).toNat : Int) = n % 128 := by rw [byte_nat _ (by omega)]; omega
    have ks : ∀ (w : World) (b : Nat), w.cell? ⟨b, 0, none⟩ = some (.int .u8 (128 + n / 128)) → w.cell? ⟨b, 1, none⟩ = some (.int .u8 (n % 128)) → (convert 86 9 (.slice (some ⟨b, 0, none⟩) 2 2)).run Tryz.prog w = .ok (.string ⟨#[UInt8.ofNat (128 + n.toNat / 128), UInt8.ofNat (n.toNat % 128)]⟩) w := fun w b h h' => str_two _ _ w b (by rw [e1]; exact h) (by rw [e2]; exact h')
    clear e1 e2
    go_enter Tryz.func71, Tryz.ntmps71
    go_wp2
    go_ret
    exact ⟨rfl, by go_grown⟩
theorem spec_PackNum (n : Int) (w : World) (hw : (Lit.int .i64 n).wf = true) :
    Calls Tryz.prog 71 #[.int .i64 n] w fun e w' => e = .returned (.string (pkB n)) ∧ Below w.heap.size w w' := spec_PackNum0 n w
set_option maxHeartbeats 1000000 in
theorem impl_PackNum0 (n : Int) (w : World) :
    Calls Tryz.prog 55 #[.int .i64 n] w fun e w' => e = .returned (.string (pkB n)) ∧ Below w.heap.size w w' := by
  by_cases h1 : n < 0
  · rw [pkB, pkL_out (.inl h1)]
    go_enter Tryz.func55, Tryz.ntmps55
    go_wp2
    go_ret
    exact ⟨rfl, Below.refl _ _⟩
  by_cases h2 : 16383 < n
  · rw [pkB, pkL_out (.inr h2)]
    go_enter Tryz.func55, Tryz.ntmps55
    go_wp2
    go_ret
    exact ⟨rfl, Below.refl _ _⟩
  by_cases h3 : n < 128
  · rw [pkB, pkL_one (by omega) h3]
    have e1 : ((UInt8.ofNat n.toNat).toNat : Int) = n := by rw [byte_nat _ (by omega)]; omega
    have e2 : n % 256 = n := by omega
    have ks : ∀ (w : World) (b : Nat), w.cell? ⟨b, 0, none⟩ = some (.int .u8 n) → (convert 86 9 (.slice (some ⟨b, 0, none⟩) 1 1)).run Tryz.prog w = .ok (.string ⟨#[UInt8.ofNat n.toNat]⟩) w := fun w b h => str_one _ w b (by rw [e1]; exact h)
    clear e1
    go_enter Tryz.func55, Tryz.ntmps55
    go_wp2
    go_ret
    exact ⟨rfl, by go_grown⟩
  · rw [pkB, pkL_two (by omega) (by omega)]
    have e1 : ((UInt8.ofNat (128 + n.toNat / 128)).toNat : Int) = 128 + n / 128 := by rw [byte_nat _ (by omega)]; omega
    have e2 : ((UInt8.ofNat (n.toNat % 128)).toNat : Int) = n % 128 := by rw [byte_nat _ (by omega)]; omega
    have ks : ∀ (w : World) (b : Nat), w.cell? ⟨b, 0, none⟩ = some (.int .u8 (128 + n / 128)) → w.cell? ⟨b, 1, none⟩ = some (.int .u8 (n % 128)) → (convert 86 9 (.slice (some ⟨b, 0, none⟩) 2 2)).run Tryz.prog w = .ok (.string ⟨#[UInt8.ofNat (128 + n.toNat / 128), UInt8.ofNat (n.toNat % 128)]⟩) w := fun w b h h' => str_two _ _ w b (by rw [e1]; exact h) (by rw [e2]; exact h')
    clear e1 e2
    go_enter Tryz.func55, Tryz.ntmps55
    go_wp2
    go_ret
    exact ⟨rfl, by go_grown⟩
theorem impl_PackNum (n : Int) (w : World) (hw : (Lit.int .i64 n).wf = true) :
    Calls Tryz.prog 55 #[.int .i64 n] w fun e w' => e = .returned (.string (pkB n)) ∧ Below w.heap.size w w' := impl_PackNum0 n w
end Go.Proofs.YtlnpbfeihjfnjabGreatDoor.Lab
