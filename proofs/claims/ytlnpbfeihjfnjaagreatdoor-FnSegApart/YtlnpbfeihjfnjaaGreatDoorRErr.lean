/-
  Rows of numbers: what the laws' own functions on them do (toIntS, eqIntS, markIntS, heldIntS, wpInts).
  Numbers as bytes: in plain words, and contracts of PackNum (impl and spec).
  Rows as bytes: in plain words, and contracts of spec.l4Up, spec.PackRow, impl.rowOk.
  The package's error variables: what the row's list gives of them; one read again behind a call that turns nothing old.
-/
import Derived.Test.YtlnpbfeihjfnjaaGreatDoorRow
import Derived.Handy
import Derived.BigQuiet
import Derived.Deep.QuietTactic
import Derived.Test.YtlnpbfeihjfnjaaGreatDoorRows
import Derived.Test.YtlnpbfeihjfnjaaGreatDoorPlain
import Derived.WalkKit
import Derived.WalkSpells
import Derived.WalkLawsBesides
import Derived.Below
import Derived.Carry
import Derived.Test.YtlnpbfeihjfnjaaGreatDoorNod
import Derived.ProofKit
import Derived.OpenShut
import Derived.LaidMore
import Derived.LaidLaws
namespace Go.Proofs.YtlnpbfeihjfnjaaGreatDoor.Lab
open Go.RowKit
set_option linter.unusedVariables false
def encI (x : Int) : List Value := [.int .i64 x]
theorem encI_len (x : Int) : (encI x).length = 1 := rfl
theorem Tryz.infoI : (Tryz.prog.info? 3).map (fun i => (i.zero, i.size, i.bytes)) = some (some (.int .i64 0), 1, 8) := by kernel_rfl
theorem flatI (xs : List Int) : xs.flatMap encI = xs.map (Value.int .i64) := by
  induction xs with
  | nil => rfl
  | cons x xs ih => rw [List.flatMap_cons, ih]; rfl
/-- The cells of a row of numbers. -/
theorem cellI {w : World} {b off : Nat} {xs : List Int} (h : ∀ j x, xs[j]? = some x → ∀ i u, (encI x)[i]? = some u → w.cell? ⟨b, off + j * 1 + i, none⟩ = some u) {k : Nat} {x : Int} (hx : xs[k]? = some x) : w.cell? ⟨b, off + k, none⟩ = some (.int .i64 x) := by
  have := h k x hx 0 _ rfl
  simpa using this
/-- A row of which the first k numbers have been laid. -/
def laidI (xs : List Int) (k n : Nat) (cur : Array Value) : Prop := cur.size = n ∧ ∀ j x, j < k → xs[j]? = some x → cur[j]? = some (.int .i64 x)
theorem laidI_step {xs : List Int} {k n : Nat} {cur : Array Value} {m : Int} (h : laidI xs k n cur) (hk : k < n) (hx : xs[k]? = some m) : laidI xs (k + 1) n (cur.setIfInBounds k (.int .i64 m)) := by
  obtain ⟨h1, h2⟩ := h
  refine ⟨by simp [h1], fun j x hj hxj => ?_⟩
  rcases Nat.lt_succ_iff_lt_or_eq.1 hj with hj | rfl
  · rw [Array.getElem?_setIfInBounds, if_neg (by omega)]
    exact h2 j x hj hxj
  · rw [hx] at hxj
    cases hxj
    rw [Array.getElem?_setIfInBounds, if_pos rfl, if_pos (by omega)]
theorem laidI_take {xs : List Int} {cap : Nat} {cur : Array Value} (h : laidI xs xs.length cap cur) (hc : xs.length ≤ cap) : cur.toList.take (xs.length * 1) = xs.flatMap encI := by
  obtain ⟨h1, h2⟩ := h
  rw [flatI]
  apply List.ext_getElem?
  intro m
  rw [List.getElem?_take]
  by_cases hm : m < xs.length
  · rw [if_pos (by omega)]
    have := h2 m _ hm (List.getElem?_eq_getElem hm)
    rw [List.getElem?_map, List.getElem?_eq_getElem hm]
    simpa using this
  · rw [if_neg (by omega), List.getElem?_eq_none (by simp; omega)]
theorem belN {B : Nat} {a w : World} (h : Below B a w) (n : Nat) : Below B a (w.drewN n) := ⟨h.os, h.tape, h.output, h.size, h.block⟩
end Go.Proofs.YtlnpbfeihjfnjaaGreatDoor.Lab
namespace Go.Proofs.YtlnpbfeihjfnjaaGreatDoor.Lab
open Go.RowKit
set_option linter.unusedVariables false

/-- The bytes of a number. -/
def pkL (n : Int) : List UInt8 :=
  if n < 0 ∨ 16383 < n then [] else if n < 128 then [UInt8.ofNat n.toNat] else [UInt8.ofNat (128 + n.toNat / 128), UInt8.ofNat (n.toNat % 128)]
def pkB (n : Int) : ByteArray := ⟨(pkL n).toArray⟩
theorem pkL_out {n : Int} (h : n < 0 ∨ 16383 < n) : pkL n = [] := by simp [pkL, h]
theorem pkL_one {n : Int} (h0 : 0 ≤ n) (h : n < 128) : pkL n = [UInt8.ofNat n.toNat] := by
  have : ¬ (n < 0 ∨ 16383 < n) := by omega
  simp [pkL, this, h]
theorem pkL_two {n : Int} (h0 : 128 ≤ n) (h : n ≤ 16383) : pkL n = [UInt8.ofNat (128 + n.toNat / 128), UInt8.ofNat (n.toNat % 128)] := by
  have h1 : ¬ (n < 0 ∨ 16383 < n) := by omega
  have h2 : ¬ n < 128 := by omega
  simp [pkL, h1, h2]
theorem pkL_len (n : Int) : (pkL n).length ≤ 2 := by
  unfold pkL
  split
  · simp
  · split <;> simp
theorem pkB_list (n : Int) : (pkB n).toList = pkL n := by simp [pkB]
theorem ext_list (s : ByteArray) (k : Nat) : (s.extract 0 k).toList = s.toList.take k := by
  rw [ByteArray.toList_eq, ByteArray.toList_eq, ByteArray.data_extract, Array.toList_extract]
  simp [List.extract]
theorem pkB_size (n : Int) : (pkB n).size = (pkL n).length := by simp [pkB, ByteArray.size]
theorem pkL_nil (n : Int) : pkL n = [] ↔ (n < 0 ∨ 16383 < n) := by
  refine ⟨fun h => ?_, pkL_out⟩
  by_cases hn : n < 0 ∨ 16383 < n
  · exact hn
  · exfalso
    by_cases h1 : n < 128
    · rw [pkL_one (by omega) h1] at h; simp at h
    · rw [pkL_two (by omega) (by omega)] at h; simp at h
theorem byte_nat (k : Nat) (h : k < 256) : (UInt8.ofNat k).toNat = k := by simp; omega
theorem byte_lt (j k : Nat) (hj : j < 256) (hk : k < 256) : (UInt8.ofNat j < UInt8.ofNat k) ↔ j < k := by
  rw [UInt8.lt_iff_toNat_lt, byte_nat _ hj, byte_nat _ hk]
theorem byte_eq (j k : Nat) (hj : j < 256) (hk : k < 256) : (UInt8.ofNat j = UInt8.ofNat k) ↔ j = k := by
  constructor
  · intro h
    have := congrArg UInt8.toNat h
    rwa [byte_nat _ hj, byte_nat _ hk] at this
  · rintro rfl; rfl
/-- Packed numbers keep their order. -/
theorem pk_less {x y : Int} (hx : 0 ≤ x ∧ x ≤ 16383) (hy : 0 ≤ y ∧ y ≤ 16383) : Op.bytesLess (pkL x) (pkL y) = decide (x < y) := by
  by_cases h1 : x < 128 <;> by_cases h2 : y < 128
  · rw [pkL_one hx.1 h1, pkL_one hy.1 h2]
    rw [Bool.eq_iff_iff]
    simp only [Op.bytesLess, Bool.or_eq_true, decide_eq_true_eq, Bool.and_false, Bool.false_eq_true, or_false]
    rw [byte_lt _ _ (by omega) (by omega)]; omega
  · rw [pkL_one hx.1 h1, pkL_two (by omega) hy.2]
    rw [Bool.eq_iff_iff]
    simp only [Op.bytesLess, Bool.or_eq_true, Bool.and_eq_true, decide_eq_true_eq, beq_iff_eq]
    rw [byte_lt _ _ (by omega) (by omega), byte_eq _ _ (by omega) (by omega)]; omega
  · rw [pkL_two (by omega) hx.2, pkL_one hy.1 h2]
    rw [Bool.eq_iff_iff]
    simp only [Op.bytesLess, Bool.or_eq_true, Bool.and_eq_true, decide_eq_true_eq, beq_iff_eq]
    rw [byte_lt _ _ (by omega) (by omega), byte_eq _ _ (by omega) (by omega)]
    simp; omega
  · rw [pkL_two (by omega) hx.2, pkL_two (by omega) hy.2]
    rw [Bool.eq_iff_iff]
    simp only [Op.bytesLess, Bool.or_eq_true, Bool.and_eq_true, decide_eq_true_eq, beq_iff_eq, Bool.and_false, Bool.false_eq_true, or_false]
    rw [byte_lt _ _ (by omega) (by omega), byte_eq _ _ (by omega) (by omega), byte_lt _ _ (by omega) (by omega)]
    simp; omega
theorem pk_inj {x y : Int} (hx : 0 ≤ x ∧ x ≤ 16383) (hy : 0 ≤ y ∧ y ≤ 16383) (h : pkL x = pkL y) : x = y := by
  have h1 := pk_less hx hy
  have h2 := pk_less hy hx
  rw [h] at h1 h2
  have h3 := pk_less hy hy
  rw [h3] at h1 h2
  simp at h1 h2; omega
theorem pk_lens {x : Int} (hx : 0 ≤ x ∧ x ≤ 16383) : (pkL x).length = if x < 128 then 1 else 2 := by
  split
  · rw [pkL_one hx.1 (by assumption)]; rfl
  · rw [pkL_two (by omega) hx.2]; rfl
/-- No packed number begins another. -/
theorem pk_pre {x y : Int} (hx : 0 ≤ x ∧ x ≤ 16383) (hy : 0 ≤ y ∧ y ≤ 16383) (h : (pkL x).length ≤ (pkL y).length) : (pkL y).take (pkL x).length = pkL x ↔ x = y := by
  constructor
  · intro ht
    rw [pk_lens hx, pk_lens hy] at h
    by_cases h1 : x < 128 <;> by_cases h2 : y < 128
    · rw [pk_lens hx, if_pos h1, List.take_of_length_le (by rw [pk_lens hy, if_pos h2]; omega)] at ht
      exact (pk_inj hy hx ht).symm
    · exfalso
      rw [pkL_one hx.1 h1, pkL_two (by omega) hy.2] at ht
      simp only [List.length_cons, List.length_nil, List.take_succ_cons, List.take_zero, List.cons.injEq, and_true] at ht
      rw [byte_eq _ _ (by omega) (by omega)] at ht
      omega
    · rw [if_neg h1, if_pos h2] at h; omega
    · rw [pk_lens hx, if_neg h1, List.take_of_length_le (by rw [pk_lens hy, if_neg h2]; omega)] at ht
      exact (pk_inj hy hx ht).symm
  · rintro rfl
    simp
theorem str_one (c : UInt8) (w : World) (b : Nat) (h : w.cell? ⟨b, 0, none⟩ = some (.int .u8 c.toNat)) :
    (convert 22 9 (.slice (some ⟨b, 0, none⟩) 1 1)).run Tryz.prog w = .ok (.string ⟨#[c]⟩) w :=
  run_convert_bytes_back w 22 9 5 ⟨b, 0, none⟩ 1 [c] Tryz.underlying22 Tryz.underlying5 Tryz.underlying9 (fun j hj => by
    have : j = 0 := by simpa using hj
    subst this
    simpa [Addr.add] using h)
theorem str_two (c d : UInt8) (w : World) (b : Nat) (h : w.cell? ⟨b, 0, none⟩ = some (.int .u8 c.toNat)) (h' : w.cell? ⟨b, 1, none⟩ = some (.int .u8 d.toNat)) :
    (convert 22 9 (.slice (some ⟨b, 0, none⟩) 2 2)).run Tryz.prog w = .ok (.string ⟨#[c, d]⟩) w :=
  run_convert_bytes_back w 22 9 5 ⟨b, 0, none⟩ 2 [c, d] Tryz.underlying22 Tryz.underlying5 Tryz.underlying9 (fun j hj => by
    have : j = 0 ∨ j = 1 := by simp at hj; omega
    rcases this with rfl | rfl
    · simpa [Addr.add] using h
    · simpa [Addr.add] using h')
set_option maxHeartbeats 1000000 in
theorem spec_PackNum0 (n : Int) (w : World) :
    Calls Tryz.prog 97 #[.int .i64 n] w fun e w' => e = .returned (.string (pkB n)) ∧ Below w.heap.size w w' := by
  by_cases h1 : n < 0
  · rw [pkB, pkL_out (.inl h1)]
    go_enter Tryz.func97, Tryz.ntmps97
    go_wp2
    go_ret
    exact ⟨rfl, Below.refl _ _⟩
  by_cases h2 : 16383 < n
  · rw [pkB, pkL_out (.inr h2)]
    go_enter Tryz.func97, Tryz.ntmps97
    go_wp2
    go_ret
    exact ⟨rfl, Below.refl _ _⟩
  by_cases h3 : n < 128
  · rw [pkB, pkL_one (by omega) h3]
    have e1 : ((UInt8.ofNat n.toNat).toNat : Int) = n := by rw [byte_nat _ (by omega)]; omega
    have e2 : n % 256 = n := by omega
    have ks : ∀ (w : World) (b : Nat), w.cell? ⟨b, 0, none⟩ = some (.int .u8 n) → (convert 22 9 (.slice (some ⟨b, 0, none⟩) 1 1)).run Tryz.prog w = .ok (.string ⟨#[UInt8.ofNat n.toNat]⟩) w := fun w b h => str_one _ w b (by rw [e1]; exact h)
    clear e1
    go_enter Tryz.func97, Tryz.ntmps97
    go_wp2
    go_ret
    exact ⟨rfl, by go_grown⟩
  · rw [pkB, pkL_two (by omega) (by omega)]
    have e1 : ((UInt8.ofNat (128 + n.toNat / 128)).toNat : Int) = 128 + n / 128 := by rw [byte_nat _ (by omega)]; omega
    have e2 : ((UInt8.ofNat (n.toNat % 128)).toNat : Int) = n % 128 := by rw [byte_nat _ (by omega)]; omega
    have ks : ∀ (w : World) (b : Nat), w.cell? ⟨b, 0, none⟩ = some (.int .u8 (128 + n / 128)) → w.cell? ⟨b, 1, none⟩ = some (.int .u8 (n % 128)) → (convert 22 9 (.slice (some ⟨b, 0, none⟩) 2 2)).run Tryz.prog w = .ok (.string ⟨#[UInt8.ofNat (128 + n.toNat / 128), UInt8.ofNat (n.toNat % 128)]⟩) w := fun w b h h' => str_two _ _ w b (by rw [e1]; exact h) (by rw [e2]; exact h')
    clear e1 e2
    go_enter Tryz.func97, Tryz.ntmps97
    go_wp2
    go_ret
    exact ⟨rfl, by go_grown⟩
theorem spec_PackNum (n : Int) (w : World) (hw : (Lit.int .i64 n).wf = true) :
    Calls Tryz.prog 97 #[.int .i64 n] w fun e w' => e = .returned (.string (pkB n)) ∧ Below w.heap.size w w' := spec_PackNum0 n w
set_option maxHeartbeats 1000000 in
theorem impl_PackNum0 (n : Int) (w : World) :
    Calls Tryz.prog 57 #[.int .i64 n] w fun e w' => e = .returned (.string (pkB n)) ∧ Below w.heap.size w w' := by
  by_cases h1 : n < 0
  · rw [pkB, pkL_out (.inl h1)]
    go_enter Tryz.func57, Tryz.ntmps57
    go_wp2
    go_ret
    exact ⟨rfl, Below.refl _ _⟩
  by_cases h2 : 16383 < n
  · rw [pkB, pkL_out (.inr h2)]
    go_enter Tryz.func57, Tryz.ntmps57
    go_wp2
    go_ret
    exact ⟨rfl, Below.refl _ _⟩
  by_cases h3 : n < 128
  · rw [pkB, pkL_one (by omega) h3]
    have e1 : ((UInt8.ofNat n.toNat).toNat : Int) = n := by rw [byte_nat _ (by omega)]; omega
    have e2 : n % 256 = n := by omega
    have ks : ∀ (w : World) (b : Nat), w.cell? ⟨b, 0, none⟩ = some (.int .u8 n) → (convert 22 9 (.slice (some ⟨b, 0, none⟩) 1 1)).run Tryz.prog w = .ok (.string ⟨#[UInt8.ofNat n.toNat]⟩) w := fun w b h => str_one _ w b (by rw [e1]; exact h)
    clear e1
    go_enter Tryz.func57, Tryz.ntmps57
    go_wp2
    go_ret
    exact ⟨rfl, by go_grown⟩
  · rw [pkB, pkL_two (by omega) (by omega)]
    have e1 : ((UInt8.ofNat (128 + n.toNat / 128)).toNat : Int) = 128 + n / 128 := by rw [byte_nat _ (by omega)]; omega
    have e2 : ((UInt8.ofNat (n.toNat % 128)).toNat : Int) = n % 128 := by rw [byte_nat _ (by omega)]; omega
    have ks : ∀ (w : World) (b : Nat), w.cell? ⟨b, 0, none⟩ = some (.int .u8 (128 + n / 128)) → w.cell? ⟨b, 1, none⟩ = some (.int .u8 (n % 128)) → (convert 22 9 (.slice (some ⟨b, 0, none⟩) 2 2)).run Tryz.prog w = .ok (.string ⟨#[UInt8.ofNat (128 + n.toNat / 128), UInt8.ofNat (n.toNat % 128)]⟩) w := fun w b h h' => str_two _ _ w b (by rw [e1]; exact h) (by rw [e2]; exact h')
    clear e1 e2
    go_enter Tryz.func57, Tryz.ntmps57
    go_wp2
    go_ret
    exact ⟨rfl, by go_grown⟩
theorem impl_PackNum (n : Int) (w : World) (hw : (Lit.int .i64 n).wf = true) :
    Calls Tryz.prog 57 #[.int .i64 n] w fun e w' => e = .returned (.string (pkB n)) ∧ Below w.heap.size w w' := impl_PackNum0 n w
end Go.Proofs.YtlnpbfeihjfnjaaGreatDoor.Lab
namespace Go.Proofs.YtlnpbfeihjfnjaaGreatDoor.Lab
open Go.RowKit
set_option linter.unusedVariables false
/-- What was ahead of place j; -1 at the first one. -/
def lastAt (l : List Int) (j : Nat) : Int := if j = 0 then -1 else l.getD (j - 1) 0
def okAt (l : List Int) (j : Nat) : Bool := decide (0 ≤ l.getD j 0) && decide (l.getD j 0 ≤ 16383) && decide (lastAt l j < l.getD j 0)
/-- A list ascends, from 0 on, up to the greatest number, and is not too long. -/
def upB (l : List Int) : Bool := (List.range l.length).all (okAt l) && decide (l.length ≤ 127)
theorem upB_no {l : List Int} {j : Nat} (hj : j < l.length) (h : okAt l j = false) : upB l = false := by
  have : (List.range l.length).all (okAt l) = false := by
    rw [List.all_eq_false]
    exact ⟨j, List.mem_range.2 hj, by simp [h]⟩
  simp [upB, this]
theorem upB_len {l : List Int} (h : ∀ j, j < l.length → okAt l j = true) : upB l = decide (l.length ≤ 127) := by
  have : (List.range l.length).all (okAt l) = true := by
    rw [List.all_eq_true]
    exact fun j hj => h j (List.mem_range.1 hj)
  simp [upB, this]
theorem upB_all {l : List Int} (h : upB l = true) : (∀ j, j < l.length → okAt l j = true) ∧ l.length ≤ 127 := by
  simp only [upB, Bool.and_eq_true, List.all_eq_true, decide_eq_true_eq] at h
  exact ⟨fun j hj => h.1 j (List.mem_range.2 hj), h.2⟩
theorem getD_of {l : List Int} {j : Nat} {x : Int} (h : l[j]? = some x) : l.getD j 0 = x := by simp [List.getD_eq_getElem?_getD, h]
theorem okAt_iff {l : List Int} {j : Nat} {x : Int} (h : l[j]? = some x) : okAt l j = true ↔ 0 ≤ x ∧ x ≤ 16383 ∧ lastAt l j < x := by
  simp only [okAt, getD_of h, Bool.and_eq_true, decide_eq_true_eq]
  exact ⟨fun h => ⟨h.1.1, h.1.2, h.2⟩, fun h => ⟨⟨h.1, h.2.1⟩, h.2.2⟩⟩
theorem okAt_not {l : List Int} {j : Nat} {x : Int} (h : l[j]? = some x) (hn : ¬ (0 ≤ x ∧ x ≤ 16383 ∧ lastAt l j < x)) : okAt l j = false := by
  cases hk : okAt l j
  · rfl
  · exact absurd ((okAt_iff h).1 hk) hn
theorem lastAt_bd {l : List Int} {j : Nat} (h : ∀ i, i < j → okAt l i = true) : -1 ≤ lastAt l j ∧ lastAt l j ≤ 16383 := by
  unfold lastAt
  split
  · omega
  · have := h (j - 1) (by omega)
    simp only [okAt, Bool.and_eq_true, decide_eq_true_eq] at this
    omega
/-- The bytes of the gap ahead of place j. -/
def gapAt (l : List Int) (j : Nat) : Int := l.getD j 0 - lastAt l j - 1
def rowK (l : List Int) (k : Nat) : List UInt8 := pkL l.length ++ (List.range k).flatMap (fun j => pkL (gapAt l j))
theorem rowK_succ (l : List Int) (k : Nat) : rowK l (k + 1) = rowK l k ++ pkL (gapAt l k) := by
  simp [rowK, List.range_succ, List.flatMap_append]
theorem rowK_zero (l : List Int) : rowK l 0 = pkL l.length := by simp [rowK]
theorem rowK_len (l : List Int) (k : Nat) : (rowK l k).length ≤ 2 + 2 * k := by
  induction k with
  | zero => rw [rowK_zero]; exact pkL_len _
  | succ k ih =>
    rw [rowK_succ, List.length_append]
    have := pkL_len (gapAt l k)
    omega
/-- The bytes of a list; none, if it has none. -/
def rowL (l : List Int) : List UInt8 := if upB l then rowK l l.length else []
theorem app_bytes (a b : List UInt8) : ((⟨a.toArray⟩ : ByteArray) ++ ⟨b.toArray⟩) = ⟨(a ++ b).toArray⟩ := by
  apply ByteArray.ext
  simp
theorem belD {B : Nat} {a w : World} (h : Below B a w) (n : Nat) : Below B a (w.drewN n) := ⟨h.os, h.tape, h.output, h.size, h.block⟩
set_option maxHeartbeats 4000000 in
theorem l4Up (v : Value) (xs : List Int) (w : World) (h : RowAt 1 encI w v xs) (hl : xs.length ≤ 1048576) :
    Calls Tryz.prog 128 #[v] w fun e w' => e = .returned (.bool (upB xs)) ∧ Below w.heap.size w w' := by
  obtain ⟨a, cap, rfl⟩ := h.len
  have H : Hid (RowAt 1 encI w (.slice a xs.length cap) xs) := h
  clear h
  obtain ⟨n, hn⟩ : ∃ n, n = xs.length := ⟨_, rfl⟩
  have HN : Hid (n = xs.length) := hn
  rw [← hn] at H hl ⊢
  clear hn
  go_enter Tryz.func128, Tryz.ntmps128
  go_wp2_with fail
  go_loopw [3] (fun i wr => ∃ k : Nat, k ≤ n ∧ i = .int .i64 k ∧ Below w.heap.size w wr ∧ ∀ j, j < k → okAt xs j = true) (fun i _ => n - (intOf i).toNat)
  case atStart => exact ⟨0, by omega, rfl, Below.refl _ _, fun j hj => by omega⟩
  case round =>
    obtain ⟨k, hk, rfl, hbel, hok⟩ := hrel
    have HO : Hid (∀ j, j < k → okAt xs j = true) := hok
    clear hok
    by_cases hlt : k < n
    · rcases H.out with ⟨hz, _⟩ | ⟨_, b1, o1, q1, hv1, hb1, E1⟩
      · have := HN.out; rw [hz] at this; simp at this; omega
      obtain rfl : a = some ⟨b1, o1, none⟩ := by injection hv1
      obtain ⟨x, hx⟩ : ∃ x, xs[k]? = some x := ⟨_, List.getElem?_eq_getElem (by rw [← HN.out]; exact hlt)⟩
      have e0 : wr.cell? ⟨b1, o1 + k, none⟩ = some (.int .i64 x) := by rw [Below.celz hbel _ _ _ hb1]; exact cellI E1 hx
      have HX : Hid (xs[k]? = some x) := hx
      have HB : Hid (Below w.heap.size w wr) := hbel
      have HE : Hid (∀ j y, xs[j]? = some y → wr.cell? ⟨b1, o1 + j, none⟩ = some (.int .i64 y)) := fun j y hy => by rw [Below.celz hbel _ _ _ hb1]; exact cellI E1 hy
      have k0 : (0 : Int) ≤ (k : Int) := by omega
      have k1 : (k : Int) < (n : Int) := by omega
      clear hx hbel E1 hv1
      have bad : Hid (∀ wz : World, ¬ (0 ≤ x ∧ x ≤ 16383 ∧ lastAt xs k < x) → upB xs = false) := fun _ hn => upB_no (by rw [← HN.out]; exact hlt) (okAt_not HX.out hn)
      by_cases h1 : x < 0
      · have d1 : decide (x < 0) = true := by simpa using h1
        go_wp2_with fail
        go_quiet (fail)
        go_wp2_with fail
        go_ret
        exact ⟨by rw [bad.out wr (by omega)]; rfl, belD HB.out _⟩
      have d1 : decide (x < 0) = false := by simpa using h1
      by_cases h2 : 16383 < x
      · have d2 : decide (16383 < x) = true := by simpa using h2
        go_wp2_with fail
        go_quiet (fail)
        go_wp2_with fail
        go_ret
        exact ⟨by rw [bad.out wr (by omega)]; rfl, belD HB.out _⟩
      have d2 : decide (16383 < x) = false := by simpa using h2
      by_cases h3 : k = 0
      · subst h3
        rw [Nat.add_zero] at e0
        have d3 : decide ((0 : Int) < 0) = false := by decide
        go_wp2_with fail
        go_quiet (fail)
        go_wp2_with fail
        go_roundw
        case rel =>
          refine ⟨1, by omega, by go_num, belD HB.out _, fun j hj => ?_⟩
          obtain rfl : j = 0 := by omega
          exact (okAt_iff HX.out).2 ⟨by omega, by omega, by simp [lastAt]; omega⟩
        case measure => simp [intOf]; omega
      · obtain ⟨k', rfl⟩ : ∃ k', k = k' + 1 := ⟨k - 1, by omega⟩
        obtain ⟨y, hy⟩ : ∃ y, xs[k']? = some y := ⟨_, List.getElem?_eq_getElem (by rw [← HN.out]; omega)⟩
        have f0 : wr.cell? ⟨b1, o1 + k', none⟩ = some (.int .i64 y) := HE.out k' y hy
        have HY : Hid (lastAt xs (k' + 1) = y) := by show lastAt _ _ = _; simp only [lastAt, if_neg (Nat.succ_ne_zero k'), Nat.add_sub_cancel]; exact getD_of hy
        clear hy HE
        have k2 : (k' : Int) < (n : Int) := by omega
        have d3 : decide (0 < (k' : Int) + 1) = true := by rw [decide_eq_true_eq]; omega
        by_cases h4 : x ≤ y
        · have d4 : decide (x ≤ y) = true := by simpa using h4
          go_wp2_with fail
          go_quiet (fail)
          go_wp2_with fail
          go_ret
          exact ⟨by rw [bad.out wr (by rw [HY.out]; omega)]; rfl, belD HB.out _⟩
        · have d4 : decide (x ≤ y) = false := by simpa using h4
          go_wp2_with fail
          go_quiet (fail)
          go_wp2_with fail
          go_roundw
          case rel =>
            refine ⟨k' + 1 + 1, by omega, by go_num, belD HB.out _, fun j hj => ?_⟩
            rcases Nat.lt_succ_iff_lt_or_eq.1 hj with hj | rfl
            · exact HO.out j hj
            · exact (okAt_iff HX.out).2 ⟨by omega, by omega, by rw [HY.out]; omega⟩
          case measure => simp [intOf]; omega
    · have hkn : k = n := by omega
      subst hkn
      have HU : Hid (upB xs = decide ((k : Int) ≤ 127)) := by
        show upB xs = _
        rw [upB_len (fun j hj => HO.out j (by rw [HN.out]; exact hj)), ← HN.out]
        simp; omega
      go_wp2_with fail
      go_ret
      exact ⟨by rw [HU.out]; rfl, hbel⟩
set_option maxHeartbeats 4000000 in
theorem spec_PackRow (v : Value) (xs : List Int) (w : World) (h : RowAt 1 encI w v xs) (hl : xs.length ≤ 1048576) :
    Calls Tryz.prog 96 #[v] w fun e w' => e = .returned (.string ⟨(rowL xs).toArray⟩) ∧ Below w.heap.size w w' := by
  obtain ⟨a, cap, rfl⟩ := h.len
  have H : Hid (RowAt 1 encI w (.slice a xs.length cap) xs) := h
  go_enter Tryz.func96, Tryz.ntmps96
  go_wp2_with fail
  refine (l4Up _ xs _ h hl).mono ?_
  rintro e w1 ⟨rfl, b1⟩
  have B1 : Hid (Below w.heap.size w w1) := b1
  clear b1 h
  cases hu : upB xs
  · have HR : Hid (rowL xs = []) := by show rowL xs = []; simp [rowL, hu]
    go_wp2_with fail
    go_ret
    exact ⟨by rw [HR.out]; rfl, B1.out⟩
  · have HR : Hid (rowL xs = rowK xs xs.length) := by show rowL xs = _; simp [rowL, hu]
    obtain ⟨hall, hlen⟩ := upB_all hu
    have HA : Hid (∀ j, j < xs.length → okAt xs j = true) := hall
    obtain ⟨n, hn⟩ : ∃ n, n = xs.length := ⟨_, rfl⟩
    have HN : Hid (n = xs.length) := hn
    have HP : Hid (∀ w, Calls Tryz.prog 97 #[.int .i64 n] w fun e w' => e = .returned (.string ⟨(pkL n).toArray⟩) ∧ Below w.heap.size w w') := fun w => spec_PackNum0 n w
    rw [← hn] at H hlen ⊢
    clear hn hall hl hu
    go_wp2_with fail
    refine (HP.out _).mono ?_
    rintro e w2 ⟨rfl, b2⟩
    have B2 : Hid (Below w.heap.size w w2) := B1.out.trans (b2.mono B1.out.size)
    clear b2 HP
    obtain ⟨t0, ht0⟩ : ∃ t0, t0 = pkL (n : Int) := ⟨_, rfl⟩
    have HT : Hid (t0 = rowK xs 0) := by show t0 = _; rw [ht0, rowK_zero, HN.out]
    rw [← ht0]
    clear ht0
    go_wp2_with fail
    go_loopw [3, 4, 5] (fun o q i wr => ∃ (k : Nat) (t : List UInt8) (y : Int), k ≤ n ∧ i = .int .i64 k ∧ o = .string ⟨t.toArray⟩ ∧ t = rowK xs k ∧ q = .int .i64 y ∧ y = lastAt xs k ∧ Below w.heap.size w wr) (fun _ _ i _ => n - (intOf i).toNat)
    case atStart => exact ⟨0, t0, -1, by omega, rfl, rfl, HT.out, rfl, rfl, B2.out⟩
    case round =>
      obtain ⟨k, t, y, hk, rfl, rfl, ht, rfl, hy, hbel⟩ := hrel
      have HTK : Hid (t = rowK xs k) := ht
      have tl : t.length ≤ 2 + 2 * k := by rw [ht]; exact rowK_len _ _
      clear ht
      by_cases hlt : k < n
      · rcases H.out with ⟨hz, _⟩ | ⟨_, b1, o1, q1, hv1, hb1, E1⟩
        · have := HN.out; rw [hz] at this; simp at this; omega
        obtain rfl : a = some ⟨b1, o1, none⟩ := by injection hv1
        obtain ⟨x, hx⟩ : ∃ x, xs[k]? = some x := ⟨_, List.getElem?_eq_getElem (by rw [← HN.out]; exact hlt)⟩
        have e0 : wr.cell? ⟨b1, o1 + k, none⟩ = some (.int .i64 x) := by rw [Below.celz hbel _ _ _ hb1]; exact cellI E1 hx
        have HX : Hid (xs[k]? = some x) := hx
        have HB : Hid (Below w.heap.size w wr) := hbel
        obtain ⟨x0, x1, x2⟩ := (okAt_iff hx).1 (HA.out k (by rw [← HN.out]; exact hlt))
        have y0 : -1 ≤ y ∧ y ≤ 16383 := by rw [hy]; exact lastAt_bd (fun i hi => HA.out i (by rw [← HN.out]; omega))
        have HG : Hid (gapAt xs k = x - y - 1) := by show gapAt xs k = _; unfold gapAt; rw [getD_of hx, hy]
        rw [← hy] at x2
        have HE : Hid (∀ w', Below w.heap.size w w' → w'.cell? ⟨b1, o1 + k, none⟩ = some (.int .i64 x)) := fun w' hb => by rw [Below.celz hb _ _ _ hb1]; exact cellI E1 hx
        have k0 : (0 : Int) ≤ (k : Int) := by omega
        have k1 : (k : Int) < (n : Int) := by omega
        have HP : Hid (∀ w, Calls Tryz.prog 97 #[.int .i64 (x - y - 1)] w fun e w' => e = .returned (.string ⟨(pkL (x - y - 1)).toArray⟩) ∧ Below w.heap.size w w') := fun w => spec_PackNum0 _ w
        clear hx hbel E1 hv1 hy
        go_wp2_with fail
        refine (HP.out _).mono ?_
        rintro e w3 ⟨rfl, b3⟩
        have B3 : Below w.heap.size w w3 := HB.out.trans (b3.mono HB.out.size)
        have e3 := HE.out _ B3
        have HB3 : Hid (Below w.heap.size w w3) := B3
        have hapb := app_bytes t (pkL (x - y - 1))
        have hz1 : (ByteArray.mk t.toArray).size = t.length := by simp [ByteArray.size]
        have hz2 : (ByteArray.mk (pkL (x - y - 1)).toArray).size = (pkL (x - y - 1)).length := by simp [ByteArray.size]
        have hz3 := pkL_len (x - y - 1)
        have HR1 : Hid (t ++ pkL (x - y - 1) = rowK xs (k + 1)) := by show _ = rowK xs (k + 1); rw [rowK_succ, ← HTK.out, HG.out]
        clear b3 B3 HP e0 HE
        generalize pkL (x - y - 1) = u at *
        go_wp2_with fail
        go_roundw
        case rel =>
          refine ⟨k + 1, _, x, by omega, by go_num, ?_, HR1.out, rfl, ?_, HB3.out⟩
          · first | rfl | rw [hapb]
          · simp only [lastAt, if_neg (Nat.succ_ne_zero k), Nat.add_sub_cancel]; exact (getD_of HX.out).symm
        case measure => simp [intOf]; omega
      · have hkn : n = k := by omega
        subst hkn
        go_wp2_with fail
        go_ret
        exact ⟨by rw [HR.out, ← HN.out, ← HTK.out]; rfl, hbel⟩
set_option maxHeartbeats 4000000 in
theorem rowOk (v : Value) (xs : List Int) (w : World) (h : RowAt 1 encI w v xs) (hl : xs.length ≤ 1048576) :
    Calls Tryz.prog 90 #[v] w fun e w' => e = .returned (.bool (upB xs)) ∧ w' = w := by
  obtain ⟨a, cap, rfl⟩ := h.len
  have H : Hid (RowAt 1 encI w (.slice a xs.length cap) xs) := h
  clear h
  obtain ⟨n, hn⟩ : ∃ n, n = xs.length := ⟨_, rfl⟩
  have HN : Hid (n = xs.length) := hn
  rw [← hn] at H hl ⊢
  clear hn
  go_enter Tryz.func90, Tryz.ntmps90
  go_wp2_with fail
  go_loop [3, 8] (fun q i => ∃ (k : Nat) (y : Int), k ≤ n ∧ i = .int .i64 k ∧ q = .int .i64 y ∧ y = lastAt xs k ∧ ∀ j, j < k → okAt xs j = true) (fun _ i => n - (intOf i).toNat)
  case atStart => exact ⟨0, -1, by omega, rfl, rfl, rfl, fun j hj => by omega⟩
  case round =>
    obtain ⟨k, y, hk, rfl, rfl, hy, hok⟩ := hrel
    have HY : Hid (y = lastAt xs k) := hy
    have y0 : -1 ≤ y ∧ y ≤ 16383 := by rw [hy]; exact lastAt_bd hok
    have HO : Hid (∀ j, j < k → okAt xs j = true) := hok
    clear hok hy
    by_cases hlt : k < n
    · rcases H.out with ⟨hz, _⟩ | ⟨_, b1, o1, q1, hv1, hb1, E1⟩
      · have := HN.out; rw [hz] at this; simp at this; omega
      obtain rfl : a = some ⟨b1, o1, none⟩ := by injection hv1
      obtain ⟨x, hx⟩ : ∃ x, xs[k]? = some x := ⟨_, List.getElem?_eq_getElem (by rw [← HN.out]; exact hlt)⟩
      have e0 : w.cell? ⟨b1, o1 + k, none⟩ = some (.int .i64 x) := cellI E1 hx
      have HX : Hid (xs[k]? = some x) := hx
      have k0 : (0 : Int) ≤ (k : Int) := by omega
      have k1 : (k : Int) < (n : Int) := by omega
      clear hx E1 hv1
      have bad : Hid (∀ wz : World, ¬ (0 ≤ x ∧ x ≤ 16383 ∧ lastAt xs k < x) → upB xs = false) := fun _ hn => upB_no (by rw [← HN.out]; exact hlt) (okAt_not HX.out hn)
      by_cases h1 : x ≤ y
      · go_wp2_with fail
        go_ret
        exact ⟨by rw [bad.out w (by rw [← HY.out]; omega)]; rfl, rfl⟩
      by_cases h2 : 16383 < x
      · go_wp2_with fail
        go_ret
        exact ⟨by rw [bad.out w (by omega)]; rfl, rfl⟩
      · go_wp2_with fail
        go_round
        case rel =>
          refine ⟨k + 1, x, by omega, by go_num, rfl, ?_, fun j hj => ?_⟩
          · simp only [lastAt, if_neg (Nat.succ_ne_zero k), Nat.add_sub_cancel]; exact (getD_of HX.out).symm
          · rcases Nat.lt_succ_iff_lt_or_eq.1 hj with hj | rfl
            · exact HO.out j hj
            · exact (okAt_iff HX.out).2 ⟨by omega, by omega, by rw [← HY.out]; omega⟩
        case measure => simp [intOf]; omega
    · have hkn : k = n := by omega
      subst hkn
      have HU : Hid (upB xs = decide ((k : Int) ≤ 127)) := by
        show upB xs = _
        rw [upB_len (fun j hj => HO.out j (by rw [HN.out]; exact hj)), ← HN.out]
        simp; omega
      go_wp2_with fail
      go_ret
      exact ⟨by rw [HU.out]; rfl, rfl⟩
end Go.Proofs.YtlnpbfeihjfnjaaGreatDoor.Lab
namespace Go.Proofs.YtlnpbfeihjfnjaaGreatDoor.Lab
open Go.ChangeShapes Go.WideShapes Go.ChangeAt Go.RowKit
set_option linter.unusedVariables false

theorem laidOut : laidOutB Tryz.prog = true := by kernel_rfl
theorem heap_of_var {P : Program} {w : World} {n : String} {g : Nat} {cs : Array Value} (hg : P.globalNamed n = some g) (h : w.var? P n = some cs) : ∃ t fr, w.heap[g]? = some (.cells cs t fr) := by
  unfold World.var? at h
  rw [hg, Option.bind_some] at h
  split at h
  · rename_i c e fr hh
    obtain rfl := Option.some.inj h
    exact ⟨e, fr, hh⟩
  · cases h
/-- What reads as an interface value that is not nil is one. -/
theorem iface_of {H : Type} {enc : TypeId × Value → H} {P : Program} {w : World} {base : Nat} {sp : Nat → Bool} {held : Bool} {fuel : Nat} {t : TypeId} {ms : Array (String × TypeId)} {cs : List Value} {n : String} {d : DataW H} {p : List MemPlace}
    (ht : P.underlying t = some (.interface ms)) (h : DataW.trod enc P w base sp held fuel t cs = some (.iface n d, p)) : ∃ u v, cs = [.iface u v] := by
  cases fuel with
  | zero => simp [DataW.trod] at h
  | succ fuel =>
    unfold DataW.trod at h
    rw [ht] at h
    split at h <;> simp_all
/-- An interface value is read by its cell alone. -/
theorem held_again {H : Type} {enc : TypeId × Value → H} {P : Program} {w w' : World} {base : Nat} {sp sp' : Nat → Bool} {fuel : Nat} {t u : TypeId} {v : Value} {ms : Array (String × TypeId)} {x : DataW H × List MemPlace}
    (ht : P.underlying t = some (.interface ms)) (h : DataW.trod enc P w base sp true fuel t [.iface u v] = some x) : DataW.trod enc P w' base sp' true fuel t [.iface u v] = some x := by
  cases fuel with
  | zero => simp [DataW.trod] at h
  | succ fuel =>
    unfold DataW.trod at h ⊢
    rw [ht] at h ⊢
    simpa using h
theorem gForm : Tryz.prog.globalNamed "loop.example/hagioscope/impl.errForm" = some 0 := by kernel_rfl
theorem tForm : (Tryz.prog.globals[0]?).map (·.type) = some 62 := by kernel_rfl
/-- The variable holds an error that is not nil. -/
def FormAt (w : World) : Prop := ∃ t v, w.cell? ⟨0, 0, none⟩ = some (.iface t v)
theorem FormAt.lt {w : World} (h : FormAt w) : 0 < w.heap.size := by
  obtain ⟨t, v, h⟩ := h
  rcases Nat.lt_or_ge 0 w.heap.size with h' | h'
  · exact h'
  · simp [World.cell?, Array.getElem?_eq_none h'] at h
theorem FormAt.keep {w w' : World} (h : FormAt w) (hb : Below w.heap.size w w') : FormAt w' := by
  have hl := h.lt
  obtain ⟨t, v, h⟩ := h
  exact ⟨t, v, by rw [hb.cell (p := ⟨0, 0, none⟩) hl]; exact h⟩
theorem form_of {W : World} (h : laidMetH Tryz.prog [("loop.example/hagioscope/impl.errForm", Rows.laid_loop_example_hagioscope_impl_errForm)] W) : ∃ u v, W.var? Tryz.prog "loop.example/hagioscope/impl.errForm" = some #[.iface u v] := by
  rw [MakeChecks.laidMetH_plain _ _ _ (by kernel_rfl)] at h
  obtain ⟨ps, ⟨g0, t0, cs0, f0, p0, q0, hg0, ht0, hv0, hd0, _, _⟩, _⟩ := h
  obtain rfl := Option.some.inj (gForm.symm.trans hg0)
  obtain rfl := Option.some.inj (tForm.symm.trans ht0)
  obtain ⟨u, v, hc⟩ := iface_of Tryz.underlying62 hd0
  refine ⟨u, v, ?_⟩
  rw [hv0]
  cases cs0 with
  | mk l => simp only at hc; rw [hc]
theorem formAt_of {W : World} {u : TypeId} {v : Value} (h : W.var? Tryz.prog "loop.example/hagioscope/impl.errForm" = some #[.iface u v]) : FormAt W := by
  obtain ⟨t, fr, hh⟩ := heap_of_var gForm h
  exact ⟨u, v, by simp [World.cell?, hh]⟩
end Go.Proofs.YtlnpbfeihjfnjaaGreatDoor.Lab
