/-
  Rows as bytes: in plain words, and contracts of spec.l4Up, spec.PackRow, impl.rowOk.
-/
import Derived.Test.YtlnpbfeihjfnjabGreatDoorQIts
import Derived.Test.YtlnpbfeihjfnjabGreatDoorQPck
import Derived.Carry
import Derived.Test.YtlnpbfeihjfnjabGreatDoorQNod
namespace Go.Proofs.YtlnpbfeihjfnjabGreatDoor.Lab
open Go.RowKit
set_option linter.unusedVariables false
/-- What was ahead of place j; -1 at the first one. -/
def lastAt (l : List Int) (j : Nat) : Int := if j = 0 then -1 else l.getD (j - 1) 0
def okAt (l : List Int) (j : Nat) : Bool := decide (0 ≤ l.getD j 0) && decide (l.getD j 0 ≤ 16383) && decide (lastAt l j < l.getD j 0)
/-- A list ascends, from 0 on, up to the greatest number, and is not too long. -/
def upB (l : List Int) : Bool := (List.range l.length).all (okAt l) && decide (l.length ≤ 127)
theorem upB_no {l : List Int} {j : Nat} (hj : j < l.length) (h : okAt l j = false) : upB l = false := by
  have : (List.range l.length).all (okAt l) = false := by
    rw [List.all_eq_false]
    exact ⟨j, List.mem_range.2 hj, by simp [h]⟩
  simp [upB, this]
theorem upB_len {l : List Int} (h : ∀ j, j < l.length → okAt l j = true) : upB l = decide (l.length ≤ 127) := by
  have : (List.range l.length).all (okAt l) = true := by
    rw [List.all_eq_true]
    exact fun j hj => h j (List.mem_range.1 hj)
  simp [upB, this]
theorem upB_all {l : List Int} (h : upB l = true) : (∀ j, j < l.length → okAt l j = true) ∧ l.length ≤ 127 := by
  simp only [upB, Bool.and_eq_true, List.all_eq_true, decide_eq_true_eq] at h
  exact ⟨fun j hj => h.1 j (List.mem_range.2 hj), h.2⟩
theorem getD_of {l : List Int} {j : Nat} {x : Int} (h : l[j]? = some x) : l.getD j 0 = x := by simp [List.getD_eq_getElem?_getD, h]
theorem okAt_iff {l : List Int} {j : Nat} {x : Int} (h : l[j]? = some x) : okAt l j = true ↔ 0 ≤ x ∧ x ≤ 16383 ∧ lastAt l j < x := by
  simp only [okAt, getD_of h, Bool.and_eq_true, decide_eq_true_eq]
  exact ⟨fun h => ⟨h.1.1, h.1.2, h.2⟩, fun h => ⟨⟨h.1, h.2.1⟩, h.2.2⟩⟩
theorem okAt_not {l : List Int} {j : Nat} {x : Int} (h : l[j]? = some x) (hn : ¬ (0 ≤ x ∧ x ≤ 16383 ∧ lastAt l j < x)) : okAt l j = false := by
  cases hk : okAt l j
  · rfl
  · exact absurd ((okAt_iff h).1 hk) hn
theorem lastAt_bd {l : List Int} {j : Nat} (h : ∀ i, i < j → okAt l i = true) : -1 ≤ lastAt l j ∧ lastAt l j ≤ 16383 := by
  unfold lastAt
  split
  · omega
  · have := h (j - 1) (by omega)
    simp only [okAt, Bool.and_eq_true, decide_eq_true_eq] at this
    omega
/-- The bytes of the gap ahead of place j. -/
def gapAt (l : List Int) (j : Nat) : Int := l.getD j 0 - lastAt l j - 1
def rowK (l : List Int) (k : Nat) : List UInt8 := pkL l.length ++ (List.range k).flatMap (fun j => pkL (gapAt l j))
theorem rowK_succ (l : List Int) (k : Nat) : rowK l (k + 1) = rowK l k ++ pkL (gapAt l k) := by
  simp [rowK, List.range_succ, List.flatMap_append]
theorem rowK_zero (l : List Int) : rowK l 0 = pkL l.length := by simp [rowK]
theorem rowK_len (l : List Int) (k : Nat) : (rowK l k).length ≤ 2 + 2 * k := by
  induction k with
  | zero => rw [rowK_zero]; exact pkL_len _
  | succ k ih =>
    rw [rowK_succ, List.length_append]
    have := pkL_len (gapAt l k)
    omega
/-- The bytes of a list; none, if it has none. -/
def rowL (l : List Int) : List UInt8 := if upB l then rowK l l.length else []
theorem app_bytes (a b : List UInt8) : ((⟨a.toArray⟩ : ByteArray) ++ ⟨b.toArray⟩) = ⟨(a ++ b).toArray⟩ := by
  apply ByteArray.ext
  simp
theorem belD {B : Nat} {a w : World} (h : Below B a w) (n : Nat) : Below B a (w.drewN n) := ⟨h.os, h.tape, h.output, h.size, h.block⟩
set_option maxHeartbeats 4000000 in
theorem l4Up (v : Value) (xs : List Int) (w : World) (h : RowAt 1 encI w v xs) (hl : xs.length ≤ 1048576) :
    Calls Tryz.prog 90 #[v] w fun e w' => e = .returned (.bool (upB xs)) ∧ Below w.heap.size w w' := by
  obtain ⟨a, cap, rfl⟩ := h.len
  have H : Hid (RowAt 1 encI w (.slice a xs.length cap) xs) := h
  clear h
  obtain ⟨n, hn⟩ : ∃ n, n = xs.length := ⟨_, rfl⟩
  have HN : Hid (n = xs.length) := hn
  rw [← hn] at H hl ⊢
  clear hn
  go_enter Tryz.func90, Tryz.ntmps90
  go_wp2_with fail
  go_loopw [3] (fun i wr => ∃ k : Nat, k ≤ n ∧ i = .int .i64 k ∧ Below w.heap.size w wr ∧ ∀ j, j < k → okAt xs j = true) (fun i _ => n - (intOf i).toNat)
  case atStart => exact ⟨0, by omega, rfl, Below.refl _ _, fun j hj => by omega⟩
  case round =>
    obtain ⟨k, hk, rfl, hbel, hok⟩ := hrel
    have HO : Hid (∀ j, j < k → okAt xs j = true) := hok
    clear hok
    by_cases hlt : k < n
    · rcases H.out with ⟨hz, _⟩ | ⟨_, b1, o1, q1, hv1, hb1, E1⟩
      · have := HN.out; rw [hz] at this; simp at this; omega
      obtain rfl : a = some ⟨b1, o1, none⟩ := by injection hv1
      obtain ⟨x, hx⟩ : ∃ x, xs[k]? = some x := ⟨_, List.getElem?_eq_getElem (by rw [← HN.out]; exact hlt)⟩
      have e0 : wr.cell? ⟨b1, o1 + k, none⟩ = some (.int .i64 x) := by rw [Below.celz hbel _ _ _ hb1]; exact cellI E1 hx
      have HX : Hid (xs[k]? = some x) := hx
      have HB : Hid (Below w.heap.size w wr) := hbel
      have HE : Hid (∀ j y, xs[j]? = some y → wr.cell? ⟨b1, o1 + j, none⟩ = some (.int .i64 y)) := fun j y hy => by rw [Below.celz hbel _ _ _ hb1]; exact cellI E1 hy
      have k0 : (0 : Int) ≤ (k : Int) := by omega
      have k1 : (k : Int) < (n : Int) := by omega
      clear hx hbel E1 hv1
      have bad : Hid (∀ wz : World, ¬ (0 ≤ x ∧ x ≤ 16383 ∧ lastAt xs k < x) → upB xs = false) := fun _ hn => upB_no (by rw [← HN.out]; exact hlt) (okAt_not HX.out hn)
      by_cases h1 : x < 0
      · have d1 : decide (x < 0) = true := by simpa using h1
        go_wp2_with fail
        go_quiet (fail)
        go_wp2_with fail
        go_ret
        exact ⟨by rw [bad.out wr (by omega)]; rfl, belD HB.out _⟩
      have d1 : decide (x < 0) = false := by simpa using h1
      by_cases h2 : 16383 < x
      · have d2 : decide (16383 < x) = true := by simpa using h2
        go_wp2_with fail
        go_quiet (fail)
        go_wp2_with fail
        go_ret
        exact ⟨by rw [bad.out wr (by omega)]; rfl, belD HB.out _⟩
      have d2 : decide (16383 < x) = false := by simpa using h2
      by_cases h3 : k = 0
      · subst h3
        rw [Nat.add_zero] at e0
        have d3 : decide ((0 : Int) < 0) = false := by decide
        go_wp2_with fail
        go_quiet (fail)
        go_wp2_with fail
        go_roundw
        case rel =>
          refine ⟨1, by omega, by go_num, belD HB.out _, fun j hj => ?_⟩
          obtain rfl : j = 0 := by omega
          exact (okAt_iff HX.out).2 ⟨by omega, by omega, by simp [lastAt]; omega⟩
        case measure => simp [intOf]; omega
      · obtain ⟨k', rfl⟩ : ∃ k', k = k' + 1 := ⟨k - 1, by omega⟩
        obtain ⟨y, hy⟩ : ∃ y, xs[k']? = some y := ⟨_, List.getElem?_eq_getElem (by rw [← HN.out]; omega)⟩
        have f0 : wr.cell? ⟨b1, o1 + k', none⟩ = some (.int .i64 y) := HE.out k' y hy
        have HY : Hid (lastAt xs (k' + 1) = y) := by show lastAt _ _ = _; simp only [lastAt, if_neg (Nat.succ_ne_zero k'), Nat.add_sub_cancel]; exact getD_of hy
        clear hy HE
        have k2 : (k' : Int) < (n : Int) := by omega
        have d3 : decide (0 < (k' : Int) + 1) = true := by rw [decide_eq_true_eq]; omega
        by_cases h4 : x ≤ y
        · have d4 : decide (x ≤ y) = true := by simpa using h4
          go_wp2_with fail
          go_quiet (fail)
          go_wp2_with fail
          go_ret
          exact ⟨by rw [bad.out wr (by rw [HY.out]; omega)]; rfl, belD HB.out _⟩
        · have d4 : decide (x ≤ y) = false := by simpa using h4
          go_wp2_with fail
          go_quiet (fail)
          go_wp2_with fail
          go_roundw
          case rel =>
            refine ⟨k' + 1 + 1, by omega, by go_num, belD HB.out _, fun j hj => ?_⟩
            rcases Nat.lt_succ_iff_lt_or_eq.1 hj with hj | rfl
            · exact HO.out j hj
            · exact (okAt_iff HX.out).2 ⟨by omega, by omega, by rw [HY.out]; omega⟩
          case measure => simp [intOf]; omega
    · have hkn : k = n := by omega
      subst hkn
      have HU : Hid (upB xs = decide ((k : Int) ≤ 127)) := by
        show upB xs = _
        rw [upB_len (fun j hj => HO.out j (by rw [HN.out]; exact hj)), ← HN.out]
        simp; omega
      go_wp2_with fail
      go_ret
      exact ⟨by rw [HU.out]; rfl, hbel⟩
set_option maxHeartbeats 4000000 in
theorem spec_PackRow (v : Value) (xs : List Int) (w : World) (h : RowAt 1 encI w v xs) (hl : xs.length ≤ 1048576) :
    Calls Tryz.prog 70 #[v] w fun e w' => e = .returned (.string ⟨(rowL xs).toArray⟩) ∧ Below w.heap.size w w' := by
  obtain ⟨a, cap, rfl⟩ := h.len
  have H : Hid (RowAt 1 encI w (.slice a xs.length cap) xs) := h
  go_enter Tryz.func70, Tryz.ntmps70
  go_wp2_with fail
  refine (l4Up _ xs _ h hl).mono ?_
  rintro e w1 ⟨rfl, b1⟩
  have B1 : Hid (Below w.heap.size w w1) := b1
  clear b1 h
  cases hu : upB xs
  · have HR : Hid (rowL xs = []) := by show rowL xs = []; simp [rowL, hu]
    go_wp2_with fail
    go_ret
    exact ⟨by rw [HR.out]; rfl, B1.out⟩
  · have HR : Hid (rowL xs = rowK xs xs.length) := by show rowL xs = _; simp [rowL, hu]
    obtain ⟨hall, hlen⟩ := upB_all hu
    have HA : Hid (∀ j, j < xs.length → okAt xs j = true) := hall
    obtain ⟨n, hn⟩ : ∃ n, n = xs.length := ⟨_, rfl⟩
    have HN : Hid (n = xs.length) := hn
    have HP : Hid (∀ w, Calls Tryz.prog 71 #[.int .i64 n] w fun e w' => e = .returned (.string ⟨(pkL n).toArray⟩) ∧ Below w.heap.size w w') := fun w => spec_PackNum0 n w
    rw [← hn] at H hlen ⊢
    clear hn hall hl hu
    go_wp2_with fail
    refine (HP.out _).mono ?_
    rintro e w2 ⟨rfl, b2⟩
    have B2 : Hid (Below w.heap.size w w2) := B1.out.trans (b2.mono B1.out.size)
    clear b2 HP
    obtain ⟨t0, ht0⟩ : ∃ t0, t0 = pkL (n : Int) := ⟨_, rfl⟩
    have HT : Hid (t0 = rowK xs 0) := by show t0 = _; rw [ht0, rowK_zero, HN.out]
    rw [← ht0]
    clear ht0
    go_wp2_with fail
    go_loopw [3, 4, 5] (fun o q i wr => ∃ (k : Nat) (t : List UInt8) (y : Int), k ≤ n ∧ i = .int .i64 k ∧ o = .string ⟨t.toArray⟩ ∧ t = rowK xs k ∧ q = .int .i64 y ∧ y = lastAt xs k ∧ Below w.heap.size w wr) (fun _ _ i _ => n - (intOf i).toNat)
    case atStart => exact ⟨0, t0, -1, by omega, rfl, rfl, HT.out, rfl, rfl, B2.out⟩
    case round =>
      obtain ⟨k, t, y, hk, rfl, rfl, ht, rfl, hy, hbel⟩ := hrel
      have HTK : Hid (t = rowK xs k) := ht
      have tl : t.length ≤ 2 + 2 * k := by rw [ht]; exact rowK_len _ _
      clear ht
      by_cases hlt : k < n
      · rcases H.out with ⟨hz, _⟩ | ⟨_, b1, o1, q1, hv1, hb1, E1⟩
        · have := HN.out; rw [hz] at this; simp at this; omega
        obtain rfl : a = some ⟨b1, o1, none⟩ := by injection hv1
        obtain ⟨x, hx⟩ : ∃ x, xs[k]? = some x := ⟨_, List.getElem?_eq_getElem (by rw [← HN.out]; exact hlt)⟩
        have e0 : wr.cell? ⟨b1, o1 + k, none⟩ = some (.int .i64 x) := by rw [Below.celz hbel _ _ _ hb1]; exact cellI E1 hx
        have HX : Hid (xs[k]? = some x) := hx
        have HB : Hid (Below w.heap.size w wr) := hbel
        obtain ⟨x0, x1, x2⟩ := (okAt_iff hx).1 (HA.out k (by rw [← HN.out]; exact hlt))
        have y0 : -1 ≤ y ∧ y ≤ 16383 := by rw [hy]; exact lastAt_bd (fun i hi => HA.out i (by rw [← HN.out]; omega))
        have HG : Hid (gapAt xs k = x - y - 1) := by show gapAt xs k = _; unfold gapAt; rw [getD_of hx, hy]
        rw [← hy] at x2
        have HE : Hid (∀ w', Below w.heap.size w w' → w'.cell? ⟨b1, o1 + k, none⟩ = some (.int .i64 x)) := fun w' hb => by rw [Below.celz hb _ _ _ hb1]; exact cellI E1 hx
        have k0 : (0 : Int) ≤ (k : Int) := by omega
        have k1 : (k : Int) < (n : Int) := by omega
        have HP : Hid (∀ w, Calls Tryz.prog 71 #[.int .i64 (x - y - 1)] w fun e w' => e = .returned (.string ⟨(pkL (x - y - 1)).toArray⟩) ∧ Below w.heap.size w w') := fun w => spec_PackNum0 _ w
        clear hx hbel E1 hv1 hy
        go_wp2_with fail
        refine (HP.out _).mono ?_
        rintro e w3 ⟨rfl, b3⟩
        have B3 : Below w.heap.size w w3 := HB.out.trans (b3.mono HB.out.size)
        have e3 := HE.out _ B3
        have HB3 : Hid (Below w.heap.size w w3) := B3
        have hapb := app_bytes t (pkL (x - y - 1))
        have hz1 : (ByteArray.mk t.toArray).size = t.length := by simp [ByteArray.size]
        have hz2 : (ByteArray.mk (pkL (x - y - 1)).toArray).size = (pkL (x - y - 1)).length := by simp [ByteArray.size]
        have hz3 := pkL_len (x - y - 1)
        have HR1 : Hid (t ++ pkL (x - y - 1) = rowK xs (k + 1)) := by show _ = rowK xs (k + 1); rw [rowK_succ, ← HTK.out, HG.out]
        clear b3 B3 HP e0 HE
        generalize pkL (x - y - 1) = u at *
        go_wp2_with fail
        go_roundw
        case rel =>
          refine ⟨k + 1, _, x, by omega, by go_num, ?_, HR1.out, rfl, ?_, HB3.out⟩
          · first | rfl | rw [hapb]
          · simp only [lastAt, if_neg (Nat.succ_ne_zero k), Nat.add_sub_cancel]; exact (getD_of HX.out).symm
        case measure => simp [intOf]; omega
      · have hkn : n = k := by omega
        subst hkn
        go_wp2_with fail
        go_ret
        exact ⟨by rw [HR.out, ← HN.out, ← HTK.out]; rfl, hbel⟩
set_option maxHeartbeats 4000000 in
theorem rowOk (v : Value) (xs : List Int) (w : World) (h : RowAt 1 encI w v xs) (hl : xs.length ≤ 1048576) :
    Calls Tryz.prog 77 #[v] w fun e w' => e = .returned (.bool (upB xs)) ∧ w' = w := by
  obtain ⟨a, cap, rfl⟩ := h.len
  have H : Hid (RowAt 1 encI w (.slice a xs.length cap) xs) := h
  clear h
  obtain ⟨n, hn⟩ : ∃ n, n = xs.length := ⟨_, rfl⟩
  have HN : Hid (n = xs.length) := hn
  rw [← hn] at H hl ⊢
  clear hn
  go_enter Tryz.func77, Tryz.ntmps77
  go_wp2_with fail
  go_loop [3, 8] (fun q i => ∃ (k : Nat) (y : Int), k ≤ n ∧ i = .int .i64 k ∧ q = .int .i64 y ∧ y = lastAt xs k ∧ ∀ j, j < k → okAt xs j = true) (fun _ i => n - (intOf i).toNat)
  case atStart => exact ⟨0, -1, by omega, rfl, rfl, rfl, fun j hj => by omega⟩
  case round =>
    obtain ⟨k, y, hk, rfl, rfl, hy, hok⟩ := hrel
    have HY : Hid (y = lastAt xs k) := hy
    have y0 : -1 ≤ y ∧ y ≤ 16383 := by rw [hy]; exact lastAt_bd hok
    have HO : Hid (∀ j, j < k → okAt xs j = true) := hok
    clear hok hy
    by_cases hlt : k < n
    · rcases H.out with ⟨hz, _⟩ | ⟨_, b1, o1, q1, hv1, hb1, E1⟩
      · have := HN.out; rw [hz] at this; simp at this; omega
      obtain rfl : a = some ⟨b1, o1, none⟩ := by injection hv1
      obtain ⟨x, hx⟩ : ∃ x, xs[k]? = some x := ⟨_, List.getElem?_eq_getElem (by rw [← HN.out]; exact hlt)⟩
      have e0 : w.cell? ⟨b1, o1 + k, none⟩ = some (.int .i64 x) := cellI E1 hx
      have HX : Hid (xs[k]? = some x) := hx
      have k0 : (0 : Int) ≤ (k : Int) := by omega
      have k1 : (k : Int) < (n : Int) := by omega
      clear hx E1 hv1
      have bad : Hid (∀ wz : World, ¬ (0 ≤ x ∧ x ≤ 16383 ∧ lastAt xs k < x) → upB xs = false) := fun _ hn => upB_no (by rw [← HN.out]; exact hlt) (okAt_not HX.out hn)
      by_cases h1 : x ≤ y
      · go_wp2_with fail
        go_ret
        exact ⟨by rw [bad.out w (by rw [← HY.out]; omega)]; rfl, rfl⟩
      by_cases h2 : 16383 < x
      · go_wp2_with fail
        go_ret
        exact ⟨by rw [bad.out w (by omega)]; rfl, rfl⟩
      · go_wp2_with fail
        go_round
        case rel =>
          refine ⟨k + 1, x, by omega, by go_num, rfl, ?_, fun j hj => ?_⟩
          · simp only [lastAt, if_neg (Nat.succ_ne_zero k), Nat.add_sub_cancel]; exact (getD_of HX.out).symm
          · rcases Nat.lt_succ_iff_lt_or_eq.1 hj with hj | rfl
            · exact HO.out j hj
            · exact (okAt_iff HX.out).2 ⟨by omega, by omega, by rw [← HY.out]; omega⟩
        case measure => simp [intOf]; omega
    · have hkn : k = n := by omega
      subst hkn
      have HU : Hid (upB xs = decide ((k : Int) ≤ 127)) := by
        show upB xs = _
        rw [upB_len (fun j hj => HO.out j (by rw [HN.out]; exact hj)), ← HN.out]
        simp; omega
      go_wp2_with fail
      go_ret
      exact ⟨by rw [HU.out]; rfl, rfl⟩
end Go.Proofs.YtlnpbfeihjfnjabGreatDoor.Lab
