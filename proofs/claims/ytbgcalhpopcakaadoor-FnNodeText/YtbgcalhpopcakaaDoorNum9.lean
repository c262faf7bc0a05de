/-
  Numbers read: spec.l9Num, impl.numRead. (Written by tools/mknum9.py.)
-/
import Derived.Test.YtbgcalhpopcakaaDoorNmp
import Derived.Test.YtbgcalhpopcakaaDoorRow
import Derived.Test.YtbgcalhpopcakaaDoorShf
import Derived.WalkKit
import Derived.WalkSpells
import Derived.WalkLawsBesides
namespace Go.Proofs.YtbgcalhpopcakaaDoor.Lab
open Go.RowKit Go.Sort
set_option linter.unusedVariables false
/-- The number of digits behind a sign, or of digits alone. -/
def numN (neg : Bool) (l : List UInt8) : Option Int := if canB l = true ∧ l.length ≤ 17 ∧ (neg = true → l.head? ≠ some 48) then some (if neg then -(valD l : Int) else (valD l : Int)) else none
theorem numO_neg (r : List UInt8) : numO (45 :: r) = numN true r := by simp [numO, numN]
theorem numO_plain {l : List UInt8} (h : l.head? ≠ some 45) : numO l = numN false l := by
  cases l with
  | nil => simp [numO, numN, canB]
  | cons c r =>
    have hc : ¬ c = 45 := fun e => h (by simp [e])
    simp [numO, numN, hc]
theorem numN_nil (neg : Bool) {l : List UInt8} (h : l.length = 0) : numN neg l = none := by
  rw [List.length_eq_zero_iff.1 h]; simp [numN, canB]
theorem numN_long (neg : Bool) {l : List UInt8} (h : 17 < l.length) : numN neg l = none := by
  unfold numN; rw [if_neg (fun ⟨_, h2, _⟩ => by omega)]
theorem numN_zero (neg : Bool) {l : List UInt8} (h : l[0]? = some 48) (h2 : 1 < l.length ∨ neg = true) : numN neg l = none := by
  have hh : l.head? = some 48 := by rw [List.head?_eq_getElem?]; exact h
  unfold numN
  rw [if_neg]
  rintro ⟨h1, _, h3⟩
  rcases h2 with h2 | h2
  · simp only [canB, hh, Bool.and_eq_true] at h1
    have := h1.2
    simp at this
    omega
  · exact h3 h2 hh
theorem numN_bad (neg : Bool) {l : List UInt8} {k : Nat} {x : UInt8} (h : l[k]? = some x) (hx : isD x = false) : numN neg l = none := by
  unfold numN
  rw [if_neg]
  rintro ⟨h1, _, _⟩
  have := List.all_eq_true.1 (can_all h1).1 x (List.mem_of_getElem? h)
  rw [hx] at this; cases this
theorem numN_good (neg : Bool) {l : List UInt8} (h0 : 0 < l.length) (h17 : l.length ≤ 17) (hall : l.all isD = true) (hz : ∀ x, l[0]? = some x → x = 48 → l.length ≤ 1 ∧ neg = false) : numN neg l = some (if neg then -(valD l : Int) else (valD l : Int)) := by
  unfold numN
  rw [if_pos]
  cases l with
  | nil => simp at h0
  | cons c r =>
    have := hz c rfl
    refine ⟨?_, h17, fun hn e => ?_⟩
    · by_cases hc : c = 48
      · have h1 := (this hc).1
        have : r = [] := List.length_eq_zero_iff.1 (by simp at h1; simpa using h1)
        subst this
        simpa [canB] using hall
      · simp only [canB, Bool.and_eq_true]
        refine ⟨⟨by simp, hall⟩, by simp [hc]⟩
    · simp only [List.head?_cons, Option.some.injEq] at e
      have h2 := (this e).2
      rw [hn] at h2; cases h2
theorem numV_of {l : List UInt8} {neg : Bool} {r : List UInt8} (h : numO l = numN neg r) : numV l = (numN neg r).getD 0 ∧ numB l = (numN neg r).isSome := by unfold numV numB; rw [h]; exact ⟨rfl, rfl⟩
theorem byteAt {s : ByteArray} {k : Nat} (hk : k < s.size) : s.data.toList[k]? = some (s[k]'hk) := by
  have h : k < s.data.toList.length := by simpa using hk
  rw [List.getElem?_eq_getElem h]; rfl
theorem val_step {l : List UInt8} {k : Nat} {x : UInt8} (h : l[k]? = some x) : valD (l.take (k + 1)) = valD (l.take k) * 10 + (x.toNat - 48) := by
  rw [List.take_add_one, h]; exact valD_app _ _
theorem all_step {l : List UInt8} {k : Nat} {x : UInt8} (h : l[k]? = some x) (h1 : (l.take k).all isD = true) (hx : isD x = true) : (l.take (k + 1)).all isD = true := by
  rw [List.take_add_one, h, List.all_append, h1]; simp [hx]
theorem val_bd {l : List UInt8} {k : Nat} (h1 : (l.take k).all isD = true) (hk : k ≤ 16) : valD (l.take k) < 10000000000000000 := by
  have := val_lt _ h1
  have h2 : (l.take k).length ≤ 16 := by rw [List.length_take]; omega
  exact Nat.lt_of_lt_of_le this (Nat.le_trans (Nat.pow_le_pow_right (by decide) h2) (by decide))
set_option maxRecDepth 16000 in
set_option maxHeartbeats 4000000 in
theorem spec_l9Num_false (s : ByteArray) (hpl : ∀ h : 0 < s.size, s[0]'h ≠ 45) (w : World) (hs : s.size ≤ 1048576) :
    Calls Tryd.prog 27 #[.string s] w fun e w' => e = .returned (.tuple #[.int .i64 ((numN false s.data.toList).getD 0), .bool (numN false s.data.toList).isSome]) ∧ Below w.heap.size w w' := by
  by_cases hz0 : s.size = 0
  · have HN : Hid (numN false s.data.toList = none) := numN_nil _ (by simpa using hz0)
    clear hpl
    go_enter Tryd.func27, Tryd.ntmps27
    go_wp2
    go_ret2
    exact ⟨by rw [HN.out]; rfl, Below.refl _ _⟩
  have hzp : 0 < s.size := by omega
  have n1 : (((s[0]'hzp).toNat : Int) == 45) = false := by
    have := hpl hzp
    simp only [beq_eq_false_iff_ne, ne_eq]
    intro h
    exact this (UInt8.toNat_inj.1 (by simp; omega))
  have hzb : ((s.size : Int) == 0) = false := by simpa using hz0
  clear hz0 hpl
  by_cases h17 : 17 < s.size
  · have HN : Hid (numN false s.data.toList = none) := numN_long _ (by simpa using h17)
    have h17b : (17 : Int) < (s.size : Int) := by omega
    go_enter Tryd.func27, Tryd.ntmps27
    go_wp2
    go_ret2
    exact ⟨by rw [HN.out]; rfl, Below.refl _ _⟩
  have h17n : s.size ≤ 17 := by omega
  have h17b : ¬ (17 : Int) < (s.size : Int) := by omega
  clear h17
  have HZ0 : Hid (s.data.toList[0]? = some (s[0]'hzp)) := byteAt hzp
  by_cases hy : s[0]'hzp = 48
  · have g1 : (((s[0]'hzp).toNat : Int) == 48) = true := by rw [hy]; rfl
    by_cases h1 : 1 < s.size ∨ false = true
    · have HN : Hid (numN false s.data.toList = none) := numN_zero _ (by rw [HZ0.out, hy]) (by simpa using h1)
      have g2 : (1 : Int) < (s.size : Int) := by simp at h1; omega
      clear hy h1
      go_enter Tryd.func27, Tryd.ntmps27
      go_wp2
      all_goals (
        go_ret2
        exact ⟨by rw [HN.out]; rfl, Below.refl _ _⟩)
    · have hsm : ¬ 1 < s.size := fun h => h1 (.inl h)
      have HG : Hid (∀ x, s.data.toList[0]? = some x → x = 48 → s.data.toList.length ≤ 1 ∧ false = false) := fun x hx e => ⟨by simpa using hsm, rfl⟩
      have g2 : ¬ (1 : Int) < (s.size : Int) := by omega
      clear hy h1 hsm
      go_enter Tryd.func27, Tryd.ntmps27
      go_wp2
      go_loopw [5, 6] (fun q i wr => ∃ k : Nat, k ≤ s.size ∧ i = .int .i64 k ∧ q = .int .i64 (valD (s.data.toList.take k)) ∧ (s.data.toList.take k).all isD = true ∧ Below w.heap.size w wr) (fun _ i _ => s.size - (intOf i).toNat)
      case atStart => exact ⟨0, by omega, rfl, rfl, rfl, Below.refl _ _⟩
      case round =>
        obtain ⟨k, hk, rfl, rfl, ha, hb⟩ := hrel
        have HA : Hid ((s.data.toList.take k).all isD = true) := ha
        have HB : Hid (Below w.heap.size w wr) := hb
        obtain ⟨v, hv⟩ : ∃ v, v = valD (s.data.toList.take k) := ⟨_, rfl⟩
        have HV : Hid (v = valD (s.data.toList.take k)) := hv
        have hv17 : k ≤ 16 → v < 10000000000000000 := fun h => by rw [hv]; exact val_bd ha h
        rw [← hv]
        clear ha hb hv
        by_cases hlt : k < s.size
        · have hv2 := hv17 (by omega)
          have HX : Hid (s.data.toList[k]? = some (s[k]'hlt)) := byteAt hlt
          have hu : (s[k]'hlt).toNat < 256 := UInt8.toNat_lt _
          cases hd : isD (s[k]'hlt)
          · have HN : Hid (numN false s.data.toList = none) := numN_bad _ HX.out hd
            have hq : (s[k]'hlt).toNat < 48 ∨ 57 < (s[k]'hlt).toNat := by
              rcases Nat.lt_or_ge (s[k]'hlt).toNat 48 with h | h
              · exact .inl h
              · rcases Nat.lt_or_ge 57 (s[k]'hlt).toNat with h' | h'
                · exact .inr h'
                · simp [isD, h, h'] at hd
            clear hd hv17
            rcases hq with hq | hq
            · have q1 : ((s[k]'hlt).toNat : Int) < 48 := by omega
              go_wp2
              go_ret2
              exact ⟨by rw [HN.out]; rfl, HB.out⟩
            · have q1 : ¬ ((s[k]'hlt).toNat : Int) < 48 := by omega
              have q2 : (57 : Int) < ((s[k]'hlt).toNat : Int) := by omega
              go_wp2
              go_ret2
              exact ⟨by rw [HN.out]; rfl, HB.out⟩
          · have HS : Hid (valD (s.data.toList.take (k + 1)) = v * 10 + ((s[k]'hlt).toNat - 48)) := by show _ = _; rw [val_step HX.out, ← HV.out]
            have HT : Hid ((s.data.toList.take (k + 1)).all isD = true) := all_step HX.out HA.out hd
            simp only [isD, Bool.and_eq_true, decide_eq_true_eq] at hd
            obtain ⟨hd1, hd2⟩ := hd
            have q1 : ¬ ((s[k]'hlt).toNat : Int) < 48 := by omega
            have q2 : ¬ (57 : Int) < ((s[k]'hlt).toNat : Int) := by omega
            clear hv17
            go_wp2
            go_roundw
            case rel => exact ⟨k + 1, by omega, by go_num, by rw [HS.out]; go_num, HT.out, HB.out⟩
            case measure => simp [intOf] <;> omega
        · have hks : k = s.size := by omega
          subst hks
          have HN : Hid (numN false s.data.toList = some (v : Int)) := by
            have e : s.data.toList.take s.size = s.data.toList := List.take_of_length_le (by simp)
            have ha := HA.out
            have hv := HV.out
            rw [e] at ha hv
            rw [hv]
            exact numN_good false (by simpa using hzp) (by simpa using h17n) ha (fun x hx e => by simpa using HG.out x hx e)
          have hvs : v < 100000000000000000 := by
            have e : s.data.toList.take s.size = s.data.toList := List.take_of_length_le (by simp)
            rw [HV.out]
            exact Nat.lt_of_lt_of_le (val_lt _ HA.out) (pow_le17 (by rw [List.length_take]; omega))
          clear hv17
          go_wp2
          go_ret2
          exact ⟨by rw [HN.out]; rfl, HB.out⟩
  · have HG : Hid (∀ x, s.data.toList[0]? = some x → x = 48 → s.data.toList.length ≤ 1 ∧ false = false) := fun x hx e => by
      rw [HZ0.out] at hx; cases hx; exact absurd e hy
    have g1 : (((s[0]'hzp).toNat : Int) == 48) = false := by
      simp only [beq_eq_false_iff_ne, ne_eq]
      intro h
      exact hy (UInt8.toNat_inj.1 (by simp; omega))
    clear hy
    go_enter Tryd.func27, Tryd.ntmps27
    go_wp2
    go_loopw [5, 6] (fun q i wr => ∃ k : Nat, k ≤ s.size ∧ i = .int .i64 k ∧ q = .int .i64 (valD (s.data.toList.take k)) ∧ (s.data.toList.take k).all isD = true ∧ Below w.heap.size w wr) (fun _ i _ => s.size - (intOf i).toNat)
    case atStart => exact ⟨0, by omega, rfl, rfl, rfl, Below.refl _ _⟩
    case round =>
      obtain ⟨k, hk, rfl, rfl, ha, hb⟩ := hrel
      have HA : Hid ((s.data.toList.take k).all isD = true) := ha
      have HB : Hid (Below w.heap.size w wr) := hb
      obtain ⟨v, hv⟩ : ∃ v, v = valD (s.data.toList.take k) := ⟨_, rfl⟩
      have HV : Hid (v = valD (s.data.toList.take k)) := hv
      have hv17 : k ≤ 16 → v < 10000000000000000 := fun h => by rw [hv]; exact val_bd ha h
      rw [← hv]
      clear ha hb hv
      by_cases hlt : k < s.size
      · have hv2 := hv17 (by omega)
        have HX : Hid (s.data.toList[k]? = some (s[k]'hlt)) := byteAt hlt
        have hu : (s[k]'hlt).toNat < 256 := UInt8.toNat_lt _
        cases hd : isD (s[k]'hlt)
        · have HN : Hid (numN false s.data.toList = none) := numN_bad _ HX.out hd
          have hq : (s[k]'hlt).toNat < 48 ∨ 57 < (s[k]'hlt).toNat := by
            rcases Nat.lt_or_ge (s[k]'hlt).toNat 48 with h | h
            · exact .inl h
            · rcases Nat.lt_or_ge 57 (s[k]'hlt).toNat with h' | h'
              · exact .inr h'
              · simp [isD, h, h'] at hd
          clear hd hv17
          rcases hq with hq | hq
          · have q1 : ((s[k]'hlt).toNat : Int) < 48 := by omega
            go_wp2
            go_ret2
            exact ⟨by rw [HN.out]; rfl, HB.out⟩
          · have q1 : ¬ ((s[k]'hlt).toNat : Int) < 48 := by omega
            have q2 : (57 : Int) < ((s[k]'hlt).toNat : Int) := by omega
            go_wp2
            go_ret2
            exact ⟨by rw [HN.out]; rfl, HB.out⟩
        · have HS : Hid (valD (s.data.toList.take (k + 1)) = v * 10 + ((s[k]'hlt).toNat - 48)) := by show _ = _; rw [val_step HX.out, ← HV.out]
          have HT : Hid ((s.data.toList.take (k + 1)).all isD = true) := all_step HX.out HA.out hd
          simp only [isD, Bool.and_eq_true, decide_eq_true_eq] at hd
          obtain ⟨hd1, hd2⟩ := hd
          have q1 : ¬ ((s[k]'hlt).toNat : Int) < 48 := by omega
          have q2 : ¬ (57 : Int) < ((s[k]'hlt).toNat : Int) := by omega
          clear hv17
          go_wp2
          go_roundw
          case rel => exact ⟨k + 1, by omega, by go_num, by rw [HS.out]; go_num, HT.out, HB.out⟩
          case measure => simp [intOf] <;> omega
      · have hks : k = s.size := by omega
        subst hks
        have HN : Hid (numN false s.data.toList = some (v : Int)) := by
          have e : s.data.toList.take s.size = s.data.toList := List.take_of_length_le (by simp)
          have ha := HA.out
          have hv := HV.out
          rw [e] at ha hv
          rw [hv]
          exact numN_good false (by simpa using hzp) (by simpa using h17n) ha (fun x hx e => by simpa using HG.out x hx e)
        have hvs : v < 100000000000000000 := by
          have e : s.data.toList.take s.size = s.data.toList := List.take_of_length_le (by simp)
          rw [HV.out]
          exact Nat.lt_of_lt_of_le (val_lt _ HA.out) (pow_le17 (by rw [List.length_take]; omega))
        clear hv17
        go_wp2
        go_ret2
        exact ⟨by rw [HN.out]; rfl, HB.out⟩
set_option maxRecDepth 16000 in
set_option maxHeartbeats 4000000 in
theorem spec_l9Num_true (s : ByteArray) (r : ByteArray) (hs0 : 0 < s.size) (hneg : s[0]'hs0 = 45) (hr : s.extract 1 s.size = r) (w : World) (hs : s.size ≤ 1048576) :
    Calls Tryd.prog 27 #[.string s] w fun e w' => e = .returned (.tuple #[.int .i64 ((numN true r.data.toList).getD 0), .bool (numN true r.data.toList).isSome]) ∧ Below w.heap.size w w' := by
  have n0 : ((s[0]'hs0).toNat : Int) == 45 := by rw [hneg]; rfl
  have n1 : (((s[0]'hs0).toNat : Int) == 45) = true := n0
  have n3 : (0 : Int) < (s.size : Int) := by omega
  have n4 : ((decide ((0 : Int) < (s.size : Int)))) = true := by simpa using n3
  clear n0 hneg
  by_cases hz0 : r.size = 0
  · have HN : Hid (numN true r.data.toList = none) := numN_nil _ (by simpa using hz0)
    go_enter Tryd.func27, Tryd.ntmps27
    go_wp2
    go_ret2
    exact ⟨by rw [HN.out]; rfl, Below.refl _ _⟩
  have hzp : 0 < r.size := by omega
  have hzb : ((r.size : Int) == 0) = false := by simpa using hz0
  clear hz0
  by_cases h17 : 17 < r.size
  · have HN : Hid (numN true r.data.toList = none) := numN_long _ (by simpa using h17)
    have h17b : (17 : Int) < (r.size : Int) := by omega
    go_enter Tryd.func27, Tryd.ntmps27
    go_wp2
    go_ret2
    exact ⟨by rw [HN.out]; rfl, Below.refl _ _⟩
  have h17n : r.size ≤ 17 := by omega
  have h17b : ¬ (17 : Int) < (r.size : Int) := by omega
  clear h17
  have HZ0 : Hid (r.data.toList[0]? = some (r[0]'hzp)) := byteAt hzp
  by_cases hy : r[0]'hzp = 48
  · have g1 : (((r[0]'hzp).toNat : Int) == 48) = true := by rw [hy]; rfl
    by_cases h1 : 1 < r.size ∨ true = true
    · have HN : Hid (numN true r.data.toList = none) := numN_zero _ (by rw [HZ0.out, hy]) (by simp)
      skip
      clear hy h1
      go_enter Tryd.func27, Tryd.ntmps27
      go_wp2
      all_goals (
        go_ret2
        exact ⟨by rw [HN.out]; rfl, Below.refl _ _⟩)
    · exact absurd (.inr rfl) h1
  · have HG : Hid (∀ x, r.data.toList[0]? = some x → x = 48 → r.data.toList.length ≤ 1 ∧ true = false) := fun x hx e => by
      rw [HZ0.out] at hx; cases hx; exact absurd e hy
    have g1 : (((r[0]'hzp).toNat : Int) == 48) = false := by
      simp only [beq_eq_false_iff_ne, ne_eq]
      intro h
      exact hy (UInt8.toNat_inj.1 (by simp; omega))
    clear hy
    go_enter Tryd.func27, Tryd.ntmps27
    go_wp2
    go_loopw [5, 6] (fun q i wr => ∃ k : Nat, k ≤ r.size ∧ i = .int .i64 k ∧ q = .int .i64 (valD (r.data.toList.take k)) ∧ (r.data.toList.take k).all isD = true ∧ Below w.heap.size w wr) (fun _ i _ => r.size - (intOf i).toNat)
    case atStart => exact ⟨0, by omega, rfl, rfl, rfl, Below.refl _ _⟩
    case round =>
      obtain ⟨k, hk, rfl, rfl, ha, hb⟩ := hrel
      have HA : Hid ((r.data.toList.take k).all isD = true) := ha
      have HB : Hid (Below w.heap.size w wr) := hb
      obtain ⟨v, hv⟩ : ∃ v, v = valD (r.data.toList.take k) := ⟨_, rfl⟩
      have HV : Hid (v = valD (r.data.toList.take k)) := hv
      have hv17 : k ≤ 16 → v < 10000000000000000 := fun h => by rw [hv]; exact val_bd ha h
      rw [← hv]
      clear ha hb hv
      by_cases hlt : k < r.size
      · have hv2 := hv17 (by omega)
        have HX : Hid (r.data.toList[k]? = some (r[k]'hlt)) := byteAt hlt
        have hu : (r[k]'hlt).toNat < 256 := UInt8.toNat_lt _
        cases hd : isD (r[k]'hlt)
        · have HN : Hid (numN true r.data.toList = none) := numN_bad _ HX.out hd
          have hq : (r[k]'hlt).toNat < 48 ∨ 57 < (r[k]'hlt).toNat := by
            rcases Nat.lt_or_ge (r[k]'hlt).toNat 48 with h | h
            · exact .inl h
            · rcases Nat.lt_or_ge 57 (r[k]'hlt).toNat with h' | h'
              · exact .inr h'
              · simp [isD, h, h'] at hd
          clear hd hv17
          rcases hq with hq | hq
          · have q1 : ((r[k]'hlt).toNat : Int) < 48 := by omega
            go_wp2
            go_ret2
            exact ⟨by rw [HN.out]; rfl, HB.out⟩
          · have q1 : ¬ ((r[k]'hlt).toNat : Int) < 48 := by omega
            have q2 : (57 : Int) < ((r[k]'hlt).toNat : Int) := by omega
            go_wp2
            go_ret2
            exact ⟨by rw [HN.out]; rfl, HB.out⟩
        · have HS : Hid (valD (r.data.toList.take (k + 1)) = v * 10 + ((r[k]'hlt).toNat - 48)) := by show _ = _; rw [val_step HX.out, ← HV.out]
          have HT : Hid ((r.data.toList.take (k + 1)).all isD = true) := all_step HX.out HA.out hd
          simp only [isD, Bool.and_eq_true, decide_eq_true_eq] at hd
          obtain ⟨hd1, hd2⟩ := hd
          have q1 : ¬ ((r[k]'hlt).toNat : Int) < 48 := by omega
          have q2 : ¬ (57 : Int) < ((r[k]'hlt).toNat : Int) := by omega
          clear hv17
          go_wp2
          go_roundw
          case rel => exact ⟨k + 1, by omega, by go_num, by rw [HS.out]; go_num, HT.out, HB.out⟩
          case measure => simp [intOf] <;> omega
      · have hks : k = r.size := by omega
        subst hks
        have HN : Hid (numN true r.data.toList = some (-(v : Int))) := by
          have e : r.data.toList.take r.size = r.data.toList := List.take_of_length_le (by simp)
          have ha := HA.out
          have hv := HV.out
          rw [e] at ha hv
          rw [hv]
          exact numN_good true (by simpa using hzp) (by simpa using h17n) ha (fun x hx e => by simpa using HG.out x hx e)
        have hvs : v < 100000000000000000 := by
          have e : r.data.toList.take r.size = r.data.toList := List.take_of_length_le (by simp)
          rw [HV.out]
          exact Nat.lt_of_lt_of_le (val_lt _ HA.out) (pow_le17 (by rw [List.length_take]; omega))
        clear hv17
        go_wp2
        go_ret2
        exact ⟨by rw [HN.out]; rfl, HB.out⟩
theorem spec_l9Num (s : ByteArray) (w : World) (hs : s.size ≤ 1048576) :
    Calls Tryd.prog 27 #[.string s] w fun e w' => e = .returned (.tuple #[.int .i64 (numV s.data.toList), .bool (numB s.data.toList)]) ∧ Below w.heap.size w w' := by
  by_cases h : ∃ h : 0 < s.size, s[0]'h = 45
  · obtain ⟨h0, h1⟩ := h
    have hl : s.data.toList[0]? = some 45 := by rw [byteAt h0, h1]
    have hr : (s.extract 1 s.size).data.toList = s.data.toList.tail := by
      rw [ByteArray.data_extract, Array.toList_extract]; simp; exact List.take_of_length_le (by simp)
    have hn : numO s.data.toList = numN true (s.extract 1 s.size).data.toList := by
      rw [hr]
      cases hq : s.data.toList with
      | nil => rw [hq] at hl; cases hl
      | cons c r => rw [hq] at hl; simp at hl; subst hl; exact numO_neg r
    rw [(numV_of hn).1, (numV_of hn).2]
    exact spec_l9Num_true s _ h0 h1 rfl w hs
  · have hn : numO s.data.toList = numN false s.data.toList := numO_plain (fun e => h (by
      have h0 : 0 < s.size := by
        rcases Nat.eq_zero_or_pos s.size with h | h
        · rw [List.length_eq_zero_iff.1 (show s.data.toList.length = 0 by simpa using h)] at e; cases e
        · exact h
      refine ⟨h0, ?_⟩
      rw [List.head?_eq_getElem?, byteAt h0] at e
      exact Option.some.inj e))
    rw [(numV_of hn).1, (numV_of hn).2]
    exact spec_l9Num_false s (fun h0 h1 => h ⟨h0, h1⟩) w hs
theorem below_gk (w : World) (k : Nat) (os : Array Obj) : Below w.heap.size w (grow (w.drewN k) os) :=
  ⟨rfl, rfl, rfl, by show w.heap.size ≤ ((w.drewN k).heap ++ os).size; rw [Array.size_append, World.heap_drewN]; omega, fun j hj => by show ((w.drewN k).heap ++ os)[j]? = _; rw [World.heap_drewN, Array.getElem?_append_left hj]⟩
theorem trim_len (l : List UInt8) : (⟨(Lib.trimPrefix l [45]).toArray⟩ : ByteArray).size = (if l.head? = some 45 then l.tail else l).length := by
  show (Lib.trimPrefix l [45]).toArray.size = _
  rw [List.size_toArray]
  cases l with
  | nil => rfl
  | cons c r =>
    by_cases h : c = 45
    · subst h; simp [Lib.trimPrefix, Lib.hasPrefix]
    · have h' : ¬ (45 : UInt8) = c := fun e => h e.symm
      simp [Lib.trimPrefix, Lib.hasPrefix, h, h']
theorem atoi_bd {l : List UInt8} {n : Int} (h : Lib.atoiAll l = .ok n) : -9223372036854775808 ≤ n ∧ n ≤ 9223372036854775807 := by
  cases l with
  | nil => simp [Lib.atoiAll] at h
  | cons c r =>
    unfold Lib.atoiAll at h
    simp only at h
    generalize Lib.parseMag (if c.toNat = 43 ∨ c.toNat = 45 then r else c :: r) = q at h
    cases q with
    | «syntax» => cases h
    | range => cases h
    | ok u =>
      simp only at h
      split at h
      · cases h
      · split at h
        · cases h
        · injection h with h
          rename_i h1 h2
          split at h <;> omega
set_option maxRecDepth 16000 in
set_option maxHeartbeats 4000000 in
theorem impl_numRead (s : ByteArray) (w : World) (hs : s.size ≤ 1048576) (hsy : ∃ u v, w.cell? ⟨3, 0, none⟩ = some (.iface u v)) (hra : ∃ u v, w.cell? ⟨4, 0, none⟩ = some (.iface u v)) (htab : Lib.TabIs Tryd.prog w "internal/strconv.uint64pow10" .u64 Lib.pow10Tab) :
    Calls Tryd.prog 20 #[.string s] w fun e w' => e = .returned (.tuple #[.int .i64 (numV s.data.toList), .bool (numB s.data.toList)]) ∧ Below w.heap.size w w' := by
  cases ha : Lib.atoiAll s.data.toList with
  | «syntax» =>
    have HN : Hid (numO s.data.toList = none) := by
      show _ = _
      cases hq : numO s.data.toList with
      | none => rfl
      | some n => have := (numO_ok hq).1; rw [ha] at this; cases this
    obtain ⟨u, v, hsy⟩ := hsy
    have HC := fun ev hev hv => Tryd.strconv_Atoi_syntax s (by omega) ha ev w hev hv
    have HA := HC _ hsy (.inr ⟨u, v, rfl⟩)
    clear HC hsy hra htab ha
    go_enter Tryd.func20, Tryd.ntmps20
    go_wp2_with fail
    refine HA.mono ?_
    rintro e w1 ⟨N, rfl, -, -, hb⟩
    have HB : Hid (Below w.heap.size w w1) := hb
    clear hb HA
    go_wp2
    go_ret2
    exact ⟨by unfold numV numB; rw [HN.out]; rfl, HB.out⟩
  | range =>
    have HN : Hid (numO s.data.toList = none) := by
      show _ = _
      cases hq : numO s.data.toList with
      | none => rfl
      | some n => have := (numO_ok hq).1; rw [ha] at this; cases this
    obtain ⟨u, v, hra⟩ := hra
    have HC := fun ev hev hv => Tryd.strconv_Atoi_range s (by omega) ha ev w hev hv
    have HA := HC _ hra (.inr ⟨u, v, rfl⟩)
    clear HC hsy hra htab ha
    go_enter Tryd.func20, Tryd.ntmps20
    go_wp2_with fail
    refine HA.mono ?_
    rintro e w1 ⟨N, rfl, -, -, hb⟩
    have HB : Hid (Below w.heap.size w w1) := hb
    clear hb HA
    go_wp2
    go_ret2
    exact ⟨by unfold numV numB; rw [HN.out]; rfl, HB.out⟩
  | ok n =>
    go_enter Tryd.func20, Tryd.ntmps20
    go_wp2_with fail
    refine (Tryd.strconv_Atoi_ok s (by omega) n ha w).mono ?_
    rintro e w1 ⟨rfl, hw⟩
    have HB1 : Hid (Below w.heap.size w w1) := by
      rcases hw with rfl | ⟨t, rfl⟩
      · exact Below.refl _ _
      · exact Lib.bytesWorld_below _ _ _
    have HTAB : Hid (Lib.TabIs Tryd.prog w1 "internal/strconv.uint64pow10" .u64 Lib.pow10Tab) := by
      rcases hw with rfl | ⟨t, rfl⟩
      · exact htab
      · exact Lib.bytesWorld_var _ _ _ htab
    clear hw htab hsy hra
    obtain ⟨nb1, nb2⟩ := atoi_bd ha
    have hc : ¬ (9223372036854775807 : Int) < n := by omega
    go_wp2_with fail
    refine (Tryd.strconv_Itoa n nb1 nb2 w1 HTAB.out).mono ?_
    rintro e w2 ⟨rfl, k, os, rfl⟩
    have HB2 : Hid (Below w.heap.size w (grow (w1.drewN k) os)) := HB1.out.trans ((below_gk w1 k os).mono HB1.out.size)
    generalize grow (w1.drewN k) os = w2 at *
    have hq : ((⟨(Lib.itoa n).toArray⟩ : ByteArray).toList == s.toList) = decide (Lib.itoa n = s.data.toList) := by
      rw [ByteArray.toList_eq, ByteArray.toList_eq, Bool.eq_iff_iff]; simp
    by_cases heq : Lib.itoa n = s.data.toList
    · have HE : Hid (Lib.itoa n = s.data.toList) := heq
      have hq' : ((⟨(Lib.itoa n).toArray⟩ : ByteArray).toList == s.toList) = true := by rw [hq]; simpa using heq
      generalize (⟨(Lib.itoa n).toArray⟩ : ByteArray) = tk at *
      clear hq heq HTAB HB1 ha
      go_wp2_with fail
      have HTP := Tryd.strings_TrimPrefix s ⟨#[45]⟩ w2
      have e45 : (⟨#[45]⟩ : ByteArray).data.toList = [45] := rfl
      rw [e45] at HTP
      refine HTP.mono ?_
      rintro e w3 ⟨rfl, rfl⟩
      clear HTP
      have htl := trim_len s.data.toList
      obtain ⟨tt, htt⟩ : ∃ tt : ByteArray, tt = ⟨(Lib.trimPrefix s.data.toList [45]).toArray⟩ := ⟨_, rfl⟩
      rw [← htt] at htl
      by_cases h17 : 17 < tt.size
      · have HN : Hid (numO s.data.toList = none) := by
          show _ = _
          cases hn : numO s.data.toList with
          | none => rfl
          | some m =>
            exfalso
            revert hn
            rw [htl] at h17
            generalize s.data.toList = l at h17 ⊢
            cases l with
            | nil => simp [numO]
            | cons c r =>
              by_cases hc : c = 45
              · subst hc
                simp only [List.head?_cons, if_pos, List.tail_cons] at h17
                simp only [numO, if_pos]
                rw [if_neg (fun ⟨_, h, _⟩ => by omega)]
                exact fun h => by cases h
              · rw [if_neg (by simpa using hc)] at h17
                simp only [numO, if_neg hc]
                rw [if_neg (fun ⟨_, h⟩ => by omega)]
                exact fun h => by cases h
        have h17' : (17 : Int) < (tt.size : Int) := by omega
        have HT : Hid (tt = ⟨(Lib.trimPrefix s.data.toList [45]).toArray⟩) := htt
        clear htl htt h17
        rw [← HT.out]
        go_wp2
        go_ret2
        exact ⟨by unfold numV numB; rw [HN.out]; rfl, HB2.out⟩
      · have HN : Hid (numO s.data.toList = some n) := numO_of HE.out (by rw [← htl]; omega)
        have h17' : ¬ (17 : Int) < (tt.size : Int) := by omega
        have HT : Hid (tt = ⟨(Lib.trimPrefix s.data.toList [45]).toArray⟩) := htt
        clear htl htt h17
        rw [← HT.out]
        go_wp2
        go_ret2
        exact ⟨by unfold numV numB; rw [HN.out]; rfl, HB2.out⟩
    · have HN : Hid (numO s.data.toList = none) := by
        show _ = _
        cases hn : numO s.data.toList with
        | none => rfl
        | some m =>
          have := numO_ok hn
          rw [ha] at this
          injection this.1 with e
          exact absurd (e ▸ this.2) heq
      have hq' : ((⟨(Lib.itoa n).toArray⟩ : ByteArray).toList == s.toList) = false := by rw [hq]; simpa using heq
      generalize (⟨(Lib.itoa n).toArray⟩ : ByteArray) = tk at *
      clear hq heq HTAB HB1 ha
      go_wp2
      go_ret2
      exact ⟨by unfold numV numB; rw [HN.out]; rfl, HB2.out⟩
end Go.Proofs.YtbgcalhpopcakaaDoor.Lab
