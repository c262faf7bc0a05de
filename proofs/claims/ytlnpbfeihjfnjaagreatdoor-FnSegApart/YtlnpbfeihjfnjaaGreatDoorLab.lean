/-
  Contracts of the label functions (impl and spec): what each answers, and that it leaves the world as it was.
-/
import Derived.Test.YtlnpbfeihjfnjaaGreatDoorRows
import Derived.Test.YtlnpbfeihjfnjaaGreatDoorPlain
import Derived.WalkKit
import Derived.WalkSpells
import Derived.WalkLawsBesides
namespace Go.Proofs.YtlnpbfeihjfnjaaGreatDoor.Lab
open Go.RowKit
set_option linter.unusedVariables false

theorem use {P : Program} {f : Nat} {args : Array Value} {w : World} {v : Value} {Q : Ending → World → Prop} (h : Calls P f args w fun e w' => e = .returned v ∧ w' = w) (hq : Q (.returned v) w) : Calls P f args w Q :=
  h.mono (fun e w' h => by obtain ⟨rfl, rfl⟩ := h; exact hq)

set_option maxHeartbeats 400000 in
theorem spec_LabelOk (a : Int) (w : World) :
    Calls Tryz.prog 61 #[.int .i64 a] w fun e w' => e = .returned (.bool (okB a)) ∧ w' = w := by
  by_cases h1 : 0 ≤ a
  · by_cases h2 : a ≤ 7
    · rw [okB_mk h1 h2]
      go_enter Tryz.func61, Tryz.ntmps61
      go_wp2
      go_ret
      exact ⟨rfl, rfl⟩
    · rw [okB_high (by omega)]
      go_enter Tryz.func61, Tryz.ntmps61
      go_wp2
      go_ret
      exact ⟨rfl, rfl⟩
  · rw [okB_low (by omega)]
    go_enter Tryz.func61, Tryz.ntmps61
    go_wp2
    go_ret
    exact ⟨rfl, rfl⟩
set_option maxHeartbeats 400000 in
theorem lettersOf_yes (a : Int) (w : World) (h : okB a = true) :
    Calls Tryz.prog 66 #[.int .i64 a] w fun e w' => e = .returned (.tuple #[.int .u8 a, .bool true]) ∧ w' = w := by
  obtain ⟨h1, h2⟩ := okB_true h
  clear h
  have h3 : ¬ a < 0 := by omega
  have h4 : ¬ 7 < a := by omega
  go_enter Tryz.func66, Tryz.ntmps66
  go_wp2
  go_ret2
  refine ⟨?_, rfl⟩
  have : a % 256 = a := by omega
  simp [*]
set_option maxHeartbeats 400000 in
theorem lettersOf_no (a : Int) (w : World) (h : okB a = false) :
    Calls Tryz.prog 66 #[.int .i64 a] w fun e w' => e = .returned (.tuple #[.int .u8 0, .bool false]) ∧ w' = w := by
  rcases okB_false h with h1 | h1
  · clear h
    go_enter Tryz.func66, Tryz.ntmps66
    go_wp2
    go_ret2
    exact ⟨rfl, rfl⟩
  · clear h
    have h2 : ¬ a < 0 := by omega
    go_enter Tryz.func66, Tryz.ntmps66
    go_wp2
    go_ret2
    exact ⟨rfl, rfl⟩
set_option maxHeartbeats 400000 in
theorem l1Two (n : Int) (w : World) (h1 : 0 ≤ n) (h2 : n < 3) :
    Calls Tryz.prog 137 #[.int .i64 n] w fun e w' => e = .returned (.int .i64 (2 ^ n.toNat)) ∧ w' = w := by
  rcases three h1 h2 with rfl | rfl | rfl
  all_goals
    go_enter Tryz.func137, Tryz.ntmps137
    go_wp2
    refine wp_loop_rounds 4 ?_
    repeat (rw [rounds_succ]; go_wp2)
    go_ret
    exact ⟨rfl, rfl⟩
set_option maxHeartbeats 400000 in
theorem l1Has (a i : Int) (w : World) (h : okB a = true) (h1 : 0 ≤ i) (h2 : i < 3) :
    Calls Tryz.prog 118 #[.int .i64 a, .int .i64 i] w fun e w' => e = .returned (.bool (hasB a i)) ∧ w' = w := by
  obtain ⟨g1, g2⟩ := okB_true h
  clear h
  unfold hasB
  rcases three h1 h2 with rfl | rfl | rfl
  all_goals
    go_enter Tryz.func118, Tryz.ntmps118
    go_wp2_with (go_at_call 137; refine (l1Two _ _ (by omega) (by omega)).mono ?_; rintro e w' ⟨rfl, rfl⟩)
    go_ret
    first | exact ⟨rfl, rfl⟩ | exact ⟨by simp, rfl⟩
set_option maxHeartbeats 400000 in
theorem impl_LabelOk (a : Int) (w : World) :
    Calls Tryz.prog 25 #[.int .i64 a] w fun e w' => e = .returned (.bool (okB a)) ∧ w' = w := by
  cases ho : okB a
  · go_enter Tryz.func25, Tryz.ntmps25
    go_wp2_with (go_at_call 66; refine (lettersOf_no _ _ ho).mono ?_; rintro e w' ⟨rfl, rfl⟩)
    go_ret
    exact ⟨rfl, rfl⟩
  · go_enter Tryz.func25, Tryz.ntmps25
    go_wp2_with (go_at_call 66; refine (lettersOf_yes _ _ ho).mono ?_; rintro e w' ⟨rfl, rfl⟩)
    go_ret
    exact ⟨rfl, rfl⟩
set_option maxHeartbeats 1000000 in
theorem l1Under (a b : Int) (w : World) (ha : okB a = true) (hb : okB b = true) :
    Calls Tryz.prog 79 #[.int .i64 a, .int .i64 b] w fun e w' => e = .returned (.bool (unB a b)) ∧ w' = w := by
  go_enter Tryz.func79, Tryz.ntmps79
  go_wp2
  go_loop [5] (fun i => ∃ k : Nat, k ≤ 3 ∧ i = .int .i64 k ∧ ∀ j : Nat, j < k → (!hasB a j || hasB b j) = true) (fun i => 3 - (intOf i).toNat)
  case atStart => exact ⟨0, by omega, rfl, fun j hj => by omega⟩
  case round =>
    obtain ⟨k, hk, rfl, hq⟩ := hrel
    have HQ : Hid (∀ j : Nat, j < k → (!hasB a j || hasB b j) = true) := hq
    clear hq
    by_cases hlt : k < 3
    · cases hx : hasB a k
      · go_wp2_with (go_at_call 118; refine (l1Has _ _ _ (by assumption) (by omega) (by omega)).mono ?_; rintro e w' ⟨rfl, rfl⟩)
        go_round
        case rel => exact ⟨k + 1, by omega, by go_num, fun j hj => by
          rcases Nat.lt_succ_iff_lt_or_eq.1 hj with h | h
          · exact HQ.out j h
          · subst h; simp [hx]⟩
        case measure => simp [intOf]; omega
      · cases hy : hasB b k
        · have hz : Hid (unB a b = false) := by
            have : k = 0 ∨ k = 1 ∨ k = 2 := by omega
            show unB a b = false
            rcases this with rfl | rfl | rfl <;> simp at hx hy <;> simp [unB, hx, hy]
          go_wp2_with (go_at_call 118; refine (l1Has _ _ _ (by assumption) (by omega) (by omega)).mono ?_; rintro e w' ⟨rfl, rfl⟩)
          go_ret
          exact ⟨by rw [hz.out]; rfl, rfl⟩
        · go_wp2_with (go_at_call 118; refine (l1Has _ _ _ (by assumption) (by omega) (by omega)).mono ?_; rintro e w' ⟨rfl, rfl⟩)
          go_round
          case rel => exact ⟨k + 1, by omega, by go_num, fun j hj => by
            rcases Nat.lt_succ_iff_lt_or_eq.1 hj with h | h
            · exact HQ.out j h
            · subst h; simp [hy]⟩
          case measure => simp [intOf]; omega
    · have hz : Hid (unB a b = true) := by
        have q0 := HQ.out 0 (by omega)
        have q1 := HQ.out 1 (by omega)
        have q2 := HQ.out 2 (by omega)
        simp at q0 q1 q2
        show unB a b = true
        simp [unB, q0, q1, q2]
      go_wp2
      go_ret
      exact ⟨by rw [hz.out]; rfl, rfl⟩
theorem pl_andNot : ∀ k l : Fin 8, (bits BinOp.andNot IntKind.u8 (k.val : Int) (l.val : Int) == 0) = unB k.val l.val := by decide +kernel
theorem pl_or : ∀ k l : Fin 8, bits BinOp.or IntKind.u8 (k.val : Int) (l.val : Int) = mixI k.val l.val false := by decide +kernel
theorem pl_and : ∀ k l : Fin 8, bits BinOp.and IntKind.u8 (k.val : Int) (l.val : Int) = mixI k.val l.val true := by decide +kernel
theorem pl_mix : ∀ k l : Fin 8, ∀ both : Bool, 0 ≤ mixI k.val l.val both ∧ mixI k.val l.val both ≤ 7 := by decide +kernel
theorem mix_bd {a b : Int} (ha : okB a = true) (hb : okB b = true) (both : Bool) : 0 ≤ mixI a b both ∧ mixI a b both ≤ 7 := by
  obtain ⟨k, rfl⟩ := fin8 ha
  obtain ⟨l, rfl⟩ := fin8 hb
  exact pl_mix k l both
set_option maxHeartbeats 400000 in
theorem letters_under (a b : Int) (w : World) (ha : okB a = true) (hb : okB b = true) :
    Calls Tryz.prog 75 #[.int .u8 a, .int .u8 b] w fun e w' => e = .returned (.bool (unB a b)) ∧ w' = w := by
  have hz : Hid ((bits BinOp.andNot IntKind.u8 a b == 0) = unB a b) := by
    obtain ⟨k, rfl⟩ := fin8 ha
    obtain ⟨l, rfl⟩ := fin8 hb
    exact pl_andNot k l
  clear ha hb
  go_enter Tryz.func75, Tryz.ntmps75
  go_wp2
  go_ret
  exact ⟨by rw [← hz.out]; rfl, rfl⟩
set_option maxHeartbeats 400000 in
theorem bothLetters_yes (a b : Int) (w : World) (ha : okB a = true) (hb : okB b = true) :
    Calls Tryz.prog 74 #[.int .i64 a, .int .i64 b] w fun e w' => e = .returned (.tuple #[.int .u8 a, .int .u8 b, .bool true]) ∧ w' = w := by
  go_enter Tryz.func74, Tryz.ntmps74
  go_wp2_with (go_at_call 66; refine (lettersOf_yes _ _ (by assumption)).mono ?_; rintro e w' ⟨rfl, rfl⟩)
  go_ret3
  exact ⟨rfl, rfl⟩
set_option maxHeartbeats 400000 in
theorem bothLetters_no (a b : Int) (w : World) (h : (okB a && okB b) = false) :
    Calls Tryz.prog 74 #[.int .i64 a, .int .i64 b] w fun e w' => ∃ x y : Int, e = .returned (.tuple #[.int .u8 x, .int .u8 y, .bool false]) ∧ w' = w := by
  cases ha : okB a
  · cases hb : okB b
    · clear h
      go_enter Tryz.func74, Tryz.ntmps74
      go_wp2_with (go_at_call 66; refine (lettersOf_no _ _ (by assumption)).mono ?_; rintro e w' ⟨rfl, rfl⟩)
      go_ret3
      exact ⟨_, _, rfl, rfl⟩
    · clear h
      go_enter Tryz.func74, Tryz.ntmps74
      go_wp2_with fail
      refine (lettersOf_no _ _ ha).mono ?_
      rintro e w' ⟨rfl, rfl⟩
      go_wp2_with fail
      refine (lettersOf_yes _ _ hb).mono ?_
      rintro e w' ⟨rfl, rfl⟩
      go_wp2_with fail
      go_ret3
      exact ⟨_, _, rfl, rfl⟩
  · have hb : okB b = false := by simpa [ha] using h
    clear h
    go_enter Tryz.func74, Tryz.ntmps74
    go_wp2_with fail
    refine (lettersOf_yes _ _ ha).mono ?_
    rintro e w' ⟨rfl, rfl⟩
    go_wp2_with fail
    refine (lettersOf_no _ _ hb).mono ?_
    rintro e w' ⟨rfl, rfl⟩
    go_wp2_with fail
    go_ret3
    exact ⟨_, _, rfl, rfl⟩
set_option maxHeartbeats 400000 in
theorem impl_LabelUnder (a b : Int) (w : World) :
    Calls Tryz.prog 31 #[.int .i64 a, .int .i64 b] w fun e w' => e = .returned (.bool (underB a b)) ∧ w' = w := by
  cases h : (okB a && okB b)
  · have hr : underB a b = false := by simp [underB, h]
    rw [hr]
    clear hr
    go_enter Tryz.func31, Tryz.ntmps31
    go_wp2_with fail
    refine (bothLetters_no _ _ _ h).mono ?_
    rintro e w' ⟨x, y, rfl, rfl⟩
    go_wp2_with fail
    go_ret
    exact ⟨rfl, rfl⟩
  · have hr : underB a b = unB a b := by simp [underB, h]
    rw [hr]
    clear hr
    simp only [Bool.and_eq_true] at h
    obtain ⟨ha, hb⟩ := h
    go_enter Tryz.func31, Tryz.ntmps31
    go_wp2_with fail
    refine (bothLetters_yes _ _ _ ha hb).mono ?_
    rintro e w' ⟨rfl, rfl⟩
    go_wp2_with fail
    refine (letters_under _ _ _ ha hb).mono ?_
    rintro e w' ⟨rfl, rfl⟩
    go_wp2_with fail
    go_ret
    exact ⟨rfl, rfl⟩
set_option maxHeartbeats 400000 in
theorem spec_LabelUnder (a b : Int) (w : World) :
    Calls Tryz.prog 65 #[.int .i64 a, .int .i64 b] w fun e w' => e = .returned (.bool (underB a b)) ∧ w' = w := by
  cases ha : okB a
  · have hr : underB a b = false := by simp [underB, ha]
    rw [hr]
    clear hr
    go_enter Tryz.func65, Tryz.ntmps65
    go_wp2_with (go_at_call 61; refine (spec_LabelOk _ _).mono ?_; rintro e w' ⟨rfl, rfl⟩)
    go_ret
    exact ⟨rfl, rfl⟩
  · cases hb : okB b
    · have hr : underB a b = false := by simp [underB, hb]
      rw [hr]
      clear hr
      go_enter Tryz.func65, Tryz.ntmps65
      go_wp2_with (go_at_call 61; refine (spec_LabelOk _ _).mono ?_; rintro e w' ⟨rfl, rfl⟩)
      go_ret
      exact ⟨rfl, rfl⟩
    · have hr : underB a b = unB a b := by simp [underB, ha, hb]
      rw [hr]
      clear hr
      go_enter Tryz.func65, Tryz.ntmps65
      go_wp2_with (first | (go_at_call 61; refine (spec_LabelOk _ _).mono ?_; rintro e w' ⟨rfl, rfl⟩) | (go_at_call 79; refine (l1Under _ _ _ ha hb).mono ?_; rintro e w' ⟨rfl, rfl⟩))
      go_ret
      exact ⟨rfl, rfl⟩
end Go.Proofs.YtlnpbfeihjfnjaaGreatDoor.Lab
