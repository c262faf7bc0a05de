/-
  Contracts of the label functions, second part: join, meet, many.
-/
import Derived.Test.YtlnpbfeihjfnjaaGreatDoorLab
namespace Go.Proofs.YtlnpbfeihjfnjaaGreatDoor.Lab
open Go.RowKit
set_option linter.unusedVariables false

theorem mix_step (o : Int) (x y both : Bool) : (if x && y || !both && (x || y) then o * 2 + 1 else o * 2) = o * 2 + bitI x y both := by
  unfold bitI; split <;> omega
theorem bit_bd (x y both : Bool) : 0 ≤ bitI x y both ∧ bitI x y both ≤ 1 := by
  unfold bitI; split <;> omega
/-- What 'out' is behind k rounds. -/
def mixTo (a b : Int) (both : Bool) : Nat → Int
  | 0 => 0
  | k + 1 => mixTo a b both k * 2 + bitI (hasB a (2 - k)) (hasB b (2 - k)) both
theorem mixTo_bd (a b : Int) (both : Bool) : ∀ k : Nat, k ≤ 3 → 0 ≤ mixTo a b both k ∧ mixTo a b both k < 2 ^ k := by
  intro k
  induction k with
  | zero => intro _; simp [mixTo]
  | succ k ih =>
    intro h
    have := ih (by omega)
    have hb := bit_bd (hasB a (2 - k)) (hasB b (2 - k)) both
    simp only [mixTo, Int.pow_succ]
    omega
theorem mixTo_three (a b : Int) (both : Bool) : mixTo a b both 3 = mixI a b both := by
  simp [mixTo, mixI]
set_option maxHeartbeats 1000000 in
theorem l1Mix (a b : Int) (both : Bool) (w : World) (ha : okB a = true) (hb : okB b = true) :
    Calls Tryz.prog 129 #[.int .i64 a, .int .i64 b, .bool both] w fun e w' => e = .returned (.int .i64 (mixI a b both)) ∧ w' = w := by
  go_enter Tryz.func129, Tryz.ntmps129
  go_wp2
  go_loop [7, 8] (fun o i => ∃ k : Nat, k ≤ 3 ∧ i = .int .i64 (2 - (k : Int)) ∧ o = .int .i64 (mixTo a b both k)) (fun _ i => (intOf i + 1).toNat)
  case atStart => exact ⟨0, by omega, rfl, rfl⟩
  case round =>
    obtain ⟨k, hk, rfl, rfl⟩ := hrel
    obtain ⟨b1, b2⟩ := mixTo_bd a b both k hk
    have b3 : mixTo a b both k < 8 := by
      have : k = 0 ∨ k = 1 ∨ k = 2 ∨ k = 3 := by omega
      rcases this with rfl | rfl | rfl | rfl <;> simp at b2 <;> omega
    clear b2
    by_cases hlt : k < 3
    · have hs : Hid (mixTo a b both (k + 1) = mixTo a b both k * 2 + bitI (hasB a (2 - k)) (hasB b (2 - k)) both) := rfl
      generalize mixTo a b both k = o at *
      have H0 : (0 : Int) ≤ 2 - k := by omega
      cases hx : hasB a (2 - k) <;> cases hy : hasB b (2 - k) <;> cases both
      all_goals
        go_wp2_with (go_at_call 118; refine (l1Has _ _ _ (by assumption) (by omega) (by omega)).mono ?_; rintro e w' ⟨rfl, rfl⟩)
        go_round
        case rel => exact ⟨k + 1, by omega, by go_num, by rw [hs.out, hx, hy]; simp [bitI]⟩
        case measure => simp [intOf]; omega
    · have hz : Hid (mixTo a b both k = mixI a b both) := by
        have : k = 3 := by omega
        subst this
        exact mixTo_three a b both
      go_wp2
      go_ret
      exact ⟨by rw [← hz.out]; rfl, rfl⟩
end Go.Proofs.YtlnpbfeihjfnjaaGreatDoor.Lab
