/-
  Contracts of the label functions (impl and spec): what each answers, and that it leaves the world as it was.
-/
import Derived.Test.YtcifjildjiakgaaDoorRows
import Derived.Test.YtcifjildjiakgaaDoorPlain
import Derived.WalkKit
import Derived.WalkSpells
import Derived.WalkLawsBesides
namespace Go.Proofs.YtcifjildjiakgaaDoor.Lab
open Go.RowKit
set_option linter.unusedVariables false

theorem use {P : Program} {f : Nat} {args : Array Value} {w : World} {v : Value} {Q : Ending → World → Prop} (h : Calls P f args w fun e w' => e = .returned v ∧ w' = w) (hq : Q (.returned v) w) : Calls P f args w Q :=
  h.mono (fun e w' h => by obtain ⟨rfl, rfl⟩ := h; exact hq)

set_option maxHeartbeats 400000 in
theorem spec_LabelOk (a : Int) (w : World) :
    Calls Tryd.prog 26 #[.int .i64 a] w fun e w' => e = .returned (.bool (okB a)) ∧ w' = w := by
  by_cases h1 : 0 ≤ a
  · by_cases h2 : a ≤ 7
    · rw [okB_mk h1 h2]
      go_enter Tryd.func26, Tryd.ntmps26
      go_wp2
      go_ret
      exact ⟨rfl, rfl⟩
    · rw [okB_high (by omega)]
      go_enter Tryd.func26, Tryd.ntmps26
      go_wp2
      go_ret
      exact ⟨rfl, rfl⟩
  · rw [okB_low (by omega)]
    go_enter Tryd.func26, Tryd.ntmps26
    go_wp2
    go_ret
    exact ⟨rfl, rfl⟩
set_option maxHeartbeats 400000 in
theorem lettersOf_yes (a : Int) (w : World) (h : okB a = true) :
    Calls Tryd.prog 32 #[.int .i64 a] w fun e w' => e = .returned (.tuple #[.int .u8 a, .bool true]) ∧ w' = w := by
  obtain ⟨h1, h2⟩ := okB_true h
  clear h
  have h3 : ¬ a < 0 := by omega
  have h4 : ¬ 7 < a := by omega
  go_enter Tryd.func32, Tryd.ntmps32
  go_wp2
  go_ret2
  refine ⟨?_, rfl⟩
  have : a % 256 = a := by omega
  simp [*]
set_option maxHeartbeats 400000 in
theorem lettersOf_no (a : Int) (w : World) (h : okB a = false) :
    Calls Tryd.prog 32 #[.int .i64 a] w fun e w' => e = .returned (.tuple #[.int .u8 0, .bool false]) ∧ w' = w := by
  rcases okB_false h with h1 | h1
  · clear h
    go_enter Tryd.func32, Tryd.ntmps32
    go_wp2
    go_ret2
    exact ⟨rfl, rfl⟩
  · clear h
    have h2 : ¬ a < 0 := by omega
    go_enter Tryd.func32, Tryd.ntmps32
    go_wp2
    go_ret2
    exact ⟨rfl, rfl⟩
set_option maxHeartbeats 400000 in
theorem impl_LabelOk (a : Int) (w : World) :
    Calls Tryd.prog 28 #[.int .i64 a] w fun e w' => e = .returned (.bool (okB a)) ∧ w' = w := by
  cases ho : okB a
  · go_enter Tryd.func28, Tryd.ntmps28
    go_wp2_with (go_at_call 32; refine (lettersOf_no _ _ ho).mono ?_; rintro e w' ⟨rfl, rfl⟩)
    go_ret
    exact ⟨rfl, rfl⟩
  · go_enter Tryd.func28, Tryd.ntmps28
    go_wp2_with (go_at_call 32; refine (lettersOf_yes _ _ ho).mono ?_; rintro e w' ⟨rfl, rfl⟩)
    go_ret
    exact ⟨rfl, rfl⟩
theorem pl_andNot : ∀ k l : Fin 8, (bits BinOp.andNot IntKind.u8 (k.val : Int) (l.val : Int) == 0) = unB k.val l.val := by decide +kernel
theorem pl_or : ∀ k l : Fin 8, bits BinOp.or IntKind.u8 (k.val : Int) (l.val : Int) = mixI k.val l.val false := by decide +kernel
theorem pl_and : ∀ k l : Fin 8, bits BinOp.and IntKind.u8 (k.val : Int) (l.val : Int) = mixI k.val l.val true := by decide +kernel
theorem pl_mix : ∀ k l : Fin 8, ∀ both : Bool, 0 ≤ mixI k.val l.val both ∧ mixI k.val l.val both ≤ 7 := by decide +kernel
theorem mix_bd {a b : Int} (ha : okB a = true) (hb : okB b = true) (both : Bool) : 0 ≤ mixI a b both ∧ mixI a b both ≤ 7 := by
  obtain ⟨k, rfl⟩ := fin8 ha
  obtain ⟨l, rfl⟩ := fin8 hb
  exact pl_mix k l both
end Go.Proofs.YtcifjildjiakgaaDoor.Lab
