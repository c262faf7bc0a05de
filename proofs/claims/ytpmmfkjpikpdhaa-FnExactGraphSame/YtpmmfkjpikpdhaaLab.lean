/-
  Contracts of the label functions (impl and spec): what each answers, and that it leaves the world as it was.
-/
import Derived.Test.YtpmmfkjpikpdhaaRows
import Derived.Test.YtpmmfkjpikpdhaaPlain
import Derived.WalkKit
import Derived.WalkSpells
import Derived.WalkLawsBesides
namespace Go.Proofs.Ytpmmfkjpikpdhaa.Lab
open Go.RowKit
set_option linter.unusedVariables false

theorem use {P : Program} {f : Nat} {args : Array Value} {w : World} {v : Value} {Q : Ending → World → Prop} (h : Calls P f args w fun e w' => e = .returned v ∧ w' = w) (hq : Q (.returned v) w) : Calls P f args w Q :=
  h.mono (fun e w' h => by obtain ⟨rfl, rfl⟩ := h; exact hq)

theorem pl_andNot : ∀ k l : Fin 8, (bits BinOp.andNot IntKind.u8 (k.val : Int) (l.val : Int) == 0) = unB k.val l.val := by decide +kernel
theorem pl_or : ∀ k l : Fin 8, bits BinOp.or IntKind.u8 (k.val : Int) (l.val : Int) = mixI k.val l.val false := by decide +kernel
theorem pl_and : ∀ k l : Fin 8, bits BinOp.and IntKind.u8 (k.val : Int) (l.val : Int) = mixI k.val l.val true := by decide +kernel
theorem pl_mix : ∀ k l : Fin 8, ∀ both : Bool, 0 ≤ mixI k.val l.val both ∧ mixI k.val l.val both ≤ 7 := by decide +kernel
theorem mix_bd {a b : Int} (ha : okB a = true) (hb : okB b = true) (both : Bool) : 0 ≤ mixI a b both ∧ mixI a b both ≤ 7 := by
  obtain ⟨k, rfl⟩ := fin8 ha
  obtain ⟨l, rfl⟩ := fin8 hb
  exact pl_mix k l both
end Go.Proofs.Ytpmmfkjpikpdhaa.Lab
