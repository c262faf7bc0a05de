/-
  What the law of new worlds leans on: a new world as rows that are read; rows that others leave alone.
-/
import Derived.Test.YtnhacflknkgfgaaWmk
namespace Go.Proofs.Ytnhacflknkgfgaa.Lab
open Go.RowKit
set_option linter.unusedVariables false
theorem NewW.keep {w w' : World} {base : Nat} {u1 u4 u5 : Value} {xs : List (Int × Int × Int)} (h : NewW w base u1 u4 u5 xs) (hb : Below w.heap.size w w') : NewW w' base u1 u4 u5 xs := ⟨own_keep h.o1 hb, own_keep h.o4 hb, own_keep h.o5 hb, h.a14, h.a15, h.a45⟩
def zsOf (xs : List (Int × Int × Int)) : List (Int × (Value × List (Int × Int))) := xs.map (fun x => (x.2.1, (.slice none 0 0, [])))
def qsOf (xs : List (Int × Int × Int)) : List Int := xs.map (fun x => x.2.2)
theorem encZ_pool (xs : List (Int × Int × Int)) : xs.flatMap encZ = (zsOf xs).flatMap encPool := by
  induction xs with
  | nil => rfl
  | cons x xs ih => rw [List.flatMap_cons, ih]; rfl
theorem NewW.at {w : World} {base : Nat} {u1 u4 u5 : Value} {xs : List (Int × Int × Int)} (h : NewW w base u1 u4 u5 xs) : AtWorld w u1 (.slice Option.none 0 0) (.slice Option.none 0 0) u4 u5 xs [] [] (zsOf xs) (qsOf xs) := by
  have lz : (zsOf xs).length = xs.length := by simp [zsOf]
  have lq : (qsOf xs).length = xs.length := by simp [qsOf]
  refine ⟨row_of_own encPerson_len (by decide) h.o1, .inl ⟨rfl, _, _, rfl⟩, .inl ⟨rfl, _, _, rfl⟩, ⟨row_of_own encPool_len (by decide) (by rw [lz, ← encZ_pool]; exact h.o4), fun x hx => ?_⟩, row_of_own encI_len (by decide) (by rw [lq]; have := h.o5; rw [encQ_I] at this; exact this)⟩
  simp only [zsOf, List.mem_map] at hx
  obtain ⟨y, _, rfl⟩ := hx
  exact .inl ⟨rfl, _, _, rfl⟩
theorem few_new {xs : List (Int × Int × Int)} (h : xs.length ≤ 1048576) : FewWorld xs [] [] (zsOf xs) (qsOf xs) := by
  refine ⟨h, by simp, by simp, ⟨by simpa [zsOf] using h, fun x hx => ?_⟩, by simpa [qsOf] using h⟩
  simp only [zsOf, List.mem_map] at hx
  obtain ⟨y, _, rfl⟩ := hx
  simp
theorem newL_len (xs : List (Int × Int × Int)) : (newL xs).length ≤ 4 := by
  unfold newL
  split
  · rename_i h; unfold peopleB at h; simp at h; exact h.1
  · simp
/-- Rows of a new world lie in no block but these. -/
theorem NewW.blocks {w : World} {base : Nat} {u1 u4 u5 : Value} {xs : List (Int × Int × Int)} (h : NewW w base u1 u4 u5 xs) {g : Nat} (hg : GW u1 u4 u5 g) : base ≤ g ∧ g < w.heap.size := by
  rcases hg with e | e | e
  · exact h.o1.lt g e
  · exact h.o4.lt g e
  · exact h.o5.lt g e
theorem NewW.but {p : Nat → Prop} {w w' : World} {base : Nat} {u1 u4 u5 : Value} {xs : List (Int × Int × Int)} (h : NewW w base u1 u4 u5 xs) (hb : But p w w') (hne : ∀ g, GW u1 u4 u5 g → ¬ p g) : NewW w' base u1 u4 u5 xs :=
  ⟨hb.own h.o1 (fun k hk => hne k (.inl hk)), hb.own h.o4 (fun k hk => hne k (.inr (.inl hk))), hb.own h.o5 (fun k hk => hne k (.inr (.inr hk))), h.a14, h.a15, h.a45⟩
theorem But.gr {w w' : World} {r : Option Nat} (h : w.grownBy w' r) : But (fun g => r = some g) w w' := ⟨h.os, h.tape, h.output, h.size, fun k hk hp => h.block k hk (fun e => hp e.symm)⟩
theorem But.cell {p : Nat → Prop} {w w' : World} (h : But p w w') {b o : Nat} {v : Value} (hc : w.cell? ⟨b, o, none⟩ = some v) (hlt : b < w.heap.size) (hp : ¬ p b) : w'.cell? ⟨b, o, none⟩ = some v := (World.cell?_of_block (w := w) (h.blk b hlt hp)).trans hc
/-- A row of people that the call owns. -/
def OwnP (w : World) (base : Nat) (v : Value) (n : Nat) (xs : List (Int × Int × Int)) : Prop := w.ownsRow base 25 3 v n (xs.flatMap encPerson)
theorem OwnP.keep {w w' : World} {base : Nat} {v : Value} {n : Nat} {xs : List (Int × Int × Int)} (h : OwnP w base v n xs) (hb : Below w.heap.size w w') : OwnP w' base v n xs := own_keep h hb
end Go.Proofs.Ytnhacflknkgfgaa.Lab
