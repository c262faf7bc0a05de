/-
  Contracts of the functions on one node and one edge (impl and spec): what each answers; of what was there nothing is turned.
-/
import Derived.Test.YtcifjildjiakgaaDoorLabb
import Derived.Below
import Derived.Deep.QuietTactic
import Derived.BigQuiet
import Derived.Deep.RegionWith
import Derived.Handy
namespace Go.Proofs.YtcifjildjiakgaaDoor.Lab
open Go.RowKit
set_option linter.unusedVariables false
/-- A world in which all that was there in another one is as it was. -/
def After (w0 : World) : Type := { w' : World // Below w0.heap.size w0 w' }
def After.w {w0 : World} (p : After w0) : World := p.val
theorem After.bel {w0 : World} (p : After w0) : Below w0.heap.size w0 p.w := p.property
def After.mk {w0 : World} (w' : World) (h : Below w0.heap.size w0 w') : After w0 := ⟨w', h⟩
theorem After.ne (w0 : World) : Nonempty (After w0) := ⟨After.mk w0 (Below.refl _ _)⟩
theorem After.cell (w0 : World) (p : After w0) (b o : Nat) (s : Option Nat) (h : b < w0.heap.size) : p.w.cell? ⟨b, o, s⟩ = w0.cell? ⟨b, o, s⟩ := p.bel.cell (p := ⟨b, o, s⟩) h
theorem wp_region_after {P : Program} {id : Nat} {Q : Exit → Act → World → Prop} {a : Act} {w : World} {l : List Oper} (hm : P.follows .mixedOrders = true) (hB : Region.lexB .any l.toArray = true)
    (h : Nonempty (After w) → (∀ (p : After w) (b o : Nat) (s : Option Nat), b < w.heap.size → p.w.cell? ⟨b, o, s⟩ = w.cell? ⟨b, o, s⟩) → wpQuiet P l.toArray (fun w' => ∃ p : After w, w' = p.w) (fun a' => ∀ w', (∃ p : After w, w' = p.w) → Q .normal a' w') l a) : (Code.region id l.toArray true).wp P Q a w :=
  wp_region_quiet (C := fun w' => ∃ p : After w, w' = p.w) hm hB ⟨After.mk _ (Below.refl _ _).drew, rfl⟩ (by simpa using h (After.ne w) (After.cell w))
theorem after_of {P : Program} {f : FuncId} {args : Array Value} {w : World} {p : After w} {v : Value}
    (h : Calls P f args p.w fun e w' => e = .returned v ∧ Below p.w.heap.size p.w w') : Calls P f args p.w fun e w'' => e = .returned v ∧ ∃ q : After w, w'' = q.w :=
  h.mono fun _ w' ⟨he, hb⟩ => ⟨he, After.mk w' (p.bel.trans (hb.mono p.bel.size)), rfl⟩
theorem after_at {P : Program} {f : FuncId} {args : Array Value} {w : World} {p : After w} {x y : Bool} (hv : x = y)
    (h : Calls P f args p.w fun e w' => e = .returned (.bool x) ∧ Below p.w.heap.size p.w w') : Calls P f args p.w fun e w'' => e = .returned (.bool y) ∧ ∃ q : After w, w'' = q.w := by
  subst hv; exact after_of h
theorem after_same_at {P : Program} {f : FuncId} {args : Array Value} {w : World} {p : After w} {x y : Bool} (hv : x = y)
    (h : Calls P f args p.w fun e w' => e = .returned (.bool x) ∧ w' = p.w) : Calls P f args p.w fun e w'' => e = .returned (.bool y) ∧ ∃ q : After w, w'' = q.w := by
  subst hv; exact h.mono fun _ _ ⟨he, hb⟩ => ⟨he, p, hb⟩
theorem after_same {P : Program} {f : FuncId} {args : Array Value} {w : World} {p : After w} {v : Value}
    (h : Calls P f args p.w fun e w' => e = .returned v ∧ w' = p.w) : Calls P f args p.w fun e w'' => e = .returned v ∧ ∃ q : After w, w'' = q.w :=
  h.mono fun _ _ ⟨he, hb⟩ => ⟨he, p, hb⟩
set_option linter.unusedVariables false

/-- A node is right. -/
def nodeB (l n : Int) : Bool := okB l && decide (0 ≤ n) && decide (n ≤ 40)
/-- A node's number among all. -/
def codeI (l n : Int) : Int := if nodeB l n then 64 * l + n else -1
theorem nodeB_true {l n : Int} (h : nodeB l n = true) : okB l = true ∧ 0 ≤ n ∧ n ≤ 40 := by
  simp only [nodeB, Bool.and_eq_true, decide_eq_true_eq] at h; exact ⟨h.1.1, h.1.2, h.2⟩
theorem codeI_bd (l n : Int) : -1 ≤ codeI l n ∧ codeI l n ≤ 488 := by
  unfold codeI
  cases h : nodeB l n
  · simp
  · obtain ⟨h1, h2, h3⟩ := nodeB_true h
    have := okB_true h1
    simp; omega
/-- Behind a call that turns nothing that was there, old cells read as they did. -/
theorem Below.cells {w w' : World} (h : Below w.heap.size w w') : ∀ b o s, b < w.heap.size → w'.cell? ⟨b, o, s⟩ = w.cell? ⟨b, o, s⟩ := fun b o s hp => h.cell (p := ⟨b, o, s⟩) hp

theorem Below.froz {B : Nat} {w w' : World} (h : Below B w w') : ∀ b o s, b < B → w'.frozen? ⟨b, o, s⟩ = w.frozen? ⟨b, o, s⟩ := fun b o s hp => h.frozen (p := ⟨b, o, s⟩) hp
theorem Below.celz {B : Nat} {w w' : World} (h : Below B w w') : ∀ b o s, b < B → w'.cell? ⟨b, o, s⟩ = w.cell? ⟨b, o, s⟩ := fun b o s hp => h.cell (p := ⟨b, o, s⟩) hp
/-- An edge is right. -/
def edgeB (l al an bl bn : Int) : Bool := nodeB al an && nodeB bl bn && decide (codeI al an < codeI bl bn) && underB al l && underB bl l
theorem keep_cell {w w1 : World} (bel : Below w.heap.size w w1) {B o : Nat} {v : Value} (hB : B < w.heap.size) (h : w.cell? ⟨B, o, none⟩ = some v) : w1.cell? ⟨B, o, none⟩ = some v := by
  rw [bel.cell (p := ⟨B, o, none⟩) hB]; exact h
theorem keep_size {w w1 : World} (bel : Below w.heap.size w w1) {B : Nat} (hB : B < w.heap.size) : B < w1.heap.size := Nat.lt_of_lt_of_le hB bel.size
theorem keep_below {w w' w1 : World} (h : Below w.heap.size w w') (bel : Below w'.heap.size w' w1) : Below w.heap.size w w1 := h.trans (bel.mono h.size)
end Go.Proofs.YtcifjildjiakgaaDoor.Lab
