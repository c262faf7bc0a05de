/-
  What is drawn of nodes and edges: bounded; a code is only read.
-/
import Derived.Test.YtcifjildjiakgaaDoorNod
import Derived.Test.YtcifjildjiakgaaDoorDraw
namespace Go.Proofs.YtcifjildjiakgaaDoor.Lab
open Go.RowKit
set_option linter.unusedVariables false

theorem RdAt.set {w : World} {B len cap : Nat} {a : Option Addr} {zs : List Int} {pos : Int} (h : RdAt w B a len cap zs pos) {p : Addr} (hp : B < p.block) (u : Value) : RdAt (w.setCell p u) B a len cap zs pos :=
  h.below (n := B + 1) ((Below.refl _ _).setCell (by omega) u) (by omega)
theorem RdAt.alloc {w : World} {B len cap : Nat} {a : Option Addr} {zs : List Int} {pos : Int} (h : RdAt w B a len cap zs pos) (o : Obj) : RdAt (w.alloc o) B a len cap zs pos :=
  h.below ((Below.refl _ _).alloc (Nat.le_refl _) o) h.lt
theorem grownBy_setNew {w w' : World} {r : Option Nat} (h : w.grownBy w' r) {p : Addr} (hp : w.heap.size ≤ p.block) (u : Value) : w.grownBy (w'.setCell p u) r :=
  ⟨h.os, h.tape, h.output, by simp [World.setCell]; exact h.size, fun k hk hne => by rw [Below.heap_setCell _ _ _ _ (by omega)]; exact h.block k hk hne⟩
theorem grownBy_below {w w1 w2 : World} {r : Option Nat} (h : w.grownBy w1 r) (k : Below w1.heap.size w1 w2) : w.grownBy w2 r :=
  ⟨k.os.trans h.os, k.tape.trans h.tape, k.output.trans h.output, Nat.le_trans h.size k.size, fun j hj hne => (k.block j (Nat.lt_of_lt_of_le hj h.size)).trans (h.block j hj hne)⟩
theorem grownBy_cells {w w' : World} {B base : Nat} (h : w.grownBy w' (some B)) (hB : B < base) : ∀ b o s, base ≤ b → b < w.heap.size → w'.cell? ⟨b, o, s⟩ = w.cell? ⟨b, o, s⟩ := fun b o s h1 h2 =>
  World.cell?_of_block (a := ⟨b, o, s⟩) (h.block b h2 (by simp; omega))
theorem grownBy_froz {w w' : World} {B base : Nat} (h : w.grownBy w' (some B)) (hB : B < base) : ∀ b o s, base ≤ b → b < w.heap.size → w'.frozen? ⟨b, o, s⟩ = w.frozen? ⟨b, o, s⟩ := fun b o s h1 h2 =>
  World.frozen?_of_block (a := ⟨b, o, s⟩) (h.block b h2 (by simp; omega))
/-- One of a list that is written where it is asked. -/
theorem num_lit (B L len cap : Nat) (a : Option Addr) (zs : List Int) (pos : Int) (xs : List Int) (w : World) (h : RdAt w B a len cap zs pos) (hp : pos ≤ 1000000000) (h1 : 1 ≤ xs.length) (h2 : xs.length ≤ 1000) (hL : w.heap.size = L) :
    Calls Tryd.prog 21 #[.pointer (some ⟨B, 0, none⟩), .slice (some ⟨L, 0, none⟩) xs.length xs.length] (w.alloc (.cells (xs.map (Value.int .i64)).toArray 3)) fun e w' => ∃ v, v ∈ xs ∧ e = .returned (.int .i64 v) ∧ RdAt w' B a len cap zs (pos + 1) ∧ w.grownBy w' (some B) := by
  subst hL
  refine (num B w.heap.size len cap a zs pos xs _ (h.alloc _) hp h1 h2 h.lt (by simp) (fun j hj => ?_)).mono ?_
  · rw [World.cell?_alloc_at _ _ _ _ rfl]
    simp [hj, List.getD_eq_getElem?_getD]
  · rintro e w' ⟨j, hj, rfl, hr, hg⟩
    refine ⟨xs.getD j 0, ?_, rfl, hr, grownBy_trans (World.grownBy_alloc _ _ _) hg⟩
    rw [List.getD_eq_getElem?_getD, List.getElem?_eq_getElem hj]
    exact List.getElem_mem hj
end Go.Proofs.YtcifjildjiakgaaDoor.Lab
