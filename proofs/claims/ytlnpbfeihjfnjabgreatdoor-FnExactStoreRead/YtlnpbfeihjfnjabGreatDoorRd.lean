/-
  Readers of lists of numbers in the laws: eqIntS, markIntS, heldIntS; wpInts.
-/
import Derived.Test.YtlnpbfeihjfnjabGreatDoorPlain
import Derived.Test.YtlnpbfeihjfnjabGreatDoorRows
import Derived.WalkKit
import Derived.WalkSpells
import Derived.WalkLawsBesides
import Derived.Deep.QuietTactic
import Derived.BigQuiet
namespace Go.Proofs.YtlnpbfeihjfnjabGreatDoor.Lab
open Go.RowKit
set_option linter.unusedVariables false

/-- A slice value reads as a list of numbers. -/
def Reads (w : World) (v : Value) (l : List Int) : Prop :=
  (l = [] ∧ ∃ a cap, v = .slice a 0 cap) ∨
  (0 < l.length ∧ ∃ b off cap, v = .slice (some ⟨b, off, none⟩) l.length cap ∧ ∀ j, j < l.length → w.cell? ⟨b, off + j, none⟩ = some (.int .i64 (l.getD j 0)))
theorem Reads.drewN {w : World} {v : Value} {l : List Int} (h : Reads w v l) (n : Nat) : Reads (w.drewN n) v l := by
  rcases h with h | ⟨h0, b, off, cap, hv, hc⟩
  · exact .inl h
  · exact .inr ⟨h0, b, off, cap, hv, fun j hj => by rw [World.cell?_drewN]; exact hc j hj⟩
theorem reads_own {w : World} {base e : Nat} {v : Value} {l : List Int} (h : w.ownsRow base e 1 v l.length (l.map (Value.int .i64))) : Reads w v l := by
  have hk := h
  obtain ⟨_, h | ⟨g, cap, cur, hv, hb, hg, hn, hm, hs, ht⟩⟩ := h
  · exact .inl ⟨List.length_eq_zero_iff.1 h.2, _, _, h.1⟩
  · by_cases h0 : l.length = 0
    · exact .inl ⟨List.length_eq_zero_iff.1 h0, _, _, by rw [hv, h0]⟩
    · refine .inr ⟨by omega, g, 0, cap, hv, fun j hj => ?_⟩
      rw [hv] at hk
      have := hk.cellAt j (by omega)
      rw [Nat.zero_add, this]
      simp [hj]
theorem own_heap {w w' : World} {base e size : Nat} {v : Value} {n : Nat} {xs : List Value} (h : w.ownsRow base e size v n xs) (hk : ∀ k, v.ownBlock = some k → w'.heap[k]? = w.heap[k]?) : w'.ownsRow base e size v n xs := by
  obtain ⟨h1, h | ⟨g, cap, cur, rfl, hb, hg, hr⟩⟩ := h
  · exact ⟨h1, .inl h⟩
  · exact ⟨h1, .inr ⟨g, cap, cur, rfl, hb, by rw [hk g rfl]; exact hg, hr⟩⟩
theorem own_below {w w' : World} {base e size : Nat} {v : Value} {n : Nat} {xs : List Value} (h : w.ownsRow base e size v n xs) (hb : Below w.heap.size w w') : w'.ownsRow base e size v n xs :=
  own_heap h (fun k hk => hb.block k (h.lt k hk).2)
theorem own_drewN {w : World} {base e size : Nat} {v : Value} {n : Nat} {xs : List Value} (h : w.ownsRow base e size v n xs) (m : Nat) : (w.drewN m).ownsRow base e size v n xs :=
  own_heap h (fun k _ => by rw [World.heap_drewN])
theorem list_eq_of {l m : List Int} (h : l.length = m.length) (hj : ∀ j, j < l.length → l.getD j 0 = m.getD j 0) : l = m := by
  apply List.ext_getElem h
  intro j h1 h2
  have := hj j h1
  simpa [List.getD, h1, h2] using this

def ints (l : List Int) : List Value := l.map (Value.int .i64)
theorem ints_length (l : List Int) : (ints l).length = l.length := by simp [ints]
/-- A row that the call owns, and one number more. -/
theorem row_push {B e : Nat} {w wr w1 : World} {v v' : Value} {l : List Int} {x : Int}
    (hB : B ≤ wr.heap.size) (hown : wr.ownsRow B e 1 v l.length (ints l)) (hnx : Below B w wr) (o : Obj)
    (hown' : w1.ownsRow B e 1 v' (l.length + 1) (ints l ++ [.int .i64 x])) (hgrow : (wr.alloc o).grownBy w1 v.ownBlock) :
    w1.ownsRow B e 1 v' (l ++ [x]).length (ints (l ++ [x])) ∧ Below B w w1 := by
  constructor
  · simpa [ints] using hown'
  · exact (hnx.alloc hB o).grown hgrow (by simp; omega) (fun g hg => (hown.lt g hg).1)
/-- The numbers k, k + 1, .. -/
def upFrom (k : Int) : Nat → List Int
  | 0 => []
  | n + 1 => upFrom k n ++ [k + n]
theorem upFrom_length (k : Int) (n : Nat) : (upFrom k n).length = n := by
  induction n with
  | zero => rfl
  | succ n ih => simp [upFrom, ih]
theorem upFrom_getD (k : Int) (n j : Nat) (h : j < n) : (upFrom k n).getD j 0 = k + j := by
  induction n with
  | zero => omega
  | succ n ih =>
    simp only [upFrom, List.getD_eq_getElem?_getD, List.getElem?_append, upFrom_length]
    by_cases hj : j < n
    · rw [if_pos hj]
      have := ih hj
      rw [List.getD_eq_getElem?_getD] at this
      exact this
    · have : j = n := by omega
      subst this
      simp
theorem reads_up {w : World} {base e n : Nat} {v : Value} {k0 : Int} (h : w.ownsRow base e 1 v n ((upFrom k0 n).map (Value.int .i64))) : Reads w v (upFrom k0 n) :=
  reads_own (by rw [upFrom_length]; exact h)
end Go.Proofs.YtlnpbfeihjfnjabGreatDoor.Lab
