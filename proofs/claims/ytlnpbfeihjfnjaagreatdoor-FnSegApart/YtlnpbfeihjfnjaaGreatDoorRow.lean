/-
  Rows of structs: what a slice reads as; rows that a call owns. No function of the program in sight.
-/
import Derived.Test.YtlnpbfeihjfnjaaGreatDoorRows
import Derived.Test.YtlnpbfeihjfnjaaGreatDoorPlain
import Derived.WalkKit
import Derived.WalkSpells
import Derived.WalkLawsBesides
import Derived.Below
import Derived.Laws.MakeOwn
namespace Go.Proofs.YtlnpbfeihjfnjaaGreatDoor.Lab
open Go.RowKit
set_option linter.unusedVariables false

/-- A slice reads as a list: each element lies in s cells, as 'enc' lays it. -/
def RowAt {α : Type} (s : Nat) (enc : α → List Value) (w : World) (v : Value) (xs : List α) : Prop :=
  (xs = [] ∧ ∃ a cap, v = .slice a 0 cap) ∨
  (0 < xs.length ∧ ∃ b off cap, v = .slice (some ⟨b, off, none⟩) xs.length cap ∧ b < w.heap.size ∧ ∀ j x, xs[j]? = some x → ∀ i u, (enc x)[i]? = some u → w.cell? ⟨b, off + j * s + i, none⟩ = some u)
theorem RowAt.keep {α : Type} {s : Nat} {enc : α → List Value} {w w' : World} {v : Value} {xs : List α} (h : RowAt s enc w v xs) (hb : Below w.heap.size w w') : RowAt s enc w' v xs := by
  rcases h with h | ⟨h0, b, off, cap, hv, hlt, hc⟩
  · exact .inl h
  · exact .inr ⟨h0, b, off, cap, hv, Nat.lt_of_lt_of_le hlt hb.size, fun j x hx i u hu => by rw [hb.cell (p := ⟨b, off + j * s + i, none⟩) hlt]; exact hc j x hx i u hu⟩
theorem RowAt.len {α : Type} {s : Nat} {enc : α → List Value} {w : World} {v : Value} {xs : List α} (h : RowAt s enc w v xs) : ∃ a cap, v = .slice a xs.length cap := by
  rcases h with ⟨rfl, a, cap, rfl⟩ | ⟨h0, b, off, cap, hv, _⟩
  · exact ⟨a, cap, rfl⟩
  · exact ⟨_, _, hv⟩
theorem flat_len {α : Type} {s : Nat} {enc : α → List Value} (he : ∀ x, (enc x).length = s) (xs : List α) : (xs.flatMap enc).length = xs.length * s := by
  induction xs with
  | nil => simp
  | cons x xs ih => simp [List.flatMap_cons, he, ih, Nat.add_mul, Nat.add_comm]
theorem flat_get {α : Type} {s : Nat} {enc : α → List Value} (he : ∀ x, (enc x).length = s) : ∀ (xs : List α) (j i : Nat) (x : α), xs[j]? = some x → i < s → (xs.flatMap enc)[j * s + i]? = (enc x)[i]? := by
  intro xs
  induction xs with
  | nil => intro j i x h; simp at h
  | cons y ys ih =>
    intro j i x h hi
    rw [List.flatMap_cons]
    cases j with
    | zero =>
      simp at h; subst h
      rw [List.getElem?_append_left (by rw [he]; omega)]
      simp
    | succ j =>
      simp at h
      rw [List.getElem?_append_right (by rw [he, Nat.succ_mul]; omega), he]
      have : (j + 1) * s + i - s = j * s + i := by rw [Nat.succ_mul]; omega
      rw [this]
      exact ih j i x h hi
/-- A row that the call owns reads as its list. -/
theorem row_of_own {α : Type} {s : Nat} {enc : α → List Value} (he : ∀ x, (enc x).length = s) (hs : 0 < s) {w : World} {base e : Nat} {v : Value} {xs : List α}
    (h : w.ownsRow base e s v xs.length (xs.flatMap enc)) : RowAt s enc w v xs := by
  obtain ⟨_, h | ⟨g, cap, cur, hv, hb, hg, hn, hm, hsz, ht⟩⟩ := h
  · exact .inl ⟨List.length_eq_zero_iff.1 h.2, _, _, h.1⟩
  · by_cases h0 : xs.length = 0
    · exact .inl ⟨List.length_eq_zero_iff.1 h0, _, _, by rw [hv, h0]⟩
    · refine .inr ⟨by omega, g, 0, cap, hv, lt_of_block hg, fun j x hx i u hu => ?_⟩
      have hi : i < s := by
        have := List.getElem?_eq_some_iff.1 hu
        obtain ⟨h1, _⟩ := this
        rw [he] at h1; exact h1
      have hget := flat_get he xs j i x hx hi
      rw [← ht, hu, List.getElem?_take] at hget
      split at hget
      · simp only [World.cell?, hg]
        simpa using hget
      · cases hget
theorem own_keep {w w' : World} {base e size : Nat} {v : Value} {n : Nat} {xs : List Value} (h : w.ownsRow base e size v n xs) (hb : Below w.heap.size w w') : w'.ownsRow base e size v n xs := by
  have hl := h.lt
  obtain ⟨h1, h | ⟨g, cap, cur, rfl, hbb, hg, hr⟩⟩ := h
  · exact ⟨h1, .inl h⟩
  · exact ⟨h1, .inr ⟨g, cap, cur, rfl, hbb, by rw [hb.block g (lt_of_block hg)]; exact hg, hr⟩⟩
theorem own_mono {w : World} {base base' e size : Nat} {v : Value} {n : Nat} {xs : List Value} (h : w.ownsRow base e size v n xs) (hb : base' ≤ base) : w.ownsRow base' e size v n xs := by
  obtain ⟨h1, h | ⟨g, cap, cur, rfl, hbb, hr⟩⟩ := h
  · exact ⟨h1, .inl h⟩
  · exact ⟨h1, .inr ⟨g, cap, cur, rfl, by omega, hr⟩⟩
theorem own_set {w : World} {base e size : Nat} {v : Value} {n : Nat} {xs : List Value} (h : w.ownsRow base e size v n xs) {p : Addr} (hp : v.ownBlock ≠ some p.block) (u : Value) : (w.setCell p u).ownsRow base e size v n xs := by
  obtain ⟨h1, h | ⟨g, cap, cur, rfl, hbb, hg, hr⟩⟩ := h
  · exact ⟨h1, .inl h⟩
  · exact ⟨h1, .inr ⟨g, cap, cur, rfl, hbb, by rw [Below.heap_setCell _ _ _ _ (fun h => hp (by simp [Value.ownBlock, h]))]; exact hg, hr⟩⟩
theorem own_form {w : World} {base e size : Nat} {v : Value} {n : Nat} {xs : List Value} (h : w.ownsRow base e size v n xs) : ∃ a c, v = .slice a n c := by
  obtain ⟨h1, h | ⟨g, cap, cur, rfl, hbb, hg, hr⟩⟩ := h
  · exact ⟨none, 0, by rw [h.1, h.2]⟩
  · exact ⟨_, _, rfl⟩
theorem own_gr {w w' : World} {base e size n : Nat} {v : Value} {xs : List Value} {r : Option Nat} (h : w.ownsRow base e size v n xs) (hg : w.grownBy w' r) (hne : ∀ k, v.ownBlock = some k → r = some k → False) : w'.ownsRow base e size v n xs := by
  obtain ⟨h1, h | ⟨g, cap, cur, rfl, hbb, hb, hr⟩⟩ := h
  · exact ⟨h1, .inl h⟩
  · exact ⟨h1, .inr ⟨g, cap, cur, rfl, hbb, by rw [hg.block g (lt_of_block hb) (fun e => hne g (by simp [Value.ownBlock]) e.symm)]; exact hb, hr⟩⟩
/-- One cell of a block that is known whole, written. -/
theorem set_block {w : World} {g e i : Nat} {cur : Array Value} {fz : Nat × Nat} (u : Value) (h : w.heap[g]? = some (.cells cur e fz)) : (w.setCell ⟨g, i, none⟩ u).heap[g]? = some (.cells (cur.setIfInBounds i u) e fz) := by
  have hlt := lt_of_block h
  have h' : w.heap[g] = .cells cur e fz := by simpa [Array.getElem?_eq_getElem hlt] using h
  show (w.heap.modify g _)[g]? = _
  rw [Array.getElem?_eq_getElem (by simpa using hlt), Array.getElem_modify_self, h']
  rfl
theorem cell_block {w : World} {g e i : Nat} {cur : Array Value} {fz : Nat × Nat} (h : w.heap[g]? = some (.cells cur e fz)) : w.cell? ⟨g, i, none⟩ = cur[i]? := by simp [World.cell?, h]
theorem free_block {w : World} {g e i : Nat} {cur : Array Value} (h : w.heap[g]? = some (.cells cur e (0, 0))) : w.frozen? ⟨g, i, none⟩ = false := by simp [World.frozen?, h]
/-- Two are one: a word that the walk does not open. -/
def eqB {α : Type} [DecidableEq α] (a b : α) : Bool := decide (a = b)
theorem eqB_true {α : Type} [DecidableEq α] {a b : α} : eqB a b = true ↔ a = b := by simp [eqB]
theorem eqB_false {α : Type} [DecidableEq α] {a b : α} : eqB a b = false ↔ ¬ a = b := by simp [eqB]
theorem new_block (w : World) (o : Obj) : (w.alloc o).heap[w.heap.size]? = some o := by
  show (w.heap.push o)[w.heap.size]? = _
  simp
end Go.Proofs.YtlnpbfeihjfnjaaGreatDoor.Lab
