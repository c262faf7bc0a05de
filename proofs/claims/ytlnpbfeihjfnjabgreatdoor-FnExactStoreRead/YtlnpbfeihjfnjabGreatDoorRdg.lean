/-
  A slice's reading, as a list.
-/
import Derived.Test.YtlnpbfeihjfnjabGreatDoorOpen
import Derived.Test.YtlnpbfeihjfnjabGreatDoorRow
import Derived.Deep.Slices
namespace Go.Proofs.YtlnpbfeihjfnjabGreatDoor.Lab
open Go.RowKit Go.ChangeShapes Go.WideShapes
set_option linter.unusedVariables false
theorem cellLt {w : World} {p : Addr} {v : Value} (h : w.cell? p = some v) : p.block < w.heap.size := by
  rcases Nat.lt_or_ge p.block w.heap.size with h' | h'
  · exact h'
  · simp [World.cell?, Array.getElem?_eq_none h'] at h
theorem addr_at (b off k : Nat) : (⟨b, off, none⟩ : Addr).add k = ⟨b, off + k, none⟩ := by
  unfold Addr.add
  split <;> simp_all
/-- A slice's reading, as a list. -/
theorem row_of_reading {α : Type} {s : Nat} {e2 : α → List Value} {good : α → Prop} {H : Type} {enc : TypeId × Value → H} {P : Program} {W : World} {sp : Nat → Bool} {held : Bool} {t e : TypeId} {fuel : Nat} {cs : List Value} {x : DataW H × List MemPlace} (hs : 0 < s)
    (ht : P.underlying t = some (.slice e)) (ce : P.cellsOf e = s) (hone : ∀ n cs' y, cs'.length = s → DataW.trod enc P W 0 sp held n e cs' = some y → ∃ z : α, cs' = e2 z ∧ good z)
    (h : DataW.trod enc P W 0 sp held fuel t cs = some x) : ∃ v ys, cs = [v] ∧ RowAt s e2 W v ys ∧ (∀ y ∈ ys, good y) ∧ ys.length ≤ maxLen := by
  rcases Go.Deep.open_slice ht h with ⟨h0, _⟩ | ⟨a, len, cap, m, n, D, Pl, rfl, hb, hl, hm, hmm, rfl, hx⟩
  · exact ⟨_, [], h0, .inl ⟨rfl, _, _, rfl⟩, by simp, by simp [maxLen]⟩
  · have hlm : len ≤ m := by rw [hmm]; split <;> omega
    have each : ∀ i : Fin len, ∃ z : α, good z ∧ ∀ k u, (e2 z)[k]? = some u → W.cell? (a.add (i.val * s + k)) = some u := by
      intro i
      obtain ⟨cs', h1, h2⟩ := hx i.val (by have := i.isLt; omega)
      rw [ce] at h1
      obtain ⟨_, hlen, hcell⟩ := World.cells?_some h1
      obtain ⟨z, rfl, hg⟩ := hone n cs' _ hlen h2
      refine ⟨z, hg, fun k u hu => ?_⟩
      have hk : k < s := by
        obtain ⟨h3, _⟩ := List.getElem?_eq_some_iff.1 hu
        omega
      have := hcell k hk
      rw [hu] at this
      rw [Go.Deep.add_add] at this; exact this
    obtain ⟨f, hf⟩ := Classical.axiomOfChoice each
    refine ⟨_, List.ofFn f, rfl, ?_, fun y hy => ?_, by simp; omega⟩
    · by_cases h0 : len = 0
      · subst h0; exact .inl ⟨by simp, _, _, rfl⟩
      · obtain ⟨b, off, spot⟩ := a
        obtain ⟨cs', h1, h2⟩ := hx 0 (by omega)
        rw [ce] at h1
        obtain ⟨_, hlen, hcell⟩ := World.cells?_some h1
        have hc0 := hcell 0 hs
        have hlt0 : 0 < cs'.length := by omega
        rw [List.getElem?_eq_getElem hlt0] at hc0
        have hspot : spot = none := by simpa [Addr.add] using World.cell?_spot hc0
        subst hspot
        have hbl : b < W.heap.size := by simpa [Addr.add] using cellLt hc0
        refine .inr ⟨by simp; omega, b, off, cap, by simp, hbl, fun j y hy i u hu => ?_⟩
        rw [List.getElem?_ofFn] at hy
        split at hy
        · cases hy
          have := (hf ⟨j, by assumption⟩).2 i u hu
          rw [addr_at] at this
          rw [Nat.add_assoc]; exact this
        · cases hy
    · rw [List.mem_ofFn] at hy
      obtain ⟨i, rfl⟩ := hy
      exact (hf i).1
end Go.Proofs.YtlnpbfeihjfnjabGreatDoor.Lab
