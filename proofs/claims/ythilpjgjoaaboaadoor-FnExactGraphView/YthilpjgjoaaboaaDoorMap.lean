/-
  Maps keyed by numbers, as the model keeps them: entries in the order in which they came; a look-up, and a new key's entry.
-/
import Derived.Test.YthilpjgjoaaboaaDoorRows
import Derived.Test.YthilpjgjoaaboaaDoorPlain
import Derived.WalkKit
import Derived.Below
import Derived.Maps.Own
namespace Go.Proofs.YthilpjgjoaaboaaDoor.Lab
open Go.RowKit Go.ChangeMaps
set_option linter.unusedVariables false

/-- Block b is a map that holds these, in this order. -/
def MapAt (w : World) (b : Nat) (es : List (Int × Value)) : Prop :=
  ∃ ents clock, w.heap[b]? = some (.map ents clock) ∧ ents.toList.map (fun e => (e.key, e.val)) = es.map (fun p => (Value.int .i64 p.1, p.2))
/-- What a key holds. -/
def lkp : List (Int × Value) → Int → Option Value
  | [], _ => none
  | p :: ps, k => if k = p.1 then some p.2 else lkp ps k
theorem MapAt.keep {w w' : World} {b : Nat} {es : List (Int × Value)} (h : MapAt w b es) (hb : Below w.heap.size w w') : MapAt w' b es := by
  obtain ⟨ents, clock, h1, h2⟩ := h
  exact ⟨ents, clock, by rw [hb.block b (lt_of_block h1)]; exact h1, h2⟩
theorem MapAt.lt {w : World} {b : Nat} {es : List (Int × Value)} (h : MapAt w b es) : b < w.heap.size := by
  obtain ⟨ents, clock, h1, h2⟩ := h
  exact lt_of_block h1
theorem findNow_int (key : Int) : ∀ (ents : List MapEntry) (es : List (Int × Value)) (i : Nat), ents.map (fun e => (e.key, e.val)) = es.map (fun p => (Value.int .i64 p.1, p.2)) →
    ∃ r, Instr.findNow (.int .i64) (.int .i64 key) ents i = some r ∧ ((lkp es key = none ∧ r = none) ∨ ∃ j v, lkp es key = some v ∧ r = some (j, v))
  | [], [], i, _ => ⟨none, rfl, .inl ⟨rfl, rfl⟩⟩
  | [], _ :: _, i, h => by simp at h
  | _ :: _, [], i, h => by simp at h
  | e :: ents, p :: es, i, h => by
    simp only [List.map_cons, List.cons.injEq, Prod.mk.injEq] at h
    obtain ⟨⟨h1, h2⟩, h3⟩ := h
    by_cases hk : key = p.1
    · refine ⟨some (i, e.val), ?_, .inr ⟨i, p.2, by simp [lkp, hk], by rw [h2]⟩⟩
      simp [Instr.findNow, Instr.sameNow, h1, hk]
    · obtain ⟨r, hr, hc⟩ := findNow_int key ents es (i + 1) h3
      refine ⟨r, ?_, ?_⟩
      · have : (key == p.1) = false := beq_eq_false_iff_ne.2 hk
        simp [Instr.findNow, Instr.sameNow, h1, this, hr]
      · simpa [lkp, hk] using hc
section
variable {P : Program} {w : World} {b : Nat} {es : List (Int × Value)} {t k e : TypeId}
theorem run_findKey (hk : P.underlying k = some (.int .i64)) {ents : List MapEntry} (h : ents.map (fun e => (e.key, e.val)) = es.map (fun p => (Value.int .i64 p.1, p.2))) (key : Int) :
    ∃ r, (Instr.findKey k (.int .i64 key) ents).run P w = .ok r w ∧ ((lkp es key = none ∧ r = none) ∨ ∃ j v, lkp es key = some v ∧ r = some (j, v)) := by
  obtain ⟨r, h1, h2⟩ := findNow_int key ents es 0 h
  exact ⟨r, by simp [Instr.findKey, run_underlying hk, h1], h2⟩
theorem run_checkKey (hk : P.underlying k = some (.int .i64)) (em : Bool) (key : Int) : (Instr.checkKey em 10000 k (.int .i64 key)).run P w = .ok () w := by
  show (Instr.checkKey em (9999 + 1) k (.int .i64 key)).run P w = _
  rw [Instr.checkKey]
  simp [run_underlying hk]
theorem MapAt.look (h : MapAt w b es) (ht : P.underlying t = some (.map k e)) (hk : P.underlying k = some (.int .i64)) {z : Value} (hz : (zeroValue e).run P w = .ok z w) (key : Int) :
    (Instr.lookup t (.map (some b)) (.int .i64 key) true).run P w = .ok (.tuple #[(lkp es key).getD z, .bool (lkp es key).isSome]) w := by
  obtain ⟨ents, clock, h1, h2⟩ := h
  obtain ⟨r, h3, ⟨h4, rfl⟩ | ⟨j, v, h4, rfl⟩⟩ := run_findKey (w := w) hk h2 key
  · simp [Instr.lookup, run_underlying ht, MapKept.run_getObj_map h1, run_checkKey hk, h3, hz, h4, Result.andThen]
  · simp [Instr.lookup, run_underlying ht, MapKept.run_getObj_map h1, run_checkKey hk, h3, h4, Result.andThen]
theorem MapAt.push (h : MapAt w b es) (ht : P.underlying t = some (.map k e)) (hk : P.underlying k = some (.int .i64)) {key : Int} (hn : lkp es key = none) (val : Value) :
    ∃ w', (Instr.mapUpdate t (.map (some b)) (.int .i64 key) val).run P w = .ok () w' ∧ MapAt w' b (es ++ [(key, val)]) ∧ w.grownBy w' (some b) := by
  obtain ⟨ents, clock, h1, h2⟩ := h
  obtain ⟨r, h3, ⟨h4, rfl⟩ | ⟨j, v, h4, rfl⟩⟩ := run_findKey (w := w) hk h2 key
  · refine ⟨setBlock w b (.map (ents.push ⟨.int .i64 key, val, clock⟩) (clock + 1)), by simp [Instr.mapUpdate, run_underlying ht, MapKept.run_getObj_map h1, run_checkKey hk, h3, MapKept.run_setObj_map _ h1, Result.andThen, setBlock], ⟨_, _, heap_setBlock_same h1 _, ?_⟩, ⟨rfl, rfl, rfl, by simp [setBlock], fun i _ hi => heap_setBlock_other h1 _ (fun e => hi (by rw [e]))⟩⟩
    simp [h2]
  · rw [hn] at h4; cases h4
end
end Go.Proofs.YthilpjgjoaaboaaDoor.Lab
