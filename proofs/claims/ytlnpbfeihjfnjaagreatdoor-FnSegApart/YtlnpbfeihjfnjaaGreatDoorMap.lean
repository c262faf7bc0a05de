/-
  Maps keyed by numbers, as the model keeps them: entries in the order in which they came; a look-up, and a new key's entry.
-/
import Derived.Test.YtlnpbfeihjfnjaaGreatDoorRows
import Derived.Test.YtlnpbfeihjfnjaaGreatDoorPlain
import Derived.WalkKit
import Derived.Below
import Derived.Maps.Own
import Derived.Maps.RangeWalk
import Derived.Handy
namespace Go.Proofs.YtlnpbfeihjfnjaaGreatDoor.Lab
open Go.RowKit Go.ChangeMaps
set_option linter.unusedVariables false

/-- Block b is a map that holds these, in this order. -/
def MapAt (w : World) (b : Nat) (es : List (Int × Value)) : Prop :=
  ∃ ents clock, w.heap[b]? = some (.map ents clock) ∧ ents.toList.map (fun e => (e.key, e.val)) = es.map (fun p => (Value.int .i64 p.1, p.2)) ∧ MapKept.Stamped ents clock
theorem MapAt.made {w : World} {b : Nat} (h : w.heap[b]? = some (.map #[] 0)) : MapAt w b [] := ⟨#[], 0, h, rfl, MapKept.stamped_empty 0⟩
/-- What a key holds. -/
def lkp : List (Int × Value) → Int → Option Value
  | [], _ => none
  | p :: ps, k => if k = p.1 then some p.2 else lkp ps k
theorem MapAt.keep {w w' : World} {b : Nat} {es : List (Int × Value)} (h : MapAt w b es) (hb : Below w.heap.size w w') : MapAt w' b es := by
  obtain ⟨ents, clock, h1, h2⟩ := h
  exact ⟨ents, clock, by rw [hb.block b (lt_of_block h1)]; exact h1, h2⟩
theorem MapAt.of {w w' : World} {b : Nat} {es : List (Int × Value)} (h : MapAt w b es) (hb : w'.heap[b]? = w.heap[b]?) : MapAt w' b es := by
  obtain ⟨ents, clock, h1, h2⟩ := h
  exact ⟨ents, clock, by rw [hb]; exact h1, h2⟩
theorem MapAt.lt {w : World} {b : Nat} {es : List (Int × Value)} (h : MapAt w b es) : b < w.heap.size := by
  obtain ⟨ents, clock, h1, h2⟩ := h
  exact lt_of_block h1
theorem lkp_none_not {key : Int} : ∀ {es : List (Int × Value)}, lkp es key = none → ∀ p ∈ es, p.1 ≠ key
  | [], _, p, hp => by cases hp
  | q :: es, h, p, hp => by
    simp only [lkp] at h
    split at h
    · cases h
    · rename_i hq
      rcases List.mem_cons.1 hp with rfl | hp
      · exact fun e => hq e.symm
      · exact lkp_none_not h p hp
theorem findNow_int (key : Int) : ∀ (ents : List MapEntry) (es : List (Int × Value)) (i : Nat), ents.map (fun e => (e.key, e.val)) = es.map (fun p => (Value.int .i64 p.1, p.2)) →
    ∃ r, Instr.findNow (.int .i64) (.int .i64 key) ents i = some r ∧ ((lkp es key = none ∧ r = none) ∨ ∃ j v, lkp es key = some v ∧ r = some (j, v))
  | [], [], i, _ => ⟨none, rfl, .inl ⟨rfl, rfl⟩⟩
  | [], _ :: _, i, h => by simp at h
  | _ :: _, [], i, h => by simp at h
  | e :: ents, p :: es, i, h => by
    simp only [List.map_cons, List.cons.injEq, Prod.mk.injEq] at h
    obtain ⟨⟨h1, h2⟩, h3⟩ := h
    by_cases hk : key = p.1
    · refine ⟨some (i, e.val), ?_, .inr ⟨i, p.2, by simp [lkp, hk], by rw [h2]⟩⟩
      simp [Instr.findNow, Instr.sameNow, h1, hk]
    · obtain ⟨r, hr, hc⟩ := findNow_int key ents es (i + 1) h3
      refine ⟨r, ?_, ?_⟩
      · have : (key == p.1) = false := beq_eq_false_iff_ne.2 hk
        simp [Instr.findNow, Instr.sameNow, h1, this, hr]
      · simpa [lkp, hk] using hc
section
variable {P : Program} {w : World} {b : Nat} {es : List (Int × Value)} {t k e : TypeId}
theorem run_findKey (hk : P.underlying k = some (.int .i64)) {ents : List MapEntry} (h : ents.map (fun e => (e.key, e.val)) = es.map (fun p => (Value.int .i64 p.1, p.2))) (key : Int) :
    ∃ r, (Instr.findKey k (.int .i64 key) ents).run P w = .ok r w ∧ ((lkp es key = none ∧ r = none) ∨ ∃ j v, lkp es key = some v ∧ r = some (j, v)) := by
  obtain ⟨r, h1, h2⟩ := findNow_int key ents es 0 h
  exact ⟨r, by simp [Instr.findKey, run_underlying hk, h1], h2⟩
theorem run_checkKey (hk : P.underlying k = some (.int .i64)) (em : Bool) (key : Int) : (Instr.checkKey em 10000 k (.int .i64 key)).run P w = .ok () w := by
  show (Instr.checkKey em (9999 + 1) k (.int .i64 key)).run P w = _
  rw [Instr.checkKey]
  simp [run_underlying hk]
theorem MapAt.look (h : MapAt w b es) (ht : P.underlying t = some (.map k e)) (hk : P.underlying k = some (.int .i64)) {z : Value} (hz : (zeroValue e).run P w = .ok z w) (key : Int) :
    (Instr.lookup t (.map (some b)) (.int .i64 key) true).run P w = .ok (.tuple #[(lkp es key).getD z, .bool (lkp es key).isSome]) w := by
  obtain ⟨ents, clock, h1, h2, h0⟩ := h
  obtain ⟨r, h3, ⟨h4, rfl⟩ | ⟨j, v, h4, rfl⟩⟩ := run_findKey (w := w) hk h2 key
  · simp [Instr.lookup, run_underlying ht, MapKept.run_getObj_map h1, run_checkKey hk, h3, hz, h4, Result.andThen]
  · simp [Instr.lookup, run_underlying ht, MapKept.run_getObj_map h1, run_checkKey hk, h3, h4, Result.andThen]
theorem MapAt.push (h : MapAt w b es) (ht : P.underlying t = some (.map k e)) (hk : P.underlying k = some (.int .i64)) {key : Int} (hn : lkp es key = none) (val : Value) :
    ∃ w', (Instr.mapUpdate t (.map (some b)) (.int .i64 key) val).run P w = .ok () w' ∧ MapAt w' b (es ++ [(key, val)]) ∧ w.grownBy w' (some b) := by
  obtain ⟨ents, clock, h1, h2, h0⟩ := h
  obtain ⟨r, h3, ⟨h4, rfl⟩ | ⟨j, v, h4, rfl⟩⟩ := run_findKey (w := w) hk h2 key
  · refine ⟨setBlock w b (.map (ents.push ⟨.int .i64 key, val, clock⟩) (clock + 1)), by simp [Instr.mapUpdate, run_underlying ht, MapKept.run_getObj_map h1, run_checkKey hk, h3, MapKept.run_setObj_map _ h1, Result.andThen, setBlock], ⟨_, _, heap_setBlock_same h1 _, ?_⟩, ⟨rfl, rfl, rfl, by simp [setBlock], fun i _ hi => heap_setBlock_other h1 _ (fun e => hi (by rw [e]))⟩⟩
    refine ⟨by simp [h2], MapKept.stamped_push h0 (fun x hx e => ?_)⟩
    have hm : (x.key, x.val) ∈ es.map (fun p => (Value.int .i64 p.1, p.2)) := by rw [← h2]; exact List.mem_map.2 ⟨x, hx, rfl⟩
    obtain ⟨p, hp, hpe⟩ := List.mem_map.1 hm
    simp only [Prod.mk.injEq] at hpe
    rw [e] at hpe
    have hpk : p.1 = key := by simpa using hpe.1
    exact lkp_none_not hn p hp hpk
  · rw [hn] at h4; cases h4
end
/-- A look-up without 'ok'. -/
theorem MapAt.get {P : Program} {w : World} {b : Nat} {es : List (Int × Value)} {t k e : TypeId} (h : MapAt w b es) (ht : P.underlying t = some (.map k e)) (hk : P.underlying k = some (.int .i64)) {z : Value} (hz : (zeroValue e).run P w = .ok z w) (key : Int) :
    (Instr.lookup t (.map (some b)) (.int .i64 key) false).run P w = .ok ((lkp es key).getD z) w := by
  obtain ⟨ents, clock, h1, h2, h0⟩ := h
  obtain ⟨r, h3, ⟨h4, rfl⟩ | ⟨j, v, h4, rfl⟩⟩ := run_findKey (w := w) hk h2 key
  · simp [Instr.lookup, run_underlying ht, MapKept.run_getObj_map h1, run_checkKey hk, h3, hz, h4, Result.andThen]
  · simp [Instr.lookup, run_underlying ht, MapKept.run_getObj_map h1, run_checkKey hk, h3, h4, Result.andThen]
/-- What a key holds is stored there again. -/
theorem findNow_at (key : Int) : ∀ (ents : List MapEntry) (es : List (Int × Value)) (i j : Nat) (v : Value), ents.map (fun e => (e.key, e.val)) = es.map (fun p => (Value.int .i64 p.1, p.2)) →
    Instr.findNow (.int .i64) (.int .i64 key) ents i = some (some (j, v)) → ∃ e, ents[j - i]? = some e ∧ i ≤ j ∧ e.key = .int .i64 key ∧ e.val = v
  | [], _, i, j, v, _, h => by simp [Instr.findNow] at h
  | e :: ents, [], i, j, v, h, _ => by simp at h
  | e :: ents, p :: es, i, j, v, h, hf => by
    simp only [List.map_cons, List.cons.injEq, Prod.mk.injEq] at h
    obtain ⟨⟨h1, h2⟩, h3⟩ := h
    by_cases hk : key = p.1
    · simp [Instr.findNow, Instr.sameNow, h1, hk] at hf
      obtain ⟨rfl, rfl⟩ := hf
      exact ⟨e, by simp, Nat.le_refl _, by rw [h1, hk], rfl⟩
    · have : (key == p.1) = false := beq_eq_false_iff_ne.2 hk
      simp [Instr.findNow, Instr.sameNow, h1, this] at hf
      obtain ⟨e', he, hle, hk', hv⟩ := findNow_at key ents es (i + 1) j v h3 hf
      have hji : j - i = (j - (i + 1)) + 1 := by omega
      exact ⟨e', by rw [hji]; simpa using he, by omega, hk', hv⟩
theorem MapAt.again {P : Program} {w : World} {b : Nat} {es : List (Int × Value)} {t k e : TypeId} (h : MapAt w b es) (ht : P.underlying t = some (.map k e)) (hk : P.underlying k = some (.int .i64)) {key : Int} {val : Value} (hn : lkp es key = some val) :
    ∃ w', (Instr.mapUpdate t (.map (some b)) (.int .i64 key) val).run P w = .ok () w' ∧ MapAt w' b es ∧ w.grownBy w' (some b) := by
  obtain ⟨ents, clock, h1, h2, h0⟩ := h
  obtain ⟨r, hf, ⟨h4, rfl⟩ | ⟨j, v, h4, rfl⟩⟩ := findNow_int key ents.toList es 0 h2
  · rw [hn] at h4; cases h4
  · rw [hn] at h4
    obtain rfl := Option.some.inj h4
    obtain ⟨en, he, _, hek, hev⟩ := findNow_at key ents.toList es 0 j val h2 hf
    have he' : ents[j]? = some en := by simpa using he
    have hmod : ents.modify j (fun e => { e with key := .int .i64 key, val := val }) = ents := by
      apply Array.ext_getElem?
      intro i
      rw [Array.getElem?_modify]
      split
      · rename_i hi; subst hi; rw [he']; simp only [Option.map_some]; rw [← hek, ← hev]
      · rfl
    have h3 : (Instr.findKey k (.int .i64 key) ents.toList).run P w = .ok (some (j, val)) w := by simp [Instr.findKey, run_underlying hk, hf]
    refine ⟨setBlock w b (.map ents clock), ?_, ⟨ents, clock, heap_setBlock_same h1 _, h2, h0⟩, ⟨rfl, rfl, rfl, by simp [setBlock], fun i _ hi => heap_setBlock_other h1 _ (fun e => hi (by rw [e]))⟩⟩
    have hst : (Instr.keyThatStays (.int .i64 key) (.int .i64 key)).run P w = .ok (.int .i64 key) w := MapKept.run_keyThatStays (d := .int .i64) rfl
    simp [Instr.mapUpdate, run_underlying ht, MapKept.run_getObj_map h1, run_checkKey hk, h3, he', hek, hst, MapKept.run_setObj_map _ h1, Result.andThen, hmod, setBlock]
theorem sb_same {w : World} {r : Nat} {o0 : Obj} (h : w.heap[r]? = some o0) (o : Obj) : (setBlock w r o).heap[r]? = some o := by
  have hlt := lt_of_block h
  simp [setBlock, hlt]
theorem sb_other {w : World} {r k : Nat} (o : Obj) (hk : k ≠ r) : (setBlock w r o).heap[k]? = w.heap[k]? := by
  have : ¬ r = k := fun e => hk e.symm
  simp [setBlock, this]
/-- Block r is a walk over the map in block b: these are still to come. -/
def RangeAt (w : World) (r b : Nat) (es L : List (Int × Value)) : Prop :=
  ∃ ents clock since seen c0, w.heap[b]? = some (.map ents clock) ∧ ents.toList.map (fun e => (e.key, e.val)) = es.map (fun p => (Value.int .i64 p.1, p.2)) ∧ MapKept.Stamped ents clock ∧
    w.heap[r]? = some (.mapIter (some b) since seen c0) ∧ since ≤ c0 ∧ since ≤ clock ∧ (∀ x ∈ ents.toList, x.born < since) ∧ (leftOf ents seen).toList.map (fun e => (e.key, e.val)) = L.map (fun p => (Value.int .i64 p.1, p.2))
theorem RangeAt.map {w : World} {r b : Nat} {es L : List (Int × Value)} (h : RangeAt w r b es L) : MapAt w b es := by
  obtain ⟨ents, clock, since, seen, c0, h1, h2, h3, _⟩ := h
  exact ⟨ents, clock, h1, h2, h3⟩
theorem RangeAt.of {w w' : World} {r b : Nat} {es L : List (Int × Value)} (h : RangeAt w r b es L) (hb : w'.heap[b]? = w.heap[b]?) (hr : w'.heap[r]? = w.heap[r]?) : RangeAt w' r b es L := by
  obtain ⟨ents, clock, since, seen, c0, h1, h2, h3, h4, h5⟩ := h
  exact ⟨ents, clock, since, seen, c0, by rw [hb]; exact h1, h2, h3, by rw [hr]; exact h4, h5⟩
theorem RangeAt.lt {w : World} {r b : Nat} {es L : List (Int × Value)} (h : RangeAt w r b es L) : r < w.heap.size ∧ b < w.heap.size := by
  obtain ⟨ents, clock, since, seen, c0, h1, h2, h3, h4, h5⟩ := h
  exact ⟨lt_of_block h4, lt_of_block h1⟩
theorem MapAt.range {P : Program} {w : World} {b : Nat} {es : List (Int × Value)} {t k e : TypeId} (h : MapAt w b es) (ht : P.underlying t = some (.map k e)) :
    ∃ w', (Instr.range t (.map (some b))).run P w = .ok (.pointer (some ⟨w.heap.size, 0, none⟩)) w' ∧ RangeAt w' w.heap.size b es es ∧ w'.heap.size = w.heap.size + 1 ∧ ∀ B w0, Below B w0 w → B ≤ w.heap.size → Below B w0 w' := by
  obtain ⟨ents, clock, h1, h2, h0⟩ := h
  refine ⟨_, run_range_map w t k e b ents clock ht h1, ⟨ents, clock, clock, #[], clock, by rw [heap_alloc_old _ _ (lt_of_block h1)]; exact h1, h2, h0, heap_alloc_new _ _, Nat.le_refl _, Nat.le_refl _, h0.1, ?_⟩, by simp, fun B w0 hb hB => hb.alloc hB _⟩
  have : leftOf ents #[] = ents := by simp [leftOf]
  rw [this]; exact h2
theorem left_split {ents : List MapEntry} {e : MapEntry} (hn : (ents.map (·.born)).Nodup) (he : e ∈ ents) : ∃ l1 l2, ents = l1 ++ e :: l2 ∧ ents.filter (fun x => !(x.born == e.born)) = l1 ++ l2 := by
  obtain ⟨l1, l2, rfl⟩ := List.append_of_mem he
  refine ⟨l1, l2, rfl, ?_⟩
  simp only [List.map_append, List.map_cons, List.nodup_append, List.nodup_cons, List.mem_map, List.mem_cons] at hn
  obtain ⟨n1, ⟨n2, n3⟩, n4⟩ := hn
  rw [List.filter_append, List.filter_cons_of_neg (by simp)]
  rw [List.filter_eq_self.2 (fun x hx => ?_), List.filter_eq_self.2 (fun x hx => ?_)]
  · have : ¬ x.born = e.born := fun h => n2 ⟨x, hx, h⟩
    simpa using this
  · have : ¬ x.born = e.born := fun h => n4 x.born ⟨x, hx, rfl⟩ e.born (.inl rfl) h
    simpa using this
theorem map_split {α β : Type} {f : α → β} : ∀ {L : List α} {M1 M2 : List β} {y : β}, L.map f = M1 ++ y :: M2 → ∃ L1 x L2, L = L1 ++ x :: L2 ∧ L1.map f = M1 ∧ f x = y ∧ L2.map f = M2
  | L, M1, M2, y, h => by
    obtain ⟨L1, L', rfl, h1, h2⟩ := List.map_eq_append_iff.1 h
    obtain ⟨x, L2, rfl, h3, h4⟩ := List.map_eq_cons_iff.1 h2
    exact ⟨L1, x, L2, rfl, h1, h3, h4⟩
/-- The next one: none is left, or one that is left comes, whichever. -/
theorem RangeAt.next {P : Program} {w : World} {r b : Nat} {es L : List (Int × Value)} (h : RangeAt w r b es L) (ty : TypeId) :
    (L = [] ∧ (Instr.next (.pointer (some ⟨r, 0, none⟩)) false ty).run P w = .ok (.tuple #[.bool false]) w) ∨
    ∃ L1 p L2 w', L = L1 ++ p :: L2 ∧ (Instr.next (.pointer (some ⟨r, 0, none⟩)) false ty).run P w = .ok (.tuple #[.bool true, .int .i64 p.1, p.2]) w' ∧ RangeAt w' r b es (L1 ++ L2) ∧ w.grownBy w' (some r) ∧ w'.heap.size = w.heap.size ∧ p ∈ es ∧
      ∀ w2 : World, w2.heap[b]? = w'.heap[b]? → w2.heap[r]? = w'.heap[r]? → (Instr.entry (.pointer (some ⟨r, 0, none⟩))).run P w2 = .ok (.tuple #[.int .i64 p.1, p.2]) w2 := by
  obtain ⟨ents, clock, since, seen, c0, h1, h2, h3, h4, h5, h6, h7, h8⟩ := h
  have hrb : r ≠ b := fun e => by rw [e, h1] at h4; cases h4
  rcases run_next_at (P := P) w ty r b since c0 seen ents clock h4 h1 h7 h5 with ⟨h9, h10⟩ | ⟨e, he, w1, hw1, h10⟩
  · refine .inl ⟨?_, h10⟩
    have : (leftOf ents seen).toList = [] := by rw [Array.toList_eq_nil_iff]; exact Array.eq_empty_of_size_eq_zero h9
    rw [this] at h8
    simpa using h8.symm
  · right
    obtain ⟨hem, hes⟩ := mem_left he
    have hnd : ((leftOf ents seen).toList.map (·.born)).Nodup := by
      refine List.Nodup.sublist ?_ h3.2.1
      refine List.Sublist.map _ ?_
      simp only [leftOf, Array.toList_filter]
      exact List.filter_sublist
    obtain ⟨l1, l2, hl, hl2⟩ := left_split hnd he
    rw [hl] at h8
    simp only [List.map_append, List.map_cons] at h8
    obtain ⟨L1, p, L2, rfl, hL1, hp, hL2⟩ := map_split h8.symm
    simp only [Prod.mk.injEq] at hp
    have hw1h : w1.heap = w.heap := by rcases hw1 with rfl | rfl <;> rfl
    have hr1 : w1.heap[r]? = some (.mapIter (some b) since seen c0) := by rw [hw1h]; exact h4
    have hpe : p ∈ es := by
      have : (e.key, e.val) ∈ es.map (fun p => (Value.int .i64 p.1, p.2)) := by rw [← h2]; exact List.mem_map.2 ⟨e, hem, rfl⟩
      obtain ⟨q, hq, hqe⟩ := List.mem_map.1 this
      simp only [Prod.mk.injEq] at hqe
      have : q = p := by
        have e1 : q.1 = p.1 := by have := hqe.1.trans hp.1.symm; simpa using this
        have e2 : q.2 = p.2 := hqe.2.trans hp.2.symm
        exact Prod.ext e1 e2
      rw [← this]; exact hq
    have hbk : (setBlock w1 r (.mapIter (some b) since (seen.push e.born) clock)).heap[b]? = some (.map ents clock) := by rw [sb_other _ (Ne.symm hrb), hw1h]; exact h1
    have hrk : (setBlock w1 r (.mapIter (some b) since (seen.push e.born) clock)).heap[r]? = some (.mapIter (some b) since (seen.push e.born) clock) := sb_same hr1 _
    refine ⟨L1, p, L2, _, rfl, by rw [hp.1, hp.2]; exact h10, ⟨ents, clock, since, seen.push e.born, clock, hbk, h2, h3, hrk, h6, h6, h7, ?_⟩, ⟨?_, ?_, ?_, ?_, fun i hi hne => ?_⟩, by simp [setBlock, hw1h], hpe, fun w2 k1 k2 => ?_⟩
    · have : (leftOf ents (seen.push e.born)).toList = l1 ++ l2 := by
        rw [← hl2]
        simp only [leftOf, Array.toList_filter, List.filter_filter]
        refine List.filter_congr (fun x _ => ?_)
        rw [contains_push]
        cases seen.contains x.born <;> cases (x.born == e.born) <;> rfl
      rw [this, List.map_append, hL1.symm, hL2.symm, List.map_append]
    · rcases hw1 with rfl | rfl <;> rfl
    · rcases hw1 with rfl | rfl <;> rfl
    · rcases hw1 with rfl | rfl <;> rfl
    · simp [setBlock, hw1h]
    · rw [sb_other _ (fun e => hne (by rw [e])), hw1h]
    · rw [hp.1, hp.2]
      exact run_entry_at w2 r b since seen ents clock e (by rw [k2]; exact hrk) (by rw [k1]; exact hbk) hem h3.2.1
section
variable {P : Program} (w : World) {ops : Array Oper} {rest : List Oper} {o : Oper} {a : Act} {Q : Exit → Act → World → Prop}
theorem wpList_rangeM (hg : o.guard = none) (m : Operand) (t : TypeId) (hop : o.op = Op.range t m) (k e : TypeId) (ht : P.underlying t = some (.map k e)) (b : Nat) (es : List (Int × Value)) (hm : a.eval m = .map (some b)) (hown : MapAt w b es)
    (hK : ∀ w', RangeAt w' w.heap.size b es es → w'.heap.size = w.heap.size + 1 → (∀ B w0, Below B w0 w → B ≤ w.heap.size → Below B w0 w') → wpList P ops Q rest (a.put o.dst (.pointer (some ⟨w.heap.size, 0, none⟩))) w') :
    wpList P ops Q (o :: rest) a w := by
  refine wpList_plain hg fun K' hK' => ?_
  obtain ⟨w', hrun, r1, r2, r3⟩ := hown.range ht
  unfold Oper.wp
  simp [execOp, hop, hm, hrun, Result.andThen]
  exact hK' _ _ (hK w' r1 r2 r3)
theorem wpList_nextM (hg : o.guard = none) (it : Operand) (hop : o.op = Op.next it false) (r b : Nat) (es L : List (Int × Value)) (hit : a.eval it = .pointer (some ⟨r, 0, none⟩)) (h : RangeAt w r b es L)
    (hDone : L = [] → wpList P ops Q rest (a.put o.dst (.tuple #[.bool false])) w)
    (hMore : ∀ L1 p L2 w', L = L1 ++ p :: L2 → RangeAt w' r b es (L1 ++ L2) → w.grownBy w' (some r) → w'.heap.size = w.heap.size → p ∈ es → (∀ w2 : World, w2.heap[b]? = w'.heap[b]? → w2.heap[r]? = w'.heap[r]? → (Instr.entry (.pointer (some ⟨r, 0, none⟩))).run P w2 = .ok (.tuple #[.int .i64 p.1, p.2]) w2) → wpList P ops Q rest (a.put o.dst (.tuple #[.bool true, .int .i64 p.1, p.2])) w') :
    wpList P ops Q (o :: rest) a w := by
  refine wpList_plain hg fun K' hK' => ?_
  unfold Oper.wp
  rcases h.next (P := P) o.type with ⟨h0, hrun⟩ | ⟨L1, p, L2, w', h1, hrun, h2, h3, h4, h5, h6⟩
  · simp [execOp, hop, hit, hrun, Result.andThen]
    exact hK' _ _ (hDone h0)
  · simp [execOp, hop, hit, hrun, Result.andThen]
    exact hK' _ _ (hMore L1 p L2 w' h1 h2 h3 h4 h5 h6)
end
end Go.Proofs.YtlnpbfeihjfnjaaGreatDoor.Lab
