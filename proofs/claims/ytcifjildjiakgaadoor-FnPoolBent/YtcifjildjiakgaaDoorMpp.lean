/-
  Maps keyed by pages, as the model keeps them: entries in the order in which they came; a look-up, a new key's entry, one taken away, how many.
-/
import Derived.Test.YtcifjildjiakgaaDoorRow
import Derived.Test.YtcifjildjiakgaaDoorPag
import Derived.WalkKit
import Derived.Below
import Derived.Maps.Own
import Derived.Maps.OwnSet
import Derived.WideKeyRuns
import Derived.Laws.StructEq
import Derived.Handy
namespace Go.Proofs.YtcifjildjiakgaaDoor.Lab
open Go.RowKit Go.ChangeMaps
set_option linter.unusedVariables false
/-- A page as a key. -/
def pgV (x : Int × Int) : Value := .agg #[.int .i64 x.1, .int .i64 x.2]
theorem pgV_inj {x y : Int × Int} (h : pgV x = pgV y) : x = y := by
  simp [pgV] at h
  exact Prod.ext h.1 h.2
theorem eqPg (x y : Int × Int) (w : World) : (Op.equalIn 10000 41 (pgV x) (pgV y)).run Tryd.prog w = .ok (eqB x y) w := by
  obtain ⟨a, b⟩ := x
  obtain ⟨c, d⟩ := y
  have u3 := Tryd.underlying3
  have hS : Tryd.prog.underlying 41 = some (.struct (Tryd.prog.fieldsOf 41)) := by kernel_rfl
  have hp : Tryd.prog.stoodInHeld 41 = false := by kernel_rfl
  unfold pgV
  rw [show (10000 : Nat) = 9999 + 1 from rfl, run_equalIn_agg w 9999 41 _ _ hS hp]
  simp only [Program.fieldsOf, Tryd.underlying41]
  go_simp
  by_cases h1 : a = c <;> by_cases h2 : b = d <;> simp [h1, h2, eqB]
theorem chkPg (em : Bool) (x : Int × Int) (w : World) : (Instr.checkKey em 10000 41 (pgV x)).run Tryd.prog w = .ok () w := by
  obtain ⟨a, b⟩ := x
  unfold pgV
  show (Instr.checkKey em (9998 + 1 + 1) 41 _).run Tryd.prog w = _
  rw [Instr.checkKey]
  simp only [Sem.run_bind, run_underlying Tryd.underlying41, Result.andThen_ok]
  rw [← Array.forIn_toList]
  simp only [List.forIn_cons, List.forIn_nil]
  have hc : ∀ (v : Int) w, (Instr.checkKey em (9998 + 1) 3 (.int .i64 v)).run Tryd.prog w = .ok () w := fun v w => by
    rw [Instr.checkKey]
    simp [run_underlying Tryd.underlying3]
  go_simp
/-- Block b is a map that holds these, in this order. -/
def MapP (w : World) (b : Nat) (es : List ((Int × Int) × Value)) : Prop :=
  ∃ ents clock, w.heap[b]? = some (.map ents clock) ∧ ents.toList.map (fun e => (e.key, e.val)) = es.map (fun p => (pgV p.1, p.2))
theorem MapP.made {w : World} {b : Nat} (h : w.heap[b]? = some (.map #[] 0)) : MapP w b [] := ⟨#[], 0, h, rfl⟩
theorem MapP.of {w w' : World} {b : Nat} {es : List ((Int × Int) × Value)} (h : MapP w b es) (hb : w'.heap[b]? = w.heap[b]?) : MapP w' b es := by
  obtain ⟨ents, clock, h1, h2⟩ := h
  exact ⟨ents, clock, by rw [hb]; exact h1, h2⟩
theorem MapP.lt {w : World} {b : Nat} {es : List ((Int × Int) × Value)} (h : MapP w b es) : b < w.heap.size := by
  obtain ⟨ents, clock, h1, h2⟩ := h
  exact lt_of_block h1
/-- What a key holds. -/
def lkq : List ((Int × Int) × Value) → Int × Int → Option Value
  | [], _ => none
  | p :: ps, k => if eqB k p.1 = true then some p.2 else lkq ps k
theorem lkq_none {key : Int × Int} : ∀ {es : List ((Int × Int) × Value)}, (∀ v, (key, v) ∉ es) → lkq es key = none
  | [], _ => rfl
  | p :: es, h => by
    simp only [lkq]
    rw [if_neg (fun e => ?_)]
    · exact lkq_none (fun v hv => h v (by simp [hv]))
    · have := eqB_true.1 e
      exact h p.2 (by subst this; simp)
theorem lkq_some {key : Int × Int} {v : Value} : ∀ {es : List ((Int × Int) × Value)}, (es.map Prod.fst).Nodup → (key, v) ∈ es → lkq es key = some v
  | [], _, h => by cases h
  | p :: es, hn, h => by
    simp only [List.map_cons, List.nodup_cons] at hn
    simp only [lkq]
    rcases List.mem_cons.1 h with rfl | h
    · rw [if_pos (eqB_true.2 rfl)]
    · rw [if_neg (fun e => ?_)]
      · exact lkq_some hn.2 h
      · have := eqB_true.1 e
        exact hn.1 (List.mem_map.2 ⟨_, h, this⟩)
theorem findAsk (key : Int × Int) (w : World) : ∀ (ents : List MapEntry) (es : List ((Int × Int) × Value)) (i : Nat), ents.map (fun e => (e.key, e.val)) = es.map (fun p => (pgV p.1, p.2)) →
    ∃ r, (Instr.findAsking 41 (pgV key) ents i).run Tryd.prog w = .ok r w ∧ ((lkq es key = none ∧ r = none) ∨ ∃ j v, lkq es key = some v ∧ r = some (i + j, v) ∧ es[j]? = some (key, v))
  | [], [], i, _ => ⟨none, by simp [Instr.findAsking], .inl ⟨rfl, rfl⟩⟩
  | [], _ :: _, i, h => by simp at h
  | _ :: _, [], i, h => by simp at h
  | e :: ents, p :: es, i, h => by
    simp only [List.map_cons, List.cons.injEq, Prod.mk.injEq] at h
    obtain ⟨⟨h1, h2⟩, h3⟩ := h
    cases hk : eqB key p.1
    · obtain ⟨r, hr, hc⟩ := findAsk key w ents es (i + 1) h3
      refine ⟨r, ?_, ?_⟩
      · simp [Instr.findAsking, Op.equal, Op.maxDepth, h1, eqPg, hk, hr, Result.andThen]
      · rcases hc with ⟨c1, c2⟩ | ⟨j, v, c1, c2, c3⟩
        · exact .inl ⟨by simp [lkq, hk, c1], c2⟩
        · exact .inr ⟨j + 1, v, by simp [lkq, hk, c1], by rw [c2]; congr 2; omega, by simpa using c3⟩
    · refine ⟨some (i, e.val), ?_, .inr ⟨0, p.2, by simp [lkq, hk], by simp [h2], ?_⟩⟩
      · simp [Instr.findAsking, Op.equal, Op.maxDepth, h1, eqPg, hk, Result.andThen]
      · have := eqB_true.1 hk
        subst this
        simp
theorem findPg (key : Int × Int) (w : World) {ents : List MapEntry} {es : List ((Int × Int) × Value)} (h : ents.map (fun e => (e.key, e.val)) = es.map (fun p => (pgV p.1, p.2))) :
    ∃ r, (Instr.findKey 41 (pgV key) ents).run Tryd.prog w = .ok r w ∧ ((lkq es key = none ∧ r = none) ∨ ∃ j v, lkq es key = some v ∧ r = some (j, v) ∧ es[j]? = some (key, v)) := by
  rw [run_findKey_eq w (by rw [Tryd.underlying41])]
  obtain ⟨r, h1, h2⟩ := findAsk key w ents es 0 h
  exact ⟨r, h1, by simpa using h2⟩
theorem perm_erase {α : Type} : ∀ {l : List α} {j : Nat} {x : α}, l[j]? = some x → l.Perm (x :: l.eraseIdx j)
  | [], j, x, h => by simp at h
  | y :: l, 0, x, h => by simp at h; subst h; simp
  | y :: l, j + 1, x, h => by
    simp only [List.getElem?_cons_succ] at h
    simp only [List.eraseIdx_cons_succ]
    exact ((perm_erase h).cons y).trans (List.Perm.swap _ _ _)
theorem erase_map {α β : Type} (f : α → β) : ∀ (l : List α) (j : Nat), (l.eraseIdx j).map f = (l.map f).eraseIdx j
  | [], j => by simp
  | y :: l, 0 => by simp
  | y :: l, j + 1 => by simp [erase_map f l j]
section
variable {w : World} {b : Nat} {es : List ((Int × Int) × Value)}
theorem MapP.look (h : MapP w b es) (key : Int × Int) :
    (Instr.lookup 56 (.map (some b)) (pgV key) true).run Tryd.prog w = .ok (.tuple #[(lkq es key).getD (.pointer none), .bool (lkq es key).isSome]) w := by
  obtain ⟨ents, clock, h1, h2⟩ := h
  obtain ⟨r, h3, ⟨h4, rfl⟩ | ⟨j, v, h4, rfl, _⟩⟩ := findPg key w h2
  · simp [Instr.lookup, run_underlying Tryd.underlying56, MapKept.run_getObj_map h1, chkPg, h3, h4, Result.andThen]
  · simp [Instr.lookup, run_underlying Tryd.underlying56, MapKept.run_getObj_map h1, chkPg, h3, h4, Result.andThen]
/-- Nothing but one block is turned. -/
def Only (w w' : World) (b : Nat) : Prop := w.grownBy w' (some b) ∧ w'.heap.size = w.heap.size ∧ ∀ k, k ≠ b → w'.heap[k]? = w.heap[k]?
theorem only_set {w : World} {b : Nat} {o0 : Obj} (h1 : w.heap[b]? = some o0) (o : Obj) : Only w (setBlock w b o) b := by
  have sb : ∀ k, k ≠ b → (setBlock w b o).heap[k]? = w.heap[k]? := fun k hk => by
    have : ¬ b = k := fun e => hk e.symm
    simp [setBlock, this]
  exact ⟨⟨rfl, rfl, rfl, by simp [setBlock], fun i _ hi => sb i (fun e => hi (by rw [e]))⟩, by simp [setBlock], sb⟩
theorem sb_at {w : World} {r : Nat} {o0 : Obj} (h : w.heap[r]? = some o0) (o : Obj) : (setBlock w r o).heap[r]? = some o := by
  have hlt := lt_of_block h
  simp [setBlock, hlt]
theorem MapP.push (h : MapP w b es) {key : Int × Int} (hn : lkq es key = none) (val : Value) :
    ∃ w', (Instr.mapUpdate 56 (.map (some b)) (pgV key) val).run Tryd.prog w = .ok () w' ∧ MapP w' b (es ++ [(key, val)]) ∧ Only w w' b := by
  obtain ⟨ents, clock, h1, h2⟩ := h
  obtain ⟨r, h3, ⟨h4, rfl⟩ | ⟨j, v, h4, rfl, _⟩⟩ := findPg key w h2
  · refine ⟨setBlock w b (.map (ents.push ⟨pgV key, val, clock⟩) (clock + 1)), by simp [Instr.mapUpdate, run_underlying Tryd.underlying56, MapKept.run_getObj_map h1, chkPg, h3, MapKept.run_setObj_map _ h1, Result.andThen, setBlock], ⟨_, _, sb_at h1 _, by simp [h2]⟩, only_set h1 _⟩
  · rw [hn] at h4; cases h4
theorem MapP.drop (h : MapP w b es) {key : Int × Int} {val : Value} (hn : lkq es key = some val) (ty : TypeId) :
    ∃ w' es', (Builtin.delete_ #[56, 41] ty #[.map (some b), pgV key]).run Tryd.prog w = .ok (.tuple #[]) w' ∧ MapP w' b es' ∧ es.Perm ((key, val) :: es') ∧ Only w w' b := by
  obtain ⟨ents, clock, h1, h2⟩ := h
  obtain ⟨r, h3, ⟨h4, rfl⟩ | ⟨j, v, h4, rfl, h5⟩⟩ := findPg key w h2
  · rw [hn] at h4; cases h4
  · rw [hn] at h4
    obtain rfl := Option.some.inj h4
    have hj : j < es.length := (List.getElem?_eq_some_iff.1 h5).1
    have hl : ents.size = es.length := by have := congrArg List.length h2; simpa using this
    refine ⟨setBlock w b (.map (ents.eraseIdxIfInBounds j) clock), es.eraseIdx j, by simp [Builtin.delete_, run_underlying Tryd.underlying56, MapKept.run_getObj_map h1, chkPg, h3, MapKept.run_setObj_map _ h1, Result.andThen, setBlock], ⟨_, _, sb_at h1 _, ?_⟩, ?_, only_set h1 _⟩
    · have hlt : j < ents.size := by omega
      rw [Array.eraseIdxIfInBounds, dif_pos hlt, Array.toList_eraseIdx, erase_map, h2, erase_map]
    · exact perm_erase h5
theorem MapP.len (h : MapP w b es) (ty : TypeId) : (Builtin.len_ #[56] ty #[.map (some b)]).run Tryd.prog w = .ok (.int .i64 es.length) w := by
  obtain ⟨ents, clock, h1, h2⟩ := h
  have hl : ents.size = es.length := by have := congrArg List.length h2; simpa using this
  simp [Builtin.len_, run_underlying Tryd.underlying56, MapKept.run_getObj_map h1, goInt, Result.andThen, hl]
end
end Go.Proofs.YtcifjildjiakgaaDoor.Lab
