/-
  delete of a key, of a map whose entries are told, and of one that is walked over.
-/
import Derived.Test.YtkhfbaggkmeahabGreatDoorMap
namespace Go.Proofs.YtkhfbaggkmeahabGreatDoor.Lab
open Go.RowKit Go.ChangeMaps
set_option linter.unusedVariables false
/-- An entry's key as a number. -/
def keyI (x : MapEntry) : Int := match x.key with | .int _ i => i | _ => 0
/-- The entries but a key's. -/
def butK (key : Int) (es : List (Int × Value)) : List (Int × Value) := es.filter (fun p => !(p.1 == key))
theorem filt_map (key : Int) : ∀ (ents : List MapEntry) (es : List (Int × Value)), ents.map (fun e => (e.key, e.val)) = es.map (fun p => (Value.int .i64 p.1, p.2)) →
    (ents.filter (fun x => !(keyI x == key))).map (fun e => (e.key, e.val)) = (butK key es).map (fun p => (Value.int .i64 p.1, p.2))
  | [], [], _ => rfl
  | [], _ :: _, h => by simp at h
  | _ :: _, [], h => by simp at h
  | e :: ents, p :: es, h => by
    simp only [List.map_cons, List.cons.injEq, Prod.mk.injEq] at h
    obtain ⟨⟨h1, h2⟩, h3⟩ := h
    have ih := filt_map key ents es h3
    have hk : keyI e = p.1 := by unfold keyI; rw [h1]
    unfold butK at ih ⊢
    rw [List.filter_cons, List.filter_cons, hk]
    cases hb : (p.1 == key)
    · simp only [Bool.not_false, if_true, List.map_cons, ih, h1, h2]
    · simpa using ih
theorem erase_kp (key : Int) : ∀ (ents : List MapEntry) (j : Nat) (e : MapEntry), (ents.map (·.key)).Nodup → (∀ x ∈ ents, ∃ i, x.key = .int .i64 i) → ents[j]? = some e → e.key = .int .i64 key → ents.eraseIdx j = ents.filter (fun x => !(keyI x == key))
  | [], j, e, _, _, h, _ => by simp at h
  | x :: ents, 0, e, hn, hi, h, hk => by
    simp at h
    subst h
    simp only [List.map_cons, List.nodup_cons, List.mem_map] at hn
    have hx : keyI x = key := by unfold keyI; rw [hk]
    rw [List.eraseIdx_cons_zero, List.filter_cons, hx]
    simp only [beq_self_eq_true, Bool.not_true, Bool.false_eq_true, if_false]
    refine (List.filter_eq_self.2 fun y hy => ?_).symm
    obtain ⟨i, hyi⟩ := hi y (List.mem_cons_of_mem _ hy)
    have hne : i ≠ key := fun e => hn.1 ⟨y, hy, by rw [hyi, hk, e]⟩
    have : keyI y = i := by unfold keyI; rw [hyi]
    rw [this]
    simpa using hne
  | x :: ents, j + 1, e, hn, hi, h, hk => by
    simp only [List.map_cons, List.nodup_cons, List.mem_map] at hn
    have he : e ∈ ents := List.mem_of_getElem? (by simpa using h)
    obtain ⟨i, hxi⟩ := hi x (List.mem_cons_self ..)
    have hne : i ≠ key := fun q => hn.1 ⟨e, he, by rw [hk, hxi, q]⟩
    have hx : keyI x = i := by unfold keyI; rw [hxi]
    rw [List.eraseIdx_cons_succ, List.filter_cons, hx, erase_kp key ents j e hn.2 (fun y hy => hi y (List.mem_cons_of_mem _ hy)) (by simpa using h) hk]
    have : (!(i == key)) = true := by simpa using hne
    rw [if_pos this]
theorem keys_int {ents : List MapEntry} {es : List (Int × Value)} (h : ents.map (fun e => (e.key, e.val)) = es.map (fun p => (Value.int .i64 p.1, p.2))) : ∀ x ∈ ents, ∃ i, x.key = .int .i64 i := fun x hx => by
  have : (x.key, x.val) ∈ es.map (fun p => (Value.int .i64 p.1, p.2)) := by rw [← h]; exact List.mem_map.2 ⟨x, hx, rfl⟩
  obtain ⟨p, _, hp⟩ := List.mem_map.1 this
  simp only [Prod.mk.injEq] at hp
  exact ⟨p.1, hp.1.symm⟩
/-- What delete does to the entries. -/
theorem run_drop {P : Program} {w : World} {b : Nat} {es : List (Int × Value)} {ents : Array MapEntry} {clock : Nat} {t k e t2 : TypeId} (h1 : w.heap[b]? = some (.map ents clock)) (h2 : ents.toList.map (fun e => (e.key, e.val)) = es.map (fun p => (Value.int .i64 p.1, p.2))) (h0 : MapKept.Stamped ents clock)
    (ht : P.underlying t = some (.map k e)) (hk : P.underlying k = some (.int .i64)) (key : Int) :
    ∃ ents', (∀ ty : TypeId, (Builtin.delete_ #[t, t2] ty #[.map (some b), .int .i64 key]).run P w = .ok (.tuple #[]) (setBlock w b (.map ents' clock))) ∧ ents'.toList = ents.toList.filter (fun x => !(keyI x == key)) ∧ MapKept.Stamped ents' clock := by
  obtain ⟨r, hf, ⟨h4, rfl⟩ | ⟨j, v, h4, rfl⟩⟩ := findNow_int key ents.toList es 0 h2
  · have h3 : (Instr.findKey k (.int .i64 key) ents.toList).run P w = .ok none w := by simp [Instr.findKey, run_underlying hk, hf]
    refine ⟨ents, fun ty => by simp [Builtin.delete_, run_underlying ht, MapKept.run_getObj_map h1, run_checkKey hk, h3, MapKept.run_setObj_map _ h1, Result.andThen, setBlock], ?_, h0⟩
    refine (List.filter_eq_self.2 fun x hx => ?_).symm
    have : (x.key, x.val) ∈ es.map (fun p => (Value.int .i64 p.1, p.2)) := by rw [← h2]; exact List.mem_map.2 ⟨x, hx, rfl⟩
    obtain ⟨p, hp, hpe⟩ := List.mem_map.1 this
    simp only [Prod.mk.injEq] at hpe
    have hx1 : keyI x = p.1 := by unfold keyI; rw [← hpe.1]
    have := lkp_none_not h4 p hp
    rw [hx1]
    simpa using this
  · have h3 : (Instr.findKey k (.int .i64 key) ents.toList).run P w = .ok (some (j, v)) w := by simp [Instr.findKey, run_underlying hk, hf]
    obtain ⟨en, he, _, hek, _⟩ := findNow_at key ents.toList es 0 j v h2 hf
    have he' : ents.toList[j]? = some en := by simpa using he
    have hjs : j < ents.size := by have := (List.getElem?_eq_some_iff.1 he').1; simpa using this
    have hsub : (ents.eraseIdxIfInBounds j).toList = ents.toList.eraseIdx j := by
      unfold Array.eraseIdxIfInBounds
      rw [dif_pos hjs]
      simp
    refine ⟨ents.eraseIdxIfInBounds j, fun ty => by simp [Builtin.delete_, run_underlying ht, MapKept.run_getObj_map h1, run_checkKey hk, h3, MapKept.run_setObj_map _ h1, Result.andThen, setBlock], ?_, MapKept.stamped_erase h0 j⟩
    rw [hsub]
    exact erase_kp key ents.toList j en h0.2.2 (keys_int h2) he' hek
theorem MapAt.drop {P : Program} {w : World} {b : Nat} {es : List (Int × Value)} {t k e t2 : TypeId} (h : MapAt w b es) (ht : P.underlying t = some (.map k e)) (hk : P.underlying k = some (.int .i64)) (key : Int) :
    ∃ w', (∀ ty : TypeId, (Builtin.delete_ #[t, t2] ty #[.map (some b), .int .i64 key]).run P w = .ok (.tuple #[]) w') ∧ MapAt w' b (butK key es) ∧ w.grownBy w' (some b) ∧ w'.heap.size = w.heap.size := by
  obtain ⟨ents, clock, h1, h2, h0⟩ := h
  obtain ⟨ents', hr, hl, hs⟩ := run_drop (t2 := t2) h1 h2 h0 ht hk key
  refine ⟨_, hr, ⟨ents', clock, sb_same h1 _, by rw [hl]; exact filt_map key _ _ h2, hs⟩, ⟨rfl, rfl, rfl, by simp [setBlock], fun i _ hi => sb_other _ (fun e => hi (by rw [e]))⟩, by simp [setBlock]⟩
/-- The walk goes on over what is left, without that key. -/
theorem RangeAt.drop {P : Program} {w : World} {r b : Nat} {es L : List (Int × Value)} {t k e t2 : TypeId} (h : RangeAt w r b es L) (ht : P.underlying t = some (.map k e)) (hk : P.underlying k = some (.int .i64)) (key : Int) :
    ∃ w', (∀ ty : TypeId, (Builtin.delete_ #[t, t2] ty #[.map (some b), .int .i64 key]).run P w = .ok (.tuple #[]) w') ∧ RangeAt w' r b (butK key es) (butK key L) ∧ w.grownBy w' (some b) ∧ w'.heap.size = w.heap.size := by
  obtain ⟨ents, clock, since, seen, c0, h1, h2, h3, h4, h5, h6, h7, h8⟩ := h
  have hrb : r ≠ b := fun e => by rw [e, h1] at h4; cases h4
  obtain ⟨ents', hr, hl, hs⟩ := run_drop (t2 := t2) h1 h2 h3 ht hk key
  refine ⟨_, hr, ⟨ents', clock, since, seen, c0, sb_same h1 _, by rw [hl]; exact filt_map key _ _ h2, hs, by rw [sb_other _ hrb]; exact h4, h5, h6, fun x hx => h7 x (by rw [hl] at hx; exact (List.mem_filter.1 hx).1), ?_⟩, ⟨rfl, rfl, rfl, by simp [setBlock], fun i _ hi => sb_other _ (fun e => hi (by rw [e]))⟩, by simp [setBlock]⟩
  have hc : (leftOf ents' seen).toList = (leftOf ents seen).toList.filter (fun x => !(keyI x == key)) := by
    simp only [leftOf, Array.toList_filter, hl, List.filter_filter]
    refine List.filter_congr (fun x _ => ?_)
    rw [Bool.and_comm]
  rw [hc]
  exact filt_map key _ _ h8
theorem lkp_butK {es : List (Int × Value)} {key k : Int} : lkp (butK key es) k = if k = key then none else lkp es k := by
  unfold butK
  induction es with
  | nil => simp [lkp]
  | cons p es ih =>
    rw [List.filter_cons]
    by_cases h : p.1 = key
    · have hb : (!(p.1 == key)) = false := by simp [h]
      rw [hb, if_neg (by simp), ih]
      by_cases hk : k = key
      · rw [if_pos hk, if_pos hk]
      · rw [if_neg hk, if_neg hk]
        simp only [lkp]
        rw [if_neg (by rw [h]; exact hk)]
    · have hb : (!(p.1 == key)) = true := by simpa using h
      rw [hb, if_pos rfl]
      simp only [lkp]
      rw [ih]
      by_cases hk : k = p.1
      · rw [if_pos hk, if_pos hk, if_neg (fun e => h (by rw [← hk, e]))]
      · rw [if_neg hk, if_neg hk]
end Go.Proofs.YtkhfbaggkmeahabGreatDoor.Lab
