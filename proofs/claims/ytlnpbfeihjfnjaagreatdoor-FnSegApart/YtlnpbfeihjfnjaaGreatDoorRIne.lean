/-
  impl's book: what is taken out of it; its edges in order, its graph.
-/
import Derived.Test.YtlnpbfeihjfnjaaGreatDoorMap
import Derived.Test.YtlnpbfeihjfnjaaGreatDoorRSgp
import Derived.Test.YtlnpbfeihjfnjaaGreatDoorRNea
namespace Go.Proofs.YtlnpbfeihjfnjaaGreatDoor.Lab
open Go.RowKit Go.ChangeMaps
set_option linter.unusedVariables false
/-- An entry's key as a number. -/
def keyI (x : MapEntry) : Int := match x.key with | .int _ i => i | _ => 0
/-- The entries but a key's. -/
def butK (key : Int) (es : List (Int × Value)) : List (Int × Value) := es.filter (fun p => !(p.1 == key))
theorem filt_map (key : Int) : ∀ (ents : List MapEntry) (es : List (Int × Value)), ents.map (fun e => (e.key, e.val)) = es.map (fun p => (Value.int .i64 p.1, p.2)) →
    (ents.filter (fun x => !(keyI x == key))).map (fun e => (e.key, e.val)) = (butK key es).map (fun p => (Value.int .i64 p.1, p.2))
  | [], [], _ => rfl
  | [], _ :: _, h => by simp at h
  | _ :: _, [], h => by simp at h
  | e :: ents, p :: es, h => by
    simp only [List.map_cons, List.cons.injEq, Prod.mk.injEq] at h
    obtain ⟨⟨h1, h2⟩, h3⟩ := h
    have ih := filt_map key ents es h3
    have hk : keyI e = p.1 := by unfold keyI; rw [h1]
    unfold butK at ih ⊢
    rw [List.filter_cons, List.filter_cons, hk]
    cases hb : (p.1 == key)
    · simp only [Bool.not_false, if_true, List.map_cons, ih, h1, h2]
    · simpa using ih
theorem erase_kp (key : Int) : ∀ (ents : List MapEntry) (j : Nat) (e : MapEntry), (ents.map (·.key)).Nodup → (∀ x ∈ ents, ∃ i, x.key = .int .i64 i) → ents[j]? = some e → e.key = .int .i64 key → ents.eraseIdx j = ents.filter (fun x => !(keyI x == key))
  | [], j, e, _, _, h, _ => by simp at h
  | x :: ents, 0, e, hn, hi, h, hk => by
    simp at h
    subst h
    simp only [List.map_cons, List.nodup_cons, List.mem_map] at hn
    have hx : keyI x = key := by unfold keyI; rw [hk]
    rw [List.eraseIdx_cons_zero, List.filter_cons, hx]
    simp only [beq_self_eq_true, Bool.not_true, Bool.false_eq_true, if_false]
    refine (List.filter_eq_self.2 fun y hy => ?_).symm
    obtain ⟨i, hyi⟩ := hi y (List.mem_cons_of_mem _ hy)
    have hne : i ≠ key := fun e => hn.1 ⟨y, hy, by rw [hyi, hk, e]⟩
    have : keyI y = i := by unfold keyI; rw [hyi]
    rw [this]
    simpa using hne
  | x :: ents, j + 1, e, hn, hi, h, hk => by
    simp only [List.map_cons, List.nodup_cons, List.mem_map] at hn
    have he : e ∈ ents := List.mem_of_getElem? (by simpa using h)
    obtain ⟨i, hxi⟩ := hi x (List.mem_cons_self ..)
    have hne : i ≠ key := fun q => hn.1 ⟨e, he, by rw [hk, hxi, q]⟩
    have hx : keyI x = i := by unfold keyI; rw [hxi]
    rw [List.eraseIdx_cons_succ, List.filter_cons, hx, erase_kp key ents j e hn.2 (fun y hy => hi y (List.mem_cons_of_mem _ hy)) (by simpa using h) hk]
    have : (!(i == key)) = true := by simpa using hne
    rw [if_pos this]
theorem keys_int {ents : List MapEntry} {es : List (Int × Value)} (h : ents.map (fun e => (e.key, e.val)) = es.map (fun p => (Value.int .i64 p.1, p.2))) : ∀ x ∈ ents, ∃ i, x.key = .int .i64 i := fun x hx => by
  have : (x.key, x.val) ∈ es.map (fun p => (Value.int .i64 p.1, p.2)) := by rw [← h]; exact List.mem_map.2 ⟨x, hx, rfl⟩
  obtain ⟨p, _, hp⟩ := List.mem_map.1 this
  simp only [Prod.mk.injEq] at hp
  exact ⟨p.1, hp.1.symm⟩
/-- What delete does to the entries. -/
theorem run_drop {P : Program} {w : World} {b : Nat} {es : List (Int × Value)} {ents : Array MapEntry} {clock : Nat} {t k e t2 : TypeId} (h1 : w.heap[b]? = some (.map ents clock)) (h2 : ents.toList.map (fun e => (e.key, e.val)) = es.map (fun p => (Value.int .i64 p.1, p.2))) (h0 : MapKept.Stamped ents clock)
    (ht : P.underlying t = some (.map k e)) (hk : P.underlying k = some (.int .i64)) (key : Int) :
    ∃ ents', (∀ ty : TypeId, (Builtin.delete_ #[t, t2] ty #[.map (some b), .int .i64 key]).run P w = .ok (.tuple #[]) (setBlock w b (.map ents' clock))) ∧ ents'.toList = ents.toList.filter (fun x => !(keyI x == key)) ∧ MapKept.Stamped ents' clock := by
  obtain ⟨r, hf, ⟨h4, rfl⟩ | ⟨j, v, h4, rfl⟩⟩ := findNow_int key ents.toList es 0 h2
  · have h3 : (Instr.findKey k (.int .i64 key) ents.toList).run P w = .ok none w := by simp [Instr.findKey, run_underlying hk, hf]
    refine ⟨ents, fun ty => by simp [Builtin.delete_, run_underlying ht, MapKept.run_getObj_map h1, run_checkKey hk, h3, MapKept.run_setObj_map _ h1, Result.andThen, setBlock], ?_, h0⟩
    refine (List.filter_eq_self.2 fun x hx => ?_).symm
    have : (x.key, x.val) ∈ es.map (fun p => (Value.int .i64 p.1, p.2)) := by rw [← h2]; exact List.mem_map.2 ⟨x, hx, rfl⟩
    obtain ⟨p, hp, hpe⟩ := List.mem_map.1 this
    simp only [Prod.mk.injEq] at hpe
    have hx1 : keyI x = p.1 := by unfold keyI; rw [← hpe.1]
    have := lkp_none_not h4 p hp
    rw [hx1]
    simpa using this
  · have h3 : (Instr.findKey k (.int .i64 key) ents.toList).run P w = .ok (some (j, v)) w := by simp [Instr.findKey, run_underlying hk, hf]
    obtain ⟨en, he, _, hek, _⟩ := findNow_at key ents.toList es 0 j v h2 hf
    have he' : ents.toList[j]? = some en := by simpa using he
    have hjs : j < ents.size := by have := (List.getElem?_eq_some_iff.1 he').1; simpa using this
    have hsub : (ents.eraseIdxIfInBounds j).toList = ents.toList.eraseIdx j := by
      unfold Array.eraseIdxIfInBounds
      rw [dif_pos hjs]
      simp
    refine ⟨ents.eraseIdxIfInBounds j, fun ty => by simp [Builtin.delete_, run_underlying ht, MapKept.run_getObj_map h1, run_checkKey hk, h3, MapKept.run_setObj_map _ h1, Result.andThen, setBlock], ?_, MapKept.stamped_erase h0 j⟩
    rw [hsub]
    exact erase_kp key ents.toList j en h0.2.2 (keys_int h2) he' hek
theorem MapAt.drop {P : Program} {w : World} {b : Nat} {es : List (Int × Value)} {t k e t2 : TypeId} (h : MapAt w b es) (ht : P.underlying t = some (.map k e)) (hk : P.underlying k = some (.int .i64)) (key : Int) :
    ∃ w', (∀ ty : TypeId, (Builtin.delete_ #[t, t2] ty #[.map (some b), .int .i64 key]).run P w = .ok (.tuple #[]) w') ∧ MapAt w' b (butK key es) ∧ w.grownBy w' (some b) ∧ w'.heap.size = w.heap.size := by
  obtain ⟨ents, clock, h1, h2, h0⟩ := h
  obtain ⟨ents', hr, hl, hs⟩ := run_drop (t2 := t2) h1 h2 h0 ht hk key
  refine ⟨_, hr, ⟨ents', clock, sb_same h1 _, by rw [hl]; exact filt_map key _ _ h2, hs⟩, ⟨rfl, rfl, rfl, by simp [setBlock], fun i _ hi => sb_other _ (fun e => hi (by rw [e]))⟩, by simp [setBlock]⟩
/-- The walk goes on over what is left, without that key. -/
theorem RangeAt.drop {P : Program} {w : World} {r b : Nat} {es L : List (Int × Value)} {t k e t2 : TypeId} (h : RangeAt w r b es L) (ht : P.underlying t = some (.map k e)) (hk : P.underlying k = some (.int .i64)) (key : Int) :
    ∃ w', (∀ ty : TypeId, (Builtin.delete_ #[t, t2] ty #[.map (some b), .int .i64 key]).run P w = .ok (.tuple #[]) w') ∧ RangeAt w' r b (butK key es) (butK key L) ∧ w.grownBy w' (some b) ∧ w'.heap.size = w.heap.size := by
  obtain ⟨ents, clock, since, seen, c0, h1, h2, h3, h4, h5, h6, h7, h8⟩ := h
  have hrb : r ≠ b := fun e => by rw [e, h1] at h4; cases h4
  obtain ⟨ents', hr, hl, hs⟩ := run_drop (t2 := t2) h1 h2 h3 ht hk key
  refine ⟨_, hr, ⟨ents', clock, since, seen, c0, sb_same h1 _, by rw [hl]; exact filt_map key _ _ h2, hs, by rw [sb_other _ hrb]; exact h4, h5, h6, fun x hx => h7 x (by rw [hl] at hx; exact (List.mem_filter.1 hx).1), ?_⟩, ⟨rfl, rfl, rfl, by simp [setBlock], fun i _ hi => sb_other _ (fun e => hi (by rw [e]))⟩, by simp [setBlock]⟩
  have hc : (leftOf ents' seen).toList = (leftOf ents seen).toList.filter (fun x => !(keyI x == key)) := by
    simp only [leftOf, Array.toList_filter, hl, List.filter_filter]
    refine List.filter_congr (fun x _ => ?_)
    rw [Bool.and_comm]
  rw [hc]
  exact filt_map key _ _ h8
theorem lkp_butK {es : List (Int × Value)} {key k : Int} : lkp (butK key es) k = if k = key then none else lkp es k := by
  unfold butK
  induction es with
  | nil => simp [lkp]
  | cons p es ih =>
    rw [List.filter_cons]
    by_cases h : p.1 = key
    · have hb : (!(p.1 == key)) = false := by simp [h]
      rw [hb, if_neg (by simp), ih]
      by_cases hk : k = key
      · rw [if_pos hk, if_pos hk]
      · rw [if_neg hk, if_neg hk]
        simp only [lkp]
        rw [if_neg (by rw [h]; exact hk)]
    · have hb : (!(p.1 == key)) = true := by simpa using h
      rw [hb, if_pos rfl]
      simp only [lkp]
      rw [ih]
      by_cases hk : k = p.1
      · rw [if_pos hk, if_pos hk, if_neg (fun e => h (by rw [← hk, e]))]
      · rw [if_neg hk, if_neg hk]
end Go.Proofs.YtlnpbfeihjfnjaaGreatDoor.Lab
namespace Go.Proofs.YtlnpbfeihjfnjaaGreatDoor.Lab
open Go.RowKit Go.ChangeMaps
set_option linter.unusedVariables false
/-- A count is set. -/
def upd (c : Nat → Int) (k : Nat) (x : Int) : Nat → Int := fun i => if i = k then x else c i
theorem BookAt.nset {w : World} {b mn me k : Nat} {ns es : List (Int × Value)} {cn ce : Nat → Int} (h : BookAt w b mn me ns es cn ce) (hk : k < 8) (x : Int) : BookAt (w.setCell ⟨b, 2 + k, none⟩ (.int .i64 x)) b mn me ns es (upd cn k x) ce := by
  refine ⟨(cell_set_ne (by omega)).trans h.n0, (cell_set_ne (by omega)).trans h.e0, fun i hi => ?_, fun i hi => (cell_set_ne (by omega)).trans (h.ec i hi), fun o => by simp [h.fr o], h.nm.other (heap_setCell_ne _ _ _ _ h.ne1.symm), h.em.other (heap_setCell_ne _ _ _ _ h.ne2.symm), h.ne1, h.ne2, h.ne3⟩
  by_cases hik : i = k
  · subst hik
    simp only [upd, if_pos]
    exact World.cell?_setCell_same _ _ _ (h.nc i hi)
  · simp only [upd, if_neg hik]
    exact (cell_set_ne (by omega)).trans (h.nc i hi)
theorem BookAt.eset {w : World} {b mn me k : Nat} {ns es : List (Int × Value)} {cn ce : Nat → Int} (h : BookAt w b mn me ns es cn ce) (hk : k < 8) (x : Int) : BookAt (w.setCell ⟨b, 10 + k, none⟩ (.int .i64 x)) b mn me ns es cn (upd ce k x) := by
  refine ⟨(cell_set_ne (by omega)).trans h.n0, (cell_set_ne (by omega)).trans h.e0, fun i hi => (cell_set_ne (by omega)).trans (h.nc i hi), fun i hi => ?_, fun o => by simp [h.fr o], h.nm.other (heap_setCell_ne _ _ _ _ h.ne1.symm), h.em.other (heap_setCell_ne _ _ _ _ h.ne2.symm), h.ne1, h.ne2, h.ne3⟩
  by_cases hik : i = k
  · subst hik
    simp only [upd, if_pos]
    exact World.cell?_setCell_same _ _ _ (h.ec i hi)
  · simp only [upd, if_neg hik]
    exact (cell_set_ne (by omega)).trans (h.ec i hi)
set_option maxRecDepth 8000 in
set_option maxHeartbeats 4000000 in
theorem takeEdge (b mn me k : Nat) (al an bl bn : Int) (ns es : List (Int × Value)) (cn ce : Nat → Int) (w : World) (hk : k < 8) (h : BookAt w b mn me ns es cn ce) (hu : EdgeVals es) (hc0 : 0 ≤ ce k) (hc1 : ce k ≤ 1000)
    (t3 : TypeId) (v3 : Value) (g3 : w.cell? ⟨2, 0, none⟩ = some (.iface t3 v3)) :
    Calls Tryz.prog 186 #[.pointer (some ⟨b, 0, none⟩), .agg #[.int .i64 k, .int .i64 al, .int .i64 an, .int .i64 bl, .int .i64 bn]] w fun e w' =>
      ((lkp es (ecodeI k al an bl bn)).isSome = true ∧ e = .returned .nilIface ∧ BookAt w' b mn me ns (butK (ecodeI k al an bl bn) es) cn (upd ce k (ce k - 1)) ∧ Two b me w w')
      ∨ (lkp es (ecodeI k al an bl bn) = none ∧ e = .returned (.iface t3 v3) ∧ Below w.heap.size w w') := by
  have hl := cell_lt h.n0
  have hme := h.em.lt
  have bb : Below w.heap.size w (w.alloc (Obj.cells #[Value.int IntKind.i64 ↑k, Value.int IntKind.i64 al, Value.int IntKind.i64 an, Value.int IntKind.i64 bl, Value.int IntKind.i64 bn] 48)) := (Below.refl _ _).alloc (Nat.le_refl _) _
  have l3 := cell_lt g3
  go_enter Tryz.func186, Tryz.ntmps186
  go_wp2_with fail
  refine (hasEdge b me k al an bl bn es _ (h.keep bb).e0 (by simp; omega) (h.keep bb).em hu).mono ?_
  rintro e w3 ⟨rfl, bel⟩
  have B1 : Below w.heap.size w w3 := bb.trans (bel.mono (by simp))
  have s1 : w.heap.size < w3.heap.size := by have := bel.size; simp at this; omega
  have a0 : w3.cell? ⟨w.heap.size, 0, none⟩ = some (.int .i64 k) := by rw [Below.celz bel _ _ _ (by simp)]; simp [go_sem]
  have a1 : w3.cell? ⟨w.heap.size, 1, none⟩ = some (.int .i64 al) := by rw [Below.celz bel _ _ _ (by simp)]; simp [go_sem]
  have a2 : w3.cell? ⟨w.heap.size, 2, none⟩ = some (.int .i64 an) := by rw [Below.celz bel _ _ _ (by simp)]; simp [go_sem]
  have a3 : w3.cell? ⟨w.heap.size, 3, none⟩ = some (.int .i64 bl) := by rw [Below.celz bel _ _ _ (by simp)]; simp [go_sem]
  have a4 : w3.cell? ⟨w.heap.size, 4, none⟩ = some (.int .i64 bn) := by rw [Below.celz bel _ _ _ (by simp)]; simp [go_sem]
  have H1 : Hid (BookAt w3 b mn me ns es cn ce) := h.keep B1
  have p1 := H1.out.e0
  have nb := H1.out.ne2
  have e3 : w3.cell? ⟨2, 0, none⟩ = some (.iface t3 v3) := (Below.celz B1 _ _ _ l3).trans g3
  have HB1 : Hid (Below w.heap.size w w3) := B1
  have i0 : (0 : Int) ≤ k := by omega
  have i1 : (k : Int) < 8 := by omega
  clear bel bb g3 h B1
  cases hn : lkp es (ecodeI k al an bl bn) with
  | none =>
    have HN : Hid (lkp es (ecodeI k al an bl bn) = none) := hn
    clear hn
    simp only [Option.isSome_none]
    go_wp2_with fail
    go_ret
    exact .inr ⟨HN.out, rfl, HB1.out⟩
  | some v =>
    have HN : Hid (lkp es (ecodeI k al an bl bn) = some v) := hn
    clear hn
    simp only [Option.isSome_some]
    go_wp2_with fail
    have hS : Hid (∀ w' : World, (∀ o s, w'.cell? ⟨b, o, s⟩ = w3.cell? ⟨b, o, s⟩) → (∀ o s, w'.cell? ⟨w.heap.size, o, s⟩ = w3.cell? ⟨w.heap.size, o, s⟩) → w'.cell? ⟨b, 1, none⟩ = some (.map (some me)) ∧ w'.cell? ⟨w.heap.size, 0, none⟩ = some (.int .i64 k) ∧ w'.cell? ⟨w.heap.size, 1, none⟩ = some (.int .i64 al) ∧ w'.cell? ⟨w.heap.size, 2, none⟩ = some (.int .i64 an) ∧ w'.cell? ⟨w.heap.size, 3, none⟩ = some (.int .i64 bl) ∧ w'.cell? ⟨w.heap.size, 4, none⟩ = some (.int .i64 bn)) :=
      fun w' x y => ⟨(x _ _).trans p1, (y _ _).trans a0, (y _ _).trans a1, (y _ _).trans a2, (y _ _).trans a3, (y _ _).trans a4⟩
    go_region_held3 (fun w' => w'.cell? ⟨b, 1, none⟩ = some (.map (some me)) ∧ w'.cell? ⟨w.heap.size, 0, none⟩ = some (.int .i64 k) ∧ w'.cell? ⟨w.heap.size, 1, none⟩ = some (.int .i64 al) ∧ w'.cell? ⟨w.heap.size, 2, none⟩ = some (.int .i64 an) ∧ w'.cell? ⟨w.heap.size, 3, none⟩ = some (.int .i64 bl) ∧ w'.cell? ⟨w.heap.size, 4, none⟩ = some (.int .i64 bn))
      (first | exact ⟨p1, a0, a1, a2, a3, a4⟩ | assumption | with_reducible exact hS.out _ (fun _ _ => Below.celz B3 _ _ _ (by omega)) (fun _ _ => Below.celz B3 _ _ _ (by omega)) | with_reducible exact hS.out _ (fun _ _ => (T4.cell _ _ _ (by omega) (by assumption)).trans (Below.celz B3 _ _ _ (by omega))) (fun _ _ => (T4.cell _ _ _ (by omega) (by omega)).trans (Below.celz B3 _ _ _ (by omega))))
      (first | (go_at_call_of 87 (Value.agg #[.int .i64 k, .int .i64 al, .int .i64 an, .int .i64 bl, .int .i64 bn]); refine (impl_edgeCode k al an bl bn _).mono ?_; rintro e wx ⟨rfl, be1⟩; have B3 : Below w3.heap.size w3 wx := keep_below (Below.refl _ _).drew be1; have s3 := B3.size; obtain ⟨w4, q1, q2, q3, q4⟩ := ((H1.out.keep B3).em).drop (t2 := 3) und_me und_int (ecodeI k al an bl bn); have T4 := One.ofGrown q3))
    all_goals (
      rename_i hHeld
      have H4 := (H1.out.keep B3).eput q2 T4
      have c4 := H4.ec k hk
      have f4 := H4.fr (10 + k)
      have b4 := hHeld.2.1
      have U := Two.put (o := 10 + k) (u := .int .i64 (ce k - 1)) (keep_below HB1.out B3) T4 hl
      have V := H4.eset hk (ce k - 1)
      have HH : Hid (BookAt (w4.setCell ⟨b, 10 + k, none⟩ (.int .i64 (ce k - 1))).drew b mn me ns (butK (ecodeI k al an bl bn) es) cn (upd ce k (ce k - 1)) ∧ Two b me w (w4.setCell ⟨b, 10 + k, none⟩ (.int .i64 (ce k - 1))).drew) := ⟨V.drew, U⟩
      clear H4 U V q2 q3 q4 T4 be1 B3 hHeld q1 hS a1 a2 a3 a4 p1
      go_wp2_with fail
      go_region
      go_wp2_with fail
      go_ret
      exact .inl ⟨by rw [HN.out]; rfl, rfl, HH.out.1, HH.out.2⟩)
end Go.Proofs.YtlnpbfeihjfnjaaGreatDoor.Lab
namespace Go.Proofs.YtlnpbfeihjfnjaaGreatDoor.Lab
open Go.RowKit Go.ChangeMaps
set_option linter.unusedVariables false
theorem eco_inj {x y : Ed} (hx : edB x = true) (h : eco x = eco y) : x = y := by
  have hy : edB y = true := by
    cases hb : edB y
    · have h1 := eco_nat hx
      have : eco y = -1 := by unfold edB at hb; simp [eco, ecodeI, hb]
      omega
    · rfl
  rw [eco_eq hx, eco_eq hy] at h
  have a3 := cod_ok' (x := (x.2.1, x.2.2.1)) (edB_parts hx).1
  have a4 := cod_ok' (x := (x.2.2.2.1, x.2.2.2.2)) (edB_parts hx).2
  have b3 := cod_ok' (x := (y.2.1, y.2.2.1)) (edB_parts hy).1
  have b4 := cod_ok' (x := (y.2.2.2.1, y.2.2.2.2)) (edB_parts hy).2
  have a1 := codeI_bd x.2.1 x.2.2.1
  have a2 := codeI_bd x.2.2.2.1 x.2.2.2.2
  have b1 := codeI_bd y.2.1 y.2.2.1
  have b2 := codeI_bd y.2.2.2.1 y.2.2.2.2
  have hA : cod (x.2.1, x.2.2.1) = cod (y.2.1, y.2.2.1) := by simp only [cod] at *; omega
  have hB : cod (x.2.2.2.1, x.2.2.2.2) = cod (y.2.2.2.1, y.2.2.2.2) := by simp only [cod] at *; omega
  have e1 := Prod.mk.inj (cod_inj (x := (x.2.1, x.2.2.1)) (edB_parts hx).1 hA)
  have e2 := Prod.mk.inj (cod_inj (x := (x.2.2.2.1, x.2.2.2.2)) (edB_parts hx).2 hB)
  have e0 : x.1 = y.1 := by simp only [cod] at *; omega
  obtain ⟨x1, x2, x3, x4, x5⟩ := x
  obtain ⟨y1, y2, y3, y4, y5⟩ := y
  simp_all
theorem butK_edges (x : Ed) (xs : List Ed) : butK (eco x) (eEnts xs) = eEnts (xs.filter (fun y => !(eco y == eco x))) := by
  unfold butK eEnts
  rw [List.filter_map]
  rfl
theorem BookAt.ofBlk {w w' : World} {b mn me : Nat} {ns es : List (Int × Value)} {cn ce : Nat → Int} (h : BookAt w b mn me ns es cn ce) (h1 : w'.heap[b]? = w.heap[b]?) (h2 : w'.heap[mn]? = w.heap[mn]?) (h3 : w'.heap[me]? = w.heap[me]?) : BookAt w' b mn me ns es cn ce :=
  ⟨(cell_of_blk h1).trans h.n0, (cell_of_blk h1).trans h.e0, fun i hi => (cell_of_blk h1).trans (h.nc i hi), fun i hi => (cell_of_blk h1).trans (h.ec i hi), fun o => (froz_of_blk h1).trans (h.fr o), h.nm.other h2, h.em.other h3, h.ne1, h.ne2, h.ne3⟩
/-- Edges gone through in whatever order, those at the node taken out. -/
structure TakeInv (n : Nd) (es : List Ed) (L : List (Int × Value)) (xs : List Ed) (cf : Nat → Int) : Prop where
  sub : ∀ x ∈ xs, x ∈ es
  got : ∀ x ∈ es, otherI x n = none → x ∈ xs
  left : ∀ x ∈ xs, otherI x n = none ∨ (eco x, eVal x) ∈ L
  nd : (xs.map eco).Nodup
  len : xs.length ≤ 56
  cnt : ∀ i, i < 8 → (L.length : Int) ≤ cf i + 100000 ∧ cf i ≤ 1000
theorem TakeInv.pass {n : Nd} {es xs : List Ed} {L1 L2 : List (Int × Value)} {x : Ed} {cf : Nat → Int} (h : TakeInv n es (L1 ++ (eco x, eVal x) :: L2) xs cf) (ho : otherI x n = none) : TakeInv n es (L1 ++ L2) xs cf := by
  refine ⟨h.sub, h.got, fun y hy => ?_, h.nd, h.len, fun i hi => by have := h.cnt i hi; simp at this ⊢; omega⟩
  rcases h.left y hy with hm | hm
  · exact .inl hm
  · rcases List.mem_append.1 hm with hm | hm
    · exact .inr (List.mem_append.2 (.inl hm))
    · rcases List.mem_cons.1 hm with e | hm
      · have : y = x := eVal_inj (by simp at e; exact e.2)
        subst this
        exact .inl ho
      · exact .inr (List.mem_append.2 (.inr hm))
theorem TakeInv.take {n : Nd} {es xs : List Ed} {L1 L2 : List (Int × Value)} {x : Ed} {cf : Nat → Int} {k : Nat} (h : TakeInv n es (L1 ++ (eco x, eVal x) :: L2) xs cf) (hes : ∀ y ∈ es, edB y = true) (ho : ¬ otherI x n = none) :
    TakeInv n es (butK (eco x) (L1 ++ L2)) (xs.filter (fun y => !(eco y == eco x))) (upd cf k (cf k - 1)) := by
  have hlen : (butK (eco x) (L1 ++ L2)).length ≤ (L1 ++ L2).length := List.length_filter_le _ _
  refine ⟨fun y hy => h.sub y (List.mem_filter.1 hy).1, fun y hy hn => List.mem_filter.2 ⟨h.got y hy hn, ?_⟩, fun y hy => ?_, List.Nodup.sublist (List.Sublist.map _ List.filter_sublist) h.nd, Nat.le_trans (List.length_filter_le _ _) h.len, fun i hi => ?_⟩
  · have : ¬ eco y = eco x := fun e => by have := eco_inj (hes y hy) e; subst this; exact ho hn
    simpa using this
  · obtain ⟨hy1, hy2⟩ := List.mem_filter.1 hy
    have hne : ¬ eco y = eco x := by simpa using hy2
    rcases h.left y hy1 with hm | hm
    · exact .inl hm
    · refine .inr (List.mem_filter.2 ⟨?_, by simpa using hne⟩)
      rcases List.mem_append.1 hm with hm | hm
      · exact List.mem_append.2 (.inl hm)
      · rcases List.mem_cons.1 hm with e | hm
        · have : y = x := eVal_inj (by simp at e; exact e.2)
          subst this
          exact absurd rfl hne
        · exact List.mem_append.2 (.inr hm)
  · have := h.cnt i hi
    simp only [List.length_append, List.length_cons] at this hlen
    unfold upd
    split
    · rename_i e; subst e; omega
    · omega
/-- What is left in the book behind a node taken out. -/
def Taken (w : World) (b mn me : Nat) (c : Int) (n : Nd) (ns : List (Int × Value)) (es : List Ed) : Prop :=
  ∃ (xs : List Ed) (cn ce : Nat → Int), (∀ x, x ∈ xs ↔ x ∈ es ∧ otherI x n = none) ∧ (xs.map eco).Nodup ∧ xs.length ≤ 56 ∧ BookAt w b mn me (butK c ns) (eEnts xs) cn ce
set_option maxRecDepth 8000 in
set_option maxHeartbeats 8000000 in
theorem takeNode (b mn me k : Nat) (nn : Int) (ns : List (Int × Value)) (es : List Ed) (cn ce : Nat → Int) (w : World) (hk : k < 8) (h : BookAt w b mn me ns (eEnts es) cn ce) (hv : NodeVals ns) (he : ∀ x ∈ es, edB x = true) (hnd : (es.map eco).Nodup) (hl : es.length ≤ 56)
    (hce : ∀ i, i < 8 → 0 ≤ ce i ∧ ce i ≤ 1000) (hc0 : 0 ≤ cn k) (hc1 : cn k ≤ 1000) (t3 : TypeId) (v3 : Value) (g3 : w.cell? ⟨2, 0, none⟩ = some (.iface t3 v3))
    (B0 : Nat) (w00 : World) (hB : Below B0 w00 w) (hb0 : B0 ≤ b) (hmn0 : B0 ≤ mn) (hme0 : B0 ≤ me) :
    Calls Tryz.prog 180 #[.pointer (some ⟨b, 0, none⟩), .agg #[.int .i64 k, .int .i64 nn]] w fun e w' =>
      ((lkp ns (codeI k nn)).isSome = true ∧ e = .returned .nilIface ∧ Taken w' b mn me (codeI k nn) (k, nn) ns es ∧ Below B0 w00 w')
      ∨ (lkp ns (codeI k nn) = none ∧ e = .returned (.iface t3 v3) ∧ Below w.heap.size w w') := by
  have hbl := cell_lt h.n0
  have hml := h.em.lt
  have hnl := h.nm.lt
  have HEB : Hid (∀ x ∈ es, edB x = true) := he
  have HND : Hid ((es.map eco).Nodup ∧ es.length ≤ 56 ∧ ∀ i, i < 8 → 0 ≤ ce i ∧ ce i ≤ 1000) := ⟨hnd, hl, hce⟩
  have bb : Below w.heap.size w (w.alloc (Obj.cells #[Value.int IntKind.i64 ↑k, Value.int IntKind.i64 nn] 46)) := (Below.refl _ _).alloc (Nat.le_refl _) _
  have l3 := cell_lt g3
  have hne1 := h.ne1
  have hne2 := h.ne2
  have hne3 := h.ne3
  have HB00 : Hid (Below B0 w00 w ∧ B0 ≤ b ∧ B0 ≤ mn ∧ B0 ≤ me) := ⟨hB, hb0, hmn0, hme0⟩
  clear hB he hnd hl hce
  go_enter Tryz.func180, Tryz.ntmps180
  go_wp2_with fail
  refine (hasNode b mn k nn ns _ (h.keep bb).n0 (by simp; omega) (h.keep bb).nm hv).mono ?_
  rintro e W1 ⟨rfl, bel⟩
  have B1 : Below w.heap.size w W1 := bb.trans (bel.mono (by simp))
  have s1 : w.heap.size < W1.heap.size := by have := bel.size; simp at this; omega
  have c0 : W1.cell? ⟨w.heap.size, 0, none⟩ = some (.int .i64 k) := by rw [Below.celz bel _ _ _ (by simp)]; simp [go_sem]
  have c1 : W1.cell? ⟨w.heap.size, 1, none⟩ = some (.int .i64 nn) := by rw [Below.celz bel _ _ _ (by simp)]; simp [go_sem]
  have H1 : Hid (BookAt W1 b mn me ns (eEnts es) cn ce) := h.keep B1
  have p1 := H1.out.e0
  have e3 : W1.cell? ⟨2, 0, none⟩ = some (.iface t3 v3) := (Below.celz B1 _ _ _ l3).trans g3
  have HB1 : Hid (Below w.heap.size w W1) := B1
  have i0 : (0 : Int) ≤ k := by omega
  have i1 : (k : Int) < 8 := by omega
  clear bel bb g3 h B1
  cases hn : lkp ns (codeI k nn) with
  | none =>
    have HN : Hid (lkp ns (codeI k nn) = none) := hn
    clear hn
    simp only [Option.isSome_none]
    go_wp2_with fail
    go_ret
    exact .inr ⟨HN.out, rfl, HB1.out⟩
  | some v =>
    have HN : Hid (lkp ns (codeI k nn) = some v) := hn
    clear hn
    simp only [Option.isSome_some]
    have C0 : Hid (W1.cell? ⟨w.heap.size, 0, none⟩ = some (.int .i64 k) ∧ W1.cell? ⟨w.heap.size, 1, none⟩ = some (.int .i64 nn)) := ⟨c0, c1⟩
    have HME : Hid (MapAt W1 me (eEnts es)) := H1.out.em
    clear c0 c1 e3
    go_wp2_with (at_range; refine wpList_rangeM _ rfl _ 132 rfl 3 48 und_me me (eEnts es) rfl HME.out ?_; intro w0 hrg0 hs0 hb0x)
    go_frame
    have HA : Hid (Below W1.heap.size W1 w0) := hb0x _ _ (Below.refl _ _) (Nat.le_refl _)
    obtain ⟨R, hR⟩ : ∃ R, R = W1.heap.size := ⟨_, rfl⟩
    rw [← hR] at hrg0 ⊢
    have HRG0 : Hid (RangeAt w0 R me (eEnts es) (eEnts es)) := hrg0
    have HBK0 : Hid (BookAt w0 b mn me ns (eEnts es) cn ce) := H1.out.keep HA.out
    have HST : Hid (TakeInv (k, nn) es (eEnts es) es ce) := ⟨fun x hx => hx, fun x hx _ => hx, fun x hx => .inr (List.mem_map.2 ⟨x, hx, rfl⟩), HND.out.1, HND.out.2.1, fun i hi => by have := HND.out.2.2 i hi; have := HND.out.2.1; simp [eEnts]; omega⟩
    have rr0 : w.heap.size < R := by omega
    have rr1 : b < R := by omega
    have rr2 : mn < R := by omega
    have rr3 : me < R := by omega
    have hz0 : R < w0.heap.size := by omega
    have HRR : Hid (R = W1.heap.size) := hR
    have HBE : Hid (Below B0 w00 w0 ∧ w0.cell? ⟨w.heap.size, 0, none⟩ = some (.int .i64 k) ∧ w0.cell? ⟨w.heap.size, 1, none⟩ = some (.int .i64 nn)) := by
      refine ⟨?_, (Below.celz HA.out _ _ _ (by omega)).trans C0.out.1, (Below.celz HA.out _ _ _ (by omega)).trans C0.out.2⟩
      have q1 : Below B0 w00 W1 := HB00.out.1.trans (HB1.out.mono (by omega))
      exact q1.trans (HA.out.mono (by omega))
    clear hrg0 hb0x p1 hs0 hR
    go_loopw [20] (fun _ wr => ∃ (L : List (Int × Value)) (xs : List Ed) (cf : Nat → Int), RangeAt wr R me (eEnts xs) L ∧ BookAt wr b mn me ns (eEnts xs) cn cf ∧ TakeInv (k, nn) es L xs cf ∧ (Below B0 w00 wr ∧ wr.cell? ⟨w.heap.size, 0, none⟩ = some (.int .i64 k) ∧ wr.cell? ⟨w.heap.size, 1, none⟩ = some (.int .i64 nn)) ∧ R < wr.heap.size) (fun _ wr => wr.rangeLeft me R)
    case atStart => exact ⟨eEnts es, es, ce, HRG0.out, HBK0.out, HST.out, HBE.out, hz0⟩
    case round =>
      clear HA HBK0 HRG0 HST HBE hz0
      obtain ⟨L, xs, cf, hrg, hbk, hinv, hcc, hsz⟩ := hrel
      have HI : Hid (TakeInv (k, nn) es L xs cf) := hinv
      have HB : Hid (BookAt wr b mn me ns (eEnts xs) cn cf) := hbk
      have HC : Hid (Below B0 w00 wr ∧ wr.cell? ⟨w.heap.size, 0, none⟩ = some (.int .i64 k) ∧ wr.cell? ⟨w.heap.size, 1, none⟩ = some (.int .i64 nn)) := hcc
      have hLL := hrg.left
      have HRG : Hid (RangeAt wr R me (eEnts xs) L) := hrg
      clear hinv hbk hrg hcc
      go_wp2_with (at_next; refine wpList_nextM _ rfl _ rfl R me (eEnts xs) L rfl HRG.out ?_ ?_)
      · intro hL
        subst hL
        have HXS : Hid ((∀ x, x ∈ xs ↔ x ∈ es ∧ otherI x (k, nn) = none) ∧ (xs.map eco).Nodup ∧ xs.length ≤ 56) := ⟨fun x => ⟨fun hx => ⟨HI.out.sub x hx, by rcases HI.out.left x hx with h | h; exact h; simp at h⟩, fun hx => HI.out.got x hx.1 hx.2⟩, HI.out.nd, HI.out.len⟩
        have p0 := HB.out.n0
        have a0 := HC.out.2.1
        have a1 := HC.out.2.2
        have z1 : w.heap.size < wr.heap.size := by omega
        have z2 : b < wr.heap.size := by omega
        have z3 : mn < wr.heap.size := by omega
        have z4 : ¬ w.heap.size = mn := by omega
        clear hLL
        go_wp2_with fail
        have hS : Hid (∀ w' : World, (∀ o s, w'.cell? ⟨b, o, s⟩ = wr.cell? ⟨b, o, s⟩) → (∀ o s, w'.cell? ⟨w.heap.size, o, s⟩ = wr.cell? ⟨w.heap.size, o, s⟩) → w'.cell? ⟨b, 0, none⟩ = some (.map (some mn)) ∧ w'.cell? ⟨w.heap.size, 0, none⟩ = some (.int .i64 k) ∧ w'.cell? ⟨w.heap.size, 1, none⟩ = some (.int .i64 nn)) :=
          fun w' x y => ⟨(x _ _).trans p0, (y _ _).trans a0, (y _ _).trans a1⟩
        go_region_held3 (fun w' => w'.cell? ⟨b, 0, none⟩ = some (.map (some mn)) ∧ w'.cell? ⟨w.heap.size, 0, none⟩ = some (.int .i64 k) ∧ w'.cell? ⟨w.heap.size, 1, none⟩ = some (.int .i64 nn))
          (first | exact ⟨p0, a0, a1⟩ | assumption | with_reducible exact hS.out _ (fun _ _ => Below.celz B3 _ _ _ (by omega)) (fun _ _ => Below.celz B3 _ _ _ (by omega)) | with_reducible exact hS.out _ (fun _ _ => (T4.cell _ _ _ (by omega) (by assumption)).trans (Below.celz B3 _ _ _ (by omega))) (fun _ _ => (T4.cell _ _ _ (by omega) (by omega)).trans (Below.celz B3 _ _ _ (by omega))))
          (first | (go_at_call_of 85 (Value.agg #[.int .i64 k, .int .i64 nn]); refine (impl_NodeCode k nn _).mono ?_; rintro e wx ⟨rfl, be1⟩; have B3 : Below wr.heap.size wr wx := keep_below (Below.refl _ _).drew be1; have s3 := B3.size; obtain ⟨w4, q1, q2, q3, q4⟩ := ((HB.out.keep B3).nm).drop (t2 := 3) und_mn und_int (codeI k nn); have T4 := One.ofGrown q3))
        all_goals (
          rename_i hHeld
          have H4 := (HB.out.keep B3).nput q2 T4
          have c4 := H4.nc k hk
          have f4 := H4.fr (2 + k)
          have b4 := hHeld.2.1
          have V := H4.nset hk (cn k - 1)
          have U : Below B0 w00 (w4.setCell ⟨b, 2 + k, none⟩ (.int .i64 (cn k - 1))).drew := ((T4.bel B0 w00 (HC.out.1.trans (B3.mono (by have := HB00.out.2.1; omega))) HB00.out.2.2.1 (by have := HB00.out.2.1; omega)).setCell HB00.out.2.1 _).drew
          have HH : Hid (Taken (w4.setCell ⟨b, 2 + k, none⟩ (.int .i64 (cn k - 1))).drew b mn me (codeI k nn) (k, nn) ns es ∧ Below B0 w00 (w4.setCell ⟨b, 2 + k, none⟩ (.int .i64 (cn k - 1))).drew) := ⟨⟨xs, _, _, HXS.out.1, HXS.out.2.1, HXS.out.2.2, V.drew⟩, U⟩
          clear H4 U V q2 q3 q4 T4 be1 B3 hHeld q1 hS p0 a0 a1
          go_wp2_with fail
          go_region
          go_wp2_with fail
          go_ret
          exact .inl ⟨by rw [HN.out]; rfl, rfl, HH.out⟩)
      · intro L1 p1 p2 L2 w1 hL hrg1 hg1 hs1 hp hen
        obtain ⟨⟨l, al, an, bl, bn⟩, hx, hpe⟩ := List.mem_map.1 hp
        obtain ⟨rfl, rfl⟩ := Prod.mk.inj hpe
        clear hpe
        have hen1 := hen w1 rfl rfl
        simp only [eVal] at hen1
        have hw1 : ∀ j, j < wr.heap.size → j ≠ R → w1.heap[j]? = wr.heap[j]? := fun j hj hne => hg1.block _ hj (fun e => hne (Option.some.inj e))
        have hxe := HEB.out _ (HI.out.sub _ hx)
        obtain ⟨kl, rfl, hkl⟩ : ∃ kl : Nat, l = (kl : Int) ∧ kl < 8 := by
          have := okB_true (edB_ok hxe)
          exact ⟨l.toNat, by simp only at this; omega, by simp only at this; omega⟩
        have a0 : w1.cell? ⟨w.heap.size, 0, none⟩ = some (.int .i64 k) := by rw [cell_of_blk (hw1 _ (by omega) (by omega))]; exact HC.out.2.1
        have a1 : w1.cell? ⟨w.heap.size, 1, none⟩ = some (.int .i64 nn) := by rw [cell_of_blk (hw1 _ (by omega) (by omega))]; exact HC.out.2.2
        have HK1 : Hid (BookAt w1 b mn me ns (eEnts xs) cn cf) := HB.out.ofBlk (hw1 _ (by omega) (by omega)) (hw1 _ (by omega) (by omega)) (hw1 _ (by omega) (by omega))
        have HRG1 : Hid (RangeAt w1 R me (eEnts xs) (L1 ++ L2)) := hrg1
        have HD1 : Hid (Below B0 w00 w1) := HC.out.1.grown hg1 (by have := HB00.out.2.1; omega) (fun g hg => by cases hg; have := HB00.out.2.1; omega)
        have HX : Hid ((↑kl, al, an, bl, bn) ∈ xs) := hx
        have HLL : Hid (L = L1 ++ (eco (↑kl, al, an, bl, bn), eVal (↑kl, al, an, bl, bn)) :: L2) := hL
        have zz : R < w1.heap.size := by omega
        have zz1 : w.heap.size < w1.heap.size := by omega
        have zz2 : b < w1.heap.size := by omega
        have j0 : (0 : Int) ≤ (kl : Int) := by omega
        have j1 : (kl : Int) < 8 := by omega
        clear hen hw1 hrg1 hg1 hp hx hL hs1 hxe
        go_wp2_with fail
        refine (otherEnd kl al an bl bn k nn _).mono ?_
        rintro e w2 ⟨rfl, b2⟩
        have b12 : Below w1.heap.size w1 w2 := ((Below.refl _ _).alloc (Nat.le_refl _) _).trans (b2.mono (by simp))
        have s2 : w1.heap.size < w2.heap.size := by have := b2.size; simp at this; omega
        have x0 : w2.cell? ⟨w1.heap.size, 0, none⟩ = some (.int .i64 kl) := by rw [Below.celz b2 _ _ _ (by simp)]; simp [go_sem]
        have HK2 : Hid (BookAt w2 b mn me ns (eEnts xs) cn cf) := HK1.out.keep b12
        have HRG2 : Hid (RangeAt w2 R me (eEnts xs) (L1 ++ L2)) := HRG1.out.of (b12.block _ (by omega)) (b12.block _ (by omega))
        have HD2 : Hid (Below B0 w00 w2) := HD1.out.trans (b12.mono (by have := HB00.out.2.1; omega))
        have HA2 : Hid (w2.cell? ⟨w.heap.size, 0, none⟩ = some (.int .i64 k) ∧ w2.cell? ⟨w.heap.size, 1, none⟩ = some (.int .i64 nn)) := ⟨(Below.celz b12 _ _ _ (by omega)).trans a0, (Below.celz b12 _ _ _ (by omega)).trans a1⟩
        clear b2 b12 HK1 HRG1 hen1 a0 a1 HD1
        cases ho : otherI (↑kl, al, an, bl, bn) (k, nn) with
        | none =>
          have HI2 : Hid (TakeInv (k, nn) es (L1 ++ L2) xs cf) := by have h0 := HI.out; rw [HLL.out] at h0; exact h0.pass ho
          simp only [othV, Option.getD_none, Option.isSome_none]
          go_wp2_with fail
          go_roundw
          case rel =>
            have bb : ∀ o, Below w2.heap.size w2 (w2.alloc o) := fun o => (Below.refl _ _).alloc (Nat.le_refl _) _
            exact ⟨L1 ++ L2, xs, cf, HRG2.out.of ((bb _).block _ (by omega)) ((bb _).block _ (by omega)), HK2.out.keep (bb _), HI2.out, ⟨HD2.out.trans ((bb _).mono (by have := HB00.out.2.1; omega)), (Below.celz (bb _) _ _ _ (by omega)).trans HA2.out.1, (Below.celz (bb _) _ _ _ (by omega)).trans HA2.out.2⟩, by simp; omega⟩
          case measure =>
            have bb : ∀ o, Below w2.heap.size w2 (w2.alloc o) := fun o => (Below.refl _ _).alloc (Nat.le_refl _) _
            rw [(HRG2.out.of ((bb _).block _ (by omega)) ((bb _).block _ (by omega))).left, hLL, HLL.out]
            simp
        | some o =>
          obtain ⟨o0, o1⟩ := o
          have HI2 : Hid (TakeInv (k, nn) es (butK (eco (↑kl, al, an, bl, bn)) (L1 ++ L2)) (xs.filter (fun y => !(eco y == eco (↑kl, al, an, bl, bn)))) (upd cf kl (cf kl - 1))) := by have h0 := HI.out; rw [HLL.out] at h0; exact h0.take HEB.out (by rw [ho]; simp)
          have cb0 : -100000 ≤ cf kl := by have := (HI.out.cnt kl hkl).1; omega
          have cb1 : cf kl ≤ 1000 := (HI.out.cnt kl hkl).2
          simp only [othV, Option.getD_some, Option.isSome_some]
          clear ho
          have bb : Below w2.heap.size w2 (w2.alloc (Obj.cells #[Value.int IntKind.i64 o0, Value.int IntKind.i64 o1] 46)) := (Below.refl _ _).alloc (Nat.le_refl _) _
          obtain ⟨w3, hw3⟩ : ∃ w3, w3 = w2.alloc (Obj.cells #[Value.int IntKind.i64 o0, Value.int IntKind.i64 o1] 46) := ⟨_, rfl⟩
          rw [← hw3] at bb
          have HK3 : Hid (BookAt w3 b mn me ns (eEnts xs) cn cf) := HK2.out.keep bb
          have HRG3 : Hid (RangeAt w3 R me (eEnts xs) (L1 ++ L2)) := HRG2.out.of (bb.block _ (by omega)) (bb.block _ (by omega))
          have HD3 : Hid (Below B0 w00 w3) := HD2.out.trans (bb.mono (by have := HB00.out.2.1; omega))
          have HA3 : Hid (w3.cell? ⟨w.heap.size, 0, none⟩ = some (.int .i64 k) ∧ w3.cell? ⟨w.heap.size, 1, none⟩ = some (.int .i64 nn)) := ⟨(Below.celz bb _ _ _ (by omega)).trans HA2.out.1, (Below.celz bb _ _ _ (by omega)).trans HA2.out.2⟩
          have x3 : w3.cell? ⟨w1.heap.size, 0, none⟩ = some (.int .i64 kl) := (Below.celz bb _ _ _ (by omega)).trans x0
          have p3 := HK3.out.e0
          have s3 : w2.heap.size ≤ w3.heap.size := bb.size
          obtain ⟨w4, q1, q2, q3, q4⟩ := HRG3.out.drop (t2 := 3) und_me und_int (eco (↑kl, al, an, bl, bn))
          have hw4 : ∀ j, j < w3.heap.size → j ≠ me → w4.heap[j]? = w3.heap[j]? := fun j hj hne => q3.block _ hj (fun e => hne (Option.some.inj e))
          rw [butK_edges] at q2
          have HK4 : Hid (BookAt w4 b mn me ns (eEnts (xs.filter (fun y => !(eco y == eco (↑kl, al, an, bl, bn))))) cn cf) := HK3.out.eput q2.map (One.ofGrown q3)
          have HRG4 : Hid (RangeAt w4 R me (eEnts (xs.filter (fun y => !(eco y == eco (↑kl, al, an, bl, bn))))) (butK (eco (↑kl, al, an, bl, bn)) (L1 ++ L2))) := q2
          have HD4 : Hid (Below B0 w00 w4) := HD3.out.grown q3 (by have := HB00.out.2.1; omega) (fun g hg => by cases hg; exact HB00.out.2.2.2)
          have HA4 : Hid (w4.cell? ⟨w.heap.size, 0, none⟩ = some (.int .i64 k) ∧ w4.cell? ⟨w.heap.size, 1, none⟩ = some (.int .i64 nn)) := ⟨(cell_of_blk (hw4 _ (by omega) (by omega))).trans HA3.out.1, (cell_of_blk (hw4 _ (by omega) (by omega))).trans HA3.out.2⟩
          have x4 : w4.cell? ⟨w1.heap.size, 0, none⟩ = some (.int .i64 kl) := (cell_of_blk (hw4 _ (by omega) (by omega))).trans x3
          have c4 := HK4.out.ec kl hkl
          have f4 := HK4.out.fr (10 + kl)
          have HFIN : Hid (RangeAt ((w4.setCell ⟨b, 10 + kl, none⟩ (.int .i64 (cf kl - 1))).drew) R me (eEnts (xs.filter (fun y => !(eco y == eco (↑kl, al, an, bl, bn))))) (butK (eco (↑kl, al, an, bl, bn)) (L1 ++ L2)) ∧ BookAt ((w4.setCell ⟨b, 10 + kl, none⟩ (.int .i64 (cf kl - 1))).drew) b mn me ns (eEnts (xs.filter (fun y => !(eco y == eco (↑kl, al, an, bl, bn))))) cn (upd cf kl (cf kl - 1)) ∧ (Below B0 w00 ((w4.setCell ⟨b, 10 + kl, none⟩ (.int .i64 (cf kl - 1))).drew) ∧ ((w4.setCell ⟨b, 10 + kl, none⟩ (.int .i64 (cf kl - 1))).drew).cell? ⟨w.heap.size, 0, none⟩ = some (.int .i64 k) ∧ ((w4.setCell ⟨b, 10 + kl, none⟩ (.int .i64 (cf kl - 1))).drew).cell? ⟨w.heap.size, 1, none⟩ = some (.int .i64 nn)) ∧ R < ((w4.setCell ⟨b, 10 + kl, none⟩ (.int .i64 (cf kl - 1))).drew).heap.size) := by
            have hh : ∀ j, j ≠ b → ((w4.setCell ⟨b, 10 + kl, none⟩ (.int .i64 (cf kl - 1))).drew).heap[j]? = w4.heap[j]? := fun j hj => heap_setCell_ne _ _ _ _ hj
            exact ⟨HRG4.out.of (hh _ (by omega)) (hh _ (by omega)), (HK4.out.eset hkl _).drew, ⟨(HD4.out.setCell HB00.out.2.1 _).drew, (cell_of_blk (hh _ (by omega))).trans HA4.out.1, (cell_of_blk (hh _ (by omega))).trans HA4.out.2⟩, by show R < (w4.setCell ⟨b, 10 + kl, none⟩ (.int .i64 (cf kl - 1))).heap.size; simp; omega⟩
          have q1' : ∀ ty : TypeId, (Builtin.delete_ #[132, 3] ty #[.map (some me), .int .i64 (eco (↑kl, al, an, bl, bn))]).run Tryz.prog (w2.alloc (Obj.cells #[Value.int IntKind.i64 o0, Value.int IntKind.i64 o1] 46)) = .ok (.tuple #[]) w4 := by rw [← hw3]; exact q1
          rw [hw3] at p3
          clear bb HK3 HRG3 HD3 HA3 x3 q1 q2 q3 q4 hw4 HK4 HRG4 HD4 HA4 x0 HK2 HRG2 HD2 HA2 hw3
          go_wp2_with fail
          go_region
          go_wp2_with fail
          go_roundw
          case rel => exact ⟨_, _, _, HFIN.out.1, HFIN.out.2.1, HI2.out, HFIN.out.2.2⟩
          case measure =>
            rw [HFIN.out.1.left, hLL, HLL.out]
            have : (butK (eco (↑kl, al, an, bl, bn)) (L1 ++ L2)).length ≤ (L1 ++ L2).length := List.length_filter_le _ _
            simp at this ⊢
            omega
end Go.Proofs.YtlnpbfeihjfnjaaGreatDoor.Lab
namespace Go.Proofs.YtlnpbfeihjfnjaaGreatDoor.Lab
open Go.RowKit Go.ChangeMaps Go.Maps Go.Shelf
set_option linter.unusedVariables false
theorem eco_bd (x : Ed) : -1 ≤ eco x ∧ eco x ≤ 3000000 := by
  cases h : edB x
  · unfold edB at h; simp [eco, ecodeI, h]
  · rw [eco_eq h]
    have a1 := codeI_bd x.2.1 x.2.2.1
    have a2 := codeI_bd x.2.2.2.1 x.2.2.2.2
    have a3 := cod_ok' (x := (x.2.1, x.2.2.1)) (edB_parts h).1
    have a4 := cod_ok' (x := (x.2.2.2.1, x.2.2.2.2)) (edB_parts h).2
    have := okB_true (edB_ok h)
    simp only [cod] at *
    omega
/-- Edges in the order of their numbers. -/
def AscE (xs : List Ed) : Prop := xs.Pairwise (fun a b => eco a < eco b)
/-- A list of edges in order, by their numbers sorted. -/
theorem sorted_edges {os rs : List Ed} {ss : List Int} (hok : ∀ o ∈ os, edB o = true) (hp : ss.Perm (os.map eco)) (hnd : (os.map eco).Nodup) (hr : rs.map eco = ss.mergeSort (fun x y => decide (x ≤ y))) (hm : ∀ r ∈ rs, r ∈ os) : AscE rs ∧ ∀ z, z ∈ rs ↔ z ∈ os := by
  have hs : (ss.mergeSort (fun x y => decide (x ≤ y))).Pairwise (fun a b => (decide (a ≤ b)) = true) := List.pairwise_mergeSort (le := fun x y : Int => decide (x ≤ y)) (fun a b c h1 h2 => by simp at h1 h2 ⊢; omega) (fun a b => by simp; omega) ss
  have hpm : (ss.mergeSort (fun x y => decide (x ≤ y))).Perm (os.map eco) := (List.mergeSort_perm ss _).trans hp
  have hn : (rs.map eco).Nodup := by rw [hr]; exact hpm.nodup_iff.2 hnd
  refine ⟨?_, fun z => ⟨hm z, fun hz => ?_⟩⟩
  · rw [← hr] at hs
    have h1 : rs.Pairwise (fun a b => eco a ≤ eco b) := by
      have := List.pairwise_map.1 hs
      exact this.imp (fun h => by simpa using h)
    have h2 : rs.Pairwise (fun a b => eco a ≠ eco b) := List.pairwise_map.1 hn
    exact (h1.and h2).imp (fun h => by omega)
  · have : eco z ∈ rs.map eco := by rw [hr]; exact hpm.mem_iff.2 (List.mem_map.2 ⟨z, hz, rfl⟩)
    obtain ⟨y, hy, e⟩ := List.mem_map.1 this
    have : y = z := eco_inj (hok y (hm y hy)) e
    rw [← this]; exact hy
theorem keysE (b : Nat) (W : World) : Calls Tryz.prog 133 #[.map (some b)] W fun e w' => e = .returned (.func (.func 150) #[] #[.pointer (some ⟨W.heap.size, 0, none⟩)]) ∧ w' = W.alloc (.cells #[.map (some b)] 132) :=
  callsIn_wide.1 (AnyZI.keys_in Tryz.keysE Fence.wide 5 trivial rfl (some b) W)
theorem sortedE (b Bm : Nat) (es : List (Int × Value)) (W : World) (h : MapAt W b es) (hwf : ∀ p ∈ es, (Lit.int .i64 p.1).wf = true) (hl : es.length ≤ 1048576) (hB : Bm < W.heap.size) (hm : W.cell? ⟨Bm, 0, none⟩ = some (.map (some b))) :
    Calls Tryz.prog 58 #[.func (.func 150) #[] #[.pointer (some ⟨Bm, 0, none⟩)]] W fun e w' => ∃ (v : Value) (ss : List Int), e = .returned v ∧ ss.Perm (es.map (·.1)) ∧
      w'.ownsRow W.heap.size 3 1 v ss.length ((ss.mergeSort (fun x y => decide (x ≤ y))).map (Value.int .i64)) ∧ Below W.heap.size W w' := by
  obtain ⟨D0, hown, hperm, hsize⟩ := h.owns (P := Tryz.prog) (k := 3) und_int hwf (by unfold maxLen; omega)
  have hseq : SeqGives Fence.wide 2 Tryz.prog 150 #[.pointer (some ⟨Bm, 0, none⟩)] encZ (fun ss => ss.Perm (intKeys D0)) (Maps.size D0) W :=
    AnyZI.keys_gives (ρ := Tryz.keysE_ren) { Tryz.keysE with } Fence.wide _ trivial rfl (by omega) Bm b es.length D0 _ hB hm hown
  have cS := AnyZI.sorted_in Tryz.sortedN Fence.wide 5 trivial trivial trivial trivial rfl (by omega) (Tryz.sorts _) (enters_of Tryz.func93 (by kernel_rfl) rfl) 150 #[.pointer (some ⟨Bm, 0, none⟩)] trivial (enters_of Tryz.func150 (by kernel_rfl) rfl) _ _ (by rw [hsize]; unfold maxLen; omega) (by rw [hsize]; omega) _ hseq
  change CallsIn _ _ Tryz.prog 58 _ _ _ at cS
  exact (callsIn_wide.1 cS).mono fun e w' ⟨v, ss, h1, h2, h3, _, h5⟩ => ⟨v, ss, h1, h2.trans hperm, h3, h5⟩
/-- The node with a number. -/
def edgeOf (os : List Ed) (c : Int) : Ed := (os.find? (fun o => eco o == c)).getD (0, 0, 0, 0, 0)
theorem edgeOf_in {os : List Ed} {c : Int} (h : c ∈ os.map eco) : edgeOf os c ∈ os ∧ eco (edgeOf os c) = c := by
  obtain ⟨o, ho, e⟩ := List.mem_map.1 h
  cases hf : os.find? (fun o => eco o == c) with
  | none =>
    have := List.find?_eq_none.1 hf o ho
    simp [e] at this
  | some q =>
    have h1 := List.mem_of_find?_eq_some hf
    have h2 := List.find?_some hf
    simp only [edgeOf, hf, Option.getD_some]
    exact ⟨h1, by simpa using h2⟩
theorem lkp_edgeOf {os : List Ed} {c : Int} (hok : ∀ o ∈ os, edB o = true) (h : c ∈ os.map eco) : lkp (eEnts os) c = some (eVal (edgeOf os c)) := by
  obtain ⟨h1, h2⟩ := edgeOf_in h
  rcases lkp_map eco eVal c os with ⟨_, k2⟩ | ⟨y, k1, k2, k3⟩
  · exact absurd h2 (k2 _ h1)
  · have : y = edgeOf os c := eco_inj (hok y k1) (by rw [k2, h2])
    rw [eEnts, k3, this]
set_option maxRecDepth 8000 in
set_option maxHeartbeats 4000000 in
theorem inOrderE (b : Nat) (os : List Ed) (w : World) (h : MapAt w b (eEnts os)) (hok : ∀ o ∈ os, edB o = true) (hnd : (os.map eco).Nodup) (hl : os.length ≤ 100000) :
    Calls Tryz.prog 108 #[.map (some b)] w fun e w' => ∃ v rs, e = .returned v ∧ AscE rs ∧ (∀ z, z ∈ rs ↔ z ∈ os) ∧ rs.length = os.length ∧ w'.ownsRow w.heap.size 48 5 v rs.length (rs.flatMap encEdge) ∧ Below w.heap.size w w' := by
  obtain ⟨iN, jN, zN0, zN1, zN2⟩ := info_parts Tryz.infoEdge
  have hlt := h.lt
  have HM : Hid (MapAt w b (eEnts os)) := h
  have HOK : Hid ((∀ o ∈ os, edB o = true) ∧ (os.map eco).Nodup) := ⟨hok, hnd⟩
  have hwf : Hid (∀ p ∈ eEnts os, (Lit.int .i64 p.1).wf = true) := fun p hp => by
    obtain ⟨x, hx, rfl⟩ := List.mem_map.1 hp
    have := eco_bd x
    exact WalkArith.wf_i64 (by simp only; omega)
  clear h hok hnd
  go_enter Tryz.func108, Tryz.ntmps108
  go_wp2_with fail
  refine (keysE b _).mono ?_
  rintro e w1 ⟨rfl, hw1⟩
  have b1 : Below w.heap.size w w1 := by rw [hw1]; exact (Below.refl _ _).alloc (Nat.le_refl _) _
  have c1 : w1.cell? ⟨w.heap.size, 0, none⟩ = some (.map (some b)) := by rw [hw1]; simp [go_sem]
  have s1 : w1.heap.size = w.heap.size + 1 := by rw [hw1]; simp
  have HB1 : Hid (Below w.heap.size w w1) := b1
  have C1 : Hid (w1.cell? ⟨w.heap.size, 0, none⟩ = some (.map (some b))) := c1
  clear hw1 b1 c1
  go_wp2_with fail
  refine (sortedE b w.heap.size (eEnts os) _ (HM.out.keep HB1.out) hwf.out (by simp [eEnts]; omega) (by omega) C1.out).mono ?_
  rintro e w2 ⟨v, ss, rfl, hp, own, bel⟩
  have hlen : ss.length = os.length := by have := hp.length_eq; simpa [eEnts] using this
  have hpc : ss.Perm (os.map eco) := by
    have e1 : (eEnts os).map (·.1) = os.map eco := by simp [eEnts, List.map_map, Function.comp_def]
    rw [e1] at hp; exact hp
  obtain ⟨sl, hsl⟩ : ∃ sl, sl = ss.mergeSort (fun x y => decide (x ≤ y)) := ⟨_, rfl⟩
  rw [← hsl] at own
  have hslen : sl.length = ss.length := by rw [hsl]; exact List.length_mergeSort _
  have hslm : ∀ c ∈ sl, c ∈ os.map eco := fun c hc => hpc.mem_iff.1 (by rw [hsl] at hc; exact (List.mergeSort_perm ss _).mem_iff.1 hc)
  have HSL : Hid (∀ c ∈ sl, c ∈ os.map eco) := hslm
  obtain ⟨rs, hrs⟩ : ∃ rs, rs = sl.map (edgeOf os) := ⟨_, rfl⟩
  have hrl : rs.length = ss.length := by rw [hrs, List.length_map, hslen]
  have HRS : Hid (AscE rs ∧ (∀ z, z ∈ rs ↔ z ∈ os)) := sorted_edges HOK.out.1 hpc HOK.out.2 (by
    rw [hrs, List.map_map, ← hsl]
    have : sl.map (eco ∘ edgeOf os) = sl.map id := List.map_congr_left (fun c hc => (edgeOf_in (hslm c hc)).2)
    rw [this, List.map_id]) (fun r hr => by
    rw [hrs] at hr
    obtain ⟨c, hc, rfl⟩ := List.mem_map.1 hr
    exact (edgeOf_in (hslm c hc)).1)
  have HRG : Hid (∀ k c, sl[k]? = some c → rs[k]? = some (edgeOf os c)) := fun k c hc => by rw [hrs, List.getElem?_map, hc]; rfl
  have HW2 : Hid (Below w.heap.size w w2) := HB1.out.trans (bel.mono (by omega))
  have HM2 : Hid (MapAt w2 b (eEnts os)) := HM.out.keep HW2.out
  have s2 : w.heap.size ≤ w2.heap.size := HW2.out.size
  obtain ⟨va, vc, rfl⟩ := own_form own
  have HOW : Hid (w2.ownsRow w1.heap.size 3 1 (.slice va ss.length vc) ss.length (sl.map (Value.int .i64))) := own
  clear own hpc hsl hslm hrs bel hp
  obtain ⟨n, hn⟩ : ∃ n, n = ss.length := ⟨_, rfl⟩
  have hn5 : n ≤ 100000 := by omega
  have HN : Hid (n = ss.length) := hn
  rw [← hn]
  clear hn
  go_wp2_with fail
  go_loopw [3, 10] (fun v i wr => ∃ k : Nat, k ≤ n ∧ i = .int .i64 k ∧ Below w2.heap.size w2 wr ∧ wr.ownsRow w2.heap.size 48 5 v k ((rs.take k).flatMap encEdge)) (fun _ i _ => n - (intOf i).toNat)
  case atStart => exact ⟨0, by omega, rfl, Below.refl _ _, World.ownsRow_nil _ _ _ _⟩
  case round =>
    obtain ⟨k, hk, rfl, hbel, hown⟩ := hrel
    by_cases hlt2 : k < n
    · have hks : k < sl.length := by have := HN.out; omega
      obtain ⟨c, hc⟩ : ∃ c, sl[k]? = some c := ⟨_, List.getElem?_eq_getElem hks⟩
      have hcm := HSL.out c (List.mem_of_getElem? hc)
      obtain ⟨m0, m1, m2, m3, m4, hnode⟩ : ∃ m0 m1 m2 m3 m4, edgeOf os c = (m0, m1, m2, m3, m4) := ⟨_, _, _, _, _, rfl⟩
      have HX : Hid (rs[k]? = some (m0, m1, m2, m3, m4)) := by have := HRG.out k c hc; rw [hnode] at this; exact this
      obtain ⟨g, hva, e0⟩ : ∃ g, va = some ⟨g, 0, none⟩ ∧ wr.cell? ⟨g, k, none⟩ = some (.int .i64 c) := by
        obtain ⟨q1, ⟨q2, q3⟩ | ⟨g, cp, cur, qv, qb, qg, q4, q5, q6, q7⟩⟩ := HOW.out
        · have := HN.out; omega
        · refine ⟨g, by injection qv, ?_⟩
          rw [Below.celz hbel _ _ _ (lt_of_block qg), cell_block qg]
          have h1 := congrArg (fun l => l[k]?) q7
          simp only [List.getElem?_map, hc, Option.map_some, List.getElem?_take] at h1
          split at h1
          · simpa using h1
          · cases h1
      subst hva
      have hlook : (Instr.lookup 132 (.map (some b)) (.int .i64 c) false).run Tryz.prog wr = .ok (.agg #[.int .i64 m0, .int .i64 m1, .int .i64 m2, .int .i64 m3, .int .i64 m4]) wr := by
        rw [(HM2.out.keep hbel).get und_me und_int (zero_edge wr) c, lkp_edgeOf HOK.out.1 hcm, hnode]
        rfl
      have k0 : (0 : Int) ≤ (k : Int) := by omega
      have k1 : (k : Int) < (n : Int) := by omega
      have hsz := hbel.size
      have HB : Hid (Below w2.heap.size w2 wr) := hbel
      obtain ⟨xa, xc, rfl⟩ := own_form hown
      have lt0 := fun g hg => (hown.lt g hg).1
      have LT : Hid (∀ g, (Value.slice xa k xc).ownBlock = some g → w2.heap.size ≤ g) := lt0
      have z1 : g < wr.heap.size := by have := World.block_lt_of_cell? _ _ e0; simpa using this
      clear hc hcm hnode hbel lt0
      go_wp2_with (at_builtin; refine wpList_append_own _ rfl _ _ 24 rfl w2.heap.size 48 iN _ 5 40 Tryz.underlying24 jN zN0 zN1 zN2 rfl (by decide) _ _ _ rfl (hown.alloc _) ⟨wr.heap.size, 0, none⟩ 1 1 [.int .i64 m0, .int .i64 m1, .int .i64 m2, .int .i64 m3, .int .i64 m4] rfl rfl ?c1 ?c2 ?c3 ?c4 ?c5 ?_)
      case c1 =>
        intro j u hj
        match j, hj with
        | 0, hj => simp at hj; subst hj; simp [Addr.add]
        | 1, hj => simp at hj; subst hj; simp [Addr.add]
        | 2, hj => simp at hj; subst hj; simp [Addr.add]
        | 3, hj => simp at hj; subst hj; simp [Addr.add]
        | 4, hj => simp at hj; subst hj; simp [Addr.add]
      case c2 => intro u hu; simp at hu; rcases hu with rfl | rfl | rfl | rfl | rfl <;> rfl
      case c3 => unfold maxLen; omega
      case c4 => omega
      case c5 => simp; omega
      · intro v' w3 hown' hgrow _
        have htk : rs.take (k + 1) = rs.take k ++ [(m0, m1, m2, m3, m4)] := by rw [List.take_add_one, HX.out]; rfl
        have R : Hid (Below w2.heap.size w2 w3 ∧ w3.ownsRow w2.heap.size 48 5 v' (k + 1) ((rs.take (k + 1)).flatMap encEdge)) :=
          ⟨(HB.out.alloc (by omega) _).grown hgrow (by simp; omega) LT.out, by rw [htk]; simpa [List.flatMap_append, encEdge] using hown'⟩
        clear hown' hgrow hown htk hlook
        go_wp2_with fail
        go_roundw
        case rel => exact ⟨k + 1, by omega, by go_num, R.out⟩
        case measure => simp [intOf]; omega
    · have hkn : k = n := by omega
      have htk : rs.take k = rs := by rw [hkn, HN.out, ← hrl]; exact List.take_length
      rw [htk] at hown
      subst hkn
      go_wp2_with fail
      go_ret
      exact ⟨_, rs, rfl, HRS.out.1, HRS.out.2, by omega, by rw [hrl, ← HN.out]; exact own_mono hown s2, HW2.out.trans (hbel.mono s2)⟩
/-- A graph of rows of its own, in order, that holds these. -/
def GraphOut (w : World) (base : Nat) (v : Value) (os : List Nd) (xs : List Ed) : Prop :=
  ∃ u1 u2 rs ds, v = .agg #[u1, u2] ∧ Asc rs ∧ (∀ z, z ∈ rs ↔ z ∈ os) ∧ AscE ds ∧ (∀ z, z ∈ ds ↔ z ∈ xs) ∧ OwnGraph w base u1 u2 rs ds
set_option maxRecDepth 8000 in
set_option maxHeartbeats 8000000 in
theorem bookGraph (b mn me : Nat) (os : List Nd) (xs : List Ed) (cn ce : Nat → Int) (w : World) (h : BookAt w b mn me (nEnts os) (eEnts xs) cn ce) (ho : (∀ o ∈ os, nodeB o.1 o.2 = true) ∧ (os.map cod).Nodup ∧ os.length ≤ 100000) (hx : (∀ x ∈ xs, edB x = true) ∧ (xs.map eco).Nodup ∧ xs.length ≤ 100000) :
    Calls Tryz.prog 71 #[.pointer (some ⟨b, 0, none⟩)] w fun e w' => ∃ v, e = .returned v ∧ GraphOut w' w.heap.size v os xs ∧ Below w.heap.size w w' := by
  have hbl := cell_lt h.n0
  obtain ⟨W0, hW0⟩ : ∃ W0, W0 = w.alloc (.cells #[.slice none 0 0, .slice none 0 0] 26) := ⟨_, rfl⟩
  have b0 : Below w.heap.size w W0 := by rw [hW0]; go_grown
  have z0 : W0.heap.size = w.heap.size + 1 := by rw [hW0]; simp
  have Q0 : W0.cell? ⟨w.heap.size, 0, none⟩ = some (.slice none 0 0) := by rw [hW0]; simp [go_sem]
  have Q1 : W0.cell? ⟨w.heap.size, 1, none⟩ = some (.slice none 0 0) := by rw [hW0]; simp [go_sem]
  have QF : ∀ o, W0.frozen? ⟨w.heap.size, o, none⟩ = false := fun o => by rw [hW0]; simp [go_sem]
  have HB0 : Hid (Below w.heap.size w W0) := b0
  have HW0 : Hid (W0 = w.alloc (.cells #[.slice none 0 0, .slice none 0 0] 26)) := hW0
  have HBK : Hid (BookAt W0 b mn me (nEnts os) (eEnts xs) cn ce) := h.keep b0
  have HKW : Hid (∀ W, Below w.heap.size W0 W → BookAt W b mn me (nEnts os) (eEnts xs) cn ce) := fun W hb => h.keep (b0.trans hb)
  have HO : Hid ((∀ o ∈ os, nodeB o.1 o.2 = true) ∧ (os.map cod).Nodup ∧ os.length ≤ 100000) := ho
  have HX : Hid ((∀ x ∈ xs, edB x = true) ∧ (xs.map eco).Nodup ∧ xs.length ≤ 100000) := hx
  have z1 : w.heap.size < W0.heap.size := by omega
  have z3 : w.heap.size ≤ W0.heap.size := by omega
  have p0 := HBK.out.n0
  have p1 := HBK.out.e0
  clear h b0 hW0 z0 ho hx
  go_enter Tryz.func71, Tryz.ntmps71
  go_wp2_with fail
  rw [← HW0.out]
  clear HW0
  have hS : Hid (∀ w', Below w.heap.size W0 w' → Below w.heap.size W0 w' ∧ w'.cell? ⟨b, 0, none⟩ = some (.map (some mn)) ∧ w'.cell? ⟨b, 1, none⟩ = some (.map (some me))) := fun w' hn => ⟨hn, (Below.celz hn _ _ _ (by omega)).trans p0, (Below.celz hn _ _ _ (by omega)).trans p1⟩
  go_region_held3 (fun w' => Below w.heap.size W0 w' ∧ w'.cell? ⟨b, 0, none⟩ = some (.map (some mn)) ∧ w'.cell? ⟨b, 1, none⟩ = some (.map (some me)))
    (first | with_reducible exact hS.out _ (Below.refl _ _).drew | assumption | with_reducible exact hS.out _ (Below.mono B7 z3) | with_reducible exact hS.out _ (Below.mono B3 z3) | with_reducible exact hS.out _ (Below.setCell (Below.setCell (Below.mono B7 z3) (Nat.le_refl _) _) (Nat.le_refl _) _))
    (first
      | (go_at_call_of 107 (Value.map (some mn)); refine (inOrderN mn os _ (HKW.out _ (And.left (by assumption))).nm HO.out.1 HO.out.2.1 HO.out.2.2).mono ?_; rintro e w3 ⟨v3, rs, rfl, ha3, hm3, hl3, ho3, hb3⟩; have B3 : Below W0.heap.size W0 w3 := keep_below (Below.refl _ _).drew hb3; obtain ⟨x3, y3, rfl⟩ := own_form ho3)
      | (go_at_call_of 108 (Value.map (some me)); refine (inOrderE me xs _ (HKW.out _ (And.left (by assumption))).em HX.out.1 HX.out.2.1 HX.out.2.2).mono ?_; rintro e w7 ⟨v7, ds, rfl, ha7, hm7, hl7, ho7, hb7⟩; have B7 : Below W0.heap.size W0 w7 := keep_below B3 hb7; obtain ⟨x7, y7, rfl⟩ := own_form ho7; have q70 : w7.cell? ⟨w.heap.size, 0, none⟩ = some (.slice none 0 0) := (Below.celz B7 _ _ _ z1).trans Q0; have q71 : w7.cell? ⟨w.heap.size, 1, none⟩ = some (.slice none 0 0) := (Below.celz B7 _ _ _ z1).trans Q1; have qf7 : ∀ o, w7.frozen? ⟨w.heap.size, o, none⟩ = false := fun o => (Below.froz B7 _ _ _ z1).trans (QF o)))
  all_goals (
    have HZ : Hid (OwnGraph w7 W0.heap.size (.slice x3 rs.length y3) (.slice x7 ds.length y7) rs ds ∧ Asc rs ∧ (∀ z, z ∈ rs ↔ z ∈ os) ∧ AscE ds ∧ (∀ z, z ∈ ds ↔ z ∈ xs)) := by
      have o7 := own_mono ho7 B3.size
      refine ⟨⟨own_keep ho3 hb7, o7, fun k hk e => ?_⟩, ha3, hm3, ha7, hm7⟩
      have h1 := (ho3.lt k hk).2
      have h2 := (ho7.lt k e).1
      omega
    have HB7 : Hid (Below W0.heap.size W0 w7) := B7
    have s7 : w.heap.size < w7.heap.size := by have := B7.size; omega
    clear ho3 ho7 B3 B7 hb3 hb7 ha3 ha7 hm3 hm7
    go_wp2_with fail
    refine bodyPost_ret (v := .agg #[.slice x3 rs.length y3, .slice x7 ds.length y7]) (by simp [*, results, Tryz.results71, go_sem]) rfl ?_
    obtain ⟨⟨f1, f2, f3⟩, f4⟩ := HZ.out
    refine ⟨_, rfl, ⟨_, _, rs, ds, rfl, f4.1, f4.2.1, f4.2.2.1, f4.2.2.2, ⟨?_, ?_, f3⟩⟩, ?_⟩
    · exact own_mono (ownsRow_setCell_below (ownsRow_setCell_below f1 (by simp; omega) _) (by simp; omega) _) (by omega)
    · exact own_mono (ownsRow_setCell_below (ownsRow_setCell_below f2 (by simp; omega) _) (by simp; omega) _) (by omega)
    · exact HB0.out.trans (((HB7.out.mono (by omega)).setCell (by simp) _).setCell (by simp) _))
end Go.Proofs.YtlnpbfeihjfnjaaGreatDoor.Lab
